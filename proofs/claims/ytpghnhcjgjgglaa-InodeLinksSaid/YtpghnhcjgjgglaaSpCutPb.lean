/-
  The program's store: Cut, Drop.
-/
import Derived.Test.YtpghnhcjgjgglaaPa11
import Derived.Test.YtpghnhcjgjgglaaPa03
namespace Go.Proofs.Ytpghnhcjgjgglaa
open Go.ChangeShapes Go.WideShapes Go.ChangeAt Go.RowKit Go.Maps
set_option linter.unusedVariables false
set_option linter.unusedSimpArgs false
/-- k of the frames are given back. -/
structure Gvp (w W : World) (H A Q : Nat) (st : St) (F : List Nat) (k : Nat) (st' : St) : Prop where
  fr : Fr W H A Q st'
  tch : Touch (Blk H A Q) w W
  n : st'.n = st.n
  len : st'.fr.length = st.fr.length + k
  tk : ∀ f, f ∉ F.take k → st'.tk f = st.tk f
  bt : ∀ f, f ∉ F.take k → st'.bt f = st.bt f
theorem Gvp.next {w W W' : World} {H A Q : Nat} {st st' : St} {F : List Nat} {k f : Nat} (h : Gvp w W H A Q st F k st') (hf : F[k]? = some f) (r : Fr W' H A Q (st'.give f)) (u : Touch (Blk H A Q) W W') : Gvp w W' H A Q st F (k + 1) (st'.give f) := by
  have hin : f ∈ F.take (k + 1) := by
    rw [List.take_add_one, hf]; simp
  have hsub : ∀ g, g ∉ F.take (k + 1) → g ∉ F.take k ∧ g ≠ f := fun g hg => ⟨fun e => hg (by rw [List.take_add_one]; exact List.mem_append_left _ e), fun e => hg (e ▸ hin)⟩
  refine ⟨r, h.tch.trans u (fun i e => .inl e), h.n, ?_, fun g hg => ?_, fun g hg => ?_⟩
  · show (st'.fr ++ [f]).length = _
    rw [List.length_append, h.len]; rfl
  · show upd st'.tk f false g = _
    rw [upd_other _ _ (hsub g hg).2]; exact h.tk g (hsub g hg).1
  · show upd st'.bt f _ g = _
    rw [upd_other _ _ (hsub g hg).2]; exact h.bt g (hsub g hg).1
section
variable {w : World} {U : Nat → Prop} {H S A Q M : Nat} {s : So} {xs p q : List Rfl} {x : Rfl} {st : St} {tag : Nat → Int}
theorem SpM.apart (h : SpM w U H S A Q M (p ++ x :: q) st tag) : (∀ i, Blk H A Q i → i ≠ S ∧ i ≠ M ∧ i ≠ x.bc ∧ x.fv.ownBlock ≠ some i) ∧ x.bc ≠ S ∧ x.bc ≠ M ∧ x.fv.ownBlock ≠ some S ∧ x.fv.ownBlock ≠ some x.bc := by
  obtain ⟨ix, tx, fx⟩ := h.tg.x x mid_of
  have tB : ∀ i, Blk H A Q i → tag i = -3 ∨ tag i = -4 ∨ tag i = -5 := by
    rintro i (rfl | rfl | rfl)
    · exact .inl h.tg.h
    · exact .inr (.inl h.tg.a)
    · exact .inr (.inr h.tg.q)
  have t1 := h.tg.s
  have t2 := h.tg.m
  refine ⟨fun i hi => ⟨fun e => ?_, fun e => ?_, fun e => ?_, fun e => ?_⟩, fun e => ?_, fun e => ?_, fun e => ?_, fun e => ?_⟩
  · have := tB i hi; rw [e] at this; omega
  · have := tB i hi; rw [e] at this; omega
  · have := tB i hi; rw [e] at this; omega
  · have := tB i hi; have := fx i e; omega
  · rw [e] at tx; omega
  · rw [e] at tx; omega
  · have := fx _ e; omega
  · have := fx _ e; omega
/-- File id is another one now. -/
def CutAt (w w' : World) (U : Nat → Prop) (H S A Q M : Nat) (s : So) (p q : List Rfl) (id : Int) : Prop := ∃ U' x' st' tag', x'.id = id ∧ SpAt w' U' H S A Q M s (p ++ x' :: q) st' tag' ∧ Touch U w w' ∧ ∀ i, U' i → U i ∨ w.heap.size ≤ i
theorem fss_other (h : (fss (p ++ x :: q)).Nodup) {y : Rfl} (hy : y ∈ p ∨ y ∈ q) {f : Nat} (hf : f ∈ y.F) : f ∉ x.F := by
  rw [fss_mid, List.nodup_append] at h
  intro e
  rcases hy with hy | hy
  · exact h.2.2 f (List.mem_flatMap.2 ⟨y, hy, hf⟩) f (List.mem_append_left _ e) rfl
  · exact (List.nodup_append.1 h.2.1).2.2 f e f (List.mem_flatMap.2 ⟨y, hy, hf⟩) rfl
theorem pct_gone (h : PSo H w U S s) {id : Int} (wi : (Lit.int .i64 id).wf = true) (e : getFi s.l id = none) :
    Calls Try.prog 48 #[.pointer (some ⟨S, 0, none⟩), .int .i64 id] w fun e w' => e = .returned (.int .i64 4) ∧ w = w' := by
  have FD := hide (find_none h wi e)
  clear h e wi
  go_enter Try.func48, Try.ntmps48
  go_wp2_with (go_at_call 60; refine FD.out.mono ?_; rintro e w' ⟨rfl, rfl⟩)
  go_ret
  exact ⟨rfl, rfl⟩
set_option maxRecDepth 10000 in
set_option maxHeartbeats 4000000 in
theorem pct_some {id : Int} (wi : (Lit.int .i64 id).wf = true) (h : SpAt w U H S A Q M s (p ++ x :: q) st tag) (ex : x.id = id) (ep : ∀ y ∈ p, y.id ≠ id) :
    Calls Try.prog 48 #[.pointer (some ⟨S, 0, none⟩), .int .i64 id] w fun e w' => e = .returned (.int .i64 0) ∧ CutAt w w' U H S A Q M (ctS s id) p q id := by
  have FD := hide (find_some h wi ex ep)
  have HH := hide h
  have EX := hide ex
  have EP := hide ep
  have OK := h.m.ok x mid_of
  have AP := hide h.m.apart
  have fz := fun j => OK.f j
  obtain ⟨L, hL⟩ : ∃ L, L = x.F.length := ⟨_, rfl⟩
  have FN := hide (show x.F.Nodup from by have := h.m.nod; rw [fss_mid, List.nodup_append] at this; exact (List.nodup_append.1 this.2.1).1)
  have FT := hide (show ∀ f ∈ x.F, f < st.n ∧ st.tk f = true from fun f hf => h.m.tkn f (by rw [fss_mid]; exact List.mem_append_right _ (List.mem_append_left _ hf)))
  have l8 : (L : Int) ≤ 8 := by
    have : x.F.length ≤ 8 := by rw [h.p.blk x mid_of]; exact blkN_le8 _ (h.p.good.le x.fi (by rw [h.p.l]; exact List.mem_map_of_mem mid_of))
    omega
  have G0 := hide (show Gvp w w H A Q st x.F 0 st from ⟨h.m.fr, Touch.refl _ _, rfl, rfl, fun _ _ => rfl, fun _ _ => rfl⟩)
  have CC := hide (show ∀ W, Touch (Blk H A Q) w W → W.cell? ⟨S, 0, none⟩ = some (.pointer (some ⟨H, 0, none⟩)) ∧ W.heap[x.bc]? = some (.cells #[.int .i64 (x.b.length : Nat), .slice x.fa L x.fc] 121 (0, 0)) ∧ Ints .i64 W x.fa L (nums x.F) from fun W u => by
    refine ⟨u.cell h.m.c0 (fun e => ((AP.out.1 _ e).1 rfl)), ?_, ?_⟩
    · rw [u.block x.bc (lt_of_heap OK.hd) (fun e => (AP.out.1 _ e).2.2.1 rfl), OK.hd, hL]; rfl
    · obtain ⟨A', C', e, i, _⟩ := own_ints (u.own OK.fs (fun g hg e => (AP.out.1 g e).2.2.2 hg))
      have e' : Value.slice x.fa x.F.length x.fc = Value.slice A' x.F.length C' := e
      injection e' with e1 _ e2
      subst e1 e2
      rw [hL]; exact i)
  have HL := hide hL
  clear h OK fz ex ep hL wi
  generalize x.fa = fa at *
  generalize x.fc = fc at *
  obtain ⟨c0, hB, -⟩ := CC.out w (Touch.refl _ _)
  have c1 : w.cell? ⟨x.bc, 1, none⟩ = some (.slice fa L fc) := by rw [cell_of_row _ _ _ _ _ _ hB]; rfl
  clear hB
  go_enter Try.func48, Try.ntmps48
  go_wp2_with (go_at_call 60; refine FD.out.mono ?_; rintro e w' ⟨rfl, rfl⟩)
  go_loopw [23] (fun v wr => ∃ (k : Nat) (st' : St), k ≤ L ∧ v = .int .i64 (k : Int) ∧ Hid (Gvp w wr H A Q st x.F k st')) (fun v _ => L - (intOf v).toNat)
  case atStart => exact ⟨0, _, Nat.zero_le _, rfl, G0⟩
  case round =>
    clear G0 c0 c1
    obtain ⟨k, st', hk, rfl, hG⟩ := hrel
    obtain ⟨c0, hB, hI⟩ := CC.out wr hG.out.tch
    have k0 : (0 : Int) ≤ (k : Int) := by omega
    by_cases hkl : k < L
    · have k1 : (k : Int) < (L : Int) := by omega
      obtain ⟨gf, go, rfl, hc⟩ := hI.2 (by omega)
      have hfk : x.F[k]? = some (x.F[k]'(by have := HL.out; omega)) := List.getElem?_eq_getElem _
      have c7 := hc k hkl
      rw [show (nums x.F).getD k 0 = ((x.F[k]'(by have := HL.out; omega) : Nat) : Int) from by simp [nums, List.getD, hfk]] at c7
      generalize (x.F[k]'(by have := HL.out; omega)) = f at *
      have ff := FT.out f (List.mem_of_getElem? hfk)
      have tk' : st'.tk f = true := by rw [hG.out.tk f (take_not FN.out hfk)]; exact ff.2
      have GV := hide (give_ok hG.out.fr f (by rw [hG.out.n]; exact ff.1) tk')
      have HF := hide hfk
      clear hc ff tk' hfk hI hB
      go_wp2_with (go_at_call 62; refine GV.out.mono ?_; rintro e w2 ⟨rfl, r2, u2⟩; have G2 := hide (hG.out.next HF.out r2 u2); clear r2 u2)
      go_roundw
      case rel => exact ⟨k + 1, _, by omega, by go_num, G2.out⟩
      case measure => simp [intOf]; omega
    · obtain rfl : k = L := by omega
      have k1 : ¬ (k : Int) < (k : Int) := by omega
      have e0 : wr.cell? ⟨x.bc, 0, none⟩ = some (.int .i64 (x.b.length : Nat)) := by rw [cell_of_row _ _ _ _ _ _ hB]; rfl
      have e1 : wr.cell? ⟨x.bc, 1, none⟩ = some (.slice fa k fc) := by rw [cell_of_row _ _ _ _ _ _ hB]; rfl
      have HB := hide hB
      have hB' := hB
      clear hkl hk hI hB
      have z0 : wr.frozen? ⟨x.bc, 0, none⟩ = false := frozen_of_row _ _ _ _ _ hB'
      have z1 : wr.frozen? ⟨x.bc, 1, none⟩ = false := frozen_of_row _ _ _ _ _ hB'
      clear hB'
      go_wp2_with fail
      go_ret
      refine ⟨rfl, ?_⟩
      have ex := EX.out
      have HB2 := heap_setCell_same _ _ 1 _ _ (.slice none 0 0) (heap_setCell_same _ _ 0 _ _ (.int .i64 0) HB.out)
      have T2 : Touch (Tx H A Q x) w ((wr.setCell ⟨x.bc, 0, none⟩ (.int .i64 0)).setCell ⟨x.bc, 1, none⟩ (.slice none 0 0)) := ((hG.out.tch.mono (fun i e => .inl e)).setCell (p := ⟨x.bc, 0, none⟩) (.inr (.inl rfl)) _).setCell (p := ⟨x.bc, 1, none⟩) (.inr (.inl rfl)) _
      have T3 : Touch (fun i => i = x.bc) wr ((wr.setCell ⟨x.bc, 0, none⟩ (.int .i64 0)).setCell ⟨x.bc, 1, none⟩ (.slice none 0 0)) := ((Touch.refl (fun i => i = x.bc) wr).setCell (p := ⟨x.bc, 0, none⟩) rfl _).setCell (p := ⟨x.bc, 1, none⟩) rfl _
      have fr3 := hG.out.fr.touch T3 (fun i e e2 => (AP.out.1 i e).2.2.1 e2)
      have hk9 : x.F.take k = x.F := by rw [HL.out]; exact List.take_length
      have hsub : ∀ f, f ∈ fss (p ++ (⟨x.id, [], none, x.bc, [], none, 0⟩ : Rfl) :: q) → f ∈ fss (p ++ x :: q) ∧ f ∉ x.F := by
        intro f hf
        rw [fss_mid] at hf
        have nd := HH.out.m.nod
        rw [fss_mid, List.nodup_append] at nd
        rcases List.mem_append.1 hf with hf | hf
        · exact ⟨by rw [fss_mid]; exact List.mem_append_left _ hf, fun e => nd.2.2 f hf f (List.mem_append_left _ e) rfl⟩
        · have hf : f ∈ fss q := by simpa using hf
          exact ⟨by rw [fss_mid]; exact List.mem_append_right _ (List.mem_append_right _ hf), fun e => (List.nodup_append.1 nd.2.1).2.2 f e f hf rfl⟩
      obtain ⟨U', tag', hM, hT, hU⟩ := HH.out.m.turn (x' := ⟨x.id, [], none, x.bc, [], none, 0⟩) T2 fr3 ⟨HB2, World.ownsRow_nil _ _ _ _⟩ rfl rfl (fun g hg => by cases hg)
        (by
          have nd := HH.out.m.nod
          rw [fss_mid] at nd ⊢
          exact nd.sublist (List.Sublist.append (List.Sublist.refl _) (List.sublist_append_right _ _)))
        (fun f hf => by
          obtain ⟨h1, h2⟩ := hsub f hf
          rw [hG.out.n, hG.out.tk f (by rw [hk9]; exact h2)]
          exact HH.out.m.tkn f h1)
      refine ⟨U', ⟨x.id, [], none, x.bc, [], none, 0⟩, st', tag', ex, ⟨hM, ⟨?_, ?_, HH.out.p.good.ct id, fun y hy => ?_, fun y hy => ?_⟩⟩, hT, hU⟩
      · show putFi s.l id [] = _
        rw [HH.out.p.l, put_split ex EP.out, ← ex, List.map_append]; rfl
      · show s.fr + blkO (getFi s.l id) = _
        have hg : getFi s.l id = some x.b := by
          rw [HH.out.p.l, List.map_append]
          exact get_split ex EP.out
        rw [hg, hG.out.len, HH.out.p.fr, HL.out, HH.out.p.blk x mid_of]
        rfl
      · rcases mid_mem hy with rfl | hy
        · show 0 = blkN 0; decide
        · exact HH.out.p.blk y (by rcases hy with hy | hy; exact List.mem_append_left _ hy; exact List.mem_append_right _ (List.mem_cons_of_mem _ hy))
      · rcases mid_mem hy with rfl | hy
        · intro j hj; exact absurd hj (Nat.not_lt_zero _)
        · intro j hj
          have hy' : y ∈ p ++ x :: q := by rcases hy with hy | hy; exact List.mem_append_left _ hy; exact List.mem_append_right _ (List.mem_cons_of_mem _ hy)
          have hjF : j / 64 < y.F.length := by
            rw [HH.out.p.blk y hy']; unfold blkN; omega
          have hin : y.F.getD (j / 64) 0 ∈ y.F := by
            rw [List.getD_eq_getElem?_getD, List.getElem?_eq_getElem hjF]; exact List.getElem_mem _
          rw [hG.out.bt _ (by rw [hk9]; exact fss_other HH.out.m.nod hy hin)]
          exact HH.out.p.byt y hy' j hj
theorem pct_any (h : PSo H w U S s) {id : Int} (wi : (Lit.int .i64 id).wf = true) :
    Calls Try.prog 48 #[.pointer (some ⟨S, 0, none⟩), .int .i64 id] w (SideO (fun w' U' => PSo H w' U' S (ctS s id)) U w (.int .i64 (thE s id : Nat))) := by
  cases e : getFi s.l id with
  | none =>
    rw [ctS_none e, show thE s id = 4 from by unfold thE; rw [e]; rfl]
    refine (pct_gone h wi e).mono ?_
    rintro en w' ⟨rfl, rfl⟩
    exact SideO.of_below (P := fun w' U' => PSo H w' U' S s) h (Below.refl _ _)
  | some o =>
    rw [show thE s id = 0 from by unfold thE; rw [e]; rfl]
    obtain ⟨A, Q, M, p, x, q, st, tag, ex, rfl, ep, h⟩ := h.split e
    refine (pct_some wi h ex ep).mono ?_
    rintro en w' ⟨rfl, U', x', st', tag', e1, hD, u, sD⟩
    exact ⟨rfl, U', ⟨_, _, _, _, _, _, hD⟩, u, sD⟩
set_option maxRecDepth 4000 in
theorem pdr_any (h : PSo H w U S s) {id : Int} (wi : (Lit.int .i64 id).wf = true) :
    Calls Try.prog 68 #[.pointer (some ⟨S, 0, none⟩), .int .i64 id] w (SideO (fun w' U' => PSo H w' U' S (drS s id)) U w (.int .i64 (thE s id : Nat))) := by
  cases e : getFi s.l id with
  | none =>
    rw [drS_none e, show thE s id = 4 from by unfold thE; rw [e]; rfl]
    have FIN := hide (SideO.of_below (v := .int .i64 4) (P := fun w' U' => PSo H w' U' S s) h (Below.refl _ _))
    have CT := hide (pct_gone h wi e)
    clear h e wi
    go_enter Try.func68, Try.ntmps68
    go_wp2_with (go_at_call 48; refine CT.out.mono ?_; rintro e w' ⟨rfl, rfl⟩)
    go_ret
    exact FIN.out
  | some o =>
    rw [show thE s id = 0 from by unfold thE; rw [e]; rfl]
    obtain ⟨A, Q, M, p, x, q, st, tag, ex, rfl, ep, h⟩ := h.split e
    have CT := hide (pct_some wi h ex ep)
    have HH := hide h
    have WI := hide wi
    have EP := hide ep
    have EX := hide ex
    clear h e wi ex ep
    go_enter Try.func68, Try.ntmps68
    go_upto_region 4 with (go_at_call 48; refine CT.out.mono ?_; rintro e w1 ⟨rfl, hC⟩; have HC := hide hC; clear hC)
    obtain ⟨U1, x1, st1, tag1, e1, h1, u1, s1⟩ := HC.out
    have c1 := h1.m.c1
    obtain ⟨w2, r2, q2, g2⟩ := h1.m.mp.drop (t := 113) (e := 117) Try.underlying113 WI.out 0
    have H1 := hide h1
    have U1' := hide u1
    have S1 := hide s1
    have E1 := hide e1
    have Q2 := hide q2
    have G2 := hide g2
    clear h1 u1 s1 e1 q2 g2 HC CT
    go_wp2_with fail
    go_ret
    have gr2 : Touch (fun i => i = M) w1 w2 := Touch.of_grown G2.out (fun g e => by injection e with e; exact e.symm)
    have h1 := H1.out
    have sub : ∀ y, y ∈ p ++ q → y ∈ p ++ x1 :: q := fun y hy => by
      rcases List.mem_append.1 hy with hy | hy
      · exact List.mem_append_left _ hy
      · exact List.mem_append_right _ (List.mem_cons_of_mem _ hy)
    have tM : ∀ i, i = M → tag1 i = -2 := fun i e => by rw [e]; exact h1.m.tg.m
    refine ⟨rfl, U1, ⟨A, Q, M, p ++ q, st1, tag1, ⟨⟨?_, ?_, ?_, fun y hy => ?_, ?_, ?_, fun f hf => ?_, ⟨h1.m.tg.s, h1.m.tg.m, h1.m.tg.h, h1.m.tg.a, h1.m.tg.q, fun y hy => h1.m.tg.x y (sub y hy)⟩, h1.m.us, fun y hy => h1.m.ux y (sub y hy), fun i hi => Nat.lt_of_lt_of_le (h1.m.lt i hi) gr2.size⟩, ⟨?_, ?_, HH.out.p.good.dr id, fun y hy => h1.p.blk y (sub y hy), fun y hy => h1.p.byt y (sub y hy)⟩⟩⟩, U1'.out.trans gr2 (fun i e => ?_), S1.out⟩
    · exact (gr2.block S (lt_of_heap h1.m.hd) (fun e => by have := tM S e; have := h1.m.tg.s; omega)).trans h1.m.hd
    · rw [getP_del h1.m.idn, E1.out]; exact Q2.out
    · exact h1.m.fr.touch gr2 (fun i e e2 => by
        have t := tM i e2
        rcases e with rfl | rfl | rfl
        · have := h1.m.tg.h; omega
        · have := h1.m.tg.a; omega
        · have := h1.m.tg.q; omega)
    · obtain ⟨iy, ty, fy⟩ := h1.m.tg.x y (sub y hy)
      exact (h1.m.ok y (sub y hy)).touch gr2 (fun e => by have := tM _ e; omega) (fun g hg e => by have := tM _ e; have := fy g hg; omega)
    · have := h1.m.idn
      rw [List.map_append, List.map_cons] at this
      rw [List.map_append]
      exact this.sublist (List.Sublist.append (List.Sublist.refl _) (List.sublist_cons_self _ _))
    · have := h1.m.nod
      rw [fss_mid] at this
      rw [show fss (p ++ q) = fss p ++ fss q from by simp [fss]]
      exact this.sublist (List.Sublist.append (List.Sublist.refl _) (List.sublist_append_right _ _))
    · refine h1.m.tkn f ?_
      rw [show fss (p ++ q) = fss p ++ fss q from by simp [fss]] at hf
      rw [fss_mid]
      rcases List.mem_append.1 hf with hf | hf
      · exact List.mem_append_left _ hf
      · exact List.mem_append_right _ (List.mem_append_right _ hf)
    · show delFi s.l id = _
      rw [HH.out.p.l, del_split EX.out EP.out]
    · exact h1.p.fr
    · by_cases hi : i < w.heap.size
      · refine .inl ?_
        have := S1.out i (by rw [e]; exact h1.m.us.2.1)
        rcases this with h | h
        · exact h
        · omega
      · exact .inr (by omega)
end
end Go.Proofs.Ytpghnhcjgjgglaa
