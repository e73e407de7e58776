/-
  Several texts as one: IpRem IpHave VpMem.
-/
import Derived.Test.YtndfnglcichngaaGreatDoorIpEnterPb
import Derived.Test.YtndfnglcichngaaGreatDoorIpDelPb
import Derived.Test.YtndfnglcichngaaGreatDoorPa16
import Derived.Test.YtndfnglcichngaaGreatDoorPa18
namespace Go.Proofs.YtndfnglcichngaaGreatDoor
open Go.ChangeShapes Go.WideShapes Go.ChangeAt Go.RowKit
set_option linter.unusedVariables false
set_option linter.unusedSimpArgs false
theorem del_erase {l : List Ent} {t : Txt} (hs : l.Pairwise fun a b => ltT a.nm b.nm = true) (h : hitT l t = true) : delL l t = l.eraseIdx (cntT l t) := by
  obtain ⟨x, hx, hn⟩ := hitT_some h
  obtain ⟨hk, hx2⟩ := List.getElem?_eq_some_iff.1 hx
  have hl : l = l.take (cntT l t) ++ x :: l.drop (cntT l t + 1) := by
    conv => lhs; rw [← List.take_append_drop (cntT l t) l]
    rw [List.drop_eq_getElem_cons hk, hx2]
  have hs2 := hs
  rw [hl] at hs2
  have h1 := delL_split hn hs2
  rw [← hl] at h1
  rw [h1, List.eraseIdx_eq_take_drop_succ]
section
variable {w : World} {U : Nat → Prop} {H T S : Nat} {s : In} {E : Nat → Prop} {N : Nat → Option Nat} {V : Nat → Value} {tag : Nat → Int}
/-- An entry was taken out of a row. -/
theorem IpM.del_at {i b : Nat} {w5 w6 : World} {l : List Ent} {g c q : Nat} {n : Nat} (h : IpM w U H T S s E N V tag) (e : N i = some b) (hg : (V i).ownBlock = some g) (B5 : Below w.heap.size w w5) (t6 : Touch (fun k => k = g) w5 w6) (hn : n = l.length)
    (o6 : w6.ownsRow 0 105 2 (.slice (some ⟨g, 0, none⟩) n c) n (l.flatMap enV)) :
    ∃ U' tag', IpM ((w6.setCell ⟨b, 3, none⟩ (.slice (some ⟨g, 0, none⟩) n c)).drewN q) U' H T S (setL s i l) E N (upd V i (.slice (some ⟨g, 0, none⟩) n c)) tag' ∧ Touch U w ((w6.setCell ⟨b, 3, none⟩ (.slice (some ⟨g, 0, none⟩) n c)).drewN q) ∧ ∀ k, U' k → U k ∨ w.heap.size ≤ k := by
  have lb := h.lt b (h.un i b e)
  have tb := h.tn i b e
  have ng : g ≠ b := fun e2 => by subst e2; have := h.tv i g hg; omega
  have r6 : RowI w6 b 4 134 (ndF (s.n i) (V i)) := ((h.below B5).nd i b e).keep (t6.block b (Nat.lt_of_lt_of_le lb B5.size) (fun e2 => ng e2.symm))
  have r7 : RowI ((w6.setCell ⟨b, 3, none⟩ (.slice (some ⟨g, 0, none⟩) n c)).drewN q) b 4 134 (upd (ndF (s.n i) (V i)) 3 (.slice (some ⟨g, 0, none⟩) n c)) := r6.set 3 _
  have r8 := r7.congr (f' := ndF { s.n i with l := l } (.slice (some ⟨g, 0, none⟩) n c)) (fun k hk => by
    match k, hk with
    | 0, _ => rfl
    | 1, _ => rfl
    | 2, _ => rfl
    | 3, _ => rfl)
  have t5 : Touch (fun k => k = b ∨ (V i).ownBlock = some k) w w6 := (Touch.of_below B5).trans t6 (fun k e2 => by have e3 : k = g := e2; subst e3; exact .inl (.inr hg))
  have t7 : Touch (fun k => k = b ∨ (V i).ownBlock = some k) w ((w6.setCell ⟨b, 3, none⟩ (.slice (some ⟨g, 0, none⟩) n c)).drewN q) := (t5.setCell (p := ⟨b, 3, none⟩) (.inl rfl) _).drewN q
  have o7 : ((w6.setCell ⟨b, 3, none⟩ (.slice (some ⟨g, 0, none⟩) n c)).drewN q).ownsRow 0 105 2 (.slice (some ⟨g, 0, none⟩) n c) n (l.flatMap enV) :=
    (((Touch.refl (fun k => k = b) w6).setCell (p := ⟨b, 3, none⟩) rfl _).drewN q).own o6 (fun k hk e2 => by have hk2 : some g = some k := hk; injection hk2 with hk2; exact ng (hk2.trans e2))
  exact h.relist e t7 r8 (by rw [← hn]; exact o7) (fun k hk => by
    have hk2 : some g = some k := hk
    injection hk2 with hk2
    subst hk2; exact .inl hg)
set_option maxRecDepth 10000 in
set_option maxHeartbeats 8000000 in
theorem premove_any {B : Int} (h : PIn H S w U T s) (g : GoodP s [] B) (d : Int) (t : Txt) : Calls Tryz.prog 101 #[.pointer (some ⟨T, 0, none⟩), .int .i64 d, .string (bt t)] w (SideO (fun w' U' => PIn H S w' U' T (rmI s d t)) U w (.int .i64 (rmIE s d t : Nat))) := by
  obtain ⟨E, N, V, tag, h⟩ := h
  have FIN := hide (fun (v : Value) (w1 : World) (b : Below w.heap.size w w1) => Pto.side (v := v) ((Pto.refl (show PIn H S w U T s from ⟨_, _, _, _, h⟩)).then_below b))
  have FD := hide (pfind_any h g d t)
  by_cases e0 : fiIE s d t = 0
  · obtain ⟨i, rfl, i16, iis, idir, hh⟩ : ∃ i : Nat, d = (i : Int) ∧ i < 16 ∧ (s.n i).is = true ∧ (s.n i).dir = true ∧ hitT (s.n i).l t = true := by
      cases hD : dirI s d with
      | false => unfold fiIE at e0; rw [hD] at e0; cases e0
      | true =>
        obtain ⟨i, rfl, hi, his, hdir⟩ := dirI_yes hD
        refine ⟨i, rfl, hi, his, hdir, ?_⟩
        cases hh : hitT (s.n i).l t with
        | true => rfl
        | false =>
          unfold fiIE at e0
          rw [hD, Int.toNat_natCast, findL_hitT (g.srt i), hh] at e0
          cases e0
    obtain ⟨x, hx, hxn, hf⟩ := findL_at (g.srt i) hh
    have hD := dirI_of i16 iis idir
    have hj : fiII s (i : Int) t = x.id := by unfold fiII; rw [hD, Int.toNat_natCast, hf]; rfl
    rw [e0, hj] at FD
    have hmem := List.mem_of_getElem? hx
    obtain ⟨j16, j0, -⟩ := g.ent i x hmem
    have jis : (s.n x.id).is = true := by
      cases e2 : (s.n x.id).is with
      | true => rfl
      | false =>
        have h1 := g.lnk x.id
        rw [g.no _ e2] at h1
        have h2 : 0 < cntE s x.id := by
          have := sumN_pos (f := fun i => cntL (s.n i).l x.id) (n := 16) i16
          have h3 := cntL_pos hmem
          unfold cntE
          have h4 : cntL (s.n i).l x.id ≤ sumN (fun i => cntL (s.n i).l x.id) 16 := this
          omega
        have : (Nd.zero).links = 0 := rfl
        omega
    obtain ⟨bj, hbj⟩ := h.there jis
    obtain ⟨b, hb⟩ := h.there iis
    have rE : rmIE s (i : Int) t = if (s.n x.id).dir = true ∧ (s.n x.id).l ≠ [] then 13 else 0 := by unfold rmIE; rw [if_neg (by simp [e0]), hj]
    obtain ⟨aj, cj, hvj, -, -, -, -⟩ := h.list x.id
    have cNj := h.cS j16 hbj
    have cLj := h.cList hbj
    rw [hvj] at cLj
    obtain ⟨nj, hnj⟩ : ∃ z, z = (s.n x.id).l.length := ⟨_, rfl⟩
    rw [← hnj] at cLj
    obtain ⟨j, hjj⟩ : ∃ j, j = x.id := ⟨_, rfl⟩
    rw [← hjj] at FD cNj rE hnj hbj jis j16 j0 hvj hj
    have jn0 : (0 : Int) ≤ (j : Int) := by omega
    have jn1 : (j : Int) < 16 := by omega
    have in0 : (0 : Int) ≤ (i : Int) := by omega
    have in1 : (i : Int) < 16 := by omega
    have n8 : (nj : Int) ≤ 8 := by have := g.few j; omega
    by_cases hne : 0 < nj
    · have hd : (s.n j).dir = true := by
        cases e2 : (s.n j).dir with
        | true => rfl
        | false => rw [g.file j e2] at hnj; simp at hnj; omega
      rw [if_pos ⟨hd, fun e2 => by rw [e2] at hnj; simp at hnj; omega⟩] at rE
      rw [rE, show rmI s (i : Int) t = s from by unfold rmI; rw [if_neg (by rw [rE]; decide)]]
      have p2 : (0 : Int) < (nj : Int) := by omega
      have CB := hide (fun (W : World) (bl : Below w.heap.size w W) => show W.cell? ⟨T, 1 + j, none⟩ = some (.pointer (some ⟨bj, 0, none⟩)) ∧ W.cell? ⟨bj, 3, none⟩ = some (.slice aj nj cj) from ⟨(bl.cell (lt_of_cell? cNj)).trans cNj, (bl.cell (lt_of_cell? cLj)).trans cLj⟩)
      clear hd rE h g hh hx hxn hf hD hj hmem jis hbj hb cNj cLj hvj hnj hjj iis idir e0
      go_enter Tryz.func101, Tryz.ntmps101
      go_wp2_with (go_at_call 63; refine FD.out.mono ?_; rintro e w1 ⟨rfl, b1⟩; have B1 := hide b1; clear b1; obtain ⟨q0, q1⟩ := CB.out _ B1.out)
      go_ret
      exact FIN.out _ _ B1.out
    · obtain rfl : nj = 0 := by omega
      have hl0 : (s.n j).l = [] := List.eq_nil_of_length_eq_zero hnj.symm
      rw [if_neg (by rw [hl0]; simp)] at rE
      rw [rE, show rmI s (i : Int) t = goneI 17 (decL (setL s i (delL (s.n i).l t)) j) j from by unfold rmI; rw [if_pos rE, hj, Int.toNat_natCast]]
      obtain ⟨en, hen, g1⟩ := g.del i16 iis idir hf
      rw [← hjj] at hen
      have G1 := hide g1
      have HEN := hide hen
      have CN := hide (show cntI (setL s i (delL (s.n i).l t)) < 17 from by have := cntI_le (setL s i (delL (s.n i).l t)); omega)
      obtain ⟨a, c, hv, hr, -, -, -⟩ := h.list i
      obtain ⟨k, hk⟩ : ∃ k, k = cntT (s.n i).l t := ⟨_, rfl⟩
      have PL := hide (fun (W : World) (bl : Below w.heap.size w W) => place_any (h.below bl) hb (g.srt i) (g.few i) t)
      rw [show plI (s.n i).l t = (k : Int) from by unfold plI; rw [if_pos hh, hk]] at PL
      have DE := del_erase (g.srt i) hh
      rw [← hk] at DE hx
      have hlt := (List.getElem?_eq_some_iff.1 hx).1
      obtain ⟨gr, rfl⟩ : ∃ gr, a = some ⟨gr, 0, none⟩ := by
        obtain ⟨_, hh2⟩ := h.en i
        rcases hh2 with ⟨h1, h2⟩ | ⟨gr, cap, cur, e1, _⟩
        · omega
        · rw [hv] at e1; injection e1 with e1; exact ⟨gr, e1⟩
      have HG := hide (show (V i).ownBlock = some gr from by rw [hv]; rfl)
      have hen2 := fun (W : World) (bl : Below w.heap.size w W) => (h.below bl).en i
      have DL := hide (fun (W : World) (bl : Below w.heap.size w W) => show Calls Tryz.prog 126 #[.slice (some ⟨gr, 0, none⟩) (s.n i).l.length c, .int .i64 (k : Int), .int .i64 ((k : Int) + 1)] W (fun e w' => e = .returned (.slice (some ⟨gr, 0, none⟩) ((s.n i).l.length - 1) c) ∧ w'.ownsRow 0 105 2 (.slice (some ⟨gr, 0, none⟩) ((s.n i).l.length - 1) c) ((s.n i).l.length - 1) ((delL (s.n i).l t).flatMap enV) ∧ Touch (fun i => i = gr) W w') from by
        have := edel_any (w := W) (B := 0) (g := gr) (c := c) (l := (s.n i).l) (by rw [← hv]; exact hen2 W bl) (g.few i) hlt (q := k + 1) rfl
        rw [show ((k + 1 : Nat) : Int) = (k : Int) + 1 from by omega, ← DE] at this
        exact this)
      have LD := hide (show (s.n i).l.length - 1 = (delL (s.n i).l t).length from by rw [DE, List.length_eraseIdx_of_lt hlt])
      have c3 := h.cList hb
      rw [hv] at c3
      have cNi := h.cS i16 hb
      have k8 : (k : Int) < 8 := by have := g.few i; omega
      have k0 : (0 : Int) ≤ (k : Int) := by omega
      have HH := hide h
      have HB := hide hb
      have NG := hide (show gr ≠ b from fun e2 => by have h1 := h.tv i gr HG.out; have h2 := h.tn i b hb; rw [e2] at h1; omega)
      have CB := hide (fun (W : World) (bl : Below w.heap.size w W) => show W.cell? ⟨T, 1 + j, none⟩ = some (.pointer (some ⟨bj, 0, none⟩)) ∧ W.cell? ⟨bj, 3, none⟩ = some (.slice aj 0 cj) ∧ W.cell? ⟨T, 1 + i, none⟩ = some (.pointer (some ⟨b, 0, none⟩)) ∧ W.cell? ⟨b, 3, none⟩ = some (.slice (some ⟨gr, 0, none⟩) (s.n i).l.length c) ∧ W.frozen? ⟨b, 3, none⟩ = false from ⟨(bl.cell (lt_of_cell? cNj)).trans cNj, (bl.cell (lt_of_cell? cLj)).trans cLj, (bl.cell (lt_of_cell? cNi)).trans cNi, (bl.cell (lt_of_cell? c3)).trans c3, ((h.below bl).nd i b hb).frz 3⟩)
      have LTB := hide (h.lt b (h.un i b hb))
      obtain ⟨M, hM⟩ : ∃ M, M = delL (s.n i).l t := ⟨_, rfl⟩
      rw [← hM] at G1 CN DL LD ⊢
      obtain ⟨n, hn⟩ : ∃ n, n = (s.n i).l.length := ⟨_, rfl⟩
      rw [← hn] at DL LD CB
      obtain ⟨m, hm⟩ : ∃ m, m = n - 1 := ⟨_, rfl⟩
      rw [← hm] at DL LD
      clear rE h g hh hx hxn hf hD hj hmem jis hbj hb cNj cLj hvj hnj hjj iis idir e0 g1 hen hen2 hv hr hk DE hlt c3 cNi hM hn hm hl0 hne
      go_enter Tryz.func101, Tryz.ntmps101
      go_upto_region 7 with (go_at_call 63; refine FD.out.mono ?_; rintro e w1 ⟨rfl, b1⟩; have B1 := hide b1; clear b1; obtain ⟨q0, q1, q2, q3, q4⟩ := CB.out _ B1.out)
      clear q0 q1 q2 q3 q4
      go_upto_region 8 with (go_at_call 105; refine (PL.out _ B1.out).mono ?_; rintro e w2 ⟨rfl, b2⟩; have B2 := hide (B1.out.trans (b2.mono B1.out.size)); clear b2; obtain ⟨q0, q1, q2, q3, q4⟩ := CB.out _ B2.out)
      clear q0 q1 q2
      go_upto_region 9 with (go_at_call 126; refine (DL.out _ B2.out).mono ?_; rintro e w3 ⟨rfl, o3, t3⟩; have O3 := hide o3; have T3 := hide t3; have c33 := t3.cell q3 (fun e => NG.out e.symm); have f33 : w3.frozen? ⟨b, 3, none⟩ = false := (World.frozen?_of_block (t3.block b (Nat.lt_of_lt_of_le LTB.out B2.out.size) (fun e => NG.out e.symm))).trans q4; clear o3 t3)
      obtain ⟨U5, tag5, h5, t5, u5⟩ := HH.out.del_at HB.out HG.out B2.out T3.out LD.out (q := 0) O3.out
      have T5 := hide t5
      have U5H := hide u5
      have UN := hide (unlink_of (settle_any 17) (w3.setCell ⟨b, 3, none⟩ (.slice (some ⟨gr, 0, none⟩) m c)) U5 (setL s i M) [] B en ⟨_, _, _, _, h5⟩ G1.out CN.out)
      rw [HEN.out] at UN
      clear h5 t5 u5 q3 q4 c33 f33
      go_wp2_with (go_at_call 112; refine UN.out.mono ?_; rintro e w6 ⟨rfl, r6⟩; have R6 := hide (Pto.step T5.out U5H.out r6); clear r6)
      go_ret
      exact Pto.side R6.out
  · have rE : rmIE s d t = fiIE s d t := by unfold rmIE; rw [if_pos e0]
    rw [rE, show rmI s d t = s from by unfold rmI; rw [if_neg (by rw [rE]; exact e0)]]
    obtain ⟨z, hz⟩ : ∃ z, z = fiIE s d t := ⟨_, rfl⟩
    obtain ⟨y, hy⟩ : ∃ y, y = fiII s d t := ⟨_, rfl⟩
    rw [← hz, ← hy] at FD
    rw [← hz] at e0 ⊢
    have z0 : ¬ (z : Int) = 0 := by omega
    clear h g rE e0 hz hy
    go_enter Tryz.func101, Tryz.ntmps101
    go_wp2_with (go_at_call 63; refine FD.out.mono ?_; rintro e w1 ⟨rfl, b1⟩; have B1 := hide b1; clear b1)
    go_ret
    exact FIN.out _ _ B1.out
end
end Go.Proofs.YtndfnglcichngaaGreatDoor
namespace Go.Proofs.YtndfnglcichngaaGreatDoor
open Go.ChangeShapes Go.WideShapes Go.ChangeAt Go.RowKit
set_option linter.unusedVariables false
set_option linter.unusedSimpArgs false
theorem newStore : NewStore PSo where
  keeps := keepsPSo
  new := fun f => pnew_any f
end Go.Proofs.YtndfnglcichngaaGreatDoor
namespace Go.Proofs.YtndfnglcichngaaGreatDoor
open Go.ChangeShapes Go.WideShapes Go.ChangeAt Go.RowKit
set_option linter.unusedVariables false
set_option linter.unusedSimpArgs false
/-- The two pointers. -/
def Hp22 (w : World) (Vb T S : Nat) : Prop := w.heap[Vb]? = some (.cells #[.pointer (some ⟨T, 0, none⟩), .pointer (some ⟨S, 0, none⟩)] 94 (0, 0))
/-- The program's paths, their table at T, their store at S over the frames at H. -/
def PVf (H S T : Nat) : Rel In := fun w U Vb s => Hp22 w Vb T S ∧ ∃ U0, PIn H S w U0 T s ∧ ¬ U0 Vb ∧ ∀ i, U i ↔ i = Vb ∨ U0 i
theorem keepsPVf (H S T : Nat) : Keeps (PVf H S T) where
  keep := by
    rintro V U w w' Vb s ⟨hd, U0, r, hv, hU⟩ u d
    exact ⟨(u.block Vb (lt_of_heap hd) (d Vb ((hU Vb).2 (.inl rfl)))).trans hd, U0, (keepsPIn H S).keep r u (fun i e => d i ((hU i).2 (.inr e))), hv, hU⟩
  lt := by
    rintro U w Vb s ⟨hd, U0, r, hv, hU⟩ i e
    rcases (hU i).1 e with rfl | e
    · exact lt_of_heap hd
    · exact (keepsPIn H S).lt r i e
section
variable {w : World} {U : Nat → Prop} {H S T V : Nat} {s s' : In} {B : Int} {v : Value} {e : Ending} {w' : World}
theorem PVf.c0 (h : PVf H S T w U V s) : w.cell? ⟨V, 0, none⟩ = some (.pointer (some ⟨T, 0, none⟩)) := by rw [cell_of_row _ _ _ _ _ _ h.1]; rfl
theorem PVf.c1 (h : PVf H S T w U V s) : w.cell? ⟨V, 1, none⟩ = some (.pointer (some ⟨S, 0, none⟩)) := by rw [cell_of_row _ _ _ _ _ _ h.1]; rfl
theorem PVf.below (h : PVf H S T w U V s) (b : Below w.heap.size w w') : PVf H S T w' U V s := (keepsPVf H S T).below h b
/-- What a call of the table does, as one of the paths'. -/
theorem PVf.side (h : PVf H S T w U V s) {f : Nat} {args : Array Value}
    (C : ∀ U0, (∀ i, U0 i → U i) → PIn H S w U0 T s → Calls Tryz.prog f args w (SideO (fun w' U' => PIn H S w' U' T s') U0 w v)) : Calls Tryz.prog f args w (SideO (fun w' U' => PVf H S T w' U' V s') U w v) := by
  obtain ⟨hd, U0, r, hv, hU⟩ := h
  refine (C U0 (fun i x => (hU i).2 (.inr x)) r).mono ?_
  rintro e w' ⟨rfl, U1, p, t, u⟩
  have lv := lt_of_heap hd
  refine ⟨rfl, fun i => i = V ∨ U1 i, ⟨(t.block V lv hv).trans hd, U1, p, fun x => ?_, fun i => Iff.rfl⟩, t.mono (fun i x => (hU i).2 (.inr x)), fun i x => ?_⟩
  · rcases u V x with x | x
    · exact hv x
    · omega
  · rcases x with rfl | x
    · exact .inl ((hU _).2 (.inl rfl))
    · exact (u i x).imp (fun x => (hU i).2 (.inr x)) id
/-- One call behind another. -/
theorem SideO.step {Q : World → (Nat → Prop) → Prop} {w1 : World} {U1 : Nat → Prop} (t : Touch U w w1) (u : ∀ i, U1 i → U i ∨ w.heap.size ≤ i) (h : SideO Q U1 w1 v e w') : SideO Q U w v e w' := by
  obtain ⟨rfl, U2, p, t2, u2⟩ := h
  refine ⟨rfl, U2, p, t.trans t2 (fun i x => u i x), fun i x => ?_⟩
  rcases u2 i x with x | x
  · exact u i x
  · have := t.size; exact .inr (by omega)
/-- What was answered is another value. -/
theorem SideO.says {P : World → (Nat → Prop) → Prop} {v2 : Value} (h : SideO P U w v e w') : SideO P U w v2 (.returned v2) w' := by
  obtain ⟨rfl, q⟩ := h
  exact ⟨rfl, q⟩
theorem pvmake_any (h : PVf H S T w U V s) (g : GoodP s [] B) (d : Bool) : Calls Tryz.prog 123 #[.pointer (some ⟨T, 0, none⟩), .bool d] w (SideO (fun w' U' => PVf H S T w' U' V (mkI s d)) U w (.tuple #[.int .i64 (mkII s : Nat), .int .i64 (mkIE s : Nat)])) :=
  h.side fun U0 sub r => pmake_any r g d
theorem pvopen_any (h : PVf H S T w U V s) (g : GoodP s [] B) (hB : B ≤ 1000000) (id : Int) : Calls Tryz.prog 57 #[.pointer (some ⟨T, 0, none⟩), .int .i64 id] w (SideO (fun w' U' => PVf H S T w' U' V (opI s id)) U w (.int .i64 (opIE s id : Nat))) :=
  h.side fun U0 sub r => by
    obtain ⟨E, N, V0, tag, r⟩ := r
    exact popen_any r id (fun i => ⟨(g.opn i).1, by have := (g.opn i).2; omega⟩)
theorem pvclose_any (h : PVf H S T w U V s) (g : GoodP s [] B) (hB : B ≤ 1000000) (id : Int) : Calls Tryz.prog 34 #[.pointer (some ⟨T, 0, none⟩), .int .i64 id] w (SideO (fun w' U' => PVf H S T w' U' V (clI s id)) U w (.int .i64 (clIE s id : Nat))) :=
  h.side fun U0 sub r => pclose_any r g hB id
theorem pventer_any (h : PVf H S T w U V s) (g : GoodP s [] B) (d : Int) (t : Txt) (ht : t.length ≤ 1000000) (id : Int) : Calls Tryz.prog 99 #[.pointer (some ⟨T, 0, none⟩), .int .i64 d, .string (bt t), .int .i64 id] w (SideO (fun w' U' => PVf H S T w' U' V (enI s d t id)) U w (.int .i64 (enIE s d t id : Nat))) :=
  h.side fun U0 sub r => penter_any r g d t ht id
theorem pvremove_any (h : PVf H S T w U V s) (g : GoodP s [] B) (d : Int) (t : Txt) : Calls Tryz.prog 101 #[.pointer (some ⟨T, 0, none⟩), .int .i64 d, .string (bt t)] w (SideO (fun w' U' => PVf H S T w' U' V (rmI s d t)) U w (.int .i64 (rmIE s d t : Nat))) :=
  h.side fun U0 sub r => premove_any r g d t
theorem pvfind_any (h : PVf H S T w U V s) (g : GoodP s [] B) (d : Int) (t : Txt) : Calls Tryz.prog 63 #[.pointer (some ⟨T, 0, none⟩), .int .i64 d, .string (bt t)] w fun e w' => e = .returned (.tuple #[.int .i64 (fiII s d t : Nat), .int .i64 (fiIE s d t : Nat)]) ∧ Below w.heap.size w w' := by
  obtain ⟨hd, U0, ⟨E, N, V0, tag, r⟩, hv, hU⟩ := h
  exact pfind_any r g d t
theorem pvget_any (h : PVf H S T w U V s) (g : GoodP s [] B) (id : Int) : Calls Tryz.prog 70 #[.pointer (some ⟨T, 0, none⟩), .int .i64 id] w fun e w' => e = .returned (.tuple #[nodA s id, .bool (isI s id)]) ∧ Below w.heap.size w w' := by
  obtain ⟨hd, U0, ⟨E, N, V0, tag, r⟩, hv, hU⟩ := h
  rw [← gotI_nod]
  exact pget_any r g.few g.file id
theorem pvlist_any (h : PVf H S T w U V s) (g : GoodP s [] B) (id : Int) : Calls Tryz.prog 53 #[.pointer (some ⟨T, 0, none⟩), .int .i64 id] w fun e w' => ∃ v, e = .returned (.tuple #[v, .int .i64 (lsIE s id : Nat)]) ∧ w'.ownsRow w.heap.size 105 2 v (lsI s id).length ((lsI s id).flatMap enV) ∧ Below w.heap.size w w' := by
  obtain ⟨hd, U0, ⟨E, N, V0, tag, r⟩, hv, hU⟩ := h
  exact plist_any r g id
theorem pvlen_any (h : PVf H S T w U V s) : Calls Tryz.prog 18 #[.pointer (some ⟨T, 0, none⟩)] w fun e w' => e = .returned (.int .i64 (cntI s : Nat)) ∧ Below w.heap.size w w' := by
  obtain ⟨hd, U0, ⟨E, N, V0, tag, r⟩, hv, hU⟩ := h
  refine (plen_any r).mono ?_
  rintro e w' ⟨rfl, rfl⟩
  exact ⟨rfl, Below.refl _ _⟩
/-- The store beneath: a call that changes it. -/
theorem PVf.stored (h : PVf H S T w U V s) {so' : So} {f : Nat} {args : Array Value}
    (C : ∀ E, PSo H w E S s.so → (∀ i, E i → U i) → Calls Tryz.prog f args w (SideO (fun w' U' => PSo H w' U' S so') E w v)) : Calls Tryz.prog f args w (SideO (fun w' U' => PVf H S T w' U' V ⟨s.n, so'⟩) U w v) :=
  h.side fun U0 sub r => by
    obtain ⟨E, N, V0, tag, r0⟩ := r
    refine (C E r0.so (fun i x => sub i (r0.ue i x))).mono ?_
    intro e w' p
    obtain ⟨rfl, U', E', tag', r1, t, u⟩ := r0.stored p
    exact ⟨rfl, U', ⟨E', N, V0, tag', r1⟩, t.mono (fun i x => r0.ue i x), u⟩
/-- The store beneath: a call that changes nothing. -/
theorem PVf.so (h : PVf H S T w U V s) : ∃ E, PSo H w E S s.so := by
  obtain ⟨hd, U0, ⟨E, N, V0, tag, r⟩, hv, hU⟩ := h
  exact ⟨E, r.so⟩
end
end Go.Proofs.YtndfnglcichngaaGreatDoor
