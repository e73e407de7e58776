/-
  The program's store: grow.
-/
import Derived.Test.YtipepklobpnbpaaSpCut
import Derived.Test.YtipepklobpnbpaaFrOpsB
import Derived.Test.YtipepklobpnbpaaMem
namespace Go.Proofs.Ytipepklobpnbpaa
open Go.ChangeShapes Go.WideShapes Go.ChangeAt Go.RowKit Go.Maps
set_option linter.unusedVariables false
set_option linter.unusedSimpArgs false
section
variable {w : World} {U : Nat → Prop} {H S A Q M : Nat} {s : So} {xs p q : List Rfl} {x : Rfl} {st : St} {tag : Nat → Int}
/-- k frames more. -/
structure Grp (w wr : World) (U : Nat → Prop) (H S A Q M : Nat) (p q : List Rfl) (x : Rfl) (st : St) (k : Nat) (U' : Nat → Prop) (x' : Rfl) (st' : St) (tag' : Nat → Int) : Prop where
  m : SpM wr U' H S A Q M (p ++ x' :: q) st' tag'
  tch : Touch U w wr
  sub : ∀ i, U' i → U i ∨ w.heap.size ≤ i
  id : x'.id = x.id
  bc : x'.bc = x.bc
  b : x'.b = x.b
  bt : st'.bt = st.bt
  F : ∃ E, x'.F = x.F ++ E ∧ E.length = k
  fr : st'.fr.length + k = st.fr.length
theorem Grp.next {wr w2 : World} {k : Nat} {U' U2 : Nat → Prop} {x' x2 : Rfl} {st' st2 : St} {tag' tag2 : Nat → Int} {f : Nat} (h : Grp w wr U H S A Q M p q x st k U' x' st' tag') (m : SpM w2 U2 H S A Q M (p ++ x2 :: q) st2 tag2) (t : Touch U' wr w2) (hs : ∀ i, U2 i → U' i ∨ wr.heap.size ≤ i)
    (e1 : x2.id = x'.id) (e2 : x2.bc = x'.bc) (e3 : x2.b = x'.b) (e4 : st2.bt = st'.bt) (e5 : x2.F = x'.F ++ [f]) (e6 : st2.fr.length + 1 = st'.fr.length) : Grp w w2 U H S A Q M p q x st (k + 1) U2 x2 st2 tag2 := by
  obtain ⟨E, hE, hl⟩ := h.F
  refine ⟨m, h.tch.trans t h.sub, fun i hi => ?_, e1.trans h.id, e2.trans h.bc, e3.trans h.b, e4.trans h.bt, ⟨E ++ [f], by rw [e5, hE, List.append_assoc], by simp [hl]⟩, by have := h.fr; omega⟩
  rcases hs i hi with e | e
  · exact h.sub i e
  · exact .inr (Nat.le_trans h.tch.size e)
/-- A frame is taken, and put to the file's. -/
theorem SpM.grown {w2 w3 : World} {f : Nat} {l : List Nat} {v : Value} (h : SpM w U H S A Q M (p ++ x :: q) st tag) (hfr : st.fr = l ++ [f]) (r : Fr w2 H A Q (st.take l f)) (u : Touch (Blk H A Q) w w2) (b3 : Touch (fun i => x.fv.ownBlock = some i) w2 w3)
    (own : w3.ownsRow 0 3 1 v (x.F.length + 1) ((nums (x.F ++ [f])).map (Value.int .i64))) (hv : v.ownBlock = x.fv.ownBlock ∨ ∃ g, v.ownBlock = some g ∧ w.heap.size ≤ g) :
    ∃ U' x' tag', SpM (w3.setCell ⟨x.bc, 1, none⟩ v) U' H S A Q M (p ++ x' :: q) (st.take l f) tag' ∧ Touch U w (w3.setCell ⟨x.bc, 1, none⟩ v) ∧ (∀ i, U' i → U i ∨ w.heap.size ≤ i) ∧ x'.id = x.id ∧ x'.bc = x.bc ∧ x'.b = x.b ∧ x'.F = x.F ++ [f] := by
  obtain ⟨a, c, rfl, _⟩ := own_sliceR own
  obtain ⟨apB, apS, apM, ap4, ap5⟩ := h.apart
  have hfree : st.tk f = false := (h.fr.good.free f (h.fr.good.lt f (by rw [hfr]; simp))).1 (by rw [hfr]; simp)
  have hfn : f < st.n := h.fr.good.lt f (by rw [hfr]; simp)
  have hnf : ∀ y ∈ fss (p ++ x :: q), y ≠ f := fun y hy e => by have := (h.tkn y hy).2; rw [e, hfree] at this; cases this
  have uS : Touch (fun i => i = x.bc) w3 (w3.setCell ⟨x.bc, 1, none⟩ (.slice a (x.F.length + 1) c)) := (Touch.refl (fun i => i = x.bc) w3).setCell (p := ⟨x.bc, 1, none⟩) rfl _
  have T : Touch (Tx H A Q x) w (w3.setCell ⟨x.bc, 1, none⟩ (.slice a (x.F.length + 1) c)) := ((u.mono (S' := Tx H A Q x) (fun i e => .inl e)).trans b3 (fun i e => .inl (.inr (.inr e)))).trans uS (fun i e => .inl (.inr (.inl e)))
  have hd2 : w3.heap[x.bc]? = some (.cells #[.int .i64 (x.b.length : Nat), x.fv] 79 (0, 0)) := by
    have h0 := (h.ok x mid_of).hd
    have l0 := lt_of_heap h0
    exact (b3.block x.bc (Nat.lt_of_lt_of_le l0 u.size) ap5).trans ((u.block x.bc l0 (fun e => (apB _ e).2.2.1 rfl)).trans h0)
  have hxB : (Value.slice a (x.F.length + 1) c).ownBlock ≠ some x.bc := by
    rcases hv with e | ⟨g, e, hg⟩
    · rw [e]; exact ap5
    · rw [e]; intro e2; injection e2 with e2; have := lt_of_heap (h.ok x mid_of).hd; omega
  have F1 : Fr (w3.setCell ⟨x.bc, 1, none⟩ (.slice a (x.F.length + 1) c)) H A Q (st.take l f) := by
    exact (r.touch b3 (fun i e e2 => (apB i e).2.2.2 e2)).touch uS (fun i e e2 => (apB i e).2.2.1 e2)
  have F2 : PflOk (w3.setCell ⟨x.bc, 1, none⟩ (.slice a (x.F.length + 1) c)) (⟨x.id, x.b, none, x.bc, x.F ++ [f], a, c⟩ : Rfl) := by
    refine ⟨?_, ?_⟩
    · rw [show (⟨x.id, x.b, none, x.bc, x.F ++ [f], a, c⟩ : Rfl).fv = .slice a (x.F.length + 1) c from by unfold Rfl.fv; simp]
      exact heap_setCell_same _ _ 1 _ _ _ hd2
    · rw [show (⟨x.id, x.b, none, x.bc, x.F ++ [f], a, c⟩ : Rfl).fv = .slice a (x.F.length + 1) c from by unfold Rfl.fv; simp, show (⟨x.id, x.b, none, x.bc, x.F ++ [f], a, c⟩ : Rfl).F.length = x.F.length + 1 from by simp]
      exact uS.own own (fun g hg e => hxB (by rw [hg, e]))
  have F3 : ∀ g, (⟨x.id, x.b, none, x.bc, x.F ++ [f], a, c⟩ : Rfl).fv.ownBlock = some g → x.fv.ownBlock = some g ∨ w.heap.size ≤ g := fun g hg => by
    have e : (⟨x.id, x.b, none, x.bc, x.F ++ [f], a, c⟩ : Rfl).fv.ownBlock = (Value.slice a (x.F.length + 1) c).ownBlock := by unfold Rfl.fv; cases a <;> rfl
    rw [e] at hg
    rcases hv with e2 | ⟨g', e2, hg'⟩
    · exact .inl (e2 ▸ hg)
    · rw [e2] at hg; injection hg with hg; exact .inr (by omega)
  have F4 : (fss (p ++ (⟨x.id, x.b, none, x.bc, x.F ++ [f], a, c⟩ : Rfl) :: q)).Nodup := by
    have nd := h.nod
    rw [fss_mid] at nd hnf ⊢
    show (fss p ++ ((x.F ++ [f]) ++ fss q)).Nodup
    rw [List.append_assoc, List.singleton_append]
    have nd1 := List.nodup_append.1 nd
    have nd2 := List.nodup_append.1 nd1.2.1
    rw [List.nodup_append]
    refine ⟨nd1.1, ?_, fun a ha b hb => ?_⟩
    · rw [List.nodup_append]
      refine ⟨nd2.1, List.nodup_cons.2 ⟨fun e => hnf f (by simp [e]) rfl, nd2.2.1⟩, fun a ha b hb => ?_⟩
      rcases List.mem_cons.1 hb with rfl | hb
      · exact hnf a (by simp [ha])
      · exact nd2.2.2 a ha b hb
    · rcases List.mem_append.1 hb with hb | hb
      · exact nd1.2.2 a ha b (List.mem_append_left _ hb)
      · rcases List.mem_cons.1 hb with rfl | hb
        · exact hnf a (by simp [ha])
        · exact nd1.2.2 a ha b (List.mem_append_right _ hb)
  have F5 : ∀ y ∈ fss (p ++ (⟨x.id, x.b, none, x.bc, x.F ++ [f], a, c⟩ : Rfl) :: q), y < (st.take l f).n ∧ (st.take l f).tk y = true := fun y hy => by
    rw [fss_mid] at hy
    show y < st.n ∧ upd st.tk f true y = true
    by_cases e : y = f
    · subst e; exact ⟨hfn, upd_same _ _ _⟩
    · rw [upd_other _ _ e]
      refine h.tkn y ?_
      rw [fss_mid]
      have hy' : y ∈ fss p ++ ((x.F ++ [f]) ++ fss q) := hy
      simp at hy' ⊢
      rcases hy' with hy' | hy' | hy' | hy'
      · exact .inl hy'
      · exact .inr (.inl hy')
      · exact absurd hy' e
      · exact .inr (.inr hy')
  obtain ⟨U', tag', h1, h2, h3⟩ := h.turn T F1 F2 rfl rfl F3 F4 F5
  exact ⟨U', _, tag', h1, h2, h3, rfl, rfl, rfl, rfl⟩
/-- The file's size is another one. -/
theorem SpM.sized {nb : List Int} (h : SpM w U H S A Q M (p ++ x :: q) st tag) :
    ∃ U' tag', SpM (w.setCell ⟨x.bc, 0, none⟩ (.int .i64 (nb.length : Nat))) U' H S A Q M (p ++ ⟨x.id, nb, none, x.bc, x.F, x.fa, x.fc⟩ :: q) st tag' ∧ Touch U w (w.setCell ⟨x.bc, 0, none⟩ (.int .i64 (nb.length : Nat))) ∧ ∀ i, U' i → U i ∨ w.heap.size ≤ i := by
  obtain ⟨apB, apS, apM, ap4, ap5⟩ := h.apart
  have uS : Touch (fun i => i = x.bc) w (w.setCell ⟨x.bc, 0, none⟩ (.int .i64 (nb.length : Nat))) := (Touch.refl (fun i => i = x.bc) w).setCell (p := ⟨x.bc, 0, none⟩) rfl _
  refine h.turn (uS.mono (fun i e => .inr (.inl e))) (h.fr.touch uS (fun i e e2 => (apB i e).2.2.1 e2)) ⟨heap_setCell_same _ _ 0 _ _ _ (h.ok x mid_of).hd, uS.own (h.ok x mid_of).fs (fun g hg e => ap5 (by rw [← e]; exact hg))⟩ rfl rfl (fun g hg => .inl hg) (by have := h.nod; rw [fss_mid] at this ⊢; exact this) (fun f hf => h.tkn f (by rw [fss_mid] at hf ⊢; exact hf))
def GrownTo (w w' : World) (U : Nat → Prop) (H S A Q M : Nat) (p q : List Rfl) (x : Rfl) (st : St) (nb : List Int) : Prop :=
  ∃ U' x' st' tag', SpM w' U' H S A Q M (p ++ x' :: q) st' tag' ∧ Touch U w w' ∧ (∀ i, U' i → U i ∨ w.heap.size ≤ i) ∧ x'.id = x.id ∧ x'.bc = x.bc ∧ x'.b = nb ∧ x'.F.length = blkN nb.length ∧ st'.bt = st.bt ∧ (∃ E, x'.F = x.F ++ E) ∧ st'.fr.length + (blkN nb.length - blkN x.b.length) = st.fr.length
def lenAt (v : Option Value) : Nat := match v with
  | some (.slice _ n _) => n
  | _ => 0
theorem num_one (w : World) (n f : Nat) (hn : n = w.heap.size) : Ints .i64 (w.alloc (.cells #[.int .i64 (f : Int)] 3)) (some ⟨n, 0, none⟩) 1 [(f : Int)] := by
  subst hn
  refine ⟨rfl, fun _ => ⟨_, _, rfl, fun j hj => ?_⟩⟩
  obtain rfl : j = 0 := by omega
  rw [cell_of_row _ _ _ _ _ _ (heap_alloc_new _ _)]; rfl
set_option maxRecDepth 10000 in
set_option maxHeartbeats 4000000 in
theorem grow_any (h : SpM w U H S A Q M (p ++ x :: q) st tag) (hblk : x.F.length = blkN x.b.length) (hx5 : x.b.length ≤ 512) {z : Nat} (hz : z ≤ 512) (hroom : blkN z ≤ x.F.length + st.fr.length) {nb : List Int} (hnb : nb.length = max x.b.length z) :
    Calls Try.prog 41 #[.pointer (some ⟨S, 0, none⟩), .pointer (some ⟨x.bc, 0, none⟩), .int .i64 (z : Int)] w fun e w' => e = .returned (.tuple #[]) ∧ GrownTo w w' U H S A Q M p q x st nb := by
  obtain ⟨bz, hbz⟩ : ∃ bz, bz = blkN z := ⟨_, rfl⟩
  obtain ⟨fl, hfl⟩ : ∃ fl, fl = x.F.length := ⟨_, rfl⟩
  obtain ⟨ol, hol⟩ : ∃ ol, ol = x.b.length := ⟨_, rfl⟩
  have hmx : blkN nb.length = max fl bz := by rw [hnb, hfl, hblk, hbz]; unfold blkN; omega
  have FACT := hide (show bz = blkN z ∧ fl = x.F.length ∧ ol = x.b.length ∧ bz ≤ fl + st.fr.length ∧ ol ≤ 512 ∧ z ≤ 512 ∧ bz ≤ 8 ∧ fl ≤ 8 ∧ fl = blkN x.b.length ∧ nb.length = max ol z ∧ blkN nb.length = max fl bz from
    ⟨hbz, hfl, hol, by rw [hbz, hfl]; exact hroom, by rw [hol]; exact hx5, hz, by rw [hbz]; exact blkN_le8 _ hz, by rw [hfl, hblk]; exact blkN_le8 _ hx5, by rw [hfl, hblk], by rw [hol]; exact hnb, hmx⟩)
  have G0 := hide (show Grp w w U H S A Q M p q x st 0 U x st tag from ⟨h, Touch.refl _ _, fun i e => .inl e, rfl, rfl, rfl, rfl, ⟨[], by simp, rfl⟩, rfl⟩)
  clear h hblk hx5 hroom hnb hbz hfl hol hmx
  have z5 : (z : Int) ≤ 512 := by omega
  go_enter Try.func41, Try.ntmps41
  go_wp2_with fail
  go_loopw [6] (fun v wr => ∃ (k : Nat) (U' : Nat → Prop) (x' : Rfl) (st' : St) (tag' : Nat → Int), k ≤ bz - fl ∧ Hid (Grp w wr U H S A Q M p q x st k U' x' st' tag')) (fun v wr => lenAt (wr.cell? ⟨H, 1, none⟩))
  case atStart => exact ⟨0, _, _, _, _, Nat.zero_le _, G0.out⟩
  case round =>
    clear G0
    obtain ⟨k, U', x', st', tag', hk, hG⟩ := hrel
    have BK := hide (show ∀ m, Calls Try.prog 48 #[.int .i64 (z : Int)] (wr.drewN m) fun e w' => e = .returned (.int .i64 (bz : Int)) ∧ ∃ n, w' = wr.drewN n from fun m => (blocks_any _ z (by omega)).mono fun e w' ⟨a, b⟩ => ⟨by rw [FACT.out.1]; exact a, m, b.symm⟩)
    obtain ⟨fn, hfn⟩ : ∃ fn, fn = x'.F.length := ⟨_, rfl⟩
    have FN := hide (show fn = fl + k ∧ fn = x'.F.length from ⟨by obtain ⟨E, e1, e2⟩ := hG.out.F; rw [hfn, e1, List.length_append, e2, FACT.out.2.1], hfn⟩)
    have c1 := (hG.out.m.ok x' mid_of).c1
    rw [hG.out.bc] at c1
    unfold Rfl.fv at c1
    rw [← hfn] at c1
    have n1 : (bz : Int) ≤ 8 := by have := FACT.out; omega
    have n2 : (fn : Int) ≤ 16 := by have := FACT.out; have := FN.out; omega
    clear hfn
    by_cases hlt : fn < bz
    · have n3 : (fn : Int) < (bz : Int) := by omega
      obtain ⟨l, f, hfr⟩ : ∃ l f, st'.fr = l ++ [f] := by
        rcases List.eq_nil_or_concat st'.fr with e | ⟨l, f, e⟩
        · have h1 := hG.out.fr
          rw [e] at h1
          have h2 : 0 + k = st.fr.length := h1
          have := FACT.out; have := FN.out; omega
        · exact ⟨l, f, by rw [e, List.concat_eq_append]⟩
      have TK := hide (fun m => take_ok (hG.out.m.fr.below (below_drewN (Below.refl wr.heap.size wr) m)) hfr)
      have HFR := hide hfr
      have c0 := hG.out.m.c0
      have AP := hide hG.out.m.apart
      clear hfr
      go_upto_region 0 with fail
      go_quiet ((first
        | (go_at_call 48; exact BK.out _)))
      go_upto_region 2 with (go_at_call 49; refine (TK.out _).mono ?_; rintro e w2 ⟨rfl, r2, u2⟩; have R2 := hide r2; have U2 := hide (((Touch.refl (Blk H A Q) wr).drewN _).trans u2 (fun i e => .inl e)); clear r2 u2)
      obtain ⟨i0, hi0, hz0, hz1, hz2⟩ := info_parts int_info
      have OK := hG.out.m.ok x' mid_of
      have ev : x'.fv = .slice x'.fa fn x'.fc := by rw [FN.out.2]; rfl
      have EV := hide ev
      have EB := hide hG.out.bc
      have apx : ∀ i, Blk H A Q i → i ≠ x.bc ∧ x'.fv.ownBlock ≠ some i := fun i hi => by rw [← EB.out]; exact ⟨(AP.out.1 i hi).2.2.1, (AP.out.1 i hi).2.2.2⟩
      have CL := hide (fun (W : World) (u : Touch (Blk H A Q) wr W) => show W.cell? ⟨x.bc, 1, none⟩ = some (.slice x'.fa fn x'.fc) ∧ W.heap[x.bc]? = some (.cells #[.int .i64 (x'.b.length : Nat), .slice x'.fa fn x'.fc] 79 (0, 0)) ∧ W.ownsRow 0 3 1 (.slice x'.fa fn x'.fc) fn ((nums x'.F).map (Value.int .i64)) from by
        have h0 := OK.hd
        rw [EB.out, EV.out] at h0
        have h1 := (u.block x.bc (lt_of_heap h0) (fun e => (apx _ e).1 rfl)).trans h0
        have h2 := u.own OK.fs (fun g hg e => (apx g e).2 hg)
        rw [EV.out, ← FN.out.2] at h2
        exact ⟨by rw [cell_of_row _ _ _ _ _ _ h1]; rfl, h1, h2⟩)
      obtain ⟨e1, h1, h2⟩ := CL.out w2 U2.out
      have H1 := hide h1
      have H2 := hide h2
      have lB := lt_of_heap h1
      have e2 : (w2.alloc (.cells #[.int .i64 (f : Int)] 3)).cell? ⟨x.bc, 1, none⟩ = some (.slice x'.fa fn x'.fc) := ((Below.refl w2.heap.size w2).alloc (Nat.le_refl _) _).cell lB |>.trans e1
      have OW := hide (show (w2.alloc (.cells #[.int .i64 (f : Int)] 3)).ownsRow 0 3 1 (.slice x'.fa fn x'.fc) fn ((nums x'.F).map (Value.int .i64)) from (Touch.of_below (S := fun _ => False) ((Below.refl w2.heap.size w2).alloc (Nat.le_refl _) _)).own h2 (fun _ _ e => e))
      have NI := hide (num_one w2 w2.heap.size f rfl)
      have F16 := hide (show fn + 1 ≤ 17 from by omega)
      have LB := hide lB
      have HB1 := hide (show (w2.alloc (.cells #[.int .i64 (f : Int)] 3)).heap[x.bc]? = some (.cells #[.int .i64 (x'.b.length : Nat), .slice x'.fa fn x'.fc] 79 (0, 0)) from (heap_alloc_old _ _ lB).trans h1)
      clear h1 h2 OK ev apx lB c1 c0
      go_wp2_with (at_builtin; refine wpList_append_src rfl (.tmp 28) (.tmp 30) 67 rfl 0 3 i0 _ 8 Try.underlying67 hi0 hz0 hz1 hz2 rfl (.slice x'.fa fn x'.fc) fn ((nums x'.F).map (Value.int .i64)) rfl OW.out .i64 (some ⟨w2.heap.size, 0, none⟩) 1 1 [(f : Int)] rfl NI.out (fun e => by cases e) (by have := F16.out; unfold maxLen; omega) (by have := F16.out; omega) (Nat.zero_le _) ?_; intro v4 w4 o4 g4 t4; obtain ⟨a4, c4, rfl, -⟩ := own_sliceR o4; have O4 := hide o4; have G4 := hide g4; have T4 := hide t4; have HB4 := hide (show w4.heap[x.bc]? = some (.cells #[.int .i64 (x'.b.length : Nat), .slice x'.fa fn x'.fc] 79 (0, 0)) from ((Touch.of_grown (S := fun i => x'.fv.ownBlock = some i) g4 (fun g e => by rw [EV.out]; exact e)).block x.bc (by have := LB.out; simp; omega) (fun e => AP.out.2.2.2.2 (by rw [EB.out]; exact e))).trans HB1.out); have e4 : w4.cell? ⟨x.bc, 1, none⟩ = some (.slice x'.fa fn x'.fc) := (by rw [cell_of_row _ _ _ _ _ _ HB4.out]; rfl); have z4 : w4.frozen? ⟨x.bc, 1, none⟩ = false := frozen_of_row _ _ _ _ _ HB4.out; clear o4 g4 t4)
      have b3 : Touch (fun i => x'.fv.ownBlock = some i) w2 w4 := ((Touch.refl (fun i => x'.fv.ownBlock = some i) w2).alloc _).trans (Touch.of_grown (S := fun i => x'.fv.ownBlock = some i) G4.out (fun g e => by rw [EV.out]; exact e)) (fun i e => .inl e)
      have own4 : w4.ownsRow 0 3 1 (.slice a4 (fn + 1) c4) (x'.F.length + 1) ((nums (x'.F ++ [f])).map (Value.int .i64)) := by
        rw [← FN.out.2, show nums (x'.F ++ [f]) = nums x'.F ++ [(f : Int)] from by simp [nums], List.map_append]
        exact O4.out
      have hv4 : (Value.slice a4 (fn + 1) c4).ownBlock = x'.fv.ownBlock ∨ ∃ g, (Value.slice a4 (fn + 1) c4).ownBlock = some g ∧ wr.heap.size ≤ g := by
        rcases T4.out with e | e
        · exact .inl (by rw [e, EV.out])
        · exact .inr ⟨_, e, by have := U2.out.size; simp; omega⟩
      obtain ⟨U5, x5, tag5, m5, t5, s5, q1, q2, q3, q4⟩ := hG.out.m.grown HFR.out R2.out U2.out b3 own4 hv4
      rw [EB.out] at m5 t5
      have G5 := hide (hG.out.next m5 t5 s5 q1 q2 q3 rfl q4 (by rw [HFR.out]; show l.length + 1 = _; simp))
      have ME := hide (show lenAt ((w4.setCell ⟨x.bc, 1, none⟩ (.slice a4 (fn + 1) c4)).cell? ⟨H, 1, none⟩) < lenAt (wr.cell? ⟨H, 1, none⟩) from by
        rw [m5.fr.h1, hG.out.m.fr.h1, HFR.out]
        show l.length < (l ++ [f]).length
        simp)
      clear m5 t5 s5 q1 q2 q3 q4 b3 own4 hv4
      go_roundw
      case rel => exact ⟨k + 1, _, _, _, _, by have := FACT.out; have := FN.out; omega, G5.out⟩
      case measure => exact ME.out
    · have n3 : ¬ (fn : Int) < (bz : Int) := by omega
      have c0 := (hG.out.m.ok x' mid_of).c0
      have z0 := (hG.out.m.ok x' mid_of).f 0
      rw [hG.out.bc] at c0 z0
      rw [hG.out.b, ← FACT.out.2.2.1] at c0
      obtain ⟨nl, hnl⟩ : ∃ nl, nl = nb.length := ⟨_, rfl⟩
      have NL := hide (show nl = nb.length ∧ nl = max ol z from ⟨hnl, by rw [hnl]; exact FACT.out.2.2.2.2.2.2.2.2.2.1⟩)
      have m1 : (if (ol : Int) < (z : Int) then (z : Int) else (ol : Int)) = (nl : Int) := by have := NL.out; split <;> omega
      have m2 : (if ol < z then (z : Int) else (ol : Int)) = (nl : Int) := by have := NL.out; split <;> omega
      have m3 : (ol : Int) ≤ 512 := by have := FACT.out; omega
      clear hnl
      go_upto_region 0 with fail
      go_quiet ((first
        | (go_at_call 48; exact BK.out _)))
      go_wp2_with fail
      refine bodyPost_end (results_none rfl _ _ _) rfl ?_
      refine ⟨rfl, ?_⟩
      have hd := hG.out.m.below (below_drewN (Below.refl wr.heap.size wr) nq)
      obtain ⟨U5, tag5, m5, t5, s5⟩ := hd.sized (nb := nb)
      rw [hG.out.bc, ← NL.out.1] at m5 t5
      obtain ⟨E, hE, hEl⟩ := hG.out.F
      refine ⟨U5, _, st', tag5, m5, hG.out.tch.trans (((Touch.refl U' wr).drewN nq).trans t5 (fun i e => .inl e)) hG.out.sub, fun i hi => ?_, hG.out.id, rfl, rfl, ?_, hG.out.bt, ⟨E, hE⟩, ?_⟩
      · rcases s5 i hi with e | e
        · exact hG.out.sub i e
        · exact .inr (Nat.le_trans hG.out.tch.size e)
      · show x'.F.length = _
        have := FACT.out; have := FN.out; omega
      · have := FACT.out; have := FN.out; have := hG.out.fr; omega
end
end Go.Proofs.Ytipepklobpnbpaa
