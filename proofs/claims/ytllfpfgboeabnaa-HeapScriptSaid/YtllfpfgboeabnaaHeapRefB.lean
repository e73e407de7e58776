/-
  Contract of the document's own Push on heaps (coxswainref3): an item is put into its place.
-/
import Derived.Test.YtllfpfgboeabnaaHeapRefA
import Derived.Deep.RegionHeld3
namespace Go.Proofs.Ytllfpfgboeabnaa
open Go.ChangeShapes Go.WideShapes Go.ChangeAt Go.RowKit
set_option linter.unusedVariables false
theorem ritem_info : (Try.prog.info? 40).map (fun i => (i.zero, i.size, i.bytes)) = some (some (.agg #[.int .i64 0, .int .i64 0]), 2, 16) := by kernel_rfl
def Srt (L : List (Int × Int)) : Prop := L.Pairwise fun a b => due b a = false
/-- What has been put together behind k rounds. -/
def Ins (x : Int × Int) (L : List (Int × Int)) (k : Nat) (inn : Bool) (acc : List (Int × Int)) : Prop :=
  match inn with
  | false => acc = L.take k ∧ ∀ j, j < k → due x (it L j) = false
  | true => ∃ p, p < k ∧ acc = L.take p ++ x :: (L.drop p).take (k - p) ∧ (∀ j, j < p → due x (it L j) = false) ∧ due x (it L p) = true
theorem take_snoc_it (L : List (Int × Int)) (k : Nat) (h : k < L.length) : L.take (k + 1) = L.take k ++ [it L k] := by
  rw [List.take_succ_eq_append_getElem h, it_get h]
theorem ins_pass {x : Int × Int} {L acc : List (Int × Int)} {k : Nat} (h : Ins x L k false acc) (hk : k < L.length) (hd : due x (it L k) = false) : Ins x L (k + 1) false (acc ++ [it L k]) := by
  obtain ⟨e, hj⟩ := h
  refine ⟨by rw [e, take_snoc_it L k hk], fun j hjk => ?_⟩
  by_cases e2 : j = k
  · rw [e2]; exact hd
  · exact hj j (by omega)
theorem ins_in {x : Int × Int} {L acc : List (Int × Int)} {k : Nat} (h : Ins x L k false acc) (hk : k < L.length) (hd : due x (it L k) = true) : Ins x L (k + 1) true ((acc ++ [x]) ++ [it L k]) := by
  obtain ⟨e, hj⟩ := h
  refine ⟨k, by omega, ?_, hj, hd⟩
  have e1 : (L.drop k).take (k + 1 - k) = [it L k] := by
    rw [show k + 1 - k = 1 by omega, List.drop_eq_getElem_cons hk, it_get hk]; rfl
  rw [e, e1, List.append_assoc]; rfl
theorem ins_on {x : Int × Int} {L acc : List (Int × Int)} {k : Nat} (h : Ins x L k true acc) (hk : k < L.length) : Ins x L (k + 1) true (acc ++ [it L k]) := by
  obtain ⟨p, hp, e, hj, hd⟩ := h
  refine ⟨p, by omega, ?_, hj, hd⟩
  have e1 : (L.drop p).take (k + 1 - p) = (L.drop p).take (k - p) ++ [it L k] := by
    rw [show k + 1 - p = (k - p) + 1 by omega, List.take_succ_eq_append_getElem (by rw [List.length_drop]; omega), List.getElem_drop]
    congr 2
    rw [it_get hk]; congr 1; omega
  rw [e, e1, List.append_assoc]; rfl
theorem ins_len {x : Int × Int} {L acc : List (Int × Int)} {k : Nat} {inn : Bool} (h : Ins x L k inn acc) (hk : k ≤ L.length) : acc.length ≤ k + 1 := by
  cases inn with
  | false =>
    obtain ⟨e, _⟩ := h
    rw [e, List.length_take]; omega
  | true =>
    obtain ⟨p, hp, e, _⟩ := h
    rw [e, List.length_append, List.length_cons, List.length_take, List.length_take, List.length_drop]; omega
/-- Where it comes to stand: some place p. -/
theorem ins_end {x : Int × Int} {L acc : List (Int × Int)} {inn : Bool} (h : Ins x L L.length inn acc) (hs : Srt L) : (if inn then acc else acc ++ [x]).Perm (L ++ [x]) ∧ Srt (if inn then acc else acc ++ [x]) := by
  have key : ∀ p, p ≤ L.length → (∀ j, j < p → due x (it L j) = false) → (p < L.length → due x (it L p) = true) → (L.take p ++ x :: L.drop p).Perm (L ++ [x]) ∧ Srt (L.take p ++ x :: L.drop p) := by
    intro p hp h1 h2
    refine ⟨?_, ?_⟩
    · have e : (x :: (L.take p ++ L.drop p)).Perm (L ++ [x]) := by
        rw [List.take_append_drop]; exact List.perm_append_comm (l₁ := [x])
      exact List.perm_middle.trans e
    · have hs1 : Srt (L.take p ++ L.drop p) := by rw [List.take_append_drop]; exact hs
      obtain ⟨s1, s2, s3⟩ := List.pairwise_append.1 hs1
      refine List.pairwise_append.2 ⟨s1, List.pairwise_cons.2 ⟨fun y hy => ?_, s2⟩, fun a ha b hb => ?_⟩
      · rcases Nat.lt_or_ge p L.length with hlt | hge
        · have hh := h2 hlt
          have e : L.drop p = it L p :: L.drop (p + 1) := by rw [List.drop_eq_getElem_cons hlt, it_get hlt]
          rw [e] at hy s2
          rcases List.mem_cons.1 hy with rfl | hy
          · exact due_asymm hh
          · exact due_lt_le hh ((List.pairwise_cons.1 s2).1 y hy)
        · rw [List.drop_eq_nil_of_le hge] at hy; cases hy
      · obtain ⟨j, hj, rfl⟩ := List.getElem_of_mem ha
        have hj' : j < p := by rw [List.length_take] at hj; omega
        have hjx : due x (it L j) = false := h1 j hj'
        rw [List.getElem_take, ← it_get (by omega)]
        rcases List.mem_cons.1 hb with rfl | hb
        · exact hjx
        · have := s3 (it L j) (by rw [it_get (by omega)]; rw [List.getElem_take] at ha; exact ha) b hb
          exact this
  cases inn with
  | false =>
    obtain ⟨e, hj⟩ := h
    have := key L.length (Nat.le_refl _) hj (fun h => by omega)
    rw [List.drop_length, List.take_length] at this
    rw [List.take_length] at e
    simp only [Bool.false_eq_true, if_false]
    rw [e]; exact this
  | true =>
    obtain ⟨p, hp, e, hj, hd⟩ := h
    have := key p (by omega) hj (fun _ => hd)
    have e2 : (L.drop p).take (L.length - p) = L.drop p := List.take_of_length_le (by rw [List.length_drop]; exact Nat.le_refl _)
    rw [e2] at e
    simp only [if_true]
    rw [e]; exact this
/-- The row that is put together, and the block of the item. -/
structure Acc (w wr : World) (x : Int × Int) (v : Value) (acc : List (Int × Int)) : Prop where
  own : wr.ownsRow w.heap.size 40 2 v acc.length (cellsIt acc)
  bel : Below w.heap.size w wr
  blk : wr.heap[w.heap.size]? = some (.cells #[.int .i64 x.1, .int .i64 x.2] 40 (0, 0))
  ne : v.ownBlock ≠ some w.heap.size
theorem Acc.below {w wr w' : World} {x : Int × Int} {v : Value} {acc : List (Int × Int)} (h : Acc w wr x v acc) (hb : Below wr.heap.size wr w') : Acc w w' x v acc :=
  ⟨own_keep h.own (fun g hg => hb.block g (h.own.lt g hg).2), h.bel.trans (hb.mono h.bel.size), (hb.block _ (Array.getElem?_eq_some_iff.1 h.blk).1).trans h.blk, h.ne⟩
theorem Acc.next {w wr w1 : World} {x y : Int × Int} {v : Value} {acc : List (Int × Int)} {o : Obj} {gg cap : Nat} (h : Acc w wr x v acc) (hown : w1.ownsRow w.heap.size 40 2 (.slice (some ⟨gg, 0, none⟩) (acc.length + 1) cap) (acc.length + 1) (cellsIt acc ++ [.int .i64 y.1, .int .i64 y.2]))
    (hg : (wr.alloc o).grownBy w1 v.ownBlock) (hat : v.ownBlock = some gg ∨ gg = wr.heap.size + 1) : Acc w w1 x (.slice (some ⟨gg, 0, none⟩) (acc.length + 1) cap) (acc ++ [y]) := by
  have hX := (Array.getElem?_eq_some_iff.1 h.blk).1
  refine ⟨?_, (h.bel.alloc h.bel.size _).grown hg (by have := h.bel.size; simp; omega) (fun k hk => (h.own.lt k hk).1), ?_, ?_⟩
  · rw [cellsIt_append, List.length_append]; exact hown
  · exact (hg.block _ (by simp; omega) (Ne.symm h.ne)).trans ((RowKit.Below.heap_alloc wr o _ hX).trans h.blk)
  · intro e
    have e := slice_block e
    rcases hat with h1 | h1
    · exact h.ne (by rw [h1, e])
    · omega
/-- What is put together is laid into the list's block. -/
theorem rpush_end {w wr : World} {G : Nat → Prop} {R : Nat} {L acc : List (Int × Int)} {x : Int × Int} {v : Value} (h : Lst w G R L) (hA : Acc w wr x v acc) (hp : acc.Perm (L ++ [x])) (hs : Srt acc) :
    ∃ G' L', Lst (wr.setCell ⟨R, 0, none⟩ v) G' R L' ∧ L'.Perm (L ++ [x]) ∧ Srt L' ∧ Touch G w (wr.setCell ⟨R, 0, none⟩ v) ∧ ∀ i, G' i → G i ∨ w.heap.size ≤ i := by
  obtain ⟨u, h1, h2, gR, gv, gl⟩ := h
  have hR := gl R gR
  have hb := hA.bel
  have r1 := (hb.block R hR).trans h1
  have ne : v.ownBlock ≠ some R := fun e => by have := (hA.own.lt R e).1; omega
  refine ⟨fun i => G i ∨ (w.heap.size ≤ i ∧ i < wr.heap.size), acc, ⟨v, ?_, own_base (own_keep hA.own (fun g hg => heap_setCell_other _ _ _ _ (fun e => ?_))) (Nat.zero_le _), .inl gR, fun g hg => .inr (hA.own.lt g hg), fun i hi => ?_⟩, hp, hs, (Touch.of_below hb).setCell (p := ⟨R, 0, none⟩) gR v, fun i hi => hi.elim .inl (fun e => .inr e.1)⟩
  · rw [heap_setCell_same _ _ _ _ _ _ r1]; rfl
  · exact ne (by rw [hg]; exact congrArg some e)
  · have : i < wr.heap.size := by
      rcases hi with hi | hi
      · exact Nat.lt_of_lt_of_le (gl i hi) hb.size
      · exact hi.2
    simpa [World.setCell] using this
set_option maxHeartbeats 4000000 in
theorem rpush_ok {w : World} {G : Nat → Prop} {R : Nat} {L : List (Int × Int)} (h : Lst w G R L) (hs : Srt L) (id key : Int) (h0 : 0 ≤ id) (hno : ∀ k, k < L.length → (it L k).1 ≠ id) (hn : L.length ≤ 800000) :
    Calls Try.prog 11 #[.pointer (some ⟨R, 0, none⟩), .int .i64 id, .int .i64 key] w fun e w' => e = .returned (.int .i64 0) ∧
      ∃ G' L', Lst w' G' R L' ∧ L'.Perm (L ++ [(id, key)]) ∧ Srt L' ∧ Touch G w w' ∧ ∀ i, G' i → G i ∨ w.heap.size ≤ i := by
  obtain ⟨i0, hi0, hz0, hz1, hz2⟩ := info_parts ritem_info
  have HL := hide h
  have HS := hide hs
  have HA := hide (at_no h id hno (by omega))
  obtain ⟨A, c, c0, ho, fr, hR, hnc, hcm, hA, hcell, hoR⟩ := h.open_
  have HC := hide hcell
  have h0' : ¬ id < 0 := by omega
  have A0 : Acc w (w.alloc (.cells #[.int .i64 id, .int .i64 key] 40)) (id, key) (.slice none 0 0) [] :=
    ⟨World.ownsRow_nil _ _ _ _, (Below.refl _ _).alloc (Nat.le_refl _) _, heap_alloc_new w _, fun e => by cases e⟩
  have I0 : Ins (id, key) L 0 false [] := ⟨rfl, fun j hj => by omega⟩
  have HA0 := hide A0
  have HI0 := hide I0
  have HZ := hide hz2
  clear h hs hno ho hcell hA hcm A0 I0 hoR hz2
  go_enter Try.func11, Try.ntmps11
  go_wp2_with (go_at_call 27; with_reducible refine HA.out.mono ?_; rintro e w' ⟨rfl, rfl⟩)
  go_loopw [8, 9, 10] (fun l inn i wr => ∃ (k : Nat) (b : Bool) (acc : List (Int × Int)) (v : Value), k ≤ L.length ∧ i = .int .i64 (k : Int) ∧ inn = .bool b ∧ v = l ∧ Hid (Acc w wr (id, key) v acc) ∧ Hid (Ins (id, key) L k b acc)) (fun _ _ i _ => L.length - (intOf i).toNat)
  case atStart => exact ⟨0, false, [], .slice none 0 0, Nat.zero_le _, rfl, rfl, rfl, HA0, HI0⟩
  case round =>
    clear HA0 HI0
    obtain ⟨k, b, acc, v, hk, rfl, rfl, rfl, hAc, hIn⟩ := hrel
    have hlen := ins_len hIn.out hk
    by_cases hlt : k < L.length
    · obtain ⟨g, rfl, hg, _, d0, d1⟩ := HC.out k hlt
      obtain ⟨y, hy⟩ : ∃ y, y = it L k := ⟨_, rfl⟩
      rw [← hy] at d0 d1
      have FR0 := fun (W : World) (v : Value) (acc : List (Int × Int)) (h : Acc w W (id, key) v acc) => (h.bel.cell (p := ⟨R, 0, none⟩) hR).trans c0
      have FX0 : ∀ (W : World) (v : Value) (acc : List (Int × Int)), Acc w W (id, key) v acc → W.cell? ⟨w.heap.size, 0, none⟩ = some (.int .i64 id) ∧ W.cell? ⟨w.heap.size, 1, none⟩ = some (.int .i64 key) ∧ w.heap.size < W.heap.size := fun W v acc h =>
        ⟨by rw [cell_of_row _ _ _ _ _ _ h.blk]; rfl, by rw [cell_of_row _ _ _ _ _ _ h.blk]; rfl, (Array.getElem?_eq_some_iff.1 h.blk).1⟩
      have FY0 : ∀ (W : World) (v : Value) (acc : List (Int × Int)), Acc w W (id, key) v acc → W.cell? ⟨g, k * 2, none⟩ = some (.int .i64 y.1) ∧ W.cell? ⟨g, k * 2 + 1, none⟩ = some (.int .i64 y.2) ∧ g < W.heap.size := fun W v acc h =>
        ⟨(h.bel.cell (p := ⟨g, k * 2, none⟩) hg).trans d0, (h.bel.cell (p := ⟨g, k * 2 + 1, none⟩) hg).trans d1, Nat.lt_of_lt_of_le hg h.bel.size⟩
      have FR := hide FR0
      have FX := hide FX0
      have FY := hide FY0
      have HY := hide hy
      have k0 : (0 : Int) ≤ (k : Int) := by omega
      have k1 : (k : Int) < (L.length : Int) := by omega
      clear d0 d1 c0 hy HC HL HS HA FR0 FX0 FY0
      have Rl : R < wr.heap.size := Nat.lt_of_lt_of_le hR hAc.out.bel.size
      have r0 := FR.out wr _ _ hAc.out
      have ex := FX.out wr _ _ hAc.out
      have ey := FY.out wr _ _ hAc.out
      obtain ⟨x0, x1, xl⟩ := ex
      obtain ⟨e0, e1, gl⟩ := ey
      cases b with
      | true =>
        have hI2 := hide (ins_on hIn.out hlt)
        rw [← HY.out] at hI2
        clear hIn
        go_wp2_with fail
        go_quiet (fail)
        generalize hwq : wr.drewN _ = wq
        obtain ⟨nq, hq⟩ : ∃ nq, wq = wr.drewN nq := ⟨_, hwq.symm⟩
        have hAq : Hid (Acc w wq (id, key) v acc) := by
          rw [hq]; exact hAc.out.below (below_drewN (Below.refl _ _) nq)
        clear hwq hq hAc r0 x0 x1 xl e0 e1 gl Rl
        have r0 := FR.out wq _ _ hAq.out
        have ex := FX.out wq _ _ hAq.out
        have ey := FY.out wq _ _ hAq.out
        obtain ⟨x0, x1, xl⟩ := ex
        obtain ⟨e0, e1, gl⟩ := ey
        go_wp2_with (at_builtin; refine wpList_append_lies _ rfl (.tmp 46) (.tmp 54) _ rfl w.heap.size 40 i0 _ 2 16 Try.underlying27 hi0 hz0 hz1 HZ.out rfl (by omega) _ _ _ rfl (hAq.out.own.alloc _) ⟨wq.heap.size, 0, none⟩ 1 1 [.int .i64 y.1, .int .i64 y.2] rfl rfl (World.news_of_block (cs := #[.int .i64 y.1, .int .i64 y.2]) (t := 40) (fr := (0, 0)) (heap_alloc_new wq _)) (by simp [Value.oneCell']) (by omega) (by unfold maxLen; omega) (by omega) (by have := hAq.out.bel.size; simp; omega) (wq.heap.size + 1) (by simp) ?_; intro gg cap w7 hown hgrow hat hlt7)
        have hA' := hide (hAq.out.next hown hgrow hat)
        clear hown hgrow hat hlt7 hAq r0 x0 x1 xl e0 e1 gl
        go_wp2_with fail
        go_roundw
        case rel => exact ⟨k + 1, true, _, _, by omega, by go_num, rfl, rfl, hA', hI2⟩
        case measure => simp [intOf]; omega
      | false =>
        cases hdd : due (id, key) y with
        | true =>
          have hd := hide hdd
          have hI2 := hide (ins_in hIn.out hlt (by rw [← HY.out]; exact hdd))
          rw [← HY.out] at hI2
          clear hIn hdd
          go_wp2_with fail
          go_region_held3 (fun w' => w'.cell? ⟨R, 0, none⟩ = some (.slice (some ⟨g, 0, none⟩) L.length c) ∧ w'.cell? ⟨w.heap.size, 0, none⟩ = some (.int .i64 id) ∧ w'.cell? ⟨w.heap.size, 1, none⟩ = some (.int .i64 key) ∧ w'.cell? ⟨g, k * 2, none⟩ = some (.int .i64 y.1) ∧ w'.cell? ⟨g, k * 2 + 1, none⟩ = some (.int .i64 y.2)) (first | exact ⟨r0, x0, x1, e0, e1⟩ | exact ⟨(hb.cell Rl).trans r0, (hb.cell xl).trans x0, (hb.cell xl).trans x1, (hb.cell gl).trans e0, (hb.cell gl).trans e1⟩) (first | (go_at_call 28; refine (rless_any (id, key) y _).mono ?_; rw [hd.out]; rintro e w2 ⟨rfl, hb⟩))
          have hA2 := hide (hAc.out.below (below_undrew hb))
          clear hb r0 x0 x1 e0 e1 xl gl hAc
          have r0 := FR.out w2 _ _ hA2.out
          have ex := FX.out w2 _ _ hA2.out
          have ey := FY.out w2 _ _ hA2.out
          obtain ⟨x0, x1, xl⟩ := ex
          obtain ⟨e0, e1, gl⟩ := ey
          have hl4 : (acc ++ [(id, key)]).length ≤ 900000 := by rw [List.length_append, List.length_singleton]; omega
          go_wp2_with (first | (at_builtin; refine wpList_append_lies _ rfl (.tmp 42) (.tmp 44) _ rfl w.heap.size 40 i0 _ 2 16 Try.underlying27 hi0 hz0 hz1 HZ.out rfl (by omega) _ _ _ rfl (hA2.out.own.alloc _) ⟨w2.heap.size, 0, none⟩ 1 1 [.int .i64 id, .int .i64 key] rfl rfl (World.news_of_block (cs := #[.int .i64 id, .int .i64 key]) (t := 40) (fr := (0, 0)) (heap_alloc_new w2 _)) (by simp [Value.oneCell']) (by omega) (by unfold maxLen; omega) (by omega) (by have := hA2.out.bel.size; simp; omega) (w2.heap.size + 1) (by simp) ?_; intro gg cap w7 hown hgrow hat hlt7; have hA3 := hide (hA2.out.next (y := (id, key)) hown hgrow hat); have r0 := FR.out w7 _ _ hA3.out; obtain ⟨x0, x1, xl⟩ := FX.out w7 _ _ hA3.out; obtain ⟨e0, e1, gl⟩ := FY.out w7 _ _ hA3.out; clear hown hgrow hat hlt7 hA2) | (at_builtin; refine wpList_append_lies _ rfl (.tmp 46) (.tmp 54) _ rfl w.heap.size 40 i0 _ 2 16 Try.underlying27 hi0 hz0 hz1 HZ.out rfl (by omega) _ _ _ rfl (hA3.out.own.alloc _) ⟨w7.heap.size, 0, none⟩ 1 1 [.int .i64 y.1, .int .i64 y.2] rfl rfl (World.news_of_block (cs := #[.int .i64 y.1, .int .i64 y.2]) (t := 40) (fr := (0, 0)) (heap_alloc_new w7 _)) (by simp [Value.oneCell']) (by omega) (by unfold maxLen; omega) (by omega) (by have := hA3.out.bel.size; simp; omega) (w7.heap.size + 1) (by simp) ?_; intro gg4 cap4 w8 hown hgrow hat hlt7))
          have hA' := hide (hA3.out.next hown hgrow hat)
          rw [show (acc ++ [(id, key)]).length + 1 = acc.length + 1 + 1 by rw [List.length_append, List.length_singleton]] at hA'
          clear hown hgrow hat hlt7 hA3 r0 x0 x1 xl e0 e1 gl
          go_wp2_with fail
          go_roundw
          case rel => exact ⟨k + 1, true, _, _, by omega, by go_num, rfl, rfl, hA', hI2⟩
          case measure => simp [intOf]; omega
        | false =>
          have hd := hide hdd
          have hI2 := hide (ins_pass hIn.out hlt (by rw [← HY.out]; exact hdd))
          rw [← HY.out] at hI2
          clear hIn hdd
          go_wp2_with fail
          go_region_held3 (fun w' => w'.cell? ⟨R, 0, none⟩ = some (.slice (some ⟨g, 0, none⟩) L.length c) ∧ w'.cell? ⟨w.heap.size, 0, none⟩ = some (.int .i64 id) ∧ w'.cell? ⟨w.heap.size, 1, none⟩ = some (.int .i64 key) ∧ w'.cell? ⟨g, k * 2, none⟩ = some (.int .i64 y.1) ∧ w'.cell? ⟨g, k * 2 + 1, none⟩ = some (.int .i64 y.2)) (first | exact ⟨r0, x0, x1, e0, e1⟩ | exact ⟨(hb.cell Rl).trans r0, (hb.cell xl).trans x0, (hb.cell xl).trans x1, (hb.cell gl).trans e0, (hb.cell gl).trans e1⟩) (first | (go_at_call 28; refine (rless_any (id, key) y _).mono ?_; rw [hd.out]; rintro e w2 ⟨rfl, hb⟩))
          have hA2 := hide (hAc.out.below (below_undrew hb))
          clear hb r0 x0 x1 e0 e1 xl gl hAc
          have r0 := FR.out w2 _ _ hA2.out
          have ex := FX.out w2 _ _ hA2.out
          have ey := FY.out w2 _ _ hA2.out
          obtain ⟨x0, x1, xl⟩ := ex
          obtain ⟨e0, e1, gl⟩ := ey
          go_wp2_with (at_builtin; refine wpList_append_lies _ rfl (.tmp 46) (.tmp 54) _ rfl w.heap.size 40 i0 _ 2 16 Try.underlying27 hi0 hz0 hz1 HZ.out rfl (by omega) _ _ _ rfl (hA2.out.own.alloc _) ⟨w2.heap.size, 0, none⟩ 1 1 [.int .i64 y.1, .int .i64 y.2] rfl rfl (World.news_of_block (cs := #[.int .i64 y.1, .int .i64 y.2]) (t := 40) (fr := (0, 0)) (heap_alloc_new w2 _)) (by simp [Value.oneCell']) (by omega) (by unfold maxLen; omega) (by omega) (by have := hA2.out.bel.size; simp; omega) (w2.heap.size + 1) (by simp) ?_; intro gg cap w7 hown hgrow hat hlt7)
          have hA' := hide (hA2.out.next hown hgrow hat)
          clear hown hgrow hat hlt7 hA2 r0 x0 x1 xl e0 e1 gl
          go_wp2_with fail
          go_roundw
          case rel => exact ⟨k + 1, false, _, _, by omega, by go_num, rfl, rfl, hA', hI2⟩
          case measure => simp [intOf]; omega
    · obtain rfl : k = L.length := by omega
      clear hlt hk
      have x0 : wr.cell? ⟨w.heap.size, 0, none⟩ = some (.int .i64 id) := by rw [cell_of_row _ _ _ _ _ _ hAc.out.blk]; rfl
      have x1 : wr.cell? ⟨w.heap.size, 1, none⟩ = some (.int .i64 key) := by rw [cell_of_row _ _ _ _ _ _ hAc.out.blk]; rfl
      have xl : w.heap.size < wr.heap.size := (Array.getElem?_eq_some_iff.1 hAc.out.blk).1
      have r0 : wr.cell? ⟨R, 0, none⟩ = some (.slice A L.length c) := (hAc.out.bel.cell (p := ⟨R, 0, none⟩) hR).trans c0
      have rf : wr.frozen? ⟨R, 0, none⟩ = false := (hAc.out.bel.frozen (p := ⟨R, 0, none⟩) hR).trans fr
      cases b with
      | true =>
        have hI2 := hide (show Ins (id, key) L L.length true acc from hIn.out)
        obtain ⟨A2, c2, rfl, _⟩ := own_slice hAc.out.own
        clear hIn
        go_wp2_with fail
        go_ret
        have hE := ins_end hI2.out HS.out
        simp only [if_true] at hE
        exact ⟨rfl, rpush_end HL.out hAc.out hE.1 hE.2⟩
      | false =>
        have hI2 := hide (show Ins (id, key) L L.length false acc from hIn.out)
        clear hIn
        go_wp2_with (at_builtin; refine wpList_append_lies _ rfl (.tmp 58) (.tmp 60) _ rfl w.heap.size 40 i0 _ 2 16 Try.underlying27 hi0 hz0 hz1 HZ.out rfl (by omega) _ _ _ rfl (hAc.out.own.alloc _) ⟨wr.heap.size, 0, none⟩ 1 1 [.int .i64 id, .int .i64 key] rfl rfl (World.news_of_block (cs := #[.int .i64 id, .int .i64 key]) (t := 40) (fr := (0, 0)) (heap_alloc_new wr _)) (by simp [Value.oneCell']) (by omega) (by unfold maxLen; omega) (by omega) (by have := hAc.out.bel.size; simp; omega) (wr.heap.size + 1) (by simp) ?_; intro gg cap w7 hown hgrow hat hlt7; have hA' := hide (hAc.out.next (y := (id, key)) hown hgrow hat); have r0 := (hA'.out.bel.cell (p := ⟨R, 0, none⟩) hR).trans c0; have rf := (hA'.out.bel.frozen (p := ⟨R, 0, none⟩) hR).trans fr; clear hown hgrow hat hlt7 hAc)
        go_ret
        have hE := ins_end hI2.out HS.out
        simp only [Bool.false_eq_true, if_false] at hE
        exact ⟨rfl, rpush_end HL.out hA'.out hE.1 hE.2⟩
end Go.Proofs.Ytllfpfgboeabnaa
