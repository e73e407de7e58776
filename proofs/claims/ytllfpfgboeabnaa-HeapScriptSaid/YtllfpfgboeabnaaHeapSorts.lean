/-
  Rows of bools in a block, and the walk of HeapSorts.
-/
import Derived.Test.YtllfpfgboeabnaaHeapAwake
import Derived.Deep.QuietTactic
import Derived.BigQuiet
namespace Go.Proofs.Ytllfpfgboeabnaa
open Go.ChangeShapes Go.WideShapes Go.ChangeAt Go.RowKit Go.Sort
set_option linter.unusedVariables false
def cellsB (n : Nat) (f : Nat → Bool) : Array Value := ((List.range n).map fun i => Value.bool (f i)).toArray
theorem cellsB_size (n : Nat) (f : Nat → Bool) : (cellsB n f).size = n := by simp [cellsB]
theorem cellsB_get (n : Nat) (f : Nat → Bool) (i : Nat) (h : i < n) : (cellsB n f)[i]? = some (.bool (f i)) := by simp [cellsB, h]
theorem cellsB_set (n : Nat) (f : Nat → Bool) (k : Nat) (b : Bool) : (cellsB n f).setIfInBounds k (.bool b) = cellsB n (fun i => if i = k then b else f i) := by
  apply Array.ext_getElem?
  intro i
  rw [Array.getElem?_setIfInBounds]
  rcases Nat.lt_or_ge i n with hi | hi
  · rw [cellsB_get n _ i hi, cellsB_get n _ i hi, cellsB_size]
    by_cases e : k = i
    · subst e; simp [hi]
    · rw [if_neg e, if_neg (fun h => e h.symm)]
  · have h1 : (cellsB n f)[i]? = none := by rw [Array.getElem?_eq_none_iff, cellsB_size]; exact hi
    have h2 : (cellsB n (fun i => if i = k then b else f i))[i]? = none := by rw [Array.getElem?_eq_none_iff, cellsB_size]; exact hi
    rw [h1, h2, cellsB_size]
    by_cases e : k = i
    · subst e; rw [if_pos rfl, if_neg (by omega)]
    · rw [if_neg e]
theorem zero100 : cellsB 100 (fun _ => false) = Try.zeroCells51 := by kernel_rfl
/-- The first k numbers with their keys. -/
def prs (ks : List Int) (k : Nat) : List (Int × Int) := (List.range k).map fun (j : Nat) => ((j : Int), ks.getD j 0)
theorem prs_succ (ks : List Int) (k : Nat) : prs ks (k + 1) = prs ks k ++ [((k : Int), ks.getD k 0)] := by unfold prs; rw [List.range_succ]; simp
theorem prs_length (ks : List Int) (k : Nat) : (prs ks k).length = k := by simp [prs]
theorem prs_mem {ks : List Int} {k : Nat} {x : Int × Int} : x ∈ prs ks k ↔ ∃ j, j < k ∧ x = ((j : Int), ks.getD j 0) := by
  unfold prs
  simp only [List.mem_map, List.mem_range]
  constructor
  · rintro ⟨j, hj, rfl⟩; exact ⟨j, hj, rfl⟩
  · rintro ⟨j, hj, rfl⟩; exact ⟨j, hj, rfl⟩
theorem wf_nat (k : Nat) (h : k < 1000000) : (Lit.int .i64 (k : Int)).wf = true := by simp [Lit.wf, IntKind.min, IntKind.max, IntKind.bits, IntKind.signed]; omega
theorem held_nodup {F : Nat → Prop} {w : World} {H : Nat} {l : List (Int × Int)} (h : Held w F H l) : (l.map (·.1)).Nodup := by
  rw [List.nodup_iff_pairwise_ne, List.pairwise_map, List.pairwise_iff_getElem]
  intro i j hi hj hij e
  have := h.inj hi hj (by rw [it_get hi, it_get hj]; exact e)
  omega
/-- What is known while items come out: those that are left. -/
structure Left (ks : List Int) (n i : Nat) (f : Nat → Bool) (last : Int × Int) (l : List (Int × Int)) : Prop where
  len : l.length + i = n
  all : ∀ x ∈ l, ∃ j, j < n ∧ x = ((j : Int), ks.getD j 0) ∧ f j = false
  falls : 0 < i → ∀ x ∈ l, due x last = false
theorem left_start (ks : List Int) (n : Nat) (l : List (Int × Int)) (h : l.Perm (prs ks n)) : Left ks n 0 (fun _ => false) (0, 0) l :=
  ⟨by rw [h.length_eq, prs_length]; rfl, fun x hx => by
    obtain ⟨j, hj, e⟩ := prs_mem.1 (h.mem_iff.1 hx)
    exact ⟨j, hj, e, rfl⟩, fun h => absurd h (by omega)⟩
theorem left_next {ks : List Int} {n i : Nat} {f : Nat → Bool} {last : Int × Int} {l l' : List (Int × Int)} (h : Left ks n i f last l) (hp : HeapN l l.length) (hn : (l.map (·.1)).Nodup) {a : Nat} {x : Int × Int} (hx : x = ((a : Int), ks.getD a 0)) (h0 : it l 0 = x) (p : (x :: l').Perm l) :
    Left ks n (i + 1) (fun j => if j = a then true else f j) x l' := by
  have hl := p.length_eq
  rw [List.length_cons] at hl
  have hnd : ((x :: l').map (·.1)).Nodup := (p.map _).nodup_iff.2 hn
  refine ⟨by have := h.len; omega, fun y hy => ?_, fun _ y hy => ?_⟩
  · obtain ⟨j, hj, e, hf⟩ := h.all y (p.mem_iff.1 (List.mem_cons_of_mem _ hy))
    refine ⟨j, hj, e, ?_⟩
    have hne : j ≠ a := by
      rintro rfl
      rw [List.map_cons, List.nodup_cons] at hnd
      exact hnd.1 (List.mem_map.2 ⟨y, hy, by rw [e, hx]⟩)
    show (if j = a then true else f j) = false
    rw [if_neg hne]; exact hf
  · have := heap_min hp (p.mem_iff.1 (List.mem_cons_of_mem _ hy))
    rw [h0] at this; exact this
/-- Behind a round: the block of marks, the block of the last one, the heap. -/
theorem sorts_next {w w2 : World} {F : Nat → Prop} {H S a : Nat} {f : Nat → Bool} {last : Int × Int} {l' : List (Int × Int)} {z : Int} {q : Nat} {o : Obj} (hQ : Held w2 F H l') (hB : Below w.heap.size w w2) (hS : w2.heap[S]? = some (.cells (cellsB 100 f) 51 (0, 0)))
    (hT : w2.heap[S + 1]? = some (.cells #[.int .i64 last.1, .int .i64 last.2] 37 (0, 0))) (hws : w.heap.size ≤ S) (nS : ¬ F S) (nT : ¬ F (S + 1)) (w3 : World) (hw3 : w3 = (w2.alloc o).drewN q) :
    Held (((w3.setCell ⟨S, a, none⟩ (.bool true)).setCell ⟨S + 1, 0, none⟩ (.int .i64 (a : Int))).setCell ⟨S + 1, 1, none⟩ (.int .i64 z)) F H l' ∧
    (((w3.setCell ⟨S, a, none⟩ (.bool true)).setCell ⟨S + 1, 0, none⟩ (.int .i64 (a : Int))).setCell ⟨S + 1, 1, none⟩ (.int .i64 z)).heap[S]? = some (.cells (cellsB 100 (fun j => if j = a then true else f j)) 51 (0, 0)) ∧
    (((w3.setCell ⟨S, a, none⟩ (.bool true)).setCell ⟨S + 1, 0, none⟩ (.int .i64 (a : Int))).setCell ⟨S + 1, 1, none⟩ (.int .i64 z)).heap[S + 1]? = some (.cells #[.int .i64 (a : Int), .int .i64 z] 37 (0, 0)) ∧
    Below w.heap.size w (((w3.setCell ⟨S, a, none⟩ (.bool true)).setCell ⟨S + 1, 0, none⟩ (.int .i64 (a : Int))).setCell ⟨S + 1, 1, none⟩ (.int .i64 z)) := by
  have lS : S < w2.heap.size := (Array.getElem?_eq_some_iff.1 hS).1
  have lT : S + 1 < w2.heap.size := (Array.getElem?_eq_some_iff.1 hT).1
  have B3 : Below w2.heap.size w2 w3 := by rw [hw3]; exact below_drewN ((Below.refl _ _).alloc (Nat.le_refl _) _) q
  have s3 := (B3.block S lS).trans hS
  have t3 := (B3.block (S + 1) lT).trans hT
  refine ⟨?_, ?_, ?_, ?_⟩
  · refine (hQ.below B3).keep (S := fun i => i = S ∨ i = S + 1) ((((Touch.refl _ w3).setCell (p := ⟨S, a, none⟩) (.inl rfl) _).setCell (p := ⟨S + 1, 0, none⟩) (.inr rfl) _).setCell (p := ⟨S + 1, 1, none⟩) (.inr rfl) _) (fun i hi e => ?_)
    rcases e with e | e
    · subst e; exact nS hi
    · subst e; exact nT hi
  · rw [heap_setCell_other _ _ _ _ (show S ≠ S + 1 by omega), heap_setCell_other _ _ _ _ (show S ≠ S + 1 by omega), heap_setCell_same _ _ _ _ _ _ s3, cellsB_set]
  · have u1 := (heap_setCell_other w3 ⟨S, a, none⟩ (S + 1) (.bool true) (show S + 1 ≠ S by omega)).trans t3
    have u2 := heap_setCell_same _ (S + 1) 0 _ _ (.int .i64 (a : Int)) u1
    have u3 := heap_setCell_same _ (S + 1) 1 _ _ (.int .i64 z) u2
    rw [u3]; rfl
  · exact ((((hB.trans (B3.mono hB.size)).setCell (p := ⟨S, a, none⟩) hws _).setCell (p := ⟨S + 1, 0, none⟩) (show w.heap.size ≤ S + 1 by omega) _).setCell (p := ⟨S + 1, 1, none⟩) (show w.heap.size ≤ S + 1 by omega) _)
set_option maxRecDepth 100000 in
set_option maxHeartbeats 4000000 in
theorem walk_heapSorts (w : World) (A : Option Addr) (n c : Nat) (ks : List Int) (hin : CameIn .i64 w A n c ks) :
    Calls Try.prog 4 #[.slice A n c] w fun e w' => e = .returned (.bool true) ∧ Below w.heap.size w w' := by
  obtain ⟨⟨hl, hc⟩, hnc, hcm, hnil, hwf⟩ := hin
  by_cases hbig : 100 < n
  · have hb : (100 : Int) < (n : Int) := by omega
    clear hl hc hnc hcm hnil hwf
    go_enter Try.func4, Try.ntmps4
    go_wp2_with (go_at_call 7; with_reducible refine (awake_any _).mono ?_; rintro e w' ⟨rfl, hb⟩)
    go_ret
    exact ⟨rfl, hb⟩
  have HC := hide hc
  have HL := hide hl
  have hn : n ≤ 100 := by omega
  clear hl hc hnc hcm hnil hwf hbig
  go_enter Try.func4, Try.ntmps4
  go_wp2_with fail
  go_at_call 8
  with_reducible refine (hnew_any _).mono ?_
  rintro e w1 ⟨H, F1, rfl, q1, b1, f1⟩
  have Q1 := hide q1
  have G1 := hide f1
  have B1 := hide b1
  clear q1 b1 f1
  go_wp2_with fail
  go_loopw [4] (fun i wr => ∃ (k : Nat) (F : Nat → Prop) (l : List (Int × Int)), k ≤ n ∧ i = .int .i64 (k : Int) ∧ Hid (Held wr F H l) ∧ Hid (l.Perm (prs ks k)) ∧ Hid (Below w.heap.size w wr) ∧ Hid (∀ i, F i → w.heap.size ≤ i)) (fun i _ => n - (intOf i).toNat)
  case atStart => exact ⟨0, F1, [], Nat.zero_le _, rfl, Q1, (show [].Perm (prs ks 0) from List.Perm.refl _), B1, G1⟩
  case round =>
    clear Q1 G1 B1
    obtain ⟨k, F, l, hk, rfl, hQ, hP, hB, hG⟩ := hrel
    by_cases hlt : k < n
    · obtain ⟨b, off, rfl, hcell⟩ := HC.out (by omega)
      obtain ⟨z, hz⟩ : ∃ z, z = ks.getD k 0 := ⟨_, rfl⟩
      have hck := (hB.out.cell (p := ⟨b, off + k, none⟩) (lt_of_cell? (hcell k hlt))).trans (hcell k hlt)
      rw [← hz] at hck
      have HZ := hide hz
      have k0 : (0 : Int) ≤ (k : Int) := by omega
      have k1 : (k : Int) < (n : Int) := by omega
      clear hcell hz
      go_wp2_with fail
      go_at_call 10
      with_reducible refine (hpush_ok hQ.out (k : Int) z (by omega) (wf_nat k (by omega)) (not_in (fun x hx => ?_)) (by rw [hP.out.length_eq, prs_length]; omega)).mono ?_
      · obtain ⟨j, hj, e⟩ := prs_mem.1 (hP.out.mem_iff.1 hx)
        rw [e]; show (j : Int) ≠ (k : Int); omega
      rintro e w2 ⟨rfl, F2, l2, q2, p2, t2, f2⟩
      have P2 := hide (show l2.Perm (prs ks (k + 1)) by rw [prs_succ, ← HZ.out]; exact p2.trans (hP.out.append_right _))
      have Q2 := hide q2
      have B2 := hide (hB.out.trans (t2.below hB.out.size hG.out))
      have G2 := hide (show ∀ i, F2 i → w.heap.size ≤ i from fun i hi => by
        rcases f2 i hi with h | h
        · exact hG.out i h
        · exact Nat.le_trans hB.out.size h)
      obtain ⟨p, hp, hpe⟩ : ∃ p, p < l2.length ∧ (it l2 p).1 = (k : Int) := by
        have : ((k : Int), z) ∈ l2 := p2.mem_iff.2 (by simp)
        obtain ⟨p, hp, e⟩ := List.getElem_of_mem this
        exact ⟨p, hp, by rw [it_get hp, e]⟩
      have HP2 := hide hp
      have HPE := hide hpe
      clear q2 p2 t2 f2 hp hpe hck hQ hP hB hG
      go_wp2_with fail
      go_at_call 10
      with_reducible refine (hpush_busy Q2.out (k : Int) 0 (by omega) (wf_nat k (by omega)) p HP2.out HPE.out).mono ?_
      rintro e w' ⟨rfl, rfl⟩
      go_wp2_with fail
      go_roundw
      case rel => exact ⟨k + 1, F2, l2, by omega, by go_num, Q2, P2, B2, G2⟩
      case measure => simp [intOf]; omega
    · obtain rfl : k = n := by omega
      have HLeft := hide (left_start ks k l hP.out)
      obtain ⟨W2, hW2⟩ : ∃ W2, W2 = (wr.alloc (.cells (cellsB 100 (fun _ => false)) 51)).alloc (.cells #[.int .i64 0, .int .i64 0] 37) := ⟨_, rfl⟩
      have hS2 : W2.heap[wr.heap.size]? = some (.cells (cellsB 100 (fun _ => false)) 51 (0, 0)) := by rw [hW2]; exact heap_alloc2_old _ _ _
      have hT2 : W2.heap[wr.heap.size + 1]? = some (.cells #[.int .i64 (0, 0).1, .int .i64 (0, 0).2] 37 (0, 0)) := by rw [hW2]; exact heap_alloc2_new _ _ _
      have hB2 : Below w.heap.size w W2 := by rw [hW2]; exact (hB.out.alloc hB.out.size _).alloc (by have := hB.out.size; simp; omega) _
      have hQ2 : Held W2 F H l := by rw [hW2]; exact held_alloc (held_alloc hQ.out _) _
      have hws : w.heap.size ≤ wr.heap.size := hB.out.size
      have nS : ¬ F wr.heap.size := fun e => by have := hQ.out.lt _ e; omega
      have nT : ¬ F (wr.heap.size + 1) := fun e => by have := hQ.out.lt _ e; omega
      rw [zero100] at hW2
      have HW := hide hW2
      have KS := hide hS2
      have KT := hide hT2
      have KB := hide hB2
      have KQ := hide hQ2
      have KnS := hide nS
      have KnT := hide nT
      clear hW2 hS2 hT2 hB2 hQ2 nS nT hQ hP hB
      go_wp2_with fail
      rw [← HW.out]
      clear HW
      generalize wr.heap.size = S at *
      go_loopw [7] (fun i wx => ∃ (i' : Nat) (f : Nat → Bool) (last : Int × Int) (l : List (Int × Int)), i' ≤ k ∧ i = .int .i64 (i' : Int) ∧ Hid (Held wx F H l) ∧ Hid (Left ks k i' f last l) ∧ Hid (wx.heap[S]? = some (.cells (cellsB 100 f) 51 (0, 0))) ∧ Hid (wx.heap[S + 1]? = some (.cells #[.int .i64 last.1, .int .i64 last.2] 37 (0, 0))) ∧ Hid (Below w.heap.size w wx)) (fun i _ => k - (intOf i).toNat)
      case atStart => exact ⟨0, _, _, l, Nat.zero_le _, rfl, KQ, HLeft, KS, KT, KB⟩
      case round =>
        clear KQ HLeft KS KT KB
        obtain ⟨i, f, ⟨li, lk⟩, l2, hik, rfl, hQ, hLf, hS, hT, hB⟩ := hrel
        by_cases hlt2 : i < k
        · obtain ⟨m, hm⟩ : ∃ m, l2.length = m + 1 := ⟨l2.length - 1, by have := hLf.out.len; omega⟩
          obtain ⟨a, ha, hxa, hfa⟩ := hLf.out.all _ (it_mem (l := l2) (k := 0) (by omega))
          obtain ⟨b, off, rfl, hcell⟩ := HC.out (by omega)
          have hck := (hB.out.cell (p := ⟨b, off + a, none⟩) (lt_of_cell? (hcell a ha))).trans (hcell a ha)
          have hbw := lt_of_cell? (hcell a ha)
          obtain ⟨z, hz⟩ : ∃ z, z = ks.getD a 0 := ⟨_, rfl⟩
          rw [← hz] at hck hxa
          have hfl : 0 < i → due ((a : Int), z) (li, lk) = false := fun h0 => by rw [← hxa]; exact hLf.out.falls h0 _ (it_mem (by omega))
          have HZ := hide hz
          have HM := hide hm
          have HX := hide hxa
          have hm8 : l2.length < 800000 := by have := hLf.out.len; omega
          clear hcell hz hm hxa
          go_wp2_with fail
          go_at_call 12
          with_reducible refine (hpop_some hQ.out HM.out hm8).mono ?_
          rw [HX.out]
          rintro e w2 ⟨rfl, l3, q3, p3, t3⟩
          have hSl : S < wr.heap.size := (Array.getElem?_eq_some_iff.1 hS.out).1
          have hTl : S + 1 < wr.heap.size := (Array.getElem?_eq_some_iff.1 hT.out).1
          have s3 := (t3.block S hSl KnS.out).trans hS.out
          have u3 := (t3.block (S + 1) hTl KnT.out).trans hT.out
          have B3 := hB.out.trans (t3.below hB.out.size hG.out)
          have LN := hide (left_next hLf.out hQ.out.hp (held_nodup hQ.out) (by rw [HX.out, ← HZ.out]) rfl (by rw [HX.out]; exact p3))
          rw [HX.out] at LN
          have hbz : b < w2.heap.size := by have := B3.size; have : b < w.heap.size := hbw; omega
          have hSz : S < w2.heap.size := Nat.lt_of_lt_of_le hSl t3.size
          have hTz : S + 1 < w2.heap.size := Nat.lt_of_lt_of_le hTl t3.size
          obtain ⟨W3, hW3⟩ : ∃ W3, W3 = w2.alloc (.cells #[.int .i64 (a : Int), .int .i64 z] 37) := ⟨_, rfl⟩
          have B4 : Below w2.heap.size w2 W3 := by rw [hW3]; exact (Below.refl _ _).alloc (Nat.le_refl _) _
          have x4 : W3.heap[w2.heap.size]? = some (.cells #[.int .i64 (a : Int), .int .i64 z] 37 (0, 0)) := by rw [hW3]; exact heap_alloc_new w2 _
          have s4 := (B4.block S hSz).trans s3
          have u4 := (B4.block (S + 1) hTz).trans u3
          have e0 : W3.cell? ⟨b, off + a, none⟩ = some (.int .i64 z) := (World.cell?_of_block (a := ⟨b, off + a, none⟩) ((B4.block b hbz).trans (t3.block b (by have := hB.out.size; have : b < w.heap.size := hbw; omega) (fun e => by have := hG.out _ e; have : b < w.heap.size := hbw; omega)))).trans hck
          have e1 : W3.cell? ⟨S, a, none⟩ = some (.bool false) := by rw [cell_of_row _ _ _ _ _ _ s4, cellsB_get 100 f a (by omega), hfa]
          have e2 : W3.cell? ⟨S + 1, 0, none⟩ = some (.int .i64 li) := by rw [cell_of_row _ _ _ _ _ _ u4]; rfl
          have e3 : W3.cell? ⟨S + 1, 1, none⟩ = some (.int .i64 lk) := by rw [cell_of_row _ _ _ _ _ _ u4]; rfl
          have e4 : W3.cell? ⟨w2.heap.size, 0, none⟩ = some (.int .i64 (a : Int)) := by rw [cell_of_row _ _ _ _ _ _ x4]; rfl
          have e5 : W3.cell? ⟨w2.heap.size, 1, none⟩ = some (.int .i64 z) := by rw [cell_of_row _ _ _ _ _ _ x4]; rfl
          have f1 : W3.frozen? ⟨S, a, none⟩ = false := frozen_of_row _ _ _ _ _ s4
          have f2 : W3.frozen? ⟨S + 1, 0, none⟩ = false := frozen_of_row _ _ _ _ _ u4
          have f3 : W3.frozen? ⟨S + 1, 1, none⟩ = false := frozen_of_row _ _ _ _ _ u4
          have NX := hide (fun (q : Nat) (w3 : World) (hw3 : w3 = W3.drewN q) => sorts_next (a := a) (z := z) (q := q) (last := (li, lk)) (o := .cells #[.int .i64 (a : Int), .int .i64 z] 37) q3 B3 s3 u3 hws KnS.out KnT.out w3 (by rw [hw3, hW3]))
          have HW := hide hW3
          have hne1 : S ≠ w2.heap.size := by omega
          have a0 : (0 : Int) ≤ (a : Int) := by omega
          have a1 : (a : Int) < 100 := by omega
          have a2 : (a : Int) < (k : Int) := by omega
          have a3 : decide ((a : Int) < 0) = false := by simp
          have a4 : (z != z) = false := by simp
          have a5 : decide (k ≤ a) = false := by simp; omega
          clear q3 p3 t3 hQ hLf hS hT hB hck hfa hSl hTl s3 u3 B3 hbw HX HZ HM hm8 hW3 B4 x4 s4 u4 hbz
          cases i with
          | zero =>
            clear hfl
            rw [show ((0 : Nat) : Int) = 0 from rfl]
            unfold itemBool
            go_wp2_with fail
            rw [← HW.out]
            clear HW
            go_quiet (fail)
            go_wp2_with fail
            go_roundw
            case rel =>
              obtain ⟨N1, N2, N3, N4⟩ := NX.out _ _ rfl
              exact ⟨0 + 1, _, _, l3, by omega, by go_num, N1, LN, N2, N3, N4⟩
            case measure => simp [intOf]; omega
          | succ i =>
            have hd := (due_not _ _).1 (hfl (Nat.succ_pos i))
            clear hfl
            by_cases hzk : z = lk
            · subst hzk
              have d1 : decide ((a : Int) < li) = false := by simp; simp at hd; omega
              have d2 : decide (z < z) = false := by simp
              have d3 : (z == z) = true := by simp
              clear hd
              unfold itemBool
              go_wp2_with fail
              rw [← HW.out]
              clear HW
              go_quiet (fail)
              go_wp2_with fail
              go_roundw
              case rel =>
                obtain ⟨N1, N2, N3, N4⟩ := NX.out _ _ rfl
                exact ⟨i + 1 + 1, _, _, l3, by omega, by go_num, N1, LN, N2, N3, N4⟩
              case measure => simp [intOf]; omega
            · have d1 : decide (z < lk) = false := by simp; simp at hd; omega
              have d2 : (z == lk) = false := by simpa using hzk
              clear hd hzk
              unfold itemBool
              go_wp2_with fail
              rw [← HW.out]
              clear HW
              go_quiet (fail)
              go_wp2_with fail
              go_roundw
              case rel =>
                obtain ⟨N1, N2, N3, N4⟩ := NX.out _ _ rfl
                exact ⟨i + 1 + 1, _, _, l3, by omega, by go_num, N1, LN, N2, N3, N4⟩
              case measure => simp [intOf]; omega
        · obtain rfl : i = k := by omega
          have hl0 : l2 = [] := List.eq_nil_of_length_eq_zero (by have := hLf.out.len; omega)
          subst hl0
          clear hLf hS hT
          go_wp2_with fail
          go_at_call 12
          with_reducible refine (hpop_none _ _ (fun w' hb => min_empty (hQ.out.below hb))).mono ?_
          rintro e w2 ⟨rfl, b2⟩
          have Q2 := hide (held_alloc (hQ.out.below b2) (.cells #[.int .i64 0, .int .i64 0] 37))
          have B2 := hide ((hB.out.trans (b2.mono hB.out.size)).alloc (Nat.le_trans hB.out.size b2.size) (.cells #[.int .i64 0, .int .i64 0] 37))
          clear b2 hQ hB
          unfold itemBool
          go_wp2_with fail
          go_at_call 22
          refine (len_any Q2.out).mono ?_
          rintro e w' ⟨rfl, rfl⟩
          rw [show (([] : List (Int × Int)).length : Int) = 0 from rfl]
          go_wp2_with (go_at_call 7; with_reducible refine (awake_any _).mono ?_; rintro e w' ⟨rfl, hb⟩)
          go_ret
          exact ⟨rfl, B2.out.trans (hb.mono B2.out.size)⟩
end Go.Proofs.Ytllfpfgboeabnaa
