/-
  Contracts of the document's own answer on heaps (coxswainref3): its list; at, less, Has, Min.
-/
import Derived.Test.YtllfpfgboeabnaaHeapSame
namespace Go.Proofs.Ytllfpfgboeabnaa
open Go.ChangeShapes Go.WideShapes Go.ChangeAt Go.RowKit
set_option linter.unusedVariables false
/-- The list at block R holds L, in blocks of G. -/
def Lst (w : World) (G : Nat → Prop) (R : Nat) (L : List (Int × Int)) : Prop :=
  ∃ v, w.heap[R]? = some (.cells #[v] 29 (0, 0)) ∧ w.ownsRow 0 40 2 v L.length (cellsIt L) ∧ G R ∧ (∀ g, v.ownBlock = some g → G g) ∧ (∀ i, G i → i < w.heap.size)
theorem Lst.keep {S G : Nat → Prop} {w w' : World} {R : Nat} {L : List (Int × Int)} (h : Lst w G R L) (t : Touch S w w') (d : ∀ i, G i → ¬ S i) : Lst w' G R L := by
  obtain ⟨v, h1, h2, gR, gv, gl⟩ := h
  have e : ∀ i, G i → w'.heap[i]? = w.heap[i]? := fun i hi => t.block i (gl i hi) (d i hi)
  exact ⟨v, (e R gR).trans h1, own_keep h2 (fun g hg => e g (gv g hg)), gR, gv, fun i hi => Nat.lt_of_lt_of_le (gl i hi) t.size⟩
theorem Lst.below {G : Nat → Prop} {w w' : World} {R : Nat} {L : List (Int × Int)} (h : Lst w G R L) (hb : Below w.heap.size w w') : Lst w' G R L := h.keep (S := fun _ => False) (Touch.of_below hb) (fun _ _ e => e)
theorem Lst.drewN {G : Nat → Prop} {w : World} {R : Nat} {L : List (Int × Int)} (h : Lst w G R L) (n : Nat) : Lst (w.drewN n) G R L := h
theorem Lst.lt {G : Nat → Prop} {w : World} {R : Nat} {L : List (Int × Int)} (h : Lst w G R L) : ∀ i, G i → i < w.heap.size := by obtain ⟨_, _, _, _, _, gl⟩ := h; exact gl
/-- What lies there: the slice, its cells. -/
theorem Lst.open_ {G : Nat → Prop} {w : World} {R : Nat} {L : List (Int × Int)} (h : Lst w G R L) :
    ∃ A c, w.cell? ⟨R, 0, none⟩ = some (.slice A L.length c) ∧ w.ownsRow 0 40 2 (.slice A L.length c) L.length (cellsIt L) ∧ w.frozen? ⟨R, 0, none⟩ = false ∧ R < w.heap.size ∧ L.length ≤ c ∧ c ≤ maxLen ∧ (A = none → L.length = 0 ∧ c = 0) ∧
      (∀ k, k < L.length → ∃ g, A = some ⟨g, 0, none⟩ ∧ g < w.heap.size ∧ g ≠ R ∧ w.cell? ⟨g, k * 2, none⟩ = some (.int .i64 (it L k).1) ∧ w.cell? ⟨g, k * 2 + 1, none⟩ = some (.int .i64 (it L k).2)) ∧ (Value.slice A L.length c).ownBlock ≠ some R := by
  obtain ⟨v, h1, h2, gR, gv, gl⟩ := h
  obtain ⟨A, c, rfl, hnc, hcm, hA⟩ := own_slice h2
  have hne : (Value.slice A L.length c).ownBlock ≠ some R := fun e => by
    rcases h2.2 with ⟨h0, _⟩ | ⟨g, cap, cur, e1, _, e3, _⟩
    · rw [h0] at e; cases e
    · rw [e1] at e
      have e := slice_block e
      subst e
      rw [e3] at h1; injection h1 with h1; injection h1 with _ h1; revert h1; decide
  refine ⟨A, c, by rw [cell_of_row _ _ _ _ _ _ h1]; rfl, h2, frozen_of_row _ _ _ _ _ h1, gl R gR, hnc, hcm, hA, fun k hk => ?_, hne⟩
  obtain ⟨g, cap, e, _, hlt⟩ := h2.form (by omega)
  injection e with e _ ec
  subst e ec
  exact ⟨g, rfl, hlt, fun e => hne (by rw [e]; rfl), (h2.cellAt (k * 2) (by omega)).trans (cellsIt_id L k hk), (h2.cellAt (k * 2 + 1) (by omega)).trans (cellsIt_key L k hk)⟩
theorem at_no {w : World} {G : Nat → Prop} {R : Nat} {L : List (Int × Int)} (h : Lst w G R L) (id : Int) (hno : ∀ k, k < L.length → (it L k).1 ≠ id) (hn : L.length ≤ 1000000) :
    Calls Try.prog 27 #[.pointer (some ⟨R, 0, none⟩), .int .i64 id] w fun e w' => e = .returned (.int .i64 (-1)) ∧ w = w' := by
  obtain ⟨A, c, c0, _, _, _, hnc, _, _, hcell, _⟩ := h.open_
  have HC := hide hcell
  have HN := hide hno
  clear h hcell hno
  go_enter Try.func27, Try.ntmps27
  go_wp2_with fail
  go_loop [5] (fun i => ∃ k : Nat, k ≤ L.length ∧ i = .int .i64 k) (fun i => L.length - (intOf i).toNat)
  case atStart => exact ⟨0, Nat.zero_le _, rfl⟩
  case round =>
    obtain ⟨k, hk, rfl⟩ := hrel
    by_cases hlt : k < L.length
    · obtain ⟨g, rfl, _, _, d0, _⟩ := HC.out k hlt
      have hne := HN.out k hlt
      have h1 : ((it L k).1 == id) = false := by simpa using hne
      clear hne
      generalize (it L k).1 = x at *
      have k0 : (0 : Int) ≤ (k : Int) := by omega
      have k1 : (k : Int) < (L.length : Int) := by omega
      go_wp2_with fail
      go_round
      case rel => exact ⟨k + 1, by omega, by go_num⟩
      case measure => simp [intOf]; omega
    · go_wp2_with fail
      go_ret
      exact ⟨rfl, rfl⟩
theorem at_yes {w : World} {G : Nat → Prop} {R : Nat} {L : List (Int × Int)} (h : Lst w G R L) (id : Int) (p : Nat) (hp : p < L.length) (e : (it L p).1 = id) (hfirst : ∀ k, k < p → (it L k).1 ≠ id) (hn : L.length ≤ 1000000) :
    Calls Try.prog 27 #[.pointer (some ⟨R, 0, none⟩), .int .i64 id] w fun e w' => e = .returned (.int .i64 (p : Int)) ∧ w = w' := by
  obtain ⟨A, c, c0, _, _, _, hnc, _, _, hcell, _⟩ := h.open_
  have HC := hide hcell
  have HN := hide hfirst
  have HE := hide e
  clear h hcell hfirst e
  go_enter Try.func27, Try.ntmps27
  go_wp2_with fail
  go_loop [5] (fun i => ∃ k : Nat, k ≤ p ∧ i = .int .i64 k) (fun i => p - (intOf i).toNat)
  case atStart => exact ⟨0, Nat.zero_le _, rfl⟩
  case round =>
    obtain ⟨k, hk, rfl⟩ := hrel
    obtain ⟨g, rfl, _, _, d0, _⟩ := HC.out k (by omega)
    have k0 : (0 : Int) ≤ (k : Int) := by omega
    have k1 : (k : Int) < (L.length : Int) := by omega
    by_cases hlt : k < p
    · have hne := HN.out k hlt
      have h1 : ((it L k).1 == id) = false := by simpa using hne
      clear hne
      generalize (it L k).1 = x at *
      go_wp2_with fail
      go_round
      case rel => exact ⟨k + 1, by omega, by go_num⟩
      case measure => simp [intOf]; omega
    · obtain rfl : k = p := by omega
      rw [HE.out] at d0
      go_wp2_with fail
      go_ret
      exact ⟨rfl, rfl⟩
theorem rhas_no {w : World} {G : Nat → Prop} {R : Nat} {L : List (Int × Int)} (h : Lst w G R L) (id : Int) (hno : ∀ k, k < L.length → (it L k).1 ≠ id) (hn : L.length ≤ 1000000) :
    Calls Try.prog 21 #[.pointer (some ⟨R, 0, none⟩), .int .i64 id] w fun e w' => e = .returned (.bool false) ∧ w = w' := by
  have HC := hide (at_no h id hno hn)
  clear h hno
  go_enter Try.func21, Try.ntmps21
  go_wp2_with (go_at_call 27; refine HC.out.mono ?_; rintro e w' ⟨rfl, rfl⟩)
  go_ret
  exact ⟨rfl, rfl⟩
theorem rhas_yes {w : World} {G : Nat → Prop} {R : Nat} {L : List (Int × Int)} (h : Lst w G R L) (id : Int) (p : Nat) (hp : p < L.length) (e : (it L p).1 = id) (hfirst : ∀ k, k < p → (it L k).1 ≠ id) (hn : L.length ≤ 1000000) :
    Calls Try.prog 21 #[.pointer (some ⟨R, 0, none⟩), .int .i64 id] w fun e w' => e = .returned (.bool true) ∧ w = w' := by
  have HC := hide (at_yes h id p hp e hfirst hn)
  have d : decide ((0 : Int) ≤ (p : Int)) = true := by simp
  clear h hfirst e
  go_enter Try.func21, Try.ntmps21
  go_wp2_with (go_at_call 27; refine HC.out.mono ?_; rintro e w' ⟨rfl, rfl⟩)
  go_ret
  exact ⟨rfl, rfl⟩
theorem rmin_none {w : World} {G : Nat → Prop} {R : Nat} (h : Lst w G R []) :
    Calls Try.prog 13 #[.pointer (some ⟨R, 0, none⟩)] w fun e w' => e = itemBool (0, 0) false ∧ Below w.heap.size w w' := by
  obtain ⟨A, c, c0, _, _, hR, _⟩ := h.open_
  rw [show ([] : List (Int × Int)).length = 0 from rfl] at c0
  clear h
  go_enter Try.func13, Try.ntmps13
  go_wp2_with fail
  exact bodyPost_ret (v := .tuple #[.agg #[.int .i64 0, .int .i64 0], .bool false]) (by simp [results, Try.results13, go_sem]) rfl ⟨rfl, (Below.refl _ _).alloc (Nat.le_refl _) _⟩
theorem rmin_some {w : World} {G : Nat → Prop} {R : Nat} {L : List (Int × Int)} (h : Lst w G R L) (hl : 0 < L.length) :
    Calls Try.prog 13 #[.pointer (some ⟨R, 0, none⟩)] w fun e w' => e = itemBool (it L 0) true ∧ Below w.heap.size w w' := by
  obtain ⟨A, c, c0, _, _, hR, _, _, _, hcell, _⟩ := h.open_
  obtain ⟨g, rfl, hg, _, d0, d1⟩ := hcell 0 hl
  rw [Nat.zero_mul] at d0 d1
  clear h hcell
  generalize it L 0 = x at *
  have hne : ((L.length : Int) == 0) = false := by simp; intro e; rw [e] at hl; cases hl
  have i1 : (0 : Int) < (L.length : Int) := by omega
  go_enter Try.func13, Try.ntmps13
  go_wp2_with fail
  exact bodyPost_ret (v := .tuple #[.agg #[.int .i64 x.1, .int .i64 x.2], .bool true]) (by simp [results, Try.results13, go_sem]) rfl ⟨rfl, (Below.refl _ _).alloc (Nat.le_refl _) _⟩
theorem rless_any (x y : Int × Int) (w : World) : Calls Try.prog 28 #[.agg #[.int .i64 x.1, .int .i64 x.2], .agg #[.int .i64 y.1, .int .i64 y.2]] w fun e w' => e = .returned (.bool (due x y)) ∧ Below w.heap.size w w' := by
  obtain ⟨i, a⟩ := x
  obtain ⟨j, b⟩ := y
  have hb : Below w.heap.size w ((w.alloc (.cells #[.int .i64 i, .int .i64 a] 40)).alloc (.cells #[.int .i64 j, .int .i64 b] 40)) := ((Below.refl _ _).alloc (Nat.le_refl _) _).alloc (by simp) _
  have HB := hide hb
  clear hb
  by_cases h1 : a < b
  · have hd := hide (show due (i, a) (j, b) = true from (due_iff _ _).2 (.inl h1))
    go_enter Try.func28, Try.ntmps28
    go_wp2_with fail
    go_ret
    exact ⟨ret_bool hd.out.symm, HB.out⟩
  · have d1 : decide (a < b) = false := by simp; omega
    by_cases h2 : a = b
    · subst h2
      by_cases h3 : i < j
      · have hd := hide (show due (i, a) (j, a) = true from (due_iff _ _).2 (.inr ⟨rfl, h3⟩))
        have d3 : decide (i < j) = true := by simpa using h3
        go_enter Try.func28, Try.ntmps28
        go_wp2_with fail
        go_ret
        exact ⟨ret_bool hd.out.symm, HB.out⟩
      · have hd := hide (show due (i, a) (j, a) = false from (due_not _ _).2 (by simp; omega))
        have d3 : decide (i < j) = false := by simp; omega
        go_enter Try.func28, Try.ntmps28
        go_wp2_with fail
        go_ret
        exact ⟨ret_bool hd.out.symm, HB.out⟩
    · have hd := hide (show due (i, a) (j, b) = false from (due_not _ _).2 (by simp; omega))
      have d2 : (a == b) = false := by simpa using h2
      go_enter Try.func28, Try.ntmps28
      go_wp2_with fail
      go_ret
      exact ⟨ret_bool hd.out.symm, HB.out⟩
end Go.Proofs.Ytllfpfgboeabnaa
