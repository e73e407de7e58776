/-
  Contracts of the document's own slab: Has, Len.
-/
import Derived.Test.YtllapjidnngaeaaSrOpsA
namespace Go.Proofs.Ytllapjidnngaeaa
open Go.ChangeShapes Go.WideShapes Go.ChangeAt Go.RowKit
set_option linter.unusedVariables false
theorem Sr.below {w w' : World} {S R : Nat} {l : List Cu} (h : Sr w S R l) (u : Below w.heap.size w w') : Sr w' S R l := by
  obtain ⟨a, c, e, ho, hv⟩ := h.mem
  have u' : Touch (fun _ => False) w w' := Touch.of_below u
  exact ⟨⟨a, c, (u.block S (lt_of_heap e)).trans e, u'.own ho (fun _ _ e => e), hv⟩, h.cuts⟩
/-- Whether a piece is there. -/
def there (l : List Cu) (fr sl sz : Int) : Bool := decide (0 ≤ place l fr sl sz)
theorem rhas_sl {w : World} {S R : Nat} {l : List Cu} (h : Sr w S R l) (fr sl sz : Int) (hsl : (Lit.int .i64 sl).wf = true) :
    Calls Try.prog 15 #[.pointer (some ⟨S, 0, none⟩), .agg #[.int .i64 fr, .int .i64 sl, .int .i64 sz]] w fun e w' => e = .returned (.bool (there l fr sl sz)) ∧ Below w.heap.size w w' := by
  have HH := hide (h.below ((Below.refl w.heap.size w).alloc (Nat.le_refl _) (.cells #[.int .i64 fr, .int .i64 sl, .int .i64 sz] 44)))
  clear h
  unfold there
  go_enter Try.func15, Try.ntmps15
  go_wp2_with (go_at_call 29; refine (rat_any HH.out fr sl sz hsl).mono ?_; rintro e w' ⟨rfl, hb⟩; have HB := hide (below_one hb (by simp)); clear hb)
  go_ret
  exact ⟨rfl, HB.out⟩
/-- How many of the first k are taken. -/
def cnt (tk : Nat → Bool) (k : Nat) : Nat := ((List.range k).filter tk).length
theorem cnt_succ (tk : Nat → Bool) (k : Nat) : cnt tk (k + 1) = cnt tk k + if tk k then 1 else 0 := by
  unfold cnt
  rw [List.range_succ, List.filter_append, List.length_append]
  cases h : tk k <;> simp [h]
theorem cnt_le (tk : Nat → Bool) (k : Nat) : cnt tk k ≤ k := by
  unfold cnt
  exact Nat.le_trans (List.length_filter_le _ _) (by simp)
/-- How many pieces are taken. -/
def pieces (l : List Cu) : Nat := (l.map fun u => cnt u.tk 4).sum
theorem pieces_succ (l : List Cu) (i : Nat) (h : i < l.length) : pieces (l.take (i + 1)) = pieces (l.take i) + cnt l[i].tk 4 := by
  unfold pieces
  rw [List.take_succ_eq_append_getElem h, List.map_append, List.sum_append, List.map_singleton, List.sum_singleton]
theorem pieces_le (l : List Cu) : pieces l ≤ l.length * 4 := by
  unfold pieces
  induction l with
  | nil => simp
  | cons x l ih =>
    have := cnt_le x.tk 4
    simp only [List.map_cons, List.sum_cons, List.length_cons]
    omega
set_option maxHeartbeats 2000000 in
theorem rlen_any {w : World} {S R : Nat} {l : List Cu} (h : Sr w S R l) :
    Calls Try.prog 19 #[.pointer (some ⟨S, 0, none⟩)] w fun e w' => e = .returned (.int .i64 (pieces l : Nat)) ∧ w = w' := by
  obtain ⟨a, c, h1, hrow⟩ := h.row
  have HR := hide hrow
  have few := h.cuts.few
  clear h hrow
  go_enter Try.func19, Try.ntmps19
  go_wp2_with fail
  go_loop [4, 3] (fun i n => ∃ (k m : Nat), k ≤ l.length ∧ i = .int .i64 (k : Int) ∧ n = .int .i64 (m : Int) ∧ Hid (m = pieces (l.take k))) (fun i _ => l.length - (intOf i).toNat)
  case atStart => exact ⟨0, 0, Nat.zero_le _, rfl, rfl, rfl⟩
  case round =>
    obtain ⟨k, m, hk, rfl, rfl, hM⟩ := hrel
    by_cases hlt : k < l.length
    · obtain ⟨g, rfl, _, _, ck⟩ := HR.out k hlt
      have k0 : (0 : Int) ≤ (k : Int) := by omega
      have k1 : (k : Int) < (l.length : Int) := by omega
      have PS := hide (pieces_succ l k hlt)
      have ML := hide (show m ≤ 256 by have := hM.out; have h2 := pieces_le (l.take k); have h3 : (l.take k).length ≤ 64 := (by simp; omega); omega)
      obtain ⟨u, hu⟩ : ∃ u, u = l[k] := ⟨_, rfl⟩
      rw [← hu] at PS
      replace ck : ∀ k', k' < 4 → w.cell? ⟨g, k * 6 + 2 + k', none⟩ = some (.bool (u.tk k')) := by rw [hu]; exact ck
      have CK := hide ck
      clear ck hu
      go_wp2_with fail
      go_loop [5, 3] (fun i n => ∃ (j p : Nat), j ≤ 4 ∧ i = .int .i64 (j : Int) ∧ n = .int .i64 (p : Int) ∧ Hid (p = m + cnt u.tk j)) (fun i _ => 4 - (intOf i).toNat)
      case atStart => exact ⟨0, m, Nat.zero_le _, rfl, rfl, rfl⟩
      case round =>
        obtain ⟨j, p, hj, rfl, rfl, hP⟩ := hrel
        by_cases hj4 : j < 4
        · have cj := CK.out j hj4
          have j0 : (0 : Int) ≤ (j : Int) := by omega
          have j1 : (j : Int) < 4 := by omega
          have pl : (p : Int) ≤ 300 := by have h1 := ML.out; have h2 := hP.out; have h3 := cnt_le u.tk j; omega
          cases ht : u.tk j with
          | true =>
            rw [ht] at cj
            have NX : Hid (p + 1 = m + cnt u.tk (j + 1)) := (show p + 1 = m + cnt u.tk (j + 1) by rw [cnt_succ, ht, hP.out]; simp; omega)
            go_wp2_with fail
            go_round
            case rel => exact ⟨j + 1, p + 1, by omega, by go_num, by go_num, NX⟩
            case measure => simp [intOf]; omega
          | false =>
            rw [ht] at cj
            have NX : Hid (p = m + cnt u.tk (j + 1)) := (show p = m + cnt u.tk (j + 1) by rw [cnt_succ, ht, hP.out]; simp)
            go_wp2_with fail
            go_round
            case rel => exact ⟨j + 1, p, by omega, by go_num, rfl, NX⟩
            case measure => simp [intOf]; omega
        · obtain rfl : j = 4 := by omega
          have j1 : ¬ ((4 : Nat) : Int) < 4 := by omega
          go_wp2_with fail
          go_round
          case rel => exact ⟨k + 1, p, by omega, by go_num, rfl, by rw [PS.out, ← hM.out]; exact hP.out⟩
          case measure => simp [intOf]; omega
    · obtain rfl : k = l.length := by omega
      have hm := hide (show m = pieces l by rw [hM.out, List.take_length])
      go_wp2_with fail
      go_ret
      exact ⟨ret_int (by rw [hm.out]), rfl⟩
end Go.Proofs.Ytllapjidnngaeaa
