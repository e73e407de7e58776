/-
  Several texts as one: PkEach PkOps PkFunc.
-/
import Derived.Test.YteeofpjfgjhemaaPkMem
import Derived.Test.YteeofpjfgjhemaaNumSumW
import Derived.Test.YteeofpjfgjhemaaRkTab
import Derived.Test.YteeofpjfgjhemaaLkPlain
import Derived.Deep.RegionHeld3
import Derived.Test.YteeofpjfgjhemaaCodeAt
namespace Go.Proofs.Yteeofpjfgjhemaa
open Go.ChangeShapes Go.WideShapes Go.ChangeAt Go.RowKit
set_option linter.unusedVariables false
set_option linter.unusedSimpArgs false
set_option maxRecDepth 10000 in
set_option maxHeartbeats 4000000 in
theorem each_pass (x : Value) (b : Option Addr) (g off n c : Nat) (J : Nat → World → Prop) (w : World) (hn : n ≤ maxLen) (ha : 0 < n → b = some ⟨g, off, none⟩) (h0 : J 0 w)
    (hJ : ∀ k W, k < n → J k W → Calls Try.prog 37 #[x, .pointer (some ⟨g, off + k * 2, none⟩)] W fun e W' => e = .returned (.tuple #[]) ∧ J (k + 1) W') :
    Calls Try.prog 36 #[.slice b n c, .func (.func 37) #[x] #[]] w fun e w' => e = .returned (.tuple #[]) ∧ J n w' := by
  have n63 : (n : Int) ≤ 9223372036854775807 := by unfold maxLen at hn; omega
  have HJ := hide hJ
  have HA := hide ha
  have H0 := hide h0
  clear hJ ha h0 hn
  go_enter Try.func36, Try.ntmps36
  go_wp2_with fail
  go_loopw [7] (fun i wr => ∃ k : Nat, k ≤ n ∧ i = .int .i64 k ∧ Hid (J k wr)) (fun i _ => n - (intOf i).toNat)
  case atStart => exact ⟨0, Nat.zero_le _, rfl, H0⟩
  case round =>
    obtain ⟨k, hk, rfl, hZ⟩ := hrel
    by_cases hlt : k < n
    · have k0 : (0 : Int) ≤ (k : Int) := by omega
      have k1 : (k : Int) < (n : Int) := by omega
      obtain rfl := HA.out (by omega)
      go_wp2_with (go_at_call 37; refine (HJ.out k _ hlt hZ.out).mono ?_; rintro e w2 ⟨rfl, hj⟩; have J2 := hide hj; clear hj)
      go_roundw
      case rel => exact ⟨k + 1, by omega, by go_num, J2⟩
      case measure => simp [intOf]; omega
    · obtain rfl : k = n := by omega
      go_wp2_with fail
      go_end0
      exact ⟨rfl, hZ.out⟩
set_option maxRecDepth 10000 in
set_option maxHeartbeats 4000000 in
theorem each_add (x : Value) (b : Option Addr) (g off n c : Nat) (J : Nat → World → Prop) (w : World) (hn : n ≤ maxLen) (ha : 0 < n → b = some ⟨g, off, none⟩) (h0 : J 0 w)
    (hJ : ∀ k W, k < n → J k W → Calls Try.prog 40 #[x, .pointer (some ⟨g, off + k * 2, none⟩)] W fun e W' => e = .returned (.tuple #[]) ∧ J (k + 1) W') :
    Calls Try.prog 36 #[.slice b n c, .func (.func 40) #[x] #[]] w fun e w' => e = .returned (.tuple #[]) ∧ J n w' := by
  have n63 : (n : Int) ≤ 9223372036854775807 := by unfold maxLen at hn; omega
  have HJ := hide hJ
  have HA := hide ha
  have H0 := hide h0
  clear hJ ha h0 hn
  go_enter Try.func36, Try.ntmps36
  go_wp2_with fail
  go_loopw [7] (fun i wr => ∃ k : Nat, k ≤ n ∧ i = .int .i64 k ∧ Hid (J k wr)) (fun i _ => n - (intOf i).toNat)
  case atStart => exact ⟨0, Nat.zero_le _, rfl, H0⟩
  case round =>
    obtain ⟨k, hk, rfl, hZ⟩ := hrel
    by_cases hlt : k < n
    · have k0 : (0 : Int) ≤ (k : Int) := by omega
      have k1 : (k : Int) < (n : Int) := by omega
      obtain rfl := HA.out (by omega)
      go_wp2_with (go_at_call 40; refine (HJ.out k _ hlt hZ.out).mono ?_; rintro e w2 ⟨rfl, hj⟩; have J2 := hide hj; clear hj)
      go_roundw
      case rel => exact ⟨k + 1, by omega, by go_num, J2⟩
      case measure => simp [intOf]; omega
    · obtain rfl : k = n := by omega
      go_wp2_with fail
      go_end0
      exact ⟨rfl, hZ.out⟩
set_option maxRecDepth 10000 in
set_option maxHeartbeats 4000000 in
theorem each_free (x : Value) (b : Option Addr) (g off n c : Nat) (J : Nat → World → Prop) (w : World) (hn : n ≤ maxLen) (ha : 0 < n → b = some ⟨g, off, none⟩) (h0 : J 0 w)
    (hJ : ∀ k W, k < n → J k W → Calls Try.prog 42 #[x, .pointer (some ⟨g, off + k * 2, none⟩)] W fun e W' => e = .returned (.tuple #[]) ∧ J (k + 1) W') :
    Calls Try.prog 36 #[.slice b n c, .func (.func 42) #[x] #[]] w fun e w' => e = .returned (.tuple #[]) ∧ J n w' := by
  have n63 : (n : Int) ≤ 9223372036854775807 := by unfold maxLen at hn; omega
  have HJ := hide hJ
  have HA := hide ha
  have H0 := hide h0
  clear hJ ha h0 hn
  go_enter Try.func36, Try.ntmps36
  go_wp2_with fail
  go_loopw [7] (fun i wr => ∃ k : Nat, k ≤ n ∧ i = .int .i64 k ∧ Hid (J k wr)) (fun i _ => n - (intOf i).toNat)
  case atStart => exact ⟨0, Nat.zero_le _, rfl, H0⟩
  case round =>
    obtain ⟨k, hk, rfl, hZ⟩ := hrel
    by_cases hlt : k < n
    · have k0 : (0 : Int) ≤ (k : Int) := by omega
      have k1 : (k : Int) < (n : Int) := by omega
      obtain rfl := HA.out (by omega)
      go_wp2_with (go_at_call 42; refine (HJ.out k _ hlt hZ.out).mono ?_; rintro e w2 ⟨rfl, hj⟩; have J2 := hide hj; clear hj)
      go_roundw
      case rel => exact ⟨k + 1, by omega, by go_num, J2⟩
      case measure => simp [intOf]; omega
    · obtain rfl : k = n := by omega
      go_wp2_with fail
      go_end0
      exact ⟨rfl, hZ.out⟩
end Go.Proofs.Yteeofpjfgjhemaa
namespace Go.Proofs.Yteeofpjfgjhemaa
open Go.ChangeShapes Go.WideShapes Go.ChangeAt Go.RowKit Go.Maps
set_option linter.unusedVariables false
set_option linter.unusedSimpArgs false
theorem sum_addN (a b : Int) : sum [a, b] = addN a b := sum_two a b
theorem two_ints (w : World) (a b : Int) {n : Nat} (hn : n = w.heap.size) : Ints .i64 (w.alloc (.cells #[.int .i64 a, .int .i64 b] 3)) (some ⟨n, 0, none⟩) 2 [a, b] := by
  subst hn
  refine ⟨rfl, fun _ => ⟨_, 0, rfl, fun i hi => ?_⟩⟩
  rw [Nat.zero_add]
  have := cells_new w [.int .i64 a, .int .i64 b] 3 _ rfl i
  rw [addr_add, Nat.zero_add] at this
  refine this _ ?_
  match i, hi with
  | 0, _ => rfl
  | 1, _ => rfl
set_option maxHeartbeats 2000000 in
theorem pass_any (n k : Int) (g o : Nat) (w : World) (c0 : w.cell? ⟨g, o + 1, none⟩ = some (.int .i64 k)) (f0 : w.frozen? ⟨g, o + 1, none⟩ = false) :
    Calls Try.prog 37 #[.int .i64 n, .pointer (some ⟨g, o, none⟩)] w fun e w' => e = .returned (.tuple #[]) ∧ w' = (w.setCell ⟨g, o + 1, none⟩ (.int .i64 (addN k n))).alloc (.cells #[.int .i64 k, .int .i64 n] 3) := by
  have A := hide (add_any (some ⟨w.heap.size, 0, none⟩) 2 2 [k, n] _ (two_ints w k n rfl) (by decide))
  rw [sum_addN] at A
  have hl := lt_of_cell? c0
  have c1 : (w.alloc (.cells #[.int .i64 k, .int .i64 n] 3)).cell? ⟨g, o + 1, none⟩ = some (.int .i64 k) := by rw [World.cell?_of_block (heap_alloc_old _ _ hl)]; exact c0
  have f1 : (w.alloc (.cells #[.int .i64 k, .int .i64 n] 3)).frozen? ⟨g, o + 1, none⟩ = false := by rw [World.frozen?_of_block (heap_alloc_old _ _ hl)]; exact f0
  go_enter Try.func37, Try.ntmps37
  go_wp2_with (go_at_call 46; refine A.out.mono ?_; rintro e w2 ⟨rfl, rfl⟩)
  go_end0
  exact ⟨rfl, rfl⟩
set_option maxRecDepth 10000 in
set_option maxHeartbeats 4000000 in
theorem passed_any {Q : Nat → Prop} {w : World} {T : Nat} {ms : List Mu} (h : Tab w Q T ms) (n m k : Int) :
    Calls Try.prog 39 #[.agg #[.pointer (some ⟨T, 0, none⟩), .int .i64 n], .agg #[.int .i64 m, .int .i64 k]] w fun e w' => e = .returned (.bool (decide (limMu ms m < addN k n))) ∧ Below w.heap.size w w' := by
  obtain ⟨X, hX⟩ : ∃ X, X = w.heap.size := ⟨_, rfl⟩
  obtain ⟨w1, hw1⟩ : ∃ w1, w1 = (w.alloc (.cells #[.pointer (some ⟨T, 0, none⟩), .int .i64 n] 89)).alloc (.cells #[.int .i64 m, .int .i64 k] 44) := ⟨_, rfl⟩
  have b0 : Below w.heap.size w w1 := by rw [hw1]; exact ((Below.refl _ _).alloc (Nat.le_refl _) _).alloc (by simp) _
  have B0 := hide b0
  have HX := hide hX
  have HW := hide hw1
  have M0 := hide (show w1.heap[X]? = some (.cells #[.pointer (some ⟨T, 0, none⟩), .int .i64 n] 89 (0, 0)) from by rw [hw1, hX]; exact (heap_alloc_old _ _ (by simp)).trans (heap_alloc_new w _))
  have M1 := hide (show w1.heap[X + 1]? = some (.cells #[.int .i64 m, .int .i64 k] 44 (0, 0)) from by rw [hw1, hX]; have := heap_alloc_new (w.alloc (.cells #[.pointer (some ⟨T, 0, none⟩), .int .i64 n] 89)) (.cells #[.int .i64 m, .int .i64 k] 44); simpa using this)
  have SF := hide (show ∀ W, Below w1.heap.size w1 W → W.cell? ⟨X, 0, none⟩ = some (.pointer (some ⟨T, 0, none⟩)) ∧ W.cell? ⟨X, 1, none⟩ = some (.int .i64 n) ∧ W.cell? ⟨X + 1, 0, none⟩ = some (.int .i64 m) ∧ W.cell? ⟨X + 1, 1, none⟩ = some (.int .i64 k) from fun W b => by
    have h0 := (b.block X (lt_of_heap M0.out)).trans M0.out
    have h1 := (b.block (X + 1) (lt_of_heap M1.out)).trans M1.out
    exact ⟨by rw [cell_of_row _ _ _ _ _ _ h0]; rfl, by rw [cell_of_row _ _ _ _ _ _ h0]; rfl, by rw [cell_of_row _ _ _ _ _ _ h1]; rfl, by rw [cell_of_row _ _ _ _ _ _ h1]; rfl⟩)
  have A := hide (show ∀ (W : World), Below (w1.alloc (.cells #[.int .i64 k, .int .i64 n] 3)).heap.size (w1.alloc (.cells #[.int .i64 k, .int .i64 n] 3)) W → Calls Try.prog 46 #[.slice (some ⟨w1.heap.size, 0, none⟩) 2 2] W fun e w' => e = .returned (.int .i64 (addN k n)) ∧ W = w' from fun W b => by
    have := add_any (some ⟨w1.heap.size, 0, none⟩) 2 2 [k, n] W ((two_ints w1 k n rfl).below b) (by decide)
    rw [sum_addN] at this
    exact this)
  have L := hide (fun (W : World) (b : Below w.heap.size w W) => plimit_any (h.below b) m)
  have D1 := hide (show Below w1.heap.size w1 w1.drew from below_drewN (Below.refl _ w1) 1)
  clear h b0 hX hw1
  go_enter Try.func39, Try.ntmps39
  go_upto_region 1 with fail
  rw [← HX.out, ← HW.out]
  rename_i Q9 K9 a9
  refine wp_region_noPanic ?_
  refine wp_region_held_drew (S := (fun W => W.cell? ⟨X, 0, none⟩ = some (.pointer (some ⟨T, 0, none⟩)) ∧ W.cell? ⟨X, 1, none⟩ = some (.int .i64 n) ∧ W.cell? ⟨X + 1, 0, none⟩ = some (.int .i64 m) ∧ W.cell? ⟨X + 1, 1, none⟩ = some (.int .i64 k))) (by kernel_rfl) (SF.out _ D1.out) (fun hHeld => ?_)
  refine wpAnyH_take (i := 0) (v := ?_) rfl (by kernel_rfl) (by kernel_rfl) (by kernel_rfl) (fun _ _ _ h => h) (Or.inl ⟨by kernel_rfl, ?_⟩) (by assumption) ?_
  rotate_left
  · intro w hSw
    (try dsimp only at hSw)
    go_simp
    try with_reducible rfl
  try simp only [Act.put, List.setIfInBounds_toArray, List.set_cons_zero, List.set_cons_succ]
  refine wpAnyH_take (i := 1) (v := ?_) rfl (by kernel_rfl) (by kernel_rfl) (by kernel_rfl) (fun _ _ _ h => h) (Or.inl ⟨by kernel_rfl, ?_⟩) (by assumption) ?_
  rotate_left
  · intro w hSw
    (try dsimp only at hSw)
    go_simp
    try with_reducible rfl
  try simp only [Act.put, List.setIfInBounds_toArray, List.set_cons_zero, List.set_cons_succ]
  refine wpAnyH_take (i := 2) (v := ?_) rfl (by kernel_rfl) (by kernel_rfl) (by kernel_rfl) (fun _ _ _ h => h) (Or.inl ⟨by kernel_rfl, ?_⟩) (by assumption) ?_
  rotate_left
  · intro w hSw
    (try dsimp only at hSw)
    go_simp
    try with_reducible rfl
  try simp only [Act.put, List.setIfInBounds_toArray, List.set_cons_zero, List.set_cons_succ]
  refine wpAnyH_take (i := 3) (v := ?_) rfl (by kernel_rfl) (by kernel_rfl) (by kernel_rfl) (fun _ _ _ h => h) (Or.inl ⟨by kernel_rfl, ?_⟩) (by assumption) ?_
  rotate_left
  · intro w hSw
    (try dsimp only at hSw)
    go_simp
    try with_reducible rfl
  try simp only [Act.put, List.setIfInBounds_toArray, List.set_cons_zero, List.set_cons_succ]
  refine wpAnyH_take (i := 6) (v := ?_) rfl (by kernel_rfl) (by kernel_rfl) (by kernel_rfl) (fun _ _ _ h => h) (Or.inl ⟨by kernel_rfl, ?_⟩) (by assumption) ?_
  rotate_left
  · intro w hSw
    (try dsimp only at hSw)
    go_simp
    try with_reducible rfl
  try simp only [Act.put, List.setIfInBounds_toArray, List.set_cons_zero, List.set_cons_succ]
  refine wpAnyH_take (i := 7) (v := ?_) rfl (by kernel_rfl) (by kernel_rfl) (by kernel_rfl) (fun _ _ _ h => h) (Or.inl ⟨by kernel_rfl, ?_⟩) (by assumption) ?_
  rotate_left
  · intro w hSw
    (try dsimp only at hSw)
    go_simp
    try with_reducible rfl
  try simp only [Act.put, List.setIfInBounds_toArray, List.set_cons_zero, List.set_cons_succ]
  refine wpAnyH_take (i := 8) (v := ?_) rfl (by kernel_rfl) (by kernel_rfl) (by kernel_rfl) (fun _ _ _ h => h) (Or.inl ⟨by kernel_rfl, ?_⟩) (by assumption) ?_
  rotate_left
  · intro w hSw
    (try dsimp only at hSw)
    go_simp
    try with_reducible rfl
  try simp only [Act.put, List.setIfInBounds_toArray, List.set_cons_zero, List.set_cons_succ]
  refine wpAnyH_take (i := 9) (v := ?_) rfl (by kernel_rfl) (by kernel_rfl) (by kernel_rfl) (fun _ _ _ h => h) (Or.inl ⟨by kernel_rfl, ?_⟩) (by assumption) ?_
  rotate_left
  · intro w hSw
    (try dsimp only at hSw)
    go_simp
    try with_reducible rfl
  try simp only [Act.put, List.setIfInBounds_toArray, List.set_cons_zero, List.set_cons_succ]
  refine wpAnyH_ready (rs := [4]) (by kernel_rfl) (by simp) ?_
  refine AllReadyH.cons rfl (fun K hK => ?_) AllReadyH.nil
  go_simp
  go_wp2_with fail
  refine hK.out _ _ (SF.out _ (D1.out.alloc D1.out.size _)) (fun hHeld => ?_)
  clear hK K
  try simp only [Act.put, List.setIfInBounds_toArray, List.set_cons_zero, List.set_cons_succ]
  refine wpAnyH_ready (rs := [5]) (by kernel_rfl) (by simp) ?_
  refine AllReadyH.cons rfl (fun K hK => ?_) AllReadyH.nil
  go_simp
  go_at_call 46
  refine (A.out _ (below_drewN (Below.refl _ _) 1)).mono ?_
  rintro e w4 ⟨rfl, rfl⟩
  go_wp2_with fail
  refine hK.out _ _ (SF.out _ (D1.out.alloc D1.out.size _)) (fun hHeld => ?_)
  clear hK K
  try simp only [Act.put, List.setIfInBounds_toArray, List.set_cons_zero, List.set_cons_succ]
  refine wpAnyH_ready (rs := [10]) (by kernel_rfl) (by simp) ?_
  refine AllReadyH.cons rfl (fun K hK => ?_) AllReadyH.nil
  go_simp
  go_at_call 48
  refine (L.out _ (B0.out.trans ((D1.out.alloc D1.out.size _).mono B0.out.size))).mono ?_
  rintro e w5 ⟨rfl, rfl⟩
  go_wp2_with fail
  refine hK.out _ _ (SF.out _ (D1.out.alloc D1.out.size _)) (fun hHeld => ?_)
  clear hK K
  try simp only [Act.put, List.setIfInBounds_toArray, List.set_cons_zero, List.set_cons_succ]
  refine wpAnyH_take (i := 11) (v := ?_) rfl (by kernel_rfl) (by kernel_rfl) (by kernel_rfl) (fun _ _ _ h => h) (Or.inl ⟨by kernel_rfl, ?_⟩) (by assumption) ?_
  rotate_left
  · intro w hSw
    (try dsimp only at hSw)
    go_simp
    try with_reducible rfl
  try simp only [Act.put, List.setIfInBounds_toArray, List.set_cons_zero, List.set_cons_succ]
  refine wpAnyH_take (i := 12) (v := ?_) rfl (by kernel_rfl) (by kernel_rfl) (by kernel_rfl) (fun _ _ _ h => h) (Or.inl ⟨by kernel_rfl, ?_⟩) (by assumption) ?_
  rotate_left
  · intro w hSw
    (try dsimp only at hSw)
    go_simp
    try with_reducible rfl
  try simp only [Act.put, List.setIfInBounds_toArray, List.set_cons_zero, List.set_cons_succ]
  refine wpAnyH_done (by kernel_rfl) ?_ _
  go_simp
  refine NoPanic.normal ?_
  refine a9 _ _ ?_
  go_wp2_with fail
  go_ret
  exact ⟨rfl, B0.out.trans ((D1.out.alloc D1.out.size _).mono B0.out.size)⟩
end Go.Proofs.Yteeofpjfgjhemaa
namespace Go.Proofs.Yteeofpjfgjhemaa
open Go.ChangeShapes Go.WideShapes Go.ChangeAt Go.RowKit Go.Maps
set_option linter.unusedVariables false
set_option linter.unusedSimpArgs false
/-- Whether one that is held is beyond its limit. -/
def isOver (ms : List Mu) (n : Int) (x : Hv) : Bool := decide (limMu ms x.m < addN x.k n)
set_option maxRecDepth 10000 in
set_option maxHeartbeats 4000000 in
theorem indexF_any {Q : Nat → Prop} {w : World} {T : Nat} {ms : List Mu} (h : Tab w Q T ms) (n : Int) {a : Option Addr} {l c : Nat} {xs : List Hv} (ha : Reads 2 hvVals w a l xs) (hl : l ≤ maxLen) :
    Calls Try.prog 47 #[.slice a l c, .func (.func 39) #[.agg #[.pointer (some ⟨T, 0, none⟩), .int .i64 n]] #[]] w fun e w' => ∃ r : Int, e = .returned (.int .i64 r) ∧ decide (0 ≤ r) = xs.any (isOver ms n) ∧ Below w.heap.size w w' := by
  have l63 : (l : Int) ≤ 9223372036854775807 := by unfold maxLen at hl; omega
  have HT := hide h
  have HA := hide ha
  clear h ha hl
  go_enter Try.func47, Try.ntmps47
  go_wp2_with fail
  go_loopw [8] (fun i wr => ∃ k : Nat, k ≤ l ∧ i = .int .i64 k ∧ Hid (Below w.heap.size w wr ∧ ∀ (i : Nat) (x : Hv), i < k → xs[i]? = some x → isOver ms n x = false)) (fun i _ => l - (intOf i).toNat)
  case atStart => exact ⟨0, Nat.zero_le _, rfl, Below.refl _ _, fun i x hi => absurd hi (by omega)⟩
  case round =>
    obtain ⟨k, hk, rfl, hZ⟩ := hrel
    by_cases hlt : k < l
    · have k0 : (0 : Int) ≤ (k : Int) := by omega
      have k1 : (k : Int) < (l : Int) := by omega
      obtain ⟨⟨xm, xk⟩, b, off, hx, rfl, hc⟩ := HA.out.at_ hlt
      have HX := hide hx
      have c0 : wr.cell? ⟨b, off + k * 2, none⟩ = some (.int .i64 xm) := (hZ.out.1.cell (lt_of_cell? (hc 0 _ rfl))).trans (hc 0 _ rfl)
      have c1 : wr.cell? ⟨b, off + k * 2 + 1, none⟩ = some (.int .i64 xk) := (hZ.out.1.cell (lt_of_cell? (hc 1 _ rfl))).trans (hc 1 _ rfl)
      clear hx hc
      obtain ⟨q, hq⟩ : ∃ q, q = isOver ms n ⟨xm, xk⟩ := ⟨_, rfl⟩
      have HQ := hide hq
      have C := hide (show Calls Try.prog 39 #[.agg #[.pointer (some ⟨T, 0, none⟩), .int .i64 n], .agg #[.int .i64 xm, .int .i64 xk]] wr fun e w' => e = .returned (.bool q) ∧ Below wr.heap.size wr w' from by rw [hq]; exact passed_any (HT.out.below hZ.out.1) n xm xk)
      clear hq
      cases q with
      | true =>
        go_wp2_with (go_at_call 39; refine C.out.mono ?_; rintro e w2 ⟨rfl, b2⟩; have B2 := hide (hZ.out.1.trans (b2.mono hZ.out.1.size)); clear b2)
        refine bodyPost_ret (v := .int .i64 (k : Nat)) (by simp [results, Try.results47, go_sem]) rfl ⟨_, rfl, ?_, B2.out⟩
        rw [List.any_eq_true.2 ⟨_, List.mem_of_getElem? HX.out, HQ.out.symm⟩]
        exact decide_eq_true (by omega)
      | false =>
        have N := hide (show ∀ (i : Nat) (x : Hv), i < k + 1 → xs[i]? = some x → isOver ms n x = false from fun i x hi hx => by
          by_cases e : i = k
          · subst e; rw [HX.out] at hx; injection hx with hx; rw [← hx]; exact HQ.out.symm
          · exact hZ.out.2 i x (by omega) hx)
        go_wp2_with (go_at_call 39; refine C.out.mono ?_; rintro e w2 ⟨rfl, b2⟩; have B2 := hide (hZ.out.1.trans (b2.mono hZ.out.1.size)); clear b2)
        go_roundw
        case rel => exact ⟨k + 1, by omega, by go_num, B2.out, N.out⟩
        case measure => simp [intOf]; omega
    · obtain rfl : k = l := by omega
      go_wp2_with fail
      refine bodyPost_ret (v := .int .i64 (-1)) (by simp [results, Try.results47, go_sem]) rfl ⟨_, rfl, ?_, hZ.out.1⟩
      rw [decide_eq_false (by omega)]
      symm
      rw [List.any_eq_false]
      intro x hx
      obtain ⟨i, hi⟩ := List.getElem?_of_mem hx
      have := hZ.out.2 i x (by have := (List.getElem?_eq_some_iff.1 hi).1; have := HA.out.1; omega) hi
      simp [this]
set_option maxHeartbeats 4000000 in
theorem containsF_any {Q : Nat → Prop} {w : World} {T : Nat} {ms : List Mu} (h : Tab w Q T ms) (n : Int) {a : Option Addr} {l c : Nat} {xs : List Hv} (ha : Reads 2 hvVals w a l xs) (hl : l ≤ maxLen) :
    Calls Try.prog 38 #[.slice a l c, .func (.func 39) #[.agg #[.pointer (some ⟨T, 0, none⟩), .int .i64 n]] #[]] w fun e w' => e = .returned (.bool (xs.any (isOver ms n))) ∧ Below w.heap.size w w' := by
  have C := hide (indexF_any h n (c := c) ha hl)
  clear h ha hl
  obtain ⟨G, hG⟩ : ∃ G, G = xs.any (isOver ms n) := ⟨_, rfl⟩
  rw [← hG] at C ⊢
  clear hG
  go_enter Try.func38, Try.ntmps38
  go_wp2_with (go_at_call 47; refine C.out.mono ?_; rintro e w2 ⟨r, rfl, hr, b2⟩; have B2 := hide b2; have HR := hide hr; clear b2 hr)
  go_ret
  exact ⟨ret_bool (by rw [← HR.out]), B2.out⟩
end Go.Proofs.Yteeofpjfgjhemaa
