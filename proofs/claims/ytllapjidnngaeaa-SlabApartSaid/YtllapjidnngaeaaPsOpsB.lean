/-
  Contracts of the program's slab: Has; of none each call.
-/
import Derived.Test.YtllapjidnngaeaaPsOpsA
namespace Go.Proofs.Ytllapjidnngaeaa
open Go.ChangeShapes Go.WideShapes Go.ChangeAt Go.RowKit
set_option linter.unusedVariables false
/-- What Has looks up. -/
def hasT (T : Nat → Cu) (fr sl sz : Int) : Bool := decide (0 ≤ fr ∧ fr < 64 ∧ 0 ≤ sl ∧ sl < 4) && (((((T fr.toNat).c : Nat) : Int) == sz) && (T fr.toNat).tk sl.toNat)
theorem hasT_out {T : Nat → Cu} {fr sl sz : Int} (h : ¬ (0 ≤ fr ∧ fr < 64 ∧ 0 ≤ sl ∧ sl < 4)) : hasT T fr sl sz = false := by unfold hasT; rw [decide_eq_false h]; rfl
theorem hasT_in {T : Nat → Cu} {f k : Nat} {sz : Int} (hf : f < 64) (hk : k < 4) : hasT T f k sz = ((((T f).c : Nat) : Int) == sz && (T f).tk k) := by
  unfold hasT; rw [decide_eq_true (by omega)]; simp
set_option maxRecDepth 10000 in
set_option maxHeartbeats 4000000 in
theorem shas_any {w : World} {S H : Nat} {T : Nat → Cu} (h : RowS w S H T) (fr sl sz : Int) :
    Calls Try.prog 14 #[.pointer (some ⟨S, 0, none⟩), refV fr sl sz] w fun e w' => e = .returned (.bool (hasT T fr sl sz)) ∧ Below w.heap.size w w' := by
  have HH := hide h
  have b0 := (Below.refl w.heap.size w).alloc (Nat.le_refl _) (.cells #[.int .i64 fr, .int .i64 sl, .int .i64 sz] 39)
  have B0 := hide b0
  clear h b0
  unfold refV
  by_cases h1 : fr < 0
  · rw [hasT_out (by omega)]
    go_enter Try.func14, Try.ntmps14
    go_wp2_with fail
    go_ret
    exact ⟨rfl, B0.out⟩
  · by_cases h2 : 64 ≤ fr
    · rw [hasT_out (by omega)]
      go_enter Try.func14, Try.ntmps14
      go_wp2_with fail
      go_ret
      exact ⟨rfl, B0.out⟩
    · by_cases h3 : sl < 0
      · rw [hasT_out (by omega)]
        go_enter Try.func14, Try.ntmps14
        go_wp2_with fail
        go_ret
        exact ⟨rfl, B0.out⟩
      · by_cases h4 : 4 ≤ sl
        · rw [hasT_out (by omega)]
          go_enter Try.func14, Try.ntmps14
          go_wp2_with fail
          go_ret
          exact ⟨rfl, B0.out⟩
        · obtain ⟨f, rfl⟩ := Int.eq_ofNat_of_zero_le (show 0 ≤ fr by omega)
          obtain ⟨k, rfl⟩ := Int.eq_ofNat_of_zero_le (show 0 ≤ sl by omega)
          have hf : f < 64 := by omega
          have hk : k < 4 := by omega
          rw [hasT_in hf hk]
          have HA := hide (show RowS _ S H T from (B0.out.block S (lt_of_heap HH.out)).trans HH.out)
          have hX := heap_alloc_new w (.cells #[.int .i64 (f : Int), .int .i64 (k : Int), .int .i64 sz] 39)
          have HX := hide hX
          clear hX
          generalize hu : T f = u at *
          have HU := hide hu
          clear hu
          go_enter Try.func14, Try.ntmps14
          go_upto_region 3 with fail
          generalize w.alloc (.cells #[.int .i64 (f : Int), .int .i64 (k : Int), .int .i64 sz] 39) = w0 at *
          generalize hXe : w.heap.size = X at *
          have x0 : w0.cell? ⟨X, 0, none⟩ = some (.int .i64 (f : Int)) := by rw [cell_of_row _ _ _ _ _ _ HX.out]; rfl
          have x1 : w0.cell? ⟨X, 1, none⟩ = some (.int .i64 (k : Int)) := by rw [cell_of_row _ _ _ _ _ _ HX.out]; rfl
          have x2 : w0.cell? ⟨X, 2, none⟩ = some (.int .i64 sz) := by rw [cell_of_row _ _ _ _ _ _ HX.out]; rfl
          have s0 : w0.cell? ⟨S, 2 + f * 5, none⟩ = some (.int .i64 (u.c : Int)) := by have := HA.out.cut 0 hf (by omega); rw [HU.out] at this; exact this
          have s1 : w0.cell? ⟨S, 2 + f * 5 + 1, none⟩ = some (.bool (u.tk 0)) := by have := HA.out.cut 1 hf (by omega); rw [HU.out] at this; exact this
          have s2 : w0.cell? ⟨S, 2 + f * 5 + 2, none⟩ = some (.bool (u.tk 1)) := by have := HA.out.cut 2 hf (by omega); rw [HU.out] at this; exact this
          have s3 : w0.cell? ⟨S, 2 + f * 5 + 3, none⟩ = some (.bool (u.tk 2)) := by have := HA.out.cut 3 hf (by omega); rw [HU.out] at this; exact this
          have s4 : w0.cell? ⟨S, 2 + f * 5 + 4, none⟩ = some (.bool (u.tk 3)) := by have := HA.out.cut 4 hf (by omega); rw [HU.out] at this; exact this
          have f0 : (0 : Int) ≤ (f : Int) := by omega
          have f1 : (f : Int) < 64 := by omega
          have LS := lt_of_heap HA.out
          have LX := lt_of_heap HX.out
          have bA := (Below.refl w0.heap.size w0).alloc (Nat.le_refl _) (.cells #[.int .i64 (u.c : Int), .bool (u.tk 0), .bool (u.tk 1), .bool (u.tk 2), .bool (u.tk 3)] 70)
          have BA := hide (below_drewN bA 1)
          have RA := hide (show (w0.alloc (.cells #[.int .i64 (u.c : Int), .bool (u.tk 0), .bool (u.tk 1), .bool (u.tk 2), .bool (u.tk 3)] 70)).drew.heap[w0.heap.size]? = _ from heap_alloc_new w0 (.cells #[.int .i64 (u.c : Int), .bool (u.tk 0), .bool (u.tk 1), .bool (u.tk 2), .bool (u.tk 3)] 70))
          clear bA
          have SZ := hide (show X ≤ w0.heap.size from hXe ▸ B0.out.size)
          go_region
          clear x0 x1 x2 s0 s1 s2 s3 s4
          replace BA : Hid (Below w0.heap.size w0 (w0.alloc (.cells #[.int .i64 (u.c : Int), .bool (u.tk 0), .bool (u.tk 1), .bool (u.tk 2), .bool (u.tk 3)] 70)).drew) := BA
          generalize (w0.alloc (.cells #[.int .i64 (u.c : Int), .bool (u.tk 0), .bool (u.tk 1), .bool (u.tk 2), .bool (u.tk 3)] 70)).drew = W at *
          have bx := (BA.out.block X LX).trans HX.out
          have x1 : W.cell? ⟨X, 1, none⟩ = some (.int .i64 (k : Int)) := by rw [cell_of_row _ _ _ _ _ _ bx]; rfl
          have x2 : W.cell? ⟨X, 2, none⟩ = some (.int .i64 sz) := by rw [cell_of_row _ _ _ _ _ _ bx]; rfl
          generalize w0.heap.size = Y at *
          obtain ⟨y0, ya⟩ := row4 RA.out
          have yk := ya k hk
          have k0 : (0 : Int) ≤ (k : Int) := by omega
          have k1 : (k : Int) < 4 := by omega
          have BF := hide (B0.out.trans (BA.out.mono SZ.out))
          clear bx ya RA BA HX HA HU
          cases hz : ((u.c : Int) == sz) with
          | true =>
            go_wp2_with fail
            -- HERE
            go_ret
            exact ⟨rfl, BF.out⟩
          | false =>
            go_wp2_with fail
            go_ret
            exact ⟨rfl, BF.out⟩
theorem snil_take (w : World) (n : Int) : Calls Try.prog 10 #[.pointer none, .int .i64 n] w fun e w' => e = .returned (.tuple #[refV 0 0 0, .int .i64 1]) ∧ Below w.heap.size w w' := by
  unfold refV
  go_enter Try.func10, Try.ntmps10
  go_wp2_with fail
  exact bodyPost_ret (v := .tuple #[.agg #[.int .i64 0, .int .i64 0, .int .i64 0], .int .i64 1]) (by simp [results, Try.results10, go_sem]) rfl ⟨rfl, (Below.refl _ _).alloc (Nat.le_refl _) _⟩
theorem snil_give (w : World) (fr sl sz : Int) : Calls Try.prog 16 #[.pointer none, refV fr sl sz] w fun e w' => e = .returned (.int .i64 1) ∧ Below w.heap.size w w' := by
  unfold refV
  go_enter Try.func16, Try.ntmps16
  go_wp2_with fail
  go_ret
  exact ⟨rfl, (Below.refl w.heap.size w).alloc (Nat.le_refl _) _⟩
theorem snil_has (w : World) (fr sl sz : Int) : Calls Try.prog 14 #[.pointer none, refV fr sl sz] w fun e w' => e = .returned (.bool false) ∧ Below w.heap.size w w' := by
  unfold refV
  go_enter Try.func14, Try.ntmps14
  go_wp2_with fail
  go_ret
  exact ⟨rfl, (Below.refl w.heap.size w).alloc (Nat.le_refl _) _⟩
theorem snil_len (w : World) : Calls Try.prog 18 #[.pointer none] w fun e w' => e = .returned (.int .i64 0) ∧ w = w' := by
  go_enter Try.func18, Try.ntmps18
  go_wp2_with fail
  go_ret
  exact ⟨rfl, rfl⟩
end Go.Proofs.Ytllapjidnngaeaa
