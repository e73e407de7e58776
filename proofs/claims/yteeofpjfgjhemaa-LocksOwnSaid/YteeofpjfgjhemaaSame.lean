/-
  Contracts of what the statements share: whether two slices of integers are the same; a slice of integers written over.
-/
import Derived.Test.YteeofpjfgjhemaaMem
import Derived.Deep.QuietTactic
import Derived.BigQuiet
import Derived.Laws.OwnMore
namespace Go.Proofs.Yteeofpjfgjhemaa
open Go.ChangeShapes Go.WideShapes Go.ChangeAt Go.RowKit
set_option linter.unusedVariables false
theorem int_info : (Try.prog.info? 3).map (fun i => (i.zero, i.size, i.bytes)) = some (some (.int .i64 0), 1, 8) := by kernel_rfl
set_option maxHeartbeats 800000 in
theorem same_any (a b : Option Addr) (n c d : Nat) (xs : List Int) (w : World) (ha : Ints .i64 w a n xs) (hb : Ints .i64 w b n xs) (hn : n ≤ 9223372036854775807) :
    Calls Try.prog 24 #[.slice a n c, .slice b n d] w fun e w' => e = .returned (.bool true) ∧ Below w.heap.size w w' := by
  obtain ⟨hl, hc⟩ := ha
  obtain ⟨_, hd⟩ := hb
  clear hl
  have e0 : ((n : Int) == (n : Int)) = true := by simp
  have e1 : ((n : Int) != (n : Int)) = false := by simp
  go_enter Try.func24, Try.ntmps24
  go_wp2_with fail
  go_loopw [5] (fun i wr => ∃ k : Nat, k ≤ n ∧ i = .int .i64 k ∧ ∃ m, wr = w.drewN m) (fun i _ => n - (intOf i).toNat)
  case atStart => exact ⟨0, Nat.zero_le _, rfl, 0, rfl⟩
  case round =>
    obtain ⟨k, hk, rfl, m, rfl⟩ := hrel
    by_cases hlt : k < n
    · obtain ⟨b1, o1, rfl, hcs⟩ := hc (by omega)
      obtain ⟨b2, o2, rfl, hds⟩ := hd (by omega)
      have h1 := hcs k hlt
      have h2 := hds k hlt
      clear hcs hds hc hd
      go_wp2_with fail
      go_quiet (fail)
      go_wp2_with fail
      go_roundw
      case rel => exact ⟨k + 1, by omega, by go_num, _, rfl⟩
      case measure => simp [intOf]; omega
    · clear hc hd
      go_wp2_with fail
      go_ret
      exact ⟨rfl, below_drewN (Below.refl _ _) _⟩
theorem same_own (u v : Value) (n : Nat) (xs : List Int) (w : World) {b1 b2 : Nat} (hu : w.ownsRow b1 3 1 u n (xs.map (Value.int .i64))) (hv : w.ownsRow b2 3 1 v n (xs.map (Value.int .i64))) (hn : n ≤ 9223372036854775807) :
    Calls Try.prog 24 #[u, v] w fun e w' => e = .returned (.bool true) ∧ Below w.heap.size w w' := by
  obtain ⟨A, c, rfl, hi, _⟩ := own_ints hu
  obtain ⟨B, d, rfl, hj, _⟩ := own_ints hv
  exact same_any A B n c d xs w hi hj hn
end Go.Proofs.Yteeofpjfgjhemaa
