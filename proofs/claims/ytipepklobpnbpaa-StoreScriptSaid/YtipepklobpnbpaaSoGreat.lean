/-
  The contract of great (coxswainlaw20): the acts are few and their bytes are.
-/
import Derived.Test.YtipepklobpnbpaaActs
import Derived.Test.YtipepklobpnbpaaSoBoth
namespace Go.Proofs.Ytipepklobpnbpaa
open Go.ChangeShapes Go.WideShapes Go.ChangeAt Go.RowKit
set_option linter.unusedVariables false
/-- What 'great' tells: if there is nothing too great, the acts are few and short. -/
def GreatTells20 (w : World) (a : Option Addr) (n most : Nat) (e : Ending) : Prop := ∃ r : Bool, e = .returned (.bool r) ∧ (r = false → n ≤ most ∧ Acts 700 w a n)
set_option maxHeartbeats 1000000 in
theorem great20_any {w : World} {a : Option Addr} {n c : Nat} (h : Acts maxLen w a n) (hn : n ≤ maxLen) (most : Nat) (hm : most ≤ 1000) :
    Calls Try.prog 9 #[.slice a n c, .int .i64 (most : Int)] w fun e w' => GreatTells20 w a n most e ∧ w = w' := by
  have h63 : (n : Int) ≤ 9223372036854775807 := by unfold maxLen at hn; omega
  by_cases hle : n ≤ most
  · have hle' : (n : Int) ≤ (most : Int) := by omega
    have hgt : ¬ (most : Int) < (n : Int) := by omega
    have HA := hide h
    clear h
    go_enter Try.func9, Try.ntmps9
    go_wp2_with fail
    go_loop [5] (fun i => ∃ k : Nat, k ≤ n ∧ i = .int .i64 (k : Int) ∧ Hid (Acts 700 w a k)) (fun i => n - (intOf i).toNat)
    case atStart => exact ⟨0, Nat.zero_le _, rfl, fun h => absurd h (by omega)⟩
    case round =>
      obtain ⟨k, hk, rfl, hR⟩ := hrel
      by_cases hlt : k < n
      · obtain ⟨b, off, rfl, hall⟩ := HA.out (by omega)
        obtain ⟨d, i, o, m, aa, l, c', ys, hact, hl⟩ := hall k hlt
        have c4 := hact.c4
        have k0 : (0 : Int) ≤ (k : Int) := by omega
        have k1 : (k : Int) < (n : Int) := by omega
        by_cases h700 : l ≤ 700
        · have h700' : ¬ (700 : Int) < (l : Int) := by omega
          have NX : Hid (Acts 700 w (some ⟨b, off, none⟩) (k + 1)) := (show Acts 700 w (some ⟨b, off, none⟩) (k + 1) from fun _ => ⟨b, off, rfl, fun j hj => by
            by_cases e : j = k
            · subst e; exact ⟨d, i, o, m, aa, l, c', ys, hact, h700⟩
            · obtain ⟨b', off', e', hj'⟩ := hR.out (by omega)
              injection e' with e'
              injection e' with e1 e2 _
              subst e1 e2
              exact hj' j (by omega)⟩)
          clear hact hall
          go_wp2_with fail
          go_round
          case rel => exact ⟨k + 1, by omega, by go_num, NX⟩
          case measure => simp [intOf]; omega
        · have h700' : (700 : Int) < (l : Int) := by omega
          clear hact hall
          go_wp2_with fail
          go_ret
          exact ⟨⟨true, rfl, fun h => by cases h⟩, rfl⟩
      · obtain rfl : k = n := by omega
        go_wp2_with fail
        go_ret
        exact ⟨⟨_, rfl, fun _ => ⟨hle, hR.out⟩⟩, rfl⟩
  · have hle' : ¬ (n : Int) ≤ (most : Int) := by omega
    have hgt : (most : Int) < (n : Int) := by omega
    have hpos : (0 : Int) < (n : Int) := by omega
    go_enter Try.func9, Try.ntmps9
    go_wp2_with fail
    go_loop [5] (fun i => i = .int .i64 0) (fun i => 0)
    case atStart => rfl
    case round =>
      subst hrel
      go_wp2_with fail
      go_ret
      exact ⟨⟨_, rfl, fun h => by simp at h⟩, rfl⟩
end Go.Proofs.Ytipepklobpnbpaa
