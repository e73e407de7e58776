/-
  Contracts of the program's frames that change nothing: fits, check, Free, Has.
-/
import Derived.Test.YtipepklobpnbpaaFrMem
import Derived.Deep.QuietTactic
import Derived.BigQuiet
namespace Go.Proofs.Ytipepklobpnbpaa
open Go.ChangeShapes Go.WideShapes Go.ChangeAt Go.RowKit
set_option linter.unusedVariables false
/-- Whether a frame has n bytes from off on. -/
def fit (off n : Int) : Bool := decide (0 ≤ off) && (decide (0 ≤ n) && decide (n ≤ 64 - off))
theorem wf_i64 {x : Int} (h : (Lit.int .i64 x).wf = true) : -9223372036854775808 ≤ x ∧ x ≤ 9223372036854775807 := by
  simp [Lit.wf, IntKind.min, IntKind.max, IntKind.bits, IntKind.signed] at h
  omega
theorem fits_any (w : World) (off n : Int) (ho : (Lit.int .i64 off).wf = true) : Calls Try.prog 53 #[.int .i64 off, .int .i64 n] w fun e w' => e = .returned (.bool (fit off n)) ∧ w = w' := by
  have hw := wf_i64 ho
  clear ho
  by_cases h0 : 0 ≤ off
  · have hs : IntKind.i64.wrap (64 - off) = 64 - off := by rw [IntKind.wrap_i64]; omega
    by_cases h1 : 0 ≤ n
    · rw [show fit off n = decide (n ≤ 64 - off) by simp [fit, h0, h1]]
      go_enter Try.func53, Try.ntmps53
      go_wp2_with fail
      go_ret
      exact ⟨rfl, rfl⟩
    · rw [show fit off n = false by simp [fit]; omega]
      go_enter Try.func53, Try.ntmps53
      go_wp2_with fail
      go_ret
      exact ⟨rfl, rfl⟩
  · rw [show fit off n = false by simp [fit]; omega]
    go_enter Try.func53, Try.ntmps53
    go_wp2_with fail
    go_ret
    exact ⟨rfl, rfl⟩
/-- What is wrong with n bytes of i from off on. -/
def code (s : St) (i off n : Int) : Int := if 0 ≤ i ∧ i < s.n ∧ fit off n = true then (if s.tk i.toNat then 0 else 4) else 2
theorem check_nil (w : World) (i off n : Int) : Calls Try.prog 51 #[.pointer none, .int .i64 i, .int .i64 off, .int .i64 n] w fun e w' => e = .returned (.int .i64 1) ∧ w = w' := by
  go_enter Try.func51, Try.ntmps51
  go_wp2_with fail
  go_ret
  exact ⟨rfl, rfl⟩
theorem code_ok {s : St} {k : Nat} {off n : Int} (hk : k < s.n) (hf : fit off n = true) (ht : s.tk k = true) : code s k off n = 0 := by
  unfold code; rw [if_pos ⟨by omega, by omega, hf⟩, Int.toNat_natCast, if_pos ht]
theorem code_none {s : St} {k : Nat} {off n : Int} (hk : k < s.n) (hf : fit off n = true) (ht : s.tk k = false) : code s k off n = 4 := by
  unfold code; rw [if_pos ⟨by omega, by omega, hf⟩, Int.toNat_natCast, ht]; rfl
theorem code_arg {s : St} {i off n : Int} (h : ¬ (0 ≤ i ∧ i < s.n ∧ fit off n = true)) : code s i off n = 2 := by
  unfold code; rw [if_neg h]
theorem check_any {w : World} {H A Q : Nat} {s : St} (f : Fr w H A Q s) (i off n : Int) (ho : (Lit.int .i64 off).wf = true) :
    Calls Try.prog 51 #[.pointer (some ⟨H, 0, none⟩), .int .i64 i, .int .i64 off, .int .i64 n] w fun e w' => e = .returned (.int .i64 (code s i off n)) ∧ w = w' := by
  have h0 := f.h0
  have F := hide f
  clear f
  by_cases i0 : 0 ≤ i
  · by_cases i1 : i < s.n
    · obtain ⟨k, rfl⟩ := Int.eq_ofNat_of_zero_le i0
      have hk : k < s.n := by omega
      have ht := F.out.tk k hk
      cases hf : fit off n with
      | true =>
        cases hb : s.tk k with
        | true =>
          rw [hb] at ht
          rw [code_ok hk hf hb]
          go_enter Try.func51, Try.ntmps51
          go_wp2_with (go_at_call 53; with_reducible refine (fits_any _ _ _ ho).mono ?_; rintro e w' ⟨rfl, rfl⟩; rw [hf])
          go_ret
          exact ⟨rfl, rfl⟩
        | false =>
          rw [hb] at ht
          rw [code_none hk hf hb]
          go_enter Try.func51, Try.ntmps51
          go_wp2_with (go_at_call 53; with_reducible refine (fits_any _ _ _ ho).mono ?_; rintro e w' ⟨rfl, rfl⟩; rw [hf])
          go_ret
          exact ⟨rfl, rfl⟩
      | false =>
        rw [code_arg (fun e => by rw [hf] at e; cases e.2.2)]
        go_enter Try.func51, Try.ntmps51
        go_wp2_with (go_at_call 53; with_reducible refine (fits_any _ _ _ ho).mono ?_; rintro e w' ⟨rfl, rfl⟩; rw [hf])
        go_ret
        exact ⟨rfl, rfl⟩
    · rw [code_arg (fun e => i1 e.2.1)]
      go_enter Try.func51, Try.ntmps51
      go_wp2_with fail
      go_ret
      exact ⟨rfl, rfl⟩
  · rw [code_arg (fun e => i0 e.1)]
    go_enter Try.func51, Try.ntmps51
    go_wp2_with fail
    go_ret
    exact ⟨rfl, rfl⟩
theorem free_any {w : World} {H A Q : Nat} {s : St} (f : Fr w H A Q s) :
    Calls Try.prog 34 #[.pointer (some ⟨H, 0, none⟩)] w fun e w' => e = .returned (.int .i64 (s.fr.length : Nat)) ∧ w = w' := by
  have h1 := f.h1
  clear f
  go_enter Try.func34, Try.ntmps34
  go_wp2_with fail
  go_ret
  exact ⟨rfl, rfl⟩
theorem free_nil (w : World) : Calls Try.prog 34 #[.pointer none] w fun e w' => e = .returned (.int .i64 0) ∧ w = w' := by
  go_enter Try.func34, Try.ntmps34
  go_wp2_with fail
  go_ret
  exact ⟨rfl, rfl⟩
theorem wf_zero : (Lit.int .i64 0).wf = true := by decide
end Go.Proofs.Ytipepklobpnbpaa
