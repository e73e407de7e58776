/-
  Contracts of the document's own frames that change nothing: is, range0, Has, Free, and New.
-/
import Derived.Test.YtipepklobpnbpaaRfMem
import Derived.Deep.QuietTactic
import Derived.BigQuiet
namespace Go.Proofs.Ytipepklobpnbpaa
open Go.ChangeShapes Go.WideShapes Go.ChangeAt Go.RowKit
set_option linter.unusedVariables false
theorem ris_any {w : World} {P : Nat → Prop} {R t b : Nat} {s : St} {fresh : Nat} {back : List Nat} (h : Rf w P R t b s fresh back) (i : Int) :
    Calls Try.prog 52 #[.pointer (some ⟨R, 0, none⟩), .int .i64 i] w fun e w' => e = .returned (.int .i64 (code s i 0 0)) ∧ w = w' := by
  have h0 := h.r0
  have HH := hide h
  clear h
  by_cases i0 : 0 ≤ i
  · by_cases i1 : i < s.n
    · obtain ⟨k, rfl⟩ := Int.eq_ofNat_of_zero_le i0
      have hk : k < s.n := by omega
      have ht := HH.out.tk.cell k hk
      cases hb : s.tk k with
      | true =>
        rw [hb] at ht
        rw [code_ok hk fit00 hb]
        go_enter Try.func52, Try.ntmps52
        go_wp2_with fail
        go_ret
        exact ⟨rfl, rfl⟩
      | false =>
        rw [hb] at ht
        rw [code_none hk fit00 hb]
        go_enter Try.func52, Try.ntmps52
        go_wp2_with fail
        go_ret
        exact ⟨rfl, rfl⟩
    · rw [code_arg (fun e => i1 e.2.1)]
      go_enter Try.func52, Try.ntmps52
      go_wp2_with fail
      go_ret
      exact ⟨rfl, rfl⟩
  · rw [code_arg (fun e => i0 e.1)]
    go_enter Try.func52, Try.ntmps52
    go_wp2_with fail
    go_ret
    exact ⟨rfl, rfl⟩
theorem Rf.r2 {w : World} {P : Nat → Prop} {R t b : Nat} {s : St} {fresh : Nat} {back : List Nat} (h : Rf w P R t b s fresh back) : ∃ a c, w.cell? ⟨R, 2, none⟩ = some (.slice a back.length c) ∧ w.ownsRow 0 3 1 (.slice a back.length c) back.length ((nums back).map (Value.int .i64)) ∧ ∀ g, (Value.slice a back.length c).ownBlock = some g → Far P R t b g := by
  obtain ⟨v, e, ho, hv⟩ := h.hd
  obtain ⟨a, c, rfl, _⟩ := own_sliceR ho
  exact ⟨a, c, by rw [cell_of_row _ _ _ _ _ _ e]; rfl, ho, hv⟩
theorem Rf.len {w : World} {P : Nat → Prop} {R t b : Nat} {s : St} {fresh : Nat} {back : List Nat} (h : Rf w P R t b s fresh back) : s.fr.length + fresh = back.length + s.n := by
  rw [h.fr, List.length_append, fallen_len]; have := h.le; omega
theorem rfree_any {w : World} {P : Nat → Prop} {R t b : Nat} {s : St} {fresh : Nat} {back : List Nat} (h : Rf w P R t b s fresh back) :
    Calls Try.prog 35 #[.pointer (some ⟨R, 0, none⟩)] w fun e w' => e = .returned (.int .i64 (s.fr.length : Nat)) ∧ ∃ m, w' = w.drewN m := by
  have h0 := h.r0
  have h3 := h.r3
  obtain ⟨a, c, h2, _⟩ := h.r2
  have hl := h.len
  have hn := h.good.n64
  have hg := h.good.len
  have hle := h.le
  have e0 : IntKind.i64.wrap ((back.length : Int) + (s.n : Int)) = (back.length : Int) + (s.n : Int) := by rw [IntKind.wrap_i64]; omega
  have e1 : (back.length : Int) + (s.n : Int) - (fresh : Int) = (s.fr.length : Int) := by omega
  have e2 : IntKind.i64.wrap ((back.length : Int) + (s.n : Int) - (fresh : Int)) = (s.fr.length : Int) := by rw [IntKind.wrap_i64]; omega
  have E2 := hide (show (back.length : Int) + (s.n : Int) - (fresh : Int) = (s.fr.length : Int) by omega)
  have hb : (back.length : Int) ≤ 64 := by omega
  have hf : (fresh : Int) ≤ 64 := by omega
  have hn' : (s.n : Int) ≤ 64 := by omega
  clear h hl hg hle e1 e2
  go_enter Try.func35, Try.ntmps35
  go_wp2_with fail
  go_quiet (fail)
  go_wp2_with fail
  go_ret
  exact ⟨ret_int E2.out, _, rfl⟩
theorem rnew_arg (w : World) (n : Int) (h : n < 1 ∨ 64 < n) : Calls Try.prog 13 #[.int .i64 n] w fun e w' => e = .returned (.tuple #[.pointer none, .int .i64 2]) ∧ w = w' := by
  by_cases h1 : n < 1
  · go_enter Try.func13, Try.ntmps13
    go_wp2_with fail
    go_ret2
    exact ⟨rfl, rfl⟩
  · have h2 : 64 < n := by omega
    go_enter Try.func13, Try.ntmps13
    go_wp2_with fail
    go_ret2
    exact ⟨rfl, rfl⟩
end Go.Proofs.Ytipepklobpnbpaa
