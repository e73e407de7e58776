/-
  Lists of numbers that may be read; Acyclic's answer (stages 11, 12).
-/
import Derived.Test.YteeofpjfgjhemaaGhAcyc
import Derived.Test.YteeofpjfgjhemaaLend
namespace Go.Proofs.Yteeofpjfgjhemaa
open Go.ChangeShapes Go.WideShapes Go.ChangeAt Go.RowKit
set_option linter.unusedVariables false
/-- A list of numbers that may be read. -/
def ListIn (w : World) (a : Option Addr) (n c : Nat) (xs : List Int) : Prop := CameIn .i64 w a n c xs ∧ n ≤ 25
theorem ListIn.below {w w' : World} {a : Option Addr} {n c : Nat} {xs : List Int} (h : ListIn w a n c xs) (b : Below w.heap.size w w') : ListIn w' a n c xs := by
  obtain ⟨⟨h1, h2⟩, h3⟩ := h
  exact ⟨⟨h1.below b, h2⟩, h3⟩
theorem ListIn.ints {w : World} {a : Option Addr} {n c : Nat} {xs : List Int} (h : ListIn w a n c xs) : Ints .i64 w a n xs := h.1.1
theorem ListIn.max {w : World} {a : Option Addr} {n c : Nat} {xs : List Int} (h : ListIn w a n c xs) : n ≤ maxLen := by have := h.2; unfold maxLen; omega
/-- Of how many threads: the numbers that Acyclic goes through. -/
def acyZ (ws os : List Int) (n : Int) : Bool := acyG ws os n (min n.toNat ws.length)
theorem litIn {w : World} {Z : Nat} (xs : List Int) {fr : Nat × Nat} (h : w.heap[Z]? = some (.cells (xs.map (Value.int .i64)).toArray 3 fr)) (hl : xs.length ≤ 25) (hw : ∀ x ∈ xs, (Lit.int .i64 x).wf = true) : ListIn w (some ⟨Z, 0, none⟩) xs.length xs.length xs := by
  refine ⟨⟨⟨rfl, fun hn => ⟨Z, 0, rfl, fun j hj => ?_⟩⟩, Nat.le_refl _, by unfold maxLen; omega, (fun e => by cases e), hw⟩, hl⟩
  rw [Nat.zero_add, cell_of_row _ _ _ _ _ _ h, List.getElem?_toArray, List.getElem?_map, List.getElem?_eq_getElem hj]
  simp [List.getD, hj]
/-- Acyclic alone. -/
structure PAcyc : Prop where
  acyc : ∀ (w : World) (a : Option Addr) (p ca : Nat) (ws : List Int) (b : Option Addr) (q cb : Nat) (os : List Int) (n : Int), ListIn w a p ca ws → ListIn w b q cb os → (Lit.int .i64 n).wf = true → n ≤ 25 →
    Calls Try.prog 20 #[.slice a p ca, .slice b q cb, .int .i64 n] w fun e w' => e = .returned (.bool (acyZ ws os n)) ∧ Below w.heap.size w w'
end Go.Proofs.Yteeofpjfgjhemaa
