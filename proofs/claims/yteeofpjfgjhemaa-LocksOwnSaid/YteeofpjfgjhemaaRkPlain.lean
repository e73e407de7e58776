/-
  Mutexes that are declared: plain words; what comes in (stage 10).
-/
import Derived.Test.YteeofpjfgjhemaaGRow
import Derived.Test.YteeofpjfgjhemaaNumRefs
import Derived.Deep.RegionHeld3
import Derived.Deep.QuietTactic
import Derived.BigQuiet
namespace Go.Proofs.Yteeofpjfgjhemaa
open Go.ChangeShapes Go.WideShapes Go.ChangeAt Go.RowKit
set_option linter.unusedVariables false
/-- A mutex: its rank, its limit. -/
structure Mu where
  r : Int
  l : Int
def muVals (m : Mu) : List Value := [.int .i64 m.r, .int .i64 m.l]
def MuWf (_ : World) (m : Mu) : Prop := (Lit.int .i64 m.r).wf = true ∧ (Lit.int .i64 m.l).wf = true
theorem muVals_len (x : Mu) : (muVals x).length = 2 := rfl
theorem muVals_cell (x : Mu) : ∀ v ∈ muVals x, v.oneCell' = true := by
  intro v hv
  simp [muVals] at hv
  rcases hv with rfl | rfl <;> rfl
section
variable {H : Type} {enc : TypeId × Value → H} {w : World} {base : Nat} {spare : Nat → Bool} {held : Bool}
theorem mu_open (m : Nat) (cs : List Value) (x : DataW H × List MemPlace) (hl : cs.length = 2) (h : DataW.trod enc Try.prog w base spare held m 49 cs = some x) : ∃ z, cs = muVals z ∧ MuWf w z := by
  obtain ⟨r, e0, w0⟩ := field_int Try.underlying49 h 0 0 3 rfl Try.underlying3 (by kernel_rfl)
  obtain ⟨l, e1, w1⟩ := field_int Try.underlying49 h 1 1 3 rfl Try.underlying3 (by kernel_rfl)
  refine ⟨⟨r, l⟩, ?_, w0, w1⟩
  match cs, hl with
  | [v0, v1], _ =>
    simp at e0 e1
    simp [muVals, e0, e1]
end
def okMu (m : Mu) : Bool := decide (1 ≤ m.r ∧ m.r ≤ 100 ∧ 1 ≤ m.l ∧ m.l ≤ 1000)
def goodMu (ms : List Mu) : Bool := ms.all okMu && decide (ms.length ≤ 6)
def isMu (n : Nat) (m : Int) : Bool := decide (0 ≤ m ∧ m < (n : Int))
def muAt (ms : List Mu) (m : Int) : Mu := ms.getD m.toNat ⟨0, 0⟩
/-- Is one of those held in the way? -/
def inWay (ms : List Mu) (m h : Int) : Bool := isMu ms.length h && decide ((muAt ms m).r ≤ (muAt ms h).r)
def mayMu (ms : List Mu) (hs : List Int) (m : Int) : Int := if isMu ms.length m = false then 19 else if hs.any (inWay ms m) = true then 7 else 0
def leastS (ms : List Mu) (s : Int × Bool) (u : Int) : Int × Bool := if (isMu ms.length u && (!s.2 || decide ((muAt ms u).r < s.1))) = true then ((muAt ms u).r, true) else s
def leastMu (ms : List Mu) (us : List Int) : Int × Bool := us.foldl (leastS ms) (0, false)
def sumS (rank : Int) (s : Int) (m : Mu) : Int := if rank ≤ m.r then cl (cl s + cl m.l) else s
def sumMu (ms : List Mu) (rank : Int) : Int := ms.foldl (sumS rank) 0
def rankMu (ms : List Mu) (m : Int) : Int := if isMu ms.length m = true then (muAt ms m).r else 0
def limMu (ms : List Mu) (m : Int) : Int := if isMu ms.length m = true then (muAt ms m).l else 0
theorem muAt_nat {ms : List Mu} {k : Nat} {x : Mu} (h : ms[k]? = some x) : muAt ms (k : Int) = x := by
  unfold muAt
  rw [Int.toNat_natCast, List.getD_eq_getElem?_getD, h]; rfl
theorem isMu_iff {n : Nat} {m : Int} : isMu n m = true ↔ ∃ k : Nat, m = (k : Int) ∧ k < n := by
  unfold isMu
  rw [decide_eq_true_eq]
  constructor
  · intro h; exact ⟨m.toNat, by omega, by omega⟩
  · rintro ⟨k, rfl, hk⟩; omega
theorem goodMu_bad {ms : List Mu} {k : Nat} {x : Mu} (h : ms[k]? = some x) (hx : okMu x = false) : goodMu ms = false := by
  have : ms.all okMu = false := by
    rw [List.all_eq_false]
    exact ⟨x, List.mem_iff_getElem?.2 ⟨k, h⟩, by simp [hx]⟩
  simp [goodMu, this]
theorem goodMu_all {ms : List Mu} (h : ∀ (i : Nat) (x : Mu), ms[i]? = some x → okMu x = true) : goodMu ms = decide (ms.length ≤ 6) := by
  have : ms.all okMu = true := by
    rw [List.all_eq_true]
    intro x hx
    obtain ⟨i, hi⟩ := List.mem_iff_getElem?.1 hx
    exact h i x hi
  simp [goodMu, this]
end Go.Proofs.Yteeofpjfgjhemaa
