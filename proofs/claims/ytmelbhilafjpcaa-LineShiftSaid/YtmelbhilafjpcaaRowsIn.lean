/-
  What comes in: a slice of structs of integers, read row by row.
-/
import Derived.Test.YtmelbhilafjpcaaKit
import Derived.Deep.Slices
import Derived.Deep.Fields
import Derived.ChangeSame
namespace Go.Proofs.Ytmelbhilafjpcaa
open Go.ChangeShapes Go.WideShapes Go.ChangeAt Go.RowKit
open Go.Deep (oneCellFields hone_of)
set_option linter.unusedVariables false
/-- A slice of n structs of k integers each, that reads as 'zs'. -/
def CameRows (k : Nat) (w : World) (a : Option Addr) (n c : Nat) (zs : List (List Int)) : Prop :=
  zs.length = n ∧ n ≤ c ∧ c ≤ maxLen ∧ (∀ i, i < n → (zs.getD i []).length = k ∧ ∀ j, j < k → (Lit.int .i64 ((zs.getD i []).getD j 0)).wf = true) ∧
    (0 < n → ∃ b off, a = some ⟨b, off, none⟩ ∧ b < w.heap.size ∧ ∀ i j, i < n → j < k → w.cell? ⟨b, off + (i * k + j), none⟩ = some (.int .i64 ((zs.getD i []).getD j 0)))
theorem list_of {α : Type} (d : α) (n : Nat) (p : Nat → α → Prop) (h : ∀ i, i < n → ∃ z, p i z) : ∃ zs : List α, zs.length = n ∧ ∀ i, i < n → p i (zs.getD i d) := by
  refine ⟨(List.range n).map fun i => if hi : i < n then Classical.choose (h i hi) else d, by simp, fun i hi => ?_⟩
  have e : ((List.range n).map fun i => if hi : i < n then Classical.choose (h i hi) else d).getD i d = Classical.choose (h i hi) := by
    simp [List.getD, hi]
  rw [e]
  exact Classical.choose_spec (h i hi)
section
variable {H : Type} {enc : TypeId × Value → H} {P : Program} {w : World} {base : Nat} {spare : Nat → Bool} {held : Bool}
theorem ints_of_struct {e : TypeId} {fs : Array Field} {n : Nat} {cs : List Value} {x : DataW H × List MemPlace} (he : P.underlying e = some (.struct fs)) (hone : oneCellFields P fs = true)
    (hint : ∀ (j : Nat) (f : Field), fs[j]? = some f → P.underlying f.type = some (.int .i64)) (hl : cs.length = fs.size) (h : DataW.trod enc P w base spare held n e cs = some x) :
    ∃ z : List Int, z.length = fs.size ∧ ∀ j, j < fs.size → cs[j]? = some (.int .i64 (z.getD j 0)) ∧ (Lit.int .i64 (z.getD j 0)).wf = true := by
  obtain ⟨xs, m, _, _, _, _, hf⟩ := DataW.trod_struct he h
  obtain ⟨z, hz, hp⟩ := list_of (0 : Int) fs.size (fun j y => cs[j]? = some (.int .i64 y) ∧ (Lit.int .i64 y).wf = true) (fun j hj => by
    have hfj : fs[j]? = some fs[j] := Array.getElem?_eq_getElem hj
    obtain ⟨ho, hk⟩ := hone_of hone j _ hfj
    have h1 := hf j _ hfj
    have hx : xs[j]? = some (xs[j]'(by omega)) := List.getElem?_eq_getElem (by omega)
    rw [ho, hk, hx] at h1
    obtain ⟨y, hy, _, hw⟩ := DataW.trod_int (hint j _ hfj) h1
    refine ⟨y, ?_, hw⟩
    have hd : (cs.drop j).take 1 = [cs[j]'(by omega)] := by
      rw [List.drop_eq_getElem_cons (by omega)]; rfl
    rw [hd] at hy
    injection hy with hy _
    rw [List.getElem?_eq_getElem (by omega), hy])
  exact ⟨z, hz, hp⟩
theorem cameRows_open (k : Nat) {t e : TypeId} {fs : Array Field} {a : Option Addr} {l c : Nat} {d : DataW H} {ps : List MemPlace} (ht : P.underlying t = some (.slice e)) (he : P.underlying e = some (.struct fs)) (hk : fs.size = k) (hk0 : 0 < k)
    (hone : oneCellFields P fs = true) (hC : P.cellsOf e = k) (hint : ∀ (j : Nat) (f : Field), fs[j]? = some f → P.underlying f.type = some (.int .i64))
    (h : DataW.Trod enc P w base spare held t (.slice a l c) d ps) : ∃ zs, CameRows k w a l c zs := by
  obtain ⟨fuel, hf⟩ := h
  rcases Go.Deep.open_slice ht hf with ⟨h0, _⟩ | ⟨ad, len, cap, m, n, D, Pl, hcs, hb, hl, hm, hmm, hx, hi⟩
  · simp [Value.cells] at h0
    obtain ⟨rfl, rfl, rfl⟩ := h0
    exact ⟨[], rfl, Nat.le_refl _, by unfold maxLen; omega, fun i hi => by omega, fun hn => by omega⟩
  · simp [Value.cells] at hcs
    obtain ⟨rfl, rfl, rfl⟩ := hcs
    have hlm : l ≤ m := by rw [hmm]; split <;> omega
    obtain ⟨zs, hz, hp⟩ := list_of ([] : List Int) l (fun i z => z.length = k ∧ ∀ j, j < k → w.cell? (ad.add (i * k + j)) = some (.int .i64 (z.getD j 0)) ∧ (Lit.int .i64 (z.getD j 0)).wf = true) (fun i hil => by
      obtain ⟨cs', hc, ht'⟩ := hi i (by omega)
      rw [hC] at hc
      obtain ⟨_, hcl, hat⟩ := World.cells?_some hc
      obtain ⟨z, hz, hp⟩ := ints_of_struct he hone hint (by omega) ht'
      refine ⟨z, by omega, fun j hj => ?_⟩
      obtain ⟨h1, h2⟩ := hp j (by omega)
      rw [← Go.Deep.add_add, hat j hj]
      exact ⟨h1, h2⟩)
    refine ⟨zs, hz, hl, hm, fun i hil => ⟨(hp i hil).1, fun j hj => ((hp i hil).2 j hj).2⟩, fun hn => ?_⟩
    obtain ⟨b, off, spot⟩ := ad
    have h00 := ((hp 0 hn).2 0 hk0).1
    have hspot : spot = none := by simpa [Addr.add] using World.cell?_spot h00
    subst hspot
    refine ⟨b, off, rfl, ?_, fun i j hil hj => ?_⟩
    · have := lt_of_cell? h00
      simpa [Addr.add] using this
    · have := ((hp i hil).2 j hj).1
      rw [Go.WideShapes.add_plain] at this
      exact this
/-- The same, and what a nil one's room is. -/
def CameRowsN (k : Nat) (w : World) (a : Option Addr) (n c : Nat) (zs : List (List Int)) : Prop := CameRows k w a n c zs ∧ (a = none → c = 0)
theorem cameRowsN_open (k : Nat) {t e : TypeId} {fs : Array Field} {a : Option Addr} {l c : Nat} {d : DataW H} {ps : List MemPlace} (ht : P.underlying t = some (.slice e)) (he : P.underlying e = some (.struct fs)) (hk : fs.size = k) (hk0 : 0 < k)
    (hone : oneCellFields P fs = true) (hC : P.cellsOf e = k) (hint : ∀ (j : Nat) (f : Field), fs[j]? = some f → P.underlying f.type = some (.int .i64))
    (h : DataW.Trod enc P w base spare held t (.slice a l c) d ps) : ∃ zs, CameRowsN k w a l c zs := by
  obtain ⟨zs, hz⟩ := cameRows_open k ht he hk hk0 hone hC hint h
  refine ⟨zs, hz, fun hn => ?_⟩
  obtain ⟨fuel, hf⟩ := h
  rcases Go.Deep.open_slice ht hf with ⟨h0, _⟩ | ⟨ad, len, cap, m, n, D, Pl, hcs, _⟩
  · simp [Value.cells] at h0
    exact h0.2.2
  · simp [Value.cells] at hcs
    rw [hn] at hcs
    cases hcs.1
end
end Go.Proofs.Ytmelbhilafjpcaa
