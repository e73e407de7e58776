/-
  What comes in: a slice of structs whose fields are integers and slices of integers, read row by row.
-/
import Derived.Test.YtipepklobpnbpaaKit
import Derived.Deep.Slices
import Derived.Deep.Fields
import Derived.ChangeSame
namespace Go.Proofs.Ytipepklobpnbpaa
open Go.ChangeShapes Go.WideShapes Go.ChangeAt Go.RowKit
open Go.Deep (oneCellFields hone_of)
set_option linter.unusedVariables false
/-- What a field is. -/
inductive FK where
  | num (q : IntKind)
  | row (q : IntKind)
/-- What stands in a field: an integer; a slice of integers. -/
inductive FV where
  | num (x : Int)
  | row (a : Option Addr) (l c : Nat) (ys : List Int)
def FV.fits (w : World) : FK → FV → Prop
  | .num q, .num x => (Lit.int q x).wf = true
  | .row q, .row a l c ys => CameIn q w a l c ys
  | _, _ => False
def FV.val : FK → FV → Value
  | .num q, .num x => .int q x
  | _, .row a l c _ => .slice a l c
  | _, .num x => .int .i64 x
def FK.of (P : Program) : FK → TypeId → Prop
  | .num q, t => P.underlying t = some (.int q)
  | .row q, t => ∃ e, P.underlying t = some (.slice e) ∧ P.underlying e = some (.int q) ∧ P.cellsOf e = 1
/-- A slice of n structs of such fields, that reads as 'zs'. -/
def CameMix (ks : List FK) (w : World) (a : Option Addr) (n c : Nat) (zs : List (List FV)) : Prop :=
  zs.length = n ∧ n ≤ c ∧ c ≤ maxLen ∧ (∀ i, i < n → (zs.getD i []).length = ks.length ∧ ∀ (j : Nat) (k : FK) (v : FV), ks[j]? = some k → (zs.getD i [])[j]? = some v → FV.fits w k v) ∧
    (0 < n → ∃ b off, a = some ⟨b, off, none⟩ ∧ b < w.heap.size ∧ ∀ (i j : Nat) (k : FK) (v : FV), i < n → ks[j]? = some k → (zs.getD i [])[j]? = some v → w.cell? ⟨b, off + (i * ks.length + j), none⟩ = some (FV.val k v))
theorem list_of {α : Type} (d : α) (n : Nat) (p : Nat → α → Prop) (h : ∀ i, i < n → ∃ z, p i z) : ∃ zs : List α, zs.length = n ∧ ∀ i, i < n → p i (zs.getD i d) := by
  refine ⟨(List.range n).map fun i => if hi : i < n then Classical.choose (h i hi) else d, by simp, fun i hi => ?_⟩
  have e : ((List.range n).map fun i => if hi : i < n then Classical.choose (h i hi) else d).getD i d = Classical.choose (h i hi) := by
    simp [List.getD, hi]
  rw [e]
  exact Classical.choose_spec (h i hi)
section
variable {H : Type} {enc : TypeId × Value → H} {P : Program} {w : World} {base : Nat} {spare : Nat → Bool} {held : Bool}
theorem field_open {k : FK} {t : TypeId} {n : Nat} {cs : List Value} {x : DataW H × List MemPlace} (hk : k.of P t) (h : DataW.trod enc P w base spare held n t cs = some x) : ∃ v, cs = [FV.val k v] ∧ FV.fits w k v := by
  cases k with
  | num q =>
    obtain ⟨y, hy, _, hw⟩ := DataW.trod_int hk h
    exact ⟨.num y, hy, hw⟩
  | row q =>
    obtain ⟨e, h1, h2, h3⟩ := hk
    rcases open_ints h1 h2 h3 h with ⟨hcs, _⟩ | ⟨x, l, c, zs, hcs, _, hl, hm, hz, _, hcell, hwz⟩
    · exact ⟨.row none 0 0 [], hcs, cameIn_nil⟩
    · by_cases hsp : zs.length = c
      · exact ⟨.row (some x) l c (zs.take l), hcs, cameIn_open hl hm hsp hcell hwz⟩
      · refine ⟨.row (some x) l c (zs.take l), hcs, ?_⟩
        have hlz : l ≤ zs.length := by rw [hz]; split <;> omega
        refine ⟨⟨by simp; omega, fun hn => ?_⟩, hl, hm, (fun h => by cases h), fun y hy => hwz y (List.mem_of_mem_take hy)⟩
        obtain ⟨b, off, rfl, hc⟩ := ints_at hcell (by omega)
        refine ⟨b, off, rfl, fun j hj => ?_⟩
        rw [hc j (by omega)]
        simp [List.getD, hj]
theorem mix_of_struct {e : TypeId} {fs : Array Field} {n : Nat} {cs : List Value} {x : DataW H × List MemPlace} {ks : List FK} (he : P.underlying e = some (.struct fs)) (hone : oneCellFields P fs = true) (hks : ks.length = fs.size)
    (hint : ∀ (j : Nat) (f : Field) (k : FK), fs[j]? = some f → ks[j]? = some k → k.of P f.type) (hl : cs.length = fs.size) (h : DataW.trod enc P w base spare held n e cs = some x) :
    ∃ z : List FV, z.length = ks.length ∧ ∀ (j : Nat) (k : FK) (v : FV), ks[j]? = some k → z[j]? = some v → cs[j]? = some (FV.val k v) ∧ FV.fits w k v := by
  obtain ⟨xs, m, _, _, _, _, hf⟩ := DataW.trod_struct he h
  obtain ⟨z, hz, hp⟩ := list_of (FV.num 0) fs.size (fun j y => ∀ k, ks[j]? = some k → cs[j]? = some (FV.val k y) ∧ FV.fits w k y) (fun j hj => by
    have hfj : fs[j]? = some fs[j] := Array.getElem?_eq_getElem hj
    have hkj : ks[j]? = some (ks[j]'(by omega)) := List.getElem?_eq_getElem (by omega)
    obtain ⟨ho, hk⟩ := hone_of hone j _ hfj
    have h1 := hf j _ hfj
    have hx : xs[j]? = some (xs[j]'(by omega)) := List.getElem?_eq_getElem (by omega)
    rw [ho, hk, hx] at h1
    obtain ⟨v, hy, hw⟩ := field_open (hint j _ _ hfj hkj) h1
    refine ⟨v, fun k e => ?_⟩
    rw [hkj] at e
    injection e with e
    subst e
    refine ⟨?_, hw⟩
    have hd : (cs.drop j).take 1 = [cs[j]'(by omega)] := by
      rw [List.drop_eq_getElem_cons (by omega)]; rfl
    rw [hd] at hy
    injection hy with hy _
    rw [List.getElem?_eq_getElem (by omega), hy])
  refine ⟨z, by omega, fun (j : Nat) k v hk hv => ?_⟩
  have hj : j < z.length := (List.getElem?_eq_some_iff.1 hv).1
  have := hp j (by omega) k hk
  rw [show z.getD j (FV.num 0) = v by simp [List.getD, hv]] at this
  exact this
theorem cameMix_open (ks : List FK) {t e : TypeId} {fs : Array Field} {a : Option Addr} {l c : Nat} {d : DataW H} {ps : List MemPlace} (ht : P.underlying t = some (.slice e)) (he : P.underlying e = some (.struct fs)) (hks : ks.length = fs.size) (hk0 : 0 < ks.length)
    (hone : oneCellFields P fs = true) (hC : P.cellsOf e = ks.length) (hint : ∀ (j : Nat) (f : Field) (k : FK), fs[j]? = some f → ks[j]? = some k → k.of P f.type)
    (h : DataW.Trod enc P w base spare held t (.slice a l c) d ps) : ∃ zs, CameMix ks w a l c zs := by
  obtain ⟨fuel, hf⟩ := h
  rcases Go.Deep.open_slice ht hf with ⟨h0, _⟩ | ⟨ad, len, cap, m, n, D, Pl, hcs, hb, hl, hm, hmm, hx, hi⟩
  · simp [Value.cells] at h0
    obtain ⟨rfl, rfl, rfl⟩ := h0
    exact ⟨[], rfl, Nat.le_refl _, by unfold maxLen; omega, fun i hi => by omega, fun hn => by omega⟩
  · simp [Value.cells] at hcs
    obtain ⟨rfl, rfl, rfl⟩ := hcs
    have hlm : l ≤ m := by rw [hmm]; split <;> omega
    obtain ⟨zs, hz, hp⟩ := list_of ([] : List FV) l (fun i z => z.length = ks.length ∧ ∀ (j : Nat) (k : FK) (v : FV), ks[j]? = some k → z[j]? = some v → w.cell? (ad.add (i * ks.length + j)) = some (FV.val k v) ∧ FV.fits w k v) (fun i hil => by
      obtain ⟨cs', hc, ht'⟩ := hi i (by omega)
      rw [hC] at hc
      obtain ⟨_, hcl, hat⟩ := World.cells?_some hc
      obtain ⟨z, hz, hp⟩ := mix_of_struct he hone hks hint (by omega) ht'
      refine ⟨z, hz, fun (j : Nat) k v hk hv => ?_⟩
      obtain ⟨h1, h2⟩ := hp j k v hk hv
      have hj : j < z.length := (List.getElem?_eq_some_iff.1 hv).1
      rw [← Go.Deep.add_add, hat j (by omega)]
      exact ⟨h1, h2⟩)
    refine ⟨zs, hz, hl, hm, fun i hil => ⟨(hp i hil).1, fun (j : Nat) k v hk hv => ((hp i hil).2 j k v hk hv).2⟩, fun hn => ?_⟩
    have l0 := (hp 0 hn).1
    have h00 := ((hp 0 hn).2 0 _ _ (List.getElem?_eq_getElem hk0) (List.getElem?_eq_getElem (by omega))).1
    obtain ⟨b, off, spot⟩ := ad
    have hspot : spot = none := by simpa [Addr.add] using World.cell?_spot h00
    subst hspot
    refine ⟨b, off, rfl, ?_, fun i j k v hil hk hv => ?_⟩
    · have := lt_of_cell? h00
      simpa [Addr.add] using this
    · have := ((hp i hil).2 j k v hk hv).1
      rw [Go.WideShapes.add_plain] at this
      exact this
end
end Go.Proofs.Ytipepklobpnbpaa
