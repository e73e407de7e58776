/-
  What comes in: a slice of structs whose fields are integers, bools, slices of integers and structs of integers, read row by row.
-/
import Derived.Test.YtccokhalcdljiaaKit
import Derived.Deep.Slices
import Derived.Deep.Fields
import Derived.ChangeSame
namespace Go.Proofs.Ytccokhalcdljiaa
open Go.ChangeShapes Go.WideShapes Go.ChangeAt Go.RowKit
open Go.Deep (oneCellFields hone_of)
set_option linter.unusedVariables false
/-- What a field is. -/
inductive GK where
  | num (q : IntKind)
  | bool
  | row (q : IntKind)
  | pack (k : Nat)
/-- What stands in a field. -/
inductive GV where
  | num (x : Int)
  | bool (b : Bool)
  | row (a : Option Addr) (l c : Nat) (ys : List Int)
  | pack (zs : List Int)
def GK.size : GK → Nat
  | .pack k => k
  | _ => 1
def GV.fits (w : World) : GK → GV → Prop
  | .num q, .num x => (Lit.int q x).wf = true
  | .bool, .bool _ => True
  | .row q, .row a l c ys => CameIn q w a l c ys
  | .pack k, .pack zs => zs.length = k ∧ ∀ j, j < k → (Lit.int .i64 (zs.getD j 0)).wf = true
  | _, _ => False
def GV.vals : GK → GV → List Value
  | .num q, .num x => [.int q x]
  | .bool, .bool b => [.bool b]
  | .row _, .row a l c _ => [.slice a l c]
  | .pack _, .pack zs => zs.map (Value.int .i64)
  | _, _ => []
def GK.of (P : Program) : GK → TypeId → Prop
  | .num q, t => P.underlying t = some (.int q)
  | .bool, t => P.underlying t = some .bool
  | .row q, t => ∃ e, P.underlying t = some (.slice e) ∧ P.underlying e = some (.int q) ∧ P.cellsOf e = 1
  | .pack k, t => ∃ fs, P.underlying t = some (.struct fs) ∧ fs.size = k ∧ oneCellFields P fs = true ∧ ∀ (j : Nat) (f : Field), fs[j]? = some f → P.underlying f.type = some (.int .i64)
/-- Where field j begins; how many cells a struct has. -/
def offs (ks : List GK) (j : Nat) : Nat := ((ks.take j).map GK.size).sum
def total (ks : List GK) : Nat := (ks.map GK.size).sum
/-- A slice of n structs of such fields, that reads as 'zs'. -/
def CameGen (ks : List GK) (w : World) (a : Option Addr) (n c : Nat) (zs : List (List GV)) : Prop :=
  zs.length = n ∧ n ≤ c ∧ c ≤ maxLen ∧ (∀ i, i < n → (zs.getD i []).length = ks.length ∧ ∀ (j : Nat) (k : GK) (v : GV), ks[j]? = some k → (zs.getD i [])[j]? = some v → GV.fits w k v) ∧
    (0 < n → ∃ b off, a = some ⟨b, off, none⟩ ∧ b < w.heap.size ∧ ∀ (i j t : Nat) (k : GK) (v : GV) (u : Value), i < n → ks[j]? = some k → (zs.getD i [])[j]? = some v → (GV.vals k v)[t]? = some u → w.cell? ⟨b, off + (i * total ks + (offs ks j + t)), none⟩ = some u)
theorem list_of2 {α : Type} (d : α) (n : Nat) (p : Nat → α → Prop) (h : ∀ i, i < n → ∃ z, p i z) : ∃ zs : List α, zs.length = n ∧ ∀ i, i < n → p i (zs.getD i d) := by
  refine ⟨(List.range n).map fun i => if hi : i < n then Classical.choose (h i hi) else d, by simp, fun i hi => ?_⟩
  have e : ((List.range n).map fun i => if hi : i < n then Classical.choose (h i hi) else d).getD i d = Classical.choose (h i hi) := by
    simp [List.getD, hi]
  rw [e]
  exact Classical.choose_spec (h i hi)
section
variable {H : Type} {enc : TypeId × Value → H} {P : Program} {w : World} {base : Nat} {spare : Nat → Bool} {held : Bool}
theorem gen_open {k : GK} {t : TypeId} {n : Nat} {cs : List Value} {x : DataW H × List MemPlace} (hk : k.of P t) (hsz : cs.length = k.size) (h : DataW.trod enc P w base spare held n t cs = some x) : ∃ v, cs = GV.vals k v ∧ GV.fits w k v := by
  cases k with
  | num q =>
    obtain ⟨y, hy, _, hw⟩ := DataW.trod_int hk h
    exact ⟨.num y, hy, hw⟩
  | bool =>
    obtain ⟨y, hy, _⟩ := DataW.trod_bool hk h
    exact ⟨.bool y, hy, trivial⟩
  | row q =>
    obtain ⟨e, h1, h2, h3⟩ := hk
    rcases open_ints h1 h2 h3 h with ⟨hcs, _⟩ | ⟨x, l, c, zs, hcs, _, hl, hm, hz, _, hcell, hwz⟩
    · exact ⟨.row none 0 0 [], hcs, cameIn_nil⟩
    · refine ⟨.row (some x) l c (zs.take l), hcs, ?_⟩
      have hlz : l ≤ zs.length := by rw [hz]; split <;> omega
      refine ⟨⟨by simp; omega, fun hn => ?_⟩, hl, hm, (fun h => by cases h), fun y hy => hwz y (List.mem_of_mem_take hy)⟩
      obtain ⟨b, off, rfl, hc⟩ := ints_at hcell (by omega)
      refine ⟨b, off, rfl, fun j hj => ?_⟩
      rw [hc j (by omega)]
      simp [List.getD, hj]
  | pack k =>
    obtain ⟨fs, h1, h2, h3, h4⟩ := hk
    obtain ⟨xs, m, _, _, _, _, hf⟩ := DataW.trod_struct h1 h
    have hl : cs.length = fs.size := by rw [hsz, h2]; rfl
    obtain ⟨z, hz, hp⟩ := list_of2 (0 : Int) fs.size (fun j y => cs[j]? = some (.int .i64 y) ∧ (Lit.int .i64 y).wf = true) (fun j hj => by
      have hfj : fs[j]? = some fs[j] := Array.getElem?_eq_getElem hj
      obtain ⟨ho, hk⟩ := hone_of h3 j _ hfj
      have h1 := hf j _ hfj
      have hx : xs[j]? = some (xs[j]'(by omega)) := List.getElem?_eq_getElem (by omega)
      rw [ho, hk, hx] at h1
      obtain ⟨y, hy, _, hw⟩ := DataW.trod_int (h4 j _ hfj) h1
      refine ⟨y, ?_, hw⟩
      have hd : (cs.drop j).take 1 = [cs[j]'(by omega)] := by
        rw [List.drop_eq_getElem_cons (by omega)]; rfl
      rw [hd] at hy
      injection hy with hy _
      rw [List.getElem?_eq_getElem (by omega), hy])
    refine ⟨.pack z, ?_, by omega, fun j hj => (hp j (by omega)).2⟩
    show cs = z.map (Value.int .i64)
    apply List.ext_getElem?
    intro j
    by_cases hj : j < fs.size
    · rw [(hp j hj).1, List.getElem?_map, List.getElem?_eq_getElem (by omega)]
      simp [List.getD, hz, hj]
    · rw [List.getElem?_eq_none (by omega), List.getElem?_eq_none (by rw [List.length_map]; omega)]
theorem gen_of_struct {e : TypeId} {fs : Array Field} {n : Nat} {cs : List Value} {x : DataW H × List MemPlace} {ks : List GK} (he : P.underlying e = some (.struct fs)) (hks : ks.length = fs.size)
    (hlay : ∀ (j : Nat) (f : Field) (k : GK), fs[j]? = some f → ks[j]? = some k → k.of P f.type ∧ f.offset = offs ks j ∧ P.cellsOf f.type = k.size ∧ offs ks j + k.size ≤ total ks) (hl : cs.length = total ks) (h : DataW.trod enc P w base spare held n e cs = some x) :
    ∃ z : List GV, z.length = ks.length ∧ ∀ (j : Nat) (k : GK) (v : GV), ks[j]? = some k → z[j]? = some v → (∀ (t : Nat) (u : Value), (GV.vals k v)[t]? = some u → cs[offs ks j + t]? = some u) ∧ GV.fits w k v := by
  obtain ⟨xs, m, _, _, _, _, hf⟩ := DataW.trod_struct he h
  obtain ⟨z, hz, hp⟩ := list_of2 (GV.num 0) fs.size (fun j y => ∀ k, ks[j]? = some k → (∀ (t : Nat) (u : Value), (GV.vals k y)[t]? = some u → cs[offs ks j + t]? = some u) ∧ GV.fits w k y) (fun j hj => by
    have hfj : fs[j]? = some fs[j] := Array.getElem?_eq_getElem hj
    have hkj : ks[j]? = some (ks[j]'(by omega)) := List.getElem?_eq_getElem (by omega)
    obtain ⟨hk, ho, hc, hle⟩ := hlay j _ _ hfj hkj
    have h1 := hf j _ hfj
    have hx : xs[j]? = some (xs[j]'(by omega)) := List.getElem?_eq_getElem (by omega)
    rw [ho, hc, hx] at h1
    obtain ⟨v, hy, hw⟩ := gen_open hk (by simp; omega) h1
    refine ⟨v, fun k e => ?_⟩
    rw [hkj] at e
    injection e with e
    subst e
    refine ⟨fun t u hu => ?_, hw⟩
    rw [← hy, List.getElem?_take] at hu
    split at hu
    · rw [List.getElem?_drop] at hu; exact hu
    · cases hu)
  refine ⟨z, by omega, fun j k v hk hv => ?_⟩
  have hj : j < z.length := (List.getElem?_eq_some_iff.1 hv).1
  have := hp j (by omega) k hk
  rw [show z.getD j (GV.num 0) = v by simp [List.getD, hv]] at this
  exact this
theorem cameGen_open (ks : List GK) {t e : TypeId} {fs : Array Field} {a : Option Addr} {l c : Nat} {d : DataW H} {ps : List MemPlace} (ht : P.underlying t = some (.slice e)) (he : P.underlying e = some (.struct fs)) (hks : ks.length = fs.size) (hC : P.cellsOf e = total ks)
    (h0 : ∃ k, ks[0]? = some k ∧ 0 < k.size) (hlay : ∀ (j : Nat) (f : Field) (k : GK), fs[j]? = some f → ks[j]? = some k → k.of P f.type ∧ f.offset = offs ks j ∧ P.cellsOf f.type = k.size ∧ offs ks j + k.size ≤ total ks)
    (h : DataW.Trod enc P w base spare held t (.slice a l c) d ps) : ∃ zs, CameGen ks w a l c zs := by
  obtain ⟨fuel, hf⟩ := h
  rcases Go.Deep.open_slice ht hf with ⟨h0, _⟩ | ⟨ad, len, cap, m, n, D, Pl, hcs, hb, hl, hm, hmm, hx, hi⟩
  · simp [Value.cells] at h0
    obtain ⟨rfl, rfl, rfl⟩ := h0
    exact ⟨[], rfl, Nat.le_refl _, by unfold maxLen; omega, fun i hi => by omega, fun hn => by omega⟩
  · simp [Value.cells] at hcs
    obtain ⟨rfl, rfl, rfl⟩ := hcs
    have hlm : l ≤ m := by rw [hmm]; split <;> omega
    obtain ⟨zs, hz, hp⟩ := list_of2 ([] : List GV) l (fun i z => (∃ v, w.cell? (ad.add (i * total ks)) = some v) ∧ z.length = ks.length ∧ ∀ (j : Nat) (k : GK) (v : GV), ks[j]? = some k → z[j]? = some v → (∀ (t : Nat) (u : Value), (GV.vals k v)[t]? = some u → w.cell? (ad.add (i * total ks + (offs ks j + t))) = some u) ∧ GV.fits w k v) (fun i hil => by
      obtain ⟨cs', hc, ht'⟩ := hi i (by omega)
      rw [hC] at hc
      obtain ⟨_, hcl, hat⟩ := World.cells?_some hc
      obtain ⟨z, hz, hp⟩ := gen_of_struct he hks hlay (by omega) ht'
      have hpos : 0 < total ks := by
        obtain ⟨k, hk, hk0⟩ := h0
        have hj : 0 < ks.length := (List.getElem?_eq_some_iff.1 hk).1
        have hfj : fs[0]? = some (fs[0]'(by omega)) := Array.getElem?_eq_getElem (by omega)
        have := (hlay 0 _ _ hfj hk).2.2.2
        omega
      refine ⟨z, ⟨cs'[0]'(by omega), ?_⟩, hz, fun (j : Nat) k v hk hv => ?_⟩
      · have := hat 0 (by omega)
        rw [Go.Deep.add_add] at this
        rw [Nat.add_zero] at this
        rw [this, List.getElem?_eq_getElem (by omega)]
      · obtain ⟨h1, h2⟩ := hp j k v hk hv
        refine ⟨fun t u hu => ?_, h2⟩
        have h3 := h1 t u hu
        have hj : offs ks j + t < cs'.length := (List.getElem?_eq_some_iff.1 h3).1
        rw [← Go.Deep.add_add, hat _ (by omega)]
        exact h3)
    refine ⟨zs, hz, hl, hm, fun i hil => ⟨(hp i hil).2.1, fun (j : Nat) k v hk hv => ((hp i hil).2.2 j k v hk hv).2⟩, fun hn => ?_⟩
    obtain ⟨v0, h00⟩ := (hp 0 hn).1
    obtain ⟨b, off, spot⟩ := ad
    have hspot : spot = none := by simpa [Addr.add] using World.cell?_spot h00
    subst hspot
    refine ⟨b, off, rfl, ?_, fun i j t k v u hil hk hv hu => ?_⟩
    · have := lt_of_cell? h00
      simpa [Addr.add] using this
    · have := ((hp i hil).2.2 j k v hk hv).1 t u hu
      rw [Go.WideShapes.add_plain] at this
      exact this
end
end Go.Proofs.Ytccokhalcdljiaa
