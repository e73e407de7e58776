/-
  Several texts as one: Came MixIn.
-/
import Derived.Deep.Slices
import Derived.Deep.Fields
import Derived.ChangeSame
import Derived.Test.YtndfnglcichngaaGreatDoorPa00
namespace Go.Proofs.YtndfnglcichngaaGreatDoor
open Go.ChangeShapes Go.WideShapes Go.ChangeAt Go.RowKit
set_option linter.unusedVariables false
/-- A slice of n elements that reads as 'zs', each fitting. -/
def Came {α : Type} (size : Nat) (vals : α → List Value) (fits : World → α → Prop) (w : World) (a : Option Addr) (n c : Nat) (zs : List α) : Prop :=
  zs.length = n ∧ n ≤ c ∧ c ≤ maxLen ∧ (a = none → c = 0) ∧ (∀ z ∈ zs, fits w z) ∧
    (0 < n → ∃ b off, a = some ⟨b, off, none⟩ ∧ b < w.heap.size ∧ ∀ (i : Nat) (z : α), zs[i]? = some z → ∀ (j : Nat) (u : Value), (vals z)[j]? = some u → w.cell? ⟨b, off + i * size + j, none⟩ = some u)
theorem list_of3 {α : Type} (n : Nat) (p : Nat → α → Prop) (h : ∀ i, i < n → ∃ z, p i z) : ∃ zs : List α, zs.length = n ∧ ∀ (i : Nat) (z : α), zs[i]? = some z → p i z := by
  induction n with
  | zero => exact ⟨[], rfl, fun i z e => by simp at e⟩
  | succ n ih =>
    obtain ⟨zs, hz, hp⟩ := ih fun i hi => h i (by omega)
    obtain ⟨z, hq⟩ := h n (by omega)
    refine ⟨zs ++ [z], by simp [hz], fun i y e => ?_⟩
    rcases Nat.lt_trichotomy i n with hi | hi | hi
    · rw [List.getElem?_append_left (by omega)] at e; exact hp i y e
    · subst hi
      rw [List.getElem?_append_right (by omega)] at e
      rw [hz, Nat.sub_self] at e
      injection e with e
      rw [← e]; exact hq
    · rw [List.getElem?_eq_none (by simp; omega)] at e; cases e
section
variable {H : Type} {enc : TypeId × Value → H} {P : Program} {w : World} {base : Nat} {spare : Nat → Bool} {held : Bool}
theorem trod_field {t : TypeId} {fs : Array Field} {n : Nat} {cs : List Value} {x : DataW H × List MemPlace} (ht : P.underlying t = some (.struct fs)) (h : DataW.trod enc P w base spare held n t cs = some x) (j off sz : Nat) (ft : TypeId) (hj : (fs[j]?).map (fun f => (f.type, f.offset)) = some (ft, off)) (hc : P.cellsOf ft = sz) :
    ∃ m y, DataW.trod enc P w base spare held m ft ((cs.drop off).take sz) = some y := by
  obtain ⟨xs, m, _, _, _, hl, hf⟩ := DataW.trod_struct ht h
  cases hfj : fs[j]? with
  | none => rw [hfj] at hj; cases hj
  | some f =>
    rw [hfj] at hj
    simp at hj
    obtain ⟨rfl, rfl⟩ := hj
    have h1 := hf j f hfj
    have hlt : j < xs.length := by
      have := (Array.getElem?_eq_some_iff.1 hfj).1
      omega
    rw [List.getElem?_eq_getElem hlt, hc] at h1
    exact ⟨m, _, h1⟩
theorem trod_len {t : TypeId} {fs : Array Field} {n : Nat} {cs : List Value} {x : DataW H × List MemPlace} (ht : P.underlying t = some (.struct fs)) (h : DataW.trod enc P w base spare held n t cs = some x) : cs.length = P.cellsOf t := by
  obtain ⟨xs, m, _, _, hl, _, hf⟩ := DataW.trod_struct ht h
  exact hl
/-- A field that is a whole number, a text, a bool: what lies in its cell. -/
theorem field_int {t : TypeId} {fs : Array Field} {n : Nat} {cs : List Value} {x : DataW H × List MemPlace} {q : IntKind} (ht : P.underlying t = some (.struct fs)) (h : DataW.trod enc P w base spare held n t cs = some x) (j off : Nat) (ft : TypeId) (hj : (fs[j]?).map (fun f => (f.type, f.offset)) = some (ft, off)) (hq : P.underlying ft = some (.int q)) (hc : P.cellsOf ft = 1) :
    ∃ y, cs[off]? = some (.int q y) ∧ (Lit.int q y).wf = true := by
  obtain ⟨m, y, h1⟩ := trod_field ht h j off 1 ft hj hc
  obtain ⟨z, hz, _, hw⟩ := DataW.trod_int hq h1
  refine ⟨z, ?_, hw⟩
  have := congrArg (·[0]?) hz
  simpa [List.getElem?_take, List.getElem?_drop] using this
theorem field_text {t : TypeId} {fs : Array Field} {n : Nat} {cs : List Value} {x : DataW H × List MemPlace} (ht : P.underlying t = some (.struct fs)) (h : DataW.trod enc P w base spare held n t cs = some x) (j off : Nat) (ft : TypeId) (hj : (fs[j]?).map (fun f => (f.type, f.offset)) = some (ft, off)) (hq : P.underlying ft = some .string) (hc : P.cellsOf ft = 1) :
    ∃ y : ByteArray, cs[off]? = some (.string y) ∧ y.size ≤ maxLen := by
  obtain ⟨m, y, h1⟩ := trod_field ht h j off 1 ft hj hc
  obtain ⟨z, hz, _, hw⟩ := DataW.trod_string hq h1
  refine ⟨z, ?_, hw⟩
  have := congrArg (·[0]?) hz
  simpa [List.getElem?_take, List.getElem?_drop] using this
theorem field_bool {t : TypeId} {fs : Array Field} {n : Nat} {cs : List Value} {x : DataW H × List MemPlace} (ht : P.underlying t = some (.struct fs)) (h : DataW.trod enc P w base spare held n t cs = some x) (j off : Nat) (ft : TypeId) (hj : (fs[j]?).map (fun f => (f.type, f.offset)) = some (ft, off)) (hq : P.underlying ft = some .bool) (hc : P.cellsOf ft = 1) :
    ∃ y : Bool, cs[off]? = some (.bool y) := by
  obtain ⟨m, y, h1⟩ := trod_field ht h j off 1 ft hj hc
  obtain ⟨z, hz, _⟩ := DataW.trod_bool hq h1
  refine ⟨z, ?_⟩
  have := congrArg (·[0]?) hz
  simpa [List.getElem?_take, List.getElem?_drop] using this
theorem came_open {α : Type} {size : Nat} {vals : α → List Value} {fits : World → α → Prop} {t e : TypeId} {n : Nat} {cs : List Value} {x : DataW H × List MemPlace} (ht : P.underlying t = some (.slice e)) (hC : P.cellsOf e = size) (h0 : 0 < size) (hv : ∀ z, (vals z).length = size)
    (op : ∀ (m : Nat) (cs : List Value) (x : DataW H × List MemPlace), cs.length = size → DataW.trod enc P w base spare held m e cs = some x → ∃ z, cs = vals z ∧ fits w z)
    (h : DataW.trod enc P w base spare held n t cs = some x) : ∃ a l c zs, cs = [.slice a l c] ∧ Came size vals fits w a l c zs := by
  rcases Go.Deep.open_slice ht h with ⟨h1, _⟩ | ⟨ad, len, cap, m, n, D, Pl, hcs, hb, hl, hm, hmm, hx, hi⟩
  · exact ⟨none, 0, 0, [], h1, rfl, Nat.le_refl _, by unfold maxLen; omega, fun _ => rfl, (fun z hz => by cases hz), fun hn => absurd hn (by omega)⟩
  · have hlm : len ≤ m := by rw [hmm]; split <;> omega
    obtain ⟨zs, hz, hp⟩ := list_of3 len (fun i z => fits w z ∧ ∀ (j : Nat) (u : Value), (vals z)[j]? = some u → w.cell? (ad.add (i * size + j)) = some u) (fun i hil => by
      obtain ⟨cs', hc, ht'⟩ := hi i (by omega)
      rw [hC] at hc
      obtain ⟨_, hcl, hat⟩ := World.cells?_some hc
      obtain ⟨z, hz, hf⟩ := op n cs' _ (by omega) ht'
      refine ⟨z, hf, fun j u hu => ?_⟩
      rw [← hz] at hu
      have hj : j < cs'.length := (List.getElem?_eq_some_iff.1 hu).1
      rw [← Go.Deep.add_add, hat _ (by omega)]
      exact hu)
    refine ⟨some ad, len, cap, zs, hcs, hz, hl, hm, (fun e => by cases e), fun z hzm => ?_, fun hn => ?_⟩
    · obtain ⟨i, he⟩ := List.mem_iff_getElem?.1 hzm
      exact (hp i z he).1
    · have hz0 : zs[0]? = some (zs[0]'(by omega)) := List.getElem?_eq_getElem (by omega)
      have hv0 : (vals (zs[0]'(by omega)))[0]? = some ((vals (zs[0]'(by omega)))[0]'(by rw [hv]; exact h0)) := List.getElem?_eq_getElem (by rw [hv]; exact h0)
      have h00 := (hp 0 _ hz0).2 0 _ hv0
      obtain ⟨b, off, spot⟩ := ad
      have hspot : spot = none := by simpa [Addr.add] using World.cell?_spot h00
      subst hspot
      refine ⟨b, off, rfl, ?_, fun i z he j u hu => ?_⟩
      · have := lt_of_cell? h00
        simpa [Addr.add] using this
      · have := (hp i z he).2 j u hu
        rw [Go.WideShapes.add_plain] at this
        rw [Nat.add_assoc]
        exact this
/-- An argument that is a slice. -/
theorem came_arg {α : Type} {size : Nat} {vals : α → List Value} {fits : World → α → Prop} {t e : TypeId} {a : Option Addr} {l c : Nat} {d : DataW H} {ps : List MemPlace} (ht : P.underlying t = some (.slice e)) (hC : P.cellsOf e = size) (h0 : 0 < size) (hv : ∀ z, (vals z).length = size)
    (op : ∀ (m : Nat) (cs : List Value) (x : DataW H × List MemPlace), cs.length = size → DataW.trod enc P w base spare held m e cs = some x → ∃ z, cs = vals z ∧ fits w z)
    (h : DataW.Trod enc P w base spare held t (.slice a l c) d ps) : ∃ zs, Came size vals fits w a l c zs := by
  obtain ⟨fuel, hf⟩ := h
  obtain ⟨a', l', c', zs, hcs, hz⟩ := came_open ht hC h0 hv op hf
  simp [Value.cells] at hcs
  obtain ⟨rfl, rfl, rfl⟩ := hcs
  exact ⟨zs, hz⟩
/-- An argument that is a struct. -/
theorem struct_arg {α : Type} {size : Nat} {vals : α → List Value} {fits : World → α → Prop} {r : Reach} {b0 : Nat} {t : TypeId} {fs : Array Field} {v : Value} {d : DataW H} {ps : List MemPlace} (ht : P.underlying t = some (.struct fs)) (hC : P.cellsOf t = size) (hval : Value.okWide P w r b0 t v)
    (op : ∀ (m : Nat) (cs : List Value) (x : DataW H × List MemPlace), cs.length = size → DataW.trod enc P w base spare held m t cs = some x → ∃ z, cs = vals z ∧ fits w z)
    (h : DataW.Trod enc P w base spare held t v d ps) : ∃ z, v = .agg (vals z).toArray ∧ fits w z := by
  obtain ⟨cs, rfl, hsz⟩ := okWide_struct ht hval
  obtain ⟨fuel, hf⟩ := h
  have hf' : DataW.trod enc P w base spare held fuel t cs.toList = some (d, ps) := by simpa [Value.cells] using hf
  obtain ⟨z, hz, hw⟩ := op fuel cs.toList _ (by simp; omega) hf'
  exact ⟨z, by rw [← hz], hw⟩
end
end Go.Proofs.YtndfnglcichngaaGreatDoor
namespace Go.Proofs.YtndfnglcichngaaGreatDoor
open Go.ChangeShapes Go.WideShapes Go.ChangeAt Go.RowKit
open Go.Deep (oneCellFields hone_of)
set_option linter.unusedVariables false
/-- What a field is. -/
inductive FK where
  | num (q : IntKind)
  | row (q : IntKind)
/-- What stands in a field: an integer; a slice of integers. -/
inductive FV where
  | num (x : Int)
  | row (a : Option Addr) (l c : Nat) (ys : List Int)
def FV.fits (w : World) : FK → FV → Prop
  | .num q, .num x => (Lit.int q x).wf = true
  | .row q, .row a l c ys => CameIn q w a l c ys
  | _, _ => False
def FV.val : FK → FV → Value
  | .num q, .num x => .int q x
  | _, .row a l c _ => .slice a l c
  | _, .num x => .int .i64 x
def FK.of (P : Program) : FK → TypeId → Prop
  | .num q, t => P.underlying t = some (.int q)
  | .row q, t => ∃ e, P.underlying t = some (.slice e) ∧ P.underlying e = some (.int q) ∧ P.cellsOf e = 1
/-- A slice of n structs of such fields, that reads as 'zs'. -/
def CameMix (ks : List FK) (w : World) (a : Option Addr) (n c : Nat) (zs : List (List FV)) : Prop :=
  zs.length = n ∧ n ≤ c ∧ c ≤ maxLen ∧ (∀ i, i < n → (zs.getD i []).length = ks.length ∧ ∀ (j : Nat) (k : FK) (v : FV), ks[j]? = some k → (zs.getD i [])[j]? = some v → FV.fits w k v) ∧
    (0 < n → ∃ b off, a = some ⟨b, off, none⟩ ∧ b < w.heap.size ∧ ∀ (i j : Nat) (k : FK) (v : FV), i < n → ks[j]? = some k → (zs.getD i [])[j]? = some v → w.cell? ⟨b, off + (i * ks.length + j), none⟩ = some (FV.val k v))
theorem list_of {α : Type} (d : α) (n : Nat) (p : Nat → α → Prop) (h : ∀ i, i < n → ∃ z, p i z) : ∃ zs : List α, zs.length = n ∧ ∀ i, i < n → p i (zs.getD i d) := by
  refine ⟨(List.range n).map fun i => if hi : i < n then Classical.choose (h i hi) else d, by simp, fun i hi => ?_⟩
  have e : ((List.range n).map fun i => if hi : i < n then Classical.choose (h i hi) else d).getD i d = Classical.choose (h i hi) := by
    simp [List.getD, hi]
  rw [e]
  exact Classical.choose_spec (h i hi)
section
variable {H : Type} {enc : TypeId × Value → H} {P : Program} {w : World} {base : Nat} {spare : Nat → Bool} {held : Bool}
theorem field_open {k : FK} {t : TypeId} {n : Nat} {cs : List Value} {x : DataW H × List MemPlace} (hk : k.of P t) (h : DataW.trod enc P w base spare held n t cs = some x) : ∃ v, cs = [FV.val k v] ∧ FV.fits w k v := by
  cases k with
  | num q =>
    obtain ⟨y, hy, _, hw⟩ := DataW.trod_int hk h
    exact ⟨.num y, hy, hw⟩
  | row q =>
    obtain ⟨e, h1, h2, h3⟩ := hk
    rcases open_ints h1 h2 h3 h with ⟨hcs, _⟩ | ⟨x, l, c, zs, hcs, _, hl, hm, hz, _, hcell, hwz⟩
    · exact ⟨.row none 0 0 [], hcs, cameIn_nil⟩
    · by_cases hsp : zs.length = c
      · exact ⟨.row (some x) l c (zs.take l), hcs, cameIn_open hl hm hsp hcell hwz⟩
      · refine ⟨.row (some x) l c (zs.take l), hcs, ?_⟩
        have hlz : l ≤ zs.length := by rw [hz]; split <;> omega
        refine ⟨⟨by simp; omega, fun hn => ?_⟩, hl, hm, (fun h => by cases h), fun y hy => hwz y (List.mem_of_mem_take hy)⟩
        obtain ⟨b, off, rfl, hc⟩ := ints_at hcell (by omega)
        refine ⟨b, off, rfl, fun j hj => ?_⟩
        rw [hc j (by omega)]
        simp [List.getD, hj]
theorem mix_of_struct {e : TypeId} {fs : Array Field} {n : Nat} {cs : List Value} {x : DataW H × List MemPlace} {ks : List FK} (he : P.underlying e = some (.struct fs)) (hone : oneCellFields P fs = true) (hks : ks.length = fs.size)
    (hint : ∀ (j : Nat) (f : Field) (k : FK), fs[j]? = some f → ks[j]? = some k → k.of P f.type) (hl : cs.length = fs.size) (h : DataW.trod enc P w base spare held n e cs = some x) :
    ∃ z : List FV, z.length = ks.length ∧ ∀ (j : Nat) (k : FK) (v : FV), ks[j]? = some k → z[j]? = some v → cs[j]? = some (FV.val k v) ∧ FV.fits w k v := by
  obtain ⟨xs, m, _, _, _, _, hf⟩ := DataW.trod_struct he h
  obtain ⟨z, hz, hp⟩ := list_of (FV.num 0) fs.size (fun j y => ∀ k, ks[j]? = some k → cs[j]? = some (FV.val k y) ∧ FV.fits w k y) (fun j hj => by
    have hfj : fs[j]? = some fs[j] := Array.getElem?_eq_getElem hj
    have hkj : ks[j]? = some (ks[j]'(by omega)) := List.getElem?_eq_getElem (by omega)
    obtain ⟨ho, hk⟩ := hone_of hone j _ hfj
    have h1 := hf j _ hfj
    have hx : xs[j]? = some (xs[j]'(by omega)) := List.getElem?_eq_getElem (by omega)
    rw [ho, hk, hx] at h1
    obtain ⟨v, hy, hw⟩ := field_open (hint j _ _ hfj hkj) h1
    refine ⟨v, fun k e => ?_⟩
    rw [hkj] at e
    injection e with e
    subst e
    refine ⟨?_, hw⟩
    have hd : (cs.drop j).take 1 = [cs[j]'(by omega)] := by
      rw [List.drop_eq_getElem_cons (by omega)]; rfl
    rw [hd] at hy
    injection hy with hy _
    rw [List.getElem?_eq_getElem (by omega), hy])
  refine ⟨z, by omega, fun (j : Nat) k v hk hv => ?_⟩
  have hj : j < z.length := (List.getElem?_eq_some_iff.1 hv).1
  have := hp j (by omega) k hk
  rw [show z.getD j (FV.num 0) = v by simp [List.getD, hv]] at this
  exact this
theorem cameMix_open (ks : List FK) {t e : TypeId} {fs : Array Field} {a : Option Addr} {l c : Nat} {d : DataW H} {ps : List MemPlace} (ht : P.underlying t = some (.slice e)) (he : P.underlying e = some (.struct fs)) (hks : ks.length = fs.size) (hk0 : 0 < ks.length)
    (hone : oneCellFields P fs = true) (hC : P.cellsOf e = ks.length) (hint : ∀ (j : Nat) (f : Field) (k : FK), fs[j]? = some f → ks[j]? = some k → k.of P f.type)
    (h : DataW.Trod enc P w base spare held t (.slice a l c) d ps) : ∃ zs, CameMix ks w a l c zs := by
  obtain ⟨fuel, hf⟩ := h
  rcases Go.Deep.open_slice ht hf with ⟨h0, _⟩ | ⟨ad, len, cap, m, n, D, Pl, hcs, hb, hl, hm, hmm, hx, hi⟩
  · simp [Value.cells] at h0
    obtain ⟨rfl, rfl, rfl⟩ := h0
    exact ⟨[], rfl, Nat.le_refl _, by unfold maxLen; omega, fun i hi => by omega, fun hn => by omega⟩
  · simp [Value.cells] at hcs
    obtain ⟨rfl, rfl, rfl⟩ := hcs
    have hlm : l ≤ m := by rw [hmm]; split <;> omega
    obtain ⟨zs, hz, hp⟩ := list_of ([] : List FV) l (fun i z => z.length = ks.length ∧ ∀ (j : Nat) (k : FK) (v : FV), ks[j]? = some k → z[j]? = some v → w.cell? (ad.add (i * ks.length + j)) = some (FV.val k v) ∧ FV.fits w k v) (fun i hil => by
      obtain ⟨cs', hc, ht'⟩ := hi i (by omega)
      rw [hC] at hc
      obtain ⟨_, hcl, hat⟩ := World.cells?_some hc
      obtain ⟨z, hz, hp⟩ := mix_of_struct he hone hks hint (by omega) ht'
      refine ⟨z, hz, fun (j : Nat) k v hk hv => ?_⟩
      obtain ⟨h1, h2⟩ := hp j k v hk hv
      have hj : j < z.length := (List.getElem?_eq_some_iff.1 hv).1
      rw [← Go.Deep.add_add, hat j (by omega)]
      exact ⟨h1, h2⟩)
    refine ⟨zs, hz, hl, hm, fun i hil => ⟨(hp i hil).1, fun (j : Nat) k v hk hv => ((hp i hil).2 j k v hk hv).2⟩, fun hn => ?_⟩
    have l0 := (hp 0 hn).1
    have h00 := ((hp 0 hn).2 0 _ _ (List.getElem?_eq_getElem hk0) (List.getElem?_eq_getElem (by omega))).1
    obtain ⟨b, off, spot⟩ := ad
    have hspot : spot = none := by simpa [Addr.add] using World.cell?_spot h00
    subst hspot
    refine ⟨b, off, rfl, ?_, fun i j k v hil hk hv => ?_⟩
    · have := lt_of_cell? h00
      simpa [Addr.add] using this
    · have := ((hp i hil).2 j k v hk hv).1
      rw [Go.WideShapes.add_plain] at this
      exact this
end
end Go.Proofs.YtndfnglcichngaaGreatDoor
