/-
  What comes in, in general: a slice of whatever elements, each opened by a law of its own.
-/
import Derived.Test.YtipepklobpnbpaaKit
import Derived.Deep.Slices
import Derived.Deep.Fields
import Derived.ChangeSame
namespace Go.Proofs.Ytipepklobpnbpaa
open Go.ChangeShapes Go.WideShapes Go.ChangeAt Go.RowKit
set_option linter.unusedVariables false
/-- A slice of n elements that reads as 'zs', each fitting. -/
def Came {α : Type} (size : Nat) (vals : α → List Value) (fits : World → α → Prop) (w : World) (a : Option Addr) (n c : Nat) (zs : List α) : Prop :=
  zs.length = n ∧ n ≤ c ∧ c ≤ maxLen ∧ (a = none → c = 0) ∧ (∀ z ∈ zs, fits w z) ∧
    (0 < n → ∃ b off, a = some ⟨b, off, none⟩ ∧ b < w.heap.size ∧ ∀ (i : Nat) (z : α), zs[i]? = some z → ∀ (j : Nat) (u : Value), (vals z)[j]? = some u → w.cell? ⟨b, off + i * size + j, none⟩ = some u)
theorem list_of3 {α : Type} (n : Nat) (p : Nat → α → Prop) (h : ∀ i, i < n → ∃ z, p i z) : ∃ zs : List α, zs.length = n ∧ ∀ (i : Nat) (z : α), zs[i]? = some z → p i z := by
  induction n with
  | zero => exact ⟨[], rfl, fun i z e => by simp at e⟩
  | succ n ih =>
    obtain ⟨zs, hz, hp⟩ := ih fun i hi => h i (by omega)
    obtain ⟨z, hq⟩ := h n (by omega)
    refine ⟨zs ++ [z], by simp [hz], fun i y e => ?_⟩
    rcases Nat.lt_trichotomy i n with hi | hi | hi
    · rw [List.getElem?_append_left (by omega)] at e; exact hp i y e
    · subst hi
      rw [List.getElem?_append_right (by omega)] at e
      rw [hz, Nat.sub_self] at e
      injection e with e
      rw [← e]; exact hq
    · rw [List.getElem?_eq_none (by simp; omega)] at e; cases e
section
variable {H : Type} {enc : TypeId × Value → H} {P : Program} {w : World} {base : Nat} {spare : Nat → Bool} {held : Bool}
theorem trod_field {t : TypeId} {fs : Array Field} {n : Nat} {cs : List Value} {x : DataW H × List MemPlace} (ht : P.underlying t = some (.struct fs)) (h : DataW.trod enc P w base spare held n t cs = some x) (j off sz : Nat) (ft : TypeId) (hj : (fs[j]?).map (fun f => (f.type, f.offset)) = some (ft, off)) (hc : P.cellsOf ft = sz) :
    ∃ m y, DataW.trod enc P w base spare held m ft ((cs.drop off).take sz) = some y := by
  obtain ⟨xs, m, _, _, _, hl, hf⟩ := DataW.trod_struct ht h
  cases hfj : fs[j]? with
  | none => rw [hfj] at hj; cases hj
  | some f =>
    rw [hfj] at hj
    simp at hj
    obtain ⟨rfl, rfl⟩ := hj
    have h1 := hf j f hfj
    have hlt : j < xs.length := by
      have := (Array.getElem?_eq_some_iff.1 hfj).1
      omega
    rw [List.getElem?_eq_getElem hlt, hc] at h1
    exact ⟨m, _, h1⟩
theorem trod_len {t : TypeId} {fs : Array Field} {n : Nat} {cs : List Value} {x : DataW H × List MemPlace} (ht : P.underlying t = some (.struct fs)) (h : DataW.trod enc P w base spare held n t cs = some x) : cs.length = P.cellsOf t := by
  obtain ⟨xs, m, _, _, hl, _, hf⟩ := DataW.trod_struct ht h
  exact hl
/-- A field that is a whole number, a text, a bool: what lies in its cell. -/
theorem field_int {t : TypeId} {fs : Array Field} {n : Nat} {cs : List Value} {x : DataW H × List MemPlace} {q : IntKind} (ht : P.underlying t = some (.struct fs)) (h : DataW.trod enc P w base spare held n t cs = some x) (j off : Nat) (ft : TypeId) (hj : (fs[j]?).map (fun f => (f.type, f.offset)) = some (ft, off)) (hq : P.underlying ft = some (.int q)) (hc : P.cellsOf ft = 1) :
    ∃ y, cs[off]? = some (.int q y) ∧ (Lit.int q y).wf = true := by
  obtain ⟨m, y, h1⟩ := trod_field ht h j off 1 ft hj hc
  obtain ⟨z, hz, _, hw⟩ := DataW.trod_int hq h1
  refine ⟨z, ?_, hw⟩
  have := congrArg (·[0]?) hz
  simpa [List.getElem?_take, List.getElem?_drop] using this
theorem field_text {t : TypeId} {fs : Array Field} {n : Nat} {cs : List Value} {x : DataW H × List MemPlace} (ht : P.underlying t = some (.struct fs)) (h : DataW.trod enc P w base spare held n t cs = some x) (j off : Nat) (ft : TypeId) (hj : (fs[j]?).map (fun f => (f.type, f.offset)) = some (ft, off)) (hq : P.underlying ft = some .string) (hc : P.cellsOf ft = 1) :
    ∃ y : ByteArray, cs[off]? = some (.string y) ∧ y.size ≤ maxLen := by
  obtain ⟨m, y, h1⟩ := trod_field ht h j off 1 ft hj hc
  obtain ⟨z, hz, _, hw⟩ := DataW.trod_string hq h1
  refine ⟨z, ?_, hw⟩
  have := congrArg (·[0]?) hz
  simpa [List.getElem?_take, List.getElem?_drop] using this
theorem field_bool {t : TypeId} {fs : Array Field} {n : Nat} {cs : List Value} {x : DataW H × List MemPlace} (ht : P.underlying t = some (.struct fs)) (h : DataW.trod enc P w base spare held n t cs = some x) (j off : Nat) (ft : TypeId) (hj : (fs[j]?).map (fun f => (f.type, f.offset)) = some (ft, off)) (hq : P.underlying ft = some .bool) (hc : P.cellsOf ft = 1) :
    ∃ y : Bool, cs[off]? = some (.bool y) := by
  obtain ⟨m, y, h1⟩ := trod_field ht h j off 1 ft hj hc
  obtain ⟨z, hz, _⟩ := DataW.trod_bool hq h1
  refine ⟨z, ?_⟩
  have := congrArg (·[0]?) hz
  simpa [List.getElem?_take, List.getElem?_drop] using this
theorem came_open {α : Type} {size : Nat} {vals : α → List Value} {fits : World → α → Prop} {t e : TypeId} {n : Nat} {cs : List Value} {x : DataW H × List MemPlace} (ht : P.underlying t = some (.slice e)) (hC : P.cellsOf e = size) (h0 : 0 < size) (hv : ∀ z, (vals z).length = size)
    (op : ∀ (m : Nat) (cs : List Value) (x : DataW H × List MemPlace), cs.length = size → DataW.trod enc P w base spare held m e cs = some x → ∃ z, cs = vals z ∧ fits w z)
    (h : DataW.trod enc P w base spare held n t cs = some x) : ∃ a l c zs, cs = [.slice a l c] ∧ Came size vals fits w a l c zs := by
  rcases Go.Deep.open_slice ht h with ⟨h1, _⟩ | ⟨ad, len, cap, m, n, D, Pl, hcs, hb, hl, hm, hmm, hx, hi⟩
  · exact ⟨none, 0, 0, [], h1, rfl, Nat.le_refl _, by unfold maxLen; omega, fun _ => rfl, (fun z hz => by cases hz), fun hn => absurd hn (by omega)⟩
  · have hlm : len ≤ m := by rw [hmm]; split <;> omega
    obtain ⟨zs, hz, hp⟩ := list_of3 len (fun i z => fits w z ∧ ∀ (j : Nat) (u : Value), (vals z)[j]? = some u → w.cell? (ad.add (i * size + j)) = some u) (fun i hil => by
      obtain ⟨cs', hc, ht'⟩ := hi i (by omega)
      rw [hC] at hc
      obtain ⟨_, hcl, hat⟩ := World.cells?_some hc
      obtain ⟨z, hz, hf⟩ := op n cs' _ (by omega) ht'
      refine ⟨z, hf, fun j u hu => ?_⟩
      rw [← hz] at hu
      have hj : j < cs'.length := (List.getElem?_eq_some_iff.1 hu).1
      rw [← Go.Deep.add_add, hat _ (by omega)]
      exact hu)
    refine ⟨some ad, len, cap, zs, hcs, hz, hl, hm, (fun e => by cases e), fun z hzm => ?_, fun hn => ?_⟩
    · obtain ⟨i, he⟩ := List.mem_iff_getElem?.1 hzm
      exact (hp i z he).1
    · have hz0 : zs[0]? = some (zs[0]'(by omega)) := List.getElem?_eq_getElem (by omega)
      have hv0 : (vals (zs[0]'(by omega)))[0]? = some ((vals (zs[0]'(by omega)))[0]'(by rw [hv]; exact h0)) := List.getElem?_eq_getElem (by rw [hv]; exact h0)
      have h00 := (hp 0 _ hz0).2 0 _ hv0
      obtain ⟨b, off, spot⟩ := ad
      have hspot : spot = none := by simpa [Addr.add] using World.cell?_spot h00
      subst hspot
      refine ⟨b, off, rfl, ?_, fun i z he j u hu => ?_⟩
      · have := lt_of_cell? h00
        simpa [Addr.add] using this
      · have := (hp i z he).2 j u hu
        rw [Go.WideShapes.add_plain] at this
        rw [Nat.add_assoc]
        exact this
/-- An argument that is a slice. -/
theorem came_arg {α : Type} {size : Nat} {vals : α → List Value} {fits : World → α → Prop} {t e : TypeId} {a : Option Addr} {l c : Nat} {d : DataW H} {ps : List MemPlace} (ht : P.underlying t = some (.slice e)) (hC : P.cellsOf e = size) (h0 : 0 < size) (hv : ∀ z, (vals z).length = size)
    (op : ∀ (m : Nat) (cs : List Value) (x : DataW H × List MemPlace), cs.length = size → DataW.trod enc P w base spare held m e cs = some x → ∃ z, cs = vals z ∧ fits w z)
    (h : DataW.Trod enc P w base spare held t (.slice a l c) d ps) : ∃ zs, Came size vals fits w a l c zs := by
  obtain ⟨fuel, hf⟩ := h
  obtain ⟨a', l', c', zs, hcs, hz⟩ := came_open ht hC h0 hv op hf
  simp [Value.cells] at hcs
  obtain ⟨rfl, rfl, rfl⟩ := hcs
  exact ⟨zs, hz⟩
/-- An argument that is a struct. -/
theorem struct_arg {α : Type} {size : Nat} {vals : α → List Value} {fits : World → α → Prop} {r : Reach} {b0 : Nat} {t : TypeId} {fs : Array Field} {v : Value} {d : DataW H} {ps : List MemPlace} (ht : P.underlying t = some (.struct fs)) (hC : P.cellsOf t = size) (hval : Value.okWide P w r b0 t v)
    (op : ∀ (m : Nat) (cs : List Value) (x : DataW H × List MemPlace), cs.length = size → DataW.trod enc P w base spare held m t cs = some x → ∃ z, cs = vals z ∧ fits w z)
    (h : DataW.Trod enc P w base spare held t v d ps) : ∃ z, v = .agg (vals z).toArray ∧ fits w z := by
  obtain ⟨cs, rfl, hsz⟩ := okWide_struct ht hval
  obtain ⟨fuel, hf⟩ := h
  have hf' : DataW.trod enc P w base spare held fuel t cs.toList = some (d, ps) := by simpa [Value.cells] using hf
  obtain ⟨z, hz, hw⟩ := op fuel cs.toList _ (by simp; omega) hf'
  exact ⟨z, by rw [← hz], hw⟩
end
end Go.Proofs.Ytipepklobpnbpaa
