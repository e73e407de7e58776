/-
  What the walks lean on, part 0: Kit Came PgPlain Mem Touch GRow.
-/
import Derived.Test.YtcmgkjjkhfcedaaGreatRows
import Derived.WalkKit
import Derived.ProofKit
import Derived.OpenShut
import Derived.LoopTactic
import Derived.Outline
import Derived.ChangeOld
import Derived.Below
import Derived.WalkSmall
import Derived.Deep.Slices
import Derived.Deep.Fields
import Derived.ChangeSame
import Derived.Laws.StructEq
import Derived.Deep.RegionHeld3
import Derived.Deep.QuietTactic
import Derived.BigQuiet
import Derived.Maps.AppendAt
import Derived.Laws.AppendOwnNone
import Derived.OwnWalk
import Derived.Laws.Tables
import Derived.Maps.OwnSet
import Derived.Laws.OwnMore
import Derived.Laws.CopyOwn
import Derived.Deep.AppendLies
import Derived.Deep.Draws
/-
  Small words that all texts of this seat share.
-/
namespace Go.Proofs.YtcmgkjjkhfcedaaGreat
open Go.ChangeShapes Go.WideShapes Go.ChangeAt Go.RowKit
set_option linter.unusedVariables false
theorem hide {p : Prop} (h : p) : Hid p := h
theorem ret_val {k : IntKind} {a b : Int} (h : a = b) : Value.int k a = .int k b := by rw [h]
theorem ret_int {k : IntKind} {a b : Int} (h : a = b) : Ending.returned (.int k a) = .returned (.int k b) := by rw [h]
theorem ret_bool {a b : Bool} (h : a = b) : Ending.returned (.bool a) = .returned (.bool b) := by rw [h]
theorem own : ownKnob Tryz.prog.godebug = none := by kernel_rfl
theorem laidOut : laidOutB Tryz.prog = true := by kernel_rfl
theorem take_succ_getD (l : List Int) (k : Nat) (h : k < l.length) : l.take (k + 1) = l.take k ++ [l.getD k 0] := by
  rw [List.take_succ_eq_append_getElem h]; simp [List.getD, h]
/-- A slice of n integers that reads as 'xs', nil let in. -/
def Ints (q : IntKind) (w : World) (a : Option Addr) (n : Nat) (xs : List Int) : Prop :=
  xs.length = n ∧ (0 < n → ∃ b off, a = some ⟨b, off, none⟩ ∧ ∀ j, j < n → w.cell? ⟨b, off + j, none⟩ = some (.int q (xs.getD j 0)))
/-- What comes in: a slice that reads as 'xs', each fitting its kind, its length and room within the model's bound. -/
def CameIn (q : IntKind) (w : World) (a : Option Addr) (n c : Nat) (xs : List Int) : Prop :=
  Ints q w a n xs ∧ n ≤ c ∧ c ≤ maxLen ∧ (a = none → c = 0) ∧ ∀ x ∈ xs, (Lit.int q x).wf = true
theorem lt_of_cell? {w : World} {a : Addr} {v : Value} (h : w.cell? a = some v) : a.block < w.heap.size := by
  unfold World.cell? at h
  rcases Nat.lt_or_ge a.block w.heap.size with hlt | hge
  · exact hlt
  · rw [Array.getElem?_eq_none hge] at h; cases h
theorem cameIn_open {q : IntKind} {w : World} {x : Addr} {l c : Nat} {zs : List Int} (hl : l ≤ c) (hm : c ≤ maxLen) (hz : zs.length = c)
    (hcell : ∀ i, i < zs.length → w.cell? (x.add i) = some (.int q (zs.getD i 0))) (hwz : ∀ n ∈ zs, (Lit.int q n).wf = true) : CameIn q w (some x) l c (zs.take l) := by
  refine ⟨⟨by simp; omega, fun hn => ?_⟩, hl, hm, (fun h => by cases h), fun y hy => hwz y (List.mem_of_mem_take hy)⟩
  obtain ⟨b, off, rfl, hc⟩ := ints_at hcell (by omega)
  refine ⟨b, off, rfl, fun j hj => ?_⟩
  rw [hc j (by omega)]
  simp [List.getD, hj]
theorem cameIn_nil {q : IntKind} {w : World} : CameIn q w none 0 0 [] := ⟨⟨rfl, fun h => absurd h (by omega)⟩, Nat.le_refl _, by unfold maxLen; omega, fun _ => rfl, fun _ h => by cases h⟩
theorem Ints.keep {q : IntKind} {w w' : World} {a : Option Addr} {n : Nat} {xs : List Int} (h : Ints q w a n xs) (hk : ∀ p : Addr, p.block < w.heap.size → w'.cell? p = w.cell? p) : Ints q w' a n xs := by
  refine ⟨h.1, fun hn => ?_⟩
  obtain ⟨b, off, e, hc⟩ := h.2 hn
  refine ⟨b, off, e, fun j hj => ?_⟩
  have hb : b < w.heap.size := lt_of_cell? (hc j hj)
  rw [hk ⟨b, off + j, none⟩ hb]; exact hc j hj
theorem Ints.below {q : IntKind} {w w' : World} {a : Option Addr} {n : Nat} {xs : List Int} (h : Ints q w a n xs) (hb : Below w.heap.size w w') : Ints q w' a n xs := h.keep fun _ hp => hb.cell hp
theorem ints_two (q : IntKind) (w : World) (x y : Int) (t : TypeId) : Ints q (w.alloc (.cells #[.int q x, .int q y] t)) (some ⟨w.heap.size, 0, none⟩) 2 [x, y] := by
  refine ⟨rfl, fun _ => ⟨_, _, rfl, fun j hj => ?_⟩⟩
  match j, hj with
  | 0, _ => simp
  | 1, _ => simp
theorem ints_two_at (q : IntKind) (w : World) (x y : Int) (t : TypeId) (n : Nat) (hn : n = w.heap.size) : Ints q (w.alloc (.cells #[.int q x, .int q y] t)) (some ⟨n, 0, none⟩) 2 [x, y] := by
  subst hn; exact ints_two q w x y t
theorem ints_cell1 (q : IntKind) (w : World) (x : Int) (t : TypeId) (n : Nat) (hn : n = w.heap.size) : Ints q (w.alloc (.cells #[.int q x] t)) (some ⟨n, 0, none⟩) 1 [x] := by
  subst hn
  refine ⟨rfl, fun _ => ⟨_, _, rfl, fun j hj => ?_⟩⟩
  match j, hj with
  | 0, _ => simp
theorem Ints.drew {q : IntKind} {w : World} {a : Option Addr} {n : Nat} {xs : List Int} (h : Ints q w a n xs) : Ints q w.drew a n xs := h
theorem below_drewN {B : Nat} {a w : World} (h : Below B a w) (n : Nat) : Below B a (w.drewN n) := ⟨h.os, h.tape, h.output, h.size, h.block⟩
theorem below_one {w w' : World} {o : Obj} {n : Nat} (hb : Below n (w.alloc o) w') (hn : w.heap.size ≤ n) : Below w.heap.size w w' :=
  ((Below.refl _ _).alloc (Nat.le_refl _) _).trans (hb.mono hn)
theorem below_one_drew {w w' : World} {o : Obj} (hb : Below (w.alloc o).drew.heap.size (w.alloc o).drew w') : Below w.heap.size w w' :=
  (((Below.refl _ _).alloc (Nat.le_refl _) _).drew).trans (hb.mono (by show w.heap.size ≤ (w.alloc o).heap.size; simp))
theorem below_two {w w' : World} {o1 o2 : Obj} {n : Nat} (hb : Below n ((w.alloc o1).alloc o2) w') (hn : w.heap.size ≤ n) : Below w.heap.size w w' :=
  (((Below.refl _ _).alloc (Nat.le_refl _) _).alloc (by simp) _).trans (hb.mono hn)
end Go.Proofs.YtcmgkjjkhfcedaaGreat
/-
  What comes in, in general: a slice of whatever elements, each opened by a law of its own.
-/
namespace Go.Proofs.YtcmgkjjkhfcedaaGreat
open Go.ChangeShapes Go.WideShapes Go.ChangeAt Go.RowKit
set_option linter.unusedVariables false
/-- A slice of n elements that reads as 'zs', each fitting. -/
def Came {α : Type} (size : Nat) (vals : α → List Value) (fits : World → α → Prop) (w : World) (a : Option Addr) (n c : Nat) (zs : List α) : Prop :=
  zs.length = n ∧ n ≤ c ∧ c ≤ maxLen ∧ (a = none → c = 0) ∧ (∀ z ∈ zs, fits w z) ∧
    (0 < n → ∃ b off, a = some ⟨b, off, none⟩ ∧ b < w.heap.size ∧ ∀ (i : Nat) (z : α), zs[i]? = some z → ∀ (j : Nat) (u : Value), (vals z)[j]? = some u → w.cell? ⟨b, off + i * size + j, none⟩ = some u)
theorem list_of3 {α : Type} (n : Nat) (p : Nat → α → Prop) (h : ∀ i, i < n → ∃ z, p i z) : ∃ zs : List α, zs.length = n ∧ ∀ (i : Nat) (z : α), zs[i]? = some z → p i z := by
  induction n with
  | zero => exact ⟨[], rfl, fun i z e => by simp at e⟩
  | succ n ih =>
    obtain ⟨zs, hz, hp⟩ := ih fun i hi => h i (by omega)
    obtain ⟨z, hq⟩ := h n (by omega)
    refine ⟨zs ++ [z], by simp [hz], fun i y e => ?_⟩
    rcases Nat.lt_trichotomy i n with hi | hi | hi
    · rw [List.getElem?_append_left (by omega)] at e; exact hp i y e
    · subst hi
      rw [List.getElem?_append_right (by omega)] at e
      rw [hz, Nat.sub_self] at e
      injection e with e
      rw [← e]; exact hq
    · rw [List.getElem?_eq_none (by simp; omega)] at e; cases e
section
variable {H : Type} {enc : TypeId × Value → H} {P : Program} {w : World} {base : Nat} {spare : Nat → Bool} {held : Bool}
theorem trod_field {t : TypeId} {fs : Array Field} {n : Nat} {cs : List Value} {x : DataW H × List MemPlace} (ht : P.underlying t = some (.struct fs)) (h : DataW.trod enc P w base spare held n t cs = some x) (j off sz : Nat) (ft : TypeId) (hj : (fs[j]?).map (fun f => (f.type, f.offset)) = some (ft, off)) (hc : P.cellsOf ft = sz) :
    ∃ m y, DataW.trod enc P w base spare held m ft ((cs.drop off).take sz) = some y := by
  obtain ⟨xs, m, _, _, _, hl, hf⟩ := DataW.trod_struct ht h
  cases hfj : fs[j]? with
  | none => rw [hfj] at hj; cases hj
  | some f =>
    rw [hfj] at hj
    simp at hj
    obtain ⟨rfl, rfl⟩ := hj
    have h1 := hf j f hfj
    have hlt : j < xs.length := by
      have := (Array.getElem?_eq_some_iff.1 hfj).1
      omega
    rw [List.getElem?_eq_getElem hlt, hc] at h1
    exact ⟨m, _, h1⟩
theorem trod_len {t : TypeId} {fs : Array Field} {n : Nat} {cs : List Value} {x : DataW H × List MemPlace} (ht : P.underlying t = some (.struct fs)) (h : DataW.trod enc P w base spare held n t cs = some x) : cs.length = P.cellsOf t := by
  obtain ⟨xs, m, _, _, hl, _, hf⟩ := DataW.trod_struct ht h
  exact hl
/-- A field that is a whole number, a text, a bool: what lies in its cell. -/
theorem field_int {t : TypeId} {fs : Array Field} {n : Nat} {cs : List Value} {x : DataW H × List MemPlace} {q : IntKind} (ht : P.underlying t = some (.struct fs)) (h : DataW.trod enc P w base spare held n t cs = some x) (j off : Nat) (ft : TypeId) (hj : (fs[j]?).map (fun f => (f.type, f.offset)) = some (ft, off)) (hq : P.underlying ft = some (.int q)) (hc : P.cellsOf ft = 1) :
    ∃ y, cs[off]? = some (.int q y) ∧ (Lit.int q y).wf = true := by
  obtain ⟨m, y, h1⟩ := trod_field ht h j off 1 ft hj hc
  obtain ⟨z, hz, _, hw⟩ := DataW.trod_int hq h1
  refine ⟨z, ?_, hw⟩
  have := congrArg (·[0]?) hz
  simpa [List.getElem?_take, List.getElem?_drop] using this
theorem field_text {t : TypeId} {fs : Array Field} {n : Nat} {cs : List Value} {x : DataW H × List MemPlace} (ht : P.underlying t = some (.struct fs)) (h : DataW.trod enc P w base spare held n t cs = some x) (j off : Nat) (ft : TypeId) (hj : (fs[j]?).map (fun f => (f.type, f.offset)) = some (ft, off)) (hq : P.underlying ft = some .string) (hc : P.cellsOf ft = 1) :
    ∃ y : ByteArray, cs[off]? = some (.string y) ∧ y.size ≤ maxLen := by
  obtain ⟨m, y, h1⟩ := trod_field ht h j off 1 ft hj hc
  obtain ⟨z, hz, _, hw⟩ := DataW.trod_string hq h1
  refine ⟨z, ?_, hw⟩
  have := congrArg (·[0]?) hz
  simpa [List.getElem?_take, List.getElem?_drop] using this
theorem field_bool {t : TypeId} {fs : Array Field} {n : Nat} {cs : List Value} {x : DataW H × List MemPlace} (ht : P.underlying t = some (.struct fs)) (h : DataW.trod enc P w base spare held n t cs = some x) (j off : Nat) (ft : TypeId) (hj : (fs[j]?).map (fun f => (f.type, f.offset)) = some (ft, off)) (hq : P.underlying ft = some .bool) (hc : P.cellsOf ft = 1) :
    ∃ y : Bool, cs[off]? = some (.bool y) := by
  obtain ⟨m, y, h1⟩ := trod_field ht h j off 1 ft hj hc
  obtain ⟨z, hz, _⟩ := DataW.trod_bool hq h1
  refine ⟨z, ?_⟩
  have := congrArg (·[0]?) hz
  simpa [List.getElem?_take, List.getElem?_drop] using this
theorem came_open {α : Type} {size : Nat} {vals : α → List Value} {fits : World → α → Prop} {t e : TypeId} {n : Nat} {cs : List Value} {x : DataW H × List MemPlace} (ht : P.underlying t = some (.slice e)) (hC : P.cellsOf e = size) (h0 : 0 < size) (hv : ∀ z, (vals z).length = size)
    (op : ∀ (m : Nat) (cs : List Value) (x : DataW H × List MemPlace), cs.length = size → DataW.trod enc P w base spare held m e cs = some x → ∃ z, cs = vals z ∧ fits w z)
    (h : DataW.trod enc P w base spare held n t cs = some x) : ∃ a l c zs, cs = [.slice a l c] ∧ Came size vals fits w a l c zs := by
  rcases Go.Deep.open_slice ht h with ⟨h1, _⟩ | ⟨ad, len, cap, m, n, D, Pl, hcs, hb, hl, hm, hmm, hx, hi⟩
  · exact ⟨none, 0, 0, [], h1, rfl, Nat.le_refl _, by unfold maxLen; omega, fun _ => rfl, (fun z hz => by cases hz), fun hn => absurd hn (by omega)⟩
  · have hlm : len ≤ m := by rw [hmm]; split <;> omega
    obtain ⟨zs, hz, hp⟩ := list_of3 len (fun i z => fits w z ∧ ∀ (j : Nat) (u : Value), (vals z)[j]? = some u → w.cell? (ad.add (i * size + j)) = some u) (fun i hil => by
      obtain ⟨cs', hc, ht'⟩ := hi i (by omega)
      rw [hC] at hc
      obtain ⟨_, hcl, hat⟩ := World.cells?_some hc
      obtain ⟨z, hz, hf⟩ := op n cs' _ (by omega) ht'
      refine ⟨z, hf, fun j u hu => ?_⟩
      rw [← hz] at hu
      have hj : j < cs'.length := (List.getElem?_eq_some_iff.1 hu).1
      rw [← Go.Deep.add_add, hat _ (by omega)]
      exact hu)
    refine ⟨some ad, len, cap, zs, hcs, hz, hl, hm, (fun e => by cases e), fun z hzm => ?_, fun hn => ?_⟩
    · obtain ⟨i, he⟩ := List.mem_iff_getElem?.1 hzm
      exact (hp i z he).1
    · have hz0 : zs[0]? = some (zs[0]'(by omega)) := List.getElem?_eq_getElem (by omega)
      have hv0 : (vals (zs[0]'(by omega)))[0]? = some ((vals (zs[0]'(by omega)))[0]'(by rw [hv]; exact h0)) := List.getElem?_eq_getElem (by rw [hv]; exact h0)
      have h00 := (hp 0 _ hz0).2 0 _ hv0
      obtain ⟨b, off, spot⟩ := ad
      have hspot : spot = none := by simpa [Addr.add] using World.cell?_spot h00
      subst hspot
      refine ⟨b, off, rfl, ?_, fun i z he j u hu => ?_⟩
      · have := lt_of_cell? h00
        simpa [Addr.add] using this
      · have := (hp i z he).2 j u hu
        rw [Go.WideShapes.add_plain] at this
        rw [Nat.add_assoc]
        exact this
/-- An argument that is a slice. -/
theorem came_arg {α : Type} {size : Nat} {vals : α → List Value} {fits : World → α → Prop} {t e : TypeId} {a : Option Addr} {l c : Nat} {d : DataW H} {ps : List MemPlace} (ht : P.underlying t = some (.slice e)) (hC : P.cellsOf e = size) (h0 : 0 < size) (hv : ∀ z, (vals z).length = size)
    (op : ∀ (m : Nat) (cs : List Value) (x : DataW H × List MemPlace), cs.length = size → DataW.trod enc P w base spare held m e cs = some x → ∃ z, cs = vals z ∧ fits w z)
    (h : DataW.Trod enc P w base spare held t (.slice a l c) d ps) : ∃ zs, Came size vals fits w a l c zs := by
  obtain ⟨fuel, hf⟩ := h
  obtain ⟨a', l', c', zs, hcs, hz⟩ := came_open ht hC h0 hv op hf
  simp [Value.cells] at hcs
  obtain ⟨rfl, rfl, rfl⟩ := hcs
  exact ⟨zs, hz⟩
/-- An argument that is a struct. -/
theorem struct_arg {α : Type} {size : Nat} {vals : α → List Value} {fits : World → α → Prop} {r : Reach} {b0 : Nat} {t : TypeId} {fs : Array Field} {v : Value} {d : DataW H} {ps : List MemPlace} (ht : P.underlying t = some (.struct fs)) (hC : P.cellsOf t = size) (hval : Value.okWide P w r b0 t v)
    (op : ∀ (m : Nat) (cs : List Value) (x : DataW H × List MemPlace), cs.length = size → DataW.trod enc P w base spare held m t cs = some x → ∃ z, cs = vals z ∧ fits w z)
    (h : DataW.Trod enc P w base spare held t v d ps) : ∃ z, v = .agg (vals z).toArray ∧ fits w z := by
  obtain ⟨cs, rfl, hsz⟩ := okWide_struct ht hval
  obtain ⟨fuel, hf⟩ := h
  have hf' : DataW.trod enc P w base spare held fuel t cs.toList = some (d, ps) := by simpa [Value.cells] using hf
  obtain ⟨z, hz, hw⟩ := op fuel cs.toList _ (by simp; omega) hf'
  exact ⟨z, by rw [← hz], hw⟩
end
end Go.Proofs.YtcmgkjjkhfcedaaGreat
/-
  Calls and steps of programs: plain words; what comes in; struct comparison (stage 9).
-/
namespace Go.Proofs.YtcmgkjjkhfcedaaGreat
open Go.ChangeShapes Go.WideShapes Go.ChangeAt Go.RowKit
set_option linter.unusedVariables false
/-- A call of the system. -/
structure Cl where
  sys : Int
  a : Int
  b : Int
  s : ByteArray
  t : ByteArray
/-- A step of a program. -/
structure Step where
  k : Int
  a : Int
  b : Int
  c : Int
  cl : Cl
def clVals (c : Cl) : List Value := [.int .i64 c.sys, .int .i64 c.a, .int .i64 c.b, .string c.s, .string c.t]
def stVals (o : Step) : List Value := [.int .i64 o.k, .int .i64 o.a, .int .i64 o.b, .int .i64 o.c, .int .i64 o.cl.sys, .int .i64 o.cl.a, .int .i64 o.cl.b, .string o.cl.s, .string o.cl.t]
def ClWf (c : Cl) : Prop := (Lit.int .i64 c.sys).wf = true ∧ (Lit.int .i64 c.a).wf = true ∧ (Lit.int .i64 c.b).wf = true ∧ c.s.size ≤ maxLen ∧ c.t.size ≤ maxLen
def StWf (_ : World) (o : Step) : Prop := (Lit.int .i64 o.k).wf = true ∧ (Lit.int .i64 o.a).wf = true ∧ (Lit.int .i64 o.b).wf = true ∧ (Lit.int .i64 o.c).wf = true ∧ ClWf o.cl
section
variable {H : Type} {enc : TypeId × Value → H} {w : World} {base : Nat} {spare : Nat → Bool} {held : Bool}
theorem step_open (m : Nat) (cs : List Value) (x : DataW H × List MemPlace) (hl : cs.length = 9) (h : DataW.trod enc Tryz.prog w base spare held m 98 cs = some x) : ∃ o, cs = stVals o ∧ StWf w o := by
  obtain ⟨k, e0, w0⟩ := field_int Tryz.underlying98 h 0 0 3 rfl Tryz.underlying3 (by kernel_rfl)
  obtain ⟨a, e1, w1⟩ := field_int Tryz.underlying98 h 1 1 3 rfl Tryz.underlying3 (by kernel_rfl)
  obtain ⟨b, e2, w2⟩ := field_int Tryz.underlying98 h 2 2 3 rfl Tryz.underlying3 (by kernel_rfl)
  obtain ⟨c, e3, w3⟩ := field_int Tryz.underlying98 h 3 3 3 rfl Tryz.underlying3 (by kernel_rfl)
  obtain ⟨n, y, h4⟩ := trod_field Tryz.underlying98 h 4 4 5 96 rfl (by kernel_rfl)
  obtain ⟨sys, e4, w4⟩ := field_int Tryz.underlying96 h4 0 0 3 rfl Tryz.underlying3 (by kernel_rfl)
  obtain ⟨ca, e5, w5⟩ := field_int Tryz.underlying96 h4 1 1 3 rfl Tryz.underlying3 (by kernel_rfl)
  obtain ⟨cb, e6, w6⟩ := field_int Tryz.underlying96 h4 2 2 3 rfl Tryz.underlying3 (by kernel_rfl)
  obtain ⟨s, e7, w7⟩ := field_text Tryz.underlying96 h4 3 3 9 rfl Tryz.underlying9 (by kernel_rfl)
  obtain ⟨t, e8, w8⟩ := field_text Tryz.underlying96 h4 4 4 9 rfl Tryz.underlying9 (by kernel_rfl)
  refine ⟨⟨k, a, b, c, ⟨sys, ca, cb, s, t⟩⟩, ?_, w0, w1, w2, w3, w4, w5, w6, w7, w8⟩
  match cs, hl with
  | [v0, v1, v2, v3, v4, v5, v6, v7, v8], _ =>
    simp at e0 e1 e2 e3 e4 e5 e6 e7 e8
    simp [stVals, e0, e1, e2, e3, e4, e5, e6, e7, e8]
end
def eqCl (x y : Cl) : Bool := x.sys == y.sys && x.a == y.a && x.b == y.b && decide (x.s = y.s) && decide (x.t = y.t)
def eqSt (x y : Step) : Bool := x.k == y.k && x.a == y.a && x.b == y.b && x.c == y.c && eqCl x.cl y.cl
theorem text_inj {a b : ByteArray} : a.toList = b.toList ↔ a = b := by
  rw [ByteArray.toList_eq, ByteArray.toList_eq]
  constructor
  · intro h
    obtain ⟨x⟩ := a
    obtain ⟨y⟩ := b
    exact congrArg ByteArray.mk (Array.toList_inj.1 h)
  · intro h; rw [h]
theorem call_eql (w : World) (x y : Cl) : (binOp .eql 96 (.agg #[.int .i64 x.sys, .int .i64 x.a, .int .i64 x.b, .string x.s, .string x.t]) (.agg #[.int .i64 y.sys, .int .i64 y.a, .int .i64 y.b, .string y.s, .string y.t])).run Tryz.prog w = .ok (.bool (eqCl x y)) w := by
  rw [run_eql_struct, run_equalIn_agg w 9999 _ _ _ (by kernel_rfl) (by kernel_rfl)]
  simp only [Program.fieldsOf, Tryz.underlying96]
  simp [Op.eqFields, go_sem, Tryz.underlying3, Tryz.underlying9, text_inj]
  unfold eqCl
  by_cases e0 : x.sys = y.sys <;> by_cases e1 : x.a = y.a <;> by_cases e2 : x.b = y.b <;> by_cases e3 : x.s = y.s <;> by_cases e4 : x.t = y.t <;> simp [e0, e1, e2, e3, e4]
theorem step_eql (w : World) (x y : Step) : (binOp .eql 98 (.agg (stVals x).toArray) (.agg (stVals y).toArray)).run Tryz.prog w = .ok (.bool (eqSt x y)) w := by
  rw [run_eql_struct, run_equalIn_agg w 9999 _ _ _ (by kernel_rfl) (by kernel_rfl)]
  simp only [Program.fieldsOf, Tryz.underlying98]
  simp [Op.eqFields, go_sem, Tryz.underlying3, stVals, text_inj]
  unfold eqSt eqCl
  by_cases e0 : x.k = y.k
  · by_cases e1 : x.a = y.a
    · by_cases e2 : x.b = y.b
      · by_cases e3 : x.c = y.c
        · by_cases f0 : x.cl.sys = y.cl.sys <;> by_cases f1 : x.cl.a = y.cl.a <;> by_cases f2 : x.cl.b = y.cl.b <;> by_cases f3 : x.cl.s = y.cl.s <;> by_cases f4 : x.cl.t = y.cl.t <;> simp [e0, e1, e2, e3, f0, f1, f2, f3, f4]
        · simp [e0, e1, e2, e3]
      · simp [e0, e1, e2]
    · simp [e0, e1]
  · simp [e0]
theorem step_neq (w : World) (x y : Step) : (binOp .neq 98 (.agg (stVals x).toArray) (.agg (stVals y).toArray)).run Tryz.prog w = .ok (.bool (!eqSt x y)) w := by
  rw [run_neq_struct, run_equalIn_agg w 9999 _ _ _ (by kernel_rfl) (by kernel_rfl)]
  simp only [Program.fieldsOf, Tryz.underlying98]
  simp [Op.eqFields, go_sem, Tryz.underlying3, stVals, text_inj]
  unfold eqSt eqCl
  by_cases e0 : x.k = y.k
  · by_cases e1 : x.a = y.a
    · by_cases e2 : x.b = y.b
      · by_cases e3 : x.c = y.c
        · by_cases f0 : x.cl.sys = y.cl.sys <;> by_cases f1 : x.cl.a = y.cl.a <;> by_cases f2 : x.cl.b = y.cl.b <;> by_cases f3 : x.cl.s = y.cl.s <;> by_cases f4 : x.cl.t = y.cl.t <;> simp [e0, e1, e2, e3, f0, f1, f2, f3, f4]
        · simp [e0, e1, e2, e3]
      · simp [e0, e1, e2]
    · simp [e0, e1]
  · simp [e0]
theorem eqCl_iff {x y : Cl} : eqCl x y = true ↔ x = y := by
  obtain ⟨a, b, c, d, e⟩ := x
  obtain ⟨a', b', c', d', e'⟩ := y
  simp [eqCl, and_assoc]
theorem eqSt_iff {x y : Step} : eqSt x y = true ↔ x = y := by
  obtain ⟨a, b, c, d, e⟩ := x
  obtain ⟨a', b', c', d', e'⟩ := y
  simp [eqSt, eqCl_iff, and_assoc]

theorem step_refl (x : Step) : eqSt x x = true := eqSt_iff.2 rfl
end Go.Proofs.YtcmgkjjkhfcedaaGreat
/-
  Words for memory: a slice of integers appended to a row of the call's own; such a row read as a slice of integers.
-/
namespace Go.Proofs.YtcmgkjjkhfcedaaGreat
open Go.ChangeShapes Go.WideShapes Go.ChangeAt Go.RowKit
set_option linter.unusedVariables false
theorem ints_one (q : IntKind) (ys : List Int) : ∀ u ∈ ys.map (Value.int q), u.oneCell' = true := by
  intro u hu
  obtain ⟨y, _, rfl⟩ := List.mem_map.mp hu
  rfl
theorem addr_add (b off j : Nat) : (⟨b, off, none⟩ : Addr).add j = ⟨b, off + j, none⟩ := by
  unfold Addr.add; split <;> simp_all
theorem ints_cells {q : IntKind} {w : World} {ad : Addr} {m : Nat} {ys : List Int} (h : Ints q w (some ad) m ys) :
    ∀ j u, (ys.map (Value.int q))[j]? = some u → w.cell? (ad.add j) = some u := by
  intro j u hu
  rw [List.getElem?_map] at hu
  cases hy : ys[j]? with
  | none => rw [hy] at hu; cases hu
  | some y =>
    rw [hy] at hu
    have hj : j < ys.length := (List.getElem?_eq_some_iff.mp hy).1
    have hm : j < m := by rw [← h.1]; exact hj
    obtain ⟨b, off, e, hc⟩ := h.2 (by omega)
    injection e with e
    subst e
    have := hc j hm
    rw [addr_add, this]
    simp only [List.getD_eq_getElem?_getD, hy]
    exact hu
theorem ints_none {q : IntKind} {w : World} {A : Option Addr} {m c : Nat} {ys : List Int} (h : Ints q w A m ys) (hnil : A = none → c = 0) : A = none → m = 0 ∧ c = 0 := by
  intro e
  refine ⟨?_, hnil e⟩
  rcases Nat.eq_zero_or_pos m with h0 | h0
  · exact h0
  · obtain ⟨b, off, e', _⟩ := h.2 h0; rw [e] at e'; cases e'
theorem own_ints {q : IntKind} {w : World} {base : Nat} {e : TypeId} {v : Value} {n : Nat} {xs : List Int} (h : w.ownsRow base e 1 v n (xs.map (Value.int q))) :
    ∃ A c, v = .slice A n c ∧ Ints q w A n xs ∧ (A = none → c = 0) := by
  have hl : xs.length = n := by have := h.1; simpa using this
  have hcells := fun g hg => h.cells (g := g) hg
  rcases h.2 with ⟨rfl, rfl⟩ | ⟨g, cap, cur, rfl, _⟩
  · exact ⟨none, 0, rfl, ⟨hl, fun h => absurd h (by omega)⟩, fun _ => rfl⟩
  · refine ⟨some ⟨g, 0, none⟩, cap, rfl, ⟨hl, fun _ => ⟨g, 0, rfl, fun j hj => ?_⟩⟩, fun h => by cases h⟩
    have := hcells g rfl j (Value.int q (xs.getD j 0)) (by rw [List.getElem?_map, List.getElem?_eq_getElem (by omega)]; simp [List.getD, hl, hj])
    rw [addr_add] at this
    exact this
theorem own_lo {w : World} {base : Nat} {e : TypeId} {z n : Nat} {v : Value} {xs : List Value} (h : w.ownsRow base e z v n xs) : ∀ k, v.ownBlock = some k → base ≤ k := fun k hk => (h.lt k hk).1
theorem own_base {w : World} {base base' : Nat} {e : TypeId} {z n : Nat} {v : Value} {xs : List Value} (h : w.ownsRow base e z v n xs) (hb : base' ≤ base) : w.ownsRow base' e z v n xs := by
  refine ⟨h.1, ?_⟩
  rcases h.2 with hn | ⟨g, cap, cur, e1, e2, rest⟩
  · exact .inl hn
  · exact .inr ⟨g, cap, cur, e1, Nat.le_trans hb e2, rest⟩
theorem own_kept {w w' : World} {base : Nat} {e : TypeId} {z n : Nat} {v : Value} {xs : List Value} (h : w.ownsRow base e z v n xs) (g : w.grownBy w' none) : w'.ownsRow base e z v n xs :=
  h.kept g (by cases v.ownBlock <;> simp)
theorem own_kept_new {w w1 w2 : World} {base : Nat} {e : TypeId} {z n : Nat} {v u : Value} {xs : List Value} (h : w.ownsRow base e z v n xs) (g1 : w.grownBy w1 none) (g2 : w1.grownBy w2 u.ownBlock)
    (t : u.ownBlock = none ∨ u.ownBlock = some w.heap.size) : w2.ownsRow base e z v n xs := by
  refine (own_kept h g1).kept g2 ?_
  cases hv : v.ownBlock with
  | none => exact .inl rfl
  | some k =>
    refine .inr ?_
    have := (h.lt k hv).2
    rcases t with t | t <;> rw [t] <;> simp
    omega
theorem below_setRow {B : Nat} {a w : World} (h : Below B a w) {g : Nat} (hg : B ≤ g) (cs : Array Value) : Below B a (w.setRow g cs) :=
  ⟨h.os, h.tape, h.output, by rw [size_setRow]; exact h.size, fun k hk => (setRow_other w g k cs (by omega)).trans (h.block k hk)⟩
section
variable {P : Program} {w : World} {ops : Array Oper} {rest : List Oper} {o : Oper} {a : Act} {Q : Exit → Act → World → Prop}
theorem wpList_append_src (hgd : o.guard = none) (s x : Operand) (t : TypeId) (ho : o.op = .call { callee := .builtin .append, args := #[s, x], argTypes := #[t, t] })
    (base : Nat) (e : TypeId) (i : TypeInfo) (z : Value) (bytes : Nat) (ht : P.underlying t = some (.slice e)) (hi : P.info? e = some i) (hz : i.zero = some z)
    (hsize : i.size = 1) (hby : i.bytes = bytes) (hzs : z.cells.size = 1)
    (v : Value) (n : Nat) (xs : List Value) (hs : a.eval s = v) (hown : w.ownsRow base e 1 v n xs)
    (q : IntKind) (A : Option Addr) (m c : Nat) (ys : List Int) (hx : a.eval x = .slice A m c) (hr : Ints q w A m ys) (hnil : A = none → c = 0)
    (h63 : n + m ≤ maxLen) (hbytes : (n + m) * bytes ≤ 140737488355328) (hbase : base ≤ w.heap.size)
    (h : ∀ v' w', w'.ownsRow base e 1 v' (n + m) (xs ++ ys.map (Value.int q)) → w.grownBy w' v.ownBlock → (v'.ownBlock = v.ownBlock ∨ v'.ownBlock = some w.heap.size) → wpList P ops Q rest (a.put o.dst v') w') :
    wpList P ops Q (o :: rest) a w := by
  cases A with
  | none =>
    have hm : m = 0 := by
      rcases Nat.eq_zero_or_pos m with h0 | h0
      · exact h0
      · obtain ⟨b, off, e, _⟩ := hr.2 h0; cases e
    subst hm
    have hy : ys = [] := List.eq_nil_of_length_eq_zero hr.1
    subst hy
    rw [hnil rfl] at hx
    exact wpList_append_own_none hgd s x t ho base e i 1 ht hi v n xs hs hown hx (h v w (by simpa using hown) (World.grownBy.refl w _) (.inl rfl))
  | some ad =>
    exact wpList_append_own_at _ hgd s x t ho base e i z 1 bytes ht hi hz hsize hby hzs (by omega) v n xs hs hown ad m c (ys.map (Value.int q)) hx (by simpa using hr.1) (ints_cells hr) (ints_one q ys) h63 hbytes hbase
      (fun v' w' h2 h3 _ h5 => h v' w' h2 h3 h5)
end
end Go.Proofs.YtcmgkjjkhfcedaaGreat
/-
  Words for memory: what turns and what stays; a struct written into a row, cells copied into a row.
-/
namespace Go.Proofs.YtcmgkjjkhfcedaaGreat
open Go.ChangeShapes Go.WideShapes Go.ChangeAt Go.RowKit
set_option linter.unusedVariables false
/-- Only blocks of S have turned; new ones may be there. -/
structure Touch (S : Nat → Prop) (w w' : World) : Prop where
  os : w'.os = w.os
  tape : w'.tape = w.tape
  output : w'.output = w.output
  size : w.heap.size ≤ w'.heap.size
  block : ∀ i, i < w.heap.size → ¬ S i → w'.heap[i]? = w.heap[i]?
theorem Touch.refl (S : Nat → Prop) (w : World) : Touch S w w := ⟨rfl, rfl, rfl, Nat.le_refl _, fun _ _ _ => rfl⟩
theorem Touch.trans {S S' : Nat → Prop} {a b c : World} (h : Touch S a b) (k : Touch S' b c) (hs : ∀ i, S' i → S i ∨ a.heap.size ≤ i) : Touch S a c :=
  ⟨k.os.trans h.os, k.tape.trans h.tape, k.output.trans h.output, Nat.le_trans h.size k.size, fun i hi hn =>
    (k.block i (Nat.lt_of_lt_of_le hi h.size) (fun e => by rcases hs i e with e | e <;> first | exact hn e | omega)).trans (h.block i hi hn)⟩
theorem Touch.of_below {S : Nat → Prop} {w w' : World} (h : Below w.heap.size w w') : Touch S w w' := ⟨h.os, h.tape, h.output, h.size, fun i hi _ => h.block i hi⟩
theorem Touch.of_grown {S : Nat → Prop} {w w' : World} {row : Option Nat} (h : w.grownBy w' row) (hs : ∀ g, row = some g → S g) : Touch S w w' :=
  ⟨h.os, h.tape, h.output, h.size, fun i hi hn => h.block i hi (fun e => hn (hs i e.symm))⟩
theorem Touch.below {S : Nat → Prop} {w w' : World} (h : Touch S w w') {B : Nat} (hB : B ≤ w.heap.size) (hs : ∀ i, S i → B ≤ i) : Below B w w' :=
  ⟨h.os, h.tape, h.output, h.size, fun i hi => h.block i (by omega) (fun e => by have := hs i e; omega)⟩
theorem Touch.mono {S S' : Nat → Prop} {w w' : World} (h : Touch S w w') (hs : ∀ i, S i → S' i) : Touch S' w w' := ⟨h.os, h.tape, h.output, h.size, fun i hi hn => h.block i hi (fun e => hn (hs i e))⟩
theorem Touch.drewN {S : Nat → Prop} {w w' : World} (h : Touch S w w') (n : Nat) : Touch S w (w'.drewN n) := ⟨h.os, h.tape, h.output, h.size, h.block⟩
theorem Touch.alloc {S : Nat → Prop} {w w' : World} (h : Touch S w w') (o : Obj) : Touch S w (w'.alloc o) :=
  h.trans (S' := fun _ => False) (Touch.of_grown (World.grownBy_alloc w' o none) (fun _ e => by cases e)) (fun _ e => e.elim)
theorem Touch.setCell {S : Nat → Prop} {w w' : World} (h : Touch S w w') {p : Addr} (hp : S p.block) (u : Value) : Touch S w (w'.setCell p u) :=
  ⟨h.os, h.tape, h.output, by simpa [World.setCell] using h.size, fun i hi hn => (RowKit.Below.heap_setCell w' p u i (fun e => hn (by rw [e]; exact hp))).trans (h.block i hi hn)⟩
theorem Touch.setRow {S : Nat → Prop} {w w' : World} (h : Touch S w w') {g : Nat} (hg : S g) (cs : Array Value) : Touch S w (w'.setRow g cs) :=
  ⟨h.os, h.tape, h.output, by rw [size_setRow]; exact h.size, fun i hi hn => (setRow_other w' g i cs (fun e => hn (by rw [e]; exact hg))).trans (h.block i hi hn)⟩
theorem Touch.own {S : Nat → Prop} {w w' : World} (h : Touch S w w') {base : Nat} {e : TypeId} {z n : Nat} {v : Value} {xs : List Value} (ho : w.ownsRow base e z v n xs) (d : ∀ g, v.ownBlock = some g → ¬ S g) : w'.ownsRow base e z v n xs := by
  refine ⟨ho.1, ?_⟩
  rcases ho.2 with hn | ⟨g, cap, cur, e1, e2, e3, rest⟩
  · exact .inl hn
  · exact .inr ⟨g, cap, cur, e1, e2, (h.block g (Array.getElem?_eq_some_iff.1 e3).1 (d g (by rw [e1]; rfl))).trans e3, rest⟩
theorem Touch.cell {S : Nat → Prop} {w w' : World} (h : Touch S w w') {p : Addr} {v : Value} (hc : w.cell? p = some v) (d : ¬ S p.block) : w'.cell? p = some v := by
  rw [World.cell?_of_block (h.block p.block (lt_of_cell? hc) d)]; exact hc
theorem Touch.ints {S : Nat → Prop} {w w' : World} (h : Touch S w w') {q : IntKind} {a : Option Addr} {n : Nat} {xs : List Int} (hi : Ints q w a n xs) (d : ∀ b o, a = some ⟨b, o, none⟩ → ¬ S b) : Ints q w' a n xs := by
  refine ⟨hi.1, fun hn => ?_⟩
  obtain ⟨b, off, e, hc⟩ := hi.2 hn
  exact ⟨b, off, e, fun j hj => h.cell (hc j hj) (d b off e)⟩
/-- A row's block. -/
theorem lt_of_heap {w : World} {g : Nat} {o : Obj} (h : w.heap[g]? = some o) : g < w.heap.size := (Array.getElem?_eq_some_iff.1 h).1
theorem getElem?_splice {α : Type} (L : List α) (off : Nat) (cs : List α) (h : off + cs.length ≤ L.length) (j : Nat) :
    (splice L off cs)[j]? = if off ≤ j ∧ j < off + cs.length then cs[j - off]? else L[j]? := by
  unfold splice
  by_cases h1 : j < off
  · rw [if_neg (by omega), List.getElem?_append_left (by simp; omega)]
    simp [h1]
  · rw [List.getElem?_append_right (by simp; omega)]
    have e : j - (L.take off).length = j - off := by simp; omega
    rw [e]
    by_cases h2 : j < off + cs.length
    · rw [if_pos (by omega), List.getElem?_append_left (by omega)]
    · rw [if_neg (by omega), List.getElem?_append_right (by omega), List.getElem?_drop]
      congr 1; omega
section
variable {P : Program}
theorem run_storeVar_seg (w : World) (g off : Nat) (t ty : TypeId) (old cells : Array Value) (hg : w.heap[g]? = some (.cells old t (0, 0))) (hi : (P.info? ty).map (·.size) = some cells.size)
    (ho : off + cells.size ≤ old.size) (h1 : cells.all (·.oneCell') = true) :
    (storeVar ty ⟨g, off, none⟩ (.agg cells)).run P w = .ok () (w.setRow g (splice old.toList off cells.toList).toArray) := by
  have := run_storeCells_at (P := P) g off t cells.toList 0 old w hg (by simpa using ho) (fun v hv => (Array.all_eq_true_iff_forall_mem.1 h1) v (by simpa using hv))
  cases hq : P.info? ty with
  | none => simp [hq] at hi
  | some i =>
    have hs : cells.size = i.size := by simp [hq] at hi; omega
    simp [storeVar, sizeOf, typeInfo, hq, Value.cells, hs, splice, this]
theorem wpList_store_seg {ops : Array Oper} {rest : List Oper} {o : Oper} {a : Act} {w : World} {Q : Exit → Act → World → Prop} (hgd : o.guard = none) (ty : TypeId) (x y : Operand) (ho : o.op = .store ty x y)
    (g off : Nat) (cells : Array Value) (hx : a.eval x = .pointer (some ⟨g, off, none⟩)) (hy : a.eval y = .agg cells)
    (t : TypeId) (old : List Value) (hg : w.heap[g]? = some (.cells old.toArray t (0, 0))) (hi : (P.info? ty).map (·.size) = some cells.size)
    (hold : off + cells.size ≤ old.length) (h1 : cells.all (·.oneCell') = true)
    (h : ∀ w', w'.heap[g]? = some (.cells (splice old off cells.toList).toArray t (0, 0)) → Touch (fun i => i = g) w w' → wpList P ops Q rest (a.put o.dst undef) w') : wpList P ops Q (o :: rest) a w :=
  wpList_plain hgd fun _ hK => by
    unfold Oper.wp execOp
    simp only [ho, hx, hy, Instr.storeAt, Instr.sureAddr, Sem.run_bind, Sem.run_pure, Result.andThen_ok, run_storeVar_seg w g off t ty old.toArray cells hg hi (by simpa using hold) h1]
    exact hK _ _ (h _ (by simpa using setRow_heap w g _ _ t _ hg) (Touch.setRow (S := fun i => i = g) (Touch.refl _ w) rfl _))
theorem wpList_copy_touch {w : World} {ops : Array Oper} {rest : List Oper} {o : Oper} {a : Act} {Q : Exit → Act → World → Prop} (hgd : o.guard = none) (d s : Operand) (dT sT : TypeId)
    (ho : o.op = .call { callee := .builtin .copy, args := #[d, s], argTypes := #[dT, sT] }) (elem : TypeId) (hu : P.underlying dT = some (.slice elem)) (hsz : (P.info? elem).map (·.size) = some 1)
    (dp sp : Option Addr) (dLen dCap sLen sCap : Nat) (hd : a.eval d = .slice dp dLen dCap) (hs : a.eval s = .slice sp sLen sCap)
    (g off : Nat) (cur : List Value) (t : TypeId) (hg : w.heap[g]? = some (.cells cur.toArray t (0, 0))) (cs : List Value) (hn : cs.length = Nat.min sLen dLen)
    (hpos : 0 < cs.length → dp = some ⟨g, off, none⟩ ∧ ∃ ad, sp = some ad ∧ ∀ j v, cs[j]? = some v → w.cell? (ad.add j) = some v)
    (hfit : off + cs.length ≤ cur.length) (h1 : ∀ v ∈ cs, v.oneCell' = true)
    (h : ∀ w', Hid (w'.heap[g]? = some (.cells (splice cur off cs).toArray t (0, 0))) → Touch (fun i => i = g) w w' → wpList P ops Q rest (a.put o.dst (goInt cs.length)) w') :
    wpList P ops Q (o :: rest) a w := by
  by_cases h0 : cs.length = 0
  · obtain rfl : cs = [] := List.eq_nil_of_length_eq_zero h0
    refine wpList_copy_nothing hgd d s dT sT ho elem hu hsz dp sp dLen dCap sLen sCap hd hs (by simpa using hn.symm) ?_
    exact h w (show _ = _ by simpa [splice] using hg) (Touch.refl _ _)
  · obtain ⟨rfl, ad, rfl, hsrc⟩ := hpos (by omega)
    refine wpList_copy_own hgd d s dT sT ho elem hu hsz g off dLen dCap ad sLen sCap hd hs cur.toArray t hg cs hn hsrc (by simpa using hfit) h1 ?_
    exact h _ (show _ = _ by simpa [splice] using setRow_heap w g _ _ t _ hg) (Touch.setRow (S := fun i => i = g) (Touch.refl _ w) rfl _)
end
end Go.Proofs.YtcmgkjjkhfcedaaGreat
/-
  Slices of whatever elements, each of z cells: what they read as; such a row with marked room behind it; cells set one behind the other.
-/
namespace Go.Proofs.YtcmgkjjkhfcedaaGreat
open Go.ChangeShapes Go.WideShapes Go.ChangeAt Go.RowKit
set_option linter.unusedVariables false
/-- A slice of n elements that reads as 'xs', nil let in. -/
def Reads {α : Type} (z : Nat) (vals : α → List Value) (w : World) (a : Option Addr) (n : Nat) (xs : List α) : Prop :=
  xs.length = n ∧ (0 < n → ∃ b off, a = some ⟨b, off, none⟩ ∧ ∀ (i : Nat) (x : α), xs[i]? = some x → ∀ (j : Nat) (u : Value), (vals x)[j]? = some u → w.cell? ⟨b, off + i * z + j, none⟩ = some u)
section
variable {α : Type} {z : Nat} {vals : α → List Value}
theorem Came.reads {fits : World → α → Prop} {w : World} {a : Option Addr} {n c : Nat} {xs : List α} (h : Came z vals fits w a n c xs) : Reads z vals w a n xs := by
  obtain ⟨h1, _, _, _, _, h2⟩ := h
  exact ⟨h1, fun hn => by obtain ⟨b, off, e, _, hc⟩ := h2 hn; exact ⟨b, off, e, hc⟩⟩
theorem Reads.below {w w' : World} {a : Option Addr} {n : Nat} {xs : List α} (h : Reads z vals w a n xs) (b : Below w.heap.size w w') : Reads z vals w' a n xs := by
  refine ⟨h.1, fun hn => ?_⟩
  obtain ⟨g, off, e, hc⟩ := h.2 hn
  exact ⟨g, off, e, fun i x hx j u hu => (b.cell (p := ⟨g, _, none⟩) (lt_of_cell? (hc i x hx j u hu))).trans (hc i x hx j u hu)⟩
theorem Reads.touch {S : Nat → Prop} {w w' : World} {a : Option Addr} {n : Nat} {xs : List α} (h : Reads z vals w a n xs) (t : Touch S w w') (d : ∀ b o, a = some ⟨b, o, none⟩ → ¬ S b) : Reads z vals w' a n xs := by
  refine ⟨h.1, fun hn => ?_⟩
  obtain ⟨g, off, e, hc⟩ := h.2 hn
  exact ⟨g, off, e, fun i x hx j u hu => t.cell (hc i x hx j u hu) (d g off e)⟩
theorem Reads.at_ {w : World} {a : Option Addr} {n : Nat} {xs : List α} (h : Reads z vals w a n xs) {i : Nat} (hi : i < n) : ∃ x b off, xs[i]? = some x ∧ a = some ⟨b, off, none⟩ ∧ ∀ (j : Nat) (u : Value), (vals x)[j]? = some u → w.cell? ⟨b, off + i * z + j, none⟩ = some u := by
  obtain ⟨b, off, e, hc⟩ := h.2 (by omega)
  have hx : xs[i]? = some (xs[i]'(by rw [h.1]; exact hi)) := List.getElem?_eq_getElem _
  exact ⟨_, b, off, hx, e, hc i _ hx⟩
theorem reads_nil {w : World} {a : Option Addr} : Reads z vals w a 0 [] := ⟨rfl, fun h => absurd h (by omega)⟩
theorem Reads.isNil {w : World} {a : Option Addr} {n : Nat} {xs : List α} (h : Reads z vals w a n xs) (e : a = none) : n = 0 := by
  rcases Nat.eq_zero_or_pos n with h0 | h0
  · exact h0
  · obtain ⟨b, off, e', _⟩ := h.2 h0; rw [e] at e'; cases e'
/-- A part of it. -/
theorem Reads.part {w : World} {b off n : Nat} {xs : List α} (h : Reads z vals w (some ⟨b, off, none⟩) n xs) (i k : Nat) (hk : i + k ≤ n) : Reads z vals w (some ⟨b, off + i * z, none⟩) k ((xs.drop i).take k) := by
  refine ⟨by rw [List.length_take, List.length_drop, h.1]; omega, fun hn => ⟨b, off + i * z, rfl, fun q x hx j u hu => ?_⟩⟩
  have hq : q < k := by
    have := (List.getElem?_eq_some_iff.1 hx).1
    rw [List.length_take] at this
    omega
  rw [List.getElem?_take_of_lt hq, List.getElem?_drop] at hx
  obtain ⟨b', off', e, hc⟩ := h.2 (by omega)
  injection e with e
  injection e with e1 e2
  subst e1 e2
  have := hc (i + q) x hx j u hu
  rwa [Nat.add_mul, ← Nat.add_assoc] at this
theorem Reads.front {w : World} {a : Option Addr} {n : Nat} {xs : List α} (h : Reads z vals w a n xs) {k : Nat} (hk : k ≤ n) : Reads z vals w a k (xs.take k) := by
  refine ⟨by rw [List.length_take, h.1]; omega, fun hn => ?_⟩
  obtain ⟨g, off, e, hc⟩ := h.2 (by omega)
  refine ⟨g, off, e, fun i x hx j u hu => hc i x ?_ j u hu⟩
  have hi : i < k := by
    have := (List.getElem?_eq_some_iff.1 hx).1
    rw [List.length_take] at this
    omega
  rwa [List.getElem?_take_of_lt hi] at hx
theorem flat_length (hv : ∀ x, (vals x).length = z) (l : List α) : (l.flatMap vals).length = l.length * z := by
  induction l with
  | nil => simp
  | cons x l ih => rw [List.flatMap_cons, List.length_append, ih, hv, List.length_cons, Nat.add_mul]; omega
theorem flat_at (hv : ∀ x, (vals x).length = z) {l : List α} {i j : Nat} {x : α} (h : l[i]? = some x) (hj : j < z) : (l.flatMap vals)[i * z + j]? = (vals x)[j]? := by
  induction l generalizing i with
  | nil => simp at h
  | cons y l ih =>
    rw [List.flatMap_cons]
    cases i with
    | zero =>
      simp at h
      subst h
      rw [Nat.zero_mul, Nat.zero_add, List.getElem?_append_left (by rw [hv]; exact hj)]
    | succ i =>
      rw [List.getElem?_append_right (by rw [hv, Nat.add_mul]; omega), hv]
      have : (i + 1) * z + j - z = i * z + j := by rw [Nat.add_mul]; omega
      rw [this]
      exact ih (by simpa using h)
theorem flat_cell (h1 : ∀ x, ∀ v ∈ vals x, v.oneCell' = true) (l : List α) : ∀ v ∈ l.flatMap vals, v.oneCell' = true := by
  intro v hv
  obtain ⟨x, _, h⟩ := List.mem_flatMap.mp hv
  exact h1 x v h
theorem Reads.cells (hv : ∀ x, (vals x).length = z) {w : World} {a : Option Addr} {n : Nat} {xs : List α} (h : Reads z vals w a n xs) : ∀ ad, a = some ad → ∀ j u, (xs.flatMap vals)[j]? = some u → w.cell? (ad.add j) = some u := by
  intro ad ha j u hu
  have hj : j < (xs.flatMap vals).length := (List.getElem?_eq_some_iff.mp hu).1
  rw [flat_length hv, h.1] at hj
  have hz : 0 < z := by
    rcases Nat.eq_zero_or_pos z with e | e
    · rw [e] at hj; omega
    · exact e
  have hi : j / z < n := Nat.div_lt_of_lt_mul (by rw [Nat.mul_comm]; exact hj)
  obtain ⟨x, b, off, hx, e, hc⟩ := h.at_ hi
  rw [ha] at e
  injection e with e
  subst e
  have hm : j % z < z := Nat.mod_lt _ hz
  have hd : j / z * z + j % z = j := by rw [Nat.mul_comm]; exact Nat.div_add_mod j z
  rw [← hd, flat_at hv hx hm] at hu
  have := hc _ _ hu
  rw [addr_add]
  rw [show off + j = off + j / z * z + j % z by omega]
  exact this
/-- An own row reads as what lies in it. -/
theorem own_reads (hv : ∀ x, (vals x).length = z) {w : World} {B n : Nat} {e : TypeId} {v : Value} {xs : List α} (hz : 0 < z) (h : w.ownsRow B e z v n (xs.flatMap vals)) : ∃ a c, v = .slice a n c ∧ Reads z vals w a n xs ∧ n ≤ c ∧ c ≤ maxLen ∧ (a = none → c = 0) := by
  have hl : xs.length = n := by
    have := h.1
    rw [flat_length hv] at this
    exact Nat.eq_of_mul_eq_mul_right hz this
  rcases h.2 with ⟨rfl, rfl⟩ | ⟨g, cap, cur, rfl, _, _, h1, h2, _⟩
  · obtain rfl : xs = [] := List.eq_nil_of_length_eq_zero hl
    exact ⟨none, 0, rfl, reads_nil, Nat.le_refl _, by unfold maxLen; omega, fun _ => rfl⟩
  · refine ⟨_, _, rfl, ⟨hl, fun hn => ⟨g, 0, rfl, fun i x hx j u hu => ?_⟩⟩, h1, h2, (fun e => by cases e)⟩
    have hi : i < n := by have := (List.getElem?_eq_some_iff.1 hx).1; omega
    have hj : j < z := by have := (List.getElem?_eq_some_iff.1 hu).1; rw [hv] at this; exact this
    have hlt : i * z + j < n * z := by
      have : (i + 1) * z ≤ n * z := Nat.mul_le_mul_right z hi
      rw [Nat.add_mul] at this; omega
    rw [Nat.zero_add]
    exact (h.cellAt (i * z + j) hlt).trans ((flat_at hv hx hj).trans hu)
/-- 'append' of a slice that may be nil onto a row of one's own. -/
theorem wpList_append_reads {P : Program} {ops : Array Oper} {rest : List Oper} {o : Oper} {a : Act} {w : World} {Q : Exit → Act → World → Prop} (hgd : o.guard = none) (s x : Operand) (ty : TypeId)
    (ho : o.op = .call { callee := .builtin .append, args := #[s, x], argTypes := #[ty, ty] }) (base : Nat) (e : TypeId) (i : TypeInfo) (zv : Value) (bytes : Nat) (ht : P.underlying ty = some (.slice e)) (hi : P.info? e = some i) (hz : i.zero = some zv)
    (hsize : i.size = z) (hby : i.bytes = bytes) (hzs : zv.cells.size = z) (hsz : 0 < z) (v : Value) (n : Nat) (xs : List Value) (hs : a.eval s = v) (hown : w.ownsRow base e z v n xs)
    (A : Option Addr) (m c : Nat) (ys : List α) (hx : a.eval x = .slice A m c) (hv : ∀ x, (vals x).length = z) (h1 : ∀ x, ∀ v ∈ vals x, v.oneCell' = true) (hr : Reads z vals w A m ys) (hnil : A = none → c = 0)
    (h63 : n + m ≤ maxLen) (hbytes : (n + m) * bytes ≤ 140737488355328) (hbase : base ≤ w.heap.size)
    (h : ∀ v' w', w'.ownsRow base e z v' (n + m) (xs ++ ys.flatMap vals) → w.grownBy w' v.ownBlock → wpList P ops Q rest (a.put o.dst v') w') : wpList P ops Q (o :: rest) a w := by
  cases A with
  | none =>
    obtain rfl := hr.isNil rfl
    obtain rfl : ys = [] := List.eq_nil_of_length_eq_zero hr.1
    obtain rfl := hnil rfl
    refine wpList_plain hgd fun K hK => ?_
    have hrun := run_append_owned_none (P := P) (w := w) base ty o.type e i z ht hi v n xs hown
    unfold Oper.wp execOp
    simp only [ho, resolve, invoke, builtin, Sem.run_bind, Sem.run_pure, Result.andThen_ok, List.map_toArray, List.map_cons, List.map_nil, hs, hx, hrun]
    exact hK _ _ (h v w (by simpa using hown) (World.grownBy.refl w _))
  | some ad => exact wpList_append_own_at w hgd s x ty ho base e i zv z bytes ht hi hz hsize hby hzs hsz v n xs hs hown ad m c (ys.flatMap vals) hx (by rw [flat_length hv, hr.1]) (hr.cells hv ad rfl) (flat_cell h1 ys) h63 hbytes hbase (fun v' w' h1 h2 _ _ => h v' w' h1 h2)
/-- A new block's cells. -/
theorem cells_new (w : World) (cs : List Value) (t : TypeId) (n : Nat) (hn : n = w.heap.size) : ∀ (j : Nat) (u : Value), cs[j]? = some u → (w.alloc (.cells cs.toArray t)).cell? ((⟨n, 0, none⟩ : Addr).add j) = some u := by
  intro j u hu
  subst hn
  rw [addr_add, Nat.zero_add, cell_of_row _ _ _ _ t (0, 0) (heap_alloc_new w _)]
  simpa using hu
/-- Cells set one behind the other. -/
def setSeg (w : World) (g m : Nat) : List Value → World
  | [] => w
  | v :: vs => setSeg (w.setCell ⟨g, m, none⟩ v) g (m + 1) vs
theorem setSeg_heap (vs : List Value) : ∀ (w : World) (g m : Nat) (cur : Array Value) (t : TypeId), w.heap[g]? = some (.cells cur t (0, 0)) → m + vs.length ≤ cur.size → ∃ cur', (setSeg w g m vs).heap[g]? = some (.cells cur' t (0, 0)) ∧ cur'.size = cur.size ∧ cur'.toList = splice cur.toList m vs := by
  induction vs with
  | nil => intro w g m cur t h hl; exact ⟨cur, h, rfl, by unfold splice; simp⟩
  | cons v vs ih =>
    intro w g m cur t h hl
    have h1 := heap_setCell_same w g m cur t v h
    obtain ⟨cur', h2, h3, h4⟩ := ih (w.setCell ⟨g, m, none⟩ v) g (m + 1) _ t h1 (by simp at hl ⊢; omega)
    refine ⟨cur', h2, by simpa using h3, ?_⟩
    rw [h4, Array.toList_setIfInBounds]
    simp at hl
    apply List.ext_getElem?
    intro j
    rw [getElem?_splice _ _ _ (by simp; omega), getElem?_splice _ _ _ (by simp; omega)]
    by_cases hj : j = m
    · subst hj
      rw [if_neg (by omega), if_pos (by simp), List.getElem?_set_self (by simp; omega)]
      simp
    · rw [List.getElem?_set_ne (by omega)]
      by_cases hj2 : m + 1 ≤ j ∧ j < m + 1 + vs.length
      · rw [if_pos hj2, if_pos (by simp; omega)]
        rw [show j - m = (j - (m + 1)) + 1 by omega, List.getElem?_cons_succ]
      · rw [if_neg hj2, if_neg (by simp; omega)]
theorem setSeg_touch {S : Nat → Prop} {w : World} {g : Nat} (hg : S g) (vs : List Value) : ∀ (w' : World) (m : Nat), Touch S w w' → Touch S w (setSeg w' g m vs) := by
  induction vs with
  | nil => intro w' m h; exact h
  | cons v vs ih => intro w' m h; exact ih _ _ (h.setCell (p := ⟨g, m, none⟩) hg v)
/-- Block g is a row: n elements, k marks, and what is left of three. -/
def RoomG (z : Nat) (vals : α → List Value) (mk : α) (t : TypeId) (w : World) (g n k : Nat) (ys : List α) : Prop :=
  ∃ cur : Array Value, w.heap[g]? = some (.cells cur t (0, 0)) ∧ cur.size = (n + 3) * z ∧ cur.toList.take ((n + k) * z) = (ys ++ List.replicate k mk).flatMap vals
variable {mk : α} {t : TypeId}
theorem RoomG.below {w w' : World} {g n k : Nat} {ys : List α} (h : RoomG z vals mk t w g n k ys) (b : Below w.heap.size w w') : RoomG z vals mk t w' g n k ys := by
  obtain ⟨cur, hh, r⟩ := h
  exact ⟨cur, (b.block g (lt_of_heap hh)).trans hh, r⟩
theorem RoomG.touch {S : Nat → Prop} {w w' : World} {g n k : Nat} {ys : List α} (h : RoomG z vals mk t w g n k ys) (b : Touch S w w') (d : ¬ S g) : RoomG z vals mk t w' g n k ys := by
  obtain ⟨cur, hh, r⟩ := h
  exact ⟨cur, (b.block g (lt_of_heap hh) d).trans hh, r⟩
theorem RoomG.spot {w : World} {g n k : Nat} {ys : List α} (h : RoomG z vals mk t w g n k ys) (hk : k < 3) : (∀ j, j < z → ∃ u, w.cell? ⟨g, (n + k) * z + j, none⟩ = some u) ∧ ∀ j, w.frozen? ⟨g, j, none⟩ = false := by
  obtain ⟨cur, hh, hs, ht⟩ := h
  refine ⟨fun j hj => ?_, fun j => frozen_of_row _ _ _ _ _ hh⟩
  have : (n + k) * z + j < cur.size := by
    have h1 : (n + k + 1) * z ≤ (n + 3) * z := Nat.mul_le_mul_right z (by omega)
    rw [Nat.add_mul (n + k)] at h1
    omega
  exact ⟨cur[(n + k) * z + j], by rw [cell_of_row _ _ _ _ _ _ hh]; exact Array.getElem?_eq_getElem this⟩
theorem RoomG.set {w : World} {g n k : Nat} {ys : List α} (h : RoomG z vals mk t w g n k ys) (hv : ∀ x, (vals x).length = z) (hk : k < 3) : RoomG z vals mk t (setSeg w g ((n + k) * z) (vals mk)) g n (k + 1) ys := by
  obtain ⟨cur, hh, hs, ht⟩ := h
  have h1 : (n + k) * z + z ≤ (n + 3) * z := by
    have h1 : (n + k + 1) * z ≤ (n + 3) * z := Nat.mul_le_mul_right z (by omega)
    rw [Nat.add_mul (n + k)] at h1
    omega
  obtain ⟨cur', h2, h3, h4⟩ := setSeg_heap (vals mk) w g ((n + k) * z) cur t hh (by rw [hv]; omega)
  refine ⟨cur', h2, by omega, ?_⟩
  rw [h4, List.replicate_succ', ← List.append_assoc, List.flatMap_append, ← ht]
  have e1 : (n + (k + 1)) * z = (n + k) * z + z := by rw [← Nat.add_assoc, Nat.add_mul (n + k)]; omega
  rw [e1]
  unfold splice
  have hl : (cur.toList.take ((n + k) * z)).length = (n + k) * z := by rw [List.length_take]; simp; omega
  have e2 : (List.take ((n + k) * z) cur.toList ++ (vals mk ++ List.drop ((n + k) * z + (vals mk).length) cur.toList)) = ((List.take ((n + k) * z) cur.toList ++ vals mk) ++ List.drop ((n + k) * z + (vals mk).length) cur.toList) := (List.append_assoc _ _ _).symm
  have e3 : (List.take ((n + k) * z) cur.toList ++ vals mk).length = (n + k) * z + z := by rw [List.length_append, hl, hv]
  first
  | rw [e2, ← e3, List.take_left]
  | rw [← e3, List.take_left]
  simp
theorem RoomG.at_ {w : World} {g n : Nat} {ys : List α} (h : RoomG z vals mk t w g n 3 ys) (hv : ∀ x, (vals x).length = z) {i : Nat} {x : α} (hx : (ys ++ List.replicate 3 mk)[i]? = some x) {j : Nat} {u : Value} (hu : (vals x)[j]? = some u) : w.cell? ⟨g, i * z + j, none⟩ = some u := by
  obtain ⟨cur, hh, hs, ht⟩ := h
  have h1 : cur.toList.take ((n + 3) * z) = cur.toList := List.take_of_length_le (by simp; omega)
  rw [h1] at ht
  have hj : j < z := by have := (List.getElem?_eq_some_iff.1 hu).1; rw [hv] at this; exact this
  rw [cell_of_row _ _ _ _ _ _ hh, ← Array.getElem?_toList, ht, flat_at hv hx hj, hu]
theorem RoomG.row {w : World} {g n : Nat} {ys : List α} (h : RoomG z vals mk t w g n 3 ys) (hv : ∀ x, (vals x).length = z) (hl : ys.length = n) : Reads z vals w (some ⟨g, 0, none⟩) n ys := by
  refine ⟨hl, fun hn => ⟨g, 0, rfl, fun i x hx j u hu => ?_⟩⟩
  rw [Nat.zero_add]
  exact h.at_ hv (by rw [List.getElem?_append_left (List.getElem?_eq_some_iff.1 hx).1]; exact hx) hu
theorem RoomG.mark {w : World} {g n : Nat} {ys : List α} (h : RoomG z vals mk t w g n 3 ys) (hv : ∀ x, (vals x).length = z) (hl : ys.length = n) {k : Nat} (hk : k < 3) {j : Nat} {u : Value} (hu : (vals mk)[j]? = some u) : w.cell? ⟨g, (n + k) * z + j, none⟩ = some u :=
  h.at_ hv (by rw [List.getElem?_append_right (by omega), List.getElem?_replicate, if_pos (by omega)]) hu
end
end Go.Proofs.YtcmgkjjkhfcedaaGreat
