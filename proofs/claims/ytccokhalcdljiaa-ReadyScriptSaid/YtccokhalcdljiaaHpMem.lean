/-
  Words for memory: the heap's block, its row of items, its map of places; what turns and what stays.
-/
import Derived.Test.YtccokhalcdljiaaHpPlain
import Derived.Test.YtccokhalcdljiaaTouch
import Derived.Maps.OwnSet
import Derived.Laws.OwnMore
import Derived.Deep.AppendLies
import Derived.Deep.Draws
namespace Go.Proofs.Ytccokhalcdljiaa.Hp
open Go.ChangeShapes Go.WideShapes Go.ChangeAt Go.RowKit Go.Maps
set_option linter.unusedVariables false
/-- An item's cells. -/
def cellsIt (l : List (Int × Int)) : List Value := l.flatMap fun x => [.int .i64 x.1, .int .i64 x.2]
theorem cellsIt_length (l : List (Int × Int)) : (cellsIt l).length = l.length * 2 := by
  induction l with
  | nil => rfl
  | cons x l ih => unfold cellsIt at *; simp only [List.flatMap_cons, List.length_append, List.length_cons, List.length_nil, ih]; omega
theorem cellsIt_append (a b : List (Int × Int)) : cellsIt (a ++ b) = cellsIt a ++ cellsIt b := by unfold cellsIt; simp
theorem cellsIt_id (l : List (Int × Int)) (k : Nat) (h : k < l.length) : (cellsIt l)[k * 2]? = some (.int .i64 (it l k).1) := by
  induction l generalizing k with
  | nil => simp at h
  | cons x l ih =>
    cases k with
    | zero => rfl
    | succ k =>
      have := ih k (by simpa using h)
      rw [show (k + 1) * 2 = k * 2 + 1 + 1 by omega]
      exact this
theorem cellsIt_key (l : List (Int × Int)) (k : Nat) (h : k < l.length) : (cellsIt l)[k * 2 + 1]? = some (.int .i64 (it l k).2) := by
  induction l generalizing k with
  | nil => simp at h
  | cons x l ih =>
    cases k with
    | zero => rfl
    | succ k =>
      have := ih k (by simpa using h)
      rw [show (k + 1) * 2 + 1 = k * 2 + 1 + 1 + 1 by omega]
      exact this
theorem cellsIt_set (l : List (Int × Int)) (k : Nat) (x : Int × Int) (h : k < l.length) : ((cellsIt l).set (k * 2) (.int .i64 x.1)).set (k * 2 + 1) (.int .i64 x.2) = cellsIt (l.set k x) := by
  induction l generalizing k with
  | nil => simp at h
  | cons y l ih =>
    cases k with
    | zero => rfl
    | succ k =>
      have := ih k (by simpa using h)
      rw [show (k + 1) * 2 = k * 2 + 1 + 1 by omega]
      exact congrArg (fun t => Value.int .i64 y.1 :: Value.int .i64 y.2 :: t) this
theorem cellsIt_setKey (l : List (Int × Int)) (k : Nat) (key : Int) (h : k < l.length) : (cellsIt l).set (k * 2 + 1) (.int .i64 key) = cellsIt (l.set k ((it l k).1, key)) := by
  rw [← cellsIt_set l k _ h]
  have hk : k * 2 < (cellsIt l).length := by rw [cellsIt_length]; omega
  have e := cellsIt_id l k h
  rw [List.getElem?_eq_getElem hk] at e
  injection e with e
  have e2 : (cellsIt l).set (k * 2) (.int .i64 (it l k).1) = cellsIt l := by rw [← e]; exact List.set_getElem_self hk
  exact congrArg (fun t => t.set (k * 2 + 1) (Value.int .i64 key)) e2.symm
theorem cellsIt_dropLast (l : List (Int × Int)) : (cellsIt l).take ((l.length - 1) * 2) = cellsIt l.dropLast := by
  rcases List.eq_nil_or_concat l with rfl | ⟨a, x, rfl⟩
  · rfl
  · rw [List.concat_eq_append, List.dropLast_concat, cellsIt_append]
    rw [List.take_append_of_le_length (by rw [cellsIt_length]; simp)]
    rw [List.take_of_length_le (by rw [cellsIt_length]; simp)]
/-! The map of places. -/
theorem keyLaw : Keyed Try.prog 3 := int_keyed Try.underlying3
theorem zeroInt (w : World) : (zeroValue 3).run Try.prog w = .ok (.int .i64 0) w := by kernel_rfl
def Places (w : World) (M n : Nat) (f : Int → Option Nat) : Prop :=
  ∃ D : DataW Unit, w.ownsMap Try.prog 3 (plainElem Try.prog 3) M n D ∧ Maps.size D = n ∧
    ∀ k, (Lit.int .i64 k).wf = true → Maps.has D (.int .i64 k) = (f k).isSome ∧ ∀ v, f k = some v → D.atKey (.int .i64 k) (.lit (.int .i64 0)) = .lit (.int .i64 v)
theorem Places.lt {w : World} {M n : Nat} {f : Int → Option Nat} (h : Places w M n f) : M < w.heap.size := by obtain ⟨D, hD, _⟩ := h; exact hD.lt
theorem Places.made (w : World) : Places (w.alloc (.map #[] 0)) w.heap.size 0 (fun _ => none) :=
  ⟨.map [], World.ownsMap_made _ _ _ _, rfl, fun k _ => ⟨rfl, fun v h => by cases h⟩⟩
theorem Places.keep {w w' : World} {M n : Nat} {f : Int → Option Nat} (h : Places w M n f) (e : w'.heap[M]? = w.heap[M]?) : Places w' M n f := by
  obtain ⟨D, ⟨es, clock, hb, r⟩, rest⟩ := h
  exact ⟨D, ⟨es, clock, e.trans hb, r⟩, rest⟩
theorem Places.store {w : World} {M n : Nat} {f : Int → Option Nat} (h : Places w M n f) (hn : n < 1000000) (k : Int) (hk : (Lit.int .i64 k).wf = true) (v : Nat) (hv : v < 1000000) :
    ∃ w', (Instr.mapUpdate 85 (.map (some M)) (.int .i64 k) (.int .i64 v)).run Try.prog w = .ok () w' ∧ Places w' M (if (f k).isSome then n else n + 1) (upd f k v) ∧ w.grownBy w' (some M) := by
  obtain ⟨D, hD, hs, hf⟩ := h
  have hw : (Lit.int .i64 (v : Int)).wf = true := by simp [Lit.wf, IntKind.min, IntKind.max, IntKind.bits, IntKind.signed]; omega
  have hkey : keyOf Try.prog 3 (.int .i64 k) = some (.int .i64 k) := keyOf_int_mk Try.underlying3 hk
  have hI : WideAt.IsKeyLit (Lit.int .i64 k) := trivial
  obtain ⟨w', hrun, ho, hg⟩ := hD.update keyLaw Try.underlying85 (by unfold maxLen; omega) hkey (plainElem_int Try.underlying3 hw)
  have hT := hD.tidy keyLaw
  have hS : Maps.size (D.put (.int .i64 k) (.lit (.int .i64 v))) = if (f k).isSome then n else n + 1 := by
    rw [size_put hT, (hf k hk).1, hs]
  refine ⟨w', hrun, ⟨_, ?_, hS, fun x hx => ?_⟩, hg⟩
  · have hz := ho.size_le
    rw [← hS]
    obtain ⟨es, clock, hb, F, hle, hd⟩ := ho
    refine ⟨es, clock, hb, F, ?_, hd⟩
    rw [hd]
    simp [Maps.size, length_sorted]
  · unfold upd
    by_cases e : x = k
    · subst e
      rw [has_put_same hD.isMap hI, if_pos rfl]
      refine ⟨rfl, fun u hu => ?_⟩
      rw [← Option.some.inj hu]
      exact atKey_put_same hD.isMap hI _ _
    · have hne : (Lit.int .i64 x) ≠ (Lit.int .i64 k) := fun e' => by injection e' with _ e'; exact e e'
      rw [has_put_other hne, if_neg e]
      refine ⟨(hf x hx).1, fun u hu => ?_⟩
      rw [atKey_put_other hne]
      exact (hf x hx).2 u hu
theorem Places.drop {w : World} {M n : Nat} {f : Int → Option Nat} (h : Places w M n f) (k : Int) (hk : (Lit.int .i64 k).wf = true) (hf1 : (f k).isSome = true) (ty : TypeId) :
    ∃ w', (Builtin.delete_ #[85, 3] ty #[.map (some M), .int .i64 k]).run Try.prog w = .ok (.tuple #[]) w' ∧ Places w' M (n - 1) (del f k) ∧ w.grownBy w' (some M) := by
  obtain ⟨D, hD, hs, hf⟩ := h
  have hkey : keyOf Try.prog 3 (.int .i64 k) = some (.int .i64 k) := keyOf_int_mk Try.underlying3 hk
  obtain ⟨w', hrun, ho, hg⟩ := hD.drop keyLaw Try.underlying85 hkey ty
  have hT := hD.tidy keyLaw
  have hS : Maps.size (D.del (.int .i64 k)) = n - 1 := by
    have := size_del (k := .int .i64 k) hT
    rw [(hf k hk).1, hf1, hs] at this
    simp at this
    omega
  refine ⟨w', hrun, ⟨_, ?_, hS, fun x hx => ?_⟩, hg.grown⟩
  · rw [← hS]
    obtain ⟨es, clock, hb, F, hle, hd⟩ := ho
    refine ⟨es, clock, hb, F, ?_, hd⟩
    rw [hd]
    simp [Maps.size, length_sorted]
  · unfold del
    by_cases e : x = k
    · subst e
      rw [has_del_same, if_pos rfl]
      exact ⟨rfl, fun u hu => by cases hu⟩
    · have hne : (Lit.int .i64 x) ≠ (Lit.int .i64 k) := fun e' => by injection e' with _ e'; exact e e'
      rw [has_del_other hne, if_neg e]
      refine ⟨(hf x hx).1, fun u hu => ?_⟩
      rw [atKey_del_other hne]
      exact (hf x hx).2 u hu
theorem Places.look {w : World} {M n : Nat} {f : Int → Option Nat} (h : Places w M n f) (k : Int) (hk : (Lit.int .i64 k).wf = true) :
    (Instr.lookup 85 (.map (some M)) (.int .i64 k) true).run Try.prog w = .ok (.tuple #[.int .i64 (((f k).getD 0 : Nat) : Int), .bool (f k).isSome]) w := by
  obtain ⟨D, hD, hs, hf⟩ := h
  have hkey : keyOf Try.prog 3 (.int .i64 k) = some (.int .i64 k) := keyOf_int_mk Try.underlying3 hk
  have hw0 : (Lit.int .i64 0).wf = true := by decide
  obtain ⟨v, ps, hrun, hv⟩ := hD.look_ok keyLaw Try.underlying85 (zeroInt w) (plainElem_int Try.underlying3 hw0) hkey
  obtain ⟨c, rfl, hc, _⟩ := plainElem_int_inv Try.underlying3 hv
  simp only [Prod.mk.injEq] at hc
  rw [hrun, (hf k hk).1]
  cases e : f k with
  | none =>
    have hh : Maps.has D (.int .i64 k) = false := by rw [(hf k hk).1, e]; rfl
    rw [atKey_of_not_has hh] at hc
    have hc0 : (DataW.lit (.int .i64 0) : DataW Unit) = .lit (.int .i64 c) := hc.1
    simp only [DataW.lit.injEq, Lit.int.injEq, true_and] at hc0
    rw [← hc0]; rfl
  | some u =>
    have := (hf k hk).2 u e
    rw [hc.1] at this
    simp only [DataW.lit.injEq, Lit.int.injEq, true_and] at this
    rw [this]; rfl
/-! The heap. -/
def Wf (l : List (Int × Int)) : Prop := ∀ x ∈ l, (Lit.int .i64 x.1).wf = true
theorem Wf.at_ {l : List (Int × Int)} (h : Wf l) {k : Nat} (hk : k < l.length) : (Lit.int .i64 (it l k).1).wf = true := h _ (by rw [it_get hk]; exact List.getElem_mem hk)
/-- What lies at the heap's pointer: its row, its map. -/
def Parts (w : World) (H : Nat) (v : Value) (M : Nat) (l : List (Int × Int)) (f : Int → Option Nat) : Prop :=
  w.heap[H]? = some (.cells #[v, .map (some M)] 90 (0, 0)) ∧ w.ownsRow 0 113 2 v l.length (cellsIt l) ∧ Places w M l.length f
/-- The heap at block H holds l, in blocks of F. -/
def Q (w : World) (F : Nat → Prop) (H : Nat) (l : List (Int × Int)) : Prop :=
  ∃ v M f, Parts w H v M l f ∧ Synced f l ∧ Wf l ∧ F H ∧ F M ∧ (∀ g, v.ownBlock = some g → F g) ∧ ∀ i, F i → i < w.heap.size
theorem Parts.keep {w w' : World} {H : Nat} {v : Value} {M : Nat} {l : List (Int × Int)} {f : Int → Option Nat} (h : Parts w H v M l f) (eH : w'.heap[H]? = w.heap[H]?) (eM : w'.heap[M]? = w.heap[M]?) (eg : ∀ g, v.ownBlock = some g → w'.heap[g]? = w.heap[g]?) : Parts w' H v M l f := by
  obtain ⟨h1, h2, h3⟩ := h
  refine ⟨eH.trans h1, ⟨h2.1, ?_⟩, h3.keep eM⟩
  rcases h2.2 with hn | ⟨g, cap, cur, e1, e2, e3, rest⟩
  · exact .inl hn
  · exact .inr ⟨g, cap, cur, e1, e2, (eg g (by rw [e1]; rfl)).trans e3, rest⟩
theorem Q.keep {S F : Nat → Prop} {w w' : World} {H : Nat} {l : List (Int × Int)} (h : Q w F H l) (t : Touch S w w') (d : ∀ i, F i → ¬ S i) : Q w' F H l := by
  obtain ⟨v, M, f, hp, hs, hw, fH, fM, fg, fl⟩ := h
  have e : ∀ i, F i → w'.heap[i]? = w.heap[i]? := fun i hi => t.block i (fl i hi) (d i hi)
  exact ⟨v, M, f, hp.keep (e H fH) (e M fM) (fun g hg => e g (fg g hg)), hs, hw, fH, fM, fg, fun i hi => Nat.lt_of_lt_of_le (fl i hi) t.size⟩
theorem Q.below {F : Nat → Prop} {w w' : World} {H : Nat} {l : List (Int × Int)} (h : Q w F H l) (hb : Below w.heap.size w w') : Q w' F H l :=
  h.keep (S := fun _ => False) (Touch.of_below hb) (fun _ _ e => e)
theorem Q.drewN {F : Nat → Prop} {w : World} {H : Nat} {l : List (Int × Int)} (h : Q w F H l) (n : Nat) : Q (w.drewN n) F H l := h
end Go.Proofs.Ytccokhalcdljiaa.Hp
