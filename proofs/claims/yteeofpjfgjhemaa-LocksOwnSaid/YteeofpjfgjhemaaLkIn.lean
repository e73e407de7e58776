/-
  The program's locks within a statement: its blocks are all new; each call once more in these words.
-/
import Derived.Test.YteeofpjfgjhemaaLkBoth
namespace Go.Proofs.Yteeofpjfgjhemaa
open Go.ChangeShapes Go.WideShapes Go.ChangeAt Go.RowKit
set_option linter.unusedVariables false
theorem own_below {w w' : World} {B n z : Nat} {e : TypeId} {v : Value} {xs : List Value} (h : w.ownsRow B e z v n xs) (b : Below w.heap.size w w') : w'.ownsRow B e z v n xs := (Touch.of_below (S := fun _ => False) b).own h (fun _ _ e => e)
section
variable {PT : World → (Nat → Prop) → Nat → List Mu → Prop} {PK : World → (Nat → Prop) → (Nat → Prop) → Nat → Nat → Lks → Prop}
/-- Locks that were made since w0. -/
structure Lin (PK : World → (Nat → Prop) → (Nat → Prop) → Nat → Nat → Lks → Prop) (w0 w : World) (U Q : Nat → Prop) (T S : Nat) (s : Lks) : Prop where
  pk : PK w U Q T S s
  bel : Below w0.heap.size w0 w
  far : ∀ i, U i ∨ Q i → w0.heap.size ≤ i
theorem Lin.below (C : PLocks PT PK) {w0 w w' : World} {U Q : Nat → Prop} {T S : Nat} {s : Lks} (h : Lin PK w0 w U Q T S s) (b : Below w.heap.size w w') : Lin PK w0 w' U Q T S s :=
  ⟨C.below h.pk b, h.bel.trans (b.mono h.bel.size), h.far⟩
theorem Lin.step {w0 w w' : World} {U U' Q : Nat → Prop} {T S : Nat} {s s' : Lks} (h : Lin PK w0 w U Q T S s) (pk : PK w' U' Q T S s') (t : Touch U w w') (u : ∀ i, U' i → U i ∨ w.heap.size ≤ i) : Lin PK w0 w' U' Q T S s' := by
  refine ⟨pk, h.bel.trans (t.below h.bel.size (fun i hi => h.far i (.inl hi))), ?_⟩
  rintro i (hi | hi)
  · rcases u i hi with e | e
    · exact h.far i (.inl e)
    · have := h.bel.size; omega
  · exact h.far i (.inr hi)
theorem rank_lit (CT : PTable PT) (W : World) (ms : List Mu) (hg : goodMu ms = true) (hw : ∀ m ∈ ms, MuWf W m) (hl : ms.length ≤ 30) :
    Calls Try.prog 9 #[.slice (some ⟨W.heap.size, 0, none⟩) ms.length ms.length] (W.alloc (.cells (ms.flatMap muVals).toArray 49)) fun e w' => ∃ T Q, e = .returned (.tuple #[.pointer (some ⟨T, 0, none⟩), .int .i64 0]) ∧ PT w' Q T ms ∧ Below W.heap.size W w' ∧ ∀ i, Q i → W.heap.size ≤ i := by
  have b0 : Below W.heap.size W (W.alloc (.cells (ms.flatMap muVals).toArray 49)) := (Below.refl _ _).alloc (Nat.le_refl _) _
  refine (CT.newGood (W.alloc (.cells (ms.flatMap muVals).toArray 49)) _ _ _ ms ?_ hw (Nat.le_refl _) (by unfold maxLen; omega) (fun e => by cases e) hl hg).mono ?_
  · refine ⟨rfl, fun _ => ⟨_, 0, rfl, fun i x hx j u hu => ?_⟩⟩
    have h1 := flat_at (vals := muVals) muVals_len hx (show j < 2 from by have := (List.getElem?_eq_some_iff.1 hu).1; rw [muVals_len] at this; exact this)
    rw [hu] at h1
    have h2 := cells_new W (ms.flatMap muVals) 49 _ rfl _ u h1
    rw [addr_add, Nat.zero_add] at h2
    rw [Nat.zero_add]
    exact h2
  · rintro e w' ⟨T, Q, rfl, h1, h2, h3⟩
    exact ⟨T, Q, rfl, h1, b0.trans (h2.mono b0.size), fun i hi => Nat.le_trans b0.size (h3 i hi)⟩
theorem lin_new (C : PLocks PT PK) {w0 w : World} {Q : Nat → Prop} {T : Nat} {ms : List Mu} (h : PT w Q T ms) (b : Below w0.heap.size w0 w) (hq : ∀ i, Q i → w0.heap.size ≤ i) :
    Calls Try.prog 10 #[.pointer (some ⟨T, 0, none⟩)] w fun e w' => ∃ S U, e = .returned (.pointer (some ⟨S, 0, none⟩)) ∧ Lin PK w0 w' U Q T S ⟨ms, [], []⟩ := by
  refine (C.new h).mono ?_
  rintro e w' ⟨S, U, rfl, h1, h2, h3⟩
  refine ⟨S, U, rfl, h1, b.trans (h2.mono b.size), ?_⟩
  rintro i (hi | hi)
  · have := h3 i hi; have := b.size; omega
  · exact hq i hi
theorem Lin.lock (C : PLocks PT PK) {w0 w : World} {U Q : Nat → Prop} {T S : Nat} {s : Lks} (h : Lin PK w0 w U Q T S s) {t m : Int} (ht : (Lit.int .i64 t).wf = true) (hm : (Lit.int .i64 m).wf = true) (hs : t < 1000000) :
    Calls Try.prog 12 #[.pointer (some ⟨S, 0, none⟩), .int .i64 t, .int .i64 m] w fun e w' => ∃ U', e = .returned (.tuple #[.bool (lockB s t m), .int .i64 (lockE s t m)]) ∧ Lin PK w0 w' U' Q T S (lockS s t m) ∧ Touch U w w' ∧ ∀ i, U' i → U i ∨ w.heap.size ≤ i := by
  refine (C.lock h.pk ht hm hs).mono ?_
  rintro e w' ⟨rfl, U', h1, h2, h3⟩
  exact ⟨U', rfl, h.step h1 h2 h3, h2, h3⟩
theorem Lin.unlock (C : PLocks PT PK) {w0 w : World} {U Q : Nat → Prop} {T S : Nat} {s : Lks} (h : Lin PK w0 w U Q T S s) {t m : Int} (ht : (Lit.int .i64 t).wf = true) (hm : (Lit.int .i64 m).wf = true) :
    Calls Try.prog 13 #[.pointer (some ⟨S, 0, none⟩), .int .i64 t, .int .i64 m] w fun e w' => ∃ v R U', e = .returned (.tuple #[v, .int .i64 (unlockE s t m)]) ∧ WokenRow (unlockW s t m) U U' w w' v R ∧ Lin PK w0 w' U' Q T S (unlockS s t m) ∧ Touch U w w' ∧ ∀ i, U' i → U i ∨ w.heap.size ≤ i := by
  refine (C.unlock h.pk ht hm).mono ?_
  rintro e w' ⟨v, R, rfl, U', h0, h1, h2, h3⟩
  exact ⟨v, R, U', rfl, h0, h.step h1 h2 h3, h2, h3⟩
theorem Lin.leave (C : PLocks PT PK) {w0 w : World} {U Q : Nat → Prop} {T S : Nat} {s : Lks} (h : Lin PK w0 w U Q T S s) {t : Int} (ht : (Lit.int .i64 t).wf = true) :
    Calls Try.prog 14 #[.pointer (some ⟨S, 0, none⟩), .int .i64 t] w fun e w' => ∃ v R U', e = .returned v ∧ WokenRow (leaveW s t) U U' w w' v R ∧ Lin PK w0 w' U' Q T S (leaveS s t) ∧ Touch U w w' ∧ ∀ i, U' i → U i ∨ w.heap.size ≤ i := by
  refine (C.leave h.pk ht).mono ?_
  rintro e w' ⟨v, R, rfl, U', h0, h1, h2, h3⟩
  exact ⟨v, R, U', rfl, h0, h.step h1 h2 h3, h2, h3⟩
theorem Lin.run (C : PLocks PT PK) {w0 w : World} {U Q : Nat → Prop} {T S : Nat} {s : Lks} (h : Lin PK w0 w U Q T S s) {t n : Int} (ht : (Lit.int .i64 t).wf = true) (hn : (Lit.int .i64 n).wf = true) :
    Calls Try.prog 21 #[.pointer (some ⟨S, 0, none⟩), .int .i64 t, .int .i64 n] w fun e w' => ∃ U', e = .returned (.tuple #[]) ∧ Lin PK w0 w' U' Q T S (runS s t n) ∧ Touch U w w' ∧ ∀ i, U' i → U i ∨ w.heap.size ≤ i := by
  refine (C.run h.pk ht hn).mono ?_
  rintro e w' ⟨rfl, U', h1, h2, h3⟩
  exact ⟨U', rfl, h.step h1 h2 h3, h2, h3⟩
/-- A row that is nobody's, beside the locks. -/
def RowBy (U Q : Nat → Prop) (w : World) (v : Value) : Prop := ∀ i, v.ownBlock = some i → i < w.heap.size ∧ ¬ U i ∧ ¬ Q i
theorem RowBy.next {U U' Q : Nat → Prop} {w w' : World} {v : Value} (h : RowBy U Q w v) (t : Touch U w w') (u : ∀ i, U' i → U i ∨ w.heap.size ≤ i) : RowBy U' Q w' v := by
  intro i hi
  obtain ⟨h1, h2, h3⟩ := h i hi
  have := t.size
  refine ⟨by omega, fun e => ?_, h3⟩
  rcases u i e with e | e
  · exact h2 e
  · omega
theorem RowBy.own {U Q : Nat → Prop} {w w' : World} {v : Value} {B n z : Nat} {e : TypeId} {xs : List Value} (h : RowBy U Q w v) (o : w.ownsRow B e z v n xs) (t : Touch U w w') : w'.ownsRow B e z v n xs :=
  t.own o fun i hi => (h i hi).2.1
theorem WokenRow.by_ (C : PLocks PT PK) {W : Int → Prop} {U U' Q : Nat → Prop} {w w' : World} {T S : Nat} {s : Lks} {v : Value} {R : List Int} (h : WokenRow W U U' w w' v R) (pk : PK w U Q T S s) : RowBy U' Q w' v := by
  intro i hi
  obtain ⟨h1, h2⟩ := h.2.2.2 i hi
  refine ⟨?_, h1, fun hq => ?_⟩
  · have o := h.2.2.1
    rcases o.2 with ⟨e, _⟩ | ⟨g, cap, cur, e, _, hg, _⟩
    · rw [e] at hi; cases hi
    · rw [e] at hi
      injection hi with hi
      subst hi
      exact lt_of_heap hg
  · rcases h2 with h2 | h2
    · exact C.dis pk i h2 hq
    · have := C.lt pk i (.inr hq); omega
end
end Go.Proofs.Yteeofpjfgjhemaa
