/-
  Objects in memory by the blocks that are theirs, for whatever package: one alone, two beside one another; what a call does to one of them leaves the other, and the blocks that are neither's.
-/
import Derived.Test.YtipepklobpnbpaaTouch
namespace Go.Proofs.Ytipepklobpnbpaa
open Go.ChangeShapes Go.WideShapes Go.ChangeAt Go.RowKit
set_option linter.unusedVariables false
/-- What an object at S with the blocks U is. -/
abbrev Rel (σ : Type) := World → (Nat → Prop) → Nat → σ → Prop
/-- It stays while its blocks do. -/
structure Keeps {σ : Type} (P : Rel σ) : Prop where
  keep : ∀ {V U : Nat → Prop} {w w' : World} {S : Nat} {s : σ}, P w U S s → Touch V w w' → (∀ i, U i → ¬ V i) → P w' U S s
  lt : ∀ {U : Nat → Prop} {w : World} {S : Nat} {s : σ}, P w U S s → ∀ i, U i → i < w.heap.size
theorem Keeps.below {σ : Type} {P : Rel σ} (C : Keeps P) {U : Nat → Prop} {w w' : World} {S : Nat} {s : σ} (h : P w U S s) (b : Below w.heap.size w w') : P w' U S s :=
  C.keep h (Touch.of_below (S := fun _ => False) b) (fun _ _ e => e)
/-- A call that changes: what it answers, what is then. -/
def SideO (P : World → (Nat → Prop) → Prop) (U : Nat → Prop) (w : World) (v : Value) (e : Ending) (w' : World) : Prop :=
  e = .returned v ∧ ∃ U', P w' U' ∧ Touch U w w' ∧ ∀ i, U' i → U i ∨ w.heap.size ≤ i
theorem SideO.of_below {P : World → (Nat → Prop) → Prop} {U : Nat → Prop} {w w' : World} {v : Value} (p : P w' U) (b : Below w.heap.size w w') : SideO P U w v (.returned v) w' := ⟨rfl, U, p, Touch.of_below b, fun i hi => .inl hi⟩
theorem SideO.later {P : World → (Nat → Prop) → Prop} {U : Nat → Prop} {w w1 w' : World} {v : Value} {e : Ending} (b : Below w.heap.size w w1) (h : SideO P U w1 v e w') : SideO P U w v e w' := by
  obtain ⟨rfl, U', p, t, u⟩ := h
  exact ⟨rfl, U', p, (Touch.of_below b).trans t (fun i hi => .inl hi), fun i hi => (u i hi).imp id fun e => by have := b.size; omega⟩
def Stay (X : List Nat) (w w' : World) : Prop := ∀ g ∈ X, w'.heap[g]? = w.heap[g]?
/-- A row that is neither's, and no block of X. -/
def FreeO (w wr : World) (U D : Nat → Prop) (X : List Nat) (v : Value) : Prop := ∀ i, v.ownBlock = some i → ¬ U i ∧ ¬ D i ∧ i ∉ X ∧ w.heap.size ≤ i ∧ i < wr.heap.size
/-- One object, made since w. -/
structure OneO {σ : Type} (P : Rel σ) (w wr : World) (U : Nat → Prop) (X : List Nat) (S : Nat) (s : σ) : Prop where
  ps : P wr U S s
  bel : Below w.heap.size w wr
  lo : ∀ i, U i → w.heap.size ≤ i
  xs : ∀ g ∈ X, g < wr.heap.size ∧ ¬ U g
/-- Two objects beside one another. -/
structure TwoO {σ τ : Type} (P : Rel σ) (Q : Rel τ) (w wr : World) (U D : Nat → Prop) (X : List Nat) (S R : Nat) (s : σ) (t : τ) : Prop where
  ps : P wr U S s
  ds : Q wr D R t
  bel : Below w.heap.size w wr
  dis : ∀ i, U i → ¬ D i
  lo : ∀ i, U i → w.heap.size ≤ i
  lo2 : ∀ i, D i → w.heap.size ≤ i
  xs : ∀ g ∈ X, g < wr.heap.size ∧ ¬ U g ∧ ¬ D g
section
variable {σ τ : Type} {P : Rel σ} {Q : Rel τ}
theorem OneO.first {w w1 : World} {S : Nat} {U : Nat → Prop} {s : σ} (p1 : P w1 U S s) (b1 : Below w.heap.size w w1) (l1 : ∀ i, U i → w.heap.size ≤ i) : OneO P w w1 U [] S s :=
  ⟨p1, b1, l1, fun g hg => absurd hg List.not_mem_nil⟩
theorem OneO.move {w wr w' : World} {U U' : Nat → Prop} {X : List Nat} {S : Nat} {s s' : σ} (h : OneO P w wr U X S s) (p : P w' U' S s') (u : Touch U wr w') (hU : ∀ i, U' i → U i ∨ wr.heap.size ≤ i) : OneO P w w' U' X S s' ∧ Stay X wr w' := by
  refine ⟨⟨p, h.bel.trans (u.below h.bel.size h.lo), fun i hi => ?_, fun g hg => ⟨Nat.lt_of_lt_of_le (h.xs g hg).1 u.size, fun e => ?_⟩⟩, fun g hg => u.block g (h.xs g hg).1 (h.xs g hg).2⟩
  · rcases hU i hi with e | e
    · exact h.lo i e
    · have := h.bel.size; omega
  · rcases hU g e with e2 | e2
    · exact (h.xs g hg).2 e2
    · have := (h.xs g hg).1; omega
theorem OneO.side {w wr w' : World} {U : Nat → Prop} {X : List Nat} {S : Nat} {s s' : σ} (h : OneO P w wr U X S s) {x : Value} {e : Ending} (hs : SideO (fun w' U' => P w' U' S s') U wr x e w') : e = .returned x ∧ ∃ U', OneO P w w' U' X S s' ∧ Stay X wr w' := by
  obtain ⟨rfl, U', p, u, hU⟩ := hs
  exact ⟨rfl, U', h.move p u hU⟩
theorem OneO.below (C : Keeps P) {w wr w' : World} {U : Nat → Prop} {X : List Nat} {S : Nat} {s : σ} (h : OneO P w wr U X S s) (b : Below wr.heap.size wr w') : OneO P w w' U X S s ∧ Stay X wr w' :=
  ⟨⟨C.below h.ps b, h.bel.trans (b.mono h.bel.size), h.lo, fun g hg => ⟨Nat.lt_of_lt_of_le (h.xs g hg).1 b.size, (h.xs g hg).2⟩⟩, fun g hg => b.block g (h.xs g hg).1⟩
theorem OneO.alloc (C : Keeps P) {w wr : World} {U : Nat → Prop} {X : List Nat} {S : Nat} {s : σ} (h : OneO P w wr U X S s) (o : Obj) : OneO P w (wr.alloc o) U (wr.heap.size :: X) S s ∧ Stay X wr (wr.alloc o) := by
  obtain ⟨h2, h3⟩ := h.below C ((Below.refl wr.heap.size wr).alloc (Nat.le_refl _) o)
  refine ⟨⟨h2.ps, h2.bel, h2.lo, fun g hg => ?_⟩, h3⟩
  rcases List.mem_cons.mp hg with rfl | e
  · exact ⟨by simp, fun e => by have := C.lt h.ps _ e; omega⟩
  · exact h2.xs g e
theorem OneO.touch (C : Keeps P) {w wr w' : World} {U V : Nat → Prop} {X : List Nat} {S : Nat} {s : σ} (h : OneO P w wr U X S s) (u : Touch V wr w') (hV : ∀ i, V i → ¬ U i ∧ w.heap.size ≤ i) : OneO P w w' U X S s :=
  ⟨C.keep h.ps u (fun i hi e => (hV i e).1 hi), h.bel.trans (u.below h.bel.size (fun i e => (hV i e).2)), h.lo, fun g hg => ⟨Nat.lt_of_lt_of_le (h.xs g hg).1 u.size, (h.xs g hg).2⟩⟩
theorem OneO.fewer {w wr : World} {U : Nat → Prop} {X X' : List Nat} {S : Nat} {s : σ} (h : OneO P w wr U X S s) (hs : ∀ g ∈ X', g ∈ X) : OneO P w wr U X' S s := ⟨h.ps, h.bel, h.lo, fun g hg => h.xs g (hs g hg)⟩
theorem TwoO.moveL (C : Keeps P) (D2 : Keeps Q) {w wr w' : World} {U U' D : Nat → Prop} {X : List Nat} {S R : Nat} {s s' : σ} {t : τ} (h : TwoO P Q w wr U D X S R s t) (p : P w' U' S s') (u : Touch U wr w') (hU : ∀ i, U' i → U i ∨ wr.heap.size ≤ i) : TwoO P Q w w' U' D X S R s' t ∧ Stay X wr w' := by
  have old : ∀ i, i < wr.heap.size → ¬ U i → ¬ U' i := fun i hi hn e => (hU i e).elim hn (fun e => by omega)
  refine ⟨⟨p, D2.keep h.ds u (fun i hi e => h.dis i e hi), h.bel.trans (u.below h.bel.size h.lo), fun i hi hd => ?_, fun i hi => ?_, h.lo2, fun g hg => ⟨Nat.lt_of_lt_of_le (h.xs g hg).1 u.size, old g (h.xs g hg).1 (h.xs g hg).2.1, (h.xs g hg).2.2⟩⟩, fun g hg => u.block g (h.xs g hg).1 (h.xs g hg).2.1⟩
  · exact old i (D2.lt h.ds i hd) (fun e => h.dis i e hd) hi
  · rcases hU i hi with e | e
    · exact h.lo i e
    · have := h.bel.size; omega
theorem TwoO.moveR (C : Keeps P) (D2 : Keeps Q) {w wr w' : World} {U D D' : Nat → Prop} {X : List Nat} {S R : Nat} {s : σ} {t t' : τ} (h : TwoO P Q w wr U D X S R s t) (p : Q w' D' R t') (u : Touch D wr w') (hU : ∀ i, D' i → D i ∨ wr.heap.size ≤ i) : TwoO P Q w w' U D' X S R s t' ∧ Stay X wr w' := by
  have old : ∀ i, i < wr.heap.size → ¬ D i → ¬ D' i := fun i hi hn e => (hU i e).elim hn (fun e => by omega)
  refine ⟨⟨C.keep h.ps u (fun i hi e => h.dis i hi e), p, h.bel.trans (u.below h.bel.size h.lo2), fun i hi hd => ?_, h.lo, fun i hi => ?_, fun g hg => ⟨Nat.lt_of_lt_of_le (h.xs g hg).1 u.size, (h.xs g hg).2.1, old g (h.xs g hg).1 (h.xs g hg).2.2⟩⟩, fun g hg => u.block g (h.xs g hg).1 (h.xs g hg).2.2⟩
  · exact old i (C.lt h.ps i hi) (fun e => h.dis i hi e) hd
  · rcases hU i hi with e | e
    · exact h.lo2 i e
    · have := h.bel.size; omega
theorem TwoO.left (C : Keeps P) (D2 : Keeps Q) {w wr w' : World} {U D : Nat → Prop} {X : List Nat} {S R : Nat} {s s' : σ} {t : τ} (h : TwoO P Q w wr U D X S R s t) {x : Value} {e : Ending} (hs : SideO (fun w' U' => P w' U' S s') U wr x e w') : e = .returned x ∧ ∃ U', TwoO P Q w w' U' D X S R s' t ∧ Stay X wr w' := by
  obtain ⟨rfl, U', p, u, hU⟩ := hs
  exact ⟨rfl, U', h.moveL C D2 p u hU⟩
theorem TwoO.right (C : Keeps P) (D2 : Keeps Q) {w wr w' : World} {U D : Nat → Prop} {X : List Nat} {S R : Nat} {s : σ} {t t' : τ} (h : TwoO P Q w wr U D X S R s t) {x : Value} {e : Ending} (hs : SideO (fun w' D' => Q w' D' R t') D wr x e w') : e = .returned x ∧ ∃ D', TwoO P Q w w' U D' X S R s t' ∧ Stay X wr w' := by
  obtain ⟨rfl, D', p, u, hU⟩ := hs
  exact ⟨rfl, D', h.moveR C D2 p u hU⟩
theorem TwoO.below (C : Keeps P) (D2 : Keeps Q) {w wr w' : World} {U D : Nat → Prop} {X : List Nat} {S R : Nat} {s : σ} {t : τ} (h : TwoO P Q w wr U D X S R s t) (u : Below wr.heap.size wr w') : TwoO P Q w w' U D X S R s t ∧ Stay X wr w' :=
  ⟨⟨C.below h.ps u, D2.below h.ds u, h.bel.trans (u.mono h.bel.size), h.dis, h.lo, h.lo2, fun g hg => ⟨Nat.lt_of_lt_of_le (h.xs g hg).1 u.size, (h.xs g hg).2⟩⟩, fun g hg => u.block g (h.xs g hg).1⟩
theorem TwoO.alloc (C : Keeps P) (D2 : Keeps Q) {w wr : World} {U D : Nat → Prop} {X : List Nat} {S R : Nat} {s : σ} {t : τ} (h : TwoO P Q w wr U D X S R s t) (o : Obj) : TwoO P Q w (wr.alloc o) U D (wr.heap.size :: X) S R s t ∧ Stay X wr (wr.alloc o) := by
  obtain ⟨h2, h3⟩ := h.below C D2 ((Below.refl wr.heap.size wr).alloc (Nat.le_refl _) o)
  refine ⟨⟨h2.ps, h2.ds, h2.bel, h2.dis, h2.lo, h2.lo2, fun g hg => ?_⟩, h3⟩
  rcases List.mem_cons.mp hg with rfl | e
  · exact ⟨by simp, fun e => by have := C.lt h.ps _ e; omega, fun e => by have := D2.lt h.ds _ e; omega⟩
  · exact h2.xs g e
theorem TwoO.fewer {w wr : World} {U D : Nat → Prop} {X X' : List Nat} {S R : Nat} {s : σ} {t : τ} (h : TwoO P Q w wr U D X S R s t) (hs : ∀ g ∈ X', g ∈ X) : TwoO P Q w wr U D X' S R s t :=
  ⟨h.ps, h.ds, h.bel, h.dis, h.lo, h.lo2, fun g hg => h.xs g (hs g hg)⟩
theorem TwoO.touch (C : Keeps P) (D2 : Keeps Q) {w wr w' : World} {U D V : Nat → Prop} {X : List Nat} {S R : Nat} {s : σ} {t : τ} (h : TwoO P Q w wr U D X S R s t) (u : Touch V wr w') (hV : ∀ i, V i → ¬ U i ∧ ¬ D i ∧ w.heap.size ≤ i) : TwoO P Q w w' U D X S R s t :=
  ⟨C.keep h.ps u (fun i hi e => (hV i e).1 hi), D2.keep h.ds u (fun i hi e => (hV i e).2.1 hi), h.bel.trans (u.below h.bel.size (fun i e => (hV i e).2.2)), h.dis, h.lo, h.lo2, fun g hg => ⟨Nat.lt_of_lt_of_le (h.xs g hg).1 u.size, (h.xs g hg).2⟩⟩
/-- A row that is new: nobody's. -/
theorem TwoO.free (C : Keeps P) (D2 : Keeps Q) {w wr w' : World} {U D : Nat → Prop} {X : List Nat} {S R : Nat} {s : σ} {t : τ} (h : TwoO P Q w wr U D X S R s t) {e : TypeId} {z n : Nat} {v : Value} {xs : List Value} (ho : w'.ownsRow wr.heap.size e z v n xs) : FreeO w w' U D X v := by
  intro i hi
  obtain ⟨l1, l2⟩ := ho.lt i hi
  exact ⟨fun e => by have := C.lt h.ps i e; omega, fun e => by have := D2.lt h.ds i e; omega, fun e => by have := (h.xs i e).1; omega, by have := h.bel.size; omega, l2⟩
theorem FreeO.below {w wr w' : World} {U D : Nat → Prop} {X : List Nat} {v : Value} (h : FreeO w wr U D X v) (u : Below wr.heap.size wr w') : FreeO w w' U D X v :=
  fun i hi => ⟨(h i hi).1, (h i hi).2.1, (h i hi).2.2.1, (h i hi).2.2.2.1, Nat.lt_of_lt_of_le (h i hi).2.2.2.2 u.size⟩
/-- What was answered is written over. -/
theorem TwoO.over (C : Keeps P) (D2 : Keeps Q) {w wr w' : World} {U D : Nat → Prop} {X : List Nat} {S R : Nat} {s : σ} {t : τ} (h : TwoO P Q w wr U D X S R s t) {v : Value} (hv : FreeO w wr U D X v) (u : Touch (fun i => v.ownBlock = some i) wr w') : TwoO P Q w w' U D X S R s t ∧ Stay X wr w' :=
  ⟨h.touch C D2 u fun i hi => ⟨(hv i hi).1, (hv i hi).2.1, (hv i hi).2.2.2.1⟩, fun g hg => u.block g (h.xs g hg).1 (fun e => (hv g e).2.2.1 hg)⟩
theorem OneO.two (C : Keeps P) (D2 : Keeps Q) {w w1 w2 : World} {U D : Nat → Prop} {X : List Nat} {S R : Nat} {s : σ} {t : τ} (h : OneO P w w1 U X S s) (r2 : Q w2 D R t) (b2 : Below w1.heap.size w1 w2) (l2 : ∀ i, D i → w1.heap.size ≤ i) : TwoO P Q w w2 U D X S R s t :=
  ⟨C.below h.ps b2, r2, h.bel.trans (b2.mono h.bel.size), fun i hi hd => by have := C.lt h.ps i hi; have := l2 i hd; omega, h.lo, fun i hd => by have := l2 i hd; have := h.bel.size; omega, fun g hg => ⟨Nat.lt_of_lt_of_le (h.xs g hg).1 b2.size, (h.xs g hg).2, fun e => by have := l2 g e; have := (h.xs g hg).1; omega⟩⟩
end
end Go.Proofs.Ytipepklobpnbpaa
