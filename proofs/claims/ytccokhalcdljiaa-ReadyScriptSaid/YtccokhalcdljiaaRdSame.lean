/-
  The program's queue beside the document's: what turns, what stays.
-/
import Derived.Test.YtccokhalcdljiaaRdOver
namespace Go.Proofs.Ytccokhalcdljiaa
open Go.ChangeShapes Go.WideShapes Go.ChangeAt Go.RowKit
set_option linter.unusedVariables false
/-- Both wheels, and blocks of X that neither has. -/
structure TwoR (PQ : World → (Nat → Prop) → Nat → List Rt → Prop) (w wr : World) (U D : Nat → Prop) (X : List Nat) (S R : Nat) (s s2 : (List Rt)) : Prop where
  ps : PQ wr U S s
  ds : Rq wr D R s2
  bel : Below w.heap.size w wr
  dis : ∀ i, U i → ¬ D i
  lo : ∀ i, U i → w.heap.size ≤ i
  lo2 : ∀ i, D i → w.heap.size ≤ i
  xs : ∀ g ∈ X, g < wr.heap.size ∧ ¬ U g ∧ ¬ D g
def Held (X : List Nat) (w w' : World) : Prop := ∀ g ∈ X, w'.heap[g]? = w.heap[g]?
section
variable {PQ : World → (Nat → Prop) → Nat → List Rt → Prop}
theorem TwoR.moveL (C : PReady PQ) {w wr w' : World} {U U' D : Nat → Prop} {X : List Nat} {S R : Nat} {s s' s2 : (List Rt)} (h : TwoR PQ w wr U D X S R s s2) (p : PQ w' U' S s') (t : Touch U wr w') (hU : ∀ i, U' i → U i ∨ wr.heap.size ≤ i) : TwoR PQ w w' U' D X S R s' s2 ∧ Held X wr w' := by
  have old : ∀ i, i < wr.heap.size → ¬ U i → ¬ U' i := fun i hi hn e => (hU i e).elim hn (fun e => by omega)
  refine ⟨⟨p, h.ds.keep t (fun i hi e => h.dis i e hi), h.bel.trans (t.below h.bel.size h.lo), fun i hi hd => ?_, fun i hi => ?_, h.lo2, fun g hg => ⟨Nat.lt_of_lt_of_le (h.xs g hg).1 t.size, old g (h.xs g hg).1 (h.xs g hg).2.1, (h.xs g hg).2.2⟩⟩, fun g hg => t.block g (h.xs g hg).1 (h.xs g hg).2.1⟩
  · exact old i (h.ds.lt i hd) (fun e => h.dis i e hd) hi
  · rcases hU i hi with e | e
    · exact h.lo i e
    · have := h.bel.size; omega
theorem TwoR.moveR (C : PReady PQ) {w wr w' : World} {U D D' : Nat → Prop} {X : List Nat} {S R : Nat} {s s2 s3 : (List Rt)} (h : TwoR PQ w wr U D X S R s s2) (p : Rq w' D' R s3) (t : Touch D wr w') (hU : ∀ i, D' i → D i ∨ wr.heap.size ≤ i) : TwoR PQ w w' U D' X S R s s3 ∧ Held X wr w' := by
  have old : ∀ i, i < wr.heap.size → ¬ D i → ¬ D' i := fun i hi hn e => (hU i e).elim hn (fun e => by omega)
  refine ⟨⟨C.keep h.ps t (fun i hi e => h.dis i hi e), p, h.bel.trans (t.below h.bel.size h.lo2), fun i hi hd => ?_, h.lo, fun i hi => ?_, fun g hg => ⟨Nat.lt_of_lt_of_le (h.xs g hg).1 t.size, (h.xs g hg).2.1, old g (h.xs g hg).1 (h.xs g hg).2.2⟩⟩, fun g hg => t.block g (h.xs g hg).1 (h.xs g hg).2.2⟩
  · exact old i (C.lt h.ps i hi) (fun e => h.dis i hi e) hd
  · rcases hU i hi with e | e
    · exact h.lo2 i e
    · have := h.bel.size; omega
theorem TwoR.left (C : PReady PQ) {w wr w' : World} {U D : Nat → Prop} {X : List Nat} {S R : Nat} {s s' s2 : (List Rt)} (h : TwoR PQ w wr U D X S R s s2) {x : Value} {e : Ending} (hs : SideR (fun w' U' => PQ w' U' S s') U wr x e w') : e = .returned x ∧ ∃ U', TwoR PQ w w' U' D X S R s' s2 ∧ Held X wr w' := by
  obtain ⟨rfl, U', p, t, hU⟩ := hs
  exact ⟨rfl, U', h.moveL C p t hU⟩
theorem TwoR.right (C : PReady PQ) {w wr w' : World} {U D : Nat → Prop} {X : List Nat} {S R : Nat} {s s2 s3 : (List Rt)} (h : TwoR PQ w wr U D X S R s s2) {x : Value} {e : Ending} (hs : SideR (fun w' D' => Rq w' D' R s3) D wr x e w') : e = .returned x ∧ ∃ D', TwoR PQ w w' U D' X S R s s3 ∧ Held X wr w' := by
  obtain ⟨rfl, D', p, t, hU⟩ := hs
  exact ⟨rfl, D', h.moveR C p t hU⟩
theorem TwoR.below (C : PReady PQ) {w wr w' : World} {U D : Nat → Prop} {X : List Nat} {S R : Nat} {s s2 : (List Rt)} (h : TwoR PQ w wr U D X S R s s2) (u : Below wr.heap.size wr w') : TwoR PQ w w' U D X S R s s2 ∧ Held X wr w' :=
  ⟨⟨C.below h.ps u, h.ds.below u, h.bel.trans (u.mono h.bel.size), h.dis, h.lo, h.lo2, fun g hg => ⟨Nat.lt_of_lt_of_le (h.xs g hg).1 u.size, (h.xs g hg).2⟩⟩, fun g hg => u.block g (h.xs g hg).1⟩
theorem TwoR.alloc (C : PReady PQ) {w wr : World} {U D : Nat → Prop} {X : List Nat} {S R : Nat} {s s2 : (List Rt)} (h : TwoR PQ w wr U D X S R s s2) (o : Obj) : TwoR PQ w (wr.alloc o) U D (wr.heap.size :: X) S R s s2 ∧ Held X wr (wr.alloc o) := by
  obtain ⟨h2, h3⟩ := h.below C ((Below.refl wr.heap.size wr).alloc (Nat.le_refl _) o)
  refine ⟨⟨h2.ps, h2.ds, h2.bel, h2.dis, h2.lo, h2.lo2, fun g hg => ?_⟩, h3⟩
  rcases List.mem_cons.mp hg with rfl | e
  · exact ⟨by simp, fun e => by have := C.lt h.ps _ e; omega, fun e => by have := h.ds.lt _ e; omega⟩
  · exact h2.xs g e
theorem TwoR.fewer {w wr : World} {U D : Nat → Prop} {X X' : List Nat} {S R : Nat} {s s2 : (List Rt)} (h : TwoR PQ w wr U D X S R s s2) (hs : ∀ g ∈ X', g ∈ X) : TwoR PQ w wr U D X' S R s s2 :=
  ⟨h.ps, h.ds, h.bel, h.dis, h.lo, h.lo2, fun g hg => h.xs g (hs g hg)⟩
theorem two_new (C : PReady PQ) {w w1 : World} {S : Nat} {U : Nat → Prop} (p1 : PQ w1 U S []) (b1 : Below w.heap.size w w1) (l1 : ∀ i, U i → w.heap.size ≤ i) :
    TwoR PQ w (w1.alloc (.cells #[.slice none 0 0] 29)) U (fun i => i = w1.heap.size) [] S w1.heap.size [] [] :=
  ⟨C.below p1 ((Below.refl w1.heap.size w1).alloc (Nat.le_refl _) _), rq_new w1, b1.alloc b1.size _, fun i hi e => by have := C.lt p1 i hi; have e : i = w1.heap.size := e; omega, l1, fun i e => by have := b1.size; have e : i = w1.heap.size := e; omega, fun g hg => absurd hg List.not_mem_nil⟩
/-- A row that is neither's, and no block of X. -/
def Free (w wr : World) (U D : Nat → Prop) (X : List Nat) (v : Value) : Prop := ∀ i, v.ownBlock = some i → ¬ U i ∧ ¬ D i ∧ i ∉ X ∧ w.heap.size ≤ i ∧ i < wr.heap.size
theorem TwoR.allL (C : PReady PQ) {w wr w' : World} {U D : Nat → Prop} {X : List Nat} {S R : Nat} {s s2 : (List Rt)} (h : TwoR PQ w wr U D X S R s s2) {e : Ending} (ht : AllP (fun w' U' => PQ w' U' S s) U s wr e w') :
    ∃ A c, e = .returned (.slice A s.length c) ∧ w'.ownsRow 0 3 1 (.slice A s.length c) s.length ((allR s).map (Value.int .i64)) ∧ ∃ U', TwoR PQ w w' U' D X S R s s2 ∧ Held X wr w' ∧ Free w w' U' D X (.slice A s.length c) := by
  obtain ⟨A, c, he, ho, U', p, t, hU, hf⟩ := ht
  obtain ⟨h2, h3⟩ := h.moveL C p t hU
  refine ⟨A, c, he, own_base ho (Nat.zero_le _), U', h2, h3, fun i hi => ?_⟩
  obtain ⟨l1, l2⟩ := ho.lt i hi
  have := h.bel.size
  exact ⟨hf i hi, fun e => by have := h.ds.lt i e; omega, fun e => by have := (h.xs i e).1; omega, by omega, l2⟩
theorem TwoR.over (C : PReady PQ) {w wr w' : World} {U D : Nat → Prop} {X : List Nat} {S R : Nat} {s s2 : (List Rt)} (h : TwoR PQ w wr U D X S R s s2) {v : Value} (hv : Free w wr U D X v) (t : Touch (fun i => v.ownBlock = some i) wr w') : TwoR PQ w w' U D X S R s s2 ∧ Held X wr w' :=
  ⟨⟨C.keep h.ps t (fun i hi e => (hv i e).1 hi), h.ds.keep t (fun i hi e => (hv i e).2.1 hi), h.bel.trans (t.below h.bel.size (fun i e => (hv i e).2.2.2.1)), h.dis, h.lo, h.lo2, fun g hg => ⟨Nat.lt_of_lt_of_le (h.xs g hg).1 t.size, (h.xs g hg).2⟩⟩, fun g hg => t.block g (h.xs g hg).1 (fun e => (hv g e).2.2.1 hg)⟩
end
end Go.Proofs.Ytccokhalcdljiaa
