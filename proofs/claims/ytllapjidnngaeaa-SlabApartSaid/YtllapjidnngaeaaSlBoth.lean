/-
  The program's slab and the document's beside one another. What the program's slab is in memory is left open (PS): its contracts stand in PSlab.
-/
import Derived.Test.YtllapjidnngaeaaSlFacts
import Derived.Test.YtllapjidnngaeaaSlActs
import Derived.Test.YtllapjidnngaeaaFrOver
import Derived.Test.YtllapjidnngaeaaFrAwake
import Derived.Test.YtllapjidnngaeaaFrLow
import Derived.Deep.QuietTactic
import Derived.BigQuiet
namespace Go.Proofs.Ytllapjidnngaeaa
open Go.ChangeShapes Go.WideShapes Go.ChangeAt Go.RowKit
set_option linter.unusedVariables false
/-- A call of one side: what it answers, what is then. -/
def Side (P : World → (Nat → Prop) → Prop) (U : Nat → Prop) (w : World) (v : Value) (e : Ending) (w' : World) : Prop :=
  e = .returned v ∧ ∃ U', P w' U' ∧ Touch U w w' ∧ ∀ i, U' i → U i ∨ w.heap.size ≤ i
/-- The program's slab at S over frames at H: contracts of its calls. -/
structure PSlab (PS : World → (Nat → Prop) → Nat → Nat → List Cu → St → Prop) : Prop where
  keep : ∀ {V U : Nat → Prop} {w w' : World} {S H : Nat} {l : List Cu} {s : St}, PS w U S H l s → Touch V w w' → (∀ i, U i → ¬ V i) → PS w' U S H l s
  lt : ∀ {U : Nat → Prop} {w : World} {S H : Nat} {l : List Cu} {s : St}, PS w U S H l s → ∀ i, U i → i < w.heap.size
  cuts : ∀ {U : Nat → Prop} {w : World} {S H : Nat} {l : List Cu} {s : St}, PS w U S H l s → Cuts l
  good : ∀ {U : Nat → Prop} {w : World} {S H : Nat} {l : List Cu} {s : St}, PS w U S H l s → Good s
  new : ∀ {w : World} {H A Q : Nat} {N : Nat}, Fr w H A Q (St.new N) → Calls Try.prog 9 #[.pointer (some ⟨H, 0, none⟩)] w fun e w' => ∃ S U, e = .returned (.pointer (some ⟨S, 0, none⟩)) ∧ PS w' U S H [] (St.new N) ∧ Below w.heap.size w w' ∧ ∀ i, U i → Blk H A Q i ∨ w.heap.size ≤ i
  take : ∀ {U : Nat → Prop} {w : World} {S H : Nat} {l : List Cu} {s : St}, PS w U S H l s → Whole l s → ∀ {n : Int}, (Lit.int .i64 n).wf = true → ∀ {f k c e : Nat} {l' : List Cu} {s' : St}, Took n l s f k c e l' s' →
    Calls Try.prog 10 #[.pointer (some ⟨S, 0, none⟩), .int .i64 n] w (Side (fun w' U' => PS w' U' S H l' s') U w (.tuple #[refV f k c, .int .i64 (e : Int)]))
  give : ∀ {U : Nat → Prop} {w : World} {S H : Nat} {l : List Cu} {s : St}, PS w U S H l s → Whole l s → ∀ {fr sl sz : Int}, (Lit.int .i64 fr).wf = true → (Lit.int .i64 sl).wf = true → (Lit.int .i64 sz).wf = true → ∀ {e : Nat} {l' : List Cu} {s' : St}, Gave fr sl sz l s e l' s' →
    Calls Try.prog 16 #[.pointer (some ⟨S, 0, none⟩), refV fr sl sz] w (Side (fun w' U' => PS w' U' S H l' s') U w (.int .i64 (e : Int)))
  has : ∀ {U : Nat → Prop} {w : World} {S H : Nat} {l : List Cu} {s : St}, PS w U S H l s → ∀ {fr sl sz : Int}, (Lit.int .i64 fr).wf = true → (Lit.int .i64 sl).wf = true → (Lit.int .i64 sz).wf = true →
    Calls Try.prog 14 #[.pointer (some ⟨S, 0, none⟩), refV fr sl sz] w fun e w' => e = .returned (.bool (there l fr sl sz)) ∧ Below w.heap.size w w'
  len : ∀ {U : Nat → Prop} {w : World} {S H : Nat} {l : List Cu} {s : St}, PS w U S H l s →
    Calls Try.prog 18 #[.pointer (some ⟨S, 0, none⟩)] w fun e w' => e = .returned (.int .i64 (pieces l : Nat)) ∧ Below w.heap.size w w'
  free : ∀ {U : Nat → Prop} {w : World} {S H : Nat} {l : List Cu} {s : St}, PS w U S H l s →
    Calls Try.prog 20 #[.pointer (some ⟨H, 0, none⟩)] w fun e w' => e = .returned (.int .i64 (s.fr.length : Nat)) ∧ w = w'
  fhas : ∀ {U : Nat → Prop} {w : World} {S H : Nat} {l : List Cu} {s : St}, PS w U S H l s → ∀ (i : Int),
    Calls Try.prog 24 #[.pointer (some ⟨H, 0, none⟩), .int .i64 i] w fun e w' => e = .returned (.bool (code s i 0 0 == 0)) ∧ w = w'
  cls : ∀ (w : World) (n : Int), (Lit.int .i64 n).wf = true → Calls Try.prog 22 #[.int .i64 n] w fun e w' => e = .returned (.int .i64 (cls n : Nat)) ∧ ∃ m, w' = w.drewN m
section
variable {PS : World → (Nat → Prop) → Nat → Nat → List Cu → St → Prop}
/-- The pieces that were had, as integers; their cells. -/
structure Pc where
  f : Int
  k : Int
  c : Int
def cellsPc (x : Pc) : List Value := [.int .i64 x.f, .int .i64 x.k, .int .i64 x.c]
def cellsPcs (xs : List Pc) : List Value := xs.flatMap cellsPc
theorem cellsPcs_append (a b : List Pc) : cellsPcs (a ++ b) = cellsPcs a ++ cellsPcs b := by unfold cellsPcs; simp
theorem cellsPcs_length (xs : List Pc) : (cellsPcs xs).length = xs.length * 3 := by
  induction xs with
  | nil => rfl
  | cons x xs ih =>
    show (cellsPc x ++ cellsPcs xs).length = _
    rw [List.length_append, ih, List.length_cons]
    show 3 + _ = _
    omega
theorem cellsPcs_at {xs : List Pc} {i : Nat} (j : Nat) (h : i < xs.length) (hj : j < 3) : (cellsPcs xs)[i * 3 + j]? = (cellsPc xs[i])[j]? := by
  induction xs generalizing i with
  | nil => cases h
  | cons x xs ih =>
    show (cellsPc x ++ cellsPcs xs)[i * 3 + j]? = _
    cases i with
    | zero =>
      rw [Nat.zero_mul, Nat.zero_add, List.getElem?_append_left (by show j < 3; exact hj)]
      rfl
    | succ i =>
      rw [List.getElem?_append_right (by show 3 ≤ (i + 1) * 3 + j; omega)]
      have : (i + 1) * 3 + j - (cellsPc x).length = i * 3 + j := by show (i + 1) * 3 + j - 3 = _; omega
      rw [this, ih (by simpa using h)]
      rfl
/-- Both slabs, the row of pieces had, and blocks G that neither has. -/
structure Two (PS : World → (Nat → Prop) → Nat → Nat → List Cu → St → Prop) (w wr : World) (U D : Nat → Prop) (G : List Nat) (S H S' R : Nat) (l : List Cu) (s : St) (l2 : List Cu) (s2 : St) (v : Value) (n : Nat) (xs : List Pc) : Prop where
  ps : PS wr U S H l s
  ds : DS wr D S' R l2 s2
  wh : Whole l s
  wh2 : Whole l2 s2
  bel : Below w.heap.size w wr
  dis : ∀ i, U i → ¬ D i
  lo : ∀ i, U i → w.heap.size ≤ i
  lo2 : ∀ i, D i → w.heap.size ≤ i
  row : wr.ownsRow w.heap.size 39 3 v n (cellsPcs xs)
  len : xs.length = n
  vU : ∀ g, v.ownBlock = some g → ¬ U g ∧ ¬ D g ∧ g ∉ G
  gs : ∀ g ∈ G, g < wr.heap.size ∧ ¬ U g ∧ ¬ D g
/-- The blocks of G stand as they stood. -/
def Held (G : List Nat) (w w' : World) : Prop := ∀ g ∈ G, w'.heap[g]? = w.heap[g]?
theorem Two.left (C : PSlab PS) {w wr w' : World} {U D : Nat → Prop} {G : List Nat} {S H S' R : Nat} {l l' : List Cu} {s s' : St} {l2 : List Cu} {s2 : St} {v : Value} {n : Nat} {xs : List Pc} (h : Two PS w wr U D G S H S' R l s l2 s2 v n xs) (hw : Whole l' s')
    {x : Value} {e : Ending} (hs : Side (fun w' U' => PS w' U' S H l' s') U wr x e w') : e = .returned x ∧ ∃ U', Two PS w w' U' D G S H S' R l' s' l2 s2 v n xs ∧ Held G wr w' := by
  obtain ⟨rfl, U', p, t, hU⟩ := hs
  have old : ∀ i, i < wr.heap.size → ¬ U i → ¬ U' i := fun i hi hn e => (hU i e).elim hn (fun e => by omega)
  refine ⟨rfl, U', ⟨p, h.ds.keep t (fun i hi e => h.dis i e hi), hw, h.wh2, h.bel.trans (t.below h.bel.size h.lo), fun i hi hd => ?_, fun i hi => ?_, h.lo2, t.own h.row (fun g hg => (h.vU g hg).1), h.len, fun g hg => ⟨old g (h.row.lt g hg).2 (h.vU g hg).1, (h.vU g hg).2⟩, fun g hg => ⟨Nat.lt_of_lt_of_le (h.gs g hg).1 t.size, old g (h.gs g hg).1 (h.gs g hg).2.1, (h.gs g hg).2.2⟩⟩, fun g hg => t.block g (h.gs g hg).1 (h.gs g hg).2.1⟩
  · exact old i (h.ds.lt i hd) (fun e => h.dis i e hd) hi
  · rcases hU i hi with e | e
    · exact h.lo i e
    · have := h.bel.size; omega
theorem Two.right (C : PSlab PS) {w wr w' : World} {U D : Nat → Prop} {G : List Nat} {S H S' R : Nat} {l : List Cu} {s : St} {l2 l' : List Cu} {s2 s' : St} {v : Value} {n : Nat} {xs : List Pc} (h : Two PS w wr U D G S H S' R l s l2 s2 v n xs) (hw : Whole l' s')
    {x : Value} {e : Ending} (hs : Side (fun w' D' => DS w' D' S' R l' s') D wr x e w') : e = .returned x ∧ ∃ D', Two PS w w' U D' G S H S' R l s l' s' v n xs ∧ Held G wr w' := by
  obtain ⟨rfl, D', p, t, hU⟩ := hs
  have old : ∀ i, i < wr.heap.size → ¬ D i → ¬ D' i := fun i hi hn e => (hU i e).elim hn (fun e => by omega)
  refine ⟨rfl, D', ⟨C.keep h.ps t (fun i hi e => h.dis i hi e), p, h.wh, hw, h.bel.trans (t.below h.bel.size h.lo2), fun i hi hd => ?_, h.lo, fun i hi => ?_, t.own h.row (fun g hg => (h.vU g hg).2.1), h.len, fun g hg => ⟨(h.vU g hg).1, old g (h.row.lt g hg).2 (h.vU g hg).2.1, (h.vU g hg).2.2⟩, fun g hg => ⟨Nat.lt_of_lt_of_le (h.gs g hg).1 t.size, (h.gs g hg).2.1, old g (h.gs g hg).1 (h.gs g hg).2.2⟩⟩, fun g hg => t.block g (h.gs g hg).1 (h.gs g hg).2.2⟩
  · exact old i (C.lt h.ps i hi) (fun e => h.dis i hi e) hd
  · rcases hU i hi with e | e
    · exact h.lo2 i e
    · have := h.bel.size; omega
theorem Two.below (C : PSlab PS) {w wr w' : World} {U D : Nat → Prop} {G : List Nat} {S H S' R : Nat} {l : List Cu} {s : St} {l2 : List Cu} {s2 : St} {v : Value} {n : Nat} {xs : List Pc} (h : Two PS w wr U D G S H S' R l s l2 s2 v n xs) (u : Below wr.heap.size wr w') : Two PS w w' U D G S H S' R l s l2 s2 v n xs ∧ Held G wr w' := by
  have t : Touch (fun _ => False) wr w' := Touch.of_below u
  exact ⟨⟨C.keep h.ps t (fun _ _ e => e), h.ds.below u, h.wh, h.wh2, h.bel.trans (u.mono h.bel.size), h.dis, h.lo, h.lo2, t.own h.row (fun _ _ e => e), h.len, h.vU, fun g hg => ⟨Nat.lt_of_lt_of_le (h.gs g hg).1 u.size, (h.gs g hg).2⟩⟩, fun g hg => u.block g (h.gs g hg).1⟩
/-- A block more that neither has. -/
theorem Two.alloc (C : PSlab PS) {w wr : World} {U D : Nat → Prop} {G : List Nat} {S H S' R : Nat} {l : List Cu} {s : St} {l2 : List Cu} {s2 : St} {v : Value} {n : Nat} {xs : List Pc} (h : Two PS w wr U D G S H S' R l s l2 s2 v n xs) (o : Obj) : Two PS w (wr.alloc o) U D (wr.heap.size :: G) S H S' R l s l2 s2 v n xs ∧ Held G wr (wr.alloc o) := by
  obtain ⟨h2, h3⟩ := h.below C ((Below.refl wr.heap.size wr).alloc (Nat.le_refl _) o)
  refine ⟨⟨h2.ps, h2.ds, h2.wh, h2.wh2, h2.bel, h2.dis, h2.lo, h2.lo2, h2.row, h2.len, fun g hg => ⟨(h2.vU g hg).1, (h2.vU g hg).2.1, fun e => ?_⟩, fun g hg => ?_⟩, h3⟩
  · rcases List.mem_cons.mp e with e | e
    · have := (h.row.lt g hg).2; omega
    · exact (h2.vU g hg).2.2 e
  · rcases List.mem_cons.mp hg with rfl | e
    · exact ⟨by simp, fun e => by have := C.lt h.ps _ e; omega, fun e => by have := h.ds.lt _ e; omega⟩
    · exact h2.gs g e
/-- Blocks forgotten. -/
theorem Two.fewer {w wr : World} {U D : Nat → Prop} {G G' : List Nat} {S H S' R : Nat} {l : List Cu} {s : St} {l2 : List Cu} {s2 : St} {v : Value} {n : Nat} {xs : List Pc} (h : Two PS w wr U D G S H S' R l s l2 s2 v n xs) (hs : ∀ g ∈ G', g ∈ G) : Two PS w wr U D G' S H S' R l s l2 s2 v n xs :=
  ⟨h.ps, h.ds, h.wh, h.wh2, h.bel, h.dis, h.lo, h.lo2, h.row, h.len, fun g hg => ⟨(h.vU g hg).1, (h.vU g hg).2.1, fun e => (h.vU g hg).2.2 (hs g e)⟩, fun g hg => h.gs g (hs g hg)⟩
/-- A store into a block of G. -/
theorem Two.set (C : PSlab PS) {w wr w' : World} {U D : Nat → Prop} {G : List Nat} {S H S' R X : Nat} {l : List Cu} {s : St} {l2 : List Cu} {s2 : St} {v : Value} {n : Nat} {xs : List Pc} (h : Two PS w wr U D G S H S' R l s l2 s2 v n xs) (hX : X ∈ G) (hl : w.heap.size ≤ X) (t : Touch (fun i => i = X) wr w') : Two PS w w' U D G S H S' R l s l2 s2 v n xs :=
  ⟨C.keep h.ps t (fun i hi e => (h.gs X hX).2.1 (e ▸ hi)), h.ds.keep t (fun i hi e => (h.gs X hX).2.2 (e ▸ hi)), h.wh, h.wh2, h.bel.trans (t.below h.bel.size (fun i e => by rw [e]; exact hl)), h.dis, h.lo, h.lo2, t.own h.row (fun g hg e => (h.vU g hg).2.2 (e ▸ hX)), h.len, h.vU, fun g hg => ⟨Nat.lt_of_lt_of_le (h.gs g hg).1 t.size, (h.gs g hg).2⟩⟩
/-- The row has grown or moved: what it is now is known. -/
theorem Two.next (C : PSlab PS) {w wr w' : World} {U D : Nat → Prop} {G : List Nat} {S H S' R : Nat} {l : List Cu} {s : St} {l2 : List Cu} {s2 : St} {v v' : Value} {n n' : Nat} {xs xs' : List Pc} (h : Two PS w wr U D G S H S' R l s l2 s2 v n xs) (t : Touch (fun i => v.ownBlock = some i) wr w') (r : w'.ownsRow w.heap.size 39 3 v' n' (cellsPcs xs')) (hl : xs'.length = n') (hv : ∀ g, v'.ownBlock = some g → v.ownBlock = some g ∨ wr.heap.size ≤ g) : Two PS w w' U D G S H S' R l s l2 s2 v' n' xs' :=
  ⟨C.keep h.ps t (fun i hi e => (h.vU i e).1 hi), h.ds.keep t (fun i hi e => (h.vU i e).2.1 hi), h.wh, h.wh2, h.bel.trans (t.below h.bel.size (fun i e => (h.row.lt i e).1)), h.dis, h.lo, h.lo2, r, hl, fun g hg => (by
    rcases hv g hg with e | e
    · exact h.vU g e
    · exact ⟨fun e2 => by have := C.lt h.ps _ e2; omega, fun e2 => by have := h.ds.lt _ e2; omega, fun e2 => by have := (h.gs g e2).1; omega⟩), fun g hg => ⟨Nat.lt_of_lt_of_le (h.gs g hg).1 t.size, (h.gs g hg).2⟩⟩
end
end Go.Proofs.Ytllapjidnngaeaa
