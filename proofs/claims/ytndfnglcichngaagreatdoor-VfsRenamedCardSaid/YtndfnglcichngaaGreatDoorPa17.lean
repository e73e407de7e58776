/-
  Several texts as one: SpFind SpCut SpGrow.
-/
import Derived.Deep.DeepCutAuto
import Derived.Deep.CutBlock
import Derived.Deep.RegionHeld3
import Derived.Test.YtndfnglcichngaaGreatDoorPa11
import Derived.Test.YtndfnglcichngaaGreatDoorPa07
import Derived.Test.YtndfnglcichngaaGreatDoorPa03
import Derived.Test.YtndfnglcichngaaGreatDoorMemPb
namespace Go.Proofs.YtndfnglcichngaaGreatDoor
open Go.ChangeShapes Go.WideShapes Go.ChangeAt Go.RowKit Go.Maps
set_option linter.unusedVariables false
set_option linter.unusedSimpArgs false
/-- Pointers as values of a map. -/
def ptrV (x : Option Nat) : Value := .pointer (x.map fun b => ⟨b, 0, none⟩)
def ptrE (x : Option Nat) : DataW Unit := .lit (.int .i64 (match x with | none => -1 | some b => (b : Int)))
def readP (v : Value) : Option (DataW Unit × List MemPlace) := match v with
  | .pointer none => some (ptrE none, [])
  | .pointer (some ⟨b, 0, none⟩) => some (ptrE (some b), [])
  | _ => none
theorem kindP : Kind ptrV ptrE readP where
  puts := by intro x; cases x <;> rfl
  inv := by
    intro v z h
    unfold readP at h
    split at h
    · injection h with h; exact ⟨none, rfl, h.symm⟩
    · rename_i b; injection h with h; exact ⟨some b, rfl, h.symm⟩
    · cases h
  inj := by
    intro x y h
    unfold ptrE at h
    simp at h
    cases x <;> cases y <;> simp at h ⊢ <;> omega
/-- The files by their numbers: x.bc is the block of file x's struct. -/
def getP : List Rfl → Int → Option (Option Nat)
  | [], _ => none
  | x :: l, k => if x.id = k then some (some x.bc) else getP l k
theorem getP_none {l : List Rfl} {k : Int} (h : ∀ x ∈ l, x.id ≠ k) : getP l k = none := by
  induction l with
  | nil => rfl
  | cons x l ih =>
    show (if x.id = k then _ else _) = _
    rw [if_neg (h x (List.mem_cons_self ..))]
    exact ih (fun y hy => h y (List.mem_cons_of_mem _ hy))
theorem getP_split {p q : List Rfl} {x : Rfl} {k : Int} (hx : x.id = k) (hp : ∀ y ∈ p, y.id ≠ k) : getP (p ++ x :: q) k = some (some x.bc) := by
  induction p with
  | nil => exact if_pos hx
  | cons y p ih =>
    show (if y.id = k then _ else _) = _
    rw [if_neg (hp y (List.mem_cons_self ..))]
    exact ih (fun z hz => hp z (List.mem_cons_of_mem _ hz))
theorem getP_is {l : List Rfl} {k : Int} (h : (getP l k).isSome = true) : ∃ x ∈ l, x.id = k := by
  induction l with
  | nil => cases h
  | cons x l ih =>
    by_cases e : x.id = k
    · exact ⟨x, List.mem_cons_self .., e⟩
    · have h2 : (if x.id = k then some (some x.bc) else getP l k).isSome = true := h
      rw [if_neg e] at h2
      obtain ⟨y, hy, e2⟩ := ih h2
      exact ⟨y, List.mem_cons_of_mem _ hy, e2⟩
theorem getP_same {p q : List Rfl} {x x' : Rfl} (h1 : x'.id = x.id) (h2 : x'.bc = x.bc) : getP (p ++ x' :: q) = getP (p ++ x :: q) := by
  induction p with
  | nil => funext k; show (if x'.id = k then _ else _) = (if x.id = k then _ else _); rw [h1, h2]
  | cons y p ih => funext k; show (if y.id = k then _ else getP (p ++ x' :: q) k) = (if y.id = k then _ else getP (p ++ x :: q) k); rw [ih]
theorem getP_add {l : List Rfl} {x : Rfl} (h : ∀ y ∈ l, y.id ≠ x.id) : getP (l ++ [x]) = updF (getP l) x.id (some (some x.bc)) := by
  funext k
  unfold updF
  by_cases e : k = x.id
  · rw [if_pos e]
    exact getP_split e.symm (fun y hy => by rw [e]; exact h y hy)
  · rw [if_neg e]
    clear h
    induction l with
    | nil => exact if_neg (fun h => e h.symm)
    | cons y l ih => show (if y.id = k then _ else getP (l ++ [x]) k) = (if y.id = k then _ else getP l k); rw [ih]
theorem getP_del {p q : List Rfl} {x : Rfl} (h : ((p ++ x :: q).map Rfl.id).Nodup) : getP (p ++ q) = updF (getP (p ++ x :: q)) x.id none := by
  funext k
  unfold updF
  rw [List.map_append, List.map_cons, List.nodup_append] at h
  by_cases e : k = x.id
  · rw [if_pos e]
    refine getP_none fun y hy e2 => ?_
    rcases List.mem_append.1 hy with hy | hy
    · exact h.2.2 y.id (List.mem_map_of_mem hy) x.id (List.mem_cons_self ..) (e2.trans e)
    · exact (List.nodup_cons.1 h.2.1).1 (by rw [← e, ← e2]; exact List.mem_map_of_mem hy)
  · rw [if_neg e]
    clear h
    induction p with
    | nil =>
      show getP q k = (if x.id = k then _ else getP q k)
      rw [if_neg (fun h => e h.symm)]
    | cons y p ih => show (if y.id = k then _ else getP (p ++ q) k) = (if y.id = k then _ else getP (p ++ x :: q) k); rw [ih]
/-- A file in memory. -/
structure PflOk (w : World) (x : Rfl) : Prop where
  hd : w.heap[x.bc]? = some (.cells #[.int .i64 (x.b.length : Nat), x.fv] 116 (0, 0))
  fs : w.ownsRow 0 3 1 x.fv x.F.length ((nums x.F).map (Value.int .i64))
theorem PflOk.touch {S : Nat → Prop} {w w' : World} {x : Rfl} (h : PflOk w x) (u : Touch S w w') (d1 : ¬ S x.bc) (d2 : ∀ g, x.fv.ownBlock = some g → ¬ S g) : PflOk w' x :=
  ⟨(u.block x.bc (lt_of_heap h.hd) d1).trans h.hd, u.own h.fs d2⟩
/-- Which block is whose: so that blocks are told apart. -/
structure Tags (tag : Nat → Int) (H S A Q M : Nat) (xs : List Rfl) : Prop where
  s : tag S = -1
  m : tag M = -2
  h : tag H = -3
  a : tag A = -4
  q : tag Q = -5
  x : ∀ x ∈ xs, 0 ≤ x.id ∧ tag x.bc = 2 * x.id ∧ ∀ g, x.fv.ownBlock = some g → tag g = 2 * x.id + 1
structure SpM (w : World) (U : Nat → Prop) (H S A Q M : Nat) (xs : List Rfl) (st : St) (tag : Nat → Int) : Prop where
  hd : w.heap[S]? = some (.cells #[.pointer (some ⟨H, 0, none⟩), .map (some M)] 122 (0, 0))
  mp : IW ptrE readP w M (getP xs)
  fr : Fr w H A Q st
  ok : ∀ x ∈ xs, PflOk w x
  idn : (xs.map Rfl.id).Nodup
  nod : (fss xs).Nodup
  tkn : ∀ f ∈ fss xs, f < st.n ∧ st.tk f = true
  tg : Tags tag H S A Q M xs
  us : U S ∧ U M ∧ ∀ i, Blk H A Q i → U i
  ux : ∀ x ∈ xs, U x.bc ∧ ∀ g, x.fv.ownBlock = some g → U g
  lt : ∀ i, U i → i < w.heap.size
/-- What it means. -/
structure SpP (s : So) (xs : List Rfl) (st : St) : Prop where
  l : s.l = xs.map Rfl.fi
  fr : s.fr = st.fr.length
  good : GoodSo s
  blk : ∀ x ∈ xs, x.F.length = blkN x.b.length
  byt : ∀ x ∈ xs, ∀ j, j < x.b.length → x.b.getD j 0 = st.bt (x.F.getD (j / 64) 0) (j % 64)
structure SpAt (w : World) (U : Nat → Prop) (H S A Q M : Nat) (s : So) (xs : List Rfl) (st : St) (tag : Nat → Int) : Prop where
  m : SpM w U H S A Q M xs st tag
  p : SpP s xs st
def PSo (H : Nat) : Rel So := fun w U S s => ∃ A Q M xs st tag, SpAt w U H S A Q M s xs st tag
section
variable {w : World} {U : Nat → Prop} {H S A Q M : Nat} {s : So} {xs p q : List Rfl} {x : Rfl} {st : St} {tag : Nat → Int}
theorem SpM.keep {V : Nat → Prop} {w' : World} (h : SpM w U H S A Q M xs st tag) (u : Touch V w w') (d : ∀ i, U i → ¬ V i) : SpM w' U H S A Q M xs st tag :=
  ⟨(u.block S (lt_of_heap h.hd) (d S h.us.1)).trans h.hd, h.mp.touch u (d M h.us.2.1), h.fr.touch u (fun i e => d i (h.us.2.2 i e)), fun x hx => (h.ok x hx).touch u (d _ (h.ux x hx).1) (fun g e => d g ((h.ux x hx).2 g e)), h.idn, h.nod, h.tkn, h.tg, h.us, h.ux, fun i e => Nat.lt_of_lt_of_le (h.lt i e) u.size⟩
theorem SpM.below {w' : World} (h : SpM w U H S A Q M xs st tag) (u : Below w.heap.size w w') : SpM w' U H S A Q M xs st tag := h.keep (V := fun _ => False) (Touch.of_below u) (fun _ _ e => e)
theorem SpAt.below {w' : World} (h : SpAt w U H S A Q M s xs st tag) (u : Below w.heap.size w w') : SpAt w' U H S A Q M s xs st tag := ⟨h.m.below u, h.p⟩
theorem SpM.c0 (h : SpM w U H S A Q M xs st tag) : w.cell? ⟨S, 0, none⟩ = some (.pointer (some ⟨H, 0, none⟩)) := by rw [cell_of_row _ _ _ _ _ _ h.hd]; rfl
theorem SpM.c1 (h : SpM w U H S A Q M xs st tag) : w.cell? ⟨S, 1, none⟩ = some (.map (some M)) := by rw [cell_of_row _ _ _ _ _ _ h.hd]; rfl
theorem PflOk.c0 (h : PflOk w x) : w.cell? ⟨x.bc, 0, none⟩ = some (.int .i64 (x.b.length : Nat)) := by rw [cell_of_row _ _ _ _ _ _ h.hd]; rfl
theorem PflOk.c1 (h : PflOk w x) : w.cell? ⟨x.bc, 1, none⟩ = some x.fv := by rw [cell_of_row _ _ _ _ _ _ h.hd]; rfl
theorem PflOk.f (h : PflOk w x) (j : Nat) : w.frozen? ⟨x.bc, j, none⟩ = false := frozen_of_row _ _ _ _ _ h.hd
end
theorem keepsPSo (H : Nat) : Keeps (PSo H) where
  keep := by
    rintro V U w w' S s ⟨A, Q, M, xs, st, tag, h⟩ u d
    exact ⟨A, Q, M, xs, st, tag, h.m.keep u d, h.p⟩
  lt := by
    rintro U w S s ⟨A, Q, M, xs, st, tag, h⟩ i hi
    exact h.m.lt i hi
section
variable {w : World} {U : Nat → Prop} {H S A Q M : Nat} {s : So} {xs p q : List Rfl} {x : Rfl} {st : St} {tag : Nat → Int}
/-- What a change of file x touches. -/
def Tx (H A Q : Nat) (x : Rfl) (i : Nat) : Prop := Blk H A Q i ∨ i = x.bc ∨ x.fv.ownBlock = some i
theorem id_ne (h : ((p ++ x :: q).map Rfl.id).Nodup) {y : Rfl} (hy : y ∈ p ∨ y ∈ q) : y.id ≠ x.id := by
  rw [List.map_append, List.map_cons, List.nodup_append] at h
  intro e
  rcases hy with hy | hy
  · exact h.2.2 y.id (List.mem_map_of_mem hy) x.id (List.mem_cons_self ..) e
  · exact (List.nodup_cons.1 h.2.1).1 (by rw [← e]; exact List.mem_map_of_mem hy)
theorem mid_mem {y : Rfl} (hy : y ∈ p ++ x :: q) : y = x ∨ y ∈ p ∨ y ∈ q := by
  rcases List.mem_append.1 hy with hy | hy
  · exact .inr (.inl hy)
  · rcases List.mem_cons.1 hy with hy | hy
    · exact .inl hy
    · exact .inr (.inr hy)
/-- File x is another one now: its frames, its bytes; the frames are others too. -/
theorem SpM.turn {w' : World} {x' : Rfl} {st' : St} (h : SpM w U H S A Q M (p ++ x :: q) st tag) (T : Touch (Tx H A Q x) w w') (fr : Fr w' H A Q st') (ok : PflOk w' x') (e1 : x'.id = x.id) (e2 : x'.bc = x.bc)
    (hfa : ∀ g, x'.fv.ownBlock = some g → x.fv.ownBlock = some g ∨ w.heap.size ≤ g) (nod : (fss (p ++ x' :: q)).Nodup) (tkn : ∀ f ∈ fss (p ++ x' :: q), f < st'.n ∧ st'.tk f = true) :
    ∃ U' tag', SpM w' U' H S A Q M (p ++ x' :: q) st' tag' ∧ Touch U w w' ∧ ∀ i, U' i → U i ∨ w.heap.size ≤ i := by
  have hx : x ∈ p ++ x :: q := List.mem_append_right _ (List.mem_cons_self ..)
  obtain ⟨ix, tx, fx⟩ := h.tg.x x hx
  have tT : ∀ i, Tx H A Q x i → tag i = -3 ∨ tag i = -4 ∨ tag i = -5 ∨ tag i = 2 * x.id ∨ tag i = 2 * x.id + 1 := by
    rintro i ((rfl | rfl | rfl) | rfl | e)
    · exact .inl h.tg.h
    · exact .inr (.inl h.tg.a)
    · exact .inr (.inr (.inl h.tg.q))
    · exact .inr (.inr (.inr (.inl tx)))
    · exact .inr (.inr (.inr (.inr (fx i e))))
  have nS : ¬ Tx H A Q x S := fun e => by have := tT S e; have := h.tg.s; omega
  have nM : ¬ Tx H A Q x M := fun e => by have := tT M e; have := h.tg.m; omega
  have nO : ∀ y, y ∈ p ∨ y ∈ q → ¬ Tx H A Q x y.bc ∧ ∀ g, y.fv.ownBlock = some g → ¬ Tx H A Q x g := fun y hy => by
    have hne := id_ne h.idn hy
    obtain ⟨iy, ty, fy⟩ := h.tg.x y (by rcases hy with hy | hy; exact List.mem_append_left _ hy; exact List.mem_append_right _ (List.mem_cons_of_mem _ hy))
    exact ⟨fun e => by have := tT _ e; omega, fun g hg e => by have := tT _ e; have := fy g hg; omega⟩
  have oldT : ∀ i, U i → (if w.heap.size ≤ i then 2 * x.id + 1 else tag i) = tag i := fun i hi => if_neg (by have := h.lt i hi; omega)
  refine ⟨fun i => U i ∨ (w.heap.size ≤ i ∧ i < w'.heap.size), fun i => if w.heap.size ≤ i then 2 * x.id + 1 else tag i, ⟨(T.block S (lt_of_heap h.hd) nS).trans h.hd, ?_, fr, fun y hy => ?_, ?_, nod, tkn, ⟨?_, ?_, ?_, ?_, ?_, fun y hy => ?_⟩, ⟨.inl h.us.1, .inl h.us.2.1, fun i e => .inl (h.us.2.2 i e)⟩, fun y hy => ?_, fun i hi => ?_⟩, T.mono fun i e => ?_, fun i hi => hi.imp id And.left⟩
  · rw [getP_same e1 e2]; exact h.mp.touch T nM
  · rcases mid_mem hy with rfl | hy
    · exact ok
    · exact (h.ok y (by rcases hy with hy | hy; exact List.mem_append_left _ hy; exact List.mem_append_right _ (List.mem_cons_of_mem _ hy))).touch T (nO y hy).1 (nO y hy).2
  · have := h.idn; rw [List.map_append, List.map_cons] at this ⊢; rw [e1]; exact this
  · exact (oldT S h.us.1).trans h.tg.s
  · exact (oldT M h.us.2.1).trans h.tg.m
  · exact (oldT H (h.us.2.2 H (.inl rfl))).trans h.tg.h
  · exact (oldT A (h.us.2.2 A (.inr (.inl rfl)))).trans h.tg.a
  · exact (oldT Q (h.us.2.2 Q (.inr (.inr rfl)))).trans h.tg.q
  · rcases mid_mem hy with rfl | hy
    · rw [e1, e2]
      refine ⟨ix, (oldT _ (h.ux x hx).1).trans tx, fun g hg => ?_⟩
      rcases hfa g hg with e | e
      · exact (oldT g ((h.ux x hx).2 g e)).trans (fx g e)
      · exact if_pos e
    · have hy' : y ∈ p ++ x :: q := by rcases hy with hy | hy; exact List.mem_append_left _ hy; exact List.mem_append_right _ (List.mem_cons_of_mem _ hy)
      obtain ⟨iy, ty, fy⟩ := h.tg.x y hy'
      exact ⟨iy, (oldT _ (h.ux y hy').1).trans ty, fun g hg => (oldT g ((h.ux y hy').2 g hg)).trans (fy g hg)⟩
  · rcases mid_mem hy with rfl | hy
    · rw [e2]
      refine ⟨.inl (h.ux x hx).1, fun g hg => ?_⟩
      rcases hfa g hg with e | e
      · exact .inl ((h.ux x hx).2 g e)
      · exact .inr ⟨e, (ok.fs.lt g hg).2⟩
    · have hy' : y ∈ p ++ x :: q := by rcases hy with hy | hy; exact List.mem_append_left _ hy; exact List.mem_append_right _ (List.mem_cons_of_mem _ hy)
      exact ⟨.inl (h.ux y hy').1, fun g hg => .inl ((h.ux y hy').2 g hg)⟩
  · rcases hi with hi | hi
    · exact Nat.lt_of_lt_of_le (h.lt i hi) T.size
    · exact hi.2
  · rcases e with e | rfl | e
    · exact h.us.2.2 i e
    · exact (h.ux x hx).1
    · exact (h.ux x hx).2 i e
end
end Go.Proofs.YtndfnglcichngaaGreatDoor
namespace Go.Proofs.YtndfnglcichngaaGreatDoor
open Go.ChangeShapes Go.WideShapes Go.ChangeAt Go.RowKit Go.Maps
set_option linter.unusedVariables false
set_option linter.unusedSimpArgs false
theorem zeroPtr (w : World) : (zeroValue 110).run Tryz.prog w = .ok (ptrV none) w := by kernel_rfl
section
variable {w : World} {U : Nat → Prop} {H S A Q M : Nat} {s : So} {xs p q : List Rfl} {x : Rfl} {st : St} {tag : Nat → Int}
theorem SpM.look (h : SpM w U H S A Q M xs st tag) {id : Int} (wi : (Lit.int .i64 id).wf = true) : (Instr.lookup 120 (.map (some M)) (.int .i64 id) false).run Tryz.prog w = .ok (ptrV ((getP xs id).getD none)) w :=
  h.mp.look1 kindP Tryz.underlying120 (zeroPtr w) wi
theorem SpAt.lookN (h : SpAt w U H S A Q M s xs st tag) {id : Int} (wi : (Lit.int .i64 id).wf = true) (e : getFi s.l id = none) : (Instr.lookup 120 (.map (some M)) (.int .i64 id) false).run Tryz.prog w = .ok (.pointer none) w := by
  have lk := h.m.look wi
  rw [getP_none (fi_none.1 (by rw [← h.p.l]; exact e))] at lk
  exact lk
theorem SpAt.lookS (h : SpAt w U H S A Q M s (p ++ x :: q) st tag) {id : Int} (wi : (Lit.int .i64 id).wf = true) (ex : x.id = id) (ep : ∀ y ∈ p, y.id ≠ id) : (Instr.lookup 120 (.map (some M)) (.int .i64 id) false).run Tryz.prog w = .ok (.pointer (some ⟨x.bc, 0, none⟩)) w := by
  have lk := h.m.look wi
  rw [getP_split ex ep] at lk
  exact lk
theorem PSo.split {H : Nat} (h : PSo H w U S s) {id : Int} {o : List Int} (e : getFi s.l id = some o) : ∃ A Q M p x q st tag, x.id = id ∧ x.b = o ∧ (∀ y ∈ p, y.id ≠ id) ∧ SpAt w U H S A Q M s (p ++ x :: q) st tag := by
  obtain ⟨A, Q, M, xs, st, tag, h⟩ := h
  have e1 := e
  rw [h.p.l] at e1
  obtain ⟨p, x, q, rfl, h2, h3, h4⟩ := fi_split e1
  exact ⟨A, Q, M, p, x, q, st, tag, h2, h3, h4, h⟩
theorem mid_of : x ∈ p ++ x :: q := List.mem_append_right _ (List.mem_cons_self ..)
/-- find. -/
theorem find_none (h : PSo H w U S s) {id : Int} (wi : (Lit.int .i64 id).wf = true) (e : getFi s.l id = none) :
    Calls Tryz.prog 64 #[.pointer (some ⟨S, 0, none⟩), .int .i64 id] w fun e w' => e = .returned (.tuple #[.pointer none, .int .i64 4]) ∧ w = w' := by
  obtain ⟨A, Q, M, xs, st, tag, h⟩ := h
  have lk := h.lookN wi e
  have c1 := h.m.c1
  clear h e wi
  go_enter Tryz.func64, Tryz.ntmps64
  go_wp2_with fail
  go_ret2
  exact ⟨rfl, rfl⟩
theorem find_some (h : SpAt w U H S A Q M s (p ++ x :: q) st tag) {id : Int} (wi : (Lit.int .i64 id).wf = true) (ex : x.id = id) (ep : ∀ y ∈ p, y.id ≠ id) :
    Calls Tryz.prog 64 #[.pointer (some ⟨S, 0, none⟩), .int .i64 id] w fun e w' => e = .returned (.tuple #[.pointer (some ⟨x.bc, 0, none⟩), .int .i64 0]) ∧ w = w' := by
  have lk := h.lookS wi ex ep
  have c1 := h.m.c1
  clear h ex ep wi
  go_enter Tryz.func64, Tryz.ntmps64
  go_wp2_with fail
  go_ret2
  exact ⟨rfl, rfl⟩
theorem find_nil (w : World) (id : Int) : Calls Tryz.prog 64 #[.pointer none, .int .i64 id] w fun e w' => e = .returned (.tuple #[.pointer none, .int .i64 1]) ∧ w = w' := by
  go_enter Tryz.func64, Tryz.ntmps64
  go_wp2_with fail
  go_ret2
  exact ⟨rfl, rfl⟩
/-- Size. -/
theorem psz_any (h : PSo H w U S s) {id : Int} (wi : (Lit.int .i64 id).wf = true) :
    Calls Tryz.prog 35 #[.pointer (some ⟨S, 0, none⟩), .int .i64 id] w fun e w' => e = .returned (.tuple #[.int .i64 (lenO (getFi s.l id) : Nat), .int .i64 (thE s id : Nat)]) ∧ w = w' := by
  unfold thE
  cases e : getFi s.l id with
  | none =>
    have FD := hide (find_none h wi e)
    clear h e wi
    go_enter Tryz.func35, Tryz.ntmps35
    go_wp2_with (go_at_call 64; refine FD.out.mono ?_; rintro e w' ⟨rfl, rfl⟩)
    go_ret2
    exact ⟨rfl, rfl⟩
  | some o =>
    obtain ⟨A, Q, M, p, x, q, st, tag, ex, rfl, ep, h⟩ := h.split e
    have FD := hide (find_some h wi ex ep)
    have c0 := (h.m.ok x mid_of).c0
    clear h e wi ex ep
    go_enter Tryz.func35, Tryz.ntmps35
    go_wp2_with (go_at_call 64; refine FD.out.mono ?_; rintro e w' ⟨rfl, rfl⟩)
    go_ret2
    exact ⟨rfl, rfl⟩
/-- blocks. -/
theorem blocks_any (w : World) (z : Nat) (hz : z ≤ 1000000) : Calls Tryz.prog 106 #[.int .i64 (z : Int)] w fun e w' => e = .returned (.int .i64 (blkN z : Nat)) ∧ w = w' := by
  have hd : ((z : Int) + 63).tdiv 64 = (blkN z : Nat) := by
    rw [Int.tdiv_eq_ediv_of_nonneg (by omega)]
    unfold blkN; omega
  have h1 : (z : Int) + 64 - 1 = (z : Int) + 63 := by omega
  have hz' : (z : Int) ≤ 1000000 := by omega
  obtain ⟨bs, hbs⟩ : ∃ bs, bs = blkN z := ⟨_, rfl⟩
  have hb : (bs : Int) ≤ 1000000 := by rw [hbs]; unfold blkN; omega
  rw [← hbs] at hd ⊢
  clear hbs
  go_enter Tryz.func106, Tryz.ntmps106
  go_wp2_with fail
  go_ret
  exact ⟨rfl, rfl⟩
/-- room. -/
theorem room_any (h : SpAt w U H S A Q M s (p ++ x :: q) st tag) (z : Nat) (hz : z ≤ 512) :
    Calls Tryz.prog 65 #[.pointer (some ⟨S, 0, none⟩), .pointer (some ⟨x.bc, 0, none⟩), .int .i64 (z : Int)] w fun e w' => e = .returned (.bool (decide (blkN z ≤ blkN x.b.length + s.fr))) ∧ ∃ k, w' = w.drewN k := by
  have c0 := h.m.c0
  have c1 := (h.m.ok x mid_of).c1
  unfold Rfl.fv at c1
  have BL := hide (h.p.blk x mid_of)
  obtain ⟨fl, hfl⟩ : ∃ fl, fl = x.F.length := ⟨_, rfl⟩
  obtain ⟨bs, hbs⟩ : ∃ bs, bs = blkN z := ⟨_, rfl⟩
  obtain ⟨fr, hfr⟩ : ∃ fr, fr = st.fr.length := ⟨_, rfl⟩
  have f64 : fr ≤ 64 := by rw [hfr]; exact Nat.le_trans h.m.fr.good.len h.m.fr.good.n64
  have b8 : bs ≤ 8 := by rw [hbs]; exact blkN_le8 _ hz
  have hx5 : x.b.length ≤ 512 := h.p.good.le x.fi (by rw [h.p.l]; exact List.mem_map_of_mem mid_of)
  have l8 : fl ≤ 8 := by rw [hfl, BL.out]; exact blkN_le8 _ hx5
  rw [← BL.out, h.p.fr, ← hfl, ← hbs, ← hfr]
  rw [← hfl] at c1
  have FR := hide (show ∀ m, Calls Tryz.prog 32 #[.pointer (some ⟨H, 0, none⟩)] (w.drewN m) fun e w' => e = .returned (.int .i64 (fr : Int)) ∧ ∃ n, w' = w.drewN n from fun m => (free_any (h.m.fr.below (below_drewN (Below.refl w.heap.size w) m))).mono fun e w' ⟨a, b⟩ => ⟨by rw [hfr]; exact a, m, b.symm⟩)
  have BK := hide (show ∀ m, Calls Tryz.prog 106 #[.int .i64 (z : Int)] (w.drewN m) fun e w' => e = .returned (.int .i64 (bs : Int)) ∧ ∃ n, w' = w.drewN n from fun m => (blocks_any _ z (by omega)).mono fun e w' ⟨a, b⟩ => ⟨by rw [hbs]; exact a, m, b.symm⟩)
  clear h hfl hbs hfr hx5 BL
  have i1 : (bs : Int) ≤ 8 := by omega
  have i2 : (fl : Int) ≤ 8 := by omega
  have i3 : (fr : Int) ≤ 64 := by omega
  have hR : decide ((bs : Int) - (fl : Int) ≤ (fr : Int)) = decide (bs ≤ fl + fr) := by
    by_cases e : bs ≤ fl + fr
    · rw [decide_eq_true e, decide_eq_true (by omega)]
    · rw [decide_eq_false e, decide_eq_false (by omega)]
  go_enter Tryz.func65, Tryz.ntmps65
  go_wp2_with fail
  go_quiet ((first
    | (go_at_call 106; exact BK.out _)
    | (go_at_call 32; exact FR.out _)))
  go_wp2_with fail
  go_ret
  exact ⟨rfl, ⟨_, rfl⟩⟩
/-- A new store. -/
theorem pnew_any {N : Nat} (f : Fr w H A Q (St.new N)) : Calls Tryz.prog 71 #[.pointer (some ⟨H, 0, none⟩)] w fun e w' => ∃ S U, e = .returned (.pointer (some ⟨S, 0, none⟩)) ∧ PSo H w' U S ⟨[], N⟩ ∧ Below w.heap.size w w' ∧ ∀ i, U i → Blk H A Q i ∨ w.heap.size ≤ i := by
  have hmm := @run_makeMap Tryz.prog
  obtain ⟨g, hg⟩ : ∃ g, g = w.heap.size := ⟨_, rfl⟩
  have FIN := hide (show ∀ W, W = (w.alloc (.map #[] 0)).alloc (.cells #[.pointer (some ⟨H, 0, none⟩), .map (some w.heap.size)] 122) → ∃ S U, Ending.returned (.pointer (some ⟨w.heap.size + 1, 0, none⟩)) = .returned (.pointer (some ⟨S, 0, none⟩)) ∧ PSo H W U S ⟨[], N⟩ ∧ Below w.heap.size w W ∧ ∀ i, U i → Blk H A Q i ∨ w.heap.size ≤ i from by
    rintro W rfl
    have b1 := (Below.refl w.heap.size w).alloc (Nat.le_refl _) (.map #[] 0)
    have b2 := b1.alloc (by simp) (.cells #[.pointer (some ⟨H, 0, none⟩), .map (some w.heap.size)] 122)
    have hs : (w.alloc (.map #[] 0)).heap.size = w.heap.size + 1 := by simp
    have mp := (IW.made (enc := ptrE) (R := readP) w (n := w.heap.size) rfl).touch (S := fun _ => False) (Touch.of_below ((Below.refl (w.alloc (.map #[] 0)).heap.size _).alloc (Nat.le_refl _) (.cells #[.pointer (some ⟨H, 0, none⟩), .map (some w.heap.size)] 122))) (fun e => e)
    have lH := f.ltH
    have lA := f.ltA
    have lQ := f.ltQ
    refine ⟨w.heap.size + 1, fun i => Blk H A Q i ∨ i = w.heap.size ∨ i = w.heap.size + 1, rfl, ⟨A, Q, w.heap.size, [], St.new N, fun i => if i = w.heap.size + 1 then -1 else if i = w.heap.size then -2 else if i = H then -3 else if i = A then -4 else -5, ⟨⟨?_, mp, f.below b2, fun x hx => absurd hx List.not_mem_nil, List.nodup_nil, List.nodup_nil, fun x hx => absurd hx List.not_mem_nil, ⟨?_, ?_, ?_, ?_, ?_, fun x hx => absurd hx List.not_mem_nil⟩, ⟨.inr (.inr rfl), .inr (.inl rfl), fun i e => .inl e⟩, fun x hx => absurd hx List.not_mem_nil, fun i hi => ?_⟩, ⟨rfl, (fallen_len N N).symm, ⟨List.nodup_nil, fun x hx => absurd hx List.not_mem_nil, fun x hx => absurd hx List.not_mem_nil, fun x hx => absurd hx List.not_mem_nil⟩, fun x hx => absurd hx List.not_mem_nil, fun x hx => absurd hx List.not_mem_nil⟩⟩⟩, b2, fun i hi => ?_⟩
    · have := heap_alloc_new (w.alloc (.map #[] 0)) (.cells #[.pointer (some ⟨H, 0, none⟩), .map (some w.heap.size)] 122)
      rw [hs] at this; exact this
    · exact if_pos rfl
    · show (if w.heap.size = w.heap.size + 1 then _ else _) = _
      rw [if_neg (by omega), if_pos rfl]
    · show (if H = w.heap.size + 1 then _ else _) = _
      rw [if_neg (by omega), if_neg (by omega), if_pos rfl]
    · show (if A = w.heap.size + 1 then _ else _) = _
      rw [if_neg (by omega), if_neg (by omega), if_neg (fun e => f.ha e.symm), if_pos rfl]
    · show (if Q = w.heap.size + 1 then _ else _) = _
      rw [if_neg (by omega), if_neg (by omega), if_neg (fun e => f.hq e.symm), if_neg (fun e => f.aq e.symm)]
    · have : ((w.alloc (.map #[] 0)).alloc (.cells #[.pointer (some ⟨H, 0, none⟩), .map (some w.heap.size)] 122)).heap.size = w.heap.size + 2 := by simp
      rw [this]
      rcases hi with (rfl | rfl | rfl) | rfl | rfl <;> omega
    · rcases hi with h | h | h
      · exact .inl h
      · exact .inr (by omega)
      · exact .inr (by omega))
  clear f
  go_enter Tryz.func71, Tryz.ntmps71
  go_wp2_with fail
  go_ret
  exact FIN.out _ rfl
theorem few_in {l ks : List Int} (hn : ks.Nodup) (hs : ∀ k ∈ ks, k ∈ l) : ks.length ≤ l.length := by
  induction l generalizing ks with
  | nil =>
    cases ks with
    | nil => exact Nat.le_refl _
    | cons k t => exact absurd (hs k (List.mem_cons_self ..)) List.not_mem_nil
  | cons a l ih =>
    by_cases ha : a ∈ ks
    · have h1 := ih (hn.erase a) (fun k hk => by
        have h2 := (hn.mem_erase_iff).1 hk
        rcases List.mem_cons.1 (hs k h2.2) with e | e
        · exact absurd e h2.1
        · exact e)
      rw [List.length_erase_of_mem ha] at h1
      simp only [List.length_cons]
      omega
    · have h1 := ih hn (fun k hk => by
        rcases List.mem_cons.1 (hs k hk) with e | e
        · exact absurd (e ▸ hk) ha
        · exact e)
      simp only [List.length_cons]
      omega
set_option maxRecDepth 4000 in
theorem pmk_any (h : PSo H w U S s) {id : Int} (wi : (Lit.int .i64 id).wf = true) (hfew : s.l.length < 1000000) :
    Calls Tryz.prog 137 #[.pointer (some ⟨S, 0, none⟩), .int .i64 id] w (SideO (fun w' U' => PSo H w' U' S (mkS s id)) U w (.int .i64 (mkE s id : Nat))) := by
  by_cases h0 : id < 0
  · have hE : mkE s id = 2 := by unfold mkE; rw [if_pos h0]
    have FIN := hide (SideO.of_below (v := .int .i64 2) (P := fun w' U' => PSo H w' U' S s) h (Below.refl _ _))
    rw [show mkS s id = s from by unfold mkS; rw [hE]; rfl, hE]
    clear h hE wi hfew
    go_enter Tryz.func137, Tryz.ntmps137
    go_wp2_with fail
    go_ret
    exact FIN.out
  cases e : getFi s.l id with
  | some o =>
    have hE : mkE s id = 5 := by unfold mkE; rw [if_neg h0, e]; rfl
    have FIN := hide (SideO.of_below (v := .int .i64 5) (P := fun w' U' => PSo H w' U' S s) h (Below.refl _ _))
    rw [show mkS s id = s from by unfold mkS; rw [hE]; rfl, hE]
    obtain ⟨A, Q, M, p, x, q, st, tag, ex, rfl, ep, h⟩ := h.split e
    have lk := h.lookS wi ex ep
    have c1 := h.m.c1
    clear h hE wi hfew ex ep e
    go_enter Tryz.func137, Tryz.ntmps137
    go_wp2_with fail
    go_ret
    exact FIN.out
  | none =>
    have hE : mkE s id = 0 := by unfold mkE; rw [if_neg h0, e]; rfl
    have hM : mkS s id = ⟨s.l ++ [⟨id, []⟩], s.fr⟩ := by unfold mkS; rw [hE]; rfl
    have hgd : GoodSo (mkS s id) := (show GoodSo s from by obtain ⟨_, _, _, _, _, _, h⟩ := h; exact h.p.good).mk_ wi
    rw [hE, hM]
    rw [hM] at hgd
    obtain ⟨A, Q, M, xs, st, tag, h⟩ := h
    have lk := h.lookN wi e
    have c1 := h.m.c1
    have hne : ∀ y ∈ xs, y.id ≠ id := fi_none.1 (by rw [← h.p.l]; exact e)
    obtain ⟨b, hb⟩ : ∃ b, b = w.heap.size := ⟨_, rfl⟩
    obtain ⟨W, hW⟩ : ∃ W, W = w.alloc (.cells #[.int .i64 0, .slice none 0 0] 116) := ⟨_, rfl⟩
    have bW : Below w.heap.size w W := by rw [hW]; exact (Below.refl _ _).alloc (Nat.le_refl _) _
    have h2 := h.m.below bW
    obtain ⟨w2, r2, q2, g2⟩ := h2.mp.store kindP (t := 120) (e := 110) Tryz.underlying120 wi (fun ks hn hk => by
      have := few_in (l := xs.map Rfl.id) hn (fun k hk' => by
        obtain ⟨y, hy, e2⟩ := getP_is (hk k hk')
        rw [← e2]; exact List.mem_map_of_mem hy)
      rw [List.length_map] at this
      rw [h.p.l, List.length_map] at hfew
      omega) (some b)
    have c1' := h2.c1
    have gr2 : Touch (fun i => i = M) W w2 := Touch.of_grown g2 (fun g e => by injection e with e; exact e.symm)
    have FIN := hide (show SideO (fun w' U' => PSo H w' U' S ⟨s.l ++ [⟨id, []⟩], s.fr⟩) U w (.int .i64 0) (.returned (.int .i64 0)) w2 from by
      have sW : W.heap.size = b + 1 := by rw [hW, hb]; simp
      have hWb : W.heap[b]? = some (.cells #[.int .i64 0, .slice none 0 0] 116 (0, 0)) := by rw [hW, hb]; exact heap_alloc_new _ _
      have ltM := h.m.lt M h.m.us.2.1
      have oldT : ∀ i, U i → (if i = b then 2 * id else tag i) = tag i := fun i hi => if_neg (by have := h.m.lt i hi; omega)
      have tM : ∀ i, i = M → tag i = -2 := fun i e => by rw [e]; exact h.m.tg.m
      have nb : ¬ b = M := by omega
      have e0 : fss (xs ++ [(⟨id, [], none, b, [], none, 0⟩ : Rfl)]) = fss xs := by simp [fss]
      refine ⟨rfl, fun i => U i ∨ i = b, ⟨A, Q, M, xs ++ [⟨id, [], none, b, [], none, 0⟩], st, fun i => if i = b then 2 * id else tag i, ⟨⟨?_, ?_, ?_, fun y hy => ?_, ?_, by rw [e0]; exact h.m.nod, by rw [e0]; exact h.m.tkn, ⟨?_, ?_, ?_, ?_, ?_, fun y hy => ?_⟩, ⟨.inl h.m.us.1, .inl h.m.us.2.1, fun i e => .inl (h.m.us.2.2 i e)⟩, fun y hy => ?_, fun i hi => ?_⟩, ⟨?_, h.p.fr, hgd, fun y hy => ?_, fun y hy => ?_⟩⟩⟩, ?_, fun i hi => hi.imp (fun e => e) (fun e => by omega)⟩
      · exact (gr2.block S (Nat.lt_of_lt_of_le (h.m.lt S h.m.us.1) bW.size) (fun e => by have := tM S e; have := h.m.tg.s; omega)).trans h2.hd
      · rw [getP_add (x := (⟨id, [], none, b, [], none, 0⟩ : Rfl)) hne]; exact q2
      · exact h2.fr.touch gr2 (fun i e => fun e2 => by
          have t := tM i e2
          rcases e with rfl | rfl | rfl
          · have := h.m.tg.h; omega
          · have := h.m.tg.a; omega
          · have := h.m.tg.q; omega)
      · rcases List.mem_append.1 hy with hy | hy
        · obtain ⟨iy, ty, fy⟩ := h.m.tg.x y hy
          exact (h2.ok y hy).touch gr2 (fun e => by have := tM _ e; omega) (fun g hg e => by have := tM _ e; have := fy g hg; omega)
        · simp only [List.mem_singleton] at hy
          subst hy
          exact ⟨(gr2.block b (by omega) nb).trans hWb, World.ownsRow_nil _ _ _ _⟩
      · rw [List.map_append, List.nodup_append]
        refine ⟨h.m.idn, by simp, fun a ha c hc => ?_⟩
        simp at hc
        obtain ⟨y, hy, e2⟩ := List.mem_map.1 ha
        rw [hc, ← e2]; exact hne y hy
      · exact (oldT S h.m.us.1).trans h.m.tg.s
      · exact (oldT M h.m.us.2.1).trans h.m.tg.m
      · exact (oldT H (h.m.us.2.2 H (.inl rfl))).trans h.m.tg.h
      · exact (oldT A (h.m.us.2.2 A (.inr (.inl rfl)))).trans h.m.tg.a
      · exact (oldT Q (h.m.us.2.2 Q (.inr (.inr rfl)))).trans h.m.tg.q
      · rcases List.mem_append.1 hy with hy | hy
        · obtain ⟨iy, ty, fy⟩ := h.m.tg.x y hy
          exact ⟨iy, (oldT _ (h.m.ux y hy).1).trans ty, fun g hg => (oldT g ((h.m.ux y hy).2 g hg)).trans (fy g hg)⟩
        · simp only [List.mem_singleton] at hy
          subst hy
          exact ⟨by show 0 ≤ id; omega, if_pos rfl, fun g hg => by cases hg⟩
      · rcases List.mem_append.1 hy with hy | hy
        · exact ⟨.inl (h.m.ux y hy).1, fun g hg => .inl ((h.m.ux y hy).2 g hg)⟩
        · simp only [List.mem_singleton] at hy
          subst hy
          exact ⟨.inr rfl, fun g hg => by cases hg⟩
      · have s2 := gr2.size
        rcases hi with hi | hi
        · have := h.m.lt i hi; omega
        · omega
      · rw [h.p.l, List.map_append]; rfl
      · rcases List.mem_append.1 hy with hy | hy
        · exact h.p.blk y hy
        · simp only [List.mem_singleton] at hy
          subst hy
          show 0 = blkN 0; decide
      · rcases List.mem_append.1 hy with hy | hy
        · exact h.p.byt y hy
        · simp only [List.mem_singleton] at hy
          subst hy
          intro j hj; exact absurd hj (Nat.not_lt_zero _)
      · exact (Touch.of_below bW).trans gr2 (fun i e => .inl (by rw [e]; exact h.m.us.2.1)))
    clear q2 g2 gr2 hgd hM hE hne h2 h hfew e wi
    subst hW
    subst hb
    have r3 : (Instr.mapUpdate 120 (.map (some M)) (.int .i64 id) (.pointer (some ⟨w.heap.size, 0, none⟩))).run Tryz.prog (w.alloc (.cells #[.int .i64 0, .slice none 0 0] 116)) = .ok () w2 := r2
    clear r2
    go_enter Tryz.func137, Tryz.ntmps137
    go_wp2_with fail
    go_ret
    exact FIN.out
end
end Go.Proofs.YtndfnglcichngaaGreatDoor
namespace Go.Proofs.YtndfnglcichngaaGreatDoor
open Go.ChangeShapes Go.WideShapes Go.ChangeAt Go.RowKit Go.Maps
set_option linter.unusedVariables false
set_option linter.unusedSimpArgs false
/-- k of the frames are given back. -/
structure Gvp (w W : World) (H A Q : Nat) (st : St) (F : List Nat) (k : Nat) (st' : St) : Prop where
  fr : Fr W H A Q st'
  tch : Touch (Blk H A Q) w W
  n : st'.n = st.n
  len : st'.fr.length = st.fr.length + k
  tk : ∀ f, f ∉ F.take k → st'.tk f = st.tk f
  bt : ∀ f, f ∉ F.take k → st'.bt f = st.bt f
theorem Gvp.next {w W W' : World} {H A Q : Nat} {st st' : St} {F : List Nat} {k f : Nat} (h : Gvp w W H A Q st F k st') (hf : F[k]? = some f) (r : Fr W' H A Q (st'.give f)) (u : Touch (Blk H A Q) W W') : Gvp w W' H A Q st F (k + 1) (st'.give f) := by
  have hin : f ∈ F.take (k + 1) := by
    rw [List.take_add_one, hf]; simp
  have hsub : ∀ g, g ∉ F.take (k + 1) → g ∉ F.take k ∧ g ≠ f := fun g hg => ⟨fun e => hg (by rw [List.take_add_one]; exact List.mem_append_left _ e), fun e => hg (e ▸ hin)⟩
  refine ⟨r, h.tch.trans u (fun i e => .inl e), h.n, ?_, fun g hg => ?_, fun g hg => ?_⟩
  · show (st'.fr ++ [f]).length = _
    rw [List.length_append, h.len]; rfl
  · show upd st'.tk f false g = _
    rw [upd_other _ _ (hsub g hg).2]; exact h.tk g (hsub g hg).1
  · show upd st'.bt f _ g = _
    rw [upd_other _ _ (hsub g hg).2]; exact h.bt g (hsub g hg).1
section
variable {w : World} {U : Nat → Prop} {H S A Q M : Nat} {s : So} {xs p q : List Rfl} {x : Rfl} {st : St} {tag : Nat → Int}
theorem SpM.apart (h : SpM w U H S A Q M (p ++ x :: q) st tag) : (∀ i, Blk H A Q i → i ≠ S ∧ i ≠ M ∧ i ≠ x.bc ∧ x.fv.ownBlock ≠ some i) ∧ x.bc ≠ S ∧ x.bc ≠ M ∧ x.fv.ownBlock ≠ some S ∧ x.fv.ownBlock ≠ some x.bc := by
  obtain ⟨ix, tx, fx⟩ := h.tg.x x mid_of
  have tB : ∀ i, Blk H A Q i → tag i = -3 ∨ tag i = -4 ∨ tag i = -5 := by
    rintro i (rfl | rfl | rfl)
    · exact .inl h.tg.h
    · exact .inr (.inl h.tg.a)
    · exact .inr (.inr h.tg.q)
  have t1 := h.tg.s
  have t2 := h.tg.m
  refine ⟨fun i hi => ⟨fun e => ?_, fun e => ?_, fun e => ?_, fun e => ?_⟩, fun e => ?_, fun e => ?_, fun e => ?_, fun e => ?_⟩
  · have := tB i hi; rw [e] at this; omega
  · have := tB i hi; rw [e] at this; omega
  · have := tB i hi; rw [e] at this; omega
  · have := tB i hi; have := fx i e; omega
  · rw [e] at tx; omega
  · rw [e] at tx; omega
  · have := fx _ e; omega
  · have := fx _ e; omega
/-- File id is another one now. -/
def CutAt (w w' : World) (U : Nat → Prop) (H S A Q M : Nat) (s : So) (p q : List Rfl) (id : Int) : Prop := ∃ U' x' st' tag', x'.id = id ∧ SpAt w' U' H S A Q M s (p ++ x' :: q) st' tag' ∧ Touch U w w' ∧ ∀ i, U' i → U i ∨ w.heap.size ≤ i
theorem fss_other (h : (fss (p ++ x :: q)).Nodup) {y : Rfl} (hy : y ∈ p ∨ y ∈ q) {f : Nat} (hf : f ∈ y.F) : f ∉ x.F := by
  rw [fss_mid, List.nodup_append] at h
  intro e
  rcases hy with hy | hy
  · exact h.2.2 f (List.mem_flatMap.2 ⟨y, hy, hf⟩) f (List.mem_append_left _ e) rfl
  · exact (List.nodup_append.1 h.2.1).2.2 f e f (List.mem_flatMap.2 ⟨y, hy, hf⟩) rfl
theorem pct_gone (h : PSo H w U S s) {id : Int} (wi : (Lit.int .i64 id).wf = true) (e : getFi s.l id = none) :
    Calls Tryz.prog 56 #[.pointer (some ⟨S, 0, none⟩), .int .i64 id] w fun e w' => e = .returned (.int .i64 4) ∧ w = w' := by
  have FD := hide (find_none h wi e)
  clear h e wi
  go_enter Tryz.func56, Tryz.ntmps56
  go_wp2_with (go_at_call 64; refine FD.out.mono ?_; rintro e w' ⟨rfl, rfl⟩)
  go_ret
  exact ⟨rfl, rfl⟩
set_option maxRecDepth 10000 in
set_option maxHeartbeats 4000000 in
theorem pct_some {id : Int} (wi : (Lit.int .i64 id).wf = true) (h : SpAt w U H S A Q M s (p ++ x :: q) st tag) (ex : x.id = id) (ep : ∀ y ∈ p, y.id ≠ id) :
    Calls Tryz.prog 56 #[.pointer (some ⟨S, 0, none⟩), .int .i64 id] w fun e w' => e = .returned (.int .i64 0) ∧ CutAt w w' U H S A Q M (ctS s id) p q id := by
  have FD := hide (find_some h wi ex ep)
  have HH := hide h
  have EX := hide ex
  have EP := hide ep
  have OK := h.m.ok x mid_of
  have AP := hide h.m.apart
  have fz := fun j => OK.f j
  obtain ⟨L, hL⟩ : ∃ L, L = x.F.length := ⟨_, rfl⟩
  have FN := hide (show x.F.Nodup from by have := h.m.nod; rw [fss_mid, List.nodup_append] at this; exact (List.nodup_append.1 this.2.1).1)
  have FT := hide (show ∀ f ∈ x.F, f < st.n ∧ st.tk f = true from fun f hf => h.m.tkn f (by rw [fss_mid]; exact List.mem_append_right _ (List.mem_append_left _ hf)))
  have l8 : (L : Int) ≤ 8 := by
    have : x.F.length ≤ 8 := by rw [h.p.blk x mid_of]; exact blkN_le8 _ (h.p.good.le x.fi (by rw [h.p.l]; exact List.mem_map_of_mem mid_of))
    omega
  have G0 := hide (show Gvp w w H A Q st x.F 0 st from ⟨h.m.fr, Touch.refl _ _, rfl, rfl, fun _ _ => rfl, fun _ _ => rfl⟩)
  have CC := hide (show ∀ W, Touch (Blk H A Q) w W → W.cell? ⟨S, 0, none⟩ = some (.pointer (some ⟨H, 0, none⟩)) ∧ W.heap[x.bc]? = some (.cells #[.int .i64 (x.b.length : Nat), .slice x.fa L x.fc] 116 (0, 0)) ∧ Ints .i64 W x.fa L (nums x.F) from fun W u => by
    refine ⟨u.cell h.m.c0 (fun e => ((AP.out.1 _ e).1 rfl)), ?_, ?_⟩
    · rw [u.block x.bc (lt_of_heap OK.hd) (fun e => (AP.out.1 _ e).2.2.1 rfl), OK.hd, hL]; rfl
    · obtain ⟨A', C', e, i, _⟩ := own_ints (u.own OK.fs (fun g hg e => (AP.out.1 g e).2.2.2 hg))
      have e' : Value.slice x.fa x.F.length x.fc = Value.slice A' x.F.length C' := e
      injection e' with e1 _ e2
      subst e1 e2
      rw [hL]; exact i)
  have HL := hide hL
  clear h OK fz ex ep hL wi
  generalize x.fa = fa at *
  generalize x.fc = fc at *
  obtain ⟨c0, hB, -⟩ := CC.out w (Touch.refl _ _)
  have c1 : w.cell? ⟨x.bc, 1, none⟩ = some (.slice fa L fc) := by rw [cell_of_row _ _ _ _ _ _ hB]; rfl
  clear hB
  go_enter Tryz.func56, Tryz.ntmps56
  go_wp2_with (go_at_call 64; refine FD.out.mono ?_; rintro e w' ⟨rfl, rfl⟩)
  go_loopw [23] (fun v wr => ∃ (k : Nat) (st' : St), k ≤ L ∧ v = .int .i64 (k : Int) ∧ Hid (Gvp w wr H A Q st x.F k st')) (fun v _ => L - (intOf v).toNat)
  case atStart => exact ⟨0, _, Nat.zero_le _, rfl, G0⟩
  case round =>
    clear G0 c0 c1
    obtain ⟨k, st', hk, rfl, hG⟩ := hrel
    obtain ⟨c0, hB, hI⟩ := CC.out wr hG.out.tch
    have k0 : (0 : Int) ≤ (k : Int) := by omega
    by_cases hkl : k < L
    · have k1 : (k : Int) < (L : Int) := by omega
      obtain ⟨gf, go, rfl, hc⟩ := hI.2 (by omega)
      have hfk : x.F[k]? = some (x.F[k]'(by have := HL.out; omega)) := List.getElem?_eq_getElem _
      have c7 := hc k hkl
      rw [show (nums x.F).getD k 0 = ((x.F[k]'(by have := HL.out; omega) : Nat) : Int) from by simp [nums, List.getD, hfk]] at c7
      generalize (x.F[k]'(by have := HL.out; omega)) = f at *
      have ff := FT.out f (List.mem_of_getElem? hfk)
      have tk' : st'.tk f = true := by rw [hG.out.tk f (take_not FN.out hfk)]; exact ff.2
      have GV := hide (give_ok hG.out.fr f (by rw [hG.out.n]; exact ff.1) tk')
      have HF := hide hfk
      clear hc ff tk' hfk hI hB
      go_wp2_with (go_at_call 98; refine GV.out.mono ?_; rintro e w2 ⟨rfl, r2, u2⟩; have G2 := hide (hG.out.next HF.out r2 u2); clear r2 u2)
      go_roundw
      case rel => exact ⟨k + 1, _, by omega, by go_num, G2.out⟩
      case measure => simp [intOf]; omega
    · obtain rfl : k = L := by omega
      have k1 : ¬ (k : Int) < (k : Int) := by omega
      have e0 : wr.cell? ⟨x.bc, 0, none⟩ = some (.int .i64 (x.b.length : Nat)) := by rw [cell_of_row _ _ _ _ _ _ hB]; rfl
      have e1 : wr.cell? ⟨x.bc, 1, none⟩ = some (.slice fa k fc) := by rw [cell_of_row _ _ _ _ _ _ hB]; rfl
      have HB := hide hB
      have hB' := hB
      clear hkl hk hI hB
      have z0 : wr.frozen? ⟨x.bc, 0, none⟩ = false := frozen_of_row _ _ _ _ _ hB'
      have z1 : wr.frozen? ⟨x.bc, 1, none⟩ = false := frozen_of_row _ _ _ _ _ hB'
      clear hB'
      go_wp2_with fail
      go_ret
      refine ⟨rfl, ?_⟩
      have ex := EX.out
      have HB2 := heap_setCell_same _ _ 1 _ _ (.slice none 0 0) (heap_setCell_same _ _ 0 _ _ (.int .i64 0) HB.out)
      have T2 : Touch (Tx H A Q x) w ((wr.setCell ⟨x.bc, 0, none⟩ (.int .i64 0)).setCell ⟨x.bc, 1, none⟩ (.slice none 0 0)) := ((hG.out.tch.mono (fun i e => .inl e)).setCell (p := ⟨x.bc, 0, none⟩) (.inr (.inl rfl)) _).setCell (p := ⟨x.bc, 1, none⟩) (.inr (.inl rfl)) _
      have T3 : Touch (fun i => i = x.bc) wr ((wr.setCell ⟨x.bc, 0, none⟩ (.int .i64 0)).setCell ⟨x.bc, 1, none⟩ (.slice none 0 0)) := ((Touch.refl (fun i => i = x.bc) wr).setCell (p := ⟨x.bc, 0, none⟩) rfl _).setCell (p := ⟨x.bc, 1, none⟩) rfl _
      have fr3 := hG.out.fr.touch T3 (fun i e e2 => (AP.out.1 i e).2.2.1 e2)
      have hk9 : x.F.take k = x.F := by rw [HL.out]; exact List.take_length
      have hsub : ∀ f, f ∈ fss (p ++ (⟨x.id, [], none, x.bc, [], none, 0⟩ : Rfl) :: q) → f ∈ fss (p ++ x :: q) ∧ f ∉ x.F := by
        intro f hf
        rw [fss_mid] at hf
        have nd := HH.out.m.nod
        rw [fss_mid, List.nodup_append] at nd
        rcases List.mem_append.1 hf with hf | hf
        · exact ⟨by rw [fss_mid]; exact List.mem_append_left _ hf, fun e => nd.2.2 f hf f (List.mem_append_left _ e) rfl⟩
        · have hf : f ∈ fss q := by simpa using hf
          exact ⟨by rw [fss_mid]; exact List.mem_append_right _ (List.mem_append_right _ hf), fun e => (List.nodup_append.1 nd.2.1).2.2 f e f hf rfl⟩
      obtain ⟨U', tag', hM, hT, hU⟩ := HH.out.m.turn (x' := ⟨x.id, [], none, x.bc, [], none, 0⟩) T2 fr3 ⟨HB2, World.ownsRow_nil _ _ _ _⟩ rfl rfl (fun g hg => by cases hg)
        (by
          have nd := HH.out.m.nod
          rw [fss_mid] at nd ⊢
          exact nd.sublist (List.Sublist.append (List.Sublist.refl _) (List.sublist_append_right _ _)))
        (fun f hf => by
          obtain ⟨h1, h2⟩ := hsub f hf
          rw [hG.out.n, hG.out.tk f (by rw [hk9]; exact h2)]
          exact HH.out.m.tkn f h1)
      refine ⟨U', ⟨x.id, [], none, x.bc, [], none, 0⟩, st', tag', ex, ⟨hM, ⟨?_, ?_, HH.out.p.good.ct id, fun y hy => ?_, fun y hy => ?_⟩⟩, hT, hU⟩
      · show putFi s.l id [] = _
        rw [HH.out.p.l, put_split ex EP.out, ← ex, List.map_append]; rfl
      · show s.fr + blkO (getFi s.l id) = _
        have hg : getFi s.l id = some x.b := by
          rw [HH.out.p.l, List.map_append]
          exact get_split ex EP.out
        rw [hg, hG.out.len, HH.out.p.fr, HL.out, HH.out.p.blk x mid_of]
        rfl
      · rcases mid_mem hy with rfl | hy
        · show 0 = blkN 0; decide
        · exact HH.out.p.blk y (by rcases hy with hy | hy; exact List.mem_append_left _ hy; exact List.mem_append_right _ (List.mem_cons_of_mem _ hy))
      · rcases mid_mem hy with rfl | hy
        · intro j hj; exact absurd hj (Nat.not_lt_zero _)
        · intro j hj
          have hy' : y ∈ p ++ x :: q := by rcases hy with hy | hy; exact List.mem_append_left _ hy; exact List.mem_append_right _ (List.mem_cons_of_mem _ hy)
          have hjF : j / 64 < y.F.length := by
            rw [HH.out.p.blk y hy']; unfold blkN; omega
          have hin : y.F.getD (j / 64) 0 ∈ y.F := by
            rw [List.getD_eq_getElem?_getD, List.getElem?_eq_getElem hjF]; exact List.getElem_mem _
          rw [hG.out.bt _ (by rw [hk9]; exact fss_other HH.out.m.nod hy hin)]
          exact HH.out.p.byt y hy' j hj
theorem pct_any (h : PSo H w U S s) {id : Int} (wi : (Lit.int .i64 id).wf = true) :
    Calls Tryz.prog 56 #[.pointer (some ⟨S, 0, none⟩), .int .i64 id] w (SideO (fun w' U' => PSo H w' U' S (ctS s id)) U w (.int .i64 (thE s id : Nat))) := by
  cases e : getFi s.l id with
  | none =>
    rw [ctS_none e, show thE s id = 4 from by unfold thE; rw [e]; rfl]
    refine (pct_gone h wi e).mono ?_
    rintro en w' ⟨rfl, rfl⟩
    exact SideO.of_below (P := fun w' U' => PSo H w' U' S s) h (Below.refl _ _)
  | some o =>
    rw [show thE s id = 0 from by unfold thE; rw [e]; rfl]
    obtain ⟨A, Q, M, p, x, q, st, tag, ex, rfl, ep, h⟩ := h.split e
    refine (pct_some wi h ex ep).mono ?_
    rintro en w' ⟨rfl, U', x', st', tag', e1, hD, u, sD⟩
    exact ⟨rfl, U', ⟨_, _, _, _, _, _, hD⟩, u, sD⟩
set_option maxRecDepth 4000 in
theorem pdr_any (h : PSo H w U S s) {id : Int} (wi : (Lit.int .i64 id).wf = true) :
    Calls Tryz.prog 111 #[.pointer (some ⟨S, 0, none⟩), .int .i64 id] w (SideO (fun w' U' => PSo H w' U' S (drS s id)) U w (.int .i64 (thE s id : Nat))) := by
  cases e : getFi s.l id with
  | none =>
    rw [drS_none e, show thE s id = 4 from by unfold thE; rw [e]; rfl]
    have FIN := hide (SideO.of_below (v := .int .i64 4) (P := fun w' U' => PSo H w' U' S s) h (Below.refl _ _))
    have CT := hide (pct_gone h wi e)
    clear h e wi
    go_enter Tryz.func111, Tryz.ntmps111
    go_wp2_with (go_at_call 56; refine CT.out.mono ?_; rintro e w' ⟨rfl, rfl⟩)
    go_ret
    exact FIN.out
  | some o =>
    rw [show thE s id = 0 from by unfold thE; rw [e]; rfl]
    obtain ⟨A, Q, M, p, x, q, st, tag, ex, rfl, ep, h⟩ := h.split e
    have CT := hide (pct_some wi h ex ep)
    have HH := hide h
    have WI := hide wi
    have EP := hide ep
    have EX := hide ex
    clear h e wi ex ep
    go_enter Tryz.func111, Tryz.ntmps111
    go_upto_region 4 with (go_at_call 56; refine CT.out.mono ?_; rintro e w1 ⟨rfl, hC⟩; have HC := hide hC; clear hC)
    obtain ⟨U1, x1, st1, tag1, e1, h1, u1, s1⟩ := HC.out
    have c1 := h1.m.c1
    obtain ⟨w2, r2, q2, g2⟩ := h1.m.mp.drop (t := 120) (e := 110) Tryz.underlying120 WI.out 0
    have H1 := hide h1
    have U1' := hide u1
    have S1 := hide s1
    have E1 := hide e1
    have Q2 := hide q2
    have G2 := hide g2
    clear h1 u1 s1 e1 q2 g2 HC CT
    go_wp2_with fail
    go_ret
    have gr2 : Touch (fun i => i = M) w1 w2 := Touch.of_grown G2.out (fun g e => by injection e with e; exact e.symm)
    have h1 := H1.out
    have sub : ∀ y, y ∈ p ++ q → y ∈ p ++ x1 :: q := fun y hy => by
      rcases List.mem_append.1 hy with hy | hy
      · exact List.mem_append_left _ hy
      · exact List.mem_append_right _ (List.mem_cons_of_mem _ hy)
    have tM : ∀ i, i = M → tag1 i = -2 := fun i e => by rw [e]; exact h1.m.tg.m
    refine ⟨rfl, U1, ⟨A, Q, M, p ++ q, st1, tag1, ⟨⟨?_, ?_, ?_, fun y hy => ?_, ?_, ?_, fun f hf => ?_, ⟨h1.m.tg.s, h1.m.tg.m, h1.m.tg.h, h1.m.tg.a, h1.m.tg.q, fun y hy => h1.m.tg.x y (sub y hy)⟩, h1.m.us, fun y hy => h1.m.ux y (sub y hy), fun i hi => Nat.lt_of_lt_of_le (h1.m.lt i hi) gr2.size⟩, ⟨?_, ?_, HH.out.p.good.dr id, fun y hy => h1.p.blk y (sub y hy), fun y hy => h1.p.byt y (sub y hy)⟩⟩⟩, U1'.out.trans gr2 (fun i e => ?_), S1.out⟩
    · exact (gr2.block S (lt_of_heap h1.m.hd) (fun e => by have := tM S e; have := h1.m.tg.s; omega)).trans h1.m.hd
    · rw [getP_del h1.m.idn, E1.out]; exact Q2.out
    · exact h1.m.fr.touch gr2 (fun i e e2 => by
        have t := tM i e2
        rcases e with rfl | rfl | rfl
        · have := h1.m.tg.h; omega
        · have := h1.m.tg.a; omega
        · have := h1.m.tg.q; omega)
    · obtain ⟨iy, ty, fy⟩ := h1.m.tg.x y (sub y hy)
      exact (h1.m.ok y (sub y hy)).touch gr2 (fun e => by have := tM _ e; omega) (fun g hg e => by have := tM _ e; have := fy g hg; omega)
    · have := h1.m.idn
      rw [List.map_append, List.map_cons] at this
      rw [List.map_append]
      exact this.sublist (List.Sublist.append (List.Sublist.refl _) (List.sublist_cons_self _ _))
    · have := h1.m.nod
      rw [fss_mid] at this
      rw [show fss (p ++ q) = fss p ++ fss q from by simp [fss]]
      exact this.sublist (List.Sublist.append (List.Sublist.refl _) (List.sublist_append_right _ _))
    · refine h1.m.tkn f ?_
      rw [show fss (p ++ q) = fss p ++ fss q from by simp [fss]] at hf
      rw [fss_mid]
      rcases List.mem_append.1 hf with hf | hf
      · exact List.mem_append_left _ hf
      · exact List.mem_append_right _ (List.mem_append_right _ hf)
    · show delFi s.l id = _
      rw [HH.out.p.l, del_split EX.out EP.out]
    · exact h1.p.fr
    · by_cases hi : i < w.heap.size
      · refine .inl ?_
        have := S1.out i (by rw [e]; exact h1.m.us.2.1)
        rcases this with h | h
        · exact h
        · omega
      · exact .inr (by omega)
end
end Go.Proofs.YtndfnglcichngaaGreatDoor
namespace Go.Proofs.YtndfnglcichngaaGreatDoor
open Go.ChangeShapes Go.WideShapes Go.ChangeAt Go.RowKit Go.Maps
set_option linter.unusedVariables false
set_option linter.unusedSimpArgs false
section
variable {w : World} {U : Nat → Prop} {H S A Q M : Nat} {s : So} {xs p q : List Rfl} {x : Rfl} {st : St} {tag : Nat → Int}
/-- k frames more. -/
structure Grp (w wr : World) (U : Nat → Prop) (H S A Q M : Nat) (p q : List Rfl) (x : Rfl) (st : St) (k : Nat) (U' : Nat → Prop) (x' : Rfl) (st' : St) (tag' : Nat → Int) : Prop where
  m : SpM wr U' H S A Q M (p ++ x' :: q) st' tag'
  tch : Touch U w wr
  sub : ∀ i, U' i → U i ∨ w.heap.size ≤ i
  id : x'.id = x.id
  bc : x'.bc = x.bc
  b : x'.b = x.b
  bt : st'.bt = st.bt
  F : ∃ E, x'.F = x.F ++ E ∧ E.length = k
  fr : st'.fr.length + k = st.fr.length
theorem Grp.next {wr w2 : World} {k : Nat} {U' U2 : Nat → Prop} {x' x2 : Rfl} {st' st2 : St} {tag' tag2 : Nat → Int} {f : Nat} (h : Grp w wr U H S A Q M p q x st k U' x' st' tag') (m : SpM w2 U2 H S A Q M (p ++ x2 :: q) st2 tag2) (t : Touch U' wr w2) (hs : ∀ i, U2 i → U' i ∨ wr.heap.size ≤ i)
    (e1 : x2.id = x'.id) (e2 : x2.bc = x'.bc) (e3 : x2.b = x'.b) (e4 : st2.bt = st'.bt) (e5 : x2.F = x'.F ++ [f]) (e6 : st2.fr.length + 1 = st'.fr.length) : Grp w w2 U H S A Q M p q x st (k + 1) U2 x2 st2 tag2 := by
  obtain ⟨E, hE, hl⟩ := h.F
  refine ⟨m, h.tch.trans t h.sub, fun i hi => ?_, e1.trans h.id, e2.trans h.bc, e3.trans h.b, e4.trans h.bt, ⟨E ++ [f], by rw [e5, hE, List.append_assoc], by simp [hl]⟩, by have := h.fr; omega⟩
  rcases hs i hi with e | e
  · exact h.sub i e
  · exact .inr (Nat.le_trans h.tch.size e)
/-- A frame is taken, and put to the file's. -/
theorem SpM.grown {w2 w3 : World} {f : Nat} {l : List Nat} {v : Value} (h : SpM w U H S A Q M (p ++ x :: q) st tag) (hfr : st.fr = l ++ [f]) (r : Fr w2 H A Q (st.take l f)) (u : Touch (Blk H A Q) w w2) (b3 : Touch (fun i => x.fv.ownBlock = some i) w2 w3)
    (own : w3.ownsRow 0 3 1 v (x.F.length + 1) ((nums (x.F ++ [f])).map (Value.int .i64))) (hv : v.ownBlock = x.fv.ownBlock ∨ ∃ g, v.ownBlock = some g ∧ w.heap.size ≤ g) :
    ∃ U' x' tag', SpM (w3.setCell ⟨x.bc, 1, none⟩ v) U' H S A Q M (p ++ x' :: q) (st.take l f) tag' ∧ Touch U w (w3.setCell ⟨x.bc, 1, none⟩ v) ∧ (∀ i, U' i → U i ∨ w.heap.size ≤ i) ∧ x'.id = x.id ∧ x'.bc = x.bc ∧ x'.b = x.b ∧ x'.F = x.F ++ [f] := by
  obtain ⟨a, c, rfl, _⟩ := own_sliceR own
  obtain ⟨apB, apS, apM, ap4, ap5⟩ := h.apart
  have hfree : st.tk f = false := (h.fr.good.free f (h.fr.good.lt f (by rw [hfr]; simp))).1 (by rw [hfr]; simp)
  have hfn : f < st.n := h.fr.good.lt f (by rw [hfr]; simp)
  have hnf : ∀ y ∈ fss (p ++ x :: q), y ≠ f := fun y hy e => by have := (h.tkn y hy).2; rw [e, hfree] at this; cases this
  have uS : Touch (fun i => i = x.bc) w3 (w3.setCell ⟨x.bc, 1, none⟩ (.slice a (x.F.length + 1) c)) := (Touch.refl (fun i => i = x.bc) w3).setCell (p := ⟨x.bc, 1, none⟩) rfl _
  have T : Touch (Tx H A Q x) w (w3.setCell ⟨x.bc, 1, none⟩ (.slice a (x.F.length + 1) c)) := ((u.mono (S' := Tx H A Q x) (fun i e => .inl e)).trans b3 (fun i e => .inl (.inr (.inr e)))).trans uS (fun i e => .inl (.inr (.inl e)))
  have hd2 : w3.heap[x.bc]? = some (.cells #[.int .i64 (x.b.length : Nat), x.fv] 116 (0, 0)) := by
    have h0 := (h.ok x mid_of).hd
    have l0 := lt_of_heap h0
    exact (b3.block x.bc (Nat.lt_of_lt_of_le l0 u.size) ap5).trans ((u.block x.bc l0 (fun e => (apB _ e).2.2.1 rfl)).trans h0)
  have hxB : (Value.slice a (x.F.length + 1) c).ownBlock ≠ some x.bc := by
    rcases hv with e | ⟨g, e, hg⟩
    · rw [e]; exact ap5
    · rw [e]; intro e2; injection e2 with e2; have := lt_of_heap (h.ok x mid_of).hd; omega
  have F1 : Fr (w3.setCell ⟨x.bc, 1, none⟩ (.slice a (x.F.length + 1) c)) H A Q (st.take l f) := by
    exact (r.touch b3 (fun i e e2 => (apB i e).2.2.2 e2)).touch uS (fun i e e2 => (apB i e).2.2.1 e2)
  have F2 : PflOk (w3.setCell ⟨x.bc, 1, none⟩ (.slice a (x.F.length + 1) c)) (⟨x.id, x.b, none, x.bc, x.F ++ [f], a, c⟩ : Rfl) := by
    refine ⟨?_, ?_⟩
    · rw [show (⟨x.id, x.b, none, x.bc, x.F ++ [f], a, c⟩ : Rfl).fv = .slice a (x.F.length + 1) c from by unfold Rfl.fv; simp]
      exact heap_setCell_same _ _ 1 _ _ _ hd2
    · rw [show (⟨x.id, x.b, none, x.bc, x.F ++ [f], a, c⟩ : Rfl).fv = .slice a (x.F.length + 1) c from by unfold Rfl.fv; simp, show (⟨x.id, x.b, none, x.bc, x.F ++ [f], a, c⟩ : Rfl).F.length = x.F.length + 1 from by simp]
      exact uS.own own (fun g hg e => hxB (by rw [hg, e]))
  have F3 : ∀ g, (⟨x.id, x.b, none, x.bc, x.F ++ [f], a, c⟩ : Rfl).fv.ownBlock = some g → x.fv.ownBlock = some g ∨ w.heap.size ≤ g := fun g hg => by
    have e : (⟨x.id, x.b, none, x.bc, x.F ++ [f], a, c⟩ : Rfl).fv.ownBlock = (Value.slice a (x.F.length + 1) c).ownBlock := by unfold Rfl.fv; cases a <;> rfl
    rw [e] at hg
    rcases hv with e2 | ⟨g', e2, hg'⟩
    · exact .inl (e2 ▸ hg)
    · rw [e2] at hg; injection hg with hg; exact .inr (by omega)
  have F4 : (fss (p ++ (⟨x.id, x.b, none, x.bc, x.F ++ [f], a, c⟩ : Rfl) :: q)).Nodup := by
    have nd := h.nod
    rw [fss_mid] at nd hnf ⊢
    show (fss p ++ ((x.F ++ [f]) ++ fss q)).Nodup
    rw [List.append_assoc, List.singleton_append]
    have nd1 := List.nodup_append.1 nd
    have nd2 := List.nodup_append.1 nd1.2.1
    rw [List.nodup_append]
    refine ⟨nd1.1, ?_, fun a ha b hb => ?_⟩
    · rw [List.nodup_append]
      refine ⟨nd2.1, List.nodup_cons.2 ⟨fun e => hnf f (by simp [e]) rfl, nd2.2.1⟩, fun a ha b hb => ?_⟩
      rcases List.mem_cons.1 hb with rfl | hb
      · exact hnf a (by simp [ha])
      · exact nd2.2.2 a ha b hb
    · rcases List.mem_append.1 hb with hb | hb
      · exact nd1.2.2 a ha b (List.mem_append_left _ hb)
      · rcases List.mem_cons.1 hb with rfl | hb
        · exact hnf a (by simp [ha])
        · exact nd1.2.2 a ha b (List.mem_append_right _ hb)
  have F5 : ∀ y ∈ fss (p ++ (⟨x.id, x.b, none, x.bc, x.F ++ [f], a, c⟩ : Rfl) :: q), y < (st.take l f).n ∧ (st.take l f).tk y = true := fun y hy => by
    rw [fss_mid] at hy
    show y < st.n ∧ upd st.tk f true y = true
    by_cases e : y = f
    · subst e; exact ⟨hfn, upd_same _ _ _⟩
    · rw [upd_other _ _ e]
      refine h.tkn y ?_
      rw [fss_mid]
      have hy' : y ∈ fss p ++ ((x.F ++ [f]) ++ fss q) := hy
      simp at hy' ⊢
      rcases hy' with hy' | hy' | hy' | hy'
      · exact .inl hy'
      · exact .inr (.inl hy')
      · exact absurd hy' e
      · exact .inr (.inr hy')
  obtain ⟨U', tag', h1, h2, h3⟩ := h.turn T F1 F2 rfl rfl F3 F4 F5
  exact ⟨U', _, tag', h1, h2, h3, rfl, rfl, rfl, rfl⟩
/-- The file's size is another one. -/
theorem SpM.sized {nb : List Int} (h : SpM w U H S A Q M (p ++ x :: q) st tag) :
    ∃ U' tag', SpM (w.setCell ⟨x.bc, 0, none⟩ (.int .i64 (nb.length : Nat))) U' H S A Q M (p ++ ⟨x.id, nb, none, x.bc, x.F, x.fa, x.fc⟩ :: q) st tag' ∧ Touch U w (w.setCell ⟨x.bc, 0, none⟩ (.int .i64 (nb.length : Nat))) ∧ ∀ i, U' i → U i ∨ w.heap.size ≤ i := by
  obtain ⟨apB, apS, apM, ap4, ap5⟩ := h.apart
  have uS : Touch (fun i => i = x.bc) w (w.setCell ⟨x.bc, 0, none⟩ (.int .i64 (nb.length : Nat))) := (Touch.refl (fun i => i = x.bc) w).setCell (p := ⟨x.bc, 0, none⟩) rfl _
  refine h.turn (uS.mono (fun i e => .inr (.inl e))) (h.fr.touch uS (fun i e e2 => (apB i e).2.2.1 e2)) ⟨heap_setCell_same _ _ 0 _ _ _ (h.ok x mid_of).hd, uS.own (h.ok x mid_of).fs (fun g hg e => ap5 (by rw [← e]; exact hg))⟩ rfl rfl (fun g hg => .inl hg) (by have := h.nod; rw [fss_mid] at this ⊢; exact this) (fun f hf => h.tkn f (by rw [fss_mid] at hf ⊢; exact hf))
def GrownTo (w w' : World) (U : Nat → Prop) (H S A Q M : Nat) (p q : List Rfl) (x : Rfl) (st : St) (nb : List Int) : Prop :=
  ∃ U' x' st' tag', SpM w' U' H S A Q M (p ++ x' :: q) st' tag' ∧ Touch U w w' ∧ (∀ i, U' i → U i ∨ w.heap.size ≤ i) ∧ x'.id = x.id ∧ x'.bc = x.bc ∧ x'.b = nb ∧ x'.F.length = blkN nb.length ∧ st'.bt = st.bt ∧ (∃ E, x'.F = x.F ++ E) ∧ st'.fr.length + (blkN nb.length - blkN x.b.length) = st.fr.length
def lenAt (v : Option Value) : Nat := match v with
  | some (.slice _ n _) => n
  | _ => 0
theorem num_one (w : World) (n f : Nat) (hn : n = w.heap.size) : Ints .i64 (w.alloc (.cells #[.int .i64 (f : Int)] 3)) (some ⟨n, 0, none⟩) 1 [(f : Int)] := by
  subst hn
  refine ⟨rfl, fun _ => ⟨_, _, rfl, fun j hj => ?_⟩⟩
  obtain rfl : j = 0 := by omega
  rw [cell_of_row _ _ _ _ _ _ (heap_alloc_new _ _)]; rfl
set_option maxRecDepth 10000 in
set_option maxHeartbeats 4000000 in
theorem grow_any (h : SpM w U H S A Q M (p ++ x :: q) st tag) (hblk : x.F.length = blkN x.b.length) (hx5 : x.b.length ≤ 512) {z : Nat} (hz : z ≤ 512) (hroom : blkN z ≤ x.F.length + st.fr.length) {nb : List Int} (hnb : nb.length = max x.b.length z) :
    Calls Tryz.prog 66 #[.pointer (some ⟨S, 0, none⟩), .pointer (some ⟨x.bc, 0, none⟩), .int .i64 (z : Int)] w fun e w' => e = .returned (.tuple #[]) ∧ GrownTo w w' U H S A Q M p q x st nb := by
  obtain ⟨bz, hbz⟩ : ∃ bz, bz = blkN z := ⟨_, rfl⟩
  obtain ⟨fl, hfl⟩ : ∃ fl, fl = x.F.length := ⟨_, rfl⟩
  obtain ⟨ol, hol⟩ : ∃ ol, ol = x.b.length := ⟨_, rfl⟩
  have hmx : blkN nb.length = max fl bz := by rw [hnb, hfl, hblk, hbz]; unfold blkN; omega
  have FACT := hide (show bz = blkN z ∧ fl = x.F.length ∧ ol = x.b.length ∧ bz ≤ fl + st.fr.length ∧ ol ≤ 512 ∧ z ≤ 512 ∧ bz ≤ 8 ∧ fl ≤ 8 ∧ fl = blkN x.b.length ∧ nb.length = max ol z ∧ blkN nb.length = max fl bz from
    ⟨hbz, hfl, hol, by rw [hbz, hfl]; exact hroom, by rw [hol]; exact hx5, hz, by rw [hbz]; exact blkN_le8 _ hz, by rw [hfl, hblk]; exact blkN_le8 _ hx5, by rw [hfl, hblk], by rw [hol]; exact hnb, hmx⟩)
  have G0 := hide (show Grp w w U H S A Q M p q x st 0 U x st tag from ⟨h, Touch.refl _ _, fun i e => .inl e, rfl, rfl, rfl, rfl, ⟨[], by simp, rfl⟩, rfl⟩)
  clear h hblk hx5 hroom hnb hbz hfl hol hmx
  have z5 : (z : Int) ≤ 512 := by omega
  go_enter Tryz.func66, Tryz.ntmps66
  go_wp2_with fail
  go_loopw [6] (fun v wr => ∃ (k : Nat) (U' : Nat → Prop) (x' : Rfl) (st' : St) (tag' : Nat → Int), k ≤ bz - fl ∧ Hid (Grp w wr U H S A Q M p q x st k U' x' st' tag')) (fun v wr => lenAt (wr.cell? ⟨H, 1, none⟩))
  case atStart => exact ⟨0, _, _, _, _, Nat.zero_le _, G0.out⟩
  case round =>
    clear G0
    obtain ⟨k, U', x', st', tag', hk, hG⟩ := hrel
    have BK := hide (show ∀ m, Calls Tryz.prog 106 #[.int .i64 (z : Int)] (wr.drewN m) fun e w' => e = .returned (.int .i64 (bz : Int)) ∧ ∃ n, w' = wr.drewN n from fun m => (blocks_any _ z (by omega)).mono fun e w' ⟨a, b⟩ => ⟨by rw [FACT.out.1]; exact a, m, b.symm⟩)
    obtain ⟨fn, hfn⟩ : ∃ fn, fn = x'.F.length := ⟨_, rfl⟩
    have FN := hide (show fn = fl + k ∧ fn = x'.F.length from ⟨by obtain ⟨E, e1, e2⟩ := hG.out.F; rw [hfn, e1, List.length_append, e2, FACT.out.2.1], hfn⟩)
    have c1 := (hG.out.m.ok x' mid_of).c1
    rw [hG.out.bc] at c1
    unfold Rfl.fv at c1
    rw [← hfn] at c1
    have n1 : (bz : Int) ≤ 8 := by have := FACT.out; omega
    have n2 : (fn : Int) ≤ 16 := by have := FACT.out; have := FN.out; omega
    clear hfn
    by_cases hlt : fn < bz
    · have n3 : (fn : Int) < (bz : Int) := by omega
      obtain ⟨l, f, hfr⟩ : ∃ l f, st'.fr = l ++ [f] := by
        rcases List.eq_nil_or_concat st'.fr with e | ⟨l, f, e⟩
        · have h1 := hG.out.fr
          rw [e] at h1
          have h2 : 0 + k = st.fr.length := h1
          have := FACT.out; have := FN.out; omega
        · exact ⟨l, f, by rw [e, List.concat_eq_append]⟩
      have TK := hide (fun m => take_ok (hG.out.m.fr.below (below_drewN (Below.refl wr.heap.size wr) m)) hfr)
      have HFR := hide hfr
      have c0 := hG.out.m.c0
      have AP := hide hG.out.m.apart
      clear hfr
      go_upto_region 0 with fail
      go_quiet ((first
        | (go_at_call 106; exact BK.out _)))
      go_upto_region 2 with (go_at_call 107; refine (TK.out _).mono ?_; rintro e w2 ⟨rfl, r2, u2⟩; have R2 := hide r2; have U2 := hide (((Touch.refl (Blk H A Q) wr).drewN _).trans u2 (fun i e => .inl e)); clear r2 u2)
      obtain ⟨i0, hi0, hz0, hz1, hz2⟩ := info_parts int_info
      have OK := hG.out.m.ok x' mid_of
      have ev : x'.fv = .slice x'.fa fn x'.fc := by rw [FN.out.2]; rfl
      have EV := hide ev
      have EB := hide hG.out.bc
      have apx : ∀ i, Blk H A Q i → i ≠ x.bc ∧ x'.fv.ownBlock ≠ some i := fun i hi => by rw [← EB.out]; exact ⟨(AP.out.1 i hi).2.2.1, (AP.out.1 i hi).2.2.2⟩
      have CL := hide (fun (W : World) (u : Touch (Blk H A Q) wr W) => show W.cell? ⟨x.bc, 1, none⟩ = some (.slice x'.fa fn x'.fc) ∧ W.heap[x.bc]? = some (.cells #[.int .i64 (x'.b.length : Nat), .slice x'.fa fn x'.fc] 116 (0, 0)) ∧ W.ownsRow 0 3 1 (.slice x'.fa fn x'.fc) fn ((nums x'.F).map (Value.int .i64)) from by
        have h0 := OK.hd
        rw [EB.out, EV.out] at h0
        have h1 := (u.block x.bc (lt_of_heap h0) (fun e => (apx _ e).1 rfl)).trans h0
        have h2 := u.own OK.fs (fun g hg e => (apx g e).2 hg)
        rw [EV.out, ← FN.out.2] at h2
        exact ⟨by rw [cell_of_row _ _ _ _ _ _ h1]; rfl, h1, h2⟩)
      obtain ⟨e1, h1, h2⟩ := CL.out w2 U2.out
      have H1 := hide h1
      have H2 := hide h2
      have lB := lt_of_heap h1
      have e2 : (w2.alloc (.cells #[.int .i64 (f : Int)] 3)).cell? ⟨x.bc, 1, none⟩ = some (.slice x'.fa fn x'.fc) := ((Below.refl w2.heap.size w2).alloc (Nat.le_refl _) _).cell lB |>.trans e1
      have OW := hide (show (w2.alloc (.cells #[.int .i64 (f : Int)] 3)).ownsRow 0 3 1 (.slice x'.fa fn x'.fc) fn ((nums x'.F).map (Value.int .i64)) from (Touch.of_below (S := fun _ => False) ((Below.refl w2.heap.size w2).alloc (Nat.le_refl _) _)).own h2 (fun _ _ e => e))
      have NI := hide (num_one w2 w2.heap.size f rfl)
      have F16 := hide (show fn + 1 ≤ 17 from by omega)
      have LB := hide lB
      have HB1 := hide (show (w2.alloc (.cells #[.int .i64 (f : Int)] 3)).heap[x.bc]? = some (.cells #[.int .i64 (x'.b.length : Nat), .slice x'.fa fn x'.fc] 116 (0, 0)) from (heap_alloc_old _ _ lB).trans h1)
      clear h1 h2 OK ev apx lB c1 c0
      go_wp2_with (at_builtin; refine wpList_append_src rfl (.tmp 28) (.tmp 30) 114 rfl 0 3 i0 _ 8 Tryz.underlying114 hi0 hz0 hz1 hz2 rfl (.slice x'.fa fn x'.fc) fn ((nums x'.F).map (Value.int .i64)) rfl OW.out .i64 (some ⟨w2.heap.size, 0, none⟩) 1 1 [(f : Int)] rfl NI.out (fun e => by cases e) (by have := F16.out; unfold maxLen; omega) (by have := F16.out; omega) (Nat.zero_le _) ?_; intro v4 w4 o4 g4 t4; obtain ⟨a4, c4, rfl, -⟩ := own_sliceR o4; have O4 := hide o4; have G4 := hide g4; have T4 := hide t4; have HB4 := hide (show w4.heap[x.bc]? = some (.cells #[.int .i64 (x'.b.length : Nat), .slice x'.fa fn x'.fc] 116 (0, 0)) from ((Touch.of_grown (S := fun i => x'.fv.ownBlock = some i) g4 (fun g e => by rw [EV.out]; exact e)).block x.bc (by have := LB.out; simp; omega) (fun e => AP.out.2.2.2.2 (by rw [EB.out]; exact e))).trans HB1.out); have e4 : w4.cell? ⟨x.bc, 1, none⟩ = some (.slice x'.fa fn x'.fc) := (by rw [cell_of_row _ _ _ _ _ _ HB4.out]; rfl); have z4 : w4.frozen? ⟨x.bc, 1, none⟩ = false := frozen_of_row _ _ _ _ _ HB4.out; clear o4 g4 t4)
      have b3 : Touch (fun i => x'.fv.ownBlock = some i) w2 w4 := ((Touch.refl (fun i => x'.fv.ownBlock = some i) w2).alloc _).trans (Touch.of_grown (S := fun i => x'.fv.ownBlock = some i) G4.out (fun g e => by rw [EV.out]; exact e)) (fun i e => .inl e)
      have own4 : w4.ownsRow 0 3 1 (.slice a4 (fn + 1) c4) (x'.F.length + 1) ((nums (x'.F ++ [f])).map (Value.int .i64)) := by
        rw [← FN.out.2, show nums (x'.F ++ [f]) = nums x'.F ++ [(f : Int)] from by simp [nums], List.map_append]
        exact O4.out
      have hv4 : (Value.slice a4 (fn + 1) c4).ownBlock = x'.fv.ownBlock ∨ ∃ g, (Value.slice a4 (fn + 1) c4).ownBlock = some g ∧ wr.heap.size ≤ g := by
        rcases T4.out with e | e
        · exact .inl (by rw [e, EV.out])
        · exact .inr ⟨_, e, by have := U2.out.size; simp; omega⟩
      obtain ⟨U5, x5, tag5, m5, t5, s5, q1, q2, q3, q4⟩ := hG.out.m.grown HFR.out R2.out U2.out b3 own4 hv4
      rw [EB.out] at m5 t5
      have G5 := hide (hG.out.next m5 t5 s5 q1 q2 q3 rfl q4 (by rw [HFR.out]; show l.length + 1 = _; simp))
      have ME := hide (show lenAt ((w4.setCell ⟨x.bc, 1, none⟩ (.slice a4 (fn + 1) c4)).cell? ⟨H, 1, none⟩) < lenAt (wr.cell? ⟨H, 1, none⟩) from by
        rw [m5.fr.h1, hG.out.m.fr.h1, HFR.out]
        show l.length < (l ++ [f]).length
        simp)
      clear m5 t5 s5 q1 q2 q3 q4 b3 own4 hv4
      go_roundw
      case rel => exact ⟨k + 1, _, _, _, _, by have := FACT.out; have := FN.out; omega, G5.out⟩
      case measure => exact ME.out
    · have n3 : ¬ (fn : Int) < (bz : Int) := by omega
      have c0 := (hG.out.m.ok x' mid_of).c0
      have z0 := (hG.out.m.ok x' mid_of).f 0
      rw [hG.out.bc] at c0 z0
      rw [hG.out.b, ← FACT.out.2.2.1] at c0
      obtain ⟨nl, hnl⟩ : ∃ nl, nl = nb.length := ⟨_, rfl⟩
      have NL := hide (show nl = nb.length ∧ nl = max ol z from ⟨hnl, by rw [hnl]; exact FACT.out.2.2.2.2.2.2.2.2.2.1⟩)
      have m1 : (if (ol : Int) < (z : Int) then (z : Int) else (ol : Int)) = (nl : Int) := by have := NL.out; split <;> omega
      have m2 : (if ol < z then (z : Int) else (ol : Int)) = (nl : Int) := by have := NL.out; split <;> omega
      have m3 : (ol : Int) ≤ 512 := by have := FACT.out; omega
      clear hnl
      go_upto_region 0 with fail
      go_quiet ((first
        | (go_at_call 106; exact BK.out _)))
      go_wp2_with fail
      refine bodyPost_end (results_none rfl _ _ _) rfl ?_
      refine ⟨rfl, ?_⟩
      have hd := hG.out.m.below (below_drewN (Below.refl wr.heap.size wr) nq)
      obtain ⟨U5, tag5, m5, t5, s5⟩ := hd.sized (nb := nb)
      rw [hG.out.bc, ← NL.out.1] at m5 t5
      obtain ⟨E, hE, hEl⟩ := hG.out.F
      refine ⟨U5, _, st', tag5, m5, hG.out.tch.trans (((Touch.refl U' wr).drewN nq).trans t5 (fun i e => .inl e)) hG.out.sub, fun i hi => ?_, hG.out.id, rfl, rfl, ?_, hG.out.bt, ⟨E, hE⟩, ?_⟩
      · rcases s5 i hi with e | e
        · exact hG.out.sub i e
        · exact .inr (Nat.le_trans hG.out.tch.size e)
      · show x'.F.length = _
        have := FACT.out; have := FN.out; omega
      · have := FACT.out; have := FN.out; have := hG.out.fr; omega
end
end Go.Proofs.YtndfnglcichngaaGreatDoor
