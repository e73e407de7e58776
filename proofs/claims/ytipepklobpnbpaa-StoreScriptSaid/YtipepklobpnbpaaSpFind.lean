/-
  The program's store in memory: a struct, a map to structs, the frames.
  The program's store: find, Size, Blocks, room, New; of no store.
-/
import Derived.Test.YtipepklobpnbpaaSoRefB
import Derived.Test.YtipepklobpnbpaaKMapW
import Derived.Test.YtipepklobpnbpaaFrOpsD
import Derived.Test.YtipepklobpnbpaaFrOpsE
import Derived.Deep.DeepCutAuto
import Derived.Deep.CutBlock
import Derived.Deep.RegionHeld3
namespace Go.Proofs.Ytipepklobpnbpaa
open Go.ChangeShapes Go.WideShapes Go.ChangeAt Go.RowKit Go.Maps
set_option linter.unusedVariables false
set_option linter.unusedSimpArgs false
/-- Pointers as values of a map. -/
def ptrV (x : Option Nat) : Value := .pointer (x.map fun b => ⟨b, 0, none⟩)
def ptrE (x : Option Nat) : DataW Unit := .lit (.int .i64 (match x with | none => -1 | some b => (b : Int)))
def readP (v : Value) : Option (DataW Unit × List MemPlace) := match v with
  | .pointer none => some (ptrE none, [])
  | .pointer (some ⟨b, 0, none⟩) => some (ptrE (some b), [])
  | _ => none
theorem kindP : Kind ptrV ptrE readP where
  puts := by intro x; cases x <;> rfl
  inv := by
    intro v z h
    unfold readP at h
    split at h
    · injection h with h; exact ⟨none, rfl, h.symm⟩
    · rename_i b; injection h with h; exact ⟨some b, rfl, h.symm⟩
    · cases h
  inj := by
    intro x y h
    unfold ptrE at h
    simp at h
    cases x <;> cases y <;> simp at h ⊢ <;> omega
/-- The files by their numbers: x.bc is the block of file x's struct. -/
def getP : List Rfl → Int → Option (Option Nat)
  | [], _ => none
  | x :: l, k => if x.id = k then some (some x.bc) else getP l k
theorem getP_none {l : List Rfl} {k : Int} (h : ∀ x ∈ l, x.id ≠ k) : getP l k = none := by
  induction l with
  | nil => rfl
  | cons x l ih =>
    show (if x.id = k then _ else _) = _
    rw [if_neg (h x (List.mem_cons_self ..))]
    exact ih (fun y hy => h y (List.mem_cons_of_mem _ hy))
theorem getP_split {p q : List Rfl} {x : Rfl} {k : Int} (hx : x.id = k) (hp : ∀ y ∈ p, y.id ≠ k) : getP (p ++ x :: q) k = some (some x.bc) := by
  induction p with
  | nil => exact if_pos hx
  | cons y p ih =>
    show (if y.id = k then _ else _) = _
    rw [if_neg (hp y (List.mem_cons_self ..))]
    exact ih (fun z hz => hp z (List.mem_cons_of_mem _ hz))
theorem getP_is {l : List Rfl} {k : Int} (h : (getP l k).isSome = true) : ∃ x ∈ l, x.id = k := by
  induction l with
  | nil => cases h
  | cons x l ih =>
    by_cases e : x.id = k
    · exact ⟨x, List.mem_cons_self .., e⟩
    · have h2 : (if x.id = k then some (some x.bc) else getP l k).isSome = true := h
      rw [if_neg e] at h2
      obtain ⟨y, hy, e2⟩ := ih h2
      exact ⟨y, List.mem_cons_of_mem _ hy, e2⟩
theorem getP_same {p q : List Rfl} {x x' : Rfl} (h1 : x'.id = x.id) (h2 : x'.bc = x.bc) : getP (p ++ x' :: q) = getP (p ++ x :: q) := by
  induction p with
  | nil => funext k; show (if x'.id = k then _ else _) = (if x.id = k then _ else _); rw [h1, h2]
  | cons y p ih => funext k; show (if y.id = k then _ else getP (p ++ x' :: q) k) = (if y.id = k then _ else getP (p ++ x :: q) k); rw [ih]
theorem getP_add {l : List Rfl} {x : Rfl} (h : ∀ y ∈ l, y.id ≠ x.id) : getP (l ++ [x]) = updF (getP l) x.id (some (some x.bc)) := by
  funext k
  unfold updF
  by_cases e : k = x.id
  · rw [if_pos e]
    exact getP_split e.symm (fun y hy => by rw [e]; exact h y hy)
  · rw [if_neg e]
    clear h
    induction l with
    | nil => exact if_neg (fun h => e h.symm)
    | cons y l ih => show (if y.id = k then _ else getP (l ++ [x]) k) = (if y.id = k then _ else getP l k); rw [ih]
theorem getP_del {p q : List Rfl} {x : Rfl} (h : ((p ++ x :: q).map Rfl.id).Nodup) : getP (p ++ q) = updF (getP (p ++ x :: q)) x.id none := by
  funext k
  unfold updF
  rw [List.map_append, List.map_cons, List.nodup_append] at h
  by_cases e : k = x.id
  · rw [if_pos e]
    refine getP_none fun y hy e2 => ?_
    rcases List.mem_append.1 hy with hy | hy
    · exact h.2.2 y.id (List.mem_map_of_mem hy) x.id (List.mem_cons_self ..) (e2.trans e)
    · exact (List.nodup_cons.1 h.2.1).1 (by rw [← e, ← e2]; exact List.mem_map_of_mem hy)
  · rw [if_neg e]
    clear h
    induction p with
    | nil =>
      show getP q k = (if x.id = k then _ else getP q k)
      rw [if_neg (fun h => e h.symm)]
    | cons y p ih => show (if y.id = k then _ else getP (p ++ q) k) = (if y.id = k then _ else getP (p ++ x :: q) k); rw [ih]
/-- A file in memory. -/
structure PflOk (w : World) (x : Rfl) : Prop where
  hd : w.heap[x.bc]? = some (.cells #[.int .i64 (x.b.length : Nat), x.fv] 79 (0, 0))
  fs : w.ownsRow 0 3 1 x.fv x.F.length ((nums x.F).map (Value.int .i64))
theorem PflOk.touch {S : Nat → Prop} {w w' : World} {x : Rfl} (h : PflOk w x) (u : Touch S w w') (d1 : ¬ S x.bc) (d2 : ∀ g, x.fv.ownBlock = some g → ¬ S g) : PflOk w' x :=
  ⟨(u.block x.bc (lt_of_heap h.hd) d1).trans h.hd, u.own h.fs d2⟩
/-- Which block is whose: so that blocks are told apart. -/
structure Tags (tag : Nat → Int) (H S A Q M : Nat) (xs : List Rfl) : Prop where
  s : tag S = -1
  m : tag M = -2
  h : tag H = -3
  a : tag A = -4
  q : tag Q = -5
  x : ∀ x ∈ xs, 0 ≤ x.id ∧ tag x.bc = 2 * x.id ∧ ∀ g, x.fv.ownBlock = some g → tag g = 2 * x.id + 1
structure SpM (w : World) (U : Nat → Prop) (H S A Q M : Nat) (xs : List Rfl) (st : St) (tag : Nat → Int) : Prop where
  hd : w.heap[S]? = some (.cells #[.pointer (some ⟨H, 0, none⟩), .map (some M)] 76 (0, 0))
  mp : IW ptrE readP w M (getP xs)
  fr : Fr w H A Q st
  ok : ∀ x ∈ xs, PflOk w x
  idn : (xs.map Rfl.id).Nodup
  nod : (fss xs).Nodup
  tkn : ∀ f ∈ fss xs, f < st.n ∧ st.tk f = true
  tg : Tags tag H S A Q M xs
  us : U S ∧ U M ∧ ∀ i, Blk H A Q i → U i
  ux : ∀ x ∈ xs, U x.bc ∧ ∀ g, x.fv.ownBlock = some g → U g
  lt : ∀ i, U i → i < w.heap.size
/-- What it means. -/
structure SpP (s : So) (xs : List Rfl) (st : St) : Prop where
  l : s.l = xs.map Rfl.fi
  fr : s.fr = st.fr.length
  good : GoodSo s
  blk : ∀ x ∈ xs, x.F.length = blkN x.b.length
  byt : ∀ x ∈ xs, ∀ j, j < x.b.length → x.b.getD j 0 = st.bt (x.F.getD (j / 64) 0) (j % 64)
structure SpAt (w : World) (U : Nat → Prop) (H S A Q M : Nat) (s : So) (xs : List Rfl) (st : St) (tag : Nat → Int) : Prop where
  m : SpM w U H S A Q M xs st tag
  p : SpP s xs st
def PSo (H : Nat) : Rel So := fun w U S s => ∃ A Q M xs st tag, SpAt w U H S A Q M s xs st tag
section
variable {w : World} {U : Nat → Prop} {H S A Q M : Nat} {s : So} {xs p q : List Rfl} {x : Rfl} {st : St} {tag : Nat → Int}
theorem SpM.keep {V : Nat → Prop} {w' : World} (h : SpM w U H S A Q M xs st tag) (u : Touch V w w') (d : ∀ i, U i → ¬ V i) : SpM w' U H S A Q M xs st tag :=
  ⟨(u.block S (lt_of_heap h.hd) (d S h.us.1)).trans h.hd, h.mp.touch u (d M h.us.2.1), h.fr.touch u (fun i e => d i (h.us.2.2 i e)), fun x hx => (h.ok x hx).touch u (d _ (h.ux x hx).1) (fun g e => d g ((h.ux x hx).2 g e)), h.idn, h.nod, h.tkn, h.tg, h.us, h.ux, fun i e => Nat.lt_of_lt_of_le (h.lt i e) u.size⟩
theorem SpM.below {w' : World} (h : SpM w U H S A Q M xs st tag) (u : Below w.heap.size w w') : SpM w' U H S A Q M xs st tag := h.keep (V := fun _ => False) (Touch.of_below u) (fun _ _ e => e)
theorem SpAt.below {w' : World} (h : SpAt w U H S A Q M s xs st tag) (u : Below w.heap.size w w') : SpAt w' U H S A Q M s xs st tag := ⟨h.m.below u, h.p⟩
theorem SpM.c0 (h : SpM w U H S A Q M xs st tag) : w.cell? ⟨S, 0, none⟩ = some (.pointer (some ⟨H, 0, none⟩)) := by rw [cell_of_row _ _ _ _ _ _ h.hd]; rfl
theorem SpM.c1 (h : SpM w U H S A Q M xs st tag) : w.cell? ⟨S, 1, none⟩ = some (.map (some M)) := by rw [cell_of_row _ _ _ _ _ _ h.hd]; rfl
theorem PflOk.c0 (h : PflOk w x) : w.cell? ⟨x.bc, 0, none⟩ = some (.int .i64 (x.b.length : Nat)) := by rw [cell_of_row _ _ _ _ _ _ h.hd]; rfl
theorem PflOk.c1 (h : PflOk w x) : w.cell? ⟨x.bc, 1, none⟩ = some x.fv := by rw [cell_of_row _ _ _ _ _ _ h.hd]; rfl
theorem PflOk.f (h : PflOk w x) (j : Nat) : w.frozen? ⟨x.bc, j, none⟩ = false := frozen_of_row _ _ _ _ _ h.hd
end
theorem keepsPSo (H : Nat) : Keeps (PSo H) where
  keep := by
    rintro V U w w' S s ⟨A, Q, M, xs, st, tag, h⟩ u d
    exact ⟨A, Q, M, xs, st, tag, h.m.keep u d, h.p⟩
  lt := by
    rintro U w S s ⟨A, Q, M, xs, st, tag, h⟩ i hi
    exact h.m.lt i hi
section
variable {w : World} {U : Nat → Prop} {H S A Q M : Nat} {s : So} {xs p q : List Rfl} {x : Rfl} {st : St} {tag : Nat → Int}
/-- What a change of file x touches. -/
def Tx (H A Q : Nat) (x : Rfl) (i : Nat) : Prop := Blk H A Q i ∨ i = x.bc ∨ x.fv.ownBlock = some i
theorem id_ne (h : ((p ++ x :: q).map Rfl.id).Nodup) {y : Rfl} (hy : y ∈ p ∨ y ∈ q) : y.id ≠ x.id := by
  rw [List.map_append, List.map_cons, List.nodup_append] at h
  intro e
  rcases hy with hy | hy
  · exact h.2.2 y.id (List.mem_map_of_mem hy) x.id (List.mem_cons_self ..) e
  · exact (List.nodup_cons.1 h.2.1).1 (by rw [← e]; exact List.mem_map_of_mem hy)
theorem mid_mem {y : Rfl} (hy : y ∈ p ++ x :: q) : y = x ∨ y ∈ p ∨ y ∈ q := by
  rcases List.mem_append.1 hy with hy | hy
  · exact .inr (.inl hy)
  · rcases List.mem_cons.1 hy with hy | hy
    · exact .inl hy
    · exact .inr (.inr hy)
/-- File x is another one now: its frames, its bytes; the frames are others too. -/
theorem SpM.turn {w' : World} {x' : Rfl} {st' : St} (h : SpM w U H S A Q M (p ++ x :: q) st tag) (T : Touch (Tx H A Q x) w w') (fr : Fr w' H A Q st') (ok : PflOk w' x') (e1 : x'.id = x.id) (e2 : x'.bc = x.bc)
    (hfa : ∀ g, x'.fv.ownBlock = some g → x.fv.ownBlock = some g ∨ w.heap.size ≤ g) (nod : (fss (p ++ x' :: q)).Nodup) (tkn : ∀ f ∈ fss (p ++ x' :: q), f < st'.n ∧ st'.tk f = true) :
    ∃ U' tag', SpM w' U' H S A Q M (p ++ x' :: q) st' tag' ∧ Touch U w w' ∧ ∀ i, U' i → U i ∨ w.heap.size ≤ i := by
  have hx : x ∈ p ++ x :: q := List.mem_append_right _ (List.mem_cons_self ..)
  obtain ⟨ix, tx, fx⟩ := h.tg.x x hx
  have tT : ∀ i, Tx H A Q x i → tag i = -3 ∨ tag i = -4 ∨ tag i = -5 ∨ tag i = 2 * x.id ∨ tag i = 2 * x.id + 1 := by
    rintro i ((rfl | rfl | rfl) | rfl | e)
    · exact .inl h.tg.h
    · exact .inr (.inl h.tg.a)
    · exact .inr (.inr (.inl h.tg.q))
    · exact .inr (.inr (.inr (.inl tx)))
    · exact .inr (.inr (.inr (.inr (fx i e))))
  have nS : ¬ Tx H A Q x S := fun e => by have := tT S e; have := h.tg.s; omega
  have nM : ¬ Tx H A Q x M := fun e => by have := tT M e; have := h.tg.m; omega
  have nO : ∀ y, y ∈ p ∨ y ∈ q → ¬ Tx H A Q x y.bc ∧ ∀ g, y.fv.ownBlock = some g → ¬ Tx H A Q x g := fun y hy => by
    have hne := id_ne h.idn hy
    obtain ⟨iy, ty, fy⟩ := h.tg.x y (by rcases hy with hy | hy; exact List.mem_append_left _ hy; exact List.mem_append_right _ (List.mem_cons_of_mem _ hy))
    exact ⟨fun e => by have := tT _ e; omega, fun g hg e => by have := tT _ e; have := fy g hg; omega⟩
  have oldT : ∀ i, U i → (if w.heap.size ≤ i then 2 * x.id + 1 else tag i) = tag i := fun i hi => if_neg (by have := h.lt i hi; omega)
  refine ⟨fun i => U i ∨ (w.heap.size ≤ i ∧ i < w'.heap.size), fun i => if w.heap.size ≤ i then 2 * x.id + 1 else tag i, ⟨(T.block S (lt_of_heap h.hd) nS).trans h.hd, ?_, fr, fun y hy => ?_, ?_, nod, tkn, ⟨?_, ?_, ?_, ?_, ?_, fun y hy => ?_⟩, ⟨.inl h.us.1, .inl h.us.2.1, fun i e => .inl (h.us.2.2 i e)⟩, fun y hy => ?_, fun i hi => ?_⟩, T.mono fun i e => ?_, fun i hi => hi.imp id And.left⟩
  · rw [getP_same e1 e2]; exact h.mp.touch T nM
  · rcases mid_mem hy with rfl | hy
    · exact ok
    · exact (h.ok y (by rcases hy with hy | hy; exact List.mem_append_left _ hy; exact List.mem_append_right _ (List.mem_cons_of_mem _ hy))).touch T (nO y hy).1 (nO y hy).2
  · have := h.idn; rw [List.map_append, List.map_cons] at this ⊢; rw [e1]; exact this
  · exact (oldT S h.us.1).trans h.tg.s
  · exact (oldT M h.us.2.1).trans h.tg.m
  · exact (oldT H (h.us.2.2 H (.inl rfl))).trans h.tg.h
  · exact (oldT A (h.us.2.2 A (.inr (.inl rfl)))).trans h.tg.a
  · exact (oldT Q (h.us.2.2 Q (.inr (.inr rfl)))).trans h.tg.q
  · rcases mid_mem hy with rfl | hy
    · rw [e1, e2]
      refine ⟨ix, (oldT _ (h.ux x hx).1).trans tx, fun g hg => ?_⟩
      rcases hfa g hg with e | e
      · exact (oldT g ((h.ux x hx).2 g e)).trans (fx g e)
      · exact if_pos e
    · have hy' : y ∈ p ++ x :: q := by rcases hy with hy | hy; exact List.mem_append_left _ hy; exact List.mem_append_right _ (List.mem_cons_of_mem _ hy)
      obtain ⟨iy, ty, fy⟩ := h.tg.x y hy'
      exact ⟨iy, (oldT _ (h.ux y hy').1).trans ty, fun g hg => (oldT g ((h.ux y hy').2 g hg)).trans (fy g hg)⟩
  · rcases mid_mem hy with rfl | hy
    · rw [e2]
      refine ⟨.inl (h.ux x hx).1, fun g hg => ?_⟩
      rcases hfa g hg with e | e
      · exact .inl ((h.ux x hx).2 g e)
      · exact .inr ⟨e, (ok.fs.lt g hg).2⟩
    · have hy' : y ∈ p ++ x :: q := by rcases hy with hy | hy; exact List.mem_append_left _ hy; exact List.mem_append_right _ (List.mem_cons_of_mem _ hy)
      exact ⟨.inl (h.ux y hy').1, fun g hg => .inl ((h.ux y hy').2 g hg)⟩
  · rcases hi with hi | hi
    · exact Nat.lt_of_lt_of_le (h.lt i hi) T.size
    · exact hi.2
  · rcases e with e | rfl | e
    · exact h.us.2.2 i e
    · exact (h.ux x hx).1
    · exact (h.ux x hx).2 i e
end
end Go.Proofs.Ytipepklobpnbpaa
namespace Go.Proofs.Ytipepklobpnbpaa
open Go.ChangeShapes Go.WideShapes Go.ChangeAt Go.RowKit Go.Maps
set_option linter.unusedVariables false
set_option linter.unusedSimpArgs false
theorem zeroPtr (w : World) : (zeroValue 77).run Try.prog w = .ok (ptrV none) w := by kernel_rfl
section
variable {w : World} {U : Nat → Prop} {H S A Q M : Nat} {s : So} {xs p q : List Rfl} {x : Rfl} {st : St} {tag : Nat → Int}
theorem SpM.look (h : SpM w U H S A Q M xs st tag) {id : Int} (wi : (Lit.int .i64 id).wf = true) : (Instr.lookup 74 (.map (some M)) (.int .i64 id) false).run Try.prog w = .ok (ptrV ((getP xs id).getD none)) w :=
  h.mp.look1 kindP Try.underlying74 (zeroPtr w) wi
theorem SpAt.lookN (h : SpAt w U H S A Q M s xs st tag) {id : Int} (wi : (Lit.int .i64 id).wf = true) (e : getFi s.l id = none) : (Instr.lookup 74 (.map (some M)) (.int .i64 id) false).run Try.prog w = .ok (.pointer none) w := by
  have lk := h.m.look wi
  rw [getP_none (fi_none.1 (by rw [← h.p.l]; exact e))] at lk
  exact lk
theorem SpAt.lookS (h : SpAt w U H S A Q M s (p ++ x :: q) st tag) {id : Int} (wi : (Lit.int .i64 id).wf = true) (ex : x.id = id) (ep : ∀ y ∈ p, y.id ≠ id) : (Instr.lookup 74 (.map (some M)) (.int .i64 id) false).run Try.prog w = .ok (.pointer (some ⟨x.bc, 0, none⟩)) w := by
  have lk := h.m.look wi
  rw [getP_split ex ep] at lk
  exact lk
theorem PSo.split {H : Nat} (h : PSo H w U S s) {id : Int} {o : List Int} (e : getFi s.l id = some o) : ∃ A Q M p x q st tag, x.id = id ∧ x.b = o ∧ (∀ y ∈ p, y.id ≠ id) ∧ SpAt w U H S A Q M s (p ++ x :: q) st tag := by
  obtain ⟨A, Q, M, xs, st, tag, h⟩ := h
  have e1 := e
  rw [h.p.l] at e1
  obtain ⟨p, x, q, rfl, h2, h3, h4⟩ := fi_split e1
  exact ⟨A, Q, M, p, x, q, st, tag, h2, h3, h4, h⟩
theorem mid_of : x ∈ p ++ x :: q := List.mem_append_right _ (List.mem_cons_self ..)
/-- find. -/
theorem find_none (h : PSo H w U S s) {id : Int} (wi : (Lit.int .i64 id).wf = true) (e : getFi s.l id = none) :
    Calls Try.prog 37 #[.pointer (some ⟨S, 0, none⟩), .int .i64 id] w fun e w' => e = .returned (.tuple #[.pointer none, .int .i64 4]) ∧ w = w' := by
  obtain ⟨A, Q, M, xs, st, tag, h⟩ := h
  have lk := h.lookN wi e
  have c1 := h.m.c1
  clear h e wi
  go_enter Try.func37, Try.ntmps37
  go_wp2_with fail
  go_ret2
  exact ⟨rfl, rfl⟩
theorem find_some (h : SpAt w U H S A Q M s (p ++ x :: q) st tag) {id : Int} (wi : (Lit.int .i64 id).wf = true) (ex : x.id = id) (ep : ∀ y ∈ p, y.id ≠ id) :
    Calls Try.prog 37 #[.pointer (some ⟨S, 0, none⟩), .int .i64 id] w fun e w' => e = .returned (.tuple #[.pointer (some ⟨x.bc, 0, none⟩), .int .i64 0]) ∧ w = w' := by
  have lk := h.lookS wi ex ep
  have c1 := h.m.c1
  clear h ex ep wi
  go_enter Try.func37, Try.ntmps37
  go_wp2_with fail
  go_ret2
  exact ⟨rfl, rfl⟩
theorem find_nil (w : World) (id : Int) : Calls Try.prog 37 #[.pointer none, .int .i64 id] w fun e w' => e = .returned (.tuple #[.pointer none, .int .i64 1]) ∧ w = w' := by
  go_enter Try.func37, Try.ntmps37
  go_wp2_with fail
  go_ret2
  exact ⟨rfl, rfl⟩
/-- Size. -/
theorem psz_any (h : PSo H w U S s) {id : Int} (wi : (Lit.int .i64 id).wf = true) :
    Calls Try.prog 30 #[.pointer (some ⟨S, 0, none⟩), .int .i64 id] w fun e w' => e = .returned (.tuple #[.int .i64 (lenO (getFi s.l id) : Nat), .int .i64 (thE s id : Nat)]) ∧ w = w' := by
  unfold thE
  cases e : getFi s.l id with
  | none =>
    have FD := hide (find_none h wi e)
    clear h e wi
    go_enter Try.func30, Try.ntmps30
    go_wp2_with (go_at_call 37; refine FD.out.mono ?_; rintro e w' ⟨rfl, rfl⟩)
    go_ret2
    exact ⟨rfl, rfl⟩
  | some o =>
    obtain ⟨A, Q, M, p, x, q, st, tag, ex, rfl, ep, h⟩ := h.split e
    have FD := hide (find_some h wi ex ep)
    have c0 := (h.m.ok x mid_of).c0
    clear h e wi ex ep
    go_enter Try.func30, Try.ntmps30
    go_wp2_with (go_at_call 37; refine FD.out.mono ?_; rintro e w' ⟨rfl, rfl⟩)
    go_ret2
    exact ⟨rfl, rfl⟩
/-- Blocks. -/
theorem pbk_any (h : PSo H w U S s) {id : Int} (wi : (Lit.int .i64 id).wf = true) :
    Calls Try.prog 32 #[.pointer (some ⟨S, 0, none⟩), .int .i64 id] w fun e w' => e = .returned (.int .i64 (blkO (getFi s.l id) : Nat)) ∧ w = w' := by
  cases e : getFi s.l id with
  | none =>
    have FD := hide (find_none h wi e)
    clear h e wi
    go_enter Try.func32, Try.ntmps32
    go_wp2_with (go_at_call 37; refine FD.out.mono ?_; rintro e w' ⟨rfl, rfl⟩)
    go_ret
    exact ⟨rfl, rfl⟩
  | some o =>
    obtain ⟨A, Q, M, p, x, q, st, tag, ex, rfl, ep, h⟩ := h.split e
    have FD := hide (find_some h wi ex ep)
    have c1 := (h.m.ok x mid_of).c1
    have BL := hide (h.p.blk x mid_of)
    clear h e wi ex ep
    unfold Rfl.fv at c1
    go_enter Try.func32, Try.ntmps32
    go_wp2_with (go_at_call 37; refine FD.out.mono ?_; rintro e w' ⟨rfl, rfl⟩)
    go_ret
    exact ⟨by rw [BL.out]; rfl, rfl⟩
/-- blocks. -/
theorem blocks_any (w : World) (z : Nat) (hz : z ≤ 1000000) : Calls Try.prog 48 #[.int .i64 (z : Int)] w fun e w' => e = .returned (.int .i64 (blkN z : Nat)) ∧ w = w' := by
  have hd : ((z : Int) + 63).tdiv 64 = (blkN z : Nat) := by
    rw [Int.tdiv_eq_ediv_of_nonneg (by omega)]
    unfold blkN; omega
  have h1 : (z : Int) + 64 - 1 = (z : Int) + 63 := by omega
  have hz' : (z : Int) ≤ 1000000 := by omega
  obtain ⟨bs, hbs⟩ : ∃ bs, bs = blkN z := ⟨_, rfl⟩
  have hb : (bs : Int) ≤ 1000000 := by rw [hbs]; unfold blkN; omega
  rw [← hbs] at hd ⊢
  clear hbs
  go_enter Try.func48, Try.ntmps48
  go_wp2_with fail
  go_ret
  exact ⟨rfl, rfl⟩
/-- room. -/
theorem room_any (h : SpAt w U H S A Q M s (p ++ x :: q) st tag) (z : Nat) (hz : z ≤ 512) :
    Calls Try.prog 40 #[.pointer (some ⟨S, 0, none⟩), .pointer (some ⟨x.bc, 0, none⟩), .int .i64 (z : Int)] w fun e w' => e = .returned (.bool (decide (blkN z ≤ blkN x.b.length + s.fr))) ∧ ∃ k, w' = w.drewN k := by
  have c0 := h.m.c0
  have c1 := (h.m.ok x mid_of).c1
  unfold Rfl.fv at c1
  have BL := hide (h.p.blk x mid_of)
  obtain ⟨fl, hfl⟩ : ∃ fl, fl = x.F.length := ⟨_, rfl⟩
  obtain ⟨bs, hbs⟩ : ∃ bs, bs = blkN z := ⟨_, rfl⟩
  obtain ⟨fr, hfr⟩ : ∃ fr, fr = st.fr.length := ⟨_, rfl⟩
  have f64 : fr ≤ 64 := by rw [hfr]; exact Nat.le_trans h.m.fr.good.len h.m.fr.good.n64
  have b8 : bs ≤ 8 := by rw [hbs]; exact blkN_le8 _ hz
  have hx5 : x.b.length ≤ 512 := h.p.good.le x.fi (by rw [h.p.l]; exact List.mem_map_of_mem mid_of)
  have l8 : fl ≤ 8 := by rw [hfl, BL.out]; exact blkN_le8 _ hx5
  rw [← BL.out, h.p.fr, ← hfl, ← hbs, ← hfr]
  rw [← hfl] at c1
  have FR := hide (show ∀ m, Calls Try.prog 34 #[.pointer (some ⟨H, 0, none⟩)] (w.drewN m) fun e w' => e = .returned (.int .i64 (fr : Int)) ∧ ∃ n, w' = w.drewN n from fun m => (free_any (h.m.fr.below (below_drewN (Below.refl w.heap.size w) m))).mono fun e w' ⟨a, b⟩ => ⟨by rw [hfr]; exact a, m, b.symm⟩)
  have BK := hide (show ∀ m, Calls Try.prog 48 #[.int .i64 (z : Int)] (w.drewN m) fun e w' => e = .returned (.int .i64 (bs : Int)) ∧ ∃ n, w' = w.drewN n from fun m => (blocks_any _ z (by omega)).mono fun e w' ⟨a, b⟩ => ⟨by rw [hbs]; exact a, m, b.symm⟩)
  clear h hfl hbs hfr hx5 BL
  have i1 : (bs : Int) ≤ 8 := by omega
  have i2 : (fl : Int) ≤ 8 := by omega
  have i3 : (fr : Int) ≤ 64 := by omega
  have hR : decide ((bs : Int) - (fl : Int) ≤ (fr : Int)) = decide (bs ≤ fl + fr) := by
    by_cases e : bs ≤ fl + fr
    · rw [decide_eq_true e, decide_eq_true (by omega)]
    · rw [decide_eq_false e, decide_eq_false (by omega)]
  go_enter Try.func40, Try.ntmps40
  go_wp2_with fail
  go_quiet ((first
    | (go_at_call 48; exact BK.out _)
    | (go_at_call 34; exact FR.out _)))
  go_wp2_with fail
  go_ret
  exact ⟨rfl, ⟨_, rfl⟩⟩
/-- A new store. -/
theorem pnew_any {N : Nat} (f : Fr w H A Q (St.new N)) : Calls Try.prog 14 #[.pointer (some ⟨H, 0, none⟩)] w fun e w' => ∃ S U, e = .returned (.pointer (some ⟨S, 0, none⟩)) ∧ PSo H w' U S ⟨[], N⟩ ∧ Below w.heap.size w w' ∧ ∀ i, U i → Blk H A Q i ∨ w.heap.size ≤ i := by
  have hmm := @run_makeMap Try.prog
  obtain ⟨g, hg⟩ : ∃ g, g = w.heap.size := ⟨_, rfl⟩
  have FIN := hide (show ∀ W, W = (w.alloc (.map #[] 0)).alloc (.cells #[.pointer (some ⟨H, 0, none⟩), .map (some w.heap.size)] 76) → ∃ S U, Ending.returned (.pointer (some ⟨w.heap.size + 1, 0, none⟩)) = .returned (.pointer (some ⟨S, 0, none⟩)) ∧ PSo H W U S ⟨[], N⟩ ∧ Below w.heap.size w W ∧ ∀ i, U i → Blk H A Q i ∨ w.heap.size ≤ i from by
    rintro W rfl
    have b1 := (Below.refl w.heap.size w).alloc (Nat.le_refl _) (.map #[] 0)
    have b2 := b1.alloc (by simp) (.cells #[.pointer (some ⟨H, 0, none⟩), .map (some w.heap.size)] 76)
    have hs : (w.alloc (.map #[] 0)).heap.size = w.heap.size + 1 := by simp
    have mp := (IW.made (enc := ptrE) (R := readP) w (n := w.heap.size) rfl).touch (S := fun _ => False) (Touch.of_below ((Below.refl (w.alloc (.map #[] 0)).heap.size _).alloc (Nat.le_refl _) (.cells #[.pointer (some ⟨H, 0, none⟩), .map (some w.heap.size)] 76))) (fun e => e)
    have lH := f.ltH
    have lA := f.ltA
    have lQ := f.ltQ
    refine ⟨w.heap.size + 1, fun i => Blk H A Q i ∨ i = w.heap.size ∨ i = w.heap.size + 1, rfl, ⟨A, Q, w.heap.size, [], St.new N, fun i => if i = w.heap.size + 1 then -1 else if i = w.heap.size then -2 else if i = H then -3 else if i = A then -4 else -5, ⟨⟨?_, mp, f.below b2, fun x hx => absurd hx List.not_mem_nil, List.nodup_nil, List.nodup_nil, fun x hx => absurd hx List.not_mem_nil, ⟨?_, ?_, ?_, ?_, ?_, fun x hx => absurd hx List.not_mem_nil⟩, ⟨.inr (.inr rfl), .inr (.inl rfl), fun i e => .inl e⟩, fun x hx => absurd hx List.not_mem_nil, fun i hi => ?_⟩, ⟨rfl, (fallen_len N N).symm, ⟨List.nodup_nil, fun x hx => absurd hx List.not_mem_nil, fun x hx => absurd hx List.not_mem_nil, fun x hx => absurd hx List.not_mem_nil⟩, fun x hx => absurd hx List.not_mem_nil, fun x hx => absurd hx List.not_mem_nil⟩⟩⟩, b2, fun i hi => ?_⟩
    · have := heap_alloc_new (w.alloc (.map #[] 0)) (.cells #[.pointer (some ⟨H, 0, none⟩), .map (some w.heap.size)] 76)
      rw [hs] at this; exact this
    · exact if_pos rfl
    · show (if w.heap.size = w.heap.size + 1 then _ else _) = _
      rw [if_neg (by omega), if_pos rfl]
    · show (if H = w.heap.size + 1 then _ else _) = _
      rw [if_neg (by omega), if_neg (by omega), if_pos rfl]
    · show (if A = w.heap.size + 1 then _ else _) = _
      rw [if_neg (by omega), if_neg (by omega), if_neg (fun e => f.ha e.symm), if_pos rfl]
    · show (if Q = w.heap.size + 1 then _ else _) = _
      rw [if_neg (by omega), if_neg (by omega), if_neg (fun e => f.hq e.symm), if_neg (fun e => f.aq e.symm)]
    · have : ((w.alloc (.map #[] 0)).alloc (.cells #[.pointer (some ⟨H, 0, none⟩), .map (some w.heap.size)] 76)).heap.size = w.heap.size + 2 := by simp
      rw [this]
      rcases hi with (rfl | rfl | rfl) | rfl | rfl <;> omega
    · rcases hi with h | h | h
      · exact .inl h
      · exact .inr (by omega)
      · exact .inr (by omega))
  clear f
  go_enter Try.func14, Try.ntmps14
  go_wp2_with fail
  go_ret
  exact FIN.out _ rfl
theorem few_in {l ks : List Int} (hn : ks.Nodup) (hs : ∀ k ∈ ks, k ∈ l) : ks.length ≤ l.length := by
  induction l generalizing ks with
  | nil =>
    cases ks with
    | nil => exact Nat.le_refl _
    | cons k t => exact absurd (hs k (List.mem_cons_self ..)) List.not_mem_nil
  | cons a l ih =>
    by_cases ha : a ∈ ks
    · have h1 := ih (hn.erase a) (fun k hk => by
        have h2 := (hn.mem_erase_iff).1 hk
        rcases List.mem_cons.1 (hs k h2.2) with e | e
        · exact absurd e h2.1
        · exact e)
      rw [List.length_erase_of_mem ha] at h1
      simp only [List.length_cons]
      omega
    · have h1 := ih hn (fun k hk => by
        rcases List.mem_cons.1 (hs k hk) with e | e
        · exact absurd (e ▸ hk) ha
        · exact e)
      simp only [List.length_cons]
      omega
theorem pmk_any (h : PSo H w U S s) {id : Int} (wi : (Lit.int .i64 id).wf = true) (hfew : s.l.length < 1000000) :
    Calls Try.prog 16 #[.pointer (some ⟨S, 0, none⟩), .int .i64 id] w (SideO (fun w' U' => PSo H w' U' S (mkS s id)) U w (.int .i64 (mkE s id : Nat))) := by
  by_cases h0 : id < 0
  · have hE : mkE s id = 2 := by unfold mkE; rw [if_pos h0]
    have FIN := hide (SideO.of_below (v := .int .i64 2) (P := fun w' U' => PSo H w' U' S s) h (Below.refl _ _))
    rw [show mkS s id = s from by unfold mkS; rw [hE]; rfl, hE]
    clear h hE wi hfew
    go_enter Try.func16, Try.ntmps16
    go_wp2_with fail
    go_ret
    exact FIN.out
  cases e : getFi s.l id with
  | some o =>
    have hE : mkE s id = 5 := by unfold mkE; rw [if_neg h0, e]; rfl
    have FIN := hide (SideO.of_below (v := .int .i64 5) (P := fun w' U' => PSo H w' U' S s) h (Below.refl _ _))
    rw [show mkS s id = s from by unfold mkS; rw [hE]; rfl, hE]
    obtain ⟨A, Q, M, p, x, q, st, tag, ex, rfl, ep, h⟩ := h.split e
    have lk := h.lookS wi ex ep
    have c1 := h.m.c1
    clear h hE wi hfew ex ep e
    go_enter Try.func16, Try.ntmps16
    go_wp2_with fail
    go_ret
    exact FIN.out
  | none =>
    have hE : mkE s id = 0 := by unfold mkE; rw [if_neg h0, e]; rfl
    have hM : mkS s id = ⟨s.l ++ [⟨id, []⟩], s.fr⟩ := by unfold mkS; rw [hE]; rfl
    have hgd : GoodSo (mkS s id) := (show GoodSo s from by obtain ⟨_, _, _, _, _, _, h⟩ := h; exact h.p.good).mk_ wi
    rw [hE, hM]
    rw [hM] at hgd
    obtain ⟨A, Q, M, xs, st, tag, h⟩ := h
    have lk := h.lookN wi e
    have c1 := h.m.c1
    have hne : ∀ y ∈ xs, y.id ≠ id := fi_none.1 (by rw [← h.p.l]; exact e)
    obtain ⟨b, hb⟩ : ∃ b, b = w.heap.size := ⟨_, rfl⟩
    obtain ⟨W, hW⟩ : ∃ W, W = w.alloc (.cells #[.int .i64 0, .slice none 0 0] 79) := ⟨_, rfl⟩
    have bW : Below w.heap.size w W := by rw [hW]; exact (Below.refl _ _).alloc (Nat.le_refl _) _
    have h2 := h.m.below bW
    obtain ⟨w2, r2, q2, g2⟩ := h2.mp.store kindP (t := 74) (e := 77) Try.underlying74 wi (fun ks hn hk => by
      have := few_in (l := xs.map Rfl.id) hn (fun k hk' => by
        obtain ⟨y, hy, e2⟩ := getP_is (hk k hk')
        rw [← e2]; exact List.mem_map_of_mem hy)
      rw [List.length_map] at this
      rw [h.p.l, List.length_map] at hfew
      omega) (some b)
    have c1' := h2.c1
    have gr2 : Touch (fun i => i = M) W w2 := Touch.of_grown g2 (fun g e => by injection e with e; exact e.symm)
    have FIN := hide (show SideO (fun w' U' => PSo H w' U' S ⟨s.l ++ [⟨id, []⟩], s.fr⟩) U w (.int .i64 0) (.returned (.int .i64 0)) w2 from by
      have sW : W.heap.size = b + 1 := by rw [hW, hb]; simp
      have hWb : W.heap[b]? = some (.cells #[.int .i64 0, .slice none 0 0] 79 (0, 0)) := by rw [hW, hb]; exact heap_alloc_new _ _
      have ltM := h.m.lt M h.m.us.2.1
      have oldT : ∀ i, U i → (if i = b then 2 * id else tag i) = tag i := fun i hi => if_neg (by have := h.m.lt i hi; omega)
      have tM : ∀ i, i = M → tag i = -2 := fun i e => by rw [e]; exact h.m.tg.m
      have nb : ¬ b = M := by omega
      have e0 : fss (xs ++ [(⟨id, [], none, b, [], none, 0⟩ : Rfl)]) = fss xs := by simp [fss]
      refine ⟨rfl, fun i => U i ∨ i = b, ⟨A, Q, M, xs ++ [⟨id, [], none, b, [], none, 0⟩], st, fun i => if i = b then 2 * id else tag i, ⟨⟨?_, ?_, ?_, fun y hy => ?_, ?_, by rw [e0]; exact h.m.nod, by rw [e0]; exact h.m.tkn, ⟨?_, ?_, ?_, ?_, ?_, fun y hy => ?_⟩, ⟨.inl h.m.us.1, .inl h.m.us.2.1, fun i e => .inl (h.m.us.2.2 i e)⟩, fun y hy => ?_, fun i hi => ?_⟩, ⟨?_, h.p.fr, hgd, fun y hy => ?_, fun y hy => ?_⟩⟩⟩, ?_, fun i hi => hi.imp (fun e => e) (fun e => by omega)⟩
      · exact (gr2.block S (Nat.lt_of_lt_of_le (h.m.lt S h.m.us.1) bW.size) (fun e => by have := tM S e; have := h.m.tg.s; omega)).trans h2.hd
      · rw [getP_add (x := (⟨id, [], none, b, [], none, 0⟩ : Rfl)) hne]; exact q2
      · exact h2.fr.touch gr2 (fun i e => fun e2 => by
          have t := tM i e2
          rcases e with rfl | rfl | rfl
          · have := h.m.tg.h; omega
          · have := h.m.tg.a; omega
          · have := h.m.tg.q; omega)
      · rcases List.mem_append.1 hy with hy | hy
        · obtain ⟨iy, ty, fy⟩ := h.m.tg.x y hy
          exact (h2.ok y hy).touch gr2 (fun e => by have := tM _ e; omega) (fun g hg e => by have := tM _ e; have := fy g hg; omega)
        · simp only [List.mem_singleton] at hy
          subst hy
          exact ⟨(gr2.block b (by omega) nb).trans hWb, World.ownsRow_nil _ _ _ _⟩
      · rw [List.map_append, List.nodup_append]
        refine ⟨h.m.idn, by simp, fun a ha c hc => ?_⟩
        simp at hc
        obtain ⟨y, hy, e2⟩ := List.mem_map.1 ha
        rw [hc, ← e2]; exact hne y hy
      · exact (oldT S h.m.us.1).trans h.m.tg.s
      · exact (oldT M h.m.us.2.1).trans h.m.tg.m
      · exact (oldT H (h.m.us.2.2 H (.inl rfl))).trans h.m.tg.h
      · exact (oldT A (h.m.us.2.2 A (.inr (.inl rfl)))).trans h.m.tg.a
      · exact (oldT Q (h.m.us.2.2 Q (.inr (.inr rfl)))).trans h.m.tg.q
      · rcases List.mem_append.1 hy with hy | hy
        · obtain ⟨iy, ty, fy⟩ := h.m.tg.x y hy
          exact ⟨iy, (oldT _ (h.m.ux y hy).1).trans ty, fun g hg => (oldT g ((h.m.ux y hy).2 g hg)).trans (fy g hg)⟩
        · simp only [List.mem_singleton] at hy
          subst hy
          exact ⟨by show 0 ≤ id; omega, if_pos rfl, fun g hg => by cases hg⟩
      · rcases List.mem_append.1 hy with hy | hy
        · exact ⟨.inl (h.m.ux y hy).1, fun g hg => .inl ((h.m.ux y hy).2 g hg)⟩
        · simp only [List.mem_singleton] at hy
          subst hy
          exact ⟨.inr rfl, fun g hg => by cases hg⟩
      · have s2 := gr2.size
        rcases hi with hi | hi
        · have := h.m.lt i hi; omega
        · omega
      · rw [h.p.l, List.map_append]; rfl
      · rcases List.mem_append.1 hy with hy | hy
        · exact h.p.blk y hy
        · simp only [List.mem_singleton] at hy
          subst hy
          show 0 = blkN 0; decide
      · rcases List.mem_append.1 hy with hy | hy
        · exact h.p.byt y hy
        · simp only [List.mem_singleton] at hy
          subst hy
          intro j hj; exact absurd hj (Nat.not_lt_zero _)
      · exact (Touch.of_below bW).trans gr2 (fun i e => .inl (by rw [e]; exact h.m.us.2.1)))
    clear q2 g2 gr2 hgd hM hE hne h2 h hfew e wi
    subst hW
    subst hb
    have r3 : (Instr.mapUpdate 74 (.map (some M)) (.int .i64 id) (.pointer (some ⟨w.heap.size, 0, none⟩))).run Try.prog (w.alloc (.cells #[.int .i64 0, .slice none 0 0] 79)) = .ok () w2 := r2
    clear r2
    go_enter Try.func16, Try.ntmps16
    go_wp2_with fail
    go_ret
    exact FIN.out
end
end Go.Proofs.Ytipepklobpnbpaa
