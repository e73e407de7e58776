/-
  Several texts as one: Touch FrMem Pairs FrLow.
-/
import Derived.Maps.OwnSet
import Derived.Laws.OwnMore
import Derived.Laws.CopyOwn
import Derived.Laws.Tables
import Derived.Deep.AppendLies
import Derived.Deep.Draws
import Derived.Test.YtndfnglcichngaaGreatDoorMemPb
namespace Go.Proofs.YtndfnglcichngaaGreatDoor
open Go.ChangeShapes Go.WideShapes Go.ChangeAt Go.RowKit
set_option linter.unusedVariables false
/-- Only blocks of S have turned; new ones may be there. -/
structure Touch (S : Nat → Prop) (w w' : World) : Prop where
  os : w'.os = w.os
  tape : w'.tape = w.tape
  output : w'.output = w.output
  size : w.heap.size ≤ w'.heap.size
  block : ∀ i, i < w.heap.size → ¬ S i → w'.heap[i]? = w.heap[i]?
theorem Touch.refl (S : Nat → Prop) (w : World) : Touch S w w := ⟨rfl, rfl, rfl, Nat.le_refl _, fun _ _ _ => rfl⟩
theorem Touch.trans {S S' : Nat → Prop} {a b c : World} (h : Touch S a b) (k : Touch S' b c) (hs : ∀ i, S' i → S i ∨ a.heap.size ≤ i) : Touch S a c :=
  ⟨k.os.trans h.os, k.tape.trans h.tape, k.output.trans h.output, Nat.le_trans h.size k.size, fun i hi hn =>
    (k.block i (Nat.lt_of_lt_of_le hi h.size) (fun e => by rcases hs i e with e | e <;> first | exact hn e | omega)).trans (h.block i hi hn)⟩
theorem Touch.of_below {S : Nat → Prop} {w w' : World} (h : Below w.heap.size w w') : Touch S w w' := ⟨h.os, h.tape, h.output, h.size, fun i hi _ => h.block i hi⟩
theorem Touch.of_grown {S : Nat → Prop} {w w' : World} {row : Option Nat} (h : w.grownBy w' row) (hs : ∀ g, row = some g → S g) : Touch S w w' :=
  ⟨h.os, h.tape, h.output, h.size, fun i hi hn => h.block i hi (fun e => hn (hs i e.symm))⟩
theorem Touch.below {S : Nat → Prop} {w w' : World} (h : Touch S w w') {B : Nat} (hB : B ≤ w.heap.size) (hs : ∀ i, S i → B ≤ i) : Below B w w' :=
  ⟨h.os, h.tape, h.output, h.size, fun i hi => h.block i (by omega) (fun e => by have := hs i e; omega)⟩
theorem Touch.mono {S S' : Nat → Prop} {w w' : World} (h : Touch S w w') (hs : ∀ i, S i → S' i) : Touch S' w w' := ⟨h.os, h.tape, h.output, h.size, fun i hi hn => h.block i hi (fun e => hn (hs i e))⟩
theorem Touch.drewN {S : Nat → Prop} {w w' : World} (h : Touch S w w') (n : Nat) : Touch S w (w'.drewN n) := ⟨h.os, h.tape, h.output, h.size, h.block⟩
theorem Touch.alloc {S : Nat → Prop} {w w' : World} (h : Touch S w w') (o : Obj) : Touch S w (w'.alloc o) :=
  h.trans (S' := fun _ => False) (Touch.of_grown (World.grownBy_alloc w' o none) (fun _ e => by cases e)) (fun _ e => e.elim)
theorem Touch.setCell {S : Nat → Prop} {w w' : World} (h : Touch S w w') {p : Addr} (hp : S p.block) (u : Value) : Touch S w (w'.setCell p u) :=
  ⟨h.os, h.tape, h.output, by simpa [World.setCell] using h.size, fun i hi hn => (RowKit.Below.heap_setCell w' p u i (fun e => hn (by rw [e]; exact hp))).trans (h.block i hi hn)⟩
theorem Touch.setRow {S : Nat → Prop} {w w' : World} (h : Touch S w w') {g : Nat} (hg : S g) (cs : Array Value) : Touch S w (w'.setRow g cs) :=
  ⟨h.os, h.tape, h.output, by rw [size_setRow]; exact h.size, fun i hi hn => (setRow_other w' g i cs (fun e => hn (by rw [e]; exact hg))).trans (h.block i hi hn)⟩
theorem Touch.own {S : Nat → Prop} {w w' : World} (h : Touch S w w') {base : Nat} {e : TypeId} {z n : Nat} {v : Value} {xs : List Value} (ho : w.ownsRow base e z v n xs) (d : ∀ g, v.ownBlock = some g → ¬ S g) : w'.ownsRow base e z v n xs := by
  refine ⟨ho.1, ?_⟩
  rcases ho.2 with hn | ⟨g, cap, cur, e1, e2, e3, rest⟩
  · exact .inl hn
  · exact .inr ⟨g, cap, cur, e1, e2, (h.block g (Array.getElem?_eq_some_iff.1 e3).1 (d g (by rw [e1]; rfl))).trans e3, rest⟩
theorem Touch.cell {S : Nat → Prop} {w w' : World} (h : Touch S w w') {p : Addr} {v : Value} (hc : w.cell? p = some v) (d : ¬ S p.block) : w'.cell? p = some v := by
  rw [World.cell?_of_block (h.block p.block (lt_of_cell? hc) d)]; exact hc
theorem Touch.ints {S : Nat → Prop} {w w' : World} (h : Touch S w w') {q : IntKind} {a : Option Addr} {n : Nat} {xs : List Int} (hi : Ints q w a n xs) (d : ∀ b o, a = some ⟨b, o, none⟩ → ¬ S b) : Ints q w' a n xs := by
  refine ⟨hi.1, fun hn => ?_⟩
  obtain ⟨b, off, e, hc⟩ := hi.2 hn
  exact ⟨b, off, e, fun j hj => h.cell (hc j hj) (d b off e)⟩
/-- A row's block. -/
theorem lt_of_heap {w : World} {g : Nat} {o : Obj} (h : w.heap[g]? = some o) : g < w.heap.size := (Array.getElem?_eq_some_iff.1 h).1
theorem getElem?_splice {α : Type} (L : List α) (off : Nat) (cs : List α) (h : off + cs.length ≤ L.length) (j : Nat) :
    (splice L off cs)[j]? = if off ≤ j ∧ j < off + cs.length then cs[j - off]? else L[j]? := by
  unfold splice
  by_cases h1 : j < off
  · rw [if_neg (by omega), List.getElem?_append_left (by simp; omega)]
    simp [h1]
  · rw [List.getElem?_append_right (by simp; omega)]
    have e : j - (L.take off).length = j - off := by simp; omega
    rw [e]
    by_cases h2 : j < off + cs.length
    · rw [if_pos (by omega), List.getElem?_append_left (by omega)]
    · rw [if_neg (by omega), List.getElem?_append_right (by omega), List.getElem?_drop]
      congr 1; omega
section
variable {P : Program}
theorem run_storeVar_seg (w : World) (g off : Nat) (t ty : TypeId) (old cells : Array Value) (hg : w.heap[g]? = some (.cells old t (0, 0))) (hi : (P.info? ty).map (·.size) = some cells.size)
    (ho : off + cells.size ≤ old.size) (h1 : cells.all (·.oneCell') = true) :
    (storeVar ty ⟨g, off, none⟩ (.agg cells)).run P w = .ok () (w.setRow g (splice old.toList off cells.toList).toArray) := by
  have := run_storeCells_at (P := P) g off t cells.toList 0 old w hg (by simpa using ho) (fun v hv => (Array.all_eq_true_iff_forall_mem.1 h1) v (by simpa using hv))
  cases hq : P.info? ty with
  | none => simp [hq] at hi
  | some i =>
    have hs : cells.size = i.size := by simp [hq] at hi; omega
    simp [storeVar, sizeOf, typeInfo, hq, Value.cells, hs, splice, this]
theorem wpList_store_seg {ops : Array Oper} {rest : List Oper} {o : Oper} {a : Act} {w : World} {Q : Exit → Act → World → Prop} (hgd : o.guard = none) (ty : TypeId) (x y : Operand) (ho : o.op = .store ty x y)
    (g off : Nat) (cells : Array Value) (hx : a.eval x = .pointer (some ⟨g, off, none⟩)) (hy : a.eval y = .agg cells)
    (t : TypeId) (old : List Value) (hg : w.heap[g]? = some (.cells old.toArray t (0, 0))) (hi : (P.info? ty).map (·.size) = some cells.size)
    (hold : off + cells.size ≤ old.length) (h1 : cells.all (·.oneCell') = true)
    (h : ∀ w', w'.heap[g]? = some (.cells (splice old off cells.toList).toArray t (0, 0)) → Touch (fun i => i = g) w w' → wpList P ops Q rest (a.put o.dst undef) w') : wpList P ops Q (o :: rest) a w :=
  wpList_plain hgd fun _ hK => by
    unfold Oper.wp execOp
    simp only [ho, hx, hy, Instr.storeAt, Instr.sureAddr, Sem.run_bind, Sem.run_pure, Result.andThen_ok, run_storeVar_seg w g off t ty old.toArray cells hg hi (by simpa using hold) h1]
    exact hK _ _ (h _ (by simpa using setRow_heap w g _ _ t _ hg) (Touch.setRow (S := fun i => i = g) (Touch.refl _ w) rfl _))
theorem wpList_copy_touch {w : World} {ops : Array Oper} {rest : List Oper} {o : Oper} {a : Act} {Q : Exit → Act → World → Prop} (hgd : o.guard = none) (d s : Operand) (dT sT : TypeId)
    (ho : o.op = .call { callee := .builtin .copy, args := #[d, s], argTypes := #[dT, sT] }) (elem : TypeId) (hu : P.underlying dT = some (.slice elem)) (hsz : (P.info? elem).map (·.size) = some 1)
    (dp sp : Option Addr) (dLen dCap sLen sCap : Nat) (hd : a.eval d = .slice dp dLen dCap) (hs : a.eval s = .slice sp sLen sCap)
    (g off : Nat) (cur : List Value) (t : TypeId) (hg : w.heap[g]? = some (.cells cur.toArray t (0, 0))) (cs : List Value) (hn : cs.length = Nat.min sLen dLen)
    (hpos : 0 < cs.length → dp = some ⟨g, off, none⟩ ∧ ∃ ad, sp = some ad ∧ ∀ j v, cs[j]? = some v → w.cell? (ad.add j) = some v)
    (hfit : off + cs.length ≤ cur.length) (h1 : ∀ v ∈ cs, v.oneCell' = true)
    (h : ∀ w', Hid (w'.heap[g]? = some (.cells (splice cur off cs).toArray t (0, 0))) → Touch (fun i => i = g) w w' → wpList P ops Q rest (a.put o.dst (goInt cs.length)) w') :
    wpList P ops Q (o :: rest) a w := by
  by_cases h0 : cs.length = 0
  · obtain rfl : cs = [] := List.eq_nil_of_length_eq_zero h0
    refine wpList_copy_nothing hgd d s dT sT ho elem hu hsz dp sp dLen dCap sLen sCap hd hs (by simpa using hn.symm) ?_
    exact h w (show _ = _ by simpa [splice] using hg) (Touch.refl _ _)
  · obtain ⟨rfl, ad, rfl, hsrc⟩ := hpos (by omega)
    refine wpList_copy_own hgd d s dT sT ho elem hu hsz g off dLen dCap ad sLen sCap hd hs cur.toArray t hg cs hn hsrc (by simpa using hfit) h1 ?_
    exact h _ (show _ = _ by simpa [splice] using setRow_heap w g _ _ t _ hg) (Touch.setRow (S := fun i => i = g) (Touch.refl _ w) rfl _)
end
end Go.Proofs.YtndfnglcichngaaGreatDoor
namespace Go.Proofs.YtndfnglcichngaaGreatDoor
open Go.ChangeShapes Go.WideShapes Go.ChangeAt Go.RowKit
set_option linter.unusedVariables false
/-- What frames are: how many, which are taken, what each byte is, the free ones (the last one goes first). -/
structure St where
  n : Nat
  tk : Nat → Bool
  bt : Nat → Nat → Int
  fr : List Nat
structure Good (s : St) : Prop where
  n0 : 1 ≤ s.n
  n64 : s.n ≤ 64
  nodup : s.fr.Nodup
  free : ∀ i, i < s.n → (i ∈ s.fr ↔ s.tk i = false)
  lt : ∀ i ∈ s.fr, i < s.n
  zero : ∀ i j, i < s.n → j < 64 → s.tk i = false → s.bt i j = 0
  byte : ∀ i j, i < s.n → j < 64 → 0 ≤ s.bt i j ∧ s.bt i j ≤ 255
theorem nodup_len {n : Nat} {l : List Nat} (h : l.Nodup) (hl : ∀ i ∈ l, i < n) : l.length ≤ n := by
  induction n generalizing l with
  | zero =>
    cases l with
    | nil => simp
    | cons x l => have := hl x (by simp); omega
  | succ n ih =>
    by_cases hm : n ∈ l
    · have h1 := ih (h.erase n) (fun i hi => by
        have h2 := (h.mem_erase_iff).1 hi
        have h3 := hl i h2.2
        have h4 := h2.1
        omega)
      rw [List.length_erase_of_mem hm] at h1
      omega
    · have := ih h (fun i hi => by
        have h3 := hl i hi
        have h4 : i ≠ n := fun e => hm (e ▸ hi)
        omega)
      omega
theorem Good.len {s : St} (h : Good s) : s.fr.length ≤ s.n := nodup_len h.nodup h.lt
theorem Good.room {s : St} (h : Good s) {i : Nat} (hi : i < s.n) (ht : s.tk i = true) : s.fr.length < s.n := by
  have hn : i ∉ s.fr := fun e => by rw [(h.free i hi).1 e] at ht; cases ht
  have := nodup_len (n := s.n) (l := i :: s.fr) (List.nodup_cons.2 ⟨hn, h.nodup⟩) (fun j hj => by
    rcases List.mem_cons.1 hj with e | e
    · rw [e]; exact hi
    · exact h.lt j e)
  rw [List.length_cons] at this
  omega
/-- The row of frames. -/
def RowF (w : World) (A : Nat) (s : St) : Prop :=
  ∃ cur : List Value, w.heap[A]? = some (.cells cur.toArray 179 (0, 0)) ∧ cur.length = s.n * 65 ∧ ∀ i, i < s.n → cur[i * 65]? = some (.bool (s.tk i)) ∧ ∀ j, j < 64 → cur[i * 65 + (1 + j)]? = some (.int .u8 (s.bt i j))
/-- The numbers of the free ones. -/
def nums (l : List Nat) : List Int := l.map Int.ofNat
/-- The frames at block H. -/
structure Fr (w : World) (H A Q : Nat) (s : St) : Prop where
  good : Good s
  head : w.heap[H]? = some (.cells #[.slice (some ⟨A, 0, none⟩) s.n s.n, .slice (some ⟨Q, 0, none⟩) s.fr.length s.n] 127 (0, 0))
  row : RowF w A s
  free : w.ownsRow 0 3 1 (.slice (some ⟨Q, 0, none⟩) s.fr.length s.n) s.fr.length ((nums s.fr).map (Value.int .i64))
  ha : H ≠ A
  hq : H ≠ Q
  aq : A ≠ Q
theorem Fr.ltH {w : World} {H A Q : Nat} {s : St} (h : Fr w H A Q s) : H < w.heap.size := lt_of_heap h.head
theorem Fr.ltA {w : World} {H A Q : Nat} {s : St} (h : Fr w H A Q s) : A < w.heap.size := by obtain ⟨cur, e, _⟩ := h.row; exact lt_of_heap e
theorem Fr.ltQ {w : World} {H A Q : Nat} {s : St} (h : Fr w H A Q s) : Q < w.heap.size := (h.free.lt Q rfl).2
/-- The three blocks. -/
def Blk (H A Q : Nat) (i : Nat) : Prop := i = H ∨ i = A ∨ i = Q
theorem RowF.keep {w w' : World} {A : Nat} {s : St} (h : RowF w A s) (e : w'.heap[A]? = w.heap[A]?) : RowF w' A s := by
  obtain ⟨cur, h1, h2⟩ := h
  exact ⟨cur, e.trans h1, h2⟩
theorem Fr.keep {w w' : World} {H A Q : Nat} {s : St} (h : Fr w H A Q s) (e : ∀ i, Blk H A Q i → w'.heap[i]? = w.heap[i]?) : Fr w' H A Q s := by
  refine ⟨h.good, (e H (.inl rfl)).trans h.head, h.row.keep (e A (.inr (.inl rfl))), ⟨h.free.1, ?_⟩, h.ha, h.hq, h.aq⟩
  rcases h.free.2 with hn | ⟨g, cap, cur, e1, e2, e3, rest⟩
  · exact .inl hn
  · injection e1 with e4 _ e5
    injection e4 with e4
    injection e4 with e4 _ _
    subst e4
    exact .inr ⟨Q, cap, cur, by rw [← e5], e2, (e Q (.inr (.inr rfl))).trans e3, rest⟩
theorem Fr.touch {S : Nat → Prop} {w w' : World} {H A Q : Nat} {s : St} (h : Fr w H A Q s) (t : Touch S w w') (d : ∀ i, Blk H A Q i → ¬ S i) : Fr w' H A Q s :=
  h.keep fun i hi => t.block i (by rcases hi with rfl | rfl | rfl; exact h.ltH; exact h.ltA; exact h.ltQ) (d i hi)
theorem Fr.below {w w' : World} {H A Q : Nat} {s : St} (h : Fr w H A Q s) (t : Below w.heap.size w w') : Fr w' H A Q s := h.touch (S := fun _ => False) (Touch.of_below t) (fun _ _ e => e)
theorem Fr.h0 {w : World} {H A Q : Nat} {s : St} (h : Fr w H A Q s) : w.cell? ⟨H, 0, none⟩ = some (.slice (some ⟨A, 0, none⟩) s.n s.n) := by rw [cell_of_row _ _ _ _ _ _ h.head]; rfl
theorem Fr.h1 {w : World} {H A Q : Nat} {s : St} (h : Fr w H A Q s) : w.cell? ⟨H, 1, none⟩ = some (.slice (some ⟨Q, 0, none⟩) s.fr.length s.n) := by rw [cell_of_row _ _ _ _ _ _ h.head]; rfl
theorem Fr.f0 {w : World} {H A Q : Nat} {s : St} (h : Fr w H A Q s) (j : Nat) : w.frozen? ⟨H, j, none⟩ = false := frozen_of_row _ _ _ _ _ h.head
theorem Fr.fa {w : World} {H A Q : Nat} {s : St} (h : Fr w H A Q s) (j : Nat) : w.frozen? ⟨A, j, none⟩ = false := by obtain ⟨cur, e, _⟩ := h.row; exact frozen_of_row _ _ _ _ _ e
theorem Fr.tk {w : World} {H A Q : Nat} {s : St} (h : Fr w H A Q s) (i : Nat) (hi : i < s.n) : w.cell? ⟨A, i * 65, none⟩ = some (.bool (s.tk i)) := by
  obtain ⟨cur, e, _, hc⟩ := h.row
  rw [cell_of_row _ _ _ _ _ _ e]
  simpa using (hc i hi).1
theorem Fr.bt {w : World} {H A Q : Nat} {s : St} (h : Fr w H A Q s) (i j : Nat) (hi : i < s.n) (hj : j < 64) : w.cell? ⟨A, i * 65 + (1 + j), none⟩ = some (.int .u8 (s.bt i j)) := by
  obtain ⟨cur, e, _, hc⟩ := h.row
  rw [cell_of_row _ _ _ _ _ _ e]
  simpa using (hc i hi).2 j hj
theorem Fr.fq {w : World} {H A Q : Nat} {s : St} (h : Fr w H A Q s) (k : Nat) (hk : k < s.fr.length) : w.cell? ⟨Q, k, none⟩ = some (.int .i64 (s.fr.getD k 0 : Nat)) := by
  rw [h.free.cellAt k (by omega)]
  simp [nums, hk, List.getD]
end Go.Proofs.YtndfnglcichngaaGreatDoor
namespace Go.Proofs.YtndfnglcichngaaGreatDoor
open Go.ChangeShapes Go.WideShapes Go.ChangeAt Go.RowKit
set_option linter.unusedVariables false
/-- What an object at S with the blocks U is. -/
abbrev Rel (σ : Type) := World → (Nat → Prop) → Nat → σ → Prop
/-- It stays while its blocks do. -/
structure Keeps {σ : Type} (P : Rel σ) : Prop where
  keep : ∀ {V U : Nat → Prop} {w w' : World} {S : Nat} {s : σ}, P w U S s → Touch V w w' → (∀ i, U i → ¬ V i) → P w' U S s
  lt : ∀ {U : Nat → Prop} {w : World} {S : Nat} {s : σ}, P w U S s → ∀ i, U i → i < w.heap.size
theorem Keeps.below {σ : Type} {P : Rel σ} (C : Keeps P) {U : Nat → Prop} {w w' : World} {S : Nat} {s : σ} (h : P w U S s) (b : Below w.heap.size w w') : P w' U S s :=
  C.keep h (Touch.of_below (S := fun _ => False) b) (fun _ _ e => e)
/-- A call that changes: what it answers, what is then. -/
def SideO (P : World → (Nat → Prop) → Prop) (U : Nat → Prop) (w : World) (v : Value) (e : Ending) (w' : World) : Prop :=
  e = .returned v ∧ ∃ U', P w' U' ∧ Touch U w w' ∧ ∀ i, U' i → U i ∨ w.heap.size ≤ i
theorem SideO.of_below {P : World → (Nat → Prop) → Prop} {U : Nat → Prop} {w w' : World} {v : Value} (p : P w' U) (b : Below w.heap.size w w') : SideO P U w v (.returned v) w' := ⟨rfl, U, p, Touch.of_below b, fun i hi => .inl hi⟩
theorem SideO.later {P : World → (Nat → Prop) → Prop} {U : Nat → Prop} {w w1 w' : World} {v : Value} {e : Ending} (b : Below w.heap.size w w1) (h : SideO P U w1 v e w') : SideO P U w v e w' := by
  obtain ⟨rfl, U', p, t, u⟩ := h
  exact ⟨rfl, U', p, (Touch.of_below b).trans t (fun i hi => .inl hi), fun i hi => (u i hi).imp id fun e => by have := b.size; omega⟩
def Stay (X : List Nat) (w w' : World) : Prop := ∀ g ∈ X, w'.heap[g]? = w.heap[g]?
/-- A row that is neither's, and no block of X. -/
def FreeO (w wr : World) (U D : Nat → Prop) (X : List Nat) (v : Value) : Prop := ∀ i, v.ownBlock = some i → ¬ U i ∧ ¬ D i ∧ i ∉ X ∧ w.heap.size ≤ i ∧ i < wr.heap.size
/-- One object, made since w. -/
structure OneO {σ : Type} (P : Rel σ) (w wr : World) (U : Nat → Prop) (X : List Nat) (S : Nat) (s : σ) : Prop where
  ps : P wr U S s
  bel : Below w.heap.size w wr
  lo : ∀ i, U i → w.heap.size ≤ i
  xs : ∀ g ∈ X, g < wr.heap.size ∧ ¬ U g
/-- Two objects beside one another. -/
structure TwoO {σ τ : Type} (P : Rel σ) (Q : Rel τ) (w wr : World) (U D : Nat → Prop) (X : List Nat) (S R : Nat) (s : σ) (t : τ) : Prop where
  ps : P wr U S s
  ds : Q wr D R t
  bel : Below w.heap.size w wr
  dis : ∀ i, U i → ¬ D i
  lo : ∀ i, U i → w.heap.size ≤ i
  lo2 : ∀ i, D i → w.heap.size ≤ i
  xs : ∀ g ∈ X, g < wr.heap.size ∧ ¬ U g ∧ ¬ D g
section
variable {σ τ : Type} {P : Rel σ} {Q : Rel τ}
theorem OneO.first {w w1 : World} {S : Nat} {U : Nat → Prop} {s : σ} (p1 : P w1 U S s) (b1 : Below w.heap.size w w1) (l1 : ∀ i, U i → w.heap.size ≤ i) : OneO P w w1 U [] S s :=
  ⟨p1, b1, l1, fun g hg => absurd hg List.not_mem_nil⟩
theorem OneO.move {w wr w' : World} {U U' : Nat → Prop} {X : List Nat} {S : Nat} {s s' : σ} (h : OneO P w wr U X S s) (p : P w' U' S s') (u : Touch U wr w') (hU : ∀ i, U' i → U i ∨ wr.heap.size ≤ i) : OneO P w w' U' X S s' ∧ Stay X wr w' := by
  refine ⟨⟨p, h.bel.trans (u.below h.bel.size h.lo), fun i hi => ?_, fun g hg => ⟨Nat.lt_of_lt_of_le (h.xs g hg).1 u.size, fun e => ?_⟩⟩, fun g hg => u.block g (h.xs g hg).1 (h.xs g hg).2⟩
  · rcases hU i hi with e | e
    · exact h.lo i e
    · have := h.bel.size; omega
  · rcases hU g e with e2 | e2
    · exact (h.xs g hg).2 e2
    · have := (h.xs g hg).1; omega
theorem OneO.side {w wr w' : World} {U : Nat → Prop} {X : List Nat} {S : Nat} {s s' : σ} (h : OneO P w wr U X S s) {x : Value} {e : Ending} (hs : SideO (fun w' U' => P w' U' S s') U wr x e w') : e = .returned x ∧ ∃ U', OneO P w w' U' X S s' ∧ Stay X wr w' := by
  obtain ⟨rfl, U', p, u, hU⟩ := hs
  exact ⟨rfl, U', h.move p u hU⟩
theorem OneO.below (C : Keeps P) {w wr w' : World} {U : Nat → Prop} {X : List Nat} {S : Nat} {s : σ} (h : OneO P w wr U X S s) (b : Below wr.heap.size wr w') : OneO P w w' U X S s ∧ Stay X wr w' :=
  ⟨⟨C.below h.ps b, h.bel.trans (b.mono h.bel.size), h.lo, fun g hg => ⟨Nat.lt_of_lt_of_le (h.xs g hg).1 b.size, (h.xs g hg).2⟩⟩, fun g hg => b.block g (h.xs g hg).1⟩
theorem OneO.alloc (C : Keeps P) {w wr : World} {U : Nat → Prop} {X : List Nat} {S : Nat} {s : σ} (h : OneO P w wr U X S s) (o : Obj) : OneO P w (wr.alloc o) U (wr.heap.size :: X) S s ∧ Stay X wr (wr.alloc o) := by
  obtain ⟨h2, h3⟩ := h.below C ((Below.refl wr.heap.size wr).alloc (Nat.le_refl _) o)
  refine ⟨⟨h2.ps, h2.bel, h2.lo, fun g hg => ?_⟩, h3⟩
  rcases List.mem_cons.mp hg with rfl | e
  · exact ⟨by simp, fun e => by have := C.lt h.ps _ e; omega⟩
  · exact h2.xs g e
theorem OneO.touch (C : Keeps P) {w wr w' : World} {U V : Nat → Prop} {X : List Nat} {S : Nat} {s : σ} (h : OneO P w wr U X S s) (u : Touch V wr w') (hV : ∀ i, V i → ¬ U i ∧ w.heap.size ≤ i) : OneO P w w' U X S s :=
  ⟨C.keep h.ps u (fun i hi e => (hV i e).1 hi), h.bel.trans (u.below h.bel.size (fun i e => (hV i e).2)), h.lo, fun g hg => ⟨Nat.lt_of_lt_of_le (h.xs g hg).1 u.size, (h.xs g hg).2⟩⟩
theorem OneO.fewer {w wr : World} {U : Nat → Prop} {X X' : List Nat} {S : Nat} {s : σ} (h : OneO P w wr U X S s) (hs : ∀ g ∈ X', g ∈ X) : OneO P w wr U X' S s := ⟨h.ps, h.bel, h.lo, fun g hg => h.xs g (hs g hg)⟩
theorem TwoO.moveL (C : Keeps P) (D2 : Keeps Q) {w wr w' : World} {U U' D : Nat → Prop} {X : List Nat} {S R : Nat} {s s' : σ} {t : τ} (h : TwoO P Q w wr U D X S R s t) (p : P w' U' S s') (u : Touch U wr w') (hU : ∀ i, U' i → U i ∨ wr.heap.size ≤ i) : TwoO P Q w w' U' D X S R s' t ∧ Stay X wr w' := by
  have old : ∀ i, i < wr.heap.size → ¬ U i → ¬ U' i := fun i hi hn e => (hU i e).elim hn (fun e => by omega)
  refine ⟨⟨p, D2.keep h.ds u (fun i hi e => h.dis i e hi), h.bel.trans (u.below h.bel.size h.lo), fun i hi hd => ?_, fun i hi => ?_, h.lo2, fun g hg => ⟨Nat.lt_of_lt_of_le (h.xs g hg).1 u.size, old g (h.xs g hg).1 (h.xs g hg).2.1, (h.xs g hg).2.2⟩⟩, fun g hg => u.block g (h.xs g hg).1 (h.xs g hg).2.1⟩
  · exact old i (D2.lt h.ds i hd) (fun e => h.dis i e hd) hi
  · rcases hU i hi with e | e
    · exact h.lo i e
    · have := h.bel.size; omega
theorem TwoO.moveR (C : Keeps P) (D2 : Keeps Q) {w wr w' : World} {U D D' : Nat → Prop} {X : List Nat} {S R : Nat} {s : σ} {t t' : τ} (h : TwoO P Q w wr U D X S R s t) (p : Q w' D' R t') (u : Touch D wr w') (hU : ∀ i, D' i → D i ∨ wr.heap.size ≤ i) : TwoO P Q w w' U D' X S R s t' ∧ Stay X wr w' := by
  have old : ∀ i, i < wr.heap.size → ¬ D i → ¬ D' i := fun i hi hn e => (hU i e).elim hn (fun e => by omega)
  refine ⟨⟨C.keep h.ps u (fun i hi e => h.dis i hi e), p, h.bel.trans (u.below h.bel.size h.lo2), fun i hi hd => ?_, h.lo, fun i hi => ?_, fun g hg => ⟨Nat.lt_of_lt_of_le (h.xs g hg).1 u.size, (h.xs g hg).2.1, old g (h.xs g hg).1 (h.xs g hg).2.2⟩⟩, fun g hg => u.block g (h.xs g hg).1 (h.xs g hg).2.2⟩
  · exact old i (C.lt h.ps i hi) (fun e => h.dis i hi e) hd
  · rcases hU i hi with e | e
    · exact h.lo2 i e
    · have := h.bel.size; omega
theorem TwoO.left (C : Keeps P) (D2 : Keeps Q) {w wr w' : World} {U D : Nat → Prop} {X : List Nat} {S R : Nat} {s s' : σ} {t : τ} (h : TwoO P Q w wr U D X S R s t) {x : Value} {e : Ending} (hs : SideO (fun w' U' => P w' U' S s') U wr x e w') : e = .returned x ∧ ∃ U', TwoO P Q w w' U' D X S R s' t ∧ Stay X wr w' := by
  obtain ⟨rfl, U', p, u, hU⟩ := hs
  exact ⟨rfl, U', h.moveL C D2 p u hU⟩
theorem TwoO.right (C : Keeps P) (D2 : Keeps Q) {w wr w' : World} {U D : Nat → Prop} {X : List Nat} {S R : Nat} {s : σ} {t t' : τ} (h : TwoO P Q w wr U D X S R s t) {x : Value} {e : Ending} (hs : SideO (fun w' D' => Q w' D' R t') D wr x e w') : e = .returned x ∧ ∃ D', TwoO P Q w w' U D' X S R s t' ∧ Stay X wr w' := by
  obtain ⟨rfl, D', p, u, hU⟩ := hs
  exact ⟨rfl, D', h.moveR C D2 p u hU⟩
theorem TwoO.below (C : Keeps P) (D2 : Keeps Q) {w wr w' : World} {U D : Nat → Prop} {X : List Nat} {S R : Nat} {s : σ} {t : τ} (h : TwoO P Q w wr U D X S R s t) (u : Below wr.heap.size wr w') : TwoO P Q w w' U D X S R s t ∧ Stay X wr w' :=
  ⟨⟨C.below h.ps u, D2.below h.ds u, h.bel.trans (u.mono h.bel.size), h.dis, h.lo, h.lo2, fun g hg => ⟨Nat.lt_of_lt_of_le (h.xs g hg).1 u.size, (h.xs g hg).2⟩⟩, fun g hg => u.block g (h.xs g hg).1⟩
theorem TwoO.alloc (C : Keeps P) (D2 : Keeps Q) {w wr : World} {U D : Nat → Prop} {X : List Nat} {S R : Nat} {s : σ} {t : τ} (h : TwoO P Q w wr U D X S R s t) (o : Obj) : TwoO P Q w (wr.alloc o) U D (wr.heap.size :: X) S R s t ∧ Stay X wr (wr.alloc o) := by
  obtain ⟨h2, h3⟩ := h.below C D2 ((Below.refl wr.heap.size wr).alloc (Nat.le_refl _) o)
  refine ⟨⟨h2.ps, h2.ds, h2.bel, h2.dis, h2.lo, h2.lo2, fun g hg => ?_⟩, h3⟩
  rcases List.mem_cons.mp hg with rfl | e
  · exact ⟨by simp, fun e => by have := C.lt h.ps _ e; omega, fun e => by have := D2.lt h.ds _ e; omega⟩
  · exact h2.xs g e
theorem TwoO.fewer {w wr : World} {U D : Nat → Prop} {X X' : List Nat} {S R : Nat} {s : σ} {t : τ} (h : TwoO P Q w wr U D X S R s t) (hs : ∀ g ∈ X', g ∈ X) : TwoO P Q w wr U D X' S R s t :=
  ⟨h.ps, h.ds, h.bel, h.dis, h.lo, h.lo2, fun g hg => h.xs g (hs g hg)⟩
theorem TwoO.touch (C : Keeps P) (D2 : Keeps Q) {w wr w' : World} {U D V : Nat → Prop} {X : List Nat} {S R : Nat} {s : σ} {t : τ} (h : TwoO P Q w wr U D X S R s t) (u : Touch V wr w') (hV : ∀ i, V i → ¬ U i ∧ ¬ D i ∧ w.heap.size ≤ i) : TwoO P Q w w' U D X S R s t :=
  ⟨C.keep h.ps u (fun i hi e => (hV i e).1 hi), D2.keep h.ds u (fun i hi e => (hV i e).2.1 hi), h.bel.trans (u.below h.bel.size (fun i e => (hV i e).2.2)), h.dis, h.lo, h.lo2, fun g hg => ⟨Nat.lt_of_lt_of_le (h.xs g hg).1 u.size, (h.xs g hg).2⟩⟩
/-- A row that is new: nobody's. -/
theorem TwoO.free (C : Keeps P) (D2 : Keeps Q) {w wr w' : World} {U D : Nat → Prop} {X : List Nat} {S R : Nat} {s : σ} {t : τ} (h : TwoO P Q w wr U D X S R s t) {e : TypeId} {z n : Nat} {v : Value} {xs : List Value} (ho : w'.ownsRow wr.heap.size e z v n xs) : FreeO w w' U D X v := by
  intro i hi
  obtain ⟨l1, l2⟩ := ho.lt i hi
  exact ⟨fun e => by have := C.lt h.ps i e; omega, fun e => by have := D2.lt h.ds i e; omega, fun e => by have := (h.xs i e).1; omega, by have := h.bel.size; omega, l2⟩
theorem FreeO.below {w wr w' : World} {U D : Nat → Prop} {X : List Nat} {v : Value} (h : FreeO w wr U D X v) (u : Below wr.heap.size wr w') : FreeO w w' U D X v :=
  fun i hi => ⟨(h i hi).1, (h i hi).2.1, (h i hi).2.2.1, (h i hi).2.2.2.1, Nat.lt_of_lt_of_le (h i hi).2.2.2.2 u.size⟩
/-- What was answered is written over. -/
theorem TwoO.over (C : Keeps P) (D2 : Keeps Q) {w wr w' : World} {U D : Nat → Prop} {X : List Nat} {S R : Nat} {s : σ} {t : τ} (h : TwoO P Q w wr U D X S R s t) {v : Value} (hv : FreeO w wr U D X v) (u : Touch (fun i => v.ownBlock = some i) wr w') : TwoO P Q w w' U D X S R s t ∧ Stay X wr w' :=
  ⟨h.touch C D2 u fun i hi => ⟨(hv i hi).1, (hv i hi).2.1, (hv i hi).2.2.2.1⟩, fun g hg => u.block g (h.xs g hg).1 (fun e => (hv g e).2.2.1 hg)⟩
theorem OneO.two (C : Keeps P) (D2 : Keeps Q) {w w1 w2 : World} {U D : Nat → Prop} {X : List Nat} {S R : Nat} {s : σ} {t : τ} (h : OneO P w w1 U X S s) (r2 : Q w2 D R t) (b2 : Below w1.heap.size w1 w2) (l2 : ∀ i, D i → w1.heap.size ≤ i) : TwoO P Q w w2 U D X S R s t :=
  ⟨C.below h.ps b2, r2, h.bel.trans (b2.mono h.bel.size), fun i hi hd => by have := C.lt h.ps i hi; have := l2 i hd; omega, h.lo, fun i hd => by have := l2 i hd; have := h.bel.size; omega, fun g hg => ⟨Nat.lt_of_lt_of_le (h.xs g hg).1 b2.size, (h.xs g hg).2, fun e => by have := l2 g e; have := (h.xs g hg).1; omega⟩⟩
end
end Go.Proofs.YtndfnglcichngaaGreatDoor
namespace Go.Proofs.YtndfnglcichngaaGreatDoor
open Go.ChangeShapes Go.WideShapes Go.ChangeAt Go.RowKit
set_option linter.unusedVariables false
theorem low_wrapN (x : Int) (n : Nat) (hn : 0 < n) (hb : n ≤ 1000000) : ∃ r : Nat, r < n ∧ wrap64 ((IntKind.u64.wrap x).tmod (n : Int)) = r := by
  have h : IntKind.u64.wrap x = x % 18446744073709551616 := by simp [IntKind.wrap, IntKind.bits, IntKind.signed]
  rw [h, Int.tmod_eq_emod_of_nonneg (by omega)]
  have h0 : 0 ≤ (x % 18446744073709551616) % (n : Int) := Int.emod_nonneg _ (by omega)
  have h1 : (x % 18446744073709551616) % (n : Int) < n := Int.emod_lt_of_pos _ (by omega)
  generalize (x % 18446744073709551616) % (n : Int) = y at *
  obtain ⟨r, rfl⟩ := Int.eq_ofNat_of_zero_le h0
  refine ⟨r, by omega, ?_⟩
  unfold wrap64
  omega
theorem low_any (x : Int) (n : Nat) (w : World) (hn : 0 < n) (hb : n ≤ 1000000) :
    Calls Tryz.prog 30 #[.int .i64 x, .int .i64 (n : Int)] w fun e w' => (∃ r : Nat, r < n ∧ e = .returned (.int .i64 (r : Int))) ∧ w = w' := by
  obtain ⟨r, hr, he⟩ := low_wrapN x n hn hb
  have HE := hide he
  have n0 : ¬ ((n : Int) = 0) := by omega
  have n1 : (0 : Int) ≤ (n : Int) := by omega
  have n2 : (n : Int) ≤ 1000000 := by omega
  have hu : IntKind.u64.wrap (n : Int) = (n : Int) := by simp [IntKind.wrap, IntKind.bits, IntKind.signed]; omega
  clear he
  go_enter Tryz.func30, Tryz.ntmps30
  go_wp2_with fail
  go_ret
  exact ⟨⟨r, hr, ret_int HE.out⟩, rfl⟩
end Go.Proofs.YtndfnglcichngaaGreatDoor
