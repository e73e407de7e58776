/-
  The program's locks in memory: what they are in plain words (Rk), where they lie (Rg: the locks S, the mutexes' row M, the map of what is held H, that of who waits W, the sets of who waits for each B, the rows of what is held sl); a tag for each block.
-/
import Derived.Test.YteeofpjfgjhemaaKMap
import Derived.Test.YteeofpjfgjhemaaHelds
namespace Go.Proofs.Yteeofpjfgjhemaa
open Go.ChangeShapes Go.WideShapes Go.ChangeAt Go.RowKit Go.Maps
set_option linter.unusedVariables false
structure Rk where
  n : Nat
  o : Nat → Int
  q : Nat → Int → Option Unit
  h : Int → List Hv
  a : Int → Option Int
theorem hv_cell (x : Hv) : ∀ v ∈ hvVals x, v.oneCell' = true := by intro v hv; simp [hvVals] at hv; rcases hv with rfl | rfl <;> rfl
/-- The row of the mutexes. -/
def RowM (w : World) (M n : Nat) (o : Nat → Int) (B : Nat → Nat) : Prop :=
  ∃ cur : Array Value, w.heap[M]? = some (.cells cur 69 (0, 0)) ∧ cur.size = n * 2 ∧ ∀ j, j < n → cur[j * 2]? = some (.int .i64 (o j)) ∧ cur[j * 2 + 1]? = some (.map (some (B j)))
theorem RowM.keep {w w' : World} {M n : Nat} {o : Nat → Int} {B : Nat → Nat} (h : RowM w M n o B) (e : w'.heap[M]? = w.heap[M]?) : RowM w' M n o B := by
  obtain ⟨cur, h1, r⟩ := h
  exact ⟨cur, e.trans h1, r⟩
theorem RowM.lt {w : World} {M n : Nat} {o : Nat → Int} {B : Nat → Nat} (h : RowM w M n o B) : M < w.heap.size := by obtain ⟨cur, h1, _⟩ := h; exact lt_of_heap h1
theorem RowM.at_ {w : World} {M n : Nat} {o : Nat → Int} {B : Nat → Nat} (h : RowM w M n o B) {j : Nat} (hj : j < n) : w.cell? ⟨M, j * 2, none⟩ = some (.int .i64 (o j)) ∧ w.cell? ⟨M, j * 2 + 1, none⟩ = some (.map (some (B j))) ∧ ∀ i, w.frozen? ⟨M, i, none⟩ = false := by
  obtain ⟨cur, h1, h2, h3⟩ := h
  exact ⟨by rw [cell_of_row _ _ _ _ _ _ h1]; exact (h3 j hj).1, by rw [cell_of_row _ _ _ _ _ _ h1]; exact (h3 j hj).2, fun i => frozen_of_row _ _ _ _ _ h1⟩
def upN {α : Type} (f : Nat → α) (k : Nat) (v : α) : Nat → α := fun x => if x = k then v else f x
/-- The owner of one is set. -/
theorem RowM.own {w : World} {M n : Nat} {o : Nat → Int} {B : Nat → Nat} (h : RowM w M n o B) {j : Nat} (hj : j < n) (x : Int) : RowM (w.setCell ⟨M, j * 2, none⟩ (.int .i64 x)) M n (upN o j x) B := by
  obtain ⟨cur, h1, h2, h3⟩ := h
  refine ⟨_, heap_setCell_same _ _ _ _ _ _ h1, by simp [h2], fun i hi => ?_⟩
  obtain ⟨a1, a2⟩ := h3 i hi
  have hs : j * 2 < cur.size := by omega
  unfold upN
  by_cases e : i = j
  · subst e
    rw [if_pos rfl]
    refine ⟨by simp [hs], ?_⟩
    rw [Array.getElem?_setIfInBounds_ne (by omega)]; exact a2
  · rw [if_neg e, Array.getElem?_setIfInBounds_ne (by omega), Array.getElem?_setIfInBounds_ne (by omega)]
    exact ⟨a1, a2⟩
/-- One is written anew. -/
theorem RowM.anew {w w' : World} {M n : Nat} {o : Nat → Int} {B : Nat → Nat} {cur : Array Value} (h1 : w.heap[M]? = some (.cells cur 69 (0, 0))) (h2 : cur.size = n * 2) (h3 : ∀ j, j < n → cur[j * 2]? = some (.int .i64 (o j)) ∧ cur[j * 2 + 1]? = some (.map (some (B j)))) {j : Nat} (hj : j < n) (x : Int) (b : Nat)
    (e : w'.heap[M]? = some (.cells (splice cur.toList (j * 2) [.int .i64 x, .map (some b)]).toArray 69 (0, 0))) : RowM w' M n (upN o j x) (upN B j b) := by
  have hl : j * 2 + [Value.int .i64 x, .map (some b)].length ≤ cur.toList.length := by simp; omega
  refine ⟨_, e, by simp [splice]; omega, fun i hi => ?_⟩
  obtain ⟨a1, a2⟩ := h3 i hi
  unfold upN
  rw [List.getElem?_toArray, List.getElem?_toArray, getElem?_splice _ _ _ hl, getElem?_splice _ _ _ hl]
  simp only [List.length_cons, List.length_nil]
  by_cases e : i = j
  · subst e
    rw [if_pos rfl, if_pos rfl, if_pos (by omega), if_pos (by omega)]
    refine ⟨by simp, ?_⟩
    rw [show i * 2 + 1 - i * 2 = 1 by omega]; rfl
  · rw [if_neg e, if_neg e, if_neg (by omega), if_neg (by omega)]
    exact ⟨by rw [Array.getElem?_toList]; exact a1, by rw [Array.getElem?_toList]; exact a2⟩
structure Rg (w : World) (U : Nat → Prop) (T S M H W : Nat) (B : Nat → Nat) (sl : Int → Option Sl) (tag : Nat → Int) (r : Rk) : Prop where
  s : w.heap[S]? = some (.cells #[.pointer (some ⟨T, 0, none⟩), .slice (some ⟨M, 0, none⟩) r.n r.n, .map (some H), .map (some W)] 66 (0, 0))
  m : RowM w M r.n r.o B
  b : ∀ j, j < r.n → IM (fun _ : Unit => (DataW.agg [] : DataW Unit)) unitElem w (B j) (r.q j) ∧ U (B j) ∧ tag (B j) = 2 * (j : Int)
  hm : IM slE readS w H sl
  wm : IM (fun x : Int => (DataW.lit (.int .i64 x) : DataW Unit)) readI w W r.a
  row : ∀ t, (sl t = none ∧ r.h t = []) ∨ ∃ g c, sl t = some ⟨some g, (r.h t).length, c⟩ ∧ r.h t ≠ [] ∧ w.ownsRow 0 44 2 (.slice (some ⟨g, 0, none⟩) (r.h t).length c) (r.h t).length ((r.h t).flatMap hvVals) ∧ U g ∧ tag g = 2 * t + 1
  us : U S ∧ U M ∧ U H ∧ U W
  ts : tag S = -1 ∧ tag M = -3 ∧ tag H = -5 ∧ tag W = -7
  lt : ∀ i, U i → i < w.heap.size
  n6 : r.n ≤ 1000
section
variable {w : World} {U : Nat → Prop} {T S M H W : Nat} {B : Nat → Nat} {sl : Int → Option Sl} {tag : Nat → Int} {r : Rk}
theorem Rg.touch {V : Nat → Prop} {w' : World} (h : Rg w U T S M H W B sl tag r) (t : Touch V w w') (d : ∀ i, U i → ¬ V i) : Rg w' U T S M H W B sl tag r := by
  obtain ⟨u1, u2, u3, u4⟩ := h.us
  refine ⟨(t.block S (lt_of_heap h.s) (d _ u1)).trans h.s, h.m.keep (t.block M h.m.lt (d _ u2)), fun j hj => ?_, h.hm.touch t (d _ u3), h.wm.touch t (d _ u4), fun x => ?_, h.us, h.ts, fun i hi => Nat.lt_of_lt_of_le (h.lt i hi) t.size, h.n6⟩
  · obtain ⟨h1, h2, h3⟩ := h.b j hj
    exact ⟨h1.touch t (d _ h2), h2, h3⟩
  · rcases h.row x with e | ⟨g, c, e1, e2, e3, e4, e5⟩
    · exact .inl e
    · exact .inr ⟨g, c, e1, e2, t.own e3 (fun i hi => by injection hi with hi; subst hi; exact d _ e4), e4, e5⟩
theorem Rg.below {w' : World} (h : Rg w U T S M H W B sl tag r) (b : Below w.heap.size w w') : Rg w' U T S M H W B sl tag r := h.touch (Touch.of_below (S := fun _ => False) b) (fun _ _ e => e)
/-- More blocks are its own. -/
theorem Rg.more {U' : Nat → Prop} {tag' : Nat → Int} (h : Rg w U T S M H W B sl tag r) (hu : ∀ i, U i → U' i ∧ tag' i = tag i) (hl : ∀ i, U' i → i < w.heap.size) : Rg w U' T S M H W B sl tag' r := by
  obtain ⟨u1, u2, u3, u4⟩ := h.us
  obtain ⟨t1, t2, t3, t4⟩ := h.ts
  refine ⟨h.s, h.m, fun j hj => ?_, h.hm, h.wm, fun x => ?_, ⟨(hu _ u1).1, (hu _ u2).1, (hu _ u3).1, (hu _ u4).1⟩, ⟨by rw [(hu _ u1).2, t1], by rw [(hu _ u2).2, t2], by rw [(hu _ u3).2, t3], by rw [(hu _ u4).2, t4]⟩, hl, h.n6⟩
  · obtain ⟨h1, h2, h3⟩ := h.b j hj
    exact ⟨h1, (hu _ h2).1, by rw [(hu _ h2).2, h3]⟩
  · rcases h.row x with e | ⟨g, c, e1, e2, e3, e4, e5⟩
    · exact .inl e
    · exact .inr ⟨g, c, e1, e2, e3, (hu _ e4).1, by rw [(hu _ e4).2, e5]⟩
/-- The cells of the locks. -/
theorem Rg.cells (h : Rg w U T S M H W B sl tag r) : w.cell? ⟨S, 0, none⟩ = some (.pointer (some ⟨T, 0, none⟩)) ∧ w.cell? ⟨S, 1, none⟩ = some (.slice (some ⟨M, 0, none⟩) r.n r.n) ∧ w.cell? ⟨S, 2, none⟩ = some (.map (some H)) ∧ w.cell? ⟨S, 3, none⟩ = some (.map (some W)) := by
  have h1 := h.s
  exact ⟨by rw [cell_of_row _ _ _ _ _ _ h1]; rfl, by rw [cell_of_row _ _ _ _ _ _ h1]; rfl, by rw [cell_of_row _ _ _ _ _ _ h1]; rfl, by rw [cell_of_row _ _ _ _ _ _ h1]; rfl⟩
/-- What a thread holds, as it stands. -/
theorem Rg.held (h : Rg w U T S M H W B sl tag r) (t : Int) : ∃ a c, slV ((sl t).getD ⟨none, 0, 0⟩) = .slice a (r.h t).length c ∧ w.ownsRow 0 44 2 (.slice a (r.h t).length c) (r.h t).length ((r.h t).flatMap hvVals) ∧ Reads 2 hvVals w a (r.h t).length (r.h t) ∧ (r.h t).length ≤ maxLen ∧ (a = none → c = 0) ∧ (a = none ∨ ∃ g, a = some ⟨g, 0, none⟩ ∧ U g ∧ tag g = 2 * t + 1) := by
  rcases h.row t with ⟨e1, e2⟩ | ⟨g, c, e1, e2, e3, e4, e5⟩
  · refine ⟨none, 0, by rw [e1, e2]; rfl, by rw [e2]; exact World.ownsRow_nil _ _ _ _, by rw [e2]; exact reads_nil, by rw [e2]; simp, fun _ => rfl, .inl rfl⟩
  · obtain ⟨a', c', f1, f2, f3, f4, f5⟩ := own_reads hvVals_len (by omega) e3
    injection f1 with f1 _ f6
    subst f1 f6
    exact ⟨_, c, by rw [e1]; rfl, e3, f2, by omega, (fun e => by cases e), .inr ⟨g, rfl, e4, e5⟩⟩
end
theorem zeroHeld (w : World) : (zeroValue 40).run Try.prog w = .ok (slV ⟨none, 0, 0⟩) w := by kernel_rfl
theorem zeroIntK (w : World) : (zeroValue 3).run Try.prog w = .ok (.int .i64 0) w := by kernel_rfl
/-- The locks, wherever they lie. -/
def Rw (w : World) (U : Nat → Prop) (T S : Nat) (r : Rk) : Prop := ∃ M H W B sl tag, Rg w U T S M H W B sl tag r
end Go.Proofs.Yteeofpjfgjhemaa
