/-
  The walk of FramesOnce.
-/
import Derived.Test.YtipepklobpnbpaaActs
import Derived.Test.YtipepklobpnbpaaBytes
import Derived.Deep.RegionHeld3
import Derived.Deep.CutBlock
namespace Go.Proofs.Ytipepklobpnbpaa
open Go.ChangeShapes Go.WideShapes Go.ChangeAt Go.RowKit
set_option linter.unusedVariables false
/-- The row of marks: which are taken. -/
def Marks (w : World) (T : Nat) (tk : Nat → Bool) : Prop := ∃ (cur : Array Value) (t : TypeId), w.heap[T]? = some (.cells cur t (0, 0)) ∧ cur.size = 8 ∧ ∀ j, j < 8 → cur[j]? = some (.bool (tk j))
theorem Marks.lt {w : World} {T : Nat} {tk : Nat → Bool} (h : Marks w T tk) : T < w.heap.size := by obtain ⟨cur, t, e, _⟩ := h; exact lt_of_heap e
theorem Marks.cell {w : World} {T : Nat} {tk : Nat → Bool} (h : Marks w T tk) (j : Nat) (hj : j < 8) : w.cell? ⟨T, j, none⟩ = some (.bool (tk j)) := by
  obtain ⟨cur, t, e, _, hc⟩ := h
  rw [cell_of_row _ _ _ _ _ _ e]; exact hc j hj
theorem Marks.frozen {w : World} {T : Nat} {tk : Nat → Bool} (h : Marks w T tk) (j : Nat) : w.frozen? ⟨T, j, none⟩ = false := by
  obtain ⟨cur, t, e, _⟩ := h
  exact frozen_of_row _ _ _ _ _ e
theorem Marks.touch {S : Nat → Prop} {w w' : World} {T : Nat} {tk : Nat → Bool} (h : Marks w T tk) (t : Touch S w w') (d : ¬ S T) : Marks w' T tk := by
  have hl := h.lt
  obtain ⟨cur, t', e, hr⟩ := h
  exact ⟨cur, t', (t.block T hl d).trans e, hr⟩
theorem Marks.set {w : World} {T : Nat} {tk : Nat → Bool} (h : Marks w T tk) (k : Nat) (hk : k < 8) (v : Bool) : Marks (w.setCell ⟨T, k, none⟩ (.bool v)) T (upd tk k v) := by
  obtain ⟨cur, t, e, hs, hc⟩ := h
  refine ⟨_, t, heap_setCell_same w T k cur t _ e, by simpa using hs, fun j hj => ?_⟩
  by_cases hjk : j = k
  · subst hjk; rw [upd_same, Array.getElem?_setIfInBounds_self_of_lt (by omega)]
  · rw [upd_other _ _ hjk, Array.getElem?_setIfInBounds_ne (by omega)]; exact hc j hj
theorem Marks.same {w : World} {T : Nat} {tk tk' : Nat → Bool} (h : Marks w T tk) (e : ∀ j, j < 8 → tk' j = tk j) : Marks w T tk' := by
  obtain ⟨cur, t, e1, hs, hc⟩ := h
  exact ⟨cur, t, e1, hs, fun j hj => by rw [e j hj]; exact hc j hj⟩
theorem write_any {w : World} {H A Q : Nat} {s : St} (f : Fr w H A Q s) (k off : Nat) (hk : k < s.n) (ho : off < 64) (a : Option Addr) (m c : Nat) (ys : List Int) (hb : Ints .u8 w a m ys) (hy : Bytes ys) :
    Calls Try.prog 43 #[.pointer (some ⟨H, 0, none⟩), .int .i64 (k : Nat), .int .i64 (off : Nat), .slice a m c] w fun e w' => ∃ r, e = .returned (.int .i64 r) ∧ ∃ s', Fr w' H A Q s' ∧ s'.n = s.n ∧ s'.tk = s.tk ∧ s'.fr = s.fr ∧ Touch (fun i => i = A) w w' := by
  cases hf : fit (off : Int) (m : Int) with
  | false =>
    have hc := code_arg (s := s) (i := (k : Int)) (off := (off : Int)) (n := (m : Int)) (fun e => by rw [hf] at e; cases e.2.2)
    refine (write_err f (k : Int) (off : Int) (wf_nat (by omega)) a m c (by rw [hc]; decide)).mono ?_
    rintro e w' ⟨rfl, rfl⟩
    exact ⟨_, rfl, s, f, rfl, rfl, rfl, Touch.refl _ _⟩
  | true =>
    cases ht : s.tk k with
    | false =>
      have hc := code_none hk hf ht
      refine (write_err f (k : Int) (off : Int) (wf_nat (by omega)) a m c (by rw [hc]; decide)).mono ?_
      rintro e w' ⟨rfl, rfl⟩
      exact ⟨_, rfl, s, f, rfl, rfl, rfl, Touch.refl _ _⟩
    | true =>
      have hm : off + m ≤ 64 := by simp [fit] at hf; omega
      refine (write_ok f k off hk ht a m c ys hb hy hm).mono ?_
      rintro e w' ⟨rfl, f2, t2⟩
      exact ⟨_, rfl, _, f2, rfl, rfl, rfl, t2⟩
/-- What is held at each round's beginning. -/
structure Onc (w wr : World) (H A Q T : Nat) (s : St) : Prop where
  fr : Fr wr H A Q s
  n8 : s.n = 8
  marks : Marks wr T s.tk
  bel : Below w.heap.size w wr
  blk : ∀ i, Blk H A Q i → w.heap.size ≤ i
  tT : w.heap.size ≤ T
  nT : ¬ Blk H A Q T
theorem Fr.drewN {w : World} {H A Q : Nat} {s : St} (h : Fr w H A Q s) (n : Nat) : Fr (w.drewN n) H A Q s := h.keep fun _ _ => rfl
theorem Onc.len {w wr : World} {H A Q T : Nat} {s : St} (h : Onc w wr H A Q T s) : s.fr.length ≤ 8 := by have := h.fr.good.len; rw [h.n8] at this; exact this
theorem Onc.turn {w wr w' : World} {H A Q T : Nat} {s s' : St} (h : Onc w wr H A Q T s) (f : Fr w' H A Q s') (e : s'.n = s.n) (t : Touch (Blk H A Q) wr w') (hm : Marks w' T s'.tk) : Onc w w' H A Q T s' :=
  ⟨f, by rw [e]; exact h.n8, hm, h.bel.trans (t.below h.bel.size h.blk), h.blk, h.tT, h.nT⟩
theorem Onc.below {w wr w' : World} {H A Q T : Nat} {s : St} (h : Onc w wr H A Q T s) (t : Below wr.heap.size wr w') : Onc w w' H A Q T s :=
  ⟨h.fr.below t, h.n8, h.marks.touch (S := fun _ => False) (Touch.of_below t) (fun e => e), h.bel.trans (t.mono h.bel.size), h.blk, h.tT, h.nT⟩
theorem Onc.set {w wr : World} {H A Q T : Nat} {s s' : St} (f : Fr wr H A Q s') (n8 : s'.n = 8) (hm : Marks wr T s.tk) (hb : Below w.heap.size w wr) (blk : ∀ i, Blk H A Q i → w.heap.size ≤ i) (tT : w.heap.size ≤ T) (nT : ¬ Blk H A Q T) (k : Nat) (hk : k < 8) (v : Bool) (e : ∀ j, j < 8 → s'.tk j = upd s.tk k v j) :
    Onc w (wr.setCell ⟨T, k, none⟩ (.bool v)) H A Q T s' := by
  have t : Touch (fun i => i = T) wr (wr.setCell ⟨T, k, none⟩ (.bool v)) := (Touch.refl (fun i => i = T) wr).setCell (p := ⟨T, k, none⟩) rfl _
  exact ⟨f.touch t (fun i hi e => nT (e ▸ hi)), n8, (hm.set k hk v).same e, hb.trans (t.below hb.size (fun i e => by rw [e]; exact tT)), blk, tT, nT⟩
def zero64 : Array Value := Array.replicate 64 (.int .u8 0)
theorem run_make64 (w : World) : (Instr.makeSlice 39 (.int .i64 64) (.int .i64 64)).run Try.prog w = .ok (.slice (some ⟨w.heap.size, 0, none⟩) 64 64) (w.alloc (.cells zero64 5)) := by
  obtain ⟨i0, hi0, hz0, hz1, hz2⟩ := info_parts u8_info
  have := run_make (P := Try.prog) w 39 5 i0 _ Try.underlying39 hi0 hz0 .i64 .i64 64 64 (by omega) (by omega) (by rw [hz2]; omega) (by omega)
  rw [hz1] at this
  have e : madeCells (Value.int .u8 0).cells ((64 : Int).toNat * 1) = zero64 := by kernel_rfl
  rw [e] at this
  exact this
theorem own_zero64 (w : World) : (w.alloc (.cells zero64 5)).ownsRow 0 5 1 (.slice (some ⟨w.heap.size, 0, none⟩) 64 64) 64 ((List.replicate 64 (0 : Int)).map (Value.int .u8)) := by
  refine own_of_full ?_ (by simp) (Nat.zero_le _) (by unfold maxLen; omega)
  rw [heap_alloc_new]
  have e : zero64 = ((List.replicate 64 (0 : Int)).map (Value.int .u8)).toArray := by rw [List.map_replicate, List.toArray_replicate]; rfl
  rw [e]
theorem part_zero {s : St} (g : Good s) {x : Nat} (hx : x < s.n) (ht : s.tk x = false) (l : List Nat) : (s.take l x).part x 0 64 = List.replicate 64 0 := by
  unfold St.part
  apply List.ext_getElem
  · simp
  · intro j h1 h2
    simp at h1
    simp only [List.getElem_map, List.getElem_range, List.getElem_replicate, Nat.zero_add]
    exact g.zero x j hx h1 ht
end Go.Proofs.Ytipepklobpnbpaa
