/-
  Contracts of two of the queue's methods, Len and Less.
-/
import Derived.Test.YtccokhalcdljiaaHpCmp
namespace Go.Proofs.Ytccokhalcdljiaa.Hp
open Go.ChangeShapes Go.WideShapes Go.ChangeAt Go.RowKit Go.Sort
set_option linter.unusedVariables false
theorem grow_below (w : World) (q : Nat) (os : Array Obj) : Below w.heap.size w (grow (w.drewN q) os) := by
  refine ⟨rfl, rfl, rfl, ?_, fun k hk => ?_⟩
  · show _ ≤ ((w.drewN q).heap ++ os).size
    rw [Array.size_append]; exact Nat.le_add_right _ _
  · show ((w.drewN q).heap ++ os)[k]? = _
    rw [Array.getElem?_append_left (show k < (w.drewN q).heap.size from hk)]; rfl
theorem below_undrew {w w' : World} (hb : Below w.drew.heap.size w.drew w') : Below w.heap.size w w' := ⟨hb.os, hb.tape, hb.output, hb.size, hb.block⟩
theorem compare_bel (x y : Int × Int) (W : World) : Calls Try.prog 86 #[.agg #[.int .i64 x.1, .int .i64 x.2], .agg #[.int .i64 y.1, .int .i64 y.2]] W fun e w' =>
    e = .returned (.int .i64 (cmpIt x y)) ∧ Below W.heap.size W w' :=
  (compare_any x y W).mono fun e w' ⟨he, q, os, hw⟩ => ⟨he, by subst hw; exact grow_below W q os⟩
theorem own_slice {w : World} {base : Nat} {e : TypeId} {z n : Nat} {v : Value} {xs : List Value} (h : w.ownsRow base e z v n xs) : ∃ A c, v = .slice A n c ∧ n ≤ c ∧ c ≤ maxLen ∧ (A = none → n = 0 ∧ c = 0) := by
  rcases h.2 with ⟨rfl, rfl⟩ | ⟨g, cap, cur, rfl, _, _, h1, h2, _⟩
  · exact ⟨none, 0, rfl, Nat.le_refl _, by unfold maxLen; omega, fun _ => ⟨rfl, rfl⟩⟩
  · exact ⟨_, _, rfl, h1, h2, fun e => by cases e⟩
theorem Parts.cell0 {w : World} {H : Nat} {v : Value} {M : Nat} {l : List (Int × Int)} {f : Int → Option Nat} (h : Parts w H v M l f) : w.cell? ⟨H, 0, none⟩ = some v := by rw [cell_of_row _ _ _ _ _ _ h.1]; rfl
theorem Parts.cell1 {w : World} {H : Nat} {v : Value} {M : Nat} {l : List (Int × Int)} {f : Int → Option Nat} (h : Parts w H v M l f) : w.cell? ⟨H, 1, none⟩ = some (.map (some M)) := by rw [cell_of_row _ _ _ _ _ _ h.1]; rfl
theorem Parts.free {w : World} {H : Nat} {v : Value} {M : Nat} {l : List (Int × Int)} {f : Int → Option Nat} (h : Parts w H v M l f) (j : Nat) : w.frozen? ⟨H, j, none⟩ = false := frozen_of_row _ _ _ _ _ h.1
theorem Parts.ltH {w : World} {H : Nat} {v : Value} {M : Nat} {l : List (Int × Int)} {f : Int → Option Nat} (h : Parts w H v M l f) : H < w.heap.size := (Array.getElem?_eq_some_iff.1 h.1).1
/-- Where the items lie, when there are any. -/
theorem Parts.row {w : World} {H : Nat} {v : Value} {M : Nat} {l : List (Int × Int)} {f : Int → Option Nat} (h : Parts w H v M l f) (hl : 0 < l.length) :
    ∃ g c, v = .slice (some ⟨g, 0, none⟩) l.length c ∧ l.length ≤ c ∧ g < w.heap.size ∧ (∀ k, k < l.length → w.cell? ⟨g, k * 2, none⟩ = some (.int .i64 (it l k).1) ∧ w.cell? ⟨g, k * 2 + 1, none⟩ = some (.int .i64 (it l k).2)) ∧
      (∀ k, w.frozen? ⟨g, k, none⟩ = false) ∧ g ≠ H ∧ g ≠ M ∧ H ≠ M := by
  obtain ⟨h1, h2, h3⟩ := h
  obtain ⟨g, c, rfl, _, hlt⟩ := h2.form hl
  have h2' := h2
  obtain ⟨_, hh⟩ := h2'
  rcases hh with ⟨hn, _⟩ | ⟨g', cap, cur, e1, e2, e3, e4, e5, e6, e7⟩
  · cases hn
  · injection e1 with e1 _ ec
    injection e1 with e1
    injection e1 with e1
    subst e1 ec
    obtain ⟨D, ⟨es, clock, hb, _⟩, _⟩ := h3
    refine ⟨g, c, rfl, e4, hlt, fun k hk => ⟨?_, ?_⟩, fun k => h2.frozenAt k, ?_, ?_, ?_⟩
    · rw [h2.cellAt _ (by omega)]; exact cellsIt_id l k hk
    · rw [h2.cellAt _ (by omega)]; exact cellsIt_key l k hk
    · rintro rfl; rw [e3] at h1; injection h1 with h1; injection h1 with _ h1; revert h1; decide
    · rintro rfl; rw [e3] at hb; cases hb
    · rintro rfl; rw [h1] at hb; cases hb
theorem Parts.neHM {w : World} {H : Nat} {v : Value} {M : Nat} {l : List (Int × Int)} {f : Int → Option Nat} (h : Parts w H v M l f) : H ≠ M := by
  obtain ⟨h1, h2, ⟨D, ⟨es, clock, hb, _⟩, _⟩⟩ := h
  rintro rfl; rw [h1] at hb; cases hb
theorem qlen_any (w : World) (H M : Nat) (v : Value) (l : List (Int × Int)) (f : Int → Option Nat) (h : Parts w H v M l f) :
    Calls Try.prog 78 #[.pointer (some ⟨H, 0, none⟩)] w fun e w' => e = .returned (.int .i64 (l.length : Int)) ∧ w = w' := by
  have c0 := h.cell0
  obtain ⟨A, c, rfl, _⟩ := own_slice h.2.1
  clear h
  go_enter Try.func78, Try.ntmps78
  go_wp2_with fail
  go_ret
  exact ⟨rfl, rfl⟩
set_option maxHeartbeats 1000000 in
theorem qless_any (w : World) (H M i j : Nat) (v : Value) (l : List (Int × Int)) (f : Int → Option Nat) (h : Parts w H v M l f) (hi : i < l.length) (hj : j < l.length) (hn : l.length ≤ 1000000) :
    Calls Try.prog 113 #[.pointer (some ⟨H, 0, none⟩), .int .i64 (i : Int), .int .i64 (j : Int)] w fun e w' => e = .returned (.bool (due (it l i) (it l j))) ∧ Below w.heap.size w w' := by
  have c0 := h.cell0
  have hH := h.ltH
  obtain ⟨g, c, rfl, _, hg, hc, _, _, _⟩ := h.row (by omega)
  obtain ⟨ci0, ci1⟩ := hc i hi
  obtain ⟨cj0, cj1⟩ := hc j hj
  clear hc h
  have i0 : (0 : Int) ≤ (i : Int) := by omega
  have i1 : (i : Int) < (l.length : Int) := by omega
  have j0 : (0 : Int) ≤ (j : Int) := by omega
  have j1 : (j : Int) < (l.length : Int) := by omega
  have hd := cmpIt_lt (it l i) (it l j)
  have HD := hide hd
  clear hd
  generalize it l i = x at *
  generalize it l j = y at *
  go_enter Try.func113, Try.ntmps113
  go_wp2_with fail
  go_region_held3 (fun w' => w'.cell? ⟨H, 0, none⟩ = some (.slice (some ⟨g, 0, none⟩) l.length c) ∧ w'.cell? ⟨g, i * 2, none⟩ = some (.int .i64 x.1) ∧ w'.cell? ⟨g, i * 2 + 1, none⟩ = some (.int .i64 x.2) ∧ w'.cell? ⟨g, j * 2, none⟩ = some (.int .i64 y.1) ∧ w'.cell? ⟨g, j * 2 + 1, none⟩ = some (.int .i64 y.2)) (first | exact ⟨c0, ci0, ci1, cj0, cj1⟩ | exact ⟨(hb.cell hH).trans c0, (hb.cell hg).trans ci0, (hb.cell hg).trans ci1, (hb.cell hg).trans cj0, (hb.cell hg).trans cj1⟩) (first | (go_at_call 86; refine (compare_bel x y _).mono ?_; rintro e w' ⟨rfl, hb⟩))
  go_wp2_with fail
  go_ret
  exact ⟨ret_bool HD.out, below_undrew hb⟩
end Go.Proofs.Ytccokhalcdljiaa.Hp
