/-
  slices.Concat of rows of bytes: a row of one's own (as XAmCat).
-/
import Derived.Test.YtndfnglcichngaaGreatDoorSoBothPb
import Derived.Test.YtndfnglcichngaaGreatDoorPa07
import Derived.Test.YtndfnglcichngaaGreatDoorGrowShelf
namespace Go.Proofs.YtndfnglcichngaaGreatDoor
open Go.ChangeShapes Go.WideShapes Go.ChangeAt Go.RowKit
set_option linter.unusedVariables false
set_option linter.unusedSimpArgs false
def byVals (z : Int) : List Value := [.int .u8 z]
theorem byVals_len (z : Int) : (byVals z).length = 1 := rfl
theorem byVals_cell (z : Int) : ∀ v ∈ byVals z, v.oneCell' = true := by
  intro v hv
  simp [byVals] at hv
  subst hv; rfl
/-- A slice, and what it reads as. -/
structure Rw (α : Type) where
  a : Option Addr
  n : Nat
  c : Nat
  xs : List α
def rwV {α : Type} (r : Rw α) : List Value := [.slice r.a r.n r.c]
structure RwOk {α : Type} (z : Nat) (vals : α → List Value) (w : World) (r : Rw α) : Prop where
  reads : Reads z vals w r.a r.n r.xs
  nil : r.a = none → r.c = 0
  few : r.n ≤ 1000
theorem RwOk.below {α : Type} {z : Nat} {vals : α → List Value} {w w' : World} {r : Rw α} (h : RwOk z vals w r) (b : Below w.heap.size w w') : RwOk z vals w' r := ⟨h.reads.below b, h.nil, h.few⟩
def flatR {α : Type} (rs : List (Rw α)) : List α := rs.flatMap (·.xs)
theorem flatR_take {α : Type} {rs : List (Rw α)} {i : Nat} {r : Rw α} (h : rs[i]? = some r) : flatR (rs.take (i + 1)) = flatR (rs.take i) ++ r.xs := by
  unfold flatR
  rw [List.take_add_one, h, List.flatMap_append]
  simp
theorem flatR_len {α : Type} {rs : List (Rw α)} (h : ∀ r ∈ rs, r.xs.length ≤ 1000) : ∀ k, (flatR (rs.take k)).length ≤ 1000 * k := by
  intro k
  induction k with
  | zero => simp [flatR]
  | succ k ih =>
    cases hk : rs[k]? with
    | none =>
      have e : rs.take (k + 1) = rs.take k := by rw [List.take_of_length_le (by have := List.getElem?_eq_none_iff.1 hk; omega), List.take_of_length_le (by have := List.getElem?_eq_none_iff.1 hk; omega)]
      rw [e]; omega
    | some r =>
      rw [flatR_take hk, List.length_append]
      have := h r (List.mem_of_getElem? hk)
      omega
theorem own_mono {w : World} {B C : Nat} {e : TypeId} {z n : Nat} {v : Value} {xs : List Value} (h : w.ownsRow B e z v n xs) (hb : C ≤ B) : w.ownsRow C e z v n xs := by
  refine ⟨h.1, ?_⟩
  rcases h.2 with h2 | ⟨g, cap, cur, h2, h3, h4⟩
  · exact .inl h2
  · exact .inr ⟨g, cap, cur, h2, by omega, h4⟩
theorem byVals_cells : ∀ x : Int, ∀ v ∈ byVals x, v.oneCell' = true := byVals_cell
theorem byq_info : (Tryz.prog.info? 5).map (fun i => (i.zero, i.size, i.bytes)) = some (some (.int .u8 0), 1, 1) := by kernel_rfl
theorem grow_by (w : World) (k : Nat) (hk : k ≤ 20000) :
    Calls Tryz.prog 108 #[.slice none 0 0, .int .i64 (k : Int)] w fun e w' => ∃ v, e = .returned v ∧ w'.ownsRow w.heap.size 5 1 v 0 [] ∧ Below w.heap.size w w' := by
  obtain ⟨i0, hi0, hz0, hz1, hz2⟩ := info_parts byq_info
  by_cases h0 : k = 0
  · subst h0
    exact (Go.Proofs.Any8.slices_Grow_room Tryz.growBy none 0 0 0 w (by omega) (by omega) (by omega) (by omega)).mono fun e w' ⟨h1, h2⟩ => ⟨_, h1, World.ownsRow_nil _ _ _ _, by rw [h2]; exact Below.refl _ _⟩
  · refine (Go.Proofs.Any8.slices_Grow_grow Tryz.growBy i0 (.int .u8 0) hi0 hz0 (by rw [hz1]; omega) none 0 0 k [] w (by omega) (by omega) (by rw [hz2]; omega) (by omega) (by simp) (fun _ => rfl) (fun a h => by cases h)).mono fun e w' ⟨h1, h2⟩ => ⟨_, h1, ?_, ?_⟩
    · rw [h2]
      refine World.ownsRow_made w.drew _ _ (Nat.le_refl _) (grownCap_le_maxLen _ _ _ _ (by unfold maxLen; omega)) ?_
      have := grownCap_ge w (0 + k) 0 (Tryz.growBy_ren.t 25)
      rw [Array.size_append, Array.size_append, size_zeroCells, size_zeroCells]
      have e0 : ([] : List Value).toArray.size = 0 := rfl
      have e1 : (Value.cells (.int .u8 0)).size = 1 := rfl
      rw [e0, e1]
      omega
    · rw [h2]
      exact (below_drewN (Below.refl _ w) 1).alloc (Nat.le_refl _) _
set_option maxRecDepth 20000 in
set_option maxHeartbeats 8000000 in
theorem cat_by (w : World) (a : Option Addr) (n c : Nat) (rs : List (Rw Int)) (hr : Reads 1 rwV w a n rs) (hn : n ≤ 12) (hok : ∀ r ∈ rs, RwOk 1 byVals w r) :
    Calls Tryz.prog 68 #[.slice a n c] w fun e w' => ∃ v, e = .returned v ∧ w'.ownsRow w.heap.size 5 1 v (flatR rs).length ((flatR rs).flatMap byVals) ∧ Below w.heap.size w w' := by
  obtain ⟨i0, hi0, hz0, hz1, hz2⟩ := info_parts byq_info
  have I0 := hide (show Tryz.prog.info? 5 = some i0 ∧ i0.zero = some _ ∧ i0.size = 1 ∧ i0.bytes = 1 from ⟨hi0, hz0, hz1, hz2⟩)
  have HR := hide (fun (W : World) (b : Below w.heap.size w W) => hr.below b)
  have HL := hide hr.1
  have n2 : (n : Int) ≤ 12 := by omega
  have OK := hide (show ∀ W : World, Below w.heap.size w W → ∀ r ∈ rs, RwOk 1 byVals W r from fun W b r h => (hok r h).below b)
  have LEN := hide (show ∀ k, (flatR (rs.take k)).length ≤ 1000 * k from flatR_len fun r h => by rw [(hok r h).reads.1]; exact (hok r h).few)
  have ALL := hide (show rs.take n = rs from List.take_of_length_le (by rw [hr.1]; exact Nat.le_refl _))
  have N12 := hide hn
  clear hr hn hok hi0 hz0 hz1 hz2
  go_enter Tryz.func68, Tryz.ntmps68
  go_wp2_with fail
  go_loopw [3, 11] (fun sv iv wr => ∃ (i Y : Nat), i ≤ n ∧ Y ≤ 12000 ∧ iv = .int .i64 (i : Int) ∧ sv = .int .i64 (Y : Int) ∧ Hid (Y = (flatR (rs.take i)).length) ∧ w = wr) (fun _ iv _ => n - (intOf iv).toNat)
  case atStart => exact ⟨0, 0, Nat.zero_le _, Nat.zero_le _, rfl, rfl, rfl, rfl⟩
  case round =>
    obtain ⟨i, Y, hi, hY, rfl, rfl, hZ, rfl⟩ := hrel
    have YE := hide hZ.out
    clear hZ
    by_cases hlt : i < n
    · have j0 : (0 : Int) ≤ (i : Int) := by omega
      have j1 : (i : Int) < (n : Int) := by omega
      obtain ⟨r, pb, po, hx, rfl, hc⟩ := (HR.out _ (Below.refl _ _)).at_ hlt
      have y0 : w.cell? ⟨pb, po + i, none⟩ = some (.slice r.a r.n r.c) := by
        have h := hc 0 _ rfl
        rwa [Nat.mul_one, Nat.add_zero] at h
      have RO := OK.out _ (Below.refl _ _) r (List.mem_of_getElem? hx)
      obtain ⟨m, hm⟩ : ∃ m, m = r.n := ⟨_, rfl⟩
      have NX := hide (show (flatR (rs.take (i + 1))).length = Y + m from by rw [flatR_take hx, List.length_append, YE.out, RO.reads.1, hm])
      have L1 : Y + m ≤ 12000 := by rw [← NX.out]; have := LEN.out (i + 1); have := N12.out; omega
      have q0 : (0 : Int) ≤ (Y : Int) := by omega
      have q1 : (0 : Int) ≤ (m : Int) := by omega
      have q2 : (Y : Int) + (m : Int) ≤ 12000 := by omega
      have q3 : ¬ (Y : Int) + (m : Int) < 0 := by omega
      rw [← hm] at y0
      clear hc hx RO hm
      go_wp2_with fail
      go_roundw
      case rel => exact ⟨i + 1, Y + m, by omega, L1, by go_num, by go_num, NX.out.symm, by trivial⟩
      case measure => simp [intOf]; omega
    · obtain rfl : i = n := by omega
      have YA := hide (show Y = (flatR rs).length from by rw [YE.out, ALL.out])
      have GR := hide (grow_by w Y (by omega))
      clear hlt hi YE
      go_upto_region 10 with (go_at_call 108; refine GR.out.mono ?_; rintro e w1 ⟨v1, rfl, o1, b1⟩; have O1 := hide o1; have B1 := hide b1; clear o1 b1)
      clear GR
      go_wp2_with fail
      go_loopw [6, 27] (fun sv iv wr => ∃ j : Nat, j ≤ i ∧ iv = .int .i64 (j : Int) ∧ Hid (Below w.heap.size w wr) ∧ Hid (wr.ownsRow w.heap.size 5 1 sv (flatR (rs.take j)).length ((flatR (rs.take j)).flatMap byVals))) (fun _ iv _ => i - (intOf iv).toNat)
      case atStart => exact ⟨0, Nat.zero_le _, rfl, B1, O1.out⟩
      case round =>
        obtain ⟨j, hj, rfl, hB, hO⟩ := hrel
        rename World => w2
        clear O1 B1
        have B2 := hide hB.out
        have O2 := hide hO.out
        clear hB hO
        by_cases hlt : j < i
        · have j0 : (0 : Int) ≤ (j : Int) := by omega
          have j1 : (j : Int) < (i : Int) := by omega
          obtain ⟨r, pb, po, hx, rfl, hc⟩ := (HR.out _ B2.out).at_ hlt
          have y0 : w2.cell? ⟨pb, po + j, none⟩ = some (.slice r.a r.n r.c) := by
            have h := hc 0 _ rfl
            rwa [Nat.mul_one, Nat.add_zero] at h
          have RO := hide (OK.out _ B2.out r (List.mem_of_getElem? hx))
          have NX := hide (flatR_take hx)
          have LM := hide (LEN.out (j + 1))
          have JL := hide (show j + 1 ≤ 12 from by have := N12.out; omega)
          obtain ⟨M, hM⟩ : ∃ M, M = flatR (rs.take j) := ⟨_, rfl⟩
          rw [← hM] at NX O2
          clear hc hx hM
          go_wp2_with (at_builtin; refine wpList_append_reads rfl (.tmp 31) (.tmp 32) 30 rfl w.heap.size 5 i0 _ 1 (Tryz.underlying30) I0.out.1 I0.out.2.1 I0.out.2.2.1 I0.out.2.2.2 rfl (by omega) _ M.length _ rfl O2.out r.a r.n r.c r.xs rfl byVals_len byVals_cell RO.out.reads RO.out.nil (by have := LM.out; rw [NX.out, List.length_append, RO.out.reads.1] at this; have := JL.out; unfold maxLen; omega) (by have := LM.out; rw [NX.out, List.length_append, RO.out.reads.1] at this; have := JL.out; omega) B2.out.size ?_; intro v3 w3 o3 g3; have O3 := hide o3; have B3 := hide (B2.out.grown g3 B2.out.size (own_lo O2.out)); clear o3 g3)
          go_roundw
          case rel => exact ⟨j + 1, by omega, by go_num, B3.out, by rw [NX.out, List.length_append, List.flatMap_append, RO.out.reads.1]; exact O3.out⟩
          case measure => simp [intOf]; omega
        · obtain rfl : j = i := by omega
          have O := hide (show w2.ownsRow w.heap.size 5 1 _ (flatR rs).length ((flatR rs).flatMap byVals) from by have h := O2.out; rw [ALL.out] at h; exact h)
          clear hlt hj O2
          go_wp2_with fail
          go_ret
          exact ⟨_, rfl, O.out, B2.out⟩
end Go.Proofs.YtndfnglcichngaaGreatDoor
