/-
  What the walks lean on, part 15: AmCat AmBlk RtTells.
-/
import Derived.Test.YtcmgkjjkhfcedaaGreatPk14
/-
  slices.Concat of rows (of integers, tasks, parts): a row of one's own (written by tools/gen/amcat.py).
-/
namespace Go.Proofs.YtcmgkjjkhfcedaaGreat
open Go.ChangeShapes Go.WideShapes Go.ChangeAt Go.RowKit
set_option linter.unusedVariables false
set_option linter.unusedSimpArgs false
/-- A slice, and what it reads as. -/
structure Rw (α : Type) where
  a : Option Addr
  n : Nat
  c : Nat
  xs : List α
def rwV {α : Type} (r : Rw α) : List Value := [.slice r.a r.n r.c]
structure RwOk {α : Type} (z : Nat) (vals : α → List Value) (w : World) (r : Rw α) : Prop where
  reads : Reads z vals w r.a r.n r.xs
  nil : r.a = none → r.c = 0
  few : r.n ≤ 100
theorem RwOk.below {α : Type} {z : Nat} {vals : α → List Value} {w w' : World} {r : Rw α} (h : RwOk z vals w r) (b : Below w.heap.size w w') : RwOk z vals w' r := ⟨h.reads.below b, h.nil, h.few⟩
def flatR {α : Type} (rs : List (Rw α)) : List α := rs.flatMap (·.xs)
theorem flatR_take {α : Type} {rs : List (Rw α)} {i : Nat} {r : Rw α} (h : rs[i]? = some r) : flatR (rs.take (i + 1)) = flatR (rs.take i) ++ r.xs := by
  unfold flatR
  rw [List.take_add_one, h, List.flatMap_append]
  simp
theorem flatR_len {α : Type} {rs : List (Rw α)} (h : ∀ r ∈ rs, r.xs.length ≤ 100) : ∀ k, (flatR (rs.take k)).length ≤ 100 * k := by
  intro k
  induction k with
  | zero => simp [flatR]
  | succ k ih =>
    cases hk : rs[k]? with
    | none =>
      have e : rs.take (k + 1) = rs.take k := by rw [List.take_of_length_le (by have := List.getElem?_eq_none_iff.1 hk; omega), List.take_of_length_le (by have := List.getElem?_eq_none_iff.1 hk; omega)]
      rw [e]; omega
    | some r =>
      rw [flatR_take hk, List.length_append]
      have := h r (List.mem_of_getElem? hk)
      omega
theorem own_mono {w : World} {B C : Nat} {e : TypeId} {z n : Nat} {v : Value} {xs : List Value} (h : w.ownsRow B e z v n xs) (hb : C ≤ B) : w.ownsRow C e z v n xs := by
  refine ⟨h.1, ?_⟩
  rcases h.2 with h2 | ⟨g, cap, cur, h2, h3, h4⟩
  · exact .inl h2
  · exact .inr ⟨g, cap, cur, h2, by omega, h4⟩
theorem nuVals_cells18 : ∀ x : Int, ∀ v ∈ nuVals x, v.oneCell' = true := nuVals_cell
theorem intq_info18 : (Tryz.prog.info? 3).map (fun i => (i.zero, i.size, i.bytes)) = some (some (.int .i64 0), 1, 8) := by kernel_rfl
theorem grow_int (w : World) (k : Nat) (hk : k ≤ 2000) :
    Calls Tryz.prog 70 #[.slice none 0 0, .int .i64 (k : Int)] w fun e w' => ∃ v, e = .returned v ∧ w'.ownsRow w.heap.size 3 1 v 0 [] ∧ Below w.heap.size w w' := by
  obtain ⟨i0, hi0, hz0, hz1, hz2⟩ := info_parts intq_info18
  by_cases h0 : k = 0
  · subst h0
    exact (Go.Proofs.Any8.slices_Grow_room Tryz.growIn none 0 0 0 w (by omega) (by omega) (by omega) (by omega)).mono fun e w' ⟨h1, h2⟩ => ⟨_, h1, World.ownsRow_nil _ _ _ _, by rw [h2]; exact Below.refl _ _⟩
  · refine (Go.Proofs.Any8.slices_Grow_grow Tryz.growIn i0 (.int .i64 0) hi0 hz0 (by rw [hz1]; omega) none 0 0 k [] w (by omega) (by omega) (by rw [hz2]; omega) (by omega) (by simp) (fun _ => rfl) (fun a h => by cases h)).mono fun e w' ⟨h1, h2⟩ => ⟨_, h1, ?_, ?_⟩
    · rw [h2]
      refine World.ownsRow_made w.drew _ _ (Nat.le_refl _) (grownCap_le_maxLen _ _ _ _ (by unfold maxLen; omega)) ?_
      have := grownCap_ge w (0 + k) 0 (Tryz.growIn_ren.t 25)
      rw [Array.size_append, Array.size_append, size_zeroCells, size_zeroCells]
      have e0 : ([] : List Value).toArray.size = 0 := rfl
      have e1 : (Value.cells (.int .i64 0)).size = 1 := rfl
      rw [e0, e1]
      omega
    · rw [h2]
      exact (below_drewN (Below.refl _ w) 1).alloc (Nat.le_refl _) _
set_option maxRecDepth 20000 in
set_option maxHeartbeats 8000000 in
theorem cat_int (w : World) (a : Option Addr) (n c : Nat) (rs : List (Rw Int)) (hr : Reads 1 rwV w a n rs) (hn : n ≤ 12) (hok : ∀ r ∈ rs, RwOk 1 nuVals w r) :
    Calls Tryz.prog 37 #[.slice a n c] w fun e w' => ∃ v, e = .returned v ∧ w'.ownsRow w.heap.size 3 1 v (flatR rs).length ((flatR rs).flatMap nuVals) ∧ Below w.heap.size w w' := by
  obtain ⟨i0, hi0, hz0, hz1, hz2⟩ := info_parts intq_info18
  have I0 := hide (show Tryz.prog.info? 3 = some i0 ∧ i0.zero = some _ ∧ i0.size = 1 ∧ i0.bytes = 8 from ⟨hi0, hz0, hz1, hz2⟩)
  have HR := hide (fun (W : World) (b : Below w.heap.size w W) => hr.below b)
  have HL := hide hr.1
  have n2 : (n : Int) ≤ 12 := by omega
  have OK := hide (show ∀ W : World, Below w.heap.size w W → ∀ r ∈ rs, RwOk 1 nuVals W r from fun W b r h => (hok r h).below b)
  have LEN := hide (show ∀ k, (flatR (rs.take k)).length ≤ 100 * k from flatR_len fun r h => by rw [(hok r h).reads.1]; exact (hok r h).few)
  have ALL := hide (show rs.take n = rs from List.take_of_length_le (by rw [hr.1]; exact Nat.le_refl _))
  have N12 := hide hn
  clear hr hn hok hi0 hz0 hz1 hz2
  go_enter Tryz.func37, Tryz.ntmps37
  go_wp2_with fail
  go_loopw [3, 11] (fun sv iv wr => ∃ (i Y : Nat), i ≤ n ∧ Y ≤ 1200 ∧ iv = .int .i64 (i : Int) ∧ sv = .int .i64 (Y : Int) ∧ Hid (Y = (flatR (rs.take i)).length) ∧ w = wr) (fun _ iv _ => n - (intOf iv).toNat)
  case atStart => exact ⟨0, 0, Nat.zero_le _, Nat.zero_le _, rfl, rfl, rfl, rfl⟩
  case round =>
    obtain ⟨i, Y, hi, hY, rfl, rfl, hZ, rfl⟩ := hrel
    have YE := hide hZ.out
    clear hZ
    by_cases hlt : i < n
    · have j0 : (0 : Int) ≤ (i : Int) := by omega
      have j1 : (i : Int) < (n : Int) := by omega
      obtain ⟨r, pb, po, hx, rfl, hc⟩ := (HR.out _ (Below.refl _ _)).at_ hlt
      have y0 : w.cell? ⟨pb, po + i, none⟩ = some (.slice r.a r.n r.c) := by
        have h := hc 0 _ rfl
        rwa [Nat.mul_one, Nat.add_zero] at h
      have RO := OK.out _ (Below.refl _ _) r (List.mem_of_getElem? hx)
      obtain ⟨m, hm⟩ : ∃ m, m = r.n := ⟨_, rfl⟩
      have NX := hide (show (flatR (rs.take (i + 1))).length = Y + m from by rw [flatR_take hx, List.length_append, YE.out, RO.reads.1, hm])
      have L1 : Y + m ≤ 1200 := by rw [← NX.out]; have := LEN.out (i + 1); have := N12.out; omega
      have q0 : (0 : Int) ≤ (Y : Int) := by omega
      have q1 : (0 : Int) ≤ (m : Int) := by omega
      have q2 : (Y : Int) + (m : Int) ≤ 1200 := by omega
      have q3 : ¬ (Y : Int) + (m : Int) < 0 := by omega
      rw [← hm] at y0
      clear hc hx RO hm
      go_wp2_with fail
      go_roundw
      case rel => exact ⟨i + 1, Y + m, by omega, L1, by go_num, by go_num, NX.out.symm, by trivial⟩
      case measure => simp [intOf]; omega
    · obtain rfl : i = n := by omega
      have YA := hide (show Y = (flatR rs).length from by rw [YE.out, ALL.out])
      have GR := hide (grow_int w Y (by omega))
      clear hlt hi YE
      go_upto_region 10 with (go_at_call 70; refine GR.out.mono ?_; rintro e w1 ⟨v1, rfl, o1, b1⟩; have O1 := hide o1; have B1 := hide b1; clear o1 b1)
      clear GR
      go_wp2_with fail
      go_loopw [6, 27] (fun sv iv wr => ∃ j : Nat, j ≤ i ∧ iv = .int .i64 (j : Int) ∧ Hid (Below w.heap.size w wr) ∧ Hid (wr.ownsRow w.heap.size 3 1 sv (flatR (rs.take j)).length ((flatR (rs.take j)).flatMap nuVals))) (fun _ iv _ => i - (intOf iv).toNat)
      case atStart => exact ⟨0, Nat.zero_le _, rfl, B1, O1.out⟩
      case round =>
        obtain ⟨j, hj, rfl, hB, hO⟩ := hrel
        rename World => w2
        clear O1 B1
        have B2 := hide hB.out
        have O2 := hide hO.out
        clear hB hO
        by_cases hlt : j < i
        · have j0 : (0 : Int) ≤ (j : Int) := by omega
          have j1 : (j : Int) < (i : Int) := by omega
          obtain ⟨r, pb, po, hx, rfl, hc⟩ := (HR.out _ B2.out).at_ hlt
          have y0 : w2.cell? ⟨pb, po + j, none⟩ = some (.slice r.a r.n r.c) := by
            have h := hc 0 _ rfl
            rwa [Nat.mul_one, Nat.add_zero] at h
          have RO := hide (OK.out _ B2.out r (List.mem_of_getElem? hx))
          have NX := hide (flatR_take hx)
          have LM := hide (LEN.out (j + 1))
          have JL := hide (show j + 1 ≤ 12 from by have := N12.out; omega)
          obtain ⟨M, hM⟩ : ∃ M, M = flatR (rs.take j) := ⟨_, rfl⟩
          rw [← hM] at NX O2
          clear hc hx hM
          go_wp2_with (at_builtin; refine wpList_append_reads rfl (.tmp 31) (.tmp 32) 25 rfl w.heap.size 3 i0 _ 8 (Tryz.underlying25) I0.out.1 I0.out.2.1 I0.out.2.2.1 I0.out.2.2.2 rfl (by omega) _ M.length _ rfl O2.out r.a r.n r.c r.xs rfl nuVals_len nuVals_cell RO.out.reads RO.out.nil (by have := LM.out; rw [NX.out, List.length_append, RO.out.reads.1] at this; have := JL.out; unfold maxLen; omega) (by have := LM.out; rw [NX.out, List.length_append, RO.out.reads.1] at this; have := JL.out; omega) B2.out.size ?_; intro v3 w3 o3 g3; have O3 := hide o3; have B3 := hide (B2.out.grown g3 B2.out.size (own_lo O2.out)); clear o3 g3)
          go_roundw
          case rel => exact ⟨j + 1, by omega, by go_num, B3.out, by rw [NX.out, List.length_append, List.flatMap_append, RO.out.reads.1]; exact O3.out⟩
          case measure => simp [intOf]; omega
        · obtain rfl : j = i := by omega
          have O := hide (show w2.ownsRow w.heap.size 3 1 _ (flatR rs).length ((flatR rs).flatMap nuVals) from by have h := O2.out; rw [ALL.out] at h; exact h)
          clear hlt hj O2
          go_wp2_with fail
          go_ret
          exact ⟨_, rfl, O.out, B2.out⟩
theorem tk_info18 : (Tryz.prog.info? 47).map (fun i => (i.zero, i.size, i.bytes)) = some (some (.agg #[.int .i64 0, .int .i64 0, .int .i64 0, .int .i64 0, .int .i64 0, .int .i64 0, .slice none 0 0, .slice none 0 0]), 8, 96) := by kernel_rfl
theorem grow_tk (w : World) (k : Nat) (hk : k ≤ 2000) :
    Calls Tryz.prog 73 #[.slice none 0 0, .int .i64 (k : Int)] w fun e w' => ∃ v, e = .returned v ∧ w'.ownsRow w.heap.size 47 8 v 0 [] ∧ Below w.heap.size w w' := by
  obtain ⟨i0, hi0, hz0, hz1, hz2⟩ := info_parts tk_info18
  by_cases h0 : k = 0
  · subst h0
    exact (Go.Proofs.Any8.slices_Grow_room Tryz.growTk none 0 0 0 w (by omega) (by omega) (by omega) (by omega)).mono fun e w' ⟨h1, h2⟩ => ⟨_, h1, World.ownsRow_nil _ _ _ _, by rw [h2]; exact Below.refl _ _⟩
  · refine (Go.Proofs.Any8.slices_Grow_grow Tryz.growTk i0 (.agg #[.int .i64 0, .int .i64 0, .int .i64 0, .int .i64 0, .int .i64 0, .int .i64 0, .slice none 0 0, .slice none 0 0]) hi0 hz0 (by rw [hz1]; omega) none 0 0 k [] w (by omega) (by omega) (by rw [hz2]; omega) (by omega) (by simp) (fun _ => rfl) (fun a h => by cases h)).mono fun e w' ⟨h1, h2⟩ => ⟨_, h1, ?_, ?_⟩
    · rw [h2]
      refine World.ownsRow_made w.drew _ _ (Nat.le_refl _) (grownCap_le_maxLen _ _ _ _ (by unfold maxLen; omega)) ?_
      have := grownCap_ge w (0 + k) 0 (Tryz.growTk_ren.t 25)
      rw [Array.size_append, Array.size_append, size_zeroCells, size_zeroCells]
      have e0 : ([] : List Value).toArray.size = 0 := rfl
      have e1 : (Value.cells (.agg #[.int .i64 0, .int .i64 0, .int .i64 0, .int .i64 0, .int .i64 0, .int .i64 0, .slice none 0 0, .slice none 0 0])).size = 8 := rfl
      rw [e0, e1]
      omega
    · rw [h2]
      exact (below_drewN (Below.refl _ w) 1).alloc (Nat.le_refl _) _
set_option maxRecDepth 20000 in
set_option maxHeartbeats 8000000 in
theorem cat_tk (w : World) (a : Option Addr) (n c : Nat) (rs : List (Rw Tk)) (hr : Reads 1 rwV w a n rs) (hn : n ≤ 12) (hok : ∀ r ∈ rs, RwOk 8 tkVals w r) :
    Calls Tryz.prog 42 #[.slice a n c] w fun e w' => ∃ v, e = .returned v ∧ w'.ownsRow w.heap.size 47 8 v (flatR rs).length ((flatR rs).flatMap tkVals) ∧ Below w.heap.size w w' := by
  obtain ⟨i0, hi0, hz0, hz1, hz2⟩ := info_parts tk_info18
  have I0 := hide (show Tryz.prog.info? 47 = some i0 ∧ i0.zero = some _ ∧ i0.size = 8 ∧ i0.bytes = 96 from ⟨hi0, hz0, hz1, hz2⟩)
  have HR := hide (fun (W : World) (b : Below w.heap.size w W) => hr.below b)
  have HL := hide hr.1
  have n2 : (n : Int) ≤ 12 := by omega
  have OK := hide (show ∀ W : World, Below w.heap.size w W → ∀ r ∈ rs, RwOk 8 tkVals W r from fun W b r h => (hok r h).below b)
  have LEN := hide (show ∀ k, (flatR (rs.take k)).length ≤ 100 * k from flatR_len fun r h => by rw [(hok r h).reads.1]; exact (hok r h).few)
  have ALL := hide (show rs.take n = rs from List.take_of_length_le (by rw [hr.1]; exact Nat.le_refl _))
  have N12 := hide hn
  clear hr hn hok hi0 hz0 hz1 hz2
  go_enter Tryz.func42, Tryz.ntmps42
  go_wp2_with fail
  go_loopw [3, 11] (fun sv iv wr => ∃ (i Y : Nat), i ≤ n ∧ Y ≤ 1200 ∧ iv = .int .i64 (i : Int) ∧ sv = .int .i64 (Y : Int) ∧ Hid (Y = (flatR (rs.take i)).length) ∧ w = wr) (fun _ iv _ => n - (intOf iv).toNat)
  case atStart => exact ⟨0, 0, Nat.zero_le _, Nat.zero_le _, rfl, rfl, rfl, rfl⟩
  case round =>
    obtain ⟨i, Y, hi, hY, rfl, rfl, hZ, rfl⟩ := hrel
    have YE := hide hZ.out
    clear hZ
    by_cases hlt : i < n
    · have j0 : (0 : Int) ≤ (i : Int) := by omega
      have j1 : (i : Int) < (n : Int) := by omega
      obtain ⟨r, pb, po, hx, rfl, hc⟩ := (HR.out _ (Below.refl _ _)).at_ hlt
      have y0 : w.cell? ⟨pb, po + i, none⟩ = some (.slice r.a r.n r.c) := by
        have h := hc 0 _ rfl
        rwa [Nat.mul_one, Nat.add_zero] at h
      have RO := OK.out _ (Below.refl _ _) r (List.mem_of_getElem? hx)
      obtain ⟨m, hm⟩ : ∃ m, m = r.n := ⟨_, rfl⟩
      have NX := hide (show (flatR (rs.take (i + 1))).length = Y + m from by rw [flatR_take hx, List.length_append, YE.out, RO.reads.1, hm])
      have L1 : Y + m ≤ 1200 := by rw [← NX.out]; have := LEN.out (i + 1); have := N12.out; omega
      have q0 : (0 : Int) ≤ (Y : Int) := by omega
      have q1 : (0 : Int) ≤ (m : Int) := by omega
      have q2 : (Y : Int) + (m : Int) ≤ 1200 := by omega
      have q3 : ¬ (Y : Int) + (m : Int) < 0 := by omega
      rw [← hm] at y0
      clear hc hx RO hm
      go_wp2_with fail
      go_roundw
      case rel => exact ⟨i + 1, Y + m, by omega, L1, by go_num, by go_num, NX.out.symm, by trivial⟩
      case measure => simp [intOf]; omega
    · obtain rfl : i = n := by omega
      have YA := hide (show Y = (flatR rs).length from by rw [YE.out, ALL.out])
      have GR := hide (grow_tk w Y (by omega))
      clear hlt hi YE
      go_upto_region 10 with (go_at_call 73; refine GR.out.mono ?_; rintro e w1 ⟨v1, rfl, o1, b1⟩; have O1 := hide o1; have B1 := hide b1; clear o1 b1)
      clear GR
      go_wp2_with fail
      go_loopw [6, 27] (fun sv iv wr => ∃ j : Nat, j ≤ i ∧ iv = .int .i64 (j : Int) ∧ Hid (Below w.heap.size w wr) ∧ Hid (wr.ownsRow w.heap.size 47 8 sv (flatR (rs.take j)).length ((flatR (rs.take j)).flatMap tkVals))) (fun _ iv _ => i - (intOf iv).toNat)
      case atStart => exact ⟨0, Nat.zero_le _, rfl, B1, O1.out⟩
      case round =>
        obtain ⟨j, hj, rfl, hB, hO⟩ := hrel
        rename World => w2
        clear O1 B1
        have B2 := hide hB.out
        have O2 := hide hO.out
        clear hB hO
        by_cases hlt : j < i
        · have j0 : (0 : Int) ≤ (j : Int) := by omega
          have j1 : (j : Int) < (i : Int) := by omega
          obtain ⟨r, pb, po, hx, rfl, hc⟩ := (HR.out _ B2.out).at_ hlt
          have y0 : w2.cell? ⟨pb, po + j, none⟩ = some (.slice r.a r.n r.c) := by
            have h := hc 0 _ rfl
            rwa [Nat.mul_one, Nat.add_zero] at h
          have RO := hide (OK.out _ B2.out r (List.mem_of_getElem? hx))
          have NX := hide (flatR_take hx)
          have LM := hide (LEN.out (j + 1))
          have JL := hide (show j + 1 ≤ 12 from by have := N12.out; omega)
          obtain ⟨M, hM⟩ : ∃ M, M = flatR (rs.take j) := ⟨_, rfl⟩
          rw [← hM] at NX O2
          clear hc hx hM
          go_wp2_with (at_builtin; refine wpList_append_reads rfl (.tmp 31) (.tmp 32) 22 rfl w.heap.size 47 i0 _ 96 (Tryz.underlying22) I0.out.1 I0.out.2.1 I0.out.2.2.1 I0.out.2.2.2 rfl (by omega) _ M.length _ rfl O2.out r.a r.n r.c r.xs rfl tkVals_len tkVals_cell RO.out.reads RO.out.nil (by have := LM.out; rw [NX.out, List.length_append, RO.out.reads.1] at this; have := JL.out; unfold maxLen; omega) (by have := LM.out; rw [NX.out, List.length_append, RO.out.reads.1] at this; have := JL.out; omega) B2.out.size ?_; intro v3 w3 o3 g3; have O3 := hide o3; have B3 := hide (B2.out.grown g3 B2.out.size (own_lo O2.out)); clear o3 g3)
          go_roundw
          case rel => exact ⟨j + 1, by omega, by go_num, B3.out, by rw [NX.out, List.length_append, List.flatMap_append, RO.out.reads.1]; exact O3.out⟩
          case measure => simp [intOf]; omega
        · obtain rfl : j = i := by omega
          have O := hide (show w2.ownsRow w.heap.size 47 8 _ (flatR rs).length ((flatR rs).flatMap tkVals) from by have h := O2.out; rw [ALL.out] at h; exact h)
          clear hlt hj O2
          go_wp2_with fail
          go_ret
          exact ⟨_, rfl, O.out, B2.out⟩
theorem pt_info18 : (Tryz.prog.info? 36).map (fun i => (i.zero, i.size, i.bytes)) = some (some (.agg #[.int .i64 0, .int .i64 0]), 2, 16) := by kernel_rfl
theorem grow_pt (w : World) (k : Nat) (hk : k ≤ 2000) :
    Calls Tryz.prog 74 #[.slice none 0 0, .int .i64 (k : Int)] w fun e w' => ∃ v, e = .returned v ∧ w'.ownsRow w.heap.size 36 2 v 0 [] ∧ Below w.heap.size w w' := by
  obtain ⟨i0, hi0, hz0, hz1, hz2⟩ := info_parts pt_info18
  by_cases h0 : k = 0
  · subst h0
    exact (Go.Proofs.Any8.slices_Grow_room Tryz.growPt none 0 0 0 w (by omega) (by omega) (by omega) (by omega)).mono fun e w' ⟨h1, h2⟩ => ⟨_, h1, World.ownsRow_nil _ _ _ _, by rw [h2]; exact Below.refl _ _⟩
  · refine (Go.Proofs.Any8.slices_Grow_grow Tryz.growPt i0 (.agg #[.int .i64 0, .int .i64 0]) hi0 hz0 (by rw [hz1]; omega) none 0 0 k [] w (by omega) (by omega) (by rw [hz2]; omega) (by omega) (by simp) (fun _ => rfl) (fun a h => by cases h)).mono fun e w' ⟨h1, h2⟩ => ⟨_, h1, ?_, ?_⟩
    · rw [h2]
      refine World.ownsRow_made w.drew _ _ (Nat.le_refl _) (grownCap_le_maxLen _ _ _ _ (by unfold maxLen; omega)) ?_
      have := grownCap_ge w (0 + k) 0 (Tryz.growPt_ren.t 25)
      rw [Array.size_append, Array.size_append, size_zeroCells, size_zeroCells]
      have e0 : ([] : List Value).toArray.size = 0 := rfl
      have e1 : (Value.cells (.agg #[.int .i64 0, .int .i64 0])).size = 2 := rfl
      rw [e0, e1]
      omega
    · rw [h2]
      exact (below_drewN (Below.refl _ w) 1).alloc (Nat.le_refl _) _
set_option maxRecDepth 20000 in
set_option maxHeartbeats 8000000 in
theorem cat_pt (w : World) (a : Option Addr) (n c : Nat) (rs : List (Rw Pt)) (hr : Reads 1 rwV w a n rs) (hn : n ≤ 12) (hok : ∀ r ∈ rs, RwOk 2 ptVals w r) :
    Calls Tryz.prog 43 #[.slice a n c] w fun e w' => ∃ v, e = .returned v ∧ w'.ownsRow w.heap.size 36 2 v (flatR rs).length ((flatR rs).flatMap ptVals) ∧ Below w.heap.size w w' := by
  obtain ⟨i0, hi0, hz0, hz1, hz2⟩ := info_parts pt_info18
  have I0 := hide (show Tryz.prog.info? 36 = some i0 ∧ i0.zero = some _ ∧ i0.size = 2 ∧ i0.bytes = 16 from ⟨hi0, hz0, hz1, hz2⟩)
  have HR := hide (fun (W : World) (b : Below w.heap.size w W) => hr.below b)
  have HL := hide hr.1
  have n2 : (n : Int) ≤ 12 := by omega
  have OK := hide (show ∀ W : World, Below w.heap.size w W → ∀ r ∈ rs, RwOk 2 ptVals W r from fun W b r h => (hok r h).below b)
  have LEN := hide (show ∀ k, (flatR (rs.take k)).length ≤ 100 * k from flatR_len fun r h => by rw [(hok r h).reads.1]; exact (hok r h).few)
  have ALL := hide (show rs.take n = rs from List.take_of_length_le (by rw [hr.1]; exact Nat.le_refl _))
  have N12 := hide hn
  clear hr hn hok hi0 hz0 hz1 hz2
  go_enter Tryz.func43, Tryz.ntmps43
  go_wp2_with fail
  go_loopw [3, 11] (fun sv iv wr => ∃ (i Y : Nat), i ≤ n ∧ Y ≤ 1200 ∧ iv = .int .i64 (i : Int) ∧ sv = .int .i64 (Y : Int) ∧ Hid (Y = (flatR (rs.take i)).length) ∧ w = wr) (fun _ iv _ => n - (intOf iv).toNat)
  case atStart => exact ⟨0, 0, Nat.zero_le _, Nat.zero_le _, rfl, rfl, rfl, rfl⟩
  case round =>
    obtain ⟨i, Y, hi, hY, rfl, rfl, hZ, rfl⟩ := hrel
    have YE := hide hZ.out
    clear hZ
    by_cases hlt : i < n
    · have j0 : (0 : Int) ≤ (i : Int) := by omega
      have j1 : (i : Int) < (n : Int) := by omega
      obtain ⟨r, pb, po, hx, rfl, hc⟩ := (HR.out _ (Below.refl _ _)).at_ hlt
      have y0 : w.cell? ⟨pb, po + i, none⟩ = some (.slice r.a r.n r.c) := by
        have h := hc 0 _ rfl
        rwa [Nat.mul_one, Nat.add_zero] at h
      have RO := OK.out _ (Below.refl _ _) r (List.mem_of_getElem? hx)
      obtain ⟨m, hm⟩ : ∃ m, m = r.n := ⟨_, rfl⟩
      have NX := hide (show (flatR (rs.take (i + 1))).length = Y + m from by rw [flatR_take hx, List.length_append, YE.out, RO.reads.1, hm])
      have L1 : Y + m ≤ 1200 := by rw [← NX.out]; have := LEN.out (i + 1); have := N12.out; omega
      have q0 : (0 : Int) ≤ (Y : Int) := by omega
      have q1 : (0 : Int) ≤ (m : Int) := by omega
      have q2 : (Y : Int) + (m : Int) ≤ 1200 := by omega
      have q3 : ¬ (Y : Int) + (m : Int) < 0 := by omega
      rw [← hm] at y0
      clear hc hx RO hm
      go_wp2_with fail
      go_roundw
      case rel => exact ⟨i + 1, Y + m, by omega, L1, by go_num, by go_num, NX.out.symm, by trivial⟩
      case measure => simp [intOf]; omega
    · obtain rfl : i = n := by omega
      have YA := hide (show Y = (flatR rs).length from by rw [YE.out, ALL.out])
      have GR := hide (grow_pt w Y (by omega))
      clear hlt hi YE
      go_upto_region 10 with (go_at_call 74; refine GR.out.mono ?_; rintro e w1 ⟨v1, rfl, o1, b1⟩; have O1 := hide o1; have B1 := hide b1; clear o1 b1)
      clear GR
      go_wp2_with fail
      go_loopw [6, 27] (fun sv iv wr => ∃ j : Nat, j ≤ i ∧ iv = .int .i64 (j : Int) ∧ Hid (Below w.heap.size w wr) ∧ Hid (wr.ownsRow w.heap.size 36 2 sv (flatR (rs.take j)).length ((flatR (rs.take j)).flatMap ptVals))) (fun _ iv _ => i - (intOf iv).toNat)
      case atStart => exact ⟨0, Nat.zero_le _, rfl, B1, O1.out⟩
      case round =>
        obtain ⟨j, hj, rfl, hB, hO⟩ := hrel
        rename World => w2
        clear O1 B1
        have B2 := hide hB.out
        have O2 := hide hO.out
        clear hB hO
        by_cases hlt : j < i
        · have j0 : (0 : Int) ≤ (j : Int) := by omega
          have j1 : (j : Int) < (i : Int) := by omega
          obtain ⟨r, pb, po, hx, rfl, hc⟩ := (HR.out _ B2.out).at_ hlt
          have y0 : w2.cell? ⟨pb, po + j, none⟩ = some (.slice r.a r.n r.c) := by
            have h := hc 0 _ rfl
            rwa [Nat.mul_one, Nat.add_zero] at h
          have RO := hide (OK.out _ B2.out r (List.mem_of_getElem? hx))
          have NX := hide (flatR_take hx)
          have LM := hide (LEN.out (j + 1))
          have JL := hide (show j + 1 ≤ 12 from by have := N12.out; omega)
          obtain ⟨M, hM⟩ : ∃ M, M = flatR (rs.take j) := ⟨_, rfl⟩
          rw [← hM] at NX O2
          clear hc hx hM
          go_wp2_with (at_builtin; refine wpList_append_reads rfl (.tmp 31) (.tmp 32) 31 rfl w.heap.size 36 i0 _ 16 (Tryz.underlying31) I0.out.1 I0.out.2.1 I0.out.2.2.1 I0.out.2.2.2 rfl (by omega) _ M.length _ rfl O2.out r.a r.n r.c r.xs rfl ptVals_len ptVals_cell RO.out.reads RO.out.nil (by have := LM.out; rw [NX.out, List.length_append, RO.out.reads.1] at this; have := JL.out; unfold maxLen; omega) (by have := LM.out; rw [NX.out, List.length_append, RO.out.reads.1] at this; have := JL.out; omega) B2.out.size ?_; intro v3 w3 o3 g3; have O3 := hide o3; have B3 := hide (B2.out.grown g3 B2.out.size (own_lo O2.out)); clear o3 g3)
          go_roundw
          case rel => exact ⟨j + 1, by omega, by go_num, B3.out, by rw [NX.out, List.length_append, List.flatMap_append, RO.out.reads.1]; exact O3.out⟩
          case measure => simp [intOf]; omega
        · obtain rfl : j = i := by omega
          have O := hide (show w2.ownsRow w.heap.size 36 2 _ (flatR rs).length ((flatR rs).flatMap ptVals) from by have h := O2.out; rw [ALL.out] at h; exact h)
          clear hlt hj O2
          go_wp2_with fail
          go_ret
          exact ⟨_, rfl, O.out, B2.out⟩
end Go.Proofs.YtcmgkjjkhfcedaaGreat
/-
  The program's admit (stage 18): has, heldUp, Blocking (written by tools/gen/amblk.py).
-/
namespace Go.Proofs.YtcmgkjjkhfcedaaGreat
open Go.ChangeShapes Go.WideShapes Go.ChangeAt Go.RowKit
set_option linter.unusedVariables false
set_option linter.unusedSimpArgs false
/-! Plain facts. -/
theorem urg_counts {m l : Nat} {a b : Tp} (ha : mayT m l a = true) (hb : mayT m l b = true) : urgP a.cls a.lev b.cls b.lev = countsT a b := by
  have cl2 : ∀ {t : Tp}, mayT m l t = true → (t.cls = 2 ∧ 0 ≤ t.lev ∧ t.lev ≤ 63) ∨ (t.cls = 1 ∧ t.lev = 0) := by
    intro t h
    unfold mayT at h
    simp only [Bool.and_eq_true, decide_eq_true_eq] at h
    exact h.1.1.1.1.1.1.1
  rw [Bool.eq_iff_iff]
  unfold urgP countsT cmpP gtP
  rcases cl2 ha with ⟨h1, h2, h3⟩ | ⟨h1, h2⟩ <;> rcases cl2 hb with ⟨g1, g2, g3⟩ | ⟨g1, g2⟩
  · by_cases e1 : a.lev < b.lev
    · simp [h1, g1, e1]; omega
    · by_cases e2 : b.lev < a.lev
      · simp [h1, g1, e1, e2]
      · simp [h1, g1, e1, e2]; omega
  · simp [h1, g1]
  · simp [h1, g1]
  · simp [h1, g1]
theorem may_all {c : Cp} (hm : mayC c = true) {t : Tp} (ht : t ∈ c.ts) : mayT c.ms.length c.gs.length t = true := by
  unfold mayC at hm
  simp only [Bool.and_eq_true] at hm
  exact List.all_eq_true.1 hm.1.1.2 t ht
theorem urg_filter {c : Cp} (hm : mayC c = true) {ts : List Tk} (hts : c.ts = ts.map tpOf) {x : Tk} (hx : x ∈ ts) {l : List Tk} (hl : ∀ y ∈ l, y ∈ ts) : l.filter (fun y => urgP x.cls x.lev y.cls y.lev) = l.filter (fun y => countsT (tpOf x) (tpOf y)) := by
  refine List.filter_congr fun y hy => ?_
  have h1 := may_all hm (show tpOf x ∈ c.ts by rw [hts]; exact List.mem_map_of_mem hx)
  have h2 := may_all hm (show tpOf y ∈ c.ts by rw [hts]; exact List.mem_map_of_mem (hl y hy))
  exact urg_counts h1 h2
theorem uses_flat (ts : List Tk) (a : Tp) : (ts.filter (fun y => countsT a (tpOf y))).flatMap (·.us) = usesT (ts.map tpOf) a := by
  unfold usesT
  rw [List.filter_map, List.flatMap_map]
  rfl
theorem good_mu {ms : List Mu} (h : goodMu ms = true) : (∀ m ∈ ms, 1 ≤ m.l ∧ m.l ≤ 1000) ∧ ms.length ≤ 6 := by
  unfold goodMu at h
  simp only [Bool.and_eq_true, decide_eq_true_eq] at h
  refine ⟨fun m hm => ?_, h.2⟩
  have := List.all_eq_true.1 h.1 m hm
  unfold okMu at this
  simp only [decide_eq_true_eq] at this
  exact ⟨this.2.2.1, this.2.2.2⟩
theorem sumMu_few {ms : List Mu} (h : goodMu ms = true) (r : Int) : 0 ≤ sumMu ms r ∧ sumMu ms r ≤ 6000 := by
  refine ⟨sumMu_lo ms r, ?_⟩
  have gen : ∀ (ms : List Mu), (∀ m ∈ ms, 1 ≤ m.l ∧ m.l ≤ 1000) → ∀ s : Int, 0 ≤ s → ms.foldl (sumS r) s ≤ s + 1000 * (ms.length : Int) := by
    intro ms
    induction ms with
    | nil => intro _ s hs; simp
    | cons m ms ih =>
      intro hm s hs
      rw [List.foldl_cons]
      have h1 := hm m (List.mem_cons_self ..)
      have up : 0 ≤ sumS r s m ∧ sumS r s m ≤ s + 1000 := by
        unfold sumS
        have c1 : cl m.l = m.l := cl_in _ (by omega) (by omega)
        have c2 : 0 ≤ cl s ∧ cl s ≤ s := ⟨cl_lo s, by unfold cl; split <;> (try split) <;> omega⟩
        have c3 : cl (cl s + cl m.l) ≤ cl s + cl m.l := by rw [c1]; unfold cl; split <;> (try split) <;> omega
        split
        · exact ⟨cl_lo _, by omega⟩
        · omega
      have h2 := ih (fun x hx => hm x (List.mem_cons_of_mem _ hx)) _ up.1
      rw [List.length_cons]
      omega
  obtain ⟨h1, h2⟩ := good_mu h
  have := gen ms h1 0 (Int.le_refl _)
  unfold sumMu
  omega
/-- How long mutexes are held. -/
def heldM (ms : List Mu) (us : List Int) : Int := if (leastMu ms us).2 = true then sumMu ms (leastMu ms us).1 else 0
theorem heldM_few {ms : List Mu} (h : goodMu ms = true) (us : List Int) : 0 ≤ heldM ms us ∧ heldM ms us ≤ 6000 := by
  unfold heldM
  split
  · exact sumMu_few h _
  · omega
def rwOf (x : Tk) : Rw Int := ⟨x.ua, x.un, x.uc, x.us⟩
theorem rw_flat (l : List Tk) : (l.map rwOf).flatMap rwV = l.flatMap usV := by rw [List.flatMap_map]; rfl
theorem rw_uses (l : List Tk) : flatR (l.map rwOf) = l.flatMap (·.us) := by unfold flatR; rw [List.flatMap_map]; rfl
set_option maxRecDepth 20000 in
set_option maxHeartbeats 4000000 in
theorem ahas_any (w : World) (c : Cf) (hc : CfFit w c) (hg : greatCf c = false) (task : Int) :
    Calls Tryz.prog 31 #[.agg (cfVals c).toArray, .int .i64 task] w fun e w' => e = .returned (.bool (isC (cpOf c) task)) ∧ Below w.heap.size w w' := by
  obtain ⟨cc, hcc⟩ : ∃ cc, cc = c := ⟨_, rfl⟩
  have HC := hide hcc
  have HG := hide (show greatCf cc = false from by rw [hcc]; exact hg)
  have FC := hide (show CfFit w cc from by rw [hcc]; exact hc)
  obtain ⟨ta, tn, tc, ts, ea, en, ec, es, ma, mn, mc, ms, ga, gn, gc, gs, frames, dog⟩ := c
  show Calls Tryz.prog 31 #[.agg #[.slice ta tn tc, .slice ea en ec, .slice ma mn mc, .slice ga gn gc, .int .i64 frames, .int .i64 dog], .int .i64 task] w _
  have F := hide hc
  have bounds : tn ≤ 12 ∧ en ≤ 12 ∧ mn ≤ 12 ∧ gn ≤ 12 ∧ ∀ t ∈ ts, t.un ≤ 12 := by
    unfold greatCf at hg
    simp only [Bool.or_eq_false_iff, decide_eq_false_iff_not] at hg
    refine ⟨by omega, by omega, by omega, by omega, fun t ht => ?_⟩
    have h := hg.1.2
    cases e : bigTk t
    · unfold bigTk at e
      simp only [Bool.or_eq_false_iff, decide_eq_false_iff_not] at e
      omega
    · rw [List.any_eq_true.2 ⟨t, ht, e⟩] at h; cases h
  obtain ⟨tn12, en12, mn12, gn12, hun⟩ := bounds
  have HUN := hide hun
  have TN := hide tn12
  have MN := hide mn12
  have GN := hide gn12
  have RT := hide F.out.tasks.reads
  have TL := hide (show ts.length = tn from RT.out.1)
  obtain ⟨W0, hW⟩ : ∃ W0, W0 = w.alloc (.cells #[.slice ta tn tc, .slice ea en ec, .slice ma mn mc, .slice ga gn gc, .int .i64 frames, .int .i64 dog] 27) := ⟨_, rfl⟩
  have hb := heap_alloc_new w (.cells #[.slice ta tn tc, .slice ea en ec, .slice ma mn mc, .slice ga gn gc, .int .i64 frames, .int .i64 dog] 27)
  have B0 := hide ((Below.refl w.heap.size w).alloc (Nat.le_refl _) (.cells #[.slice ta tn tc, .slice ea en ec, .slice ma mn mc, .slice ga gn gc, .int .i64 frames, .int .i64 dog] 27))
  rw [← hW] at hb B0
  have SC := hide (show ∀ Y : World, Below W0.heap.size W0 Y → Y.cell? ⟨w.heap.size, 0, none⟩ = some (.slice ta tn tc) ∧ Y.cell? ⟨w.heap.size, 1, none⟩ = some (.slice ea en ec) ∧ Y.cell? ⟨w.heap.size, 2, none⟩ = some (.slice ma mn mc) ∧ Y.cell? ⟨w.heap.size, 3, none⟩ = some (.slice ga gn gc) ∧ Y.cell? ⟨w.heap.size, 4, none⟩ = some (.int .i64 frames) ∧ Y.cell? ⟨w.heap.size, 5, none⟩ = some (.int .i64 dog) from fun Y b => by
    have e := (b.block _ (lt_of_heap hb)).trans hb
    refine ⟨?_, ?_, ?_, ?_, ?_, ?_⟩ <;> (rw [cell_of_row _ _ _ _ _ _ e]; rfl))
  have HW := hide hW
  have CI := hide (show ∀ Y : World, Below W0.heap.size W0 Y → CfFit Y cc from fun Y b => (FC.out.below B0.out).below b)
  obtain ⟨k0, k1, k2, k3, k4, k5⟩ := SC.out W0 (Below.refl _ _)
  clear hcc hc hg hun hW hb tn12 en12 mn12 gn12
  obtain ⟨P, hP⟩ : ∃ P, P = mayC (cpOf cc) := ⟨_, rfl⟩
  have MY := hide (show Calls Tryz.prog 6 #[.agg #[.slice ta tn tc, .slice ea en ec, .slice ma mn mc, .slice ga gn gc, .int .i64 frames, .int .i64 dog]] W0 fun e w' => e = .returned (.bool P) ∧ Below W0.heap.size W0 w' from by
    have h := amay_any W0 cc (CI.out _ (Below.refl _ _)) HG.out
    rw [← hP, HC.out] at h
    exact h)
  have RV := hide (show isC (cpOf cc) task = (P && decide (0 ≤ task) && decide (task < (tn : Int))) from by
    unfold isC
    rw [hP]
    have e : (cpOf cc).ts.length = tn := by rw [HC.out]; show (ts.map tpOf).length = tn; rw [List.length_map]; exact TL.out
    rw [e, Bool.eq_iff_iff]
    simp only [Bool.and_eq_true, decide_eq_true_eq]
    constructor
    · rintro ⟨a, b, c⟩; exact ⟨⟨a, b⟩, c⟩
    · rintro ⟨⟨a, b⟩, c⟩; exact ⟨a, b, c⟩)
  rw [← HC.out, RV.out]
  clear hP
  cases P with
  | false =>
    go_enter Tryz.func31, Tryz.ntmps31
    go_upto_region 1 with fail
    rw [← HW.out]
    go_wp2_with (go_at_call 6; refine MY.out.mono ?_; rintro e w1 ⟨rfl, b1⟩; have B1 := hide (B0.out.trans (b1.mono B0.out.size)); clear b1)
    go_ret
    exact ⟨rfl, B1.out⟩
  | true =>
    by_cases t0 : 0 ≤ task
    · rw [decide_eq_true t0]
      go_enter Tryz.func31, Tryz.ntmps31
      go_upto_region 1 with fail
      rw [← HW.out]
      go_wp2_with (go_at_call 6; refine MY.out.mono ?_; rintro e w1 ⟨rfl, b1⟩; have C1 := hide b1; have B1 := hide (B0.out.trans (b1.mono B0.out.size)); clear b1 k0 k1 k2 k3 k4 k5; obtain ⟨k0, k1, k2, k3, k4, k5⟩ := SC.out _ C1.out)
      go_ret
      exact ⟨ret_bool (by rw [Bool.eq_iff_iff]; simp), B1.out⟩
    · rw [decide_eq_false t0]
      go_enter Tryz.func31, Tryz.ntmps31
      go_upto_region 1 with fail
      rw [← HW.out]
      go_wp2_with (go_at_call 6; refine MY.out.mono ?_; rintro e w1 ⟨rfl, b1⟩; have C1 := hide b1; have B1 := hide (B0.out.trans (b1.mono B0.out.size)); clear b1 k0 k1 k2 k3 k4 k5; obtain ⟨k0, k1, k2, k3, k4, k5⟩ := SC.out _ C1.out)
      go_ret
      exact ⟨rfl, B1.out⟩
set_option maxHeartbeats 4000000 in
theorem aheld_any (w : World) (a : Option Addr) (n c : Nat) (ms : List Mu) (ha : Reads 2 muVals w a n ms) (hnil : a = none → c = 0) (hn : n ≤ 30) (hg : goodMu ms = true) (b : Option Addr) (p d : Nat) (us : List Int) (hi : Ints .i64 w b p us) (hp : p ≤ maxLen) :
    Calls Tryz.prog 36 #[.slice a n c, .slice b p d] w fun e w' => e = .returned (.int .i64 (heldM ms us)) ∧ Below w.heap.size w w' := by
  have C1 := hide (show Calls Tryz.prog 19 #[.slice a n c] w fun e w' => ∃ T, e = .returned (.tuple #[.pointer (some ⟨T, 0, none⟩), .int .i64 0]) ∧ PTab w' T ms ∧ Below w.heap.size w w' from (pnew_any w a n c ms ha hnil hn).mono (by
    rintro e w' (⟨_, T, Q, he, ht, hb, _⟩ | ⟨h, _⟩)
    · exact ⟨T, he, ⟨Q, ht⟩, hb⟩
    · rw [hg] at h; cases h))
  have HI := hide (fun (W : World) (b' : Below w.heap.size w W) => hi.below b')
  obtain ⟨r, hr⟩ : ∃ r, r = (leastMu ms us).1 := ⟨_, rfl⟩
  obtain ⟨ok, hok⟩ : ∃ ok, ok = (leastMu ms us).2 := ⟨_, rfl⟩
  have C2 := hide (fun (W : World) (T : Nat) (h : PTab W T ms) (b' : Below w.heap.size w W) => show Calls Tryz.prog 68 #[.pointer (some ⟨T, 0, none⟩), .slice b p d] W fun e w' => e = .returned (.tuple #[.int .i64 r, .bool ok]) ∧ Below W.heap.size W w' from by
    obtain ⟨Q, h⟩ := h
    rw [hr, hok]
    exact pleast_any h (hi.below b') hp)
  have C3 := hide (fun (W : World) (T : Nat) (h : PTab W T ms) => show Calls Tryz.prog 69 #[.pointer (some ⟨T, 0, none⟩), .int .i64 r] W fun e w' => e = .returned (.int .i64 (sumMu ms r)) ∧ Below W.heap.size W w' from by
    obtain ⟨Q, h⟩ := h
    exact psum_any h r)
  have KP := hide (fun (W W' : World) (T : Nat) (h : PTab W T ms) (b' : Below W.heap.size W W') => show PTab W' T ms from by
    obtain ⟨Q, h⟩ := h
    exact ⟨Q, h.below b'⟩)
  have RV := hide (show heldM ms us = if ok = true then sumMu ms r else 0 from by rw [hok, hr]; rfl)
  obtain ⟨S, hS⟩ : ∃ S, S = sumMu ms r := ⟨_, rfl⟩
  rw [← hS] at C3 RV
  rw [RV.out]
  clear ha hi hr hok hS hg hnil hp hn
  cases ok with
  | false =>
    go_enter Tryz.func36, Tryz.ntmps36
    go_wp2_with (first
      | (go_at_call 19; refine C1.out.mono ?_; rintro e w1 ⟨T, rfl, h1, b1⟩; have H1 := hide h1; have B1 := hide b1; clear h1 b1)
      | (go_at_call 68; refine (C2.out _ _ H1.out B1.out).mono ?_; rintro e w2 ⟨rfl, b2⟩; have B2 := hide (B1.out.trans (b2.mono B1.out.size)); clear b2))
    go_ret
    exact ⟨rfl, B2.out⟩
  | true =>
    go_enter Tryz.func36, Tryz.ntmps36
    go_wp2_with (first
      | (go_at_call 19; refine C1.out.mono ?_; rintro e w1 ⟨T, rfl, h1, b1⟩; have H1 := hide h1; have B1 := hide b1; clear h1 b1)
      | (go_at_call 68; refine (C2.out _ _ H1.out B1.out).mono ?_; rintro e w2 ⟨rfl, b2⟩; have H2 := hide (KP.out _ _ _ H1.out b2); have B2 := hide (B1.out.trans (b2.mono B1.out.size)); clear b2)
      | (go_at_call 69; refine (C3.out _ _ H2.out).mono ?_; rintro e w3 ⟨rfl, b3⟩; have B3 := hide (B2.out.trans (b3.mono B2.out.size)); clear b3))
    go_ret
    exact ⟨ret_int (by simp), B3.out⟩
set_option maxRecDepth 20000 in
set_option maxHeartbeats 8000000 in
theorem ablk_any (w : World) (c : Cf) (hc : CfFit w c) (hg : greatCf c = false) (task : Int) :
    Calls Tryz.prog 8 #[.agg (cfVals c).toArray, .int .i64 task] w fun e w' => e = .returned (.int .i64 (blkC (cpOf c) task)) ∧ Below w.heap.size w w' := by
  obtain ⟨cc, hcc⟩ : ∃ cc, cc = c := ⟨_, rfl⟩
  have HC := hide hcc
  have HG := hide (show greatCf cc = false from by rw [hcc]; exact hg)
  have FC := hide (show CfFit w cc from by rw [hcc]; exact hc)
  obtain ⟨ta, tn, tc, ts, ea, en, ec, es, ma, mn, mc, ms, ga, gn, gc, gs, frames, dog⟩ := c
  show Calls Tryz.prog 8 #[.agg #[.slice ta tn tc, .slice ea en ec, .slice ma mn mc, .slice ga gn gc, .int .i64 frames, .int .i64 dog], .int .i64 task] w _
  have F := hide hc
  have bounds : tn ≤ 12 ∧ en ≤ 12 ∧ mn ≤ 12 ∧ gn ≤ 12 ∧ ∀ t ∈ ts, t.un ≤ 12 := by
    unfold greatCf at hg
    simp only [Bool.or_eq_false_iff, decide_eq_false_iff_not] at hg
    refine ⟨by omega, by omega, by omega, by omega, fun t ht => ?_⟩
    have h := hg.1.2
    cases e : bigTk t
    · unfold bigTk at e
      simp only [Bool.or_eq_false_iff, decide_eq_false_iff_not] at e
      omega
    · rw [List.any_eq_true.2 ⟨t, ht, e⟩] at h; cases h
  obtain ⟨tn12, en12, mn12, gn12, hun⟩ := bounds
  have HUN := hide hun
  have TN := hide tn12
  have MN := hide mn12
  have GN := hide gn12
  have RT := hide F.out.tasks.reads
  have TL := hide (show ts.length = tn from RT.out.1)
  obtain ⟨W0, hW⟩ : ∃ W0, W0 = w.alloc (.cells #[.slice ta tn tc, .slice ea en ec, .slice ma mn mc, .slice ga gn gc, .int .i64 frames, .int .i64 dog] 27) := ⟨_, rfl⟩
  have hb := heap_alloc_new w (.cells #[.slice ta tn tc, .slice ea en ec, .slice ma mn mc, .slice ga gn gc, .int .i64 frames, .int .i64 dog] 27)
  have B0 := hide ((Below.refl w.heap.size w).alloc (Nat.le_refl _) (.cells #[.slice ta tn tc, .slice ea en ec, .slice ma mn mc, .slice ga gn gc, .int .i64 frames, .int .i64 dog] 27))
  rw [← hW] at hb B0
  have SC := hide (show ∀ Y : World, Below W0.heap.size W0 Y → Y.cell? ⟨w.heap.size, 0, none⟩ = some (.slice ta tn tc) ∧ Y.cell? ⟨w.heap.size, 1, none⟩ = some (.slice ea en ec) ∧ Y.cell? ⟨w.heap.size, 2, none⟩ = some (.slice ma mn mc) ∧ Y.cell? ⟨w.heap.size, 3, none⟩ = some (.slice ga gn gc) ∧ Y.cell? ⟨w.heap.size, 4, none⟩ = some (.int .i64 frames) ∧ Y.cell? ⟨w.heap.size, 5, none⟩ = some (.int .i64 dog) from fun Y b => by
    have e := (b.block _ (lt_of_heap hb)).trans hb
    refine ⟨?_, ?_, ?_, ?_, ?_, ?_⟩ <;> (rw [cell_of_row _ _ _ _ _ _ e]; rfl))
  have HW := hide hW
  have CI := hide (show ∀ Y : World, Below W0.heap.size W0 Y → CfFit Y cc from fun Y b => (FC.out.below B0.out).below b)
  obtain ⟨k0, k1, k2, k3, k4, k5⟩ := SC.out W0 (Below.refl _ _)
  clear hcc hc hg hun hW hb tn12 en12 mn12 gn12
  obtain ⟨q, hq⟩ : ∃ q, q = isC (cpOf cc) task := ⟨_, rfl⟩
  have IS := hide (show ∀ Y : World, Below W0.heap.size W0 Y → Calls Tryz.prog 31 #[.agg #[.slice ta tn tc, .slice ea en ec, .slice ma mn mc, .slice ga gn gc, .int .i64 frames, .int .i64 dog], .int .i64 task] Y fun e w' => e = .returned (.bool q) ∧ Below Y.heap.size Y w' from fun Y b => by
    have h := ahas_any Y cc (CI.out Y b) HG.out task
    rw [← hq, HC.out] at h
    exact h)
  have HQ := hide hq
  clear hq
  obtain ⟨R, hR⟩ : ∃ R, R = blkC (cpOf cc) task := ⟨_, rfl⟩
  rw [← HC.out, ← hR]
  have HR := hide hR
  clear hR
  cases q with
  | false =>
    have V := hide (show R = 0 from by rw [HR.out]; exact (isC_no HQ.out.symm).1)
    go_enter Tryz.func8, Tryz.ntmps8
    go_upto_region 1 with fail
    rw [← HW.out]
    go_wp2_with (go_at_call 31; refine (IS.out _ (Below.refl _ _)).mono ?_; rintro e w1 ⟨rfl, b1⟩; have B1 := hide (B0.out.trans (b1.mono B0.out.size)); clear b1)
    go_ret
    exact ⟨by rw [V.out]; rfl, B1.out⟩
  | true =>
    obtain ⟨i, a, rfl, ha, hm⟩ := isC_some HQ.out.symm
    obtain ⟨x, hx, hxa⟩ : ∃ x, ts[i]? = some x ∧ tpOf x = a := by
      rw [HC.out] at ha
      obtain ⟨x, h1, h2⟩ := Option.map_eq_some_iff.1 (show (ts[i]?).map tpOf = some a from by rw [← List.getElem?_map]; exact ha)
      exact ⟨x, h1, h2⟩
    subst hxa
    obtain ⟨L, hL⟩ : ∃ L, L = ts.filter (fun y => urgP x.cls x.lev y.cls y.lev) := ⟨_, rfl⟩
    have GM := hide (show goodMu ms = true from by
      have h := hm
      unfold mayC at h
      simp only [Bool.and_eq_true] at h
      have h2 := h.1.1.1.1.1.1.1.2
      rw [HC.out] at h2
      exact h2)
    have V := hide (show R = 11 + heldM ms (flatR (L.map rwOf)) from by
      rw [HR.out, blkC_at hm ha, rw_uses, hL, urg_filter hm (by rw [HC.out]; rfl) (List.mem_of_getElem? hx) (fun y hy => hy), uses_flat, HC.out]
      rfl)
    have LIN := hide (show ∀ y ∈ L, y ∈ ts from fun y hy => by rw [hL] at hy; exact (List.mem_filter.1 hy).1)
    have LLN := hide (show L.length ≤ 12 from by
      rw [hL]
      have h1 := List.length_filter_le (fun y : Tk => urgP x.cls x.lev y.cls y.lev) ts
      have h2 := TL.out
      have h3 := TN.out
      omega)
    have ULN := hide (show (flatR (L.map rwOf)).length ≤ 1200 from by
      have h := flatR_len (rs := L.map rwOf) (fun r hr => by
        obtain ⟨y, hy, rfl⟩ := List.mem_map.1 hr
        have h1 := HUN.out y (LIN.out y hy)
        have h2 := (F.out.tasks.2.2.2.2.1 y (LIN.out y hy)).uses.1
        show y.us.length ≤ 100
        omega) L.length
      rw [List.take_of_length_le (by rw [List.length_map]; exact Nat.le_refl _)] at h
      have := LLN.out
      omega)
    have RM := hide (fun (Y : World) (b : Below W0.heap.size W0 Y) => show Reads 2 muVals Y ma mn ms from F.out.mutexes.reads.below (B0.out.trans (b.mono B0.out.size)))
    have HX := hide hx
    have itn : i < tn := by have h := (List.getElem?_eq_some_iff.1 hx).1; have := TL.out; omega
    have j0 : (0 : Int) ≤ (i : Int) := by omega
    have j1 : (i : Int) < (tn : Int) := by omega
    obtain ⟨bt, ot, rfl⟩ : ∃ bt ot, ta = some ⟨bt, ot, none⟩ := by
      obtain ⟨_, b, off, _, e, _⟩ := RT.out.at_ itn
      exact ⟨b, off, e⟩
    have XR := hide (show ∀ Y : World, Below W0.heap.size W0 Y → Y.cell? ⟨w.heap.size, 0, none⟩ = some (.slice (some ⟨bt, ot, none⟩) tn tc) ∧ Y.cell? ⟨bt, ot + i * 8, none⟩ = some (.int .i64 x.cls) ∧ Y.cell? ⟨bt, ot + i * 8 + 1, none⟩ = some (.int .i64 x.lev) ∧ Y.cell? ⟨bt, ot + i * 8 + 2, none⟩ = some (.int .i64 x.per) ∧ Y.cell? ⟨bt, ot + i * 8 + 3, none⟩ = some (.int .i64 x.dl) ∧ Y.cell? ⟨bt, ot + i * 8 + 4, none⟩ = some (.int .i64 x.bud) ∧ Y.cell? ⟨bt, ot + i * 8 + 5, none⟩ = some (.int .i64 x.line) ∧ Y.cell? ⟨bt, ot + i * 8 + 6, none⟩ = some (.slice x.ua x.un x.uc) ∧ Y.cell? ⟨bt, ot + i * 8 + 7, none⟩ = some (.slice x.qa x.qn x.qc) from fun Y b => by
      have rx := tk_range (RT.out.below (B0.out.trans (b.mono B0.out.size))) HX.out
      exact ⟨(SC.out Y b).1, rx 0 _ rfl, rx 1 _ rfl, rx 2 _ rfl, rx 3 _ rfl, rx 4 _ rfl, rx 5 _ rfl, rx 6 _ rfl, rx 7 _ rfl⟩)
    have TO := hide (fun (Y : World) (b : Below W0.heap.size W0 Y) => show Calls Tryz.prog 32 #[.slice (some ⟨bt, ot, none⟩) tn tc, .func (.func 33) #[.agg #[.int .i64 x.cls, .int .i64 x.lev, .int .i64 x.per, .int .i64 x.dl, .int .i64 x.bud, .int .i64 x.line, .slice x.ua x.un x.uc, .slice x.qa x.qn x.qc]] #[], .func (.func 34) #[] #[]] Y fun e w' => ∃ A C, e = .returned (.slice A L.length C) ∧ Reads 1 rwV w' A L.length (L.map rwOf) ∧ Below Y.heap.size Y w' from by
      refine (atold_uses Y x.cls x.lev x.per x.dl x.bud x.line x.ua x.un x.uc x.qa x.qn x.qc (some ⟨bt, ot, none⟩) tn tc ts (RT.out.below (B0.out.trans (b.mono B0.out.size))) (by have := TN.out; omega)).mono ?_
      rintro e w' ⟨v, rfl, ho, hb⟩
      rw [← hL] at ho
      rw [← rw_flat] at ho
      obtain ⟨A, C, rfl, hr, _⟩ := own_reads (z := 1) (vals := rwV) (fun _ => rfl) (by omega) ho
      exact ⟨A, C, rfl, hr, hb⟩)
    have CO := hide (fun (Y : World) (b : Below W0.heap.size W0 Y) (A : Option Addr) (C : Nat) (h : Reads 1 rwV Y A L.length (L.map rwOf)) => show Calls Tryz.prog 37 #[.slice A L.length C] Y fun e w' => ∃ B D, e = .returned (.slice B (flatR (L.map rwOf)).length D) ∧ Ints .i64 w' B (flatR (L.map rwOf)).length (flatR (L.map rwOf)) ∧ Below Y.heap.size Y w' from by
      refine (cat_int Y A L.length C (L.map rwOf) h LLN.out (fun r hr => by
        obtain ⟨y, hy, rfl⟩ := List.mem_map.1 hr
        have u := (F.out.tasks.2.2.2.2.1 y (LIN.out y hy)).uses
        exact ⟨u.reads.below (B0.out.trans (b.mono B0.out.size)), u.2.2.2.1, by have := HUN.out y (LIN.out y hy); show y.un ≤ 100; omega⟩)).mono ?_
      rintro e w' ⟨v, rfl, ho, hb⟩
      obtain ⟨A, C, rfl, hr, _⟩ := own_reads nuVals_len (by omega) ho
      exact ⟨A, C, rfl, nu_ints hr, hb⟩)
    obtain ⟨U, hU⟩ : ∃ U, U = flatR (L.map rwOf) := ⟨_, rfl⟩
    obtain ⟨K, hK⟩ : ∃ K, K = L.length := ⟨_, rfl⟩
    obtain ⟨H, hH⟩ : ∃ H, H = heldM ms U := ⟨_, rfl⟩
    rw [← hU] at V CO ULN
    rw [← hK] at TO CO
    have HE := hide (fun (Y : World) (b : Below W0.heap.size W0 Y) (B : Option Addr) (D : Nat) (h : Ints .i64 Y B U.length U) => show Calls Tryz.prog 36 #[.slice ma mn mc, .slice B U.length D] Y fun e w' => e = .returned (.int .i64 H) ∧ Below Y.heap.size Y w' from by
      rw [hH]
      exact aheld_any Y ma mn mc ms (RM.out Y b) F.out.mutexes.2.2.2.1 (by have := MN.out; omega) GM.out B U.length D U h (by have := ULN.out; unfold maxLen; omega))
    have AD := hide (fun (Y : World) => show Calls Tryz.prog 35 #[.slice (some ⟨Y.heap.size, 0, none⟩) 2 2] (Y.alloc (.cells #[.int .i64 11, .int .i64 H] 3)) fun e w' => e = .returned (.int .i64 R) ∧ Y.alloc (.cells #[.int .i64 11, .int .i64 H] 3) = w' from by
      have h := add_any (some ⟨Y.heap.size, 0, none⟩) 2 2 [11, H] (Y.alloc (.cells #[.int .i64 11, .int .i64 H] 3)) (ints_two .i64 Y 11 H 3) (by omega)
      have hf := heldM_few GM.out U
      rw [← hH] at hf
      have e : sum [11, H] = R := by rw [V.out, ← hH, sum_two, cl_in 11 (by omega) (by omega), cl_in H (by omega) (by omega), cl_in (11 + H) (by omega) (by omega)]
      rw [e] at h
      exact h)
    have hmf : ∀ (fn : Fn) (first cap : Array Value) (w : World), (Instr.makeFunc fn first cap).run Tryz.prog w = .ok (.func fn first cap) w := fun _ _ _ _ => rfl
    clear hx ha hm hL hU hK hH
    go_enter Tryz.func8, Tryz.ntmps8
    go_upto_region 1 with fail
    rw [← HW.out]
    go_upto_region 3 with (go_at_call 31; refine (IS.out _ (Below.refl _ _)).mono ?_; rintro e w1 ⟨rfl, b1⟩; have B1 := hide b1; clear b1 k0 k1 k2 k3 k4 k5; obtain ⟨k0, k1, k2, k3, k4, k5⟩ := SC.out _ B1.out)
    have D1 := hide (show Below W0.heap.size W0 w1.drew from below_drewN B1.out 1)
    clear k0 k1 k2 k3 k4 k5
    go_region_held3 (fun W => W.cell? ⟨w.heap.size, 0, none⟩ = some (.slice (some ⟨bt, ot, none⟩) tn tc) ∧ W.cell? ⟨bt, ot + i * 8, none⟩ = some (.int .i64 x.cls) ∧ W.cell? ⟨bt, ot + i * 8 + 1, none⟩ = some (.int .i64 x.lev) ∧ W.cell? ⟨bt, ot + i * 8 + 2, none⟩ = some (.int .i64 x.per) ∧ W.cell? ⟨bt, ot + i * 8 + 3, none⟩ = some (.int .i64 x.dl) ∧ W.cell? ⟨bt, ot + i * 8 + 4, none⟩ = some (.int .i64 x.bud) ∧ W.cell? ⟨bt, ot + i * 8 + 5, none⟩ = some (.int .i64 x.line) ∧ W.cell? ⟨bt, ot + i * 8 + 6, none⟩ = some (.slice x.ua x.un x.uc) ∧ W.cell? ⟨bt, ot + i * 8 + 7, none⟩ = some (.slice x.qa x.qn x.qc)) (first | exact XR.out _ D1.out | exact XR.out _ B2.out) (first
      | (go_at_call 32; refine (TO.out _ D1.out).mono ?_; rintro e w2 ⟨A2, C2, rfl, r2, b2⟩; have R2 := hide r2; have B2 := hide (D1.out.trans (b2.mono D1.out.size)); clear r2 b2))
    all_goals
      go_upto_region 4 with fail
      have D2 := hide (show Below W0.heap.size W0 w2.drew from below_drewN B2.out 1)
      have RD2 := hide (show Reads 1 rwV w2.drew A2 K (L.map rwOf) from R2.out.below (below_drewN (Below.refl _ _) 1))
      have m2 := (SC.out _ D2.out).2.2.1
      go_region_held3 (fun W => W.cell? ⟨w.heap.size, 2, none⟩ = some (.slice ma mn mc)) (first | exact m2 | exact (SC.out _ B3.out).2.2.1 | exact (SC.out _ B4.out).2.2.1 | exact (SC.out _ (B4.out.alloc B4.out.size _)).2.2.1) (first
        | (go_at_call 37; refine (CO.out _ D2.out A2 C2 RD2.out).mono ?_; rintro e w3 ⟨A3, C3, rfl, r3, b3⟩; have R3 := hide r3; have B3 := hide (D2.out.trans (b3.mono D2.out.size)); clear r3 b3)
        | (go_at_call 36; refine (HE.out _ B3.out A3 C3 R3.out).mono ?_; rintro e w4 ⟨rfl, b4⟩; have B4 := hide (B3.out.trans (b4.mono B3.out.size)); clear b4)
        | (go_at_call 35; refine (AD.out _).mono ?_; rintro e w5 ⟨rfl, rfl⟩))
      all_goals
        go_wp2_with fail
        go_ret
        exact ⟨rfl, B0.out.trans ((B4.out.alloc B4.out.size _).mono B0.out.size)⟩
end Go.Proofs.YtcmgkjjkhfcedaaGreat
/-
  The walks of RtaTells and RtaExact, over the contracts of the program's rta.
-/
namespace Go.Proofs.YtcmgkjjkhfcedaaGreat
open Go.ChangeShapes Go.WideShapes Go.ChangeAt Go.RowKit
set_option linter.unusedVariables false
/-- The document's answers of the law's own parts, turned. -/
theorem rturned_resp (w : World) (own block : Int) (a : Option Addr) (n c : Nat) (ps : List Pt) (most : Int) (hr : Reads 2 ptVals w a n ps) (hn : n ≤ 1000) :
    Calls Tryz.prog 54 #[.int .i64 own, .int .i64 block, .slice a n c, .int .i64 most] w fun e w' => ∃ v, e = .returned v ∧ RespIs own block ps most v ∧ Below w.heap.size w w' :=
  (rresp_any w own block a n c ps most hr hn).mono fun e w' ⟨v, h1, h2, m, h3⟩ => ⟨v, h1, h2, by rw [h3]; exact below_drewN (Below.refl _ _) m⟩
theorem rturned_work (w : World) (span : Int) (a : Option Addr) (n c : Nat) (ps : List Pt) (hr : Reads 2 ptVals w a n ps) (hn : n ≤ 1000) :
    Calls Tryz.prog 83 #[.int .i64 span, .slice a n c] w fun e w' => e = .returned (.int .i64 (workP span ps)) ∧ Below w.heap.size w w' :=
  (rwork_any w span a n c ps hr hn).mono fun e w' ⟨h1, m, h3⟩ => ⟨h1, by rw [h3]; exact below_drewN (Below.refl _ _) m⟩
theorem ints_three (q : IntKind) (w : World) (x y z : Int) (t : TypeId) (n : Nat) (hn : n = w.heap.size) : Ints q (w.alloc (.cells #[.int q x, .int q y, .int q z] t)) (some ⟨n, 0, none⟩) 3 [x, y, z] := by
  rw [hn]
  refine ⟨rfl, fun _ => ⟨w.heap.size, 0, rfl, fun j hj => ?_⟩⟩
  rw [Nat.zero_add, cell_of_row _ _ _ _ _ _ (heap_alloc_new w _)]
  have h : j = 0 ∨ j = 1 ∨ j = 2 := by omega
  rcases h with rfl | rfl | rfl <;> rfl
end Go.Proofs.YtcmgkjjkhfcedaaGreat
