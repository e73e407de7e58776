/-
  The program's Fix; pprog.
-/
import Derived.Test.YthgoifmmnebkeaaPgCallForm
import Derived.Test.YthgoifmmnebkeaaPgFix
namespace Go.Proofs.Ythgoifmmnebkeaa
open Go.ChangeShapes Go.WideShapes Go.ChangeAt Go.RowKit
set_option linter.unusedVariables false
set_option linter.unusedSimpArgs false
def zeroS : Array Value := #[.int .i64 0, .int .i64 0, .int .i64 0, .int .i64 0, .int .i64 0, .int .i64 0, .int .i64 0, .string ByteArray.empty, .string ByteArray.empty]
theorem run_make_steps (w : World) (n : Nat) (h : n ≤ 40) : (Instr.makeSlice 29 (.int .i64 (n : Int)) (.int .i64 (n : Int))).run Try.prog w = .ok (.slice (some ⟨w.heap.size, 0, none⟩) n n) (w.alloc (.cells (madeCells zeroS (n * 9)) 25)) := by
  obtain ⟨i0, hi0, hz0, hz1, hz2⟩ := info_parts ops_info
  have := run_make (P := Try.prog) w 29 25 i0 _ Try.underlying29 hi0 hz0 .i64 .i64 (n : Int) (n : Int) (by omega) (by omega) (by rw [hz2]; omega) (by omega)
  rw [hz1] at this
  simpa [Value.cells, zeroS] using this
/-- A row of m steps, the first k of them made. -/
def Made (w : World) (H m k : Nat) (xs : List Step) : Prop := ∃ cur : Array Value, w.heap[H]? = some (.cells cur 25 (0, 0)) ∧ cur.size = m * 9 ∧ cur.toList.take (k * 9) = ((xs.take k).map fixO).flatMap stVals
theorem Made.below {w w' : World} {H m k : Nat} {xs : List Step} (h : Made w H m k xs) (b : Below w.heap.size w w') : Made w' H m k xs := by
  obtain ⟨cur, hh, r⟩ := h
  exact ⟨cur, (b.block H (lt_of_heap hh)).trans hh, r⟩
theorem Made.spot {w : World} {H m k : Nat} {xs : List Step} (h : Made w H m k xs) (hk : k < m) : (∀ j, j < 9 → ∃ u, w.cell? ⟨H, k * 9 + j, none⟩ = some u) ∧ ∀ j, w.frozen? ⟨H, j, none⟩ = false := by
  obtain ⟨cur, hh, hs, ht⟩ := h
  refine ⟨fun j hj => ?_, fun j => frozen_of_row _ _ _ _ _ hh⟩
  have : k * 9 + j < cur.size := by omega
  exact ⟨cur[k * 9 + j], by rw [cell_of_row _ _ _ _ _ _ hh]; exact Array.getElem?_eq_getElem this⟩
theorem Made.step {w : World} {H m k : Nat} {xs : List Step} (h : Made w H m k xs) (hk : k < m) {x : Step} (hx : xs[k]? = some x) : Made (setSeg w H (k * 9) (stVals (fixO x))) H m (k + 1) xs := by
  obtain ⟨cur, hh, hs, ht⟩ := h
  have hl : (stVals (fixO x)).length = 9 := rfl
  obtain ⟨cur', h2, h3, h4⟩ := setSeg_heap (stVals (fixO x)) w H (k * 9) cur _ hh (by rw [hl]; omega)
  refine ⟨cur', h2, by omega, ?_⟩
  rw [h4, fixL_succ hx, List.flatMap_append, ← ht]
  have e1 : (k + 1) * 9 = (cur.toList.take (k * 9) ++ stVals (fixO x)).length := by rw [List.length_append, hl, List.length_take]; simp; omega
  unfold splice
  rw [e1]
  first
  | rw [← List.append_assoc, List.take_left]
  | rw [List.take_left]
  simp
theorem Made.own {w : World} {B H m : Nat} {xs : List Step} (h : Made w H m m xs) (hm : m = (fixL xs).length) (hm2 : m ≤ 40) (he : (xs.take m).map fixO = fixL xs) (hB : B ≤ H) : w.ownsRow B 25 9 (.slice (some ⟨H, 0, none⟩) m m) (fixL xs).length ((fixL xs).flatMap stVals) := by
  obtain ⟨cur, hh, hs, ht⟩ := h
  refine ⟨by rw [flat_length (z := 9) (vals := stVals) (fun _ => rfl)], .inr ⟨H, m, cur, by rw [hm], hB, hh, by omega, by unfold maxLen; omega, hs, by rw [← hm, ht, he]⟩⟩
theorem stVals_fix_yes {x : Step} (h : maySt x = true) : fixO x = x := by simp [fixO, h]
theorem stVals_fix_no {x : Step} (h : maySt x = false) : fixO x = zSt := by simp [fixO, h]
set_option maxRecDepth 10000 in
set_option maxHeartbeats 8000000 in
theorem pfix_any (w : World) (a : Option Addr) (n c : Nat) (xs : List Step) (ha : Reads 9 stVals w a n xs) (hn : n ≤ 1000000) (m : Nat) (hm : m = min n 40) :
    Calls Try.prog 14 #[.slice a n c] w fun e w' => ∃ v, e = .returned v ∧ w'.ownsRow w.heap.size 25 9 v (fixL xs).length ((fixL xs).flatMap stVals) ∧ Below w.heap.size w w' := by
  have mk := hide (fun W => run_make_steps W m (by omega))
  have HL := hide ha.1
  have HA := hide ha
  have m0 : (0 : Int) ≤ (m : Int) := by omega
  have m1 : (m : Int) ≤ 40 := by omega
  have mn : min (n : Int) 40 = (m : Int) := by omega
  have n63 : (n : Int) ≤ 9223372036854775807 := by omega
  have n0 : (0 : Int) ≤ (n : Int) := by omega
  have HM := hide hm
  clear ha hm
  have mk2 := mk.out
  have hb := built_zero
  go_enter Try.func14, Try.ntmps14
  go_upto_region 1 with fail
  go_cut [3] (fun v wx => v = .slice (some ⟨w.heap.size, 0, none⟩) m m ∧ wx = w.alloc (.cells (madeCells zeroS (m * 9)) 25))
  case first =>
    by_cases h40 : (40 : Int) < (n : Int)
    · obtain rfl : m = 40 := by have := HM.out; omega
      have mk3 : (Instr.makeSlice 29 (.int .i64 40) (.int .i64 40)).run Try.prog w = .ok (.slice (some ⟨w.heap.size, 0, none⟩) 40 40) (w.alloc (.cells (madeCells zeroS (40 * 9)) 25)) := mk.out w
      go_wp2_with fail
      go_meet
      case rel => exact ⟨rfl, rfl⟩
    · obtain rfl : m = n := by have := HM.out; omega
      have mk3 := mk.out w
      go_wp2_with fail
      go_meet
      case rel => exact ⟨rfl, rfl⟩
  case rest =>
    obtain ⟨rfl, hwc⟩ := hcut
    obtain ⟨H, hH⟩ : ∃ H, H = w.heap.size := ⟨_, rfl⟩
    have M0 := hide (show Made wc H m 0 xs from by rw [hwc, hH]; exact ⟨_, heap_alloc_new w _, size_madeCells _ _, by simp⟩)
    have B0 := hide (show Below w.heap.size w wc from by rw [hwc]; exact (Below.refl _ _).alloc (Nat.le_refl _) _)
    rw [← hH]
    have HH := hide hH
    have hmn : m ≤ n := by have := HM.out; omega
    clear hwc hH mk mk2
    go_wp2_with fail
    go_loopw [4, 11] (fun u i wr => ∃ k : Nat, k ≤ m ∧ i = .int .i64 k ∧ Hid (Made wr H m k xs ∧ Below w.heap.size w wr)) (fun _ i _ => m - (intOf i).toNat)
    case atStart => exact ⟨0, Nat.zero_le _, rfl, M0.out, B0.out⟩
    case round =>
      obtain ⟨k, hk, rfl, hZ⟩ := hrel
      by_cases hlt : k < m
      · have k0 : (0 : Int) ≤ (k : Int) := by omega
        have k1 : (k : Int) < (n : Int) := by omega
        have k2 : (k : Int) < (m : Int) := by omega
        obtain ⟨x, b, off, hx, rfl, hc⟩ := HA.out.at_ (show k < n by omega)
        have HX := hide hx
        have CC := hide (fun (W : World) (bw : Below w.heap.size w W) => show _ ∧ _ ∧ _ ∧ _ ∧ _ ∧ _ ∧ _ ∧ _ ∧ _ from
          have hh := fun j u hu => (bw.cell (p := ⟨b, off + k * 9 + j, none⟩) (lt_of_cell? (hc j u hu))).trans (hc j u hu)
          ⟨hh 0 _ rfl, hh 1 _ rfl, hh 2 _ rfl, hh 3 _ rfl, hh 4 _ rfl, hh 5 _ rfl, hh 6 _ rfl, hh 7 _ rfl, hh 8 _ rfl⟩)
        obtain ⟨c0, c1, c2, c3, c4, c5, c6, c7, c8⟩ := CC.out wr hZ.out.2
        rw [Nat.add_zero] at c0
        clear hx hc
        obtain ⟨p, hp⟩ : ∃ p, p = maySt x := ⟨_, rfl⟩
        have K2 := hide (show ∀ W, Calls Try.prog 8 #[.agg #[.int .i64 x.k, .int .i64 x.a, .int .i64 x.b, .int .i64 x.c, .int .i64 x.cl.sys, .int .i64 x.cl.a, .int .i64 x.cl.b, .string x.cl.s, .string x.cl.t]] W fun e w' => e = .returned (.bool p) ∧ Below W.heap.size W w' from fun W => by rw [hp]; exact pmay_any W x.k x.a x.b x.c x.cl.sys x.cl.a x.cl.b x.cl.s x.cl.t)
        have HP := hide hp
        clear hp
        have Z1 := hide hZ.out.1
        have Z2 := hide hZ.out.2
        clear hZ
        cases p with
        | true =>
          go_wp2_with (first
            | (go_at_call 8; refine (K2.out _).mono ?_; rintro e w2 ⟨rfl, b2⟩
               have B2 := hide (Z2.out.trans (b2.mono Z2.out.size)); have M2 := hide (Z1.out.below b2)
               clear b2 c0 c1 c2 c3 c4 c5 c6 c7 c8
               obtain ⟨c0, c1, c2, c3, c4, c5, c6, c7, c8⟩ := CC.out w2 B2.out; rw [Nat.add_zero] at c0
               have sp := M2.out.spot hlt
               obtain ⟨u0, d0⟩ := sp.1 0 (by omega); obtain ⟨u1, d1⟩ := sp.1 1 (by omega); obtain ⟨u2, d2⟩ := sp.1 2 (by omega); obtain ⟨u3, d3⟩ := sp.1 3 (by omega); obtain ⟨u4, d4⟩ := sp.1 4 (by omega); obtain ⟨u5, d5⟩ := sp.1 5 (by omega); obtain ⟨u6, d6⟩ := sp.1 6 (by omega); obtain ⟨u7, d7⟩ := sp.1 7 (by omega); obtain ⟨u8, d8⟩ := sp.1 8 (by omega)
               rw [Nat.add_zero] at d0
               have f0 := sp.2 (k * 9); have f1 := sp.2 (k * 9 + 1); have f2 := sp.2 (k * 9 + 2); have f3 := sp.2 (k * 9 + 3); have f4 := sp.2 (k * 9 + 4); have f5 := sp.2 (k * 9 + 5); have f6 := sp.2 (k * 9 + 6); have f7 := sp.2 (k * 9 + 7); have f8 := sp.2 (k * 9 + 8)
               clear sp))
          have T9 := setSeg_touch (S := fun i => i = H) (g := H) rfl (stVals x) w2 (k * 9) (Touch.refl _ w2)
          have B9 := B2.out.trans (T9.below B2.out.size (fun i q => by rw [q, HH.out]; exact Nat.le_refl _))
          have M9 := M2.out.step hlt HX.out
          rw [stVals_fix_yes HP.out.symm] at M9
          simp only [stVals, setSeg, Nat.add_assoc, Nat.reduceAdd] at M9 B9
          go_round
          case rel =>
            (try rw [show (ByteArray.mk #[]) = ByteArray.empty from rfl])
            exact ⟨k + 1, by omega, by go_num, by simpa only [Nat.add_assoc, Nat.reduceAdd] using M9, by simpa only [Nat.add_assoc, Nat.reduceAdd] using B9⟩
          case measure => simp [intOf]; omega
        | false =>
          go_wp2_with (first
            | (go_at_call 8; refine (K2.out _).mono ?_; rintro e w2 ⟨rfl, b2⟩
               have B2 := hide (Z2.out.trans (b2.mono Z2.out.size)); have M2 := hide (Z1.out.below b2)
               clear b2 c0 c1 c2 c3 c4 c5 c6 c7 c8
               obtain ⟨c0, c1, c2, c3, c4, c5, c6, c7, c8⟩ := CC.out w2 B2.out; rw [Nat.add_zero] at c0
               have sp := M2.out.spot hlt
               obtain ⟨u0, d0⟩ := sp.1 0 (by omega); obtain ⟨u1, d1⟩ := sp.1 1 (by omega); obtain ⟨u2, d2⟩ := sp.1 2 (by omega); obtain ⟨u3, d3⟩ := sp.1 3 (by omega); obtain ⟨u4, d4⟩ := sp.1 4 (by omega); obtain ⟨u5, d5⟩ := sp.1 5 (by omega); obtain ⟨u6, d6⟩ := sp.1 6 (by omega); obtain ⟨u7, d7⟩ := sp.1 7 (by omega); obtain ⟨u8, d8⟩ := sp.1 8 (by omega)
               rw [Nat.add_zero] at d0
               have f0 := sp.2 (k * 9); have f1 := sp.2 (k * 9 + 1); have f2 := sp.2 (k * 9 + 2); have f3 := sp.2 (k * 9 + 3); have f4 := sp.2 (k * 9 + 4); have f5 := sp.2 (k * 9 + 5); have f6 := sp.2 (k * 9 + 6); have f7 := sp.2 (k * 9 + 7); have f8 := sp.2 (k * 9 + 8)
               clear sp))
          have T9 := setSeg_touch (S := fun i => i = H) (g := H) rfl (stVals zSt) w2 (k * 9) (Touch.refl _ w2)
          have B9 := B2.out.trans (T9.below B2.out.size (fun i q => by rw [q, HH.out]; exact Nat.le_refl _))
          have M9 := M2.out.step hlt HX.out
          rw [stVals_fix_no HP.out.symm] at M9
          simp only [stVals, zSt, setSeg, Nat.add_assoc, Nat.reduceAdd] at M9 B9
          go_round
          case rel =>
            (try rw [show (ByteArray.mk #[]) = ByteArray.empty from rfl])
            exact ⟨k + 1, by omega, by go_num, by simpa only [Nat.add_assoc, Nat.reduceAdd] using M9, by simpa only [Nat.add_assoc, Nat.reduceAdd] using B9⟩
          case measure => simp [intOf]; omega
      · obtain rfl : k = m := by omega
        have k2 : ¬ ((k : Int) < (k : Int)) := by omega
        have hl := HL.out
        have hM := HM.out
        have EQ := hide (show (xs.take k).map fixO = fixL xs from by
          unfold fixL
          rw [hM, ← hl]
          by_cases h40 : xs.length ≤ 40
          · rw [Nat.min_eq_left h40, List.take_of_length_le (Nat.le_refl _), List.take_of_length_le h40]
          · rw [Nat.min_eq_right (by omega)])
        have EL := hide (show k = (fixL xs).length from by unfold fixL; simp; omega)
        clear hl hM
        go_wp2_with fail
        go_ret
        exact ⟨_, rfl, hZ.out.1.own EL.out (by omega) EQ.out (by rw [HH.out]; exact Nat.le_refl _), hZ.out.2⟩
theorem pprog : PProg where
  call w c h := pmaycall_any w c.sys c.a c.b c.s c.t
  may w o h := pmay_any w o.k o.a o.b o.c o.cl.sys o.cl.a o.cl.b o.cl.s o.cl.t
  fix w a n c xs h _ _ _ _ hn := pfix_any w a n c xs h hn _ rfl
end Go.Proofs.Ythgoifmmnebkeaa
