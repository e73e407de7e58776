/-
  The document's own wheel: Arm, where a timer comes in.
-/
import Derived.Test.YtpmggiahhjllcaaWrArm
namespace Go.Proofs.Ytpmggiahhjllcaa
open Go.ChangeShapes Go.WideShapes Go.ChangeAt Go.RowKit
set_option linter.unusedVariables false
set_option maxRecDepth 10000 in
set_option maxHeartbeats 8000000 in
theorem wrarm_ok {w : World} {G : Nat → Prop} {S : Nat} {s : Ws} (h : Wr w G S s) (id a : Int) (he : armE s id a = 0) :
    Calls Try.prog 14 #[.pointer (some ⟨S, 0, none⟩), .int .i64 id, .int .i64 a] w fun e w' => e = .returned (.int .i64 0) ∧ ∃ G', Wr w' G' S (armS s id a) ∧ Touch G w w' ∧ ∀ i, G' i → G i ∨ w.heap.size ≤ i := by
  obtain ⟨q1, q2, q3, q4, q5⟩ := armE_zero he
  have hgood := good_arm h.good id a
  have hS : armS s id a = ⟨s.now, ins s.l ⟨id.toNat, a.toNat⟩⟩ := by unfold armS; rw [if_pos he]
  rw [hS] at hgood ⊢
  clear hS he
  obtain ⟨x, rfl⟩ := Int.eq_ofNat_of_zero_le q1
  obtain ⟨d, rfl⟩ := Int.eq_ofNat_of_zero_le (show 0 ≤ a by omega)
  rw [Int.toNat_natCast, Int.toNat_natCast] at hgood ⊢
  have hpos : pos s.l (x : Int) = -1 := by
    rcases pos_cases s.l (x : Int) with ⟨i, hi, _, _, e3, e4⟩ | ⟨_, e3, e4⟩
    · rw [q4] at e4; cases e4
    · exact e3
  have hno : ∀ y ∈ s.l, y.id ≠ x := fun y hy e => by
    have : armed s.l (x : Int) = true := (armed_iff _ _).mpr ⟨y, hy, by omega⟩
    rw [q4] at this; cases this
  obtain ⟨hlo, hhi⟩ := plc_spec h.good.up x
  have hp := plc_le s.l x
  have hins : ins s.l ⟨x, d⟩ = s.l.take (plc s.l x) ++ ⟨x, d⟩ :: s.l.drop (plc s.l x) := rfl
  have HG := hide hgood
  rw [hins] at hgood ⊢
  generalize hpp : plc s.l x = p at *
  have HLO := hide (show ∀ j (hj : j < s.l.length), j < p → s.l[j].id < x from hlo)
  have HHI := hide (show ∀ j (hj : j < s.l.length), p ≤ j → x < s.l[j].id from fun j hj h => by
    have h1 := hhi j hj h
    have h2 := hno _ (List.getElem_mem hj)
    omega)
  have HIN := hide hins
  have GD := hide hgood
  have n1 : ¬ (x : Int) < 0 := by omega
  have n2 : ¬ (d : Int) ≤ (s.now : Int) := by omega
  have n3 : ¬ (16777216 : Int) ≤ (d : Int) := by omega
  have n4 : ((s.l.length : Int) == 64) = false := by simp; omega
  have HH := hide h
  have s0 := h.s0
  obtain ⟨aa, cc, s1, hrow⟩ := h.row
  have HR := hide hrow
  have few := h.good.few
  have LS := hide (h.lt S h.gS)
  obtain ⟨i0, hi0, hz0, hz1, hz2⟩ := info_parts one_info
  have HZ := hide hz2
  have O0 := hide (show w.ownsRow w.heap.size 65 2 (.slice none 0 0) (prt s.l p 0 ⟨x, d⟩).length (cellsTms (prt s.l p 0 ⟨x, d⟩)) by unfold prt; rw [if_neg (by omega)]; exact World.ownsRow_nil _ _ _ _)
  clear h hrow hz2 hgood hins hlo hhi hno hpp HG q1 q2 q3 q4
  go_enter Try.func14, Try.ntmps14
  go_wp2_with (go_at_call 28; refine (wrat_any HH.out (x : Int)).mono ?_; rintro e w' ⟨rfl, rfl⟩; rw [hpos])
  go_loopw [9, 8, 7] (fun i b v wr => ∃ (k : Nat), k ≤ s.l.length ∧ i = .int .i64 (k : Int) ∧ b = .bool (decide (p < k)) ∧ Hid (Below w.heap.size w wr ∧ wr.ownsRow w.heap.size 65 2 v (prt s.l p k ⟨x, d⟩).length (cellsTms (prt s.l p k ⟨x, d⟩)))) (fun i _ _ _ => s.l.length - (intOf i).toNat)
  case atStart => exact ⟨0, Nat.zero_le _, rfl, by simp, Below.refl _ _, O0.out⟩
  case round =>
    clear O0
    obtain ⟨k, hk, rfl, rfl, hL⟩ := hrel
    have plen : (prt s.l p k ⟨x, d⟩).length ≤ 70 := by unfold prt; split <;> simp <;> omega
    have r1 := (hL.out.1.cell (p := ⟨S, 1, none⟩) LS.out).trans s1
    by_cases hkl : k < s.l.length
    · obtain ⟨g, rfl, c0, c1⟩ := HR.out k hkl
      have lg := lt_of_cell? c0
      have k0 : (0 : Int) ≤ (k : Int) := by omega
      have k1 : (k : Int) < (s.l.length : Int) := by omega
      obtain ⟨u, hu⟩ : ∃ u, u = s.l[k]'(by omega) := ⟨_, rfl⟩
      rw [← hu] at c0 c1
      have e0 := (hL.out.1.cell (p := ⟨g, k * 2, none⟩) lg).trans c0
      have e1 := (hL.out.1.cell (p := ⟨g, k * 2 + 1, none⟩) lg).trans c1
      have EE := hide (show ∀ W : World, Below w.heap.size w W → W.cell? ⟨S, 1, none⟩ = some (.slice (some ⟨g, 0, none⟩) s.l.length cc) ∧ W.cell? ⟨g, k * 2, none⟩ = some (.int .i64 (u.id : Int)) ∧ W.cell? ⟨g, k * 2 + 1, none⟩ = some (.int .i64 (u.due : Int)) from fun W hW =>
        ⟨(hW.cell (p := ⟨S, 1, none⟩) LS.out).trans s1, (hW.cell (p := ⟨g, k * 2, none⟩) lg).trans c0, (hW.cell (p := ⟨g, k * 2 + 1, none⟩) lg).trans c1⟩)
      clear c0 c1
      have PEH := hide (show p < k → prt s.l p (k + 1) ⟨x, d⟩ = prt s.l p k ⟨x, d⟩ ++ [u] from fun h => by rw [prt_hi _ h hkl, hu])
      have PEL := hide (show k < p → prt s.l p (k + 1) ⟨x, d⟩ = prt s.l p k ⟨x, d⟩ ++ [u] from fun h => by rw [prt_lo _ h hkl, hu])
      have PEA := hide (show p = k → prt s.l p (k + 1) ⟨x, d⟩ = (prt s.l p k ⟨x, d⟩ ++ [⟨x, d⟩]) ++ [u] from fun h => by subst h; rw [prt_at _ hkl, hu])
      have FL := hide (show k < p → u.id < x from fun h => by rw [hu]; exact HLO.out k hkl h)
      have FH := hide (show p ≤ k → x < u.id from fun h => by rw [hu]; exact HHI.out k hkl h)
      clear hu
      by_cases hkp : p < k
      · have hdp : decide (p < k) = true := decide_eq_true hkp
        have hdp1 : decide (p < k + 1) = true := decide_eq_true (by omega)
        rw [hdp] at *
        have O := hide hL.out.2
        go_wp2_with (at_builtin; refine wpList_append_own_at _ rfl (.tmp 63) (.tmp 71) _ rfl w.heap.size 65 i0 _ 2 16 Try.underlying59 hi0 hz0 hz1 HZ.out rfl (by omega) _ _ _ rfl (O.out.alloc _) ⟨wr.heap.size, 0, none⟩ 1 1 (cellsTm u) rfl rfl (cells_tm wr _ _ _ _ rfl) (cellsTm_cell u) (by unfold maxLen; omega) (by omega) (by have := hL.out.1.size; simp; omega) ?_; intro v2 w8 o8 g8 _ t8; have O8 := hide o8; have B8 := hide ((hL.out.1.alloc hL.out.1.size _).grown g8 (by have := hL.out.1.size; simp; omega) (fun k hk => (O.out.lt k hk).1)); clear o8 g8 t8)
        go_roundw
        case rel => exact ⟨k + 1, by omega, by go_num, by rw [hdp1], B8.out, by rw [PEH.out hkp, cellsTms_append, cellsTms_one, List.length_append]; exact O8.out⟩
        case measure => simp [intOf]; omega
      · have hdp : decide (p < k) = false := decide_eq_false hkp
        rw [hdp] at *
        have O := hide hL.out.2
        by_cases hkp2 : p = k
        · have hdp1 : decide (p < k + 1) = true := decide_eq_true (by omega)
          have hgt : (x : Int) < (u.id : Int) := by have := FH.out (by omega); omega
          go_wp2_with (first
            | (at_builtin; refine wpList_append_own_at _ rfl (.tmp 57) (.tmp 61) _ rfl w.heap.size 65 i0 _ 2 16 Try.underlying59 hi0 hz0 hz1 HZ.out rfl (by omega) _ _ _ rfl (O.out.alloc _) ⟨wr.heap.size, 0, none⟩ 1 1 (cellsTm ⟨x, d⟩) rfl rfl (cells_tm wr _ _ _ _ rfl) (cellsTm_cell _) (by unfold maxLen; omega) (by omega) (by have := hL.out.1.size; simp; omega) ?_; intro v7 w7 o7 g7 _ t7; have O7 := hide o7; have B7 := hide ((hL.out.1.alloc hL.out.1.size _).grown g7 (by have := hL.out.1.size; simp; omega) (fun k hk => (O.out.lt k hk).1)); obtain ⟨m0, m1, m2⟩ := EE.out w7 B7.out; have pl7 : (prt s.l p k ⟨x, d⟩).length + 1 ≤ 71 := (by omega); clear o7 g7 t7)
            | (at_builtin; refine wpList_append_own_at _ rfl (.tmp 63) (.tmp 71) _ rfl w.heap.size 65 i0 _ 2 16 Try.underlying59 hi0 hz0 hz1 HZ.out rfl (by omega) _ _ _ rfl (O7.out.alloc _) ⟨w7.heap.size, 0, none⟩ 1 1 (cellsTm u) rfl rfl (cells_tm w7 _ _ _ _ rfl) (cellsTm_cell u) (by unfold maxLen; omega) (by omega) (by have := B7.out.size; simp; omega) ?_; intro v2 w8 o8 g8 _ t8; have O8 := hide o8; have B8 := hide ((B7.out.alloc B7.out.size _).grown g8 (by have := B7.out.size; simp; omega) (fun k hk => (O7.out.lt k hk).1)); clear o8 g8 t8))
          go_roundw
          case rel => exact ⟨k + 1, by omega, by go_num, by rw [hdp1], B8.out, by rw [PEA.out hkp2, cellsTms_append, cellsTms_append, cellsTms_one, cellsTms_one, List.length_append, List.length_append]; exact O8.out⟩
          case measure => simp [intOf]; omega
        · have hkp3 : k < p := by omega
          have hdp1 : decide (p < k + 1) = false := decide_eq_false (by omega)
          have hgt : ¬ (x : Int) < (u.id : Int) := by have := FL.out hkp3; omega
          go_wp2_with (at_builtin; refine wpList_append_own_at _ rfl (.tmp 63) (.tmp 71) _ rfl w.heap.size 65 i0 _ 2 16 Try.underlying59 hi0 hz0 hz1 HZ.out rfl (by omega) _ _ _ rfl (O.out.alloc _) ⟨wr.heap.size, 0, none⟩ 1 1 (cellsTm u) rfl rfl (cells_tm wr _ _ _ _ rfl) (cellsTm_cell u) (by unfold maxLen; omega) (by omega) (by have := hL.out.1.size; simp; omega) ?_; intro v2 w8 o8 g8 _ t8; have O8 := hide o8; have B8 := hide ((hL.out.1.alloc hL.out.1.size _).grown g8 (by have := hL.out.1.size; simp; omega) (fun k hk => (O.out.lt k hk).1)); clear o8 g8 t8)
          go_roundw
          case rel => exact ⟨k + 1, by omega, by go_num, by rw [hdp1], B8.out, by rw [PEL.out hkp3, cellsTms_append, cellsTms_one, List.length_append]; exact O8.out⟩
          case measure => simp [intOf]; omega
    · obtain rfl : k = s.l.length := by omega
      have HE := hide (show ∀ (w8 : World), Below w.heap.size w w8 → w8.heap[S]? = some (.cells #[.int .i64 (s.now : Int), .slice aa s.l.length cc] 61 (0, 0)) ∧ w8.cell? ⟨S, 1, none⟩ = some (.slice aa s.l.length cc) ∧ w8.frozen? ⟨S, 1, none⟩ = false from fun w8 hb => by
        obtain ⟨a', c', e, _⟩ := HH.out.mem
        have e2 := s1
        rw [cell_of_row _ _ _ _ _ _ e] at e2
        injection e2 with e2
        have e3 : w8.heap[S]? = some (.cells #[.int .i64 (s.now : Int), .slice aa s.l.length cc] 61 (0, 0)) := by rw [← e2]; exact (hb.block S LS.out).trans e
        exact ⟨e3, by rw [cell_of_row _ _ _ _ _ _ e3]; rfl, frozen_of_row _ _ _ _ _ e3⟩)
      have FIN := hide (show ∀ (w8 : World) (A : Option Addr) (c8 N : Nat), Below w.heap.size w w8 → w8.ownsRow w.heap.size 65 2 (.slice A N c8) N (cellsTms (s.l.take p ++ ⟨x, d⟩ :: s.l.drop p)) → N = s.l.length + 1 →
          ∃ G', Wr (w8.setCell ⟨S, 1, none⟩ (.slice A N c8)) G' S ⟨s.now, s.l.take p ++ ⟨x, d⟩ :: s.l.drop p⟩ ∧ Touch G w (w8.setCell ⟨S, 1, none⟩ (.slice A N c8)) ∧ ∀ i, G' i → G i ∨ w.heap.size ≤ i from fun w8 A c8 N hb ho hN =>
        wr_end HH.out (s' := ⟨s.now, s.l.take p ++ ⟨x, d⟩ :: s.l.drop p⟩) GD.out (Touch.of_below hb) (HE.out w8 hb).1 ho (by rw [← HIN.out, ins_len]; exact hN.symm))
      obtain ⟨f1, f2, f3⟩ := HE.out _ hL.out.1
      by_cases hpl : p < s.l.length
      · have hdp : decide (p < s.l.length) = true := decide_eq_true hpl
        rw [hdp]
        have O := hide hL.out.2
        rw [prt_end _ hpl, ← HIN.out, ins_len, HIN.out] at O
        obtain ⟨A8, c8, rfl, _⟩ := own_sliceR O.out
        clear f1
        go_wp2_with fail
        go_ret
        exact ⟨rfl, FIN.out _ _ _ _ hL.out.1 O.out rfl⟩
      · obtain rfl : p = s.l.length := by omega
        have hdp : decide (s.l.length < s.l.length) = false := decide_eq_false (by omega)
        rw [hdp]
        have O := hide hL.out.2
        clear f1 f2 f3
        have pe : prt s.l s.l.length s.l.length ⟨x, d⟩ = s.l := by unfold prt; rw [if_neg (by omega), List.take_length]
        rw [pe] at O
        clear pe plen
        go_wp2_with (at_builtin; refine wpList_append_own_at _ rfl (.tmp 75) (.tmp 79) _ rfl w.heap.size 65 i0 _ 2 16 Try.underlying59 hi0 hz0 hz1 HZ.out rfl (by omega) _ _ _ rfl (O.out.alloc _) ⟨wr.heap.size, 0, none⟩ 1 1 (cellsTm ⟨x, d⟩) rfl rfl (cells_tm wr _ _ _ _ rfl) (cellsTm_cell _) (by unfold maxLen; omega) (by omega) (by have := hL.out.1.size; simp; omega) ?_; intro v2 w8 o8 g8 _ t8; obtain ⟨A8, c8, rfl, _⟩ := own_sliceR o8; have O8 := hide o8; have B8 := hide ((hL.out.1.alloc hL.out.1.size _).grown g8 (by have := hL.out.1.size; simp; omega) (fun k hk => (O.out.lt k hk).1)); obtain ⟨_, f2, f3⟩ := HE.out _ B8.out; clear o8 g8 t8)
        go_ret
        exact ⟨rfl, FIN.out _ _ _ _ B8.out (by rw [List.take_length, List.drop_length, cellsTms_append, cellsTms_one]; exact O8.out) rfl⟩
end Go.Proofs.Ytpmggiahhjllcaa
