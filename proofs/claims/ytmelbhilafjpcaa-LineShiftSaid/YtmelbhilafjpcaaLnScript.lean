/-
  The walk of LineScript, over the contracts of the program's line.
-/
import Derived.Test.YtmelbhilafjpcaaLnBoth
import Derived.Test.YtmelbhilafjpcaaLnRef
import Derived.Test.YtmelbhilafjpcaaRowsIn
namespace Go.Proofs.Ytmelbhilafjpcaa
open Go.ChangeShapes Go.WideShapes Go.ChangeAt Go.RowKit
set_option linter.unusedVariables false
set_option linter.unusedSimpArgs false
/-- Act k of those at ⟨b, off⟩. -/
structure LActIs (w : World) (b off k : Nat) (d x : Int) : Prop where
  c0 : w.cell? ⟨b, off + k * 2, none⟩ = some (.int .i64 d)
  c1 : w.cell? ⟨b, off + k * 2 + 1, none⟩ = some (.int .i64 x)
  wx : (Lit.int .i64 x).wf = true
theorem LActIs.below {w w' : World} {b off k : Nat} {d x : Int} (h : LActIs w b off k d x) (hb : Below w.heap.size w w') : LActIs w' b off k d x := by
  have hlt : b < w.heap.size := lt_of_cell? h.c0
  exact ⟨(hb.cell hlt).trans h.c0, (hb.cell hlt).trans h.c1, h.wx⟩
theorem lacts_open {w : World} {a : Option Addr} {n c : Nat} {zs : List (List Int)} (h : CameRows 2 w a n c zs) : 0 < n → ∃ b off, a = some ⟨b, off, none⟩ ∧ ∀ k, k < n → ∃ d x, LActIs w b off k d x := by
  intro hn
  obtain ⟨_, _, _, h4, h5⟩ := h
  obtain ⟨b, off, e, hb, hc⟩ := h5 hn
  refine ⟨b, off, e, fun k hk => ?_⟩
  obtain ⟨_, hw⟩ := h4 k hk
  exact ⟨_, _, by have := hc k 0 hk (by omega); simpa using this, by have := hc k 1 hk (by omega); rw [← Nat.add_assoc] at this; exact this, hw 1 (by omega)⟩
def CopL (w : World) (X : Nat) (d x : Int) : Prop := w.heap[X]? = some (.cells #[.int .i64 d, .int .i64 x] 33 (0, 0))
theorem copL_x {w : World} {X : Nat} {d x : Int} (h : CopL w X d x) : w.cell? ⟨X, 1, none⟩ = some (.int .i64 x) := by rw [cell_of_row _ _ _ _ _ _ h]; rfl
section
variable {PL : Rel Ls}
set_option maxRecDepth 100000 in
set_option maxHeartbeats 8000000 in
theorem walk_lineScriptC (C : PLine PL) (w : World) (g : Int) (wg : (Lit.int .i64 g).wf = true) (a : Option Addr) (n c : Nat) (zs : List (List Int)) (hin : CameRows 2 w a n c zs) : Calls Try.prog 3 #[.int .i64 g, .slice a n c] w fun e w' => e = .returned (.bool true) ∧ Below w.heap.size w w' := by
  have hn : n ≤ maxLen := Nat.le_trans hin.2.1 hin.2.2.1
  have HA := hide (lacts_open hin)
  have h63 : (n : Int) ≤ 9223372036854775807 := by unfold maxLen at hn; omega
  clear hin
  by_cases h100 : 100 < n
  · have h100' : (100 : Int) < (n : Int) := by omega
    go_enter Try.func3, Try.ntmps3
    go_wp2_with (go_at_call 8; with_reducible refine (lnawake_any C _).mono ?_; rintro e w' ⟨rfl, hb⟩)
    go_ret
    exact ⟨rfl, hb⟩
  have h100' : ¬ (100 : Int) < (n : Int) := by omega
  by_cases hg : 1 ≤ g ∧ g ≤ 1000
  case neg =>
    go_enter Try.func3, Try.ntmps3
    have WG := hide wg
    have HB := hide hg
    clear wg hg
    go_wp2_with fail
    go_at_call 9
    refine (C.bad _ WG.out HB.out).mono ?_
    rintro e w1 ⟨rfl, b1⟩
    go_wp2_with (first
      | (go_at_call 10; refine (rlnew_bad _ g HB.out).mono ?_; rintro e w' ⟨rfl, rfl⟩)
      | (go_at_call 11; refine (errnum_any _ _).mono ?_; rintro e w' ⟨rfl, rfl⟩)
      | (go_at_call 8; with_reducible refine (lnawake_any C _).mono ?_; rintro e w' ⟨rfl, hb⟩))
    go_ret
    exact ⟨rfl, b1.trans (hb.mono b1.size)⟩
  obtain ⟨g1, g2⟩ := hg
  go_enter Try.func3, Try.ntmps3
  go_wp2_with fail
  go_at_call 9
  refine (C.new _ g1 g2).mono ?_
  rintro e w1 ⟨S, U, rfl, p1, b1, l1⟩
  have P1 := hide (OneO.first p1 b1 l1)
  clear p1 b1 l1
  go_wp2_with fail
  go_at_call 10
  refine (rlnew_ok _ g g1 g2).mono ?_
  rintro e w2 ⟨R, D, rfl, r2, b2, l2⟩
  have T0 := hide (P1.out.two C.ok keepsRln r2 b2 l2)
  clear r2 b2 l2 P1
  go_wp2_with (go_at_call 11; refine (errnum_any _ _).mono ?_; rintro e w' ⟨rfl, rfl⟩)
  go_loopw [9] (fun i wr => ∃ (k : Nat) (s : Ls) (U D : Nat → Prop), k ≤ n ∧ i = .int .i64 (k : Int) ∧ Hid (TwoO PL Rln w wr U D [] S R s s)) (fun i _ => n - (intOf i).toNat)
  case atStart => exact ⟨0, _, _, _, Nat.zero_le _, rfl, T0.out⟩
  case round =>
    clear T0 U D
    obtain ⟨k, s, U, D, hk, rfl, hT⟩ := hrel
    by_cases hlt : k < n
    · obtain ⟨ab, off, rfl, hall⟩ := HA.out (by omega)
      obtain ⟨d, x, hact0⟩ := hall k hlt
      have hact := hact0.below hT.out.bel
      have k0 : (0 : Int) ≤ (k : Int) := by omega
      have k1 : (k : Int) < (n : Int) := by omega
      have c0 := hact.c0
      have c1 := hact.c1
      have HWX := hide hact.wx
      have C1 : Hid (CopL (wr.alloc (.cells #[.int .i64 d, .int .i64 x] 33)) wr.heap.size d x) := (show CopL _ _ _ _ from heap_alloc_new _ _)
      have T1 := hide (hT.out.alloc C.ok keepsRln (.cells #[.int .i64 d, .int .i64 x] 33)).1
      clear hall hact0 hact hT
      go_upto_block 2 with fail
      obtain ⟨W1, hW1⟩ : ∃ W1, W1 = wr.alloc (.cells #[.int .i64 d, .int .i64 x] 33) := ⟨_, rfl⟩
      rw [← hW1] at C1 T1 ⊢
      clear hW1 c0 c1
      generalize wr.heap.size = X at *
      go_cut [11] (fun v' wx => ∃ (s : Ls) (U D : Nat → Prop), v' = .bool true ∧ Hid (TwoO PL Rln w wx U D [X] S R s s))
      case first =>
        have XC := hide (fun (w' : World) (hc : CopL w' X d x) => (show w'.cell? ⟨X, 1, none⟩ = some (.int .i64 x) from copL_x hc))
        have q1 := XC.out _ C1.out
        by_cases d0 : d = 0
        · have d0' : (d == 0) = true := by simp [d0]
          clear d0
          have x0 : W1.cell? ⟨X, 0, none⟩ = some (.int .i64 d) := by rw [cell_of_row _ _ _ _ _ _ C1.out]; rfl
          obtain ⟨bb, hbb⟩ : ∃ b, b = arrB s x := ⟨_, rfl⟩
          have CA := hide (show ∀ (W : World) (X0 : Nat → Prop), PL W X0 S s → Calls Try.prog 12 #[.pointer (some ⟨S, 0, none⟩), .int .i64 x] W (SideO (fun w' X' => PL w' X' S (arrS s x)) X0 W (.bool bb)) from fun W U h => by have := C.arrive h HWX.out; rw [← hbb] at this; exact this)
          have CR := hide (show ∀ (W : World) (X0 : Nat → Prop), Rln W X0 R s → Calls Try.prog 13 #[.pointer (some ⟨R, 0, none⟩), .int .i64 x] W (SideO (fun w' X' => Rln w' X' R (arrS s x)) X0 W (.bool bb)) from fun W U h => by have := rlarr_any h x; rw [← hbb] at this; exact this)
          clear hbb
          have g0 : (bb == bb) = true := by simp
          go_upto_region 16 with fail
          clear x0
          go_region_held3 (fun w' => w'.cell? ⟨X, 1, none⟩ = some (.int .i64 x)) (first | exact q1 | exact q4 | exact q5) (first
            | (go_at_call 12; refine (CA.out _ _ (T1.out.below C.ok keepsRln (below_drewN (Below.refl _ _) 1)).1.ps).mono ?_; intro en w4 hs; obtain ⟨rfl, U4, t4, h4⟩ := (T1.out.below C.ok keepsRln (below_drewN (Below.refl _ _) 1)).1.left C.ok keepsRln hs; clear hs; have T4 := hide t4; have C4 : Hid (CopL w4 X d x) := (show CopL _ _ _ _ from (h4 X (by simp)).trans C1.out); have q4 := XC.out _ C4.out; clear t4 h4)
            | (go_at_call 13; refine (CR.out _ _ T4.out.ds).mono ?_; intro en w5 hs; obtain ⟨rfl, D5, t5, h5⟩ := T4.out.right C.ok keepsRln hs; clear hs; have T5 := hide t5; have C5 : Hid (CopL w5 X d x) := (show CopL _ _ _ _ from (h5 X (by simp)).trans C4.out); have q5 := XC.out _ C5.out; clear t5 h5))
          go_wp2_with fail
          go_meet
          exact ⟨_, _, _, rfl, T5.out⟩
        · have d0' : (d == 0) = false := by simp [d0]
          by_cases d1 : d = 1
          · have d1' : (d == 1) = true := by simp [d1]
            clear d0 d1
            have x0 : W1.cell? ⟨X, 0, none⟩ = some (.int .i64 d) := by rw [cell_of_row _ _ _ _ _ _ C1.out]; rfl
            obtain ⟨bb, hbb⟩ : ∃ b, b = tckB s x := ⟨_, rfl⟩
            have CA := hide (show ∀ (W : World) (X0 : Nat → Prop), PL W X0 S s → Calls Try.prog 14 #[.pointer (some ⟨S, 0, none⟩), .int .i64 x] W (SideO (fun w' X' => PL w' X' S (tckS s x)) X0 W (.bool bb)) from fun W U h => by have := C.tick h HWX.out; rw [← hbb] at this; exact this)
            have CR := hide (show ∀ (W : World) (X0 : Nat → Prop), Rln W X0 R s → Calls Try.prog 15 #[.pointer (some ⟨R, 0, none⟩), .int .i64 x] W (SideO (fun w' X' => Rln w' X' R (tckS s x)) X0 W (.bool bb)) from fun W U h => by have := rltick_any h x; rw [← hbb] at this; exact this)
            clear hbb
            have g0 : (bb == bb) = true := by simp
            go_upto_region 18 with fail
            clear x0
            go_region_held3 (fun w' => w'.cell? ⟨X, 1, none⟩ = some (.int .i64 x)) (first | exact q1 | exact q4 | exact q5) (first
              | (go_at_call 14; refine (CA.out _ _ (T1.out.below C.ok keepsRln (below_drewN (Below.refl _ _) 1)).1.ps).mono ?_; intro en w4 hs; obtain ⟨rfl, U4, t4, h4⟩ := (T1.out.below C.ok keepsRln (below_drewN (Below.refl _ _) 1)).1.left C.ok keepsRln hs; clear hs; have T4 := hide t4; have C4 : Hid (CopL w4 X d x) := (show CopL _ _ _ _ from (h4 X (by simp)).trans C1.out); have q4 := XC.out _ C4.out; clear t4 h4)
              | (go_at_call 15; refine (CR.out _ _ T4.out.ds).mono ?_; intro en w5 hs; obtain ⟨rfl, D5, t5, h5⟩ := T4.out.right C.ok keepsRln hs; clear hs; have T5 := hide t5; have C5 : Hid (CopL w5 X d x) := (show CopL _ _ _ _ from (h5 X (by simp)).trans C4.out); have q5 := XC.out _ C5.out; clear t5 h5))
            go_wp2_with fail
            go_meet
            exact ⟨_, _, _, rfl, T5.out⟩
          · have d1' : (d == 1) = false := by simp [d1]
            have x0 : W1.cell? ⟨X, 0, none⟩ = some (.int .i64 d) := by rw [cell_of_row _ _ _ _ _ _ C1.out]; rfl
            by_cases d2 : d = 2
            · have d2' : (d == 2) = true := by simp [d2]
              clear d0 d1 d2
              obtain ⟨bb, hbb⟩ : ∃ b, b = s.pend := ⟨_, rfl⟩
              obtain ⟨al, hal⟩ : ∃ b, b = atL s := ⟨_, rfl⟩
              have CA := hide (show ∀ (W : World) (X0 : Nat → Prop), PL W X0 S s → Calls Try.prog 16 #[.pointer (some ⟨S, 0, none⟩)] W (SideO (fun w' X' => PL w' X' S (tkS s)) X0 W (.tuple #[.int .i64 al, .bool bb])) from fun W U h => by have := C.take h; rw [← hbb, ← hal] at this; exact this)
              have CR := hide (show ∀ (W : World) (X0 : Nat → Prop), Rln W X0 R s → Calls Try.prog 17 #[.pointer (some ⟨R, 0, none⟩)] W (SideO (fun w' X' => Rln w' X' R (tkS s)) X0 W (.tuple #[.int .i64 al, .bool bb])) from fun W U h => by have := rltake_any h; rw [← hbb, ← hal] at this; exact this)
              clear hbb hal
              have g0 : (bb == bb) = true := by simp
              have g1 : (al == al) = true := by simp
              go_wp2_with (first
                | (go_at_call 16; refine (CA.out _ _ T1.out.ps).mono ?_; intro en w4 hs; obtain ⟨rfl, U4, t4, h4⟩ := T1.out.left C.ok keepsRln hs; clear hs; have T4 := hide t4; clear t4 h4)
                | (go_at_call 17; refine (CR.out _ _ T4.out.ds).mono ?_; intro en w5 hs; obtain ⟨rfl, D5, t5, h5⟩ := T4.out.right C.ok keepsRln hs; clear hs; have T5 := hide t5; clear t5 h5))
              go_meet
              exact ⟨_, _, _, rfl, T5.out⟩
            · have d2' : (d == 2) = false := by simp [d2]
              clear d0 d1 d2
              go_wp2_with fail
              go_meet
              exact ⟨_, _, _, rfl, T1.out⟩
      case rest =>
        clear T1 C1
        obtain ⟨s1, U1, D1, rfl, hT⟩ := hcut
        have CP := hide (C.pending hT.out.ps)
        obtain ⟨al, hal⟩ : ∃ b, b = atL s1 := ⟨_, rfl⟩
        rw [← hal] at CP
        have HAL := hide hal
        clear hal
        go_wp2_with fail
        go_at_call 18
        refine CP.out.mono ?_
        rintro e w4 ⟨rfl, b4⟩
        have T4 := hide (hT.out.below C.ok keepsRln b4).1
        clear b4 hT CP
        obtain ⟨y0, y1, y2, y3, y4⟩ := T4.out.ds.cells
        obtain ⟨kp, hkp⟩ : ∃ b, b = s1.kept := ⟨_, rfl⟩
        obtain ⟨nx, hnx⟩ : ∃ b, b = s1.next := ⟨_, rfl⟩
        obtain ⟨pe, hpe⟩ : ∃ b, b = s1.pend := ⟨_, rfl⟩
        have CM := hide (show ∀ W : World, PL W U1 S s1 → Calls Try.prog 19 #[.pointer (some ⟨S, 0, none⟩)] W fun e w' => e = .returned (.bool kp) ∧ Below W.heap.size W w' from fun W h => by have := C.masked h; rw [← hkp] at this; exact this)
        have CN := hide (show ∀ W : World, PL W U1 S s1 → Calls Try.prog 20 #[.pointer (some ⟨S, 0, none⟩)] W fun e w' => e = .returned (.int .i64 nx) ∧ Below W.heap.size W w' from fun W h => by have := C.next h; rw [← hnx] at this; exact this)
        have CD := hide (fun (W : World) (h : Rln W D1 R s1) => (show W.cell? ⟨R, 1, none⟩ = some (.int .i64 nx) ∧ W.cell? ⟨R, 3, none⟩ = some (.bool pe) ∧ W.cell? ⟨R, 4, none⟩ = some (.bool kp) from by rw [hkp, hnx, hpe]; exact ⟨h.cells.2.1, h.cells.2.2.2.1, h.cells.2.2.2.2⟩))
        rw [← hpe] at y3 ⊢
        clear y0 y1 y4 hkp hnx
        have HPE := hide hpe
        have z1 := CD.out _ T4.out.ds
        clear hpe
        go_upto_if 109 with fail
        go_cut [18] (fun v wx => v = .int .i64 al ∧ wx = w4)
        case first =>
          cases pe with
          | true =>
            have y2' : w4.cell? ⟨R, 2, none⟩ = some (.int .i64 al) := by rw [y2, HAL.out]; unfold atL; rw [if_pos HPE.out.symm]
            clear y2
            go_wp2_with fail
            go_meet
            case rel => exact ⟨rfl, rfl⟩
          | false =>
            have al0 : al = 0 := by rw [HAL.out]; unfold atL; rw [if_neg (by rw [← HPE.out]; simp)]
            clear y2
            go_wp2_with fail
            go_meet
            case rel => exact ⟨by rw [al0], rfl⟩
        case rest =>
          obtain ⟨rfl, rfl⟩ := hcut
          clear y2 y3
          have g0 : (al != al) = false := by simp
          have g1 : (pe != pe) = false := by simp
          have g2 : (kp != kp) = false := by simp
          have g3 : (nx != nx) = false := by simp
          go_upto_region 27 with fail
          go_region_held3 (fun w' => w'.cell? ⟨R, 1, none⟩ = some (.int .i64 nx) ∧ w'.cell? ⟨R, 3, none⟩ = some (.bool pe) ∧ w'.cell? ⟨R, 4, none⟩ = some (.bool kp)) (first | exact z1 | exact z5 | exact z6) (first
            | (go_at_call 19; refine (CM.out _ (T4.out.below C.ok keepsRln (below_drewN (Below.refl _ _) 1)).1.ps).mono ?_; rintro e w5 ⟨rfl, b5⟩; have T5 := hide ((T4.out.below C.ok keepsRln (below_drewN (Below.refl _ _) 1)).1.below C.ok keepsRln b5).1; have z5 := CD.out _ T5.out.ds; clear b5)
            | (go_at_call 20; refine (CN.out _ T5.out.ps).mono ?_; rintro e w6 ⟨rfl, b6⟩; have T6 := hide (T5.out.below C.ok keepsRln b6).1; have z6 := CD.out _ T6.out.ds; clear b6))
          go_wp2_with fail
          go_roundw
          case rel => exact ⟨k + 1, s1, _, _, by omega, by go_num, T6.out.fewer (fun g hg => absurd hg List.not_mem_nil)⟩
          case measure => simp [intOf]; omega
    · obtain rfl : k = n := by omega
      have T1 := hide hT.out
      clear hT
      go_wp2_with (go_at_call 8; with_reducible refine (lnawake_any C _).mono ?_; rintro e w9 ⟨rfl, b9⟩; have B9 := hide (T1.out.bel.trans (b9.mono T1.out.bel.size)); clear b9)
      go_ret
      exact ⟨rfl, B9.out⟩
end
end Go.Proofs.Ytmelbhilafjpcaa
