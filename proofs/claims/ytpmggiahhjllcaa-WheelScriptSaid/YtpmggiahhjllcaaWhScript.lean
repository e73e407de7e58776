/-
  The walk of WheelScript, over the contracts of the program's wheel.
-/
import Derived.Test.YtpmggiahhjllcaaWhSame
namespace Go.Proofs.Ytpmggiahhjllcaa
open Go.ChangeShapes Go.WideShapes Go.ChangeAt Go.RowKit
set_option linter.unusedVariables false
/-- Act k of those at ⟨b, off⟩. -/
structure WActIs (w : World) (b off k : Nat) (d i a : Int) : Prop where
  c0 : w.cell? ⟨b, off + k * 3, none⟩ = some (.int .i64 d)
  c1 : w.cell? ⟨b, off + k * 3 + 1, none⟩ = some (.int .i64 i)
  c2 : w.cell? ⟨b, off + k * 3 + 2, none⟩ = some (.int .i64 a)
  wi : (Lit.int .i64 i).wf = true
  wa : (Lit.int .i64 a).wf = true
theorem WActIs.below {w w' : World} {b off k : Nat} {d i a : Int} (h : WActIs w b off k d i a) (hb : Below w.heap.size w w') : WActIs w' b off k d i a := by
  have hlt : b < w.heap.size := lt_of_cell? h.c0
  exact ⟨(hb.cell hlt).trans h.c0, (hb.cell hlt).trans h.c1, (hb.cell hlt).trans h.c2, h.wi, h.wa⟩
theorem wacts_open {w : World} {a : Option Addr} {n c : Nat} {zs : List (List Int)} (h : CameRows 3 w a n c zs) : 0 < n → ∃ b off, a = some ⟨b, off, none⟩ ∧ ∀ k, k < n → ∃ d i m, WActIs w b off k d i m := by
  intro hn
  obtain ⟨_, _, _, h4, h5⟩ := h
  obtain ⟨b, off, e, hb, hc⟩ := h5 hn
  refine ⟨b, off, e, fun k hk => ?_⟩
  obtain ⟨_, hw⟩ := h4 k hk
  exact ⟨_, _, _, by have := hc k 0 hk (by omega); simpa using this, by have := hc k 1 hk (by omega); rw [← Nat.add_assoc] at this; exact this, by have := hc k 2 hk (by omega); rw [← Nat.add_assoc] at this; exact this, hw 1 (by omega), hw 2 (by omega)⟩
/-- The act copied to block X. -/
def CopW (w : World) (X : Nat) (d i a : Int) : Prop := w.heap[X]? = some (.cells #[.int .i64 d, .int .i64 i, .int .i64 a] 33 (0, 0))
theorem copW_id {w : World} {X : Nat} {d i a : Int} (h : CopW w X d i a) : w.cell? ⟨X, 1, none⟩ = some (.int .i64 i) := by rw [cell_of_row _ _ _ _ _ _ h]; rfl
section
variable {PW : World → (Nat → Prop) → Nat → Ws → Prop}
/-- Both wheels, new. -/
theorem two_first (C : PWheel PW) {w w1 w2 : World} {S R N : Nat} {U : Nat → Prop} (p1 : PW w1 U S ⟨N, []⟩) (b1 : Below w.heap.size w w1) (l1 : ∀ i, U i → w.heap.size ≤ i) (r2 : Wr w2 (fun i => i = R) R ⟨N, []⟩) (b2 : Below w1.heap.size w1 w2) (hR : w1.heap.size ≤ R) :
    TwoW PW w w2 U (fun i => i = R) [] S R ⟨N, []⟩ ⟨N, []⟩ :=
  ⟨C.below p1 b2, r2, b1.trans (b2.mono b1.size), fun i hi e => by have := C.lt p1 i hi; have e : i = R := e; omega, l1, fun i e => by have := b1.size; have e : i = R := e; omega, fun g hg => absurd hg List.not_mem_nil⟩
set_option maxRecDepth 100000 in
set_option maxHeartbeats 8000000 in
theorem walk_wheelScriptC (C : PWheel PW) (w : World) (now : Int) (wn : (Lit.int .i64 now).wf = true) (a : Option Addr) (n c : Nat) (zs : List (List Int)) (hin : CameRows 3 w a n c zs) : Calls Try.prog 3 #[.int .i64 now, .slice a n c] w fun e w' => e = .returned (.bool true) ∧ Below w.heap.size w w' := by
  have hn : n ≤ maxLen := Nat.le_trans hin.2.1 hin.2.2.1
  have HA := hide (wacts_open hin)
  have h63 : (n : Int) ≤ 9223372036854775807 := by unfold maxLen at hn; omega
  clear hin
  by_cases h60 : 60 < n
  · have h60' : (60 : Int) < (n : Int) := by omega
    go_enter Try.func3, Try.ntmps3
    go_wp2_with (go_at_call 9; with_reducible refine (wawake_any C _).mono ?_; rintro e w' ⟨rfl, hb⟩)
    go_ret
    exact ⟨rfl, hb⟩
  have h60' : ¬ (60 : Int) < (n : Int) := by omega
  by_cases hbad : now < 0 ∨ 16777216 ≤ now
  · go_enter Try.func3, Try.ntmps3
    have WN := hide wn
    have HB := hide hbad
    clear wn hbad
    go_wp2_with fail
    go_at_call 10
    refine (C.bad _ now WN.out HB.out).mono ?_
    rintro e w1 ⟨rfl, b1⟩
    go_wp2_with (first
      | (go_at_call 11; refine (wrnew_bad _ now HB.out).mono ?_; rintro e w' ⟨rfl, rfl⟩)
      | (go_at_call 12; refine (num_any _ _).mono ?_; rintro e w' ⟨rfl, rfl⟩)
      | (go_at_call 9; with_reducible refine (wawake_any C _).mono ?_; rintro e w' ⟨rfl, hb⟩))
    go_ret
    exact ⟨rfl, b1.trans (hb.mono b1.size)⟩
  obtain ⟨N, rfl⟩ := Int.eq_ofNat_of_zero_le (show 0 ≤ now by omega)
  have hN : N < 16777216 := by omega
  clear hbad
  go_enter Try.func3, Try.ntmps3
  go_wp2_with fail
  go_at_call 10
  refine (C.new _ N hN).mono ?_
  rintro e w1 ⟨S, U, rfl, p1, b1, l1⟩
  have P1 := hide p1
  have B1 := hide b1
  have L1 := hide l1
  clear p1 b1 l1
  go_wp2_with fail
  go_at_call 11
  refine (wrnew_ok _ N hN).mono ?_
  rintro e w2 ⟨R, rfl, r2, b2, l2⟩
  have T0 := hide (two_first C P1.out B1.out L1.out r2 b2 l2)
  clear r2 b2 l2 P1 B1 L1
  go_wp2_with (go_at_call 12; refine (num_any _ _).mono ?_; rintro e w' ⟨rfl, rfl⟩)
  go_loopw [9] (fun i wr => ∃ (k : Nat) (s : Ws) (U D : Nat → Prop), k ≤ n ∧ i = .int .i64 (k : Int) ∧ Hid (TwoW PW w wr U D [] S R s s)) (fun i _ => n - (intOf i).toNat)
  case atStart => exact ⟨0, _, _, _, Nat.zero_le _, rfl, T0.out⟩
  case round =>
    clear T0 U
    obtain ⟨k, s, U, D, hk, rfl, hT⟩ := hrel
    by_cases hlt : k < n
    · obtain ⟨ab, off, rfl, hall⟩ := HA.out (by omega)
      obtain ⟨d, x, y, hact0⟩ := hall k hlt
      have hact := hact0.below hT.out.bel
      have k0 : (0 : Int) ≤ (k : Int) := by omega
      have k1 : (k : Int) < (n : Int) := by omega
      have c0 := hact.c0
      have c1 := hact.c1
      have c2 := hact.c2
      have HWX := hide hact.wi
      have HWY := hide hact.wa
      have C1 : Hid (CopW (wr.alloc (.cells #[.int .i64 d, .int .i64 x, .int .i64 y] 33)) wr.heap.size d x y) := (show CopW _ _ _ _ _ from heap_alloc_new _ _)
      have T1 := hide (hT.out.alloc C (.cells #[.int .i64 d, .int .i64 x, .int .i64 y] 33)).1
      clear hall hact0 hact hT
      have xd : wr.alloc (.cells #[.int .i64 d, .int .i64 x, .int .i64 y] 33) = wr.alloc (.cells #[.int .i64 d, .int .i64 x, .int .i64 y] 33) := rfl
      clear xd
      go_upto_block 2 with fail
      obtain ⟨W1, hW1⟩ : ∃ W1, W1 = wr.alloc (.cells #[.int .i64 d, .int .i64 x, .int .i64 y] 33) := ⟨_, rfl⟩
      rw [← hW1] at C1 T1 ⊢
      clear hW1 c0 c1 c2
      generalize wr.heap.size = X at *
      go_cut [11] (fun v' wx => ∃ (q : Nat) (s : Ws) (U D : Nat → Prop), q ≤ 200 ∧ v' = .int .i64 (q : Int) ∧ Hid (TwoW PW w wx U D [X] S R s s) ∧ Hid (CopW wx X d x y))
      case first =>
        have XC := hide (fun (w' : World) (hc : CopW w' X d x y) => (show w'.cell? ⟨X, 1, none⟩ = some (.int .i64 x) ∧ w'.cell? ⟨X, 2, none⟩ = some (.int .i64 y) from ⟨by rw [cell_of_row _ _ _ _ _ _ hc]; rfl, by rw [cell_of_row _ _ _ _ _ _ hc]; rfl⟩))
        have q1 := XC.out _ C1.out
        by_cases d0 : d = 0
        · have d0' : (d == 0) = true := by simp [d0]
          clear d0
          have x0 : W1.cell? ⟨X, 0, none⟩ = some (.int .i64 d) := by rw [cell_of_row _ _ _ _ _ _ C1.out]; rfl
          have g0 : (((armE s x y : Nat) : Int) != ((armE s x y : Nat) : Int)) = false := by simp
          go_upto_region 16 with fail
          clear x0
          go_region_held3 (fun w' => w'.cell? ⟨X, 1, none⟩ = some (.int .i64 x) ∧ w'.cell? ⟨X, 2, none⟩ = some (.int .i64 y)) (first | exact q1 | exact q4 | exact q5) (first
            | (go_at_call 13; refine (C.arm (T1.out.below C (below_drewN (Below.refl _ _) 1)).1.ps HWX.out HWY.out).mono ?_; intro en w4 hs; obtain ⟨rfl, U4, t4, h4⟩ := (T1.out.below C (below_drewN (Below.refl _ _) 1)).1.left C hs; clear hs; have T4 := hide t4; have C4 : Hid (CopW w4 X d x y) := (show CopW _ _ _ _ _ from (h4 X (by simp)).trans C1.out); have q4 := XC.out _ C4.out; clear t4 h4)
            | (go_at_call 14; refine (wrarm_any T4.out.ds x y).mono ?_; intro en w5 hs; obtain ⟨rfl, D5, t5, h5⟩ := T4.out.right C hs; clear hs; have T5 := hide t5; have C5 : Hid (CopW w5 X d x y) := (show CopW _ _ _ _ _ from (h5 X (by simp)).trans C4.out); have q5 := XC.out _ C5.out; clear t5 h5)
            | (go_at_call 12; refine (num_any _ _).mono ?_; rintro e w' ⟨rfl, rfl⟩))
          go_wp2_with fail
          go_meet
          exact ⟨0, _, _, _, by omega, rfl, T5.out, C5⟩
        · have d0' : (d == 0) = false := by simp [d0]
          by_cases d1 : d = 1
          · have d1' : (d == 1) = true := by simp [d1]
            clear d0 d1
            have x0 : W1.cell? ⟨X, 0, none⟩ = some (.int .i64 d) := by rw [cell_of_row _ _ _ _ _ _ C1.out]; rfl
            have g0 : (armed s.l x != armed s.l x) = false := by simp
            go_upto_region 19 with fail
            clear x0
            go_region_held3 (fun w' => w'.cell? ⟨X, 1, none⟩ = some (.int .i64 x)) (first | exact q1.1 | exact q4.1 | exact q5.1) (first
              | (go_at_call 15; refine (C.can (T1.out.below C (below_drewN (Below.refl _ _) 1)).1.ps HWX.out).mono ?_; intro en w4 hs; obtain ⟨rfl, U4, t4, h4⟩ := (T1.out.below C (below_drewN (Below.refl _ _) 1)).1.left C hs; clear hs; have T4 := hide t4; have C4 : Hid (CopW w4 X d x y) := (show CopW _ _ _ _ _ from (h4 X (by simp)).trans C1.out); have q4 := XC.out _ C4.out; clear t4 h4)
              | (go_at_call 16; refine (wrcan_any T4.out.ds x).mono ?_; intro en w5 hs; obtain ⟨rfl, D5, t5, h5⟩ := T4.out.right C hs; clear hs; have T5 := hide t5; have C5 : Hid (CopW w5 X d x y) := (show CopW _ _ _ _ _ from (h5 X (by simp)).trans C4.out); have q5 := XC.out _ C5.out; clear t5 h5))
            go_wp2_with fail
            go_meet
            exact ⟨0, _, _, _, by omega, rfl, T5.out, C5⟩
          · have d1' : (d == 1) = false := by simp [d1]
            by_cases d2 : d = 2
            · have d2' : (d == 2) = true := by simp [d2]
              clear d0 d1 d2
              have x0 : W1.cell? ⟨X, 0, none⟩ = some (.int .i64 d) := by rw [cell_of_row _ _ _ _ _ _ C1.out]; rfl
              go_wp2_with fail
              go_meet
              exact ⟨1, _, _, _, by omega, rfl, T1.out, C1⟩
            · have d2' : (d == 2) = false := by simp [d2]
              by_cases d3 : d = 3
              · have d3' : (d == 3) = true := by simp [d3]
                clear d0 d1 d2 d3
                have x0 : W1.cell? ⟨X, 0, none⟩ = some (.int .i64 d) := by rw [cell_of_row _ _ _ _ _ _ C1.out]; rfl
                have x2 := q1.2
                clear q1
                go_wp2_with (go_at_call 17; refine (low_any _ 200 _ (by omega) (by omega)).mono ?_; rintro e w' ⟨⟨r, hr, rfl⟩, rfl⟩)
                go_meet
                exact ⟨r, _, _, _, by omega, rfl, T1.out, C1⟩
              · have d3' : (d == 3) = false := by simp [d3]
                clear d0 d1 d2 d3
                have x0 : W1.cell? ⟨X, 0, none⟩ = some (.int .i64 d) := by rw [cell_of_row _ _ _ _ _ _ C1.out]; rfl
                go_wp2_with fail
                go_meet
                exact ⟨0, _, _, _, by omega, rfl, T1.out, C1⟩
      case rest =>
        clear T1 C1
        obtain ⟨q, s1, U1, D1, hq, rfl, hT, hC⟩ := hcut
        go_wp2_with fail
        go_loopw [12] (fun i wy => ∃ (j : Nat) (s : Ws) (U D : Nat → Prop), j ≤ q ∧ i = .int .i64 (j : Int) ∧ Hid (TwoW PW w wy U D [X] S R s s) ∧ Hid (CopW wy X d x y)) (fun i _ => q - (intOf i).toNat)
        case atStart => exact ⟨0, _, _, _, Nat.zero_le _, rfl, hT, hC⟩
        case round =>
          clear hT hC
          obtain ⟨j, s2, U2, D2, hj, rfl, hT, hC⟩ := hrel
          by_cases hjq : j < q
          · have j0 : (j : Int) < (q : Int) := by omega
            have gl : (gone s2).length ≤ 64 := by have h1 := gone_len s2; have h2 := hT.out.ds.good.few; omega
            have g0 : (((moved s2 : Nat) : Int) != ((moved s2 : Nat) : Int)) = false := by simp
            go_wp2_with fail
            go_at_call 18
            refine (C.tick hT.out.ps).mono ?_
            intro en w4 ht
            obtain ⟨A4, c4, rfl, o4, U4, t4, h4, f4⟩ := hT.out.tickL C ht
            have T4 := hide t4
            have F4 := hide f4
            have O4 := hide o4
            have C4 : Hid (CopW w4 X d x y) := (show CopW _ _ _ _ _ from (h4 X (by simp)).trans hC.out)
            clear ht t4 h4 f4 o4
            go_wp2_with fail
            go_at_call 19
            refine (wrtick_any T4.out.ds).mono ?_
            intro en w5 ht
            obtain ⟨A5, c5, rfl, o5, D5, t5, h5, f5, u5⟩ := T4.out.tickR C F4.out ht
            have T5 := hide t5
            have F5 := hide f5
            have O5 := hide o5
            have P5 := hide (u5.own O4.out (fun g hg => (F4.out g hg).2.1))
            have C5 : Hid (CopW w5 X d x y) := (show CopW _ _ _ _ _ from (h5 X (by simp)).trans C4.out)
            clear ht t5 h5 f5 o5 u5
            go_wp2_with fail
            go_at_call 20
            refine (same_own _ _ _ _ _ P5.out O5.out (by omega)).mono ?_
            rintro e w6 ⟨rfl, b6⟩
            have T6 := hide (T5.out.below C b6).1
            have P6 := hide ((Touch.of_below (S := fun _ => False) b6).own P5.out (fun _ _ e => e))
            have F6 := hide (show Free w w6 U4 D5 [X] (.slice A4 (gone s2).length c4) from fun i hi => by obtain ⟨z1, z2, z3, z4, z5⟩ := F5.out i hi; exact ⟨z1, z2, z3, z4, Nat.lt_of_lt_of_le z5 b6.size⟩)
            have C6 : Hid (CopW w6 X d x y) := (show CopW _ _ _ _ _ from (b6.block X (lt_of_heap C5.out)).trans C5.out)
            clear b6
            go_wp2_with fail
            go_at_call 21
            refine (over_touch _ _ _ _ P6.out (by omega)).mono ?_
            rintro e w7 ⟨rfl, t7⟩
            have hov := T6.out.over C F6.out t7
            have T7 := hide hov.1
            have C7 : Hid (CopW w7 X d x y) := (show CopW _ _ _ _ _ from (hov.2 X (by simp)).trans C6.out)
            clear t7 hov
            go_wp2_with fail
            go_roundw
            case rel => exact ⟨j + 1, _, _, _, by omega, by go_num, T7.out, C7⟩
            case measure => simp [intOf]; omega
          · obtain rfl : j = q := by omega
            have j0 : ¬ (j : Int) < (j : Int) := by omega
            have x1 := copW_id hC.out
            go_wp2_with (go_at_call 22; refine (wsame_any C hT.out HWX.out).mono ?_; rintro e w4 ⟨rfl, b4⟩; have T4 := hide ((hT.out.below C b4).1.fewer (X' := []) (fun g hg => absurd hg List.not_mem_nil)); clear b4)
            go_roundw
            case rel => exact ⟨k + 1, _, _, _, by omega, by go_num, T4.out⟩
            case measure => simp [intOf]; omega
    · obtain rfl : k = n := by omega
      go_wp2_with (go_at_call 9; with_reducible refine (wawake_any C _).mono ?_; rintro e w' ⟨rfl, hb⟩)
      go_ret
      exact ⟨rfl, hT.out.bel.trans (hb.mono hT.out.bel.size)⟩
end
end Go.Proofs.Ytpmggiahhjllcaa
