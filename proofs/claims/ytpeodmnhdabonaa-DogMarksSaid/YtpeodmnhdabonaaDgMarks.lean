/-
  The walk of DogMarks, over the contracts of the program's dog.
-/
import Derived.Test.YtpeodmnhdabonaaDgBoth
namespace Go.Proofs.Ytpeodmnhdabonaa
open Go.ChangeShapes Go.WideShapes Go.ChangeAt Go.RowKit
set_option linter.unusedVariables false
set_option linter.unusedSimpArgs false
theorem markS_more {s : Dg} {m : Int} (h0 : 0 ≤ m) (h1 : m ≤ 1000000) (h : s.last < m) : (markS s m).last = m := by rw [markS_last h0 h1, if_pos h]
theorem dtS_last {s : Dg} {i : Int} (hl : 0 ≤ s.last) (hi : 0 ≤ i) (hb : s.last + i ≤ 1000000) : s.last ≤ (dtS s (s.last + i)).last ∧ (dtS s (s.last + i)).last ≤ s.last + i := by
  unfold dtS
  rw [cl_in (s.last + i) (by omega) (by omega)]
  split
  · exact ⟨by show s.last ≤ s.last + i; omega, Int.le_refl _⟩
  · exact ⟨Int.le_refl _, by omega⟩
section
variable {PD : Rel Dg}
set_option maxRecDepth 10000 in
set_option maxHeartbeats 8000000 in
theorem walk_dogMarksC (C : PDog PD) (w : World) (xw : Int) (a : Option Addr) (n c : Nat) (zs : List Int) (hin : CameIn .i64 w a n c zs) :
    Calls Try.prog 6 #[.int .i64 xw, .slice a n c] w fun e w' => e = .returned (.bool true) ∧ Below w.heap.size w w' := by
  have hn : n ≤ maxLen := Nat.le_trans hin.2.1 hin.2.2.1
  have HI := hide hin.1
  have h63 : (n : Int) ≤ 9223372036854775807 := by unfold maxLen at hn; omega
  clear hin
  by_cases hb : 40 < n
  · have hb' : (40 : Int) < (n : Int) := by omega
    go_enter Try.func6, Try.ntmps6
    go_wp2_with (go_at_call 7; with_reducible refine (dgawake_any C _).mono ?_; rintro e w' ⟨rfl, hb⟩)
    go_ret
    exact ⟨rfl, hb⟩
  have hb' : ¬ (40 : Int) < (n : Int) := by omega
  go_enter Try.func6, Try.ntmps6
  go_upto_region 4 with (go_at_call 19; refine (low_i _ 30 _ (by omega) (by omega)).mono ?_; rintro e w' ⟨⟨r0, ⟨r1, r2⟩, rfl⟩, rfl⟩)
  obtain ⟨q, hQ⟩ : ∃ q : Int, q = 1 + r0 := ⟨_, rfl⟩
  rw [← hQ]
  have q1 : 1 ≤ q := by omega
  have q2 : q ≤ 30 := by omega
  clear hQ r1 r2
  go_wp2_with fail
  go_at_call 8
  refine (C.new w (g := q) q1 (by omega)).mono ?_
  rintro e w1 ⟨S, U, rfl, p1, b1, l1⟩
  have P1 := hide (OneO.first p1 b1 l1)
  clear p1 b1 l1
  go_wp2_with fail
  go_at_call 8
  refine (C.new w1 (g := q) q1 (by omega)).mono ?_
  rintro e w2 ⟨R, D, rfl, p2, b2, l2⟩
  have T0 := hide (P1.out.two C.ok C.ok p2 b2 l2)
  clear p2 b2 l2 P1
  go_wp2_with fail
  go_loopw [9, 10] (fun lv iv wr => ∃ (k : Nat) (s : Dg) (U D : Nat → Prop), k ≤ n ∧ lv = .int .i64 s.last ∧ iv = .int .i64 (k : Int) ∧ Hid (TwoO PD PD w wr U D [] S R s s ∧ s.last ≤ 200 + 40 * (k : Int) ∧ s.fired.length ≤ k ∧ 0 ≤ s.last)) (fun _ i _ => n - (intOf i).toNat)
  case atStart => exact ⟨0, newD q, _, _, Nat.zero_le _, rfl, rfl, T0.out, by show (0 : Int) ≤ 200 + 40 * ((0 : Nat) : Int); omega, Nat.zero_le _, Int.le_refl _⟩
  case round =>
    clear T0 U D
    obtain ⟨k, s, U, D, hk, rfl, rfl, hT⟩ := hrel
    have T1 := hide hT.out.1
    have SB := hide hT.out.2.1
    have SF := hide hT.out.2.2.1
    have S0 := hide hT.out.2.2.2
    clear hT
    obtain ⟨la, hla⟩ : ∃ z, z = s.last := ⟨_, rfl⟩
    have HLA := hide hla
    rw [← hla]
    have la0 : 0 ≤ la := by rw [hla]; exact S0.out
    have la1 : la ≤ 200 + 40 * (k : Int) := by rw [hla]; exact SB.out
    clear hla
    by_cases hlt : k < n
    · obtain ⟨ab, off, rfl, hcell⟩ := HI.out.2 (by omega)
      obtain ⟨xm, hxm⟩ : ∃ b, b = zs.getD k 0 := ⟨_, rfl⟩
      have c1 : wr.cell? ⟨ab, off + k, none⟩ = some (.int .i64 xm) := by rw [hxm]; exact (T1.out.bel.cell (lt_of_cell? (hcell k hlt))).trans (hcell k hlt)
      have k0 : (0 : Int) ≤ (k : Int) := by omega
      have k1 : (k : Int) < (n : Int) := by omega
      have k2 : (k : Int) ≤ 40 := by omega
      have K2 := hide k2
      clear hcell hxm
      go_upto_region 13 with (go_at_call 19; refine (low_i _ 200 _ (by omega) (by omega)).mono ?_; rintro e w' ⟨⟨m, ⟨m0, m1⟩, rfl⟩, rfl⟩)
      have WM := hide (wf_i (x := m) (by omega) (by omega))
      clear c1
      by_cases hml : la < m
      · have ML := hide (markS_more (s := s) m0 (by omega) (by rw [← HLA.out]; exact hml))
        have F2 := hide (show (markS s m).fired.length ≤ k from by rw [markS_fired]; exact SF.out)
        go_wp2_with fail
        go_at_call 11
        refine (C.mark T1.out.ps WM.out).mono ?_
        intro en w3 hs
        obtain ⟨rfl, U3, t3, _⟩ := T1.out.left C.ok C.ok hs
        clear hs
        have T3 := hide t3
        clear t3 T1
        go_wp2_with fail
        go_at_call 11
        refine (C.mark T3.out.ds WM.out).mono ?_
        intro en w4 hs
        obtain ⟨rfl, D4, t4, _⟩ := T3.out.right C.ok C.ok hs
        clear hs
        have T4 := hide t4
        clear t4 T3
        generalize markS s m = s2 at *
        obtain ⟨l2, hl2⟩ : ∃ z, z = m := ⟨_, rfl⟩
        have HL2 := hide (show l2 = s2.last from by rw [hl2]; exact ML.out.symm)
        have B2 := hide (show l2 ≤ 200 + 40 * (k : Int) from by omega)
        have b20 : 0 ≤ l2 := by omega
        have b21 : l2 ≤ 2000 := by omega
        clear ML SB SF S0 HLA la1
        go_upto_region 17 with fail
        rw [← hl2]
        clear hl2 m0 m1 hml WM la0
        have WT := hide (wf_i (x := l2 + (k : Int)) (by omega) (by omega))
        have DL := hide (dtS_last (s := s2) (i := (k : Int)) (by rw [← HL2.out]; omega) k0 (by rw [← HL2.out]; omega))
        rw [← HL2.out] at DL
        have DF := hide (dtS_len s2 (l2 + (k : Int)))
        obtain ⟨tb, htb⟩ : ∃ z, z = dtB s2 (l2 + (k : Int)) := ⟨_, rfl⟩
        have FW := hide (show s2.fired.length ≤ 1000000 from by have := F2.out; omega)
        have CT := hide (show ∀ (W : World) (X0 : Nat → Prop) (Z : Nat), PD W X0 Z s2 → Calls Try.prog 13 #[.pointer (some ⟨Z, 0, none⟩), .int .i64 (l2 + (k : Int))] W (SideO (fun w' X' => PD w' X' Z (dtS s2 (l2 + (k : Int)))) X0 W (.bool tb)) from fun W X0 Z h => by have := C.tick h FW.out WT.out; rw [← htb] at this; exact this)
        clear htb
        generalize dtS s2 (l2 + (k : Int)) = s4 at *
        obtain ⟨l4, hl4⟩ : ∃ z, z = s4.last := ⟨_, rfl⟩
        have HL4 := hide hl4
        have CL := hide (show ∀ (W : World) (X0 : Nat → Prop) (Z : Nat), PD W X0 Z s4 → Calls Try.prog 16 #[.pointer (some ⟨Z, 0, none⟩)] W fun e w' => e = .returned (.int .i64 l4) ∧ Below W.heap.size W w' from fun W X0 Z h => by have := C.last h; rw [← hl4] at this; exact this)
        rw [← hl4] at DL
        obtain ⟨d1, d2⟩ := DL.out
        clear hl4 DL
        have g0 : (tb != tb) = false := by simp
        have g1 : (l4 != l4) = false := by simp
        have d3 : ¬ l4 < l2 := by omega
        go_wp2_with fail
        go_at_call 13
        refine (CT.out _ _ _ T4.out.ps).mono ?_
        intro en w11 hs
        obtain ⟨rfl, U11, t11, _⟩ := T4.out.left C.ok C.ok hs
        clear hs
        have T11 := hide t11
        clear t11 T4
        go_wp2_with fail
        go_at_call 13
        refine (CT.out _ _ _ T11.out.ds).mono ?_
        intro en w12 hs
        obtain ⟨rfl, D12, t12, _⟩ := T11.out.right C.ok C.ok hs
        clear hs
        have T12 := hide t12
        clear t12 T11
        go_wp2_with fail
        go_at_call 16
        refine (CL.out _ _ _ T12.out.ps).mono ?_
        rintro e w13 ⟨rfl, b13⟩
        have T13 := hide (T12.out.below C.ok C.ok b13).1
        clear b13 T12
        go_wp2_with fail
        go_at_call 16
        refine (CL.out _ _ _ T13.out.ds).mono ?_
        rintro e w14 ⟨rfl, b14⟩
        have T14 := hide (T13.out.below C.ok C.ok b14).1
        clear b14 T13
        go_wp2_with fail
        go_at_call 16
        refine (CL.out _ _ _ T14.out.ps).mono ?_
        rintro e w15 ⟨rfl, b15⟩
        have T15 := hide (T14.out.below C.ok C.ok b15).1
        clear b15 T14
        have rel : Hid (TwoO PD PD w w15 U11 D12 [] S R s4 s4 ∧ s4.last ≤ 200 + 40 * ((k + 1 : Nat) : Int) ∧ s4.fired.length ≤ k + 1 ∧ 0 ≤ s4.last) := (show _ ∧ _ from ⟨T15.out, by rw [← HL4.out]; have := B2.out; omega, by have := DF.out; have := F2.out; omega, by rw [← HL4.out]; omega⟩)
        by_cases d4 : l2 < l4
        · go_wp2_with fail
          go_roundw
          case rel => exact ⟨k + 1, s4, U11, D12, by omega, by rw [← HL4.out], by go_num, rel⟩
          case measure => simp [intOf]; omega
        · have d5 : l4 = l2 := by omega
          go_wp2_with fail
          go_roundw
          case rel => exact ⟨k + 1, s4, U11, D12, by omega, by rw [← HL4.out]; first | rfl | rw [d5], by go_num, rel⟩
          case measure => simp [intOf]; omega
      · have ML := hide (markS_same (s := s) m0 (by omega) (by rw [← HLA.out]; omega))
        have F2 := hide SF.out
        have B2 := hide la1
        have b20 : 0 ≤ la := la0
        have b21 : la ≤ 2000 := by omega
        have CM := C.mark T1.out.ps WM.out
        rw [ML.out] at CM
        have CMH := hide CM
        clear CM
        go_wp2_with fail
        go_at_call 11
        refine (CMH.out).mono ?_
        intro en w3 hs
        obtain ⟨rfl, U3, t3, _⟩ := T1.out.left C.ok C.ok hs
        clear hs
        have T3 := hide t3
        clear t3 T1
        go_upto_region 17 with fail
        have HL2 := hide HLA.out
        clear ML SB SF S0 HLA la1 m0 m1 hml WM CMH la0
        have WT := hide (wf_i (x := la + (k : Int)) (by omega) (by omega))
        have DL := hide (dtS_last (s := s) (i := (k : Int)) (by rw [← HL2.out]; omega) k0 (by rw [← HL2.out]; omega))
        rw [← HL2.out] at DL
        have DF := hide (dtS_len s (la + (k : Int)))
        obtain ⟨tb, htb⟩ : ∃ z, z = dtB s (la + (k : Int)) := ⟨_, rfl⟩
        have FW := hide (show s.fired.length ≤ 1000000 from by have := F2.out; omega)
        have CT := hide (show ∀ (W : World) (X0 : Nat → Prop) (Z : Nat), PD W X0 Z s → Calls Try.prog 13 #[.pointer (some ⟨Z, 0, none⟩), .int .i64 (la + (k : Int))] W (SideO (fun w' X' => PD w' X' Z (dtS s (la + (k : Int)))) X0 W (.bool tb)) from fun W X0 Z h => by have := C.tick h FW.out WT.out; rw [← htb] at this; exact this)
        clear htb
        generalize dtS s (la + (k : Int)) = s4 at *
        obtain ⟨l4, hl4⟩ : ∃ z, z = s4.last := ⟨_, rfl⟩
        have HL4 := hide hl4
        have CL := hide (show ∀ (W : World) (X0 : Nat → Prop) (Z : Nat), PD W X0 Z s4 → Calls Try.prog 16 #[.pointer (some ⟨Z, 0, none⟩)] W fun e w' => e = .returned (.int .i64 l4) ∧ Below W.heap.size W w' from fun W X0 Z h => by have := C.last h; rw [← hl4] at this; exact this)
        rw [← hl4] at DL
        obtain ⟨d1, d2⟩ := DL.out
        clear hl4 DL
        have g0 : (tb != tb) = false := by simp
        have g1 : (l4 != l4) = false := by simp
        have d3 : ¬ l4 < la := by omega
        go_wp2_with fail
        go_at_call 13
        refine (CT.out _ _ _ T3.out.ps).mono ?_
        intro en w11 hs
        obtain ⟨rfl, U11, t11, _⟩ := T3.out.left C.ok C.ok hs
        clear hs
        have T11 := hide t11
        clear t11 T3
        go_wp2_with fail
        go_at_call 13
        refine (CT.out _ _ _ T11.out.ds).mono ?_
        intro en w12 hs
        obtain ⟨rfl, D12, t12, _⟩ := T11.out.right C.ok C.ok hs
        clear hs
        have T12 := hide t12
        clear t12 T11
        go_wp2_with fail
        go_at_call 16
        refine (CL.out _ _ _ T12.out.ps).mono ?_
        rintro e w13 ⟨rfl, b13⟩
        have T13 := hide (T12.out.below C.ok C.ok b13).1
        clear b13 T12
        go_wp2_with fail
        go_at_call 16
        refine (CL.out _ _ _ T13.out.ds).mono ?_
        rintro e w14 ⟨rfl, b14⟩
        have T14 := hide (T13.out.below C.ok C.ok b14).1
        clear b14 T13
        go_wp2_with fail
        go_at_call 16
        refine (CL.out _ _ _ T14.out.ps).mono ?_
        rintro e w15 ⟨rfl, b15⟩
        have T15 := hide (T14.out.below C.ok C.ok b15).1
        clear b15 T14
        have rel : Hid (TwoO PD PD w w15 U11 D12 [] S R s4 s4 ∧ s4.last ≤ 200 + 40 * ((k + 1 : Nat) : Int) ∧ s4.fired.length ≤ k + 1 ∧ 0 ≤ s4.last) := (show _ ∧ _ from ⟨T15.out, by rw [← HL4.out]; have := B2.out; omega, by have := DF.out; have := F2.out; omega, by rw [← HL4.out]; omega⟩)
        by_cases d4 : la < l4
        · go_wp2_with fail
          go_roundw
          case rel => exact ⟨k + 1, s4, U11, D12, by omega, by rw [← HL4.out], by go_num, rel⟩
          case measure => simp [intOf]; omega
        · have d5 : l4 = la := by omega
          go_wp2_with fail
          go_roundw
          case rel => exact ⟨k + 1, s4, U11, D12, by omega, by rw [← HL4.out]; first | rfl | rw [d5], by go_num, rel⟩
          case measure => simp [intOf]; omega
    · obtain rfl : k = n := by omega
      have k2 : s.fired.length ≤ 1000000 := by have := SF.out; omega
      have CF := hide (C.fired T1.out.ps k2)
      have CG := hide (show ∀ (W : World), PD W D R s → Calls Try.prog 15 #[.pointer (some ⟨R, 0, none⟩)] W fun e w' => ∃ v, e = .returned v ∧ w'.ownsRow W.heap.size 3 1 v s.fired.length (s.fired.map (Value.int .i64)) ∧ Below W.heap.size W w' from fun W h => C.fired h k2)
      obtain ⟨p, hp⟩ : ∃ z, z = s.fired.length := ⟨_, rfl⟩
      rw [← hp] at CF CG k2
      have K2 := hide k2
      clear hp k2
      go_wp2_with fail
      go_at_call 15
      refine CF.out.mono ?_
      rintro e w2 ⟨v, rfl, o2, b2⟩
      obtain ⟨va, vc, rfl⟩ : ∃ a c, v = .slice a p c := by
        rcases o2.2 with ⟨rfl, rfl⟩ | ⟨g, cap, cur, rfl, _⟩
        · exact ⟨none, 0, rfl⟩
        · exact ⟨_, _, rfl⟩
      have T2 := hide (T1.out.below C.ok C.ok b2).1
      have O2 := hide o2
      clear b2 o2 T1
      go_wp2_with fail
      go_at_call 15
      refine (CG.out _ T2.out.ds).mono ?_
      rintro e w3 ⟨v, rfl, o3, b3⟩
      obtain ⟨vb, vd, rfl⟩ : ∃ a c, v = .slice a p c := by
        rcases o3.2 with ⟨rfl, rfl⟩ | ⟨g, cap, cur, rfl, _⟩
        · exact ⟨none, 0, rfl⟩
        · exact ⟨_, _, rfl⟩
      have T3 := hide (T2.out.below C.ok C.ok b3).1
      have O3 := hide o3
      have O4 := hide ((Touch.of_below (S := fun _ => False) b3).own O2.out fun _ _ e => e)
      clear b3 o3 T2 O2
      go_wp2_with (first
        | (go_at_call 17; refine (same_own _ _ p s.fired _ O4.out O3.out (by have := K2.out; omega)).mono ?_; rintro e w6 ⟨rfl, b6⟩; have T6 := hide (T3.out.below C.ok C.ok b6).1; clear b6)
        | (go_at_call 7; with_reducible refine (dgawake_any C _).mono ?_; rintro e w9 ⟨rfl, b9⟩; have B9 := hide (T6.out.bel.trans (b9.mono T6.out.bel.size)); clear b9))
      go_ret
      exact ⟨rfl, B9.out⟩
end
end Go.Proofs.Ytpeodmnhdabonaa
