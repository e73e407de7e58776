/-
  The walk of DogExact, over the contracts of the program's dog.
-/
import Derived.Test.YtpeodmnhdabonaaDgBoth
import Derived.Test.YtpeodmnhdabonaaBools
namespace Go.Proofs.Ytpeodmnhdabonaa
open Go.ChangeShapes Go.WideShapes Go.ChangeAt Go.RowKit
set_option linter.unusedVariables false
set_option linter.unusedSimpArgs false
section
variable {PD : Rel Dg}
set_option maxRecDepth 10000 in
set_option maxHeartbeats 8000000 in
theorem walk_dogExactC (C : PDog PD) (w : World) (xw : Int) (a : Option Addr) (n c : Nat) (zs : List Bool) (hin : Came 1 boVals BoWf w a n c zs) :
    Calls Try.prog 4 #[.int .i64 xw, .slice a n c] w fun e w' => e = .returned (.bool true) ∧ Below w.heap.size w w' := by
  have hn : n ≤ maxLen := Nat.le_trans hin.2.1 hin.2.2.1
  have HI := hide hin.bools
  have h63 : (n : Int) ≤ 9223372036854775807 := by unfold maxLen at hn; omega
  clear hin
  by_cases hb : 300 < n
  · have hb' : (300 : Int) < (n : Int) := by omega
    go_enter Try.func4, Try.ntmps4
    go_wp2_with (go_at_call 7; with_reducible refine (dgawake_any C _).mono ?_; rintro e w' ⟨rfl, hb⟩)
    go_ret
    exact ⟨rfl, hb⟩
  have hb' : ¬ (300 : Int) < (n : Int) := by omega
  go_enter Try.func4, Try.ntmps4
  go_upto_region 4 with (go_at_call 19; refine (low_i _ 40 _ (by omega) (by omega)).mono ?_; rintro e w' ⟨⟨r0, ⟨r1, r2⟩, rfl⟩, rfl⟩)
  obtain ⟨q, hQ⟩ : ∃ q : Int, q = 1 + r0 := ⟨_, rfl⟩
  rw [← hQ]
  have q1 : 1 ≤ q := by omega
  have q2 : q ≤ 40 := by omega
  clear hQ r1 r2
  go_wp2_with fail
  go_at_call 8
  refine (C.new w (g := q) q1 (by omega)).mono ?_
  rintro e w1 ⟨S, U, rfl, p1, b1, l1⟩
  have P1 := hide (OneO.first p1 b1 l1)
  clear p1 b1 l1
  go_wp2_with fail
  go_loopw [7, 8, 9] (fun v7 v8 v9 wr => ∃ (k many : Nat) (last : Int) (s : Dg) (U : Nat → Prop), k ≤ n ∧ v7 = .int .i64 last ∧ v8 = .int .i64 (many : Int) ∧ v9 = .int .i64 (k : Int) ∧ Hid (OneO PD w wr U [] S s ∧ ExactI q k last many s ∧ many ≤ k)) (fun _ _ i _ => n - (intOf i).toNat)
  case atStart => exact ⟨0, 0, 0, _, _, Nat.zero_le _, rfl, rfl, rfl, P1.out, ⟨rfl, rfl, rfl, Int.le_refl _, Int.le_refl _, by show (0 : Int) - 0 ≤ q; omega⟩, Nat.le_refl _⟩
  case round =>
    clear P1 U
    obtain ⟨k, many, last, s, U, hk, rfl, rfl, rfl, hT⟩ := hrel
    have P1 := hide hT.out.1
    have E1 := hide hT.out.2.1
    have M1 := hide hT.out.2.2
    clear hT
    by_cases hlt : k < n
    · obtain ⟨ab, off, rfl, hcell⟩ := HI.out.2 (by omega)
      obtain ⟨bit, hbit⟩ : ∃ b, b = zs.getD k false := ⟨_, rfl⟩
      have c1 : wr.cell? ⟨ab, off + k, none⟩ = some (.bool bit) := by rw [hbit]; exact (P1.out.bel.cell (lt_of_cell? (hcell k hlt))).trans (hcell k hlt)
      have k0 : (0 : Int) ≤ (k : Int) := by omega
      have k1 : (k : Int) < (n : Int) := by omega
      have k2 : (k : Int) ≤ 300 := by omega
      have WK := hide (wf_i (x := (k : Int)) (by omega) (by omega))
      have E2 := hide (E1.out.mark q1 k0 (by omega) bit)
      clear hcell hbit
      go_upto_if 37 with fail
      go_cut [7] (fun v wx => v = .int .i64 (exLast last k bit) ∧ ∃ U, Hid (OneO PD w wx U [] S (exS s k bit)))
      case first =>
        cases bit with
        | false =>
          go_wp2_with fail
          go_meet
          case rel => exact ⟨rfl, U, P1.out⟩
        | true =>
          go_wp2_with fail
          go_at_call 11
          refine (C.mark P1.out.ps WK.out).mono ?_
          intro en w2 hs
          obtain ⟨rfl, U2, p2, _⟩ := P1.out.side hs
          clear hs
          have P2 := hide p2
          clear p2
          go_wp2_with fail
          go_meet
          case rel => exact ⟨rfl, U2, P2.out⟩
      case rest =>
        clear P1 c1
        obtain ⟨rfl, U2, P2⟩ := hcut
        have TB := hide (E2.out.tickB k0 (by omega))
        have NX := hide (E2.out.next q1 k0 (by omega))
        have FL := hide (show (exS s k bit).fired.length ≤ 1000000 from by rw [E2.out.fi]; have := M1.out; omega)
        have la0 := E2.out.lo
        have la1 := E2.out.hi
        have CT := C.tick P2.out.ps FL.out WK.out
        rw [TB.out] at CT
        have CTH := hide CT
        clear CT TB E1 E2
        generalize exLast last (k : Int) bit = la at *
        generalize exS s (k : Int) bit = s2 at *
        have m0 : (0 : Int) ≤ (many : Int) := by omega
        have m1 : (many : Int) ≤ 300 := by have := M1.out; omega
        have g0 : ((((k : Int) - la) == q) != (((k : Int) - la) == q)) = false := by simp
        go_wp2_with fail
        go_at_call 13
        refine CTH.out.mono ?_
        intro en w3 hs
        obtain ⟨rfl, U3, p3, _⟩ := P2.out.side hs
        clear hs
        have P3 := hide p3
        clear p3 P2 CTH
        cases he : ((k : Int) - la == q) with
        | true =>
          rw [he] at NX
          have N2 := hide (show ExactI q ((k : Int) + 1) (k : Int) (many + 1) (dtS s2 k) from NX.out)
          clear NX g0
          go_wp2_with fail
          go_roundw
          case rel => exact ⟨k + 1, many + 1, (k : Int), _, U3, by omega, rfl, by go_num, by go_num, P3.out, N2.out, by have := M1.out; omega⟩
          case measure => simp [intOf]; omega
        | false =>
          rw [he] at NX
          have N2 := hide (show ExactI q ((k : Int) + 1) la many (dtS s2 k) from NX.out)
          clear NX g0
          go_wp2_with fail
          go_roundw
          case rel => exact ⟨k + 1, many, la, _, U3, by omega, rfl, rfl, by go_num, P3.out, N2.out, by have := M1.out; omega⟩
          case measure => simp [intOf]; omega
    · obtain rfl : k = n := by omega
      have CF := C.fired P1.out.ps (by rw [E1.out.fi]; have := M1.out; omega)
      rw [E1.out.fi] at CF
      have CFH := hide CF
      have g0 : ((many : Int) == (many : Int)) = true := by simp
      clear CF
      go_wp2_with fail
      go_at_call 15
      refine CFH.out.mono ?_
      rintro e w2 ⟨v, rfl, o2, b2⟩
      obtain ⟨va, vc, rfl⟩ : ∃ a c, v = .slice a many c := by
        obtain ⟨A, c, e, _⟩ := own_ints o2
        exact ⟨A, c, e⟩
      have P2 := hide (P1.out.below C.ok b2).1
      clear b2 o2 P1 CFH
      go_wp2_with (go_at_call 7; with_reducible refine (dgawake_any C _).mono ?_; rintro e w9 ⟨rfl, b9⟩; have B9 := hide (P2.out.bel.trans (b9.mono P2.out.bel.size)); clear b9)
      go_ret
      exact ⟨rfl, B9.out⟩
end
end Go.Proofs.Ytpeodmnhdabonaa
