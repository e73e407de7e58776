/-
  The walk of StoreTwo over the contracts of the program's store.
-/
import Derived.Test.YtipepklobpnbpaaSoDuo
namespace Go.Proofs.Ytipepklobpnbpaa
open Go.ChangeShapes Go.WideShapes Go.ChangeAt Go.RowKit
set_option linter.unusedVariables false
section
variable {PS : Nat → Rel So}
set_option maxRecDepth 10000 in
set_option maxHeartbeats 4000000 in
theorem walk_storeTwoC (C : PStore PS) (w : World) (at_ : Int) (wt : (Lit.int .i64 at_).wf = true) (a : Option Addr) (n c : Nat) (xs : List Int) (hx : CameIn .u8 w a n c xs) (gap : Int) (wg : (Lit.int .i64 gap).wf = true) (b : Option Addr) (m d : Nat) (ys : List Int) (hy : CameIn .u8 w b m d ys) :
    Calls Try.prog 8 #[.int .i64 at_, .slice a n c, .int .i64 gap, .slice b m d] w fun e w' => e = .returned (.bool true) ∧ Below w.heap.size w w' := by
  clear wt wg
  by_cases hn : n ≤ 200
  · by_cases hm : m ≤ 200
    · have n1 : ¬ (200 : Int) < (n : Int) := by omega
      have m1 : ¬ (200 : Int) < (m : Int) := by omega
      have HX := hide hx
      have HY := hide hy
      have HN := hide hn
      have HM := hide hm
      clear hx hy hn hm
      go_enter Try.func8, Try.ntmps8
      go_wp2_with fail
      go_at_call 11
      refine (low_i at_ 40 w (by decide) (by decide)).mono ?_
      rintro e w1 ⟨⟨r, ⟨r0, r1⟩, rfl⟩, rfl⟩
      obtain ⟨A, rfl⟩ := Int.eq_ofNat_of_zero_le r0
      go_wp2_with fail
      go_at_call 11
      refine (low_i gap 70 w (by decide) (by decide)).mono ?_
      rintro e w1 ⟨⟨g, ⟨g0, g1⟩, rfl⟩, rfl⟩
      obtain ⟨G, rfl⟩ := Int.eq_ofNat_of_zero_le g0
      obtain ⟨B, hB⟩ : ∃ B : Nat, B = A + n + G := ⟨_, rfl⟩
      have LB := hide (show (A : Int) + (n : Int) + (G : Int) = (B : Int) from by omega)
      have HB := hide hB
      clear hB
      go_upto_region 5 with fail
      have lB := LB.out
      have hB := HB.out
      rw [lB]
      have hAB : Hid (A + n ≤ B ∧ B ≤ 310 ∧ A ≤ 40) := (show _ ∧ _ ∧ _ from ⟨by omega, by omega, by omega⟩)
      clear lB hB LB HB r0 r1 g0 g1 n1 m1

      have LX := hide (show xs.length = n from HX.out.1.1)
      have LY := hide (show ys.length = m from HY.out.1.1)
      obtain ⟨x1, hx1⟩ : ∃ x1, x1 = wrX [] A xs := ⟨_, rfl⟩
      obtain ⟨y1, hy1⟩ : ∃ y1, y1 = wrX [] B ys := ⟨_, rfl⟩
      obtain ⟨z, hz⟩ : ∃ z, z = wrX x1 B ys := ⟨_, rfl⟩
      have l1 : x1.length ≤ 512 := by rw [hx1]; exact wrX_len (by simp) (by have := hAB.out; have := LX.out; have := HN.out; omega)
      have l2 : y1.length ≤ 512 := by rw [hy1]; exact wrX_len (by simp) (by have := hAB.out; have := LY.out; have := HM.out; omega)
      have l3 : z.length ≤ 512 := by rw [hz]; exact wrX_len l1 (by have := hAB.out; have := LY.out; have := HM.out; omega)
      have hz2 : wrX y1 A xs = z := by rw [hz, hx1, hy1]; exact (wrX_two (by have := hAB.out; have := LX.out; omega)).symm
      have W1 := hide (duo_w1 (x := []) (y := []) (b := xs) (N := 20) (off := A) (by omega) (by simp) (by simp) (by have := hAB.out; have := LX.out; have := HN.out; omega) LX.out)
      have W2 := hide (duo_w1 (x := x1) (y := []) (b := ys) (N := 20) (off := B) (by omega) l1 (by simp) (by have := hAB.out; have := LY.out; have := HM.out; omega) LY.out)
      have W3 := hide (duo_w2 (x := z) (y := []) (b := ys) (N := 20) (off := B) (by omega) l3 (by simp) (by have := hAB.out; have := LY.out; have := HM.out; omega) LY.out)
      have W4 := hide (duo_w2 (x := z) (y := y1) (b := xs) (N := 20) (off := A) (by omega) l3 l2 (by have := hAB.out; have := LX.out; have := HN.out; omega) LX.out)
      rw [← hx1] at W1
      rw [← hz] at W2
      rw [← hy1] at W3
      rw [hz2] at W4
      have WA := hide (show (Lit.int .i64 (A : Int)).wf = true from wf_off (by have := hAB.out; omega))
      have WB := hide (show (Lit.int .i64 (B : Int)).wf = true from wf_off (by have := hAB.out; omega))
      have N6 := hide (show n ≤ 1000000 from by have := HN.out; omega)
      have M6 := hide (show m ≤ 1000000 from by have := HM.out; omega)
      have L3 := hide l3
      clear hx1 hy1 hz hz2 l1 l2 l3
      go_wp2_with fail
      go_at_call 12
      refine (new_ok w 20 (by omega) (by omega)).mono ?_
      rintro e w1 ⟨H, A1, Q, rfl, f1, b1, hb⟩
      have F1 := hide f1
      have B1 := hide b1
      have HB := hide hb
      clear f1 b1 hb
      go_wp2_with fail
      go_at_call 14
      refine (C.new F1.out).mono ?_
      rintro e w2 ⟨S, U, rfl, p2, b2, hU⟩
      have P2 := hide (one_store C B1.out HB.out p2 b2 hU)
      clear p2 b2 hU F1 B1 HB
      obtain ⟨e1, e2, e3, e4⟩ := duo_first 20
      have K1 := hide (show Calls Try.prog 16 #[.pointer (some ⟨S, 0, none⟩), .int .i64 1] w2 fun e w' => e = .returned (.int .i64 0) ∧ ∃ U', OneO (PS H) w w' U' [] S ⟨[⟨1, []⟩], 20⟩ from (C.mak P2.out.ps (by decide) (by decide)).mono fun e w' hs => by obtain ⟨rfl, U', q, -⟩ := P2.out.side hs; rw [e2] at q; exact ⟨rfl, U', q⟩)
      go_wp2_with fail
      go_at_call 16
      refine K1.out.mono ?_
      rintro en w3 ⟨rfl, U3, q3⟩
      have P3 := hide q3
      clear q3 P2 K1
      have K1 := hide (show Calls Try.prog 16 #[.pointer (some ⟨S, 0, none⟩), .int .i64 2] w3 fun e w' => e = .returned (.int .i64 0) ∧ ∃ U', OneO (PS H) w w' U' [] S (duo [] [] 20) from (C.mak P3.out.ps (by decide) (by decide)).mono fun e w' hs => by obtain ⟨rfl, U', q, -⟩ := P3.out.side hs; rw [e4] at q; exact ⟨rfl, U', q⟩)
      clear e1 e2 e3 e4
      go_wp2_with fail
      go_at_call 16
      refine K1.out.mono ?_
      rintro en w4 ⟨rfl, U4, q4⟩
      have P4 := hide q4
      clear q4 P3 K1
      go_wp2_with fail
      go_at_call 25
      refine (C.wrAny P4.out (by decide) WA.out HX.out N6.out W1.out.1 W1.out.2).mono ?_
      rintro en w5 ⟨rfl, U5, q5, -⟩
      have P5 := hide q5
      clear q5 P4 W1
      go_wp2_with fail
      go_at_call 25
      refine (C.wrAny P5.out (by decide) WB.out HY.out M6.out W2.out.1 W2.out.2).mono ?_
      rintro en w6 ⟨rfl, U6, q6, -⟩
      have P6 := hide q6
      clear q6 P5 W2
      go_wp2_with fail
      go_at_call 25
      refine (C.wrAny P6.out (by decide) WB.out HY.out M6.out W3.out.1 W3.out.2).mono ?_
      rintro en w7 ⟨rfl, U7, q7, -⟩
      have P7 := hide q7
      clear q7 P6 W3
      go_wp2_with fail
      go_at_call 25
      refine (C.wrAny P7.out (by decide) WA.out HX.out N6.out W4.out.1 W4.out.2).mono ?_
      rintro en w8 ⟨rfl, U8, q8, -⟩
      have P8 := hide q8
      clear q8 P7 W4
      have R1 := hide (rdB_all (n := 999) (C.good P8.out.ps) (get1 z z 20) (by decide))
      have R2 := hide (rdB_all (n := 999) (C.good P8.out.ps) (get2 z z 20) (by decide))
      go_wp2_with fail
      go_at_call 20
      refine (C.rdIn P8.out (by decide) (by decide) (by decide) R1.out.1 R1.out.2).mono ?_
      rintro en w9 ⟨A9, c9, rfl, o9, i9, q9, b9, -⟩
      have P9 := hide q9
      have I9 := hide i9
      clear o9 i9 q9 b9
      go_wp2_with fail
      go_at_call 20
      refine (C.rdIn P9.out (by decide) (by decide) (by decide) R2.out.1 R2.out.2).mono ?_
      rintro en w10 ⟨A10, c10, rfl, o10, i10, q10, b10, -⟩
      have P10 := hide q10
      have J9 := hide (I9.out.below b10)
      have J10 := hide i10
      have Z63 := hide (show z.length ≤ 9223372036854775807 from by have := L3.out; omega)
      clear o10 i10 q10 b10 I9 P9 P8 R1 R2
      have K1 := hide (show ∀ k, Calls Try.prog 32 #[.pointer (some ⟨S, 0, none⟩), .int .i64 1] (w10.drewN k) fun e w' => e = .returned (.int .i64 (blkN z.length : Nat)) ∧ Below w10.heap.size w10 w' from fun k => (C.bk (P10.out.below (C.keeps H) (below_drewN (Below.refl _ _) k)).1.ps (id := 1) (by decide)).mono fun e w' ⟨h1, h2⟩ => ⟨h1, (below_drewN (Below.refl _ _) k).trans h2⟩)
      have K2 := hide (show ∀ W, Below w10.heap.size w10 W → Calls Try.prog 32 #[.pointer (some ⟨S, 0, none⟩), .int .i64 2] W fun e w' => e = .returned (.int .i64 (blkN z.length : Nat)) ∧ Below w10.heap.size w10 w' from fun W bW => (C.bk (P10.out.below (C.keeps H) bW).1.ps (id := 2) (by decide)).mono fun e w' ⟨h1, h2⟩ => ⟨h1, bW.trans (h2.mono bW.size)⟩)
      have BB := hide P10.out.bel
      clear P10
      generalize blkN z.length = zb at *
      generalize z.length = zl at *
      go_wp2_with fail
      go_at_call 22
      refine (same_any _ _ _ _ _ z _ J9.out J10.out Z63.out).mono ?_
      rintro en w11 ⟨rfl, k11, rfl⟩
      go_wp2_with fail
      go_at_call 32
      refine (K1.out _).mono ?_
      rintro en w12 ⟨rfl, b12⟩
      have B12 := hide b12
      clear b12
      go_wp2_with fail
      go_at_call 32
      refine (K2.out _ B12.out).mono ?_
      rintro en w13 ⟨rfl, b13⟩
      have B13 := hide (BB.out.trans (b13.mono BB.out.size))
      clear b13 B12
      go_wp2_with (go_at_call 10; refine (soawake_any C _).mono ?_; rintro en w14 ⟨rfl, b14⟩; have B14 := hide (B13.out.trans (b14.mono B13.out.size)); clear b14)
      go_ret
      exact ⟨rfl, B14.out⟩
    · have n1 : ¬ (200 : Int) < (n : Int) := by omega
      have m1 : (200 : Int) < (m : Int) := by omega
      clear hx hy hn hm
      go_enter Try.func8, Try.ntmps8
      go_wp2_with (go_at_call 10; refine (soawake_any C _).mono ?_; rintro en w1 ⟨rfl, b1⟩)
      go_ret
      exact ⟨rfl, b1⟩
  · have n1 : (200 : Int) < (n : Int) := by omega
    clear hx hy hn
    go_enter Try.func8, Try.ntmps8
    go_wp2_with (go_at_call 10; refine (soawake_any C _).mono ?_; rintro en w1 ⟨rfl, b1⟩)
    go_ret
    exact ⟨rfl, b1⟩
end
end Go.Proofs.Ytipepklobpnbpaa
