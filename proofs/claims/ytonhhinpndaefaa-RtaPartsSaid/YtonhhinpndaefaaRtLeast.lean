/-
  The walk of RtaLeast, over the contracts of the program's rta.
-/
import Derived.Test.YtonhhinpndaefaaRtTells
namespace Go.Proofs.Ytonhhinpndaefaa
open Go.ChangeShapes Go.WideShapes Go.ChangeAt Go.RowKit
set_option linter.unusedVariables false
set_option maxHeartbeats 8000000 in
theorem walk_rtaLeastC (C : PRta) (w : World) (own : Int) (ho : (Lit.int .i64 own).wf = true) (block : Int) (hb : (Lit.int .i64 block).wf = true) (pa : Option Addr) (n cn : Nat) (ps : List Pt) (hin : Came 2 ptVals PtFit w pa n cn ps) (most : Int) (hm : (Lit.int .i64 most).wf = true) :
    Calls Try.prog 4 #[.int .i64 own, .int .i64 block, .slice pa n cn, .int .i64 most] w fun e w' => e = .returned (.bool true) ∧ Below w.heap.size w w' := by
  have AW := hide (fun W => rtawake_any C W)
  by_cases hg : 12 < n
  · have g1 : (12 : Int) < (n : Int) := by omega
    clear hin C
    go_enter Try.func4, Try.ntmps4
    go_wp2_with (go_at_call 8; refine (AW.out _).mono ?_; rintro e w' ⟨rfl, b⟩; have B := hide b; clear b)
    go_ret
    exact ⟨rfl, B.out⟩
  · have g1 : ¬ (12 : Int) < (n : Int) := by omega
    have HN := hide (show n ≤ 12 from by omega)
    have HR := hide hin.reads
    have FT := hide (show ∀ x ∈ ps, PtFit w x from hin.2.2.2.2.1)
    have LO := hide (fun (W : World) => low_i own 200 W (by omega) (by omega))
    have LB := hide (fun (W : World) => low_i block 100 W (by omega) (by omega))
    have LM := hide (fun (W : World) => low_i most 600 W (by omega) (by omega))
    have RP := hide (show ∀ o b m : Int, 0 ≤ o → o < 200 → 0 ≤ b → b < 100 → 0 ≤ m → m < 600 → Calls Try.prog 9 #[.int .i64 o, .int .i64 b, .slice pa n cn, .int .i64 m] w fun e w' => ∃ v, e = .returned v ∧ RespIs o b ps m v ∧ Below w.heap.size w w' from fun o b m o0 o1 b0 b1 m0 m1 => C.resp w o b pa n cn ps m HR.out (fun x hx => FT.out x hx) (by have := HN.out; omega) (wf_i (by omega) (by omega)) (wf_i (by omega) (by omega)) (wf_i (by omega) (by omega)))
    have WK := hide (show ∀ W r, Below w.heap.size w W → (Lit.int .i64 r).wf = true → Calls Try.prog 12 #[.int .i64 r, .slice pa n cn] W fun e w' => e = .returned (.int .i64 (workP r ps)) ∧ Below W.heap.size W w' from fun W r b hs => C.work W r pa n cn ps (HR.out.below b) (fun x hx => FT.out x hx) (by have := HN.out; omega) hs)
    clear hin C hg ho hb hm
    go_enter Try.func4, Try.ntmps4
    go_upto_region 4 with (first
      | (go_at_call 14; refine (LO.out _).mono ?_; rintro e w' ⟨⟨o, ho2, rfl⟩, rfl⟩; clear LO)
      | (go_at_call 14; refine (LB.out _).mono ?_; rintro e w' ⟨⟨b, hb2, rfl⟩, rfl⟩; clear LB)
      | (go_at_call 14; refine (LM.out _).mono ?_; rintro e w' ⟨⟨m, hm2, rfl⟩, rfl⟩; clear LM))
    have RQ := hide (RP.out o b m ho2.1 ho2.2 hb2.1 hb2.2 hm2.1 hm2.2)
    have clm : cl m = m := cl_in m hm2.1 (by omega)
    have CM := hide clm
    have OB := hide (show (0 ≤ o ∧ 0 ≤ b ∧ o + b ≤ 1000000) from ⟨ho2.1, hb2.1, by omega⟩)
    obtain ⟨m', rfl⟩ : ∃ m' : Nat, m = (m' : Int) := ⟨m.toNat, by omega⟩
    have M6 := hide (show m' < 600 from by omega)
    have o2 : o ≤ 200 := by omega
    have o3 : 0 ≤ o := ho2.1
    have b2 : b ≤ 100 := by omega
    have b3 : 0 ≤ b := hb2.1
    clear RP clm ho2 hb2 hm2
    go_upto_region 5 with (go_at_call 9; refine RQ.out.mono ?_; rintro e w1 ⟨v1, rfl, h1, b1⟩; obtain ⟨r, ok, rfl, hr⟩ := h1; have IR := hide hr; have B1 := hide b1; clear hr b1)
    go_wp2_with fail
    go_loopw [11] (fun sv wr => ∃ k : Nat, 1 ≤ k ∧ k ≤ m' + 1 ∧ sv = .int .i64 (k : Int) ∧ Hid (Below w.heap.size w wr ∧ ∀ q : Int, 1 ≤ q → q < (k : Int) → q < needP o b ps q)) (fun sv _ => m' + 1 - (intOf sv).toNat)
    case atStart => exact ⟨1, by omega, by omega, rfl, B1.out, fun q h1 h2 => by omega⟩
    case round =>
      obtain ⟨k, hk1, hk2, rfl, hZ⟩ := hrel
      rename World => w2
      have B2 := hide hZ.out.1
      have NO := hide hZ.out.2
      clear hZ
      by_cases hlt : k ≤ m'
      · have l1 : (k : Int) ≤ (m' : Int) := by omega
        have WI := hide (WK.out w2 (k : Int) B2.out (wf_i (by omega) (by have := M6.out; omega)))
        obtain ⟨u, hu⟩ : ∃ u, u = workP (k : Int) ps := ⟨_, rfl⟩
        rw [← hu] at WI
        obtain ⟨N, hN⟩ : ∃ N, N = needP o b ps k := ⟨_, rfl⟩
        have AD := hide (show ∀ W : World, Calls Try.prog 15 #[.int .i64 (o + b), .int .i64 u] W fun e w' => e = .returned (.int .i64 N) ∧ W = w' from fun W => by
          rw [hN, ← needP_two OB.out.1 OB.out.2.1 OB.out.2.2, hu]; exact radd_any (o + b) _ W)
        have k2 : (k : Int) ≤ 600 := by have := M6.out; omega
        have HK := hide (show 1 ≤ k ∧ k ≤ m' from ⟨hk1, hlt⟩)
        clear hu
        by_cases c3 : N ≤ (k : Int)
        · obtain ⟨rfl, rfl⟩ := IR.out.first (s := (k : Int)) (by have := HK.out; omega) (by rw [CM.out]; exact l1) (by omega) (by rw [← hN]; exact c3) (fun q h1 h2 => by have := NO.out q h1 h2; omega)
          clear IR NO hN
          go_wp2_with (first
            | (go_at_call 12; refine WI.out.mono ?_; rintro e w4 ⟨rfl, b4⟩; have B4 := hide (B2.out.trans (b4.mono B2.out.size)); clear b4)
            | (go_at_call 15; refine (AD.out _).mono ?_; rintro e w5 ⟨rfl, rfl⟩)
            | (go_at_call 8; refine (AW.out _).mono ?_; rintro e w7 ⟨rfl, b7⟩; have B7 := hide (B4.out.trans (b7.mono B4.out.size)); clear b7))
          go_ret
          exact ⟨rfl, B7.out⟩
        · have NX := hide (show ∀ q : Int, 1 ≤ q → q < ((k + 1 : Nat) : Int) → q < needP o b ps q from fun q h1 h2 => by
            by_cases e : q = (k : Int)
            · rw [e, ← hN]; omega
            · exact NO.out q h1 (by omega))
          clear NO hN
          go_wp2_with (first
            | (go_at_call 12; refine WI.out.mono ?_; rintro e w4 ⟨rfl, b4⟩; have B4 := hide (B2.out.trans (b4.mono B2.out.size)); clear b4)
            | (go_at_call 15; refine (AD.out _).mono ?_; rintro e w5 ⟨rfl, rfl⟩))
          go_roundw
          case rel => exact ⟨k + 1, by omega, by have := HK.out; omega, by go_num, B4.out, NX.out⟩
          case measure => have := HK.out; simp [intOf]; omega
      · have l1 : ¬ (k : Int) ≤ (m' : Int) := by omega
        have l2 : (m' : Int) < (k : Int) := by omega
        obtain ⟨rfl, rfl⟩ := IR.out.none_ (fun q h1 h2 h3 => by have := NO.out q h1 (by rw [CM.out] at h2; omega); omega)
        clear IR NO WK
        go_wp2_with (go_at_call 8; refine (AW.out _).mono ?_; rintro e w7 ⟨rfl, b7⟩; have B7 := hide (B2.out.trans (b7.mono B2.out.size)); clear b7)
        go_ret
        exact ⟨rfl, B7.out⟩
end Go.Proofs.Ytonhhinpndaefaa
