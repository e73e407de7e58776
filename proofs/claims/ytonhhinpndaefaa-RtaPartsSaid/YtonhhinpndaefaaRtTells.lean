/-
  The walks of RtaTells and RtaExact, over the contracts of the program's rta.
-/
import Derived.Test.YtonhhinpndaefaaRtBoth
import Derived.Test.YtonhhinpndaefaaNumSumW
namespace Go.Proofs.Ytonhhinpndaefaa
open Go.ChangeShapes Go.WideShapes Go.ChangeAt Go.RowKit
set_option linter.unusedVariables false
/-- The document's answers of the law's own parts, turned. -/
theorem rturned_resp (w : World) (own block : Int) (a : Option Addr) (n c : Nat) (ps : List Pt) (most : Int) (hr : Reads 2 ptVals w a n ps) (hn : n ≤ 1000) :
    Calls Try.prog 10 #[.int .i64 own, .int .i64 block, .slice a n c, .int .i64 most] w fun e w' => ∃ v, e = .returned v ∧ RespIs own block ps most v ∧ Below w.heap.size w w' :=
  (rresp_any w own block a n c ps most hr hn).mono fun e w' ⟨v, h1, h2, m, h3⟩ => ⟨v, h1, h2, by rw [h3]; exact below_drewN (Below.refl _ _) m⟩
theorem rturned_work (w : World) (span : Int) (a : Option Addr) (n c : Nat) (ps : List Pt) (hr : Reads 2 ptVals w a n ps) (hn : n ≤ 1000) :
    Calls Try.prog 13 #[.int .i64 span, .slice a n c] w fun e w' => e = .returned (.int .i64 (workP span ps)) ∧ Below w.heap.size w w' :=
  (rwork_any w span a n c ps hr hn).mono fun e w' ⟨h1, m, h3⟩ => ⟨h1, by rw [h3]; exact below_drewN (Below.refl _ _) m⟩
theorem turned_form (w : World) (a : Option Addr) (n c : Nat) (ps : List Pt) (hr : Reads 2 ptVals w a n ps) (hn : n ≤ 1000) :
    Calls Try.prog 11 #[.slice a n c] w fun e w' => ∃ A c', e = .returned (.slice A n c') ∧ Reads 2 ptVals w' A n ps ∧ Below w.heap.size w w' :=
  (turned_any w a n c ps hr hn).mono fun e w' ⟨v, h1, h2, h3⟩ => by
    obtain ⟨A, c', rfl, hR, _⟩ := own_reads ptVals_len (by omega) h2
    exact ⟨A, c', h1, hR, h3⟩
set_option maxHeartbeats 8000000 in
theorem walk_rtaTellsC (C : PRta) (w : World) (own : Int) (ho : (Lit.int .i64 own).wf = true) (block : Int) (hb : (Lit.int .i64 block).wf = true) (pa : Option Addr) (n cn : Nat) (ps : List Pt) (hin : Came 2 ptVals PtFit w pa n cn ps) (most : Int) (hm : (Lit.int .i64 most).wf = true) (span : Int) (hs : (Lit.int .i64 span).wf = true) :
    Calls Try.prog 3 #[.int .i64 own, .int .i64 block, .slice pa n cn, .int .i64 most, .int .i64 span] w fun e w' => e = .returned (.bool true) ∧ Below w.heap.size w w' := by
  have AW := hide (fun W => rtawake_any C W)
  by_cases hg : 12 < n
  · have g1 : (12 : Int) < (n : Int) := by omega
    clear hin C
    go_enter Try.func3, Try.ntmps3
    go_wp2_with (go_at_call 8; refine (AW.out _).mono ?_; rintro e w' ⟨rfl, b⟩; have B := hide b; clear b)
    go_ret
    exact ⟨rfl, B.out⟩
  · have g1 : ¬ (12 : Int) < (n : Int) := by omega
    have HN := hide (show n ≤ 12 from by omega)
    have HR := hide hin.reads
    have FT := hide (show ∀ x ∈ ps, PtFit w x from hin.2.2.2.2.1)
    have RP := hide (show ∀ W, Below w.heap.size w W → Calls Try.prog 9 #[.int .i64 own, .int .i64 block, .slice pa n cn, .int .i64 most] W fun e w' => ∃ v, e = .returned v ∧ RespIs own block ps most v ∧ Below W.heap.size W w' from fun W b => C.resp W own block pa n cn ps most (HR.out.below b) (fun x hx => FT.out x hx) (by have := HN.out; omega) ho hb hm)
    have WK := hide (show ∀ W, Below w.heap.size w W → Calls Try.prog 12 #[.int .i64 span, .slice pa n cn] W fun e w' => e = .returned (.int .i64 (workP span ps)) ∧ Below W.heap.size W w' from fun W b => C.work W span pa n cn ps (HR.out.below b) (fun x hx => FT.out x hx) (by have := HN.out; omega) hs)
    have TU := hide (show ∀ W, Below w.heap.size w W → Calls Try.prog 11 #[.slice pa n cn] W fun e w' => ∃ A c', e = .returned (.slice A n c') ∧ Reads 2 ptVals w' A n ps ∧ Below W.heap.size W w' from fun W b => turned_form W pa n cn ps (HR.out.below b) (by have := HN.out; omega))
    obtain ⟨u, hu⟩ : ∃ u, u = workP span ps := ⟨_, rfl⟩
    rw [← hu] at WK
    have HU := hide hu
    clear hin C hg hu ho hb hm hs
    go_enter Try.func3, Try.ntmps3
    go_upto_region 4 with (go_at_call 9; refine (RP.out _ (Below.refl _ _)).mono ?_; rintro e w1 ⟨v1, rfl, h1, b1⟩; obtain ⟨r, ok, rfl, hr⟩ := h1; have IR := hide hr; have B1 := hide b1; clear hr b1)
    go_upto_region 5 with (first
      | (go_at_call 11; refine (TU.out _ B1.out).mono ?_; rintro e w2 ⟨A2, c2, rfl, h2, b2⟩; have R2 := hide h2; have B2 := hide (B1.out.trans (b2.mono B1.out.size)); clear h2 b2)
      | (go_at_call 10; refine (rturned_resp _ own block A2 n c2 ps most R2.out (by have := HN.out; omega)).mono ?_; rintro e w3 ⟨v3, rfl, h3, b3⟩; rw [h3.get IR.out]; have B3 := hide (B2.out.trans (b3.mono B2.out.size)); clear h3 b3))
    go_wp2_with (first
      | (go_at_call 12; refine (WK.out _ B3.out).mono ?_; rintro e w4 ⟨rfl, b4⟩; have B4 := hide (B3.out.trans (b4.mono B3.out.size)); clear b4)
      | (go_at_call 11; refine (TU.out _ B4.out).mono ?_; rintro e w5 ⟨A5, c5, rfl, h5, b5⟩; have R5 := hide h5; have B5 := hide (B4.out.trans (b5.mono B4.out.size)); clear h5 b5)
      | (go_at_call 13; refine (rturned_work _ span A5 n c5 ps R5.out (by have := HN.out; omega)).mono ?_; rintro e w6 ⟨rfl, b6⟩; rw [← HU.out]; have B6 := hide (B5.out.trans (b6.mono B5.out.size)); clear b6)
      | (go_at_call 8; refine (AW.out _).mono ?_; rintro e w7 ⟨rfl, b7⟩; have B7 := hide (B6.out.trans (b7.mono B6.out.size)); clear b7))
    go_ret
    exact ⟨rfl, B7.out⟩
theorem ints_three (q : IntKind) (w : World) (x y z : Int) (t : TypeId) (n : Nat) (hn : n = w.heap.size) : Ints q (w.alloc (.cells #[.int q x, .int q y, .int q z] t)) (some ⟨n, 0, none⟩) 3 [x, y, z] := by
  rw [hn]
  refine ⟨rfl, fun _ => ⟨w.heap.size, 0, rfl, fun j hj => ?_⟩⟩
  rw [Nat.zero_add, cell_of_row _ _ _ _ _ _ (heap_alloc_new w _)]
  have h : j = 0 ∨ j = 1 ∨ j = 2 := by omega
  rcases h with rfl | rfl | rfl <;> rfl
set_option maxHeartbeats 8000000 in
theorem walk_rtaExactC (C : PRta) (w : World) (own : Int) (ho : (Lit.int .i64 own).wf = true) (block : Int) (hb : (Lit.int .i64 block).wf = true) (pa : Option Addr) (n cn : Nat) (ps : List Pt) (hin : Came 2 ptVals PtFit w pa n cn ps) (most : Int) (hm : (Lit.int .i64 most).wf = true) :
    Calls Try.prog 7 #[.int .i64 own, .int .i64 block, .slice pa n cn, .int .i64 most] w fun e w' => e = .returned (.bool true) ∧ Below w.heap.size w w' := by
  have AW := hide (fun W => rtawake_any C W)
  by_cases hg : 12 < n
  · have g1 : (12 : Int) < (n : Int) := by omega
    clear hin C
    go_enter Try.func7, Try.ntmps7
    go_wp2_with (go_at_call 8; refine (AW.out _).mono ?_; rintro e w' ⟨rfl, b⟩; have B := hide b; clear b)
    go_ret
    exact ⟨rfl, B.out⟩
  · have g1 : ¬ (12 : Int) < (n : Int) := by omega
    have HN := hide (show n ≤ 12 from by omega)
    have HR := hide hin.reads
    have FT := hide (show ∀ x ∈ ps, PtFit w x from hin.2.2.2.2.1)
    have RP := hide (show Calls Try.prog 9 #[.int .i64 own, .int .i64 block, .slice pa n cn, .int .i64 most] w fun e w' => ∃ v, e = .returned v ∧ RespIs own block ps most v ∧ Below w.heap.size w w' from C.resp w own block pa n cn ps most HR.out (fun x hx => FT.out x hx) (by have := HN.out; omega) ho hb hm)
    have WK := hide (show ∀ W r, Below w.heap.size w W → (Lit.int .i64 r).wf = true → Calls Try.prog 12 #[.int .i64 r, .slice pa n cn] W fun e w' => e = .returned (.int .i64 (workP r ps)) ∧ Below W.heap.size W w' from fun W r b hs => C.work W r pa n cn ps (HR.out.below b) (fun x hx => FT.out x hx) (by have := HN.out; omega) hs)
    clear hin C hg ho hb hm
    go_enter Try.func7, Try.ntmps7
    go_upto_region 4 with (go_at_call 9; refine RP.out.mono ?_; rintro e w1 ⟨v1, rfl, h1, b1⟩; obtain ⟨r, ok, rfl, hr⟩ := h1; have IR := hide hr; have B1 := hide b1; clear hr b1)
    cases ok with
    | false =>
      obtain rfl : r = 0 := by
        rcases IR.out with ⟨e, _⟩ | ⟨_, e, _⟩
        · cases e
        · exact e
      clear IR
      go_wp2_with (go_at_call 8; refine (AW.out _).mono ?_; rintro e w7 ⟨rfl, b7⟩; have B7 := hide (B1.out.trans (b7.mono B1.out.size)); clear b7)
      go_ret
      exact ⟨rfl, B7.out⟩
    | true =>
      obtain ⟨r1, hx⟩ := IR.out.exact
      have r2 : r ≤ 4096 := by
        rcases IR.out with ⟨_, _, _, h, _⟩ | ⟨e, _⟩
        · exact h
        · cases e
      have wr : (Lit.int .i64 r).wf = true := wf_i (by omega) (by omega)
      have WR := hide (WK.out w1 r B1.out wr)
      obtain ⟨u, hu⟩ : ∃ u, u = workP r ps := ⟨_, rfl⟩
      rw [← hu] at WR
      obtain ⟨N, hN⟩ : ∃ N, N = sum [own, block, u] := ⟨_, rfl⟩
      have e : N = needP own block ps r := by rw [hN, hu]; rfl
      rw [← e] at hx
      have SM := hide (show ∀ W : World, Calls Try.prog 16 #[.slice (some ⟨W.heap.size, 0, none⟩) 3 3] (W.alloc (.cells #[.int .i64 own, .int .i64 block, .int .i64 u] 3)) fun e w' => e = .returned (.int .i64 N) ∧ (W.alloc (.cells #[.int .i64 own, .int .i64 block, .int .i64 u] 3)) = w' from fun W => by
        rw [hN]; exact add_any _ 3 3 [own, block, u] _ (ints_three .i64 W own block u 3 _ rfl) (by omega))
      clear hu hN e wr IR WK RP
      rcases hx with rfl | ⟨rfl, rfl⟩
      · have e1 : (N == N) = true := by simp
        go_wp2_with (first
          | (go_at_call 12; refine WR.out.mono ?_; rintro e w4 ⟨rfl, b4⟩; have B4 := hide (B1.out.trans (b4.mono B1.out.size)); clear b4)
          | (go_at_call 16; refine (SM.out _).mono ?_; rintro e w5 ⟨rfl, hw⟩; subst hw; have B5 := hide (B4.out.alloc B4.out.size (.cells #[.int .i64 own, .int .i64 block, .int .i64 u] 3)))
          | (go_at_call 8; refine (AW.out _).mono ?_; rintro e w7 ⟨rfl, b7⟩; have B7 := hide (B5.out.trans (b7.mono B5.out.size)); clear b7))
        go_ret
        exact ⟨rfl, B7.out⟩
      · go_wp2_with (first
          | (go_at_call 12; refine WR.out.mono ?_; rintro e w4 ⟨rfl, b4⟩; have B4 := hide (B1.out.trans (b4.mono B1.out.size)); clear b4)
          | (go_at_call 16; refine (SM.out _).mono ?_; rintro e w5 ⟨rfl, hw⟩; subst hw; have B5 := hide (B4.out.alloc B4.out.size (.cells #[.int .i64 own, .int .i64 block, .int .i64 u] 3)))
          | (go_at_call 8; refine (AW.out _).mono ?_; rintro e w7 ⟨rfl, b7⟩; have B7 := hide (B5.out.trans (b7.mono B5.out.size)); clear b7))
        go_ret
        exact ⟨rfl, B7.out⟩
end Go.Proofs.Ytonhhinpndaefaa
