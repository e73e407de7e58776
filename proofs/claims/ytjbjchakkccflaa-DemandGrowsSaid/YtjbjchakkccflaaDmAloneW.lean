/-
  The walk of DemandAlone, over the contracts of the program's demand.
-/
import Derived.Test.YtjbjchakkccflaaDmBoth
namespace Go.Proofs.Ytjbjchakkccflaa
open Go.ChangeShapes Go.WideShapes Go.ChangeAt Go.RowKit
set_option linter.unusedVariables false
theorem fits_resp {block : Int} {e : Er} {most x : Int} {ok : Bool} (h : IsFits block [] [e] most x ok) : ∃ r is, IsResp 0 block [partE e] most r is := by
  rcases h with ⟨r, hr, _⟩ | ⟨r, hr, _⟩
  · exact ⟨r, false, hr⟩
  · exact ⟨r, true, hr⟩
set_option maxHeartbeats 8000000 in
theorem walk_demandAloneC (C : PDemand) (w : World) (block : Int) (hb : (Lit.int .i64 block).wf = true) (period : Int) (hp : (Lit.int .i64 period).wf = true) (deadline : Int) (hd : (Lit.int .i64 deadline).wf = true) (cost : Int) (hc : (Lit.int .i64 cost).wf = true) :
    Calls Try.prog 5 #[.int .i64 block, .int .i64 period, .int .i64 deadline, .int .i64 cost] w fun e w' => e = .returned (.bool true) ∧ Below w.heap.size w w' := by
  have AW := hide (fun W => dmawake_any C W)
  have LB := hide (fun (W : World) => low_i block 50 W (by omega) (by omega))
  have LP := hide (fun (W : World) => low_i period 100 W (by omega) (by omega))
  have LD := hide (fun (W : World) => low_i deadline 60 W (by omega) (by omega))
  have LC := hide (fun (W : World) => low_i cost 30 W (by omega) (by omega))
  clear hb hp hd hc
  go_enter Try.func5, Try.ntmps5
  go_upto_region 2 with (first
    | (go_at_call 8; refine (LB.out _).mono ?_; rintro e w' ⟨⟨b, hb, rfl⟩, rfl⟩; clear LB)
    | (go_at_call 8; refine (LP.out _).mono ?_; rintro e w' ⟨⟨p, hp, rfl⟩, rfl⟩; clear LP)
    | (go_at_call 8; refine (LD.out _).mono ?_; rintro e w' ⟨⟨d, hd, rfl⟩, rfl⟩; clear LD)
    | (go_at_call 8; refine (LC.out _).mono ?_; rintro e w' ⟨⟨c, hc, rfl⟩, rfl⟩; clear LC))
  obtain ⟨P, hP⟩ : ∃ P, P = 60 + p := ⟨_, rfl⟩
  obtain ⟨D, hD⟩ : ∃ D, D = 1 + d := ⟨_, rfl⟩
  obtain ⟨K, hK⟩ : ∃ K, K = 1 + c := ⟨_, rfl⟩
  rw [show (60 : Int) + p = P from hP.symm, show (1 : Int) + d = D from hD.symm, show (1 : Int) + c = K from hK.symm]
  have AL := hide (show Alo b P D K from ⟨hb.1, hb.2, by omega, by omega, by omega, by omega, by omega, by omega⟩)
  have b2 : b ≤ 50 := by omega
  have b3 : 0 ≤ b := hb.1
  have K2 : K ≤ 50 := by omega
  have K3 : 0 ≤ K := by omega
  have FE : ∀ W : World, ∀ x ∈ [(⟨P, D, K⟩ : Er)], ErFit W x := fun W x hx => by
    rw [List.mem_singleton] at hx; rw [hx]; show (Lit.int .i64 P).wf = true ∧ (Lit.int .i64 D).wf = true ∧ (Lit.int .i64 K).wf = true
    exact ⟨wf_i (by omega) (by omega), wf_i (by omega) (by omega), wf_i (by omega) (by omega)⟩
  have FP : ∀ W : World, ∀ x ∈ [(⟨P, K⟩ : Pt)], PtFit W x := fun W x hx => by
    rw [List.mem_singleton] at hx; rw [hx]; show (Lit.int .i64 P).wf = true ∧ (Lit.int .i64 K).wf = true
    exact ⟨wf_i (by omega) (by omega), wf_i (by omega) (by omega)⟩
  have wb : (Lit.int .i64 b).wf = true := wf_i (by omega) (by omega)
  obtain ⟨w1, hw1⟩ : ∃ w1, w1 = w.alloc (.cells #[.int .i64 P, .int .i64 D, .int .i64 K] 26) := ⟨_, rfl⟩
  have b1 : Below w.heap.size w w1 := by rw [hw1]; exact (Below.refl w.heap.size w).alloc (Nat.le_refl _) _
  have R1 : Reads 3 erVals w1 (some ⟨w.heap.size, 0, none⟩) 1 [(⟨P, D, K⟩ : Er)] := reads_block (xs := [(⟨P, D, K⟩ : Er)]) erVals_len (by rw [hw1]; exact heap_alloc_new _ _)
  have c1 := C.fits w1 b none 0 0 [] (some ⟨w.heap.size, 0, none⟩) 1 1 [⟨P, D, K⟩] 600 reads_nil (fun x hx => by cases hx) (by omega) R1 (FE w1) (by omega) (fun _ => rfl) (fun h => by cases h) (Nat.le_refl _) (Nat.le_refl _) wb (by decide)
  have C1 := hide c1
  have C2 := hide (show ∀ W : World, Calls Try.prog 11 #[.int .i64 b, .slice (some ⟨W.heap.size, 0, none⟩) 1 1, .int .i64 600] (W.alloc (.cells #[.int .i64 P, .int .i64 K] 35)) fun e w' => ∃ v, e = .returned v ∧ RespIs 0 b [⟨P, K⟩] 600 v ∧ Below (W.alloc (.cells #[.int .i64 P, .int .i64 K] 35)).heap.size (W.alloc (.cells #[.int .i64 P, .int .i64 K] 35)) w' from fun W => by
    have := C.busy (W.alloc (.cells #[.int .i64 P, .int .i64 K] 35)) b (some ⟨W.heap.size, 0, none⟩) 1 1 [⟨P, K⟩] 600 (reads_block (xs := [(⟨P, K⟩ : Pt)]) ptVals_len (heap_alloc_new _ _)) (FP _) (by omega) wb (by decide)
    exact this)
  have B1 := hide b1
  have HW1 := hide hw1
  clear hb hp hd hc hP hD hK FE FP wb hw1 b1 R1 c1
  go_upto_region 4 with (go_at_call 10; rw [← HW1.out]; refine C1.out.mono ?_; rintro e w2 ⟨v2, rfl, h2, b2⟩; obtain ⟨x, ok, rfl, hf⟩ := h2; have IF := hide hf; have B2 := hide (B1.out.trans (b2.mono B1.out.size)); clear hf b2)
  by_cases hle : b + K ≤ D
  · obtain ⟨r, is, hr⟩ := fits_resp IF.out
    have e := (alone_fits AL.out IF.out hr).2.1 hle
    subst e
    clear IF hr
    go_wp2_with (go_at_call 7; refine (AW.out _).mono ?_; rintro e w9 ⟨rfl, b9⟩; have B9 := hide (B2.out.trans (b9.mono B2.out.size)); clear b9)
    go_ret
    exact ⟨rfl, B9.out⟩
  · go_upto_region 7 with (go_at_call 11; refine (C2.out _).mono ?_; rintro e w3 ⟨v3, rfl, h3, b3'⟩; obtain ⟨r, is, rfl, hr⟩ := h3; have IR := hide hr; have B3 := hide ((B2.out.alloc B2.out.size _).trans (b3'.mono (by have := B2.out.size; simp; omega))); clear hr b3')
    obtain ⟨e1, _, e2⟩ := alone_fits AL.out IF.out IR.out
    obtain ⟨e3, e4⟩ := e2 (by omega)
    subst e1 e3 e4
    clear IF IR
    go_wp2_with (go_at_call 7; refine (AW.out _).mono ?_; rintro e w9 ⟨rfl, b9⟩; have B9 := hide (B3.out.trans (b9.mono B3.out.size)); clear b9)
    go_ret
    exact ⟨rfl, B9.out⟩
end Go.Proofs.Ytjbjchakkccflaa
