/-
  The walk of RtaParts, over the contracts of the program's rta.
-/
import Derived.Test.YtonhhinpndaefaaRtRises
namespace Go.Proofs.Ytonhhinpndaefaa
open Go.ChangeShapes Go.WideShapes Go.ChangeAt Go.RowKit
set_option linter.unusedVariables false
set_option linter.unusedSimpArgs false
theorem reads_touchPt {S : Nat → Prop} {w w' : World} {a : Option Addr} {n : Nat} {xs : List Pt} (h : Reads 2 ptVals w a n xs) (t : Touch S w w') (d : 0 < n → ∀ b o, a = some ⟨b, o, none⟩ → ¬ S b) : Reads 2 ptVals w' a n xs := by
  by_cases h0 : 0 < n
  · exact h.touch t (d h0)
  · exact ⟨h.1, fun h' => absurd h' (by omega)⟩
set_option maxRecDepth 10000 in
set_option maxHeartbeats 8000000 in
theorem walk_rtaPartsC (C : PRta) (w : World) (pa : Option Addr) (n cn : Nat) (ya : List Pt) (hin : Came 2 ptVals PtFit w pa n cn ya) (pb : Option Addr) (m cm : Nat) (yb : List Pt) (hin2 : Came 2 ptVals PtFit w pb m cm yb) (span : Int) (hs : (Lit.int .i64 span).wf = true) (mp mc : Int) (hp : (Lit.int .i64 mp).wf = true) (hc : (Lit.int .i64 mc).wf = true) :
    Calls Try.prog 6 #[.slice pa n cn, .slice pb m cm, .int .i64 span, .agg #[.int .i64 mp, .int .i64 mc]] w fun e w' => e = .returned (.bool true) ∧ Below w.heap.size w w' := by
  have AW := hide (fun W => rtawake_any C W)
  obtain ⟨w0, hw0⟩ : ∃ w0, w0 = w.alloc (.cells #[.int .i64 mp, .int .i64 mc] 35) := ⟨_, rfl⟩
  have b0 : Below w.heap.size w w0 := by rw [hw0]; exact (Below.refl w.heap.size w).alloc (Nat.le_refl _) _
  have B0 := hide b0
  have HW0 := hide hw0
  obtain ⟨X, hX⟩ : ∃ X, X = w.heap.size := ⟨_, rfl⟩
  have HX := hide hX
  by_cases hg : 12 < n
  · have g1 : (12 : Int) < (n : Int) := by omega
    clear hin hin2 C hw0 b0 hX
    go_enter Try.func6, Try.ntmps6
    go_upto_region 1 with fail
    rw [← HW0.out]
    go_wp2_with (go_at_call 8; refine (AW.out _).mono ?_; rintro e w' ⟨rfl, b⟩; have B := hide (B0.out.trans (b.mono B0.out.size)); clear b)
    go_ret
    exact ⟨rfl, B.out⟩
  by_cases hg2 : 12 < m
  · have g1 : ¬ (12 : Int) < (n : Int) := by omega
    have g2 : (12 : Int) < (m : Int) := by omega
    clear hin hin2 C hw0 b0 hX
    go_enter Try.func6, Try.ntmps6
    go_upto_region 1 with fail
    rw [← HW0.out]
    go_wp2_with (go_at_call 8; refine (AW.out _).mono ?_; rintro e w' ⟨rfl, b⟩; have B := hide (B0.out.trans (b.mono B0.out.size)); clear b)
    go_ret
    exact ⟨rfl, B.out⟩
  have g1 : ¬ (12 : Int) < (n : Int) := by omega
  have g2 : ¬ (12 : Int) < (m : Int) := by omega
  obtain ⟨i0, hi0, hz0, hz1, hz2⟩ := info_parts part_info
  have I0 := hide (show Try.prog.info? 35 = some i0 ∧ i0.zero = some (.agg #[.int .i64 0, .int .i64 0]) ∧ i0.size = 2 ∧ i0.bytes = 16 from ⟨hi0, hz0, hz1, hz2⟩)
  have HN := hide (show n ≤ 12 ∧ m ≤ 12 from by omega)
  have HR := hide hin.reads
  have HR2 := hide hin2.reads
  have FT := hide (show ∀ x ∈ ya ++ yb, PtFit w x from fun x hx => by
    rcases List.mem_append.1 hx with h | h
    · exact hin.2.2.2.2.1 x h
    · exact hin2.2.2.2.2.1 x h)
  have NL := hide (show (pa = none → cn = 0) ∧ (pb = none → cm = 0) from ⟨hin.2.2.2.1, hin2.2.2.2.1⟩)
  have M0 := hide (show w0.heap[X]? = some (.cells #[.int .i64 mp, .int .i64 mc] 35 (0, 0)) from by rw [hw0, hX]; exact heap_alloc_new _ _)
  have LS := hide (fun (W : World) => low_i span 500 W (by omega) (by omega))
  have LP := hide (fun (W : World) => low_i mp 100 W (by omega) (by omega))
  have LC := hide (fun (W : World) => low_i mc 100 W (by omega) (by omega))
  have WK := hide (show ∀ (W : World) (r : Int) (A : Option Addr) (k c : Nat) (l : List Pt), Reads 2 ptVals W A k l → (∀ x ∈ l, PtFit W x) → k ≤ 100 → (Lit.int .i64 r).wf = true → Calls Try.prog 12 #[.int .i64 r, .slice A k c] W fun e w' => e = .returned (.int .i64 (workP r l)) ∧ Below W.heap.size W w' from fun W r A k c l hr hf hk hs => C.work W r A k c l hr hf hk hs)
  clear hin hin2 C hg hg2 hs hp hc hi0 hz0 hz1 hz2 hw0 b0 hX
  go_enter Try.func6, Try.ntmps6
  go_upto_region 1 with fail
  rw [← HX.out, ← HW0.out]
  go_upto_region 4 with (go_at_call 14; refine (LS.out _).mono ?_; rintro e w' ⟨⟨s, hs2, rfl⟩, rfl⟩; clear LS)
  have HS := hide hs2
  have BW := hide (show Below w0.heap.size w0 w0 from Below.refl _ _)
  obtain ⟨sp, hsp⟩ : ∃ sp, sp = 1 + s := ⟨_, rfl⟩
  rw [show (1 : Int) + s = sp from hsp.symm]
  have SP := hide (show 1 ≤ sp ∧ sp ≤ 501 from by omega)
  clear hs2 hsp
  go_upto_region 5 with (first
    | (at_builtin; refine wpList_append_reads rfl (.const (.slice none 0 0)) (.tmp 23) _ rfl w0.heap.size 35 i0 _ 16 Try.underlying22 I0.out.1 I0.out.2.1 I0.out.2.2.1 I0.out.2.2.2 rfl (by omega) _ 0 [] rfl (World.ownsRow_nil _ _ _ _) pa n cn ya rfl ptVals_len ptVals_cell (HR.out.below B0.out) NL.out.1 (by have := HN.out; unfold maxLen; omega) (by have := HN.out; omega) (Nat.le_refl _) ?_; intro v2 w2 o2 g2; rw [Nat.zero_add, List.nil_append] at o2; have O2 := hide o2; have B2 := hide (show Below w0.heap.size w0 w2 from (Below.refl w0.heap.size w0).grown g2 (Nat.le_refl _) (fun k hk => by cases hk)); clear o2 g2)
    | (at_builtin; refine wpList_append_reads rfl (.tmp 24) (.tmp 25) _ rfl w0.heap.size 35 i0 _ 16 Try.underlying22 I0.out.1 I0.out.2.1 I0.out.2.2.1 I0.out.2.2.2 rfl (by omega) _ n (ya.flatMap ptVals) rfl O2.out pb m cm yb rfl ptVals_len ptVals_cell (HR2.out.below (B0.out.trans (B2.out.mono B0.out.size))) NL.out.2 (by have := HN.out; unfold maxLen; omega) (by have := HN.out; omega) B2.out.size ?_; intro v3 w3 o3 g3; rw [← List.flatMap_append] at o3; obtain ⟨A3, c3, e3, hR3, _⟩ := own_reads ptVals_len (by omega) o3; subst e3; have R3 := hide hR3; have B3 := hide (show Below w0.heap.size w0 w3 from B2.out.grown g3 B2.out.size (fun k hk => (O2.out.lt k hk).1)); have P3 := hide (show ∀ k, (Value.slice A3 (n + m) c3).ownBlock = some k → w0.heap.size ≤ k from own_lo o3); clear o3 g3 hR3))
  have M3 := hide (show w3.heap[X]? = some (.cells #[.int .i64 mp, .int .i64 mc] 35 (0, 0)) from (B3.out.block X (lt_of_heap M0.out)).trans M0.out)
  have m0 : w3.cell? ⟨X, 0, none⟩ = some (.int .i64 mp) := by rw [cell_of_row _ _ _ _ _ _ M3.out]; rfl
  have m1 : w3.cell? ⟨X, 1, none⟩ = some (.int .i64 mc) := by rw [cell_of_row _ _ _ _ _ _ M3.out]; rfl
  have f0 : w3.frozen? ⟨X, 0, none⟩ = false := frozen_of_row _ _ _ _ _ M3.out
  have f1 : w3.frozen? ⟨X, 1, none⟩ = false := frozen_of_row _ _ _ _ _ M3.out
  go_cut [9] (fun v wx => v = .slice A3 (n + m) c3 ∧ ∃ P co : Int, Hid ((1 ≤ P ∧ P ≤ 100) ∧ (0 ≤ co ∧ co ≤ 100)) ∧ Hid (wx.heap[X]? = some (.cells #[.int .i64 P, .int .i64 co] 35 (0, 0))) ∧ Hid (Touch (fun i => i = X) w3 wx))
  case first =>
    go_region_law ((first
      | (go_simp; go_at_call 14; refine (LP.out _).mono ?_; rintro e w' ⟨⟨pr, hpr, rfl⟩, rfl⟩; clear LP; have HPR := hide hpr; obtain ⟨P, hP⟩ : ∃ P, P = 1 + pr := ⟨_, rfl⟩; have wP : IntKind.i64.wrap (1 + pr) = P := (by rw [← hP]; exact IntWalk.i64_in _ (by omega)); have HPP := hide hP; clear hpr hP; go_wp2_with fail)
      | (go_simp; go_at_call 14; refine (LC.out _).mono ?_; rintro e w' ⟨⟨co, hco, rfl⟩, rfl⟩; clear LC; have HCO := hide hco; clear hco; go_wp2_with fail)))
    all_goals
      have T5 := hide ((((Touch.refl (fun i => i = X) w3).setCell (p := ⟨X, 0, none⟩) rfl (.int .i64 P)).setCell (p := ⟨X, 1, none⟩) rfl (.int .i64 co)).drewN 1)
      have H5 := hide (show ((w3.setCell ⟨X, 0, none⟩ (.int .i64 P)).setCell ⟨X, 1, none⟩ (.int .i64 co)).drew.heap[X]? = some (.cells #[.int .i64 P, .int .i64 co] 35 (0, 0)) from by
        show ((w3.setCell ⟨X, 0, none⟩ (.int .i64 P)).setCell ⟨X, 1, none⟩ (.int .i64 co)).heap[X]? = _
        have h1 : (w3.setCell ⟨X, 0, none⟩ (.int .i64 P)).heap[X]? = some (.cells #[.int .i64 P, .int .i64 mc] 35 (0, 0)) := by rw [heap_setCell_same _ _ _ _ _ _ M3.out]; rfl
        rw [heap_setCell_same _ _ _ _ _ _ h1]; rfl)
      go_wp2_with fail
      go_meet
      case rel => exact ⟨rfl, P, co, ⟨by have := HPP.out; have := HPR.out; omega, by have := HCO.out; omega⟩, H5.out, T5.out⟩
  case rest =>
    obtain ⟨rfl, P, co, PC, H5, T5⟩ := hcut
    rename World => w5
    have XL := hide (show X < w3.heap.size from lt_of_heap M3.out)
    have RA5 := hide (show Reads 2 ptVals w5 pa n ya from reads_touchPt (HR.out.below (B0.out.trans (B3.out.mono B0.out.size))) T5.out (fun h c o e => by
      obtain ⟨b', o', e', h', _⟩ := reads_pt HR.out h
      rw [e] at e'; injection e' with e'; injection e' with e' _
      have := lt_of_cell? h'
      have := HX.out
      simp at *
      omega))
    have RB5 := hide (show Reads 2 ptVals w5 pb m yb from reads_touchPt (HR2.out.below (B0.out.trans (B3.out.mono B0.out.size))) T5.out (fun h c o e => by
      obtain ⟨b', o', e', h', _⟩ := reads_pt HR2.out h
      rw [e] at e'; injection e' with e'; injection e' with e' _
      have := lt_of_cell? h'
      have := HX.out
      simp at *
      omega))
    have RC5 := hide (show Reads 2 ptVals w5 A3 (n + m) (ya ++ yb) from R3.out.touch T5.out (fun c o e h => by
      have h1 := P3.out c (by rw [e]; rfl)
      have h2 := lt_of_heap M0.out
      omega))
    obtain ⟨w6, hw6⟩ : ∃ w6, w6 = w5.alloc (.cells #[.int .i64 P, .int .i64 co] 35) := ⟨_, rfl⟩
    obtain ⟨Y, hY⟩ : ∃ Y, Y = w5.heap.size := ⟨_, rfl⟩
    have b6 : Below w5.heap.size w5 w6 := by rw [hw6]; exact (Below.refl _ w5).alloc (Nat.le_refl _) _
    have RO6 : Reads 2 ptVals w6 (some ⟨Y, 0, none⟩) 1 [(⟨P, co⟩ : Pt)] := reads_block (xs := [(⟨P, co⟩ : Pt)]) ptVals_len (by rw [hw6, hY]; exact heap_alloc_new w5 _)
    have H6 : w6.heap[X]? = some (.cells #[.int .i64 P, .int .i64 co] 35 (0, 0)) := (b6.block X (lt_of_heap H5.out)).trans H5.out
    have FX := hide (show ∀ W, Below w6.heap.size w6 W → W.cell? ⟨X, 0, none⟩ = some (.int .i64 P) ∧ W.cell? ⟨X, 1, none⟩ = some (.int .i64 co) from fun W b => by
      have h : W.heap[X]? = some (.cells #[.int .i64 P, .int .i64 co] 35 (0, 0)) := (b.block X (lt_of_heap H6)).trans H6
      constructor <;> rw [cell_of_row _ _ _ _ _ _ h] <;> rfl)
    obtain ⟨U1, hU1⟩ : ∃ U, U = workP sp ya := ⟨_, rfl⟩
    obtain ⟨U2, hU2⟩ : ∃ U, U = workP sp yb := ⟨_, rfl⟩
    obtain ⟨U, hU⟩ : ∃ U, U = workP sp (ya ++ yb) := ⟨_, rfl⟩
    obtain ⟨SQ, hSQ⟩ : ∃ q, q = sp + P := ⟨_, rfl⟩
    obtain ⟨V, hV⟩ : ∃ U, U = workP sp [(⟨P, co⟩ : Pt)] := ⟨_, rfl⟩
    obtain ⟨V', hV'⟩ : ∃ U, U = workP SQ [(⟨P, co⟩ : Pt)] := ⟨_, rfl⟩
    have SPo := SP.out
    have PCo := PC.out
    have one : ∀ t : Int, workP t [(⟨P, co⟩ : Pt)] = ptW t ⟨P, co⟩ := fun t => by
      have := workP_snoc t [] ⟨P, co⟩
      rw [List.nil_append] at this
      rw [this]
      show cl (0 + ptW t ⟨P, co⟩) = _
      rw [Int.zero_add, cl_in _ (ptW_lo _ _) (ptW_hi _ _)]
    have eV : V + co = V' := by
      rw [hV, hV', one, one, hSQ]
      exact (ptW_next SPo.1 (by omega) PCo.1.1 (by omega) PCo.2.1 (by omega)).symm
    have V0 : 0 ≤ V := by rw [hV]; exact workP_lo _ _
    have V1 : V ≤ 1099511627776 := by rw [hV]; exact workP_hi _ _
    have wV : IntKind.i64.wrap (V + co) = V' := by rw [eV]; exact IntWalk.i64_in _ (by omega)
    have wSP : IntKind.i64.wrap (sp + P) = SQ := by rw [← hSQ]; exact IntWalk.i64_in _ (by omega)
    have eU : (U == U) = true := by simp
    have eV2 : (V' == V') = true := by simp
    have fo : ∀ (l : List Pt) (W : World), (∀ x ∈ l, x ∈ ya ++ yb) → ∀ x ∈ l, PtFit W x := fun l W h x hx => FT.out x (h x hx)
    have wsp : (Lit.int .i64 sp).wf = true := wf_i (by omega) (by omega)
    have wsq : (Lit.int .i64 SQ).wf = true := wf_i (by omega) (by omega)
    have f1o : ∀ W : World, ∀ x ∈ [(⟨P, co⟩ : Pt)], PtFit W x := fun W x hx => by
      rw [List.mem_singleton] at hx; rw [hx]; show (Lit.int .i64 P).wf = true ∧ (Lit.int .i64 co).wf = true; exact ⟨wf_i (by omega) (by omega), wf_i (by omega) (by omega)⟩
    have WB := hide (show ∀ W, Below w6.heap.size w6 W → Calls Try.prog 12 #[.int .i64 sp, .slice A3 (n + m) c3] W fun e w' => e = .returned (.int .i64 U) ∧ Below W.heap.size W w' from fun W b => by
      have := WK.out W sp A3 (n + m) c3 (ya ++ yb) ((RC5.out.below b6).below b) (fo _ W (fun x h => h)) (by have := HN.out; omega) wsp
      rw [hU]; exact this)
    have WA := hide (show ∀ W, Below w6.heap.size w6 W → Calls Try.prog 12 #[.int .i64 sp, .slice pa n cn] W fun e w' => e = .returned (.int .i64 U1) ∧ Below W.heap.size W w' from fun W b => by
      have := WK.out W sp pa n cn ya ((RA5.out.below b6).below b) (fo _ W (fun x h => List.mem_append.2 (.inl h))) (by have := HN.out; omega) wsp
      rw [hU1]; exact this)
    have WC := hide (show ∀ W, Below w6.heap.size w6 W → Calls Try.prog 12 #[.int .i64 sp, .slice pb m cm] W fun e w' => e = .returned (.int .i64 U2) ∧ Below W.heap.size W w' from fun W b => by
      have := WK.out W sp pb m cm yb ((RB5.out.below b6).below b) (fo _ W (fun x h => List.mem_append.2 (.inr h))) (by have := HN.out; omega) wsp
      rw [hU2]; exact this)
    have WD := hide (show ∀ W, Below w6.heap.size w6 W → Calls Try.prog 12 #[.int .i64 SQ, .slice (some ⟨Y, 0, none⟩) 1 1] W fun e w' => e = .returned (.int .i64 V') ∧ Below W.heap.size W w' from fun W b => by
      have := WK.out W SQ (some ⟨Y, 0, none⟩) 1 1 [(⟨P, co⟩ : Pt)] (RO6.below b) (f1o W) (by omega) wsq
      rw [hV']; exact this)
    have WE := hide (show ∀ W, Below w6.heap.size w6 W → Calls Try.prog 12 #[.int .i64 sp, .slice (some ⟨Y, 0, none⟩) 1 1] W fun e w' => e = .returned (.int .i64 V) ∧ Below W.heap.size W w' from fun W b => by
      have := WK.out W sp (some ⟨Y, 0, none⟩) 1 1 [(⟨P, co⟩ : Pt)] (RO6.below b) (f1o W) (by omega) wsp
      rw [hV]; exact this)
    have AD := hide (show ∀ W : World, Calls Try.prog 15 #[.int .i64 U1, .int .i64 U2] W fun e w' => e = .returned (.int .i64 U) ∧ W = w' from fun W => by
      have := radd_any U1 U2 W
      rw [hU, workP_append, ← hU1, ← hU2]; exact this)
    have HW6 := hide hw6
    have HY := hide hY
    have B6 := hide (show Below w.heap.size w w6 from by
      have hx : w.heap.size ≤ X := by have := HX.out; omega
      have k := (B0.out.trans (B3.out.mono B0.out.size)).trans (T5.out.below (B0.out.trans (B3.out.mono B0.out.size)).size (fun i e => by rw [e]; exact hx))
      exact k.trans (b6.mono k.size))
    have FZ := hide (show w5.cell? ⟨X, 0, none⟩ = some (.int .i64 P) ∧ w5.cell? ⟨X, 1, none⟩ = some (.int .i64 co) from by constructor <;> rw [cell_of_row _ _ _ _ _ _ H5.out] <;> rfl)
    obtain ⟨z0, z1⟩ := FZ.out
    clear hw6 hY b6 RO6 H6 hU1 hU2 hU hSQ hV hV' SPo PCo one eV V0 V1 fo wsp wsq f1o m0 m1 f0 f1
    go_upto_region 7 with fail
    rename_i Q9 K9 a9
    rw [← HY.out, ← HW6.out]
    refine wp_region_noPanic ?_
    refine wp_region_held_drew (S := (fun W' => W'.cell? ⟨X, 0, none⟩ = some (.int .i64 P) ∧ W'.cell? ⟨X, 1, none⟩ = some (.int .i64 co))) (by kernel_rfl) (FX.out _ (below_drewN (Below.refl w6.heap.size w6) 1)) (fun hHeld => ?_)
    refine wpAnyH_take (i := 0) (v := ?_) rfl (by kernel_rfl) (by kernel_rfl) (by kernel_rfl) (fun _ _ _ h => h) (Or.inl ⟨by kernel_rfl, ?_⟩) (by assumption) ?_
    rotate_left
    · intro w hSw
      (try dsimp only at hSw)
      go_simp
      try with_reducible rfl
    try simp only [Act.put, List.setIfInBounds_toArray, List.set_cons_zero, List.set_cons_succ]
    refine wpAnyH_take (i := 1) (v := ?_) rfl (by kernel_rfl) (by kernel_rfl) (by kernel_rfl) (fun _ _ _ h => h) (Or.inl ⟨by kernel_rfl, ?_⟩) (by assumption) ?_
    rotate_left
    · intro w hSw
      (try dsimp only at hSw)
      go_simp
      try with_reducible rfl
    try simp only [Act.put, List.setIfInBounds_toArray, List.set_cons_zero, List.set_cons_succ]
    refine wpAnyH_take (i := 3) (v := ?_) rfl (by kernel_rfl) (by kernel_rfl) (by kernel_rfl) (fun _ _ _ h => h) (Or.inl ⟨by kernel_rfl, ?_⟩) (by assumption) ?_
    rotate_left
    · intro w hSw
      (try dsimp only at hSw)
      go_simp
      try with_reducible rfl
    try simp only [Act.put, List.setIfInBounds_toArray, List.set_cons_zero, List.set_cons_succ]
    refine wpAnyH_take (i := 4) (v := ?_) rfl (by kernel_rfl) (by kernel_rfl) (by kernel_rfl) (fun _ _ _ h => h) (Or.inl ⟨by kernel_rfl, ?_⟩) (by assumption) ?_
    rotate_left
    · intro w hSw
      (try dsimp only at hSw)
      go_simp
      try with_reducible rfl
    try simp only [Act.put, List.setIfInBounds_toArray, List.set_cons_zero, List.set_cons_succ]
    refine wpAnyH_take (i := 6) (v := ?_) rfl (by kernel_rfl) (by kernel_rfl) (by kernel_rfl) (fun _ _ _ h => h) (Or.inl ⟨by kernel_rfl, ?_⟩) (by assumption) ?_
    rotate_left
    · intro w hSw
      (try dsimp only at hSw)
      go_simp
      try with_reducible rfl
    try simp only [Act.put, List.setIfInBounds_toArray, List.set_cons_zero, List.set_cons_succ]
    refine wpAnyH_take (i := 7) (v := ?_) rfl (by kernel_rfl) (by kernel_rfl) (by kernel_rfl) (fun _ _ _ h => h) (Or.inl ⟨by kernel_rfl, ?_⟩) (by assumption) ?_
    rotate_left
    · intro w hSw
      (try dsimp only at hSw)
      go_simp
      try with_reducible rfl
    try simp only [Act.put, List.setIfInBounds_toArray, List.set_cons_zero, List.set_cons_succ]
    refine wpAnyH_ready (rs := [2]) (by kernel_rfl) (by simp) ?_
    refine AllReadyH.cons rfl (fun K hK => ?_) AllReadyH.nil
    go_simp
    go_at_call 12
    refine (WB.out _ (below_drewN (Below.refl w6.heap.size w6) 1)).mono ?_
    rintro e u1 ⟨rfl, b⟩
    have D1 := hide (show Below w6.heap.size w6 u1 from (below_drewN (Below.refl w6.heap.size w6) 1).trans (b.mono (below_drewN (Below.refl w6.heap.size w6) 1).size))
    clear b
    go_wp2_with fail
    refine hK.out _ _ (FX.out u1 D1.out) (fun hHeld => ?_)
    clear hK K
    try simp only [Act.put, List.setIfInBounds_toArray, List.set_cons_zero, List.set_cons_succ]
    refine wpAnyH_ready (rs := [5]) (by kernel_rfl) (by simp) ?_
    refine AllReadyH.cons rfl (fun K hK => ?_) AllReadyH.nil
    go_simp
    go_at_call 12
    refine (WA.out _ D1.out).mono ?_
    rintro e u2 ⟨rfl, b⟩
    have D2 := hide (show Below w6.heap.size w6 u2 from D1.out.trans (b.mono D1.out.size))
    clear b
    go_wp2_with fail
    refine hK.out _ _ (FX.out u2 D2.out) (fun hHeld => ?_)
    clear hK K
    try simp only [Act.put, List.setIfInBounds_toArray, List.set_cons_zero, List.set_cons_succ]
    refine wpAnyH_ready (rs := [8]) (by kernel_rfl) (by simp) ?_
    refine AllReadyH.cons rfl (fun K hK => ?_) AllReadyH.nil
    go_simp
    go_at_call 12
    refine (WC.out _ D2.out).mono ?_
    rintro e u3 ⟨rfl, b⟩
    have D3 := hide (show Below w6.heap.size w6 u3 from D2.out.trans (b.mono D2.out.size))
    clear b
    go_wp2_with fail
    refine hK.out _ _ (FX.out u3 D3.out) (fun hHeld => ?_)
    clear hK K
    try simp only [Act.put, List.setIfInBounds_toArray, List.set_cons_zero, List.set_cons_succ]
    refine wpAnyH_ready (rs := [9]) (by kernel_rfl) (by simp) ?_
    refine AllReadyH.cons rfl (fun K hK => ?_) AllReadyH.nil
    go_simp
    go_at_call 15
    refine (AD.out _).mono ?_
    rintro e w' ⟨rfl, rfl⟩
    go_wp2_with fail
    refine hK.out _ _ (FX.out u3 D3.out) (fun hHeld => ?_)
    clear hK K
    try simp only [Act.put, List.setIfInBounds_toArray, List.set_cons_zero, List.set_cons_succ]
    refine wpAnyH_take (i := 10) (v := ?_) rfl (by kernel_rfl) (by kernel_rfl) (by kernel_rfl) (fun _ _ _ h => h) (Or.inl ⟨by kernel_rfl, ?_⟩) (by assumption) ?_
    rotate_left
    · intro w hSw
      (try dsimp only at hSw)
      go_simp
      try with_reducible rfl
    try simp only [Act.put, List.setIfInBounds_toArray, List.set_cons_zero, List.set_cons_succ]
    refine wpAnyH_take (i := 11) (v := ?_) rfl (by kernel_rfl) (by kernel_rfl) (by kernel_rfl) (fun _ _ _ h => h) (Or.inl ⟨by kernel_rfl, ?_⟩) (by assumption) ?_
    rotate_left
    · intro w hSw
      (try dsimp only at hSw)
      go_simp
      try with_reducible rfl
    try simp only [Act.put, List.setIfInBounds_toArray, List.set_cons_zero, List.set_cons_succ]
    refine wpAnyH_take (i := 12) (v := ?_) rfl (by kernel_rfl) (by kernel_rfl) (by kernel_rfl) (fun _ _ _ h => h) (Or.inl ⟨by kernel_rfl, ?_⟩) (by assumption) ?_
    rotate_left
    · intro w hSw
      (try dsimp only at hSw)
      go_simp
      try with_reducible rfl
    try simp only [Act.put, List.setIfInBounds_toArray, List.set_cons_zero, List.set_cons_succ]
    refine wpAnyH_take (i := 13) (v := ?_) rfl (by kernel_rfl) (by kernel_rfl) (by kernel_rfl) (fun _ _ _ h => h) (Or.inl ⟨by kernel_rfl, ?_⟩) (by assumption) ?_
    rotate_left
    · intro w hSw
      (try dsimp only at hSw)
      go_simp
      try with_reducible rfl
    try simp only [Act.put, List.setIfInBounds_toArray, List.set_cons_zero, List.set_cons_succ]
    refine wpAnyH_take (i := 14) (v := ?_) rfl (by kernel_rfl) (by kernel_rfl) (by kernel_rfl) (fun _ _ _ h => h) (Or.inl ⟨by kernel_rfl, ?_⟩) (by assumption) ?_
    rotate_left
    · intro w hSw
      (try dsimp only at hSw)
      go_simp
      try with_reducible rfl
    try simp only [Act.put, List.setIfInBounds_toArray, List.set_cons_zero, List.set_cons_succ]
    refine wpAnyH_take (i := 15) (v := ?_) rfl (by kernel_rfl) (by kernel_rfl) (by kernel_rfl) (fun _ _ _ h => h) (Or.inl ⟨by kernel_rfl, ?_⟩) (by assumption) ?_
    rotate_left
    · intro w hSw
      (try dsimp only at hSw)
      go_simp
      try with_reducible rfl
    try simp only [Act.put, List.setIfInBounds_toArray, List.set_cons_zero, List.set_cons_succ]
    refine wpAnyH_take (i := 16) (v := ?_) rfl (by kernel_rfl) (by kernel_rfl) (by kernel_rfl) (fun _ _ _ h => h) (Or.inl ⟨by kernel_rfl, ?_⟩) (by assumption) ?_
    rotate_left
    · intro w hSw
      (try dsimp only at hSw)
      go_simp
      try with_reducible rfl
    try simp only [Act.put, List.setIfInBounds_toArray, List.set_cons_zero, List.set_cons_succ]
    refine wpAnyH_take (i := 18) (v := ?_) rfl (by kernel_rfl) (by kernel_rfl) (by kernel_rfl) (fun _ _ _ h => h) (Or.inl ⟨by kernel_rfl, ?_⟩) (by assumption) ?_
    rotate_left
    · intro w hSw
      (try dsimp only at hSw)
      go_simp
      try with_reducible rfl
    try simp only [Act.put, List.setIfInBounds_toArray, List.set_cons_zero, List.set_cons_succ]
    refine wpAnyH_take (i := 19) (v := ?_) rfl (by kernel_rfl) (by kernel_rfl) (by kernel_rfl) (fun _ _ _ h => h) (Or.inl ⟨by kernel_rfl, ?_⟩) (by assumption) ?_
    rotate_left
    · intro w hSw
      (try dsimp only at hSw)
      go_simp
      try with_reducible rfl
    try simp only [Act.put, List.setIfInBounds_toArray, List.set_cons_zero, List.set_cons_succ]
    refine wpAnyH_take (i := 21) (v := ?_) rfl (by kernel_rfl) (by kernel_rfl) (by kernel_rfl) (fun _ _ _ h => h) (Or.inl ⟨by kernel_rfl, ?_⟩) (by assumption) ?_
    rotate_left
    · intro w hSw
      (try dsimp only at hSw)
      go_simp
      try with_reducible rfl
    try simp only [Act.put, List.setIfInBounds_toArray, List.set_cons_zero, List.set_cons_succ]
    refine wpAnyH_take (i := 22) (v := ?_) rfl (by kernel_rfl) (by kernel_rfl) (by kernel_rfl) (fun _ _ _ h => h) (Or.inl ⟨by kernel_rfl, ?_⟩) (by assumption) ?_
    rotate_left
    · intro w hSw
      (try dsimp only at hSw)
      go_simp
      try with_reducible rfl
    try simp only [Act.put, List.setIfInBounds_toArray, List.set_cons_zero, List.set_cons_succ]
    refine wpAnyH_ready (rs := [17]) (by kernel_rfl) (by simp) ?_
    refine AllReadyH.cons rfl (fun K hK => ?_) AllReadyH.nil
    go_simp
    go_at_call 12
    refine (WD.out _ D3.out).mono ?_
    rintro e u4 ⟨rfl, b⟩
    have D4 := hide (show Below w6.heap.size w6 u4 from D3.out.trans (b.mono D3.out.size))
    clear b
    go_wp2_with fail
    refine hK.out _ _ (FX.out u4 D4.out) (fun hHeld => ?_)
    clear hK K
    try simp only [Act.put, List.setIfInBounds_toArray, List.set_cons_zero, List.set_cons_succ]
    refine wpAnyH_ready (rs := [20]) (by kernel_rfl) (by simp) ?_
    refine AllReadyH.cons rfl (fun K hK => ?_) AllReadyH.nil
    go_simp
    go_at_call 12
    refine (WE.out _ D4.out).mono ?_
    rintro e u5 ⟨rfl, b⟩
    have D5 := hide (show Below w6.heap.size w6 u5 from D4.out.trans (b.mono D4.out.size))
    clear b
    go_wp2_with fail
    refine hK.out _ _ (FX.out u5 D5.out) (fun hHeld => ?_)
    clear hK K
    try simp only [Act.put, List.setIfInBounds_toArray, List.set_cons_zero, List.set_cons_succ]
    refine wpAnyH_take (i := 23) (v := ?_) rfl (by kernel_rfl) (by kernel_rfl) (by kernel_rfl) (fun _ _ _ h => h) (Or.inl ⟨by kernel_rfl, ?_⟩) (by assumption) ?_
    rotate_left
    · intro w hSw
      (try dsimp only at hSw)
      go_simp
      try with_reducible rfl
    try simp only [Act.put, List.setIfInBounds_toArray, List.set_cons_zero, List.set_cons_succ]
    refine wpAnyH_take (i := 24) (v := ?_) rfl (by kernel_rfl) (by kernel_rfl) (by kernel_rfl) (fun _ _ _ h => h) (Or.inl ⟨by kernel_rfl, ?_⟩) (by assumption) ?_
    rotate_left
    · intro w hSw
      (try dsimp only at hSw)
      go_simp
      try with_reducible rfl
    try simp only [Act.put, List.setIfInBounds_toArray, List.set_cons_zero, List.set_cons_succ]
    refine wpAnyH_take (i := 25) (v := ?_) rfl (by kernel_rfl) (by kernel_rfl) (by kernel_rfl) (fun _ _ _ h => h) (Or.inl ⟨by kernel_rfl, ?_⟩) (by assumption) ?_
    rotate_left
    · intro w hSw
      (try dsimp only at hSw)
      go_simp
      try with_reducible rfl
    try simp only [Act.put, List.setIfInBounds_toArray, List.set_cons_zero, List.set_cons_succ]
    refine wpAnyH_take (i := 26) (v := ?_) rfl (by kernel_rfl) (by kernel_rfl) (by kernel_rfl) (fun _ _ _ h => h) (Or.inl ⟨by kernel_rfl, ?_⟩) (by assumption) ?_
    rotate_left
    · intro w hSw
      (try dsimp only at hSw)
      go_simp
      try with_reducible rfl
    try simp only [Act.put, List.setIfInBounds_toArray, List.set_cons_zero, List.set_cons_succ]
    refine wpAnyH_ready (rs := [27]) (by kernel_rfl) (by simp) ?_
    refine AllReadyH.cons rfl (fun K hK => ?_) AllReadyH.nil
    go_simp
    go_at_call 8
    refine (AW.out _).mono ?_
    rintro e u6 ⟨rfl, b⟩
    have D6 := hide (show Below w6.heap.size w6 u6 from D5.out.trans (b.mono D5.out.size))
    clear b
    go_wp2_with fail
    refine hK.out _ _ (FX.out u6 D6.out) (fun hHeld => ?_)
    clear hK K
    try simp only [Act.put, List.setIfInBounds_toArray, List.set_cons_zero, List.set_cons_succ]
    refine wpAnyH_take (i := 28) (v := ?_) rfl (by kernel_rfl) (by kernel_rfl) (by kernel_rfl) (fun _ _ _ h => h) (Or.inl ⟨by kernel_rfl, ?_⟩) (by assumption) ?_
    rotate_left
    · intro w hSw
      (try dsimp only at hSw)
      go_simp
      try with_reducible rfl
    try simp only [Act.put, List.setIfInBounds_toArray, List.set_cons_zero, List.set_cons_succ]
    refine wpAnyH_take (i := 29) (v := ?_) rfl (by kernel_rfl) (by kernel_rfl) (by kernel_rfl) (fun _ _ _ h => h) (Or.inl ⟨by kernel_rfl, ?_⟩) (by assumption) ?_
    rotate_left
    · intro w hSw
      (try dsimp only at hSw)
      go_simp
      try with_reducible rfl
    try simp only [Act.put, List.setIfInBounds_toArray, List.set_cons_zero, List.set_cons_succ]
    refine wpAnyH_done (by kernel_rfl) ?_ _
    go_simp
    refine NoPanic.normal ?_
    refine a9 _ _ ?_
    go_wp2_with fail
    go_ret
    exact ⟨rfl, B6.out.trans (D6.out.mono B6.out.size)⟩
end Go.Proofs.Ytonhhinpndaefaa
