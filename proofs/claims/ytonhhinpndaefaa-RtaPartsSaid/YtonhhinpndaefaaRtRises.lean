/-
  The walk of RtaRises, over the contracts of the program's rta.
-/
import Derived.Test.YtonhhinpndaefaaRtTells
namespace Go.Proofs.Ytonhhinpndaefaa
open Go.ChangeShapes Go.WideShapes Go.ChangeAt Go.RowKit
set_option linter.unusedVariables false
set_option linter.unusedSimpArgs false
/-- An append of what reads as a list, within a region that draws its order. -/
theorem step_append_reads {α : Type} {zz : Nat} {vals : α → List Value} {P : Program} {ops : Array Oper} {o : Oper} {a : Act} {w : World} {K : Act → World → Prop} {Q : Exit → Act → World → Prop} {E : Prop} (hgd : o.guard = none) (s x : Operand) (ty : TypeId)
    (ho : o.op = .call { callee := .builtin .append, args := #[s, x], argTypes := #[ty, ty] }) (base : Nat) (e : TypeId) (i : TypeInfo) (zv : Value) (bytes : Nat) (ht : P.underlying ty = some (.slice e)) (hi : P.info? e = some i) (hz : i.zero = some zv)
    (hsize : i.size = zz) (hby : i.bytes = bytes) (hzs : zv.cells.size = zz) (hsz : 0 < zz) (v : Value) (n : Nat) (xs : List Value) (hs : a.eval s = v) (hown : w.ownsRow base e zz v n xs)
    (A : Option Addr) (m c : Nat) (ys : List α) (hx : a.eval x = .slice A m c) (hv : ∀ x, (vals x).length = zz) (h1 : ∀ x, ∀ v ∈ vals x, v.oneCell' = true) (hr : Reads zz vals w A m ys) (hnil : A = none → c = 0)
    (h63 : n + m ≤ maxLen) (hbytes : (n + m) * bytes ≤ 140737488355328) (hbase : base ≤ w.heap.size)
    (h : ∀ v' w', w'.ownsRow base e zz v' (n + m) (xs ++ ys.flatMap vals) → w.grownBy w' v.ownBlock → K (a.put o.dst v') w') :
    if Region.wanted o (yielded ops a.tmps) = true then Oper.wp P o a w K Q else E := by
  have hw : Region.wanted o (yielded ops a.tmps) = true := by simp [Region.wanted, hgd]
  rw [if_pos hw]
  cases A with
  | none =>
    obtain rfl := hr.isNil rfl
    obtain rfl : ys = [] := List.eq_nil_of_length_eq_zero hr.1
    obtain rfl := hnil rfl
    have hrun := run_append_owned_none (P := P) (w := w) base ty o.type e i zz ht hi v n xs hown
    unfold Oper.wp execOp
    simp only [ho, resolve, invoke, builtin, Sem.run_bind, Sem.run_pure, Result.andThen_ok, List.map_toArray, List.map_cons, List.map_nil, hs, hx, hrun]
    exact h v w (by simpa using hown) (World.grownBy.refl w _)
  | some ad =>
    obtain ⟨v', w', hrun, h2, h3, _, _⟩ := run_append_own_at (P := P) w base ty o.type e i zv zz bytes ht hi hz hsize hby hzs hsz v n xs hown ad m c (ys.flatMap vals) (by rw [flat_length hv, hr.1]) (hr.cells hv ad rfl) (flat_cell h1 ys) h63 hbytes hbase
    unfold Oper.wp execOp
    simp only [ho, resolve, invoke, builtin, Sem.run_bind, Sem.run_pure, Result.andThen_ok, List.map_toArray, List.map_cons, List.map_nil, hs, hx, hrun]
    exact h v' w' h2 h3
theorem part_info : (Try.prog.info? 35).map (fun i => (i.zero, i.size, i.bytes)) = some (some (.agg #[.int .i64 0, .int .i64 0]), 2, 16) := by kernel_rfl
set_option maxHeartbeats 8000000 in
theorem walk_rtaRisesC (C : PRta) (w : World) (own : Int) (ho : (Lit.int .i64 own).wf = true) (block : Int) (hb : (Lit.int .i64 block).wf = true) (pa : Option Addr) (n cn : Nat) (ps : List Pt) (hin : Came 2 ptVals PtFit w pa n cn ps) (mp mc : Int) (hp : (Lit.int .i64 mp).wf = true) (hc : (Lit.int .i64 mc).wf = true) (by_ : Int) (hy : (Lit.int .i64 by_).wf = true) :
    Calls Try.prog 5 #[.int .i64 own, .int .i64 block, .slice pa n cn, .agg #[.int .i64 mp, .int .i64 mc], .int .i64 by_] w fun e w' => e = .returned (.bool true) ∧ Below w.heap.size w w' := by
  have AW := hide (fun W => rtawake_any C W)
  obtain ⟨w0, hw0⟩ : ∃ w0, w0 = w.alloc (.cells #[.int .i64 mp, .int .i64 mc] 35) := ⟨_, rfl⟩
  have b0 : Below w.heap.size w w0 := by rw [hw0]; exact (Below.refl w.heap.size w).alloc (Nat.le_refl _) _
  have B0 := hide b0
  have HW0 := hide hw0
  obtain ⟨X, hX⟩ : ∃ X, X = w.heap.size := ⟨_, rfl⟩
  have HX := hide hX
  by_cases hg : 12 < n
  · have g1 : (12 : Int) < (n : Int) := by omega
    clear hin C hw0 b0 hX
    go_enter Try.func5, Try.ntmps5
    go_upto_region 1 with fail
    rw [← HW0.out]
    go_wp2_with (go_at_call 8; refine (AW.out _).mono ?_; rintro e w' ⟨rfl, b⟩; have B := hide (B0.out.trans (b.mono B0.out.size)); clear b)
    go_ret
    exact ⟨rfl, B.out⟩
  · have g1 : ¬ (12 : Int) < (n : Int) := by omega
    obtain ⟨i0, hi0, hz0, hz1, hz2⟩ := info_parts part_info
    have I0 := hide (show Try.prog.info? 35 = some i0 ∧ i0.zero = some (.agg #[.int .i64 0, .int .i64 0]) ∧ i0.size = 2 ∧ i0.bytes = 16 from ⟨hi0, hz0, hz1, hz2⟩)
    have HN := hide (show n ≤ 12 from by omega)
    have HR := hide hin.reads
    have FT := hide (show ∀ x ∈ ps, PtFit w x from hin.2.2.2.2.1)
    have NL := hide (show pa = none → cn = 0 from hin.2.2.2.1)
    have M0 := hide (show w0.heap[X]? = some (.cells #[.int .i64 mp, .int .i64 mc] 35 (0, 0)) from by rw [hw0, hX]; exact heap_alloc_new _ _)
    have FM := hide (show ∀ x ∈ ps ++ [(⟨mp, mc⟩ : Pt)], PtFit w x from fun x hx => by
      rcases List.mem_append.1 hx with h | h
      · exact hin.2.2.2.2.1 x h
      · rw [List.mem_singleton] at h; rw [h]; exact ⟨hp, hc⟩)
    have LO := hide (fun (W : World) => low_i own 200 W (by omega) (by omega))
    have LB := hide (fun (W : World) => low_i block 100 W (by omega) (by omega))
    have LY := hide (fun (W : World) => low_i by_ 50 W (by omega) (by omega))
    have RP := hide (show ∀ o b : Int, 0 ≤ o → o < 200 → 0 ≤ b → b < 100 → Calls Try.prog 9 #[.int .i64 o, .int .i64 b, .slice pa n cn, .int .i64 600] w0 fun e w' => ∃ v, e = .returned v ∧ RespIs o b ps 600 v ∧ Below w0.heap.size w0 w' from fun o b o0 o1 b1 b2 => C.resp w0 o b pa n cn ps 600 (HR.out.below b0) (fun x hx => FT.out x hx) (by have := HN.out; omega) (wf_i (by omega) (by omega)) (wf_i (by omega) (by omega)) (by decide))
    have RQ := hide (show ∀ (o b : Int) (W : World) (A : Option Addr) (c : Nat), 0 ≤ o → o < 300 → 0 ≤ b → b < 100 → Reads 2 ptVals W A (n + 1) (ps ++ [⟨mp, mc⟩]) → Calls Try.prog 9 #[.int .i64 o, .int .i64 b, .slice A (n + 1) c, .int .i64 600] W fun e w' => ∃ v, e = .returned v ∧ RespIs o b (ps ++ [⟨mp, mc⟩]) 600 v ∧ Below W.heap.size W w' from fun o b W A c o0 o1 b1 b2 hr => by
      have h5 : ∀ x ∈ ps ++ [(⟨mp, mc⟩ : Pt)], PtFit W x := fun x hx => FM.out x hx
      have := C.resp W o b A (n + 1) c (ps ++ [⟨mp, mc⟩]) 600 hr h5 (by have := HN.out; omega) (wf_i (by omega) (by omega)) (wf_i (by omega) (by omega)) (by decide)
      exact this)
    clear hin C hg ho hb hp hc hy hi0 hz0 hz1 hz2 hw0 b0 hX
    go_enter Try.func5, Try.ntmps5
    go_upto_region 1 with fail
    rw [← HX.out, ← HW0.out]
    go_upto_region 4 with (first
      | (go_at_call 14; refine (LO.out _).mono ?_; rintro e w' ⟨⟨o, ho2, rfl⟩, rfl⟩; clear LO)
      | (go_at_call 14; refine (LB.out _).mono ?_; rintro e w' ⟨⟨b, hb2, rfl⟩, rfl⟩; clear LB)
      | (go_at_call 14; refine (LY.out _).mono ?_; rintro e w' ⟨⟨y, hy2, rfl⟩, rfl⟩; clear LY))
    have R1 := hide (RP.out o b ho2.1 ho2.2 hb2.1 hb2.2)
    obtain ⟨o', ho'⟩ : ∃ o', o' = o + y := ⟨_, rfl⟩
    have eo : o + y = o' := ho'.symm
    have wo : IntKind.i64.wrap (o + y) = o' := by rw [eo]; exact IntWalk.i64_in _ (by omega)
    have R2 := hide (fun (W : World) (A : Option Addr) (c : Nat) (h : Reads 2 ptVals W A (n + 1) (ps ++ [⟨mp, mc⟩])) => RQ.out o' b W A c (by omega) (by omega) hb2.1 hb2.2 h)
    have OO := hide (show o ≤ o' from by omega)
    clear RP RQ ho2 hb2 hy2 ho' eo
    go_upto_region 5 with (go_at_call 9; refine R1.out.mono ?_; rintro e w1 ⟨v1, rfl, h1, b1⟩; obtain ⟨r, ok, rfl, hr⟩ := h1; have IR := hide hr; have B1 := hide b1; clear hr b1)
    have M1 := hide (show w1.heap[X]? = some (.cells #[.int .i64 mp, .int .i64 mc] 35 (0, 0)) from (B1.out.block X (lt_of_heap M0.out)).trans M0.out)
    have m0 : w1.cell? ⟨X, 0, none⟩ = some (.int .i64 mp) := by rw [cell_of_row _ _ _ _ _ _ M1.out]; rfl
    have m1 : w1.cell? ⟨X, 1, none⟩ = some (.int .i64 mc) := by rw [cell_of_row _ _ _ _ _ _ M1.out]; rfl
    have BW := hide (show Below w.heap.size w w1 from B0.out.trans (B1.out.mono B0.out.size))
    have SF := hide (show ∀ W, Below w1.heap.size w1 W → W.cell? ⟨X, 0, none⟩ = some (.int .i64 mp) ∧ W.cell? ⟨X, 1, none⟩ = some (.int .i64 mc) from fun W b => ⟨(b.cell (p := ⟨X, 0, none⟩) (lt_of_heap M1.out)).trans m0, (b.cell (p := ⟨X, 1, none⟩) (lt_of_heap M1.out)).trans m1⟩)
    have D1 := hide (show Below w1.heap.size w1 w1.drew from below_drewN (Below.refl _ w1) 1)
    rename_i Q9 K9 a9
    refine wp_region_noPanic ?_
    refine wp_region_held_drew (S := (fun W => W.cell? ⟨X, 0, none⟩ = some (.int .i64 mp) ∧ W.cell? ⟨X, 1, none⟩ = some (.int .i64 mc))) (by kernel_rfl) (SF.out _ D1.out) (fun hHeld => ?_)
    refine wpAnyH_take (i := 0) (v := ?_) rfl (by kernel_rfl) (by kernel_rfl) (by kernel_rfl) (fun _ _ _ h => h) (Or.inl ⟨by kernel_rfl, ?_⟩) (by assumption) ?_
    rotate_left
    · intro w hSw
      (try dsimp only at hSw)
      go_simp
      try with_reducible rfl
    try simp only [Act.put, List.setIfInBounds_toArray, List.set_cons_zero, List.set_cons_succ]
    refine wpAnyH_take (i := 1) (v := ?_) rfl (by kernel_rfl) (by kernel_rfl) (by kernel_rfl) (fun _ _ _ h => h) (Or.inl ⟨by kernel_rfl, ?_⟩) (by assumption) ?_
    rotate_left
    · intro w hSw
      (try dsimp only at hSw)
      go_simp
      try with_reducible rfl
    try simp only [Act.put, List.setIfInBounds_toArray, List.set_cons_zero, List.set_cons_succ]
    refine wpAnyH_take (i := 2) (v := ?_) rfl (by kernel_rfl) (by kernel_rfl) (by kernel_rfl) (fun _ _ _ h => h) (Or.inl ⟨by kernel_rfl, ?_⟩) (by assumption) ?_
    rotate_left
    · intro w hSw
      (try dsimp only at hSw)
      go_simp
      try with_reducible rfl
    try simp only [Act.put, List.setIfInBounds_toArray, List.set_cons_zero, List.set_cons_succ]
    refine wpAnyH_take (i := 3) (v := ?_) rfl (by kernel_rfl) (by kernel_rfl) (by kernel_rfl) (fun _ _ _ h => h) (Or.inl ⟨by kernel_rfl, ?_⟩) (by assumption) ?_
    rotate_left
    · intro w hSw
      (try dsimp only at hSw)
      go_simp
      try with_reducible rfl
    try simp only [Act.put, List.setIfInBounds_toArray, List.set_cons_zero, List.set_cons_succ]
    refine wpAnyH_take (i := 4) (v := ?_) rfl (by kernel_rfl) (by kernel_rfl) (by kernel_rfl) (fun _ _ _ h => h) (Or.inl ⟨by kernel_rfl, ?_⟩) (by assumption) ?_
    rotate_left
    · intro w hSw
      (try dsimp only at hSw)
      go_simp
      try with_reducible rfl
    try simp only [Act.put, List.setIfInBounds_toArray, List.set_cons_zero, List.set_cons_succ]
    refine wpAnyH_take (i := 6) (v := ?_) rfl (by kernel_rfl) (by kernel_rfl) (by kernel_rfl) (fun _ _ _ h => h) (Or.inl ⟨by kernel_rfl, ?_⟩) (by assumption) ?_
    rotate_left
    · intro w hSw
      (try dsimp only at hSw)
      go_simp
      try with_reducible rfl
    try simp only [Act.put, List.setIfInBounds_toArray, List.set_cons_zero, List.set_cons_succ]
    refine wpAnyH_ready (rs := [5, 7]) (by kernel_rfl) (by simp) ?_
    refine AllReadyH.cons rfl (fun K hK => ?_) (AllReadyH.cons rfl (fun K hK => ?_) AllReadyH.nil)
    · refine step_append_reads rfl (.const (.slice none 0 0)) (.tmp 37) _ rfl w1.heap.size 35 i0 _ 16 Try.underlying22 I0.out.1 I0.out.2.1 I0.out.2.2.1 I0.out.2.2.2 rfl (by omega) _ 0 [] rfl (World.ownsRow_nil _ _ _ _) pa n cn ps rfl ptVals_len ptVals_cell (HR.out.below (BW.out.trans (D1.out.mono BW.out.size))) NL.out (by have := HN.out; unfold maxLen; omega) (by have := HN.out; omega) (D1.out.size) ?_
      intro v2 w2 o2 g2
      rw [Nat.zero_add, List.nil_append] at o2
      obtain ⟨A2, c2, e2⟩ := own_slicePt o2
      subst e2
      have O2 := hide o2
      have B2 := hide (show Below w1.heap.size w1 w2 from D1.out.grown g2 (D1.out.size) (fun k hk => by cases hk))
      have G2 := hide g2
      clear o2 g2
      refine hK _ _ (SF.out _ B2.out) (fun hHeld => ?_)
      clear hK K
      try simp only [Act.put, List.setIfInBounds_toArray, List.set_cons_zero, List.set_cons_succ]
      refine wpAnyH_ready (rs := [7]) (by kernel_rfl) (by simp) ?_
      refine AllReadyH.cons rfl (fun K hK => ?_) AllReadyH.nil
      go_simp
      go_wp2_with fail
      refine hK _ _ (SF.out _ (B2.out.alloc B2.out.size _)) (fun hHeld => ?_)
      clear hK K
      try simp only [Act.put, List.setIfInBounds_toArray, List.set_cons_zero, List.set_cons_succ]
      refine wpAnyH_ready (rs := [8]) (by kernel_rfl) (by simp) ?_
      refine AllReadyH.cons rfl (fun K hK => ?_) AllReadyH.nil
      refine step_append_reads rfl (.tmp 38) (.tmp 40) _ rfl w1.heap.size 35 i0 _ 16 Try.underlying22 I0.out.1 I0.out.2.1 I0.out.2.2.1 I0.out.2.2.2 rfl (by omega) _ n (ps.flatMap ptVals) rfl (O2.out.alloc _) (some ⟨w2.heap.size, 0, none⟩) 1 1 [(⟨mp, mc⟩ : Pt)] rfl ptVals_len ptVals_cell (reads_block (xs := [(⟨mp, mc⟩ : Pt)]) ptVals_len (heap_alloc_new w2 _)) (fun h => by cases h) (by have := HN.out; unfold maxLen; omega) (by have := HN.out; omega) ((B2.out.alloc B2.out.size _).size) ?_
      intro v3 w3 o3 g3
      rw [← List.flatMap_append] at o3
      obtain ⟨A3, c3, e3, hR3, _⟩ := own_reads ptVals_len (by omega) o3
      subst e3
      have R3 := hide hR3
      have B3 := hide (show Below w1.heap.size w1 w3 from (B2.out.alloc B2.out.size _).grown g3 (B2.out.alloc B2.out.size _).size (fun k hk => (O2.out.lt k hk).1))
      clear o3 g3 hR3
      refine hK _ _ (SF.out _ B3.out) (fun hHeld => ?_)
      clear hK K
      try simp only [Act.put, List.setIfInBounds_toArray, List.set_cons_zero, List.set_cons_succ]
      refine wpAnyH_ready (rs := [9]) (by kernel_rfl) (by simp) ?_
      refine AllReadyH.cons rfl (fun K hK => ?_) AllReadyH.nil
      go_simp
      go_at_call 9
      refine (R2.out w3 A3 c3 R3.out).mono ?_
      rintro e w4 ⟨v4, rfl, h4, b4⟩
      obtain ⟨r', ok', rfl, hr'⟩ := h4
      have IR' := hide hr'
      have B4 := hide (show Below w1.heap.size w1 w4 from B3.out.trans (b4.mono B3.out.size))
      clear hr' b4
      go_wp2_with fail
      refine hK _ _ (SF.out _ B4.out) (fun hHeld => ?_)
      clear hK K
      try simp only [Act.put, List.setIfInBounds_toArray, List.set_cons_zero, List.set_cons_succ]
      refine wpAnyH_take (i := 10) (v := ?_) rfl (by kernel_rfl) (by kernel_rfl) (by kernel_rfl) (fun _ _ _ h => h) (Or.inl ⟨by kernel_rfl, ?_⟩) (by assumption) ?_
      rotate_left
      · intro w hSw
        (try dsimp only at hSw)
        go_simp
        try with_reducible rfl
      try simp only [Act.put, List.setIfInBounds_toArray, List.set_cons_zero, List.set_cons_succ]
      refine wpAnyH_take (i := 11) (v := ?_) rfl (by kernel_rfl) (by kernel_rfl) (by kernel_rfl) (fun _ _ _ h => h) (Or.inl ⟨by kernel_rfl, ?_⟩) (by assumption) ?_
      rotate_left
      · intro w hSw
        (try dsimp only at hSw)
        go_simp
        try with_reducible rfl
      try simp only [Act.put, List.setIfInBounds_toArray, List.set_cons_zero, List.set_cons_succ]
      refine wpAnyH_take (i := 12) (v := ?_) rfl (by kernel_rfl) (by kernel_rfl) (by kernel_rfl) (fun _ _ _ h => h) (Or.inl ⟨by kernel_rfl, ?_⟩) (by assumption) ?_
      rotate_left
      · intro w hSw
        (try dsimp only at hSw)
        go_simp
        try with_reducible rfl
      try simp only [Act.put, List.setIfInBounds_toArray, List.set_cons_zero, List.set_cons_succ]
      refine wpAnyH_take (i := 13) (v := ?_) rfl (by kernel_rfl) (by kernel_rfl) (by kernel_rfl) (fun _ _ _ h => h) (Or.inl ⟨by kernel_rfl, ?_⟩) (by assumption) ?_
      rotate_left
      · intro w hSw
        (try dsimp only at hSw)
        go_simp
        try with_reducible rfl
      try simp only [Act.put, List.setIfInBounds_toArray, List.set_cons_zero, List.set_cons_succ]
      refine wpAnyH_take (i := 14) (v := ?_) rfl (by kernel_rfl) (by kernel_rfl) (by kernel_rfl) (fun _ _ _ h => h) (Or.inl ⟨by kernel_rfl, ?_⟩) (by assumption) ?_
      rotate_left
      · intro w hSw
        (try dsimp only at hSw)
        go_simp
        try with_reducible rfl
      try simp only [Act.put, List.setIfInBounds_toArray, List.set_cons_zero, List.set_cons_succ]
      refine wpAnyH_done (by kernel_rfl) ?_ _
      go_simp
      refine NoPanic.normal ?_
      refine a9 _ _ ?_
      clear m0 m1 hHeld
      cases ok' with
      | false =>
        go_wp2_with (go_at_call 8; refine (AW.out _).mono ?_; rintro e w7 ⟨rfl, b7⟩; have B7 := hide (BW.out.trans ((B4.out.trans (b7.mono B4.out.size)).mono BW.out.size)); clear b7)
        go_ret
        exact ⟨rfl, B7.out⟩
      | true =>
        obtain ⟨e, hle⟩ := IR.out.rises IR'.out OO.out rfl
        subst e
        clear IR IR'
        go_wp2_with (go_at_call 8; refine (AW.out _).mono ?_; rintro e w7 ⟨rfl, b7⟩; have B7 := hide (BW.out.trans ((B4.out.trans (b7.mono B4.out.size)).mono BW.out.size)); clear b7)
        go_ret
        exact ⟨rfl, B7.out⟩
    · go_simp
      go_wp2_with fail
      refine hK _ _ (SF.out _ (D1.out.alloc D1.out.size _)) (fun hHeld => ?_)
      clear hK K
      try simp only [Act.put, List.setIfInBounds_toArray, List.set_cons_zero, List.set_cons_succ]
      refine wpAnyH_ready (rs := [5]) (by kernel_rfl) (by simp) ?_
      refine AllReadyH.cons rfl (fun K hK => ?_) AllReadyH.nil
      refine step_append_reads rfl (.const (.slice none 0 0)) (.tmp 37) _ rfl w1.heap.size 35 i0 _ 16 Try.underlying22 I0.out.1 I0.out.2.1 I0.out.2.2.1 I0.out.2.2.2 rfl (by omega) _ 0 [] rfl (World.ownsRow_nil _ _ _ _) pa n cn ps rfl ptVals_len ptVals_cell (HR.out.below (BW.out.trans ((D1.out.alloc D1.out.size (.cells #[.int .i64 mp, .int .i64 mc] 35)).mono BW.out.size))) NL.out (by have := HN.out; unfold maxLen; omega) (by have := HN.out; omega) ((D1.out.alloc D1.out.size (.cells #[.int .i64 mp, .int .i64 mc] 35)).size) ?_
      intro v2 w2 o2 g2
      rw [Nat.zero_add, List.nil_append] at o2
      obtain ⟨A2, c2, e2⟩ := own_slicePt o2
      subst e2
      have O2 := hide o2
      have B2 := hide (show Below w1.heap.size w1 w2 from (D1.out.alloc D1.out.size (.cells #[.int .i64 mp, .int .i64 mc] 35)).grown g2 ((D1.out.alloc D1.out.size (.cells #[.int .i64 mp, .int .i64 mc] 35)).size) (fun k hk => by cases hk))
      have G2 := hide g2
      clear o2 g2
      refine hK _ _ (SF.out _ B2.out) (fun hHeld => ?_)
      clear hK K
      try simp only [Act.put, List.setIfInBounds_toArray, List.set_cons_zero, List.set_cons_succ]
      refine wpAnyH_ready (rs := [8]) (by kernel_rfl) (by simp) ?_
      refine AllReadyH.cons rfl (fun K hK => ?_) AllReadyH.nil
      refine step_append_reads rfl (.tmp 38) (.tmp 40) _ rfl w1.heap.size 35 i0 _ 16 Try.underlying22 I0.out.1 I0.out.2.1 I0.out.2.2.1 I0.out.2.2.2 rfl (by omega) _ n (ps.flatMap ptVals) rfl O2.out (some ⟨w1.heap.size, 0, none⟩) 1 1 [(⟨mp, mc⟩ : Pt)] rfl ptVals_len ptVals_cell (reads_block (xs := [(⟨mp, mc⟩ : Pt)]) ptVals_len ((G2.out.block w1.heap.size (by simp) (fun h => by cases h)).trans (heap_alloc_new w1 _))) (fun h => by cases h) (by have := HN.out; unfold maxLen; omega) (by have := HN.out; omega) (B2.out.size) ?_
      intro v3 w3 o3 g3
      rw [← List.flatMap_append] at o3
      obtain ⟨A3, c3, e3, hR3, _⟩ := own_reads ptVals_len (by omega) o3
      subst e3
      have R3 := hide hR3
      have B3 := hide (show Below w1.heap.size w1 w3 from B2.out.grown g3 B2.out.size (fun k hk => (O2.out.lt k hk).1))
      clear o3 g3 hR3
      refine hK _ _ (SF.out _ B3.out) (fun hHeld => ?_)
      clear hK K
      try simp only [Act.put, List.setIfInBounds_toArray, List.set_cons_zero, List.set_cons_succ]
      refine wpAnyH_ready (rs := [9]) (by kernel_rfl) (by simp) ?_
      refine AllReadyH.cons rfl (fun K hK => ?_) AllReadyH.nil
      go_simp
      go_at_call 9
      refine (R2.out w3 A3 c3 R3.out).mono ?_
      rintro e w4 ⟨v4, rfl, h4, b4⟩
      obtain ⟨r', ok', rfl, hr'⟩ := h4
      have IR' := hide hr'
      have B4 := hide (show Below w1.heap.size w1 w4 from B3.out.trans (b4.mono B3.out.size))
      clear hr' b4
      go_wp2_with fail
      refine hK _ _ (SF.out _ B4.out) (fun hHeld => ?_)
      clear hK K
      try simp only [Act.put, List.setIfInBounds_toArray, List.set_cons_zero, List.set_cons_succ]
      refine wpAnyH_take (i := 10) (v := ?_) rfl (by kernel_rfl) (by kernel_rfl) (by kernel_rfl) (fun _ _ _ h => h) (Or.inl ⟨by kernel_rfl, ?_⟩) (by assumption) ?_
      rotate_left
      · intro w hSw
        (try dsimp only at hSw)
        go_simp
        try with_reducible rfl
      try simp only [Act.put, List.setIfInBounds_toArray, List.set_cons_zero, List.set_cons_succ]
      refine wpAnyH_take (i := 11) (v := ?_) rfl (by kernel_rfl) (by kernel_rfl) (by kernel_rfl) (fun _ _ _ h => h) (Or.inl ⟨by kernel_rfl, ?_⟩) (by assumption) ?_
      rotate_left
      · intro w hSw
        (try dsimp only at hSw)
        go_simp
        try with_reducible rfl
      try simp only [Act.put, List.setIfInBounds_toArray, List.set_cons_zero, List.set_cons_succ]
      refine wpAnyH_take (i := 12) (v := ?_) rfl (by kernel_rfl) (by kernel_rfl) (by kernel_rfl) (fun _ _ _ h => h) (Or.inl ⟨by kernel_rfl, ?_⟩) (by assumption) ?_
      rotate_left
      · intro w hSw
        (try dsimp only at hSw)
        go_simp
        try with_reducible rfl
      try simp only [Act.put, List.setIfInBounds_toArray, List.set_cons_zero, List.set_cons_succ]
      refine wpAnyH_take (i := 13) (v := ?_) rfl (by kernel_rfl) (by kernel_rfl) (by kernel_rfl) (fun _ _ _ h => h) (Or.inl ⟨by kernel_rfl, ?_⟩) (by assumption) ?_
      rotate_left
      · intro w hSw
        (try dsimp only at hSw)
        go_simp
        try with_reducible rfl
      try simp only [Act.put, List.setIfInBounds_toArray, List.set_cons_zero, List.set_cons_succ]
      refine wpAnyH_take (i := 14) (v := ?_) rfl (by kernel_rfl) (by kernel_rfl) (by kernel_rfl) (fun _ _ _ h => h) (Or.inl ⟨by kernel_rfl, ?_⟩) (by assumption) ?_
      rotate_left
      · intro w hSw
        (try dsimp only at hSw)
        go_simp
        try with_reducible rfl
      try simp only [Act.put, List.setIfInBounds_toArray, List.set_cons_zero, List.set_cons_succ]
      refine wpAnyH_done (by kernel_rfl) ?_ _
      go_simp
      refine NoPanic.normal ?_
      refine a9 _ _ ?_
      clear m0 m1 hHeld
      cases ok' with
      | false =>
        go_wp2_with (go_at_call 8; refine (AW.out _).mono ?_; rintro e w7 ⟨rfl, b7⟩; have B7 := hide (BW.out.trans ((B4.out.trans (b7.mono B4.out.size)).mono BW.out.size)); clear b7)
        go_ret
        exact ⟨rfl, B7.out⟩
      | true =>
        obtain ⟨e, hle⟩ := IR.out.rises IR'.out OO.out rfl
        subst e
        clear IR IR'
        go_wp2_with (go_at_call 8; refine (AW.out _).mono ?_; rintro e w7 ⟨rfl, b7⟩; have B7 := hide (BW.out.trans ((B4.out.trans (b7.mono B4.out.size)).mono BW.out.size)); clear b7)
        go_ret
        exact ⟨rfl, B7.out⟩
end Go.Proofs.Ytonhhinpndaefaa
