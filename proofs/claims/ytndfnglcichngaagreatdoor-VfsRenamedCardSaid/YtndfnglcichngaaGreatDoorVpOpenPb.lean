/-
  The program's paths: Open (written by tools/gen/vpcalls.py).
-/
import Derived.Test.YtndfnglcichngaaGreatDoorPa30
namespace Go.Proofs.YtndfnglcichngaaGreatDoor
open Go.ChangeShapes Go.WideShapes Go.ChangeAt Go.RowKit
set_option linter.unusedVariables false
set_option linter.unusedSimpArgs false
section
variable {w : World} {U : Nat → Prop} {H S T V : Nat} {s s' : In} {B : Int}
theorem and_one {fl : Int} (h0 : ¬ fl < 0) (h7 : ¬ 7 < fl) : bits BinOp.and IntKind.i64 fl 1 = fl % 2 := by
  have h : fl = 0 ∨ fl = 1 ∨ fl = 2 ∨ fl = 3 ∨ fl = 4 ∨ fl = 5 ∨ fl = 6 ∨ fl = 7 := by omega
  rcases h with rfl | rfl | rfl | rfl | rfl | rfl | rfl | rfl <;> rfl
theorem and_two {fl : Int} (h0 : ¬ fl < 0) (h7 : ¬ 7 < fl) : bits BinOp.and IntKind.i64 fl 2 = fl / 2 % 2 * 2 := by
  have h : fl = 0 ∨ fl = 1 ∨ fl = 2 ∨ fl = 3 ∨ fl = 4 ∨ fl = 5 ∨ fl = 6 ∨ fl = 7 := by omega
  rcases h with rfl | rfl | rfl | rfl | rfl | rfl | rfl | rfl <;> rfl
set_option maxRecDepth 10000 in
set_option maxHeartbeats 8000000 in
theorem pvopenv_any (h : PVf H S T w U V s) (g : GoodP s [] B) (hB : B ≤ 999999) (t : Txt) (ht : t.length ≤ 1000) (fl : Int) : Calls Tryz.prog 19 #[.pointer (some ⟨V, 0, none⟩), .string (bt t), .int .i64 fl] w (SideO (fun w' U' => PVf H S T w' U' V (opnV s t fl).2.2) U w (.tuple #[.int .i64 ((opnV s t fl).1 : Nat), .int .i64 ((opnV s t fl).2.1 : Nat)])) := by
  have HB := hide (fun (W : World) (b : Below w.heap.size w W) => h.below b)
  by_cases hfl : fl < 0 ∨ 7 < fl
  · rw [show opnV s t fl = (0, 19, s) from if_pos hfl]
    by_cases f0 : fl < 0
    · clear h g hfl
      go_enter Tryz.func19, Tryz.ntmps19
      go_wp2_with fail
      go_ret2
      exact SideO.of_below (HB.out _ (Below.refl _ _)) (Below.refl _ _)
    · have f7 : 7 < fl := hfl.resolve_left f0
      clear h g hfl
      go_enter Tryz.func19, Tryz.ntmps19
      go_wp2_with fail
      go_ret2
      exact SideO.of_below (HB.out _ (Below.refl _ _)) (Below.refl _ _)
  have f0 : ¬ fl < 0 := fun e => hfl (.inl e)
  have f7 : ¬ 7 < fl := fun e => hfl (.inr e)
  have HN := hide (show opnV s t fl = if (walkI s t).2 = 0 then (if dirI s (walkI s t).1 then (0, 12, s) else ((walkI s t).1, 0, opI (if fl / 2 % 2 = 1 then cutI s (walkI s t).1 else s) (walkI s t).1)) else if (walkI s t).2 ≠ 9 ∨ fl % 2 = 0 then (0, (walkI s t).2, s) else newE s t from if_neg hfl)
  have a1 := and_one f0 f7
  have a2 := and_two f0 f7
  have ST0 := pvstat_any h g t ht
  have HSA := show statA s t = if (walkI s t).2 = 0 then nodA s (walkI s t).1 else .agg #[.int .i64 0, .int .i64 0, .bool false, .int .i64 0] from rfl
  have NI := fun (e : (walkI s t).2 = 0) => nodA_is (walkI_isI g e)
  have IS := fun (e : (walkI s t).2 = 0) => walkI_isI g e
  have NW := newE_add (s := s) (t := t)
  have D16 := walkI_lt g t
  obtain ⟨d, hdd⟩ : ∃ z, z = (walkI s t).1 := ⟨_, rfl⟩
  obtain ⟨we, hwe⟩ : ∃ z, z = (walkI s t).2 := ⟨_, rfl⟩
  rw [← hwe, ← hdd] at HN HSA
  rw [← hwe] at ST0 NW
  rw [← hdd] at D16
  simp only [← hwe, ← hdd] at NI IS
  clear hdd hwe hfl
  by_cases z0 : we = 0
  · subst z0
    rw [if_pos rfl] at HN HSA
    obtain ⟨g1, g3, hn⟩ := NI rfl
    have is := IS rfl
    rw [hn] at HSA
    rw [HSA] at ST0
    obtain ⟨dr, hdr⟩ : ∃ z, z = dirI s (d : Int) := ⟨_, rfl⟩
    rw [← hdr] at ST0 HN
    have ST := hide ST0
    clear hn HSA NI IS ST0 NW
    cases dr with
    | true =>
      rw [show opnV s t fl = (0, 12, s) from HN.out]
      clear HN h g hdr is a1 a2
      go_enter Tryz.func19, Tryz.ntmps19
      go_upto_region 6 with (go_at_call 28; refine ST.out.mono ?_; rintro e w1 ⟨rfl, b1⟩; have B1 := hide b1; clear b1)
      have hy := heap_alloc_new w1 (.cells #[.int .i64 (d : Int), .int .i64 g1, .bool true, .int .i64 g3] 54)
      have lv := lt_of_heap (HB.out _ B1.out).1
      have hne : V ≠ w1.heap.size := by omega
      have B2 := hide (B1.out.trans (((Below.refl w1.heap.size w1).alloc (Nat.le_refl _) (.cells #[.int .i64 (d : Int), .int .i64 g1, .bool true, .int .i64 g3] 54)).mono B1.out.size))
      have LU := hide (fun i (hi : U i) => show i < w1.heap.size from (keepsPVf H S T).lt (HB.out _ B1.out) i hi)
      have SZ := hide (show (w1.alloc (.cells #[.int .i64 (d : Int), .int .i64 g1, .bool true, .int .i64 g3] 54)).heap.size = w1.heap.size + 1 from by simp)
      generalize w1.alloc (.cells #[.int .i64 (d : Int), .int .i64 g1, .bool true, .int .i64 g3] 54) = w2 at *
      generalize w1.heap.size = Y at *
      have y2 : w2.cell? ⟨Y, 2, none⟩ = some (.bool true) := by rw [cell_of_row _ _ _ _ _ _ hy]; rfl
      have HY := hide hy
      clear hy lv
      go_wp2_with fail
      go_ret2
      exact SideO.of_below (HB.out _ B2.out) B2.out
    | false =>
      have HN : Hid (opnV s t fl = (d, 0, opI (if fl / 2 % 2 = 1 then cutI s d else s) d)) := hide HN.out
      rw [HN.out]
      by_cases q1 : fl / 2 % 2 = 1
      · rw [if_pos q1]
        rw [q1] at a2
        have CUT := hide (fun (W : World) (b : Below w.heap.size w W) => show Calls Tryz.prog 56 #[.pointer (some ⟨S, 0, none⟩), .int .i64 (d : Int)] W (SideO (fun w' U' => PVf H S T w' U' V (cutI s d)) U W (.int .i64 (thE s.so d : Nat))) from (h.below b).stored (fun E p _ => pct_any p (wf_i (by omega) (by omega))))
        have OPN := hide (fun (W : World) (U' : Nat → Prop) (ha : PVf H S T W U' V (cutI s d)) => show Calls Tryz.prog 57 #[.pointer (some ⟨T, 0, none⟩), .int .i64 (d : Int)] W (SideO (fun w' U' => PVf H S T w' U' V (opI (cutI s d) d)) U' W (.int .i64 0)) from by
          have := pvopen_any ha (g.cut d) (by omega) (d : Int)
          rw [show opIE (cutI s d) (d : Int) = 0 from if_pos is] at this
          exact this)
        clear HN h g hdr is q1 D16 a1
        go_enter Tryz.func19, Tryz.ntmps19
        go_upto_region 6 with (go_at_call 28; refine ST.out.mono ?_; rintro e w1 ⟨rfl, b1⟩; have B1 := hide b1; clear b1)
        have hy := heap_alloc_new w1 (.cells #[.int .i64 (d : Int), .int .i64 g1, .bool false, .int .i64 g3] 54)
        have lv := lt_of_heap (HB.out _ B1.out).1
        have hne : V ≠ w1.heap.size := by omega
        have B2 := hide (B1.out.trans (((Below.refl w1.heap.size w1).alloc (Nat.le_refl _) (.cells #[.int .i64 (d : Int), .int .i64 g1, .bool false, .int .i64 g3] 54)).mono B1.out.size))
        have LU := hide (fun i (hi : U i) => show i < w1.heap.size from (keepsPVf H S T).lt (HB.out _ B1.out) i hi)
        have SZ := hide (show (w1.alloc (.cells #[.int .i64 (d : Int), .int .i64 g1, .bool false, .int .i64 g3] 54)).heap.size = w1.heap.size + 1 from by simp)
        generalize w1.alloc (.cells #[.int .i64 (d : Int), .int .i64 g1, .bool false, .int .i64 g3] 54) = w2 at *
        generalize w1.heap.size = Y at *
        have y0 : w2.cell? ⟨Y, 0, none⟩ = some (.int .i64 (d : Int)) := by rw [cell_of_row _ _ _ _ _ _ hy]; rfl
        have y2 : w2.cell? ⟨Y, 2, none⟩ = some (.bool false) := by rw [cell_of_row _ _ _ _ _ _ hy]; rfl
        have HY := hide hy
        clear hy lv
        have v1 := (HB.out _ B2.out).c1
        go_upto_region 16 with fail
        go_region_held3 (fun W => W.cell? ⟨V, 1, none⟩ = some (.pointer (some ⟨S, 0, none⟩)) ∧ W.cell? ⟨Y, 0, none⟩ = some (.int .i64 (d : Int))) (first | exact ⟨v1, y0⟩ | exact ⟨v4, y4⟩) (first
    | (go_at_call 56; refine (CUT.out _ (below_drewN B2.out _)).mono ?_; rintro e w4 ⟨rfl, U4, p4, t4, l4⟩; have v4 := p4.c1; have x4 := p4.c0; have h4 := (t4.block Y (by have := lt_of_heap HY.out; simp; omega) (fun e => by have := LU.out Y e; omega)).trans HY.out; have y4 := (show w4.cell? ⟨Y, 0, none⟩ = some (.int .i64 (d : Int)) from by rw [cell_of_row _ _ _ _ _ _ h4]; rfl); have P4 := hide p4; have T4 := hide t4; have L4 := hide l4; have H4 := hide h4; clear p4 t4 l4 h4))
        have v0 := P4.out.c0
        have NU4 := hide (show ¬ U4 Y from fun e => by
          rcases L4.out Y e with e | e
          · have := LU.out Y e; omega
          · have := SZ.out; simp at e; omega)
        go_upto_region 17 with fail
        go_region_held3 (fun W => W.cell? ⟨V, 0, none⟩ = some (.pointer (some ⟨T, 0, none⟩)) ∧ W.cell? ⟨Y, 0, none⟩ = some (.int .i64 (d : Int))) (first | exact ⟨v0, y4⟩ | exact ⟨v5, y5⟩) (first
    | (go_at_call 57; refine (OPN.out _ _ (P4.out.below (below_drewN (Below.refl _ _) _))).mono ?_; rintro e w5 ⟨rfl, U5, p5, t5, l5⟩; have v5 := p5.c0; have x5 := p5.c0; have h5 := (t5.block Y (by have := lt_of_heap H4.out; simp; omega) (fun e => by exact NU4.out e)).trans H4.out; have y5 := (show w5.cell? ⟨Y, 0, none⟩ = some (.int .i64 (d : Int)) from by rw [cell_of_row _ _ _ _ _ _ h5]; rfl); have P5 := hide p5; have T5 := hide t5; have L5 := hide l5; have H5 := hide h5; clear p5 t5 l5 h5))
        go_wp2_with fail
        go_ret2
        exact SideO.later (below_drewN B2.out 1) (SideO.step T4.out L4.out (SideO.later (below_drewN (Below.refl _ _) 1) ⟨rfl, U5, P5.out, T5.out, L5.out⟩))
      · rw [if_neg q1]
        have q0 : fl / 2 % 2 = 0 := by omega
        rw [q0] at a2
        have OPN := hide (fun (W : World) (b : Below w.heap.size w W) => show Calls Tryz.prog 57 #[.pointer (some ⟨T, 0, none⟩), .int .i64 (d : Int)] W (SideO (fun w' U' => PVf H S T w' U' V (opI s d)) U W (.int .i64 0)) from by
          have := pvopen_any (h.below b) g (by omega) (d : Int)
          rw [show opIE s (d : Int) = 0 from if_pos is] at this
          exact this)
        clear HN h g hdr is q1 q0 D16 a1
        go_enter Tryz.func19, Tryz.ntmps19
        go_upto_region 6 with (go_at_call 28; refine ST.out.mono ?_; rintro e w1 ⟨rfl, b1⟩; have B1 := hide b1; clear b1)
        have hy := heap_alloc_new w1 (.cells #[.int .i64 (d : Int), .int .i64 g1, .bool false, .int .i64 g3] 54)
        have lv := lt_of_heap (HB.out _ B1.out).1
        have hne : V ≠ w1.heap.size := by omega
        have B2 := hide (B1.out.trans (((Below.refl w1.heap.size w1).alloc (Nat.le_refl _) (.cells #[.int .i64 (d : Int), .int .i64 g1, .bool false, .int .i64 g3] 54)).mono B1.out.size))
        have LU := hide (fun i (hi : U i) => show i < w1.heap.size from (keepsPVf H S T).lt (HB.out _ B1.out) i hi)
        have SZ := hide (show (w1.alloc (.cells #[.int .i64 (d : Int), .int .i64 g1, .bool false, .int .i64 g3] 54)).heap.size = w1.heap.size + 1 from by simp)
        generalize w1.alloc (.cells #[.int .i64 (d : Int), .int .i64 g1, .bool false, .int .i64 g3] 54) = w2 at *
        generalize w1.heap.size = Y at *
        have y0 : w2.cell? ⟨Y, 0, none⟩ = some (.int .i64 (d : Int)) := by rw [cell_of_row _ _ _ _ _ _ hy]; rfl
        have y2 : w2.cell? ⟨Y, 2, none⟩ = some (.bool false) := by rw [cell_of_row _ _ _ _ _ _ hy]; rfl
        have HY := hide hy
        clear hy lv
        have v0 := (HB.out _ B2.out).c0
        go_upto_region 17 with fail
        go_region_held3 (fun W => W.cell? ⟨V, 0, none⟩ = some (.pointer (some ⟨T, 0, none⟩)) ∧ W.cell? ⟨Y, 0, none⟩ = some (.int .i64 (d : Int))) (first | exact ⟨v0, y0⟩ | exact ⟨v5, y5⟩) (first
    | (go_at_call 57; refine (OPN.out _ (below_drewN B2.out _)).mono ?_; rintro e w5 ⟨rfl, U5, p5, t5, l5⟩; have v5 := p5.c0; have x5 := p5.c0; have h5 := (t5.block Y (by have := lt_of_heap HY.out; simp; omega) (fun e => by have := LU.out Y e; omega)).trans HY.out; have y5 := (show w5.cell? ⟨Y, 0, none⟩ = some (.int .i64 (d : Int)) from by rw [cell_of_row _ _ _ _ _ _ h5]; rfl); have P5 := hide p5; have T5 := hide t5; have L5 := hide l5; have H5 := hide h5; clear p5 t5 l5 h5))
        go_wp2_with fail
        go_ret2
        exact SideO.later (below_drewN B2.out 1) ⟨rfl, U5, P5.out, T5.out, L5.out⟩
  rw [if_neg z0] at HN HSA
  rw [HSA] at ST0
  have ST := hide ST0
  have z1 : ¬ (we : Int) = 0 := by omega
  clear HSA ST0 NI IS D16
  by_cases y9 : we = 9
  · subst y9
    by_cases k0 : fl % 2 = 0
    · rw [k0] at a1
      rw [if_pos (.inr k0)] at HN
      rw [HN.out]
      clear h g HN NW k0 a2
      go_enter Tryz.func19, Tryz.ntmps19
      go_upto_region 6 with (go_at_call 28; refine ST.out.mono ?_; rintro e w1 ⟨rfl, b1⟩; have B1 := hide b1; clear b1)
      have B2 := hide (B1.out.trans (((Below.refl w1.heap.size w1).alloc (Nat.le_refl _) (.cells #[.int .i64 0, .int .i64 0, .bool false, .int .i64 0] 54)).mono B1.out.size))
      generalize w1.alloc (.cells #[.int .i64 0, .int .i64 0, .bool false, .int .i64 0] 54) = w2 at *
      have x2 := (HB.out _ B2.out).c0
      go_wp2_with fail
      go_ret2
      exact SideO.of_below (HB.out _ B2.out) B2.out
    · have k1 : fl % 2 = 1 := by omega
      rw [k1] at a1
      rw [if_neg (by omega), NW rfl] at HN
      by_cases hp : (parI s t).2.2 ≠ 0
      · rw [if_pos hp] at HN
        rw [HN.out]
        have CA0 := fun (W : World) (b : Below w.heap.size w W) => above_no (h.below b) g t ht (.func (.func 55) #[.pointer (some ⟨V, 0, none⟩)] #[]) hp
        obtain ⟨pe, hpe⟩ : ∃ z, z = (parI s t).2.2 := ⟨_, rfl⟩
        rw [← hpe] at CA0 hp ⊢
        have CA := hide CA0
        have p1 : ¬ (pe : Int) = 0 := by omega
        clear h g HN NW k0 k1 a2 CA0 hp hpe
        go_enter Tryz.func19, Tryz.ntmps19
        go_upto_region 6 with (go_at_call 28; refine ST.out.mono ?_; rintro e w1 ⟨rfl, b1⟩; have B1 := hide b1; clear b1)
        have B2 := hide (B1.out.trans (((Below.refl w1.heap.size w1).alloc (Nat.le_refl _) (.cells #[.int .i64 0, .int .i64 0, .bool false, .int .i64 0] 54)).mono B1.out.size))
        generalize w1.alloc (.cells #[.int .i64 0, .int .i64 0, .bool false, .int .i64 0] 54) = w2 at *
        have x2 := (HB.out _ B2.out).c0
        go_wp2_with (go_at_call 54; refine (CA.out _ B2.out).mono ?_; rintro e w3 ⟨rfl, b3⟩; have B3 := hide (B2.out.trans (b3.mono B2.out.size)); clear b3)
        go_ret2
        exact SideO.of_below (HB.out _ B3.out) B3.out
      · rw [if_neg hp] at HN
        rw [HN.out]
        have hp0 : (parI s t).2.2 = 0 := Classical.not_not.1 hp
        have hx := parI_nm s t
        have CA0 := fun (W : World) (b : Below w.heap.size w W) => above_makeFile (h.below b) g t ht (.pointer (some ⟨V, 0, none⟩)) hp0 (fun w1 b1 => pvmakefile_any ((h.below b).below b1) g (by omega) _ _ (by omega))
        have WN := addI_walk (s := s) (t := t) (d := false) hp0
        have ga := addI_good g (parI s t).1 (parI s t).2.1 false
        have AZ := show (addI s (parI s t).1 (parI s t).2.1 false).2.1 ≠ 0 → (addI s (parI s t).1 (parI s t).2.1 false).1 = 0 from fun e => by
          unfold addI at e ⊢
          split
          · rfl
          · split
            · rfl
            · rename_i e1 e2; rw [if_neg e1, if_neg e2] at e; exact absurd rfl e
        obtain ⟨m1, h1⟩ : ∃ z, z = (addI s (parI s t).1 (parI s t).2.1 false).1 := ⟨_, rfl⟩
        obtain ⟨m2, h2⟩ : ∃ z, z = (addI s (parI s t).1 (parI s t).2.1 false).2.1 := ⟨_, rfl⟩
        obtain ⟨s2, h3⟩ : ∃ z, z = (addI s (parI s t).1 (parI s t).2.1 false).2.2 := ⟨_, rfl⟩
        simp only [← h1, ← h2, ← h3] at CA0 WN ga AZ ⊢
        have CA := hide CA0
        by_cases n0 : m2 ≠ 0
        · rw [AZ n0]
          have n1 : ¬ (m2 : Int) = 0 := by omega
          clear h g HN NW k0 k1 a2 CA0 hp hp0 hx WN ga AZ h1 h2 h3 n0
          go_enter Tryz.func19, Tryz.ntmps19
          go_upto_region 6 with (go_at_call 28; refine ST.out.mono ?_; rintro e w1 ⟨rfl, b1⟩; have B1 := hide b1; clear b1)
          have B2 := hide (B1.out.trans (((Below.refl w1.heap.size w1).alloc (Nat.le_refl _) (.cells #[.int .i64 0, .int .i64 0, .bool false, .int .i64 0] 54)).mono B1.out.size))
          generalize w1.alloc (.cells #[.int .i64 0, .int .i64 0, .bool false, .int .i64 0] 54) = w2 at *
          have x2 := (HB.out _ B2.out).c0
          go_wp2_with (go_at_call 54; refine (CA.out _ B2.out).mono ?_; rintro e w3 ⟨rfl, U3, p3, t3, l3⟩; have x3 := p3.c0; have P3 := hide p3; have T3 := hide t3; have L3 := hide l3; clear p3 t3 l3)
          go_ret2
          exact SideO.later B2.out ⟨rfl, U3, P3.out, T3.out, L3.out⟩
        · have n1 : m2 = 0 := by omega
          subst n1
          have WN := WN rfl
          have WK := hide (fun (W : World) (U' : Nat → Prop) (ha : PVf H S T W U' V s2) => show Calls Tryz.prog 25 #[.pointer (some ⟨V, 0, none⟩), .string (bt t)] W (fun e w' => e = .returned (.tuple #[.int .i64 (m1 : Int), .int .i64 0]) ∧ Below W.heap.size W w') from by
            have := pvwalk_any ha ga t ht
            rw [WN] at this
            exact this)
          clear h g HN NW k0 k1 a2 CA0 hp hp0 hx WN ga AZ h1 h2 h3 n0
          go_enter Tryz.func19, Tryz.ntmps19
          go_upto_region 6 with (go_at_call 28; refine ST.out.mono ?_; rintro e w1 ⟨rfl, b1⟩; have B1 := hide b1; clear b1)
          have B2 := hide (B1.out.trans (((Below.refl w1.heap.size w1).alloc (Nat.le_refl _) (.cells #[.int .i64 0, .int .i64 0, .bool false, .int .i64 0] 54)).mono B1.out.size))
          generalize w1.alloc (.cells #[.int .i64 0, .int .i64 0, .bool false, .int .i64 0] 54) = w2 at *
          have x2 := (HB.out _ B2.out).c0
          go_wp2_with (first
            | (go_at_call 54; refine (CA.out _ B2.out).mono ?_; rintro e w3 ⟨rfl, U3, p3, t3, l3⟩; have x3 := p3.c0; have P3 := hide p3; have T3 := hide t3; have L3 := hide l3; clear p3 t3 l3)
            | (go_at_call 25; refine (WK.out _ _ P3.out).mono ?_; rintro e w4 ⟨rfl, b4⟩; have B4 := hide b4; clear b4))
          go_ret2
          exact SideO.later B2.out (SideO.step T3.out L3.out (SideO.of_below (P3.out.below B4.out) B4.out))
  · rw [if_pos (.inl y9)] at HN
    rw [HN.out]
    have y1 : ¬ (we : Int) = 9 := by omega
    clear h g HN NW a1 a2 z0 y9
    go_enter Tryz.func19, Tryz.ntmps19
    go_upto_region 6 with (go_at_call 28; refine ST.out.mono ?_; rintro e w1 ⟨rfl, b1⟩; have B1 := hide b1; clear b1)
    have B2 := hide (B1.out.trans (((Below.refl w1.heap.size w1).alloc (Nat.le_refl _) (.cells #[.int .i64 0, .int .i64 0, .bool false, .int .i64 0] 54)).mono B1.out.size))
    generalize w1.alloc (.cells #[.int .i64 0, .int .i64 0, .bool false, .int .i64 0] 54) = w2 at *
    have x2 := (HB.out _ B2.out).c0
    go_wp2_with fail
    go_ret2
    exact SideO.of_below (HB.out _ B2.out) B2.out
end
end Go.Proofs.YtndfnglcichngaaGreatDoor
