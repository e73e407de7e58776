/-
  The walk of HeapScript.
-/
import Derived.Test.YtllfpfgboeabnaaHeapPair
namespace Go.Proofs.Ytllfpfgboeabnaa
open Go.ChangeShapes Go.WideShapes Go.ChangeAt Go.RowKit
set_option linter.unusedVariables false
set_option maxRecDepth 100000 in
set_option maxHeartbeats 4000000 in
theorem walk_heapScript (w : World) (A : Option Addr) (n c : Nat) (zs : List (List Int)) (hin : CameRows 3 w A n c zs) :
    Calls Try.prog 3 #[.slice A n c] w fun e w' => e = .returned (.bool true) ∧ Below w.heap.size w w' := by
  obtain ⟨hl, hnc, hcm, hwf, hc⟩ := hin
  by_cases hbig : 100 < n
  · have hb : (100 : Int) < (n : Int) := by omega
    clear hl hc hnc hcm hwf
    go_enter Try.func3, Try.ntmps3
    go_wp2_with (go_at_call 7; with_reducible refine (awake_any _).mono ?_; rintro e w' ⟨rfl, hb⟩)
    go_ret
    exact ⟨rfl, hb⟩
  have HC := hide hc
  have HL := hide hl
  have HWF := hide hwf
  have hn : n ≤ 100 := by omega
  clear hl hc hnc hcm hwf hbig
  go_enter Try.func3, Try.ntmps3
  go_wp2_with fail
  go_at_call 8
  with_reducible refine (hnew_any _).mono ?_
  rintro e w1 ⟨H, F1, rfl, q1, b1, f1⟩
  have HT : Hid (Two w (w1.alloc (.cells #[.slice none 0 0] 29)) H w1.heap.size [] []) := by
    refine (show Two _ _ _ _ _ _ from ⟨F1, fun i => i = w1.heap.size, held_alloc q1 _, ⟨.slice none 0 0, heap_alloc_new w1 _, World.ownsRow_nil _ _ _ _, rfl, fun g hg => (by cases hg), fun i hi => by rw [hi]; simp⟩, fun i hi e => ?_, f1, fun i hi => by rw [hi]; exact b1.size, b1.alloc b1.size _⟩)
    have := q1.lt i hi; omega
  have HM : Hid (Match [] []) := (show Match [] [] from ⟨List.Perm.refl _, List.Pairwise.nil, fun x hx => by cases hx⟩)
  clear q1 b1 f1
  go_wp2_with fail
  generalize w1.heap.size = R at *
  go_loopw [5] (fun i wr => ∃ (k : Nat) (l L : List (Int × Int)), k ≤ n ∧ i = .int .i64 (k : Int) ∧ Hid (l.length ≤ k) ∧ Hid (Two w wr H R l L) ∧ Hid (Match l L)) (fun i _ => n - (intOf i).toNat)
  case atStart => exact ⟨0, [], [], Nat.zero_le _, rfl, (show [].length ≤ 0 from Nat.le_refl _), HT, HM⟩
  case round =>
    clear HT HM
    obtain ⟨k, l, L, hk, rfl, hLe, hT, hM⟩ := hrel
    by_cases hlt : k < n
    · obtain ⟨b, off, rfl, hbw, hcell⟩ := HC.out (by omega)
      obtain ⟨d, hd⟩ : ∃ d, d = (zs.getD k []).getD 0 0 := ⟨_, rfl⟩
      obtain ⟨id, hi⟩ : ∃ id, id = (zs.getD k []).getD 1 0 := ⟨_, rfl⟩
      obtain ⟨key, hk2⟩ : ∃ key, key = (zs.getD k []).getD 2 0 := ⟨_, rfl⟩
      have hidw := (HWF.out k hlt).2 1 (by omega)
      have z0 := (hT.out.bel.cell (p := ⟨b, off + (k * 3 + 0), none⟩) hbw).trans (hcell k 0 hlt (by omega))
      have z1 := (hT.out.bel.cell (p := ⟨b, off + (k * 3 + 1), none⟩) hbw).trans (hcell k 1 hlt (by omega))
      have z2 := (hT.out.bel.cell (p := ⟨b, off + (k * 3 + 2), none⟩) hbw).trans (hcell k 2 hlt (by omega))
      rw [← hd, Nat.add_zero] at z0
      rw [← hi, ← Nat.add_assoc] at z1
      rw [← hk2, ← Nat.add_assoc] at z2
      rw [← hi] at hidw
      have HID := hide hidw
      have k0 : (0 : Int) ≤ (k : Int) := by omega
      have k1 : (k : Int) < (n : Int) := by omega
      clear hcell hd hi hk2 hidw
      have TW := hide (tri_new hT.out d id key)
      obtain ⟨W1, hW1⟩ : ∃ W1, W1 = wr.alloc (.cells #[.int .i64 d, .int .i64 id, .int .i64 key] 31) := ⟨_, rfl⟩
      rw [← hW1] at TW
      have HW := hide hW1
      clear hW1 hT
      go_upto_block 2 with fail
      rw [← HW.out]
      clear HW z0 z1 z2
      generalize wr.heap.size = X at *
      obtain ⟨x0, x1, x2⟩ := TW.out.cells
      have lN : l.length ≤ 1000 := by have := hLe.out; omega
      have HLN := hide lN
      clear lN
      go_cut [7] (fun s7 wx => s7 = .bool true ∧ ∃ (l' L' : List (Int × Int)), Hid (l'.length ≤ k + 1) ∧ Hid (Tri w wx H R l' L' X d id key) ∧ Hid (Match l' L'))
      case first =>
        by_cases d0 : d = 0
        · subst d0
          obtain ⟨r, P, P', c1, c2, cm⟩ := pair_push TW.out hM.out HID.out HLN.out
          have C1 := hide c1
          have C2 := hide c2
          have CM := hide cm
          have hrr : (r == r) = true := by simp
          clear c1 c2 cm x0
          have x0 : W1.cell? ⟨X, 0, none⟩ = some (.int .i64 0) := TW.out.cells.1
          go_wp2_with fail
          go_region_held3 (fun w' => w'.cell? ⟨X, 1, none⟩ = some (.int .i64 id) ∧ w'.cell? ⟨X, 2, none⟩ = some (.int .i64 key)) (first | exact ⟨x1, x2⟩ | exact ⟨y1, y2⟩ | exact ⟨z1, z2⟩) (first | (go_at_call 10; refine (C1.out _ TW.out.drew).mono ?_; rintro e w2 ⟨rfl, l', p', t2⟩; obtain ⟨_, y1, y2⟩ := t2.cells; have T2 := hide t2; have P2 := hide p'; clear t2 p') | (go_at_call 9; refine (num_any _ _).mono ?_; rintro e w' ⟨rfl, rfl⟩) | (go_at_call 11; refine (C2.out _ _ T2.out).mono ?_; rintro e w3 ⟨rfl, L', p', t3⟩; obtain ⟨_, z1, z2⟩ := t3.cells; have T3 := hide t3; have P3 := hide p'; clear t3 p'))
          obtain ⟨m3, n3⟩ := CM.out l' L' P2.out P3.out
          have M3 := hide m3
          have N3 : Hid (l'.length ≤ k + 1) := (show l'.length ≤ k + 1 from by have := hLe.out; omega)
          clear m3 n3
          go_wp2_with fail
          go_meet
          exact ⟨rfl, l', L', N3, T3, M3⟩
        by_cases d1 : d = 1
        · subst d1
          obtain ⟨x, b, r, P, P', cz, c1, c2, c3, cm⟩ := pair_pop TW.out hM.out HLN.out
          have C1 := hide c1
          have C2 := hide c2
          have C3 := hide c3
          have CM := hide cm
          have CZ := hide cz
          have hx1 : (x.1 == x.1) = true := by simp
          have hx2 : (x.2 == x.2) = true := by simp
          have hbb : (b == b) = true := by simp
          clear c1 c2 c3 cm cz x0
          have x0 : W1.cell? ⟨X, 0, none⟩ = some (.int .i64 1) := TW.out.cells.1
          go_wp2_with fail
          go_at_call 12
          refine (C1.out _ TW.out).mono ?_
          rintro e w2 ⟨rfl, l', p', t2⟩
          have P2 := hide p'
          have T2 := hide (t2.below ((Below.refl _ _).alloc (Nat.le_refl _) (.cells #[.int .i64 x.1, .int .i64 x.2] 37)))
          have XA := hide (heap_alloc_new w2 (.cells #[.int .i64 x.1, .int .i64 x.2] 37))
          clear t2 p'
          obtain ⟨W2, hW2⟩ : ∃ W2, W2 = w2.alloc (.cells #[.int .i64 x.1, .int .i64 x.2] 37) := ⟨_, rfl⟩
          have HS2 := hide (show w2.heap.size < W2.heap.size by rw [hW2]; simp)
          rw [← hW2] at T2 XA
          have HW2 := hide hW2
          clear hW2
          unfold itemBool
          go_wp2_with fail
          rw [← HW2.out]
          clear HW2
          generalize w2.heap.size = Y at *
          go_at_call 13
          refine (C2.out _ _ T2.out).mono ?_
          rintro e w3 ⟨rfl, b3⟩
          have hXA := (b3.block Y HS2.out).trans XA.out
          have B4 := ((Below.refl w3.heap.size w3).alloc (Nat.le_refl _) (.cells #[.int .i64 x.1, .int .i64 x.2] 40))
          have hlt3 : Y < w3.heap.size := Nat.lt_of_lt_of_le HS2.out b3.size
          have T4 := hide ((T2.out.below b3).below B4)
          have XB := hide (heap_alloc_new w3 (.cells #[.int .i64 x.1, .int .i64 x.2] 40))
          have XA4 := hide ((B4.block Y hlt3).trans hXA)
          obtain ⟨W4, hW4⟩ : ∃ W4, W4 = w3.alloc (.cells #[.int .i64 x.1, .int .i64 x.2] 40) := ⟨_, rfl⟩
          rw [← hW4] at T4 XB XA4
          have HW4 := hide hW4
          clear hW4 b3 hXA B4 hlt3
          unfold itemBool
          go_upto_region 17 with fail
          rw [← HW4.out]
          clear HW4
          generalize w3.heap.size = Z at *
          have u0 : W4.cell? ⟨Y, 0, none⟩ = some (.int .i64 x.1) := by rw [cell_of_row _ _ _ _ _ _ XA4.out]; rfl
          have u1 : W4.cell? ⟨Y, 1, none⟩ = some (.int .i64 x.2) := by rw [cell_of_row _ _ _ _ _ _ XA4.out]; rfl
          have v0 : W4.cell? ⟨Z, 0, none⟩ = some (.int .i64 x.1) := by rw [cell_of_row _ _ _ _ _ _ XB.out]; rfl
          have v1 : W4.cell? ⟨Z, 1, none⟩ = some (.int .i64 x.2) := by rw [cell_of_row _ _ _ _ _ _ XB.out]; rfl
          go_wp2_with fail
          go_at_call 14
          refine (C3.out _ _ T4.out).mono ?_
          rintro e w5 ⟨rfl, hs5, L', p', t5⟩
          obtain ⟨m3, n3⟩ := CM.out l' L' P2.out p'
          have M3 := hide m3
          have N3 : Hid (l'.length ≤ k + 1) := (show l'.length ≤ k + 1 from by have := hLe.out; omega)
          have T5 := hide t5
          clear m3 n3 p' t5 C1 C2 C3 CM
          cases b with
          | true =>
            clear hs5 CZ
            go_wp2_with fail
            go_meet
            exact ⟨rfl, l', L', N3, T5, M3⟩
          | false =>
            have e5 := hs5 rfl
            have ex := CZ.out rfl
            subst e5 ex
            have u0 : W4.cell? ⟨Y, 0, none⟩ = some (.int .i64 0) := u0
            have u1 : W4.cell? ⟨Y, 1, none⟩ = some (.int .i64 0) := u1
            go_wp2_with fail
            go_meet
            exact ⟨rfl, l', L', N3, T5, M3⟩
        by_cases d2 : d = 2
        · subst d2
          obtain ⟨r, P, P', c1, c2, cm⟩ := pair_drop TW.out hM.out HID.out HLN.out
          have C1 := hide c1
          have C2 := hide c2
          have CM := hide cm
          have hrr : (r == r) = true := by simp
          clear c1 c2 cm x0
          have x0 : W1.cell? ⟨X, 0, none⟩ = some (.int .i64 2) := TW.out.cells.1
          go_wp2_with fail
          go_region_held3 (fun w' => w'.cell? ⟨X, 1, none⟩ = some (.int .i64 id) ∧ w'.cell? ⟨X, 2, none⟩ = some (.int .i64 key)) (first | exact ⟨x1, x2⟩ | exact ⟨y1, y2⟩ | exact ⟨z1, z2⟩) (first | (go_at_call 15; refine (C1.out _ TW.out.drew).mono ?_; rintro e w2 ⟨rfl, l', p', t2⟩; obtain ⟨_, y1, y2⟩ := t2.cells; have T2 := hide t2; have P2 := hide p'; clear t2 p') | (go_at_call 14; refine (C2.out _ _ T2.out).mono ?_; rintro e w3 ⟨rfl, L', p', t3⟩; obtain ⟨_, z1, z2⟩ := t3.cells; have T3 := hide t3; have P3 := hide p'; clear t3 p'))
          obtain ⟨m3, n3⟩ := CM.out l' L' P2.out P3.out
          have M3 := hide m3
          have N3 : Hid (l'.length ≤ k + 1) := (show l'.length ≤ k + 1 from by have := hLe.out; omega)
          clear m3 n3
          go_wp2_with fail
          go_meet
          exact ⟨rfl, l', L', N3, T3, M3⟩
        by_cases d3 : d = 3
        · subst d3
          obtain ⟨r, P, P', c1, c2, cm⟩ := pair_move TW.out hM.out HID.out HLN.out
          have C1 := hide c1
          have C2 := hide c2
          have CM := hide cm
          have hrr : (r == r) = true := by simp
          clear c1 c2 cm x0
          have x0 : W1.cell? ⟨X, 0, none⟩ = some (.int .i64 3) := TW.out.cells.1
          go_wp2_with fail
          go_region_held3 (fun w' => w'.cell? ⟨X, 1, none⟩ = some (.int .i64 id) ∧ w'.cell? ⟨X, 2, none⟩ = some (.int .i64 key)) (first | exact ⟨x1, x2⟩ | exact ⟨y1, y2⟩ | exact ⟨z1, z2⟩) (first | (go_at_call 16; refine (C1.out _ TW.out.drew).mono ?_; rintro e w2 ⟨rfl, l', p', t2⟩; obtain ⟨_, y1, y2⟩ := t2.cells; have T2 := hide t2; have P2 := hide p'; clear t2 p') | (go_at_call 17; refine (C2.out _ _ T2.out).mono ?_; rintro e w3 ⟨rfl, L', p', t3⟩; obtain ⟨_, z1, z2⟩ := t3.cells; have T3 := hide t3; have P3 := hide p'; clear t3 p'))
          obtain ⟨m3, n3⟩ := CM.out l' L' P2.out P3.out
          have M3 := hide m3
          have N3 : Hid (l'.length ≤ k + 1) := (show l'.length ≤ k + 1 from by have := hLe.out; omega)
          clear m3 n3
          go_wp2_with fail
          go_meet
          exact ⟨rfl, l', L', N3, T3, M3⟩
        have f0 : (d == 0) = false := by simpa using d0
        have f1 : (d == 1) = false := by simpa using d1
        have f2 : (d == 2) = false := by simpa using d2
        have f3 : (d == 3) = false := by simpa using d3
        have N3 : Hid (l.length ≤ k + 1) := (show l.length ≤ k + 1 from by have := hLe.out; omega)
        go_wp2_with fail
        go_meet
        exact ⟨rfl, l, L, N3, TW, hM⟩
      case rest =>
        obtain ⟨rfl, l', L', hLe2, hT2, hM2⟩ := hcut
        clear TW HLN x0 x1 x2 hLe hM
        have lL : L'.length ≤ 1000 := by rw [← hM2.out.perm.length_eq]; have := hLe2.out; omega
        have HLL := hide lL
        obtain ⟨x, bb, c1, c2⟩ := tri_tell hT2.out hM2.out
        obtain ⟨bh, c3, c4⟩ := tri_has hT2.out hM2.out HID.out lL
        have C1 := hide c1
        have C2 := hide c2
        have C3 := hide c3
        have C4 := hide c4
        have g1 : (x.1 != x.1) = false := by simp
        have g2 : (x.2 != x.2) = false := by simp
        have g3 : (bb != bb) = false := by simp
        have g4 : (bh != bh) = false := by simp
        have g5 : ((L'.length : Int) != (L'.length : Int)) = false := by simp
        clear c1 c2 c3 c4 lL
        go_wp2_with fail
        go_at_call 18
        refine (C1.out _ hT2.out).mono ?_
        rintro e w2 ⟨rfl, b2⟩
        have T2 := hide ((hT2.out.below b2).below ((Below.refl _ _).alloc (Nat.le_refl _) (.cells #[.int .i64 x.1, .int .i64 x.2] 37)))
        have XA := hide (heap_alloc_new w2 (.cells #[.int .i64 x.1, .int .i64 x.2] 37))
        clear b2
        obtain ⟨W2, hW2⟩ : ∃ W2, W2 = w2.alloc (.cells #[.int .i64 x.1, .int .i64 x.2] 37) := ⟨_, rfl⟩
        have HS2 := hide (show w2.heap.size < W2.heap.size by rw [hW2]; simp)
        rw [← hW2] at T2 XA
        have HW2 := hide hW2
        clear hW2 hT2
        unfold itemBool
        go_wp2_with fail
        rw [← HW2.out]
        clear HW2
        generalize w2.heap.size = Y at *
        go_at_call 13
        refine (C2.out _ T2.out).mono ?_
        rintro e w3 ⟨rfl, b3⟩
        have hXA := (b3.block Y HS2.out).trans XA.out
        have B4 := ((Below.refl w3.heap.size w3).alloc (Nat.le_refl _) (.cells #[.int .i64 x.1, .int .i64 x.2] 40))
        have hlt3 : Y < w3.heap.size := Nat.lt_of_lt_of_le HS2.out b3.size
        have T4 := hide ((T2.out.below b3).below B4)
        have XB := hide (heap_alloc_new w3 (.cells #[.int .i64 x.1, .int .i64 x.2] 40))
        have XA4 := hide ((B4.block Y hlt3).trans hXA)
        obtain ⟨W4, hW4⟩ : ∃ W4, W4 = w3.alloc (.cells #[.int .i64 x.1, .int .i64 x.2] 40) := ⟨_, rfl⟩
        rw [← hW4] at T4 XB XA4
        have HY4 := hide (show Y < W4.heap.size by rw [hW4]; simp; omega)
        have HZ4 := hide (show w3.heap.size < W4.heap.size by rw [hW4]; simp)
        have HW4 := hide hW4
        clear hW4 b3 hXA B4 hlt3 T2 XA HS2 C1 C2
        unfold itemBool
        go_wp2_with fail
        rw [← HW4.out]
        clear HW4
        generalize w3.heap.size = Z at *
        go_at_call 19
        refine (match_all T4.out.two hM2.out HLL.out).mono ?_
        rintro e w5 ⟨v, rfl, o5, b5⟩
        obtain ⟨A, cp, rfl, _, _, _⟩ := own_slice o5
        have T5 := hide (T4.out.below b5)
        have hXA := (b5.block Y HY4.out).trans XA4.out
        have hXB := (b5.block Z HZ4.out).trans XB.out
        have u0 : w5.cell? ⟨Y, 0, none⟩ = some (.int .i64 x.1) := by rw [cell_of_row _ _ _ _ _ _ hXA]; rfl
        have u1 : w5.cell? ⟨Y, 1, none⟩ = some (.int .i64 x.2) := by rw [cell_of_row _ _ _ _ _ _ hXA]; rfl
        have v0 : w5.cell? ⟨Z, 0, none⟩ = some (.int .i64 x.1) := by rw [cell_of_row _ _ _ _ _ _ hXB]; rfl
        have v1 : w5.cell? ⟨Z, 1, none⟩ = some (.int .i64 x.2) := by rw [cell_of_row _ _ _ _ _ _ hXB]; rfl
        have x1 := T5.out.cells.2.1
        obtain ⟨A2, cr, r0, o2, _⟩ := two_list T5.out.two
        have O5 := hide o5
        have O2 := hide o2
        have OV := hide (show ∀ q, Over W4 (w5.drewN q) (.slice A L'.length cp) L'.length from fun q => ⟨⟨_, o5⟩, below_drewN b5 q⟩)
        clear hXA hXB o5 o2 b5 XA4 XB HY4 HZ4
        go_upto_region 28 with fail
        go_quiet ((first
          | (go_at_call 20; exact quiet_left (C3.out _ (T5.out.drewN _)))
          | (go_at_call 21; exact quiet_left (C4.out _ (T5.out.drewN _)))
          | (go_at_call 22; exact quiet_left (tri_len (T5.out.drewN _) hM2.out))
          | (go_at_call 23; exact quiet_more (same_own _ _ L' L'.length _ O5.out O2.out rfl (Nat.le_trans HLL.out (by decide))))))
        clear u0 u1 v0 v1 x1 r0 O5 O2 C3 C4 g1 g2 g3 g4 g5
        go_wp2_with fail
        go_loopw [17] (fun i wr => ∃ j : Nat, j ≤ L'.length ∧ i = .int .i64 (j : Int) ∧ Hid (Over W4 wr (.slice A L'.length cp) L'.length)) (fun i _ => L'.length - (intOf i).toNat)
        case atStart => exact ⟨0, Nat.zero_le _, rfl, OV.out _⟩
        case round =>
          clear OV
          obtain ⟨j, hj, rfl, hO⟩ := hrel
          by_cases hjl : j < L'.length
          · obtain ⟨g, rfl⟩ := hO.out.form (by omega)
            obtain ⟨⟨y0, y1, e0, e1⟩, f0, f1⟩ := hO.out.cells hjl
            have hOn := hide (hO.out.next (k := j) (.int .i64 (-9)) (.int .i64 0))
            have jL : L'.length ≤ 1000 := HLL.out
            have j0 : (0 : Int) ≤ (j : Int) := by omega
            have j1 : (j : Int) < (L'.length : Int) := by omega
            clear hO
            go_wp2_with fail
            go_roundw
            case rel => exact ⟨j + 1, by omega, by go_num, hOn⟩
            case measure => simp [intOf]; omega
          · have TW := hide (T4.out.two.below hO.out.bel)
            clear hO T4 T5
            go_wp2_with fail
            go_roundw
            case rel => exact ⟨k + 1, l', L', by omega, by go_num, hLe2, TW, hM2⟩
            case measure => simp [intOf]; omega
    · obtain rfl : k = n := by omega
      have lL : L.length ≤ 1000 := by rw [← hM.out.perm.length_eq]; have := hLe.out; omega
      have HLL := hide lL
      obtain ⟨A2, cr, r0, o2, hR⟩ := two_list hT.out
      have O2 := hide o2
      clear o2 lL HC HL HWF
      go_wp2_with fail
      go_region_held3 (fun w' => w'.cell? ⟨R, 0, none⟩ = some (.slice A2 L.length cr)) (first | exact r0 | exact r5 | exact r7) (first
        | (go_at_call 19; refine (match_all (hT.out.drewN 1) hM.out HLL.out).mono ?_; rintro e w5 ⟨v, rfl, o5, b5⟩; have r5 := (b5.cell (p := ⟨R, 0, none⟩) hR).trans r0; have hR5 : R < w5.heap.size := Nat.lt_of_lt_of_le hR b5.size; have T5 := hide ((hT.out.drewN 1).below b5); have O3 := hide (own_keep O2.out (fun g hg => b5.block g (O2.out.lt g hg).2)); have O5 := hide o5; clear o5 b5)
        | (go_at_call 23; refine (same_own _ _ L L.length _ O5.out O3.out rfl (Nat.le_trans HLL.out (by decide))).mono ?_; rintro e w6 ⟨rfl, m, rfl⟩)
        | (go_at_call 7; refine (awake_any _).mono ?_; rintro e w7 ⟨rfl, b7⟩; have r7 := (b7.cell (p := ⟨R, 0, none⟩) hR5).trans r5; have T7 := hide ((T5.out.drewN m).below b7); clear b7))
      go_wp2_with fail
      go_ret
      exact ⟨rfl, T7.out.bel⟩
end Go.Proofs.Ytllfpfgboeabnaa
