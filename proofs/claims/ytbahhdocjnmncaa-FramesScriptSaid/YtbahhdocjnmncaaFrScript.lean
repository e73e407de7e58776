/-
  The walk of FramesScript.
-/
import Derived.Test.YtbahhdocjnmncaaFrActs
namespace Go.Proofs.Ytbahhdocjnmncaa
open Go.ChangeShapes Go.WideShapes Go.ChangeAt Go.RowKit
set_option linter.unusedVariables false
theorem tw_first {w w1 w2 : World} {H A Q R t b N : Nat} (f1 : Fr w1 H A Q (St.new N)) (b1 : Below w.heap.size w w1) (hb : ∀ i, Blk H A Q i → w.heap.size ≤ i) (r : Rf w2 (Blk H A Q) R t b (St.new N) 0 []) (b2 : Below w1.heap.size w1 w2) (hr : ∀ i, RS R t b i → w1.heap.size ≤ i) : Tw w w2 H A Q R t b (St.new N) (St.new N) 0 [] :=
  ⟨f1.below b2, r, b1.trans (b2.mono b1.size), hb, fun i hi => Nat.le_trans b1.size (hr i hi)⟩
theorem fr_lt {w : World} {H A Q : Nat} {s : St} (f : Fr w H A Q s) : ∀ i, Blk H A Q i → i < w.heap.size := by
  rintro i (rfl | rfl | rfl)
  · exact f.ltH
  · exact f.ltA
  · exact f.ltQ
set_option maxRecDepth 100000 in
set_option maxHeartbeats 8000000 in
theorem walk_framesScript (w : World) (x : Int) (wx : (Lit.int .i64 x).wf = true) (a : Option Addr) (n c : Nat) (zs : List (List FV)) (hin : CameMix AK w a n c zs) : Calls Try.prog 3 #[.int .i64 x, .slice a n c] w fun e w' => e = .returned (.bool true) ∧ Below w.heap.size w w' := by
  clear wx
  have hn : n ≤ maxLen := Nat.le_trans hin.2.1 hin.2.2.1
  have HA := hide (acts_open hin)
  clear hin
  go_enter Try.func3, Try.ntmps3
  go_wp2_with fail
  go_at_call 8
  refine (great_any HA.out hn 100 (by omega)).mono ?_
  rintro e w' ⟨⟨r, rfl, hr⟩, rfl⟩
  cases r with
  | true =>
    clear hr
    go_wp2_with (go_at_call 9; with_reducible refine (awake_any _).mono ?_; rintro e w' ⟨rfl, hb⟩)
    go_ret
    exact ⟨rfl, hb⟩
  | false =>
  have h100 := (hr rfl).1
  have HA2 := hide (hr rfl).2
  clear hr HA hn
  by_cases hx : x < 1 ∨ 64 < x
  · go_wp2_with (first
      | (go_at_call 10; with_reducible refine (new_arg _ _ hx).mono ?_; rintro e w' ⟨rfl, rfl⟩)
      | (go_at_call 11; with_reducible refine (rnew_arg _ _ hx).mono ?_; rintro e w' ⟨rfl, rfl⟩)
      | (go_at_call 12; with_reducible refine (num_any _ _).mono ?_; rintro e w' ⟨rfl, rfl⟩)
      | (go_at_call 9; with_reducible refine (awake_any _).mono ?_; rintro e w' ⟨rfl, hb⟩))
    go_ret
    exact ⟨rfl, hb⟩
  · obtain ⟨N, rfl⟩ := Int.eq_ofNat_of_zero_le (show 0 ≤ x by omega)
    have N1 : 1 ≤ N := by omega
    have N2 : N ≤ 64 := by omega
    go_wp2_with fail
    go_at_call 10
    refine (new_ok _ N N1 N2).mono ?_
    rintro e w1 ⟨H, A, Q, rfl, f1, b1, hb1⟩
    have F1 := hide f1
    have B1 := hide b1
    have HB1 := hide hb1
    clear f1 b1 hb1
    go_wp2_with fail
    go_at_call 11
    refine (rnew_ok _ N N1 N2 (Blk H A Q) (fr_lt F1.out)).mono ?_
    rintro e w2 ⟨R, rfl, t, b, r2, b2, hb2⟩
    have T2 := hide (tw_first F1.out B1.out HB1.out r2 b2 hb2)
    clear r2 b2 hb2 F1 B1 HB1
    go_wp2_with (go_at_call 12; with_reducible refine (num_any _ _).mono ?_; rintro e w' ⟨rfl, rfl⟩)
    go_loopw [9] (fun i wr => ∃ (k : Nat) (s : St) (fresh : Nat) (back : List Nat), k ≤ n ∧ i = .int .i64 (k : Int) ∧ Hid (Tw w wr H A Q R t b s s fresh back)) (fun i _ => n - (intOf i).toNat)
    case atStart => exact ⟨0, St.new N, 0, [], Nat.zero_le _, rfl, T2.out⟩
    case round =>
      clear T2
      obtain ⟨k, s, fresh, back, hk, rfl, hT⟩ := hrel
      by_cases hlt : k < n
      · obtain ⟨ab, off, rfl, hall⟩ := HA2.out (by omega)
        obtain ⟨d, i, o, m, aa, l, c', ys, hact0, hl200⟩ := hall k hlt
        have HACT := hide hact0
        have hact := hact0.below hT.out.bel
        have k0 : (0 : Int) ≤ (k : Int) := by omega
        have k1 : (k : Int) < (n : Int) := by omega
        have c0 := hact.c0
        have c1 := hact.c1
        have c2 := hact.c2
        have c3 := hact.c3
        have c4 := hact.c4
        have lw := hact.wo
        have HWI := hide hact.wi
        have HWO := hide hact.wo
        have hin2 := lt_of_cell? hact0.c0
        have C1 : Hid (Cop w (wr.alloc (.cells #[.int .i64 d, .int .i64 i, .int .i64 o, .int .i64 m, .slice aa l c'] 35)) H A Q R t b wr.heap.size d i o m aa l c') := by
          refine (show Cop _ _ _ _ _ _ _ _ _ _ _ _ _ _ _ _ from ⟨heap_alloc_new _ _, fun e => ?_, fun e => ?_⟩)
          · have := fr_lt hT.out.fr _ e; omega
          · have := hT.out.rf.lt _ e; omega
        have T1 := hide (hT.out.below ((Below.refl _ _).alloc (Nat.le_refl _) (.cells #[.int .i64 d, .int .i64 i, .int .i64 o, .int .i64 m, .slice aa l c'] 35)))
        clear hall hact0 hact lw
        go_upto_block 2 with fail
        obtain ⟨W1, hW1⟩ : ∃ W1, W1 = wr.alloc (.cells #[.int .i64 d, .int .i64 i, .int .i64 o, .int .i64 m, .slice aa l c'] 35) := ⟨_, rfl⟩
        rw [← hW1] at C1 T1 ⊢
        have HXs := hide (show wr.heap.size < W1.heap.size by rw [hW1]; simp)
        clear hW1 c0 c1 c2 c3 c4 hT
        generalize wr.heap.size = X at *
        go_cut [11] (fun s11 wx => s11 = .bool true ∧ ∃ (s : St) (fresh : Nat) (back : List Nat), Hid (Tw w wx H A Q R t b s s fresh back ∧ Cop w wx H A Q R t b X d i o m aa l c'))
        case first =>
          by_cases d0 : d = 0
          · subst d0
            obtain ⟨px, pr, s2, fresh2, back2, p1, p2⟩ := pair_take T1.out
            have P1 := hide p1
            have P2 := hide p2
            have e1 : (px == px) = true := by simp
            have e2 : (pr == pr) = true := by simp
            have c0 : W1.cell? ⟨X, 0, none⟩ = some (.int .i64 0) := C1.out.c0
            clear p1 p2
            go_wp2_with (first
              | (go_at_call 13; refine (P1.out _ T1.out).mono ?_; rintro e w3 ⟨rfl, t3, u3⟩; have T3 := hide t3; have C3 := hide (C1.out.left u3); clear t3 u3)
              | (go_at_call 14; refine (P2.out _ T3.out).mono ?_; rintro e w4 ⟨rfl, t4, u4⟩; have T4 := hide t4; have C4 := hide (C3.out.right u4); clear t4 u4)
              | (go_at_call 12; refine (num_any _ _).mono ?_; rintro e w' ⟨rfl, rfl⟩))
            go_meet
            exact ⟨rfl, s2, fresh2, back2, T4.out, C4.out⟩
          by_cases d1 : d = 1
          · subst d1
            obtain ⟨pr, s2, back2, p1, p2⟩ := pair_give (w := w) (H := H) (A := A) (Q := Q) (R := R) (t := t) (b := b) (s := s) (fresh := fresh) (back := back) i
            have P1 := hide p1
            have P2 := hide p2
            have e2 : (pr == pr) = true := by simp
            have c0 : W1.cell? ⟨X, 0, none⟩ = some (.int .i64 1) := C1.out.c0
            have x1 := C1.out.c1
            clear p1 p2
            go_wp2_with fail
            go_region_held3 (fun w' => w'.cell? ⟨X, 1, none⟩ = some (.int .i64 i)) (first | exact x1 | exact y1 | exact z1) (first
              | (go_at_call 15; refine (P1.out _ (T1.out.drewN 1)).mono ?_; rintro e w3 ⟨rfl, t3, u3⟩; have T3 := hide t3; have C3 := hide ((C1.out.below (below_drewN (Below.refl _ _) 1)).left u3); have y1 := C3.out.c1; clear t3 u3)
              | (go_at_call 16; refine (P2.out _ T3.out).mono ?_; rintro e w4 ⟨rfl, t4, u4⟩; have T4 := hide t4; have C4 := hide (C3.out.right u4); have z1 := C4.out.c1; clear t4 u4)
              | (go_at_call 12; refine (num_any _ _).mono ?_; rintro e w' ⟨rfl, rfl⟩))
            go_wp2_with fail
            go_meet
            exact ⟨rfl, s2, fresh, back2, T4.out, C4.out⟩
          by_cases d2 : d = 2
          · subst d2
            obtain ⟨pr, pn, ps, hpn, p1, p2⟩ := pair_read (w := w) (H := H) (A := A) (Q := Q) (R := R) (t := t) (b := b) (s := s) (fresh := fresh) (back := back) i o m HWO.out
            have P1 := hide p1
            have P2 := hide p2
            have e2 : (pr == pr) = true := by simp
            have c0 : W1.cell? ⟨X, 0, none⟩ = some (.int .i64 2) := C1.out.c0
            have x1 := C1.out.c1
            have x2 := C1.out.c2
            have x3 := C1.out.c3
            clear p1 p2
            go_wp2_with (first
              | (go_at_call 17; refine (P1.out _ T1.out).mono ?_; rintro e w3 ⟨va, rfl, o3, b3⟩; have T3 := hide (T1.out.below b3); have C3 := hide (C1.out.below b3); have O3 := hide o3; have B3 := hide b3; have y1 := C3.out.c1; have y2 := C3.out.c2; have y3 := C3.out.c3; clear o3 b3)
              | (go_at_call 18; refine (P2.out _ T3.out).mono ?_; rintro e w4 ⟨vb, rfl, o4, b4⟩; have O4 := hide o4; have B4 := hide (B3.out.trans (b4.mono B3.out.size)); have O5 := hide ((Touch.of_below (S := fun _ => False) b4).own O3.out (fun _ _ e => e)); clear o4 b4)
              | (go_at_call 19; refine (same_own _ _ pn ps _ O5.out O4.out (by omega)).mono ?_; rintro e w5 ⟨rfl, m5, rfl⟩; have B5 := hide (below_drewN B4.out m5); have O6 : Hid ((w4.drewN m5).ownsRow W1.heap.size 5 1 va pn (ps.map (Value.int .u8))) := O5)
              | (go_at_call 12; refine (num_any _ _).mono ?_; rintro e w' ⟨rfl, rfl⟩)
              | (go_at_call 20; refine (over_touch _ pn _ _ O6.out (by omega)).mono ?_; rintro e w6 ⟨rfl, u6⟩; have B6 := hide (B5.out.trans (u6.below B5.out.size (fun i e => (O6.out.lt i e).1))); clear u6))
            go_meet
            exact ⟨rfl, s, fresh, back, T1.out.below B6.out, C1.out.below B6.out⟩
          by_cases d3 : d = 3
          · subst d3
            have hys : ys.length = l := HACT.out.came.1.1
            have hby := bytes_of_came HACT.out.came
            obtain ⟨pr, s2, p1, p2⟩ := pair_write (w := w) (H := H) (A := A) (Q := Q) (R := R) (t := t) (b := b) (g := W1.heap.size) (s := s) (fresh := fresh) (back := back) i o HWO.out l ys hys hby
            have P1 := hide p1
            have P2 := hide p2
            have e2 : (pr == pr) = true := by simp
            have c0 : W1.cell? ⟨X, 0, none⟩ = some (.int .i64 3) := C1.out.c0
            have x4 := C1.out.c4
            have lneg : l ≤ 1000000 := by omega
            clear p1 p2 hby
            go_wp2_with (go_at_call 21; refine (lend_any aa l c' ys _ (HACT.out.came.1.below T1.out.bel) HACT.out.came.2.2.2.1 lneg).mono ?_; rintro e w3 ⟨rfl, r3, b3⟩; have R3 := hide r3; have T3 := hide (T1.out.lend b3 (room_lt r3)); have C3 := hide (C1.out.below b3); have I3 := hide (room_ints r3 hys); have x1 := C3.out.c1; have x2 := C3.out.c2; have x4' := C3.out.c4; clear r3 b3)
            have HXG := hide (show X ≠ W1.heap.size by have := HXs.out; omega)
            generalize W1.heap.size = G at *
            go_region_held3 (fun w' => w'.cell? ⟨X, 1, none⟩ = some (.int .i64 i) ∧ w'.cell? ⟨X, 2, none⟩ = some (.int .i64 o) ∧ w'.cell? ⟨X, 4, none⟩ = some (.slice aa l c')) (first | exact ⟨x1, x2, x4'⟩ | exact ⟨y1, y2, y4⟩ | exact ⟨z1, z2, z4⟩) (first
              | (go_at_call 22; refine (P1.out _ _ _ (T3.out.below (below_drewN (Below.refl _ _) 1)) (I3.out.drew)).mono ?_; rintro e w4 ⟨rfl, t4, u4⟩; have T4 := hide t4; have C4 := hide ((C3.out.below (below_drewN (Below.refl _ _) 1)).left u4); have R4 := hide (room_touch R3.out ((Touch.refl (fun i => Blk H A Q i) _).drewN 1 |>.trans u4 (fun i e => .inl e)) T3.out.nB); have y1 := C4.out.c1; have y2 := C4.out.c2; have y4 := C4.out.c4; clear t4 u4)
              | (go_at_call 23; refine (P2.out _ _ _ T4.out (HACT.out.came.1.below T4.out.bel)).mono ?_; rintro e w5 ⟨rfl, t5, u5⟩; have T5 := hide t5; have C5 := hide (C4.out.right u5); have R5 := hide (room_touch R4.out u5 T4.out.nR); have z1 := C5.out.c1; have z2 := C5.out.c2; have z4 := C5.out.c4; clear t5 u5)
              | (go_at_call 24; refine (kept_any G aa l c' ys _ R5.out (HACT.out.came.1.below T5.out.bel) lneg).mono ?_; rintro e w6 ⟨rfl, m6, rfl⟩; have T6 := hide (T5.out.below (below_drewN (Below.refl _ _) m6)); have C6 := hide (C5.out.below (below_drewN (Below.refl _ _) m6)); have R6 := hide (room_touch R5.out ((Touch.refl (fun _ => False) _).drewN m6) (fun e => e)); have z1 := C6.out.c1; have z2 := C6.out.c2; have z4 := C6.out.c4)
              | (go_at_call 12; refine (num_any _ _).mono ?_; rintro e w' ⟨rfl, rfl⟩))
            go_wp2_with (go_at_call 20; refine (over_touch _ l _ _ (room_own R6.out (by rw [List.length_map]; exact hys) lneg (Nat.zero_le G)) lneg).mono ?_; rintro e w7 ⟨rfl, u7⟩; have U7 := u7.mono (S' := fun i => i = G) (fun i e => by injection e with e; exact e.symm); have T7 := hide (T6.out.over U7); have C7 := hide (C6.out.over U7 HXG.out); clear u7 U7)
            go_meet
            exact ⟨rfl, s2, fresh, back, T7.out, C7.out⟩
          have f0 : (d == 0) = false := by simpa using d0
          have f1 : (d == 1) = false := by simpa using d1
          have f2 : (d == 2) = false := by simpa using d2
          have f3 : (d == 3) = false := by simpa using d3
          have c0 := C1.out.c0
          go_wp2_with fail
          go_meet
          exact ⟨rfl, s, fresh, back, T1.out, C1.out⟩
        case rest =>
          obtain ⟨rfl, s2, fresh2, back2, hR⟩ := hcut
          clear T1 C1
          have x1 := hR.out.2.c1
          have g1 : ((s2.fr.length : Int) != (s2.fr.length : Int)) = false := by simp
          obtain ⟨b0, hb0⟩ : ∃ b0, b0 = (code s2 i 0 0 == 0) := ⟨_, rfl⟩
          have g2 : (b0 != b0) = false := by simp
          have HB0 := hide hb0
          clear hb0
          go_wp2_with fail
          have q1 : ∀ m, Calls Try.prog 25 #[.pointer (some ⟨H, 0, none⟩)] (wc.drewN m) fun e w' => e = .returned (.int .i64 (s2.fr.length : Nat)) ∧ ∃ n, w' = wc.drewN n := fun m => quiet_left (free_any (hR.out.1.drewN m).fr)
          have q2 : ∀ m, Calls Try.prog 26 #[.pointer (some ⟨R, 0, none⟩)] (wc.drewN m) fun e w' => e = .returned (.int .i64 (s2.fr.length : Nat)) ∧ ∃ n, w' = wc.drewN n := fun m => quiet_more (rfree_any (hR.out.1.drewN m).rf)
          have q3 : ∀ m, Calls Try.prog 27 #[.pointer (some ⟨H, 0, none⟩), .int .i64 i] (wc.drewN m) fun e w' => e = .returned (.bool b0) ∧ ∃ n, w' = wc.drewN n := fun m => quiet_left (by rw [HB0.out]; exact has_any (hR.out.1.drewN m).fr i)
          have q4 : ∀ m, Calls Try.prog 28 #[.pointer (some ⟨R, 0, none⟩), .int .i64 i] (wc.drewN m) fun e w' => e = .returned (.bool b0) ∧ ∃ n, w' = wc.drewN n := fun m => quiet_left (by rw [HB0.out]; exact rhas_any (hR.out.1.drewN m).rf i)
          have Q1 := hide q1
          have Q2 := hide q2
          have Q3 := hide q3
          have Q4 := hide q4
          clear q1 q2 q3 q4
          go_quiet ((first
            | (go_at_call 25; exact Q1.out _)
            | (go_at_call 26; exact Q2.out _)
            | (go_at_call 27; exact Q3.out _)
            | (go_at_call 28; exact Q4.out _)))
          go_wp2_with fail
          go_roundw
          case rel => exact ⟨k + 1, s2, fresh2, back2, by omega, by go_num, hR.out.1.drewN _⟩
          case measure => simp [intOf]; omega
      · obtain rfl : k = n := by omega
        go_wp2_with (go_at_call 9; with_reducible refine (awake_any _).mono ?_; rintro e w' ⟨rfl, hb⟩)
        go_ret
        exact ⟨rfl, hT.out.bel.trans (hb.mono hT.out.bel.size)⟩
end Go.Proofs.Ytbahhdocjnmncaa
