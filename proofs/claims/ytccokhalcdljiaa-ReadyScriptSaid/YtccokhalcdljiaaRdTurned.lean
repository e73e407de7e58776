/-
  The walk of ReadyTurned, over the contracts of the program's ready and prio.
-/
import Derived.Test.YtccokhalcdljiaaRdPair
namespace Go.Proofs.Ytccokhalcdljiaa
open Go.ChangeShapes Go.WideShapes Go.ChangeAt Go.RowKit
set_option linter.unusedVariables false
theorem own_slice {q : IntKind} {w : World} {base n c : Nat} {e : TypeId} {A : Option Addr} {xs : List Int} (h : w.ownsRow base e 1 (.slice A n c) n (xs.map (Value.int q))) : Ints q w A n xs := by
  obtain ⟨A', c', ev, hi, _⟩ := own_ints h
  injection ev with e1 e2 e3
  subst e1
  exact hi
theorem chgR_le (l : List Rt) (id : Int) (p : Pr) : (chgR l id p).length ≤ l.length + 1 := by
  unfold chgR
  split
  · rw [insR_len]
    have := List.length_filter_le (fun x : Rt => !((x.id : Int) == id)) l
    exact Nat.succ_le_succ (List.length_filter_le _ _)
  · omega
section
variable {PQ : World → (Nat → Prop) → Nat → List Rt → Prop}
set_option maxRecDepth 10000 in
set_option maxHeartbeats 16000000 in
theorem walk_readyTurnedC (C : PReady PQ) (D : PPrio2) (w : World) (a : Option Addr) (n c : Nat) (zs : List (List Int)) (hin : CameRows 3 w a n c zs) (who : Int) (ww : (Lit.int .i64 who).wf = true) (pc pl pd : Int) (hc : (Lit.int .i64 pc).wf = true) (hl : (Lit.int .i64 pl).wf = true) (hd : (Lit.int .i64 pd).wf = true) :
    Calls Try.prog 6 #[.slice a n c, .int .i64 who, .agg #[.int .i64 pc, .int .i64 pl, .int .i64 pd]] w fun e w' => e = .returned (.bool true) ∧ Below w.heap.size w w' := by
  obtain ⟨ps, hrow, hnc, hcm, hwf⟩ := PrRow.of_came hin
  have hn : n ≤ maxLen := Nat.le_trans hnc hcm
  have h63 : (n : Int) ≤ 9223372036854775807 := by unfold maxLen at hn; omega
  have wp : PrWf ⟨pc, pl, pd⟩ := ⟨hc, hl, hd⟩
  clear hin hnc hcm hc hl hd ww
  obtain ⟨w1, hw1⟩ : ∃ w1, w1 = w.alloc (.cells #[.int .i64 pc, .int .i64 pl, .int .i64 pd] 31) := ⟨_, rfl⟩
  have B1 := hide (show Below w.heap.size w w1 from by rw [hw1]; exact (Below.refl w.heap.size w).alloc (Nat.le_refl _) _)
  have P1 := hide (show PrAt w1 w.heap.size pc pl pd from by rw [hw1]; exact prAt_new w pc pl pd)
  obtain ⟨X, hX⟩ : ∃ X, X = w.heap.size := ⟨_, rfl⟩
  rw [← hX] at P1
  have HX := hide hX
  have HW := hide hw1
  clear hw1 hX
  by_cases h40 : 40 < n
  · have h40' : (40 : Int) < (n : Int) := by omega
    clear hrow hwf
    go_enter Try.func6, Try.ntmps6
    go_upto_region 1 with fail
    rw [← HW.out, ← HX.out]
    go_wp2_with (go_at_call 7; refine (pawake8_any C _).mono ?_; rintro e w' ⟨rfl, hb⟩)
    go_ret
    exact ⟨rfl, B1.out.trans (hb.mono B1.out.size)⟩
  have h40' : ¬ (40 : Int) < (n : Int) := by omega
  by_cases h0 : n = 0
  · subst h0
    clear hrow hwf
    go_enter Try.func6, Try.ntmps6
    go_upto_region 1 with fail
    rw [← HW.out, ← HX.out]
    go_wp2_with (go_at_call 7; refine (pawake8_any C _).mono ?_; rintro e w' ⟨rfl, hb⟩)
    go_ret
    exact ⟨rfl, B1.out.trans (hb.mono B1.out.size)⟩
  have n0 : ((n : Int) == 0) = false := by simp; omega
  have n1 : (0 : Int) < (n : Int) := by omega
  have HR := hide (hrow.below B1.out)
  have WF := hide hwf
  have WP := hide wp
  clear hrow hwf wp
  go_enter Try.func6, Try.ntmps6
  go_upto_region 1 with fail
  rw [← HW.out, ← HX.out]
  go_wp2_with fail
  go_at_call 8
  refine (C.new _).mono ?_
  rintro e w2 ⟨S, U, rfl, q2, b2, l2⟩
  go_wp2_with fail
  go_at_call 8
  refine (C.new _).mono ?_
  rintro e w3 ⟨T, V, rfl, q3, b3, l3⟩
  have O1 := hide (pairR_first (w := w1) C q2 b2 l2 q3 b3 l3)
  clear q2 b2 l2 q3 b3 l3
  go_wp2_with fail
  go_loopw [9] (fun i wr => ∃ (k : Nat) (U V : Nat → Prop), k ≤ n ∧ i = .int .i64 (k : Int) ∧ Hid (PairR PQ w1 wr U V S T (bldR ps k) (bldB ps n k))) (fun i _ => n - (intOf i).toNat)
  case atStart => exact ⟨0, U, V, Nat.zero_le _, rfl, O1.out⟩
  case round =>
    clear O1 U V
    obtain ⟨k, U, V, hk, rfl, hO⟩ := hrel
    have bl := bld_le ps k
    have bl2 := bldB_le ps n k
    by_cases hlt : k < n
    · have k0 : (0 : Int) ≤ (k : Int) := by omega
      have k1 : (k : Int) < (n : Int) := by omega
      obtain ⟨j, hj⟩ : ∃ j, j = n - 1 - k := ⟨_, rfl⟩
      have hj1 : (n : Int) - 1 - (k : Int) = (j : Int) := by omega
      have hjn : j < n := by omega
      obtain ⟨b, off, ea, -⟩ := (HR.out.below hO.out.bel).at_ hlt
      obtain ⟨p, hp⟩ : ∃ p, p = ps.getD k prD := ⟨_, rfl⟩
      obtain ⟨q, hq⟩ : ∃ q, q = ps.getD j prD := ⟨_, rfl⟩
      have wp := WF.out k hlt
      have wq := WF.out j hjn
      rw [← hp] at wp
      rw [← hq] at wq
      obtain ⟨l1, hl1⟩ : ∃ l1, l1 = addR (bldR ps k) (k : Int) ⟨p.c, p.l, p.d⟩ := ⟨_, rfl⟩
      obtain ⟨m1, hm1⟩ : ∃ m1, m1 = addR (bldB ps n k) (j : Int) ⟨q.c, q.l, q.d⟩ := ⟨_, rfl⟩
      obtain ⟨u1, hu1⟩ : ∃ u1 : Nat, u1 = addE (bldR ps k) (k : Int) ⟨p.c, p.l, p.d⟩ := ⟨_, rfl⟩
      obtain ⟨v1, hv1⟩ : ∃ v1 : Nat, v1 = addE (bldB ps n k) (j : Int) ⟨q.c, q.l, q.d⟩ := ⟨_, rfl⟩
      have BN := hide (show bldR ps (k + 1) = l1 from by rw [hl1, hp]; rfl)
      have BM := hide (show bldB ps n (k + 1) = m1 from by rw [hm1, hq, hj]; rfl)
      have wk : (Lit.int .i64 (k : Int)).wf = true := by simp [Lit.wf, IntKind.min, IntKind.max, IntKind.bits, IntKind.signed]; omega
      have wj : (Lit.int .i64 (j : Int)).wf = true := by simp [Lit.wf, IntKind.min, IntKind.max, IntKind.bits, IntKind.signed]; omega
      have AD := hide (show Calls Try.prog 10 #[.pointer (some ⟨S, 0, none⟩), .int .i64 (k : Int), .agg #[.int .i64 p.c, .int .i64 p.l, .int .i64 p.d]] wr (SideR (fun w' U' => PQ w' U' S l1) U wr (.int .i64 (u1 : Nat))) from by rw [hl1, hu1]; exact C.add hO.out.ps (id := (k : Int)) (c := p.c) (lv := p.l) (d := p.d) wk wp (by omega))
      have AE := hide (fun (W : World) (V' : Nat → Prop) (hW : PQ W V' T (bldB ps n k)) => show Calls Try.prog 10 #[.pointer (some ⟨T, 0, none⟩), .int .i64 (j : Int), .agg #[.int .i64 q.c, .int .i64 q.l, .int .i64 q.d]] W (SideR (fun w' U' => PQ w' U' T m1) V' W (.int .i64 (v1 : Nat))) from by rw [hm1, hv1]; exact C.add hW (id := (j : Int)) (c := q.c) (lv := q.l) (d := q.d) wj wq (by omega))
      clear hl1 hm1 hu1 hv1 bl bl2
      generalize bldR ps k = l0 at hO
      generalize bldB ps n k = m0 at hO AE
      have RC := hide (fun (W : World) (hW : Below w1.heap.size w1 W) => show (W.cell? ⟨b, off + k * 3, none⟩ = some (.int .i64 p.c) ∧ W.cell? ⟨b, off + k * 3 + 1, none⟩ = some (.int .i64 p.l) ∧ W.cell? ⟨b, off + k * 3 + 2, none⟩ = some (.int .i64 p.d)) ∧ (W.cell? ⟨b, off + j * 3, none⟩ = some (.int .i64 q.c) ∧ W.cell? ⟨b, off + j * 3 + 1, none⟩ = some (.int .i64 q.l) ∧ W.cell? ⟨b, off + j * 3 + 2, none⟩ = some (.int .i64 q.d)) from by
        obtain ⟨b1, o1, f1, z1⟩ := (HR.out.below hW).at_ hlt
        obtain ⟨b2, o2, f2, z2⟩ := (HR.out.below hW).at_ hjn
        rw [ea] at f1 f2
        injection f1 with f1
        injection f1 with f11 f12 _
        injection f2 with f2
        injection f2 with f21 f22 _
        subst f11 f12 f21 f22
        rw [hp, hq]
        exact ⟨z1, z2⟩)
      subst ea
      have j0 : (0 : Int) ≤ (j : Int) := by omega
      have j1 : (j : Int) < (n : Int) := by omega
      obtain ⟨⟨y0, y1, y2⟩, -⟩ := RC.out wr hO.out.bel
      have HO := hide hO.out
      have HJ := hide hj1
      clear hO hp hq wp wq wk wj hj hj1
      go_upto_region 10 with (go_at_call 10; refine AD.out.mono ?_; intro en w4 hs; obtain ⟨rfl, U4, q4⟩ := HO.out.left C hs; have O4 := hide q4; clear hs q4)
      clear y0 y1 y2
      obtain ⟨-, y0, y1, y2⟩ := RC.out w4 O4.out.bel
      have hj1 := HJ.out
      go_wp2_with (go_at_call 10; refine (AE.out _ _ O4.out.qs).mono ?_; intro en w5 hs; obtain ⟨rfl, V5, q5⟩ := O4.out.right C hs; have O5 := hide q5; clear hs q5)
      go_roundw
      case rel => exact ⟨k + 1, U4, V5, by omega, by go_num, by rw [BN.out, BM.out]; exact O5.out⟩
      case measure => simp [intOf]; omega
    · obtain rfl : k = n := by omega
      have E := bld_same (C.good hO.out.ps) (C.good hO.out.qs)
      rw [E] at hO
      obtain ⟨l, hl⟩ : ∃ l, l = bldR ps k := ⟨_, rfl⟩
      have L0 := hide hO.out
      rw [← hl] at L0 bl
      clear hl hO E bl2
      have l63 : l.length ≤ 9223372036854775807 := by omega
      have AL := hide (fun (W : World) (V' : Nat → Prop) (h : PQ W V' S l) => C.all h)
      have AR := hide (fun (W : World) (V' : Nat → Prop) (h : PQ W V' T l) => C.all h)
      go_upto_region 13 with (first
        | (go_at_call 16; with_reducible refine (AL.out _ _ L0.out.ps).mono ?_; intro en w2 hs; obtain ⟨A2, c2, rfl, o2, ⟨U2, q2⟩, d2⟩ := L0.out.allL C hs; have O2 := hide q2; have R2 := hide (And.intro o2 d2); clear hs o2 q2 d2)
        | (go_at_call 16; with_reducible refine (AR.out _ _ O2.out.qs).mono ?_; intro en w3 hs; obtain ⟨A3, c3, rfl, o3, ⟨V3, q3⟩, t3⟩ := O2.out.allR C hs; have O3 := hide q3; have R3 := hide (own_slice o3); have R4 := hide (own_slice (t3.own R2.out.1 R2.out.2)); clear hs o3 q3 t3)
        | (go_at_call 22; refine (same_any _ _ _ _ _ _ _ R4.out R3.out l63).mono ?_; rintro e w4 ⟨rfl, b4⟩; have O4 := hide (O3.out.below C b4); clear b4))
      have P4 := hide (P1.out.below O4.out.bel)
      go_upto_region 14 with (go_at_call 26; refine (low_any who k _ (by omega) (by omega)).mono ?_; rintro e w5 ⟨⟨r, hr, rfl⟩, rfl⟩)
      have r63 : (Lit.int .i64 (r : Int)).wf = true := by simp [Lit.wf, IntKind.min, IntKind.max, IntKind.bits, IntKind.signed]; omega
      obtain ⟨hb, hhb⟩ : ∃ hb, hb = hasR l (r : Int) := ⟨_, rfl⟩
      obtain ⟨mp, hmp⟩ : ∃ mp, mp = mayP ⟨pc, pl, pd⟩ := ⟨_, rfl⟩
      have HA := hide (fun (W : World) (V' : Nat → Prop) (h : PQ W V' S l) => show Calls Try.prog 19 #[.pointer (some ⟨S, 0, none⟩), .int .i64 (r : Int)] W (SideR (fun w' U' => PQ w' U' S l) V' W (.bool hb)) from by rw [hhb]; exact C.has h r63)
      have MA := hide (fun W => show Calls Try.prog 24 #[.agg #[.int .i64 pc, .int .i64 pl, .int .i64 pd]] W fun e w' => e = .returned (.bool mp) ∧ Below W.heap.size W w' from by rw [hmp]; exact D.may W pc pl pd WP.out)
      have HH := hide hhb
      have HM := hide hmp
      clear hhb hmp
      clear P4
      cases hb with
      | false =>
        go_wp2_with (first
          | (go_at_call 19; refine (HA.out _ _ O4.out.ps).mono ?_; intro en w5 hs; obtain ⟨rfl, U5, q5⟩ := O4.out.left C hs; have O5 := hide q5; obtain ⟨y0, y1, y2⟩ := (P1.out.below O5.out.bel).cells; clear hs q5)
          | (go_at_call 7; refine (pawake8_any C _).mono ?_; rintro e w9 ⟨rfl, b9⟩))
        go_ret
        exact ⟨rfl, B1.out.trans ((O5.out.bel.trans (b9.mono O5.out.bel.size)).mono B1.out.size)⟩
      | true =>
        cases mp with
        | false =>
          go_wp2_with (first
            | (go_at_call 19; refine (HA.out _ _ O4.out.ps).mono ?_; intro en w5 hs; obtain ⟨rfl, U5, q5⟩ := O4.out.left C hs; have O5 := hide q5; obtain ⟨y0, y1, y2⟩ := (P1.out.below O5.out.bel).cells; clear hs q5)
            | (go_at_call 24; refine (MA.out _).mono ?_; rintro e w6 ⟨rfl, b6⟩; have O6 := hide (O5.out.below C b6); clear b6)
            | (go_at_call 7; refine (pawake8_any C _).mono ?_; rintro e w9 ⟨rfl, b9⟩))
          go_ret
          exact ⟨rfl, B1.out.trans ((O6.out.bel.trans (b9.mono O6.out.bel.size)).mono B1.out.size)⟩
        | true =>
          go_upto_region 16 with (first
            | (go_at_call 19; refine (HA.out _ _ O4.out.ps).mono ?_; intro en w5 hs; obtain ⟨rfl, U5, q5⟩ := O4.out.left C hs; have O5 := hide q5; obtain ⟨y0, y1, y2⟩ := (P1.out.below O5.out.bel).cells; clear hs q5)
            | (go_at_call 24; refine (MA.out _).mono ?_; rintro e w6 ⟨rfl, b6⟩; have O6 := hide (O5.out.below C b6); clear b6))
          clear y0 y1 y2
          obtain ⟨z0, z1, z2⟩ := (P1.out.below O6.out.bel).cells
          have hm : mayP ⟨pc, pl, pd⟩ = true := HM.out.symm
          have hh : hasR l (r : Int) = true := HH.out.symm
          have E1 : chgE l (r : Int) ⟨pc, pl, pd⟩ = 0 := by unfold chgE; rw [if_neg (by rw [hm]; simp), if_pos hh]
          obtain ⟨E2, E3⟩ := chg_add E1
          have LL := chgR_le l (r : Int) ⟨pc, pl, pd⟩
          obtain ⟨m, hm1⟩ : ∃ m, m = chgR l (r : Int) ⟨pc, pl, pd⟩ := ⟨_, rfl⟩
          obtain ⟨d, hd1⟩ : ∃ d, d = dropR l (r : Int) := ⟨_, rfl⟩
          have DL : d.length ≤ l.length := by rw [hd1]; exact List.length_filter_le _ _
          have CH := hide (fun (W : World) (V' : Nat → Prop) (h : PQ W V' S l) => show Calls Try.prog 14 #[.pointer (some ⟨S, 0, none⟩), .int .i64 (r : Int), .agg #[.int .i64 pc, .int .i64 pl, .int .i64 pd]] W (SideR (fun w' U' => PQ w' U' S m) V' W (.int .i64 0)) from by have := C.chg h (id := (r : Int)) (c := pc) (lv := pl) (d := pd) r63 WP.out (by omega); rw [E1, ← hm1] at this; exact this)
          have DR := hide (fun (W : World) (V' : Nat → Prop) (h : PQ W V' T l) => show Calls Try.prog 12 #[.pointer (some ⟨T, 0, none⟩), .int .i64 (r : Int)] W (SideR (fun w' U' => PQ w' U' T d) V' W (.bool true)) from by have := C.drop h (id := (r : Int)) r63; rw [hh, ← hd1] at this; exact this)
          have AD := hide (fun (W : World) (V' : Nat → Prop) (h : PQ W V' T d) => show Calls Try.prog 10 #[.pointer (some ⟨T, 0, none⟩), .int .i64 (r : Int), .agg #[.int .i64 pc, .int .i64 pl, .int .i64 pd]] W (SideR (fun w' U' => PQ w' U' T m) V' W (.int .i64 0)) from by have := C.add h (id := (r : Int)) (c := pc) (lv := pl) (d := pd) r63 WP.out (by omega); rw [hd1, E2, ← E3, ← hm1] at this; exact this)
          rw [← hm1] at LL
          clear hm hh E1 E2 E3 hm1 hd1 DL
          go_upto_region 18 with (first
            | (go_at_call 14; refine (CH.out _ _ O6.out.ps).mono ?_; intro en w7 hs; obtain ⟨rfl, U7, q7⟩ := O6.out.left C hs; have O7 := hide q7; clear hs q7)
            | (go_at_call 12; refine (DR.out _ _ O7.out.qs).mono ?_; intro en w8 hs; obtain ⟨rfl, V8, q8⟩ := O7.out.right C hs; have O8 := hide q8; clear z0 z1 z2; obtain ⟨z0, z1, z2⟩ := (P1.out.below O8.out.bel).cells; clear hs q8)
            | (go_at_call 10; refine (AD.out _ _ O8.out.qs).mono ?_; intro en w9 hs; obtain ⟨rfl, V9, q9⟩ := O8.out.right C hs; have O9 := hide q9; clear hs q9))
          clear z0 z1 z2 AL AR
          have m63 : m.length ≤ 9223372036854775807 := by omega
          have AL := hide (fun (W : World) (V' : Nat → Prop) (h : PQ W V' S m) => C.all h)
          have AR := hide (fun (W : World) (V' : Nat → Prop) (h : PQ W V' T m) => C.all h)
          go_wp2_with (first
            | (go_at_call 16; with_reducible refine (AL.out _ _ O9.out.ps).mono ?_; intro en w10 hs; obtain ⟨A10, c10, rfl, o10, ⟨U10, q10⟩, d10⟩ := O9.out.allL C hs; have O10 := hide q10; have R10 := hide (And.intro o10 d10); clear hs o10 q10 d10)
            | (go_at_call 16; with_reducible refine (AR.out _ _ O10.out.qs).mono ?_; intro en w11 hs; obtain ⟨A11, c11, rfl, o11, ⟨V11, q11⟩, t11⟩ := O10.out.allR C hs; have O11 := hide q11; have R11 := hide (own_slice o11); have R12 := hide (own_slice (t11.own R10.out.1 R10.out.2)); clear hs o11 q11 t11)
            | (go_at_call 22; refine (same_any _ _ _ _ _ _ _ R12.out R11.out m63).mono ?_; rintro e w12 ⟨rfl, b12⟩; have O12 := hide (O11.out.below C b12); clear b12)
            | (go_at_call 7; refine (pawake8_any C _).mono ?_; rintro e w13 ⟨rfl, b13⟩))
          go_ret
          exact ⟨rfl, B1.out.trans ((O12.out.bel.trans (b13.mono O12.out.bel.size)).mono B1.out.size)⟩
end
end Go.Proofs.Ytccokhalcdljiaa
