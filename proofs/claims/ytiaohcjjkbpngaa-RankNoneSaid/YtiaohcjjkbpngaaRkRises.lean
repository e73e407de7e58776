/-
  The law RankRises, over the contracts of the program's rank.
-/
import Derived.Test.YtiaohcjjkbpngaaRkFacts
import Derived.Test.YtiaohcjjkbpngaaFrLow
namespace Go.Proofs.Ytiaohcjjkbpngaa
open Go.ChangeShapes Go.WideShapes Go.ChangeAt Go.RowKit
set_option linter.unusedVariables false
section
variable {PT : World → Nat → List Mu → Prop}
theorem mem_take_not {hs : List Int} {k : Nat} {x y : Int} (he : hs[k]? = some y) (hn : x ∉ hs.take k) (hne : y ≠ x) : x ∉ hs.take (k + 1) := by
  have hk : k < hs.length := (List.getElem?_eq_some_iff.1 he).1
  rw [List.take_succ_eq_append_getElem hk, List.mem_append]
  rw [List.getElem?_eq_getElem hk] at he
  injection he with he
  rintro (h | h)
  · exact hn h
  · rw [List.mem_singleton, he] at h
    exact hne h.symm
set_option maxRecDepth 10000 in
set_option maxHeartbeats 16000000 in
theorem walk_rankRisesC (C : PRank PT) (w : World) (a : Option Addr) (n c : Nat) (ms : List Mu) (hin : Came 2 muVals MuWf w a n c ms) (b : Option Addr) (p d : Nat) (hs : List Int) (hin2 : CameIn .i64 w b p d hs) (m : Int) (hm : (Lit.int .i64 m).wf = true) (r : Int) (hr : (Lit.int .i64 r).wf = true) :
    Calls Try.prog 4 #[.slice a n c, .slice b p d, .int .i64 m, .int .i64 r] w fun e w' => e = .returned (.bool true) ∧ Below w.heap.size w w' := by
  have hrd := hin.reads
  obtain ⟨hxl, hnc, hcm, hnil, hfit, _⟩ := hin
  obtain ⟨hi, hpd, hdm, hnil2, hwf⟩ := hin2
  have n63 : (n : Int) ≤ 9223372036854775807 := by unfold maxLen at hcm; omega
  have p63 : (p : Int) ≤ 9223372036854775807 := by unfold maxLen at hdm; omega
  by_cases g30 : (30 : Int) < (p : Int)
  · clear hrd hxl hnc hcm hnil hfit hi hpd hdm hnil2 hwf
    go_enter Try.func4, Try.ntmps4
    go_wp2_with (go_at_call 6; refine (rkawake_any C _).mono ?_; rintro e w2 ⟨rfl, b2⟩)
    go_ret
    exact ⟨rfl, b2⟩
  by_cases p0 : p = 0
  · subst p0
    clear hrd hxl hnc hcm hnil hfit hi hpd hdm hnil2 hwf
    have z : (((0 : Nat) : Int) == 0) = true := rfl
    go_enter Try.func4, Try.ntmps4
    go_wp2_with (go_at_call 6; refine (rkawake_any C _).mono ?_; rintro e w2 ⟨rfl, b2⟩)
    go_ret
    exact ⟨rfl, b2⟩
  have p1 : ((p : Int) == 0) = false := by simpa using p0
  by_cases h6 : (6 : Int) < (n : Int)
  · clear hrd hxl hnc hcm hnil hfit hi hpd hdm hnil2 hwf p0
    go_enter Try.func4, Try.ntmps4
    go_wp2_with (go_at_call 6; refine (rkawake_any C _).mono ?_; rintro e w2 ⟨rfl, b2⟩)
    go_ret
    exact ⟨rfl, b2⟩
  by_cases hg : goodMu ms = true
  · have KN := hide (C.newGood w a n c ms hrd hfit hnc hcm hnil (by omega) hg)
    have NI := hide (fun (W : World) (bw : Below w.heap.size w W) => (show NumsIn w b p d hs from ⟨hi, hpd, hdm, hnil2, by omega, hwf⟩).below bw)
    have HL := hide hxl
    have HG := hide hg
    have HM := hide hm
    have P0 := hide (show 0 < p from by omega)
    have G30 := hide (show p ≤ 30 from by omega)
    have H6 := hide (show n ≤ 6 from by omega)
    have HPL := hide hi.1
    obtain ⟨p', hp'⟩ : ∃ p', p = p' + 1 := ⟨p - 1, by omega⟩
    have HP' := hide hp'
    have sb : p - 1 = p' := by omega
    have s1 : p' ≤ d := by omega
    have t0 : (1 : Int) ≤ (p : Int) := by omega
    have t1 : p - 1 ≤ d := by omega
    have t3 : (p : Int) - 1 ≤ (d : Int) := by omega
    have HD := hide hpd
    obtain ⟨bb, bo, rfl, _⟩ := hi.2 (by omega)
    obtain ⟨my, hmy⟩ : ∃ x, x = mayMu ms hs m := ⟨_, rfl⟩
    have KM := hide (fun (W : World) (S : Nat) (h : PT W S ms) (hn : NumsIn W (some ⟨bb, bo, none⟩) p d hs) => show Calls Try.prog 14 #[.pointer (some ⟨S, 0, none⟩), .slice (some ⟨bb, bo, none⟩) p d, .int .i64 m] W fun e w' => e = .returned (.int .i64 my) ∧ Below W.heap.size W w' from by have := C.may h hn HM.out; rw [← hmy] at this; exact this)
    have HMY := hide hmy
    clear hrd hxl hnc hcm hnil hfit hi hpd hdm hnil2 hwf p0 hg hm hmy hp'
    go_enter Try.func4, Try.ntmps4
    go_upto_region 6 with (go_at_call 7; refine KN.out.mono ?_; rintro e w1 ⟨S, rfl, t1, b1⟩; have T1 := hide t1; have B1 := hide b1; clear t1 b1)
    go_cut [57] (fun v wx => v = .bool false ∧ Hid (PT wx S ms ∧ Below w.heap.size w wx))
    case first =>
      by_cases hmy0 : my = 0
      · subst hmy0
        have M2 := hide (fun (W : World) (h : PT W S ms) (hn : NumsIn W (some ⟨bb, bo, none⟩) p d hs) => show Calls Try.prog 14 #[.pointer (some ⟨S, 0, none⟩), .slice (some ⟨bb, bo, none⟩) p' d, .int .i64 m] W fun e w' => e = .returned (.int .i64 0) ∧ Below W.heap.size W w' from by
          have := C.may h (hn.front (k := p') (by have := HP'.out; omega)) HM.out
          rw [mayMu_less p' HMY.out.symm] at this
          exact this)
        go_wp2_with (first
          | (go_at_call 14; have t2 := B2.out; clear t2; with_reducible refine (M2.out _ T2.out (NI.out _ B2.out)).mono ?_; rintro e w3 ⟨rfl, b3⟩; have T3 := hide (C.keep T2.out b3); have B3 := hide (B2.out.trans (b3.mono B2.out.size)); clear b3)
          | (go_at_call 14; with_reducible refine (KM.out _ S T1.out (NI.out _ B1.out)).mono ?_; rintro e w2 ⟨rfl, b2⟩; have T2 := hide (C.keep T1.out b2); have B2 := hide (B1.out.trans (b2.mono B1.out.size)); clear b2))
        go_meet
        case rel => exact ⟨rfl, T3.out, B3.out⟩
      · have hb : (my == 0) = false := by simpa using hmy0
        clear hmy0
        go_wp2_with (go_at_call 14; with_reducible refine (KM.out _ S T1.out (NI.out _ B1.out)).mono ?_; rintro e w2 ⟨rfl, b2⟩; have T2 := hide (C.keep T1.out b2); have B2 := hide (B1.out.trans (b2.mono B1.out.size)); clear b2)
        go_meet
        case rel => exact ⟨rfl, T2.out, B2.out⟩
    case rest =>
      obtain ⟨rfl, hZ⟩ := hcut
      have T3 := hide hZ.out.1
      have B3 := hide hZ.out.2
      clear hZ KM KN T1 B1 sb s1 t0 t1 t3
      have LW := hide (fun (W : World) => show Calls Try.prog 22 #[.int .i64 r, .int .i64 110] W fun e w' => (∃ q : Nat, q < 110 ∧ e = .returned (.int .i64 (q : Int))) ∧ W = w' from low_any r 110 W (by omega) (by omega))
      go_upto_region 9 with (go_at_call 22; refine (LW.out _).mono ?_; rintro e w' ⟨⟨q, hq, rfl⟩, rfl⟩)
      obtain ⟨u1, hu1⟩ : ∃ x, x = sumMu ms ((q : Int) + 1) := ⟨_, rfl⟩
      obtain ⟨u0, hu0⟩ : ∃ x, x = sumMu ms (q : Int) := ⟨_, rfl⟩
      have uu : ¬ u0 < u1 := by rw [hu1, hu0]; exact sumMu_mono HG.out _
      have KS1 := hide (fun (W : World) (h : PT W S ms) => show Calls Try.prog 16 #[.pointer (some ⟨S, 0, none⟩), .int .i64 ((q : Int) + 1)] W fun e w' => e = .returned (.int .i64 u1) ∧ Below W.heap.size W w' from by have := C.sum h (r := (q : Int) + 1) (by simp [Lit.wf, IntKind.min, IntKind.max, IntKind.signed, IntKind.bits]; omega); rw [← hu1] at this; exact this)
      have KS0 := hide (fun (W : World) (h : PT W S ms) => show Calls Try.prog 16 #[.pointer (some ⟨S, 0, none⟩), .int .i64 (q : Int)] W fun e w' => e = .returned (.int .i64 u0) ∧ Below W.heap.size W w' from by have := C.sum h (r := (q : Int)) (by simp [Lit.wf, IntKind.min, IntKind.max, IntKind.signed, IntKind.bits]; omega); rw [← hu0] at this; exact this)
      clear hu1 hu0
      obtain ⟨ls, hls⟩ : ∃ x, x = leastMu ms hs := ⟨_, rfl⟩
      obtain ⟨l1, l2⟩ := ls
      have KL := hide (fun (W : World) (h : PT W S ms) (hn : NumsIn W (some ⟨bb, bo, none⟩) p d hs) => show Calls Try.prog 10 #[.pointer (some ⟨S, 0, none⟩), .slice (some ⟨bb, bo, none⟩) p d] W fun e w' => e = .returned (.tuple #[.int .i64 l1, .bool l2]) ∧ Below W.heap.size W w' from by have := C.least h hn; rw [← hls] at this; exact this)
      have HLS := hide hls
      clear hls
      go_upto_region 12 with (first
        | (go_at_call 16; with_reducible refine (KS1.out _ T3.out).mono ?_; rintro e w4 ⟨rfl, b4⟩; have T4 := hide (C.keep T3.out b4); have B4 := hide (B3.out.trans (b4.mono B3.out.size)); clear b4)
        | (go_at_call 16; with_reducible refine (KS0.out _ T4.out).mono ?_; rintro e w5 ⟨rfl, b5⟩; have T5 := hide (C.keep T4.out b5); have B5 := hide (B4.out.trans (b5.mono B4.out.size)); clear b5)
        | (go_at_call 10; refine (KL.out _ T5.out (NI.out _ B5.out)).mono ?_; rintro e w6 ⟨rfl, b6⟩; have T6 := hide (C.keep T5.out b6); have B6 := hide (B5.out.trans (b6.mono B5.out.size)); clear b6))
      have D0 := hide (show goodMu ms = true from HG.out)
      clear KS1 KS0 KL T3 B3 T4 B4 T5 B5 uu LW
      go_wp2_with fail
      go_loopw [13, 14] (fun sv i wr => ∃ (k : Nat) (s : Int), k ≤ n ∧ sv = .int .i64 s ∧ i = .int .i64 k ∧ Hid (PT wr S ms ∧ Below w.heap.size w wr ∧ s = usedS ms hs k)) (fun _ i _ => n - (intOf i).toNat)
      case atStart => exact ⟨0, 0, Nat.zero_le _, rfl, rfl, T6.out, B6.out, rfl⟩
      case round =>
        clear T6 B6
        obtain ⟨k, s, hk, rfl, rfl, hZ⟩ := hrel
        have KE := hide (fun (W : World) (h : PT W S ms) => show Calls Try.prog 18 #[.pointer (some ⟨S, 0, none⟩)] W fun e w' => e = .returned (.int .i64 (n : Int)) ∧ Below W.heap.size W w' from by have := C.len h; rw [HL.out] at this; exact this)
        have ARM := hide hZ.out
        have hsb : 0 ≤ s ∧ s ≤ 1000 * (k : Int) := by rw [hZ.out.2.2]; exact usedS_bounds HG.out hs k (by rw [HL.out]; exact hk)
        have s0 : 0 ≤ s := hsb.1
        have s1 : s ≤ 6000 := by have := hsb.2; have := H6.out; omega
        clear hZ hsb
        by_cases hlt : k < n
        · have k0 : (0 : Int) ≤ (k : Int) := by omega
          have k1 : (k : Int) < (n : Int) := by omega
          have KM1 := hide (show k + 1 ≤ n from by omega)
          obtain ⟨lm, hlm⟩ : ∃ x, x = limMu ms (k : Int) := ⟨_, rfl⟩
          have hlm2 : lm = (muAt ms (k : Int)).l := by rw [hlm]; unfold limMu; rw [if_pos (isMu_iff.2 ⟨k, rfl, by rw [HL.out]; exact hlt⟩)]
          have lb := good_at HG.out (show k < ms.length by rw [HL.out]; exact hlt)
          have l0 : 1 ≤ lm := by rw [hlm2]; exact lb.1
          have l1' : lm ≤ 1000 := by rw [hlm2]; exact lb.2
          have KI := hide (fun (W : World) (h : PT W S ms) => show Calls Try.prog 20 #[.pointer (some ⟨S, 0, none⟩), .int .i64 (k : Int)] W fun e w' => e = .returned (.int .i64 lm) ∧ Below W.heap.size W w' from by
            have := C.limit h (m := (k : Int)) (by have := H6.out; simp [Lit.wf, IntKind.min, IntKind.max, IntKind.signed, IntKind.bits]; omega)
            rw [← hlm] at this; exact this)
          have HLM := hide hlm2
          clear hlm hlm2 lb
          go_wp2_with (go_at_call 18; refine (KE.out _ ARM.out.1).mono ?_; rintro e w7 ⟨rfl, b7⟩; have T7 := hide (C.keep ARM.out.1 b7); have B7 := hide (ARM.out.2.1.trans (b7.mono ARM.out.2.1.size)); clear b7)
          go_loopw [13, 15] (fun sv i wr => ∃ (j : Nat), j ≤ p ∧ sv = .int .i64 s ∧ i = .int .i64 j ∧ Hid (PT wr S ms ∧ Below w.heap.size w wr ∧ (k : Int) ∉ hs.take j)) (fun _ i _ => p - (intOf i).toNat)
          case atStart => exact ⟨0, Nat.zero_le _, rfl, rfl, T7.out, B7.out, by simp⟩
          case round =>
            clear T7 B7
            obtain ⟨j, hj, rfl, rfl, hY⟩ := hrel
            by_cases hjp : j < p
            · have j0 : (0 : Int) ≤ (j : Int) := by omega
              have j1 : (j : Int) < (p : Int) := by omega
              have JM1 := hide (show j + 1 ≤ p from by omega)
              have nb := (NI.out _ hY.out.2.1).ints
              obtain ⟨bb', bo', e, hc⟩ := nb.2 (by omega)
              injection e with e
              injection e with e1 e2
              subst e1 e2
              obtain ⟨h, hh⟩ : ∃ h, h = hs.getD j 0 := ⟨_, rfl⟩
              have hjl : j < hs.length := by rw [nb.1]; exact hjp
              have hh2 : hs[j]? = some h := by rw [hh]; simp [List.getD, hjl]
              have ch : wr.cell? ⟨bb, bo + j, none⟩ = some (.int .i64 h) := by rw [hh]; exact hc j hjp
              clear nb hc hh hjl
              by_cases he : h = (k : Int)
              · subst he
                have US := hide (show s + lm = usedS ms hs (k + 1) from by
                  show _ = usedS ms hs k + _
                  rw [if_pos (List.mem_iff_getElem?.2 ⟨j, hh2⟩), ← ARM.out.2.2, HLM.out])
                have q0 : ((k : Int) == (k : Int)) = true := by simp
                clear hh2
                go_wp2_with (go_at_call 20; refine (KI.out _ hY.out.1).mono ?_; rintro e w8 ⟨rfl, b8⟩; have T8 := hide (C.keep hY.out.1 b8); have B8 := hide (hY.out.2.1.trans (b8.mono hY.out.2.1.size)); clear b8)
                go_roundw
                case rel => exact ⟨k + 1, _, KM1.out, rfl, by go_num, T8.out, B8.out, US.out⟩
                case measure => have h9 := KM1.out; simp [intOf]; omega
              · have q0 : (h == (k : Int)) = false := by simpa using he
                have N2 := hide (show (k : Int) ∉ hs.take (j + 1) from mem_take_not hh2 hY.out.2.2 he)
                clear hh2 he
                go_wp2_with fail
                go_roundw
                case rel => exact ⟨j + 1, JM1.out, rfl, by go_num, hY.out.1, hY.out.2.1, N2.out⟩
                case measure => have h9 := JM1.out; simp [intOf]; omega
            · obtain rfl : j = p := by omega
              have US := hide (show s = usedS ms hs (k + 1) from by
                have h1 := hY.out.2.2
                rw [List.take_of_length_le (by rw [HPL.out]; omega)] at h1
                show _ = usedS ms hs k + _
                rw [if_neg h1, ← ARM.out.2.2]
                omega)
              go_wp2_with fail
              go_roundw
              case rel => exact ⟨k + 1, s, KM1.out, rfl, by go_num, hY.out.1, hY.out.2.1, US.out⟩
              case measure => have h9 := KM1.out; simp [intOf]; omega
        · obtain rfl : k = n := by omega
          cases l2 with
          | false =>
            have z0 : s = 0 := by
              rw [ARM.out.2.2]
              exact used_none (by rw [← HLS.out]) k (by rw [HL.out]; omega)
            subst z0
            go_wp2_with (first
              | (go_at_call 18; refine (KE.out _ ARM.out.1).mono ?_; rintro e w7 ⟨rfl, b7⟩; have B7 := hide (ARM.out.2.1.trans (b7.mono ARM.out.2.1.size)); clear b7)
              | (go_at_call 6; refine (rkawake_any C _).mono ?_; rintro e w8 ⟨rfl, b8⟩; have B8 := hide (B7.out.trans (b8.mono B7.out.size)); clear b8))
            go_ret
            exact ⟨rfl, B8.out⟩
          | true =>
            obtain ⟨u2, hu2⟩ : ∃ x, x = sumMu ms l1 := ⟨_, rfl⟩
            have su : s ≤ u2 := by
              rw [hu2, ARM.out.2.2]
              have := used_sum (hs := hs) HG.out
              rw [HL.out, ← HLS.out] at this
              exact this
            have lwf : (Lit.int .i64 l1).wf = true := by
              have := least_bounds HG.out hs (0, false) ⟨by simp, by simp⟩
              have e : l1 = (leastMu ms hs).1 := by rw [← HLS.out]
              unfold leastMu at e
              rw [← e] at this
              simp [Lit.wf, IntKind.min, IntKind.max, IntKind.signed, IntKind.bits]; omega
            have KS := hide (fun (W : World) (h : PT W S ms) => show Calls Try.prog 16 #[.pointer (some ⟨S, 0, none⟩), .int .i64 l1] W fun e w' => e = .returned (.int .i64 u2) ∧ Below W.heap.size W w' from by have := C.sum h (r := l1) lwf; rw [← hu2] at this; exact this)
            clear hu2 lwf
            go_wp2_with (first
              | (go_at_call 18; refine (KE.out _ ARM.out.1).mono ?_; rintro e w7 ⟨rfl, b7⟩; have T7 := hide (C.keep ARM.out.1 b7); have B7 := hide (ARM.out.2.1.trans (b7.mono ARM.out.2.1.size)); clear b7)
              | (go_at_call 16; refine (KS.out _ T7.out).mono ?_; rintro e w8 ⟨rfl, b8⟩; have B8 := hide (B7.out.trans (b8.mono B7.out.size)); clear b8)
              | (go_at_call 6; refine (rkawake_any C _).mono ?_; rintro e w9 ⟨rfl, b9⟩; have B9 := hide (B8.out.trans (b9.mono B8.out.size)); clear b9))
            go_ret
            exact ⟨rfl, B9.out⟩
  · have hg' : goodMu ms = false := by simpa using hg
    have KN := hide (C.newBad w a n c ms hrd hfit hnc hcm hnil (by omega) hg')
    clear hrd hxl hnc hcm hnil hfit hi hpd hdm hnil2 hwf hm hr hg hg' p0
    go_enter Try.func4, Try.ntmps4
    go_wp2_with (first
      | (go_at_call 7; refine KN.out.mono ?_; rintro e w1 ⟨rfl, b1⟩; have B1 := hide b1; clear b1)
      | (go_at_call 6; refine (rkawake_any C _).mono ?_; rintro e w2 ⟨rfl, b2⟩; have B2 := hide (B1.out.trans (b2.mono B1.out.size)); clear b2))
    go_ret
    exact ⟨rfl, B2.out⟩
end
end Go.Proofs.Ytiaohcjjkbpngaa
