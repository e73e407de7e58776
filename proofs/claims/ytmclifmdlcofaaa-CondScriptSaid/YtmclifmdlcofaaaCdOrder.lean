/-
  The walk of CondOrder, over the contracts of the program's conditions.
-/
import Derived.Test.YtmclifmdlcofaaaCdKeys
namespace Go.Proofs.Ytmclifmdlcofaaa
open Go.ChangeShapes Go.WideShapes Go.ChangeAt Go.RowKit
set_option linter.unusedVariables false
set_option linter.unusedSimpArgs false
attribute [local go_sem] built_keys
attribute [local irreducible] keyVals
/-- Those of a list are threads from j on, of the bits of a. -/
def FromBits (a j : Nat) (l : List Int) : Prop := ∀ x ∈ l, ∃ n : Nat, x = (n : Int) ∧ j ≤ n ∧ n < 16 ∧ a.testBit n = true
theorem order_wait {a j : Nat} {l : List Int} (h : FromBits a (j + 1) l) (hj : j < 16) (hb : a.testBit j = true) (g : GoodC [l]) :
    waitE [l] (j : Int) 0 = 0 ∧ waitS [l] (j : Int) 0 = [insL l (j : Int)] ∧ waitE [insL l (j : Int)] (j : Int) 0 = 5 ∧ waitS [insL l (j : Int)] (j : Int) 0 = [insL l (j : Int)] ∧ FromBits a j (insL l (j : Int)) := by
  have hno : (j : Int) ∉ l := fun hm => by obtain ⟨n, e, h1, _⟩ := h _ hm; omega
  have e0 : waitE [l] (j : Int) 0 = 0 := by
    unfold waitE
    rw [if_neg (by intro e; rcases e with e | e; omega; cases e), if_neg (by rw [ofC_none (fun m hm => by simp at hm; subst hm; exact hno)]; omega)]
  have e1 : waitE [insL l (j : Int)] (j : Int) 0 = 5 := by
    unfold waitE
    rw [if_neg (by intro e; rcases e with e | e; omega; cases e), if_pos (by rw [ofC_some (k := 0) (l := insL l (j : Int)) rfl (mem_insL.2 (.inl rfl)) (fun i m hi => absurd hi (by omega))]; omega)]
  refine ⟨e0, by unfold waitS; rw [if_pos e0]; rfl, e1, by unfold waitS; rw [if_neg (by rw [e1]; decide)], fun x hx => ?_⟩
  rcases mem_insL.1 hx with rfl | hx
  · exact ⟨j, rfl, Nat.le_refl _, hj, hb⟩
  · obtain ⟨n, e, h1, h2, h3⟩ := h x hx
    exact ⟨n, e, by omega, h2, h3⟩
theorem FromBits.less {a j : Nat} {l : List Int} (h : FromBits a (j + 1) l) : FromBits a j l := fun x hx => by
  obtain ⟨n, e, h1, h2⟩ := h x hx
  exact ⟨n, e, by omega, h2⟩
theorem FromBits.len {a j : Nat} {l : List Int} (h : FromBits a j l) (g : GoodC [l]) : l.length ≤ 16 := by
  refine g.few (b := 16) (fun m hm x hx => ?_) l (by simp)
  simp at hm
  subst hm
  obtain ⟨n, e, _, h2, _⟩ := h x hx
  omega
theorem FromBits.few {a j : Nat} {l : List Int} (h : FromBits a j l) (g : GoodC [l]) : FewC [l] := fun m hm => by
  simp at hm
  subst hm
  have := h.len g
  omega
theorem rises_filter : ∀ {l : List Int} {x : Int}, l.Pairwise (· < ·) → x ∈ l → (l.filter (fun y => decide (y ≠ x))).length + 1 = l.length := by
  intro l
  induction l with
  | nil => intro x _ h; cases h
  | cons y l ih =>
    intro x hp hx
    rw [List.pairwise_cons] at hp
    by_cases e : y = x
    · subst e
      have : l.filter (fun z => decide (z ≠ y)) = l := List.filter_eq_self.2 fun z hz => by have := hp.1 z hz; simp; omega
      rw [List.filter_cons, if_neg (by simp), this]
      simp
    · have hx2 : x ∈ l := by rcases List.mem_cons.1 hx with h | h; exact absurd h.symm e; exact h
      rw [List.filter_cons, if_pos (by simpa using e)]
      have := ih hp.2 hx2
      simp only [List.length_cons]
      omega
theorem can_one {l : List Int} {x : Int} (hx : x ∈ l) : canS [l] x = [l.filter (fun y => decide (y ≠ x))] := by
  have e0 : ofC [l] x = 0 := ofC_some (k := 0) (l := l) rfl hx (fun j m hj => absurd hj (by omega))
  have e1 : canB [l] x = true := by unfold canB; rw [e0]; rfl
  unfold canS
  rw [if_pos e1, e0]
  rfl
/-- Whoever was last signalled counts more than those who wait. -/
def AfterC (ks : List Int) (last : Int) (l : List Int) : Prop := last = -1 ∨ ∃ m : Nat, last = (m : Int) ∧ m < 16 ∧ ∀ y ∈ l, keyC ks y < keyC ks (m : Int) ∨ (keyC ks y = keyC ks (m : Int) ∧ (m : Int) < y)
theorem order_sig {ks l : List Int} {a : Nat} (g : GoodC [l]) (hf : FromBits a 0 l) (hn : 0 < l.length) : ∃ x : Nat, x < 16 ∧ a.testBit x = true ∧ (x : Int) ∈ l ∧ sigB [l] 0 = true ∧ sigX ks [l] 0 = (x : Int) ∧ sigS ks [l] 0 = [l.filter (fun y => decide (y ≠ (x : Int)))] ∧ (l.filter (fun y => decide (y ≠ (x : Int)))).length + 1 = l.length ∧ AfterC ks (x : Int) (l.filter (fun y => decide (y ≠ (x : Int)))) := by
  have hne : l ≠ [] := fun e => by rw [e] at hn; exact absurd hn (by simp)
  have hp := g.rise l (by simp)
  obtain ⟨h1, h2⟩ := bestC_spec ks hne hp
  obtain ⟨x, ex, _, hx, hb⟩ := hf _ h1
  have e0 : lstC [l] 0 = l := rfl
  have eB : sigB [l] 0 = true := by unfold sigB; rw [e0]; simpa using hne
  have eX : sigX ks [l] 0 = (x : Int) := by unfold sigX; rw [e0, ex]
  rw [ex] at h1 h2
  refine ⟨x, hx, hb, h1, eB, eX, by unfold sigS; rw [if_pos eB, eX, can_one h1], rises_filter hp h1, .inr ⟨x, rfl, hx, fun y hy => ?_⟩⟩
  obtain ⟨m1, m2⟩ := List.mem_filter.1 hy
  have := h2 y m1
  have m3 : y ≠ (x : Int) := by simpa using m2
  omega
theorem sig_none (ks : List Int) : sigB [[]] 0 = false ∧ sigX ks [[]] 0 = -1 ∧ sigS ks [[]] 0 = [[]] := ⟨rfl, rfl, rfl⟩
section
variable {PC : Rel Cs}
set_option maxRecDepth 10000 in
set_option maxHeartbeats 8000000 in
theorem walk_condOrderC (C : PConds PC) (w : World) (a : Nat) (ha : a < 65536) (ks : List Int) (hk : ks.length = 16) : Calls Try.prog 4 #[.int .u16 (a : Int), .agg (keyVals ks)] w fun e w' => e = .returned (.bool true) ∧ Below w.heap.size w w' := by
  have hmf := run_keep_func
  have K0 := hide (keysAt_of (w := w) hk 23)
  have B0 := hide ((Below.refl w.heap.size w).alloc (Nat.le_refl _) (.cells (keyVals ks) 23))
  have X0 := hide (show w.heap.size < (w.alloc (.cells (keyVals ks) 23)).heap.size from by simp)
  have HA := hide ha
  have a0 : (0 : Int) ≤ (a : Int) := by omega
  have a1 : (a : Int) < 65536 := by omega
  go_enter Try.func4, Try.ntmps4
  go_upto_region 1 with fail
  obtain ⟨w0, hw0⟩ : ∃ w0, w0 = w.alloc (.cells (keyVals ks) 23) := ⟨_, rfl⟩
  rw [← hw0] at K0 B0 X0 ⊢
  clear hw0
  obtain ⟨X, hX⟩ : ∃ X, X = w.heap.size := ⟨_, rfl⟩
  have HX := hide hX
  rw [← hX] at K0 X0 ⊢
  clear hX
  go_wp2_with fail
  go_at_call 9
  refine (C.new w0 1 (by omega) (by omega)).mono ?_
  rintro e w1 ⟨S, U, rfl, p1, b1, l1⟩
  have P1 := hide (show OneO PC w w1 U [X] S [[]] from ⟨p1, B0.out.trans (b1.mono B0.out.size), fun i hi => Nat.le_trans B0.out.size (l1 i hi), fun g hg => by
    simp at hg
    subst hg
    exact ⟨Nat.lt_of_lt_of_le X0.out b1.size, fun e => by have := l1 g e; have := X0.out; omega⟩⟩)
  have K1 := hide (K0.out.below b1)
  clear p1 b1 l1 K0 B0 X0
  have LD := hide K1.out.range
  go_upto_region 5 with (first
    | (refine wpList_load_mid rfl 23 (.tmp 3) rfl X 0 rfl (keyVals ks).toList _ LD.out Try.underlying23 rfl (keys_size ks) ?_; rw [Array.toArray_toList])
    | (refine wpList_build rfl 35 _ rfl (by kernel_rfl) ?_))
  obtain ⟨p2, s2⟩ := P1.out.alloc C.ok (.cells (keyVals ks) 35)
  have k2 := keysAt_of (w := w1) hk 35
  have P2 := hide p2
  have KX2 := hide (K1.out.stay s2 (by simp))
  have KK2 := hide k2
  clear p2 s2 k2 K1 P1 LD
  generalize w1.alloc (.cells (keyVals ks) 35) = w2 at *
  generalize w1.heap.size = K at *
  have HK := hide hk
  clear hk
  go_wp2_with fail
  go_loopw [8, 9] (fun nv iv wr => ∃ (j : Nat) (l : List Int) (U : Nat → Prop), j ≤ 16 ∧ nv = .int .i64 (l.length : Nat) ∧ iv = .int .i64 ((j : Int) - 1) ∧ Hid (OneO PC w wr U [K, X] S [l] ∧ KeysAt wr K ks ∧ KeysAt wr X ks ∧ FromBits a j l)) (fun _ iv _ => (intOf iv + 1).toNat)
  case atStart => exact ⟨16, [], _, Nat.le_refl _, rfl, rfl, P2.out, KK2.out, KX2.out, fun x hx => by cases hx⟩
  case round =>
    clear P2 KX2 KK2 U
    obtain ⟨j, l, U, hj, rfl, rfl, hT⟩ := hrel
    have P1 := hide hT.out.1
    have KK1 := hide hT.out.2.1
    have KX1 := hide hT.out.2.2.1
    have F1 := hide hT.out.2.2.2
    clear hT
    cases j with
    | succ j =>
      have i0 : (0 : Int) ≤ (j : Int) := by omega
      have i1 : (j : Int) ≤ 16 := by omega
      have ej : ((j + 1 : Nat) : Int) - 1 = (j : Int) := by omega
      rw [ej]
      have LL := hide (F1.out.len (C.good P1.out.ps))
      have WJ := hide (wf_i (x := (j : Int)) (by omega) (by omega))
      cases hb : a.testBit j with
      | false =>
        have b1 := bit_no HA.out hb
        have FF := hide F1.out.less
        clear hb ej
        go_wp2_with fail
        go_roundw
        case rel => exact ⟨j, l, U, by omega, rfl, rfl, P1.out, KK1.out, KX1.out, FF.out⟩
        case measure => simp [intOf]
      | true =>
        have b1 := bit_yes HA.out hb
        have OW := hide (order_wait F1.out (by omega) hb (C.good P1.out.ps))
        have FW1 := hide (F1.out.few (C.good P1.out.ps))
        clear hb ej
        go_wp2_with fail
        go_at_call 13
        refine (C.wait P1.out.ps FW1.out WJ.out (i := 0) (by decide)).mono ?_
        intro en w3 hs
        obtain ⟨rfl, U3, q3, s3⟩ := P1.out.side hs
        clear hs
        rw [OW.out.2.1] at q3
        rw [OW.out.1]
        have P3 := hide q3
        have KK3 := hide (KK1.out.stay s3 (by simp))
        have KX3 := hide (KX1.out.stay s3 (by simp))
        clear q3 s3 P1 KK1 KX1
        have FW3 := hide (OW.out.2.2.2.2.few (C.good P3.out.ps))
        go_wp2_with fail
        go_at_call 13
        refine (C.wait P3.out.ps FW3.out WJ.out (i := 0) (by decide)).mono ?_
        intro en w4 hs
        obtain ⟨rfl, U4, q4, s4⟩ := P3.out.side hs
        clear hs
        rw [OW.out.2.2.2.1] at q4
        rw [OW.out.2.2.1]
        have P4 := hide q4
        have KK4 := hide (KK3.out.stay s4 (by simp))
        have KX4 := hide (KX3.out.stay s4 (by simp))
        clear q4 s4 P3 KK3 KX3
        have l0 : (0 : Int) ≤ (l.length : Int) := by omega
        have l1 : (l.length : Int) ≤ 16 := by have := LL.out; omega
        go_wp2_with fail
        go_roundw
        case rel => exact ⟨j, insL l (j : Int), U4, by omega, by rw [insL_len]; go_num, rfl, P4.out, KK4.out, KX4.out, OW.out.2.2.2.2⟩
        case measure => simp [intOf]
    | zero =>
      have i0 : ¬ (0 : Int) ≤ (-1 : Int) := by decide
      rw [show ((0 : Nat) : Int) - 1 = -1 from rfl]
      have P2 := hide P1.out
      have KK2 := hide KK1.out
      have KX2 := hide KX1.out
      have F2 := hide F1.out
      have LL := hide (F1.out.len (C.good P1.out.ps))
      obtain ⟨N, hN⟩ : ∃ N, N = l.length := ⟨_, rfl⟩
      have HN := hide hN
      rw [← hN] at LL ⊢
      have N1 : (N : Int) ≤ 16 := by have := LL.out; omega
      clear hN P1 KK1 KX1 F1 i0
      go_wp2_with fail
      rename World => wq
      go_loopw [10, 11] (fun lv qv wr => ∃ (q : Nat) (last : Int) (l : List Int) (U : Nat → Prop), lv = .int .i64 last ∧ qv = .int .i64 (q : Int) ∧ q + l.length = N ∧ Hid (OneO PC w wr U [K, X] S [l] ∧ KeysAt wr K ks ∧ KeysAt wr X ks ∧ FromBits a 0 l ∧ AfterC ks last l)) (fun _ qv _ => N - (intOf qv).toNat)
      case atStart => exact ⟨0, -1, l, _, rfl, rfl, by rw [HN.out]; omega, P2.out, KK2.out, KX2.out, F2.out, .inl rfl⟩
      case round =>
        clear P2 KX2 KK2 F2 HN U l
        obtain ⟨q, last, l, U, rfl, rfl, hq, hT⟩ := hrel
        have P1 := hide hT.out.1
        have KK1 := hide hT.out.2.1
        have KX1 := hide hT.out.2.2.1
        have F1 := hide hT.out.2.2.2.1
        have A1 := hide hT.out.2.2.2.2
        have FW := hide (F1.out.few (C.good P1.out.ps))
        clear hT
        by_cases hlt : q < N
        · have q1 : (q : Int) < (N : Int) := by omega
          have q0 : (0 : Int) ≤ (q : Int) := by omega
          obtain ⟨x, hx, hbx, hxl, e1, e2, e3, e4, e5⟩ := order_sig (ks := ks) (C.good P1.out.ps) F1.out (by omega)
          have S1 := C.sig P1.out.ps FW.out KK1.out (P1.out.xs K (by simp)).2 (i := 0) (by decide)
          rw [e1, e2, e3] at S1
          have SG := hide S1
          have FF := hide (show FromBits a 0 (l.filter (fun y => decide (y ≠ (x : Int)))) from fun y hy => F1.out y (List.mem_filter.1 hy).1)
          have E4 := hide e4
          have E5 := hide e5
          have HQ := hide hq
          have AX := hide (show last = -1 ∨ ∃ m : Nat, last = (m : Int) ∧ m < 16 ∧ (keyC ks (x : Int) < keyC ks (m : Int) ∨ (keyC ks (x : Int) = keyC ks (m : Int) ∧ m < x)) from by
            rcases A1.out with e | ⟨m, e, hm, hy⟩
            · exact .inl e
            · refine .inr ⟨m, e, hm, ?_⟩
              rcases hy _ hxl with h | ⟨h, h2⟩
              · exact .inl h
              · exact .inr ⟨h, by omega⟩)
          have bx := bit_yes HA.out hbx
          clear S1 e1 e2 e3 e4 e5 hbx hxl hq A1
          generalize hl2 : l.filter (fun y => decide (y ≠ (x : Int))) = l2 at *
          clear hl2
          go_wp2_with fail
          go_at_call 15
          refine SG.out.mono ?_
          intro en w3 hs
          obtain ⟨rfl, U3, q3, s3⟩ := P1.out.side hs
          clear hs
          have P3 := hide q3
          have KK3 := hide (show KeysAt w3 K ks from KK1.out.stay s3 (by simp))
          have KX3 := hide (KX1.out.stay s3 (by simp))
          clear q3 s3 P1 KX1 SG KK1
          have cx := KX3.out.cell (j := x) hx
          have kx : ks.getD x 0 = keyC ks (x : Int) := by unfold keyC; rw [show ((x : Int) % 16).toNat = x by omega]
          rw [kx] at cx
          have x0 : (0 : Int) ≤ (x : Int) := by omega
          have x1 : (x : Int) ≤ 15 := by omega
          have x2 : decide ((15 : Int) < (x : Int)) = false := by simpa using x1
          have x3 : decide ((x : Int) < 0) = false := by simp
          have x4 : decide (15 < x) = false := by simp; omega
          clear kx
          generalize hkx : keyC ks (x : Int) = kx at *
          clear hkx
          rcases AX.out with rfl | ⟨m, rfl, hm, hcmp⟩
          · clear AX
            go_upto_region 18 with fail
            go_quiet (fail)
            go_wp2_with fail
            go_roundw
            case rel => exact ⟨q + 1, _, l2, U3, rfl, by go_num, by have := HQ.out; have := E4.out; omega, P3.out.below C.ok (below_drewN (Below.refl _ _) _) |>.1, KK3.out.below (below_drewN (Below.refl _ _) _), KX3.out.below (below_drewN (Below.refl _ _) _), FF.out, E5.out⟩
            case measure => simp [intOf]; omega
          · have cm := KX3.out.cell (j := m) hm
            have km : ks.getD m 0 = keyC ks (m : Int) := by unfold keyC; rw [show ((m : Int) % 16).toNat = m by omega]
            rw [km] at cm
            clear km AX
            generalize hkm : keyC ks (m : Int) = km at *
            clear hkm
            have m0 : (0 : Int) ≤ (m : Int) := by omega
            have m1 : (m : Int) ≤ 15 := by omega
            rcases hcmp with hc | ⟨hc, hmx⟩
            · have g1 : decide (km < kx) = false := by simp; omega
              have g2 : (km == kx) = false := by simp; omega
              clear hc
              go_upto_region 18 with fail
              go_quiet (fail)
              go_wp2_with fail
              go_roundw
              case rel => exact ⟨q + 1, _, l2, U3, rfl, by go_num, by have := HQ.out; have := E4.out; omega, P3.out.below C.ok (below_drewN (Below.refl _ _) _) |>.1, KK3.out.below (below_drewN (Below.refl _ _) _), KX3.out.below (below_drewN (Below.refl _ _) _), FF.out, E5.out⟩
              case measure => simp [intOf]; omega
            · subst hc
              have g1 : decide (kx < kx) = false := by simp
              have g2 : (kx == kx) = true := by simp
              have g3 : decide ((x : Int) ≤ (m : Int)) = false := by simp; omega
              have g4 : decide (x ≤ m) = false := by simp; omega
              go_upto_region 18 with fail
              go_quiet (fail)
              go_wp2_with fail
              go_roundw
              case rel => exact ⟨q + 1, _, l2, U3, rfl, by go_num, by have := HQ.out; have := E4.out; omega, P3.out.below C.ok (below_drewN (Below.refl _ _) _) |>.1, KK3.out.below (below_drewN (Below.refl _ _) _), KX3.out.below (below_drewN (Below.refl _ _) _), FF.out, E5.out⟩
              case measure => simp [intOf]; omega
        · obtain rfl : q = N := by omega
          have l0 : l = [] := List.eq_nil_of_length_eq_zero (by omega)
          subst l0
          have S1 := C.sig P1.out.ps FW.out KK1.out (P1.out.xs K (by simp)).2 (i := 0) (by decide)
          rw [(sig_none ks).1, (sig_none ks).2.1, (sig_none ks).2.2] at S1
          have SG := hide S1
          clear S1 hq
          go_wp2_with fail
          go_at_call 15
          refine SG.out.mono ?_
          intro en w3 hs
          obtain ⟨rfl, U3, q3, _⟩ := P1.out.side hs
          clear hs
          have P3 := hide q3
          clear q3 P1 SG
          go_wp2_with (go_at_call 8; refine (cdawake_any C _).mono ?_; rintro e w9 ⟨rfl, b9⟩; have B9 := hide (P3.out.bel.trans (b9.mono P3.out.bel.size)); clear b9)
          go_ret
          exact ⟨rfl, B9.out⟩
end
end Go.Proofs.Ytmclifmdlcofaaa
