/-
  The walk of CondCancel, over the contracts of the program's conditions.
-/
import Derived.Test.YtmclifmdlcofaaaCdOrder
namespace Go.Proofs.Ytmclifmdlcofaaa
open Go.ChangeShapes Go.WideShapes Go.ChangeAt Go.RowKit
set_option linter.unusedVariables false
set_option linter.unusedSimpArgs false
attribute [local go_sem] built_keys
attribute [local irreducible] keyVals
theorem bit_less {b k : Nat} (hb : b < 65536) (hk : k < 16) (a : Nat) : (a &&& (65535 - b)).testBit k = (a.testBit k && !b.testBit k) := by
  rw [Nat.testBit_and]
  congr 1
  have e : 65535 - b = 2 ^ 16 - (b + 1) := by omega
  rw [e, Nat.testBit_two_pow_sub_succ (by omega)]
  simp [hk]
/-- Those of a list are threads below i, of the bits of a, none of g. -/
def FromB (a g i : Nat) (l : List Int) : Prop := ∀ x ∈ l, ∃ n : Nat, x = (n : Int) ∧ n < i ∧ n < 16 ∧ a.testBit n = true ∧ g.testBit n = false
theorem FromB.lt {a g i : Nat} {l : List Int} (h : FromB a g i l) : ∀ x ∈ l, x < (i : Int) := fun x hx => by obtain ⟨n, e, h1, _⟩ := h x hx; omega
theorem FromB.more {a g i : Nat} {l : List Int} (h : FromB a g i l) : FromB a g (i + 1) l := fun x hx => by obtain ⟨n, e, h1, h2⟩ := h x hx; exact ⟨n, e, by omega, h2⟩
theorem FromB.snoc {a g i : Nat} {l : List Int} (h : FromB a g i l) (hi : i < 16) (ha : a.testBit i = true) (hg : g.testBit i = false) : FromB a g (i + 1) (l ++ [(i : Int)]) := by
  intro x hx
  rcases List.mem_append.1 hx with hx | hx
  · exact h.more x hx
  · simp at hx; exact ⟨i, hx, by omega, hi, ha, hg⟩
theorem few_pair {a b g i : Nat} {l1 l2 : List Int} (h1 : FromB a g i l1) (h2 : FromB b g i l2) (hg : GoodC [l1, l2]) : FewC [l1, l2] := by
  have hb : BelowC ((16 : Nat) : Int) [l1, l2] := fun l hl x hx => by
    simp at hl
    rcases hl with rfl | rfl
    · obtain ⟨n, e, _, h, _⟩ := h1 x hx; omega
    · obtain ⟨n, e, _, h, _⟩ := h2 x hx; omega
  intro l hl
  have := hg.few hb l hl
  omega
theorem few_more {l1 l2 : List Int} (h : FewC [l1, l2]) (h1 : l1.length ≤ 16) (h2 : l2.length ≤ 16) (x : Int) : FewC [l1 ++ [x], l2] ∧ FewC [l1, l2 ++ [x]] := by
  refine ⟨fun l hl => ?_, fun l hl => ?_⟩ <;> · simp at hl; rcases hl with rfl | rfl <;> first | omega | (simp; omega)
theorem len_pair {a b g i : Nat} {l1 l2 : List Int} (h1 : FromB a g i l1) (h2 : FromB b g i l2) (hg : GoodC [l1, l2]) : l1.length ≤ 16 ∧ l2.length ≤ 16 := by
  have hb : BelowC ((16 : Nat) : Int) [l1, l2] := fun l hl x hx => by
    simp at hl
    rcases hl with rfl | rfl
    · obtain ⟨n, e, _, h, _⟩ := h1 x hx; omega
    · obtain ⟨n, e, _, h, _⟩ := h2 x hx; omega
  exact ⟨hg.few hb l1 (by simp), hg.few hb l2 (by simp)⟩
section
variable {l1 l2 : List Int} {i : Nat}
theorem cc_of (h1 : ∀ x ∈ l1, x < (i : Int)) (h2 : ∀ x ∈ l2, x < (i : Int)) : ofC [l1, l2] (i : Int) = -1 := ofC_none fun l hl => by
  simp at hl
  rcases hl with rfl | rfl
  · intro hm; have := h1 _ hm; omega
  · intro hm; have := h2 _ hm; omega
theorem cc_ins {l : List Int} (h : ∀ x ∈ l, x < (i : Int)) : insL l (i : Int) = l ++ [(i : Int)] := insL_end fun x hx => by have := h x hx; omega
theorem cc_out {l : List Int} (h : ∀ x ∈ l, x < (i : Int)) : (l ++ [(i : Int)]).filter (fun y => decide (y ≠ (i : Int))) = l := by
  rw [List.filter_append]
  have : l.filter (fun y => decide (y ≠ (i : Int))) = l := List.filter_eq_self.2 fun y hy => by have := h y hy; simp; omega
  rw [this]; simp
theorem cc_wait1 (h1 : ∀ x ∈ l1, x < (i : Int)) (h2 : ∀ x ∈ l2, x < (i : Int)) : waitS [l1, l2] (i : Int) 0 = [l1 ++ [(i : Int)], l2] := by
  have e0 : waitE [l1, l2] (i : Int) 0 = 0 := by
    unfold waitE
    rw [if_neg (by intro e; rcases e with e | e; omega; cases e), if_neg (by rw [cc_of h1 h2]; omega)]
  unfold waitS
  rw [if_pos e0, ← cc_ins h1]; rfl
theorem cc_wait2 (h1 : ∀ x ∈ l1, x < (i : Int)) (h2 : ∀ x ∈ l2, x < (i : Int)) : waitS [l1, l2] (i : Int) 1 = [l1, l2 ++ [(i : Int)]] := by
  have e0 : waitE [l1, l2] (i : Int) 1 = 0 := by
    unfold waitE
    rw [if_neg (by intro e; rcases e with e | e; omega; cases e), if_neg (by rw [cc_of h1 h2]; omega)]
  unfold waitS
  rw [if_pos e0, ← cc_ins h2]; rfl
theorem cc_can0 (h1 : ∀ x ∈ l1, x < (i : Int)) (h2 : ∀ x ∈ l2, x < (i : Int)) : canB [l1, l2] (i : Int) = false ∧ canS [l1, l2] (i : Int) = [l1, l2] := by
  have e : canB [l1, l2] (i : Int) = false := by unfold canB; rw [cc_of h1 h2]; rfl
  exact ⟨e, by unfold canS; rw [if_neg (by rw [e]; simp)]⟩
theorem cc_can1 (h1 : ∀ x ∈ l1, x < (i : Int)) : canB [l1 ++ [(i : Int)], l2] (i : Int) = true ∧ canS [l1 ++ [(i : Int)], l2] (i : Int) = [l1, l2] := by
  have e0 : ofC [l1 ++ [(i : Int)], l2] (i : Int) = 0 := ofC_some (k := 0) (l := l1 ++ [(i : Int)]) rfl (by simp) (fun j m hj => absurd hj (by omega))
  have e1 : canB [l1 ++ [(i : Int)], l2] (i : Int) = true := by unfold canB; rw [e0]; rfl
  refine ⟨e1, ?_⟩
  unfold canS
  rw [if_pos e1, e0]
  show [(l1 ++ [(i : Int)]).filter _, l2] = _
  rw [cc_out h1]
theorem cc_can2 (h1 : ∀ x ∈ l1, x < (i : Int)) (h2 : ∀ x ∈ l2, x < (i : Int)) : canB [l1, l2 ++ [(i : Int)]] (i : Int) = true ∧ canS [l1, l2 ++ [(i : Int)]] (i : Int) = [l1, l2] := by
  have e0 : ofC [l1, l2 ++ [(i : Int)]] (i : Int) = 1 := ofC_some (k := 1) (l := l2 ++ [(i : Int)]) rfl (by simp) (fun j m hj hm => by
    have : j = 0 := by omega
    subst this
    simp at hm
    subst hm
    intro h; have := h1 _ h; omega)
  have e1 : canB [l1, l2 ++ [(i : Int)]] (i : Int) = true := by unfold canB; rw [e0]; rfl
  refine ⟨e1, ?_⟩
  unfold canS
  rw [if_pos e1, e0]
  show [l1, (l2 ++ [(i : Int)]).filter _] = _
  rw [cc_out h2]
end
theorem cc_sig {ks l1 l2 : List Int} {a g : Nat} (hg : GoodC [l1, l2]) (hf : FromB a g 16 l1) (hn : 0 < l1.length) : ∃ x : Nat, x < 16 ∧ a.testBit x = true ∧ g.testBit x = false ∧ sigB [l1, l2] 0 = true ∧ sigX ks [l1, l2] 0 = (x : Int) ∧
    sigS ks [l1, l2] 0 = [l1.filter (fun y => decide (y ≠ (x : Int))), l2] ∧ (l1.filter (fun y => decide (y ≠ (x : Int)))).length + 1 = l1.length := by
  have hne : l1 ≠ [] := fun e => by rw [e] at hn; exact absurd hn (by simp)
  have hp := hg.rise l1 (by simp)
  obtain ⟨h1, _⟩ := bestC_spec ks hne hp
  obtain ⟨x, ex, _, hx, hb, hgo⟩ := hf _ h1
  have e0 : lstC [l1, l2] 0 = l1 := rfl
  have eB : sigB [l1, l2] 0 = true := by unfold sigB; rw [e0]; simpa using hne
  have eX : sigX ks [l1, l2] 0 = (x : Int) := by unfold sigX; rw [e0, ex]
  rw [ex] at h1
  refine ⟨x, hx, hb, hgo, eB, eX, ?_, rises_filter hp h1⟩
  unfold sigS
  rw [if_pos eB, eX]
  have f0 : ofC [l1, l2] (x : Int) = 0 := ofC_some (k := 0) (l := l1) rfl h1 (fun j m hj => absurd hj (by omega))
  have f1 : canB [l1, l2] (x : Int) = true := by unfold canB; rw [f0]; rfl
  unfold canS
  rw [if_pos f1, f0]
  rfl
theorem cc_none (ks l2 : List Int) : sigB [[], l2] 0 = false ∧ sigX ks [[], l2] 0 = -1 ∧ sigS ks [[], l2] 0 = [[], l2] := ⟨rfl, rfl, rfl⟩
theorem own_stay {w w' : World} {B n z : Nat} {e : TypeId} {v : Value} {xs : List Value} (h : w.ownsRow B e z v n xs) (s : ∀ g, v.ownBlock = some g → w'.heap[g]? = w.heap[g]?) : w'.ownsRow B e z v n xs := by
  refine ⟨h.1, ?_⟩
  rcases h.2 with hn | ⟨g, cap, cur, e1, e2, e3, rest⟩
  · exact .inl hn
  · exact .inr ⟨g, cap, cur, e1, e2, (s g (by rw [e1]; rfl)).trans e3, rest⟩
section
variable {PC : Rel Cs}
set_option maxRecDepth 10000 in
set_option maxHeartbeats 8000000 in
theorem walk_condCancelC (C : PConds PC) (w : World) (one : Nat) (h1 : one < 65536) (two0 : Nat) (h2 : two0 < 65536) (gone : Nat) (h3 : gone < 65536) (ks : List Int) (hk : ks.length = 16) :
    Calls Try.prog 7 #[.int .u16 (one : Int), .int .u16 (two0 : Int), .int .u16 (gone : Int), .agg (keyVals ks)] w fun e w' => e = .returned (.bool true) ∧ Below w.heap.size w w' := by
  have hmf := run_keep_func
  have K0 := hide (keysAt_of (w := w) hk 23)
  have B0 := hide ((Below.refl w.heap.size w).alloc (Nat.le_refl _) (.cells (keyVals ks) 23))
  have X0 := hide (show w.heap.size < (w.alloc (.cells (keyVals ks) 23)).heap.size from by simp)
  obtain ⟨two, hT2⟩ : ∃ t, t = two0 &&& (65535 - one) := ⟨_, rfl⟩
  obtain ⟨orb, hOR⟩ : ∃ t, t = one ||| two := ⟨_, rfl⟩
  obtain ⟨lef, hLF⟩ : ∃ t, t = one &&& (65535 - gone) := ⟨_, rfl⟩
  have t16 : two < 65536 := by rw [hT2]; exact Nat.and_lt_two_pow (n := 16) _ (by omega)
  have o16 : orb < 65536 := by rw [hOR]; exact Nat.or_lt_two_pow (n := 16) h1 t16
  have l16 : lef < 65536 := by rw [hLF]; exact Nat.and_lt_two_pow (n := 16) _ (by omega)
  have v1 : bits .andNot .u16 (two0 : Int) (one : Int) = (two : Int) := by rw [hT2]; exact u16_andNot_nat two0 one h2 h1
  have v2 : bits .or .u16 (one : Int) (two : Int) = (orb : Int) := by rw [hOR]; exact u16_or_nat one two h1 t16
  have v3 : bits .andNot .u16 (one : Int) (gone : Int) = (lef : Int) := by rw [hLF]; exact u16_andNot_nat one gone h1 h3
  have BT := hide (fun (k : Nat) (hk : k < 16) => show two.testBit k = (two0.testBit k && !one.testBit k) from by rw [hT2]; exact bit_less h1 hk two0)
  have BO := hide (fun (k : Nat) => show orb.testBit k = (one.testBit k || two.testBit k) from by rw [hOR, Nat.testBit_or])
  have BL := hide (fun (k : Nat) (hk : k < 16) => show lef.testBit k = (one.testBit k && !gone.testBit k) from by rw [hLF]; exact bit_less h3 hk one)
  have HN := hide (And.intro h1 (And.intro t16 (And.intro h3 (And.intro o16 l16))))
  have z1 : (0 : Int) ≤ (one : Int) := by omega
  have z2 : (one : Int) < 65536 := by omega
  have z3 : (0 : Int) ≤ (two : Int) := by omega
  have z4 : (two : Int) < 65536 := by omega
  have z5 : (0 : Int) ≤ (gone : Int) := by omega
  have z6 : (gone : Int) < 65536 := by omega
  have z7 : (0 : Int) ≤ (orb : Int) := by omega
  have z8 : (orb : Int) < 65536 := by omega
  have z9 : (0 : Int) ≤ (lef : Int) := by omega
  have za : (lef : Int) < 65536 := by omega
  clear hT2 hOR hLF h1 h2 h3 t16 o16 l16
  go_enter Try.func7, Try.ntmps7
  go_upto_region 1 with fail
  obtain ⟨w0, hw0⟩ : ∃ w0, w0 = w.alloc (.cells (keyVals ks) 23) := ⟨_, rfl⟩
  rw [← hw0] at K0 B0 X0 ⊢
  clear hw0
  obtain ⟨X, hX⟩ : ∃ X, X = w.heap.size := ⟨_, rfl⟩
  rw [← hX] at K0 X0 ⊢
  have HX := hide hX
  clear hX
  go_wp2_with fail
  go_at_call 9
  refine (C.new w0 2 (by omega) (by omega)).mono ?_
  rintro e w1 ⟨S, U, rfl, p1, b1, l1⟩
  have P1 := hide (show OneO PC w w1 U [] S [[], []] from ⟨p1, B0.out.trans (b1.mono B0.out.size), fun i hi => Nat.le_trans B0.out.size (l1 i hi), fun g hg => absurd hg List.not_mem_nil⟩)
  have K1 := hide (K0.out.below b1)
  clear p1 b1 l1 K0 B0 X0
  have LD := hide K1.out.range
  go_upto_region 5 with (first
    | (refine wpList_load_mid rfl 23 (.tmp 7) rfl X 0 rfl (keyVals ks).toList _ LD.out Try.underlying23 rfl (keys_size ks) ?_; rw [Array.toArray_toList])
    | (refine wpList_build rfl 35 _ rfl (by kernel_rfl) ?_))
  obtain ⟨p2, s2⟩ := P1.out.alloc C.ok (.cells (keyVals ks) 35)
  have k2 := keysAt_of (w := w1) hk 35
  have P2 := hide p2
  have KK2 := hide k2
  clear p2 s2 k2 K1 P1 LD hk
  generalize w1.alloc (.cells (keyVals ks) 35) = w2 at *
  generalize w1.heap.size = K at *
  go_wp2_with fail
  go_loopw [12, 13] (fun nv iv wr => ∃ (j : Nat) (l1 l2 : List Int) (U : Nat → Prop), j ≤ 16 ∧ nv = .int .i64 (l1.length : Nat) ∧ iv = .int .i64 (j : Int) ∧ Hid (OneO PC w wr U [K] S [l1, l2] ∧ KeysAt wr K ks ∧ FromB one gone j l1 ∧ FromB two gone j l2)) (fun _ iv _ => 16 - (intOf iv).toNat)
  case atStart => exact ⟨0, [], [], _, by omega, rfl, rfl, P2.out, KK2.out, (fun x hx => by cases hx), fun x hx => by cases hx⟩
  case round =>
    clear P2 KK2 U
    obtain ⟨j, l1, l2, U, hj, rfl, rfl, hT⟩ := hrel
    have P1 := hide hT.out.1
    have KK1 := hide hT.out.2.1
    have F1 := hide hT.out.2.2.1
    have F2 := hide hT.out.2.2.2
    clear hT
    have LL := hide (len_pair F1.out F2.out (C.good P1.out.ps))
    have FW := hide (few_pair F1.out F2.out (C.good P1.out.ps))
    have ll0 : (0 : Int) ≤ (l1.length : Int) := by omega
    have ll1 : (l1.length : Int) ≤ 16 := by have := LL.out.1; omega
    by_cases hlt : j < 16
    · have j0 : (0 : Int) ≤ (j : Int) := by omega
      have j1 : (j : Int) < 16 := by omega
      have WJ := hide (wf_i (x := (j : Int)) (by omega) (by omega))
      have FM := hide (few_more FW.out LL.out.1 LL.out.2 (j : Int))
      have bt := BT.out j hlt
      have bo := BO.out j
      have bl := BL.out j hlt
      cases hb1 : one.testBit j with
      | true =>
        have b1 := bit_yes HN.out.1 hb1
        have hb2 : two.testBit j = false := by rw [bt, hb1]; simp
        have b2 := bit_no HN.out.2.1 hb2
        have b4 := bit_yes HN.out.2.2.2.1 (show orb.testBit j = true from by rw [bo, hb1, hb2]; rfl)
        cases hb3 : gone.testBit j with
        | true =>
          have b3 := bit_yes HN.out.2.2.1 hb3
          have b5 := bit_no HN.out.2.2.2.2 (show lef.testBit j = false from by rw [bl, hb1, hb3]; rfl)
          have WS := hide (cc_wait1 F1.out.lt F2.out.lt)
          have CC := hide (cc_can1 (l2 := l2) F1.out.lt)
          have N1 := hide F1.out.more
          have N2 := hide F2.out.more
          clear bt bo bl hb1 hb2 hb3
          go_wp2_with fail
          go_at_call 13
          refine (C.wait P1.out.ps FW.out WJ.out (i := 0) (by decide)).mono ?_
          intro en w3 hs
          obtain ⟨rfl, U3, q3, s3⟩ := P1.out.side hs
          clear hs
          rw [WS.out] at q3
          have P3 := hide q3
          clear q3 P1
          have KK3 := hide (KK1.out.stay s3 (by simp))
          clear s3 KK1
          go_upto_region 14 with fail
          have TR := hide (P3.out.below C.ok (below_drewN (Below.refl _ _) 1)).1
          have KR := hide (KK3.out.below (below_drewN (Below.refl _ _) 1))
          have CR := C.can TR.out.ps FM.out.1 WJ.out
          rw [CC.out.1, CC.out.2] at CR
          have CRH := hide CR
          clear CR
          go_region_held3 (fun _ => True) (exact trivial) (first | (go_at_call 18; refine CRH.out.mono ?_; intro en w4 hs; obtain ⟨rfl, U4, q4, s4⟩ := TR.out.side hs; clear hs; have P4 := hide q4; have KK4 := hide (KR.out.stay s4 (by simp)); clear q4 s4))
          go_wp2_with fail
          go_roundw
          case rel => exact ⟨j + 1, l1, l2, U4, by omega, rfl, by go_num, P4.out, KK4.out, N1.out, N2.out⟩
          case measure => simp [intOf]; omega
        | false =>
          have b3 := bit_no HN.out.2.2.1 hb3
          have b5 := bit_yes HN.out.2.2.2.2 (show lef.testBit j = true from by rw [bl, hb1, hb3]; rfl)
          have WS := hide (cc_wait1 F1.out.lt F2.out.lt)
          have N1 := hide (F1.out.snoc hlt hb1 hb3)
          have N2 := hide (F2.out.more)
          clear bt bo bl hb1 hb2 hb3
          go_wp2_with fail
          go_at_call 13
          refine (C.wait P1.out.ps FW.out WJ.out (i := 0) (by decide)).mono ?_
          intro en w3 hs
          obtain ⟨rfl, U3, q3, s3⟩ := P1.out.side hs
          clear hs
          rw [WS.out] at q3
          have P3 := hide q3
          clear q3 P1
          have KK3 := hide (KK1.out.stay s3 (by simp))
          clear s3 KK1
          go_upto_region 14 with fail
          go_quiet (fail)
          go_wp2_with fail
          go_roundw
          case rel => exact ⟨j + 1, l1 ++ [(j : Int)], l2, _, by omega, by rw [List.length_append]; go_num, by go_num, (P3.out.below C.ok (below_drewN (Below.refl _ _) _)).1, KK3.out.below (below_drewN (Below.refl _ _) _), N1.out, N2.out⟩
          case measure => simp [intOf]; omega

      | false =>
        have b1 := bit_no HN.out.1 hb1
        cases hb2 : two.testBit j with
        | true =>
          have b2 := bit_yes HN.out.2.1 hb2
          have b4 := bit_yes HN.out.2.2.2.1 (show orb.testBit j = true from by rw [bo, hb1, hb2]; rfl)
          cases hb3 : gone.testBit j with
          | true =>
            have b3 := bit_yes HN.out.2.2.1 hb3
            have b5 := bit_no HN.out.2.2.2.2 (show lef.testBit j = false from by rw [bl, hb1, hb3]; rfl)
            have WS := hide (cc_wait2 F1.out.lt F2.out.lt)
            have CC := hide (cc_can2 F1.out.lt F2.out.lt)
            have N1 := hide F1.out.more
            have N2 := hide F2.out.more
            clear bt bo bl hb1 hb2 hb3
            go_wp2_with fail
            go_at_call 13
            refine (C.wait P1.out.ps FW.out WJ.out (i := 1) (by decide)).mono ?_
            intro en w3 hs
            obtain ⟨rfl, U3, q3, s3⟩ := P1.out.side hs
            clear hs
            rw [WS.out] at q3
            have P3 := hide q3
            clear q3 P1
            have KK3 := hide (KK1.out.stay s3 (by simp))
            clear s3 KK1
            go_upto_region 14 with fail
            have TR := hide (P3.out.below C.ok (below_drewN (Below.refl _ _) 1)).1
            have KR := hide (KK3.out.below (below_drewN (Below.refl _ _) 1))
            have CR := C.can TR.out.ps FM.out.2 WJ.out
            rw [CC.out.1, CC.out.2] at CR
            have CRH := hide CR
            clear CR
            go_region_held3 (fun _ => True) (exact trivial) (first | (go_at_call 18; refine CRH.out.mono ?_; intro en w4 hs; obtain ⟨rfl, U4, q4, s4⟩ := TR.out.side hs; clear hs; have P4 := hide q4; have KK4 := hide (KR.out.stay s4 (by simp)); clear q4 s4))
            go_wp2_with fail
            go_roundw
            case rel => exact ⟨j + 1, l1, l2, U4, by omega, rfl, by go_num, P4.out, KK4.out, N1.out, N2.out⟩
            case measure => simp [intOf]; omega
          | false =>
            have b3 := bit_no HN.out.2.2.1 hb3
            have b5 := bit_no HN.out.2.2.2.2 (show lef.testBit j = false from by rw [bl, hb1, hb3]; rfl)
            have WS := hide (cc_wait2 F1.out.lt F2.out.lt)
            have N1 := hide (F1.out.more)
            have N2 := hide (F2.out.snoc hlt hb2 hb3)
            clear bt bo bl hb1 hb2 hb3
            go_wp2_with fail
            go_at_call 13
            refine (C.wait P1.out.ps FW.out WJ.out (i := 1) (by decide)).mono ?_
            intro en w3 hs
            obtain ⟨rfl, U3, q3, s3⟩ := P1.out.side hs
            clear hs
            rw [WS.out] at q3
            have P3 := hide q3
            clear q3 P1
            have KK3 := hide (KK1.out.stay s3 (by simp))
            clear s3 KK1
            go_upto_region 14 with fail
            go_quiet (fail)
            go_wp2_with fail
            go_roundw
            case rel => exact ⟨j + 1, l1, l2 ++ [(j : Int)], _, by omega, rfl, by go_num, (P3.out.below C.ok (below_drewN (Below.refl _ _) _)).1, KK3.out.below (below_drewN (Below.refl _ _) _), N1.out, N2.out⟩
            case measure => simp [intOf]; omega
        | false =>
          have b2 := bit_no HN.out.2.1 hb2
          have b4 := bit_no HN.out.2.2.2.1 (show orb.testBit j = false from by rw [bo, hb1, hb2]; rfl)
          cases hb3 : gone.testBit j with
          | true =>
            have b3 := bit_yes HN.out.2.2.1 hb3
            have b5 := bit_no HN.out.2.2.2.2 (show lef.testBit j = false from by rw [bl, hb1, hb3]; rfl)
            have CC := hide (cc_can0 F1.out.lt F2.out.lt)
            have N1 := hide F1.out.more
            have N2 := hide F2.out.more
            clear bt bo bl hb1 hb2 hb3
            go_upto_region 14 with fail
            have TR := hide (P1.out.below C.ok (below_drewN (Below.refl _ _) 1)).1
            have KR := hide (KK1.out.below (below_drewN (Below.refl _ _) 1))
            have CR := C.can TR.out.ps FW.out WJ.out
            rw [CC.out.1, CC.out.2] at CR
            have CRH := hide CR
            clear CR
            go_region_held3 (fun _ => True) (exact trivial) (first | (go_at_call 18; refine CRH.out.mono ?_; intro en w4 hs; obtain ⟨rfl, U4, q4, s4⟩ := TR.out.side hs; clear hs; have P4 := hide q4; have KK4 := hide (KR.out.stay s4 (by simp)); clear q4 s4))
            go_wp2_with fail
            go_roundw
            case rel => exact ⟨j + 1, l1, l2, U4, by omega, rfl, by go_num, P4.out, KK4.out, N1.out, N2.out⟩
            case measure => simp [intOf]; omega
          | false =>
            have b3 := bit_no HN.out.2.2.1 hb3
            have b5 := bit_no HN.out.2.2.2.2 (show lef.testBit j = false from by rw [bl, hb1, hb3]; rfl)
            have N1 := hide (F1.out.more)
            have N2 := hide (F2.out.more)
            clear bt bo bl hb1 hb2 hb3
            go_upto_region 14 with fail
            go_quiet (fail)
            go_wp2_with fail
            go_roundw
            case rel => exact ⟨j + 1, l1, l2, _, by omega, rfl, by go_num, (P1.out.below C.ok (below_drewN (Below.refl _ _) _)).1, KK1.out.below (below_drewN (Below.refl _ _) _), N1.out, N2.out⟩
            case measure => simp [intOf]; omega
    · obtain rfl : j = 16 := by omega
      have j1 : ¬ ((16 : Nat) : Int) < 16 := by omega
      have CL := C.list P1.out.ps FW.out (i := 1) (by decide)
      rw [show lstC [l1, l2] 1 = l2 from rfl] at CL
      have CLH := hide CL
      have N16 := hide LL.out
      have F3 := hide F1.out
      have G3 := hide F2.out
      obtain ⟨N, hN⟩ : ∃ N, N = l1.length := ⟨_, rfl⟩
      have HN1 := hide hN
      rw [← hN] at ll0 ll1 ⊢
      clear CL hN F1 F2 LL BT BO BL z2 z4 z6 z8 za
      go_wp2_with fail
      go_at_call 20
      refine CLH.out.mono ?_
      rintro e w3 ⟨v, rfl, ov, bv⟩
      have P3 := hide (show OneO PC w w3 U (v.ownBlock.toList ++ [K]) S [l1, l2] from by
        obtain ⟨p3, _⟩ := P1.out.below C.ok bv
        refine ⟨p3.ps, p3.bel, p3.lo, fun g hg => ?_⟩
        rcases List.mem_append.1 hg with hg | hg
        · have hv : v.ownBlock = some g := by simpa [Option.mem_toList] using hg
          obtain ⟨q1, q2⟩ := ov.lt g hv
          exact ⟨q2, fun e => by have := C.ok.lt P1.out.ps g e; omega⟩
        · exact p3.xs g hg)
      have KK3 := hide (KK1.out.below bv)
      have OV := hide (own_base ov (Nat.zero_le _))
      have L2N := hide (show l2.length ≤ 16 from N16.out.2)
      obtain ⟨va, vc, rfl, _⟩ := row_open ov
      obtain ⟨p, hp⟩ : ∃ p, p = l2.length := ⟨_, rfl⟩
      have HP := hide hp
      have OV2 := hide (show w3.ownsRow 0 3 1 (.slice va p vc) p (l2.map (Value.int .i64)) from by rw [hp]; exact OV.out)
      rw [← hp] at P3 ⊢
      clear P1 KK1 CLH bv ov FW OV hp
      go_wp2_with fail
      go_loopw [15] (fun iv wr => ∃ (q : Nat) (l : List Int) (U : Nat → Prop), iv = .int .i64 (q : Int) ∧ q + l.length = N ∧ Hid (OneO PC w wr U ((Value.slice va p vc).ownBlock.toList ++ [K]) S [l, l2] ∧ KeysAt wr K ks ∧ FromB one gone 16 l ∧ wr.ownsRow 0 3 1 (.slice va p vc) p (l2.map (Value.int .i64)))) (fun iv _ => N - (intOf iv).toNat)
      case atStart => exact ⟨0, l1, _, rfl, by rw [HN1.out]; omega, P3.out, KK3.out, F3.out, OV2.out⟩
      case round =>
        clear P3 KK3 F3 OV2 U HN1 N16
        obtain ⟨q, l, U, rfl, hq, hT⟩ := hrel
        have P1 := hide hT.out.1
        have KK1 := hide hT.out.2.1
        have F1 := hide hT.out.2.2.1
        have O1 := hide hT.out.2.2.2
        have FW := hide (few_pair F1.out G3.out (C.good P1.out.ps))
        clear hT
        by_cases hlt : q < N
        · have q1 : (q : Int) < (N : Int) := by omega
          have q0 : (0 : Int) ≤ (q : Int) := by omega
          obtain ⟨x, hx, hbx, hgx, e1, e2, e3, e4⟩ := cc_sig (ks := ks) (C.good P1.out.ps) F1.out (by omega)
          have S1 := C.sig P1.out.ps FW.out KK1.out (P1.out.xs K (by simp)).2 (i := 0) (by decide)
          rw [e1, e2, e3] at S1
          have SG := hide S1
          have FF := hide (show FromB one gone 16 (l.filter (fun y => decide (y ≠ (x : Int)))) from fun y hy => F1.out y (List.mem_filter.1 hy).1)
          have E4 := hide e4
          have HQ := hide hq
          have bx := bit_yes HN.out.1 hbx
          have gx := bit_no HN.out.2.2.1 hgx
          have x0 : (0 : Int) ≤ (x : Int) := by omega
          have x1 : (x : Int) ≤ 15 := by omega
          clear S1 e1 e2 e3 e4 hbx hgx hq
          generalize hl2 : l.filter (fun y => decide (y ≠ (x : Int))) = l3 at *
          clear hl2
          go_wp2_with fail
          go_at_call 15
          refine SG.out.mono ?_
          intro en w4 hs
          obtain ⟨rfl, U4, q4, s4⟩ := P1.out.side hs
          clear hs
          have P4 := hide q4
          have KK4 := hide (KK1.out.stay s4 (by simp))
          have O4 := hide (own_stay O1.out fun g hg => s4 g (List.mem_append.2 (.inl (by simpa [Option.mem_toList] using hg))))
          clear q4 s4 P1 KK1 SG O1
          go_wp2_with fail
          go_roundw
          case rel => exact ⟨q + 1, l3, U4, by go_num, by have := HQ.out; have := E4.out; omega, P4.out, KK4.out, FF.out, O4.out⟩
          case measure => simp [intOf]; omega
        · obtain rfl : q = N := by omega
          have l0 : l = [] := List.eq_nil_of_length_eq_zero (by omega)
          subst l0
          have S1 := C.sig P1.out.ps FW.out KK1.out (P1.out.xs K (by simp)).2 (i := 0) (by decide)
          rw [(cc_none ks l2).1, (cc_none ks l2).2.1, (cc_none ks l2).2.2] at S1
          have SG := hide S1
          clear S1 hq
          go_wp2_with fail
          go_at_call 15
          refine SG.out.mono ?_
          intro en w4 hs
          obtain ⟨rfl, U4, q4, s4⟩ := P1.out.side hs
          clear hs
          have P4 := hide q4
          have O4 := hide (own_stay O1.out fun g hg => s4 g (List.mem_append.2 (.inl (by simpa [Option.mem_toList] using hg))))
          clear q4 s4 P1 SG O1
          have CL := C.list P4.out.ps FW.out (i := 1) (by decide)
          rw [show lstC [[], l2] 1 = l2 from rfl] at CL
          have CLH := hide CL
          clear CL
          go_wp2_with fail
          go_at_call 20
          refine CLH.out.mono ?_
          rintro e w5 ⟨v5, rfl, o5, b5⟩
          have P5 := hide (P4.out.below C.ok b5).1
          have O5 := hide ((Touch.of_below (S := fun _ => False) b5).own O4.out fun _ _ e => e)
          have O6 := hide (show w5.ownsRow w4.heap.size 3 1 v5 p (l2.map (Value.int .i64)) from by rw [HP.out]; exact o5)
          obtain ⟨v5a, v5c, rfl, _⟩ := row_open o5
          rw [← HP.out] at O6 ⊢
          clear b5 o5 P4 CLH O4
          go_wp2_with (first
            | (go_at_call 23; refine (same_own _ _ p l2 _ O6.out O5.out (by have := L2N.out; have := HP.out; omega)).mono ?_; rintro e w6 ⟨rfl, b6⟩; have P6 := hide (P5.out.below C.ok b6).1; clear b6)
            | (go_at_call 8; refine (cdawake_any C _).mono ?_; rintro e w9 ⟨rfl, b9⟩; have B9 := hide (P6.out.bel.trans (b9.mono P6.out.bel.size)); clear b9))
          go_ret
          exact ⟨rfl, B9.out⟩
end
end Go.Proofs.Ytmclifmdlcofaaa
