/-
  The law GraphFixed, over the contracts of the program's graph and prio.
-/
import Derived.Test.YthbhbanhgmaopaaGhMore
namespace Go.Proofs.Ythbhbanhgmaopaa
open Go.ChangeShapes Go.WideShapes Go.ChangeAt Go.RowKit
set_option linter.unusedVariables false
theorem eqP_iff {a b : Pr} : eqP a b = true ↔ a = b := by
  constructor
  · intro h
    unfold eqP at h
    simp at h
    obtain ⟨⟨h1, h2⟩, h3⟩ := h
    obtain ⟨x, y, z⟩ := a
    obtain ⟨x', y', z'⟩ := b
    simp only at h1 h2 h3
    rw [h1, h2, h3]
  · rintro rfl
    exact eqP_refl a
/-- What is so of each thread. -/
structure Fixed (w : World) (ws os : List Int) (ps es : List Pr) (n i : Nat) : Prop where
  own : 0 ≤ cmpP (es.getD i prD) (ps.getD i prD)
  next : ∀ k : Nat, onG ws os n (i : Int) = (k : Int) → k < n ∧ 0 ≤ cmpP (es.getD k prD) (es.getD i prD)
  one : es.getD i prD = ps.getD i prD ∨ ∃ j, j < n ∧ (i : Int) ∈ chainG ws os n j ∧ es.getD i prD = ps.getD j prD
theorem fixed_all {w : World} {ws os : List Int} {ps : List Pr} {n : Nat} (hl : ps.length = n) (i : Nat) (hi : i < n) : Fixed w ws os ps (effG ws os ps) n i := by
  subst hl
  obtain ⟨h1, h2, h3⟩ := best_ge ws os ps i ps.length
  rw [← effG_getD hi] at h1 h3
  refine ⟨h1, fun k hk => ?_, h3⟩
  have hkl : k < ps.length := by
    have := onG_lt (ws := ws) (os := os) (n := (ps.length : Int)) (i := (i : Int)) (by omega)
    omega
  refine ⟨hkl, ?_⟩
  rw [effG_getD hi, effG_getD hkl]
  exact best_next hi hk
set_option maxRecDepth 10000 in
set_option maxHeartbeats 8000000 in
theorem walk_graphFixedC (C : PGraph) (D : PCmp) (w : World) (pa : Option Addr) (n cn : Nat) (ps : List Pr) (hin : Came 3 prVals PrFit w pa n cn ps) (a : Option Addr) (p ca : Nat) (ws : List Int) (hin1 : CameIn .i64 w a p ca ws) (b : Option Addr) (q cb : Nat) (os : List Int) (hin2 : CameIn .i64 w b q cb os) :
    Calls Try.prog 5 #[.slice pa n cn, .slice a p ca, .slice b q cb] w fun e w' => e = .returned (.bool true) ∧ Below w.heap.size w w' := by
  by_cases hg : 25 < p ∨ 25 < q ∨ 25 < (n : Int)
  · have G := hide (great_yes w a p ca b q cb (n : Int) (Nat.le_trans hin1.2.1 hin1.2.2.1) (Nat.le_trans hin2.2.1 hin2.2.2.1) hg)
    clear hin hin1 hin2 hg
    go_enter Try.func5, Try.ntmps5
    go_wp2_with (first
      | (go_at_call 8; refine G.out.mono ?_; rintro e w' ⟨rfl, rfl⟩)
      | (go_at_call 9; refine (ghawake_any C _).mono ?_; rintro e w2 ⟨rfl, b2⟩; have B2 := hide b2; clear b2))
    go_ret
    exact ⟨rfl, B2.out⟩
  have G := hide (great_no w a p ca b q cb (n : Int) hg)
  have LP := hide (PriosIn.of hin)
  have LA := hide (show ListIn w a p ca ws from ⟨hin1, by omega⟩)
  have LB := hide (show ListIn w b q cb os from ⟨hin2, by omega⟩)
  have N25 := hide (show n ≤ 25 from by omega)
  have n63 : (n : Int) ≤ 9223372036854775807 := by omega
  clear hin hin1 hin2 hg
  obtain ⟨es, hes⟩ : ∃ es, es = effG ws os ps := ⟨_, rfl⟩
  have FX := hide (fun (i : Nat) (hi : i < n) => fixed_all (w := w) (ws := ws) (os := os) LP.out.rd.1 i hi)
  have K1 := hide (C.eff2 LP.out N25.out LA.out LB.out)
  have FE := hide (fun (i : Nat) (hi : i < n) => show PrFit w (es.getD i prD) from by
    have hl : ps.length = n := LP.out.rd.1
    rw [hes, effG_getD (by omega)]
    exact best_fit (P := PrFit w) LP.out.fit (by omega))
  have FPp := hide (fun (i : Nat) (hi : i < n) => show PrFit w (ps.getD i prD) from by
    have hl : ps.length = n := LP.out.rd.1
    rw [List.getD_eq_getElem?_getD, List.getElem?_eq_getElem (by omega)]
    exact LP.out.fit _ (List.getElem_mem _))
  rw [← hes] at FX K1
  clear hes
  have z2 : ((n : Int) != (n : Int)) = false := by simp
  go_enter Try.func5, Try.ntmps5
  go_upto_region 5 with (first
    | (go_at_call 8; refine G.out.mono ?_; rintro e w' ⟨rfl, rfl⟩)
    | (go_at_call 21; refine K1.out.mono ?_; rintro e w2 ⟨a2, c2, rfl, o2, r2, b2⟩; have R2 := hide r2; have B2 := hide b2; clear o2 r2 b2))
  have P2 := hide (LP.out.below B2.out)
  have A2 := hide (LA.out.below B2.out)
  have L2 := hide (LB.out.below B2.out)
  have BR := hide (Below.refl w2.heap.size w2)
  clear G K1
  go_wp2_with fail
  go_loopw [9] (fun iv wr => ∃ i : Nat, i ≤ n ∧ iv = .int .i64 (i : Int) ∧ Hid (Below w2.heap.size w2 wr)) (fun iv _ => n - (intOf iv).toNat)
  case atStart => exact ⟨0, Nat.zero_le _, rfl, BR.out⟩
  case round =>
    obtain ⟨i, hi, rfl, hB⟩ := hrel
    rename World => w3
    by_cases hlt : i < n
    rotate_left
    · obtain rfl : i = n := by omega
      have j1 : ¬ (i : Int) < (i : Int) := by omega
      go_wp2_with (go_at_call 9; refine (ghawake_any C _).mono ?_; rintro e w9 ⟨rfl, b9⟩; have B9 := hide (hB.out.trans (b9.mono hB.out.size)); clear b9)
      go_ret
      exact ⟨rfl, B2.out.trans (B9.out.mono B2.out.size)⟩
    have j0 : (0 : Int) ≤ (i : Int) := by omega
    have j1 : (i : Int) < (n : Int) := by omega
    have FI := hide (FX.out i hlt)
    have fy := FE.out i hlt
    have fb := FPp.out i hlt
    obtain ⟨ga, oa, rfl, c0, c1, c2'⟩ := reads_pr (R2.out.below hB.out) hlt
    obtain ⟨gb, ob, rfl, d0, d1, d2⟩ := reads_pr (P2.out.rd.below hB.out) hlt
    obtain ⟨y, hy⟩ : ∃ y, y = es.getD i prD := ⟨_, rfl⟩
    obtain ⟨v, hv⟩ : ∃ v, v = ps.getD i prD := ⟨_, rfl⟩
    rw [← hy] at c0 c1 c2' fy
    rw [← hv] at d0 d1 d2 fb
    have HY := hide hy
    have HV := hide hv
    obtain ⟨z, hz⟩ : ∃ z, z = cmpP y v := ⟨_, rfl⟩
    have z9 : ¬ z < 0 := by
      have := FI.out.own
      rw [← hy, ← hv, ← hz] at this
      omega
    have KC := hide (fun (W : World) => show Calls Try.prog 26 #[.agg #[.int .i64 y.c, .int .i64 y.l, .int .i64 y.d], .agg #[.int .i64 v.c, .int .i64 v.l, .int .i64 v.d]] W fun e w' => e = .returned (.int .i64 z) ∧ Below W.heap.size W w' from by rw [hz]; exact D.cmp W _ _ _ _ _ _ fy fb)
    have CC := hide (fun (W : World) (bw : Below w3.heap.size w3 W) => show (W.cell? ⟨ga, oa + i * 3, none⟩ = some (.int .i64 y.c) ∧ W.cell? ⟨ga, oa + i * 3 + 1, none⟩ = some (.int .i64 y.l) ∧ W.cell? ⟨ga, oa + i * 3 + 2, none⟩ = some (.int .i64 y.d)) ∧ (W.cell? ⟨gb, ob + i * 3, none⟩ = some (.int .i64 v.c) ∧ W.cell? ⟨gb, ob + i * 3 + 1, none⟩ = some (.int .i64 v.l) ∧ W.cell? ⟨gb, ob + i * 3 + 2, none⟩ = some (.int .i64 v.d)) from by
      have hh := fun (a : Addr) (q : Value) (h : w3.cell? a = some q) => (bw.cell (p := a) (lt_of_cell? h)).trans h
      exact ⟨⟨hh _ _ c0, hh _ _ c1, hh _ _ c2'⟩, hh _ _ d0, hh _ _ d1, hh _ _ d2⟩)
    have c9 := CC.out _ (Below.refl _ _)
    clear hy hv hz c0 c1 c2' d0 d1 d2
    go_upto_region 10 with fail
    go_region_held3 (fun w' => (w'.cell? ⟨ga, oa + i * 3, none⟩ = some (.int .i64 y.c) ∧ w'.cell? ⟨ga, oa + i * 3 + 1, none⟩ = some (.int .i64 y.l) ∧ w'.cell? ⟨ga, oa + i * 3 + 2, none⟩ = some (.int .i64 y.d)) ∧ (w'.cell? ⟨gb, ob + i * 3, none⟩ = some (.int .i64 v.c) ∧ w'.cell? ⟨gb, ob + i * 3 + 1, none⟩ = some (.int .i64 v.l) ∧ w'.cell? ⟨gb, ob + i * 3 + 2, none⟩ = some (.int .i64 v.d))) (first | exact c9 | exact c8) (first | (go_at_call 26; refine (KC.out _).mono ?_; rintro e w4 ⟨rfl, b4⟩; have bb := (below_drewN (Below.refl w3.heap.size w3) 1).trans b4; have c8 := CC.out _ bb; have B34 := hide bb; have B4 := hide (hB.out.trans (bb.mono hB.out.size)); clear bb b4))
    clear c9 c8 KC
    obtain ⟨x, hx⟩ : ∃ x, x = onG ws os n (i : Int) := ⟨_, rfl⟩
    have KO := hide (show Calls Try.prog 14 #[.slice a p ca, .slice b q cb, .int .i64 (n : Int), .int .i64 (i : Int)] w4 fun e w' => e = .returned (.int .i64 x) ∧ Below w4.heap.size w4 w' from by
      rw [hx]
      exact C.on w4 _ _ _ ws _ _ _ os n i (A2.out.below B4.out) (L2.out.below B4.out) (nat_wf (by have := N25.out; omega)) (by have := N25.out; omega) (nat_wf (by have := N25.out; omega)))
    have HXX := hide hx
    have x1 : ¬ (n : Int) ≤ x := by
      by_cases h0 : 0 ≤ x
      · have := onG_lt (ws := ws) (os := os) (n := (n : Int)) (i := (i : Int)) (by rw [← hx]; exact h0)
        rw [← hx] at this; omega
      · omega
    clear hx
    go_upto_region 13 with (go_at_call 14; refine KO.out.mono ?_; rintro e w5 ⟨rfl, b5⟩; have B35 := hide (B34.out.trans (b5.mono B34.out.size)); have B5 := hide (B4.out.trans (b5.mono B4.out.size)); clear b5)
    clear KO z9
    go_cut [69] (fun v wx => v = .bool false ∧ Hid (Below w3.heap.size w3 wx))
    case first =>
      by_cases h0 : 0 ≤ x
      · obtain ⟨k, hk⟩ : ∃ k : Nat, x = (k : Int) := ⟨x.toNat, by omega⟩
        obtain ⟨hkn, hge⟩ := FI.out.next k (by rw [← hk]; exact HXX.out.symm)
        have fk := FE.out k hkn
        obtain ⟨ga', oa', e9, f0, f1, f2⟩ := reads_pr (R2.out.below B5.out) hkn
        injection e9 with e9
        injection e9 with e9 e8
        subst e9 e8
        obtain ⟨yk, hyk⟩ : ∃ yk, yk = es.getD k prD := ⟨_, rfl⟩
        rw [← hyk] at f0 f1 f2 fk hge
        rw [← HY.out] at hge
        obtain ⟨z, hz⟩ : ∃ z, z = cmpP yk y := ⟨_, rfl⟩
        rw [← hz] at hge
        have KC := hide (fun (W : World) => show Calls Try.prog 26 #[.agg #[.int .i64 yk.c, .int .i64 yk.l, .int .i64 yk.d], .agg #[.int .i64 y.c, .int .i64 y.l, .int .i64 y.d]] W fun e w' => e = .returned (.int .i64 z) ∧ Below W.heap.size W w' from by rw [hz]; exact D.cmp W _ _ _ _ _ _ fk fy)
        obtain ⟨⟨g0, g1, g2⟩, -⟩ := CC.out w5 B35.out
        have CK := hide (fun (W : World) (bw : Below w5.heap.size w5 W) => show (W.cell? ⟨ga, oa + k * 3, none⟩ = some (.int .i64 yk.c) ∧ W.cell? ⟨ga, oa + k * 3 + 1, none⟩ = some (.int .i64 yk.l) ∧ W.cell? ⟨ga, oa + k * 3 + 2, none⟩ = some (.int .i64 yk.d)) ∧ (W.cell? ⟨ga, oa + i * 3, none⟩ = some (.int .i64 y.c) ∧ W.cell? ⟨ga, oa + i * 3 + 1, none⟩ = some (.int .i64 y.l) ∧ W.cell? ⟨ga, oa + i * 3 + 2, none⟩ = some (.int .i64 y.d)) from by
          have hh := fun (a : Addr) (q : Value) (h : w5.cell? a = some q) => (bw.cell (p := a) (lt_of_cell? h)).trans h
          exact ⟨⟨hh _ _ f0, hh _ _ f1, hh _ _ f2⟩, hh _ _ g0, hh _ _ g1, hh _ _ g2⟩)
        have c9 := CK.out _ (Below.refl _ _)
        have k0 : (0 : Int) ≤ (k : Int) := by omega
        have k1 : (k : Int) < (n : Int) := by omega
        have k2 : ¬ (n : Int) ≤ (k : Int) := by omega
        have z9 : ¬ z < 0 := by omega
        have Z9 := hide z9
        have q1 : decide ((n : Int) ≤ (k : Int)) = false := decide_eq_false k2
        have q2 : decide ((0 : Int) ≤ (k : Int)) = true := decide_eq_true k0
        subst hk
        clear f0 f1 f2 g0 g1 g2 hyk hz hge x1 h0
        go_region_held3 (fun w' => (w'.cell? ⟨ga, oa + k * 3, none⟩ = some (.int .i64 yk.c) ∧ w'.cell? ⟨ga, oa + k * 3 + 1, none⟩ = some (.int .i64 yk.l) ∧ w'.cell? ⟨ga, oa + k * 3 + 2, none⟩ = some (.int .i64 yk.d)) ∧ (w'.cell? ⟨ga, oa + i * 3, none⟩ = some (.int .i64 y.c) ∧ w'.cell? ⟨ga, oa + i * 3 + 1, none⟩ = some (.int .i64 y.l) ∧ w'.cell? ⟨ga, oa + i * 3 + 2, none⟩ = some (.int .i64 y.d))) (first | exact c9 | exact c8) (first | (go_at_call 26; refine (KC.out _).mono ?_; rintro e w6 ⟨rfl, b6⟩; have bb := (below_drewN (Below.refl w5.heap.size w5) 1).trans b6; have c8 := CK.out _ bb; have B36 := hide (B35.out.trans (bb.mono B35.out.size)); clear bb b6))
        all_goals
          go_wp2_with fail
          go_meet
          case rel => exact ⟨by rw [decide_eq_false (by have := Z9.out; omega)], B36.out⟩
      · have q1 : decide ((n : Int) ≤ x) = false := decide_eq_false (by omega)
        have q2 : decide ((0 : Int) ≤ x) = false := decide_eq_false (by omega)
        go_quiet (fail)
        go_wp2_with fail
        go_meet
        case rel => exact ⟨rfl, below_drewN B35.out _⟩
    case rest =>
      obtain ⟨rfl, hW⟩ := hcut
      rename World => w6
      have B6 := hide (hB.out.trans (hW.out.mono hB.out.size))
      obtain ⟨⟨g0, g1, g2⟩, d0, d1, d2⟩ := CC.out w6 hW.out
      obtain ⟨u0, hu0⟩ : ∃ u0, u0 = eqP y v := ⟨_, rfl⟩
      have EQ := fun (W : World) => show (binOp .eql 39 (.agg #[.int .i64 y.c, .int .i64 y.l, .int .i64 y.d]) (.agg #[.int .i64 v.c, .int .i64 v.l, .int .i64 v.d])).run Try.prog W = .ok (.bool u0) W from by rw [hu0]; exact prio_eql W y.c y.l y.d v.c v.l v.d
      have HU := hide hu0
      have B6d := hide (show Below w2.heap.size w2 w6.drew from below_drewN B6.out 1)
      clear hu0 x1 CC B4 B5 B34 B35
      go_upto_region 15 with fail
      go_region
      clear g0 g1 g2 d0 d1 d2 EQ
      go_wp2_with fail
      have IM := hide (show i + 1 ≤ n from by omega)
      go_loopw [11, 12] (fun ov jv wr => ∃ (o : Bool) (j : Nat), j ≤ n ∧ ov = .bool o ∧ jv = .int .i64 (j : Int) ∧ Hid (Below w2.heap.size w2 wr ∧ (o = false → u0 = false ∧ ∀ j', j' < j → ¬ ((i : Int) ∈ chainG ws os n j' ∧ y = ps.getD j' prD)))) (fun _ jv _ => n - (intOf jv).toNat)
      case atStart => exact ⟨u0, 0, Nat.zero_le _, rfl, rfl, B6d.out, fun h => ⟨h, fun j' h' => absurd h' (by omega)⟩⟩
      case round =>
        obtain ⟨o, j, hj, rfl, rfl, hZ⟩ := hrel
        rename World => w7
        have B7 := hide hZ.out.1
        have NO := hide hZ.out.2
        clear hZ B6d
        cases o with
        | true =>
          by_cases hjn : j < n
          · have e1 : (j : Int) < (n : Int) := by omega
            go_wp2_with fail
            go_roundw
            case rel => exact ⟨i + 1, IM.out, by go_num, B7.out⟩
            case measure => have h9 := IM.out; simp [intOf]; omega
          · have e1 : ¬ (j : Int) < (n : Int) := by omega
            go_wp2_with fail
            go_roundw
            case rel => exact ⟨i + 1, IM.out, by go_num, B7.out⟩
            case measure => have h9 := IM.out; simp [intOf]; omega
        | false =>
          obtain ⟨un, nn⟩ := NO.out rfl
          by_cases hjn : j < n
          rotate_left
          · exfalso
            have hjn2 : j = n := by omega
            rcases FI.out.one with h | ⟨j', h1, h2, h3⟩
            · rw [← HY.out, ← HV.out] at h
              have := eqP_iff.mpr h
              rw [← HU.out, un] at this
              cases this
            · exact nn j' (by omega) ⟨h2, by rw [HY.out]; exact h3⟩
          have e0 : (0 : Int) ≤ (j : Int) := by omega
          have e1 : (j : Int) < (n : Int) := by omega
          obtain ⟨ch, hch⟩ : ∃ ch, ch = chainG ws os n (j : Int) := ⟨_, rfl⟩
          obtain ⟨m, hm⟩ : ∃ m, m = ch.length := ⟨_, rfl⟩
          have CL := hide (show m ≤ 26 from by rw [hm, hch]; exact chainG_short ws os n j (by have := N25.out; omega))
          have KH := hide (show Calls Try.prog 11 #[.slice a p ca, .slice b q cb, .int .i64 (n : Int), .int .i64 (j : Int)] w7 fun e w' => ∃ A c, e = .returned (.slice A m c) ∧ Ints .i64 w' A m ch ∧ Below w7.heap.size w7 w' from by
            refine (C.chain w7 _ _ _ ws _ _ _ os n j (A2.out.below B7.out) (L2.out.below B7.out) (nat_wf (by have := N25.out; omega)) (by have := N25.out; omega) (nat_wf (by have := N25.out; omega))).mono ?_
            rintro e w' ⟨c', rfl, o, b9⟩
            rw [← hch, ← hm] at o
            obtain ⟨A, c, rfl⟩ := own_sliceI o
            exact ⟨A, c, rfl, own_intsI o hm.symm, b9⟩)
          have HCH := hide hch
          have HM := hide hm
          have JM := hide (show j + 1 ≤ n from by omega)
          have m63 : (m : Int) ≤ 26 := by have := CL.out; omega
          clear hch hm un nn
          go_upto_region 20 with (go_at_call 11; refine KH.out.mono ?_; rintro e w8 ⟨a8, c8, rfl, i8, b8⟩; have I8 := hide i8; have B8 := hide (B7.out.trans (b8.mono B7.out.size)); clear i8 b8)
          have B8r := hide (Below.refl w8.heap.size w8)
          clear KH
          go_wp2_with fail
          go_loopw [11, 14] (fun ov xv wr => ∃ (o : Bool) (t : Nat), t ≤ m ∧ ov = .bool o ∧ xv = .int .i64 (t : Int) ∧ Hid (Below w8.heap.size w8 wr ∧ (o = false → ∀ t', t' < t → ¬ (ch.getD t' 0 = (i : Int) ∧ y = ps.getD j prD)))) (fun _ xv _ => m - (intOf xv).toNat)
          case atStart => exact ⟨false, 0, Nat.zero_le _, rfl, rfl, B8r.out, fun _ t' h' => absurd h' (by omega)⟩
          case round =>
            obtain ⟨o, t, ht, rfl, rfl, hZ⟩ := hrel
            rename World => w9
            have B9 := hide hZ.out.1
            have NX := hide hZ.out.2
            clear hZ B8r
            by_cases htm : t < m
            · have t0 : (0 : Int) ≤ (t : Int) := by omega
              have t1 : (t : Int) < (m : Int) := by omega
              obtain ⟨gc, oc, rfl, cs⟩ := I8.out.2 (by omega)
              obtain ⟨ct, hct⟩ : ∃ ct, ct = ch.getD t 0 := ⟨_, rfl⟩
              have x0 : w9.cell? ⟨gc, oc + t, none⟩ = some (.int .i64 ct) := by rw [hct]; exact (B9.out.cell (p := ⟨gc, oc + t, none⟩) (lt_of_cell? (cs t htm))).trans (cs t htm)
              have B29 := B8.out.trans (B9.out.mono B8.out.size)
              obtain ⟨ga', oa', e9, g0, g1, g2⟩ := reads_pr (R2.out.below B29) hlt
              injection e9 with e9
              injection e9 with e9 e8
              subst e9 e8
              obtain ⟨gb', ob', e9, d0, d1, d2⟩ := reads_pr (P2.out.rd.below B29) hjn
              injection e9 with e9
              injection e9 with e9 e8
              subst e9 e8
              rw [← HY.out] at g0 g1 g2
              obtain ⟨vj, hvj⟩ : ∃ vj, vj = ps.getD j prD := ⟨_, rfl⟩
              rw [← hvj] at d0 d1 d2
              have HVJ := hide hvj
              have HCT := hide hct
              obtain ⟨u1, hu1⟩ : ∃ u1, u1 = eqP y vj := ⟨_, rfl⟩
              have EQ := fun (W : World) => show (binOp .eql 39 (.agg #[.int .i64 y.c, .int .i64 y.l, .int .i64 y.d]) (.agg #[.int .i64 vj.c, .int .i64 vj.l, .int .i64 vj.d])).run Try.prog W = .ok (.bool u1) W from by rw [hu1]; exact prio_eql W y.c y.l y.d vj.c vj.l vj.d
              have HU1 := hide hu1
              have TM := hide (show t + 1 ≤ m from by omega)
              clear hct hvj hu1 cs B29
              cases o with
              | true =>
                go_upto_region 23 with fail
                go_quiet (fail)
                go_wp2_with fail
                go_roundw
                case rel => exact ⟨true, t + 1, TM.out, rfl, by go_num, below_drewN B9.out _, fun h => by cases h⟩
                case measure => have h9 := TM.out; have h8 := CL.out; simp [intOf]; omega
              | false =>
                by_cases hc : ct = (i : Int)
                · have q1 : (ct == (i : Int)) = true := by simpa using hc
                  have HC := hide hc
                  clear hc
                  go_upto_region 23 with fail
                  go_quiet (fail)
                  go_wp2_with fail
                  go_roundw
                  case rel =>
                    refine ⟨u1, t + 1, TM.out, rfl, by go_num, below_drewN B9.out _, fun h t' h' => ?_⟩
                    by_cases et : t' = t
                    · rintro ⟨_, h2⟩
                      rw [← HVJ.out] at h2
                      have := eqP_iff.mpr h2
                      rw [← HU1.out, h] at this
                      cases this
                    · exact NX.out rfl t' (by omega)
                  case measure => have h9 := TM.out; have h8 := CL.out; simp [intOf]; omega
                · have q1 : (ct == (i : Int)) = false := by simpa using hc
                  have HC := hide hc
                  clear hc
                  go_upto_region 23 with fail
                  go_quiet (fail)
                  go_wp2_with fail
                  go_roundw
                  case rel =>
                    refine ⟨false, t + 1, TM.out, rfl, by go_num, below_drewN B9.out _, fun h t' h' => ?_⟩
                    by_cases et : t' = t
                    · rintro ⟨h1, _⟩
                      rw [et, ← HCT.out] at h1
                      exact HC.out h1
                    · exact NX.out rfl t' (by omega)
                  case measure => have h9 := TM.out; have h8 := CL.out; simp [intOf]; omega
            · obtain rfl : t = m := by omega
              have t1 : ¬ (t : Int) < (t : Int) := by omega
              go_wp2_with fail
              go_roundw
              case rel =>
                refine ⟨o, j + 1, JM.out, rfl, by go_num, B8.out.trans (B9.out.mono B8.out.size), fun ho => ?_⟩
                obtain ⟨un, nn⟩ := NO.out (by trivial)
                refine ⟨un, fun j' h' => ?_⟩
                by_cases ej : j' = j
                · subst ej
                  rintro ⟨h1, h2⟩
                  rw [← HCH.out] at h1
                  obtain ⟨t', h3, h4⟩ := List.mem_iff_getElem.mp h1
                  refine NX.out ho t' (by rw [HM.out]; exact h3) ⟨?_, h2⟩
                  rw [List.getD_eq_getElem?_getD, List.getElem?_eq_getElem h3]; exact h4
                · exact nn j' (by omega)
              case measure => have h9 := JM.out; have h8 := N25.out; simp [intOf]; omega
end Go.Proofs.Ythbhbanhgmaopaa
