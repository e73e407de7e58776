/-
  The walk of ReadyFirst, over the contracts of the program's ready and prio.
-/
import Derived.Test.YtccokhalcdljiaaRdNone
namespace Go.Proofs.Ytccokhalcdljiaa
open Go.ChangeShapes Go.WideShapes Go.ChangeAt Go.RowKit
set_option linter.unusedVariables false
/-- The queue behind k rounds. -/
def bldR (ps : List Pr) : Nat → List Rt
  | 0 => []
  | k + 1 => addR (bldR ps k) (k : Int) (ps.getD k prD)
theorem addR_mem {l : List Rt} {id : Int} {p : Pr} {x : Rt} (h : x ∈ addR l id p) : x ∈ l ∨ x = ⟨id.toNat, p⟩ := by
  unfold addR at h
  split at h
  · exact (mem_insR _ _ _).mp h
  · exact .inl h
theorem mem_bld {ps : List Pr} {k : Nat} {x : Rt} (h : x ∈ bldR ps k) : x.id < k ∧ x.p = ps.getD x.id prD := by
  induction k with
  | zero => cases h
  | succ k ih =>
    rcases addR_mem h with h | rfl
    · obtain ⟨h1, h2⟩ := ih h; exact ⟨by omega, h2⟩
    · exact ⟨by show (k : Int).toNat < k + 1; omega, by show _ = ps.getD (k : Int).toNat prD; rw [Int.toNat_natCast]⟩
theorem bld_has (ps : List Pr) (k : Nat) : hasR (bldR ps k) (k : Int) = false := by
  cases e : hasR (bldR ps k) (k : Int) with
  | false => rfl
  | true =>
    obtain ⟨x, hx, e2⟩ := (hasR_iff _ _).mp e
    have := (mem_bld hx).1
    omega
theorem bld_addE (ps : List Pr) (k : Nat) (p : Pr) : addE (bldR ps k) (k : Int) p = if mayP p = true then 0 else 2 := by
  unfold addE
  cases h : mayP p with
  | true => rw [if_neg (by simp), bld_has]; rfl
  | false => rw [if_pos (.inr rfl)]; rfl
theorem bld_len (ps : List Pr) (k : Nat) : (bldR ps (k + 1)).length = (bldR ps k).length + if mayP (ps.getD k prD) = true then 1 else 0 := by
  show (addR _ _ _).length = _
  unfold addR
  rw [bld_addE]
  cases h : mayP (ps.getD k prD) with
  | true => rw [if_pos (by rfl), insR_len]; rfl
  | false => rw [if_neg (by simp)]; rfl
theorem bld_le (ps : List Pr) (k : Nat) : (bldR ps k).length ≤ k := by
  induction k with
  | zero => exact Nat.le_refl _
  | succ k ih => rw [bld_len]; split <;> omega
theorem drop_head {x : Rt} {t : List Rt} (h : GoodR (x :: t)) : dropR (x :: t) (x.id : Int) = t ∧ hasR (x :: t) (x.id : Int) = true ∧ hasR t (x.id : Int) = false := by
  refine ⟨?_, (hasR_iff _ _).mpr ⟨x, List.mem_cons_self, rfl⟩, ?_⟩
  · have := dropR_at (l := x :: t) (id := (x.id : Int)) (i := 0) (by simp) rfl h.one
    simpa using this
  · cases e : hasR t (x.id : Int) with
    | false => rfl
    | true =>
      obtain ⟨y, hy, e2⟩ := (hasR_iff _ _).mp e
      have := (List.pairwise_cons.mp h.one).1 y hy
      omega
section
variable {PQ : World → (Nat → Prop) → Nat → List Rt → Prop}
set_option maxRecDepth 10000 in
set_option maxHeartbeats 16000000 in
theorem walk_readyFirstC (C : PReady PQ) (D : PPrio2) (w : World) (a : Option Addr) (n c : Nat) (zs : List (List Int)) (hin : CameRows 3 w a n c zs) :
    Calls Try.prog 4 #[.slice a n c] w fun e w' => e = .returned (.bool true) ∧ Below w.heap.size w w' := by
  obtain ⟨ps, hrow, hnc, hcm, hwf⟩ := PrRow.of_came hin
  have hn : n ≤ maxLen := Nat.le_trans hnc hcm
  have h63 : (n : Int) ≤ 9223372036854775807 := by unfold maxLen at hn; omega
  clear hin hnc hcm
  by_cases h60 : 60 < n
  · have h60' : (60 : Int) < (n : Int) := by omega
    clear hrow hwf
    go_enter Try.func4, Try.ntmps4
    go_wp2_with (go_at_call 7; refine (pawake8_any C _).mono ?_; rintro e w' ⟨rfl, hb⟩)
    go_ret
    exact ⟨rfl, hb⟩
  have h60' : ¬ (60 : Int) < (n : Int) := by omega
  have HR := hide hrow
  have WF := hide hwf
  clear hrow hwf
  go_enter Try.func4, Try.ntmps4
  go_wp2_with fail
  go_at_call 8
  refine (C.new _).mono ?_
  rintro e w1 ⟨S, U, rfl, q1, b1, l1⟩
  have P1 := hide (OneR.first q1 b1 l1)
  clear q1 b1 l1
  go_wp2_with fail
  go_loopw [5, 4] (fun i m wr => ∃ (k : Nat) (U : Nat → Prop), k ≤ n ∧ i = .int .i64 (k : Int) ∧ m = .int .i64 (((bldR ps k).length : Nat) : Int) ∧ Hid (OneR PQ w wr U S (bldR ps k))) (fun i _ _ => n - (intOf i).toNat)
  case atStart => exact ⟨0, U, Nat.zero_le _, rfl, rfl, P1.out⟩
  case round =>
    clear P1 U
    obtain ⟨k, U, hk, rfl, rfl, hO⟩ := hrel
    have bl := bld_le ps k
    by_cases hlt : k < n
    · have k0 : (0 : Int) ≤ (k : Int) := by omega
      have k1 : (k : Int) < (n : Int) := by omega
      obtain ⟨b, off, rfl, y0, y1, y2⟩ := (HR.out.below hO.out.bel).at_ hlt
      obtain ⟨p, hp⟩ : ∃ p, p = ps.getD k prD := ⟨_, rfl⟩
      have wp := WF.out k hlt
      rw [← hp] at y0 y1 y2 wp
      have BN : bldR ps (k + 1) = addR (bldR ps k) (k : Int) p := by rw [hp]; rfl
      have AE := bld_addE ps k p
      have BL := bld_len ps k
      rw [← hp] at BL
      have HBN := hide BN
      have HBL := hide BL
      have wk : (Lit.int .i64 (k : Int)).wf = true := by simp [Lit.wf, IntKind.min, IntKind.max, IntKind.bits, IntKind.signed]; omega
      obtain ⟨m, hm⟩ : ∃ m, m = mayP p := ⟨_, rfl⟩
      have AD := hide (C.add hO.out.ps (id := (k : Int)) (c := p.c) (lv := p.l) (d := p.d) wk wp (by omega))
      have MA := hide (fun W => by have := D.may W p.c p.l p.d wp; rw [show mayP ⟨p.c, p.l, p.d⟩ = m from hm.symm] at this; exact this)
      have AE2 : addE (bldR ps k) (k : Int) ⟨p.c, p.l, p.d⟩ = if m = true then 0 else 2 := by rw [hm]; exact AE
      have RC := hide (fun (W : World) (hW : Below w.heap.size w W) => show W.cell? ⟨b, off + k * 3, none⟩ = some (.int .i64 p.c) ∧ W.cell? ⟨b, off + k * 3 + 1, none⟩ = some (.int .i64 p.l) ∧ W.cell? ⟨b, off + k * 3 + 2, none⟩ = some (.int .i64 p.d) from by
        obtain ⟨b', off', e, z⟩ := (HR.out.below hW).at_ hlt
        injection e with e
        injection e with e1 e2 _
        subst e1 e2
        rw [hp]; exact z)
      clear hp wk AE BN BL
      rw [← hm] at HBL
      rw [AE2] at AD
      have HO := hide hO.out
      clear hO hm AE2
      cases m with
      | true =>
        rw [if_pos rfl] at AD HBL
        go_upto_region 11 with (go_at_call 10; refine AD.out.mono ?_; intro en w2 hs; obtain ⟨rfl, U2, q2⟩ := HO.out.side hs; have O2 := hide q2; clear hs q2)
        clear y0 y1 y2
        obtain ⟨y0, y1, y2⟩ := RC.out w2 O2.out.bel
        go_wp2_with (go_at_call 24; refine (MA.out _).mono ?_; rintro e w3 ⟨rfl, b3⟩; have O3 := hide (O2.out.below C b3); clear b3)
        go_roundw
        case rel => exact ⟨k + 1, U2, by omega, by go_num, by rw [HBL.out]; go_num, by rw [HBN.out]; exact O3.out⟩
        case measure => simp [intOf]; omega
      | false =>
        rw [if_neg (by simp)] at AD HBL
        go_upto_region 11 with (go_at_call 10; refine AD.out.mono ?_; intro en w2 hs; obtain ⟨rfl, U2, q2⟩ := HO.out.side hs; have O2 := hide q2; clear hs q2)
        clear y0 y1 y2
        obtain ⟨y0, y1, y2⟩ := RC.out w2 O2.out.bel
        go_wp2_with (go_at_call 24; refine (MA.out _).mono ?_; rintro e w3 ⟨rfl, b3⟩; have O3 := hide (O2.out.below C b3); clear b3)
        go_roundw
        case rel => exact ⟨k + 1, U2, by omega, by go_num, by rw [HBL.out]; go_num, by rw [HBN.out]; exact O3.out⟩
        case measure => simp [intOf]; omega
    · obtain rfl : k = n := by omega
      have L0 := hide hO.out
      obtain ⟨l, hl⟩ : ∃ l, l = bldR ps k := ⟨_, rfl⟩
      have LM := hide (show ∀ x ∈ l, x.id < k ∧ x.p = ps.getD x.id prD from fun x hx => mem_bld (by rw [← hl]; exact hx))
      rw [← hl] at L0 bl
      have GL := hide (C.good L0.out.ps)
      rw [← hl]
      clear hl hO
      have l60 : l.length ≤ 60 := by omega
      have l0 : (l.length : Int) ≤ 60 := by omega
      go_wp2_with fail
      go_loopw [8, 7] (fun i m wr => ∃ (j : Nat) (q : Int) (U : Nat → Prop), j ≤ l.length ∧ i = .int .i64 (j : Int) ∧ m = .int .i64 q ∧ Hid (OneR PQ w wr U S (l.drop j) ∧ (j = 0 ∧ q = -1 ∨ ∃ y, j = y + 1 ∧ ∃ hy : y < l.length, q = ((l[y].id : Nat) : Int)))) (fun i _ _ => l.length - (intOf i).toNat)
      case atStart => exact ⟨0, -1, _, Nat.zero_le _, rfl, rfl, L0.out, .inl ⟨rfl, rfl⟩⟩
      case round =>
        clear L0
        obtain ⟨j, q, U1, hj, rfl, rfl, hZ⟩ := hrel
        by_cases hjl : j < l.length
        · have j0 : (j : Int) < (l.length : Int) := by omega
          obtain ⟨x, hx⟩ : ∃ x, x = l[j] := ⟨_, rfl⟩
          have hd : l.drop j = x :: l.drop (j + 1) := by rw [hx]; exact List.drop_eq_getElem_cons hjl
          have hxl : x ∈ l := by rw [hx]; exact List.getElem_mem hjl
          obtain ⟨xk, xp⟩ := LM.out x hxl
          have O1 := hide hZ.out.1
          rw [hd] at O1
          obtain ⟨d1, d2, d3⟩ := drop_head (C.good O1.out.ps)
          have wx : (Lit.int .i64 (x.id : Int)).wf = true := (GL.out.wf x hxl).1
          have FI := hide (show Calls Try.prog 18 #[.pointer (some ⟨S, 0, none⟩)] wr (SideR (fun w' U' => PQ w' U' S (x :: l.drop (j + 1))) U1 wr (.tuple #[.int .i64 (x.id : Int), .bool true])) from C.first O1.out.ps)
          have DR := hide (fun (W : World) (V : Nat → Prop) (hW : PQ W V S (x :: l.drop (j + 1))) => by have := C.drop hW wx; rw [d1, d2] at this; exact this)
          have HA := hide (fun (W : World) (V : Nat → Prop) (hW : PQ W V S (l.drop (j + 1))) => by have := C.has hW wx; rw [d3] at this; exact this)
          have PV := hide hZ.out.2
          have x0 : ¬ (x.id : Int) < 0 := by omega
          have x1 : ¬ (k : Int) ≤ (x.id : Int) := by omega
          have HX := hide hx
          have HXP := hide xp
          have HXL := hide hxl
          clear hZ hd d1 d2 d3 wx hx xp hxl
          go_upto_region 22 with (first
            | (go_at_call 18; refine FI.out.mono ?_; intro en w2 hs; obtain ⟨rfl, U2, q2⟩ := O1.out.side hs; have O2 := hide q2; clear hs q2)
            | (go_at_call 12; refine (DR.out _ _ O2.out.ps).mono ?_; intro en w3 hs; obtain ⟨rfl, U3, q3⟩ := O2.out.side hs; have O3 := hide q3; clear hs q3)
            | (go_at_call 19; refine (HA.out _ _ O3.out.ps).mono ?_; intro en w4 hs; obtain ⟨rfl, U4, q4⟩ := O3.out.side hs; have O4 := hide q4; clear hs q4))
          have NX := hide (show j + 1 = 0 ∧ (x.id : Int) = -1 ∨ ∃ y, j + 1 = y + 1 ∧ ∃ hy : y < l.length, (x.id : Int) = ((l[y].id : Nat) : Int) from .inr ⟨j, rfl, hjl, by rw [HX.out]⟩)
          rcases PV.out with ⟨_, rfl⟩ | ⟨y, e1, hy, e2⟩
          · go_wp2_with fail
            go_roundw
            case rel => exact ⟨j + 1, _, _, by omega, by go_num, rfl, O4.out, NX.out⟩
            case measure => simp [intOf]; omega
          · obtain ⟨z, hz⟩ : ∃ z, z = l[y] := ⟨_, rfl⟩
            rw [← hz] at e2
            have hzl : z ∈ l := by rw [hz]; exact List.getElem_mem hy
            obtain ⟨zk, zp⟩ := LM.out z hzl
            have AH : aheadR z x = true := by
              rw [hz, HX.out]
              exact List.pairwise_iff_getElem.mp GL.out.up y j hy hjl (by omega)
            obtain ⟨v, hv⟩ : ∃ v, v = cmpP z.p x.p := ⟨_, rfl⟩
            have CM := hide (fun W => by have := D.cmp W z.p.c z.p.l z.p.d x.p.c x.p.l x.p.d (GL.out.wf z hzl).2 (GL.out.wf x HXL.out).2; rw [show cmpP ⟨z.p.c, z.p.l, z.p.d⟩ ⟨x.p.c, x.p.l, x.p.d⟩ = v from hv.symm] at this; exact this)
            have VC : 0 < v ∨ v = 0 ∧ z.id < x.id := by unfold aheadR at AH; rw [← hv] at AH; simpa using AH
            obtain ⟨b, off, ea, _⟩ := (HR.out.below O4.out.bel).at_ xk
            have RC := hide (fun (W : World) (hW : Below w.heap.size w W) => show (W.cell? ⟨b, off + z.id * 3, none⟩ = some (.int .i64 z.p.c) ∧ W.cell? ⟨b, off + z.id * 3 + 1, none⟩ = some (.int .i64 z.p.l) ∧ W.cell? ⟨b, off + z.id * 3 + 2, none⟩ = some (.int .i64 z.p.d)) ∧ (W.cell? ⟨b, off + x.id * 3, none⟩ = some (.int .i64 x.p.c) ∧ W.cell? ⟨b, off + x.id * 3 + 1, none⟩ = some (.int .i64 x.p.l) ∧ W.cell? ⟨b, off + x.id * 3 + 2, none⟩ = some (.int .i64 x.p.d)) from by
              obtain ⟨b1, o1, f1, z1⟩ := (HR.out.below hW).at_ xk
              obtain ⟨b2, o2, f2, z2⟩ := (HR.out.below hW).at_ zk
              rw [ea] at f1 f2
              injection f1 with f1
              injection f1 with f11 f12 _
              injection f2 with f2
              injection f2 with f21 f22 _
              subst f11 f12 f21 f22
              rw [zp, HXP.out]
              exact ⟨z2, z1⟩)
            subst ea e2
            have z0 : (0 : Int) ≤ (z.id : Int) := by omega
            have z1 : (z.id : Int) < (k : Int) := by omega
            have x2 : (0 : Int) ≤ (x.id : Int) := by omega
            have x3 : (x.id : Int) < (k : Int) := by omega
            have m4 := RC.out w4 O4.out.bel
            clear AH hv hz zp
            go_upto_region 23 with fail
            go_region_held3 (fun w' => (w'.cell? ⟨b, off + z.id * 3, none⟩ = some (.int .i64 z.p.c) ∧ w'.cell? ⟨b, off + z.id * 3 + 1, none⟩ = some (.int .i64 z.p.l) ∧ w'.cell? ⟨b, off + z.id * 3 + 2, none⟩ = some (.int .i64 z.p.d)) ∧ (w'.cell? ⟨b, off + x.id * 3, none⟩ = some (.int .i64 x.p.c) ∧ w'.cell? ⟨b, off + x.id * 3 + 1, none⟩ = some (.int .i64 x.p.l) ∧ w'.cell? ⟨b, off + x.id * 3 + 2, none⟩ = some (.int .i64 x.p.d))) (first | exact m4 | exact m5) ((go_at_call 25; refine (CM.out _).mono ?_; rintro e w5 ⟨rfl, b5⟩; have O5 := hide (O4.out.below C ((below_drewN (Below.refl w4.heap.size w4) 1).trans b5)); have m5 := RC.out w5 O5.out.bel; clear b5))
            rcases VC with v0 | ⟨v0, v1⟩
            · have g0 : ¬ v < 0 := by omega
              have g1 : (v == 0) = false := by simp; omega
              go_wp2_with fail
              go_roundw
              case rel => exact ⟨j + 1, _, _, by omega, by go_num, rfl, O5.out, NX.out⟩
              case measure => simp [intOf]; omega
            · subst v0
              have g2 : ¬ (x.id : Int) < (z.id : Int) := by omega
              go_wp2_with fail
              go_roundw
              case rel => exact ⟨j + 1, _, _, by omega, by go_num, rfl, O5.out, NX.out⟩
              case measure => simp [intOf]; omega
        · obtain rfl : j = l.length := by omega
          have O1 := hide hZ.out.1
          rw [List.drop_length] at O1
          have FI := hide (show Calls Try.prog 18 #[.pointer (some ⟨S, 0, none⟩)] wr (SideR (fun w' U' => PQ w' U' S []) U1 wr (.tuple #[.int .i64 0, .bool false])) from C.first O1.out.ps)
          have LE := hide (fun (W : World) (V : Nat → Prop) (hW : PQ W V S []) => show Calls Try.prog 21 #[.pointer (some ⟨S, 0, none⟩)] W (SideR (fun w' U' => PQ w' U' S []) V W (.int .i64 0)) from C.len hW)
          clear hZ
          go_wp2_with (first
            | (go_at_call 18; refine FI.out.mono ?_; intro en w2 hs; obtain ⟨rfl, U2, q2⟩ := O1.out.side hs; have O2 := hide q2; clear hs q2)
            | (go_at_call 21; refine (LE.out _ _ O2.out.ps).mono ?_; intro en w3 hs; obtain ⟨rfl, U3, q3⟩ := O2.out.side hs; have O3 := hide q3; clear hs q3)
            | (go_at_call 7; refine (pawake8_any C _).mono ?_; rintro e w4 ⟨rfl, b4⟩))
          go_ret
          exact ⟨rfl, O3.out.bel.trans (b4.mono O3.out.bel.size)⟩
end
end Go.Proofs.Ytccokhalcdljiaa
