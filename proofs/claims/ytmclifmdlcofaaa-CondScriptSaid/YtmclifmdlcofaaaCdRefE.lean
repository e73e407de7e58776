/-
  The document's own conditions: Signal; who is before whom (Before).
-/
import Derived.Test.YtmclifmdlcofaaaCdRefD
namespace Go.Proofs.Ytmclifmdlcofaaa
open Go.ChangeShapes Go.WideShapes Go.ChangeAt Go.RowKit
set_option linter.unusedVariables false
set_option linter.unusedSimpArgs false
/-- Sixteen keys at block K. -/
def KeysAt (w : World) (K : Nat) (ks : List Int) : Prop := ks.length = 16 ∧ ∃ (cur : Array Value) (t : TypeId), w.heap[K]? = some (.cells cur t (0, 0)) ∧ ∀ j, j < 16 → cur[j]? = some (.int .i64 (ks.getD j 0))
theorem KeysAt.lt {w : World} {K : Nat} {ks : List Int} (h : KeysAt w K ks) : K < w.heap.size := by obtain ⟨_, cur, t, e, _⟩ := h; exact lt_of_heap e
theorem KeysAt.touch {V : Nat → Prop} {w w' : World} {K : Nat} {ks : List Int} (h : KeysAt w K ks) (t : Touch V w w') (d : ¬ V K) : KeysAt w' K ks := by
  have hl := h.lt
  obtain ⟨h1, cur, ty, e, hc⟩ := h
  exact ⟨h1, cur, ty, (t.block K hl d).trans e, hc⟩
theorem KeysAt.below {w w' : World} {K : Nat} {ks : List Int} (h : KeysAt w K ks) (b : Below w.heap.size w w') : KeysAt w' K ks := h.touch (V := fun _ => False) (Touch.of_below b) (fun e => e)
theorem KeysAt.cell {w : World} {K : Nat} {ks : List Int} (h : KeysAt w K ks) {j : Nat} (hj : j < 16) : w.cell? ⟨K, j, none⟩ = some (.int .i64 (ks.getD j 0)) := by
  obtain ⟨_, cur, t, e, hc⟩ := h
  rw [cell_of_row _ _ _ _ _ _ e]; exact hc j hj
theorem KeysAt.key {w : World} {K : Nat} {ks : List Int} (h : KeysAt w K ks) {x : Int} (h0 : 0 ≤ x) (h1 : x < 16) : w.cell? ⟨K, x.toNat, none⟩ = some (.int .i64 (keyC ks x)) := by
  rw [h.cell (by omega)]
  unfold keyC
  rw [Int.emod_eq_of_lt h0 h1]
theorem i64_and15 (n : Int) : bits .and .i64 n 15 = n % 16 := by
  have h1 : (BitVec.ofInt 64 15).toNat = 2 ^ 4 - 1 := by decide
  have key : (BitVec.ofInt 64 n &&& BitVec.ofInt 64 15).toNat = (n % ((2 ^ 64 : Nat) : Int)).toNat % 2 ^ 4 := by
    rw [BitVec.toNat_and, BitVec.toNat_ofInt, h1, Nat.and_two_pow_sub_one_eq_mod]
  show IntKind.i64.wrap ((BitVec.ofInt 64 n &&& BitVec.ofInt 64 15).toNat : Nat) = n % 16
  rw [key, IntKind.wrap_i64]
  omega
set_option maxHeartbeats 4000000 in
theorem before_any {w : World} {K : Nat} {ks : List Int} (h : KeysAt w K ks) (a b : Int) : Calls Try.prog 16 #[.pointer (some ⟨K, 0, none⟩), .int .i64 a, .int .i64 b] w fun e w' => e = .returned (.bool (befC ks a b)) ∧ Below w.heap.size w w' := by
  have a0 := Int.emod_nonneg a (show (16 : Int) ≠ 0 by omega)
  have a1 := Int.emod_lt_of_pos a (show (0 : Int) < 16 by omega)
  have b0 := Int.emod_nonneg b (show (16 : Int) ≠ 0 by omega)
  have b1 := Int.emod_lt_of_pos b (show (0 : Int) < 16 by omega)
  have ea := i64_and15 a
  have eb := i64_and15 b
  have ca := h.key a0 a1
  have cb := h.key b0 b1
  have HB := hide (show befC ks a b = decide (keyC ks (b % 16) < keyC ks (a % 16)) from by unfold befC keyC; rw [Int.emod_emod_of_dvd a (by decide), Int.emod_emod_of_dvd b (by decide)])
  rw [HB.out]
  generalize keyC ks (a % 16) = ka at *
  generalize keyC ks (b % 16) = kb at *
  generalize a % 16 = xa at *
  generalize b % 16 = xb at *
  obtain ⟨na, rfl⟩ := Int.eq_ofNat_of_zero_le a0
  obtain ⟨nb, rfl⟩ := Int.eq_ofNat_of_zero_le b0
  simp only [Int.toNat_natCast] at ca cb
  clear h
  go_enter Try.func16, Try.ntmps16
  go_upto_region 1 with fail
  go_quiet (fail)
  go_wp2_with fail
  go_ret
  exact ⟨rfl, below_drewN (Below.refl _ _) _⟩
theorem lst_small {L : Cs} {b : Int} (h : BelowC b L) (g : GoodC L) (i : Int) : ∀ x ∈ lstC L i, 0 ≤ x ∧ x < b := by
  intro x hx
  unfold lstC at hx
  split at hx
  · rw [List.getD_eq_getElem?_getD] at hx
    cases hg : L[i.toNat]? with
    | none => rw [hg] at hx; cases hx
    | some l => rw [hg] at hx; exact ⟨g.pos l (List.mem_of_getElem? hg) x hx, h l (List.mem_of_getElem? hg) x hx⟩
  · cases hx
theorem lst_len {L : Cs} {b : Nat} (h : BelowC (b : Int) L) (g : GoodC L) (i : Int) : (lstC L i).length ≤ b := by
  unfold lstC
  split
  · rw [List.getD_eq_getElem?_getD]
    cases hg : L[i.toNat]? with
    | none => simp
    | some l => exact g.few h l (List.mem_of_getElem? hg)
  · simp
set_option maxHeartbeats 8000000 in
theorem rcsig_any {w : World} {D : Nat → Prop} {R : Nat} {L : Cs} (h : Rcd w D R L) (g : GoodC L) (hb : BelowC 16 L) (hn : L.length ≤ 1000) {K : Nat} {ks : List Int} (hk : KeysAt w K ks) (i : Int) :
    Calls Try.prog 17 #[.pointer (some ⟨R, 0, none⟩), .int .i64 i, .slice (some ⟨K, 0, none⟩) 16 16] w (SideO (fun w' D' => Rcd w' D' R (sigS ks L i)) D w (.tuple #[.int .i64 (sigX ks L i), .bool (sigB L i)])) := by
  have few : ∀ l ∈ L, l.length ≤ 100000 := fun l hl => by have := g.few (b := 16) hb l hl; omega
  have CL := hide (rclist_any h hn i)
  have small := lst_small hb g i
  have len := lst_len (b := 16) hb g i
  cases hl : lstC L i with
  | nil =>
    have B := hide (show sigB L i = false from by simp [sigB, hl])
    have X := hide (show sigX ks L i = -1 from by simp [sigX, hl, bestC])
    have FIN := hide (show SideO (fun w' D' => Rcd w' D' R (sigS ks L i)) D w (.tuple #[.int .i64 (-1), .bool false]) (.returned (.tuple #[.int .i64 (-1), .bool false])) w from ⟨rfl, D, by unfold sigS; rw [if_neg (by rw [B.out]; simp)]; exact h, Touch.refl _ _, fun i hi => .inl hi⟩)
    rw [B.out, X.out]
    rw [hl] at CL
    clear h few small len hl
    go_enter Try.func17, Try.ntmps17
    go_wp2_with (go_at_call 24; refine CL.out.mono ?_; rintro e w' ⟨v, rfl, rfl, ho⟩; obtain ⟨A, c, rfl, _⟩ := row_open ho.out.1; clear ho)
    refine bodyPost_ret (v := .tuple #[.int .i64 (-1), .bool false]) (by simp [results, Try.results17, go_sem]) rfl ?_
    exact FIN.out
  | cons x0 l =>
    have B := hide (show sigB L i = true from by simp [sigB, hl])
    have X := hide (show sigX ks L i = bestFrom ks x0 l from by simp [sigX, hl, bestC])
    have ES := hide (show sigS ks L i = canS L (bestFrom ks x0 l) from by unfold sigS; rw [if_pos B.out, X.out])
    rw [hl] at CL small len
    have HS := hide small
    have H := hide h
    have FEW := hide few
    have HK := hide hk
    rw [B.out, X.out, ES.out]
    obtain ⟨p, hp⟩ : ∃ p, p = l.length := ⟨_, rfl⟩
    have HP := hide hp
    have hp16 : p ≤ 15 := by rw [hp]; simpa using len
    have e1 : (x0 :: l).length = p + 1 := by simp [hp]
    rw [e1] at CL
    clear h few small len hl hk hp e1
    go_enter Try.func17, Try.ntmps17
    go_wp2_with fail
    go_at_call 24
    refine CL.out.mono ?_
    rintro e w' ⟨v, rfl, rfl, ho⟩
    obtain ⟨A, c, hv, hi, _⟩ := own_ints ho.out.1
    subst hv
    obtain ⟨b, off, rfl, hc⟩ := hi.2 (by omega)
    have C0 := hide hc
    have cx0 := hc 0 (by omega)
    simp only [List.getD_cons_zero, Nat.add_zero] at cx0
    have y1 : (0 : Int) < ((p + 1 : Nat) : Int) := by omega
    have y2 : ¬ (((p + 1 : Nat) : Int) = 0) := by omega
    obtain ⟨n, hN⟩ : ∃ n, n = p + 1 := ⟨_, rfl⟩
    have HN := hide hN
    rw [← hN] at y1 y2 ⊢
    have n17 : (n : Int) ≤ 16 := by omega
    clear hi hc ho CL hN
    go_wp2_with fail
    go_loopw [9, 10] (fun bv kv wr => ∃ q : Nat, q ≤ p ∧ bv = .int .i64 (bestFrom ks x0 (l.take q)) ∧ kv = .int .i64 ((q + 1 : Nat) : Int) ∧ Hid (Below w.heap.size w wr ∧ (0 ≤ bestFrom ks x0 (l.take q) ∧ bestFrom ks x0 (l.take q) < 16))) (fun _ kv _ => n - (intOf kv).toNat)
    case atStart => exact ⟨0, Nat.zero_le _, rfl, rfl, Below.refl _ _, HS.out x0 (List.mem_cons_self ..)⟩
    case round =>
      obtain ⟨q, hq, rfl, rfl, hY⟩ := hrel
      have B1 := hide hY.out.1
      have R1 := hide hY.out.2
      clear hY cx0
      by_cases hlt : q < p
      · have hq1 : q < l.length := by rw [← HP.out]; exact hlt
        have q1 : (((q + 1 : Nat)) : Int) < (n : Int) := by have := HN.out; omega
        have q0 : (0 : Int) ≤ (((q + 1 : Nat)) : Int) := by omega
        have cx1 := C0.out (q + 1) (by omega)
        rw [List.getD_cons_succ] at cx1
        have cx : wr.cell? ⟨b, off + (q + 1), none⟩ = some (.int .i64 (l.getD q 0)) := (B1.out.cell (lt_of_cell? cx1)).trans cx1
        have sx := HS.out (l.getD q 0) (by rw [List.getD_eq_getElem?_getD, List.getElem?_eq_getElem hq1]; exact List.mem_cons_of_mem _ (List.getElem_mem _))
        have NB := hide (show bestFrom ks x0 (l.take (q + 1)) = if befC ks (l.getD q 0) (bestFrom ks x0 (l.take q)) = true then l.getD q 0 else bestFrom ks x0 (l.take q) from by rw [take_succ_getD l q hq1, bestFrom_snoc])
        have KW := HK.out.below B1.out
        have ka := KW.key sx.1 sx.2
        have kb := KW.key R1.out.1 R1.out.2
        unfold befC at NB
        obtain ⟨r0, r1⟩ := R1.out
        obtain ⟨s0, s1⟩ := sx
        generalize bestFrom ks x0 (l.take q) = bb at *
        generalize l.getD q 0 = x at *
        generalize keyC ks x = kx at *
        generalize keyC ks bb = kbb at *
        obtain ⟨nx, rfl⟩ := Int.eq_ofNat_of_zero_le s0
        obtain ⟨nb, rfl⟩ := Int.eq_ofNat_of_zero_le r0
        simp only [Int.toNat_natCast] at ka kb
        obtain ⟨j, hj⟩ : ∃ j, j = q + 1 := ⟨_, rfl⟩
        have HJ := hide hj
        rw [← hj] at cx q1 q0 ⊢
        clear cx1 KW hq1 hj
        go_upto_region 8 with fail
        go_quiet (fail)
        by_cases hlt2 : kbb < kx
        · have E := hide (show bestFrom ks x0 (l.take (q + 1)) = (nx : Int) from by rw [NB.out, if_pos (by simpa using hlt2)])
          go_wp2_with fail
          go_roundw
          case rel => exact ⟨q + 1, by omega, by rw [E.out], by rw [HJ.out]; go_num, below_drewN B1.out _, by rw [E.out]; exact ⟨s0, s1⟩⟩
          case measure => have := HJ.out; have := HN.out; simp [intOf]; omega
        · have E := hide (show bestFrom ks x0 (l.take (q + 1)) = (nb : Int) from by rw [NB.out, if_neg (by simpa using hlt2)])
          go_wp2_with fail
          go_roundw
          case rel => exact ⟨q + 1, by omega, by rw [E.out], by rw [HJ.out]; go_num, below_drewN B1.out _, by rw [E.out]; exact ⟨r0, r1⟩⟩
          case measure => have := HJ.out; have := HN.out; simp [intOf]; omega
      · obtain rfl : q = p := by omega
        have e3 : l.take q = l := by rw [HP.out]; exact List.take_length
        rw [e3] at R1 ⊢
        have CC := hide (rccan_any (keepsRcd.below H.out B1.out) hn FEW.out (bestFrom ks x0 l))
        have hn2 : ((q + 1 : Nat) : Int) = (n : Int) := by have := HN.out; omega
        rw [hn2]
        have y3 : ¬ (n : Int) < (n : Int) := by omega
        clear e3 hn2
        go_wp2_with (go_at_call 19; refine CC.out.mono ?_; rintro e w9 hs; have HS9 := hide (SideO.later B1.out hs); obtain ⟨rfl, _⟩ := hs)
        refine bodyPost_ret (v := .tuple #[.int .i64 (bestFrom ks x0 l), .bool true]) (by simp [results, Try.results17, go_sem]) rfl ?_
        obtain ⟨_, D', p1, p2, p3⟩ := HS9.out
        exact ⟨rfl, D', p1, p2, p3⟩
end Go.Proofs.Ytmclifmdlcofaaa
