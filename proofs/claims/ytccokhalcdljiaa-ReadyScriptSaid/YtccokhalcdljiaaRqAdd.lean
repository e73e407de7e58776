/-
  The document's own queue: Add of a number that may be there, Change.
-/
import Derived.Test.YtccokhalcdljiaaRqAhead
namespace Go.Proofs.Ytccokhalcdljiaa
open Go.ChangeShapes Go.WideShapes Go.ChangeAt Go.RowKit
set_option linter.unusedVariables false
/-- What has been put together behind k rounds. -/
def prq (l : List Rt) (p k : Nat) (u : Rt) : List Rt := if p < k then l.take p ++ u :: (l.take k).drop p else l.take k
theorem prq_lo {l : List Rt} {p k : Nat} (u : Rt) (h : k < p) (hl : k < l.length) : prq l p (k + 1) u = prq l p k u ++ [l[k]] := by
  unfold prq
  rw [if_neg (by omega), if_neg (by omega), List.take_succ_eq_append_getElem hl]
theorem prq_at {l : List Rt} {p : Nat} (u : Rt) (hl : p < l.length) : prq l p (p + 1) u = (prq l p p u ++ [u]) ++ [l[p]] := by
  unfold prq
  rw [if_pos (by omega), if_neg (by omega), List.take_succ_eq_append_getElem hl, List.drop_append, List.drop_eq_nil_of_le (by simp; omega)]
  have : p - (l.take p).length = 0 := by simp; omega
  rw [this]
  simp
theorem prq_hi {l : List Rt} {p k : Nat} (u : Rt) (h : p < k) (hl : k < l.length) : prq l p (k + 1) u = prq l p k u ++ [l[k]] := by
  unfold prq
  rw [if_pos (by omega), if_pos h, List.take_succ_eq_append_getElem hl, List.drop_append]
  have : p - (l.take k).length = 0 := by simp; omega
  rw [this]
  simp
theorem prq_end {l : List Rt} {p : Nat} (u : Rt) (h : p < l.length) : prq l p l.length u = l.take p ++ u :: l.drop p := by
  unfold prq
  rw [if_pos h, List.take_length]
theorem prq_last {l : List Rt} (u : Rt) : prq l l.length l.length u ++ [u] = l.take l.length ++ u :: l.drop l.length := by
  unfold prq
  rw [if_neg (by omega)]
  simp
theorem cells_rt (w : World) (a b c d : Value) (t : TypeId) (X : Nat) (hX : X = w.heap.size) : ∀ j v, [a, b, c, d][j]? = some v → (w.alloc (.cells #[a, b, c, d] t)).cell? ((⟨X, 0, none⟩ : Addr).add j) = some v := by
  intro j v hv
  subst hX
  rw [addr_add, Nat.zero_add, World.cell?_alloc_at _ _ _ _ rfl, ← hv]
  show [a, b, c, d].toArray[j]? = _
  simp
set_option maxRecDepth 10000 in
set_option maxHeartbeats 16000000 in
theorem rqadd_ok {w : World} {G : Nat → Prop} {S : Nat} {l : List Rt} (h : Rq w G S l) (id c lv d : Int) (hid : (Lit.int .i64 id).wf = true) (hp : PrWf ⟨c, lv, d⟩) (he : addE l id ⟨c, lv, d⟩ = 0) (hfew : l.length < 1000) :
    Calls Try.prog 11 #[.pointer (some ⟨S, 0, none⟩), .int .i64 id, .agg #[.int .i64 c, .int .i64 lv, .int .i64 d]] w fun e w' => e = .returned (.int .i64 0) ∧ ∃ G', Rq w' G' S (addR l id ⟨c, lv, d⟩) ∧ Touch G w w' ∧ ∀ i, G' i → G i ∨ w.heap.size ≤ i := by
  obtain ⟨q1, q2, q3⟩ := addE_zero he
  have hgood := good_add h.good hid hp
  have hS : addR l id ⟨c, lv, d⟩ = insR l ⟨id.toNat, ⟨c, lv, d⟩⟩ := by unfold addR; rw [if_pos he]
  rw [hS] at hgood ⊢
  clear hS he
  obtain ⟨n, rfl⟩ := Int.eq_ofNat_of_zero_le q1
  rw [Int.toNat_natCast] at hgood ⊢
  have hpos : posR l (n : Int) = -1 := by
    rcases posR_cases l (n : Int) with ⟨i, hi, _, _, e3, e4⟩ | ⟨_, e3, e4⟩
    · rw [q3] at e4; cases e4
    · exact e3
  obtain ⟨x, hx⟩ : ∃ x : Rt, x = ⟨n, ⟨c, lv, d⟩⟩ := ⟨_, rfl⟩
  have hxi : x.id = n := by rw [hx]
  have hxc : x.p.c = c := by rw [hx]
  have hxl : x.p.l = lv := by rw [hx]
  have hxd : x.p.d = d := by rw [hx]
  rw [← hx] at hgood ⊢
  subst hxi hxc hxl hxd
  obtain ⟨p, hpp⟩ : ∃ p, p = plcR l x := ⟨_, rfl⟩
  have HLO := hide (show ∀ j (hj : j < l.length), j < p → aheadR x l[j] = false from fun j hj h => plcR_lo hj (by rw [← hpp]; exact h))
  have HAT := hide (show ∀ j (hj : j < l.length), p = j → aheadR x l[j] = true from fun j hj h => by subst h; subst hpp; exact plcR_at hj)
  have hins : insR l x = l.take p ++ x :: l.drop p := by rw [hpp]; rfl
  have hp := plcR_le l x
  rw [← hpp] at hp
  have HIN := hide hins
  rw [hins] at hgood ⊢
  have GD := hide hgood
  obtain ⟨w1, hw1⟩ : ∃ w1, w1 = w.alloc (.cells #[.int .i64 x.p.c, .int .i64 x.p.l, .int .i64 x.p.d] 31) := ⟨_, rfl⟩
  have B1 := hide (show Below w.heap.size w w1 from by rw [hw1]; exact (Below.refl w.heap.size w).alloc (Nat.le_refl _) _)
  have P1 := hide (show PrAt w1 w.heap.size x.p.c x.p.l x.p.d from by rw [hw1]; exact prAt_new w x.p.c x.p.l x.p.d)
  have H1 := hide (h.below B1.out)
  obtain ⟨a0, a1, a2⟩ := P1.out.cells
  obtain ⟨X, hX⟩ : ∃ X, X = w.heap.size := ⟨_, rfl⟩
  rw [← hX] at P1 a0 a1 a2
  have HX := hide hX
  have HW := hide hw1
  have M := hide (fun W => by have := rmay_any W x.p.c x.p.l x.p.d; rw [show mayP ⟨x.p.c, x.p.l, x.p.d⟩ = true from q2] at this; exact this)
  have AT := hide (fun (W : World) (hW : Rq W G S l) => by have := rqat_any hW (x.id : Int); rw [hpos] at this; exact this)
  have n1 : ¬ (x.id : Int) < 0 := by omega
  have HH := hide h
  obtain ⟨aa, cc, s1, hrow⟩ := h.row
  have HR := hide hrow
  have few := h.few
  have LS := hide (h.lt S h.gS)
  obtain ⟨i0, hi0, hz0, hz1, hz2⟩ := info_parts oneq_info
  have HZ := hide hz2
  clear h hrow hz2 hgood hins hpp q1 q2 q3 hid hpos hX hw1 hx
  go_enter Try.func11, Try.ntmps11
  go_upto_region 1 with fail
  rw [← HW.out, ← HX.out]
  go_upto_region 6 with (first
    | (go_at_call 29; refine (M.out _).mono ?_; rintro e w2 ⟨rfl, b2⟩; have B2 := hide (B1.out.trans (b2.mono B1.out.size)); have H2 := hide (H1.out.below b2); obtain ⟨e0, e1, e2⟩ := (P1.out.below b2).cells; clear b2)
    | (go_at_call 30; refine (AT.out _ H2.out).mono ?_; rintro e w' ⟨rfl, rfl⟩))
  obtain ⟨Z, hZ⟩ : ∃ Z, Z = w2.heap.size := ⟨_, rfl⟩
  obtain ⟨W, hW⟩ : ∃ W, W = w2.alloc (.cells #[.int .i64 (x.id : Int), .int .i64 x.p.c, .int .i64 x.p.l, .int .i64 x.p.d] 71) := ⟨_, rfl⟩
  have b3 : Below w2.heap.size w2 W := by rw [hW]; exact (Below.refl _ _).alloc (Nat.le_refl _) _
  have B3 := hide (B2.out.trans (b3.mono B2.out.size))
  have H3 := hide (H2.out.below b3)
  have Z3 := hide (show RtAt W Z x from by rw [hW, hZ]; exact rtAt_new w2 x)
  rw [← hW, ← hZ]
  clear b3 hZ hW e0 e1 e2 H2 B2 a0 a1 a2 P1 HX HW H1 B1 s1 HR
  obtain ⟨aa, cc, s1, hrow⟩ := H3.out.row
  have HR := hide hrow
  have LS3 := hide (H3.out.lt S H3.out.gS)
  have O0 := hide (show W.ownsRow W.heap.size 71 4 (.slice none 0 0) (prq l p 0 x).length (cellsRts (prq l p 0 x)) by unfold prq; rw [if_neg (by omega)]; exact World.ownsRow_nil _ _ _ _)
  clear hrow
  go_wp2_with fail
  go_loopw [10, 9, 8] (fun i b v wr => ∃ (k : Nat), k ≤ l.length ∧ i = .int .i64 (k : Int) ∧ b = .bool (decide (p < k)) ∧ Hid (Below W.heap.size W wr ∧ wr.ownsRow W.heap.size 71 4 v (prq l p k x).length (cellsRts (prq l p k x)))) (fun i _ _ _ => l.length - (intOf i).toNat)
  case atStart => exact ⟨0, Nat.zero_le _, rfl, by simp, Below.refl _ _, O0.out⟩
  case round =>
    clear O0
    obtain ⟨k, hk, rfl, rfl, hL⟩ := hrel
    have plen : (prq l p k x).length ≤ 1001 := by unfold prq; split <;> simp <;> omega
    have r1 := (hL.out.1.cell (p := ⟨S, 0, none⟩) LS3.out).trans s1
    by_cases hkl : k < l.length
    · obtain ⟨g, rfl, c0, c1, c2, c3⟩ := HR.out k hkl
      have lg : g < W.heap.size := lt_of_cell? c0
      have k0 : (0 : Int) ≤ (k : Int) := by omega
      have k1 : (k : Int) < (l.length : Int) := by omega
      obtain ⟨u, hu⟩ : ∃ u, u = l[k]'(by omega) := ⟨_, rfl⟩
      rw [← hu] at c0 c1 c2 c3
      have EE := hide (show ∀ V : World, Below W.heap.size W V → V.cell? ⟨S, 0, none⟩ = some (.slice (some ⟨g, 0, none⟩) l.length cc) ∧ (V.cell? ⟨g, k * 4, none⟩ = some (.int .i64 (u.id : Int)) ∧ V.cell? ⟨g, k * 4 + 1, none⟩ = some (.int .i64 u.p.c) ∧ V.cell? ⟨g, k * 4 + 2, none⟩ = some (.int .i64 u.p.l) ∧ V.cell? ⟨g, k * 4 + 3, none⟩ = some (.int .i64 u.p.d)) ∧ (V.cell? ⟨Z, 0, none⟩ = some (.int .i64 (x.id : Int)) ∧ V.cell? ⟨Z, 1, none⟩ = some (.int .i64 x.p.c) ∧ V.cell? ⟨Z, 2, none⟩ = some (.int .i64 x.p.l) ∧ V.cell? ⟨Z, 3, none⟩ = some (.int .i64 x.p.d)) from fun V hV =>
        ⟨(hV.cell (p := ⟨S, 0, none⟩) LS3.out).trans s1, ⟨(hV.cell (p := ⟨g, k * 4, none⟩) lg).trans c0, (hV.cell (p := ⟨g, k * 4 + 1, none⟩) lg).trans c1, (hV.cell (p := ⟨g, k * 4 + 2, none⟩) lg).trans c2, (hV.cell (p := ⟨g, k * 4 + 3, none⟩) lg).trans c3⟩, (Z3.out.below hV).cells⟩)
      clear c0 c1 c2 c3
      have PEH := hide (show p < k → prq l p (k + 1) x = prq l p k x ++ [u] from fun h => by rw [prq_hi _ h hkl, hu])
      have PEL := hide (show k < p → prq l p (k + 1) x = prq l p k x ++ [u] from fun h => by rw [prq_lo _ h hkl, hu])
      have PEA := hide (show p = k → prq l p (k + 1) x = (prq l p k x ++ [x]) ++ [u] from fun h => by subst h; rw [prq_at _ hkl, hu])
      have FL := hide (show k < p → aheadR x u = false from fun h => by rw [hu]; exact HLO.out k hkl h)
      have FH := hide (show p = k → aheadR x u = true from fun h => by rw [hu]; exact HAT.out k hkl h)
      clear hu
      have m1 := EE.out wr hL.out.1
      by_cases hkp : p < k
      · have hdp : decide (p < k) = true := decide_eq_true hkp
        have hdp1 : decide (p < k + 1) = true := decide_eq_true (by omega)
        rw [hdp] at *
        have L0 := hide hL.out
        clear hL
        go_upto_region 11 with fail
        go_quiet (fail)
        have B4 := hide (L0.out.1.trans (below_drewN ((Below.refl wr.heap.size wr).mono L0.out.1.size) nq))
        have O4 := hide ((Touch.of_below (S := fun _ => False) (below_drewN (Below.refl _ wr) nq)).own L0.out.2 (fun _ _ e => e))
        clear m1 r1
        generalize wr.drewN nq = w4 at *
        obtain ⟨m0, ⟨m1, m2, m3, m4⟩, m5⟩ := EE.out w4 B4.out
        go_wp2_with (at_builtin; refine wpList_append_own_at _ rfl (.tmp 51) (.tmp 59) _ rfl W.heap.size 71 i0 _ 4 32 Try.underlying27 hi0 hz0 hz1 HZ.out rfl (by omega) _ _ _ rfl (O4.out.alloc _) ⟨w4.heap.size, 0, none⟩ 1 1 (cellsRt u) rfl rfl (cells_rt w4 _ _ _ _ _ _ rfl) (cellsRt_cell _) (by unfold maxLen; omega) (by omega) (by have := B4.out.size; simp; omega) ?_; intro v8 w8 o8 g8 _ t8; have O8 := hide o8; have B8 := hide ((B4.out.alloc B4.out.size _).grown g8 (by have := B4.out.size; simp; omega) (fun k hk => (O4.out.lt k hk).1));  clear o8 g8 t8)
        go_roundw
        case rel => exact ⟨k + 1, by omega, by go_num, by rw [hdp1], B8.out, by rw [PEH.out hkp, cellsRts_append, cellsRts_one, List.length_append]; exact O8.out⟩
        case measure => simp [intOf]; omega
      · have hdp : decide (p < k) = false := decide_eq_false hkp
        rw [hdp] at *
        have L0 := hide hL.out
        clear hL
        obtain ⟨t, ht⟩ : ∃ t, t = aheadR x u := ⟨_, rfl⟩
        have AH := hide (fun V => by have := rqahead_any V x u; rw [← ht] at this; exact this)
        have HT := hide ht
        clear ht
        go_upto_region 11 with fail
        go_region_held3 (fun w' => w'.cell? ⟨S, 0, none⟩ = some (.slice (some ⟨g, 0, none⟩) l.length cc) ∧ (w'.cell? ⟨g, k * 4, none⟩ = some (.int .i64 (u.id : Int)) ∧ w'.cell? ⟨g, k * 4 + 1, none⟩ = some (.int .i64 u.p.c) ∧ w'.cell? ⟨g, k * 4 + 2, none⟩ = some (.int .i64 u.p.l) ∧ w'.cell? ⟨g, k * 4 + 3, none⟩ = some (.int .i64 u.p.d)) ∧ (w'.cell? ⟨Z, 0, none⟩ = some (.int .i64 (x.id : Int)) ∧ w'.cell? ⟨Z, 1, none⟩ = some (.int .i64 x.p.c) ∧ w'.cell? ⟨Z, 2, none⟩ = some (.int .i64 x.p.l) ∧ w'.cell? ⟨Z, 3, none⟩ = some (.int .i64 x.p.d))) (first | exact m1 | exact m9) ((go_at_call 31; refine (AH.out _).mono ?_; rintro e w4 ⟨rfl, b4⟩; have B4 := hide (L0.out.1.trans (((below_drewN (Below.refl wr.heap.size wr) 1).trans b4).mono L0.out.1.size)); have O4 := hide ((Touch.of_below (S := fun _ => False) ((below_drewN (Below.refl wr.heap.size wr) 1).trans b4)).own L0.out.2 (fun _ _ e => e)); have m9 := EE.out w4 B4.out; clear b4))
        clear m1 r1
        obtain ⟨m0, ⟨m1, m2, m3, m4⟩, m5, m6, m7, m8⟩ := m9
        by_cases hkp2 : p = k
        · have hdp1 : decide (p < k + 1) = true := decide_eq_true (by omega)
          obtain rfl : t = true := HT.out.trans (FH.out hkp2)
          go_wp2_with (first
            | (at_builtin; refine wpList_append_own_at _ rfl (.tmp 47) (.tmp 49) _ rfl W.heap.size 71 i0 _ 4 32 Try.underlying27 hi0 hz0 hz1 HZ.out rfl (by omega) _ _ _ rfl (O4.out.alloc _) ⟨w4.heap.size, 0, none⟩ 1 1 (cellsRt x) rfl rfl (cells_rt w4 _ _ _ _ _ _ rfl) (cellsRt_cell _) (by unfold maxLen; omega) (by omega) (by have := B4.out.size; simp; omega) ?_; intro v7 w7 o7 g7 _ t7; have O7 := hide o7; have B7 := hide ((B4.out.alloc B4.out.size _).grown g7 (by have := B4.out.size; simp; omega) (fun k hk => (O4.out.lt k hk).1)); obtain ⟨y0, ⟨y1, y2, y3, y4⟩, _⟩ := EE.out w7 B7.out; have pl7 : (prq l p k x).length + 1 ≤ 1002 := (by omega); clear o7 g7 t7)
            | (at_builtin; refine wpList_append_own_at _ rfl (.tmp 51) (.tmp 59) _ rfl W.heap.size 71 i0 _ 4 32 Try.underlying27 hi0 hz0 hz1 HZ.out rfl (by omega) _ _ _ rfl (O7.out.alloc _) ⟨w7.heap.size, 0, none⟩ 1 1 (cellsRt u) rfl rfl (cells_rt w7 _ _ _ _ _ _ rfl) (cellsRt_cell _) (by unfold maxLen; omega) (by omega) (by have := B7.out.size; simp; omega) ?_; intro v8 w8 o8 g8 _ t8; have O8 := hide o8; have B8 := hide ((B7.out.alloc B7.out.size _).grown g8 (by have := B7.out.size; simp; omega) (fun k hk => (O7.out.lt k hk).1));  clear o8 g8 t8))
          go_roundw
          case rel => exact ⟨k + 1, by omega, by go_num, by rw [hdp1], B8.out, by rw [PEA.out hkp2, cellsRts_append, cellsRts_append, cellsRts_one, cellsRts_one, List.length_append, List.length_append]; exact O8.out⟩
          case measure => simp [intOf]; omega
        · have hkp3 : k < p := by omega
          have hdp1 : decide (p < k + 1) = false := decide_eq_false (by omega)
          obtain rfl : t = false := HT.out.trans (FL.out hkp3)
          go_wp2_with (at_builtin; refine wpList_append_own_at _ rfl (.tmp 51) (.tmp 59) _ rfl W.heap.size 71 i0 _ 4 32 Try.underlying27 hi0 hz0 hz1 HZ.out rfl (by omega) _ _ _ rfl (O4.out.alloc _) ⟨w4.heap.size, 0, none⟩ 1 1 (cellsRt u) rfl rfl (cells_rt w4 _ _ _ _ _ _ rfl) (cellsRt_cell _) (by unfold maxLen; omega) (by omega) (by have := B4.out.size; simp; omega) ?_; intro v8 w8 o8 g8 _ t8; have O8 := hide o8; have B8 := hide ((B4.out.alloc B4.out.size _).grown g8 (by have := B4.out.size; simp; omega) (fun k hk => (O4.out.lt k hk).1));  clear o8 g8 t8)
          go_roundw
          case rel => exact ⟨k + 1, by omega, by go_num, by rw [hdp1], B8.out, by rw [PEL.out hkp3, cellsRts_append, cellsRts_one, List.length_append]; exact O8.out⟩
          case measure => simp [intOf]; omega
    · obtain rfl : k = l.length := by omega
      have HE := hide (show ∀ (V : World), Below W.heap.size W V → V.heap[S]? = some (.cells #[.slice aa l.length cc] 29 (0, 0)) ∧ V.cell? ⟨S, 0, none⟩ = some (.slice aa l.length cc) ∧ V.frozen? ⟨S, 0, none⟩ = false from fun V hb => by
        obtain ⟨a', c', e, _⟩ := H3.out.mem
        have e2 := s1
        rw [cell_of_row _ _ _ _ _ _ e] at e2
        injection e2 with e2
        have e3 : V.heap[S]? = some (.cells #[.slice aa l.length cc] 29 (0, 0)) := by rw [← e2]; exact (hb.block S LS3.out).trans e
        exact ⟨e3, by rw [cell_of_row _ _ _ _ _ _ e3]; rfl, frozen_of_row _ _ _ _ _ e3⟩)
      have FIN := hide (show ∀ (V : World) (A : Option Addr) (c8 N : Nat), Below W.heap.size W V → V.ownsRow W.heap.size 71 4 (.slice A N c8) N (cellsRts (l.take p ++ x :: l.drop p)) → N = l.length + 1 →
          ∃ G', Rq (V.setCell ⟨S, 0, none⟩ (.slice A N c8)) G' S (l.take p ++ x :: l.drop p) ∧ Touch G w (V.setCell ⟨S, 0, none⟩ (.slice A N c8)) ∧ ∀ i, G' i → G i ∨ w.heap.size ≤ i from fun V A c8 N hb ho hN => by
        have hlen : (l.take p ++ x :: l.drop p).length = N := by rw [← HIN.out, insR_len]; exact hN.symm
        obtain ⟨G', h1, h2, h3⟩ := rq_end H3.out GD.out (by omega) (Touch.of_below hb) (HE.out V hb).1 ho hlen
        exact ⟨G', h1, (Touch.of_below B3.out).trans h2 (fun i e => .inl e), fun i hi => (h3 i hi).imp id (fun e => Nat.le_trans B3.out.size e)⟩)
      obtain ⟨f1, f2, f3⟩ := HE.out _ hL.out.1
      by_cases hpl : p < l.length
      · have hdp : decide (p < l.length) = true := decide_eq_true hpl
        rw [hdp]
        have O := hide hL.out.2
        rw [prq_end _ hpl, ← HIN.out, insR_len, HIN.out] at O
        obtain ⟨A8, c8, rfl, _⟩ := own_sliceQ O.out
        clear f1
        go_wp2_with fail
        go_ret
        exact ⟨rfl, FIN.out _ _ _ _ hL.out.1 O.out rfl⟩
      · obtain rfl : p = l.length := by omega
        have hdp : decide (l.length < l.length) = false := decide_eq_false (by omega)
        rw [hdp]
        have O := hide hL.out.2
        have BL := hide hL.out.1
        obtain ⟨z0, z1, z2, z3⟩ := (Z3.out.below hL.out.1).cells
        clear f1 f2 f3 hL
        have pe : prq l l.length l.length x = l := by unfold prq; rw [if_neg (by omega), List.take_length]
        rw [pe] at O
        clear pe plen
        go_wp2_with (at_builtin; refine wpList_append_own_at _ rfl (.tmp 63) (.tmp 65) _ rfl W.heap.size 71 i0 _ 4 32 Try.underlying27 hi0 hz0 hz1 HZ.out rfl (by omega) _ _ _ rfl (O.out.alloc _) ⟨wr.heap.size, 0, none⟩ 1 1 (cellsRt x) rfl rfl (cells_rt wr _ _ _ _ _ _ rfl) (cellsRt_cell _) (by unfold maxLen; omega) (by omega) (by have := BL.out.size; simp; omega) ?_; intro v8 w8 o8 g8 _ t8; have O8 := hide o8; have B8 := hide ((BL.out.alloc BL.out.size _).grown g8 (by have := BL.out.size; simp; omega) (fun k hk => (O.out.lt k hk).1)); obtain ⟨A8, c8, rfl, _⟩ := own_sliceQ O8.out; obtain ⟨_, f2, f3⟩ := HE.out _ B8.out; clear o8 g8 t8)
        go_ret
        exact ⟨rfl, FIN.out _ _ _ _ B8.out (by rw [List.take_length, List.drop_length, cellsRts_append, cellsRts_one]; exact O8.out) rfl⟩
end Go.Proofs.Ytccokhalcdljiaa
