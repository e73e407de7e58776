/-
  The document's own conditions: Cancel.
-/
import Derived.Test.YtmclifmdlcofaaaCdRefB
namespace Go.Proofs.Ytmclifmdlcofaaa
open Go.ChangeShapes Go.WideShapes Go.ChangeAt Go.RowKit
set_option linter.unusedVariables false
set_option linter.unusedSimpArgs false
theorem RowsC.put {w w2 : World} {D : Nat → Prop} {R G : Nat} {vs : List Value} {L : Cs} (h : RowsC w D R G vs L) (b : Below w.heap.size w w2) {k : Nat} (hk : k < L.length) {v : Value} {l : List Int} (ho : w2.ownsRow w.heap.size 3 1 v l.length (l.map (Value.int .i64))) :
    SideO (fun w' D' => Rcd w' D' R (L.set k l)) D w (.tuple #[]) (.returned (.tuple #[])) (w2.setCell ⟨G, k, none⟩ v) := by
  have gl := h.lt _ h.dG
  have rl := h.lt _ h.dR
  have eG := (b.block G gl).trans h.hG
  have T1 : Touch (fun i => i = G) w2 (w2.setCell ⟨G, k, none⟩ v) := (Touch.refl (fun i => i = G) w2).setCell (p := ⟨G, k, none⟩) rfl v
  have T : Touch D w (w2.setCell ⟨G, k, none⟩ v) := (Touch.of_below b).setCell (p := ⟨G, k, none⟩) h.dG v
  have nb : ∀ g, v.ownBlock = some g → w.heap.size ≤ g ∧ g < w2.heap.size := fun g hg => ho.lt g hg
  refine ⟨rfl, fun i => D i ∨ v.ownBlock = some i, ⟨G, vs.set k v, .inl h.dR, .inl h.dG, h.ne, ?_, by simp [h.len], ?_, ?_, ?_⟩, T, ?_⟩
  · rintro i (hi | hi)
    · exact Nat.lt_of_lt_of_le (h.lt i hi) T.size
    · exact Nat.lt_of_lt_of_le (nb i hi).2 T1.size
  · rw [List.length_set, T1.block R (by have := b.size; omega) (fun e => h.ne e.symm), b.block R rl]; exact h.hR
  · rw [heap_setCell_same _ _ _ _ _ _ eG]; simp
  · intro i u m hu hm
    by_cases e : k = i
    · subst e
      rw [List.getElem?_set_self hk] at hm
      rw [List.getElem?_set_self (by rw [h.len]; exact hk)] at hu
      injection hu with hu
      injection hm with hm
      subst hu hm
      refine ⟨own_base (T1.own ho fun g hg e => ?_) (Nat.zero_le _), fun g hg => ⟨.inr hg, ?_, ?_⟩⟩ <;> · have := nb g hg; omega
    · rw [List.getElem?_set_ne e] at hu hm
      obtain ⟨o1, o2⟩ := h.row i u m hu hm
      refine ⟨T1.own ((Touch.of_below (S := fun _ => False) b).own o1 fun _ _ e => e) fun g hg e => (o2 g hg).2.2 e, fun g hg => ⟨.inl (o2 g hg).1, (o2 g hg).2⟩⟩
  · rintro i (hi | hi)
    · exact .inl hi
    · exact .inr (nb i hi).1
theorem filter_step {l : List Int} {j : Nat} (hj : j < l.length) (p : Int → Bool) : (l.take (j + 1)).filter p = (l.take j).filter p ++ (if p (l.getD j 0) = true then [l.getD j 0] else []) := by
  rw [take_succ_getD l j hj, List.filter_append]
  congr 1
  simp [List.filter]
  split <;> simp_all
theorem rowsC_frozen {w : World} {D : Nat → Prop} {R G : Nat} {vs : List Value} {L : Cs} (h : RowsC w D R G vs L) (j : Nat) : w.frozen? ⟨G, j, none⟩ = false := frozen_of_row _ _ _ _ _ h.hG
set_option maxHeartbeats 8000000 in
theorem rccan_any {w : World} {D : Nat → Prop} {R : Nat} {L : Cs} (h : Rcd w D R L) (hn : L.length ≤ 1000) (hl : ∀ l ∈ L, l.length ≤ 100000) (t : Int) :
    Calls Try.prog 19 #[.pointer (some ⟨R, 0, none⟩), .int .i64 t] w (SideO (fun w' D' => Rcd w' D' R (canS L t)) D w (.bool (canB L t))) := by
  have COF := hide (rcof_any h hn hl t)
  by_cases hb : 0 ≤ ofC L t
  case neg =>
    have B := hide (show canB L t = false from by simpa [canB] using hb)
    have n1 : ofC L t < 0 := by omega
    have FIN := hide (show SideO (fun w' D' => Rcd w' D' R (canS L t)) D w (.bool false) (.returned (.bool false)) w from ⟨rfl, D, by unfold canS; rw [if_neg (by rw [B.out]; simp)]; exact h, Touch.refl _ _, fun i hi => .inl hi⟩)
    rw [B.out]
    generalize ofC L t = x at *
    clear h hb
    go_enter Try.func19, Try.ntmps19
    go_wp2_with (go_at_call 22; refine COF.out.mono ?_; rintro e w' ⟨rfl, rfl⟩)
    go_ret
    exact FIN.out
  case pos =>
    have B := hide (show canB L t = true from by simpa [canB] using hb)
    obtain ⟨k, l, e1, e2, e3⟩ := ofC_in hb
    have ES := hide (show canS L t = L.set k (l.filter (fun x => decide (x ≠ t))) from by unfold canS; rw [if_pos B.out, e1, lstC_get e2]; simp)
    rw [B.out, ES.out]
    rw [e1] at COF
    have hk := (List.getElem?_eq_some_iff.1 e2).1
    have hlen := hl l (List.mem_of_getElem? e2)
    obtain ⟨G, vs, h⟩ := h
    have H := hide h
    have cR := h.cell
    obtain ⟨v, l', hl1, hv1, cG, ho⟩ := h.at_ hk
    rw [e2] at hl1
    injection hl1 with hl1
    subst hl1
    obtain ⟨A, c, rfl, hA, hc⟩ := row_open ho
    have HC := hide hc
    have E2 := hide e2
    obtain ⟨n, hN⟩ : ∃ n, n = L.length := ⟨_, rfl⟩
    obtain ⟨p, hp⟩ : ∃ p, p = l.length := ⟨_, rfl⟩
    have HN := hide hN
    have HP := hide hp
    rw [← hN] at cR hn hk
    rw [← hp] at cG hlen HC
    have CR := hide (fun (W : World) (bw : Below w.heap.size w W) => (show W.cell? ⟨R, 0, none⟩ = some (.slice (some ⟨G, 0, none⟩) n n) ∧ W.cell? ⟨G, k, none⟩ = some (.slice A p c) from ⟨(bw.cell (lt_of_cell? cR)).trans cR, (bw.cell (lt_of_cell? cG)).trans cG⟩))
    obtain ⟨i0, hi0, hz0, hz1, hz2⟩ := info_parts int_info
    have I0 := hide (And.intro hi0 (And.intro hz0 (And.intro hz1 hz2)))
    have k0 : (0 : Int) ≤ (k : Int) := by omega
    have k1 : (k : Int) < (n : Int) := by omega
    clear h hb hl ho hA hc e1 e2 e3 hv1 hi0 hz0 hz1 hz2 hN hp
    go_enter Try.func19, Try.ntmps19
    go_wp2_with (go_at_call 22; refine COF.out.mono ?_; rintro e w' ⟨rfl, rfl⟩)
    clear cR cG
    go_loopw [6, 7] (fun v iv wr => ∃ j : Nat, j ≤ p ∧ iv = .int .i64 (j : Int) ∧ Hid (wr.ownsRow w.heap.size 3 1 v ((l.take j).filter (fun x => decide (x ≠ t))).length (((l.take j).filter (fun x => decide (x ≠ t))).map (Value.int .i64)) ∧ Below w.heap.size w wr)) (fun _ iv _ => p - (intOf iv).toNat)
    case atStart => exact ⟨0, Nat.zero_le _, rfl, World.ownsRow_nil _ _ _ _, Below.refl _ _⟩
    case round =>
      obtain ⟨j, hj, rfl, hY⟩ := hrel
      have O1 := hide hY.out.1
      have B1 := hide hY.out.2
      clear hY
      obtain ⟨cR, cG⟩ := CR.out wr B1.out
      have SZ := hide B1.out.size
      by_cases hlt : j < p
      · have j0 : (0 : Int) ≤ (j : Int) := by omega
        have j1 : (j : Int) < (p : Int) := by omega
        obtain ⟨b, off, rfl, cx0⟩ := HC.out j hlt
        obtain ⟨x, hx⟩ : ∃ x, x = l.getD j 0 := ⟨_, rfl⟩
        have FS := hide (filter_step (l := l) (by rw [← HP.out]; exact hlt) (fun x => decide (x ≠ t)))
        have cx : wr.cell? ⟨b, off + j, none⟩ = some (.int .i64 x) := by rw [hx]; exact (B1.out.cell (lt_of_cell? cx0)).trans cx0
        have LE := hide (show ((l.take j).filter (fun x => decide (x ≠ t))).length ≤ j from Nat.le_trans (List.length_filter_le _ _) (by simp; omega))
        rw [← hx] at FS
        clear cx0 hx
        by_cases e : x = t
        · have e' : (x != t) = false := by simpa using e
          have E := hide e
          clear e
          go_wp2_with fail
          go_roundw
          case rel =>
            refine ⟨j + 1, by omega, by go_num, ?_, B1.out⟩
            rw [FS.out, if_neg (by simpa using E.out), List.append_nil]; exact O1.out
          case measure => simp [intOf]; omega
        · have e' : (x != t) = true := by simpa using e
          have E := hide e
          clear e
          go_wp2_with (at_builtin; refine wpList_append_src rfl (.tmp 37) (.tmp 48) _ rfl w.heap.size 3 i0 _ 8 Try.underlying44 I0.out.1 I0.out.2.1 I0.out.2.2.1 I0.out.2.2.2 rfl _ _ _ rfl (O1.out.alloc _) .i64 _ 1 _ [x] rfl (ints_cell1 _ _ _ _ _ rfl) (fun h => by cases h) (by have := LE.out; unfold maxLen; omega) (by have := LE.out; omega) (by have := SZ.out; simp; omega) ?_; intro v' w' o' g' t'; have O2 := hide o'; have B2 := hide ((B1.out.alloc SZ.out _).grown g' (by have := SZ.out; simp; omega) (own_lo O1.out)); clear o' g' t')
          go_roundw
          case rel =>
            refine ⟨j + 1, by omega, by go_num, ?_, B2.out⟩
            rw [FS.out, if_pos (by simpa using E.out), List.length_append, List.map_append]; exact O2.out
          case measure => simp [intOf]; omega
      · obtain rfl : j = p := by omega
        have e1 : l.take j = l := by rw [HP.out]; exact List.take_length
        rw [e1] at O1
        obtain ⟨A2, c2, rfl, _⟩ := row_open O1.out
        have P := hide (H.out.put B1.out (by rw [← HN.out]; exact hk) O1.out)
        have fz : wr.frozen? ⟨G, k, none⟩ = false := by
          have := (B1.out.block G (H.out.lt _ H.out.dG)).trans H.out.hG
          exact frozen_of_row _ _ _ _ _ this
        generalize (l.filter (fun x => decide (x ≠ t))).length = q at *
        clear e1
        go_wp2_with fail
        go_ret
        obtain ⟨_, D', p1, p2, p3⟩ := P.out
        exact ⟨rfl, D', p1, p2, p3⟩
end Go.Proofs.Ytmclifmdlcofaaa
