/-
  The program's Cancel.
-/
import Derived.Test.YtmclifmdlcofaaaCnMem
namespace Go.Proofs.Ytmclifmdlcofaaa
open Go.ChangeShapes Go.WideShapes Go.ChangeAt Go.RowKit
set_option linter.unusedVariables false
set_option linter.unusedSimpArgs false
theorem erase_filter {l : List Int} (h : l.Pairwise (· < ·)) {t : Int} (ht : t ∈ l) : (l.countP fun x => decide (x < t)) < l.length ∧ l.eraseIdx (l.countP fun x => decide (x < t)) = l.filter (fun x => decide (x ≠ t)) := by
  induction l with
  | nil => cases ht
  | cons x l ih =>
    rw [List.pairwise_cons] at h
    by_cases e : x = t
    · subst e
      have h0 : (l.countP fun y => decide (y < x)) = 0 := by
        rw [List.countP_eq_zero]; intro y hy; have := h.1 y hy; simp; omega
      have h1 : l.filter (fun y => decide (y ≠ x)) = l := by
        rw [List.filter_eq_self]; intro y hy; have := h.1 y hy; simp; omega
      rw [List.countP_cons, h0, if_neg (by simp), List.filter_cons, if_neg (by simp), h1]
      exact ⟨by simp, rfl⟩
    · have hm : t ∈ l := by rcases List.mem_cons.1 ht with h2 | h2; exact absurd h2.symm e; exact h2
      have hx : x < t := h.1 t hm
      obtain ⟨i1, i2⟩ := ih h.2 hm
      rw [List.countP_cons, if_pos (by simpa using hx), List.filter_cons, if_pos (by simpa using e), List.eraseIdx_cons_succ, i2]
      exact ⟨by simp; omega, rfl⟩
section
variable {w : World} {U : Nat → Prop} {S R : Nat} {L : Cs} {vs : List Value}
set_option maxRecDepth 10000 in
set_option maxHeartbeats 4000000 in
theorem can_any (h : Cn w U S L R vs) (hf : FewC L) (t : Int) :
    Calls Try.prog 18 #[.pointer (some ⟨S, 0, none⟩), .int .i64 t] w (SideO (fun w' U' => PCn w' U' S (canS L t)) U w (.bool (canB L t))) := by
  have FD := hide (find_any h hf t)
  by_cases h0 : 0 ≤ ofC L t
  · obtain ⟨k, l, e1, e2, e3⟩ := ofC_in h0
    have hk : k < L.length := (List.getElem?_eq_some_iff.1 e2).1
    have hc : canB L t = true := by unfold canB; exact decide_eq_true h0
    have hS : canS L t = L.set k (l.filter (fun x => decide (x ≠ t))) := by unfold canS; rw [if_pos hc, e1, lstC_get e2]; rfl
    have hg : GoodC (L.set k (l.filter (fun x => decide (x ≠ t)))) := by rw [← hS]; exact h.good.cancel t
    obtain ⟨l', v, f1, f2, f3⟩ := h.at_ hk
    rw [e2] at f1; injection f1 with f1; subst f1
    have hrise := h.good.rise l (List.mem_of_getElem? e2)
    obtain ⟨p1, p2⟩ := erase_filter hrise e3
    have hp : plcC L t = ((l.countP fun x => decide (x < t) : Nat) : Int) := by unfold plcC; rw [if_pos h0, e1, lstC_get e2]
    rw [e1, hp] at FD
    obtain ⟨p, hpp⟩ : ∃ p, p = l.countP fun x => decide (x < t) := ⟨_, rfl⟩
    rw [← hpp] at FD p1 p2
    have hl6 : l.length ≤ 1000000 := by have := hf l (List.mem_of_getElem? e2); omega
    obtain ⟨g, c, rfl⟩ : ∃ g c, v = .slice (some ⟨g, 0, none⟩) l.length c := by
      rcases f3.2 with ⟨rfl, h0⟩ | ⟨g, c, cur, rfl, _⟩
      · omega
      · exact ⟨g, c, rfl⟩
    have fl : (l.eraseIdx p).length = l.length - 1 := List.length_eraseIdx_of_lt p1
    have n4 := h.hi
    obtain ⟨n, hn⟩ : ∃ n, n = L.length := ⟨_, rfl⟩
    obtain ⟨m, hm⟩ : ∃ m, m = l.length := ⟨_, rfl⟩
    have HH := hide h
    have HN := hide hn
    have HM := hide hm
    have DL := hide (show ∀ X, Below w.heap.size w X → Calls Try.prog 31 #[.slice (some ⟨g, 0, none⟩) m c, .int .i64 (p : Int), .int .i64 ((p + 1 : Nat) : Int)] X fun e w' =>
        e = .returned (.slice (some ⟨g, 0, none⟩) (m - 1) c) ∧ w'.cell? ⟨S, 0, none⟩ = some (.slice (some ⟨R, 0, none⟩) n n) ∧ w'.cell? ⟨R, k, none⟩ = some (.slice (some ⟨g, 0, none⟩) m c) ∧ w'.frozen? ⟨R, k, none⟩ = false ∧
        Hid (∃ U', PCn (w'.setCell ⟨R, k, none⟩ (.slice (some ⟨g, 0, none⟩) (m - 1) c)) U' S (canS L t) ∧ Touch U w (w'.setCell ⟨R, k, none⟩ (.slice (some ⟨g, 0, none⟩) (m - 1) c)) ∧ ∀ i, U' i → U i ∨ w.heap.size ≤ i) from fun X b => by
      have hX := HH.out.below b
      rw [HM.out, HN.out]
      refine (del_any (hX.row k l _ e2 f2) hl6 p1).mono ?_
      rintro e w' ⟨rfl, k2, k3⟩
      have hne := HH.out.ns k _ g f2 rfl
      refine ⟨rfl, ?_, ?_, ?_, ?_⟩
      · exact k3.cell hX.cS (fun e => hne.1 e.symm)
      · exact k3.cell (hX.cR f2).1 (fun e => hne.2 e.symm)
      · exact frozen_of_row _ _ _ _ _ ((k3.block R (lt_of_heap hX.hR) (fun e => hne.2 e.symm)).trans hX.hR)
      · have ho : w'.ownsRow 0 3 1 (.slice (some ⟨g, 0, none⟩) (l.length - 1) c) (l.eraseIdx p).length ((l.eraseIdx p).map (Value.int .i64)) := by rw [fl]; exact k2
        rw [hS, ← p2]
        obtain ⟨U', q1, q2, q3⟩ := hX.put f2 (touch_row k3) ho (fun g' e => .inl e) (by rw [p2]; exact hg)
        exact ⟨U', q1, (Touch.of_below b).trans q2 (fun i e => .inl e), fun i hi => (q3 i hi).imp id fun e => Nat.le_trans b.size e⟩)
    have p3 : (p : Int) + 1 = ((p + 1 : Nat) : Int) := by omega
    have wP : IntKind.i64.wrap ((p : Int) + 1) = ((p + 1 : Nat) : Int) := by rw [← p3]; exact IntWalk.i64_in _ (by omega)
    have CR := hide (show ∀ Y, Below w.heap.size w Y → Y.cell? ⟨S, 0, none⟩ = some (.slice (some ⟨R, 0, none⟩) n n) ∧ Y.cell? ⟨R, k, none⟩ = some (.slice (some ⟨g, 0, none⟩) m c) from fun Y b => by
      have hY := HH.out.below b
      exact ⟨by rw [HN.out]; exact hY.cS, by rw [HM.out]; exact (hY.cR f2).1⟩)
    have k0 : (0 : Int) ≤ (k : Int) := by omega
    have k1 : (k : Int) < (n : Int) := by rw [hn]; omega
    have km : ¬ (k : Int) = -1 := by omega
    rw [hc]
    clear h hf h0 e1 e2 e3 hk hc hS hg f2 f3 hrise p1 p2 hp hpp hl6 fl n4 hn hm p3
    generalize p + 1 = p' at *
    go_enter Try.func18, Try.ntmps18
    go_upto_region 4 with (go_at_call 30; refine FD.out.mono ?_; rintro e w2 ⟨rfl, b2⟩; have B2 := hide b2; clear b2)
    obtain ⟨c0, c1⟩ := CR.out _ B2.out
    go_region_law (first | (go_simp; go_at_call 31; refine (DL.out _ (below_drewN B2.out 1)).mono ?_; rintro e w3 ⟨rfl, d0, d1, d2, d3⟩))
    all_goals (go_wp2_with fail)
    all_goals go_ret
    all_goals exact ⟨rfl, d3.out⟩
  · have hc : canB L t = false := by unfold canB; exact decide_eq_false h0
    have hS : canS L t = L := by unfold canS; rw [if_neg (by rw [hc]; simp)]
    have hp : plcC L t = 0 := by unfold plcC; rw [if_neg h0]
    have ho : ofC L t = -1 := by have := ofC_lo L t; omega
    rw [ho, hp] at FD
    have HH := hide h
    rw [hc, hS]
    clear h hf h0 hc hS hp ho
    go_enter Try.func18, Try.ntmps18
    go_wp2_with (go_at_call 30; refine FD.out.mono ?_; rintro e w2 ⟨rfl, b2⟩; have B2 := hide b2; clear b2)
    go_ret
    exact SideO.of_below (P := fun w' U' => PCn w' U' S L) ⟨R, vs, HH.out.below B2.out⟩ B2.out
end
end Go.Proofs.Ytmclifmdlcofaaa
