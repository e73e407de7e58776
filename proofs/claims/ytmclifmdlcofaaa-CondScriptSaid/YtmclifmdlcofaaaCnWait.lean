/-
  The program's Wait.
-/
import Derived.Test.YtmclifmdlcofaaaCnMem
namespace Go.Proofs.Ytmclifmdlcofaaa
open Go.ChangeShapes Go.WideShapes Go.ChangeAt Go.RowKit
set_option linter.unusedVariables false
set_option linter.unusedSimpArgs false
theorem ins_place {l : List Int} (h : l.Pairwise (· < ·)) {t : Int} (ht : t ∉ l) : (l.countP fun x => decide (x < t)) ≤ l.length ∧ insL l t = insAt l (l.countP fun x => decide (x < t)) t := by
  refine ⟨List.countP_le_length, ?_⟩
  induction l with
  | nil => rfl
  | cons x l ih =>
    rw [List.pairwise_cons] at h
    unfold insL
    by_cases e : t < x
    · have h0 : (l.countP fun y => decide (y < t)) = 0 := by
        rw [List.countP_eq_zero]; intro y hy; have := h.1 y hy; simp; omega
      rw [if_pos e, List.countP_cons, h0, if_neg (by simp; omega)]
      rfl
    · have hx : x < t := by have : x ≠ t := fun e2 => ht (by rw [e2]; exact List.mem_cons_self ..); omega
      rw [if_neg e, ih h.2 (fun e2 => ht (List.mem_cons_of_mem _ e2)), List.countP_cons, if_pos (by simpa using hx)]
      rfl
section
variable {w : World} {U : Nat → Prop} {S R : Nat} {L : Cs} {vs : List Value}
set_option maxRecDepth 10000 in
set_option maxHeartbeats 4000000 in
theorem wait_any (h : Cn w U S L R vs) (hf : FewC L) (t i : Int) :
    Calls Try.prog 13 #[.pointer (some ⟨S, 0, none⟩), .int .i64 t, .int .i64 i] w (SideO (fun w' U' => PCn w' U' S (waitS L t i)) U w (.int .i64 (waitE L t i))) := by
  have HS := hide fun X (b : Below w.heap.size w X) => has_any (h.below b) i
  have OF := hide fun X (b : Below w.heap.size w X) => of_any (h.below b) hf t
  have HH := hide h
  by_cases h1 : t < 0
  · have e1 : waitE L t i = 2 := by unfold waitE; rw [if_pos (.inl h1)]
    have e2 : waitS L t i = L := by unfold waitS; rw [if_neg (by rw [e1]; omega)]
    rw [e1, e2]
    clear h hf e1 e2
    go_enter Try.func13, Try.ntmps13
    go_wp2_with fail
    go_ret
    exact SideO.of_below (P := fun w' U' => PCn w' U' S L) ⟨R, vs, HH.out⟩ (Below.refl _ _)
  cases hc : isCond L i with
  | false =>
    have e1 : waitE L t i = 2 := by unfold waitE; rw [if_pos (.inr hc)]
    have e2 : waitS L t i = L := by unfold waitS; rw [if_neg (by rw [e1]; omega)]
    rw [hc] at HS
    rw [e1, e2]
    clear h hf e1 e2 hc
    go_enter Try.func13, Try.ntmps13
    go_wp2_with (go_at_call 26; refine (HS.out _ (Below.refl _ _)).mono ?_; rintro e w2 ⟨rfl, b2⟩; have B2 := hide b2; clear b2)
    go_ret
    exact SideO.of_below (P := fun w' U' => PCn w' U' S L) ⟨R, vs, HH.out.below B2.out⟩ B2.out
  | true =>
    rw [hc] at HS
    by_cases h0 : 0 ≤ ofC L t
    · have e1 : waitE L t i = 5 := by unfold waitE; rw [if_neg (by rw [hc]; simp [h1]), if_pos h0]
      have e2 : waitS L t i = L := by unfold waitS; rw [if_neg (by rw [e1]; omega)]
      have o1 : ¬ ofC L t = -1 := by omega
      rw [e1, e2]
      obtain ⟨o, ho⟩ : ∃ o, o = ofC L t := ⟨_, rfl⟩
      rw [← ho] at OF o1
      clear h hf e1 e2 hc h0 ho
      go_enter Try.func13, Try.ntmps13
      go_wp2_with (first
        | (go_at_call 26; refine (HS.out _ (Below.refl _ _)).mono ?_; rintro e w2 ⟨rfl, b2⟩; have B2 := hide b2; clear b2)
        | (go_at_call 21; refine (OF.out _ B2.out).mono ?_; rintro e w3 ⟨rfl, b3⟩; have B3 := hide (B2.out.trans (b3.mono B2.out.size)); clear b3))
      go_ret
      exact SideO.of_below (P := fun w' U' => PCn w' U' S L) ⟨R, vs, HH.out.below B3.out⟩ B3.out
    · have e1 : waitE L t i = 0 := by unfold waitE; rw [if_neg (by rw [hc]; simp [h1]), if_neg h0]
      obtain ⟨k, rfl, hk⟩ := isCond_iff.1 hc
      have o1 : ofC L t = -1 := by have := ofC_lo L t; omega
      obtain ⟨l, v, f1, f2, f3⟩ := h.at_ hk
      have hm := List.mem_of_getElem? f1
      have hno := ofC_not (show ofC L t < 0 by omega) l hm
      have hS : waitS L t (k : Int) = L.set k (insL l t) := by unfold waitS; rw [if_pos e1, lstC_get f1]; rfl
      have hg : GoodC (L.set k (insL l t)) := by rw [← hS]; exact h.good.wait t k
      have hrise := h.good.rise l hm
      obtain ⟨p1, p2⟩ := ins_place hrise hno
      have hl6 : l.length ≤ 1000000 := by have := hf l hm; omega
      obtain ⟨p, hpp⟩ : ∃ p, p = l.countP fun x => decide (x < t) := ⟨_, rfl⟩
      have n4 := h.hi
      obtain ⟨n, hn⟩ : ∃ n, n = L.length := ⟨_, rfl⟩
      have HN := hide hn
      have SE := hide (show ∀ X, Below w.heap.size w X → Calls Try.prog 27 #[v, .int .i64 t] X fun e w' => e = .returned (.tuple #[.int .i64 (p : Int), .bool false]) ∧ Below X.heap.size X w' from fun X b => by
        have := search_any ((HH.out.below b).row k l v f1 f2) hrise hl6 t
        rw [decide_eq_false hno, ← hpp] at this
        exact this)
      rw [← hpp] at p1 p2
      have IN := hide (show ∀ X Y vb, Below w.heap.size w X → Y = X.alloc (.cells #[.int .i64 t] 3) → vb = X.heap.size → Calls Try.prog 28 #[v, .int .i64 (p : Int), .slice (some ⟨vb, 0, none⟩) 1 1] Y fun e w' =>
          ∃ u gu mu cu, u = .slice (some ⟨gu, 0, none⟩) mu cu ∧ e = .returned u ∧ w'.cell? ⟨S, 0, none⟩ = some (.slice (some ⟨R, 0, none⟩) n n) ∧ w'.cell? ⟨R, k, none⟩ = some v ∧ w'.frozen? ⟨R, k, none⟩ = false ∧
          Hid (∃ U', PCn (w'.setCell ⟨R, k, none⟩ u) U' S (waitS L t k) ∧ Touch U w (w'.setCell ⟨R, k, none⟩ u) ∧ ∀ i, U' i → U i ∨ w.heap.size ≤ i) from fun X Y vb b hY hvb => by
        subst hY hvb
        have bY : Below w.heap.size w (X.alloc (.cells #[.int .i64 t] 3)) := b.alloc b.size _
        have hX := HH.out.below bY
        have hlt := fun g (e : v.ownBlock = some g) => HH.out.lt g ((HH.out.un g).2 (.inr (.inr ⟨k, v, f2, e⟩)))
        refine (ins_any (hX.row k l v f1 f2) hl6 p1 (heap_alloc_new X _) (fun e => by have := hlt _ e; have := b.size; omega)).mono ?_
        rintro e w' ⟨u, rfl, k2, k3, k4, k5⟩
        have hne := fun g e => HH.out.ns k v g f2 e
        have hil : (insAt l p t).length = l.length + 1 := insAt_len _ _ _ p1
        obtain ⟨gu, mu, cu, hu⟩ : ∃ gu mu cu, u = .slice (some ⟨gu, 0, none⟩) mu cu := by
          rcases k2.2 with ⟨_, hh⟩ | ⟨g, c, cur, e, _⟩
          · omega
          · exact ⟨g, _, c, e⟩
        refine ⟨u, gu, mu, cu, hu, rfl, ?_, ?_, ?_, ?_⟩
        · rw [HN.out]; exact k3.cell hX.cS (fun e => (hne S e).1 rfl)
        · exact k3.cell (hX.cR f2).1 (fun e => (hne R e).2 rfl)
        · exact frozen_of_row _ _ _ _ _ ((k3.block R (lt_of_heap hX.hR) (fun e => (hne R e).2 rfl)).trans hX.hR)
        · rw [hS, p2]
          obtain ⟨U', q1, q2, q3⟩ := hX.put f2 k3 (u := u) (l' := insAt l p t) (by rw [hil]; exact k2) (fun g e => k4.elim (fun e2 => .inl (by rw [← e2]; exact e)) (fun e2 => .inr (by rw [e2] at e; injection e with e; omega))) (by rw [← p2]; exact hg)
          exact ⟨U', q1, (Touch.of_below bY).trans q2 (fun i e => .inl e), fun i hi => (q3 i hi).imp id fun e => Nat.le_trans bY.size e⟩)
      have CR := hide (show ∀ Y, Below w.heap.size w Y → Y.cell? ⟨S, 0, none⟩ = some (.slice (some ⟨R, 0, none⟩) n n) ∧ Y.cell? ⟨R, k, none⟩ = some v from fun Y b => by
        have hY := HH.out.below b
        exact ⟨by rw [HN.out]; exact hY.cS, (hY.cR f2).1⟩)
      have k0 : (0 : Int) ≤ (k : Int) := by omega
      have k1 : (k : Int) < (n : Int) := by rw [hn]; omega
      rw [e1]
      rw [o1] at OF
      clear h hf h0 e1 f1 f2 f3 hm hno hk hc hS hg hrise p1 p2 hpp hl6 n4 hn o1
      go_enter Try.func13, Try.ntmps13
      go_upto_region 7 with (first
        | (go_at_call 26; refine (HS.out _ (Below.refl _ _)).mono ?_; rintro e w2 ⟨rfl, b2⟩; have B2 := hide b2; clear b2)
        | (go_at_call 21; refine (OF.out _ B2.out).mono ?_; rintro e w3 ⟨rfl, b3⟩; have B3 := hide (B2.out.trans (b3.mono B2.out.size)); clear b3))
      obtain ⟨c0, c1⟩ := CR.out _ B3.out
      go_upto_region 8 with (go_at_call 27; refine (SE.out _ B3.out).mono ?_; rintro e w4 ⟨rfl, b4⟩; have B4 := hide (B3.out.trans (b4.mono B3.out.size)); clear b4)
      clear c0 c1
      obtain ⟨c0, c1⟩ := CR.out _ B4.out
      obtain ⟨c2, c3⟩ := CR.out (w4.alloc (.cells #[.int .i64 t] 3)) (B4.out.alloc B4.out.size _)
      go_region_law (first | (go_simp; go_at_call 28; refine (IN.out _ _ _ (below_drewN B4.out 1) rfl rfl).mono ?_; rintro e w5 ⟨u, gu, mu, cu, rfl, rfl, d0, d1, d2, d3⟩))
      all_goals (go_wp2_with fail)
      all_goals go_ret
      all_goals exact ⟨rfl, d3.out⟩
end
end Go.Proofs.Ytmclifmdlcofaaa
