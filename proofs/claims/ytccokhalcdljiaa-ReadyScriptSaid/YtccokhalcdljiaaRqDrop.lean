/-
  The document's own queue: Drop.
-/
import Derived.Test.YtccokhalcdljiaaRqMem
import Derived.Deep.RegionLaw
namespace Go.Proofs.Ytccokhalcdljiaa
open Go.ChangeShapes Go.WideShapes Go.ChangeAt Go.RowKit
set_option linter.unusedVariables false
/-- An append as a step of a region that draws: the row is a slice, so is what comes of it. -/
theorem step_append_rowsQ {P : Program} {w : World} {ops : Array Oper} {o : Oper} {a : Act} {K : Act → World → Prop} {Q : Exit → Act → World → Prop} {E : Prop} (hgd : o.guard = none) (s x : Operand) (t : TypeId)
    (ho : o.op = .call { callee := .builtin .append, args := #[s, x], argTypes := #[t, t] })
    (base : Nat) (e : TypeId) (i : TypeInfo) (z : Value) (size bytes : Nat) (ht : P.underlying t = some (.slice e)) (hi : P.info? e = some i) (hz : i.zero = some z)
    (hsize : i.size = size) (hby : i.bytes = bytes) (hzs : z.cells.size = size) (hsz : 0 < size)
    (v : Value) (n : Nat) (xs : List Value) (hs : a.eval s = v) (hown : w.ownsRow base e size v n xs)
    (ad : Addr) (m c : Nat) (news : List Value) (hx : a.eval x = .slice (some ad) m c) (hl : news.length = m * size) (hnews : ∀ j u, news[j]? = some u → w.cell? (ad.add j) = some u) (h1 : ∀ u ∈ news, u.oneCell' = true)
    (h63 : n + m ≤ maxLen) (hbytes : (n + m) * bytes ≤ 140737488355328) (hbase : base ≤ w.heap.size) (N : Nat) (hN : n + m = N)
    (h : ∀ A' c' w', w'.ownsRow base e size (.slice A' N c') N (xs ++ news) → w.grownBy w' v.ownBlock → ((Value.slice A' N c').ownBlock = v.ownBlock ∨ (Value.slice A' N c').ownBlock = some w.heap.size) → K (a.put o.dst (.slice A' N c')) w') :
    if Region.wanted o (yielded ops a.tmps) = true then Oper.wp P o a w K Q else E := by
  have hw : Region.wanted o (yielded ops a.tmps) = true := by simp [Region.wanted, hgd]
  rw [if_pos hw]
  subst hN
  obtain ⟨v', w', hr, h2, h3, _, h5⟩ := run_append_own_at (P := P) w base t o.type e i z size bytes ht hi hz hsize hby hzs hsz v n xs hown ad m c news hl hnews h1 h63 hbytes hbase
  obtain ⟨A', c', rfl⟩ : ∃ A' c', v' = .slice A' (n + m) c' := by
    rcases h2.2 with ⟨rfl, h0⟩ | ⟨g, cap, cur, rfl, _⟩
    · exact ⟨none, 0, by rw [h0]⟩
    · exact ⟨_, _, rfl⟩
  unfold Oper.wp execOp
  simp only [ho, resolve, invoke, builtin, Sem.run_bind, Sem.run_pure, Result.andThen_ok, List.map_toArray, List.map_cons, List.map_nil, hs, hx, hr]
  exact h A' c' w' h2 h3 h5
theorem drop_oneQ {w w1 : World} {row : Option Nat} (h : w.drew.grownBy w1 row) (hr : row = none := by rfl) : Below w.heap.size w w1 := by
  subst hr
  exact ⟨h.os, h.tape, h.output, h.size, fun k hk => h.block k hk (fun e => by cases e)⟩
/-- The new row is laid into the queue's block. -/
theorem rq_end {w w2 : World} {G : Nat → Prop} {S N : Nat} {l l' : List Rt} {A : Option Addr} {c : Nat} {o : Value} (h : Rq w G S l) (hg : GoodR l') (hf : l'.length ≤ 1000) (hb : Touch (fun i => i = S) w w2) (he : w2.heap[S]? = some (.cells #[o] 29 (0, 0)))
    (ho : w2.ownsRow w.heap.size 71 4 (.slice A N c) N (cellsRts l')) (hN : l'.length = N) :
    ∃ G', Rq (w2.setCell ⟨S, 0, none⟩ (.slice A N c)) G' S l' ∧ Touch G w (w2.setCell ⟨S, 0, none⟩ (.slice A N c)) ∧ ∀ i, G' i → G i ∨ w.heap.size ≤ i := by
  subst hN
  have lS := h.lt S h.gS
  have ne : ∀ g, (Value.slice A l'.length c).ownBlock = some g → g ≠ S := fun g hg e => by have := (ho.lt g hg).1; omega
  refine ⟨fun i => G i ∨ (Value.slice A l'.length c).ownBlock = some i, ⟨⟨A, c, ?_, ?_, ?_⟩, .inl h.gS, fun i hi => ?_, hg, hf⟩, (hb.mono (fun i e => e ▸ h.gS)).setCell (p := ⟨S, 0, none⟩) h.gS _, fun i hi => hi.imp id (fun e => (ho.lt i e).1)⟩
  · rw [heap_setCell_same _ _ _ _ _ _ he]; rfl
  · exact own_base (((Touch.refl (fun i => i = S) w2).setCell (p := ⟨S, 0, none⟩) rfl _).own ho (fun g hg => ne g hg)) (Nat.zero_le _)
  · intro g hg
    exact ⟨ne g hg, .inr hg⟩
  · have : i < w2.heap.size := by
      rcases hi with hi | hi
      · exact Nat.lt_of_lt_of_le (h.lt i hi) hb.size
      · exact (ho.lt i hi).2
    simpa [World.setCell] using this
theorem cellsRts_split (xs : List Rt) (p : Nat) : cellsRts xs = cellsRts (xs.take p) ++ cellsRts (xs.drop p) := by rw [← cellsRts_append, List.take_append_drop]
/-- What the two append steps need. -/
theorem Rq.rows {w : World} {G : Nat → Prop} {S : Nat} {l : List Rt} (h : Rq w G S l) {p : Nat} (hp : p < l.length) : ∃ g c, w.cell? ⟨S, 0, none⟩ = some (.slice (some ⟨g, 0, none⟩) l.length c) ∧ l.length ≤ c ∧ c ≤ maxLen ∧ g < w.heap.size ∧
    (∀ W : World, W.heap = w.heap → ∀ j u, (cellsRts (l.take p))[j]? = some u → W.cell? ((⟨g, 0, none⟩ : Addr).add j) = some u) ∧
    ∃ ad : Addr, (if c = p + 1 then some (⟨g, 0, none⟩ : Addr) else some ⟨g, (p + 1) * 4, none⟩) = some ad ∧ (∀ W : World, Below w.heap.size w W → ∀ j u, (cellsRts (l.drop (p + 1)))[j]? = some u → W.cell? (ad.add j) = some u) := by
  obtain ⟨a, c, e, ho, hv⟩ := h.mem
  obtain ⟨g, rfl⟩ : ∃ g, a = some ⟨g, 0, none⟩ := by
    rcases ho.2 with ⟨e, h0⟩ | ⟨g, cap, cur, e, _⟩
    · omega
    · injection e with e _ _; exact ⟨g, e⟩
  obtain ⟨a', c', e', _, h1, h2, _⟩ := own_sliceQ ho
  injection e' with _ _ e'
  subst e'
  have hg := (ho.lt g rfl).2
  refine ⟨g, c, by rw [cell_of_row _ _ _ _ _ _ e]; rfl, h1, h2, hg, fun W hW j u hu => ?_, ?_⟩
  · have e1 : W.cell? ((⟨g, 0, none⟩ : Addr).add j) = w.cell? ((⟨g, 0, none⟩ : Addr).add j) := World.cell?_of_block (by rw [hW])
    rw [e1]
    refine ho.cells rfl j u ?_
    rw [cellsRts_split l p, List.getElem?_append_left (List.getElem?_eq_some_iff.mp hu).1]
    exact hu
  · by_cases ec : c = p + 1
    · refine ⟨⟨g, 0, none⟩, by rw [if_pos ec], fun W hW j u hu => ?_⟩
      have : l.drop (p + 1) = [] := List.drop_eq_nil_of_le (by omega)
      rw [this] at hu
      cases hu
    · refine ⟨⟨g, (p + 1) * 4, none⟩, by rw [if_neg ec], fun W hW j u hu => ?_⟩
      rw [addr_add, hW.cell (p := ⟨g, (p + 1) * 4 + j, none⟩) hg]
      have e : (cellsRts l)[(p + 1) * 4 + j]? = some u := by
        have hl : (cellsRts (l.take (p + 1))).length = (p + 1) * 4 := by rw [cellsRts_length, List.length_take]; congr 1; omega
        rw [cellsRts_split l (p + 1), List.getElem?_append_right (by omega), hl, show (p + 1) * 4 + j - (p + 1) * 4 = j by omega]
        exact hu
      have := ho.cells rfl _ u e
      rw [addr_add, Nat.zero_add] at this
      exact this
set_option maxRecDepth 10000 in
set_option maxHeartbeats 8000000 in
theorem rqdrop_any {w : World} {G : Nat → Prop} {S : Nat} {l : List Rt} (h : Rq w G S l) (id : Int) :
    Calls Try.prog 13 #[.pointer (some ⟨S, 0, none⟩), .int .i64 id] w fun e w' => e = .returned (.bool (hasR l id)) ∧ ∃ G', Rq w' G' S (dropR l id) ∧ Touch G w w' ∧ ∀ i, G' i → G i ∨ w.heap.size ≤ i := by
  have HH := hide h
  have HAT := hide (rqat_any h id)
  rcases posR_cases l id with ⟨p, hp, e1, _, e3, e4⟩ | ⟨e1, e3, e4⟩
  · rw [e4]
    rw [e3] at HAT
    have hg := good_drop h.good id
    have hc : dropR l id = l.take p ++ l.drop (p + 1) := dropR_at hp e1 h.good.one
    rw [hc] at hg ⊢
    have GD := hide hg
    obtain ⟨g, c9, s1, hlc, hcm, hgl, n1, ad, hif, n2⟩ := h.rows hp
    have N1 := hide n1
    have N2 := hide n2
    have few := h.few
    have LS := hide (h.lt S h.gS)
    have HE := hide (show ∀ (w8 : World), Below w.heap.size w w8 → w8.heap[S]? = some (.cells #[.slice (some ⟨g, 0, none⟩) l.length c9] 29 (0, 0)) ∧ w8.cell? ⟨S, 0, none⟩ = some (.slice (some ⟨g, 0, none⟩) l.length c9) ∧ w8.frozen? ⟨S, 0, none⟩ = false from fun w8 hb => by
      obtain ⟨a', c', e, _⟩ := HH.out.mem
      have e2 := s1
      rw [cell_of_row _ _ _ _ _ _ e] at e2
      injection e2 with e2
      have e3 : w8.heap[S]? = some (.cells #[.slice (some ⟨g, 0, none⟩) l.length c9] 29 (0, 0)) := by rw [← e2]; exact (hb.block S LS.out).trans e
      exact ⟨e3, by rw [cell_of_row _ _ _ _ _ _ e3]; rfl, frozen_of_row _ _ _ _ _ e3⟩)
    have FIN := hide (show ∀ (w8 : World) (A : Option Addr) (c8 N : Nat) (ys : List Value), Below w.heap.size w w8 → w8.ownsRow w.heap.size 71 4 (.slice A N c8) N ys → ys = cellsRts (l.take p) ++ cellsRts (l.drop (p + 1)) → N = l.length - 1 →
        ∃ G', Rq (w8.setCell ⟨S, 0, none⟩ (.slice A N c8)) G' S (l.take p ++ l.drop (p + 1)) ∧ Touch G w (w8.setCell ⟨S, 0, none⟩ (.slice A N c8)) ∧ ∀ i, G' i → G i ∨ w.heap.size ≤ i from fun w8 A c8 N ys hb ho hy hN =>
      rq_end HH.out GD.out (by rw [List.length_append, List.length_take, List.length_drop]; omega) (Touch.of_below hb) (HE.out w8 hb).1 (by rw [cellsRts_append, ← hy]; exact ho) (by rw [List.length_append, List.length_take, List.length_drop, hN]; omega))
    have p0 : (0 : Int) ≤ (p : Int) := by omega
    have p1 : (p : Int) < (l.length : Int) := by omega
    have pn : ¬ (p : Int) < 0 := by omega
    have p2 : (p : Int) ≤ (c9 : Int) := by omega
    have p3 : (p : Int) + 1 ≤ (l.length : Int) := by omega
    have p4 : (l.length : Int) ≤ (c9 : Int) := by omega
    have p5 : (0 : Int) ≤ (p : Int) + 1 := by omega
    have pw : IntKind.i64.wrap ((p : Int) + 1) = (p : Int) + 1 := by rw [IntKind.wrap_i64]; omega
    obtain ⟨i0, hi0, hz0, hz1, hz2⟩ := info_parts oneq_info
    have HZ := hide hz2
    have l1 := hide (show (cellsRts (l.take p)).length = p * 4 by rw [cellsRts_length, List.length_take]; congr 1; omega)
    have lr := hide (show (cellsRts (l.drop (p + 1))).length = (l.length - (p + 1)) * 4 by rw [cellsRts_length, List.length_drop])
    clear h n1 n2 hg hc hz2 e1 e3 e4
    go_enter Try.func13, Try.ntmps13
    go_upto_region 4 with (go_at_call 30; refine HAT.out.mono ?_; rintro e w' ⟨rfl, rfl⟩)
    go_region_law ((first | (refine step_append_rowsQ (by rfl) _ _ _ (by rfl) w.heap.size 71 i0 _ 4 32 Try.underlying27 hi0 hz0 hz1 HZ.out rfl (by omega) _ p ([] ++ cellsRts (l.take p)) (by rfl) O1.out ad (l.length - (p + 1)) (c9 - (p + 1)) (cellsRts (l.drop (p + 1))) (by rfl) lr.out (N2.out w6 b1) (cellsRts_cell _) (by unfold maxLen; omega) (by omega) b1.size (l.length - 1) (by omega) ?_; intro A2 c2 w7 o2 g2 hl2; have b2 : Below w.heap.size w w7 := b1.grown g2 b1.size (fun k hk => (O1.out.lt k hk).1); obtain ⟨_, r0, rf⟩ := HE.out w7 b2) | (refine step_append_rowsQ (by rfl) _ _ _ (by rfl) w.heap.size 71 i0 _ 4 32 Try.underlying27 hi0 hz0 hz1 HZ.out rfl (by omega) (.slice none 0 0) 0 [] (by rfl) (World.ownsRow_nil _ _ _ _) ⟨g, 0, none⟩ p c9 (cellsRts (l.take p)) (by rfl) l1.out (N1.out w.drew rfl) (cellsRts_cell _) (by unfold maxLen; omega) (by omega) (Nat.le_refl _) p (by omega) ?_; intro A1 c1 w6 o1 g1 hl1; have b1 : Below w.heap.size w w6 := drop_oneQ g1; have r0 := (HE.out w6 b1).2.1; have O1 := hide o1; clear o1 g1 hl1)))
    all_goals go_wp2_with fail
    all_goals go_ret
    all_goals exact ⟨rfl, FIN.out _ _ _ _ _ b2 o2 (by simp) rfl⟩
  · rw [e4, dropR_none e1]
    rw [e3] at HAT
    clear e1 e3 e4 h
    go_enter Try.func13, Try.ntmps13
    go_wp2_with (go_at_call 30; refine HAT.out.mono ?_; rintro e w' ⟨rfl, rfl⟩)
    go_ret
    exact ⟨rfl, G, HH.out, Touch.refl _ _, fun i hi => .inl hi⟩
end Go.Proofs.Ytccokhalcdljiaa
