/-
  The document's own wheel: Cancel.
-/
import Derived.Test.YtpmggiahhjllcaaWrArm2
namespace Go.Proofs.Ytpmggiahhjllcaa
open Go.ChangeShapes Go.WideShapes Go.ChangeAt Go.RowKit
set_option linter.unusedVariables false
/-- An append as a step of a region that draws: the row is a slice, so is what comes of it. -/
theorem step_append_rows {P : Program} {w : World} {ops : Array Oper} {o : Oper} {a : Act} {K : Act → World → Prop} {Q : Exit → Act → World → Prop} {E : Prop} (hgd : o.guard = none) (s x : Operand) (t : TypeId)
    (ho : o.op = .call { callee := .builtin .append, args := #[s, x], argTypes := #[t, t] })
    (base : Nat) (e : TypeId) (i : TypeInfo) (z : Value) (size bytes : Nat) (ht : P.underlying t = some (.slice e)) (hi : P.info? e = some i) (hz : i.zero = some z)
    (hsize : i.size = size) (hby : i.bytes = bytes) (hzs : z.cells.size = size) (hsz : 0 < size)
    (v : Value) (n : Nat) (xs : List Value) (hs : a.eval s = v) (hown : w.ownsRow base e size v n xs)
    (ad : Addr) (m c : Nat) (news : List Value) (hx : a.eval x = .slice (some ad) m c) (hl : news.length = m * size) (hnews : ∀ j u, news[j]? = some u → w.cell? (ad.add j) = some u) (h1 : ∀ u ∈ news, u.oneCell' = true)
    (h63 : n + m ≤ maxLen) (hbytes : (n + m) * bytes ≤ 140737488355328) (hbase : base ≤ w.heap.size) (N : Nat) (hN : n + m = N)
    (h : ∀ A' c' w', w'.ownsRow base e size (.slice A' N c') N (xs ++ news) → w.grownBy w' v.ownBlock → ((Value.slice A' N c').ownBlock = v.ownBlock ∨ (Value.slice A' N c').ownBlock = some w.heap.size) → K (a.put o.dst (.slice A' N c')) w') :
    if Region.wanted o (yielded ops a.tmps) = true then Oper.wp P o a w K Q else E := by
  have hw : Region.wanted o (yielded ops a.tmps) = true := by simp [Region.wanted, hgd]
  rw [if_pos hw]
  subst hN
  obtain ⟨v', w', hr, h2, h3, _, h5⟩ := run_append_own_at (P := P) w base t o.type e i z size bytes ht hi hz hsize hby hzs hsz v n xs hown ad m c news hl hnews h1 h63 hbytes hbase
  obtain ⟨A', c', rfl⟩ : ∃ A' c', v' = .slice A' (n + m) c' := by
    rcases h2.2 with ⟨rfl, h0⟩ | ⟨g, cap, cur, rfl, _⟩
    · exact ⟨none, 0, by rw [h0]⟩
    · exact ⟨_, _, rfl⟩
  unfold Oper.wp execOp
  simp only [ho, resolve, invoke, builtin, Sem.run_bind, Sem.run_pure, Result.andThen_ok, List.map_toArray, List.map_cons, List.map_nil, hs, hx, hr]
  exact h A' c' w' h2 h3 h5
theorem drop_one {w w1 : World} {row : Option Nat} (h : w.drew.grownBy w1 row) (hr : row = none := by rfl) : Below w.heap.size w w1 := by
  subst hr
  exact ⟨h.os, h.tape, h.output, h.size, fun k hk => h.block k hk (fun e => by cases e)⟩
theorem filter_out {l : List Tm} {id : Int} {i : Nat} (hi : i < l.length) (e : (l[i].id : Int) = id) (hu : l.Pairwise (fun a b => a.id < b.id)) : l.filter (fun x => !((x.id : Int) == id)) = l.take i ++ l.drop (i + 1) := by
  have h1 : l = l.take i ++ l[i] :: l.drop (i + 1) := by rw [← List.drop_eq_getElem_cons hi, List.take_append_drop]
  conv => lhs; rw [h1]
  rw [List.filter_append, List.filter_cons_of_neg (by simp [e])]
  congr 1
  · rw [List.filter_eq_self]
    intro x hx
    obtain ⟨j, hj, rfl⟩ := List.mem_iff_getElem.mp hx
    rw [List.getElem_take]
    rw [List.length_take] at hj
    have := up_getElem hu (i := j) (j := i) (by omega) hi (by omega)
    simp; omega
  · rw [List.filter_eq_self]
    intro x hx
    obtain ⟨j, hj, rfl⟩ := List.mem_iff_getElem.mp hx
    rw [List.getElem_drop]
    rw [List.length_drop] at hj
    have := up_getElem hu (i := i) (j := i + 1 + j) hi (by omega) (by omega)
    simp; omega
theorem can_none {s : Ws} {id : Int} (h : ∀ x ∈ s.l, (x.id : Int) ≠ id) : canS s id = s := by
  unfold canS
  have : s.l.filter (fun x => !((x.id : Int) == id)) = s.l := by
    rw [List.filter_eq_self]
    intro x hx
    have := h x hx
    simpa using this
  rw [this]
theorem cellsTms_split (xs : List Tm) (p : Nat) : cellsTms xs = cellsTms (xs.take p) ++ cellsTms (xs.drop p) := by rw [← cellsTms_append, List.take_append_drop]
/-- What the two append steps need. -/
theorem Wr.rows {w : World} {G : Nat → Prop} {S : Nat} {s : Ws} (h : Wr w G S s) {p : Nat} (hp : p < s.l.length) : ∃ g c, w.cell? ⟨S, 1, none⟩ = some (.slice (some ⟨g, 0, none⟩) s.l.length c) ∧ s.l.length ≤ c ∧ c ≤ maxLen ∧ g < w.heap.size ∧
    (∀ W : World, W.heap = w.heap → ∀ j u, (cellsTms (s.l.take p))[j]? = some u → W.cell? ((⟨g, 0, none⟩ : Addr).add j) = some u) ∧
    ∃ ad : Addr, (if c = p + 1 then some (⟨g, 0, none⟩ : Addr) else some ⟨g, (p + 1) * 2, none⟩) = some ad ∧ (∀ W : World, Below w.heap.size w W → ∀ j u, (cellsTms (s.l.drop (p + 1)))[j]? = some u → W.cell? (ad.add j) = some u) := by
  obtain ⟨a, c, e, ho, hv⟩ := h.mem
  obtain ⟨g, rfl⟩ : ∃ g, a = some ⟨g, 0, none⟩ := by
    rcases ho.2 with ⟨e, h0⟩ | ⟨g, cap, cur, e, _⟩
    · omega
    · injection e with e _ _; exact ⟨g, e⟩
  obtain ⟨a', c', e', _, h1, h2, _⟩ := own_sliceR ho
  injection e' with _ _ e'
  subst e'
  have hg := (ho.lt g rfl).2
  refine ⟨g, c, by rw [cell_of_row _ _ _ _ _ _ e]; rfl, h1, h2, hg, fun W hW j u hu => ?_, ?_⟩
  · have e1 : W.cell? ((⟨g, 0, none⟩ : Addr).add j) = w.cell? ((⟨g, 0, none⟩ : Addr).add j) := World.cell?_of_block (by rw [hW])
    rw [e1]
    refine ho.cells rfl j u ?_
    rw [cellsTms_split s.l p, List.getElem?_append_left (List.getElem?_eq_some_iff.mp hu).1]
    exact hu
  · by_cases ec : c = p + 1
    · refine ⟨⟨g, 0, none⟩, by rw [if_pos ec], fun W hW j u hu => ?_⟩
      have : s.l.drop (p + 1) = [] := List.drop_eq_nil_of_le (by omega)
      rw [this] at hu
      cases hu
    · refine ⟨⟨g, (p + 1) * 2, none⟩, by rw [if_neg ec], fun W hW j u hu => ?_⟩
      rw [addr_add, hW.cell (p := ⟨g, (p + 1) * 2 + j, none⟩) hg]
      have e : (cellsTms s.l)[(p + 1) * 2 + j]? = some u := by
        have hl : (cellsTms (s.l.take (p + 1))).length = (p + 1) * 2 := by rw [cellsTms_length, List.length_take]; congr 1; omega
        rw [cellsTms_split s.l (p + 1), List.getElem?_append_right (by omega), hl, show (p + 1) * 2 + j - (p + 1) * 2 = j by omega]
        exact hu
      have := ho.cells rfl _ u e
      rw [addr_add, Nat.zero_add] at this
      exact this
set_option maxRecDepth 10000 in
set_option maxHeartbeats 8000000 in
theorem wrcan_any {w : World} {G : Nat → Prop} {S : Nat} {s : Ws} (h : Wr w G S s) (id : Int) :
    Calls Try.prog 16 #[.pointer (some ⟨S, 0, none⟩), .int .i64 id] w fun e w' => e = .returned (.bool (armed s.l id)) ∧ ∃ G', Wr w' G' S (canS s id) ∧ Touch G w w' ∧ ∀ i, G' i → G i ∨ w.heap.size ≤ i := by
  have HH := hide h
  rcases pos_cases s.l id with ⟨p, hp, e1, _, e3, e4⟩ | ⟨e1, e3, e4⟩
  · rw [e4]
    have hg := good_can h.good id
    have hc : canS s id = ⟨s.now, s.l.take p ++ s.l.drop (p + 1)⟩ := by unfold canS; rw [filter_out hp e1 h.good.up]
    rw [hc] at hg ⊢
    have GD := hide hg
    obtain ⟨g, c9, s1, hlc, hcm, hgl, n1, ad, hif, n2⟩ := h.rows hp
    have N1 := hide n1
    have N2 := hide n2
    have few := h.good.few
    have LS := hide (h.lt S h.gS)
    have HE := hide (show ∀ (w8 : World), Below w.heap.size w w8 → w8.heap[S]? = some (.cells #[.int .i64 (s.now : Int), .slice (some ⟨g, 0, none⟩) s.l.length c9] 61 (0, 0)) ∧ w8.cell? ⟨S, 1, none⟩ = some (.slice (some ⟨g, 0, none⟩) s.l.length c9) ∧ w8.frozen? ⟨S, 1, none⟩ = false from fun w8 hb => by
      obtain ⟨a', c', e, _⟩ := HH.out.mem
      have e2 := s1
      rw [cell_of_row _ _ _ _ _ _ e] at e2
      injection e2 with e2
      have e3 : w8.heap[S]? = some (.cells #[.int .i64 (s.now : Int), .slice (some ⟨g, 0, none⟩) s.l.length c9] 61 (0, 0)) := by rw [← e2]; exact (hb.block S LS.out).trans e
      exact ⟨e3, by rw [cell_of_row _ _ _ _ _ _ e3]; rfl, frozen_of_row _ _ _ _ _ e3⟩)
    have FIN := hide (show ∀ (w8 : World) (A : Option Addr) (c8 N : Nat) (ys : List Value), Below w.heap.size w w8 → w8.ownsRow w.heap.size 65 2 (.slice A N c8) N ys → ys = cellsTms (s.l.take p) ++ cellsTms (s.l.drop (p + 1)) → N = s.l.length - 1 →
        ∃ G', Wr (w8.setCell ⟨S, 1, none⟩ (.slice A N c8)) G' S ⟨s.now, s.l.take p ++ s.l.drop (p + 1)⟩ ∧ Touch G w (w8.setCell ⟨S, 1, none⟩ (.slice A N c8)) ∧ ∀ i, G' i → G i ∨ w.heap.size ≤ i from fun w8 A c8 N ys hb ho hy hN =>
      wr_end HH.out (s' := ⟨s.now, s.l.take p ++ s.l.drop (p + 1)⟩) GD.out (Touch.of_below hb) (HE.out w8 hb).1 (by rw [cellsTms_append, ← hy]; exact ho) (by rw [List.length_append, List.length_take, List.length_drop, hN]; omega))
    have p0 : (0 : Int) ≤ (p : Int) := by omega
    have p1 : (p : Int) < (s.l.length : Int) := by omega
    have pn : ¬ (p : Int) < 0 := by omega
    have p2 : (p : Int) ≤ (c9 : Int) := by omega
    have p3 : (p : Int) + 1 ≤ (s.l.length : Int) := by omega
    have p4 : (s.l.length : Int) ≤ (c9 : Int) := by omega
    have p5 : (0 : Int) ≤ (p : Int) + 1 := by omega
    have pw : IntKind.i64.wrap ((p : Int) + 1) = (p : Int) + 1 := by rw [IntKind.wrap_i64]; omega
    obtain ⟨i0, hi0, hz0, hz1, hz2⟩ := info_parts one_info
    have HZ := hide hz2
    have l1 := hide (show (cellsTms (s.l.take p)).length = p * 2 by rw [cellsTms_length, List.length_take]; congr 1; omega)
    have lr := hide (show (cellsTms (s.l.drop (p + 1))).length = (s.l.length - (p + 1)) * 2 by rw [cellsTms_length, List.length_drop])
    clear h n1 n2 hg hc hz2 e1 e4
    go_enter Try.func16, Try.ntmps16
    go_upto_region 4 with (go_at_call 28; refine (wrat_any HH.out id).mono ?_; rintro e w' ⟨rfl, rfl⟩; rw [e3])
    go_region_law ((first | (refine step_append_rows (by rfl) _ _ _ (by rfl) w.heap.size 65 i0 _ 2 16 Try.underlying59 hi0 hz0 hz1 HZ.out rfl (by omega) _ p ([] ++ cellsTms (s.l.take p)) (by rfl) O1.out ad (s.l.length - (p + 1)) (c9 - (p + 1)) (cellsTms (s.l.drop (p + 1))) (by rfl) lr.out (N2.out w6 b1) (cellsTms_cell _) (by unfold maxLen; omega) (by omega) b1.size (s.l.length - 1) (by omega) ?_; intro A2 c2 w7 o2 g2 hl2; have b2 : Below w.heap.size w w7 := b1.grown g2 b1.size (fun k hk => (O1.out.lt k hk).1); obtain ⟨_, r0, rf⟩ := HE.out w7 b2) | (refine step_append_rows (by rfl) _ _ _ (by rfl) w.heap.size 65 i0 _ 2 16 Try.underlying59 hi0 hz0 hz1 HZ.out rfl (by omega) (.slice none 0 0) 0 [] (by rfl) (World.ownsRow_nil _ _ _ _) ⟨g, 0, none⟩ p c9 (cellsTms (s.l.take p)) (by rfl) l1.out (N1.out w.drew rfl) (cellsTms_cell _) (by unfold maxLen; omega) (by omega) (Nat.le_refl _) p (by omega) ?_; intro A1 c1 w6 o1 g1 hl1; have b1 : Below w.heap.size w w6 := drop_one g1; have r0 := (HE.out w6 b1).2.1; have O1 := hide o1; clear o1 g1 hl1)))
    all_goals go_wp2_with fail
    all_goals go_ret
    all_goals exact ⟨rfl, FIN.out _ _ _ _ _ b2 o2 (by simp) rfl⟩
  · rw [e4, can_none e1]
    clear e1 e4 h
    go_enter Try.func16, Try.ntmps16
    go_wp2_with (go_at_call 28; refine (wrat_any HH.out id).mono ?_; rintro e w' ⟨rfl, rfl⟩; rw [e3])
    go_ret
    exact ⟨rfl, G, HH.out, Touch.refl _ _, fun i hi => .inl hi⟩
end Go.Proofs.Ytpmggiahhjllcaa
