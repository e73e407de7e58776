/-
  The contract of the document's own Give of pieces (coxswainref5).
-/
import Derived.Test.YtllapjidnngaeaaSrOpsB
import Derived.Test.YtllapjidnngaeaaRfOwn
import Derived.Deep.RegionHeld3
namespace Go.Proofs.Ytllapjidnngaeaa
open Go.ChangeShapes Go.WideShapes Go.ChangeAt Go.RowKit
set_option linter.unusedVariables false
theorem cut_info : (Try.prog.info? 78).map (fun i => (i.zero, i.size, i.bytes)) = some (some (.agg #[.int .i64 0, .int .i64 0, .bool false, .bool false, .bool false, .bool false]), 6, 24) := by kernel_rfl
theorem eq_none (w : World) (b0 b1 b2 b3 : Bool) : (binOp .eql 68 (.agg #[.bool b0, .bool b1, .bool b2, .bool b3]) (.agg #[.bool false, .bool false, .bool false, .bool false])).run Try.prog w = .ok (.bool (!b0 && (!b1 && (!b2 && !b3)))) w := by
  cases b0 <;> cases b1 <;> cases b2 <;> cases b3 <;> kernel_rfl
/-- The document's slab, in blocks of G. -/
structure SrG (w : World) (G : Nat → Prop) (S R : Nat) (l : List Cu) : Prop where
  mem : ∃ a c, w.heap[S]? = some (.cells #[.pointer (some ⟨R, 0, none⟩), .slice a l.length c] 36 (0, 0)) ∧ w.ownsRow 0 78 6 (.slice a l.length c) l.length (cellsCus l) ∧ (∀ g, (Value.slice a l.length c).ownBlock = some g → g ≠ S ∧ G g)
  cuts : Cuts l
  gS : G S
  lt : ∀ i, G i → i < w.heap.size
theorem SrG.sr {w : World} {G : Nat → Prop} {S R : Nat} {l : List Cu} (h : SrG w G S R l) : Sr w S R l := by
  obtain ⟨a, c, e, ho, hv⟩ := h.mem
  exact ⟨⟨a, c, e, ho, fun g hg => (hv g hg).1⟩, h.cuts⟩
theorem SrG.keep {U G : Nat → Prop} {w w' : World} {S R : Nat} {l : List Cu} (h : SrG w G S R l) (u : Touch U w w') (hU : ∀ i, G i → ¬ U i) : SrG w' G S R l := by
  obtain ⟨a, c, e, ho, hv⟩ := h.mem
  exact ⟨⟨a, c, (u.block S (lt_of_heap e) (hU S h.gS)).trans e, u.own ho (fun g hg => hU g (hv g hg).2), hv⟩, h.cuts, h.gS, fun i hi => Nat.lt_of_lt_of_le (h.lt i hi) u.size⟩
theorem SrG.below {G : Nat → Prop} {w w' : World} {S R : Nat} {l : List Cu} (h : SrG w G S R l) (u : Below w.heap.size w w') : SrG w' G S R l := h.keep (U := fun _ => False) (Touch.of_below u) (fun _ _ e => e)
/-- A piece is turned in memory. -/
theorem SrG.put {w : World} {G : Nat → Prop} {S R : Nat} {l : List Cu} (h : SrG w G S R l) {p q g : Nat} (hp : p < l.length) (hq : q < 4) (v : Bool) (hg : ∃ c, w.cell? ⟨S, 1, none⟩ = some (.slice (some ⟨g, 0, none⟩) l.length c)) :
    SrG (w.setCell ⟨g, p * 6 + 2 + q, none⟩ (.bool v)) G S R (l.set p (l[p].put q v)) ∧ Touch G w (w.setCell ⟨g, p * 6 + 2 + q, none⟩ (.bool v)) := by
  obtain ⟨a, c, e, ho, hv⟩ := h.mem
  obtain ⟨c', hg⟩ := hg
  rw [cell_of_row _ _ _ _ _ _ e] at hg
  injection hg with hg
  injection hg with e1 _ e2
  subst e1 e2
  have hgb := hv g rfl
  have hS := (ho.stored (p * 6 + 2 + q) (.bool v)).1
  rw [Nat.add_assoc, cellsCus_set hp hq v] at hS
  refine ⟨⟨⟨some ⟨g, 0, none⟩, c, ?_, ?_, ?_⟩, ⟨fun u hu => ?_, ?_, by rw [List.length_set]; exact h.cuts.few, fun u hu => ?_⟩, h.gS, fun i hi => by have := h.lt i hi; simpa [World.setCell] using this⟩, (Touch.refl _ _).setCell (p := ⟨g, p * 6 + 2 + q, none⟩) hgb.2 _⟩
  · rw [heap_setCell_other _ _ _ _ (Ne.symm hgb.1), List.length_set]; exact e
  · rw [List.length_set, Nat.add_assoc]; exact hS
  · intro g' hg'; rw [List.length_set] at hg'; exact hv g' hg'
  · rcases List.mem_or_eq_of_mem_set hu with hu | hu
    · exact h.cuts.cl u hu
    · rw [hu]; exact h.cuts.cl l[p] (List.getElem_mem hp)
  · have := h.cuts.up
    rw [List.pairwise_iff_getElem] at this ⊢
    intro i j hi hj hij
    rw [List.length_set] at hi hj
    have hf : ∀ k (hk : k < l.length), ((l.set p (l[p].put q v))[k]'(by rw [List.length_set]; exact hk)).f = l[k].f := fun k hk => by
      rw [List.getElem_set]
      split
      · rename_i e; subst e; rfl
      · rfl
    rw [hf i hi, hf j hj]; exact this i j hi hj hij
  · rcases List.mem_or_eq_of_mem_set hu with hu | hu
    · exact h.cuts.fs u hu
    · rw [hu]; exact h.cuts.fs l[p] (List.getElem_mem hp)
/-- Nothing of it is taken. -/
def Cu.none (u : Cu) : Bool := !u.tk 0 && (!u.tk 1 && (!u.tk 2 && !u.tk 3))
/-- A cut frame is struck from the list. -/
def strike (l : List Cu) (p : Nat) : List Cu := l.take p ++ l.drop (p + 1)
theorem strike_len {l : List Cu} {p : Nat} (hp : p < l.length) : (strike l p).length = l.length - 1 := by
  unfold strike; rw [List.length_append, List.length_take, List.length_drop]; omega
theorem strike_cuts {l : List Cu} (h : Cuts l) (p : Nat) : Cuts (strike l p) := by
  have hs : (strike l p).Sublist l := by
    unfold strike
    have := (List.Sublist.refl (l.take p)).append (List.drop_sublist 1 (l.drop p))
    rw [List.drop_drop, List.take_append_drop] at this
    exact this
  exact ⟨fun u hu => h.cl u (hs.subset hu), h.up.sublist hs, Nat.le_trans hs.length_le h.few, fun u hu => h.fs u (hs.subset hu)⟩
/-- Behind Give: the new row stands. -/
theorem strike_end {w w2 : World} {G : Nat → Prop} {S R N : Nat} {l : List Cu} {p : Nat} {A : Option Addr} {c : Nat} {xs : List Value} (h : SrG w G S R l) (hp : p < l.length) (hb : Below w.heap.size w w2)
    (ho : w2.ownsRow w.heap.size 78 6 (.slice A N c) N xs) (hx : xs = cellsCus (l.take p) ++ cellsCus (l.drop (p + 1))) (hN : N = l.length - 1) :
    ∃ G', SrG (w2.setCell ⟨S, 1, none⟩ (.slice A N c)) G' S R (strike l p) ∧ Touch G w (w2.setCell ⟨S, 1, none⟩ (.slice A N c)) ∧ ∀ i, G' i → G i ∨ w.heap.size ≤ i := by
  subst hx hN
  obtain ⟨a, c0, e, _, _⟩ := h.mem
  have lS := h.lt S h.gS
  have e2 := (hb.block S lS).trans e
  have ne : ∀ g, (Value.slice A (l.length - 1) c).ownBlock = some g → g ≠ S := fun g hg e => by have := (ho.lt g hg).1; omega
  refine ⟨fun i => G i ∨ (w.heap.size ≤ i ∧ i < w2.heap.size), ⟨⟨A, c, ?_, ?_, ?_⟩, strike_cuts h.cuts p, .inl h.gS, fun i hi => ?_⟩, (Touch.of_below hb).setCell (p := ⟨S, 1, none⟩) h.gS _, fun i hi => hi.imp id (fun e => e.1)⟩
  · rw [strike_len hp, heap_setCell_same _ _ _ _ _ _ e2]; rfl
  · rw [strike_len hp]
    unfold strike
    rw [cellsCus_append]
    exact own_base (touch_one.own ho (fun g hg => ne g hg)) (Nat.zero_le _)
  · intro g hg
    rw [strike_len hp] at hg
    exact ⟨ne g hg, .inr (ho.lt g hg)⟩
  · have : i < w2.heap.size := by
      rcases hi with hi | hi
      · exact Nat.lt_of_lt_of_le (h.lt i hi) hb.size
      · exact hi.2
    simpa [World.setCell] using this
theorem rgive_none {w : World} {S R : Nat} {l : List Cu} (h : Sr w S R l) (fr sl sz : Int) (hsl : (Lit.int .i64 sl).wf = true) (hn : place l fr sl sz = -1) :
    Calls Try.prog 17 #[.pointer (some ⟨S, 0, none⟩), .agg #[.int .i64 fr, .int .i64 sl, .int .i64 sz]] w fun e w' => e = .returned (.int .i64 4) ∧ Below w.heap.size w w' := by
  have HH := hide (h.below ((Below.refl w.heap.size w).alloc (Nat.le_refl _) (.cells #[.int .i64 fr, .int .i64 sl, .int .i64 sz] 44)))
  clear h
  go_enter Try.func17, Try.ntmps17
  go_wp2_with (go_at_call 29; refine (rat_any HH.out fr sl sz hsl).mono ?_; rw [hn]; rintro e w' ⟨rfl, hb⟩; have HB := hide (below_one hb (by simp)); clear hb)
  go_ret
  exact ⟨rfl, HB.out⟩
set_option maxRecDepth 10000 in
set_option maxHeartbeats 4000000 in
/-- A piece comes back, its frame stays cut. -/
theorem rgive_stay {w : World} {G : Nat → Prop} {S R : Nat} {l : List Cu} (h : SrG w G S R l) (fr sz : Int) (q p : Nat) (hp : p < l.length) (hq : q < 4) (hpl : place l fr (q : Int) sz = (p : Int)) (hne : (l[p].put q false).none = false) :
    Calls Try.prog 17 #[.pointer (some ⟨S, 0, none⟩), .agg #[.int .i64 fr, .int .i64 (q : Int), .int .i64 sz]] w fun e w' => e = .returned (.int .i64 0) ∧ SrG w' G S R (l.set p (l[p].put q false)) ∧ Touch G w w' := by
  have hsl := wf_nat (off := q) (by omega)
  have b0 := (Below.refl w.heap.size w).alloc (Nat.le_refl _) (.cells #[.int .i64 fr, .int .i64 (q : Int), .int .i64 sz] 44)
  have HH := hide (h.below b0)
  have HA := hide (heap_alloc_new w (.cells #[.int .i64 fr, .int .i64 (q : Int), .int .i64 sz] 44))
  have HB0 := hide b0
  have p0 : (0 : Int) ≤ (p : Int) := by omega
  have p1 : (p : Int) < (l.length : Int) := by omega
  have q0 : (0 : Int) ≤ (q : Int) := by omega
  have q1 : (q : Int) < 4 := by omega
  have HG := hide h
  clear b0 h
  go_enter Try.func17, Try.ntmps17
  go_upto_region 4 with (go_at_call 29; refine (rat_any HH.out.sr fr _ sz hsl).mono ?_; rw [hpl]; rintro e w2 ⟨rfl, hb⟩; have HB := hide hb; clear hb)
  have H2 := hide (HH.out.below HB.out)
  have hX : w2.heap[w.heap.size]? = some (.cells #[.int .i64 fr, .int .i64 (q : Int), .int .i64 sz] 44 (0, 0)) := (HB.out.block w.heap.size (by simp)).trans HA.out
  have x1 : w2.cell? ⟨w.heap.size, 1, none⟩ = some (.int .i64 (q : Int)) := by rw [cell_of_row _ _ _ _ _ _ hX]; rfl
  obtain ⟨a, c, s1, hrow⟩ := H2.out.sr.row
  obtain ⟨g, rfl, _, _, ck⟩ := hrow p hp
  have cq := ck q hq
  have fz : w2.frozen? ⟨g, p * 6 + 2 + q, none⟩ = false := by
    obtain ⟨a, c', e, ho, _⟩ := H2.out.mem
    have e2 := s1
    rw [cell_of_row _ _ _ _ _ _ e] at e2
    injection e2 with e2
    injection e2 with e3 _ _
    subst e3
    exact ho.frozenAt _
  have PT := hide (H2.out.put hp hq false ⟨c, s1⟩)
  have BW := hide (below_one HB.out (by simp))
  clear hX hrow ck
  go_region
  have PT3 : Hid (SrG (w2.setCell ⟨g, p * 6 + 2 + q, none⟩ (.bool false)).drew G S R (l.set p (l[p].put q false)) ∧ Touch G w2 (w2.setCell ⟨g, p * 6 + 2 + q, none⟩ (.bool false)).drew) := (show _ ∧ _ from ⟨PT.out.1.keep (U := fun _ => False) ((Touch.refl _ _).drewN 1) (fun _ _ e => e), PT.out.2.drewN 1⟩)
  have hl2 : (l.set p (l[p].put q false)).length = l.length := List.length_set
  have hu2 : (l.set p (l[p].put q false))[p]'(by rw [hl2]; exact hp) = l[p].put q false := List.getElem_set_self (by rw [hl2]; exact hp)
  obtain ⟨W3, hW3⟩ : ∃ W3, W3 = (w2.setCell ⟨g, p * 6 + 2 + q, none⟩ (.bool false)).drew := ⟨_, rfl⟩
  rw [← hW3] at PT3 ⊢
  obtain ⟨a3, c3, s3, hrow3⟩ := PT3.out.1.sr.row
  obtain ⟨g3, rfl, _, _, ck3⟩ := hrow3 p (by rw [hl2]; exact hp)
  rw [hl2] at s3
  rw [hu2] at ck3
  have hne' : (!(l[p].put q false).tk 0 && (!(l[p].put q false).tk 1 && (!(l[p].put q false).tk 2 && !(l[p].put q false).tk 3))) = false := hne
  have HEQ := hide (fun w => (eq_none w ((l[p].put q false).tk 0) ((l[p].put q false).tk 1) ((l[p].put q false).tk 2) ((l[p].put q false).tk 3)).trans (by rw [hne']))
  have d0 := ck3 0 (by omega)
  have d1 := ck3 1 (by omega)
  have d2 := ck3 2 (by omega)
  have d3 := ck3 3 (by omega)
  rw [Nat.add_zero] at d0
  clear hW3 PT s1 cq fz x1 ck3 hrow3 hne' hne hu2
  generalize (l[p].put q false).tk 0 = t0 at *
  generalize (l[p].put q false).tk 1 = t1 at *
  generalize (l[p].put q false).tk 2 = t2 at *
  generalize (l[p].put q false).tk 3 = t3 at *
  have heq := HEQ.out
  go_wp2_with fail
  go_ret
  exact ⟨rfl, PT3.out.1, (Touch.of_below BW.out).trans PT3.out.2 (fun i e => .inl e)⟩
theorem strike_set (l : List Cu) (p : Nat) (u : Cu) : strike (l.set p u) p = strike l p := by
  unfold strike
  rw [List.take_set_of_le (Nat.le_refl _), List.drop_set_of_lt (by omega)]
/-- What the two append steps need: the row ahead of p, the row behind it. -/
theorem strike_rows {w : World} {G : Nat → Prop} {S R : Nat} {l : List Cu} (h : SrG w G S R l) {p : Nat} (hp : p < l.length) : ∃ g c, w.cell? ⟨S, 1, none⟩ = some (.slice (some ⟨g, 0, none⟩) l.length c) ∧ w.frozen? ⟨S, 1, none⟩ = false ∧ l.length ≤ c ∧ c ≤ maxLen ∧ g < w.heap.size ∧
    (∀ W : World, W.heap = w.heap → ∀ j u, (cellsCus (l.take p))[j]? = some u → W.cell? ((⟨g, 0, none⟩ : Addr).add j) = some u) ∧
    (∀ W : World, Below w.heap.size w W → ∀ j u, (cellsCus (l.drop (p + 1)))[j]? = some u → W.cell? ((⟨g, (p + 1) * 6, none⟩ : Addr).add j) = some u) := by
  obtain ⟨a, c, e, ho, hv⟩ := h.mem
  obtain ⟨g, rfl⟩ : ∃ g, a = some ⟨g, 0, none⟩ := by
    rcases ho.2 with ⟨e, h0⟩ | ⟨g, cap, cur, e, _⟩
    · omega
    · injection e with e _ _; exact ⟨g, e⟩
  obtain ⟨a', c', e', _, h1, h2, _⟩ := own_sliceR ho
  injection e' with _ _ e'
  subst e'
  have hg := (ho.lt g rfl).2
  refine ⟨g, c, by rw [cell_of_row _ _ _ _ _ _ e]; rfl, frozen_of_row _ _ _ _ _ e, h1, h2, hg, fun W hW j u hu => ?_, fun W hW j u hu => ?_⟩
  · have e1 : W.cell? ((⟨g, 0, none⟩ : Addr).add j) = w.cell? ((⟨g, 0, none⟩ : Addr).add j) := World.cell?_of_block (by rw [hW])
    rw [e1]
    rw [cellsCus_take] at hu
    exact ho.cells rfl j u (by rw [List.getElem?_take] at hu; split at hu; exact hu; cases hu)
  · rw [addr_add, hW.cell (p := ⟨g, (p + 1) * 6 + j, none⟩) hg]
    rw [cellsCus_drop, List.getElem?_drop] at hu
    have := ho.cells rfl _ u hu
    rw [addr_add] at this
    rw [Nat.zero_add] at this; exact this
set_option maxRecDepth 10000 in
set_option maxHeartbeats 8000000 in
/-- The last piece of a frame comes back: the frame goes, too. -/
theorem rgive_last {w : World} {G K : Nat → Prop} {S R t b : Nat} {l : List Cu} {s : St} {fresh : Nat} {back : List Nat} (h : SrG w G S R l) (r : RfG w K R t b s fresh back) (hd : ∀ i, G i → ¬ K i) (q p : Nat) (sz : Int) (hp : p < l.length) (hq : q < 4) (hpl : place l (l[p].f : Int) (q : Int) sz = (p : Int)) (hne : (l[p].put q false).none = true) (hfn : l[p].f < s.n) (hft : s.tk l[p].f = true) :
    Calls Try.prog 17 #[.pointer (some ⟨S, 0, none⟩), .agg #[.int .i64 (l[p].f : Int), .int .i64 (q : Int), .int .i64 sz]] w fun e w' => e = .returned (.int .i64 0) ∧
      ∃ G' K', SrG w' G' S R (strike l p) ∧ RfG w' K' R t b (s.give l[p].f) fresh (back ++ [l[p].f]) ∧ (∀ i, G' i → ¬ K' i) ∧ Touch (fun i => G i ∨ K i) w w' ∧ (∀ i, G' i ∨ K' i → (G i ∨ K i) ∨ w.heap.size ≤ i) := by
  obtain ⟨i0, hi0, hz0, hz1, hz2⟩ := info_parts cut_info
  generalize hff : l[p].f = f at *
  have hsl := wf_nat (off := q) (by omega)
  have b0 := (Below.refl w.heap.size w).alloc (Nat.le_refl _) (.cells #[.int .i64 (f : Int), .int .i64 (q : Int), .int .i64 sz] 44)
  have HH := hide (h.below b0)
  have HA := hide (heap_alloc_new w (.cells #[.int .i64 (f : Int), .int .i64 (q : Int), .int .i64 sz] 44))
  have p0 : (0 : Int) ≤ (p : Int) := by omega
  have p1 : (p : Int) < (l.length : Int) := by omega
  have q0 : (0 : Int) ≤ (q : Int) := by omega
  have q1 : (q : Int) < 4 := by omega
  have HG := hide h
  have HK := hide r
  have HD := hide hd
  clear b0 h r hd
  go_enter Try.func17, Try.ntmps17
  go_upto_region 4 with (go_at_call 29; refine (rat_any HH.out.sr (f : Int) _ sz hsl).mono ?_; rw [hpl]; rintro e w2 ⟨rfl, hb⟩; have HB := hide hb; clear hb)
  have H2 := hide (HH.out.below HB.out)
  have hX : w2.heap[w.heap.size]? = some (.cells #[.int .i64 (f : Int), .int .i64 (q : Int), .int .i64 sz] 44 (0, 0)) := (HB.out.block w.heap.size (by simp)).trans HA.out
  have HX := hide hX
  have x1 : w2.cell? ⟨w.heap.size, 1, none⟩ = some (.int .i64 (q : Int)) := by rw [cell_of_row _ _ _ _ _ _ hX]; rfl
  obtain ⟨a, c, s1, hrow⟩ := H2.out.sr.row
  obtain ⟨g, rfl, _, _, ck⟩ := hrow p hp
  have cq := ck q hq
  have fz : w2.frozen? ⟨g, p * 6 + 2 + q, none⟩ = false := by
    obtain ⟨a, c', e, ho, _⟩ := H2.out.mem
    have e2 := s1
    rw [cell_of_row _ _ _ _ _ _ e] at e2
    injection e2 with e2
    injection e2 with e3 _ _
    subst e3
    exact ho.frozenAt _
  have PT := hide (H2.out.put hp hq false ⟨c, s1⟩)
  have BW := hide (below_one HB.out (by simp))
  clear hX hrow ck
  go_region
  have PT3 : Hid (SrG (w2.setCell ⟨g, p * 6 + 2 + q, none⟩ (.bool false)).drew G S R (l.set p (l[p].put q false)) ∧ Touch G w2 (w2.setCell ⟨g, p * 6 + 2 + q, none⟩ (.bool false)).drew) := (show _ ∧ _ from ⟨PT.out.1.keep (U := fun _ => False) ((Touch.refl _ _).drewN 1) (fun _ _ e => e), PT.out.2.drewN 1⟩)
  have hl2 : (l.set p (l[p].put q false)).length = l.length := List.length_set
  have hu2 : (l.set p (l[p].put q false))[p]'(by rw [hl2]; exact hp) = l[p].put q false := List.getElem_set_self (by rw [hl2]; exact hp)
  have lX2 : w.heap.size < w2.heap.size := lt_of_heap HX.out
  obtain ⟨W3, hW3⟩ : ∃ W3, W3 = (w2.setCell ⟨g, p * 6 + 2 + q, none⟩ (.bool false)).drew := ⟨_, rfl⟩
  rw [← hW3] at PT3 ⊢
  obtain ⟨a3, c3, s3, hrow3⟩ := PT3.out.1.sr.row
  obtain ⟨g3, rfl, _, _, ck3⟩ := hrow3 p (by rw [hl2]; exact hp)
  rw [hl2] at s3
  rw [hu2] at ck3
  have hne' : (!(l[p].put q false).tk 0 && (!(l[p].put q false).tk 1 && (!(l[p].put q false).tk 2 && !(l[p].put q false).tk 3))) = true := hne
  have HEQ := hide (fun w => (eq_none w ((l[p].put q false).tk 0) ((l[p].put q false).tk 1) ((l[p].put q false).tk 2) ((l[p].put q false).tk 3)).trans (by rw [hne']))
  have d0 := ck3 0 (by omega)
  have d1 := ck3 1 (by omega)
  have d2 := ck3 2 (by omega)
  have d3 := ck3 3 (by omega)
  rw [Nat.add_zero] at d0
  have K3 := hide ((HK.out.below BW.out).keep PT3.out.2 (fun i hk hg => HD.out i hg hk))
  have s30 := PT3.out.1.sr.s0
  have nXG : ¬ G w.heap.size := fun e => by have := HG.out.lt _ e; omega
  have nXK : ¬ K w.heap.size := fun e => by have := HK.out.2 _ e; omega
  have x30 : W3.cell? ⟨w.heap.size, 0, none⟩ = some (.int .i64 (f : Int)) := by rw [cell_of_row _ _ _ _ _ _ ((PT3.out.2.block _ lX2 nXG).trans HX.out)]; rfl
  have L3 := hide (strike_set l p (l[p].put q false))
  clear hW3 PT s1 cq fz x1 ck3 hrow3 hne' hne hu2
  generalize (l[p].put q false).tk 0 = t0 at *
  generalize (l[p].put q false).tk 1 = t1 at *
  generalize (l[p].put q false).tk 2 = t2 at *
  generalize (l[p].put q false).tk 3 = t3 at *
  have heq := HEQ.out
  go_wp2_with fail
  go_region_held3 (fun w' => w'.cell? ⟨S, 0, none⟩ = some (.pointer (some ⟨R, 0, none⟩)) ∧ w'.cell? ⟨w.heap.size, 0, none⟩ = some (.int .i64 (f : Int))) (first | exact ⟨s30, x30⟩ | exact ⟨s40, x40⟩) ((go_at_call 30; refine (rgive_own (K3.out.keep (S := fun _ => False) ((Touch.refl _ _).drewN 1) (fun _ _ e => e)) f hfn hft).mono ?_; rintro e w4 ⟨rfl, K4, k4, u4, n4⟩; have HK4 := hide k4; have U4 := hide (Touch.trans (Touch.drewN (Touch.refl K W3) 1) u4 (fun i e => .inl e)); have N4 := hide n4; have S4 := hide (PT3.out.1.keep U4.out HD.out); have s40 := S4.out.sr.s0; have x40 := U4.out.cell x30 nXK; clear k4 u4 n4))
  clear s3 s30 x30 d0 d1 d2 d3 heq s40 x40
  generalize l.set p (l[p].put q false) = l2 at *
  have hp2 : p < l2.length := by omega
  have ST := hide (strike_rows S4.out hp2)
  obtain ⟨g5, c5, s5, f5, hlc, hcm, hg5, n1, n2⟩ := ST.out
  have few : l2.length ≤ 64 := S4.out.cuts.few
  rw [hl2] at s5 hlc few
  have N1 := hide n1
  have N2 := hide n2
  have l1 := hide (show (cellsCus (l2.take p)).length = p * 6 by rw [cellsCus_length, List.length_take]; omega)
  have lr := hide (show (cellsCus (l2.drop (p + 1))).length = (l.length - (p + 1)) * 6 by rw [cellsCus_length, List.length_drop, hl2])
  have lS4 := S4.out.lt S S4.out.gS
  have p2 : (p : Int) ≤ (c5 : Int) := by omega
  have p3 : (p : Int) + 1 ≤ (l.length : Int) := by omega
  have p4 : (l.length : Int) ≤ (c5 : Int) := by omega
  have p5 : (0 : Int) ≤ (p : Int) + 1 := by omega
  have pw : IntKind.i64.wrap ((p : Int) + 1) = (p : Int) + 1 := by rw [IntKind.wrap_i64]; omega
  have HZ := hide hz2
  have FIN := hide (show ∀ (w5 : World) (A : Option Addr) (c : Nat) (xs : List Value) (N : Nat), Below w4.heap.size w4 w5 → w5.ownsRow w4.heap.size 78 6 (.slice A N c) N xs → xs = cellsCus (l2.take p) ++ cellsCus (l2.drop (p + 1)) → N = l.length - 1 →
      ∃ G' K', SrG (w5.setCell ⟨S, 1, none⟩ (.slice A N c)) G' S R (strike l p) ∧ RfG (w5.setCell ⟨S, 1, none⟩ (.slice A N c)) K' R t b (s.give f) fresh (back ++ [f]) ∧ (∀ i, G' i → ¬ K' i) ∧ Touch (fun i => G i ∨ K i) w (w5.setCell ⟨S, 1, none⟩ (.slice A N c)) ∧ (∀ i, G' i ∨ K' i → (G i ∨ K i) ∨ w.heap.size ≤ i) from fun w5 A c xs N hb ho hx hN => by
    obtain ⟨G', e1, e2, e3⟩ := strike_end S4.out hp2 hb ho hx (by rw [hl2]; exact hN)
    rw [L3.out] at e1
    have hw3 : w.heap.size ≤ W3.heap.size := Nat.le_trans BW.out.size PT3.out.2.size
    have hw4 : w.heap.size ≤ w4.heap.size := Nat.le_trans hw3 U4.out.size
    have dis : ∀ i, K4 i → ¬ G i := fun i hk hg => by
      rcases N4.out i hk with e | e
      · exact HD.out i hg e
      · have h1 := PT3.out.1.lt i hg
        have h2 : W3.heap.size ≤ i := e
        omega
    have hKk := HK4.out.keep e2 (fun i hk hg => dis i hk hg)
    refine ⟨G', K4, e1, hKk, fun i hg hk => ?_, ?_, fun i hi => ?_⟩
    · rcases e3 i hg with e | e
      · exact dis i hk e
      · have := HK4.out.2 i hk; omega
    · have u1 : Touch (fun i => G i ∨ K i) w W3 := (Touch.of_below BW.out).trans (PT3.out.2.mono (S' := fun i => G i ∨ K i) (fun i e => .inl e)) (fun i e => .inl e)
      exact (u1.trans U4.out (fun i e => .inl (.inr e))).trans e2 (fun i e => .inl (.inl e))
    · rcases hi with hi | hi
      · rcases e3 i hi with e | e
        · exact .inl (.inl e)
        · exact .inr (by omega)
      · rcases N4.out i hi with e | e
        · exact .inl (.inr e)
        · exact .inr (by have h2 : W3.heap.size ≤ i := e; omega))
  clear n1 n2 hz2
  go_wp2_with fail
  by_cases hcp : c5 = p + 1
  · subst hcp
    have hLp : l.length = p + 1 := by omega
    have hnil : l2.drop (p + 1) = [] := List.drop_eq_nil_of_le (by omega)
    have HN := hide hnil
    have HLp := hide hLp
    rw [hLp] at s5
    have q3 : (p : Int) + 1 ≤ (p : Int) + 1 := by omega
    have q4 : (p : Int) ≤ (p : Int) + 1 := by omega
    have hp64 : p ≤ 64 := by omega
    clear hnil hLp lr N2 p1 p2 p3 p4
    go_region_law ((first | (refine step_append_rows (by rfl) _ _ _ (by rfl) w4.heap.size 78 i0 _ 6 24 Try.underlying34 hi0 hz0 hz1 HZ.out rfl (by omega) (.slice none 0 0) 0 [] (by rfl) (World.ownsRow_nil _ _ _ _) ⟨g5, 0, none⟩ p (p + 1) (cellsCus (l2.take p)) (by rfl) l1.out (N1.out w4.drew rfl) (cellsCus_cell _) (by unfold maxLen; omega) (by omega) (Nat.le_refl _) p (by omega) ?_; intro A1 c1 w5 o1 g1 hl1; have b1 : Below w4.heap.size w4 w5 := drop_one g1; have r0 := (b1.cell (p := ⟨S, 1, none⟩) lS4).trans s5; have O1 := hide o1; clear o1 g1 hl1) | (refine step_append_rows (by rfl) _ _ _ (by rfl) w4.heap.size 78 i0 _ 6 24 Try.underlying34 hi0 hz0 hz1 HZ.out rfl (by omega) _ p ([] ++ cellsCus (l2.take p)) (by rfl) O1.out ⟨g5, 0, none⟩ 0 0 [] (by rfl) rfl (fun j u hu => by cases hu) (fun u hu => by cases hu) (by unfold maxLen; omega) (by omega) b1.size p (by omega) ?_; intro A2 c2 w6 o2 g2 hl2; have b2 : Below w4.heap.size w4 w6 := b1.grown g2 b1.size (fun k hk => (O1.out.lt k hk).1); have r0 := (b2.cell (p := ⟨S, 1, none⟩) lS4).trans s5; have rf := (b2.frozen (p := ⟨S, 1, none⟩) lS4).trans f5)))
    all_goals go_wp2_with fail
    all_goals go_ret
    all_goals exact ⟨rfl, FIN.out _ _ _ _ _ b2 o2 (by rw [HN.out]; simp [cellsCus]) (by rw [HLp.out]; rfl)⟩
  · have hcp' : ¬ (c5 - (p + 1) = 0) := by omega
    go_region_law ((first | (refine step_append_rows (by rfl) _ _ _ (by rfl) w4.heap.size 78 i0 _ 6 24 Try.underlying34 hi0 hz0 hz1 HZ.out rfl (by omega) (.slice none 0 0) 0 [] (by rfl) (World.ownsRow_nil _ _ _ _) ⟨g5, 0, none⟩ p c5 (cellsCus (l2.take p)) (by rfl) l1.out (N1.out w4.drew rfl) (cellsCus_cell _) (by unfold maxLen; omega) (by omega) (Nat.le_refl _) p (by omega) ?_; intro A1 c1 w5 o1 g1 hl1; have b1 : Below w4.heap.size w4 w5 := drop_one g1; have r0 := (b1.cell (p := ⟨S, 1, none⟩) lS4).trans s5; have O1 := hide o1; clear o1 g1 hl1) | (refine step_append_rows (by rfl) _ _ _ (by rfl) w4.heap.size 78 i0 _ 6 24 Try.underlying34 hi0 hz0 hz1 HZ.out rfl (by omega) _ p ([] ++ cellsCus (l2.take p)) (by rfl) O1.out ⟨g5, (p + 1) * 6, none⟩ (l.length - (p + 1)) (c5 - (p + 1)) (cellsCus (l2.drop (p + 1))) (by rfl) lr.out (N2.out w5 b1) (cellsCus_cell _) (by unfold maxLen; omega) (by omega) b1.size (l.length - 1) (by omega) ?_; intro A2 c2 w6 o2 g2 hl2; have b2 : Below w4.heap.size w4 w6 := b1.grown g2 b1.size (fun k hk => (O1.out.lt k hk).1); have r0 := (b2.cell (p := ⟨S, 1, none⟩) lS4).trans s5; have rf := (b2.frozen (p := ⟨S, 1, none⟩) lS4).trans f5)))
    all_goals go_wp2_with fail
    all_goals go_ret
    all_goals exact ⟨rfl, FIN.out _ _ _ _ _ b2 o2 (by simp) rfl⟩
end Go.Proofs.Ytllapjidnngaeaa
