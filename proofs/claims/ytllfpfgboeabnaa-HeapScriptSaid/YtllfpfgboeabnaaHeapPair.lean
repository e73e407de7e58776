/-
  The program's heap and the document's own list, beside one another (HeapScript).
-/
import Derived.Test.YtllfpfgboeabnaaHeapRefC
import Derived.Test.YtllfpfgboeabnaaHeapParts
import Derived.Test.YtllfpfgboeabnaaRowsIn
import Derived.Deep.DeepCutAuto
import Derived.Deep.CutBlock
namespace Go.Proofs.Ytllfpfgboeabnaa
open Go.ChangeShapes Go.WideShapes Go.ChangeAt Go.RowKit
set_option linter.unusedVariables false
/-- The program's heap and the document's own list, beside one another. -/
def Two (w wr : World) (H R : Nat) (l L : List (Int × Int)) : Prop :=
  ∃ F G : Nat → Prop, Held wr F H l ∧ Lst wr G R L ∧ (∀ i, F i → ¬ G i) ∧ (∀ i, F i → w.heap.size ≤ i) ∧ (∀ i, G i → w.heap.size ≤ i) ∧ Below w.heap.size w wr
/-- They tell the same. -/
structure Match (l L : List (Int × Int)) : Prop where
  perm : l.Perm L
  srt : Srt L
  pos : ∀ x ∈ L, 0 ≤ x.1
theorem Two.bel {w wr : World} {H R : Nat} {l L : List (Int × Int)} (h : Two w wr H R l L) : Below w.heap.size w wr := by obtain ⟨F, G, a, b, d, f, g, hb⟩ := h; exact hb
theorem Two.below {w wr w' : World} {H R : Nat} {l L : List (Int × Int)} (h : Two w wr H R l L) (t : Below wr.heap.size wr w') : Two w w' H R l L := by
  obtain ⟨F, G, a, b, d, f, g, hb⟩ := h
  exact ⟨F, G, a.below t, b.below t, d, f, g, hb.trans (t.mono hb.size)⟩
theorem Two.left {w wr w' : World} {H R : Nat} {l l' L : List (Int × Int)} {F G F' : Nat → Prop} (a : Held w' F' H l') (b : Lst wr G R L) (d : ∀ i, F i → ¬ G i) (f : ∀ i, F i → w.heap.size ≤ i) (g : ∀ i, G i → w.heap.size ≤ i) (hb : Below w.heap.size w wr) (t : Touch F wr w') (s : ∀ i, F' i → F i ∨ wr.heap.size ≤ i) : Two w w' H R l' L := by
  refine ⟨F', G, a, b.keep t (fun i hi e => d i e hi), fun i hi e => ?_, fun i hi => ?_, g, hb.trans (t.below hb.size f)⟩
  · rcases s i hi with h | h
    · exact d i h e
    · have := b.lt i e; omega
  · rcases s i hi with h | h
    · exact f i h
    · have := hb.size; omega
theorem Two.right {w wr w' : World} {H R : Nat} {l L' : List (Int × Int)} {F G G' : Nat → Prop} (a : Held wr F H l) (b : Lst w' G' R L') (d : ∀ i, F i → ¬ G i) (f : ∀ i, F i → w.heap.size ≤ i) (g : ∀ i, G i → w.heap.size ≤ i) (hb : Below w.heap.size w wr) (t : Touch G wr w') (s : ∀ i, G' i → G i ∨ wr.heap.size ≤ i) : Two w w' H R l L' := by
  refine ⟨F, G', a.keep t (fun i hi e => d i hi e), b, fun i hi e => ?_, f, fun i hi => ?_, hb.trans (t.below hb.size g)⟩
  · rcases s i e with h | h
    · exact d i hi h
    · have := a.lt i hi; omega
  · rcases s i hi with h | h
    · exact g i h
    · have := hb.size; omega
theorem match_first {l L : List (Int × Int)} (h : Match l L) (hp : HeapN l l.length) : it l 0 = it L 0 := by
  rcases Nat.eq_zero_or_pos L.length with h0 | h0
  · have e1 : L = [] := List.eq_nil_of_length_eq_zero h0
    have e2 : l = [] := List.eq_nil_of_length_eq_zero (by rw [h.perm.length_eq]; exact h0)
    rw [e1, e2]
  · have hl : 0 < l.length := by rw [h.perm.length_eq]; exact h0
    have m1 := heap_min hp (h.perm.mem_iff.2 (it_mem h0))
    have m2 : due (it l 0) (it L 0) = false := by
      obtain ⟨p, hpl, e⟩ := at_of_mem (h.perm.mem_iff.1 (it_mem hl))
      rw [← e]
      rcases Nat.eq_zero_or_pos p with hp0 | hp0
      · rw [hp0]; exact due_irrefl _
      · have := List.pairwise_iff_getElem.1 h.srt 0 p h0 hpl hp0
        rw [it_get hpl, it_get h0]; exact this
    exact due_total m2 m1
theorem min_any {w : World} {F : Nat → Prop} {H : Nat} {l : List (Int × Int)} (h : Held w F H l) : Calls Try.prog 18 #[.pointer (some ⟨H, 0, none⟩)] w fun e w' => e = itemBool (it l 0) (decide (0 < l.length)) ∧ Below w.heap.size w w' := by
  rcases Nat.eq_zero_or_pos l.length with h0 | h0
  · have e2 : l = [] := List.eq_nil_of_length_eq_zero h0
    subst e2; exact min_empty h
  · rw [show decide (0 < l.length) = true by simpa using h0]; exact min_some h h0
theorem rmin_any {w : World} {G : Nat → Prop} {R : Nat} {L : List (Int × Int)} (h : Lst w G R L) : Calls Try.prog 13 #[.pointer (some ⟨R, 0, none⟩)] w fun e w' => e = itemBool (it L 0) (decide (0 < L.length)) ∧ Below w.heap.size w w' := by
  rcases Nat.eq_zero_or_pos L.length with h0 | h0
  · have e2 : L = [] := List.eq_nil_of_length_eq_zero h0
    subst e2; exact rmin_none h
  · rw [show decide (0 < L.length) = true by simpa using h0]; exact rmin_some h h0
theorem two_min {w wr : World} {H R : Nat} {l L : List (Int × Int)} (h : Two w wr H R l L) : Calls Try.prog 18 #[.pointer (some ⟨H, 0, none⟩)] wr fun e w' => e = itemBool (it l 0) (decide (0 < l.length)) ∧ Below wr.heap.size wr w' := by
  obtain ⟨F, G, a, b, _⟩ := h; exact min_any a
theorem two_rmin {w wr : World} {H R : Nat} {l L : List (Int × Int)} (h : Two w wr H R l L) : Calls Try.prog 13 #[.pointer (some ⟨R, 0, none⟩)] wr fun e w' => e = itemBool (it L 0) (decide (0 < L.length)) ∧ Below wr.heap.size wr w' := by
  obtain ⟨F, G, a, b, _⟩ := h; exact rmin_any b
theorem two_all {w wr : World} {H R : Nat} {l L : List (Int × Int)} (h : Two w wr H R l L) (hn : l.length ≤ 800000) : Calls Try.prog 19 #[.pointer (some ⟨H, 0, none⟩)] wr fun e w' => ∃ v, e = .returned v ∧ w'.ownsRow wr.heap.size 37 2 v l.length (cellsIt (ord l)) ∧ Below wr.heap.size wr w' := by
  obtain ⟨F, G, a, b, _⟩ := h; exact all_any a hn
theorem two_len {w wr : World} {H R : Nat} {l L : List (Int × Int)} (h : Two w wr H R l L) : Calls Try.prog 22 #[.pointer (some ⟨H, 0, none⟩)] wr fun e w' => e = .returned (.int .i64 (l.length : Int)) ∧ wr = w' := by
  obtain ⟨F, G, a, b, _⟩ := h; exact len_any a
theorem two_hp {w wr : World} {H R : Nat} {l L : List (Int × Int)} (h : Two w wr H R l L) : HeapN l l.length := by
  obtain ⟨F, G, a, b, _⟩ := h; exact a.hp
theorem two_nodup {w wr : World} {H R : Nat} {l L : List (Int × Int)} (h : Two w wr H R l L) : (l.map (·.1)).Nodup := by
  obtain ⟨F, G, a, b, _⟩ := h; exact held_nodup a
theorem Two.drewN {w wr : World} {H R : Nat} {l L : List (Int × Int)} (h : Two w wr H R l L) (q : Nat) : Two w (wr.drewN q) H R l L := h.below (below_drewN (Below.refl _ _) q)
/-- The document's list, where it lies. -/
theorem two_list {w wr : World} {H R : Nat} {l L : List (Int × Int)} (h : Two w wr H R l L) : ∃ A c, wr.cell? ⟨R, 0, none⟩ = some (.slice A L.length c) ∧ wr.ownsRow 0 40 2 (.slice A L.length c) L.length (cellsIt L) ∧ R < wr.heap.size := by
  obtain ⟨F, G, a, b, _⟩ := h
  obtain ⟨A, c, c0, ho, _, hR, _⟩ := b.open_
  exact ⟨A, c, c0, ho, hR⟩
/-- Is the number there? Both say the same. -/
theorem nodup_first {L : List (Int × Int)} (h : (L.map (·.1)).Nodup) {p : Nat} (hp : p < L.length) : ∀ k, k < p → (it L k).1 ≠ (it L p).1 := by
  intro k hk e
  rw [List.nodup_iff_pairwise_ne, List.pairwise_map, List.pairwise_iff_getElem] at h
  have := h k p (by omega) hp hk
  rw [it_get (by omega), it_get hp] at e
  exact this e
theorem two_has {w wr : World} {H R : Nat} {l L : List (Int × Int)} (h : Two w wr H R l L) (m : Match l L) (id : Int) (hid : (Lit.int .i64 id).wf = true) (hn : L.length ≤ 1000000) :
    ∃ b : Bool, (Calls Try.prog 20 #[.pointer (some ⟨H, 0, none⟩), .int .i64 id] wr fun e w' => e = .returned (.bool b) ∧ wr = w') ∧ (Calls Try.prog 21 #[.pointer (some ⟨R, 0, none⟩), .int .i64 id] wr fun e w' => e = .returned (.bool b) ∧ wr = w') := by
  have hnd := two_nodup h
  obtain ⟨F, G, a, b, _⟩ := h
  by_cases hm : ∃ x ∈ L, x.1 = id
  · obtain ⟨x, hx, e⟩ := hm
    obtain ⟨p, hp, ep⟩ := at_of_mem (m.perm.mem_iff.2 hx)
    obtain ⟨q, hq, eq⟩ := at_of_mem hx
    have hndL : (L.map (·.1)).Nodup := (m.perm.map _).nodup_iff.1 hnd
    refine ⟨true, has_of_place (place_yes a id hid p hp (by rw [ep, e])), rhas_yes b id q hq (by rw [eq, e]) (fun k hk e2 => ?_) hn⟩
    exact nodup_first hndL hq k hk (by rw [e2, eq, e])
  · have h1 : ∀ x ∈ L, x.1 ≠ id := fun x hx e => hm ⟨x, hx, e⟩
    exact ⟨false, has_of_place (place_no a id hid (not_in (fun x hx => h1 x (m.perm.mem_iff.1 hx)))), rhas_no b id (not_in h1) hn⟩
theorem quiet_left {P : Program} {f : FuncId} {args : Array Value} {w : World} {n : Nat} {v : Value} (h : Calls P f args (w.drewN n) fun e w' => e = .returned v ∧ w.drewN n = w') : Calls P f args (w.drewN n) fun e w' => e = .returned v ∧ ∃ m, w' = w.drewN m :=
  h.mono fun e w' hh => ⟨hh.1, n, hh.2.symm⟩
theorem quiet_more {P : Program} {f : FuncId} {args : Array Value} {w : World} {n : Nat} {v : Value} (h : Calls P f args (w.drewN n) fun e w' => e = .returned v ∧ ∃ m, w' = (w.drewN n).drewN m) : Calls P f args (w.drewN n) fun e w' => e = .returned v ∧ ∃ m, w' = w.drewN m :=
  h.mono fun e w' ⟨he, m, hm⟩ => ⟨he, n + m, by rw [hm, World.drewN_drewN]⟩
/-- The marks written over an answered list. -/
structure Over (wA wr : World) (v : Value) (n : Nat) : Prop where
  row : ∃ ys, wr.ownsRow wA.heap.size 37 2 v n ys
  bel : Below wA.heap.size wA wr
theorem Over.next {wA wr : World} {g n c k : Nat} (h : Over wA wr (.slice (some ⟨g, 0, none⟩) n c) n) (a b : Value) : Over wA ((wr.setCell ⟨g, k * 2, none⟩ a).setCell ⟨g, k * 2 + 1, none⟩ b) (.slice (some ⟨g, 0, none⟩) n c) n := by
  obtain ⟨ys, ho⟩ := h.row
  have hg := (ho.lt g rfl).1
  exact ⟨⟨_, ((ho.stored (k * 2) a).1.stored (k * 2 + 1) b).1⟩, (h.bel.setCell (p := ⟨g, k * 2, none⟩) hg a).setCell (p := ⟨g, k * 2 + 1, none⟩) hg b⟩
/-- Both, and beside them the act that came in, copied to block X. -/
def Tri (w wr : World) (H R : Nat) (l L : List (Int × Int)) (X : Nat) (d id key : Int) : Prop :=
  ∃ F G : Nat → Prop, Held wr F H l ∧ Lst wr G R L ∧ (∀ i, F i → ¬ G i) ∧ (∀ i, F i → w.heap.size ≤ i) ∧ (∀ i, G i → w.heap.size ≤ i) ∧ Below w.heap.size w wr ∧ ¬ F X ∧ ¬ G X ∧ wr.heap[X]? = some (.cells #[.int .i64 d, .int .i64 id, .int .i64 key] 31 (0, 0)) ∧ X < wr.heap.size
theorem Tri.two {w wr : World} {H R X : Nat} {l L : List (Int × Int)} {d id key : Int} (h : Tri w wr H R l L X d id key) : Two w wr H R l L := by
  obtain ⟨F, G, a, b, c, f, g, hb, _⟩ := h; exact ⟨F, G, a, b, c, f, g, hb⟩
theorem Tri.cells {w wr : World} {H R X : Nat} {l L : List (Int × Int)} {d id key : Int} (h : Tri w wr H R l L X d id key) : wr.cell? ⟨X, 0, none⟩ = some (.int .i64 d) ∧ wr.cell? ⟨X, 1, none⟩ = some (.int .i64 id) ∧ wr.cell? ⟨X, 2, none⟩ = some (.int .i64 key) := by
  obtain ⟨F, G, a, b, c, f, g, hb, _, _, hX, _⟩ := h
  exact ⟨by rw [cell_of_row _ _ _ _ _ _ hX]; rfl, by rw [cell_of_row _ _ _ _ _ _ hX]; rfl, by rw [cell_of_row _ _ _ _ _ _ hX]; rfl⟩
theorem Tri.below {w wr w' : World} {H R X : Nat} {l L : List (Int × Int)} {d id key : Int} (h : Tri w wr H R l L X d id key) (t : Below wr.heap.size wr w') : Tri w w' H R l L X d id key := by
  obtain ⟨F, G, a, b, c, f, g, hb, fx, gx, hX, hXl⟩ := h
  exact ⟨F, G, a.below t, b.below t, c, f, g, hb.trans (t.mono hb.size), fx, gx, (t.block X hXl).trans hX, Nat.lt_of_lt_of_le hXl t.size⟩
theorem Tri.drewN {w wr : World} {H R X : Nat} {l L : List (Int × Int)} {d id key : Int} (h : Tri w wr H R l L X d id key) (q : Nat) : Tri w (wr.drewN q) H R l L X d id key := h.below (below_drewN (Below.refl _ _) q)
theorem Tri.drew {w wr : World} {H R X : Nat} {l L : List (Int × Int)} {d id key : Int} (h : Tri w wr H R l L X d id key) : Tri w wr.drew H R l L X d id key := h.drewN 1
theorem tri_new {w wr : World} {H R : Nat} {l L : List (Int × Int)} (h : Two w wr H R l L) (d id key : Int) : Tri w (wr.alloc (.cells #[.int .i64 d, .int .i64 id, .int .i64 key] 31)) H R l L wr.heap.size d id key := by
  have t : Below wr.heap.size wr (wr.alloc (.cells #[.int .i64 d, .int .i64 id, .int .i64 key] 31)) := (Below.refl _ _).alloc (Nat.le_refl _) _
  obtain ⟨F, G, a, b, c, f, g, hb⟩ := h
  refine ⟨F, G, a.below t, b.below t, c, f, g, hb.trans (t.mono hb.size), fun e => ?_, fun e => ?_, heap_alloc_new wr _, by simp⟩
  · have := a.lt _ e; omega
  · have := b.lt _ e; omega
theorem tri_left {w wr w' : World} {H R X : Nat} {l' L : List (Int × Int)} {d id key : Int} {F G F' : Nat → Prop} (a : Held w' F' H l') (b : Lst wr G R L) (dd : ∀ i, F i → ¬ G i) (f : ∀ i, F i → w.heap.size ≤ i) (g : ∀ i, G i → w.heap.size ≤ i) (hb : Below w.heap.size w wr) (fx : ¬ F X) (gx : ¬ G X) (hX : wr.heap[X]? = some (.cells #[.int .i64 d, .int .i64 id, .int .i64 key] 31 (0, 0))) (hXl : X < wr.heap.size) (t : Touch F wr w') (s : ∀ i, F' i → F i ∨ wr.heap.size ≤ i) : Tri w w' H R l' L X d id key := by
  refine ⟨F', G, a, b.keep t (fun i hi e => dd i e hi), fun i hi e => ?_, fun i hi => ?_, g, hb.trans (t.below hb.size f), fun e => ?_, gx, (t.block X hXl fx).trans hX, Nat.lt_of_lt_of_le hXl t.size⟩
  · rcases s i hi with h | h
    · exact dd i h e
    · have := b.lt i e; omega
  · rcases s i hi with h | h
    · exact f i h
    · have := hb.size; omega
  · rcases s X e with h | h
    · exact fx h
    · omega
theorem tri_right {w wr w' : World} {H R X : Nat} {l L' : List (Int × Int)} {d id key : Int} {F G G' : Nat → Prop} (a : Held wr F H l) (b : Lst w' G' R L') (dd : ∀ i, F i → ¬ G i) (f : ∀ i, F i → w.heap.size ≤ i) (g : ∀ i, G i → w.heap.size ≤ i) (hb : Below w.heap.size w wr) (fx : ¬ F X) (gx : ¬ G X) (hX : wr.heap[X]? = some (.cells #[.int .i64 d, .int .i64 id, .int .i64 key] 31 (0, 0))) (hXl : X < wr.heap.size) (t : Touch G wr w') (s : ∀ i, G' i → G i ∨ wr.heap.size ≤ i) : Tri w w' H R l L' X d id key := by
  refine ⟨F, G', a.keep t (fun i hi e => dd i hi e), b, fun i hi e => ?_, f, fun i hi => ?_, hb.trans (t.below hb.size g), fx, fun e => ?_, (t.block X hXl gx).trans hX, Nat.lt_of_lt_of_le hXl t.size⟩
  · rcases s i e with h | h
    · exact dd i hi h
    · have := a.lt i hi; omega
  · rcases s i hi with h | h
    · exact g i h
    · have := hb.size; omega
  · rcases s X e with h | h
    · exact gx h
    · omega
/-- Two calls, one of the program's heap, one of the document's list, answer the same and keep both matched. -/
def Pair (w : World) (H R : Nat) (l L : List (Int × Int)) (X : Nat) (d id key : Int) (f : FuncId) (fa : Array Value) (g : FuncId) (ga : Array Value) (v : Value) : Prop :=
  ∃ P P' : List (Int × Int) → Prop,
    (∀ wr, Tri w wr H R l L X d id key → Calls Try.prog f fa wr fun e w' => e = .returned v ∧ ∃ l', P l' ∧ Tri w w' H R l' L X d id key) ∧
    (∀ wr l', Tri w wr H R l' L X d id key → Calls Try.prog g ga wr fun e w' => e = .returned v ∧ ∃ L', P' L' ∧ Tri w w' H R l' L' X d id key) ∧
    ∀ l' L', P l' → P' L' → Match l' L' ∧ l'.length ≤ l.length + 1
theorem pair_same {w : World} {H R X : Nat} {l L : List (Int × Int)} {d id key : Int} {f g : FuncId} {fa ga : Array Value} {v : Value} (m : Match l L)
    (hf : ∀ wr, Tri w wr H R l L X d id key → Calls Try.prog f fa wr fun e w' => e = .returned v ∧ wr = w') (hg : ∀ wr l', Tri w wr H R l' L X d id key → Calls Try.prog g ga wr fun e w' => e = .returned v ∧ wr = w') : Pair w H R l L X d id key f fa g ga v :=
  ⟨fun l' => l' = l, fun L' => L' = L, fun wr t => (hf wr t).mono fun e w' ⟨he, hw⟩ => ⟨he, l, rfl, hw ▸ t⟩, fun wr l' t => (hg wr l' t).mono fun e w' ⟨he, hw⟩ => ⟨he, L, rfl, hw ▸ t⟩, fun l' L' e e' => by subst e e'; exact ⟨m, by omega⟩⟩
/-- Where the number stands, or that it stands nowhere. -/
theorem there {l L : List (Int × Int)} (m : Match l L) (hnd : (l.map (·.1)).Nodup) (id : Int) :
    (∃ p q, p < l.length ∧ (it l p).1 = id ∧ q < L.length ∧ it L q = it l p ∧ (it L q).1 = id ∧ (∀ k, k < q → (it L k).1 ≠ id)) ∨ ((∀ k, k < l.length → (it l k).1 ≠ id) ∧ ∀ k, k < L.length → (it L k).1 ≠ id) := by
  by_cases hm : ∃ x ∈ L, x.1 = id
  · obtain ⟨x, hx, e⟩ := hm
    obtain ⟨p, hp, ep⟩ := at_of_mem (m.perm.mem_iff.2 hx)
    obtain ⟨q, hq, eq⟩ := at_of_mem hx
    have hndL : (L.map (·.1)).Nodup := (m.perm.map _).nodup_iff.1 hnd
    exact .inl ⟨p, q, hp, by rw [ep, e], hq, by rw [eq, ep], by rw [eq, e], fun k hk e2 => nodup_first hndL hq k hk (by rw [e2, eq, e])⟩
  · have h1 : ∀ x ∈ L, x.1 ≠ id := fun x hx e => hm ⟨x, hx, e⟩
    exact .inr ⟨not_in (fun x hx => h1 x (m.perm.mem_iff.1 hx)), not_in h1⟩
theorem pair_push {w wr0 : World} {H R X : Nat} {l L : List (Int × Int)} {d id key : Int} (t0 : Tri w wr0 H R l L X d id key) (m : Match l L) (hid : (Lit.int .i64 id).wf = true) (hn : l.length ≤ 1000) :
    ∃ r, Pair w H R l L X d id key 10 #[.pointer (some ⟨H, 0, none⟩), .int .i64 id, .int .i64 key] 11 #[.pointer (some ⟨R, 0, none⟩), .int .i64 id, .int .i64 key] (.int .i64 r) := by
  have hL : L.length ≤ 1000 := by rw [← m.perm.length_eq]; exact hn
  by_cases h0 : id < 0
  · exact ⟨2, pair_same m (fun wr _ => hpush_arg wr H id key h0) (fun wr _ _ => rpush_arg wr R id key h0)⟩
  have h0' : 0 ≤ id := by omega
  rcases there m (two_nodup t0.two) id with ⟨p, q, hp, ep, hq, _, eq, hf⟩ | ⟨n1, n2⟩
  · refine ⟨5, pair_same m (fun wr t => ?_) (fun wr l' t => ?_)⟩
    · obtain ⟨F, G, a, _⟩ := t; exact hpush_busy a id key h0' hid p hp ep
    · obtain ⟨F, G, _, b, _⟩ := t; exact rpush_busy b id key h0' q hq eq hf (by omega)
  · refine ⟨0, fun l' => l'.Perm (l ++ [(id, key)]), fun L' => L'.Perm (L ++ [(id, key)]) ∧ Srt L', fun wr t => ?_, fun wr l' t => ?_, fun l' L' h h' => ⟨⟨h.trans ((m.perm.append_right _).trans h'.1.symm), h'.2, fun x hx => ?_⟩, by rw [h.length_eq]; simp⟩⟩
    · obtain ⟨F, G, a, b, c, f, g, hb, fx, gx, hX, hXl⟩ := t
      refine (hpush_ok a id key h0' hid n1 (by omega)).mono ?_
      rintro e w' ⟨rfl, F', l', a', p', t', s'⟩
      exact ⟨rfl, l', p', tri_left a' b c f g hb fx gx hX hXl t' s'⟩
    · obtain ⟨F, G, a, b, c, f, g, hb, fx, gx, hX, hXl⟩ := t
      refine (rpush_ok b m.srt id key h0' n2 (by omega)).mono ?_
      rintro e w' ⟨rfl, G', L', b', p', s2, t', s'⟩
      exact ⟨rfl, L', ⟨p', s2⟩, tri_right a b' c f g hb fx gx hX hXl t' s'⟩
    · have := h'.1.mem_iff.1 hx
      rw [List.mem_append, List.mem_singleton] at this
      rcases this with h | h
      · exact m.pos x h
      · rw [h]; exact h0'
theorem perm_pos {l l' : List (Int × Int)} {y : Int × Int} (h : (y :: l').Perm l) (hp : ∀ x ∈ l, 0 ≤ x.1) : ∀ x ∈ l', 0 ≤ x.1 := fun x hx => hp x (h.mem_iff.1 (List.mem_cons_of_mem _ hx))
theorem match_cut {l L l' : List (Int × Int)} (m : Match l L) {x : Int × Int} {q : Nat} (hq : q < L.length) (e : it L q = x) (h : (x :: l').Perm l) : Match l' (cut L q) ∧ l'.length ≤ l.length + 1 := by
  have h2 : (x :: l').Perm (x :: cut L q) := (h.trans m.perm).trans (by rw [← e]; exact (cut_perm hq).symm)
  refine ⟨⟨h2.cons_inv, cut_srt m.srt q, perm_pos (cut_perm hq) m.pos⟩, ?_⟩
  have := h.length_eq
  simp at this; omega
theorem pair_drop {w wr0 : World} {H R X : Nat} {l L : List (Int × Int)} {d id key : Int} (t0 : Tri w wr0 H R l L X d id key) (m : Match l L) (hid : (Lit.int .i64 id).wf = true) (hn : l.length ≤ 1000) :
    ∃ r, Pair w H R l L X d id key 15 #[.pointer (some ⟨H, 0, none⟩), .int .i64 id] 14 #[.pointer (some ⟨R, 0, none⟩), .int .i64 id] (.bool r) := by
  have hL : L.length ≤ 1000 := by rw [← m.perm.length_eq]; exact hn
  rcases there m (two_nodup t0.two) id with ⟨p, q, hp, ep, hq, epq, eq, hf⟩ | ⟨n1, n2⟩
  · refine ⟨true, fun l' => (it l p :: l').Perm l, fun L' => L' = cut L q, fun wr t => ?_, fun wr l' t => ?_, fun l' L' h h' => by subst h'; exact match_cut m hq epq h⟩
    · obtain ⟨F, G, a, b, c, f, g, hb, fx, gx, hX, hXl⟩ := t
      refine (hdrop_yes a id hid p hp ep (by omega)).mono ?_
      rintro e w' ⟨rfl, l', a', p', t'⟩
      exact ⟨rfl, l', p', tri_left a' b c f g hb fx gx hX hXl t' (fun i h => .inl h)⟩
    · obtain ⟨F, G, a, b, c, f, g, hb, fx, gx, hX, hXl⟩ := t
      refine (rdrop_yes b id q hq eq hf (by omega)).mono ?_
      rintro e w' ⟨rfl, G', b', t', s'⟩
      exact ⟨rfl, _, rfl, tri_right a b' c f g hb fx gx hX hXl t' s'⟩
  · refine ⟨false, pair_same m (fun wr t => ?_) (fun wr l' t => ?_)⟩
    · obtain ⟨F, G, a, _⟩ := t; exact hdrop_no (place_no a id hid n1)
    · obtain ⟨F, G, _, b, _⟩ := t; exact rdrop_no b id n2 (by omega)
theorem pair_move {w wr0 : World} {H R X : Nat} {l L : List (Int × Int)} {d id key : Int} (t0 : Tri w wr0 H R l L X d id key) (m : Match l L) (hid : (Lit.int .i64 id).wf = true) (hn : l.length ≤ 1000) :
    ∃ r, Pair w H R l L X d id key 16 #[.pointer (some ⟨H, 0, none⟩), .int .i64 id, .int .i64 key] 17 #[.pointer (some ⟨R, 0, none⟩), .int .i64 id, .int .i64 key] (.bool r) := by
  have hL : L.length ≤ 1000 := by rw [← m.perm.length_eq]; exact hn
  have hnd := two_nodup t0.two
  rcases there m hnd id with ⟨p, q, hp, ep, hq, epq, eq, hf⟩ | ⟨n1, n2⟩
  · have hndL : (L.map (·.1)).Nodup := (m.perm.map _).nodup_iff.1 hnd
    have hrest : ∀ k, k < (cut L q).length → (it (cut L q) k).1 ≠ id := by
      refine not_in (fun x hx e => ?_)
      have h1 := ((cut_perm hq).map (·.1)).nodup_iff.2 hndL
      rw [List.map_cons, List.nodup_cons] at h1
      exact h1.1 (by rw [eq, ← e]; exact List.mem_map_of_mem hx)
    have h0 : 0 ≤ id := by rw [← eq]; exact m.pos _ (it_mem hq)
    refine ⟨true, fun l' => l'.Perm (l.set p (id, key)), fun L' => L'.Perm (cut L q ++ [(id, key)]) ∧ Srt L', fun wr t => ?_, fun wr l' t => ?_, fun l' L' h h' => ?_⟩
    · obtain ⟨F, G, a, b, c, f, g, hb, fx, gx, hX, hXl⟩ := t
      refine (hmove_yes a id key hid p hp ep (by omega)).mono ?_
      rintro e w' ⟨rfl, l', a', p', t'⟩
      exact ⟨rfl, l', p', tri_left a' b c f g hb fx gx hX hXl t' (fun i h => .inl h)⟩
    · obtain ⟨F, G, a, b, c, f, g, hb, fx, gx, hX, hXl⟩ := t
      refine (rmove_yes b m.srt id key h0 q hq eq hf hrest (by omega)).mono ?_
      rintro e w' ⟨rfl, G', L', b', p', s2, t', s'⟩
      exact ⟨rfl, L', ⟨p', s2⟩, tri_right a b' c f g hb fx gx hX hXl t' s'⟩
    · have h3 : (it l p :: cut L q).Perm l := by rw [← epq]; exact (cut_perm hq).trans m.perm.symm
      have h4 := h.trans (set_perm hp (id, key) h3)
      refine ⟨⟨h4.trans ((List.perm_append_comm (l₁ := [(id, key)])).trans h'.1.symm), h'.2, fun x hx => ?_⟩, by rw [h.length_eq, List.length_set]; omega⟩
      have hx := h'.1.mem_iff.1 hx
      rw [List.mem_append, List.mem_singleton] at hx
      rcases hx with e | e
      · exact m.pos x ((cut_perm hq).mem_iff.1 (List.mem_cons_of_mem _ e))
      · rw [e]; exact h0
  · refine ⟨false, pair_same m (fun wr t => ?_) (fun wr l' t => ?_)⟩
    · obtain ⟨F, G, a, _⟩ := t; exact hmove_no (place_no a id hid n1)
    · obtain ⟨F, G, _, b, _⟩ := t; exact rmove_no b id key n2 (by omega)
/-- Pop, and the document's own Min and Drop. -/
theorem pair_pop {w wr0 : World} {H R X : Nat} {l L : List (Int × Int)} {d id key : Int} (t0 : Tri w wr0 H R l L X d id key) (m : Match l L) (hn : l.length ≤ 1000) :
    ∃ (x : Int × Int) (b r : Bool) (P P' : List (Int × Int) → Prop), (b = false → x = (0, 0)) ∧
      (∀ wr, Tri w wr H R l L X d id key → Calls Try.prog 12 #[.pointer (some ⟨H, 0, none⟩)] wr fun e w' => e = itemBool x b ∧ ∃ l', P l' ∧ Tri w w' H R l' L X d id key) ∧
      (∀ wr l', Tri w wr H R l' L X d id key → Calls Try.prog 13 #[.pointer (some ⟨R, 0, none⟩)] wr fun e w' => e = itemBool x b ∧ Below wr.heap.size wr w') ∧
      (∀ wr l', Tri w wr H R l' L X d id key → Calls Try.prog 14 #[.pointer (some ⟨R, 0, none⟩), .int .i64 x.1] wr fun e w' => e = .returned (.bool r) ∧ (b = false → wr = w') ∧ ∃ L', P' L' ∧ Tri w w' H R l' L' X d id key) ∧
      ∀ l' L', P l' → P' L' → Match l' L' ∧ l'.length ≤ l.length + 1 := by
  have hL : L.length ≤ 1000 := by rw [← m.perm.length_eq]; exact hn
  have e0 := match_first m (two_hp t0.two)
  rcases Nat.eq_zero_or_pos l.length with h0 | h0
  · have e1 : l = [] := List.eq_nil_of_length_eq_zero h0
    have e2 : L = [] := List.eq_nil_of_length_eq_zero (by rw [← m.perm.length_eq]; exact h0)
    subst e1 e2
    refine ⟨(0, 0), false, false, fun l' => l' = [], fun L' => L' = [], fun _ => rfl, fun wr t => ?_, fun wr l' t => ?_, fun wr l' t => ?_, fun l' L' e e' => by subst e e'; exact ⟨m, by omega⟩⟩
    · obtain ⟨F, G, a, b, c, f, g, hb, fx, gx, hX, hXl⟩ := t
      refine (hpop_none wr _ (fun w' hb' => min_empty (a.below hb'))).mono ?_
      rintro e w' ⟨rfl, t'⟩
      exact ⟨rfl, [], rfl, (show Tri w wr H R [] [] X d id key from ⟨F, G, a, b, c, f, g, hb, fx, gx, hX, hXl⟩).below t'⟩
    · obtain ⟨F, G, _, b, _⟩ := t; exact rmin_none b
    · have t' := t
      obtain ⟨F, G, _, b, _⟩ := t
      refine (rdrop_no b 0 (fun k hk => by cases hk) (by simp)).mono ?_
      rintro e w' ⟨rfl, rfl⟩
      exact ⟨rfl, fun _ => rfl, [], rfl, t'⟩
  · have hL0 : 0 < L.length := by rw [← m.perm.length_eq]; exact h0
    refine ⟨it l 0, true, true, fun l' => (it l 0 :: l').Perm l, fun L' => L' = cut L 0, fun e => (by cases e), fun wr t => ?_, fun wr l' t => ?_, fun wr l' t => ?_, fun l' L' h h' => by subst h'; exact match_cut m hL0 e0.symm h⟩
    · obtain ⟨F, G, a, b, c, f, g, hb, fx, gx, hX, hXl⟩ := t
      refine (hpop_some (n := l.length - 1) a (by omega) (by omega)).mono ?_
      rintro e w' ⟨rfl, l', a', p', t'⟩
      exact ⟨rfl, l', p', tri_left a' b c f g hb fx gx hX hXl t' (fun i h => .inl h)⟩
    · obtain ⟨F, G, _, b, _⟩ := t; rw [e0]; exact rmin_some b hL0
    · obtain ⟨F, G, a, b, c, f, g, hb, fx, gx, hX, hXl⟩ := t
      refine (rdrop_yes b (it l 0).1 0 hL0 (by rw [e0]) (fun k hk => by omega) (by omega)).mono ?_
      rintro e w' ⟨rfl, G', b', t', s'⟩
      exact ⟨rfl, fun e => (by cases e), _, rfl, tri_right a b' c f g hb fx gx hX hXl t' s'⟩
theorem num_any (w : World) (x : Int) : Calls Try.prog 9 #[.int .i64 x] w fun e w' => e = .returned (.int .i64 x) ∧ w = w' := by
  go_enter Try.func9, Try.ntmps9
  go_wp2_with fail
  go_ret
  exact ⟨rfl, rfl⟩
/-- Both tell the same smallest. -/
theorem tri_tell {w wr0 : World} {H R X : Nat} {l L : List (Int × Int)} {d id key : Int} (t0 : Tri w wr0 H R l L X d id key) (m : Match l L) :
    ∃ (x : Int × Int) (b : Bool), (∀ wr, Tri w wr H R l L X d id key → Calls Try.prog 18 #[.pointer (some ⟨H, 0, none⟩)] wr fun e w' => e = itemBool x b ∧ Below wr.heap.size wr w') ∧
      ∀ wr, Tri w wr H R l L X d id key → Calls Try.prog 13 #[.pointer (some ⟨R, 0, none⟩)] wr fun e w' => e = itemBool x b ∧ Below wr.heap.size wr w' := by
  have e0 := match_first m (two_hp t0.two)
  have e1 := m.perm.length_eq
  refine ⟨it l 0, decide (0 < l.length), fun wr t => two_min t.two, fun wr t => ?_⟩
  rw [e0, e1]; exact two_rmin t.two
theorem tri_has {w wr0 : World} {H R X : Nat} {l L : List (Int × Int)} {d id key : Int} (t0 : Tri w wr0 H R l L X d id key) (m : Match l L) (hid : (Lit.int .i64 id).wf = true) (hn : L.length ≤ 1000) :
    ∃ b : Bool, (∀ wr, Tri w wr H R l L X d id key → Calls Try.prog 20 #[.pointer (some ⟨H, 0, none⟩), .int .i64 id] wr fun e w' => e = .returned (.bool b) ∧ wr = w') ∧
      ∀ wr, Tri w wr H R l L X d id key → Calls Try.prog 21 #[.pointer (some ⟨R, 0, none⟩), .int .i64 id] wr fun e w' => e = .returned (.bool b) ∧ wr = w' := by
  rcases there m (two_nodup t0.two) id with ⟨p, q, hp, ep, hq, epq, eq, hf⟩ | ⟨n1, n2⟩
  · refine ⟨true, fun wr t => ?_, fun wr t => ?_⟩
    · obtain ⟨F, G, a, _⟩ := t; exact has_of_place (place_yes a id hid p hp ep)
    · obtain ⟨F, G, _, b, _⟩ := t; exact rhas_yes b id q hq eq hf (by omega)
  · refine ⟨false, fun wr t => ?_, fun wr t => ?_⟩
    · obtain ⟨F, G, a, _⟩ := t; exact has_of_place (place_no a id hid n1)
    · obtain ⟨F, G, _, b, _⟩ := t; exact rhas_no b id n2 (by omega)
theorem tri_len {w wr : World} {H R X : Nat} {l L : List (Int × Int)} {d id key : Int} (t : Tri w wr H R l L X d id key) (m : Match l L) : Calls Try.prog 22 #[.pointer (some ⟨H, 0, none⟩)] wr fun e w' => e = .returned (.int .i64 (L.length : Int)) ∧ wr = w' := by
  rw [← m.perm.length_eq]; exact two_len t.two
theorem match_all {w wr : World} {H R : Nat} {l L : List (Int × Int)} (t : Two w wr H R l L) (m : Match l L) (hn : L.length ≤ 1000) : Calls Try.prog 19 #[.pointer (some ⟨H, 0, none⟩)] wr fun e w' => ∃ v, e = .returned v ∧ w'.ownsRow wr.heap.size 37 2 v L.length (cellsIt L) ∧ Below wr.heap.size wr w' := by
  have h := two_all t (by rw [m.perm.length_eq]; omega)
  rw [ord_unique m.perm.symm m.srt, m.perm.length_eq] at h
  exact h
theorem Over.form {wA wr : World} {A : Option Addr} {n c : Nat} (h : Over wA wr (.slice A n c) n) (hn : 0 < n) : ∃ g, A = some ⟨g, 0, none⟩ := by
  obtain ⟨ys, ho⟩ := h.row
  obtain ⟨g, c', e, _⟩ := ho.form hn
  injection e with e _ _
  exact ⟨g, e⟩
theorem Over.cells {wA wr : World} {g n c k : Nat} (h : Over wA wr (.slice (some ⟨g, 0, none⟩) n c) n) (hk : k < n) :
    (∃ u v, wr.cell? ⟨g, k * 2, none⟩ = some u ∧ wr.cell? ⟨g, k * 2 + 1, none⟩ = some v) ∧ wr.frozen? ⟨g, k * 2, none⟩ = false ∧ wr.frozen? ⟨g, k * 2 + 1, none⟩ = false := by
  obtain ⟨ys, ho⟩ := h.row
  have hl : ys.length = n * 2 := ho.1
  have h0 := ho.cellAt (k * 2) (by omega)
  have h1 := ho.cellAt (k * 2 + 1) (by omega)
  rw [List.getElem?_eq_getElem (by omega)] at h0 h1
  exact ⟨⟨_, _, h0, h1⟩, ho.frozenAt _, ho.frozenAt _⟩
end Go.Proofs.Ytllfpfgboeabnaa
