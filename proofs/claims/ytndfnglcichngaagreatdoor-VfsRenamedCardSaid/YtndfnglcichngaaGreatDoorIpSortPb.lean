/-
  slices.SortFunc over entries by their names: an entry behind others that are in order is put in its place.
-/
import Derived.Test.YtndfnglcichngaaGreatDoorPa16
import Derived.Test.YtndfnglcichngaaGreatDoorIpShelf
namespace Go.Proofs.YtndfnglcichngaaGreatDoor
open Go.ChangeShapes Go.WideShapes Go.ChangeAt Go.RowKit
set_option linter.unusedVariables false
set_option linter.unusedSimpArgs false
theorem lt_sgnT (x y : Txt) : Go.Proofs.ltOf sgnT x y = ltT x y := by
  unfold Go.Proofs.ltOf
  have := sgnT_neg x y
  cases h : ltT x y with
  | true => exact decide_eq_true (this.2 h)
  | false => exact decide_eq_false (fun e => by rw [this.1 e] at h; cases h)
theorem swo_T : Go.Sort.SWO (Go.Proofs.ltOf sgnT) where
  irrefl x := by rw [lt_sgnT]; exact ltT_irr x
  trans x y z h1 h2 := by rw [lt_sgnT] at *; exact ltT_trans h1 h2
  ntrans x y z h1 h2 := by
    rw [lt_sgnT] at *
    cases h : ltT x z with
    | false => rfl
    | true =>
      rcases ltT_tri x y with k | k | k
      · rw [k] at h1; cases h1
      · rw [k, h2] at h; cases h
      · have := ltT_trans k h
        rw [this] at h2; cases h2
/-- An entry by its name. -/
def encT (f : Txt → Nat) (t : Txt) : List Value := [.string (bt t), .int .i64 (f t : Int)]
theorem flat_T (f : Txt → Nat) (l : List Ent) (h : ∀ x ∈ l, f x.nm = x.id) : Go.Sort.flatK (encT f) 2 (l.map Ent.nm).toArray = (l.flatMap enV).toArray := by
  apply Array.ext
  · rw [Go.Sort.size_flatK]; simp [flat_length enV_len]
  · intro t h1 h2
    have ht : t < l.length * 2 := by simpa [Go.Sort.size_flatK] using h1
    have e1 := Go.Sort.get_flatK (encT f) 2 (l.map Ent.nm).toArray t (by simpa using ht)
    rw [getElem!_pos _ t h1] at e1
    rw [e1]
    have hj : t / 2 < l.length := by omega
    have e2 : (l.map Ent.nm).toArray[t / 2]! = l[t / 2].nm := by rw [getElem!_pos _ _ (by simpa using hj)]; simp
    rw [e2]
    have hx : l[t / 2]? = some l[t / 2] := List.getElem?_eq_getElem hj
    have hf := h l[t / 2] (List.getElem_mem hj)
    have e3 := flat_at enV_len (j := t % 2) hx (by omega)
    rw [show t / 2 * 2 + t % 2 = t from by omega] at e3
    have e4 : (l.flatMap enV)[t]? = some ((l.flatMap enV).toArray[t]) := by simp
    rw [e4] at e3
    rcases Nat.mod_two_eq_zero_or_one t with h5 | h5
    · rw [h5] at e3 ⊢
      have e5 : (l.flatMap enV).toArray[t] = .string (bt l[t / 2].nm) := Option.some.inj e3
      rw [e5]; rfl
    · rw [h5] at e3 ⊢
      have e5 : (l.flatMap enV).toArray[t] = .int .i64 (l[t / 2].id : Int) := Option.some.inj e3
      rw [e5]; show (encT f l[t / 2].nm)[1]! = _; unfold encT; rw [hf]; rfl
theorem insL_perm (l : List Ent) (e : Ent) : (insL l e).Perm (l ++ [e]) := by
  induction l with
  | nil => exact List.Perm.refl _
  | cons x l ih =>
    unfold insL
    split
    · exact (List.perm_append_comm (l₁ := [e]) (l₂ := x :: l))
    · exact List.Perm.cons _ ih
theorem sort_ins {l : List Ent} {e : Ent} (hs : l.Pairwise fun a b => ltT a.nm b.nm = true) (hn : ∀ x ∈ l, x.nm ≠ e.nm) : ((l ++ [e]).map Ent.nm).mergeSort (fun x y => !(Go.Proofs.ltOf sgnT) y x) = (insL l e).map Ent.nm := by
  have hp : (((l ++ [e]).map Ent.nm).mergeSort (fun x y => !(Go.Proofs.ltOf sgnT) y x)).Perm ((insL l e).map Ent.nm) := (List.mergeSort_perm _ _).trans ((insL_perm l e).map _).symm
  have h1 := List.pairwise_mergeSort (le := fun x y : Txt => !(Go.Proofs.ltOf sgnT) y x) (fun a b c h1 h2 => by
    rw [lt_sgnT, Bool.not_eq_true'] at *
    cases h : ltT c a with
    | false => rfl
    | true =>
      rcases ltT_tri a b with k | k | k
      · have := ltT_trans h k; rw [this] at h2; cases h2
      · rw [← k, h] at h2; cases h2
      · rw [k] at h1; cases h1) (fun a b => by
    rw [lt_sgnT, lt_sgnT, Bool.or_eq_true, Bool.not_eq_true', Bool.not_eq_true']
    cases h : ltT b a
    · exact .inl rfl
    · exact .inr (ltT_asym h)) ((l ++ [e]).map Ent.nm)
  have h2 : ((insL l e).map Ent.nm).Pairwise fun a b => (!(Go.Proofs.ltOf sgnT) b a) = true := by
    rw [List.pairwise_map]
    exact (insL_srt hs hn).imp (fun h => by rw [lt_sgnT, ltT_asym h]; rfl)
  refine List.Perm.eq_of_pairwise (le := fun a b => (!(Go.Proofs.ltOf sgnT) b a) = true) (fun a b _ _ h3 h4 => ?_) h1 h2 hp
  rw [lt_sgnT, Bool.not_eq_true'] at h3 h4
  rcases ltT_tri a b with k | k | k
  · rw [k] at h4; cases h4
  · exact k
  · rw [k] at h3; cases h3
theorem heap_sortedE {w : World} {g n : Nat} {os : Array Obj} {cur : Array Value} {e : TypeId} {fr : Nat × Nat} (d : Array Value) (hb : w.heap[g]? = some (.cells cur e fr)) :
    (Go.Sort.grow (Go.Sort.putRow id (Go.Sort.ahead w n) g 0 d) os).heap[g]? = some (.cells (Go.Sort.putCells id 0 d cur) e fr) := by
  have hg : g < w.heap.size := (Array.getElem?_eq_some_iff.1 hb).1
  rw [Go.Sort.heap_grow_old _ _ (by simpa using hg)]
  simp [Go.Sort.putRow, Go.Sort.mapBlock, Go.Sort.ahead, Array.getElem?_modify, hb, Go.Sort.onCells]
theorem touch_sortedE {w : World} {g n : Nat} {os : Array Obj} (d : Array Value) : Touch (fun k => k = g) w (Go.Sort.grow (Go.Sort.putRow id (Go.Sort.ahead w n) g 0 d) os) := by
  refine ⟨rfl, rfl, rfl, by simp, fun k hk hne => ?_⟩
  rw [Go.Sort.heap_grow_old _ _ (by simpa using hk)]
  have : g ≠ k := fun e => hne e.symm
  simp [Go.Sort.putRow, Go.Sort.mapBlock, Go.Sort.ahead, Array.getElem?_modify, this]
theorem take_putCellsE (cur : Array Value) (ts : List Value) (h : ts.length ≤ cur.size) : (Go.Sort.putCells id 0 ts.toArray cur).toList.take ts.length = ts := by
  apply List.ext_getElem?
  intro j
  by_cases hj : j < ts.length
  · rw [List.getElem?_take_of_lt hj, Array.getElem?_toList]
    simp [Go.Sort.putCells, hj, show j < cur.size by omega]
  · rw [List.getElem?_take_eq_none (by omega), List.getElem?_eq_none (by omega)]
theorem eg_byname (args : Array Value) (w : World) : (callFunc 125 args).run Tryz.prog w = .ok (.enter 125 args) w := enters_of Tryz.func125 (by kernel_rfl) rfl args w
theorem byname_grow (a b : Txt) (p q : Int) (w : World) : Calls Tryz.prog 125 (#[.agg #[.string (bt a), .int .i64 p], .agg #[.string (bt b), .int .i64 q]] ++ #[]) w fun e w' => e = .returned (.int .i64 (sgnT a b)) ∧ ∃ q os', w' = Go.Sort.grow (w.drewN q) os' := by
  rw [Array.append_empty]
  go_enter Tryz.func125, Tryz.ntmps125
  go_wp2_with (go_at_call 140; refine (sgnT_any a b _).mono ?_; rintro e w' ⟨rfl, rfl⟩)
  go_ret
  exact ⟨rfl, 0, _, by rw [Go.Sort.alloc_eq_grow, Go.Sort.alloc_eq_grow, Go.Sort.grow_grow]; rfl⟩
/-- slices.SortFunc over a row whose last entry is new. -/
theorem sortE_any (w : World) (g c B : Nat) (l : List Ent) (e : Ent) (hs : l.Pairwise fun a b => ltT a.nm b.nm = true) (hn : ∀ x ∈ l, x.nm ≠ e.nm) (h : w.ownsRow B 105 2 (.slice (some ⟨g, 0, none⟩) (l ++ [e]).length c) (l ++ [e]).length ((l ++ [e]).flatMap enV)) (h8 : l.length ≤ 8) :
    Calls Tryz.prog 124 #[.slice (some ⟨g, 0, none⟩) (l ++ [e]).length c, .func (.func 125) #[] #[]] w fun en w' => en = .returned (.tuple #[]) ∧
      w'.ownsRow B 105 2 (.slice (some ⟨g, 0, none⟩) (l ++ [e]).length c) (l ++ [e]).length ((insL l e).flatMap enV) ∧ Touch (fun k => k = g) w w' := by
  obtain ⟨M, hM⟩ : ∃ M, M = l ++ [e] := ⟨_, rfl⟩
  obtain ⟨f, hf⟩ : ∃ f : Txt → Nat, ∀ x ∈ M, f x.nm = x.id := by
    refine ⟨fun t => (findL M t).getD 0, fun x hx => ?_⟩
    have hnd : ∀ x ∈ M, ∀ y ∈ M, x.nm = y.nm → x.id = y.id := by
      have hw := insL_srt hs hn
      have key : ∀ x ∈ insL l e, ∀ y ∈ insL l e, x.nm = y.nm → x.id = y.id := fun x hx y hy hxy => by
        obtain ⟨i, hi, rfl⟩ := List.getElem_of_mem hx
        obtain ⟨j, hj, rfl⟩ := List.getElem_of_mem hy
        rcases Nat.lt_trichotomy i j with k | k | k
        · exact absurd hxy (ltT_ne (List.pairwise_iff_getElem.1 hw i j hi hj k))
        · subst k; rfl
        · exact absurd hxy.symm (ltT_ne (List.pairwise_iff_getElem.1 hw j i hj hi k))
      intro x hx y hy
      rw [hM] at hx hy
      exact key x ((insL_perm l e).mem_iff.2 hx) y ((insL_perm l e).mem_iff.2 hy)
    cases e2 : findL M x.nm with
    | none => exact absurd rfl (findL_none.1 e2 x hx)
    | some i =>
      obtain ⟨p, y, q, hl, hny, hyi, _⟩ := findL_some e2
      have hy : y ∈ M := by rw [hl]; simp
      show (findL M x.nm).getD 0 = x.id
      rw [e2]
      show i = x.id
      rw [← hyi]
      exact hnd y hy x hx hny
  have hf2 : ∀ x ∈ insL l e, f x.nm = x.id := fun x hx => hf x (by rw [hM]; exact (insL_perm l e).mem_iff.1 hx)
  have hSort := sort_ins hs hn
  have hLen : (insL l e).length = M.length := by rw [hM]; exact (insL_perm l e).length_eq
  have hM8 : M.length ≤ 9 := by rw [hM]; simp; omega
  rw [← hM] at h hSort ⊢
  obtain ⟨_, hh⟩ := id h
  rcases hh with ⟨hn0, _⟩ | ⟨g', cap, cur, e1, e2, e3, e4, e5, e6, e7⟩
  · cases hn0
  injection e1 with e1 _ ec
  injection e1 with e1
  injection e1 with e1
  subst e1 ec
  have fl : (M.flatMap enV).length = M.length * 2 := flat_length enV_len M
  have hH : Go.Sort.HoldsK (encT f) 2 w g 0 (M.map Ent.nm).toArray := by
    unfold Go.Sort.HoldsK
    rw [flat_T f M hf]
    intro j hj
    have hj' : j < (M.flatMap enV).length := by simpa using hj
    rw [Nat.zero_add]
    refine ⟨?_, frozen_of_row _ _ _ _ _ e3⟩
    rw [h.cellAt j (by rw [fl] at hj'; exact hj'), List.getElem?_eq_getElem hj']
    rw [getElem!_pos _ j hj]; simp
  have hcmp : Go.Proofs.CmpLays Tryz.prog 125 #[] (encT f) 2 sgnT g 0 (M.map Ent.nm).toArray.size w := fun m os dk _ x y => by
    exact byname_grow x y _ _ _
  have hcon := Go.Proofs.AnyQ.slices_SortFunc_total Tryz.sortEn 2 Tryz.isAgg105 Tryz.sizeOf105 (encT f) (fun _ => rfl) (fun x v hv => by simp [encT] at hv; rcases hv with rfl | rfl <;> rfl) sgnT swo_T 125 #[] g 0 c (M.map Ent.nm).toArray w eg_byname hcmp hH (Array.getElem?_eq_some_iff.1 e3).1 (by simp; omega)
    (fun x y h1 h2 => by
      rw [lt_sgnT] at h1 h2
      rcases ltT_tri x y with k | k | k
      · rw [k] at h1; cases h1
      · exact k
      · rw [k] at h2; cases h2)
  change Calls Tryz.prog 124 _ _ _ at hcon
  have hs2 : (M.map Ent.nm).toArray.size = M.length := by simp
  rw [hs2] at hcon
  refine hcon.mono fun en w' ⟨he, n, os, hw⟩ => ⟨he, ?_⟩
  have hw : w' = Go.Sort.grow (Go.Sort.putRow id (Go.Sort.ahead w n) g 0 ((insL l e).flatMap enV).toArray) os := by
    rw [hw, ← flat_T f _ hf2, ← hSort]; rfl
  subst hw
  have hlen : ((insL l e).flatMap enV).length = M.length * 2 := by rw [flat_length enV_len, hLen]
  refine ⟨⟨hlen, .inr ⟨g, c, _, rfl, e2, heap_sortedE _ e3, e4, e5, by simp [Go.Sort.putCells, e6], ?_⟩⟩, touch_sortedE _⟩
  rw [← hlen]
  exact take_putCellsE cur _ (by rw [hlen, e6]; exact Nat.mul_le_mul_right 2 e4)
end Go.Proofs.YtndfnglcichngaaGreatDoor
