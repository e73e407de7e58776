/-
  slices.BinarySearch, Insert, Delete and Clone over rows of integers of one's own, by the library's contracts.
-/
import Derived.Test.YtmclifmdlcofaaaIlShelf
import Derived.Test.YtmclifmdlcofaaaTouch
import Derived.Lib.SliceRun
namespace Go.Proofs.Ytmclifmdlcofaaa
open Go.ChangeShapes Go.WideShapes Go.ChangeAt Go.RowKit
set_option linter.unusedVariables false
/-- Cells written one behind the other. -/
def putV (cur : Array Value) (o : Nat) : List Value → Array Value
  | [] => cur
  | v :: r => putV (cur.setIfInBounds o v) (o + 1) r
theorem size_putV (vs : List Value) : ∀ (cur : Array Value) (o : Nat), (putV cur o vs).size = cur.size := by
  induction vs with
  | nil => intro cur o; rfl
  | cons v r ih => intro cur o; rw [putV, ih]; simp
theorem get_putV (vs : List Value) : ∀ (cur : Array Value) (o j : Nat), o + vs.length ≤ cur.size → (putV cur o vs)[j]? = if o ≤ j ∧ j < o + vs.length then vs[j - o]? else cur[j]? := by
  induction vs with
  | nil => intro cur o j h; rw [if_neg (by simp only [List.length_nil]; omega)]; rfl
  | cons v r ih =>
    intro cur o j h
    simp only [List.length_cons] at h ⊢
    rw [putV, ih _ _ _ (by simp; omega)]
    by_cases h1 : o = j
    · subst h1
      rw [if_neg (by omega), if_pos (by omega), Nat.sub_self, Array.getElem?_setIfInBounds_self_of_lt (by omega)]
      rfl
    · by_cases h2 : o + 1 ≤ j ∧ j < o + 1 + r.length
      · rw [if_pos h2, if_pos (by omega), show j - o = (j - (o + 1)) + 1 from by omega]
        rfl
      · rw [if_neg h2, if_neg (by omega), Array.getElem?_setIfInBounds_ne h1]
theorem heap_setCells (vs : List Value) : ∀ (w : World) (g o : Nat) (cur : Array Value) (e : TypeId), w.heap[g]? = some (.cells cur e (0, 0)) → (w.setCells g o vs).heap[g]? = some (.cells (putV cur o vs) e (0, 0)) := by
  induction vs with
  | nil => intro w g o cur e h; exact h
  | cons v r ih => intro w g o cur e h; exact ih _ g (o + 1) _ e (heap_setCell_same w g o cur e v h)
theorem Touch.setCells {S : Nat → Prop} {g : Nat} (hg : S g) (vs : List Value) : ∀ {w w' : World} (o : Nat), Touch S w w' → Touch S w (w'.setCells g o vs) := by
  induction vs with
  | nil => intro w w' o h; exact h
  | cons v r ih => intro w w' o h; exact ih (o + 1) (h.setCell (p := ⟨g, o, none⟩) hg v)
theorem touch_row {g n c : Nat} {w w' : World} (h : Touch (fun i => i = g) w w') : Touch (fun i => (Value.slice (some ⟨g, 0, none⟩) n c).ownBlock = some i) w w' := h.mono fun i e => by rw [e]; rfl
theorem ints_at (l : List Int) (j : Nat) (v : Value) (h : (l.map (Value.int .i64))[j]? = some v) : ∃ x, l[j]? = some x ∧ v = .int .i64 x := by
  rw [List.getElem?_map] at h
  cases hl : l[j]? with
  | none => rw [hl] at h; cases h
  | some x => rw [hl] at h; injection h with h; exact ⟨x, rfl, h.symm⟩
theorem row_cells {w : World} {B g c n : Nat} {xs : List Value} (h : w.ownsRow B 3 1 (.slice (some ⟨g, 0, none⟩) n c) n xs) : ∃ cur, w.heap[g]? = some (.cells cur 3 (0, 0)) ∧ n ≤ c ∧ c ≤ maxLen ∧ cur.size = c ∧ cur.toList.take n = xs := by
  obtain ⟨_, hh⟩ := h
  rcases hh with ⟨hn0, _⟩ | ⟨g', cap, cur, e1, e2, e3, e4, e5, e6, e7⟩
  · cases hn0
  injection e1 with e1 _ ec
  injection e1 with e1
  injection e1 with e1
  subst e1 ec
  exact ⟨cur, e3, e4, e5, by omega, by simpa using e7⟩
/-- A list with one put in between. -/
def insAt (l : List Int) (p : Nat) (t : Int) : List Int := l.take p ++ t :: l.drop p
theorem insAt_len (l : List Int) (p : Nat) (t : Int) (h : p ≤ l.length) : (insAt l p t).length = l.length + 1 := by unfold insAt; simp; omega
theorem insAt_get (l : List Int) (p : Nat) (t : Int) (h : p ≤ l.length) (j : Nat) : (insAt l p t)[j]? = if j < p then l[j]? else if j = p then some t else l[j - 1]? := by
  unfold insAt
  by_cases h1 : j < p
  · rw [if_pos h1, List.getElem?_append_left (by simp; omega), List.getElem?_take_of_lt h1]
  · rw [if_neg h1, List.getElem?_append_right (by simp; omega)]
    have e : (l.take p).length = p := by simp; omega
    rw [e]
    by_cases h2 : j = p
    · subst h2; simp
    · rw [if_neg h2, show j - p = (j - p - 1) + 1 from by omega, List.getElem?_cons_succ, List.getElem?_drop]
      congr 1; omega
theorem own_of_cells {w : World} {g n c : Nat} {cur : Array Value} {xs : List Int} (h : w.heap[g]? = some (.cells cur 3 (0, 0))) (hn : xs.length = n) (hc : n ≤ c) (hm : c ≤ maxLen) (hs : cur.size = c) (hg : ∀ j, j < n → cur[j]? = (xs[j]?).map (Value.int .i64)) :
    w.ownsRow 0 3 1 (.slice (some ⟨g, 0, none⟩) n c) n (xs.map (Value.int .i64)) := by
  refine ⟨by simp [hn], .inr ⟨g, c, cur, rfl, Nat.zero_le _, h, hc, hm, by omega, ?_⟩⟩
  rw [Nat.mul_one]
  apply List.ext_getElem?
  intro j
  by_cases hj : j < n
  · rw [List.getElem?_take_of_lt hj, Array.getElem?_toList, hg j hj, List.getElem?_map]
  · rw [List.getElem?_take_eq_none (by omega), List.getElem?_eq_none (by simp; omega)]
theorem cur_get {cur : Array Value} {n : Nat} {l : List Int} (h : cur.toList.take n = l.map (Value.int .i64)) {j : Nat} (hj : j < n) : cur[j]? = (l[j]?).map (Value.int .i64) := by
  have := congrArg (fun x : List Value => x[j]?) h
  simp only [List.getElem?_take_of_lt hj, Array.getElem?_toList, List.getElem?_map] at this
  exact this
set_option maxRecDepth 10000 in
set_option maxHeartbeats 4000000 in
theorem search_nil (w : World) (t : Int) :
    Calls Try.prog 27 #[.slice none 0 0, .int .i64 t] w fun e w' => e = .returned (.tuple #[.int .i64 0, .bool false]) ∧ Below w.heap.size w w' := by
  go_enter Try.func27, Try.ntmps27
  go_wp2_with fail
  go_loopw [7, 8] (fun iv jv wr => iv = .int .i64 0 ∧ jv = .int .i64 0 ∧ w = wr) (fun _ _ _ => 0)
  case atStart => exact ⟨rfl, rfl, rfl⟩
  case round =>
    obtain ⟨rfl, rfl, rfl⟩ := hrel
    go_wp2_with fail
    go_ret2
    exact ⟨rfl, Below.refl _ _⟩
/-- slices.BinarySearch over a rising row. -/
theorem search_any {w : World} {B : Nat} {v : Value} {l : List Int} (ho : w.ownsRow B 3 1 v l.length (l.map (Value.int .i64))) (hs : l.Pairwise (· < ·)) (hn : l.length ≤ 1000000) (t : Int) :
    Calls Try.prog 27 #[v, .int .i64 t] w fun e w' => e = .returned (.tuple #[.int .i64 ((l.countP fun x => decide (x < t) : Nat) : Int), .bool (decide (t ∈ l))]) ∧ Below w.heap.size w w' := by
  obtain ⟨_, hh⟩ := _root_.id ho
  rcases hh with ⟨rfl, h0⟩ | ⟨g, c, cur, rfl, e2, e3, e4, e5, e6, e7⟩
  · have hz : l = [] := List.eq_nil_of_length_eq_zero h0
    subst hz
    exact search_nil w t
  · have hcon := Go.Proofs.Any.slices_BinarySearch_int Try.searchI g 0 l.length c l t w (Nat.le_refl _) (by omega)
      (fun j hj => by rw [Nat.zero_add, ho.cellAt j (by simpa using hj), List.getElem?_map, List.getElem?_eq_getElem hj]; simp [List.getD, hj])
      (by rw [List.take_length]; exact hs.imp (fun h => by omega))
    change Calls Try.prog 27 _ _ _ at hcon
    refine hcon.mono fun e w' ⟨he, q, hw⟩ => ⟨?_, by rw [hw]; exact below_drewN (Below.refl _ _) _⟩
    rw [he, List.take_length]
    simp
/-- slices.Clone. -/
theorem clone_any {w : World} {B : Nat} {v : Value} {l : List Int} (ho : w.ownsRow B 3 1 v l.length (l.map (Value.int .i64))) (hn : l.length ≤ 1000000) :
    Calls Try.prog 32 #[v] w fun e w' => ∃ u, e = .returned u ∧ w'.ownsRow w.heap.size 3 1 u l.length (l.map (Value.int .i64)) ∧ Below w.heap.size w w' := by
  obtain ⟨_, hh⟩ := _root_.id ho
  rcases hh with ⟨rfl, h0⟩ | ⟨g, c, cur, rfl, e2, e3, e4, e5, e6, e7⟩
  · have hz : l = [] := List.eq_nil_of_length_eq_zero h0
    subst hz
    have hcon := Go.Proofs.Any.slices_Clone_int_nil Try.cloneI 0 0 w
    change Calls Try.prog 32 _ _ _ at hcon
    exact hcon.mono fun e w' ⟨he, hw⟩ => ⟨_, he, World.ownsRow_nil _ _ _ _, by rw [hw]; exact Below.refl _ _⟩
  · have hcon := Go.Proofs.Any.slices_Clone_int Try.cloneI g 0 l.length c l w (Nat.le_refl _) (by omega)
      (fun j hj => by rw [Nat.zero_add, ho.cellAt j (by simpa using hj), List.getElem?_map, List.getElem?_eq_getElem hj]; simp [List.getD, hj])
    change Calls Try.prog 32 _ _ _ at hcon
    refine hcon.mono fun e w' ⟨u, he, hw, _, hb⟩ => ⟨u, he, ?_, hb⟩
    rw [List.take_length] at hw
    exact hw
/-- What an Insert leaves. -/
def Inserted (w w' : World) (v : Value) (l : List Int) (p : Nat) (t : Int) (u : Value) : Prop :=
  w'.ownsRow 0 3 1 u (l.length + 1) ((insAt l p t).map (Value.int .i64)) ∧ Touch (fun i => v.ownBlock = some i) w w' ∧ (u.ownBlock = v.ownBlock ∨ u.ownBlock = some w.heap.size) ∧ u.ownBlock ≠ none
theorem oneI (l : List Int) : ∀ v ∈ l.map (Value.int .i64), v.oneCell' = true := by
  intro v hv
  obtain ⟨x, _, rfl⟩ := List.mem_map.1 hv
  rfl
/-- slices.Insert of one. -/
theorem ins_any {w : World} {B : Nat} {v : Value} {l : List Int} (ho : w.ownsRow B 3 1 v l.length (l.map (Value.int .i64))) (hn : l.length ≤ 1000000) {p : Nat} (hp : p ≤ l.length) {vb : Nat} {t : Int}
    (hv : w.heap[vb]? = some (.cells #[.int .i64 t] 3 (0, 0))) (hne : v.ownBlock ≠ some vb) :
    Calls Try.prog 28 #[v, .int .i64 (p : Int), .slice (some ⟨vb, 0, none⟩) 1 1] w fun e w' => ∃ u, e = .returned u ∧ Inserted w w' v l p t u := by
  have hvs : ∀ j x, ([Value.int .i64 t])[j]? = some x → w.cell? ⟨vb, 0 + j, none⟩ = some x := fun j x hj => by
    cases j with
    | zero => injection hj with hj; subst hj; simp [World.cell?, hv]
    | succ j => cases hj
  have h1v : ∀ x ∈ [Value.int .i64 t], x.oneCell' = true := fun x hx => by rw [List.mem_singleton.1 hx]; rfl
  have hvf : ∀ j, w.frozen? ⟨vb, j, none⟩ = false := fun j => frozen_of_row _ _ _ _ _ hv
  obtain ⟨_, hh⟩ := _root_.id ho
  rcases hh with ⟨rfl, h0⟩ | ⟨g, c, cur, rfl, e2, e3, e4, e5, e6, e7⟩
  · have hz : l = [] := List.eq_nil_of_length_eq_zero h0
    subst hz
    obtain rfl : p = 0 := by simpa using hp
    have hcon := Go.Proofs.Any2.slices_Insert_int_end_grow Try.insI none 0 0 vb 0 1 1 [] [Value.int .i64 t] w (by omega) (by omega) (by omega) (by omega) rfl rfl (fun _ => rfl) (fun a h => by cases h) hvs h1v
    change Calls Try.prog 28 _ _ _ at hcon
    refine hcon.mono fun e w' ⟨he, hw⟩ => ⟨_, he, ?_⟩
    subst hw
    have hge := grownCap_ge w (0 + 1) 0 3
    have hle := grownCap_le_maxLen w (0 + 1) 0 3 (by unfold maxLen; omega)
    refine ⟨own_of_cells (by exact heap_alloc_new _ _) rfl hge hle ?_ ?_, Touch.of_below ((below_drewN (Below.refl _ _) 1).alloc (Nat.le_refl _) _), .inr rfl, by simp [Value.ownBlock]⟩
    · change (_ ++ Builtin.zeroCells _ (grownCap w (0 + 1) 0 3 - (0 + 1))).size = grownCap w (0 + 1) 0 3
      rw [Array.size_append, size_zeroCells]
      generalize grownCap w (0 + 1) 0 3 = cp at hge ⊢
      simp [Value.cells]
      omega
    · intro j hj
      have : j = 0 := by omega
      subst this
      rw [Array.getElem?_append_left (by simp)]
      rfl
  · have hg : g < w.heap.size := lt_of_heap e3
    have hgv : g ≠ vb := fun e => hne (by rw [e]; rfl)
    have hcl : (l.map (Value.int .i64)).length = l.length := by simp
    have hcs : ∀ j x, (l.map (Value.int .i64))[j]? = some x → w.cell? ⟨g, 0 + j, none⟩ = some x := fun j x hj => by
      have hj' : j < l.length := by have := (List.getElem?_eq_some_iff.1 hj).1; simpa using this
      rw [Nat.zero_add, ho.cellAt j (by simpa using hj')]; exact hj
    have h7 : cur.toList.take l.length = l.map (Value.int .i64) := by simpa using e7
    have h6 : cur.size = c := by omega
    have hfz : ∀ j, w.frozen? ⟨g, j, none⟩ = false := fun j => frozen_of_row _ _ _ _ _ e3
    have hsp : ∀ j, j < c → (w.cell? ⟨g, 0 + j, none⟩).isSome = true := fun j hj => by
      rw [Nat.zero_add]
      simp [World.cell?, e3, h6, hj]
    by_cases hpn : p = l.length
    · subst hpn
      by_cases hr : l.length + 1 ≤ c
      · have hcon := Go.Proofs.Any2.slices_Insert_int_end_room Try.insI g 0 l.length c vb 0 1 1 [Value.int .i64 t] w (by omega) hr (by unfold maxLen at e5; omega) rfl
          (fun j hj => by rw [Nat.zero_add]; have := hsp (l.length + j) (by omega); rwa [Nat.zero_add] at this) (fun j hj => hfz _) hvs h1v
        change Calls Try.prog 28 _ _ _ at hcon
        refine hcon.mono fun e w' ⟨he, hw⟩ => ⟨_, he, ?_⟩
        subst hw
        refine ⟨own_of_cells (heap_setCells _ _ _ _ _ _ e3) (insAt_len _ _ _ hp) hr e5 (by rw [size_putV]; exact h6) ?_, touch_row (Touch.setCells (S := fun i => i = g) rfl _ _ (Touch.refl _ _)), .inl rfl, by simp [Value.ownBlock]⟩
        intro j hj
        rw [get_putV _ _ _ _ (by simp; omega), insAt_get _ _ _ hp]
        simp only [List.length_cons, List.length_nil]
        by_cases h1 : j < l.length
        · rw [if_neg (by omega), if_pos h1]; exact cur_get h7 h1
        · obtain rfl : j = l.length := by omega
          rw [if_pos (by omega), if_neg (by omega), if_pos rfl, Nat.zero_add, Nat.sub_self]
          rfl
      · have hcon := Go.Proofs.Any2.slices_Insert_int_end_grow Try.insI (some ⟨g, 0, none⟩) l.length c vb 0 1 1 (l.map (Value.int .i64)) [Value.int .i64 t] w (by omega) e4 (by omega) (by omega) hcl rfl (fun h => by cases h)
          (fun a h j x hj => by injection h with h; subst h; rw [addr_add]; exact hcs j x hj) hvs h1v
        change Calls Try.prog 28 _ _ _ at hcon
        refine hcon.mono fun e w' ⟨he, hw⟩ => ⟨_, he, ?_⟩
        subst hw
        have hge := grownCap_ge w (l.length + 1) c 3
        have hle := grownCap_le_maxLen w (l.length + 1) c 3 (by unfold maxLen; omega)
        refine ⟨own_of_cells (by exact heap_alloc_new _ _) (insAt_len _ _ _ hp) hge hle ?_ ?_, Touch.of_below ((below_drewN (Below.refl _ _) 1).alloc (Nat.le_refl _) _), .inr rfl, by simp [Value.ownBlock]⟩
        · change (_ ++ Builtin.zeroCells _ (grownCap w (l.length + 1) c 3 - (l.length + 1))).size = grownCap w (l.length + 1) c 3
          rw [Array.size_append, size_zeroCells]
          simp [Value.cells]
          omega
        · intro j hj
          rw [Array.getElem?_append_left (by simp; omega), insAt_get _ _ _ hp]
          simp only [List.getElem?_toArray]
          by_cases h1 : j < l.length
          · rw [if_pos h1, List.getElem?_append_left (by simpa using h1), List.getElem?_map]
          · obtain rfl : j = l.length := by omega
            rw [if_neg (by omega), if_pos rfl, List.getElem?_append_right (by simp), hcl, Nat.sub_self]
            rfl
    · have hi : p < l.length := by omega
      by_cases hr : l.length + 1 ≤ c
      · have hcon := Go.Proofs.Any2.slices_Insert_int_shift Try.insI g 0 l.length c p vb 0 1 1 (l.map (Value.int .i64)) [Value.int .i64 t] w hi (by omega) hr (by unfold maxLen at e5; omega) (Ne.symm hgv) hcl rfl hcs (fun j hj => hsp j (by omega)) (fun j hj => hfz _) hvs (oneI l) h1v
          3 3 1 c (by simp [World.shape?, hv]) (by simp [World.shape?, e3, h6]) (by omega) (hvf _) (hvf _)
        change Calls Try.prog 28 _ _ _ at hcon
        refine hcon.mono fun e w' ⟨he, hw⟩ => ⟨_, he, ?_⟩
        subst hw
        refine ⟨own_of_cells (heap_setCells _ _ _ _ _ _ (heap_setCells _ _ _ _ _ _ (by exact e3))) (insAt_len _ _ _ hp) hr e5 (by rw [size_putV, size_putV]; exact h6) ?_, touch_row (Touch.setCells (S := fun i => i = g) rfl _ _ (Touch.setCells (S := fun i => i = g) (w' := w.drew) rfl _ _ (Touch.of_below (below_drewN (Below.refl _ _) 1)))), .inl rfl, by simp [Value.ownBlock]⟩
        intro j hj
        have hdl : ((l.map (Value.int .i64)).drop p).length = l.length - p := by simp
        rw [get_putV _ _ _ _ (by simp [size_putV]; omega), get_putV _ _ _ _ (by rw [hdl]; omega), insAt_get _ _ _ hp, hdl]
        simp only [List.length_cons, List.length_nil]
        by_cases h1 : j < p
        · rw [if_neg (by omega), if_neg (by omega), if_pos h1]; exact cur_get h7 (by omega)
        · by_cases h2 : j = p
          · subst h2
            rw [if_pos (by omega), if_neg (by omega), if_pos rfl, Nat.zero_add, Nat.sub_self]
            rfl
          · rw [if_neg (by omega), if_pos (by omega), if_neg h1, if_neg h2, List.getElem?_drop, List.getElem?_map]
            congr 2; omega
      · have hcon := Go.Proofs.Any2.slices_Insert_int_grow Try.insI g 0 l.length c p vb 0 1 1 (l.map (Value.int .i64)) [Value.int .i64 t] w hi (by omega) e4 (by omega) (by omega) hcl rfl hcs hvs (oneI l) h1v
        change Calls Try.prog 28 _ _ _ at hcon
        refine hcon.mono fun e w' ⟨he, hw⟩ => ⟨_, he, ?_⟩
        subst hw
        have hge := grownCap_ge w (l.length + 1) c 3
        have hle := grownCap_le_maxLen w (l.length + 1) c 3 (by unfold maxLen; omega)
        have hdl : ((l.map (Value.int .i64)).drop p).length = l.length - p := by simp
        obtain ⟨cp, hcp⟩ : ∃ cp, cp = grownCap w (l.length + 1) c 3 := ⟨_, rfl⟩
        have hsz : (((l.map (Value.int .i64)).take p).toArray ++ Builtin.zeroCells (Value.int .i64 0).cells (l.length + 1 - p) ++ Builtin.zeroCells (Value.int .i64 0).cells (cp - (l.length + 1))).size = cp := by
          rw [Array.size_append, Array.size_append, size_zeroCells, size_zeroCells]
          simp [Value.cells]
          omega
        have hlow : ∀ j, j < p → (((l.map (Value.int .i64)).take p).toArray ++ Builtin.zeroCells (Value.int .i64 0).cells (l.length + 1 - p) ++ Builtin.zeroCells (Value.int .i64 0).cells (cp - (l.length + 1)))[j]? = (l[j]?).map (Value.int .i64) := fun j hj => by
          rw [Array.getElem?_append_left (by rw [Array.size_append]; simp; omega), Array.getElem?_append_left (by simp; omega), List.getElem?_toArray, List.getElem?_take_of_lt hj, List.getElem?_map]
        change Inserted w (((w.alloc (.cells (((l.map (Value.int .i64)).take p).toArray ++ Builtin.zeroCells (Value.int .i64 0).cells (l.length + 1 - p) ++ Builtin.zeroCells (Value.int .i64 0).cells (grownCap w (l.length + 1) c 3 - (l.length + 1))) 3)).drew.setCells w.heap.size p [Value.int .i64 t]).drew.setCells w.heap.size (p + 1) ((l.map (Value.int .i64)).drop p)) _ l p t (.slice (some ⟨w.heap.size, 0, none⟩) (l.length + 1) (grownCap w (l.length + 1) c 3))
        rw [← hcp] at hge hle ⊢
        generalize (((l.map (Value.int .i64)).take p).toArray ++ Builtin.zeroCells (Value.int .i64 0).cells (l.length + 1 - p) ++ Builtin.zeroCells (Value.int .i64 0).cells (cp - (l.length + 1))) = A at hsz hlow ⊢
        refine ⟨own_of_cells (heap_setCells _ _ _ _ _ _ (by exact heap_setCells _ _ _ _ _ _ (by exact heap_alloc_new _ _))) (insAt_len _ _ _ hp) hge hle (by rw [size_putV, size_putV]; exact hsz) ?_, ?_, .inr rfl, by simp [Value.ownBlock]⟩
        · intro j hj
          rw [get_putV _ _ _ _ (by rw [size_putV, hdl]; omega), get_putV _ _ _ _ (by simp; omega), insAt_get _ _ _ hp, hdl]
          simp only [List.length_cons, List.length_nil]
          by_cases h1 : j < p
          · rw [if_neg (by omega), if_neg (by omega), if_pos h1]; exact hlow j h1
          · by_cases h2 : j = p
            · subst h2
              rw [if_neg (by omega), if_pos (by omega), if_neg (by omega), if_pos rfl, Nat.sub_self]
              rfl
            · rw [if_pos (by omega), if_neg h1, if_neg h2, List.getElem?_drop, List.getElem?_map]
              congr 2; omega
        · have hT : Touch (fun i => i = w.heap.size) (w.alloc (.cells A 3)) (((w.alloc (.cells A 3)).drew.setCells w.heap.size p [Value.int .i64 t]).drew.setCells w.heap.size (p + 1) ((l.map (Value.int .i64)).drop p)) :=
            Touch.setCells (S := fun i => i = w.heap.size) (w' := ((w.alloc (.cells A 3)).drew.setCells w.heap.size p [Value.int .i64 t]).drew) rfl _ _ ((Touch.setCells (S := fun i => i = w.heap.size) (w' := (w.alloc (.cells A 3)).drew) rfl _ _ (Touch.of_below (below_drewN (Below.refl _ _) 1))).drewN 1)
          exact (Touch.of_below ((Below.refl _ _).alloc (Nat.le_refl _) _)).trans hT (fun i hi => .inr (by omega))
/-- What a Delete leaves. -/
theorem del_any {w : World} {B g c : Nat} {l : List Int} (ho : w.ownsRow B 3 1 (.slice (some ⟨g, 0, none⟩) l.length c) l.length (l.map (Value.int .i64))) (hn : l.length ≤ 1000000) {p : Nat} (hp : p < l.length) :
    Calls Try.prog 31 #[.slice (some ⟨g, 0, none⟩) l.length c, .int .i64 (p : Int), .int .i64 ((p + 1 : Nat) : Int)] w fun e w' =>
      e = .returned (.slice (some ⟨g, 0, none⟩) (l.length - 1) c) ∧ w'.ownsRow 0 3 1 (.slice (some ⟨g, 0, none⟩) (l.length - 1) c) (l.length - 1) ((l.eraseIdx p).map (Value.int .i64)) ∧ Touch (fun i => i = g) w w' := by
  obtain ⟨cur, e3, e4, e5, e6, e7⟩ := row_cells ho
  have hH : Go.Sort.Holds (Value.int .i64) w g 0 l.toArray := fun j hj => by
    have hj' : j < l.length := by simpa using hj
    rw [Nat.zero_add]
    refine ⟨?_, frozen_of_row _ _ _ _ _ e3⟩
    rw [ho.cellAt j (by simpa using hj'), List.getElem?_map, List.getElem?_eq_getElem hj', getElem!_pos _ j hj]; simp
  have hcon := Go.Proofs.Any.slices_Delete_int Try.delI g 0 c p (p + 1) l w hH e4 (by unfold maxLen at e5; omega) (by omega) (by omega)
  change Calls Try.prog 31 _ _ _ at hcon
  rw [show p + 1 - p = 1 from by omega] at hcon
  refine hcon.mono fun e w' ⟨he, q, hw⟩ => ⟨he, ?_⟩
  subst hw
  have hx : (l.take p ++ l.drop (p + 1) ++ List.replicate 1 0) = l.eraseIdx p ++ [0] := by rw [List.eraseIdx_eq_take_drop_succ]; rfl
  rw [hx]
  have hel : (l.eraseIdx p).length = l.length - 1 := List.length_eraseIdx_of_lt hp
  have hb : (Go.Sort.putRow (Value.int .i64) (Go.Sort.ahead w q) g 0 (l.eraseIdx p ++ [0]).toArray).heap[g]? = some (.cells (Go.Sort.putCells (Value.int .i64) 0 (l.eraseIdx p ++ [0]).toArray cur) 3 (0, 0)) := by
    simp [Go.Sort.putRow, Go.Sort.mapBlock, Go.Sort.ahead, Array.getElem?_modify, e3, Go.Sort.onCells]
  refine ⟨own_of_cells hb hel (by omega) e5 (by simp [Go.Sort.putCells, e6]) ?_, ⟨rfl, rfl, rfl, by simp, fun k hk hne => ?_⟩⟩
  · intro j hj
    have h1 : j < (l.eraseIdx p ++ [0]).length := by simp; omega
    have h2 : (l.eraseIdx p ++ [0])[j]? = (l.eraseIdx p)[j]? := List.getElem?_append_left (by omega)
    rw [← h2]
    simp only [Go.Sort.putCells]
    simp [show j < cur.size by omega]
    rw [if_pos (by omega), h2, List.getElem?_eq_getElem (by omega)]
    rfl
  · have : g ≠ k := fun e => hne e.symm
    simp [Go.Sort.putRow, Go.Sort.mapBlock, Go.Sort.ahead, Array.getElem?_modify, this]
end Go.Proofs.Ytmclifmdlcofaaa
