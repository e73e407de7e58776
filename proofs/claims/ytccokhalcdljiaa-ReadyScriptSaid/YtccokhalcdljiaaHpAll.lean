/-
  Contract of All of package heap: the items in order, in memory of the call's own.
-/
import Derived.Test.YtccokhalcdljiaaHpAwake
import Derived.Test.YtccokhalcdljiaaHeapShelf
namespace Go.Proofs.Ytccokhalcdljiaa.Hp
open Go.ChangeShapes Go.WideShapes Go.ChangeAt Go.RowKit
set_option linter.unusedVariables false
/-- The items in order. -/
def ord (l : List (Int × Int)) : List (Int × Int) := l.mergeSort fun x y => !due y x
theorem ord_perm (l : List (Int × Int)) : (ord l).Perm l := List.mergeSort_perm l _
theorem ord_length (l : List (Int × Int)) : (ord l).length = l.length := (ord_perm l).length_eq
theorem ord_sorted (l : List (Int × Int)) : (ord l).Pairwise fun a b => due b a = false := by
  have h := List.pairwise_mergeSort (le := fun x y : Int × Int => !due y x) (fun a b c h1 h2 => by
    simp only [Bool.not_eq_true'] at *
    exact due_le_trans h1 h2) (fun a b => by
    simp only [Bool.or_eq_true, Bool.not_eq_true']
    cases h : due b a
    · exact .inl rfl
    · exact .inr (due_asymm h)) l
  exact h.imp (fun h => by simpa using h)
theorem ord_unique {l m : List (Int × Int)} (p : m.Perm l) (h : m.Pairwise fun a b => due b a = false) : ord l = m :=
  List.Perm.eq_of_pairwise (le := fun a b => due b a = false) (fun a b _ _ h1 h2 => (due_total h2 h1)) (ord_sorted l) h ((ord_perm l).trans p.symm)
theorem ord_congr {l m : List (Int × Int)} (p : l.Perm m) : ord l = ord m := ord_unique ((ord_perm m).trans p.symm) (ord_sorted m)
theorem lt_due (x y : Int × Int) : Go.Proofs.ltOf cmpIt x y = due x y := cmpIt_lt x y
theorem swo_due : Go.Sort.SWO (Go.Proofs.ltOf cmpIt) where
  irrefl x := by rw [lt_due]; exact due_irrefl x
  trans x y z h1 h2 := by rw [lt_due] at *; exact due_trans h1 h2
  ntrans x y z h1 h2 := by rw [lt_due] at *; exact due_le_trans h2 h1
def encIt (x : Int × Int) : List Value := [.int .i64 x.1, .int .i64 x.2]
theorem flat_it (l : List (Int × Int)) : Go.Sort.flatK encIt 2 l.toArray = (cellsIt l).toArray := by
  apply Array.ext
  · rw [Go.Sort.size_flatK]; simp [cellsIt_length]
  · intro t h1 h2
    have ht : t < l.length * 2 := by simpa [Go.Sort.size_flatK] using h1
    have e1 := Go.Sort.get_flatK encIt 2 l.toArray t (by simpa using ht)
    rw [getElem!_pos _ t h1] at e1
    rw [e1]
    have hj : t / 2 < l.length := by omega
    have e2 : l.toArray[t / 2]! = it l (t / 2) := by rw [getElem!_pos _ _ (by simpa using hj), it_get hj]; simp
    rw [e2]
    have e3 : (cellsIt l)[t]? = some ((cellsIt l).toArray[t]) := by simp
    rcases Nat.mod_two_eq_zero_or_one t with h | h
    · have := cellsIt_id l (t / 2) hj
      rw [show t / 2 * 2 = t by omega, e3] at this
      rw [h, ← Option.some.inj this.symm]; rfl
    · have := cellsIt_key l (t / 2) hj
      rw [show t / 2 * 2 + 1 = t by omega, e3] at this
      rw [h, ← Option.some.inj this.symm]; rfl
theorem heap_sortedV {w : World} {g n : Nat} {os : Array Obj} {cur : Array Value} {e : TypeId} {fr : Nat × Nat} (d : Array Value) (hb : w.heap[g]? = some (.cells cur e fr)) :
    (Go.Sort.grow (Go.Sort.putRow id (Go.Sort.ahead w n) g 0 d) os).heap[g]? = some (.cells (Go.Sort.putCells id 0 d cur) e fr) := by
  have hg : g < w.heap.size := (Array.getElem?_eq_some_iff.1 hb).1
  rw [Go.Sort.heap_grow_old _ _ (by simpa using hg)]
  simp [Go.Sort.putRow, Go.Sort.mapBlock, Go.Sort.ahead, Array.getElem?_modify, hb, Go.Sort.onCells]
theorem grownBy_sortedV {w : World} {g n : Nat} {os : Array Obj} (d : Array Value) : w.grownBy (Go.Sort.grow (Go.Sort.putRow id (Go.Sort.ahead w n) g 0 d) os) (some g) := by
  refine ⟨rfl, rfl, rfl, by simp, fun k hk hne => ?_⟩
  rw [Go.Sort.heap_grow_old _ _ (by simpa using hk)]
  have : g ≠ k := fun e => hne (by rw [e])
  simp [Go.Sort.putRow, Go.Sort.mapBlock, Go.Sort.ahead, Array.getElem?_modify, this]
theorem take_putCellsV (cur : Array Value) (ts : List Value) (h : ts.length ≤ cur.size) : (Go.Sort.putCells id 0 ts.toArray cur).toList.take ts.length = ts := by
  apply List.ext_getElem?
  intro j
  by_cases hj : j < ts.length
  · rw [List.getElem?_take_of_lt hj, Array.getElem?_toList]
    simp [Go.Sort.putCells, hj, show j < cur.size by omega]
  · rw [List.getElem?_take_eq_none (by omega), List.getElem?_eq_none (by omega)]
theorem eg_compare (args : Array Value) (w : World) : (callFunc 86 args).run Try.prog w = .ok (.enter 86 args) w := enters_of Try.func86 (by kernel_rfl) rfl args w
/-- slices.SortFunc over a row of items of the call's own. -/
theorem sort_any (w : World) (g c B : Nat) (l : List (Int × Int)) (h : w.ownsRow B 113 2 (.slice (some ⟨g, 0, none⟩) l.length c) l.length (cellsIt l)) (hn : l.length ≤ 1000000) :
    Calls Try.prog 85 #[.slice (some ⟨g, 0, none⟩) l.length c, .func (.func 86) #[] #[]] w fun e w' => e = .returned (.tuple #[]) ∧
      w'.ownsRow B 113 2 (.slice (some ⟨g, 0, none⟩) l.length c) l.length (cellsIt (ord l)) ∧ w.grownBy w' (some g) := by
  obtain ⟨_, hh⟩ := id h
  rcases hh with ⟨hn0, _⟩ | ⟨g', cap, cur, e1, e2, e3, e4, e5, e6, e7⟩
  · cases hn0
  injection e1 with e1 _ ec
  injection e1 with e1
  injection e1 with e1
  subst e1 ec
  have hH : Go.Sort.HoldsK encIt 2 w g 0 l.toArray := by
    unfold Go.Sort.HoldsK
    rw [flat_it]
    intro j hj
    have hj' : j < (cellsIt l).length := by simpa using hj
    rw [Nat.zero_add]
    refine ⟨?_, frozen_of_row _ _ _ _ _ e3⟩
    rw [h.cellAt j (by rw [cellsIt_length] at hj'; exact hj'), List.getElem?_eq_getElem hj']
    rw [getElem!_pos _ j hj]; simp
  have hcmp : Go.Proofs.CmpLays Try.prog 86 #[] encIt 2 cmpIt g 0 l.toArray.size w := fun m os dk _ x y => compare_any x y _
  have hcon := Go.Proofs.AnyQ.slices_SortFunc_total Try.sortIt 2 Try.isAgg113 Try.sizeOf113 encIt (fun _ => rfl) (fun x v hv => by simp [encIt] at hv; rcases hv with rfl | rfl <;> rfl) cmpIt swo_due 86 #[] g 0 c l.toArray w eg_compare hcmp hH (Array.getElem?_eq_some_iff.1 e3).1 (by simp; omega)
    (fun x y h1 h2 => due_total (by rw [← lt_due]; exact h1) (by rw [← lt_due]; exact h2))
  change Calls Try.prog 85 _ _ _ at hcon
  have hs : l.toArray.size = l.length := by simp
  rw [hs] at hcon
  refine hcon.mono fun e w' ⟨he, n, os, hw⟩ => ⟨he, ?_⟩
  have ho : (l.toArray.toList.mergeSort fun x y => !(Go.Proofs.ltOf cmpIt) y x) = ord l := by
    unfold ord
    congr 1
    funext x y
    rw [lt_due]
  rw [ho] at hw
  have hw : w' = Go.Sort.grow (Go.Sort.putRow id (Go.Sort.ahead w n) g 0 (cellsIt (ord l)).toArray) os := by
    rw [hw, ← flat_it]; rfl
  subst hw
  have hlen : (cellsIt (ord l)).length = l.length * 2 := by rw [cellsIt_length, ord_length]
  refine ⟨⟨hlen, .inr ⟨g, c, _, rfl, e2, heap_sortedV _ e3, e4, e5, by simp [Go.Sort.putCells, e6], ?_⟩⟩, grownBy_sortedV _⟩
  rw [← hlen]
  exact take_putCellsV cur _ (by rw [hlen, e6]; exact Nat.mul_le_mul_right 2 e4)
set_option maxHeartbeats 800000 in
theorem all_any {w : World} {F : Nat → Prop} {H : Nat} {l : List (Int × Int)} (h : Held w F H l) (hn : l.length ≤ 800000) :
    Calls Try.prog 75 #[.pointer (some ⟨H, 0, none⟩)] w fun e w' => ∃ v, e = .returned v ∧ w'.ownsRow w.heap.size 113 2 v l.length (cellsIt (ord l)) ∧ Below w.heap.size w w' := by
  obtain ⟨i0, hi0, hz0, hz1, hz2⟩ := info_parts item_info
  obtain ⟨⟨v, M, f, hp, hs, hw, fH, fM, fg, fl⟩, _⟩ := h
  have c0 := hp.cell0
  have ho := hp.2.1
  obtain ⟨A, c, rfl, hnc, hcm, hA⟩ := own_slice ho
  have HO := hide ho
  have HA := hide hA
  clear ho hp hs hw fH fM fg fl hA
  have HC : Hid (Calls Try.prog 84 #[.slice A l.length c] w fun e w' => ∃ v, e = .returned v ∧ w'.ownsRow w.heap.size 113 2 v l.length (cellsIt l) ∧ Below w.heap.size w w') := by
    cases A with
    | none =>
      have hl := (HA.out rfl).1
      have hnil : l = [] := List.eq_nil_of_length_eq_zero hl
      subst hnil
      have hcon := Go.Proofs.AnyE.slices_Clone_nil Try.cloneIt 0 c w
      exact hcon.mono fun e w' ⟨he, hw⟩ => ⟨_, he, by rw [hw]; exact World.ownsRow_nil _ _ _ _, by rw [hw]; exact Below.refl _ _⟩
    | some ad =>
      obtain ⟨g, hg⟩ : ∃ g, ad = ⟨g, 0, none⟩ := by
        rcases HO.out.2 with ⟨h0, _⟩ | ⟨g, cap, cur, e1, _⟩
        · cases h0
        · injection e1 with e1 _ _; injection e1 with e1; exact ⟨g, e1⟩
      subst hg
      have hcon := Go.Proofs.AnyE.slices_Clone Try.cloneIt i0 _ 2 16 hi0 hz0 hz1 hz2 rfl (by omega) Try.sizeOf113 g 0 l.length c (cellsIt l) w (cellsIt_length l) (by unfold maxLen; omega) (by omega)
        (fun j u hu => by
          have hj : j < (cellsIt l).length := (List.getElem?_eq_some_iff.mp hu).1
          rw [Nat.zero_add, HO.out.cellAt j (by rw [cellsIt_length] at hj; exact hj)]; exact hu)
        (fun u hu => by
          unfold cellsIt at hu
          simp only [List.mem_flatMap] at hu
          obtain ⟨x, _, hx⟩ := hu
          simp at hx
          rcases hx with rfl | rfl <;> rfl)
      exact hcon.mono fun e w' ⟨v, he, ho, _, hb⟩ => ⟨v, he, ho, hb⟩
  clear hi0 hz0 hz1 hz2 HO HA hcm hnc
  go_enter Try.func75, Try.ntmps75
  go_wp2_with fail
  go_at_call 84
  refine HC.out.mono ?_
  rintro e w1 ⟨v, rfl, o1, b1⟩
  have HS : Hid (Calls Try.prog 85 #[v, .func (.func 86) #[] #[]] w1 fun e w' => e = .returned (.tuple #[]) ∧ w'.ownsRow w.heap.size 113 2 v l.length (cellsIt (ord l)) ∧ Below w.heap.size w1 w') := by
    rcases o1.2 with ⟨rfl, h0⟩ | ⟨g, cap, cur, rfl, hg, _⟩
    · have hnil : l = [] := List.eq_nil_of_length_eq_zero h0
      subst hnil
      have hcon := Go.Proofs.AnyF.slices_SortFunc_none Try.sortIt none 0 (.func (.func 86) #[] #[]) w1
      exact hcon.mono fun e w' ⟨he, hw⟩ => ⟨he, by rw [hw, show cellsIt (ord []) = [] from by simp [ord, cellsIt]]; exact World.ownsRow_nil _ _ _ _, by rw [hw]; exact Below.refl _ _⟩
    · exact (sort_any w1 g cap w.heap.size l o1 (by omega)).mono fun e w' ⟨he, ho, hg2⟩ => ⟨he, ho, (Below.refl w.heap.size w1).grown hg2 b1.size (fun k hk => by injection hk with hk; rw [← hk]; exact hg)⟩
  have B1 := hide b1
  clear o1 b1 HC
  go_wp2_with fail
  go_at_call 85
  refine HS.out.mono ?_
  rintro e w2 ⟨rfl, o2, b2⟩
  have O2 := hide o2
  have B2 := hide (B1.out.trans b2)
  clear o2 b2
  go_wp2_with fail
  go_ret
  exact ⟨_, rfl, O2.out, B2.out⟩
end Go.Proofs.Ytccokhalcdljiaa.Hp
