/-
  slices.Delete of one entry of a row of one's own.
-/
import Derived.Deep.RegionLaw
import Derived.BigRegion
import Derived.Deep.RegionHeld3
import Derived.Lib.SliceRun
import Derived.Lib.SlicesDelete
import Derived.Laws.IdiomCopy
import Derived.Test.YtndfnglcichngaaGreatDoorPa13
namespace Go.Proofs.YtndfnglcichngaaGreatDoor
open Go.ChangeShapes Go.WideShapes Go.ChangeAt Go.RowKit
set_option linter.unusedVariables false
set_option linter.unusedSimpArgs false
def putVe (cur : Array Value) (o : Nat) : List Value → Array Value
  | [] => cur
  | v :: r => putVe (cur.setIfInBounds o v) (o + 1) r
theorem size_putVe (vs : List Value) : ∀ (cur : Array Value) (o : Nat), (putVe cur o vs).size = cur.size := by
  induction vs with
  | nil => intro cur o; rfl
  | cons v r ih => intro cur o; unfold putVe; rw [ih]; simp
theorem get_putVe (vs : List Value) : ∀ (cur : Array Value) (o j : Nat), o + vs.length ≤ cur.size → (putVe cur o vs)[j]? = if o ≤ j ∧ j < o + vs.length then vs[j - o]? else cur[j]? := by
  induction vs with
  | nil => intro cur o j h; unfold putVe; rw [if_neg (by rw [List.length_nil]; omega)]
  | cons v r ih =>
    intro cur o j h
    simp only [List.length_cons] at h ⊢
    unfold putVe
    rw [ih _ _ _ (by simp; omega)]
    by_cases h1 : o = j
    · subst h1
      rw [if_neg (by omega), if_pos (by omega), Nat.sub_self, Array.getElem?_setIfInBounds_self_of_lt (by omega), List.getElem?_cons_zero]
    · by_cases h2 : o + 1 ≤ j ∧ j < o + 1 + r.length
      · rw [if_pos h2, if_pos (by omega), show j - o = (j - (o + 1)) + 1 by omega]; rfl
      · rw [if_neg h2, if_neg (by omega), Array.getElem?_setIfInBounds_ne h1]
theorem heap_setCellsE (vs : List Value) : ∀ (w : World) (g o : Nat) (cur : Array Value) (e : TypeId), w.heap[g]? = some (.cells cur e (0, 0)) → (w.setCells g o vs).heap[g]? = some (.cells (putVe cur o vs) e (0, 0)) := by
  induction vs with
  | nil => intro w g o cur e h; exact h
  | cons v r ih => intro w g o cur e h; exact ih _ g (o + 1) _ e (heap_setCell_same w g o cur e v h)
theorem touch_setCellsE {S : Nat → Prop} {g : Nat} (hg : S g) (vs : List Value) : ∀ {w w' : World} (o : Nat), Touch S w w' → Touch S w (w'.setCells g o vs) := by
  induction vs with
  | nil => intro w w' o h; exact h
  | cons v r ih => intro w w' o h; exact ih (o + 1) (h.setCell (p := ⟨g, o, none⟩) hg v)
theorem run_clear_ent (w : World) (ty : TypeId) (b o c : Nat) (h0 : (w.cell? ⟨b, o, none⟩).isSome = true) (h1 : (w.cell? ⟨b, o + 1, none⟩).isSome = true) (f0 : w.frozen? ⟨b, o, none⟩ = false) (f1 : w.frozen? ⟨b, o + 1, none⟩ = false) :
    (Builtin.clear_ #[36] ty #[.slice (some ⟨b, o, none⟩) 1 c]).run Tryz.prog w = .ok (.tuple #[]) (w.setCells b o [.string ByteArray.empty, .int .i64 0]) := by
  have hz : ∀ w, (zeroValue 105).run Tryz.prog w = .ok (.agg #[.string ByteArray.empty, .int .i64 0]) w := Tryz.zeroValue105
  have hst := run_storeCells_cells (P := Tryz.prog) b o [.string ByteArray.empty, .int .i64 0] 0 w (fun j hj => by
    match j, hj with
    | 0, _ => exact h0
    | 1, _ => exact h1) (fun j hj => by
    match j, hj with
    | 0, _ => exact f0
    | 1, _ => exact f1) (by intro v hv; simp at hv; rcases hv with rfl | rfl <;> rfl)
  simp only [Nat.add_zero] at hst
  have hzc : (Builtin.zeroCells (Value.agg #[.string ByteArray.empty, .int .i64 0]).cells 1).toList = [.string ByteArray.empty, .int .i64 0] := by kernel_rfl
  simp [Builtin.clear_, run_underlying Tryz.underlying36, hz, hzc, hst]
theorem row_cellsE {w : World} {B g c n : Nat} {xs : List Value} (h : w.ownsRow B 105 2 (.slice (some ⟨g, 0, none⟩) n c) n xs) : ∃ cur, w.heap[g]? = some (.cells cur 105 (0, 0)) ∧ n ≤ c ∧ c ≤ maxLen ∧ cur.size = c * 2 ∧ cur.toList.take (n * 2) = xs ∧ B ≤ g := by
  obtain ⟨_, hh⟩ := h
  rcases hh with ⟨hn0, _⟩ | ⟨g', cap, cur, e1, e2, e3, e4, e5, e6, e7⟩
  · cases hn0
  injection e1 with e1 _ ec
  injection e1 with e1
  injection e1 with e1
  subst e1 ec
  exact ⟨cur, e3, e4, e5, e6, by simpa using e7, e2⟩
set_option maxRecDepth 10000 in
set_option maxHeartbeats 4000000 in
theorem edel_any {w : World} {B g c : Nat} {l : List Ent} (ho : w.ownsRow B 105 2 (.slice (some ⟨g, 0, none⟩) l.length c) l.length (l.flatMap enV)) (h8 : l.length ≤ 8) {p q : Nat} (hp : p < l.length) (hq : q = p + 1) :
    Calls Tryz.prog 126 #[.slice (some ⟨g, 0, none⟩) l.length c, .int .i64 (p : Int), .int .i64 (q : Int)] w fun e w' =>
      e = .returned (.slice (some ⟨g, 0, none⟩) (l.length - 1) c) ∧ w'.ownsRow B 105 2 (.slice (some ⟨g, 0, none⟩) (l.length - 1) c) (l.length - 1) ((l.eraseIdx p).flatMap enV) ∧ Touch (fun i => i = g) w w' := by
  obtain ⟨i0, hi0, hz0, hz1, hz2⟩ := info_parts entry_info
  obtain ⟨cur, e3, e4, e5, e6, e7, e2⟩ := row_cellsE ho
  obtain ⟨news, hnews⟩ : ∃ news, news = (l.drop q).flatMap enV := ⟨_, rfl⟩
  have hlen : news.length = (l.length - q) * 2 := by rw [hnews, flat_length enV_len, List.length_drop]
  have fl : (l.flatMap enV).length = l.length * 2 := flat_length enV_len l
  have hcur : ∀ j, j < l.length * 2 → cur[j]? = (l.flatMap enV)[j]? := fun j hj => by
    rw [← e7, List.getElem?_take_of_lt hj, Array.getElem?_toList]
  have hsplit : l.flatMap enV = (l.take q).flatMap enV ++ news := by rw [hnews, ← List.flatMap_append, List.take_append_drop]
  have ltk : ((l.take q).flatMap enV).length = q * 2 := by rw [flat_length enV_len, List.length_take]; omega
  have hdrop : ∀ t, t < news.length → news[t]? = cur[q * 2 + t]? := fun t ht => by
    rw [hcur _ (by rw [hlen] at ht; omega), hsplit, List.getElem?_append_right (by omega), ltk]
    congr 1; omega
  have CL : ∀ j, j < c * 2 → (w.cell? ⟨g, j, none⟩).isSome = true ∧ w.frozen? ⟨g, j, none⟩ = false := fun j hj => by
    refine ⟨?_, frozen_of_row _ _ _ _ _ e3⟩
    rw [cell_of_row _ _ _ _ _ _ e3, Array.getElem?_eq_getElem (by omega)]; rfl
  obtain ⟨A, hA, hsrc⟩ : ∃ A : Addr, (if c = q then (some ⟨g, 0, none⟩ : Option Addr) else some ⟨g, q * 2, none⟩) = some A ∧ Hid (∀ t u, news[t]? = some u → w.drew.cell? (A.add t) = some u) := by
    by_cases h : c = q
    · refine ⟨⟨g, 0, none⟩, by simp [h], fun t u hu => ?_⟩
      have h0 : news.length = 0 := by rw [hlen]; omega
      rw [List.length_eq_zero_iff.1 h0] at hu
      simp at hu
    · refine ⟨⟨g, q * 2, none⟩, by simp [h], fun t u hu => ?_⟩
      have ht : t < news.length := (List.getElem?_eq_some_iff.1 hu).1
      rw [hdrop t ht] at hu
      rw [addr_add]
      show w.cell? _ = _
      rw [cell_of_row _ _ _ _ _ _ e3]; exact hu
  have s1 := hide hlen
  have s2 : Hid (∀ u ∈ news, u.oneCell' = true) := by rw [hnews]; exact flat_cell enV_cell _
  have s3 : Hid (∀ t, t < news.length → (w.drew.cell? ⟨g, 0 + p * 2 + t, none⟩).isSome = true ∧ w.drew.frozen? ⟨g, 0 + p * 2 + t, none⟩ = false) := fun t ht => by
    rw [hlen] at ht
    have := CL (0 + p * 2 + t) (by omega)
    exact this
  obtain ⟨W1, hW1⟩ : ∃ W1, W1 = w.drew.setCells g (0 + p * 2) news := ⟨_, rfl⟩
  have hg1 : W1.heap[g]? = some (.cells (putVe cur (p * 2) news) 105 (0, 0)) := by
    rw [hW1, Nat.zero_add]; exact heap_setCellsE news w.drew g (p * 2) cur _ e3
  have sz1 : (putVe cur (p * 2) news).size = c * 2 := by rw [size_putVe, e6]
  obtain ⟨n, hn⟩ : ∃ n, n = l.length := ⟨_, rfl⟩
  rw [← hn] at hp h8 hlen e4 s1 hcur e7 fl ⊢
  have hcl : ∀ ty cc, (Builtin.clear_ #[36] ty #[.slice (some ⟨g, (n - 1) * 2, none⟩) 1 cc]).run Tryz.prog W1 = .ok (.tuple #[]) (W1.setCells g ((n - 1) * 2) [.string ByteArray.empty, .int .i64 0]) := fun ty cc =>
    run_clear_ent W1 ty g ((n - 1) * 2) cc (by rw [cell_of_row _ _ _ _ _ _ hg1, Array.getElem?_eq_getElem (by omega)]; rfl) (by rw [cell_of_row _ _ _ _ _ _ hg1, Array.getElem?_eq_getElem (by omega)]; rfl) (frozen_of_row _ _ _ _ _ hg1) (frozen_of_row _ _ _ _ _ hg1)
  have FIN := hide (show (W1.setCells g ((n - 1) * 2) [.string ByteArray.empty, .int .i64 0]).ownsRow B 105 2 (.slice (some ⟨g, 0, none⟩) (n - 1) c) (n - 1) ((l.eraseIdx p).flatMap enV) ∧ Touch (fun i => i = g) w (W1.setCells g ((n - 1) * 2) [.string ByteArray.empty, .int .i64 0]) from by
    have hg2 := heap_setCellsE [.string ByteArray.empty, .int .i64 0] W1 g ((n - 1) * 2) _ _ hg1
    have hel : (l.eraseIdx p).length = n - 1 := by rw [hn]; exact List.length_eraseIdx_of_lt (by omega)
    have hfe : ((l.eraseIdx p).flatMap enV).length = (n - 1) * 2 := by rw [flat_length enV_len, hel]
    refine ⟨⟨hfe, .inr ⟨g, c, _, rfl, e2, hg2, by omega, e5, by rw [size_putVe, sz1], ?_⟩⟩, ?_⟩
    · refine List.ext_getElem? fun j => ?_
      by_cases hj : j < (n - 1) * 2
      · rw [List.getElem?_take_of_lt hj, Array.getElem?_toList, get_putVe _ _ _ _ (by rw [sz1]; simp; omega), if_neg (by omega), get_putVe _ _ _ _ (by rw [hlen, e6]; omega)]
        rw [List.eraseIdx_eq_take_drop_succ, ← hq, List.flatMap_append, ← hnews]
        have lt0 : ((l.take p).flatMap enV).length = p * 2 := by rw [flat_length enV_len, List.length_take]; omega
        by_cases h1 : p * 2 ≤ j ∧ j < p * 2 + news.length
        · rw [if_pos h1, List.getElem?_append_right (by omega), lt0]
        · rw [if_neg h1, List.getElem?_append_left (by rw [hlen] at h1; omega), hcur j (by omega)]
          rw [← List.take_append_drop p l, List.flatMap_append, List.take_append_drop, List.getElem?_append_left (by rw [hlen] at h1; omega)]
      · rw [List.getElem?_take_eq_none (by omega), List.getElem?_eq_none (by omega)]
    · rw [hW1]
      exact touch_setCellsE (S := fun i => i = g) rfl _ _ (touch_setCellsE (S := fun i => i = g) rfl _ _ ((Touch.refl _ w).drewN 1)))
  have hW : Hid (W1 = w.drew.setCells g (0 + p * 2) news) := hW1
  have p0 : (0 : Int) ≤ (p : Int) := by omega
  have p1 : (q : Int) ≤ (n : Int) := by omega
  have n8 : (n : Int) ≤ 8 := by omega
  have pc : (q : Int) ≤ (c : Int) := by omega
  have nc : (n : Int) ≤ (c : Int) := by omega
  have INFO := hide (And.intro hi0 (And.intro hz0 (And.intro hz1 hz2)))
  have E5 := hide e5
  have hic : p ≤ c := by omega
  have hjc : q ≤ c := by omega
  have hpn : q ≤ n := by omega
  have pq : (p : Int) < (q : Int) := by omega
  have q0 : (0 : Int) ≤ (q : Int) := by omega
  have pq2 : p ≤ q := by omega
  have npq : p + (n - q) = n - 1 := by omega
  have np1 : q - p = 1 := by omega
  have HQ := hide hq
  obtain ⟨m, hm⟩ : ∃ m, m = n - 1 := ⟨_, rfl⟩
  have mn : m ≤ n := by omega
  have nm1 : n - m = 1 := by omega
  have mc : ¬ c = m := by omega
  have mcl : m ≤ c := by omega
  have m0 : (0 : Int) ≤ (m : Int) := by omega
  have mn2 : (m : Int) ≤ (n : Int) := by omega
  rw [← hm] at npq hcl FIN ⊢
  clear hg1 sz1 hW1 hcur hdrop CL e3 e6 e7 e2 ho hsplit ltk hnews hlen fl e5 hq hm hi0 hz0 hz1 hz2 hn
  go_enter Tryz.func126, Tryz.ntmps126
  go_upto_region 5 with fail
  go_region_law (refine step_append_room rfl (.tmp 22) (.tmp 25) 36 rfl 105 i0 2 Tryz.underlying36 INFO.out.1 INFO.out.2.2.1 g 0 p c (by simp [Act.eval, Act.put]) A (n - q) (c - q) news (by simp [Act.eval, Act.put, hA]) s1.out hsrc.out s2.out (by omega) s3.out ?_; rw [← hW.out])
  go_wp2_with fail
  -- HERE
  go_ret
  exact ⟨rfl, FIN.out⟩
end Go.Proofs.YtndfnglcichngaaGreatDoor
