/-
  The document's own wheel (coxswainref6) in memory; New, at, Len.
-/
import Derived.Test.YtpmggiahhjllcaaWhPlain
import Derived.Deep.QuietTactic
import Derived.BigQuiet
import Derived.Deep.DeepCutAuto
import Derived.Deep.CutBlock
import Derived.Deep.RegionHeld3
namespace Go.Proofs.Ytpmggiahhjllcaa
open Go.ChangeShapes Go.WideShapes Go.ChangeAt Go.RowKit
set_option linter.unusedVariables false
def cellsTm (x : Tm) : List Value := [.int .i64 (x.id : Int), .int .i64 (x.due : Int)]
def cellsTms (l : List Tm) : List Value := l.flatMap cellsTm
theorem cellsTms_append (a b : List Tm) : cellsTms (a ++ b) = cellsTms a ++ cellsTms b := by unfold cellsTms; simp
theorem cellsTms_one (x : Tm) : cellsTms [x] = cellsTm x := by unfold cellsTms; simp
theorem cellsTms_length (l : List Tm) : (cellsTms l).length = l.length * 2 := by
  induction l with
  | nil => rfl
  | cons x l ih => show (cellsTm x ++ cellsTms l).length = _; rw [List.length_append, ih, List.length_cons]; show 2 + _ = _; omega
theorem cellsTm_cell (x : Tm) : ∀ v ∈ cellsTm x, v.oneCell' = true := by
  intro v hv
  simp [cellsTm] at hv
  rcases hv with rfl | rfl <;> rfl
theorem cellsTms_cell (l : List Tm) : ∀ v ∈ cellsTms l, v.oneCell' = true := by
  intro v hv
  obtain ⟨x, _, h⟩ := List.mem_flatMap.mp hv
  exact cellsTm_cell x v h
theorem cellsTms_at {l : List Tm} {i : Nat} (j : Nat) (h : i < l.length) (hj : j < 2) : (cellsTms l)[i * 2 + j]? = (cellsTm l[i])[j]? := by
  induction l generalizing i with
  | nil => cases h
  | cons x l ih =>
    show (cellsTm x ++ cellsTms l)[i * 2 + j]? = _
    cases i with
    | zero =>
      rw [Nat.zero_mul, Nat.zero_add, List.getElem?_append_left (by show j < 2; exact hj)]
      rfl
    | succ i =>
      rw [List.getElem?_append_right (by show 2 ≤ (i + 1) * 2 + j; omega)]
      have : (i + 1) * 2 + j - (cellsTm x).length = i * 2 + j := by show (i + 1) * 2 + j - 2 = _; omega
      rw [this, ih (by simpa using h)]
      rfl
/-- The document's wheel at block S, its row in blocks of G. -/
structure Wr (w : World) (G : Nat → Prop) (S : Nat) (s : Ws) : Prop where
  mem : ∃ a c, w.heap[S]? = some (.cells #[.int .i64 (s.now : Int), .slice a s.l.length c] 61 (0, 0)) ∧ w.ownsRow 0 65 2 (.slice a s.l.length c) s.l.length (cellsTms s.l) ∧ (∀ g, (Value.slice a s.l.length c).ownBlock = some g → g ≠ S ∧ G g)
  gS : G S
  lt : ∀ i, G i → i < w.heap.size
  good : GoodW s
theorem Wr.keep {U G : Nat → Prop} {w w' : World} {S : Nat} {s : Ws} (h : Wr w G S s) (u : Touch U w w') (hU : ∀ i, G i → ¬ U i) : Wr w' G S s := by
  obtain ⟨a, c, e, ho, hv⟩ := h.mem
  exact ⟨⟨a, c, (u.block S (lt_of_heap e) (hU S h.gS)).trans e, u.own ho (fun g hg => hU g (hv g hg).2), hv⟩, h.gS, fun i hi => Nat.lt_of_lt_of_le (h.lt i hi) u.size, h.good⟩
theorem Wr.below {G : Nat → Prop} {w w' : World} {S : Nat} {s : Ws} (h : Wr w G S s) (u : Below w.heap.size w w') : Wr w' G S s := h.keep (U := fun _ => False) (Touch.of_below u) (fun _ _ e => e)
theorem Wr.s0 {w : World} {G : Nat → Prop} {S : Nat} {s : Ws} (h : Wr w G S s) : w.cell? ⟨S, 0, none⟩ = some (.int .i64 (s.now : Int)) := by
  obtain ⟨a, c, e, _⟩ := h.mem
  rw [cell_of_row _ _ _ _ _ _ e]; rfl
theorem Wr.frozen {w : World} {G : Nat → Prop} {S : Nat} {s : Ws} (h : Wr w G S s) (j : Nat) : w.frozen? ⟨S, j, none⟩ = false := by
  obtain ⟨a, c, e, _⟩ := h.mem
  exact frozen_of_row _ _ _ _ _ e
theorem Wr.row {w : World} {G : Nat → Prop} {S : Nat} {s : Ws} (h : Wr w G S s) : ∃ a c, w.cell? ⟨S, 1, none⟩ = some (.slice a s.l.length c) ∧ (∀ i (hi : i < s.l.length), ∃ g, a = some ⟨g, 0, none⟩ ∧ w.cell? ⟨g, i * 2, none⟩ = some (.int .i64 (s.l[i].id : Int)) ∧ w.cell? ⟨g, i * 2 + 1, none⟩ = some (.int .i64 (s.l[i].due : Int))) := by
  obtain ⟨a, c, e, ho, _⟩ := h.mem
  refine ⟨a, c, by rw [cell_of_row _ _ _ _ _ _ e]; rfl, fun i hi => ?_⟩
  obtain ⟨g, rfl⟩ : ∃ g, a = some ⟨g, 0, none⟩ := by
    rcases ho.2 with ⟨e, h0⟩ | ⟨g, cap, cur, e, _⟩
    · omega
    · injection e with e _ _; exact ⟨g, e⟩
  have hc := fun j (hj : j < 2) => (ho.cellAt (i * 2 + j) (by omega)).trans (cellsTms_at j hi hj)
  exact ⟨g, rfl, hc 0 (by omega), hc 1 (by omega)⟩
theorem wrnew_bad (w : World) (n : Int) (h : n < 0 ∨ 16777216 ≤ n) : Calls Try.prog 11 #[.int .i64 n] w fun e w' => e = .returned (.tuple #[.pointer none, .int .i64 2]) ∧ w = w' := by
  by_cases h1 : n < 0
  · go_enter Try.func11, Try.ntmps11
    go_wp2_with fail
    go_ret2
    exact ⟨rfl, rfl⟩
  · have h2 : 16777216 ≤ n := by omega
    go_enter Try.func11, Try.ntmps11
    go_wp2_with fail
    go_ret2
    exact ⟨rfl, rfl⟩
theorem wrnew_ok (w : World) (n : Nat) (h : n < 16777216) : Calls Try.prog 11 #[.int .i64 (n : Int)] w fun e w' => ∃ S, e = .returned (.tuple #[.pointer (some ⟨S, 0, none⟩), .int .i64 0]) ∧ Wr w' (fun i => i = S) S ⟨n, []⟩ ∧ Below w.heap.size w w' ∧ w.heap.size ≤ S := by
  have h1 : ¬ (n : Int) < 0 := by omega
  have h2 : ¬ (16777216 : Int) ≤ (n : Int) := by omega
  go_enter Try.func11, Try.ntmps11
  go_wp2_with fail
  go_ret2
  exact ⟨_, rfl, ⟨⟨none, 0, heap_alloc_new _ _, World.ownsRow_nil _ _ _ _, fun g hg => by cases hg⟩, rfl, fun i hi => by rw [hi]; simp, good_new n h⟩, (Below.refl _ _).alloc (Nat.le_refl _) _, Nat.le_refl _⟩
theorem wrat_any {w : World} {G : Nat → Prop} {S : Nat} {s : Ws} (h : Wr w G S s) (id : Int) :
    Calls Try.prog 28 #[.pointer (some ⟨S, 0, none⟩), .int .i64 id] w fun e w' => e = .returned (.int .i64 (pos s.l id)) ∧ w = w' := by
  obtain ⟨a, c, s1, hrow⟩ := h.row
  have HR := hide hrow
  have few := h.good.few
  clear h hrow
  rcases pos_cases s.l id with ⟨i, hi, e1, e2, e3, _⟩ | ⟨e1, e2, _⟩
  · rw [e3]
    have E2 := hide e2
    clear e2 e3
    go_enter Try.func28, Try.ntmps28
    go_wp2_with fail
    go_loop [5] (fun v => ∃ k : Nat, k ≤ i ∧ v = .int .i64 (k : Int)) (fun v => i - (intOf v).toNat)
    case atStart => exact ⟨0, Nat.zero_le _, rfl⟩
    case round =>
      obtain ⟨k, hk, rfl⟩ := hrel
      obtain ⟨g, rfl, c0, _⟩ := HR.out k (by omega)
      have k0 : (0 : Int) ≤ (k : Int) := by omega
      have k1 : (k : Int) < (s.l.length : Int) := by omega
      by_cases hki : k < i
      · have hne := E2.out k hki
        have hne' : (((s.l[k]'(by omega)).id : Int) == id) = false := by simpa using hne
        clear hne
        go_wp2_with fail
        go_round
        case rel => exact ⟨k + 1, by omega, by go_num⟩
        case measure => simp [intOf]; omega
      · obtain rfl : k = i := by omega
        have hne' : (((s.l[k]'(by omega)).id : Int) == id) = true := by simpa using e1
        clear e1
        go_wp2_with fail
        go_ret
        exact ⟨rfl, rfl⟩
  · rw [e2]
    have E1 := hide e1
    clear e1 e2
    go_enter Try.func28, Try.ntmps28
    go_wp2_with fail
    go_loop [5] (fun v => ∃ k : Nat, k ≤ s.l.length ∧ v = .int .i64 (k : Int)) (fun v => s.l.length - (intOf v).toNat)
    case atStart => exact ⟨0, Nat.zero_le _, rfl⟩
    case round =>
      obtain ⟨k, hk, rfl⟩ := hrel
      by_cases hki : k < s.l.length
      · obtain ⟨g, rfl, c0, _⟩ := HR.out k hki
        have k0 : (0 : Int) ≤ (k : Int) := by omega
        have k1 : (k : Int) < (s.l.length : Int) := by omega
        have hne := E1.out _ (List.getElem_mem hki)
        have hne' : ((s.l[k].id : Int) == id) = false := by simpa using hne
        clear hne
        go_wp2_with fail
        go_round
        case rel => exact ⟨k + 1, by omega, by go_num⟩
        case measure => simp [intOf]; omega
      · obtain rfl : k = s.l.length := by omega
        go_wp2_with fail
        go_ret
        exact ⟨rfl, rfl⟩
/-- What At tells. -/
def atOf (l : List Tm) (id : Int) : Option Nat := (l.find? (fun x => (x.id : Int) == id)).map (·.due)
theorem atOf_some {l : List Tm} {id : Int} {i : Nat} (hi : i < l.length) (h : (l[i].id : Int) = id) (h2 : ∀ j (hj : j < i), ((l[j]'(by omega)).id : Int) ≠ id) : atOf l id = some l[i].due := by
  unfold atOf
  have : l.find? (fun x => (x.id : Int) == id) = some l[i] := by
    rw [List.find?_eq_some_iff_getElem]
    exact ⟨by simpa using h, i, hi, rfl, fun j hj => by simpa using h2 j hj⟩
  rw [this]; rfl
theorem atOf_none {l : List Tm} {id : Int} (h : ∀ x ∈ l, (x.id : Int) ≠ id) : atOf l id = none := by
  unfold atOf
  rw [List.find?_eq_none.mpr (fun x hx => by simpa using h x hx)]; rfl
theorem wrAt_any {w : World} {G : Nat → Prop} {S : Nat} {s : Ws} (h : Wr w G S s) (id : Int) :
    Calls Try.prog 35 #[.pointer (some ⟨S, 0, none⟩), .int .i64 id] w fun e w' => e = .returned (.tuple #[.int .i64 ((atOf s.l id).getD 0 : Nat), .bool (atOf s.l id).isSome]) ∧ w = w' := by
  have HH := hide h
  obtain ⟨a, c, s1, hrow⟩ := h.row
  have few := h.good.few
  clear h
  rcases pos_cases s.l id with ⟨i, hi, e1, e2, e3, _⟩ | ⟨e1, e2, _⟩
  · rw [atOf_some hi e1 e2]
    obtain ⟨g, rfl, _, c1⟩ := hrow i hi
    clear e1 e2 hrow
    have i0 : (0 : Int) ≤ (i : Int) := by omega
    have i1 : (i : Int) < (s.l.length : Int) := by omega
    have i2 : ¬ (i : Int) < 0 := by omega
    go_enter Try.func35, Try.ntmps35
    go_wp2_with (go_at_call 28; refine (wrat_any HH.out id).mono ?_; rintro e w' ⟨rfl, rfl⟩; rw [e3])
    go_ret2
    exact ⟨rfl, rfl⟩
  · rw [atOf_none e1]
    clear e1 hrow
    go_enter Try.func35, Try.ntmps35
    go_wp2_with (go_at_call 28; refine (wrat_any HH.out id).mono ?_; rintro e w' ⟨rfl, rfl⟩; rw [e2])
    go_ret2
    exact ⟨rfl, rfl⟩
end Go.Proofs.Ytpmggiahhjllcaa
