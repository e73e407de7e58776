/-
  The document's own queue (coxswainref8) in memory; at, Has.
-/
import Derived.Test.YtccokhalcdljiaaRdPlain
import Derived.Test.YtccokhalcdljiaaSame
namespace Go.Proofs.Ytccokhalcdljiaa
open Go.ChangeShapes Go.WideShapes Go.ChangeAt Go.RowKit
set_option linter.unusedVariables false
def rtD : Rt := ⟨0, prD⟩
def cellsRt (x : Rt) : List Value := [.int .i64 (x.id : Int), .int .i64 x.p.c, .int .i64 x.p.l, .int .i64 x.p.d]
def cellsRts (l : List Rt) : List Value := l.flatMap cellsRt
theorem cellsRts_append (a b : List Rt) : cellsRts (a ++ b) = cellsRts a ++ cellsRts b := by unfold cellsRts; simp
theorem cellsRts_one (x : Rt) : cellsRts [x] = cellsRt x := by unfold cellsRts; simp
theorem cellsRts_length (l : List Rt) : (cellsRts l).length = l.length * 4 := by
  induction l with
  | nil => rfl
  | cons x l ih => show (cellsRt x ++ cellsRts l).length = _; rw [List.length_append, ih, List.length_cons]; show 4 + _ = _; omega
theorem cellsRt_cell (x : Rt) : ∀ v ∈ cellsRt x, v.oneCell' = true := by
  intro v hv
  simp [cellsRt] at hv
  rcases hv with rfl | rfl | rfl | rfl <;> rfl
theorem cellsRts_cell (l : List Rt) : ∀ v ∈ cellsRts l, v.oneCell' = true := by
  intro v hv
  obtain ⟨x, _, h⟩ := List.mem_flatMap.mp hv
  exact cellsRt_cell x v h
theorem cellsRts_at {l : List Rt} {i : Nat} (j : Nat) (h : i < l.length) (hj : j < 4) : (cellsRts l)[i * 4 + j]? = (cellsRt l[i])[j]? := by
  induction l generalizing i with
  | nil => cases h
  | cons x l ih =>
    show (cellsRt x ++ cellsRts l)[i * 4 + j]? = _
    cases i with
    | zero =>
      rw [Nat.zero_mul, Nat.zero_add, List.getElem?_append_left (by show j < 4; exact hj)]
      rfl
    | succ i =>
      rw [List.getElem?_append_right (by show 4 ≤ (i + 1) * 4 + j; omega)]
      have : (i + 1) * 4 + j - (cellsRt x).length = i * 4 + j := by show (i + 1) * 4 + j - 4 = _; omega
      rw [this, ih (by simpa using h)]
      rfl
theorem own_sliceQ {w : World} {B : Nat} {e : TypeId} {z n : Nat} {v : Value} {xs : List Value} (h : w.ownsRow B e z v n xs) : ∃ a c, v = .slice a n c ∧ (a = none → c = 0) ∧ n ≤ c ∧ c ≤ maxLen ∧ (∀ x, a = some x → x.off = 0 ∧ x.spot = none) := by
  rcases h.2 with ⟨rfl, rfl⟩ | ⟨g, cap, cur, rfl, _, _, h1, h2, _⟩
  · exact ⟨none, 0, rfl, fun _ => rfl, Nat.le_refl _, by unfold maxLen; omega, (fun x e => by cases e)⟩
  · exact ⟨_, _, rfl, (fun e => by cases e), h1, h2, (fun x e => by injection e with e; subst e; exact ⟨rfl, rfl⟩)⟩
theorem oneq_info : (Try.prog.info? 71).map (fun i => (i.zero, i.size, i.bytes)) = some (some (.agg #[.int .i64 0, .int .i64 0, .int .i64 0, .int .i64 0]), 4, 32) := by kernel_rfl
/-- The document's queue at block S, its row in blocks of G. -/
structure Rq (w : World) (G : Nat → Prop) (S : Nat) (l : List Rt) : Prop where
  mem : ∃ a c, w.heap[S]? = some (.cells #[.slice a l.length c] 29 (0, 0)) ∧ w.ownsRow 0 71 4 (.slice a l.length c) l.length (cellsRts l) ∧ (∀ g, (Value.slice a l.length c).ownBlock = some g → g ≠ S ∧ G g)
  gS : G S
  lt : ∀ i, G i → i < w.heap.size
  good : GoodR l
  few : l.length ≤ 1000
theorem Rq.keep {U G : Nat → Prop} {w w' : World} {S : Nat} {l : List Rt} (h : Rq w G S l) (u : Touch U w w') (hU : ∀ i, G i → ¬ U i) : Rq w' G S l := by
  obtain ⟨a, c, e, ho, hv⟩ := h.mem
  exact ⟨⟨a, c, (u.block S (lt_of_heap e) (hU S h.gS)).trans e, u.own ho (fun g hg => hU g (hv g hg).2), hv⟩, h.gS, fun i hi => Nat.lt_of_lt_of_le (h.lt i hi) u.size, h.good, h.few⟩
theorem Rq.below {G : Nat → Prop} {w w' : World} {S : Nat} {l : List Rt} (h : Rq w G S l) (u : Below w.heap.size w w') : Rq w' G S l := h.keep (U := fun _ => False) (Touch.of_below u) (fun _ _ e => e)
theorem Rq.frozen {w : World} {G : Nat → Prop} {S : Nat} {l : List Rt} (h : Rq w G S l) (j : Nat) : w.frozen? ⟨S, j, none⟩ = false := by
  obtain ⟨a, c, e, _⟩ := h.mem
  exact frozen_of_row _ _ _ _ _ e
theorem Rq.row {w : World} {G : Nat → Prop} {S : Nat} {l : List Rt} (h : Rq w G S l) : ∃ a c, w.cell? ⟨S, 0, none⟩ = some (.slice a l.length c) ∧ (∀ i (hi : i < l.length), ∃ g, a = some ⟨g, 0, none⟩ ∧ w.cell? ⟨g, i * 4, none⟩ = some (.int .i64 (l[i].id : Int)) ∧ w.cell? ⟨g, i * 4 + 1, none⟩ = some (.int .i64 l[i].p.c) ∧ w.cell? ⟨g, i * 4 + 2, none⟩ = some (.int .i64 l[i].p.l) ∧ w.cell? ⟨g, i * 4 + 3, none⟩ = some (.int .i64 l[i].p.d)) := by
  obtain ⟨a, c, e, ho, _⟩ := h.mem
  refine ⟨a, c, by rw [cell_of_row _ _ _ _ _ _ e]; rfl, fun i hi => ?_⟩
  obtain ⟨g, rfl⟩ : ∃ g, a = some ⟨g, 0, none⟩ := by
    rcases ho.2 with ⟨e, h0⟩ | ⟨g, cap, cur, e, _⟩
    · omega
    · injection e with e _ _; exact ⟨g, e⟩
  have hc := fun j (hj : j < 4) => (ho.cellAt (i * 4 + j) (by omega)).trans (cellsRts_at j hi hj)
  exact ⟨g, rfl, hc 0 (by omega), hc 1 (by omega), hc 2 (by omega), hc 3 (by omega)⟩
theorem rqat_any {w : World} {G : Nat → Prop} {S : Nat} {l : List Rt} (h : Rq w G S l) (id : Int) :
    Calls Try.prog 30 #[.pointer (some ⟨S, 0, none⟩), .int .i64 id] w fun e w' => e = .returned (.int .i64 (posR l id)) ∧ w = w' := by
  obtain ⟨a, c, s1, hrow⟩ := h.row
  have HR := hide hrow
  have few := h.few
  clear h hrow
  rcases posR_cases l id with ⟨i, hi, e1, e2, e3, _⟩ | ⟨e1, e2, _⟩
  · rw [e3]
    have E2 := hide e2
    clear e2 e3
    go_enter Try.func30, Try.ntmps30
    go_wp2_with fail
    go_loop [5] (fun v => ∃ k : Nat, k ≤ i ∧ v = .int .i64 (k : Int)) (fun v => i - (intOf v).toNat)
    case atStart => exact ⟨0, Nat.zero_le _, rfl⟩
    case round =>
      obtain ⟨k, hk, rfl⟩ := hrel
      obtain ⟨g, rfl, c0, _⟩ := HR.out k (by omega)
      have k0 : (0 : Int) ≤ (k : Int) := by omega
      have k1 : (k : Int) < (l.length : Int) := by omega
      by_cases hki : k < i
      · have hne := E2.out k hki
        have hne' : (((l[k]'(by omega)).id : Int) == id) = false := by simpa using hne
        clear hne
        go_wp2_with fail
        go_round
        case rel => exact ⟨k + 1, by omega, by go_num⟩
        case measure => simp [intOf]; omega
      · obtain rfl : k = i := by omega
        have hne' : (((l[k]'(by omega)).id : Int) == id) = true := by simpa using e1
        clear e1
        go_wp2_with fail
        go_ret
        exact ⟨rfl, rfl⟩
  · rw [e2]
    have E1 := hide e1
    clear e1 e2
    go_enter Try.func30, Try.ntmps30
    go_wp2_with fail
    go_loop [5] (fun v => ∃ k : Nat, k ≤ l.length ∧ v = .int .i64 (k : Int)) (fun v => l.length - (intOf v).toNat)
    case atStart => exact ⟨0, Nat.zero_le _, rfl⟩
    case round =>
      obtain ⟨k, hk, rfl⟩ := hrel
      by_cases hki : k < l.length
      · obtain ⟨g, rfl, c0, _⟩ := HR.out k hki
        have k0 : (0 : Int) ≤ (k : Int) := by omega
        have k1 : (k : Int) < (l.length : Int) := by omega
        have hne := E1.out _ (List.getElem_mem hki)
        have hne' : ((l[k].id : Int) == id) = false := by simpa using hne
        clear hne
        go_wp2_with fail
        go_round
        case rel => exact ⟨k + 1, by omega, by go_num⟩
        case measure => simp [intOf]; omega
      · obtain rfl : k = l.length := by omega
        go_wp2_with fail
        go_ret
        exact ⟨rfl, rfl⟩
theorem rqhas_any {w : World} {G : Nat → Prop} {S : Nat} {l : List Rt} (h : Rq w G S l) (id : Int) :
    Calls Try.prog 20 #[.pointer (some ⟨S, 0, none⟩), .int .i64 id] w fun e w' => e = .returned (.bool (hasR l id)) ∧ w = w' := by
  have HA := hide (rqat_any h id)
  clear h
  rcases posR_cases l id with ⟨i, hi, e1, e2, e3, e4⟩ | ⟨e1, e3, e4⟩
  · rw [e4]
    rw [e3] at HA
    have i0 : (0 : Int) ≤ (i : Int) := by omega
    clear e1 e2 e3 e4
    go_enter Try.func20, Try.ntmps20
    go_wp2_with (go_at_call 30; refine HA.out.mono ?_; rintro e w' ⟨rfl, rfl⟩)
    go_ret
    exact ⟨rfl, rfl⟩
  · rw [e4]
    rw [e3] at HA
    clear e1 e3 e4
    go_enter Try.func20, Try.ntmps20
    go_wp2_with (go_at_call 30; refine HA.out.mono ?_; rintro e w' ⟨rfl, rfl⟩)
    go_ret
    exact ⟨rfl, rfl⟩
/-- The numbers, in memory of the call's own. -/
theorem rqall_any {w : World} {G : Nat → Prop} {S : Nat} {l : List Rt} (h : Rq w G S l) :
    Calls Try.prog 17 #[.pointer (some ⟨S, 0, none⟩)] w fun e w' => (∃ A c, e = .returned (.slice A l.length c) ∧ w'.ownsRow w.heap.size 3 1 (.slice A l.length c) l.length ((allR l).map (Value.int .i64))) ∧ Below w.heap.size w w' := by
  obtain ⟨i0, hi0, hz0, hz1, hz2⟩ := info_parts int_info
  have HZ := hide hz2
  obtain ⟨a, c, s1, hrow⟩ := h.row
  have HR := hide hrow
  have few := h.few
  have LS := hide (h.lt S h.gS)
  have O0 := hide (show w.ownsRow w.heap.size 3 1 (.slice none 0 0) ((allR l).take 0).length (((allR l).take 0).map (Value.int .i64)) from World.ownsRow_nil _ _ _ _)
  have hal : (allR l).length = l.length := by simp [allR]
  have HAL := hide hal
  clear h hrow hz2 hal
  go_enter Try.func17, Try.ntmps17
  go_wp2_with fail
  go_loopw [4, 3] (fun i v wr => ∃ (k : Nat), k ≤ l.length ∧ i = .int .i64 (k : Int) ∧ Hid (Below w.heap.size w wr ∧ wr.ownsRow w.heap.size 3 1 v ((allR l).take k).length (((allR l).take k).map (Value.int .i64)))) (fun i _ _ => l.length - (intOf i).toNat)
  case atStart => exact ⟨0, Nat.zero_le _, rfl, Below.refl _ _, O0.out⟩
  case round =>
    clear O0
    obtain ⟨k, hk, rfl, hL⟩ := hrel
    have r1 := (hL.out.1.cell (p := ⟨S, 0, none⟩) LS.out).trans s1
    have tl : ((allR l).take k).length ≤ 1000 := by rw [List.length_take]; omega
    obtain ⟨A9, c9, rfl, _⟩ := own_sliceQ hL.out.2
    by_cases hkl : k < l.length
    · obtain ⟨g, rfl, c0, _⟩ := HR.out k hkl
      have lg : g < w.heap.size := lt_of_cell? c0
      have e0 := (hL.out.1.cell (p := ⟨g, k * 4, none⟩) lg).trans c0
      have k0 : (0 : Int) ≤ (k : Int) := by omega
      have k1 : (k : Int) < (l.length : Int) := by omega
      have TK := hide (show (allR l).take (k + 1) = (allR l).take k ++ [(l[k].id : Int)] from by
        rw [List.take_succ_eq_append_getElem (by rw [HAL.out]; exact hkl)]; simp [allR])
      clear c0
      go_wp2_with (at_builtin; refine wpList_append_own_at _ rfl (.tmp 14) (.tmp 23) _ rfl w.heap.size 3 i0 _ 1 8 Try.underlying39 hi0 hz0 hz1 HZ.out rfl (by omega) _ _ _ rfl (hL.out.2.alloc _) ⟨wr.heap.size, 0, none⟩ 1 1 [.int .i64 (l[k].id : Int)] rfl rfl (cell_one_new _ _ _) (by intro z hz; rw [List.mem_singleton] at hz; rw [hz]; rfl) (by unfold maxLen; omega) (by omega) (by have := hL.out.1.size; simp; omega) ?_; intro v2 w8 o8 g8 _ t8; have O8 := hide o8; have B8 := hide ((hL.out.1.alloc hL.out.1.size _).grown g8 (by have := hL.out.1.size; simp; omega) (fun k hk => (hL.out.2.lt k hk).1)); clear o8 g8 t8)
      go_roundw
      case rel => exact ⟨k + 1, by omega, by go_num, B8.out, by rw [TK.out, List.length_append, List.map_append]; exact O8.out⟩
      case measure => simp [intOf]; omega
    · obtain rfl : k = l.length := by omega
      have O := hide hL.out.2
      have B := hide hL.out.1
      have e1 : (allR l).take l.length = allR l := by rw [← HAL.out, List.take_length]
      rw [e1, HAL.out] at O
      rw [e1, HAL.out]
      clear hL e1 tl
      go_wp2_with fail
      go_ret
      exact ⟨⟨A9, c9, rfl, O.out⟩, B.out⟩
end Go.Proofs.Ytccokhalcdljiaa
