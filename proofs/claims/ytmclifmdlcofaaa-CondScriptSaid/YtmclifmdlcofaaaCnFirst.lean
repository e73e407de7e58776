/-
  Who of several is before the others: the program's first, with what it defers; Signal.
-/
import Derived.Test.YtmclifmdlcofaaaCnCan
import Derived.Defers
import Derived.Recover
import Derived.Laws.Pointers
namespace Go.Proofs.Ytmclifmdlcofaaa
open Go.ChangeShapes Go.WideShapes Go.ChangeAt Go.RowKit
set_option linter.unusedVariables false
set_option linter.unusedSimpArgs false
/-- What is deferred, where nothing panics. -/
theorem catch_idle (p q : Addr) (w : World) :
    CallsD Try.prog 37 #[.pointer (some p), .pointer (some q)] .returning w fun e u' w' => e = .returned (.tuple #[]) ∧ u' = .returning ∧ w' = w := by
  refine callsD_of_wpS Try.func37 rfl fun c₀ cs hu => ?_
  apply wpS_seq
  apply wpS_region
  simp [wpOpsS, go_sem, recoverD, hu, Try.ntmps37, Exit.thenS]
  refine wpS_cond (t := false) (by simp [Act.eval, Array.replicate]) ?_
  simp only [Bool.false_eq_true, if_false]
  refine wpS_of_wp (wp_skip ?_)
  cases c₀
  simp_all [bodyPostS, results, Try.results37]
theorem before_set (K : Nat) (w : World) : (binOp .eql 42 (.func (.func 16) #[.pointer (some ⟨K, 0, none⟩)] #[]) .nilFunc).run Try.prog w = .ok (.bool false) w := by kernel_rfl
theorem before_nil (w : World) : (binOp .eql 42 .nilFunc .nilFunc).run Try.prog w = .ok (.bool true) w := by kernel_rfl
set_option maxRecDepth 10000 in
set_option maxHeartbeats 4000000 in
theorem first_none (w : World) (a : Option Addr) (c : Nat) (fv : Value) :
    Calls Try.prog 29 #[.slice a 0 c, fv] w fun e w' => e = .returned (.tuple #[.int .i64 (-1), .bool false]) ∧ Below w.heap.size w w' := by
  have B0 := hide (show Below w.heap.size w ((w.alloc (.cells #[.int .i64 (-1)] 3)).alloc (.cells #[.bool false] 4)) from ((Below.refl _ _).alloc (Nat.le_refl _) _).alloc (by simp) _)
  go_enter_defers Try.func29, Try.ntmps29
  go_wp2_with fail
  simp [bodyPostD, Leaves, results, Try.results29, go_sem]
  exact B0.out
/-- Two cells of one's own, each written. -/
theorem cells_two {W : World} {Z : Nat} {a b : Value} (q0 : W.cell? ⟨Z, 0, none⟩ = some a) (q1 : W.cell? ⟨Z + 1, 0, none⟩ = some b) (u v : Value) : ((W.setCell ⟨Z, 0, none⟩ u).setCell ⟨Z + 1, 0, none⟩ v).cell? ⟨Z, 0, none⟩ = some u ∧ ((W.setCell ⟨Z, 0, none⟩ u).setCell ⟨Z + 1, 0, none⟩ v).cell? ⟨Z + 1, 0, none⟩ = some v := by
  have h0 : (W.setCell ⟨Z, 0, none⟩ u).cell? ⟨Z, 0, none⟩ = some u := World.cell?_setCell_same' _ _ _ (by rw [q0]; rfl)
  have h1 : (W.setCell ⟨Z, 0, none⟩ u).cell? ⟨Z + 1, 0, none⟩ = some b := by rw [← q1]; exact World.cell?_setCell_far _ _ _ _ (by simp)
  exact ⟨by rw [World.cell?_setCell_far _ _ _ _ (by simp)]; exact h0, World.cell?_setCell_same' _ _ _ (by rw [h1]; rfl)⟩
theorem two_made (w : World) (x : Int) : ((w.alloc (.cells #[.int .i64 x] 3)).alloc (.cells #[.bool false] 4)).cell? ⟨w.heap.size, 0, none⟩ = some (.int .i64 x) ∧ ((w.alloc (.cells #[.int .i64 x] 3)).alloc (.cells #[.bool false] 4)).cell? ⟨w.heap.size + 1, 0, none⟩ = some (.bool false) ∧
    ((w.alloc (.cells #[.int .i64 x] 3)).alloc (.cells #[.bool false] 4)).frozen? ⟨w.heap.size, 0, none⟩ = false ∧ ((w.alloc (.cells #[.int .i64 x] 3)).alloc (.cells #[.bool false] 4)).frozen? ⟨w.heap.size + 1, 0, none⟩ = false := by
  have e0 : ((w.alloc (.cells #[.int .i64 x] 3)).alloc (.cells #[.bool false] 4)).heap[w.heap.size]? = some (.cells #[.int .i64 x] 3 (0, 0)) := (heap_alloc_old _ _ (by simp)).trans (heap_alloc_new w _)
  have e1 : ((w.alloc (.cells #[.int .i64 x] 3)).alloc (.cells #[.bool false] 4)).heap[w.heap.size + 1]? = some (.cells #[.bool false] 4 (0, 0)) := by
    have := heap_alloc_new (w.alloc (.cells #[.int .i64 x] 3)) (.cells #[.bool false] 4)
    simpa using this
  exact ⟨by rw [cell_of_row _ _ _ _ _ _ e0]; rfl, by rw [cell_of_row _ _ _ _ _ _ e1]; rfl, frozen_of_row _ _ _ _ _ e0, frozen_of_row _ _ _ _ _ e1⟩
set_option maxRecDepth 10000 in
set_option maxHeartbeats 4000000 in
/-- Of one alone it isn't asked. -/
theorem first_one {w : World} {g c : Nat} {x : Int} (ho : w.ownsRow 0 3 1 (.slice (some ⟨g, 0, none⟩) 1 c) 1 [.int .i64 x]) {fv : Value} (hf : fv = .nilFunc ∨ ∃ K, fv = .func (.func 16) #[.pointer (some ⟨K, 0, none⟩)] #[]) :
    Calls Try.prog 29 #[.slice (some ⟨g, 0, none⟩) 1 c, fv] w fun e w' => e = .returned (.tuple #[.int .i64 x, .bool true]) ∧ Below w.heap.size w w' := by
  have hmf : ∀ (fn : Fn) (first cap : Array Value) (w : World), (Instr.makeFunc fn first cap).run Try.prog w = .ok (.func fn first cap) w := fun _ _ _ _ => rfl
  obtain ⟨cur, e3, e4, e5, e6, e7⟩ := row_cells ho
  have c0 : ((w.alloc (.cells #[.int .i64 0] 3)).alloc (.cells #[.bool false] 4)).cell? ⟨g, 0, none⟩ = some (.int .i64 x) := by
    have b : Below w.heap.size w ((w.alloc (.cells #[.int .i64 0] 3)).alloc (.cells #[.bool false] 4)) := ((Below.refl _ _).alloc (Nat.le_refl _) _).alloc (by simp) _
    have hY := (Touch.of_below (S := fun _ => False) b).own ho (fun _ _ e => e)
    rw [hY.cellAt 0 (by omega)]; rfl
  have PB : Below w.heap.size w ((w.alloc (.cells #[.int .i64 x] 3)).alloc (.cells #[.bool false] 4)) := ((Below.refl _ _).alloc (Nat.le_refl _) _).alloc (by simp) _
  obtain ⟨q0, q1, f0, f1⟩ := two_made w x
  have n1 : (1 : Int) ≤ (c : Int) := by omega
  have n2 : 1 ≤ c := by omega
  have c6 : c ≤ maxLen := e5
  clear ho e3 e4 e5 e6 e7
  by_cases hc : c = 1
  · subst hc
    rcases hf with rfl | ⟨K, rfl⟩
    · have bs := before_nil
      go_enter_defers Try.func29, Try.ntmps29
      go_wp2_with fail
      obtain ⟨W0, hW0⟩ : ∃ W0, W0 = (w.alloc (.cells #[.int .i64 x] 3)).alloc (.cells #[.bool false] 4) := ⟨_, rfl⟩
      rw [← hW0]
      rw [← hW0] at PB q0 q1 f0 f1
      have P0 := hide PB
      clear hW0 c0 PB
      go_loopw [27] (fun iv wr => iv = .int .i64 0 ∧ W0 = wr) (fun _ _ => 0)
      case atStart => exact ⟨rfl, rfl⟩
      case round =>
        obtain ⟨rfl, rfl⟩ := hrel
        go_wp2_with fail
        refine leaves_cons (f := 37) (args := #[.pointer (some ⟨w.heap.size, 0, none⟩), .pointer (some ⟨w.heap.size + 1, 0, none⟩)]) (by simp) (by simp [go_sem]) ?_
        refine (catch_idle _ _ _).mono ?_
        rintro e u' w2 ⟨rfl, rfl, rfl⟩
        have y0 := cells_two q0 q1 (.int .i64 x) (.bool true)
        simp [Leaves, settle, results, Try.results29, go_sem, y0.1, y0.2]
        exact (P0.out.setCell (p := ⟨w.heap.size, 0, none⟩) (Nat.le_refl _) _).setCell (p := ⟨w.heap.size + 1, 0, none⟩) (by simp) _
    · have bs := before_set K
      go_enter_defers Try.func29, Try.ntmps29
      go_wp2_with fail
      obtain ⟨W0, hW0⟩ : ∃ W0, W0 = (w.alloc (.cells #[.int .i64 x] 3)).alloc (.cells #[.bool false] 4) := ⟨_, rfl⟩
      rw [← hW0]
      rw [← hW0] at PB q0 q1 f0 f1
      have P0 := hide PB
      clear hW0 c0 PB
      go_loopw [27] (fun iv wr => iv = .int .i64 0 ∧ W0 = wr) (fun _ _ => 0)
      case atStart => exact ⟨rfl, rfl⟩
      case round =>
        obtain ⟨rfl, rfl⟩ := hrel
        go_wp2_with fail
        refine leaves_cons (f := 37) (args := #[.pointer (some ⟨w.heap.size, 0, none⟩), .pointer (some ⟨w.heap.size + 1, 0, none⟩)]) (by simp) (by simp [go_sem]) ?_
        refine (catch_idle _ _ _).mono ?_
        rintro e u' w2 ⟨rfl, rfl, rfl⟩
        have y0 := cells_two q0 q1 (.int .i64 x) (.bool true)
        simp [Leaves, settle, results, Try.results29, go_sem, y0.1, y0.2]
        exact (P0.out.setCell (p := ⟨w.heap.size, 0, none⟩) (Nat.le_refl _) _).setCell (p := ⟨w.heap.size + 1, 0, none⟩) (by simp) _
  · rcases hf with rfl | ⟨K, rfl⟩
    · have bs := before_nil
      go_enter_defers Try.func29, Try.ntmps29
      go_wp2_with fail
      obtain ⟨W0, hW0⟩ : ∃ W0, W0 = (w.alloc (.cells #[.int .i64 x] 3)).alloc (.cells #[.bool false] 4) := ⟨_, rfl⟩
      rw [← hW0]
      rw [← hW0] at PB q0 q1 f0 f1
      have P0 := hide PB
      clear hW0 c0 PB
      go_loopw [27] (fun iv wr => iv = .int .i64 0 ∧ W0 = wr) (fun _ _ => 0)
      case atStart => exact ⟨rfl, rfl⟩
      case round =>
        obtain ⟨rfl, rfl⟩ := hrel
        go_wp2_with fail
        refine leaves_cons (f := 37) (args := #[.pointer (some ⟨w.heap.size, 0, none⟩), .pointer (some ⟨w.heap.size + 1, 0, none⟩)]) (by simp) (by simp [go_sem]) ?_
        refine (catch_idle _ _ _).mono ?_
        rintro e u' w2 ⟨rfl, rfl, rfl⟩
        have y0 := cells_two q0 q1 (.int .i64 x) (.bool true)
        simp [Leaves, settle, results, Try.results29, go_sem, y0.1, y0.2]
        exact (P0.out.setCell (p := ⟨w.heap.size, 0, none⟩) (Nat.le_refl _) _).setCell (p := ⟨w.heap.size + 1, 0, none⟩) (by simp) _
    · have bs := before_set K
      go_enter_defers Try.func29, Try.ntmps29
      go_wp2_with fail
      obtain ⟨W0, hW0⟩ : ∃ W0, W0 = (w.alloc (.cells #[.int .i64 x] 3)).alloc (.cells #[.bool false] 4) := ⟨_, rfl⟩
      rw [← hW0]
      rw [← hW0] at PB q0 q1 f0 f1
      have P0 := hide PB
      clear hW0 c0 PB
      go_loopw [27] (fun iv wr => iv = .int .i64 0 ∧ W0 = wr) (fun _ _ => 0)
      case atStart => exact ⟨rfl, rfl⟩
      case round =>
        obtain ⟨rfl, rfl⟩ := hrel
        go_wp2_with fail
        refine leaves_cons (f := 37) (args := #[.pointer (some ⟨w.heap.size, 0, none⟩), .pointer (some ⟨w.heap.size + 1, 0, none⟩)]) (by simp) (by simp [go_sem]) ?_
        refine (catch_idle _ _ _).mono ?_
        rintro e u' w2 ⟨rfl, rfl, rfl⟩
        have y0 := cells_two q0 q1 (.int .i64 x) (.bool true)
        simp [Leaves, settle, results, Try.results29, go_sem, y0.1, y0.2]
        exact (P0.out.setCell (p := ⟨w.heap.size, 0, none⟩) (Nat.le_refl _) _).setCell (p := ⟨w.heap.size + 1, 0, none⟩) (by simp) _
theorem best_snoc (ks : List Int) (x : Int) (l : List Int) (j : Nat) (y : Int) (h : l[j]? = some y) : bestFrom ks x (l.take (j + 1)) = if befC ks y (bestFrom ks x (l.take j)) = true then y else bestFrom ks x (l.take j) := by
  rw [List.take_add_one, h]
  exact bestFrom_snoc ks x (l.take j) y
/-- The two cells of the one who is looked for. -/
structure Cells2 (w wr : World) (b : Int) : Prop where
  q0 : wr.cell? ⟨w.heap.size, 0, none⟩ = some (.int .i64 b)
  q1 : wr.cell? ⟨w.heap.size + 1, 0, none⟩ = some (.bool false)
  f0 : wr.frozen? ⟨w.heap.size, 0, none⟩ = false
  f1 : wr.frozen? ⟨w.heap.size + 1, 0, none⟩ = false
  bel : Below w.heap.size w wr
theorem Cells2.below {w wr w2 : World} {b : Int} (h : Cells2 w wr b) (u : Below wr.heap.size wr w2) : Cells2 w w2 b := by
  have l0 := lt_of_cell? h.q0
  have l1 := lt_of_cell? h.q1
  exact ⟨(u.cell (p := ⟨w.heap.size, 0, none⟩) l0).trans h.q0, (u.cell (p := ⟨w.heap.size + 1, 0, none⟩) l1).trans h.q1, (u.frozen (p := ⟨w.heap.size, 0, none⟩) l0).trans h.f0, (u.frozen (p := ⟨w.heap.size + 1, 0, none⟩) l1).trans h.f1, h.bel.trans (u.mono h.bel.size)⟩
theorem Cells2.set {w wr : World} {b : Int} (h : Cells2 w wr b) (y : Int) : Cells2 w (wr.setCell ⟨w.heap.size, 0, none⟩ (.int .i64 y)) y :=
  ⟨World.cell?_setCell_same' _ _ _ (by rw [h.q0]; rfl), by rw [World.cell?_setCell_far _ _ _ _ (by simp)]; exact h.q1, by simpa using h.f0, by simpa using h.f1, h.bel.setCell (p := ⟨w.heap.size, 0, none⟩) (Nat.le_refl _) _⟩
set_option maxRecDepth 10000 in
set_option maxHeartbeats 4000000 in
/-- Of several: one behind the other. -/
theorem first_more {w : World} {g c m : Nat} {x : Int} {l : List Int} (hm : m = l.length) (ho : w.ownsRow 0 3 1 (.slice (some ⟨g, 0, none⟩) (m + 1) c) (m + 1) ((x :: l).map (Value.int .i64))) (hl : m ≤ 100000) (hc : ¬ c = 1) {ks : List Int} {K : Nat} (hK : KeysAt w K ks) :
    Calls Try.prog 29 #[.slice (some ⟨g, 0, none⟩) (m + 1) c, .func (.func 16) #[.pointer (some ⟨K, 0, none⟩)] #[]] w fun e w' => e = .returned (.tuple #[.int .i64 (bestFrom ks x l), .bool true]) ∧ Below w.heap.size w w' := by
  have hmf : ∀ (fn : Fn) (first cap : Array Value) (w : World), (Instr.makeFunc fn first cap).run Try.prog w = .ok (.func fn first cap) w := fun _ _ _ _ => rfl
  obtain ⟨cur, e3, e4, e5, e6, e7⟩ := row_cells ho
  obtain ⟨N, hN⟩ : ∃ N, N = m + 1 := ⟨_, rfl⟩
  have CX := hide (show ∀ Y, Below w.heap.size w Y → Y.cell? ⟨g, 0, none⟩ = some (.int .i64 x) ∧ KeysAt Y K ks ∧ ∀ j y, l[j]? = some y → Y.cell? ⟨g, 1 + j, none⟩ = some (.int .i64 y) from fun Y b => by
    have hY := (Touch.of_below (S := fun _ => False) b).own ho (fun _ _ e => e)
    refine ⟨?_, hK.below b, fun j y hj => ?_⟩
    · rw [hY.cellAt 0 (by omega)]; rfl
    · have := (List.getElem?_eq_some_iff.1 hj).1
      rw [hY.cellAt (1 + j) (by omega), Nat.add_comm 1 j, List.map_cons, List.getElem?_cons_succ, List.getElem?_map, hj]; rfl)
  have n0 : ¬ (N : Int) = 0 := by omega
  have nc : N ≤ c := by omega
  have nc' : (N : Int) ≤ (c : Int) := by omega
  have c6 : c ≤ maxLen := e5
  have n1 : (1 : Int) ≤ (N : Int) := by omega
  have nm : N - 1 = m := by omega
  obtain ⟨c0, _⟩ := CX.out ((w.alloc (.cells #[.int .i64 0] 3)).alloc (.cells #[.bool false] 4)) (((Below.refl _ _).alloc (Nat.le_refl _) _).alloc (by simp) _)
  have PB : Below w.heap.size w ((w.alloc (.cells #[.int .i64 x] 3)).alloc (.cells #[.bool false] 4)) := ((Below.refl _ _).alloc (Nat.le_refl _) _).alloc (by simp) _
  obtain ⟨q0, q1, f0, f1⟩ := two_made w x
  have T0 := hide (show Cells2 w _ x from ⟨q0, q1, f0, f1, PB⟩)
  rw [← hN]
  have bs := before_set K
  have HM := hide hm
  have HL := hide hl
  clear ho e3 e4 e5 e6 e7 hN hm hK q0 q1 f0 f1 PB hl
  go_enter_defers Try.func29, Try.ntmps29
  go_wp2_with fail
  clear c0
  go_loopw [27] (fun jv wr => ∃ j : Nat, j ≤ m ∧ jv = .int .i64 (j : Int) ∧ Hid (Cells2 w wr (bestFrom ks x (l.take j)))) (fun jv _ => m - (intOf jv).toNat)
  case atStart => exact ⟨0, Nat.zero_le _, rfl, T0.out⟩
  case round =>
    obtain ⟨j, hj, rfl, hZ⟩ := hrel
    have T1 := hide hZ.out
    clear hZ T0
    obtain ⟨b, hb⟩ : ∃ b, b = bestFrom ks x (l.take j) := ⟨_, rfl⟩
    have HB := hide hb
    rw [← hb] at T1
    clear hb
    have q0 := T1.out.q0
    have q1 := T1.out.q1
    have f0 := T1.out.f0
    have f1 := T1.out.f1
    by_cases hlt : j < m
    · have j0 : (0 : Int) ≤ (j : Int) := by omega
      have j1 : (j : Int) < (m : Int) := by omega
      have m5 : m ≤ 100000 := HL.out
      obtain ⟨y, hy⟩ : ∃ y, l[j]? = some y := ⟨_, List.getElem?_eq_getElem (by rw [← HM.out]; exact hlt)⟩
      obtain ⟨_, hk, cy⟩ := CX.out _ T1.out.bel
      have cj := cy j y hy
      have BE := hide (before_any hk y b)
      have ST := hide (show bestFrom ks x (l.take (j + 1)) = if befC ks y b = true then y else b from by rw [HB.out]; exact best_snoc ks x l j y hy)
      clear hk cy hy
      cases hbe : befC ks y b with
      | true =>
        rw [hbe] at BE ST
        clear hbe
        go_wp2_with (go_at_call 16; refine BE.out.mono ?_; rintro e w2 ⟨rfl, b2⟩; have T2 := hide (T1.out.below b2); have p0 := T2.out.q0; have g0 := T2.out.f0; clear b2)
        go_roundw
        case rel => exact ⟨j + 1, by omega, by go_num, by rw [ST.out]; exact T2.out.set y⟩
        case measure => simp [intOf]; omega
      | false =>
        rw [hbe] at BE ST
        clear hbe
        go_wp2_with (go_at_call 16; refine BE.out.mono ?_; rintro e w2 ⟨rfl, b2⟩; have T2 := hide (T1.out.below b2); clear b2)
        go_roundw
        case rel => exact ⟨j + 1, by omega, by go_num, by rw [ST.out]; exact T2.out⟩
        case measure => simp [intOf]; omega
    · obtain rfl : j = m := by omega
      have HE := hide (show b = bestFrom ks x l from by rw [HB.out, HM.out, List.take_length])
      go_wp2_with fail
      refine leaves_cons (f := 37) (args := #[.pointer (some ⟨w.heap.size, 0, none⟩), .pointer (some ⟨w.heap.size + 1, 0, none⟩)]) (by simp) (by simp [go_sem]) ?_
      refine (catch_idle _ _ _).mono ?_
      rintro e u' w2 ⟨rfl, rfl, rfl⟩
      have y0 := cells_two q0 q1 (.int .i64 b) (.bool true)
      simp [Leaves, settle, results, Try.results29, go_sem, y0.1, y0.2]
      exact ⟨HE.out, (T1.out.bel.setCell (p := ⟨w.heap.size, 0, none⟩) (Nat.le_refl _) _).setCell (p := ⟨w.heap.size + 1, 0, none⟩) (by simp) _⟩
end Go.Proofs.Ytmclifmdlcofaaa
