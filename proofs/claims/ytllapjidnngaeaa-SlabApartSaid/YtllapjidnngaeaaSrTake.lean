/-
  The contract of the document's own Take of pieces (coxswainref5).
-/
import Derived.Test.YtllapjidnngaeaaSrGive
namespace Go.Proofs.Ytllapjidnngaeaa
open Go.ChangeShapes Go.WideShapes Go.ChangeAt Go.RowKit
set_option linter.unusedVariables false
/-- A piece. -/
def refV (f k c : Int) : Value := .agg #[.int .i64 f, .int .i64 k, .int .i64 c]
/-- This cut has no free piece of class c ahead of k. -/
def Full (u : Cu) (c k : Nat) : Prop := u.c ≠ c ∨ ∀ j, j < k → u.tk j = true
/-- A cut frame comes in at its place. -/
def comeIn (l : List Cu) (p : Nat) (u : Cu) : List Cu := l.take p ++ u :: l.drop p
/-- A frame that is cut anew: its first piece is taken. -/
def fresh1 (f c : Nat) : Cu := ⟨f, c, upd (fun _ => false) 0 true⟩
theorem rtake_arg {w : World} {S R : Nat} {l : List Cu} (h : Sr w S R l) (n : Int) (hc : cls n = 0) :
    Calls Try.prog 11 #[.pointer (some ⟨S, 0, none⟩), .int .i64 n] w fun e w' => e = .returned (.tuple #[refV 0 0 0, .int .i64 2]) ∧ Below w.heap.size w w' := by
  have hc' : ((cls n : Nat) : Int) = 0 := by rw [hc]; rfl
  unfold refV
  go_enter Try.func11, Try.ntmps11
  go_wp2_with (go_at_call 23; with_reducible refine (rcls_any _ _).mono ?_; rintro e w' ⟨rfl, rfl⟩; rw [hc'])
  exact bodyPost_ret (v := .tuple #[.agg #[.int .i64 0, .int .i64 0, .int .i64 0], .int .i64 2]) (by simp [results, Try.results11, go_sem]) rfl ⟨rfl, (Below.refl _ _).alloc (Nat.le_refl _) _⟩
theorem cls_cases (n : Int) : cls n = 0 ∨ cls n = 16 ∨ cls n = 32 ∨ cls n = 64 := by
  unfold cls
  split
  · exact .inl rfl
  · split
    · exact .inr (.inl rfl)
    · split
      · exact .inr (.inr (.inl rfl))
      · exact .inr (.inr (.inr rfl))
/-- What the search for a free piece tells: where there is one, it is taken; else the rest of the call follows. -/
def TakeTells (w : World) (G : Nat → Prop) (S R : Nat) (l : List Cu) (c : Nat) (e : Ending) (w' : World) : Prop :=
  ∃ i k, ∃ (hi : i < l.length), k < 64 / c ∧ l[i].c = c ∧ l[i].tk k = false ∧ (∀ j, j < k → l[i].tk j = true) ∧ (∀ j (hj : j < i), Full (l[j]'(by omega)) c (64 / c)) ∧
    e = .returned (.tuple #[refV l[i].f k c, .int .i64 0]) ∧ SrG w' G S R (l.set i (l[i].put k true)) ∧ Touch G w w'
theorem three_set {w : World} {X : Nat} {a b c x y z : Value} {ty : TypeId} (h : w.heap[X]? = some (.cells #[a, b, c] ty (0, 0))) : (((w.setCell ⟨X, 0, none⟩ x).setCell ⟨X, 1, none⟩ y).setCell ⟨X, 2, none⟩ z).heap[X]? = some (.cells #[x, y, z] ty (0, 0)) := by
  rw [heap_setCell_same _ _ _ _ _ _ (heap_setCell_same _ _ _ _ _ _ (heap_setCell_same _ _ _ _ _ _ h))]; rfl
theorem three_touch {w : World} {X : Nat} {x y z : Value} : Touch (fun i => i = X) w (((w.setCell ⟨X, 0, none⟩ x).setCell ⟨X, 1, none⟩ y).setCell ⟨X, 2, none⟩ z) :=
  (((Touch.refl (fun i => i = X) w).setCell (p := ⟨X, 0, none⟩) rfl x).setCell (p := ⟨X, 1, none⟩) rfl y).setCell (p := ⟨X, 2, none⟩) rfl z
set_option maxRecDepth 10000 in
set_option maxHeartbeats 8000000 in
theorem rtake_old {w : World} {G : Nat → Prop} {S R : Nat} {l : List Cu} (h : SrG w G S R l) (n : Int) (c i0 k0 : Nat) (hc : cls n = c) (hc0 : c ≠ 0) (hi : i0 < l.length) (hk : k0 < 64 / c) (hcl : l[i0].c = c) (hfree : l[i0].tk k0 = false) (htk : ∀ j, j < k0 → l[i0].tk j = true) (hfull : ∀ j (hj : j < i0), Full (l[j]'(by omega)) c (64 / c)) :
    Calls Try.prog 11 #[.pointer (some ⟨S, 0, none⟩), .int .i64 n] w fun e w' => e = .returned (.tuple #[refV l[i0].f k0 c, .int .i64 0]) ∧ SrG w' G S R (l.set i0 (l[i0].put k0 true)) ∧ Touch G w w' := by
  obtain ⟨nz, hnz⟩ : ∃ nz, nz = 64 / c := ⟨_, rfl⟩
  have hcz : ((cls n : Nat) : Int) = (c : Int) := by rw [hc]
  have hcc : c = 16 ∨ c = 32 ∨ c = 64 := by rcases cls_cases n with e | e | e | e <;> omega
  have htd : Int.tdiv 64 (c : Int) = (nz : Int) := by rw [hnz]; rcases hcc with rfl | rfl | rfl <;> decide
  have hn4 : nz ≤ 4 := by rw [hnz]; rcases hcc with rfl | rfl | rfl <;> decide
  have cne : ¬ (c : Int) = 0 := by omega
  have cne' : ((c : Int) == 0) = false := by simpa using cne
  rw [← hnz] at hk hfull
  have HF := hide hfull
  have HT := hide htk
  have few := h.cuts.few
  have b0 := (Below.refl w.heap.size w).alloc (Nat.le_refl _) (.cells #[.int .i64 0, .int .i64 0, .int .i64 0] 44)
  have HG := hide (h.below b0)
  have HX := hide (heap_alloc_new w (.cells #[.int .i64 0, .int .i64 0, .int .i64 0] 44))
  have nXG : ¬ G w.heap.size := fun e => by have := h.lt _ e; omega
  clear h hfull htk hcc hnz hc
  unfold refV
  go_enter Try.func11, Try.ntmps11
  go_wp2_with (go_at_call 23; with_reducible refine (rcls_any _ _).mono ?_; rintro e w' ⟨rfl, rfl⟩; rw [hcz])
  have B0 := hide b0
  clear b0
  obtain ⟨W, hW⟩ : ∃ W, W = w.alloc (.cells #[.int .i64 0, .int .i64 0, .int .i64 0] 44) := ⟨_, rfl⟩
  rw [← hW] at HG HX B0 ⊢
  clear hW
  obtain ⟨a, cc, s1, hrow⟩ := HG.out.sr.row
  have HR := hide hrow
  clear hrow
  go_loop [7] (fun i => ∃ k : Nat, k ≤ i0 ∧ i = .int .i64 (k : Int)) (fun i => i0 - (intOf i).toNat)
  case atStart => exact ⟨0, Nat.zero_le _, rfl⟩
  case round =>
    obtain ⟨k, hk1, rfl⟩ := hrel
    obtain ⟨g, rfl, c0, c1, ck⟩ := HR.out k (by omega)
    have ki : (0 : Int) ≤ (k : Int) := by omega
    have kl : (k : Int) < (l.length : Int) := by omega
    obtain ⟨u, hu⟩ : ∃ u, u = l[k]'(by omega) := ⟨_, rfl⟩
    rw [← hu] at c0 c1
    replace ck : ∀ k', k' < 4 → W.cell? ⟨g, k * 6 + 2 + k', none⟩ = some (.bool (u.tk k')) := by rw [hu]; exact ck
    have CK := hide ck
    clear ck
    go_wp2_with fail
    by_cases hki : k < i0
    · have FU := hide (show Full u c nz by rw [hu]; exact HF.out k hki)
      clear hu
      go_loop [8] (fun i => ∃ j : Nat, j ≤ nz ∧ i = .int .i64 (j : Int)) (fun i => nz - (intOf i).toNat)
      case atStart => exact ⟨0, Nat.zero_le _, rfl⟩
      case round =>
        obtain ⟨j, hj, rfl⟩ := hrel
        by_cases hjn : j < nz
        · have jn : (j : Int) < (nz : Int) := by omega
          have j0 : (0 : Int) ≤ (j : Int) := by omega
          have j4 : (j : Int) < 4 := by omega
          by_cases huc : u.c = c
          · have huc' : ((u.c : Int) == (c : Int)) = true := by simp [huc]
            have cj := CK.out j (by omega)
            rw [(FU.out.resolve_left (fun e => e huc)) j hjn] at cj
            go_wp2_with fail
            go_round
            case rel => exact ⟨j + 1, by omega, by go_num⟩
            case measure => simp [intOf]; omega
          · have huc' : ((u.c : Int) == (c : Int)) = false := by simp; omega
            go_wp2_with fail
            go_round
            case rel => exact ⟨k + 1, by omega, by go_num⟩
            case measure => simp [intOf]; omega
        · have jn : ¬ (j : Int) < (nz : Int) := by omega
          go_wp2_with fail
          go_round
          case rel => exact ⟨k + 1, by omega, by go_num⟩
          case measure => simp [intOf]; omega
    · obtain rfl : k = i0 := by omega
      have TT := hide (show ∀ j, j < k0 → u.tk j = true by rw [hu]; exact HT.out)
      have fz : ∀ q, W.frozen? ⟨g, q, none⟩ = false := fun q => by
        obtain ⟨a, c', e, ho, _⟩ := HG.out.mem
        have e2 := s1
        rw [cell_of_row _ _ _ _ _ _ e] at e2
        injection e2 with e2
        injection e2 with e3 _ _
        subst e3
        exact ho.frozenAt _
      have huf : (l[k].f : Int) = (u.f : Int) := by rw [hu]
      have huc : ((u.c : Int) == (c : Int)) = true := by rw [hu, hcl]; simp
      have hut : u.tk k0 = false := by rw [hu]; exact hfree
      have PT := hide (HG.out.put hi (show k0 < 4 by omega) true ⟨cc, s1⟩)
      have HU := hide hu
      clear hu hfree
      go_loop [8] (fun i => ∃ j : Nat, j ≤ k0 ∧ i = .int .i64 (j : Int)) (fun i => k0 - (intOf i).toNat)
      case atStart => exact ⟨0, Nat.zero_le _, rfl⟩
      case round =>
        obtain ⟨j, hj, rfl⟩ := hrel
        have jn : (j : Int) < (nz : Int) := by omega
        have j0 : (0 : Int) ≤ (j : Int) := by omega
        have j4 : (j : Int) < 4 := by omega
        have cj := CK.out j (by omega)
        by_cases hjk : j < k0
        · rw [TT.out j hjk] at cj
          go_wp2_with fail
          go_round
          case rel => exact ⟨j + 1, by omega, by go_num⟩
          case measure => simp [intOf]; omega
        · obtain rfl : j = k0 := by omega
          rw [hut] at cj
          have fzj := fz (k * 6 + 2 + j)
          have gX : g ≠ w.heap.size := fun e => by
            obtain ⟨a, c', e1, _, hv⟩ := HG.out.mem
            have e2 := s1
            rw [cell_of_row _ _ _ _ _ _ e1] at e2
            injection e2 with e2
            injection e2 with e3 _ _
            subst e3
            exact nXG (e ▸ (hv g rfl).2)
          have gX' := Ne.symm gX
          have SX : S ≠ w.heap.size := fun e => nXG (e ▸ HG.out.gS)
          have x0 : W.cell? ⟨w.heap.size, 0, none⟩ = some (.int .i64 0) := by rw [cell_of_row _ _ _ _ _ _ HX.out]; rfl
          have x1 : W.cell? ⟨w.heap.size, 1, none⟩ = some (.int .i64 0) := by rw [cell_of_row _ _ _ _ _ _ HX.out]; rfl
          have x2 : W.cell? ⟨w.heap.size, 2, none⟩ = some (.int .i64 0) := by rw [cell_of_row _ _ _ _ _ _ HX.out]; rfl
          have xf : ∀ q, W.frozen? ⟨w.heap.size, q, none⟩ = false := fun q => frozen_of_row _ _ _ _ _ HX.out
          have xf0 := xf 0
          have xf1 := xf 1
          have xf2 := xf 2
          clear fz xf
          go_wp2_with fail
          have hx := (PT.out.2.block w.heap.size (lt_of_heap HX.out) nXG).trans HX.out
          have hx3 := three_set (x := .int .i64 (u.f : Int)) (y := .int .i64 (j : Int)) (z := .int .i64 (c : Int)) hx
          have hT := three_touch (w := W.setCell ⟨g, k * 6 + 2 + j, none⟩ (.bool true)) (X := w.heap.size) (x := .int .i64 (u.f : Int)) (y := .int .i64 (j : Int)) (z := .int .i64 (c : Int))
          have E1 := PT.out.1.keep hT (fun i hg e => nXG (e ▸ hg))
          have E2 : Touch G w ((((W.setCell ⟨g, k * 6 + 2 + j, none⟩ (.bool true)).setCell ⟨w.heap.size, 0, none⟩ (.int .i64 (u.f : Int))).setCell ⟨w.heap.size, 1, none⟩ (.int .i64 (j : Int))).setCell ⟨w.heap.size, 2, none⟩ (.int .i64 (c : Int))) := ((Touch.of_below B0.out).trans PT.out.2 (fun i e => .inl e)).trans hT (fun i e => .inr (by rw [e]; exact Nat.le_refl _))
          generalize ((((W.setCell ⟨g, k * 6 + 2 + j, none⟩ (.bool true)).setCell ⟨w.heap.size, 0, none⟩ (.int .i64 (u.f : Int))).setCell ⟨w.heap.size, 1, none⟩ (.int .i64 (j : Int))).setCell ⟨w.heap.size, 2, none⟩ (.int .i64 (c : Int))) = W5 at *
          have y0 : W5.cell? ⟨w.heap.size, 0, none⟩ = some (.int .i64 (u.f : Int)) := by rw [cell_of_row _ _ _ _ _ _ hx3]; rfl
          have y1 : W5.cell? ⟨w.heap.size, 1, none⟩ = some (.int .i64 (j : Int)) := by rw [cell_of_row _ _ _ _ _ _ hx3]; rfl
          have y2 : W5.cell? ⟨w.heap.size, 2, none⟩ = some (.int .i64 (c : Int)) := by rw [cell_of_row _ _ _ _ _ _ hx3]; rfl
          exact bodyPost_ret (v := .tuple #[.agg #[.int .i64 (u.f : Int), .int .i64 (j : Int), .int .i64 (c : Int)], .int .i64 0]) (by simp [results, Try.results11, go_sem, y0, y1, y2]) rfl ⟨rfl, E1, E2⟩
set_option maxRecDepth 10000 in
set_option maxHeartbeats 8000000 in
/-- No piece is free, and no frame. -/
theorem rtake_nothing {w : World} {G K : Nat → Prop} {S R t b : Nat} {l : List Cu} {s : St} {fresh : Nat} {back : List Nat} (h : SrG w G S R l) (r : RfG w K R t b s fresh back) (n : Int) (c : Nat) (hc : cls n = c) (hc0 : c ≠ 0) (hfull : ∀ j (hj : j < l.length), Full l[j] c (64 / c)) (hfr : s.fr = []) :
    Calls Try.prog 11 #[.pointer (some ⟨S, 0, none⟩), .int .i64 n] w fun e w' => e = .returned (.tuple #[refV 0 0 0, .int .i64 3]) ∧ Below w.heap.size w w' := by
  obtain ⟨nz, hnz⟩ : ∃ nz, nz = 64 / c := ⟨_, rfl⟩
  have hcz : ((cls n : Nat) : Int) = (c : Int) := by rw [hc]
  have hcc : c = 16 ∨ c = 32 ∨ c = 64 := by rcases cls_cases n with e | e | e | e <;> omega
  have htd : Int.tdiv 64 (c : Int) = (nz : Int) := by rw [hnz]; rcases hcc with rfl | rfl | rfl <;> decide
  have hn4 : nz ≤ 4 := by rw [hnz]; rcases hcc with rfl | rfl | rfl <;> decide
  have cne : ¬ (c : Int) = 0 := by omega
  have cne' : ((c : Int) == 0) = false := by simpa using cne
  rw [← hnz] at hfull
  have HF := hide hfull
  have few := h.cuts.few
  have b0 := (Below.refl w.heap.size w).alloc (Nat.le_refl _) (.cells #[.int .i64 0, .int .i64 0, .int .i64 0] 44)
  have HG := hide (h.below b0)
  have HK := hide (r.below b0)
  have HX := hide (heap_alloc_new w (.cells #[.int .i64 0, .int .i64 0, .int .i64 0] 44))
  clear h r hfull hcc hnz hc
  unfold refV
  go_enter Try.func11, Try.ntmps11
  go_wp2_with (go_at_call 23; with_reducible refine (rcls_any _ _).mono ?_; rintro e w' ⟨rfl, rfl⟩; rw [hcz])
  have B0 := hide b0
  clear b0
  obtain ⟨W, hW⟩ : ∃ W, W = w.alloc (.cells #[.int .i64 0, .int .i64 0, .int .i64 0] 44) := ⟨_, rfl⟩
  rw [← hW] at HG HK HX B0 ⊢
  clear hW
  obtain ⟨a, cc, s1, hrow⟩ := HG.out.sr.row
  have HR := hide hrow
  have s0 := HG.out.sr.s0
  clear hrow
  go_loop [7] (fun i => ∃ k : Nat, k ≤ l.length ∧ i = .int .i64 (k : Int)) (fun i => l.length - (intOf i).toNat)
  case atStart => exact ⟨0, Nat.zero_le _, rfl⟩
  case round =>
    obtain ⟨k, hk1, rfl⟩ := hrel
    by_cases hki : k < l.length
    · obtain ⟨g, rfl, c0, c1, ck⟩ := HR.out k hki
      have ki : (0 : Int) ≤ (k : Int) := by omega
      have kl : (k : Int) < (l.length : Int) := by omega
      obtain ⟨u, hu⟩ : ∃ u, u = l[k]'(by omega) := ⟨_, rfl⟩
      rw [← hu] at c0 c1
      replace ck : ∀ k', k' < 4 → W.cell? ⟨g, k * 6 + 2 + k', none⟩ = some (.bool (u.tk k')) := by rw [hu]; exact ck
      have CK := hide ck
      have FU := hide (show Full u c nz by rw [hu]; exact HF.out k hki)
      clear ck hu
      go_wp2_with fail
      go_loop [8] (fun i => ∃ j : Nat, j ≤ nz ∧ i = .int .i64 (j : Int)) (fun i => nz - (intOf i).toNat)
      case atStart => exact ⟨0, Nat.zero_le _, rfl⟩
      case round =>
        obtain ⟨j, hj, rfl⟩ := hrel
        by_cases hjn : j < nz
        · have jn : (j : Int) < (nz : Int) := by omega
          have j0 : (0 : Int) ≤ (j : Int) := by omega
          have j4 : (j : Int) < 4 := by omega
          by_cases huc : u.c = c
          · have huc' : ((u.c : Int) == (c : Int)) = true := by simp [huc]
            have cj := CK.out j (by omega)
            rw [(FU.out.resolve_left (fun e => e huc)) j hjn] at cj
            go_wp2_with fail
            go_round
            case rel => exact ⟨j + 1, by omega, by go_num⟩
            case measure => simp [intOf]; omega
          · have huc' : ((u.c : Int) == (c : Int)) = false := by simp; omega
            go_wp2_with fail
            go_round
            case rel => exact ⟨k + 1, by omega, by go_num⟩
            case measure => simp [intOf]; omega
        · have jn : ¬ (j : Int) < (nz : Int) := by omega
          go_wp2_with fail
          go_round
          case rel => exact ⟨k + 1, by omega, by go_num⟩
          case measure => simp [intOf]; omega
    · obtain rfl : k = l.length := by omega
      have hx := HX.out
      have xf : ∀ q, W.frozen? ⟨w.heap.size, q, none⟩ = false := fun q => frozen_of_row _ _ _ _ _ HX.out
      have x0 : W.cell? ⟨w.heap.size, 0, none⟩ = some (.int .i64 0) := by rw [cell_of_row _ _ _ _ _ _ HX.out]; rfl
      have x1 : W.cell? ⟨w.heap.size, 1, none⟩ = some (.int .i64 0) := by rw [cell_of_row _ _ _ _ _ _ HX.out]; rfl
      have x2 : W.cell? ⟨w.heap.size, 2, none⟩ = some (.int .i64 0) := by rw [cell_of_row _ _ _ _ _ _ HX.out]; rfl
      have xf0 := xf 0
      have xf1 := xf 1
      have xf2 := xf 2
      clear xf
      go_wp2_with (go_at_call 28; refine (rtake_none HK.out hfr).mono ?_; rintro e w4 ⟨rfl, m4, rfl⟩)
      have hx3 := three_set (w := W.drewN m4) (x := .int .i64 0) (y := .int .i64 0) (z := .int .i64 0) hx
      have E1 : Below w.heap.size w ((((W.drewN m4).setCell ⟨w.heap.size, 0, none⟩ (.int .i64 0)).setCell ⟨w.heap.size, 1, none⟩ (.int .i64 0)).setCell ⟨w.heap.size, 2, none⟩ (.int .i64 0)) := (below_drewN B0.out m4).trans (three_touch.below (below_drewN B0.out m4).size (fun i e => by rw [e]; exact Nat.le_refl _))
      generalize ((((W.drewN m4).setCell ⟨w.heap.size, 0, none⟩ (.int .i64 0)).setCell ⟨w.heap.size, 1, none⟩ (.int .i64 0)).setCell ⟨w.heap.size, 2, none⟩ (.int .i64 0)) = W5 at *
      have y0 : W5.cell? ⟨w.heap.size, 0, none⟩ = some (.int .i64 0) := by rw [cell_of_row _ _ _ _ _ _ hx3]; rfl
      have y1 : W5.cell? ⟨w.heap.size, 1, none⟩ = some (.int .i64 0) := by rw [cell_of_row _ _ _ _ _ _ hx3]; rfl
      have y2 : W5.cell? ⟨w.heap.size, 2, none⟩ = some (.int .i64 0) := by rw [cell_of_row _ _ _ _ _ _ hx3]; rfl
      exact bodyPost_ret (v := .tuple #[.agg #[.int .i64 0, .int .i64 0, .int .i64 0], .int .i64 3]) (by simp [results, Try.results11, go_sem, y0, y1, y2]) rfl ⟨rfl, E1⟩
end Go.Proofs.Ytllapjidnngaeaa
