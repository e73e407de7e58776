/-
  The document's own wheel: Arm.
-/
import Derived.Test.YtpmggiahhjllcaaWrOpsA
import Derived.Deep.RegionLaw
namespace Go.Proofs.Ytpmggiahhjllcaa
open Go.ChangeShapes Go.WideShapes Go.ChangeAt Go.RowKit
set_option linter.unusedVariables false
/-- What has been put together behind k rounds. -/
def prt (l : List Tm) (p k : Nat) (u : Tm) : List Tm := if p < k then l.take p ++ u :: (l.take k).drop p else l.take k
theorem prt_lo {l : List Tm} {p k : Nat} (u : Tm) (h : k < p) (hl : k < l.length) : prt l p (k + 1) u = prt l p k u ++ [l[k]] := by
  unfold prt
  rw [if_neg (by omega), if_neg (by omega), List.take_succ_eq_append_getElem hl]
theorem prt_at {l : List Tm} {p : Nat} (u : Tm) (hl : p < l.length) : prt l p (p + 1) u = (prt l p p u ++ [u]) ++ [l[p]] := by
  unfold prt
  rw [if_pos (by omega), if_neg (by omega), List.take_succ_eq_append_getElem hl, List.drop_append, List.drop_eq_nil_of_le (by simp; omega)]
  have : p - (l.take p).length = 0 := by simp; omega
  rw [this]
  simp
theorem prt_hi {l : List Tm} {p k : Nat} (u : Tm) (h : p < k) (hl : k < l.length) : prt l p (k + 1) u = prt l p k u ++ [l[k]] := by
  unfold prt
  rw [if_pos (by omega), if_pos h, List.take_succ_eq_append_getElem hl, List.drop_append]
  have : p - (l.take k).length = 0 := by simp; omega
  rw [this]
  simp
theorem prt_end {l : List Tm} {p : Nat} (u : Tm) (h : p < l.length) : prt l p l.length u = l.take p ++ u :: l.drop p := by
  unfold prt
  rw [if_pos h, List.take_length]
theorem prt_last {l : List Tm} (u : Tm) : prt l l.length l.length u ++ [u] = l.take l.length ++ u :: l.drop l.length := by
  unfold prt
  rw [if_neg (by omega)]
  simp
theorem cells_tm (w : World) (a b : Value) (t : TypeId) (X : Nat) (hX : X = w.heap.size) : ∀ j v, [a, b][j]? = some v → (w.alloc (.cells #[a, b] t)).cell? ((⟨X, 0, none⟩ : Addr).add j) = some v := by
  intro j v hv
  subst hX
  rw [addr_add, Nat.zero_add, World.cell?_alloc_at _ _ _ _ rfl, ← hv]
  show [a, b].toArray[j]? = _
  simp
theorem own_sliceR {w : World} {B : Nat} {e : TypeId} {z n : Nat} {v : Value} {xs : List Value} (h : w.ownsRow B e z v n xs) : ∃ a c, v = .slice a n c ∧ (a = none → c = 0) ∧ n ≤ c ∧ c ≤ maxLen ∧ (∀ x, a = some x → x.off = 0 ∧ x.spot = none) := by
  rcases h.2 with ⟨rfl, rfl⟩ | ⟨g, cap, cur, rfl, _, _, h1, h2, _⟩
  · exact ⟨none, 0, rfl, fun _ => rfl, Nat.le_refl _, by unfold maxLen; omega, (fun x e => by cases e)⟩
  · exact ⟨_, _, rfl, (fun e => by cases e), h1, h2, (fun x e => by injection e with e; subst e; exact ⟨rfl, rfl⟩)⟩
theorem one_info : (Try.prog.info? 65).map (fun i => (i.zero, i.size, i.bytes)) = some (some (.agg #[.int .i64 0, .int .i64 0]), 2, 16) := by kernel_rfl
/-- The new row is laid into the wheel's block, the moment too. -/
theorem wr_end2 {w w2 : World} {G : Nat → Prop} {S N : Nat} {s s' : Ws} {A : Option Addr} {c : Nat} {o : Value} (h : Wr w G S s) (hg : GoodW s') (hb : Touch (fun i => i = S) w w2) (he : w2.heap[S]? = some (.cells #[.int .i64 (s'.now : Int), o] 61 (0, 0)))
    (ho : w2.ownsRow w.heap.size 65 2 (.slice A N c) N (cellsTms s'.l)) (hN : s'.l.length = N) :
    ∃ G', Wr (w2.setCell ⟨S, 1, none⟩ (.slice A N c)) G' S s' ∧ Touch G w (w2.setCell ⟨S, 1, none⟩ (.slice A N c)) ∧ (∀ i, G' i → G i ∨ w.heap.size ≤ i) ∧ ∀ i, G' i → G i ∨ (Value.slice A N c).ownBlock = some i := by
  subst hN
  have lS := h.lt S h.gS
  have ne : ∀ g, (Value.slice A s'.l.length c).ownBlock = some g → g ≠ S := fun g hg e => by have := (ho.lt g hg).1; omega
  refine ⟨fun i => G i ∨ (Value.slice A s'.l.length c).ownBlock = some i, ⟨⟨A, c, ?_, ?_, ?_⟩, .inl h.gS, fun i hi => ?_, hg⟩, (hb.mono (fun i e => e ▸ h.gS)).setCell (p := ⟨S, 1, none⟩) h.gS _, fun i hi => hi.imp id (fun e => (ho.lt i e).1), fun i hi => hi⟩
  · rw [heap_setCell_same _ _ _ _ _ _ he]; rfl
  · exact own_base (((Touch.refl (fun i => i = S) w2).setCell (p := ⟨S, 1, none⟩) rfl _).own ho (fun g hg => ne g hg)) (Nat.zero_le _)
  · intro g hg
    exact ⟨ne g hg, .inr hg⟩
  · have : i < w2.heap.size := by
      rcases hi with hi | hi
      · exact Nat.lt_of_lt_of_le (h.lt i hi) hb.size
      · exact (ho.lt i hi).2
    simpa [World.setCell] using this
theorem wr_end {w w2 : World} {G : Nat → Prop} {S N : Nat} {s s' : Ws} {A : Option Addr} {c : Nat} {o : Value} (h : Wr w G S s) (hg : GoodW s') (hb : Touch (fun i => i = S) w w2) (he : w2.heap[S]? = some (.cells #[.int .i64 (s'.now : Int), o] 61 (0, 0)))
    (ho : w2.ownsRow w.heap.size 65 2 (.slice A N c) N (cellsTms s'.l)) (hN : s'.l.length = N) :
    ∃ G', Wr (w2.setCell ⟨S, 1, none⟩ (.slice A N c)) G' S s' ∧ Touch G w (w2.setCell ⟨S, 1, none⟩ (.slice A N c)) ∧ ∀ i, G' i → G i ∨ w.heap.size ≤ i := by
  obtain ⟨G', h1, h2, h3, _⟩ := wr_end2 h hg hb he ho hN
  exact ⟨G', h1, h2, h3⟩
theorem wrarm_err {w : World} {G : Nat → Prop} {S : Nat} {s : Ws} (h : Wr w G S s) (id a : Int) (he : armE s id a ≠ 0) :
    Calls Try.prog 14 #[.pointer (some ⟨S, 0, none⟩), .int .i64 id, .int .i64 a] w fun e w' => e = .returned (.int .i64 (armE s id a : Nat)) ∧ w = w' := by
  have HH := hide h
  have s0 := h.s0
  obtain ⟨aa, cc, s1, _⟩ := h.row
  have few := h.good.few
  clear h
  by_cases h1 : id < 0
  · rw [show armE s id a = 2 by unfold armE; rw [if_pos (.inl h1)]]
    go_enter Try.func14, Try.ntmps14
    go_wp2_with fail
    go_ret
    exact ⟨rfl, rfl⟩
  · by_cases h2 : a ≤ (s.now : Int)
    · rw [show armE s id a = 2 by unfold armE; rw [if_pos (.inr (.inl h2))]]
      go_enter Try.func14, Try.ntmps14
      go_wp2_with fail
      go_ret
      exact ⟨rfl, rfl⟩
    · by_cases h3 : 16777216 ≤ a
      · rw [show armE s id a = 2 by unfold armE; rw [if_pos (.inr (.inr h3))]]
        go_enter Try.func14, Try.ntmps14
        go_wp2_with fail
        go_ret
        exact ⟨rfl, rfl⟩
      · have hE : armE s id a = if armed s.l id then 5 else if s.l.length = 64 then 3 else 0 := by unfold armE; rw [if_neg (by omega)]
        rw [hE] at he ⊢
        clear hE
        rcases pos_cases s.l id with ⟨i, hi, _, _, e3, e4⟩ | ⟨_, e3, e4⟩
        · rw [e4] at he ⊢
          have i0 : (0 : Int) ≤ (i : Int) := by omega
          clear e4 he
          go_enter Try.func14, Try.ntmps14
          go_wp2_with (go_at_call 28; refine (wrat_any HH.out id).mono ?_; rintro e w' ⟨rfl, rfl⟩; rw [e3])
          go_ret
          exact ⟨rfl, rfl⟩
        · rw [e4] at he ⊢
          have h64 : s.l.length = 64 := by
            by_cases h : s.l.length = 64
            · exact h
            · exfalso; apply he; rw [if_neg (by simp), if_neg h]
          have h64' : ((s.l.length : Int) == 64) = true := by simp; omega
          rw [h64] at s1 ⊢
          clear he e4 h64
          go_enter Try.func14, Try.ntmps14
          go_wp2_with (go_at_call 28; refine (wrat_any HH.out id).mono ?_; rintro e w' ⟨rfl, rfl⟩; rw [e3])
          go_ret
          exact ⟨rfl, rfl⟩
end Go.Proofs.Ytpmggiahhjllcaa
