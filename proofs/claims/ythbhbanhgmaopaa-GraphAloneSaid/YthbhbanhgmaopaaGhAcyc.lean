/-
  The document's own Acyclic (coxswainref11).
-/
import Derived.Test.YthbhbanhgmaopaaGhChain
namespace Go.Proofs.Ythbhbanhgmaopaa
open Go.ChangeShapes Go.WideShapes Go.ChangeAt Go.RowKit
set_option linter.unusedVariables false
/-- Does nobody wait for itself, of the first m? -/
def acyG (ws os : List Int) (n : Int) (m : Nat) : Bool := (List.range m).all fun i => decide ((i : Int) ∉ chainG ws os n i)
theorem acyG_no {ws os : List Int} {n : Int} {m i : Nat} (hi : i < m) (h : (i : Int) ∈ chainG ws os n i) : acyG ws os n m = false := by
  unfold acyG
  rw [List.all_eq_false]
  exact ⟨i, List.mem_range.2 hi, by simpa using h⟩
theorem acyG_yes {ws os : List Int} {n : Int} {m : Nat} (h : ∀ i : Nat, i < m → (i : Int) ∉ chainG ws os n i) : acyG ws os n m = true := by
  unfold acyG
  rw [List.all_eq_true]
  intro i hi
  exact decide_eq_true (h i (List.mem_range.1 hi))
theorem own_intsI {w : World} {B : Nat} {a : Option Addr} {n c : Nat} {l : List Int} (h : w.ownsRow B 3 1 (.slice a n c) n (l.map (Value.int .i64))) (hl : l.length = n) : Ints .i64 w a n l := by
  refine ⟨hl, fun hn => ?_⟩
  rcases h.2 with ⟨_, h0⟩ | ⟨g, cap, cur, e, _⟩
  · omega
  · injection e with e1 _ e2
    subst e1 e2
    refine ⟨g, 0, rfl, fun j hj => ?_⟩
    rw [Nat.zero_add, h.cellAt j (by omega), List.getElem?_map, List.getElem?_eq_getElem (by omega)]
    simp [List.getD, show j < l.length by omega]
theorem chain_form (a : Option Addr) (p c : Nat) (ws : List Int) (b : Option Addr) (q d : Nat) (os : List Int) (n : Nat) (i : Int) (w : World) (ha : Ints .i64 w a p ws) (hb : Ints .i64 w b q os) (hp : p ≤ maxLen) (hq : q ≤ maxLen) (hn : n ≤ 1000) :
    Calls Try.prog 13 #[.slice a p c, .slice b q d, .int .i64 (n : Int), .int .i64 i] w fun e w' => ∃ a3 c3, e = .returned (.slice a3 (chainG ws os n i).length c3) ∧ w'.ownsRow w.heap.size 3 1 (.slice a3 (chainG ws os n i).length c3) (chainG ws os n i).length ((chainG ws os n i).map (Value.int .i64)) ∧ Below w.heap.size w w' := by
  refine (rchain_any a p c ws b q d os n i w ha hb hp hq hn).mono ?_
  rintro e w' ⟨v, rfl, ho, hb⟩
  obtain ⟨a3, c3, rfl⟩ := own_sliceI ho
  exact ⟨a3, c3, rfl, ho, hb⟩
theorem chainF_few (ws os : List Int) (n : Nat) : ∀ (f : Nat) (l : List Int) (k : Int), (chainF ws os n f l k).length ≤ l.length + f := by
  intro f
  induction f with
  | zero => intro l k; simp [chainF]
  | succ f ih =>
    intro l k
    show (if k < 0 ∨ k ∈ l then l else _).length ≤ _
    split
    · omega
    · have := ih (l ++ [k]) (onG ws os n k)
      simp at this
      omega
theorem chainG_few (ws os : List Int) (n : Nat) (i : Int) : (chainG ws os n i).length ≤ n + 1 := by
  have := chainF_few ws os n ((n : Int).toNat + 1) [] (onG ws os n i)
  simpa [chainG] using this
set_option maxHeartbeats 8000000 in
theorem racyc_any (a : Option Addr) (p c : Nat) (ws : List Int) (b : Option Addr) (q d : Nat) (os : List Int) (n : Nat) (w : World) (ha : Ints .i64 w a p ws) (hb : Ints .i64 w b q os) (hp : p ≤ maxLen) (hq : q ≤ maxLen) (hn : n ≤ 1000) :
    Calls Try.prog 17 #[.slice a p c, .slice b q d, .int .i64 (n : Int)] w fun e w' => e = .returned (.bool (acyG ws os n (min n p))) ∧ Below w.heap.size w w' := by
  have p63 : (p : Int) ≤ 9223372036854775807 := by unfold maxLen at hp; omega
  have CH := hide (fun (W : World) (bw : Below w.heap.size w W) (i : Int) => chain_form a p c ws b q d os n i W (ha.below bw) (hb.below bw) hp hq hn)
  obtain ⟨G, hG⟩ : ∃ G, G = acyG ws os n (min n p) := ⟨_, rfl⟩
  rw [← hG]
  have HG := hide hG
  have HN := hide hn
  clear ha hb hp hq hG hn
  go_enter Try.func17, Try.ntmps17
  go_wp2_with fail
  go_loopw [7] (fun i wr => ∃ k : Nat, k ≤ min n p ∧ i = .int .i64 k ∧ Hid (Below w.heap.size w wr ∧ ∀ j : Nat, j < k → (j : Int) ∉ chainG ws os n j)) (fun i _ => min n p - (intOf i).toNat)
  case atStart => exact ⟨0, Nat.zero_le _, rfl, Below.refl _ _, fun j hj => absurd hj (by omega)⟩
  case round =>
    obtain ⟨k, hk, rfl, hZ⟩ := hrel
    have B1 := hide hZ.out.1
    have NO := hide hZ.out.2
    clear hZ
    by_cases h1 : k < n
    · have k1 : (k : Int) < (n : Int) := by omega
      by_cases h2 : k < p
      · have k2 : (k : Int) < (p : Int) := by omega
        have KM1 := hide (show k + 1 ≤ min n p from by omega)
        by_cases hm : (k : Int) ∈ chainG ws os n k
        · have G2 := hide (show G = false from by rw [HG.out]; exact acyG_no (by have := KM1.out; omega) hm)
          have IN := hide (fun (W : World) (B : Nat) (a3 : Option Addr) (c3 : Nat) (h : W.ownsRow B 3 1 (.slice a3 (chainG ws os n k).length c3) (chainG ws os n k).length ((chainG ws os n k).map (Value.int .i64))) => show Calls Try.prog 33 #[.slice a3 (chainG ws os n k).length c3, .int .i64 (k : Int)] W fun e w' => e = .returned (.bool true) ∧ W = w' from by
            have := rin11_any a3 _ c3 (chainG ws os n k) (k : Int) W (own_intsI h rfl) (by have := chainG_few ws os n k; have := HN.out; unfold maxLen; omega)
            rw [decide_eq_true hm] at this
            exact this)
          clear hm
          go_wp2_with (first
            | (go_at_call 13; refine (CH.out _ B1.out _).mono ?_; rintro e w2 ⟨a3, c3, rfl, o3, b3⟩; have O3 := hide o3; have B3 := hide (B1.out.trans (b3.mono B1.out.size)); clear o3 b3)
            | (go_at_call 33; refine (IN.out _ _ _ _ O3.out).mono ?_; rintro e w' ⟨rfl, rfl⟩))
          go_ret
          exact ⟨ret_bool G2.out.symm, B3.out⟩
        · have IN := hide (fun (W : World) (B : Nat) (a3 : Option Addr) (c3 : Nat) (h : W.ownsRow B 3 1 (.slice a3 (chainG ws os n k).length c3) (chainG ws os n k).length ((chainG ws os n k).map (Value.int .i64))) => show Calls Try.prog 33 #[.slice a3 (chainG ws os n k).length c3, .int .i64 (k : Int)] W fun e w' => e = .returned (.bool false) ∧ W = w' from by
            have := rin11_any a3 _ c3 (chainG ws os n k) (k : Int) W (own_intsI h rfl) (by have := chainG_few ws os n k; have := HN.out; unfold maxLen; omega)
            rw [decide_eq_false hm] at this
            exact this)
          have NO2 := hide (show ∀ j : Nat, j < k + 1 → (j : Int) ∉ chainG ws os n j from fun j hj => by
            by_cases e : j = k
            · rw [e]; exact hm
            · exact NO.out j (by omega))
          clear hm
          go_wp2_with (first
            | (go_at_call 13; refine (CH.out _ B1.out _).mono ?_; rintro e w2 ⟨a3, c3, rfl, o3, b3⟩; have O3 := hide o3; have B3 := hide (B1.out.trans (b3.mono B1.out.size)); clear o3 b3)
            | (go_at_call 33; refine (IN.out _ _ _ _ O3.out).mono ?_; rintro e w' ⟨rfl, rfl⟩))
          go_roundw
          case rel => exact ⟨k + 1, KM1.out, by go_num, B3.out, NO2.out⟩
          case measure => have h9 := KM1.out; simp [intOf]; omega
      · have k2 : ¬ (k : Int) < (p : Int) := by omega
        have G2 := hide (show G = true from by rw [HG.out]; exact acyG_yes fun j hj => NO.out j (by omega))
        go_wp2_with fail
        go_ret
        exact ⟨ret_bool G2.out.symm, B1.out⟩
    · have k1 : ¬ (k : Int) < (n : Int) := by omega
      have G2 := hide (show G = true from by rw [HG.out]; exact acyG_yes fun j hj => NO.out j (by omega))
      go_wp2_with fail
      go_ret
      exact ⟨ret_bool G2.out.symm, B1.out⟩
end Go.Proofs.Ythbhbanhgmaopaa
