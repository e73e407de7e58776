/-
  Mutexes that are declared: plain words; what comes in (stage 10).
-/
import Derived.Test.YtiaohcjjkbpngaaGRow
import Derived.Test.YtiaohcjjkbpngaaNumRefs
import Derived.Deep.RegionHeld3
import Derived.Deep.QuietTactic
import Derived.BigQuiet
namespace Go.Proofs.Ytiaohcjjkbpngaa
open Go.ChangeShapes Go.WideShapes Go.ChangeAt Go.RowKit
set_option linter.unusedVariables false
/-- A mutex: its rank, its limit. -/
structure Mu where
  r : Int
  l : Int
def muVals (m : Mu) : List Value := [.int .i64 m.r, .int .i64 m.l]
def MuWf (_ : World) (m : Mu) : Prop := (Lit.int .i64 m.r).wf = true ∧ (Lit.int .i64 m.l).wf = true
theorem muVals_len (x : Mu) : (muVals x).length = 2 := rfl
theorem muVals_cell (x : Mu) : ∀ v ∈ muVals x, v.oneCell' = true := by
  intro v hv
  simp [muVals] at hv
  rcases hv with rfl | rfl <;> rfl
section
variable {H : Type} {enc : TypeId × Value → H} {w : World} {base : Nat} {spare : Nat → Bool} {held : Bool}
theorem mu_open (m : Nat) (cs : List Value) (x : DataW H × List MemPlace) (hl : cs.length = 2) (h : DataW.trod enc Try.prog w base spare held m 36 cs = some x) : ∃ z, cs = muVals z ∧ MuWf w z := by
  obtain ⟨r, e0, w0⟩ := field_int Try.underlying36 h 0 0 3 rfl Try.underlying3 (by kernel_rfl)
  obtain ⟨l, e1, w1⟩ := field_int Try.underlying36 h 1 1 3 rfl Try.underlying3 (by kernel_rfl)
  refine ⟨⟨r, l⟩, ?_, w0, w1⟩
  match cs, hl with
  | [v0, v1], _ =>
    simp at e0 e1
    simp [muVals, e0, e1]
end
def okMu (m : Mu) : Bool := decide (1 ≤ m.r ∧ m.r ≤ 100 ∧ 1 ≤ m.l ∧ m.l ≤ 1000)
def goodMu (ms : List Mu) : Bool := ms.all okMu && decide (ms.length ≤ 6)
def isMu (n : Nat) (m : Int) : Bool := decide (0 ≤ m ∧ m < (n : Int))
def muAt (ms : List Mu) (m : Int) : Mu := ms.getD m.toNat ⟨0, 0⟩
/-- Is one of those held in the way? -/
def inWay (ms : List Mu) (m h : Int) : Bool := isMu ms.length h && decide ((muAt ms m).r ≤ (muAt ms h).r)
def mayMu (ms : List Mu) (hs : List Int) (m : Int) : Int := if isMu ms.length m = false then 19 else if hs.any (inWay ms m) = true then 7 else 0
def leastS (ms : List Mu) (s : Int × Bool) (u : Int) : Int × Bool := if (isMu ms.length u && (!s.2 || decide ((muAt ms u).r < s.1))) = true then ((muAt ms u).r, true) else s
def leastMu (ms : List Mu) (us : List Int) : Int × Bool := us.foldl (leastS ms) (0, false)
def sumS (rank : Int) (s : Int) (m : Mu) : Int := if rank ≤ m.r then cl (cl s + cl m.l) else s
def sumMu (ms : List Mu) (rank : Int) : Int := ms.foldl (sumS rank) 0
def rankMu (ms : List Mu) (m : Int) : Int := if isMu ms.length m = true then (muAt ms m).r else 0
def limMu (ms : List Mu) (m : Int) : Int := if isMu ms.length m = true then (muAt ms m).l else 0
theorem muAt_nat {ms : List Mu} {k : Nat} {x : Mu} (h : ms[k]? = some x) : muAt ms (k : Int) = x := by
  unfold muAt
  rw [Int.toNat_natCast, List.getD_eq_getElem?_getD, h]; rfl
theorem isMu_iff {n : Nat} {m : Int} : isMu n m = true ↔ ∃ k : Nat, m = (k : Int) ∧ k < n := by
  unfold isMu
  rw [decide_eq_true_eq]
  constructor
  · intro h; exact ⟨m.toNat, by omega, by omega⟩
  · rintro ⟨k, rfl, hk⟩; omega
set_option maxHeartbeats 2000000 in
theorem ris_any (a : Option Addr) (n c : Nat) (m : Int) (w : World) (hn : n ≤ maxLen) : Calls Try.prog 12 #[.slice a n c, .int .i64 m] w fun e w' => e = .returned (.bool (isMu n m)) ∧ w = w' := by
  by_cases h : 0 ≤ m
  · go_enter Try.func12, Try.ntmps12
    go_wp2_with fail
    go_ret
    exact ⟨ret_bool (by rw [Bool.eq_iff_iff]; simp [isMu]; omega), rfl⟩
  · go_enter Try.func12, Try.ntmps12
    go_wp2_with fail
    go_ret
    exact ⟨ret_bool (by rw [Bool.eq_iff_iff]; simp [isMu]; omega), rfl⟩
theorem goodMu_bad {ms : List Mu} {k : Nat} {x : Mu} (h : ms[k]? = some x) (hx : okMu x = false) : goodMu ms = false := by
  have : ms.all okMu = false := by
    rw [List.all_eq_false]
    exact ⟨x, List.mem_iff_getElem?.2 ⟨k, h⟩, by simp [hx]⟩
  simp [goodMu, this]
theorem goodMu_all {ms : List Mu} (h : ∀ (i : Nat) (x : Mu), ms[i]? = some x → okMu x = true) : goodMu ms = decide (ms.length ≤ 6) := by
  have : ms.all okMu = true := by
    rw [List.all_eq_true]
    intro x hx
    obtain ⟨i, hi⟩ := List.mem_iff_getElem?.1 hx
    exact h i x hi
  simp [goodMu, this]
set_option maxHeartbeats 4000000 in
theorem rgood_any (a : Option Addr) (n c : Nat) (ms : List Mu) (w : World) (ha : Reads 2 muVals w a n ms) (hn : n ≤ maxLen) : Calls Try.prog 8 #[.slice a n c] w fun e w' => e = .returned (.bool (goodMu ms)) ∧ w = w' := by
  have n63 : (n : Int) ≤ 9223372036854775807 := by unfold maxLen at hn; omega
  obtain ⟨G, hG⟩ : ∃ G, G = goodMu ms := ⟨_, rfl⟩
  rw [← hG]
  have HG := hide hG
  have HL := hide ha.1
  have HA := hide ha
  clear hG ha hn
  go_enter Try.func8, Try.ntmps8
  go_wp2_with fail
  go_loop [3] (fun i => ∃ k : Nat, k ≤ n ∧ i = .int .i64 k ∧ Hid (∀ (i : Nat) (x : Mu), i < k → ms[i]? = some x → okMu x = true)) (fun i => n - (intOf i).toNat)
  case atStart => exact ⟨0, Nat.zero_le _, rfl, fun i x hi => absurd hi (by omega)⟩
  case round =>
    obtain ⟨k, hk, rfl, hZ⟩ := hrel
    by_cases hlt : k < n
    · have k0 : (0 : Int) ≤ (k : Int) := by omega
      have k1 : (k : Int) < (n : Int) := by omega
      obtain ⟨x, b, off, hx, rfl, hc⟩ := HA.out.at_ hlt
      have HX := hide hx
      have c0 : w.cell? ⟨b, off + k * 2, none⟩ = some (.int .i64 x.r) := hc 0 _ rfl
      have c1 : w.cell? ⟨b, off + k * 2 + 1, none⟩ = some (.int .i64 x.l) := hc 1 _ rfl
      clear hx hc
      by_cases h1 : x.r < 1
      · have G2 := hide (show G = false from by rw [HG.out]; exact goodMu_bad HX.out (by unfold okMu; simp; omega))
        go_wp2_with fail
        go_ret
        exact ⟨ret_bool G2.out.symm, rfl⟩
      by_cases h2 : 100 < x.r
      · have G2 := hide (show G = false from by rw [HG.out]; exact goodMu_bad HX.out (by unfold okMu; simp; omega))
        go_wp2_with fail
        go_ret
        exact ⟨ret_bool G2.out.symm, rfl⟩
      by_cases h3 : x.l < 1
      · have G2 := hide (show G = false from by rw [HG.out]; exact goodMu_bad HX.out (by unfold okMu; simp; omega))
        go_wp2_with fail
        go_ret
        exact ⟨ret_bool G2.out.symm, rfl⟩
      by_cases h4 : 1000 < x.l
      · have G2 := hide (show G = false from by rw [HG.out]; exact goodMu_bad HX.out (by unfold okMu; simp; omega))
        go_wp2_with fail
        go_ret
        exact ⟨ret_bool G2.out.symm, rfl⟩
      have N2 := hide (show ∀ (i : Nat) (y : Mu), i < k + 1 → ms[i]? = some y → okMu y = true from fun i y hi hy => by
        by_cases e : i = k
        · subst e
          rw [HX.out] at hy
          injection hy with hy
          subst hy
          unfold okMu; simp; omega
        · exact hZ.out i y (by omega) hy)
      go_wp2_with fail
      go_round
      case rel => exact ⟨k + 1, by omega, by go_num, N2.out⟩
      case measure => simp [intOf]; omega
    · obtain rfl : k = n := by omega
      have G2 := hide (show G = decide ((k : Int) ≤ 6) from by
        rw [HG.out]
        have h1 := HL.out
        rw [goodMu_all fun i x hi => hZ.out i x (by have := (List.getElem?_eq_some_iff.1 hi).1; omega) hi, h1, Bool.eq_iff_iff]
        simp
        omega)
      go_wp2_with fail
      go_ret
      exact ⟨ret_bool G2.out.symm, rfl⟩
end Go.Proofs.Ytiaohcjjkbpngaa
