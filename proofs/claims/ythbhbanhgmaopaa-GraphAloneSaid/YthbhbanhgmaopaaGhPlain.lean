/-
  Who waits for whom: plain words; the document's own On, in (coxswainref11) (stage 11).
-/
import Derived.Test.YthbhbanhgmaopaaKit
import Derived.Deep.RegionHeld3
import Derived.Deep.QuietTactic
import Derived.BigQuiet
namespace Go.Proofs.Ythbhbanhgmaopaa
open Go.ChangeShapes Go.WideShapes Go.ChangeAt Go.RowKit
set_option linter.unusedVariables false
/-- For whom i waits. -/
def onG (ws os : List Int) (n i : Int) : Int :=
  if i < 0 ∨ n ≤ i ∨ (ws.length : Int) ≤ i then -1
  else if ws.getD i.toNat 0 < 0 ∨ (os.length : Int) ≤ ws.getD i.toNat 0 then -1
  else if os.getD (ws.getD i.toNat 0).toNat 0 < 0 ∨ n ≤ os.getD (ws.getD i.toNat 0).toNat 0 then -1
  else os.getD (ws.getD i.toNat 0).toNat 0
theorem onG_lt {ws os : List Int} {n i : Int} (h : 0 ≤ onG ws os n i) : onG ws os n i < n := by
  unfold onG at *
  split at h
  · omega
  · split at h
    · omega
    · split at h
      · omega
      · rename_i h1 h2 h3
        rw [if_neg h1, if_neg h2, if_neg h3]
        omega
theorem onG_none {ws os : List Int} {n i : Int} (h : ¬ 0 ≤ onG ws os n i) : onG ws os n i = -1 := by
  unfold onG at *
  split
  · rfl
  · split
    · rfl
    · split
      · rfl
      · rename_i h1 h2 h3
        rw [if_neg h1, if_neg h2, if_neg h3] at h
        omega
theorem Ints.cell {q : IntKind} {w : World} {a : Option Addr} {n : Nat} {xs : List Int} (h : Ints q w a n xs) {k : Nat} (hk : k < n) : ∃ b off, a = some ⟨b, off, none⟩ ∧ w.cell? ⟨b, off + k, none⟩ = some (.int q (xs.getD k 0)) := by
  obtain ⟨b, off, e, hc⟩ := h.2 (by omega)
  exact ⟨b, off, e, hc k hk⟩
set_option maxHeartbeats 4000000 in
theorem ron_any (a : Option Addr) (p c : Nat) (ws : List Int) (b : Option Addr) (q d : Nat) (os : List Int) (n i : Int) (w : World) (ha : Ints .i64 w a p ws) (hb : Ints .i64 w b q os) (hp : p ≤ maxLen) (hq : q ≤ maxLen) :
    Calls Try.prog 15 #[.slice a p c, .slice b q d, .int .i64 n, .int .i64 i] w fun e w' => e = .returned (.int .i64 (onG ws os n i)) ∧ w = w' := by
  have p63 : (p : Int) ≤ 9223372036854775807 := by unfold maxLen at hp; omega
  have q63 : (q : Int) ≤ 9223372036854775807 := by unfold maxLen at hq; omega
  obtain ⟨G, hG⟩ : ∃ G, G = onG ws os n i := ⟨_, rfl⟩
  rw [← hG]
  have HG := hide hG
  clear hG hp hq
  by_cases h1 : i < 0
  · have G2 := hide (show G = -1 from by rw [HG.out]; unfold onG; rw [if_pos (.inl h1)])
    clear ha hb
    go_enter Try.func15, Try.ntmps15
    go_wp2_with fail
    go_ret
    exact ⟨ret_int G2.out.symm, rfl⟩
  by_cases h2 : n ≤ i
  · have G2 := hide (show G = -1 from by rw [HG.out]; unfold onG; rw [if_pos (.inr (.inl h2))])
    clear ha hb
    go_enter Try.func15, Try.ntmps15
    go_wp2_with fail
    go_ret
    exact ⟨ret_int G2.out.symm, rfl⟩
  by_cases h3 : (p : Int) ≤ i
  · have G2 := hide (show G = -1 from by rw [HG.out]; unfold onG; rw [if_pos (.inr (.inr (by rw [ha.1]; exact h3)))])
    clear ha hb
    go_enter Try.func15, Try.ntmps15
    go_wp2_with fail
    go_ret
    exact ⟨ret_int G2.out.symm, rfl⟩
  obtain ⟨k, rfl⟩ : ∃ k : Nat, i = (k : Int) := ⟨i.toNat, by omega⟩
  have hk : k < p := by omega
  obtain ⟨ab, ao, rfl, ca⟩ := ha.cell hk
  obtain ⟨m, hm⟩ : ∃ m, m = ws.getD k 0 := ⟨_, rfl⟩
  rw [← hm] at ca
  have O1 := hide (show G = if m < 0 ∨ (os.length : Int) ≤ m then -1 else if os.getD m.toNat 0 < 0 ∨ n ≤ os.getD m.toNat 0 then -1 else os.getD m.toNat 0 from by
    rw [HG.out]; unfold onG; rw [if_neg (by rw [ha.1]; omega), Int.toNat_natCast, ← hm])
  have k0 : (0 : Int) ≤ (k : Int) := by omega
  have k1 : (k : Int) < (p : Int) := by omega
  clear hm h1 h3 ha
  by_cases h4 : m < 0
  · have G2 := hide (show G = -1 from by rw [O1.out, if_pos (.inl h4)])
    clear hb
    go_enter Try.func15, Try.ntmps15
    go_wp2_with fail
    go_ret
    exact ⟨ret_int G2.out.symm, rfl⟩
  by_cases h5 : (q : Int) ≤ m
  · have G2 := hide (show G = -1 from by rw [O1.out, if_pos (.inr (by rw [hb.1]; exact h5))])
    clear hb
    go_enter Try.func15, Try.ntmps15
    go_wp2_with fail
    go_ret
    exact ⟨ret_int G2.out.symm, rfl⟩
  obtain ⟨j, rfl⟩ : ∃ j : Nat, m = (j : Int) := ⟨m.toNat, by omega⟩
  have hj : j < q := by omega
  obtain ⟨bb, bo, rfl, cb⟩ := hb.cell hj
  obtain ⟨o, ho⟩ : ∃ o, o = os.getD j 0 := ⟨_, rfl⟩
  rw [← ho] at cb
  have O2 := hide (show G = if o < 0 ∨ n ≤ o then -1 else o from by
    rw [O1.out, if_neg (by rw [hb.1]; omega), Int.toNat_natCast, ← ho])
  have j0 : (0 : Int) ≤ (j : Int) := by omega
  have j1 : (j : Int) < (q : Int) := by omega
  clear ho h4 h5 hb
  by_cases h6 : o < 0
  · have G2 := hide (show G = -1 from by rw [O2.out, if_pos (.inl h6)])
    go_enter Try.func15, Try.ntmps15
    go_wp2_with fail
    go_ret
    exact ⟨ret_int G2.out.symm, rfl⟩
  by_cases h7 : n ≤ o
  · have G2 := hide (show G = -1 from by rw [O2.out, if_pos (.inr h7)])
    go_enter Try.func15, Try.ntmps15
    go_wp2_with fail
    go_ret
    exact ⟨ret_int G2.out.symm, rfl⟩
  · have G2 := hide (show G = o from by rw [O2.out, if_neg (by omega)])
    go_enter Try.func15, Try.ntmps15
    go_wp2_with fail
    go_ret
    exact ⟨ret_int G2.out.symm, rfl⟩
set_option maxHeartbeats 2000000 in
theorem rin11_any (a : Option Addr) (p c : Nat) (l : List Int) (x : Int) (w : World) (ha : Ints .i64 w a p l) (hp : p ≤ maxLen) :
    Calls Try.prog 33 #[.slice a p c, .int .i64 x] w fun e w' => e = .returned (.bool (decide (x ∈ l))) ∧ w = w' := by
  have p63 : (p : Int) ≤ 9223372036854775807 := by unfold maxLen at hp; omega
  obtain ⟨G, hG⟩ : ∃ G, G = decide (x ∈ l) := ⟨_, rfl⟩
  rw [← hG]
  have HG := hide hG
  have HA := hide ha
  clear hG ha hp
  go_enter Try.func33, Try.ntmps33
  go_wp2_with fail
  go_loop [5] (fun i => ∃ k : Nat, k ≤ p ∧ i = .int .i64 k ∧ Hid (x ∉ l.take k)) (fun i => p - (intOf i).toNat)
  case atStart => exact ⟨0, Nat.zero_le _, rfl, (show x ∉ l.take 0 from by simp)⟩
  case round =>
    obtain ⟨k, hk, rfl, hZ⟩ := hrel
    by_cases hlt : k < p
    · have k0 : (0 : Int) ≤ (k : Int) := by omega
      have k1 : (k : Int) < (p : Int) := by omega
      have KM1 := hide (show k + 1 ≤ p from by omega)
      obtain ⟨b, off, rfl, cc⟩ := HA.out.cell hlt
      have hk2 : k < l.length := by rw [HA.out.1]; exact hlt
      obtain ⟨y, hy⟩ : ∃ y, y = l.getD k 0 := ⟨_, rfl⟩
      rw [← hy] at cc
      have hy2 : l[k] = y := by rw [hy]; simp [List.getD, hk2]
      by_cases he : y = x
      · have e1 : (y == x) = true := by simpa using he
        have G2 := hide (show G = true from by rw [HG.out]; exact decide_eq_true (by rw [← he, ← hy2]; exact List.getElem_mem hk2))
        clear he hy hy2
        go_wp2_with fail
        go_ret
        exact ⟨ret_bool G2.out.symm, rfl⟩
      · have e1 : (y == x) = false := by simpa using he
        have N2 := hide (show x ∉ l.take (k + 1) from by
          rw [List.take_succ_eq_append_getElem hk2, List.mem_append, hy2]
          rintro (h | h)
          · exact hZ.out h
          · rw [List.mem_singleton] at h; exact he h.symm)
        clear he hy hy2
        go_wp2_with fail
        go_round
        case rel => exact ⟨k + 1, KM1.out, by go_num, N2.out⟩
        case measure => have h9 := KM1.out; simp [intOf]; omega
    · obtain rfl : k = p := by omega
      have G2 := hide (show G = false from by
        have h1 := hZ.out
        rw [List.take_of_length_le (by rw [HA.out.1]; omega)] at h1
        rw [HG.out]; simpa using h1)
      go_wp2_with fail
      go_ret
      exact ⟨ret_bool G2.out.symm, rfl⟩
end Go.Proofs.Ythbhbanhgmaopaa
