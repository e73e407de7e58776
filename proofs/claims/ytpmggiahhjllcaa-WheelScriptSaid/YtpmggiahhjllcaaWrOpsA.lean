/-
  The document's own wheel: digit, Where, Place.
-/
import Derived.Test.YtpmggiahhjllcaaWrMem
namespace Go.Proofs.Ytpmggiahhjllcaa
open Go.ChangeShapes Go.WideShapes Go.ChangeAt Go.RowKit
set_option linter.unusedVariables false
theorem tdiv64 (m : Nat) : Int.tdiv (m : Int) 64 = ((m / 64 : Nat) : Int) := by
  rw [Int.tdiv_eq_ediv_of_nonneg (by omega)]; omega
theorem tmod64 (m : Nat) : Int.tmod (m : Int) 64 = ((m % 64 : Nat) : Int) := by
  rw [Int.tmod_eq_emod_of_nonneg (by omega)]; omega
set_option maxHeartbeats 1000000 in
theorem digit_any (w : World) (n k : Nat) (hn : n < 16777216) (hk : k ≤ 3) : Calls Try.prog 40 #[.int .i64 (n : Int), .int .i64 (k : Int)] w fun e w' => e = .returned (.int .i64 (dig n k : Nat)) ∧ w = w' := by
  go_enter Try.func40, Try.ntmps40
  go_wp2_with fail
  go_loop [5, 0] (fun i v => ∃ (j m : Nat), j ≤ k ∧ i = .int .i64 (j : Int) ∧ v = .int .i64 (m : Int) ∧ Hid (m ≤ n ∧ dig m (k - j) = dig n k)) (fun i _ => k - (intOf i).toNat)
  case atStart => exact ⟨0, n, Nat.zero_le _, rfl, rfl, Nat.le_refl _, rfl⟩
  case round =>
    obtain ⟨j, m, hj, rfl, rfl, hM⟩ := hrel
    have m1 := tdiv64 m
    have m2 := tmod64 m
    have M0 := hide hM.out.1
    have m3 : ((m / 64 : Nat) : Int) ≤ 16777216 := by have := M0.out; have := Nat.div_le_self m 64; omega
    have m4 : (0 : Int) ≤ ((m / 64 : Nat) : Int) := by omega
    have m5 : ((m % 64 : Nat) : Int) ≤ 64 := by omega
    have m6 : (0 : Int) ≤ ((m % 64 : Nat) : Int) := by omega
    by_cases hlt : j < k
    · have NX : Hid (m / 64 ≤ n ∧ dig (m / 64) (k - (j + 1)) = dig n k) := (show _ ∧ _ from ⟨Nat.le_trans (Nat.div_le_self m 64) M0.out, by
        have := hM.out.2
        rw [show k - j = (k - (j + 1)) + 1 by omega] at this
        exact this⟩)
      clear hM
      generalize hq : m / 64 = q at *
      clear hq
      generalize m % 64 = r at *
      go_wp2_with fail
      go_round
      case rel => exact ⟨j + 1, q, by omega, by go_num, by go_num, NX⟩
      case measure => simp [intOf]; omega
    · obtain rfl : j = k := by omega
      have E := hide (show m % 64 = dig n j by have := hM.out.2; rw [Nat.sub_self] at this; exact this)
      clear hM
      generalize m / 64 = q at *
      generalize hr : m % 64 = r at *
      go_wp2_with fail
      go_ret
      exact ⟨ret_int (by have := E.out; omega), rfl⟩
theorem ring_is {n a j : Nat} (h1 : 1 ≤ j) (h3 : j ≤ 3) (h : ∀ q, j < q → q ≤ 3 → dig n q = dig a q) (hne : dig n j ≠ dig a j) : ring n a = j := by
  unfold ring
  rcases (show j = 1 ∨ j = 2 ∨ j = 3 by omega) with rfl | rfl | rfl
  · rw [if_neg (by have := h 3 (by omega) (by omega); simpa using this), if_neg (by have := h 2 (by omega) (by omega); simpa using this), if_pos hne]
  · rw [if_neg (by have := h 3 (by omega) (by omega); simpa using this), if_pos hne]
  · rw [if_pos hne]
theorem ring_zero {n a : Nat} (h : ∀ q, 0 < q → q ≤ 3 → dig n q = dig a q) : ring n a = 0 := by
  unfold ring
  rw [if_neg (by have := h 3 (by omega) (by omega); simpa using this), if_neg (by have := h 2 (by omega) (by omega); simpa using this), if_neg (by have := h 1 (by omega) (by omega); simpa using this)]
set_option maxHeartbeats 1000000 in
theorem where_any (w : World) (n a : Nat) (hn : n < 16777216) (ha : a < 16777216) : Calls Try.prog 34 #[.int .i64 (n : Int), .int .i64 (a : Int)] w fun e w' => e = .returned (.tuple #[.int .i64 (ring n a : Nat), .int .i64 (slot n a : Nat)]) ∧ w = w' := by
  go_enter Try.func34, Try.ntmps34
  go_wp2_with fail
  go_loop [6] (fun i => ∃ (j : Nat), j ≤ 3 ∧ i = .int .i64 (j : Int) ∧ Hid (∀ q, j < q → q ≤ 3 → dig n q = dig a q)) (fun i => (intOf i).toNat)
  case atStart => exact ⟨3, Nat.le_refl _, rfl, fun q h1 h2 => absurd h1 (by omega)⟩
  case round =>
    obtain ⟨j, hj, rfl, hE⟩ := hrel
    have d1 := digit_any
    by_cases h0 : 0 < j
    · have h0' : (0 : Int) < (j : Int) := by omega
      by_cases hne : dig n j = dig a j
      · have e1 : (((dig n j : Nat) : Int) != ((dig a j : Nat) : Int)) = false := by simp [hne]
        have HN := hide hne
        clear hne d1
        go_wp2_with (first
          | (go_at_call 40; with_reducible refine (digit_any _ n j hn hj).mono ?_; rintro e w' ⟨rfl, rfl⟩)
          | (go_at_call 40; with_reducible refine (digit_any _ a j ha hj).mono ?_; rintro e w' ⟨rfl, rfl⟩))
        go_round
        case rel => exact ⟨j - 1, by omega, by go_num, fun q h1 h2 => by
          by_cases e : q = j
          · rw [e]; exact HN.out
          · exact hE.out q (by omega) h2⟩
        case measure => simp [intOf]; omega
      · have e1 : (((dig n j : Nat) : Int) != ((dig a j : Nat) : Int)) = true := by simp; omega
        have HR := hide (ring_is (by omega) hj hE.out hne)
        clear hne d1
        go_wp2_with (first
          | (go_at_call 40; with_reducible refine (digit_any _ n j hn hj).mono ?_; rintro e w' ⟨rfl, rfl⟩)
          | (go_at_call 40; with_reducible refine (digit_any _ a j ha hj).mono ?_; rintro e w' ⟨rfl, rfl⟩))
        have E9 : Ending.returned (.tuple #[.int .i64 (j : Int), .int .i64 (dig a j : Nat)]) = .returned (.tuple #[.int .i64 (ring n a : Nat), .int .i64 (slot n a : Nat)]) := by unfold slot; rw [HR.out]
        go_ret2
        exact ⟨E9, rfl⟩
    · obtain rfl : j = 0 := by omega
      have HR := hide (ring_zero hE.out)
      clear d1
      go_wp2_with (go_at_call 40; refine (digit_any _ a 0 ha (by omega)).mono ?_; rintro e w' ⟨rfl, rfl⟩)
      have E9 : Ending.returned (.tuple #[.int .i64 0, .int .i64 (dig a 0 : Nat)]) = .returned (.tuple #[.int .i64 (ring n a : Nat), .int .i64 (slot n a : Nat)]) := by unfold slot; rw [HR.out]; rfl
      go_ret2
      exact ⟨E9, rfl⟩
theorem wquiet_eq {P : Program} {f : FuncId} {args : Array Value} {w : World} {n : Nat} {v : Value} (h : Calls P f args (w.drewN n) fun e w' => e = .returned v ∧ w.drewN n = w') : Calls P f args (w.drewN n) fun e w' => e = .returned v ∧ ∃ m, w' = w.drewN m :=
  h.mono fun e w' hh => ⟨hh.1, n, hh.2.symm⟩
theorem wrplace_any {w : World} {G : Nat → Prop} {S : Nat} {s : Ws} (h : Wr w G S s) (id : Int) :
    Calls Try.prog 36 #[.pointer (some ⟨S, 0, none⟩), .int .i64 id] w fun e w' =>
      e = .returned (.tuple #[.int .i64 (((atOf s.l id).map (ring s.now)).getD 0 : Nat), .int .i64 (((atOf s.l id).map (slot s.now)).getD 0 : Nat), .bool (atOf s.l id).isSome]) ∧ ∃ m, w' = w.drewN m := by
  have HH := hide h
  obtain ⟨a, c, s1, hrow⟩ := h.row
  have s0 := h.s0
  have few := h.good.few
  have hn := h.good.n
  have HL := hide h.good.lt
  clear h
  rcases pos_cases s.l id with ⟨i, hi, e1, e2, e3, _⟩ | ⟨e1, e2, _⟩
  · rw [atOf_some hi e1 e2]
    obtain ⟨g, rfl, _, c1⟩ := hrow i hi
    have hd := (HL.out _ (List.getElem_mem hi)).2
    clear e1 e2 hrow
    have i0 : (0 : Int) ≤ (i : Int) := by omega
    have i1 : (i : Int) < (s.l.length : Int) := by omega
    have i2 : ¬ (i : Int) < 0 := by omega
    generalize s.l[i].due = due at *
    show Calls _ _ _ _ fun e w' => e = .returned (.tuple #[.int .i64 (ring s.now due : Nat), .int .i64 (slot s.now due : Nat), .bool true]) ∧ ∃ m, w' = w.drewN m
    go_enter Try.func36, Try.ntmps36
    go_upto_region 4 with (go_at_call 28; refine (wrat_any HH.out id).mono ?_; rintro e w' ⟨rfl, rfl⟩; rw [e3])
    go_quiet ((go_at_call 34; exact wquiet_eq (where_any _ s.now due hn hd)))
    go_wp2_with fail
    exact bodyPost_ret (v := .tuple #[.int .i64 (ring s.now due : Nat), .int .i64 (slot s.now due : Nat), .bool true]) (by simp [results, Try.results36, go_sem]) rfl ⟨rfl, _, rfl⟩
  · rw [atOf_none e1]
    clear e1 hrow
    show Calls _ _ _ _ fun e w' => e = .returned (.tuple #[.int .i64 0, .int .i64 0, .bool false]) ∧ ∃ m, w' = w.drewN m
    go_enter Try.func36, Try.ntmps36
    go_wp2_with (go_at_call 28; refine (wrat_any HH.out id).mono ?_; rintro e w' ⟨rfl, rfl⟩; rw [e2])
    exact bodyPost_ret (v := .tuple #[.int .i64 0, .int .i64 0, .bool false]) (by simp [results, Try.results36, go_sem]) rfl ⟨rfl, 0, rfl⟩
end Go.Proofs.Ytpmggiahhjllcaa
