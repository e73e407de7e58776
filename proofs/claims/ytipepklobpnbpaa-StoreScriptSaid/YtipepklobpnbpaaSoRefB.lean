/-
  The document's own store: Size, Blocks, Read.
-/
import Derived.Test.YtipepklobpnbpaaSoRefA
namespace Go.Proofs.Ytipepklobpnbpaa
open Go.ChangeShapes Go.WideShapes Go.ChangeAt Go.RowKit
set_option linter.unusedVariables false
set_option linter.unusedSimpArgs false
section
variable {w : World} {D : Nat → Prop} {G R : Nat} {s : So}
/-- Of a file that is there: what at answers, its cells, its bytes. -/
theorem Dso.file (h : Dso R w D G s) {id : Int} {o : List Int} (e : getFi s.l id = some o) : ∃ (m n c g : Nat) (bv : Value), m < n ∧ n ≤ 100000 ∧ w.cell? ⟨G, 1, none⟩ = some (.slice (some ⟨g, 0, none⟩) n c) ∧ w.cell? ⟨g, m * 3 + 1, none⟩ = some bv ∧ w.ownsRow 0 5 1 bv o.length (o.map (Value.int .u8)) ∧
    Calls Try.prog 36 #[.pointer (some ⟨G, 0, none⟩), .int .i64 id] w fun e w' => e = .returned (.int .i64 (m : Nat)) ∧ w = w' := by
  obtain ⟨xs, vL, t, b, st, fresh, back, K, h⟩ := h
  have e1 := e
  rw [h.p.l] at e1
  obtain ⟨p, x, q, rfl, h2, h3, h4⟩ := fi_split e1
  have hx : (p ++ x :: q)[p.length]? = some x := by rw [List.getElem?_append_right (Nat.le_refl _), Nat.sub_self]; rfl
  obtain ⟨g, c, rfl, d0, d1, d2, _⟩ := h.m.at_ hx
  have hm : x ∈ p ++ x :: q := List.mem_append_right _ (List.mem_cons_self ..)
  refine ⟨p.length, _, c, g, x.bv, by rw [List.length_append, List.length_cons]; omega, by have := h.p.few; rw [h.p.l, List.length_map] at this; exact this, h.m.c1, d1, h3 ▸ (h.m.ok x hm).bs, rat_some h h2 h4⟩
theorem Dso.good (h : Dso R w D G s) : GoodSo s := by
  obtain ⟨xs, vL, t, b, st, fresh, back, K, h⟩ := h
  exact h.p.good
theorem Dso.gone (h : Dso R w D G s) {id : Int} (e : getFi s.l id = none) : Calls Try.prog 36 #[.pointer (some ⟨G, 0, none⟩), .int .i64 id] w fun e w' => e = .returned (.int .i64 (-1)) ∧ w = w' := by
  obtain ⟨xs, vL, t, b, st, fresh, back, K, h⟩ := h
  exact rat_none h e
set_option maxRecDepth 10000 in
set_option maxHeartbeats 2000000 in
theorem rsz_any (h : Dso R w D G s) (id : Int) :
    Calls Try.prog 31 #[.pointer (some ⟨G, 0, none⟩), .int .i64 id] w fun e w' => e = .returned (.tuple #[.int .i64 (lenO (getFi s.l id) : Nat), .int .i64 (thE s id : Nat)]) ∧ w = w' := by
  unfold thE
  cases e : getFi s.l id with
  | none =>
    have AT := hide (h.gone e)
    clear h e
    show Calls _ _ _ _ fun e w' => e = .returned (.tuple #[.int .i64 0, .int .i64 4]) ∧ w = w'
    go_enter Try.func31, Try.ntmps31
    go_wp2_with (go_at_call 36; refine AT.out.mono ?_; rintro e w' ⟨rfl, rfl⟩)
    go_ret2
    exact ⟨rfl, rfl⟩
  | some o =>
    obtain ⟨m, n, c, g, bv, hm, hn, c1, d1, ob, at_⟩ := h.file e
    obtain ⟨a, c2, rfl, _⟩ := own_sliceR ob
    have AT := hide at_
    have m0 : (0 : Int) ≤ (m : Int) := by omega
    have m1 : (m : Int) < (n : Int) := by omega
    have n5 : (n : Int) ≤ 100000 := by omega
    have m2 : ¬ (m : Int) < 0 := by omega
    clear h e at_ ob
    show Calls _ _ _ _ fun e w' => e = .returned (.tuple #[.int .i64 (o.length : Nat), .int .i64 0]) ∧ w = w'
    go_enter Try.func31, Try.ntmps31
    go_wp2_with (go_at_call 36; refine AT.out.mono ?_; rintro e w' ⟨rfl, rfl⟩)
    go_ret2
    exact ⟨rfl, rfl⟩
theorem blkN_le8 (n : Nat) (h : n ≤ 512) : blkN n ≤ 8 := by unfold blkN; omega
theorem blk_div2 (z : Nat) (h : z ≤ 512) : ((z : Int) + 63).tdiv 64 = ((blkN z : Nat) : Int) := by
  rw [Int.tdiv_eq_ediv_of_nonneg (by omega)]
  unfold blkN
  omega
set_option maxRecDepth 10000 in
set_option maxHeartbeats 2000000 in
theorem rbk_any (h : Dso R w D G s) (id : Int) :
    Calls Try.prog 33 #[.pointer (some ⟨G, 0, none⟩), .int .i64 id] w fun e w' => e = .returned (.int .i64 (blkO (getFi s.l id) : Nat)) ∧ w = w' := by
  cases e : getFi s.l id with
  | none =>
    have AT := hide (h.gone e)
    clear h e
    show Calls _ _ _ _ fun e w' => e = .returned (.int .i64 0) ∧ w = w'
    go_enter Try.func33, Try.ntmps33
    go_wp2_with (go_at_call 36; refine AT.out.mono ?_; rintro e w' ⟨rfl, rfl⟩)
    go_ret
    exact ⟨rfl, rfl⟩
  | some o =>
    obtain ⟨m, n, c, g, bv, hm, hn, c1, d1, ob, at_⟩ := h.file e
    have o5 := (h.good.old e).2.1
    obtain ⟨a, c2, rfl, _⟩ := own_sliceR ob
    have AT := hide at_
    have m0 : (0 : Int) ≤ (m : Int) := by omega
    have m1 : (m : Int) < (n : Int) := by omega
    have n5 : (n : Int) ≤ 100000 := by omega
    have m2 : ¬ (m : Int) < 0 := by omega
    have hd := blk_div2 _ o5
    have o6 : (o.length : Int) ≤ 512 := by omega
    clear h e at_ ob o5
    show Calls _ _ _ _ fun e w' => e = .returned (.int .i64 (blkN o.length : Nat)) ∧ w = w'
    have H8 := hide (blkN_le8 _ (show o.length ≤ 512 by omega))
    generalize blkN o.length = bl at *
    generalize o.length = ol at *
    have b8 : (bl : Int) ≤ 8 := by have := H8.out; omega
    go_enter Try.func33, Try.ntmps33
    go_wp2_with (go_at_call 36; refine AT.out.mono ?_; rintro e w' ⟨rfl, rfl⟩)
    go_ret
    exact ⟨rfl, rfl⟩
end
end Go.Proofs.Ytipepklobpnbpaa
