/-
  Two wheels of the program beside one another; WheelAnew.
-/
import Derived.Test.YtpmggiahhjllcaaWhScript
namespace Go.Proofs.Ytpmggiahhjllcaa
open Go.ChangeShapes Go.WideShapes Go.ChangeAt Go.RowKit
set_option linter.unusedVariables false
theorem low_wrapB (x : Int) (n : Nat) (hn : 0 < n) (hb : n ≤ 1000000000) : ∃ r : Nat, r < n ∧ wrap64 ((IntKind.u64.wrap x).tmod (n : Int)) = r := by
  have h : IntKind.u64.wrap x = x % 18446744073709551616 := by simp [IntKind.wrap, IntKind.bits, IntKind.signed]
  rw [h, Int.tmod_eq_emod_of_nonneg (by omega)]
  have h0 : 0 ≤ (x % 18446744073709551616) % (n : Int) := Int.emod_nonneg _ (by omega)
  have h1 : (x % 18446744073709551616) % (n : Int) < n := Int.emod_lt_of_pos _ (by omega)
  generalize (x % 18446744073709551616) % (n : Int) = y at *
  obtain ⟨r, rfl⟩ := Int.eq_ofNat_of_zero_le h0
  refine ⟨r, by omega, ?_⟩
  unfold wrap64
  omega
theorem low_big (x : Int) (n : Nat) (w : World) (hn : 0 < n) (hb : n ≤ 1000000000) :
    Calls Try.prog 17 #[.int .i64 x, .int .i64 (n : Int)] w fun e w' => (∃ r : Nat, r < n ∧ e = .returned (.int .i64 (r : Int))) ∧ w = w' := by
  obtain ⟨r, hr, he⟩ := low_wrapB x n hn hb
  have HE := hide he
  have n0 : ¬ ((n : Int) = 0) := by omega
  have n1 : (0 : Int) ≤ (n : Int) := by omega
  have n2 : (n : Int) ≤ 1000000000 := by omega
  have hu : IntKind.u64.wrap (n : Int) = (n : Int) := by simp [IntKind.wrap, IntKind.bits, IntKind.signed]; omega
  clear he
  go_enter Try.func17, Try.ntmps17
  go_wp2_with fail
  go_ret
  exact ⟨⟨r, hr, ret_int HE.out⟩, rfl⟩
theorem low_z (x z : Int) (w : World) (hn : 0 < z) (hb : z ≤ 1000000000) :
    Calls Try.prog 17 #[.int .i64 x, .int .i64 z] w fun e w' => (∃ r : Nat, (r : Int) < z ∧ e = .returned (.int .i64 (r : Int))) ∧ w = w' := by
  obtain ⟨n, rfl⟩ := Int.eq_ofNat_of_zero_le (show 0 ≤ z by omega)
  refine (low_big x n w (by omega) (by omega)).mono ?_
  rintro e w' ⟨⟨r, hr, he⟩, hw⟩
  exact ⟨⟨r, by omega, he⟩, hw⟩
theorem wf_nat24 {n : Nat} (h : n ≤ 1000000000) : (Lit.int .i64 (n : Int)).wf = true := by
  simp [Lit.wf, IntKind.min, IntKind.max, IntKind.bits, IntKind.signed]; omega
/-- Two wheels of the program. -/
structure PairW (PW : World → (Nat → Prop) → Nat → Ws → Prop) (w wr : World) (U V : Nat → Prop) (S T : Nat) (s t : Ws) : Prop where
  ps : PW wr U S s
  qs : PW wr V T t
  bel : Below w.heap.size w wr
  dis : ∀ i, U i → ¬ V i
  lo : ∀ i, U i → w.heap.size ≤ i
  lo2 : ∀ i, V i → w.heap.size ≤ i
section
variable {PW : World → (Nat → Prop) → Nat → Ws → Prop}
theorem PairW.swap {w wr : World} {U V : Nat → Prop} {S T : Nat} {s t : Ws} (h : PairW PW w wr U V S T s t) : PairW PW w wr V U T S t s := ⟨h.qs, h.ps, h.bel, fun i hi e => h.dis i e hi, h.lo2, h.lo⟩
theorem PairW.moveL (C : PWheel PW) {w wr w' : World} {U U' V : Nat → Prop} {S T : Nat} {s s' t : Ws} (h : PairW PW w wr U V S T s t) (p : PW w' U' S s') (u : Touch U wr w') (hU : ∀ i, U' i → U i ∨ wr.heap.size ≤ i) : PairW PW w w' U' V S T s' t := by
  refine ⟨p, C.keep h.qs u (fun i hi e => h.dis i e hi), h.bel.trans (u.below h.bel.size h.lo), fun i hi hv => ?_, fun i hi => ?_, h.lo2⟩
  · rcases hU i hi with e | e
    · exact h.dis i e hv
    · have := C.lt h.qs i hv; omega
  · rcases hU i hi with e | e
    · exact h.lo i e
    · have := h.bel.size; omega
theorem PairW.left (C : PWheel PW) {w wr w' : World} {U V : Nat → Prop} {S T : Nat} {s s' t : Ws} (h : PairW PW w wr U V S T s t) {x : Value} {e : Ending} (hs : Side (fun w' U' => PW w' U' S s') U wr x e w') : e = .returned x ∧ ∃ U', PairW PW w w' U' V S T s' t := by
  obtain ⟨rfl, U', p, u, hU⟩ := hs
  exact ⟨rfl, U', h.moveL C p u hU⟩
theorem PairW.right (C : PWheel PW) {w wr w' : World} {U V : Nat → Prop} {S T : Nat} {s t t' : Ws} (h : PairW PW w wr U V S T s t) {x : Value} {e : Ending} (hs : Side (fun w' U' => PW w' U' T t') V wr x e w') : e = .returned x ∧ ∃ V', PairW PW w w' U V' S T s t' := by
  obtain ⟨he, V', h2⟩ := h.swap.left C hs
  exact ⟨he, V', h2.swap⟩
theorem PairW.below (C : PWheel PW) {w wr w' : World} {U V : Nat → Prop} {S T : Nat} {s t : Ws} (h : PairW PW w wr U V S T s t) (b : Below wr.heap.size wr w') : PairW PW w w' U V S T s t :=
  ⟨C.below h.ps b, C.below h.qs b, h.bel.trans (b.mono h.bel.size), h.dis, h.lo, h.lo2⟩
theorem PairW.tickL (C : PWheel PW) {w wr w' : World} {U V : Nat → Prop} {S T : Nat} {s t : Ws} (h : PairW PW w wr U V S T s t) {e : Ending} (ht : Ticked (fun w' U' s' => PW w' U' S s') U s wr e w') :
    ∃ A c, e = .returned (.tuple #[.slice A (gone s).length c, .int .i64 (moved s : Nat)]) ∧ w'.ownsRow 0 3 1 (.slice A (gone s).length c) (gone s).length ((goneI s).map (Value.int .i64)) ∧ (∃ U', PairW PW w w' U' V S T (tickS s) t) ∧ Touch U wr w' ∧ ∀ g, (Value.slice A (gone s).length c).ownBlock = some g → ¬ V g := by
  obtain ⟨A, c, he, ho, U', p, u, hU, hf⟩ := ht
  exact ⟨A, c, he, ho, ⟨U', h.moveL C p u hU⟩, u, fun g hg e => (hf g hg).2.elim (fun e2 => h.dis g e2 e) (fun e2 => by have := C.lt h.qs g e; omega)⟩
theorem PairW.tickR (C : PWheel PW) {w wr w' : World} {U V : Nat → Prop} {S T : Nat} {s t : Ws} (h : PairW PW w wr U V S T s t) {e : Ending} (ht : Ticked (fun w' U' s' => PW w' U' T s') V t wr e w') :
    ∃ A c, e = .returned (.tuple #[.slice A (gone t).length c, .int .i64 (moved t : Nat)]) ∧ w'.ownsRow 0 3 1 (.slice A (gone t).length c) (gone t).length ((goneI t).map (Value.int .i64)) ∧ (∃ V', PairW PW w w' U V' S T s (tickS t)) ∧ Touch V wr w' := by
  obtain ⟨A, c, he, ho, ⟨V', h2⟩, u, _⟩ := h.swap.tickL C ht
  exact ⟨A, c, he, ho, ⟨V', h2.swap⟩, u⟩
theorem pair_first (C : PWheel PW) {w w1 w2 : World} {S T : Nat} {U V : Nat → Prop} {s t : Ws} (p1 : PW w1 U S s) (b1 : Below w.heap.size w w1) (l1 : ∀ i, U i → w.heap.size ≤ i) (p2 : PW w2 V T t) (b2 : Below w1.heap.size w1 w2) (l2 : ∀ i, V i → w1.heap.size ≤ i) :
    PairW PW w w2 U V S T s t :=
  ⟨C.below p1 b2, p2, b1.trans (b2.mono b1.size), fun i hi e => by have := C.lt p1 i hi; have := l2 i e; omega, l1, fun i e => by have := b1.size; have := l2 i e; omega⟩
theorem arm_first {n m : Nat} (h1 : n < m) (h2 : m < 16777216) : armE ⟨n, []⟩ 5 m = 0 ∧ armS ⟨n, []⟩ 5 m = ⟨n, [⟨5, m⟩]⟩ := by
  have e : armE ⟨n, []⟩ 5 (m : Int) = 0 := by
    unfold armE
    rw [if_neg (by show ¬ ((5 : Int) < 0 ∨ (m : Int) ≤ (n : Int) ∨ 16777216 ≤ (m : Int)); omega)]
    rfl
  refine ⟨e, ?_⟩
  unfold armS
  rw [if_pos e]
  rfl
theorem tick_one {n m : Nat} (h1 : n + 1 < m) (h2 : m < 16777216) : tickS ⟨n, [⟨5, m⟩]⟩ = ⟨n + 1, [⟨5, m⟩]⟩ := by
  unfold tickS
  rw [if_neg (by show ¬ n = 16777215; omega)]
  unfold rest
  simp
  omega
theorem at_one (m : Nat) : atOf [⟨5, m⟩] 5 = some m := by unfold atOf; simp
set_option maxHeartbeats 4000000 in
theorem walk_wheelAnewC (C : PWheel PW) (w : World) (now : Int) (wn : (Lit.int .i64 now).wf = true) (ticks : Int) (wt : (Lit.int .i64 ticks).wf = true) (at_ : Int) (wa : (Lit.int .i64 at_).wf = true) :
    Calls Try.prog 8 #[.int .i64 now, .int .i64 ticks, .int .i64 at_] w fun e w' => e = .returned (.bool true) ∧ Below w.heap.size w w' := by
  clear wn wt wa
  go_enter Try.func8, Try.ntmps8
  go_upto_region 2 with (first
    | (go_at_call 17; with_reducible refine (low_z _ 16677216 _ (by omega) (by omega)).mono ?_; rintro e w' ⟨⟨n, hn, rfl⟩, rfl⟩)
    | (go_at_call 17; with_reducible refine (low_z _ 200 _ (by omega) (by omega)).mono ?_; rintro e w' ⟨⟨k, hk, rfl⟩, rfl⟩))
  go_upto_region 3 with (go_at_call 17; with_reducible refine (low_z _ 90000 _ (by omega) (by omega)).mono ?_; rintro e w' ⟨⟨r, hr, rfl⟩, rfl⟩)
  have hm : (n : Int) + (k : Int) + 1 + (r : Int) = ((n + k + 1 + r : Nat) : Int) := by omega
  rw [hm]
  have m2 : n + k + 1 + r < 16777216 := by omega
  have m1 : n + k < n + k + 1 + r := by omega
  generalize n + k + 1 + r = m at *
  clear hm
  have cn : ∀ w, Calls Try.prog 10 #[.int .i64 ((n : Int) + (k : Int))] w fun e w' => ∃ S U, e = .returned (.tuple #[.pointer (some ⟨S, 0, none⟩), .int .i64 0]) ∧ PW w' U S ⟨n + k, []⟩ ∧ Below w.heap.size w w' ∧ ∀ i, U i → w.heap.size ≤ i := fun w => by
    have := C.new w (n + k) (by omega)
    rw [show ((n + k : Nat) : Int) = (n : Int) + (k : Int) by omega] at this
    exact this
  have CN := hide cn
  clear cn
  go_wp2_with fail
  go_at_call 10
  refine (C.new _ n (by omega)).mono ?_
  rintro e w1 ⟨S, U, rfl, p1, b1, l1⟩
  have P1 := hide p1
  have B1 := hide b1
  have L1 := hide l1
  clear p1 b1 l1
  go_wp2_with fail
  go_at_call 10
  refine (CN.out _).mono ?_
  rintro e w2 ⟨T, V, rfl, p2, b2, l2⟩
  have T2 := hide (pair_first C P1.out B1.out L1.out p2 b2 l2)
  clear p2 b2 l2 P1 B1 L1 CN
  have wm := wf_nat24 (n := m) (by omega)
  obtain ⟨a1, a2⟩ := arm_first (n := n) (m := m) (by omega) m2
  obtain ⟨a3, a4⟩ := arm_first (n := n + k) (m := m) m1 m2
  have WM := hide wm
  have A1 := hide a1
  have A2 := hide a2
  have A3 := hide a3
  have A4 := hide a4
  clear wm a1 a2 a3 a4
  go_wp2_with fail
  go_at_call 13
  refine (C.arm T2.out.ps (id := 5) (by decide) WM.out).mono ?_
  rw [A1.out, A2.out]
  intro en w3 hs
  obtain ⟨rfl, U3, t3⟩ := T2.out.left C hs
  have T3 := hide t3
  clear hs t3
  go_wp2_with fail
  go_at_call 13
  refine (C.arm T3.out.qs (id := 5) (by decide) WM.out).mono ?_
  rw [A3.out, A4.out]
  intro en w4 hs
  obtain ⟨rfl, V4, t4⟩ := T3.out.right C hs
  have T4 := hide t4
  clear hs t4 T2 T3 A1 A2 A3 A4 WM
  go_wp2_with fail
  go_loopw [14] (fun i wr => ∃ (j : Nat) (U : Nat → Prop), j ≤ k ∧ i = .int .i64 (j : Int) ∧ Hid (PairW PW w wr U V4 S T ⟨n + j, [⟨5, m⟩]⟩ ⟨n + k, [⟨5, m⟩]⟩)) (fun i _ => k - (intOf i).toNat)
  case atStart => exact ⟨0, _, Nat.zero_le _, rfl, T4.out⟩
  case round =>
    clear T4
    obtain ⟨j, U5, hj, rfl, hT⟩ := hrel
    by_cases hjk : j < k
    · have j0 : (j : Int) < (k : Int) := by omega
      have TK := hide (tick_one (n := n + j) (m := m) (by omega) m2)
      go_wp2_with fail
      go_at_call 18
      refine (C.tick hT.out.ps).mono ?_
      intro en w6 ht
      obtain ⟨A6, c6, rfl, _, ⟨U6, t6⟩, _⟩ := hT.out.tickL C ht
      rw [TK.out] at t6
      have T6 := hide t6
      clear ht t6
      go_wp2_with fail
      go_roundw
      case rel => exact ⟨j + 1, U6, by omega, by go_num, T6.out⟩
      case measure => simp [intOf]; omega
    · obtain rfl : j = k := by omega
      have j0 : ¬ (j : Int) < (j : Int) := by omega
      obtain ⟨x, hx⟩ : ∃ x, x = ring (n + j) m := ⟨_, rfl⟩
      obtain ⟨y, hy⟩ : ∃ y, y = slot (n + j) m := ⟨_, rfl⟩
      have pl : (.tuple #[.int .i64 (((atOf [⟨5, m⟩] 5).map (ring (n + j))).getD 0 : Nat), .int .i64 (((atOf [⟨5, m⟩] 5).map (slot (n + j))).getD 0 : Nat), .bool (atOf [⟨5, m⟩] 5).isSome] : Value) = .tuple #[.int .i64 (x : Int), .int .i64 (y : Int), .bool true] := by
        rw [at_one, hx, hy]; rfl
      have PL := hide pl
      clear pl hx hy
      have g1 : ((x : Int) == (x : Int)) = true := by simp
      have g2 : ((y : Int) == (y : Int)) = true := by simp
      have g3 : (((n + j : Nat) : Int) == ((n + j : Nat) : Int)) = true := by simp
      go_wp2_with fail
      go_at_call 24
      refine (C.place hT.out.ps (id := 5) (by decide)).mono ?_
      rintro e w6 ⟨he, b6⟩
      have he2 := he.trans (congrArg Ending.returned PL.out)
      clear he
      subst he2
      have T6 := hide (hT.out.below C b6)
      clear b6
      go_wp2_with fail
      go_at_call 24
      refine (C.place T6.out.qs (id := 5) (by decide)).mono ?_
      rintro e w7 ⟨he, b7⟩
      have he2 := he.trans (congrArg Ending.returned PL.out)
      clear he
      subst he2
      have T7 := hide (T6.out.below C b7)
      clear b7
      go_wp2_with fail
      go_at_call 26
      refine (C.now T7.out.ps).mono ?_
      rintro e w8 ⟨rfl, b8⟩
      have T8 := hide (T7.out.below C b8)
      clear b8
      go_wp2_with fail
      go_at_call 26
      refine (C.now T8.out.qs).mono ?_
      rintro e w9 ⟨rfl, b9⟩
      have T9 := hide (T8.out.below C b9)
      clear b9
      go_wp2_with (go_at_call 9; with_reducible refine (wawake_any C _).mono ?_; rintro e w' ⟨rfl, hb⟩)
      go_ret
      exact ⟨rfl, T9.out.bel.trans (hb.mono T9.out.bel.size)⟩
end
end Go.Proofs.Ytpmggiahhjllcaa
