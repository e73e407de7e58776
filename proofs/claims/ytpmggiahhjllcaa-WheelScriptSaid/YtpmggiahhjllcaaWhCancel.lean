/-
  The walk of WheelCancel, over the contracts of the program's wheel.
-/
import Derived.Test.YtpmggiahhjllcaaWhPair
namespace Go.Proofs.Ytpmggiahhjllcaa
open Go.ChangeShapes Go.WideShapes Go.ChangeAt Go.RowKit
set_option linter.unusedVariables false
theorem ins_end {l : List Tm} {x : Tm} (h : ∀ y ∈ l, y.id < x.id) : ins l x = l ++ [x] := by
  have : plc l x.id = l.length := by
    unfold plc
    rw [List.countP_eq_length]
    intro y hy
    simpa using h y hy
  unfold ins
  rw [this, List.take_length, List.drop_length]
theorem arm_end {s : Ws} {i d : Nat} (h : ∀ x ∈ s.l, x.id < i) (hl : s.l.length < 64) (h1 : s.now < d) (h2 : d < 16777216) : armE s (i : Int) (d : Int) = 0 ∧ armS s (i : Int) (d : Int) = ⟨s.now, s.l ++ [⟨i, d⟩]⟩ := by
  have e : armE s (i : Int) (d : Int) = 0 := by
    have hn : armed s.l (i : Int) = false := by
      cases ha : armed s.l (i : Int) with
      | false => rfl
      | true =>
        obtain ⟨x, hx, e⟩ := (armed_iff _ _).mp ha
        have := h x hx
        omega
    unfold armE
    rw [if_neg (by omega), hn, if_neg (by simp), if_neg (by omega)]
  refine ⟨e, ?_⟩
  unfold armS
  rw [if_pos e, Int.toNat_natCast, Int.toNat_natCast, ins_end (by exact h)]
/-- Timers 0, 1, .. below i, of moments between. -/
structure Run (N B i : Nat) (L : List Tm) : Prop where
  ids : L.map (·.id) = List.range i
  due : ∀ x ∈ L, N < x.due ∧ x.due ≤ N + B
theorem Run.lt {N B i : Nat} {L : List Tm} (h : Run N B i L) : ∀ x ∈ L, x.id < i := fun x hx => by
  have : x.id ∈ L.map (·.id) := List.mem_map.mpr ⟨x, hx, rfl⟩
  rw [h.ids] at this
  exact List.mem_range.mp this
theorem Run.len {N B i : Nat} {L : List Tm} (h : Run N B i L) : L.length = i := by
  have := congrArg List.length h.ids
  rw [List.length_map, List.length_range] at this
  exact this
theorem Run.next {N B i d : Nat} {L : List Tm} (h : Run N B i L) (h1 : N < d) (h2 : d ≤ N + B) : Run N B (i + 1) (L ++ [⟨i, d⟩]) :=
  ⟨by rw [List.map_append, h.ids, List.range_succ]; rfl, fun x hx => by
    rcases List.mem_append.mp hx with hx | hx
    · exact h.due x hx
    · rw [List.mem_singleton] at hx; rw [hx]; exact ⟨h1, h2⟩⟩
theorem Run.armed {N B i k : Nat} {L : List Tm} (h : Run N B i L) (hk : k < i) : armed L (k : Int) = true := by
  have : k ∈ L.map (·.id) := by rw [h.ids]; exact List.mem_range.mpr hk
  obtain ⟨x, hx, e⟩ := List.mem_map.mp this
  exact (armed_iff _ _).mpr ⟨x, hx, by omega⟩
/-- Without timer k. -/
def less (L : List Tm) (k : Nat) : List Tm := L.filter (fun x => !((x.id : Int) == (k : Int)))
theorem less_same {L : List Tm} {k d : Nat} : less (L ++ [⟨k, d⟩]) k = less L k := by
  unfold less; rw [List.filter_append]; simp
theorem less_other {L : List Tm} {i k d : Nat} (h : i ≠ k) : less (L ++ [⟨i, d⟩]) k = less L k ++ [⟨i, d⟩] := by
  unfold less; rw [List.filter_append]; simp; omega
theorem less_sub {L : List Tm} {k : Nat} {x : Tm} (h : x ∈ less L k) : x ∈ L := (List.mem_filter.mp h).1
theorem less_not (L : List Tm) (k : Nat) : armed (less L k) (k : Int) = false := by
  cases ha : Go.Proofs.Ytpmggiahhjllcaa.armed (less L k) (k : Int) with
  | false => rfl
  | true =>
    obtain ⟨x, hx, e⟩ := (armed_iff _ _).mp ha
    have := (List.mem_filter.mp hx).2
    simp at this
    omega
theorem less_less (L : List Tm) (k : Nat) (n : Nat) : canS ⟨n, less L k⟩ (k : Int) = ⟨n, less L k⟩ := by
  refine can_none fun x hx e => ?_
  have := (armed_iff (less L k) (k : Int)).mpr ⟨x, hx, e⟩
  rw [less_not] at this
  cases this
/-- Timers between a moment and another one, under way. -/
structure Way (N B j : Nat) (s : Ws) : Prop where
  now : s.now = N + j
  due : ∀ x ∈ s.l, N + j < x.due ∧ x.due ≤ N + B
theorem Way.next {N B j : Nat} {s : Ws} (h : Way N B j s) (h2 : N + j + 1 < 16777216) : Way N B (j + 1) (tickS s) := by
  have hn := h.now
  have e : tickS s = ⟨s.now + 1, rest s⟩ := by unfold tickS; rw [if_neg (by omega)]
  rw [e]
  refine ⟨by show s.now + 1 = _; omega, fun x hx => ?_⟩
  obtain ⟨h3, h4⟩ := List.mem_filter.mp hx
  have h5 := h.due x h3
  have h6 : x.due ≠ s.now + 1 := by simpa using h4
  omega
theorem Way.none {N B j : Nat} {s : Ws} (h : Way N B j s) (hj : B ≤ j) : s.l = [] := by
  cases hl : s.l with
  | nil => rfl
  | cons x l =>
    have := h.due x (by rw [hl]; exact List.mem_cons_self)
    omega
section
variable {PW : World → (Nat → Prop) → Nat → Ws → Prop}
set_option maxRecDepth 100000 in
set_option maxHeartbeats 8000000 in
theorem walk_wheelCancelC (C : PWheel PW) (w : World) (now : Int) (wn : (Lit.int .i64 now).wf = true) (a : Option Addr) (n c : Nat) (zs : List Int) (hin : CameIn .i64 w a n c zs) (gn : Int) (wg : (Lit.int .i64 gn).wf = true) :
    Calls Try.prog 7 #[.int .i64 now, .slice a n c, .int .i64 gn] w fun e w' => e = .returned (.bool true) ∧ Below w.heap.size w w' := by
  have hn : n ≤ maxLen := Nat.le_trans hin.2.1 hin.2.2.1
  have HI := hide hin.1.2
  have h63 : (n : Int) ≤ 9223372036854775807 := by unfold maxLen at hn; omega
  clear hin wn wg
  by_cases h30 : 30 < n
  · have h30' : (30 : Int) < (n : Int) := by omega
    go_enter Try.func7, Try.ntmps7
    go_wp2_with (go_at_call 9; with_reducible refine (wawake_any C _).mono ?_; rintro e w' ⟨rfl, hb⟩)
    go_ret
    exact ⟨rfl, hb⟩
  have h30' : ¬ (30 : Int) < (n : Int) := by omega
  by_cases h0 : n = 0
  · subst h0
    go_enter Try.func7, Try.ntmps7
    go_wp2_with (go_at_call 9; with_reducible refine (wawake_any C _).mono ?_; rintro e w' ⟨rfl, hb⟩)
    go_ret
    exact ⟨rfl, hb⟩
  have h0' : ((n : Int) == 0) = false := by simp; omega
  have hn0 : (0 : Int) < (n : Int) := by omega
  have hn9 : (n : Int) ≤ 1000000000 := by omega
  clear h0
  go_enter Try.func7, Try.ntmps7
  go_upto_region 4 with (go_at_call 17; with_reducible refine (low_z _ 16776916 _ (by omega) (by omega)).mono ?_; rintro e w' ⟨⟨N, hN, rfl⟩, rfl⟩)
  go_wp2_with fail
  go_at_call 10
  refine (C.new _ N (by omega)).mono ?_
  rintro e w1 ⟨S, U, rfl, p1, b1, l1⟩
  have P1 := hide p1
  have B1 := hide b1
  have L1 := hide l1
  clear p1 b1 l1
  go_wp2_with fail
  go_at_call 10
  refine (C.new _ N (by omega)).mono ?_
  rintro e w2 ⟨T, V, rfl, p2, b2, l2⟩
  have T2 := hide (pair_first C P1.out B1.out L1.out p2 b2 l2)
  clear p2 b2 l2 P1 B1 L1
  go_upto_region 9 with (go_at_call 17; refine (low_z _ (n : Int) _ hn0 hn9).mono ?_; rintro e w' ⟨⟨k, hk, rfl⟩, rfl⟩)
  go_wp2_with fail
  go_loopw [12] (fun i wr => ∃ (j : Nat) (L : List Tm) (U V : Nat → Prop), j ≤ n ∧ i = .int .i64 (j : Int) ∧ Hid (PairW PW w wr U V S T ⟨N, L⟩ ⟨N, less L k⟩ ∧ Run N 190 j L)) (fun i _ => n - (intOf i).toNat)
  case atStart => exact ⟨0, [], _, _, Nat.zero_le _, rfl, T2.out, rfl, fun x hx => absurd hx List.not_mem_nil⟩
  case round =>
    clear T2 U V
    obtain ⟨j, L, U, V, hj, rfl, hT⟩ := hrel
    by_cases hlt : j < n
    · obtain ⟨ab, off, rfl, hcell⟩ := HI.out (by omega)
      have c0 := (hT.out.1.bel.cell (lt_of_cell? (hcell j hlt))).trans (hcell j hlt)
      clear hcell
      have j0 : (0 : Int) ≤ (j : Int) := by omega
      have j1 : (j : Int) < (n : Int) := by omega
      go_upto_region 13 with (go_at_call 17; with_reducible refine (low_z _ 190 _ (by omega) (by omega)).mono ?_; rintro e w' ⟨⟨r, hr, rfl⟩, rfl⟩)
      have hm : (N : Int) + 1 + (r : Int) = ((N + 1 + r : Nat) : Int) := by omega
      rw [hm]
      have d1 : N < N + 1 + r := by omega
      have d2 : N + 1 + r ≤ N + 190 := by omega
      have d3 : N + 1 + r < 16777216 := by omega
      generalize N + 1 + r = d at *
      clear hm c0
      have wj := wf_nat24 (n := j) (by omega)
      have wd := wf_nat24 (n := d) (by omega)
      have LN := hT.out.2.len
      obtain ⟨a1, a2⟩ := arm_end (s := ⟨N, L⟩) (i := j) (d := d) hT.out.2.lt (by show L.length < 64; omega) d1 d3
      have A1 := hide a1
      have A2 := hide a2
      have WJ := hide wj
      have WD := hide wd
      have RN := hide (hT.out.2.next d1 d2)
      clear a1 a2 wj wd
      go_wp2_with fail
      go_at_call 13
      refine (C.arm hT.out.1.ps WJ.out WD.out).mono ?_
      rw [A1.out, A2.out]
      intro en w3 hs
      obtain ⟨rfl, U3, t3⟩ := hT.out.1.left C hs
      have T3 := hide t3
      clear hs t3
      by_cases hjk : j = k
      · have e1 : ((j : Int) != (k : Int)) = false := by simp [hjk]
        have T4 := hide (show PairW PW w w3 U3 V S T ⟨N, L ++ [⟨j, d⟩]⟩ ⟨N, less (L ++ [⟨j, d⟩]) k⟩ by have := less_same (L := L) (k := k) (d := d); rw [← hjk] at this ⊢; rw [this]; have h3 := T3.out; rw [← hjk] at h3; exact h3)
        clear hjk T3
        go_wp2_with fail
        go_roundw
        case rel => exact ⟨j + 1, _, _, _, by omega, by go_num, T4.out, RN.out⟩
        case measure => simp [intOf]; omega
      · have e1 : ((j : Int) != (k : Int)) = true := by simp; omega
        obtain ⟨a3, a4⟩ := arm_end (s := ⟨N, less L k⟩) (i := j) (d := d) (fun x hx => hT.out.2.lt x (less_sub hx)) (by have := List.length_filter_le (fun x : Tm => !((x.id : Int) == (k : Int))) L; show (less L k).length < 64; unfold less; omega) d1 d3
        have LO := hide (less_other (L := L) (d := d) hjk)
        have A3 := hide a3
        have A4 := hide a4
        clear a3 a4 hjk
        go_wp2_with fail
        go_at_call 13
        refine (C.arm T3.out.qs WJ.out WD.out).mono ?_
        rw [A3.out, A4.out]
        intro en w4 hs
        obtain ⟨rfl, V4, t4⟩ := T3.out.right C hs
        have T4 := hide (show PairW PW w w4 U3 V4 S T ⟨N, L ++ [⟨j, d⟩]⟩ ⟨N, less (L ++ [⟨j, d⟩]) k⟩ by rw [LO.out]; exact t4)
        clear hs t4
        go_wp2_with fail
        go_roundw
        case rel => exact ⟨j + 1, _, _, _, by omega, by go_num, T4.out, RN.out⟩
        case measure => simp [intOf]; omega
    · obtain rfl : j = n := by omega
      have j1 : ¬ (j : Int) < (j : Int) := by omega
      have wk := wf_nat24 (n := k) (by omega)
      have WK := hide wk
      have AR := hide (hT.out.2.armed (k := k) (by omega))
      have CA := hide (show canS ⟨N, L⟩ (k : Int) = ⟨N, less L k⟩ from rfl)
      have WY := hide (show Way N 190 0 ⟨N, less L k⟩ from ⟨rfl, fun x hx => hT.out.2.due x (less_sub hx)⟩)
      clear wk
      go_wp2_with fail
      go_at_call 15
      refine (C.can hT.out.1.ps WK.out).mono ?_
      rw [CA.out, AR.out]
      intro en w3 hs
      obtain ⟨rfl, U3, t3⟩ := hT.out.1.left C hs
      have T3 := hide t3
      clear hs t3
      go_wp2_with fail
      go_at_call 15
      refine (C.can T3.out.ps WK.out).mono ?_
      rw [less_less, less_not]
      intro en w4 hs
      obtain ⟨rfl, U4, t4⟩ := T3.out.left C hs
      have T4 := hide t4
      clear hs t4 T3 hT
      go_wp2_with fail
      go_loopw [14] (fun i wr => ∃ (j : Nat) (s : Ws) (U V : Nat → Prop), j ≤ 200 ∧ i = .int .i64 (j : Int) ∧ Hid (PairW PW w wr U V S T s s ∧ Way N 190 j s)) (fun i _ => 200 - (intOf i).toNat)
      case atStart => exact ⟨0, _, _, _, Nat.zero_le _, rfl, T4.out, WY.out⟩
      case round =>
        clear T4 WY
        obtain ⟨i, s, U5, V5, hi, rfl, hT⟩ := hrel
        by_cases hi2 : i < 200
        · have i0 : (i : Int) < 200 := by omega
          have gl : (gone s).length ≤ 64 := by have h1 := gone_len s; have h2 := (C.good hT.out.1.ps).few; omega
          have WN := hide (hT.out.2.next (by omega))
          have g0 : (((moved s : Nat) : Int) != ((moved s : Nat) : Int)) = false := by simp
          go_wp2_with fail
          go_at_call 18
          refine (C.tick hT.out.1.ps).mono ?_
          intro en w6 ht
          obtain ⟨A6, c6, rfl, o6, ⟨U6, t6⟩, u6, d6⟩ := hT.out.1.tickL C ht
          have D6 := hide d6
          have T6 := hide t6
          have O6 := hide o6
          clear ht t6 u6 o6 d6
          go_wp2_with fail
          go_at_call 18
          have VL := hide (C.lt hT.out.1.qs)
          refine (C.tick T6.out.qs).mono ?_
          intro en w7 ht
          obtain ⟨A7, c7, rfl, o7, ⟨V7, t7⟩, u7⟩ := T6.out.tickR C ht
          have T7 := hide t7
          have O7 := hide o7
          have P7 := hide (u7.own O6.out (fun g hg e => D6.out g hg e))
          clear ht t7 u7 o7
          go_wp2_with fail
          go_at_call 20
          refine (same_own _ _ _ _ _ P7.out O7.out (by omega)).mono ?_
          rintro e w8 ⟨rfl, b8⟩
          have T8 := hide (T7.out.below C b8)
          clear b8
          go_wp2_with fail
          go_roundw
          case rel => exact ⟨i + 1, _, _, _, by omega, by go_num, T8.out, WN.out⟩
          case measure => simp [intOf]; omega
        · obtain rfl : i = 200 := by omega
          have i0 : ¬ ((200 : Nat) : Int) < 200 := by omega
          have EL := hide (show (s.l.length : Int) = 0 by rw [hT.out.2.none (by omega)]; rfl)
          go_wp2_with (first
            | (go_at_call 23; refine (C.len hT.out.1.ps).mono ?_; rintro e w6 ⟨rfl, b6⟩; rw [EL.out])
            | (go_at_call 9; with_reducible refine (wawake_any C _).mono ?_; rintro e w7 ⟨rfl, b7⟩))
          go_ret
          exact ⟨rfl, hT.out.1.bel.trans ((b6.mono hT.out.1.bel.size).trans (b7.mono (Nat.le_trans hT.out.1.bel.size b6.size)))⟩
end
end Go.Proofs.Ytpmggiahhjllcaa
