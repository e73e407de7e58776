/-
  The walk of WheelMoves, over the contracts of the program's wheel.
-/
import Derived.Test.YtpmggiahhjllcaaWhMovesA
namespace Go.Proofs.Ytpmggiahhjllcaa
open Go.ChangeShapes Go.WideShapes Go.ChangeAt Go.RowKit
set_option linter.unusedVariables false
theorem atOf_cases (l : List Tm) (k : Nat) : (∃ x ∈ l, x.id = k ∧ atOf l (k : Int) = some x.due) ∨ ((∀ x ∈ l, x.id ≠ k) ∧ atOf l (k : Int) = none) := by
  rcases pos_cases l (k : Int) with ⟨i, hi, e1, e2, _, _⟩ | ⟨e1, _, _⟩
  · exact .inl ⟨l[i], List.getElem_mem hi, by omega, atOf_some hi e1 e2⟩
  · exact .inr ⟨fun x hx e => e1 x hx (by omega), atOf_none e1⟩
theorem place_some {s : Ws} {k d : Nat} (h : atOf s.l (k : Int) = some d) : (.tuple #[.int .i64 (((atOf s.l (k : Int)).map (ring s.now)).getD 0 : Nat), .int .i64 (((atOf s.l (k : Int)).map (slot s.now)).getD 0 : Nat), .bool (atOf s.l (k : Int)).isSome] : Value) = .tuple #[.int .i64 (ring s.now d : Nat), .int .i64 (slot s.now d : Nat), .bool true] := by rw [h]; rfl
theorem place_none {s : Ws} {k : Nat} (h : atOf s.l (k : Int) = none) : (.tuple #[.int .i64 (((atOf s.l (k : Int)).map (ring s.now)).getD 0 : Nat), .int .i64 (((atOf s.l (k : Int)).map (slot s.now)).getD 0 : Nat), .bool (atOf s.l (k : Int)).isSome] : Value) = .tuple #[.int .i64 0, .int .i64 0, .bool false] := by rw [h]; rfl
section
variable {PW : World → (Nat → Prop) → Nat → Ws → Prop}
set_option maxRecDepth 100000 in
set_option maxHeartbeats 8000000 in
theorem walk_wheelMovesC (C : PWheel PW) (w : World) (now : Int) (wn : (Lit.int .i64 now).wf = true) (a : Option Addr) (n c : Nat) (zs : List Int) (hin : CameIn .i64 w a n c zs) :
    Calls Try.prog 5 #[.int .i64 now, .slice a n c] w fun e w' => e = .returned (.bool true) ∧ Below w.heap.size w w' := by
  have hn : n ≤ maxLen := Nat.le_trans hin.2.1 hin.2.2.1
  have HI := hide hin.1.2
  have h63 : (n : Int) ≤ 9223372036854775807 := by unfold maxLen at hn; omega
  clear hin wn
  by_cases h40 : 40 < n
  · have h40' : (40 : Int) < (n : Int) := by omega
    go_enter Try.func5, Try.ntmps5
    go_wp2_with (go_at_call 9; with_reducible refine (wawake_any C _).mono ?_; rintro e w' ⟨rfl, hb⟩)
    go_ret
    exact ⟨rfl, hb⟩
  have h40' : ¬ (40 : Int) < (n : Int) := by omega
  go_enter Try.func5, Try.ntmps5
  go_upto_region 4 with (go_at_call 17; with_reducible refine (low_z _ 16776916 _ (by omega) (by omega)).mono ?_; rintro e w' ⟨⟨N, hN, rfl⟩, rfl⟩)
  go_wp2_with fail
  go_at_call 10
  refine (C.new _ N (by omega)).mono ?_
  rintro e w1 ⟨S, U, rfl, p1, b1, l1⟩
  have P1 := hide p1
  have B1 := hide b1
  have L1 := hide l1
  clear p1 b1 l1
  go_wp2_with fail
  change Code.wp _ _ _ _ (w1.alloc (.cells zero40 44))
  have T0 := hide (one_first C P1.out B1.out L1.out (arr_new w1 44))
  clear P1 B1 L1
  generalize w1.alloc (.cells zero40 44) = w2 at *
  generalize w1.heap.size = X at *
  go_loopw [10] (fun i wr => ∃ (j : Nat) (s : Ws) (U : Nat → Prop) (f : Nat → Int), j ≤ n ∧ i = .int .i64 (j : Int) ∧ Hid (OneW PW w wr U S X s f ∧ s.now = N ∧ (∀ x ∈ s.l, x.id < j) ∧ s.l.length ≤ j ∧ ∀ x ∈ s.l, f x.id = (ring N x.due : Nat))) (fun i _ => n - (intOf i).toNat)
  case atStart => exact ⟨0, _, _, _, Nat.zero_le _, rfl, T0.out, rfl, fun x hx => absurd hx List.not_mem_nil, Nat.le_refl _, fun x hx => absurd hx List.not_mem_nil⟩
  case round =>
    clear T0 U
    obtain ⟨j, s, U, f, hj, rfl, hT⟩ := hrel
    by_cases hlt : j < n
    · obtain ⟨ab, off, rfl, hcell⟩ := HI.out (by omega)
      have c0 := (hT.out.1.bel.cell (lt_of_cell? (hcell j hlt))).trans (hcell j hlt)
      clear hcell
      have j0 : (0 : Int) ≤ (j : Int) := by omega
      have j1 : (j : Int) < (n : Int) := by omega
      have j2 : (j : Int) < 40 := by omega
      have T1 := hide hT.out.1
      have SN := hide hT.out.2.1
      have IL := hide hT.out.2.2.1
      have SL := hide hT.out.2.2.2.1
      have FR := hide hT.out.2.2.2.2
      have WJ := hide (wf_nat24 (n := j) (by omega))
      clear hT
      go_wp2_with (go_at_call 17; with_reducible refine (low_z _ 100000 _ (by omega) (by omega)).mono ?_; rintro e w' ⟨⟨r, hr, rfl⟩, rfl⟩)
      go_at_call 13
      have hm : (N : Int) + 1 + (r : Int) = ((N + 1 + r : Nat) : Int) := by omega
      rw [hm]
      have d1 : N < N + 1 + r := by omega
      have d2 : N + 1 + r ≤ 100000000 := by omega
      generalize N + 1 + r = d at *
      have WD := hide (wf_nat24 (n := d) (by omega))
      clear hm c0
      by_cases hd : d < 16777216
      · obtain ⟨a1, a2⟩ := arm_end (s := s) (i := j) (d := d) IL.out (by have := SL.out; omega) (by rw [SN.out]; exact d1) hd
        have A1 := hide a1
        have A2 := hide a2
        clear a1 a2
        refine (C.arm T1.out.ps WJ.out WD.out).mono ?_
        rw [A1.out, A2.out]
        intro en w4 hs
        obtain ⟨rfl, U4, t4⟩ := T1.out.side C hs
        have T4 := hide t4
        clear hs t4
        have AT := hide (show atOf (s.l ++ [⟨j, d⟩]) (j : Int) = some d by
          rcases atOf_cases (s.l ++ [⟨j, d⟩]) j with ⟨x, hx, e1, e2⟩ | ⟨e1, _⟩
          · rw [e2]
            rcases List.mem_append.mp hx with hx | hx
            · have := IL.out x hx; omega
            · rw [List.mem_singleton] at hx; rw [hx]
          · exact absurd rfl (e1 ⟨j, d⟩ (by simp)))
        go_wp2_with fail
        go_at_call 24
        refine (C.place T4.out.ps WJ.out).mono ?_
        rintro e w5 ⟨he, b5⟩
        have he2 := he.trans (congrArg Ending.returned (place_some (s := ⟨s.now, s.l ++ [⟨j, d⟩]⟩) AT.out))
        clear he
        subst he2
        have T5 := hide (T4.out.below C b5)
        clear b5
        have T6 := hide (T5.out.set C j (by omega) ((ring s.now d : Nat) : Int))
        have cx := T5.out.arr.cell j (by omega)
        have fx := T5.out.arr.frozen j
        have FN := hide (show ∀ x ∈ s.l ++ [⟨j, d⟩], (fun i => if i = j then ((ring s.now d : Nat) : Int) else f i) x.id = (ring N x.due : Nat) from fun x hx => by
          rcases List.mem_append.mp hx with hx | hx
          · have h1 := IL.out x hx
            show (if x.id = j then _ else f x.id) = _
            rw [if_neg (by omega)]; exact FR.out x hx
          · rw [List.mem_singleton] at hx
            subst hx
            show (if j = j then _ else f j) = _
            rw [if_pos rfl, SN.out])
        generalize (fun i => if i = j then ((ring s.now d : Nat) : Int) else f i) = f2 at *
        go_wp2_with fail
        go_roundw
        case rel => exact ⟨j + 1, _, _, _, by omega, by go_num, T6.out, SN.out, (fun x hx => by
          rcases List.mem_append.mp hx with hx | hx
          · have := IL.out x hx; omega
          · rw [List.mem_singleton] at hx; subst hx; exact Nat.lt_succ_self _), (by rw [List.length_append]; have := SL.out; simp; omega), FN.out⟩
        case measure => simp [intOf]; omega
      · have A1 := hide (show armE s (j : Int) (d : Int) = 2 by unfold armE; rw [if_pos (.inr (.inr (by omega)))])
        have A2 := hide (show armS s (j : Int) (d : Int) = s by unfold armS; rw [if_neg (by rw [A1.out]; omega)])
        refine (C.arm T1.out.ps WJ.out WD.out).mono ?_
        rw [A1.out, A2.out]
        intro en w4 hs
        obtain ⟨rfl, U4, t4⟩ := T1.out.side C hs
        have T4 := hide t4
        clear hs t4
        have T6 := hide (T4.out.set C j (by omega) (-1))
        have cx := T4.out.arr.cell j (by omega)
        have fx := T4.out.arr.frozen j
        have FN := hide (show ∀ x ∈ s.l, (fun i => if i = j then (-1 : Int) else f i) x.id = (ring N x.due : Nat) from fun x hx => by
          have h1 := IL.out x hx
          show (if x.id = j then _ else f x.id) = _
          rw [if_neg (by omega)]; exact FR.out x hx)
        generalize (fun i => if i = j then (-1 : Int) else f i) = f2 at *
        go_wp2_with fail
        go_roundw
        case rel => exact ⟨j + 1, _, _, _, by omega, by go_num, T6.out, SN.out, (fun x hx => Nat.lt_succ_of_lt (IL.out x hx)), (by have := SL.out; omega), FN.out⟩
        case measure => simp [intOf]; omega
    · obtain rfl : j = n := by omega
      have j1 : ¬ (j : Int) < (j : Int) := by omega
      have W0 := hide (show OneW PW w wr U S X s f ∧ s.now = N + 0 ∧ (∀ x ∈ s.l, x.id < j) ∧ (∀ x ∈ s.l, f x.id = (ring s.now x.due : Nat)) ∧ sumR s.now s.l + 0 ≤ 3 * j from
        ⟨hT.out.1, hT.out.2.1, hT.out.2.2.1, fun x hx => by rw [hT.out.2.1]; exact hT.out.2.2.2.2 x hx, by have h1 := sumR_le s.now s.l; have h2 := hT.out.2.2.2.1; omega⟩)
      clear hT
      go_wp2_with fail
      go_loopw [11, 8, 9] (fun i p q wr => ∃ (t tot : Nat) (s : Ws) (U : Nat → Prop) (f : Nat → Int), t ≤ 299 ∧ i = .int .i64 (t : Int) ∧ p = .int .i64 (tot : Int) ∧ q = .int .i64 (tot : Int) ∧ Hid (OneW PW w wr U S X s f ∧ s.now = N + t ∧ (∀ x ∈ s.l, x.id < j) ∧ (∀ x ∈ s.l, f x.id = (ring s.now x.due : Nat)) ∧ sumR s.now s.l + tot ≤ 3 * j)) (fun i _ _ _ => 299 - (intOf i).toNat)
      case atStart => exact ⟨0, 0, s, U, f, by omega, rfl, rfl, rfl, W0.out⟩
      case round =>
        clear W0
        obtain ⟨t, tot, s, U, f, ht, rfl, rfl, rfl, hT⟩ := hrel
        have tl : (tot : Int) ≤ 120 := by have := hT.out.2.2.2.2; omega
        by_cases ht2 : t < 299
        · have t0 : (t : Int) < 299 := by omega
          have SN := hide hT.out.2.1
          have ES := hide (show tickS s = ⟨s.now + 1, rest s⟩ by unfold tickS; rw [if_neg (by have := SN.out; omega)])
          have GD := hide (C.good hT.out.1.ps)
          have MV := hide (show moved s = (rest s).countP (fun x => ring s.now x.due != ring (s.now + 1) x.due) from rfl)
          have SUM := hide (show sumR (s.now + 1) (rest s) + (tot + moved s) ≤ 3 * j by have h1 := sumR_tick (n := s.now) GD.out.lt; have h2 := hT.out.2.2.2.2; unfold moved rest; omega)
          have RL := hide (show ∀ x ∈ rest s, x ∈ s.l from fun x hx => (List.mem_filter.mp hx).1)
          have IL := hide hT.out.2.2.1
          have FR := hide hT.out.2.2.2.1
          have ml : ((moved s : Nat) : Int) ≤ 120 := by have := SUM.out; omega
          have UP := hide (show (rest s).Pairwise (fun a b => a.id < b.id) from GD.out.up.sublist List.filter_sublist)
          go_wp2_with fail
          go_at_call 18
          refine (C.tick hT.out.1.ps).mono ?_
          intro en w6 hk
          obtain ⟨A6, c6, rfl, _, U6, t6⟩ := hT.out.1.tick C hk
          rw [ES.out] at t6
          have T6 := hide t6
          clear hk t6 hT
          generalize hmv : moved s = mv at *
          generalize (gone s).length = gq at *
          have I0 := hide (show tot + 0 = tot + turned s.now (rest s) 0 ∧ ∀ x ∈ rest s, f x.id = if x.id < 0 then ((ring (s.now + 1) x.due : Nat) : Int) else (ring s.now x.due : Nat) from ⟨by rw [turned_zero], fun x hx => by rw [if_neg (Nat.not_lt_zero _)]; exact FR.out x (RL.out x hx)⟩)
          go_wp2_with fail
          go_loopw [14, 9] (fun i q wr => ∃ (k lst : Nat) (f : Nat → Int), k ≤ j ∧ i = .int .i64 (k : Int) ∧ q = .int .i64 (lst : Int) ∧ Hid (OneW PW w wr U6 S X ⟨s.now + 1, rest s⟩ f ∧ lst = tot + turned s.now (rest s) k ∧ ∀ x ∈ rest s, f x.id = if x.id < k then ((ring (s.now + 1) x.due : Nat) : Int) else (ring s.now x.due : Nat))) (fun i _ _ => j - (intOf i).toNat)
          case atStart => exact ⟨0, tot, f, Nat.zero_le _, rfl, rfl, T6.out, I0.out.1, I0.out.2⟩
          case round =>
            clear T6 I0 FR f
            obtain ⟨k, lst, f, hk, rfl, rfl, hZ⟩ := hrel
            have ll : (lst : Int) ≤ 200 := by
              have h1 := hZ.out.2.1
              have h2 : turned s.now (rest s) k ≤ s.l.length := Nat.le_trans List.countP_le_length (List.length_filter_le _ _)
              have h3 := GD.out.few
              omega
            by_cases hkj : k < j
            · have k0 : (0 : Int) ≤ (k : Int) := by omega
              have k1 : (k : Int) < (j : Int) := by omega
              have k2 : (k : Int) < 40 := by omega
              have WK := hide (wf_nat24 (n := k) (by omega))
              go_wp2_with fail
              go_at_call 24
              refine (C.place hZ.out.1.ps WK.out).mono ?_
              rintro e w7 ⟨he, b7⟩
              have T7 := hide (hZ.out.1.below C b7)
              have LS := hide hZ.out.2.1
              have FF := hide hZ.out.2.2
              clear b7 hZ
              rcases atOf_cases (rest s) k with ⟨x, hx, hxk, e2⟩ | ⟨e1, e2⟩
              · have he2 : e = .returned (.tuple #[.int .i64 (ring (s.now + 1) x.due : Nat), .int .i64 (slot (s.now + 1) x.due : Nat), .bool true]) := he.trans (congrArg Ending.returned (place_some (s := ⟨s.now + 1, rest s⟩) e2))
                clear he e2
                subst he2
                have HX := hide hx
                have XK := hide hxk
                have fk : f k = (ring s.now x.due : Nat) := by have := FF.out x hx; rw [hxk, if_neg (Nat.lt_irrefl k)] at this; exact this
                have cx := T7.out.arr.cell k (by omega)
                rw [fk] at cx
                have fx := T7.out.arr.frozen k
                have T8 := hide (T7.out.set C k (by omega) ((ring (s.now + 1) x.due : Nat) : Int))
                have rf : ring (s.now + 1) x.due ≤ ring s.now x.due := ring_falls (by omega) (by
                  have h1 := GD.out.lt x (RL.out x hx)
                  omega) (GD.out.lt x (RL.out x hx)).2
                have TH := hide (show turned s.now (rest s) (k + 1) = turned s.now (rest s) k + if ring s.now x.due = ring (s.now + 1) x.due then 0 else 1 by have := turned_hit (n := s.now) UP.out hx; rw [hxk] at this; exact this)
                have FN := hide (show ∀ y ∈ rest s, (fun i => if i = k then ((ring (s.now + 1) x.due : Nat) : Int) else f i) y.id = if y.id < k + 1 then ((ring (s.now + 1) y.due : Nat) : Int) else (ring s.now y.due : Nat) from fun y hy => by
                  show (if y.id = k then _ else f y.id) = _
                  by_cases ey : y.id = k
                  · have hyx : y = x := by
                      obtain ⟨p, hp, rfl⟩ := List.mem_iff_getElem.mp hy
                      obtain ⟨q, hq, rfl⟩ := List.mem_iff_getElem.mp hx
                      rcases Nat.lt_trichotomy p q with h | h | h
                      · have := up_getElem UP.out hp hq h; omega
                      · subst h; rfl
                      · have := up_getElem UP.out hq hp h; omega
                    rw [if_pos ey, if_pos (by omega), hyx]
                  · rw [if_neg ey, FF.out y hy]
                    by_cases hl : y.id < k
                    · rw [if_pos hl, if_pos (by omega)]
                    · rw [if_neg hl, if_neg (by omega)])
                have sl := slot_le (s.now + 1) x.due
                clear hx hxk fk
                generalize (fun i => if i = k then ((ring (s.now + 1) x.due : Nat) : Int) else f i) = f2 at *
                generalize ring (s.now + 1) x.due = r1 at *
                generalize ring s.now x.due = r0 at *
                generalize slot (s.now + 1) x.due = sv at *
                have db1 : decide (r0 < r1) = false := decide_eq_false (by omega)
                have db2 : decide ((r0 : Int) < (r1 : Int)) = false := decide_eq_false (by omega)
                have db3 : decide ((r1 : Int) < 0) = false := decide_eq_false (by omega)
                have db4 : decide ((sv : Int) < 0) = false := decide_eq_false (by omega)
                have db5 : decide ((63 : Int) < (sv : Int)) = false := decide_eq_false (by omega)
                have q1 : (sv : Int) < 64 := by omega
                have q2 : (0 : Int) ≤ (sv : Int) := by omega
                have q3 : (r1 : Int) ≤ (r0 : Int) := by omega
                have q4 : (0 : Int) ≤ (r1 : Int) := by omega
                clear rf sl
                by_cases er : r0 = r1
                · have LQ := hide (show lst = tot + turned s.now (rest s) (k + 1) by rw [TH.out, if_pos er]; exact LS.out)
                  subst er
                  clear q3 db1 db2
                  go_wp2_with fail
                  go_roundw
                  case rel => exact ⟨k + 1, lst, f2, by omega, by go_num, rfl, T8.out, LQ.out, FN.out⟩
                  case measure => simp [intOf]; omega
                · have n1 : (r1 : Int) < (r0 : Int) := by omega
                  have LQ := hide (show lst + 1 = tot + turned s.now (rest s) (k + 1) by rw [TH.out, if_neg er, LS.out]; omega)
                  clear er
                  go_wp2_with fail
                  go_roundw
                  case rel => exact ⟨k + 1, lst + 1, f2, by omega, by go_num, by go_num, T8.out, LQ.out, FN.out⟩
                  case measure => simp [intOf]; omega
              · have he2 := he.trans (congrArg Ending.returned (place_none (s := ⟨s.now + 1, rest s⟩) e2))
                clear he e2
                subst he2
                have TM := hide (turned_miss (n := s.now) e1)
                have FN := hide (show ∀ y ∈ rest s, f y.id = if y.id < k + 1 then ((ring (s.now + 1) y.due : Nat) : Int) else (ring s.now y.due : Nat) from fun y hy => by
                  rw [FF.out y hy]
                  have := e1 y hy
                  by_cases hl : y.id < k
                  · rw [if_pos hl, if_pos (by omega)]
                  · rw [if_neg hl, if_neg (by omega)])
                clear e1
                go_wp2_with fail
                go_roundw
                case rel => exact ⟨k + 1, lst, f, by omega, by go_num, rfl, T7.out, by rw [TM.out]; exact LS.out, FN.out⟩
                case measure => simp [intOf]; omega
            · obtain rfl : k = j := by omega
              have k9 : ¬ (k : Int) < (k : Int) := by omega
              have LQ := hide (show lst = tot + mv by rw [hZ.out.2.1, turned_all (fun x hx => IL.out x (RL.out x hx)), ← MV.out])
              have FN := hide (show ∀ x ∈ rest s, f x.id = (ring (s.now + 1) x.due : Nat) from fun x hx => by rw [hZ.out.2.2 x hx, if_pos (IL.out x (RL.out x hx))])
              have T8 := hide hZ.out.1
              clear hZ
              go_wp2_with fail
              go_roundw
              case rel => exact ⟨t + 1, tot + mv, ⟨s.now + 1, rest s⟩, U6, f, by omega, by go_num, by go_num, by rw [LQ.out], T8.out, by show s.now + 1 = _; have := SN.out; omega, fun x hx => IL.out x (RL.out x hx), FN.out, SUM.out⟩
              case measure => simp [intOf]; omega
        · obtain rfl : t = 299 := by omega
          have t0 : ¬ ((299 : Nat) : Int) < 299 := by omega
          have g0 : ((tot : Int) == (tot : Int)) = true := by simp
          have g1 : (tot : Int) ≤ 3 * (j : Int) := by have := hT.out.2.2.2.2; omega
          have g2 : IntKind.i64.wrap (3 * (j : Int)) = 3 * (j : Int) := by rw [IntKind.wrap_i64]; omega
          have T5 := hide hT.out.1
          clear hT
          go_wp2_with (go_at_call 9; with_reducible refine (wawake_any C _).mono ?_; rintro e w7 ⟨rfl, b7⟩)
          go_ret
          exact ⟨rfl, T5.out.bel.trans (b7.mono T5.out.bel.size)⟩
end
end Go.Proofs.Ytpmggiahhjllcaa
