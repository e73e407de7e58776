/-
  The walk of WheelOnce, over the contracts of the program's wheel.
-/
import Derived.Test.YtpmggiahhjllcaaWhCancel
namespace Go.Proofs.Ytpmggiahhjllcaa
open Go.ChangeShapes Go.WideShapes Go.ChangeAt Go.RowKit
set_option linter.unusedVariables false
/-- An array of forty integers at block X. -/
def Arr (w : World) (X : Nat) (f : Nat → Int) : Prop := ∃ (cur : Array Value) (t : TypeId), w.heap[X]? = some (.cells cur t (0, 0)) ∧ cur.size = 40 ∧ ∀ j, j < 40 → cur[j]? = some (.int .i64 (f j))
theorem Arr.lt {w : World} {X : Nat} {f : Nat → Int} (h : Arr w X f) : X < w.heap.size := by obtain ⟨cur, t, e, _⟩ := h; exact lt_of_heap e
theorem Arr.cell {w : World} {X : Nat} {f : Nat → Int} (h : Arr w X f) (j : Nat) (hj : j < 40) : w.cell? ⟨X, j, none⟩ = some (.int .i64 (f j)) := by
  obtain ⟨cur, t, e, _, hc⟩ := h
  rw [cell_of_row _ _ _ _ _ _ e]; exact hc j hj
theorem Arr.frozen {w : World} {X : Nat} {f : Nat → Int} (h : Arr w X f) (j : Nat) : w.frozen? ⟨X, j, none⟩ = false := by
  obtain ⟨cur, t, e, _⟩ := h
  exact frozen_of_row _ _ _ _ _ e
theorem Arr.touch {V : Nat → Prop} {w w' : World} {X : Nat} {f : Nat → Int} (h : Arr w X f) (t : Touch V w w') (d : ¬ V X) : Arr w' X f := by
  have hl := h.lt
  obtain ⟨cur, t', e, hr⟩ := h
  exact ⟨cur, t', (t.block X hl d).trans e, hr⟩
theorem Arr.set {w : World} {X : Nat} {f : Nat → Int} (h : Arr w X f) (k : Nat) (hk : k < 40) (v : Int) : Arr (w.setCell ⟨X, k, none⟩ (.int .i64 v)) X (fun i => if i = k then v else f i) := by
  obtain ⟨cur, t, e, hs, hc⟩ := h
  refine ⟨_, t, heap_setCell_same w X k cur t _ e, by simpa using hs, fun j hj => ?_⟩
  by_cases hjk : j = k
  · subst hjk; rw [Array.getElem?_setIfInBounds_self_of_lt (by omega)]; simp
  · rw [Array.getElem?_setIfInBounds_ne (by omega)]; simp only [if_neg hjk]; exact hc j hj
/-- The wheel and the array. -/
structure OneW (PW : World → (Nat → Prop) → Nat → Ws → Prop) (w wr : World) (U : Nat → Prop) (S X : Nat) (s : Ws) (f : Nat → Int) : Prop where
  ps : PW wr U S s
  bel : Below w.heap.size w wr
  lo : ∀ i, U i → w.heap.size ≤ i
  arr : Arr wr X f
  xU : ¬ U X
  xL : w.heap.size ≤ X
section
variable {PW : World → (Nat → Prop) → Nat → Ws → Prop}
theorem OneW.move (C : PWheel PW) {w wr w' : World} {U U' : Nat → Prop} {S X : Nat} {s s' : Ws} {f : Nat → Int} (h : OneW PW w wr U S X s f) (p : PW w' U' S s') (u : Touch U wr w') (hU : ∀ i, U' i → U i ∨ wr.heap.size ≤ i) : OneW PW w w' U' S X s' f := by
  refine ⟨p, h.bel.trans (u.below h.bel.size h.lo), fun i hi => ?_, h.arr.touch u h.xU, fun e => ?_, h.xL⟩
  · rcases hU i hi with e | e
    · exact h.lo i e
    · have := h.bel.size; omega
  · rcases hU X e with e2 | e2
    · exact h.xU e2
    · have := h.arr.lt; omega
theorem OneW.side (C : PWheel PW) {w wr w' : World} {U : Nat → Prop} {S X : Nat} {s s' : Ws} {f : Nat → Int} (h : OneW PW w wr U S X s f) {x : Value} {e : Ending} (hs : Side (fun w' U' => PW w' U' S s') U wr x e w') : e = .returned x ∧ ∃ U', OneW PW w w' U' S X s' f := by
  obtain ⟨rfl, U', p, u, hU⟩ := hs
  exact ⟨rfl, U', h.move C p u hU⟩
theorem OneW.below (C : PWheel PW) {w wr w' : World} {U : Nat → Prop} {S X : Nat} {s : Ws} {f : Nat → Int} (h : OneW PW w wr U S X s f) (b : Below wr.heap.size wr w') : OneW PW w w' U S X s f :=
  ⟨C.below h.ps b, h.bel.trans (b.mono h.bel.size), h.lo, h.arr.touch (V := fun _ => False) (Touch.of_below b) (fun e => e), h.xU, h.xL⟩
theorem OneW.set (C : PWheel PW) {w wr : World} {U : Nat → Prop} {S X : Nat} {s : Ws} {f : Nat → Int} (h : OneW PW w wr U S X s f) (k : Nat) (hk : k < 40) (v : Int) : OneW PW w (wr.setCell ⟨X, k, none⟩ (.int .i64 v)) U S X s (fun i => if i = k then v else f i) := by
  have t : Touch (fun i => i = X) wr (wr.setCell ⟨X, k, none⟩ (.int .i64 v)) := (Touch.refl (fun i => i = X) wr).setCell (p := ⟨X, k, none⟩) rfl _
  exact ⟨C.keep h.ps t (fun i hi e => h.xU (e ▸ hi)), h.bel.trans (t.below h.bel.size (fun i e => by rw [e]; exact h.xL)), h.lo, h.arr.set k hk v, h.xU, h.xL⟩
theorem OneW.tick (C : PWheel PW) {w wr w' : World} {U : Nat → Prop} {S X : Nat} {s : Ws} {f : Nat → Int} (h : OneW PW w wr U S X s f) {e : Ending} (ht : Ticked (fun w' U' s' => PW w' U' S s') U s wr e w') :
    ∃ A c, e = .returned (.tuple #[.slice A (gone s).length c, .int .i64 (moved s : Nat)]) ∧ w'.ownsRow 0 3 1 (.slice A (gone s).length c) (gone s).length ((goneI s).map (Value.int .i64)) ∧ ∃ U', OneW PW w w' U' S X (tickS s) f := by
  obtain ⟨A, c, he, ho, U', p, u, hU, _⟩ := ht
  exact ⟨A, c, he, ho, U', h.move C p u hU⟩
def zero40 : Array Value := #[.int .i64 0, .int .i64 0, .int .i64 0, .int .i64 0, .int .i64 0, .int .i64 0, .int .i64 0, .int .i64 0, .int .i64 0, .int .i64 0, .int .i64 0, .int .i64 0, .int .i64 0, .int .i64 0, .int .i64 0, .int .i64 0, .int .i64 0, .int .i64 0, .int .i64 0, .int .i64 0, .int .i64 0, .int .i64 0, .int .i64 0, .int .i64 0, .int .i64 0, .int .i64 0, .int .i64 0, .int .i64 0, .int .i64 0, .int .i64 0, .int .i64 0, .int .i64 0, .int .i64 0, .int .i64 0, .int .i64 0, .int .i64 0, .int .i64 0, .int .i64 0, .int .i64 0, .int .i64 0]
theorem zero40_eq : zero40 = Array.replicate 40 (.int .i64 0) := by kernel_rfl
theorem arr_new (w : World) (t : TypeId) : Arr (w.alloc (.cells zero40 t)) w.heap.size (fun _ => 0) :=
  ⟨_, t, heap_alloc_new _ _, by rw [zero40_eq]; simp, fun j hj => by rw [zero40_eq]; simp [hj]⟩
/-- Those that go off: their numbers rise, each is of a timer that is due. -/
theorem gone_mem {s : Ws} {k : Nat} (hk : k < (gone s).length) : ∃ x ∈ s.l, x.due = s.now + 1 ∧ (goneI s).getD k 0 = (x.id : Int) := by
  have h1 : (gone s)[k] ∈ gone s := List.getElem_mem hk
  obtain ⟨x, hx, e⟩ := List.mem_map.mp h1
  obtain ⟨h2, h3⟩ := List.mem_filter.mp hx
  refine ⟨x, h2, by simpa using h3, ?_⟩
  unfold goneI
  simp [List.getD, hk]
  exact_mod_cast e.symm
theorem gone_rise {s : Ws} (h : s.l.Pairwise (fun a b => a.id < b.id)) {k : Nat} (hk : k + 1 < (gone s).length) : (goneI s).getD k 0 < (goneI s).getD (k + 1) 0 := by
  have hp : (gone s).Pairwise (· < ·) := by
    unfold gone
    rw [List.pairwise_map]
    exact h.sublist List.filter_sublist
  have := List.pairwise_iff_getElem.mp hp k (k + 1) (by omega) hk (by omega)
  unfold goneI
  have e1 : k < (gone s).length := by omega
  simp [List.getD, hk, e1]
  exact_mod_cast this
theorem one_first (C : PWheel PW) {w w1 : World} {S : Nat} {U : Nat → Prop} {s : Ws} {o : Obj} {f : Nat → Int} (p1 : PW w1 U S s) (b1 : Below w.heap.size w w1) (l1 : ∀ i, U i → w.heap.size ≤ i) (ha : Arr (w1.alloc o) w1.heap.size f) : OneW PW w (w1.alloc o) U S w1.heap.size s f := by
  have b2 := (Below.refl w1.heap.size w1).alloc (Nat.le_refl _) o
  exact ⟨C.below p1 b2, b1.alloc b1.size o, l1, ha, fun e => by have := C.lt p1 _ e; omega, b1.size⟩
set_option maxRecDepth 100000 in
set_option maxHeartbeats 8000000 in
theorem walk_wheelOnceC (C : PWheel PW) (w : World) (now : Int) (wn : (Lit.int .i64 now).wf = true) (a : Option Addr) (n c : Nat) (zs : List Int) (hin : CameIn .i64 w a n c zs) :
    Calls Try.prog 4 #[.int .i64 now, .slice a n c] w fun e w' => e = .returned (.bool true) ∧ Below w.heap.size w w' := by
  have hn : n ≤ maxLen := Nat.le_trans hin.2.1 hin.2.2.1
  have HI := hide hin.1.2
  have h63 : (n : Int) ≤ 9223372036854775807 := by unfold maxLen at hn; omega
  clear hin wn
  by_cases h40 : 40 < n
  · have h40' : (40 : Int) < (n : Int) := by omega
    go_enter Try.func4, Try.ntmps4
    go_wp2_with (go_at_call 9; with_reducible refine (wawake_any C _).mono ?_; rintro e w' ⟨rfl, hb⟩)
    go_ret
    exact ⟨rfl, hb⟩
  have h40' : ¬ (40 : Int) < (n : Int) := by omega
  go_enter Try.func4, Try.ntmps4
  go_upto_region 4 with (go_at_call 17; with_reducible refine (low_z _ 16776916 _ (by omega) (by omega)).mono ?_; rintro e w' ⟨⟨N, hN, rfl⟩, rfl⟩)
  go_wp2_with fail
  go_at_call 10
  refine (C.new _ N (by omega)).mono ?_
  rintro e w1 ⟨S, U, rfl, p1, b1, l1⟩
  have P1 := hide p1
  have B1 := hide b1
  have L1 := hide l1
  clear p1 b1 l1
  go_wp2_with fail
  change Code.wp _ _ _ _ (w1.alloc (.cells zero40 44))
  have T0 := hide (one_first C P1.out B1.out L1.out (arr_new w1 44))
  clear P1 B1 L1
  generalize w1.alloc (.cells zero40 44) = w2 at *
  generalize w1.heap.size = X at *
  go_loopw [8] (fun i wr => ∃ (j : Nat) (L : List Tm) (U : Nat → Prop) (f : Nat → Int), j ≤ n ∧ i = .int .i64 (j : Int) ∧ Hid (OneW PW w wr U S X ⟨N, L⟩ f ∧ Run N 290 j L ∧ ∀ x ∈ L, f x.id = (x.due : Int))) (fun i _ => n - (intOf i).toNat)
  case atStart => exact ⟨0, [], _, _, Nat.zero_le _, rfl, T0.out, ⟨rfl, fun x hx => absurd hx List.not_mem_nil⟩, fun x hx => absurd hx List.not_mem_nil⟩
  case round =>
    clear T0 U
    obtain ⟨j, L, U, f, hj, rfl, hT⟩ := hrel
    by_cases hlt : j < n
    · obtain ⟨ab, off, rfl, hcell⟩ := HI.out (by omega)
      have c0 := (hT.out.1.bel.cell (lt_of_cell? (hcell j hlt))).trans (hcell j hlt)
      have cx := hT.out.1.arr.cell j (by omega)
      have fx := hT.out.1.arr.frozen j
      clear hcell
      have j0 : (0 : Int) ≤ (j : Int) := by omega
      have j1 : (j : Int) < (n : Int) := by omega
      have j2 : (j : Int) < 40 := by omega
      go_upto_region 12 with (go_at_call 17; with_reducible refine (low_z _ 290 _ (by omega) (by omega)).mono ?_; rintro e w' ⟨⟨r, hr, rfl⟩, rfl⟩)
      have hm : (N : Int) + 1 + (r : Int) = ((N + 1 + r : Nat) : Int) := by omega
      rw [hm]
      have d1 : N < N + 1 + r := by omega
      have d2 : N + 1 + r ≤ N + 290 := by omega
      have d3 : N + 1 + r < 16777216 := by omega
      generalize N + 1 + r = d at *
      clear hm c0 cx fx
      have T1 := hide (hT.out.1.set C j (by omega) (d : Int))
      have wj := wf_nat24 (n := j) (by omega)
      have wd := wf_nat24 (n := d) (by omega)
      have LN := hT.out.2.1.len
      obtain ⟨a1, a2⟩ := arm_end (s := ⟨N, L⟩) (i := j) (d := d) hT.out.2.1.lt (by show L.length < 64; omega) d1 d3
      have A1 := hide a1
      have A2 := hide a2
      have WJ := hide wj
      have WD := hide wd
      have RN := hide (hT.out.2.1.next d1 d2)
      have FN := hide (show ∀ x ∈ L ++ [⟨j, d⟩], (fun i => if i = j then (d : Int) else f i) x.id = (x.due : Int) from fun x hx => by
        rcases List.mem_append.mp hx with hx | hx
        · have h1 := hT.out.2.1.lt x hx
          have h2 := hT.out.2.2 x hx
          show (if x.id = j then (d : Int) else f x.id) = _
          rw [if_neg (by omega)]; exact h2
        · rw [List.mem_singleton] at hx
          subst hx
          show (if j = j then (d : Int) else f j) = _
          rw [if_pos rfl])
      clear a1 a2 wj wd hT
      generalize (fun i => if i = j then (d : Int) else f i) = f2 at *
      generalize wr.setCell ⟨X, j, none⟩ (.int .i64 (d : Int)) = w3 at *
      have cx : w3.cell? ⟨X, j, none⟩ = some (.int .i64 (d : Int)) := by
        have := T1.out.arr.cell j (by omega)
        rw [FN.out ⟨j, d⟩ (by simp)] at this
        exact this
      go_wp2_with fail
      go_at_call 13
      refine (C.arm T1.out.ps WJ.out WD.out).mono ?_
      rw [A1.out, A2.out]
      intro en w4 hs
      obtain ⟨rfl, U4, t4⟩ := T1.out.side C hs
      have T4 := hide t4
      clear hs t4 cx
      go_wp2_with fail
      go_roundw
      case rel => exact ⟨j + 1, _, _, _, by omega, by go_num, T4.out, RN.out, FN.out⟩
      case measure => simp [intOf]; omega
    · obtain rfl : j = n := by omega
      have j1 : ¬ (j : Int) < (j : Int) := by omega
      have LN := hT.out.2.1.len
      have W0 := hide (show OneW PW w wr U S X ⟨N, L⟩ f ∧ Way N 290 0 ⟨N, L⟩ ∧ (∀ x ∈ L, f x.id = (x.due : Int)) ∧ ∀ x ∈ L, x.id < j from ⟨hT.out.1, ⟨rfl, fun x hx => hT.out.2.1.due x hx⟩, hT.out.2.2, hT.out.2.1.lt⟩)
      clear hT
      go_wp2_with fail
      go_loopw [10, 9] (fun i q wr => ∃ (t z : Int) (i' : Nat) (s : Ws) (U : Nat → Prop), i' ≤ 299 ∧ i = .int .i64 t ∧ q = .int .i64 z ∧ t = (N : Int) + 1 + (i' : Int) ∧ Hid (z = (s.l.length : Int) ∧ OneW PW w wr U S X s f ∧ Way N 290 i' s ∧ (∀ x ∈ s.l, f x.id = (x.due : Int)) ∧ ∀ x ∈ s.l, x.id < j)) (fun i _ _ => ((N : Int) + 300 - intOf i).toNat)
      case atStart => exact ⟨_, _, 0, ⟨N, L⟩, U, by omega, rfl, rfl, by omega, by show (j : Int) = (L.length : Int); omega, W0.out⟩
      case round =>
        clear W0
        obtain ⟨t, z, i, s, U, hi, rfl, rfl, ht, hT⟩ := hrel
        by_cases hi2 : i < 299
        · have i0 : t ≤ (N : Int) + 299 := by omega
          have gl : (gone s).length ≤ 64 := by have h1 := gone_len s; have h2 := (C.good hT.out.2.1.ps).few; omega
          have zl : z ≤ 64 := by have h1 := hT.out.1; have h2 := (C.good hT.out.2.1.ps).few; omega
          have z0 : (0 : Int) ≤ z := by have h1 := hT.out.1; omega
          have GM := hide (fun (k : Nat) (hk : k < (gone s).length) => gone_mem hk)
          have GR := hide (fun (k : Nat) (hk : k + 1 < (gone s).length) => gone_rise (C.good hT.out.2.1.ps).up hk)
          have ZL := hide (show z - ((gone s).length : Int) = ((rest s).length : Int) by have h1 := hT.out.1; have h2 := gone_len s; omega)
          have WN := hide (hT.out.2.2.1.next (by omega))
          have ES := hide (show tickS s = ⟨s.now + 1, rest s⟩ by unfold tickS; rw [if_neg (by have h1 := hT.out.2.2.1.now; omega)])
          have TD := hide (show t = ((s.now + 1 : Nat) : Int) by have h1 := hT.out.2.2.1.now; omega)
          have FD := hide hT.out.2.2.2.1
          have ID := hide hT.out.2.2.2.2
          have HTT := hide ht
          have t64 : t ≤ 16777216 := by omega
          have t00 : (0 : Int) ≤ t := by omega
          clear ht
          go_wp2_with fail
          go_at_call 18
          refine (C.tick hT.out.2.1.ps).mono ?_
          intro en w6 hk
          obtain ⟨A6, c6, rfl, o6, U6, t6⟩ := hT.out.2.1.tick C hk
          have T6 := hide t6
          obtain ⟨A7, c7, ev, io, _⟩ := own_ints o6
          injection ev with ev1 _ ev2
          subst ev1 ev2
          have IO := hide io.2
          clear hk t6 o6 io hT
          clear i0
          generalize (gone s).length = m at *
          have m1 : (m : Int) ≤ 64 := by omega
          have m0 : (0 : Int) ≤ (m : Int) := by omega
          go_wp2_with fail
          go_loopw [13] (fun i wr => ∃ (k : Nat), k ≤ m ∧ i = .int .i64 (k : Int) ∧ Hid (∃ d, wr = w6.drewN d)) (fun i _ => m - (intOf i).toNat)
          case atStart => exact ⟨0, Nat.zero_le _, rfl, 0, rfl⟩
          case round =>
            obtain ⟨k, hk, rfl, hZ⟩ := hrel
            obtain ⟨e, he⟩ := hZ.out
            subst he
            clear hZ
            have T7 := hide (T6.out.below C (below_drewN (Below.refl _ w6) e))
            by_cases hkm : k < m
            · obtain ⟨b, off, rfl, hc⟩ := IO.out (by omega)
              obtain ⟨x, hx, hx1, hx2⟩ := GM.out k hkm
              have cv : (w6.drewN e).cell? ⟨b, off + k, none⟩ = some (.int .i64 (x.id : Int)) := by rw [← hx2]; exact hc k hkm
              have xi := ID.out x hx
              have cx : (w6.drewN e).cell? ⟨X, x.id, none⟩ = some (.int .i64 t) := by rw [TD.out, ← hx1, ← FD.out x hx]; exact T7.out.arr.cell x.id (by omega)
              have k0 : (0 : Int) ≤ (k : Int) := by omega
              have k1 : (k : Int) < (m : Int) := by omega
              have x0 : (0 : Int) ≤ (x.id : Int) := by omega
              have x1 : (x.id : Int) < (j : Int) := by omega
              have x4 : (x.id : Int) < 40 := by omega
              have tt : (t != t) = false := by simp
              have db1 : decide ((x.id : Int) < 0) = false := decide_eq_false (by omega)
              have db2 : decide (j ≤ x.id) = false := decide_eq_false (by omega)
              have WD := hide (show ∃ q, w6.drewN e = w6.drewN q from ⟨e, rfl⟩)
              rcases Nat.eq_zero_or_pos k with hk0 | hk0
              · have kb2 : decide (0 < k) = false := decide_eq_false (by omega)
                clear hx hx1 hx2 hc hk0
                generalize hw7 : w6.drewN e = w7 at *
                go_wp2_with fail
                go_quiet (fail)
                have T9 := hide (T7.out.below C (below_drewN (Below.refl _ w7) nq))
                go_wp2_with fail
                go_roundw
                case rel => exact ⟨k + 1, by omega, by go_num, _, by rw [← hw7, World.drewN_drewN]⟩
                case measure => simp [intOf]; omega
              · obtain ⟨k', hk'⟩ : ∃ k', k = k' + 1 := ⟨k - 1, by omega⟩
                have cu : (w6.drewN e).cell? ⟨b, off + k', none⟩ = some (.int .i64 ((goneI s).getD k' 0)) := hc k' (by omega)
                have lt : (goneI s).getD k' 0 < (x.id : Int) := by rw [← hx2, hk']; exact GR.out k' (by omega)
                have kb2 : decide (0 < k) = true := decide_eq_true (by omega)
                have k3 : (k : Int) - 1 = (k' : Int) := by omega
                have k4 : (0 : Int) ≤ (k' : Int) := by omega
                have k5 : (k' : Int) < (m : Int) := by omega
                have k6 : IntKind.i64.wrap (k' : Int) = (k' : Int) := by rw [IntKind.wrap_i64]; omega
                clear hx hx1 hx2 hc hk0 hk'
                generalize (goneI s).getD k' 0 = v at *
                have db3 : decide ((x.id : Int) ≤ v) = false := decide_eq_false (by omega)
                generalize hw7 : w6.drewN e = w7 at *
                go_wp2_with fail
                go_quiet (fail)
                go_wp2_with fail
                go_roundw
                case rel => exact ⟨k + 1, by omega, by go_num, _, by rw [← hw7, World.drewN_drewN]⟩
                case measure => simp [intOf]; omega
            · obtain rfl : k = m := by omega
              have j9 : ¬ (k : Int) < (k : Int) := by omega
              have RL := hide (show ((tickS s).l.length : Int) = z - (k : Int) by rw [ES.out]; exact ZL.out.symm)
              have g9 : ((z - (k : Int)) != (z - (k : Int))) = false := by simp
              have zk : (0 : Int) ≤ z - (k : Int) := by rw [ZL.out]; omega
              have SB := hide (show ∀ x ∈ (tickS s).l, x ∈ s.l from fun x hx => by rw [ES.out] at hx; exact (List.mem_filter.mp hx).1)
              generalize hw7 : w6.drewN e = w7 at *
              go_wp2_with (go_at_call 23; refine (C.len T7.out.ps).mono ?_; rintro e w8 ⟨rfl, b8⟩; rw [RL.out]; have T8 := hide (T7.out.below C b8); clear b8)
              go_roundw
              case rel => exact ⟨t + 1, z - (k : Int), i + 1, _, _, by omega, by go_num, rfl, by have := HTT.out; omega, RL.out.symm, T8.out, WN.out, fun x hx => FD.out x (SB.out x hx), fun x hx => ID.out x (SB.out x hx)⟩
              case measure => have := HTT.out; simp [intOf]; omega
        · obtain rfl : i = 299 := by omega
          have i0 : ¬ t ≤ (N : Int) + 299 := by omega
          have EL := hide (show z = 0 by rw [hT.out.1, hT.out.2.2.1.none (by omega)]; rfl)
          obtain rfl : z = 0 := EL.out
          have t64 : t ≤ 16777216 := by omega
          have t00 : (0 : Int) ≤ t := by omega
          have T5 := hide hT.out.2.1
          clear ht hT EL
          go_wp2_with (go_at_call 9; with_reducible refine (wawake_any C _).mono ?_; rintro e w7 ⟨rfl, b7⟩)
          go_ret
          exact ⟨rfl, T5.out.bel.trans (b7.mono T5.out.bel.size)⟩
end
end Go.Proofs.Ytpmggiahhjllcaa
