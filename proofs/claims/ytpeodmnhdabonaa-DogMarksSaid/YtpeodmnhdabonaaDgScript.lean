/-
  The walk of DogScript, over the contracts of the program's dog.
-/
import Derived.Test.YtpeodmnhdabonaaDgBoth
import Derived.Test.YtpeodmnhdabonaaCame
import Derived.Test.YtpeodmnhdabonaaGRow
namespace Go.Proofs.Ytpeodmnhdabonaa
open Go.ChangeShapes Go.WideShapes Go.ChangeAt Go.RowKit
set_option linter.unusedVariables false
set_option linter.unusedSimpArgs false
/-- An act: a mark or a tick, when. -/
structure ActD where
  m : Bool
  now : Int
def acdVals (a : ActD) : List Value := [.bool a.m, .int .i64 a.now]
theorem acdVals_len (a : ActD) : (acdVals a).length = 2 := rfl
def AcdWf (_ : World) (a : ActD) : Prop := (Lit.int .i64 a.now).wf = true
section
variable {H : Type} {enc : TypeId × Value → H} {w : World} {base : Nat} {spare : Nat → Bool} {held : Bool}
theorem actD_open (m : Nat) (cs : List Value) (x : DataW H × List MemPlace) (hl : cs.length = 2) (h : DataW.trod enc Try.prog w base spare held m 33 cs = some x) : ∃ z, cs = acdVals z ∧ AcdWf w z := by
  obtain ⟨r, e0⟩ := field_bool Try.underlying33 h 0 0 4 rfl Try.underlying4 (by kernel_rfl)
  obtain ⟨l, e1, w1⟩ := field_int Try.underlying33 h 1 1 3 rfl Try.underlying3 (by kernel_rfl)
  refine ⟨⟨r, l⟩, ?_, w1⟩
  match cs, hl with
  | [v0, v1], _ =>
    simp at e0 e1
    simp [acdVals, e0, e1]
end
/-- Act k of those at ⟨b, off⟩. -/
structure DActIs (w : World) (b off k : Nat) (m : Bool) (x : Int) : Prop where
  c0 : w.cell? ⟨b, off + k * 2, none⟩ = some (.bool m)
  c1 : w.cell? ⟨b, off + k * 2 + 1, none⟩ = some (.int .i64 x)
theorem DActIs.below {w w' : World} {b off k : Nat} {m : Bool} {x : Int} (h : DActIs w b off k m x) (hb : Below w.heap.size w w') : DActIs w' b off k m x := by
  have hlt : b < w.heap.size := lt_of_cell? h.c0
  exact ⟨(hb.cell hlt).trans h.c0, (hb.cell hlt).trans h.c1⟩
theorem dacts_open {w : World} {a : Option Addr} {n c : Nat} {zs : List ActD} (h : Came 2 acdVals AcdWf w a n c zs) : 0 < n → ∃ b off, a = some ⟨b, off, none⟩ ∧ ∀ k, k < n → ∃ m x, DActIs w b off k m x ∧ (Lit.int .i64 x).wf = true := by
  intro hn
  obtain ⟨h1, _, _, _, h5, h6⟩ := h
  obtain ⟨b, off, e, _, hc⟩ := h6 hn
  refine ⟨b, off, e, fun k hk => ?_⟩
  have hz : zs[k]? = some (zs[k]'(by omega)) := List.getElem?_eq_getElem (by omega)
  exact ⟨_, _, ⟨by have := hc k _ hz 0 _ rfl; rwa [Nat.add_zero] at this, hc k _ hz 1 _ rfl⟩, h5 _ (List.getElem_mem _)⟩
theorem Rdg.opened {w : World} {D : Nat → Prop} {R : Nat} {s : Dg} (h : Rdg w D R s) : ∃ A c, w.cell? ⟨R, 1, none⟩ = some (.int .i64 s.last) ∧ w.cell? ⟨R, 2, none⟩ = some (.slice A s.fired.length c) ∧ w.ownsRow 0 3 1 (.slice A s.fired.length c) s.fired.length (s.fired.map (Value.int .i64)) := by
  obtain ⟨g, dR, lt, v, h1, h2, h3⟩ := h
  obtain ⟨A, c, rfl, _⟩ := own_ints h2
  exact ⟨A, c, by rw [cell_of_row _ _ _ _ _ _ h1]; rfl, by rw [cell_of_row _ _ _ _ _ _ h1]; rfl, h2⟩
section
variable {PD : Rel Dg}
set_option maxRecDepth 10000 in
set_option maxHeartbeats 8000000 in
theorem walk_dogScriptC (C : PDog PD) (w : World) (g : Int) (wg : (Lit.int .i64 g).wf = true) (a : Option Addr) (n c : Nat) (zs : List ActD) (hin : Came 2 acdVals AcdWf w a n c zs) : Calls Try.prog 3 #[.int .i64 g, .slice a n c] w fun e w' => e = .returned (.bool true) ∧ Below w.heap.size w w' := by
  have hn : n ≤ maxLen := Nat.le_trans hin.2.1 hin.2.2.1
  have HA := hide (dacts_open hin)
  have h63 : (n : Int) ≤ 9223372036854775807 := by unfold maxLen at hn; omega
  clear hin
  by_cases h100 : 100 < n
  · have h100' : (100 : Int) < (n : Int) := by omega
    go_enter Try.func3, Try.ntmps3
    go_wp2_with (go_at_call 7; with_reducible refine (dgawake_any C _).mono ?_; rintro e w' ⟨rfl, hb⟩)
    go_ret
    exact ⟨rfl, hb⟩
  have h100' : ¬ (100 : Int) < (n : Int) := by omega
  by_cases hg : 1 ≤ g ∧ g ≤ 1099511627776
  case neg =>
    go_enter Try.func3, Try.ntmps3
    have WG := hide wg
    have HB := hide hg
    clear wg hg
    go_wp2_with fail
    go_at_call 8
    refine (C.bad _ WG.out HB.out).mono ?_
    rintro e w1 ⟨rfl, b1⟩
    go_wp2_with (first
      | (go_at_call 9; refine (rdnew_bad _ g HB.out).mono ?_; rintro e w' ⟨rfl, rfl⟩)
      | (go_at_call 10; refine (errnum_any _ _).mono ?_; rintro e w' ⟨rfl, rfl⟩)
      | (go_at_call 7; with_reducible refine (dgawake_any C _).mono ?_; rintro e w' ⟨rfl, hb⟩))
    go_ret
    exact ⟨rfl, b1.trans (hb.mono b1.size)⟩
  obtain ⟨g1, g2⟩ := hg
  go_enter Try.func3, Try.ntmps3
  go_wp2_with fail
  go_at_call 8
  refine (C.new _ g1 g2).mono ?_
  rintro e w1 ⟨S, U, rfl, p1, b1, l1⟩
  have P1 := hide (OneO.first p1 b1 l1)
  clear p1 b1 l1
  go_wp2_with fail
  go_at_call 9
  refine (rdnew_ok _ g g1 g2).mono ?_
  rintro e w2 ⟨R, D, rfl, r2, b2, l2⟩
  have T0 := hide (P1.out.two C.ok keepsRdg r2 b2 l2)
  clear r2 b2 l2 P1
  go_wp2_with (go_at_call 10; refine (errnum_any _ _).mono ?_; rintro e w' ⟨rfl, rfl⟩)
  go_loopw [9] (fun i wr => ∃ (k : Nat) (s : Dg) (U D : Nat → Prop), k ≤ n ∧ i = .int .i64 (k : Int) ∧ Hid (TwoO PD Rdg w wr U D [] S R s s ∧ s.fired.length ≤ k)) (fun i _ => n - (intOf i).toNat)
  case atStart => exact ⟨0, newD g, _, _, Nat.zero_le _, rfl, T0.out, Nat.le_refl _⟩
  case round =>
    clear T0 U D
    obtain ⟨k, s, U, D, hk, rfl, hT⟩ := hrel
    have T1 := hide hT.out.1
    have SF := hide hT.out.2
    clear hT
    by_cases hlt : k < n
    · obtain ⟨ab, off, rfl, hall⟩ := HA.out (by omega)
      obtain ⟨d, x, hact0, hwx⟩ := hall k hlt
      have HACT := hide (fun (W : World) (bw : Below w.heap.size w W) => hact0.below bw)
      have k0 : (0 : Int) ≤ (k : Int) := by omega
      have k1 : (k : Int) < (n : Int) := by omega
      have K9 := hide (show k ≤ 100 from by omega)
      have c0 := (HACT.out wr T1.out.bel).c0
      have c1 := (HACT.out wr T1.out.bel).c1
      have HWX := hide hwx
      clear hall hact0 hwx
      go_upto_if 49 with fail
      go_cut [4] (fun v wx => ∃ (s : Dg) (U D : Nat → Prop), Hid (TwoO PD Rdg w wx U D [] S R s s ∧ s.fired.length ≤ k + 1))
      case first =>
        cases d with
        | true =>
          go_wp2_with fail
          go_at_call 11
          refine (C.mark T1.out.ps HWX.out).mono ?_
          intro en w4 hs
          obtain ⟨rfl, U4, t4, _⟩ := T1.out.left C.ok keepsRdg hs
          clear hs
          have T4 := hide t4
          have c14 := (HACT.out w4 t4.bel).c1
          clear t4 T1
          go_wp2_with fail
          go_at_call 12
          refine (rdmark_any T4.out.ds x).mono ?_
          intro en w5 hs
          obtain ⟨rfl, D5, t5, _⟩ := T4.out.right C.ok keepsRdg hs
          clear hs
          have T5 := hide t5
          clear t5 T4
          go_wp2_with fail
          go_meet
          case rel => exact ⟨_, _, _, T5.out, by rw [markS_fired]; have := SF.out; omega⟩
        | false =>
          obtain ⟨bb, hbb⟩ : ∃ b, b = dtB s x := ⟨_, rfl⟩
          have FW := hide (show s.fired.length ≤ 1000000 from by have := SF.out; have := K9.out; omega)
          have CA := hide (show ∀ (W : World) (X0 : Nat → Prop), PD W X0 S s → Calls Try.prog 13 #[.pointer (some ⟨S, 0, none⟩), .int .i64 x] W (SideO (fun w' X' => PD w' X' S (dtS s x)) X0 W (.bool bb)) from fun W U h => by have := C.tick h FW.out HWX.out; rw [← hbb] at this; exact this)
          have CR := hide (show ∀ (W : World) (X0 : Nat → Prop), Rdg W X0 R s → Calls Try.prog 14 #[.pointer (some ⟨R, 0, none⟩), .int .i64 x] W (SideO (fun w' X' => Rdg w' X' R (dtS s x)) X0 W (.bool bb)) from fun W U h => by have := rdtick_any h FW.out x; rw [← hbb] at this; exact this)
          clear hbb
          have g0 : (bb != bb) = false := by simp
          go_upto_region 15 with fail
          clear c0
          have TD := hide (T1.out.below C.ok keepsRdg (below_drewN (Below.refl _ _) 1)).1
          go_region_held3 (fun w' => w'.cell? ⟨ab, off + k * 2 + 1, none⟩ = some (.int .i64 x)) (first | exact c1 | exact q4 | exact q5) (first
            | (go_at_call 13; refine (CA.out _ _ TD.out.ps).mono ?_; intro en w4 hs; obtain ⟨rfl, U4, t4, _⟩ := TD.out.left C.ok keepsRdg hs; clear hs; have T4 := hide t4; have q4 := (HACT.out w4 t4.bel).c1; clear t4)
            | (go_at_call 14; refine (CR.out _ _ T4.out.ds).mono ?_; intro en w5 hs; obtain ⟨rfl, D5, t5, _⟩ := T4.out.right C.ok keepsRdg hs; clear hs; have T5 := hide t5; have q5 := (HACT.out w5 t5.bel).c1; clear t5))
          go_wp2_with fail
          go_meet
          case rel => exact ⟨_, _, _, T5.out, Nat.le_trans (dtS_len _ _) (by have := SF.out; omega)⟩
      case rest =>
        obtain ⟨s1, U1, D1, hT⟩ := hcut
        clear T1 SF c0 c1
        have T4 := hide hT.out.1
        have SF1 := hide hT.out.2
        clear hT
        have FW := hide (show s1.fired.length ≤ 1000000 from by have := SF1.out; have := K9.out; omega)
        obtain ⟨A, rc, r1, r2, r3⟩ := T4.out.ds.opened
        have CF0 := C.fired T4.out.ps FW.out
        obtain ⟨p, hp⟩ : ∃ z, z = s1.fired.length := ⟨_, rfl⟩
        obtain ⟨la, hla⟩ : ∃ z, z = s1.last := ⟨_, rfl⟩
        rw [← hp] at r2 r3 CF0
        rw [← hla] at r1
        have PF := hide (show p ≤ 1000000 from by rw [hp]; exact FW.out)
        have CF := hide (show ∀ W : World, Below wc.heap.size wc W → Calls Try.prog 15 #[.pointer (some ⟨S, 0, none⟩)] W fun e w' => ∃ v, e = .returned v ∧ w'.ownsRow W.heap.size 3 1 v p (s1.fired.map (Value.int .i64)) ∧ Below W.heap.size W w' from fun W bw => by rw [hp]; exact C.fired (T4.out.below C.ok keepsRdg bw).1.ps FW.out)
        have CL := hide (show ∀ W : World, Below wc.heap.size wc W → Calls Try.prog 16 #[.pointer (some ⟨S, 0, none⟩)] W fun e w' => e = .returned (.int .i64 la) ∧ Below W.heap.size W w' from fun W bw => by rw [hla]; exact C.last (T4.out.below C.ok keepsRdg bw).1.ps)
        have RD := hide (show ∀ W : World, Below wc.heap.size wc W → W.cell? ⟨R, 1, none⟩ = some (.int .i64 la) ∧ W.cell? ⟨R, 2, none⟩ = some (.slice A p rc) from fun W bw => ⟨(bw.cell (lt_of_cell? r1)).trans r1, (bw.cell (lt_of_cell? r2)).trans r2⟩)
        have RR := hide (show ∀ W : World, Below wc.heap.size wc W → W.ownsRow 0 3 1 (.slice A p rc) p (s1.fired.map (Value.int .i64)) from fun W bw => (Touch.of_below (S := fun _ => False) bw).own r3 fun _ _ e => e)
        clear CF0 r1 r2 r3 hp hla
        go_wp2_with fail
        go_at_call 15
        refine (CF.out _ (Below.refl _ _)).mono ?_
        rintro e w5 ⟨v, rfl, o5, b5⟩
        obtain ⟨va, vc, rfl⟩ : ∃ a c, v = .slice a p c := by
          rcases o5.2 with ⟨rfl, rfl⟩ | ⟨g, cap, cur, rfl, _⟩
          · exact ⟨none, 0, rfl⟩
          · exact ⟨_, _, rfl⟩
        have B5 := hide b5
        have O5 := hide o5
        have z5 := RD.out w5 b5
        have g1 : (la != la) = false := by simp
        clear b5 o5
        go_upto_region 18 with fail
        go_region_held3 (fun w' => w'.cell? ⟨R, 1, none⟩ = some (.int .i64 la) ∧ w'.cell? ⟨R, 2, none⟩ = some (.slice A p rc)) (first | exact z5 | exact z6 | exact z7) (first
          | (go_at_call 16; refine (CL.out _ (below_drewN B5.out 1)).mono ?_; rintro e w6 ⟨rfl, b6⟩; have B6 := hide ((below_drewN B5.out 1).trans (b6.mono B5.out.size)); have z6 := RD.out w6 B6.out; have O6 := hide ((Touch.of_below (S := fun _ => False) b6).own O5.out fun _ _ e => e); clear b6)
          | (go_at_call 17; refine (same_own _ _ p s1.fired _ O6.out (RR.out _ B6.out) (by have := PF.out; omega)).mono ?_; rintro e w7 ⟨rfl, b7⟩; have B7 := hide (B6.out.trans (b7.mono B6.out.size)); have z7 := RD.out w7 B7.out; have O7 := hide ((Touch.of_below (S := fun _ => False) b7).own O6.out fun _ _ e => e); clear b7))
        clear z5 g1
        go_wp2_with fail
        go_at_call 18
        refine (over_any _ p _ _ O7.out B7.out.size (by have := PF.out; omega)).mono ?_
        rintro e w9 ⟨rfl, b9⟩
        have T9 := hide (T4.out.below C.ok keepsRdg (B7.out.trans b9)).1
        clear b9
        go_wp2_with fail
        go_roundw
        case rel => exact ⟨k + 1, s1, _, _, by omega, by go_num, T9.out, SF1.out⟩
        case measure => simp [intOf]; omega
    · obtain rfl : k = n := by omega
      obtain ⟨s1, hs1⟩ : ∃ z, z = s := ⟨_, rfl⟩
      subst hs1
      have T4 := hide T1.out
      have SF1 := hide (show s1.fired.length ≤ k + 1 from by have := SF.out; omega)
      have K9 := hide (show k ≤ 100 from by omega)
      clear T1 SF
      have FW := hide (show s1.fired.length ≤ 1000000 from by have := SF1.out; have := K9.out; omega)
      obtain ⟨A, rc, r1, r2, r3⟩ := T4.out.ds.opened
      have CF0 := C.fired T4.out.ps FW.out
      obtain ⟨p, hp⟩ : ∃ z, z = s1.fired.length := ⟨_, rfl⟩
      obtain ⟨la, hla⟩ : ∃ z, z = s1.last := ⟨_, rfl⟩
      rw [← hp] at r2 r3 CF0
      rw [← hla] at r1
      have PF := hide (show p ≤ 1000000 from by rw [hp]; exact FW.out)
      have CF := hide (show ∀ W : World, Below wr.heap.size wr W → Calls Try.prog 15 #[.pointer (some ⟨S, 0, none⟩)] W fun e w' => ∃ v, e = .returned v ∧ w'.ownsRow W.heap.size 3 1 v p (s1.fired.map (Value.int .i64)) ∧ Below W.heap.size W w' from fun W bw => by rw [hp]; exact C.fired (T4.out.below C.ok keepsRdg bw).1.ps FW.out)
      have CL := hide (show ∀ W : World, Below wr.heap.size wr W → Calls Try.prog 16 #[.pointer (some ⟨S, 0, none⟩)] W fun e w' => e = .returned (.int .i64 la) ∧ Below W.heap.size W w' from fun W bw => by rw [hla]; exact C.last (T4.out.below C.ok keepsRdg bw).1.ps)
      have RD := hide (show ∀ W : World, Below wr.heap.size wr W → W.cell? ⟨R, 1, none⟩ = some (.int .i64 la) ∧ W.cell? ⟨R, 2, none⟩ = some (.slice A p rc) from fun W bw => ⟨(bw.cell (lt_of_cell? r1)).trans r1, (bw.cell (lt_of_cell? r2)).trans r2⟩)
      have RR := hide (show ∀ W : World, Below wr.heap.size wr W → W.ownsRow 0 3 1 (.slice A p rc) p (s1.fired.map (Value.int .i64)) from fun W bw => (Touch.of_below (S := fun _ => False) bw).own r3 fun _ _ e => e)
      clear CF0 r1 r2 r3 hp hla
      have y5 := RD.out wr (Below.refl _ _)
      have AW := hide (fun (W : World) => dgawake_any C W)
      go_upto_region 21 with fail
      go_region_held3 (fun w' => w'.cell? ⟨R, 2, none⟩ = some (.slice A p rc)) (first | exact y5.2 | exact z5.2 | exact z6.2 | exact z7.2) (first
        | (go_at_call 15; refine (CF.out _ (below_drewN (Below.refl _ _) 1)).mono ?_; rintro e w5 ⟨v, rfl, o5, b5⟩; have B5 := hide ((below_drewN (Below.refl wr.heap.size wr) 1).trans b5); have z5 := RD.out w5 B5.out; have O5 := hide o5; clear b5 o5)
        | (go_at_call 17; refine (same_own _ _ p s1.fired _ O5.out (RR.out _ B5.out) (by have := PF.out; omega)).mono ?_; rintro e w6 ⟨rfl, b6⟩; have B6 := hide (B5.out.trans (b6.mono B5.out.size)); have z6 := RD.out w6 B6.out; clear b6)
        | (go_at_call 7; refine (AW.out _).mono ?_; rintro e w7 ⟨rfl, b7⟩; have B7 := hide (B6.out.trans (b7.mono B6.out.size)); have z7 := RD.out w7 B7.out; clear b7))
      go_wp2_with fail
      go_ret
      exact ⟨rfl, T4.out.bel.trans (B7.out.mono T4.out.bel.size)⟩
end
end Go.Proofs.Ytpeodmnhdabonaa
