/-
  The document's own dog in memory; its methods.
-/
import Derived.Test.YtpeodmnhdabonaaDgPlain
import Derived.Test.YtpeodmnhdabonaaPairs
import Derived.Test.YtpeodmnhdabonaaNumRefs
import Derived.Test.YtpeodmnhdabonaaSame
import Derived.Test.YtpeodmnhdabonaaLow
import Derived.Deep.RegionHeld3
import Derived.Deep.QuietTactic
import Derived.BigQuiet
import Derived.Deep.DeepCutAuto
import Derived.Deep.CutBlock
import Derived.Deep.RegionLaw
namespace Go.Proofs.Ytpeodmnhdabonaa
open Go.ChangeShapes Go.WideShapes Go.ChangeAt Go.RowKit
set_option linter.unusedVariables false
set_option linter.unusedSimpArgs false
theorem quiet_lf {P : Program} {f : FuncId} {args : Array Value} {w : World} {n : Nat} {v : Value} (h : Calls P f args (w.drewN n) fun e w' => e = .returned v ∧ w.drewN n = w') : Calls P f args (w.drewN n) fun e w' => e = .returned v ∧ ∃ m, w' = w.drewN m :=
  h.mono fun e w' hh => ⟨hh.1, n, hh.2.symm⟩
/-- The document's dog at R. -/
def Rdg : Rel Dg := fun w D R s => GoodD s ∧ D R ∧ (∀ i, D i → i < w.heap.size) ∧ ∃ v, w.heap[R]? = some (.cells #[.int .i64 s.w, .int .i64 s.last, v] 40 (0, 0)) ∧ w.ownsRow 0 3 1 v s.fired.length (s.fired.map (Value.int .i64)) ∧ ∀ g, v.ownBlock = some g → D g ∧ g ≠ R
theorem keepsRdg : Keeps Rdg where
  keep := by
    rintro V D w w' R s ⟨g, dR, lt, v, h1, h2, h3⟩ u d
    exact ⟨g, dR, fun i hi => Nat.lt_of_lt_of_le (lt i hi) u.size, v, (u.block _ (lt _ dR) (d _ dR)).trans h1, u.own h2 fun g hg => d g (h3 g hg).1, h3⟩
  lt := by rintro D w R s ⟨_, _, lt, _⟩; exact lt
theorem built_dog (g : Int) : Try.prog.built 40 [(0, .int .i64 g)] = some #[.int .i64 g, .int .i64 0, .slice none 0 0] := by kernel_rfl
attribute [local go_sem] built_dog
theorem rdnew_bad (w : World) (g : Int) (h : ¬ (1 ≤ g ∧ g ≤ 1099511627776)) : Calls Try.prog 9 #[.int .i64 g] w fun e w' => e = .returned (.tuple #[.pointer none, .int .i64 2]) ∧ w = w' := by
  by_cases h1 : g < 1
  · clear h
    go_enter Try.func9, Try.ntmps9
    go_wp2_with fail
    go_ret2
    exact ⟨rfl, rfl⟩
  · have h2 : 1099511627776 < g := by omega
    clear h
    go_enter Try.func9, Try.ntmps9
    go_wp2_with fail
    go_ret2
    exact ⟨rfl, rfl⟩
theorem rdnew_ok (w : World) (g : Int) (h1 : 1 ≤ g) (h2 : g ≤ 1099511627776) : Calls Try.prog 9 #[.int .i64 g] w fun e w' =>
    ∃ R D, e = .returned (.tuple #[.pointer (some ⟨R, 0, none⟩), .int .i64 0]) ∧ Rdg w' D R (newD g) ∧ Below w.heap.size w w' ∧ ∀ i, D i → w.heap.size ≤ i := by
  have n1 : ¬ g < 1 := by omega
  have n2 : ¬ 1099511627776 < g := by omega
  have GN := hide (good_newD h1 h2)
  go_enter Try.func9, Try.ntmps9
  go_wp2_with (refine wpList_build rfl 40 _ rfl (by kernel_rfl) ?_)
  refine bodyPost_ret (v := .tuple #[.pointer (some ⟨w.heap.size, 0, none⟩), .int .i64 0]) (by simp [results, Try.results9, go_sem]) rfl ?_
  refine ⟨w.heap.size, rfl, (fun i => i = w.heap.size), ⟨GN.out, rfl, fun i hi => by rw [hi]; simp, .slice none 0 0, heap_alloc_new _ _, World.ownsRow_nil _ _ _ _, (fun g hg => by cases hg)⟩, (Below.refl _ _).alloc (Nat.le_refl _) _, fun i hi => by rw [hi]; exact Nat.le_refl _⟩
set_option maxHeartbeats 2000000 in
theorem rdmark_any {w : World} {D : Nat → Prop} {R : Nat} {s : Dg} (h : Rdg w D R s) (now : Int) : Calls Try.prog 12 #[.pointer (some ⟨R, 0, none⟩), .int .i64 now] w (SideO (fun w' D' => Rdg w' D' R (markS s now)) D w (.tuple #[])) := by
  obtain ⟨g, dR, lt, v, h1, h2, h3⟩ := h
  have c1 : w.cell? ⟨R, 1, none⟩ = some (.int .i64 s.last) := by rw [cell_of_row _ _ _ _ _ _ h1]; rfl
  have f1 : w.frozen? ⟨R, 1, none⟩ = false := frozen_of_row _ _ _ _ _ h1
  have CC := hide (fun (W : World) => rclip_any now W)
  obtain ⟨x, hx⟩ : ∃ x, x = cl now := ⟨_, rfl⟩
  by_cases hlt : s.last < cl now
  · have T1 := (Touch.refl (fun i => i = R) (w.drewN 1)).setCell (p := ⟨R, 1, none⟩) rfl (.int .i64 (cl now))
    have FIN : ∀ n, SideO (fun w' D' => Rdg w' D' R (markS s now)) D w (.tuple #[]) (.returned (.tuple #[])) ((w.drewN n).setCell ⟨R, 1, none⟩ (.int .i64 (cl now))) := fun n => by
      have T1 := (Touch.refl (fun i => i = R) (w.drewN n)).setCell (p := ⟨R, 1, none⟩) rfl (.int .i64 (cl now))
      refine ⟨rfl, D, ?_, ((Touch.refl D w).drewN n).setCell (p := ⟨R, 1, none⟩) dR _, fun i hi => .inl hi⟩
      unfold markS
      rw [if_pos hlt]
      refine ⟨⟨g.w1, g.w2, cl_lo now, cl_hi now⟩, dR, fun i hi => Nat.lt_of_lt_of_le (lt i hi) T1.size, v, ?_, ?_, h3⟩
      · rw [heap_setCell_same (w.drewN n) R 1 _ _ _ h1]; rfl
      · exact T1.own (w := w.drewN n) h2 fun k hk => (h3 k hk).2
    have FH := hide FIN
    rw [← hx] at hlt CC FH
    clear FIN T1 g dR lt h1 h2 h3 hx
    go_enter Try.func12, Try.ntmps12
    go_upto_region 0 with fail
    go_quiet ((go_at_call 21; exact quiet_lf (CC.out _)))
    go_wp2_with (go_at_call 21; refine (CC.out _).mono ?_; rintro e w' ⟨rfl, rfl⟩)
    go_end0
    exact FH.out _
  · have FIN : ∀ n, SideO (fun w' D' => Rdg w' D' R (markS s now)) D w (.tuple #[]) (.returned (.tuple #[])) (w.drewN n) := fun n => by
      refine ⟨rfl, D, ?_, (Touch.refl D w).drewN n, fun i hi => .inl hi⟩
      unfold markS
      rw [if_neg hlt]
      exact ⟨g, dR, lt, v, h1, h2, h3⟩
    have FH := hide FIN
    rw [← hx] at hlt CC
    clear FIN g dR lt h1 h2 h3 hx
    go_enter Try.func12, Try.ntmps12
    go_upto_region 0 with fail
    go_quiet ((go_at_call 21; exact quiet_lf (CC.out _)))
    go_wp2_with fail
    go_end0
    exact FH.out _
set_option maxHeartbeats 4000000 in
theorem rdtick_any {w : World} {D : Nat → Prop} {R : Nat} {s : Dg} (h : Rdg w D R s) (few : s.fired.length ≤ 1000000) (now : Int) : Calls Try.prog 14 #[.pointer (some ⟨R, 0, none⟩), .int .i64 now] w (SideO (fun w' D' => Rdg w' D' R (dtS s now)) D w (.bool (dtB s now))) := by
  obtain ⟨g, dR, lt, v, h1, h2, h3⟩ := h
  obtain ⟨A, c, rfl, hi, hnil⟩ := own_ints h2
  have c0 : w.cell? ⟨R, 0, none⟩ = some (.int .i64 s.w) := by rw [cell_of_row _ _ _ _ _ _ h1]; rfl
  have c1 : w.cell? ⟨R, 1, none⟩ = some (.int .i64 s.last) := by rw [cell_of_row _ _ _ _ _ _ h1]; rfl
  have c2 : w.cell? ⟨R, 2, none⟩ = some (.slice A s.fired.length c) := by rw [cell_of_row _ _ _ _ _ _ h1]; rfl
  have f1 : w.frozen? ⟨R, 1, none⟩ = false := frozen_of_row _ _ _ _ _ h1
  have f2 : w.frozen? ⟨R, 2, none⟩ = false := frozen_of_row _ _ _ _ _ h1
  have CC := hide (fun (W : World) => rclip_any now W)
  have x0 := cl_lo now
  have x1 := cl_hi now
  obtain ⟨g1, g2, g3, g4⟩ := g
  have eB : dtB s now = decide (s.w ≤ cl now - s.last) := rfl
  by_cases hb : s.w ≤ cl now - s.last
  case neg =>
    have B := hide (show dtB s now = false from by rw [eB]; simpa using hb)
    have FIN := hide (show ∀ n, SideO (fun w' D' => Rdg w' D' R (dtS s now)) D w (.bool false) (.returned (.bool false)) (w.drewN n) from fun n => by
      refine ⟨rfl, D, ?_, (Touch.refl D w).drewN n, fun i hi => .inl hi⟩
      unfold dtS
      rw [if_neg (by rw [B.out]; simp)]
      exact ⟨⟨g1, g2, g3, g4⟩, dR, lt, _, h1, h2, h3⟩)
    rw [B.out]
    obtain ⟨sw, hsw⟩ : ∃ z, z = s.w := ⟨_, rfl⟩
    obtain ⟨sl, hsl⟩ : ∃ z, z = s.last := ⟨_, rfl⟩
    obtain ⟨x, hx⟩ : ∃ z, z = cl now := ⟨_, rfl⟩
    rw [← hsw] at c0 g1 g2 hb
    rw [← hsl] at c1 g3 g4 hb
    rw [← hx] at CC x0 x1 hb
    clear dR lt h1 h2 h3 hi hnil hsw hsl hx eB c2
    have d2 : decide (x - sl < sw) = true := by simp; omega
    by_cases hlt : x < sl
    · have d1 : decide (x < sl) = true := by simpa using hlt
      clear hb hlt d2
      go_enter Try.func14, Try.ntmps14
      go_upto_region 2 with (go_at_call 21; refine (CC.out _).mono ?_; rintro e w' ⟨rfl, rfl⟩)
      go_quiet (fail)
      go_wp2_with fail
      go_ret
      exact FIN.out _
    · have d1 : decide (x < sl) = false := by simpa using hlt
      clear hb hlt
      go_enter Try.func14, Try.ntmps14
      go_upto_region 2 with (go_at_call 21; refine (CC.out _).mono ?_; rintro e w' ⟨rfl, rfl⟩)
      go_quiet (fail)
      go_wp2_with fail
      go_ret
      exact FIN.out _
  case pos =>
    have B := hide (show dtB s now = true from by rw [eB]; simpa using hb)
    have FIN := hide (show ∀ (n : Nat) (w3 : World) (v3 : Value), Below w.heap.size ((w.drewN n).setCell ⟨R, 1, none⟩ (.int .i64 (cl now))) w3 → w3.ownsRow w.heap.size 3 1 v3 (s.fired.length + 1) (s.fired.map (Value.int .i64) ++ [cl now].map (Value.int .i64)) →
        SideO (fun w' D' => Rdg w' D' R (dtS s now)) D w (.bool true) (.returned (.bool true)) (w3.setCell ⟨R, 2, none⟩ v3) from fun n w3 v3 b o => by
      have T1 : Touch (fun i => i = R) (w.drewN n) ((w.drewN n).setCell ⟨R, 1, none⟩ (.int .i64 (cl now))) := (Touch.refl (fun i => i = R) (w.drewN n)).setCell (p := ⟨R, 1, none⟩) rfl _
      have T2 : Touch (fun i => i = R) w3 (w3.setCell ⟨R, 2, none⟩ v3) := (Touch.refl (fun i => i = R) w3).setCell (p := ⟨R, 2, none⟩) rfl _
      have T3 : Touch (fun i => i = R) w w3 := (((Touch.refl (fun i => i = R) w).drewN n).setCell (p := ⟨R, 1, none⟩) rfl (.int .i64 (cl now))).trans (S' := fun i => w.heap.size ≤ i) ⟨b.os, b.tape, b.output, b.size, fun i hi hn => b.block i (by simpa using hn)⟩ (fun i hi => .inr hi)
      have e1 := heap_setCell_same (w.drewN n) R 1 _ _ (.int .i64 (cl now)) h1
      have e2 := (b.block R (lt R dR)).trans e1
      refine ⟨rfl, fun i => D i ∨ v3.ownBlock = some i, ?_, ((T3.mono (fun i hi => by rw [hi]; exact dR)).setCell (p := ⟨R, 2, none⟩) dR _), ?_⟩
      · unfold dtS
        rw [if_pos B.out]
        refine ⟨⟨g1, g2, x0, x1⟩, .inl dR, ?_, v3, ?_, ?_, fun k hk => ⟨.inr hk, fun e => by have := (o.lt k hk).1; have := lt R dR; omega⟩⟩
        · rintro i (hi | hi)
          · exact Nat.lt_of_lt_of_le (Nat.lt_of_lt_of_le (lt i hi) T3.size) T2.size
          · exact Nat.lt_of_lt_of_le (o.lt i hi).2 T2.size
        · rw [heap_setCell_same w3 R 2 _ _ v3 e2]; rfl
        · have o2 := own_base (T2.own o fun k hk e => by have := (o.lt k hk).1; have := lt R dR; omega) (Nat.zero_le w.heap.size)
          show World.ownsRow _ 0 _ 1 v3 (s.fired ++ [cl now]).length ((s.fired ++ [cl now]).map (Value.int .i64))
          rw [List.length_append, List.map_append]
          exact o2
      · rintro i (hi | hi)
        · exact .inl hi
        · exact .inr (o.lt i hi).1)
    rw [B.out]
    have RD := hide (show ∀ (n : Nat), Ints .i64 ((w.drewN n).setCell ⟨R, 1, none⟩ (.int .i64 (cl now))) A s.fired.length s.fired ∧ ((w.drewN n).setCell ⟨R, 1, none⟩ (.int .i64 (cl now))).heap[R]? = some (.cells (#[.int .i64 s.w, .int .i64 s.last, .slice A s.fired.length c].setIfInBounds 1 (.int .i64 (cl now))) 40 (0, 0)) ∧ w.heap.size ≤ ((w.drewN n).setCell ⟨R, 1, none⟩ (.int .i64 (cl now))).heap.size from fun n => by
      have T1 : Touch (fun i => i = R) (w.drewN n) ((w.drewN n).setCell ⟨R, 1, none⟩ (.int .i64 (cl now))) := (Touch.refl (fun i => i = R) (w.drewN n)).setCell (p := ⟨R, 1, none⟩) rfl _
      refine ⟨T1.ints (w := w.drewN n) hi fun b o e => ?_, heap_setCell_same (w.drewN n) R 1 _ _ _ h1, T1.size⟩
      subst e
      exact (h3 b rfl).2)
    have RL := hide (lt R dR)
    have HN := hide hnil
    obtain ⟨k, hk⟩ : ∃ z, z = s.fired.length := ⟨_, rfl⟩
    obtain ⟨sw, hsw⟩ : ∃ z, z = s.w := ⟨_, rfl⟩
    obtain ⟨sl, hsl⟩ : ∃ z, z = s.last := ⟨_, rfl⟩
    obtain ⟨x, hx⟩ : ∃ z, z = cl now := ⟨_, rfl⟩
    rw [← hk] at few FIN c2 RD
    rw [← hsw] at c0 g1 g2 hb RD
    rw [← hsl] at c1 g3 g4 hb RD
    rw [← hx] at CC x0 x1 hb FIN RD
    obtain ⟨i0, hi0, hz0, hz1, hz2⟩ := info_parts int_info
    have I0 := hide (And.intro hi0 (And.intro hz0 (And.intro hz1 hz2)))
    have FEW := hide few
    clear dR lt h1 h2 h3 hi hnil hsw hsl hx hk eB hi0 hz0 hz1 hz2 few
    have d1 : decide (x < sl) = false := by simp; omega
    have d2 : decide (x - sl < sw) = false := by simp; omega
    clear hb
    go_enter Try.func14, Try.ntmps14
    go_upto_region 2 with (go_at_call 21; refine (CC.out _).mono ?_; rintro e w' ⟨rfl, rfl⟩)
    go_quiet (fail)
    go_wp2_with (first
      | (at_builtin; refine wpList_append_src rfl (.const (.slice none 0 0)) (.tmp 34) _ rfl w.heap.size 3 i0 _ 8 Try.underlying36 I0.out.1 I0.out.2.1 I0.out.2.2.1 I0.out.2.2.2 rfl _ 0 [] rfl (World.ownsRow_nil _ _ _ _) .i64 A k c s.fired rfl (RD.out _).1 HN.out (by have := FEW.out; unfold maxLen; omega) (by have := FEW.out; omega) (RD.out _).2.2 ?_; intro v1 w1 o' g' t'; have O1 := hide o'; have B1 := hide ((Below.refl w.heap.size _).grown g' (RD.out _).2.2 (fun k hk => by cases hk)); have R1 := hide ((B1.out.block R RL.out).trans (RD.out _).2.1); clear o' g' t'; have S1 := hide (Nat.le_trans (RD.out _).2.2 B1.out.size))
      | (at_builtin; refine wpList_append_src rfl (.tmp 35) (.tmp 37) _ rfl w.heap.size 3 i0 _ 8 Try.underlying36 I0.out.1 I0.out.2.1 I0.out.2.2.1 I0.out.2.2.2 rfl _ _ _ rfl (O1.out.alloc _) .i64 _ 1 _ [x] rfl (ints_cell1 _ _ _ _ _ rfl) (fun h => by cases h) (by have := FEW.out; unfold maxLen; omega) (by have := FEW.out; omega) (by have := S1.out; simp; omega) ?_; intro v2 w2 o' g' t'; have O2 := hide o'; have B2 := hide ((B1.out.alloc S1.out _).grown g' (by have := S1.out; simp; omega) (own_lo O1.out)); have R2 := (B2.out.block R RL.out).trans (RD.out _).2.1; have y2 : w2.cell? ⟨R, 2, none⟩ = some (.slice A k c) := (by rw [cell_of_row _ _ _ _ _ _ R2]; rfl); have z2 : w2.frozen? ⟨R, 2, none⟩ = false := frozen_of_row _ _ _ _ _ R2; clear R2 g' t'; obtain ⟨a2, c9, rfl, _⟩ := own_ints (xs := s.fired ++ [x]) (by rw [List.map_append]; simpa using o'); clear o'))
    go_ret
    exact FIN.out _ _ _ B2.out (by have := O2.out; simpa using this)
end Go.Proofs.Ytpeodmnhdabonaa
