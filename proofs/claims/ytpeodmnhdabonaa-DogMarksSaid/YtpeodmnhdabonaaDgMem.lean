/-
  The program's dog in memory; its methods (the landed code of stage 15).
-/
import Derived.Test.YtpeodmnhdabonaaDgBoth
import Derived.Test.YtpeodmnhdabonaaIlRows
namespace Go.Proofs.Ytpeodmnhdabonaa
open Go.ChangeShapes Go.WideShapes Go.ChangeAt Go.RowKit
set_option linter.unusedVariables false
set_option linter.unusedSimpArgs false
/-- The program's dog at S. -/
def Pdg : Rel Dg := fun w U S s => GoodD s ∧ U S ∧ (∀ i, U i → i < w.heap.size) ∧ ∃ v, w.heap[S]? = some (.cells #[.int .i64 s.last, .int .i64 s.w, v] 51 (0, 0)) ∧ w.ownsRow 0 3 1 v s.fired.length (s.fired.map (Value.int .i64)) ∧ ∀ g, v.ownBlock = some g → U g ∧ g ≠ S
theorem keepsPdg : Keeps Pdg where
  keep := by
    rintro V D w w' R s ⟨g, dR, lt, v, h1, h2, h3⟩ u d
    exact ⟨g, dR, fun i hi => Nat.lt_of_lt_of_le (lt i hi) u.size, v, (u.block _ (lt _ dR) (d _ dR)).trans h1, u.own h2 fun g hg => d g (h3 g hg).1, h3⟩
  lt := by rintro D w R s ⟨_, _, lt, _⟩; exact lt
theorem Pdg.drewN {w : World} {U : Nat → Prop} {S : Nat} {s : Dg} (h : Pdg w U S s) (n : Nat) : Pdg (w.drewN n) U S s := keepsPdg.keep (V := fun _ => False) h ((Touch.refl _ w).drewN n) (fun _ _ e => e)
theorem built_watch (g : Int) : Try.prog.built 49 [(0, .int .i64 g)] = some #[.int .i64 g, .slice none 0 0] := by kernel_rfl
theorem built_pdog (g : Int) : Try.prog.built 51 [(1, .agg #[.int .i64 g, .slice none 0 0])] = some #[.int .i64 0, .int .i64 g, .slice none 0 0] := by kernel_rfl
attribute [local go_sem] built_watch built_pdog
theorem pdnew_bad (w : World) (g : Int) (h : ¬ (1 ≤ g ∧ g ≤ 1099511627776)) : Calls Try.prog 8 #[.int .i64 g] w fun e w' => e = .returned (.tuple #[.pointer none, .int .i64 2]) ∧ Below w.heap.size w w' := by
  by_cases h1 : g < 1
  · clear h
    go_enter Try.func8, Try.ntmps8
    go_wp2_with fail
    go_ret2
    exact ⟨rfl, Below.refl _ _⟩
  · have h2 : 1099511627776 < g := by omega
    clear h
    go_enter Try.func8, Try.ntmps8
    go_wp2_with fail
    go_ret2
    exact ⟨rfl, Below.refl _ _⟩
theorem pdnew_ok (w : World) (g : Int) (h1 : 1 ≤ g) (h2 : g ≤ 1099511627776) : Calls Try.prog 8 #[.int .i64 g] w fun e w' =>
    ∃ S U, e = .returned (.tuple #[.pointer (some ⟨S, 0, none⟩), .int .i64 0]) ∧ Pdg w' U S (newD g) ∧ Below w.heap.size w w' ∧ ∀ i, U i → w.heap.size ≤ i := by
  have n1 : ¬ g < 1 := by omega
  have n2 : ¬ 1099511627776 < g := by omega
  have GN := hide (good_newD h1 h2)
  go_enter Try.func8, Try.ntmps8
  go_wp2_with (first
    | (refine wpList_build rfl 49 _ rfl (by kernel_rfl) ?_)
    | (refine wpList_build rfl 51 _ rfl (by kernel_rfl) ?_))
  refine bodyPost_ret (v := .tuple #[.pointer (some ⟨w.heap.size, 0, none⟩), .int .i64 0]) (by simp [results, Try.results8, go_sem]) rfl ?_
  refine ⟨w.heap.size, rfl, (fun i => i = w.heap.size), ⟨GN.out, rfl, fun i hi => by rw [hi]; simp, .slice none 0 0, heap_alloc_new _ _, World.ownsRow_nil _ _ _ _, (fun g hg => by cases hg)⟩, (Below.refl _ _).alloc (Nat.le_refl _) _, fun i hi => by rw [hi]; exact Nat.le_refl _⟩
theorem Pdg.setLast {w : World} {U : Nat → Prop} {S : Nat} {s : Dg} (h : Pdg w U S s) {x : Int} (x0 : 0 ≤ x) (x1 : x ≤ 1099511627776) : Pdg (w.setCell ⟨S, 0, none⟩ (.int .i64 x)) U S { s with last := x } ∧ Touch U w (w.setCell ⟨S, 0, none⟩ (.int .i64 x)) := by
  obtain ⟨g, dR, lt, v, h1, h2, h3⟩ := h
  have T1 := (Touch.refl (fun i => i = S) w).setCell (p := ⟨S, 0, none⟩) rfl (.int .i64 x)
  refine ⟨⟨⟨g.w1, g.w2, x0, x1⟩, dR, fun i hi => Nat.lt_of_lt_of_le (lt i hi) T1.size, v, ?_, T1.own h2 fun k hk => (h3 k hk).2, h3⟩, T1.mono (fun i hi => by rw [hi]; exact dR)⟩
  rw [heap_setCell_same _ _ _ _ _ _ h1]; rfl
theorem markS_max {s : Dg} (now : Int) : markS s now = { s with last := max s.last (cl now) } := by
  unfold markS
  split
  · rename_i h; rw [Int.max_eq_right (Int.le_of_lt h)]
  · rename_i h; rw [Int.max_eq_left (by omega)]
set_option maxHeartbeats 2000000 in
theorem pdmark_any {w : World} {U : Nat → Prop} {S : Nat} {s : Dg} (h : Pdg w U S s) (now : Int) : Calls Try.prog 11 #[.pointer (some ⟨S, 0, none⟩), .int .i64 now] w (SideO (fun w' U' => Pdg w' U' S (markS s now)) U w (.tuple #[])) := by
  have FIN := hide (show ∀ n, SideO (fun w' U' => Pdg w' U' S (markS s now)) U w (.tuple #[]) (.returned (.tuple #[])) ((w.drewN n).setCell ⟨S, 0, none⟩ (.int .i64 (max s.last (cl now)))) from fun n => by
    have g := h.1
    have := cl_hi now
    obtain ⟨k1, k2⟩ := (h.drewN n).setLast (x := max s.last (cl now)) (by have := g.l1; omega) (by have := g.l2; omega)
    refine ⟨rfl, U, ?_, ((Touch.refl U w).drewN n).trans k2 (fun i hi => .inl hi), fun i hi => .inl hi⟩
    rw [markS_max]; exact k1)
  obtain ⟨g, dR, lt, v, h1, h2, h3⟩ := h
  have c0 : w.cell? ⟨S, 0, none⟩ = some (.int .i64 s.last) := by rw [cell_of_row _ _ _ _ _ _ h1]; rfl
  have f0 : w.frozen? ⟨S, 0, none⟩ = false := frozen_of_row _ _ _ _ _ h1
  have CC := hide (fun (W : World) => clip_any now W)
  obtain ⟨sl, hsl⟩ : ∃ z, z = s.last := ⟨_, rfl⟩
  obtain ⟨x, hx⟩ : ∃ x, x = cl now := ⟨_, rfl⟩
  rw [← hsl] at FIN c0
  rw [← hx] at CC FIN
  clear g dR lt h1 h2 h3 hx hsl
  go_enter Try.func11, Try.ntmps11
  go_wp2_with fail
  go_region_law (first | (go_simp; go_at_call 20; refine (CC.out _).mono ?_; rintro e w' ⟨rfl, rfl⟩))
  all_goals (go_wp2_with fail)
  all_goals go_end0
  all_goals exact FIN.out _
theorem pdmark_nil (w : World) (now : Int) : Calls Try.prog 11 #[.pointer none, .int .i64 now] w fun e w' => e = .returned (.tuple #[]) ∧ Below w.heap.size w w' := by
  go_enter Try.func11, Try.ntmps11
  go_wp2_with fail
  go_end0
  exact ⟨rfl, Below.refl _ _⟩
theorem pdlast_any {w : World} {U : Nat → Prop} {S : Nat} {s : Dg} (h : Pdg w U S s) : Calls Try.prog 16 #[.pointer (some ⟨S, 0, none⟩)] w fun e w' => e = .returned (.int .i64 s.last) ∧ Below w.heap.size w w' := by
  obtain ⟨g, dR, lt, v, h1, h2, h3⟩ := h
  have c0 : w.cell? ⟨S, 0, none⟩ = some (.int .i64 s.last) := by rw [cell_of_row _ _ _ _ _ _ h1]; rfl
  clear g dR lt h1 h2 h3
  go_enter Try.func16, Try.ntmps16
  go_wp2_with fail
  go_ret
  exact ⟨rfl, Below.refl _ _⟩
theorem pdlast_nil (w : World) : Calls Try.prog 16 #[.pointer none] w fun e w' => e = .returned (.int .i64 0) ∧ Below w.heap.size w w' := by
  go_enter Try.func16, Try.ntmps16
  go_wp2_with fail
  go_ret
  exact ⟨rfl, Below.refl _ _⟩
theorem pdfired_any {w : World} {U : Nat → Prop} {S : Nat} {s : Dg} (h : Pdg w U S s) (few : s.fired.length ≤ 1000000) : Calls Try.prog 15 #[.pointer (some ⟨S, 0, none⟩)] w fun e w' => ∃ v, e = .returned v ∧ w'.ownsRow w.heap.size 3 1 v s.fired.length (s.fired.map (Value.int .i64)) ∧ Below w.heap.size w w' := by
  obtain ⟨g, dR, lt, v, h1, h2, h3⟩ := h
  obtain ⟨A, c, rfl, hi, hnil⟩ := own_ints h2
  have c2 : w.cell? ⟨S, 2, none⟩ = some (.slice A s.fired.length c) := by rw [cell_of_row _ _ _ _ _ _ h1]; rfl
  have CL := hide (clone_any h2 few)
  obtain ⟨k, hk⟩ : ∃ z, z = s.fired.length := ⟨_, rfl⟩
  rw [← hk] at c2 CL
  rw [← hk]
  clear g dR lt h1 h2 h3 few hi hnil hk
  go_enter Try.func15, Try.ntmps15
  go_wp2_with (go_at_call 23; refine CL.out.mono ?_; rintro e w1 ⟨u, rfl, o1, b1⟩; have O1 := hide o1; have B1 := hide b1; clear o1 b1)
  go_ret
  exact ⟨_, rfl, O1.out, B1.out⟩
theorem pdfired_nil (w : World) : Calls Try.prog 15 #[.pointer none] w fun e w' => ∃ a c, e = .returned (.slice a 0 c) ∧ Below w.heap.size w w' := by
  go_enter Try.func15, Try.ntmps15
  go_wp2_with fail
  go_ret
  exact ⟨_, _, rfl, Below.refl _ _⟩
abbrev markF (S : Nat) : Value := .func (.func 11) #[.pointer (some ⟨S, 0, none⟩)] #[]
/-- One more firing, written down. -/
theorem Pdg.fire {w : World} {U : Nat → Prop} {S : Nat} {s : Dg} (h : Pdg w U S s) {x : Int} {w1 : World} {v v1 : Value} (h1 : w.heap[S]? = some (.cells #[.int .i64 s.last, .int .i64 s.w, v] 51 (0, 0))) (o : w1.ownsRow 0 3 1 v1 (s.fired.length + 1) (s.fired.map (Value.int .i64) ++ [x].map (Value.int .i64)))
    (t : Touch (fun i => v.ownBlock = some i) w w1) (n : v1.ownBlock = v.ownBlock ∨ ∀ g, v1.ownBlock = some g → w.heap.size ≤ g) :
    ∃ U', Pdg (w1.setCell ⟨S, 2, none⟩ v1) U' S { s with fired := s.fired ++ [x] } ∧ Touch U w (w1.setCell ⟨S, 2, none⟩ v1) ∧ ∀ i, U' i → U i ∨ w.heap.size ≤ i := by
  obtain ⟨g, dR, lt, v', h1', h2, h3⟩ := h
  obtain rfl : v' = v := by
    rw [h1] at h1'
    injection h1' with e
    injection e with e
    have := congrArg (fun a => a[2]?) e
    simpa using this.symm
  have hne : v'.ownBlock ≠ some S := fun e => (h3 S e).2 rfl
  have e1 := (t.block S (lt S dR) hne).trans h1
  have T2 : Touch (fun i => i = S) w1 (w1.setCell ⟨S, 2, none⟩ v1) := (Touch.refl (fun i => i = S) w1).setCell (p := ⟨S, 2, none⟩) rfl _
  have n2 : ∀ k, v1.ownBlock = some k → k ≠ S := fun k hk e => by
    subst e
    rcases n with n | n
    · exact hne (by rw [← n]; exact hk)
    · have := n k hk; have := lt k dR; omega
  refine ⟨fun i => U i ∨ v1.ownBlock = some i, ⟨⟨g.w1, g.w2, g.l1, g.l2⟩, .inl dR, ?_, v1, ?_, ?_, fun k hk => ⟨.inr hk, n2 k hk⟩⟩, (t.mono (fun i hi => (h3 i hi).1)).trans T2 (fun i hi => .inl (by rw [hi]; exact dR)), ?_⟩
  · rintro i (hi | hi)
    · exact Nat.lt_of_lt_of_le (Nat.lt_of_lt_of_le (lt i hi) t.size) T2.size
    · exact Nat.lt_of_lt_of_le (o.lt i hi).2 T2.size
  · rw [heap_setCell_same w1 S 2 _ _ v1 e1]; rfl
  · have o2 := T2.own o n2
    show World.ownsRow _ 0 _ 1 v1 (s.fired ++ [x]).length ((s.fired ++ [x]).map (Value.int .i64))
    rw [List.length_append, List.map_append]
    exact o2
  · rintro i (hi | hi)
    · exact .inl hi
    · rcases n with n | n
      · rw [n] at hi; exact .inl (h3 i hi).1
      · exact .inr (n i hi)
set_option maxHeartbeats 4000000 in
theorem pwtick_any {w : World} {U : Nat → Prop} {S : Nat} {s : Dg} (h : Pdg w U S s) (few : s.fired.length ≤ 1000000) (now : Int) : Calls Try.prog 22 #[.pointer (some ⟨S, 1, none⟩), .int .i64 (cl now), .int .i64 s.last, markF S] w (SideO (fun w' U' => Pdg w' U' S (dtS s now)) U w (.bool (dtB s now))) := by
  have H := hide h
  obtain ⟨g, dR, lt, v, h1, h2, h3⟩ := h
  obtain ⟨A, c, rfl, hi, hnil⟩ := own_ints h2
  have c1 : w.cell? ⟨S, 1, none⟩ = some (.int .i64 s.w) := by rw [cell_of_row _ _ _ _ _ _ h1]; rfl
  have c2 : w.cell? ⟨S, 2, none⟩ = some (.slice A s.fired.length c) := by rw [cell_of_row _ _ _ _ _ _ h1]; rfl
  have x0 := cl_lo now
  have x1 := cl_hi now
  obtain ⟨g1, g2, g3, g4⟩ := g
  have eB : dtB s now = decide (s.w ≤ cl now - s.last) := rfl
  by_cases hb : s.w ≤ cl now - s.last
  case neg =>
    have B := hide (show dtB s now = false from by rw [eB]; simpa using hb)
    have FIN := hide (show SideO (fun w' D' => Pdg w' D' S (dtS s now)) U w (.bool false) (.returned (.bool false)) w from by
      refine ⟨rfl, U, ?_, Touch.refl U w, fun i hi => .inl hi⟩
      unfold dtS
      rw [if_neg (by rw [B.out]; simp)]
      exact H.out)
    rw [B.out]
    obtain ⟨sw, hsw⟩ : ∃ z, z = s.w := ⟨_, rfl⟩
    obtain ⟨sl, hsl⟩ : ∃ z, z = s.last := ⟨_, rfl⟩
    obtain ⟨x, hx⟩ : ∃ z, z = cl now := ⟨_, rfl⟩
    rw [← hsw] at c1 g1 g2 hb
    rw [← hsl] at g3 g4 hb
    rw [← hx] at x0 x1 hb
    rw [← hx, ← hsl]
    clear dR lt h1 h2 h3 hi hnil hsw hsl hx eB c2
    have d2 : x - sl < sw := by omega
    clear hb
    go_enter Try.func22, Try.ntmps22
    go_wp2_with fail
    go_ret
    exact FIN.out
  case pos =>
    have B := hide (show dtB s now = true from by rw [eB]; simpa using hb)
    have FIN := hide (show ∀ (w1 : World) (v1 : Value), w1.ownsRow 0 3 1 v1 (s.fired.length + 1) (s.fired.map (Value.int .i64) ++ [cl now].map (Value.int .i64)) → Touch (fun i => (Value.slice A s.fired.length c).ownBlock = some i) w w1 → (v1.ownBlock = (Value.slice A s.fired.length c).ownBlock ∨ ∀ g, v1.ownBlock = some g → w.heap.size ≤ g) →
        Calls Try.prog 11 #[.pointer (some ⟨S, 0, none⟩), .int .i64 (cl now)] (w1.setCell ⟨S, 2, none⟩ v1) (SideO (fun w' U' => Pdg w' U' S (dtS s now)) U w (.tuple #[])) from fun w1 v1 o t n => by
      obtain ⟨U', p, t1, u1⟩ := H.out.fire h1 o t n
      refine (pdmark_any p (cl now)).mono ?_
      rintro e w2 ⟨rfl, U2, p2, t2, u2⟩
      refine ⟨rfl, U2, ?_, t1.trans t2 (fun i hi => u1 i hi), fun i hi => ?_⟩
      · have : dtS s now = markS { s with fired := s.fired ++ [cl now] } (cl now) := by
          unfold dtS markS
          rw [if_pos B.out, cl_cl]
          show _ = if s.last < cl now then _ else _
          rw [if_pos (by omega)]
        rw [this]; exact p2
      · rcases u2 i hi with e | e
        · exact u1 i e
        · exact .inr (Nat.le_trans t1.size e))
    rw [B.out]
    have HI := hide hi
    have HO := hide h2
    have RS := hide h1
    have NE := hide (show (Value.slice A s.fired.length c).ownBlock ≠ some S from fun e => (h3 S e).2 rfl)
    have RL := hide (lt S dR)
    have HN := hide hnil
    obtain ⟨k, hk⟩ : ∃ z, z = s.fired.length := ⟨_, rfl⟩
    obtain ⟨sw, hsw⟩ : ∃ z, z = s.w := ⟨_, rfl⟩
    obtain ⟨sl, hsl⟩ : ∃ z, z = s.last := ⟨_, rfl⟩
    obtain ⟨x, hx⟩ : ∃ z, z = cl now := ⟨_, rfl⟩
    rw [← hk] at few FIN c2 HI HO NE
    rw [← hk] at RS
    rw [← hsw] at c1 g1 g2 hb
    rw [← hsl] at g3 g4 hb
    rw [← hx] at x0 x1 hb FIN
    rw [← hx, ← hsl]
    obtain ⟨i0, hi0, hz0, hz1, hz2⟩ := info_parts int_info
    have I0 := hide (And.intro hi0 (And.intro hz0 (And.intro hz1 hz2)))
    have FEW := hide few
    have d2 : ¬ x - sl < sw := by omega
    clear dR lt h1 h2 h3 hi hnil hsw hsl hx hk eB hi0 hz0 hz1 hz2 few hb H B
    go_enter Try.func22, Try.ntmps22
    go_wp2_with (first
      | (at_builtin; refine wpList_append_src rfl (.tmp 21) (.tmp 23) _ rfl 0 3 i0 _ 8 Try.underlying36 I0.out.1 I0.out.2.1 I0.out.2.2.1 I0.out.2.2.2 rfl (.slice A k c) k _ rfl (HO.out.alloc _) .i64 (some ⟨w.heap.size, 0, none⟩) 1 1 [x] rfl (ints_cell1 _ _ _ _ _ rfl) (fun h => by cases h) (by have := FEW.out; unfold maxLen; omega) (by have := FEW.out; omega) (Nat.zero_le _) ?_; intro v1 w1 o' g' t'; have O1 := hide o'; have T1 := hide (((Touch.refl (fun i => (Value.slice A k c).ownBlock = some i) w).alloc _).trans (Touch.of_grown (S := fun i => (Value.slice A k c).ownBlock = some i) g' (fun g e => e)) (fun i hi => .inl hi)); have N1 := hide t'; have R2 := (T1.out.block S RL.out NE.out).trans RS.out; have y2 : w1.cell? ⟨S, 2, none⟩ = some (.slice A k c) := (by rw [cell_of_row _ _ _ _ _ _ R2]; rfl); have z2 : w1.frozen? ⟨S, 2, none⟩ = false := frozen_of_row _ _ _ _ _ R2; clear R2 g' t'; obtain ⟨a2, c9, rfl, _⟩ := own_ints (xs := s.fired ++ [x]) (by rw [List.map_append]; simpa using o'); clear o')
      | (go_at_call 11; refine (FIN.out _ _ (by simpa using O1.out) T1.out (N1.out.imp id (fun e g hg => by rw [e] at hg; injection hg with hg; simp at hg; omega))).mono ?_; rintro e w2 ⟨rfl, U2, p2, t2, u2⟩; have P2 := hide p2; have T2 := hide t2; have V2 := hide u2; clear p2 t2 u2))
    go_ret
    exact ⟨rfl, U2, P2.out, T2.out, V2.out⟩
set_option maxHeartbeats 4000000 in
theorem pdtick_any {w : World} {U : Nat → Prop} {S : Nat} {s : Dg} (h : Pdg w U S s) (few : s.fired.length ≤ 1000000) (now : Int) : Calls Try.prog 13 #[.pointer (some ⟨S, 0, none⟩), .int .i64 now] w (SideO (fun w' U' => Pdg w' U' S (dtS s now)) U w (.bool (dtB s now))) := by
  have hmf : ∀ (fn : Fn) (first cap : Array Value) (w : World), (Instr.makeFunc fn first cap).run Try.prog w = .ok (.func fn first cap) w := fun _ _ _ _ => rfl
  have L := hide (show ∀ n, Calls Try.prog 22 #[.pointer (some ⟨S, 1, none⟩), .int .i64 (cl now), .int .i64 s.last, markF S] (w.drewN n) (SideO (fun w' U' => Pdg w' U' S (dtS s now)) U w (.bool (dtB s now))) from fun n => (pwtick_any (h.drewN n) few now).mono (fun e w' hh => SideO.later (below_drewN (Below.refl _ _) n) hh))
  obtain ⟨g, dR, lt, v, h1, h2, h3⟩ := h
  have c0 : w.cell? ⟨S, 0, none⟩ = some (.int .i64 s.last) := by rw [cell_of_row _ _ _ _ _ _ h1]; rfl
  have CC := hide (fun (W : World) => clip_any now W)
  obtain ⟨sl, hsl⟩ : ∃ z, z = s.last := ⟨_, rfl⟩
  obtain ⟨x, hx⟩ : ∃ z, z = cl now := ⟨_, rfl⟩
  rw [← hsl] at c0 L
  rw [← hx] at CC L
  clear g dR lt h1 h2 h3 hsl hx few
  go_enter Try.func13, Try.ntmps13
  go_wp2_with fail
  rename_i Q9 K9 a9
  refine wp_region_noPanic ?_
  refine wp_region_held_drew (S := (fun _ => True)) (by kernel_rfl) trivial (fun hHeld => ?_)
  refine wpAnyH_take (i := 0) (v := ?_) rfl (by kernel_rfl) (by kernel_rfl) (by kernel_rfl) (fun _ _ _ h => h) (Or.inl ⟨by kernel_rfl, ?_⟩) (by assumption) ?_
  rotate_left
  · intro w hSw
    (try dsimp only at hSw)
    go_simp
    try with_reducible rfl
  try simp only [Act.put, List.getElem_toArray, List.getElem_cons_zero, List.getElem_cons_succ, List.setIfInBounds_toArray, List.set_cons_zero, List.set_cons_succ]
  refine wpAnyH_take (i := 1) (v := ?_) rfl (by kernel_rfl) (by kernel_rfl) (by kernel_rfl) (fun _ _ _ h => h) (Or.inl ⟨by kernel_rfl, ?_⟩) (by assumption) ?_
  rotate_left
  · intro w hSw
    (try dsimp only at hSw)
    go_simp
    try with_reducible rfl
  try simp only [Act.put, List.getElem_toArray, List.getElem_cons_zero, List.getElem_cons_succ, List.setIfInBounds_toArray, List.set_cons_zero, List.set_cons_succ]
  refine wpAnyH_take (i := 2) (v := ?_) rfl (by kernel_rfl) (by kernel_rfl) (by kernel_rfl) (fun _ _ _ h => h) (Or.inl ⟨by kernel_rfl, ?_⟩) (by assumption) ?_
  rotate_left
  · intro w hSw
    (try dsimp only at hSw)
    go_simp
    try with_reducible rfl
  try simp only [Act.put, List.getElem_toArray, List.getElem_cons_zero, List.getElem_cons_succ, List.setIfInBounds_toArray, List.set_cons_zero, List.set_cons_succ]
  refine wpAnyH_take (i := 3) (v := ?_) rfl (by kernel_rfl) (by kernel_rfl) (by kernel_rfl) (fun _ _ _ h => h) (Or.inl ⟨by kernel_rfl, ?_⟩) (by assumption) ?_
  rotate_left
  · intro w hSw
    (try dsimp only at hSw)
    go_simp
    try with_reducible rfl
  try simp only [Act.put, List.getElem_toArray, List.getElem_cons_zero, List.getElem_cons_succ, List.setIfInBounds_toArray, List.set_cons_zero, List.set_cons_succ]
  refine wpAnyH_take (i := 4) (v := ?_) rfl (by kernel_rfl) (by kernel_rfl) (by kernel_rfl) (fun _ _ _ h => h) (Or.inl ⟨by kernel_rfl, ?_⟩) (by assumption) ?_
  rotate_left
  · intro w hSw
    (try dsimp only at hSw)
    go_simp
    try with_reducible rfl
  try simp only [Act.put, List.getElem_toArray, List.getElem_cons_zero, List.getElem_cons_succ, List.setIfInBounds_toArray, List.set_cons_zero, List.set_cons_succ]
  refine wpAnyH_take (i := 5) (v := ?_) rfl (by kernel_rfl) (by kernel_rfl) (by kernel_rfl) (fun _ _ _ h => h) (Or.inl ⟨by kernel_rfl, ?_⟩) (by assumption) ?_
  rotate_left
  · intro w hSw
    (try dsimp only at hSw)
    go_simp
    try with_reducible rfl
  try simp only [Act.put, List.getElem_toArray, List.getElem_cons_zero, List.getElem_cons_succ, List.setIfInBounds_toArray, List.set_cons_zero, List.set_cons_succ]
  refine wpAnyH_take (i := 6) (v := ?_) rfl (by kernel_rfl) (by kernel_rfl) (by kernel_rfl) (fun _ _ _ h => h) (Or.inl ⟨by kernel_rfl, ?_⟩) (by assumption) ?_
  rotate_left
  · intro w hSw
    (try dsimp only at hSw)
    go_simp
    try with_reducible rfl
  try simp only [Act.put, List.getElem_toArray, List.getElem_cons_zero, List.getElem_cons_succ, List.setIfInBounds_toArray, List.set_cons_zero, List.set_cons_succ]
  refine wpAnyH_take (i := 8) (v := ?_) rfl (by kernel_rfl) (by kernel_rfl) (by kernel_rfl) (fun _ _ _ h => h) (Or.inl ⟨by kernel_rfl, ?_⟩) (by assumption) ?_
  rotate_left
  · intro w hSw
    (try dsimp only at hSw)
    go_simp
    try with_reducible rfl
  try simp only [Act.put, List.getElem_toArray, List.getElem_cons_zero, List.getElem_cons_succ, List.setIfInBounds_toArray, List.set_cons_zero, List.set_cons_succ]
  refine wpAnyH_take (i := 9) (v := ?_) rfl (by kernel_rfl) (by kernel_rfl) (by kernel_rfl) (fun _ _ _ h => h) (Or.inl ⟨by kernel_rfl, ?_⟩) (by assumption) ?_
  rotate_left
  · intro w hSw
    (try dsimp only at hSw)
    go_simp
    try with_reducible rfl
  try simp only [Act.put, List.getElem_toArray, List.getElem_cons_zero, List.getElem_cons_succ, List.setIfInBounds_toArray, List.set_cons_zero, List.set_cons_succ]
  refine wpAnyH_take (i := 10) (v := ?_) rfl (by kernel_rfl) (by kernel_rfl) (by kernel_rfl) (fun _ _ _ h => h) (Or.inl ⟨by kernel_rfl, ?_⟩) (by assumption) ?_
  rotate_left
  · intro w hSw
    (try dsimp only at hSw)
    go_simp
    try with_reducible rfl
  try simp only [Act.put, List.getElem_toArray, List.getElem_cons_zero, List.getElem_cons_succ, List.setIfInBounds_toArray, List.set_cons_zero, List.set_cons_succ]
  refine wpAnyH_take (i := 12) (v := ?_) rfl (by kernel_rfl) (by kernel_rfl) (by kernel_rfl) (fun _ _ _ h => h) (Or.inl ⟨by kernel_rfl, ?_⟩) (by assumption) ?_
  rotate_left
  · intro w hSw
    (try dsimp only at hSw)
    go_simp
    try with_reducible rfl
  try simp only [Act.put, List.getElem_toArray, List.getElem_cons_zero, List.getElem_cons_succ, List.setIfInBounds_toArray, List.set_cons_zero, List.set_cons_succ]
  refine wpAnyH_take (i := 13) (v := ?_) rfl (by kernel_rfl) (by kernel_rfl) (by kernel_rfl) (fun _ _ _ h => h) (Or.inl ⟨by kernel_rfl, ?_⟩) (by assumption) ?_
  rotate_left
  · intro w hSw
    (try dsimp only at hSw)
    go_simp
    try with_reducible rfl
  try simp only [Act.put, List.getElem_toArray, List.getElem_cons_zero, List.getElem_cons_succ, List.setIfInBounds_toArray, List.set_cons_zero, List.set_cons_succ]
  refine wpAnyH_ready (rs := [7, 11]) (by kernel_rfl) (by simp) ?_
  refine AllReadyH.cons rfl (fun K hK => ?_) (AllReadyH.cons rfl (fun K hK => ?_) AllReadyH.nil)
  · go_simp
    go_at_call 20
    refine (CC.out _).mono ?_
    rintro e w' ⟨rfl, rfl⟩
    go_wp2_with fail
    refine hK.out _ _ trivial (fun hHeld => ?_)
    clear hK K
    try simp only [Act.put, List.getElem_toArray, List.getElem_cons_zero, List.getElem_cons_succ, List.setIfInBounds_toArray, List.set_cons_zero, List.set_cons_succ]
    refine wpAnyH_ready (rs := [11]) (by kernel_rfl) (by simp) ?_
    refine AllReadyH.cons rfl (fun K hK => ?_) AllReadyH.nil
    go_simp
    go_wp2_with fail
    refine hK.out _ _ trivial (fun hHeld => ?_)
    clear hK K
    try simp only [Act.put, List.getElem_toArray, List.getElem_cons_zero, List.getElem_cons_succ, List.setIfInBounds_toArray, List.set_cons_zero, List.set_cons_succ]
    refine wpAnyH_ready (rs := [14]) (by kernel_rfl) (by simp) ?_
    refine AllReadyH.cons rfl (fun K hK => ?_) AllReadyH.nil
    go_simp
    go_at_call 22
    refine (L.out 1).mono ?_
    rintro e w1 ⟨rfl, U1, p1, t1, u1⟩
    have P1 := hide p1
    have T1 := hide t1
    have V1 := hide u1
    clear p1 t1 u1
    go_wp2_with fail
    refine hK.out _ _ trivial (fun hHeld => ?_)
    clear hK K
    try simp only [Act.put, List.getElem_toArray, List.getElem_cons_zero, List.getElem_cons_succ, List.setIfInBounds_toArray, List.set_cons_zero, List.set_cons_succ]
    refine wpAnyH_take (i := 15) (v := ?_) rfl (by kernel_rfl) (by kernel_rfl) (by kernel_rfl) (fun _ _ _ h => h) (Or.inl ⟨by kernel_rfl, ?_⟩) (by assumption) ?_
    rotate_left
    · intro w hSw
      (try dsimp only at hSw)
      go_simp
      try with_reducible rfl
    try simp only [Act.put, List.getElem_toArray, List.getElem_cons_zero, List.getElem_cons_succ, List.setIfInBounds_toArray, List.set_cons_zero, List.set_cons_succ]
    refine wpAnyH_take (i := 16) (v := ?_) rfl (by kernel_rfl) (by kernel_rfl) (by kernel_rfl) (fun _ _ _ h => h) (Or.inl ⟨by kernel_rfl, ?_⟩) (by assumption) ?_
    rotate_left
    · intro w hSw
      (try dsimp only at hSw)
      go_simp
      try with_reducible rfl
    try simp only [Act.put, List.getElem_toArray, List.getElem_cons_zero, List.getElem_cons_succ, List.setIfInBounds_toArray, List.set_cons_zero, List.set_cons_succ]
    refine wpAnyH_done (by kernel_rfl) ?_ _
    go_simp
    refine NoPanic.normal ?_
    refine a9 _ _ ?_
    go_wp2_with fail
    go_ret
    exact ⟨rfl, U1, P1.out, T1.out, V1.out⟩
  · go_simp
    go_wp2_with fail
    refine hK.out _ _ trivial (fun hHeld => ?_)
    clear hK K
    try simp only [Act.put, List.getElem_toArray, List.getElem_cons_zero, List.getElem_cons_succ, List.setIfInBounds_toArray, List.set_cons_zero, List.set_cons_succ]
    refine wpAnyH_ready (rs := [7]) (by kernel_rfl) (by simp) ?_
    refine AllReadyH.cons rfl (fun K hK => ?_) AllReadyH.nil
    go_simp
    go_at_call 20
    refine (CC.out _).mono ?_
    rintro e w' ⟨rfl, rfl⟩
    go_wp2_with fail
    refine hK.out _ _ trivial (fun hHeld => ?_)
    clear hK K
    try simp only [Act.put, List.getElem_toArray, List.getElem_cons_zero, List.getElem_cons_succ, List.setIfInBounds_toArray, List.set_cons_zero, List.set_cons_succ]
    refine wpAnyH_ready (rs := [14]) (by kernel_rfl) (by simp) ?_
    refine AllReadyH.cons rfl (fun K hK => ?_) AllReadyH.nil
    go_simp
    go_at_call 22
    refine (L.out 1).mono ?_
    rintro e w1 ⟨rfl, U1, p1, t1, u1⟩
    have P1 := hide p1
    have T1 := hide t1
    have V1 := hide u1
    clear p1 t1 u1
    go_wp2_with fail
    refine hK.out _ _ trivial (fun hHeld => ?_)
    clear hK K
    try simp only [Act.put, List.getElem_toArray, List.getElem_cons_zero, List.getElem_cons_succ, List.setIfInBounds_toArray, List.set_cons_zero, List.set_cons_succ]
    refine wpAnyH_take (i := 15) (v := ?_) rfl (by kernel_rfl) (by kernel_rfl) (by kernel_rfl) (fun _ _ _ h => h) (Or.inl ⟨by kernel_rfl, ?_⟩) (by assumption) ?_
    rotate_left
    · intro w hSw
      (try dsimp only at hSw)
      go_simp
      try with_reducible rfl
    try simp only [Act.put, List.getElem_toArray, List.getElem_cons_zero, List.getElem_cons_succ, List.setIfInBounds_toArray, List.set_cons_zero, List.set_cons_succ]
    refine wpAnyH_take (i := 16) (v := ?_) rfl (by kernel_rfl) (by kernel_rfl) (by kernel_rfl) (fun _ _ _ h => h) (Or.inl ⟨by kernel_rfl, ?_⟩) (by assumption) ?_
    rotate_left
    · intro w hSw
      (try dsimp only at hSw)
      go_simp
      try with_reducible rfl
    try simp only [Act.put, List.getElem_toArray, List.getElem_cons_zero, List.getElem_cons_succ, List.setIfInBounds_toArray, List.set_cons_zero, List.set_cons_succ]
    refine wpAnyH_done (by kernel_rfl) ?_ _
    go_simp
    refine NoPanic.normal ?_
    refine a9 _ _ ?_
    go_wp2_with fail
    go_ret
    exact ⟨rfl, U1, P1.out, T1.out, V1.out⟩
theorem pdtick_nil (w : World) (now : Int) : Calls Try.prog 13 #[.pointer none, .int .i64 now] w fun e w' => e = .returned (.bool false) ∧ Below w.heap.size w w' := by
  go_enter Try.func13, Try.ntmps13
  go_wp2_with fail
  go_quiet (fail)
  go_wp2_with fail
  go_ret
  exact ⟨rfl, below_drewN (Below.refl _ _) _⟩
theorem pdog : PDog Pdg :=
  ⟨keepsPdg, fun h => h.1, fun w _ h1 h2 => pdnew_ok w _ h1 h2, fun w _ _ h => pdnew_bad w _ h, fun h _ _ => pdmark_any h _, fun h few _ _ => pdtick_any h few _, fun h => pdlast_any h, fun h few => pdfired_any h few⟩
theorem nilDog : NilDog := ⟨pdmark_nil, pdtick_nil, pdlast_nil, pdfired_nil⟩
end Go.Proofs.Ytpeodmnhdabonaa
