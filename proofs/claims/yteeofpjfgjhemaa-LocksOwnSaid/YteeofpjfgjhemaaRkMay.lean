/-
  The program's May.
-/
import Derived.Test.YteeofpjfgjhemaaRkSeq
namespace Go.Proofs.Yteeofpjfgjhemaa
open Go.ChangeShapes Go.WideShapes Go.ChangeAt Go.RowKit Go.Shelf
set_option linter.unusedVariables false
set_option linter.unusedSimpArgs false
attribute [local go_sem] Oper.semAt_some
theorem any_inWay {ms : List Mu} {hs : List Int} {k : Nat} {x : Mu} (hx : ms[k]? = some x) {y : Int} (hy : y ∈ hs.filter (isMu ms.length)) (hr : reachB x.r (muAt ms y) = true) : hs.any (inWay ms (k : Int)) = true := by
  rw [List.any_eq_true]
  rw [List.mem_filter] at hy
  refine ⟨y, hy.1, ?_⟩
  simp [inWay, hy.2, muAt_nat hx]
  simpa [reachB] using hr
theorem none_inWay {ms : List Mu} {hs : List Int} {k : Nat} {x : Mu} (hx : ms[k]? = some x) (h : ∀ y ∈ hs.filter (isMu ms.length), reachB x.r (muAt ms y) = false) : hs.any (inWay ms (k : Int)) = false := by
  rw [List.any_eq_false]
  intro y hy
  by_cases hi : isMu ms.length y = true
  · have := h y (List.mem_filter.2 ⟨hy, hi⟩)
    simp [inWay, hi, muAt_nat hx]
    simpa [reachB] using this
  · simp [inWay, hi]
set_option maxRecDepth 100000 in
set_option maxHeartbeats 8000000 in
theorem pmay_any {Q : Nat → Prop} {w : World} {T : Nat} {ms : List Mu} (h : Tab w Q T ms) {b : Option Addr} {p d : Nat} {hs : List Int} (hi : Ints .i64 w b p hs) (hp : p ≤ maxLen) (m : Int) :
    Calls Try.prog 41 #[.pointer (some ⟨T, 0, none⟩), .slice b p d, .int .i64 m] w fun e w' => e = .returned (.int .i64 (mayMu ms hs m)) ∧ Below w.heap.size w w' := by
  have n6 := h.len
  by_cases hm : isMu ms.length m = true
  case neg =>
    have hf : isMu ms.length m = false := by simpa using hm
    obtain ⟨G, hG⟩ : ∃ G, G = mayMu ms hs m := ⟨_, rfl⟩
    have HG := hide (show G = 19 from by rw [hG, mayMu, if_pos hf])
    rw [← hG]
    have H := hide h
    have C := hide (fun (W : World) (bw : Below w.heap.size w W) => show Calls Try.prog 33 #[.pointer (some ⟨T, 0, none⟩), .int .i64 m] W fun e w' => e = .returned (.bool false) ∧ W = w' from by have := phas_any (H.out.below bw) m; rwa [hf] at this)
    have B2 := hide ((((Below.refl w.heap.size w).alloc (Nat.le_refl _) (.cells #[.pointer (some ⟨T, 0, none⟩)] 25)).alloc (by simp) (.cells #[.int .i64 0] 26)))
    clear h hG
    go_enter Try.func41, Try.ntmps41
    go_wp2_with (go_at_call 33; refine (C.out _ B2.out).mono ?_; rintro e w' ⟨rfl, rfl⟩)
    refine bodyPost_ret (v := .int .i64 19) (by simp [results, Try.results41, go_sem]) rfl ⟨by rw [HG.out], ?_⟩
    exact (((Below.refl w.heap.size w).alloc (Nat.le_refl _) _).alloc (by simp) _)
  case pos =>
    obtain ⟨k, rfl, hk⟩ := isMu_iff.1 hm
    obtain ⟨x, rb, off, rc, hx, c0, c1, c2, hQ⟩ := h.at_ hk
    obtain ⟨w1, hw1⟩ : ∃ w1, w1 = (w.alloc (.cells #[.pointer (some ⟨T, 0, none⟩)] 25)).alloc (.cells #[.int .i64 0] 26) := ⟨_, rfl⟩
    have B1 := hide (show Below w.heap.size w w1 from by rw [hw1]; exact (((Below.refl w.heap.size w).alloc (Nat.le_refl _) _).alloc (by simp) _))
    have d0 : w1.cell? ⟨T, 0, none⟩ = some (.slice (some ⟨rb, off, none⟩) ms.length rc) := (B1.out.cell (lt_of_cell? c0)).trans c0
    have d1 : w1.cell? ⟨rb, off + k * 2, none⟩ = some (.int .i64 x.r) := (B1.out.cell (lt_of_cell? c1)).trans c1
    have b0 : Boxed w1 w.heap.size 25 (.pointer (some ⟨T, 0, none⟩)) := by rw [hw1]; exact (Boxed.new w _ _).alloc _
    have b1 : Boxed w1 (w.heap.size + 1) 26 (.int .i64 0) := by rw [hw1]; have := Boxed.new (w.alloc (.cells #[.pointer (some ⟨T, 0, none⟩)] 25)) 26 (.int .i64 0); rwa [World.size_alloc] at this
    have s1 : w1.heap.size = w.heap.size + 2 := by rw [hw1]; simp
    have k1 : (k : Int) < (ms.length : Nat) := by omega
    have C := hide (show Calls Try.prog 33 #[.pointer (some ⟨T, 0, none⟩), .int .i64 (k : Nat)] w1 fun e w' => e = .returned (.bool true) ∧ w1 = w' from by have := phas_any (h.below B1.out) (k : Nat); rwa [hm] at this)
    have HW1 := hide hw1
    clear hw1
    refine (callsIn_wide (n := 3)).1 ?_
    refine callsIn_of_wp_marks Try.func41 rfl trivial ?_ rfl
    simp only [Try.ntmps41, List.size_toArray, List.length_cons, List.length_nil, Nat.reduceAdd, Nat.reduceSub, Array.replicate_succ, Array.replicate_zero, List.push_toArray, List.append_toArray, List.nil_append, List.cons_append]
    gi_wp2_with (first
      | (refine ⟨trivial, ?_⟩; rw [← HW1.out]; gi_at_call 33; refine (callsIn_wide.2 C.out).mono ?_; rintro e w' ⟨rfl, rfl⟩; have c0' := b0.cell)
      | (refine ⟨trivial, ?_⟩; gi_at_call 49; refine (callsIn_wide.2 (thoseI_any _ _ _ _ _)).mono ?_; rintro e w' ⟨rfl, rfl⟩))
    obtain ⟨w2, hw2⟩ : ∃ w2, w2 = (((w1.alloc (.cells #[.int .i64 x.r] 100)).alloc (.cells #[.slice b p d] 36)).alloc (.cells #[.func (.func 33) #[.pointer (some ⟨T, 0, none⟩)] #[]] 79)) := ⟨_, rfl⟩
    rw [← hw2]
    have b2 : Below w1.heap.size w1 w2 := by rw [hw2]; exact ((((Below.refl w1.heap.size w1).alloc (Nat.le_refl _) _).alloc (by simp) _).alloc (by simp; omega) _)
    have s2 : w2.heap.size = w.heap.size + 5 := by rw [hw2]; simp [s1]
    have e0 := boxed_below b0 b2
    have e1 := boxed_below b1 b2
    have e2 : Boxed w2 (w.heap.size + 2) 100 (.int .i64 x.r) := by rw [hw2, ← s1]; exact ((Boxed.new w1 _ _).alloc _).alloc _
    have e3 : Boxed w2 (w.heap.size + 2 + 1) 36 (.slice b p d) := by
      have := (Boxed.new (w1.alloc (.cells #[.int .i64 x.r] 100)) 36 (.slice b p d)).alloc (.cells #[.func (.func 33) #[.pointer (some ⟨T, 0, none⟩)] #[]] 79)
      rw [World.size_alloc, s1, ← hw2] at this; exact this
    have e4 : Boxed w2 (w.heap.size + 2 + 1 + 1) 79 (.func (.func 33) #[.pointer (some ⟨T, 0, none⟩)] #[]) := by
      have := Boxed.new ((w1.alloc (.cells #[.int .i64 x.r] 100)).alloc (.cells #[.slice b p d] 36)) 79 (.func (.func 33) #[.pointer (some ⟨T, 0, none⟩)] #[])
      rw [World.size_alloc, World.size_alloc, s1, ← hw2] at this; exact this
    obtain ⟨V, hV⟩ : ∃ V : Nat → Prop, V = fun i => i = w.heap.size + 1 ∨ w.heap.size + 5 ≤ i := ⟨_, rfl⟩
    have v0 : ¬ V w.heap.size := by rw [hV]; intro e; rcases e with e | e <;> omega
    have v2 : ¬ V (w.heap.size + 2) := by rw [hV]; intro e; rcases e with e | e <;> omega
    have v4 : ¬ V (w.heap.size + 2 + 1 + 1) := by rw [hV]; intro e; rcases e with e | e <;> omega
    have v1 : V (w.heap.size + 1) := by rw [hV]; exact .inl rfl
    have vlo : ∀ i, i < w.heap.size → ¬ V i := by intro i hi; rw [hV]; intro e; rcases e with e | e <;> omega
    have vhi : ∀ i, w.heap.size + 5 ≤ i → V i := by intro i hi; rw [hV]; exact .inr hi
    have vge : ∀ i, V i → w.heap.size ≤ i := by intro i hi; rw [hV] at hi; rcases hi with e | e <;> omega
    have B2 := hide (B1.out.trans (b2.mono (by omega)))
    have TB := hide (show Tab w2 Q T ms from h.below B2.out)
    have TV := hide (show ∀ i, Q i → ¬ V i from fun i hi => vlo i (h.lt i hi))
    have HP := hide (show ∀ y, y ∈ ms → True from fun _ _ => trivial)
    have HX := hide hx
    clear hw2 hV hx c0 c1 c2 d0 d1 C HW1 b2
    refine wpIn_rangeFunc_ownG rfl (by omega) (gf := 57) (lb := #[.pointer (some ⟨w.heap.size + 2 + 1, 0, none⟩), .pointer (some ⟨w.heap.size + 2 + 1 + 1, 0, none⟩)]) rfl trivial (enters_of Try.func57 (by kernel_rfl) rfl)
      (thoseI_stops (3 - 1) (by omega) (w.heap.size + 2 + 1) (w.heap.size + 2 + 1 + 1) V (some ⟨T, 0, none⟩) (isMu ms.length) b p d hs w2 (fun W' ht x => (phas_any (TB.out.keep ht TV.out) x).mono (by rintro e w' ⟨h1, h2⟩; exact ⟨h1, h2⟩)) e3.cell e4.cell v4 (hi.below B2.out)
        (fun h0 g o e => vlo g (by obtain ⟨g', o', e', hc⟩ := hi.2 h0; rw [e] at e'; injection e' with e'; injection e' with e1 e2; subst e1; exact lt_of_cell? (hc 0 h0))) hp) touchK_t (touchK_b (fun i hi => vhi i (by omega))) (Below.refl _ _) (fun _ => rfl)
      (fun pre W => Boxed W (w.heap.size + 1) 26 (.int .i64 0) ∧ (Touch V w2 W ∧ ∀ y ∈ pre, reachB x.r (muAt ms y.1) = false))
      (fun c pre W => Boxed W (w.heap.size + 1) 26 (.int .i64 7) ∧ (Touch V w2 W ∧ (c = .ret ∧ ∃ y ∈ pre, reachB x.r (muAt ms y.1) = true)))
      (OwnFrom.and (Own.from (boxed_own _ _ (fun _ => .int .i64 0)) _) (OwnFrom.and (ownFrom_touch (fun i hi => vhi i (by omega))) (ownFrom_pure _ _)))
      (fun c => OwnFrom.and (Own.from (boxed_own _ _ (fun _ => .int .i64 7)) _) (OwnFrom.and (ownFrom_touch (fun i hi => vhi i (by omega))) (ownFrom_pure _ _)))
      ⟨e1, Touch.refl _ _, fun _ h => by cases h⟩
      (fun y => { tmps := #[.pointer (some ⟨T, 0, none⟩), .slice b p d, .int .i64 (k : Nat), .pointer (some ⟨w.heap.size, 0, none⟩), undef, undef, .pointer (some ⟨w.heap.size + 1, 0, none⟩), .pointer (some ⟨w.heap.size + 2, 0, none⟩), .int .i64 y.1, .pointer (some ⟨T, 0, none⟩), .bool false, .pointer (some ⟨T, 0, none⟩), .int .i64 (k : Nat), .bool true, .bool false, .pointer (some ⟨T, 0, none⟩), .pointer (some ⟨T, 0, none⟩), .pointer (some ⟨T, 0, none⟩), .slice (some ⟨rb, off, none⟩) ms.length rc, .int .i64 (k : Nat), .pointer (some ⟨rb, off + k * 2, none⟩), .pointer (some ⟨rb, off + k * 2, none⟩), .int .i64 x.r, .slice b p d, .pointer (some ⟨T, 0, none⟩), .func (.func 33) #[.pointer (some ⟨T, 0, none⟩)] #[], .func (.func 57) #[] #[.pointer (some ⟨w.heap.size + 2 + 1, 0, none⟩), .pointer (some ⟨w.heap.size + 2 + 1 + 1, 0, none⟩)], .int .i64 y.1, undef, undef, undef, undef, undef, undef, undef, undef, undef], defers := [] }) ?assign ?body ?done ?stop
    case assign =>
      intro l y W K hK
      gi_wp2
      exact hK
    case body =>
      rintro l pre ⟨y, hy⟩ W ⟨hb, ht, hpre⟩ hlen
      obtain ⟨j, rfl, hj⟩ := isMu_iff.1 hy
      obtain ⟨z, zb, zo, zc, hz, t0, t1, t2, hQb⟩ := (TB.out.keep ht TV.out).at_ hj
      have f0 := (boxed_touch e0 ht v0).cell
      have f2 := (boxed_touch e2 ht v2).cell
      have j1 : (j : Int) < (ms.length : Nat) := by omega
      obtain ⟨q, hq⟩ : ∃ q, q = reachB x.r (muAt ms (j : Nat)) := ⟨_, rfl⟩
      have C := hide (fun (W : World) => show Calls Try.prog 50 #[.int .i64 x.r, .agg #[.int .i64 z.r, .int .i64 z.l]] W fun e w' => e = .returned (.bool q) ∧ Below W.heap.size W w' from by
        rw [hq, muAt_nat hz]
        exact (preach_any W x.r z.r z.l).mono (by rintro e w' ⟨h1, rfl⟩; exact ⟨h1, (Below.refl W.heap.size W).alloc (Nat.le_refl _) _⟩))
      have HB := hide hb
      have HT := hide ht
      have HE := hide hpre
      have HQ := hide hq
      clear hb ht hpre hz hq
      gi_wp2
      refine region_round (S := (fun W' => W'.cell? ⟨w.heap.size + 2, 0, none⟩ = some (.int .i64 x.r) ∧ W'.cell? ⟨w.heap.size, 0, none⟩ = some (.pointer (some ⟨T, 0, none⟩)) ∧ W'.cell? ⟨T, 0, none⟩ = some (.slice (some ⟨zb, zo, none⟩) ms.length zc) ∧ W'.cell? ⟨zb, zo + j * 2, none⟩ = some (.int .i64 z.r) ∧ W'.cell? ⟨zb, zo + j * 2 + 1, none⟩ = some (.int .i64 z.l))) (by kernel_rfl) (by rintro e a w h rfl; exact h) (by kernel_rfl) ⟨f2, f0, t0, t1, t2⟩ (fun hHeld => ?_)
      refine wpAnyH_take (i := 0) (v := ?_) rfl (by kernel_rfl) (by kernel_rfl) (by kernel_rfl) (fun _ _ _ h => h) (Or.inl ⟨by kernel_rfl, ?_⟩) (by assumption) ?_
      rotate_left
      · intro w hSw
        (try dsimp only at hSw)
        go_simp
        try with_reducible rfl
      try simp only [Act.put, List.setIfInBounds_toArray, List.set_cons_zero, List.set_cons_succ]
      refine wpAnyH_take (i := 1) (v := ?_) rfl (by kernel_rfl) (by kernel_rfl) (by kernel_rfl) (fun _ _ _ h => h) (Or.inl ⟨by kernel_rfl, ?_⟩) (by assumption) ?_
      rotate_left
      · intro w hSw
        (try dsimp only at hSw)
        go_simp
        try with_reducible rfl
      try simp only [Act.put, List.setIfInBounds_toArray, List.set_cons_zero, List.set_cons_succ]
      refine wpAnyH_take (i := 2) (v := ?_) rfl (by kernel_rfl) (by kernel_rfl) (by kernel_rfl) (fun _ _ _ h => h) (Or.inl ⟨by kernel_rfl, ?_⟩) (by assumption) ?_
      rotate_left
      · intro w hSw
        (try dsimp only at hSw)
        go_simp
        try with_reducible rfl
      try simp only [Act.put, List.setIfInBounds_toArray, List.set_cons_zero, List.set_cons_succ]
      refine wpAnyH_take (i := 3) (v := ?_) rfl (by kernel_rfl) (by kernel_rfl) (by kernel_rfl) (fun _ _ _ h => h) (Or.inl ⟨by kernel_rfl, ?_⟩) (by assumption) ?_
      rotate_left
      · intro w hSw
        (try dsimp only at hSw)
        go_simp
        try with_reducible rfl
      try simp only [Act.put, List.setIfInBounds_toArray, List.set_cons_zero, List.set_cons_succ]
      refine wpAnyH_take (i := 4) (v := ?_) rfl (by kernel_rfl) (by kernel_rfl) (by kernel_rfl) (fun _ _ _ h => h) (Or.inl ⟨by kernel_rfl, ?_⟩) (by assumption) ?_
      rotate_left
      · intro w hSw
        (try dsimp only at hSw)
        go_simp
        try with_reducible rfl
      try simp only [Act.put, List.setIfInBounds_toArray, List.set_cons_zero, List.set_cons_succ]
      refine wpAnyH_take (i := 5) (v := ?_) rfl (by kernel_rfl) (by kernel_rfl) (by kernel_rfl) (fun _ _ _ h => h) (Or.inl ⟨by kernel_rfl, ?_⟩) (by assumption) ?_
      rotate_left
      · intro w hSw
        (try dsimp only at hSw)
        go_simp
        try with_reducible rfl
      try simp only [Act.put, List.setIfInBounds_toArray, List.set_cons_zero, List.set_cons_succ]
      refine wpAnyH_take (i := 6) (v := ?_) rfl (by kernel_rfl) (by kernel_rfl) (by kernel_rfl) (fun _ _ _ h => h) (Or.inl ⟨by kernel_rfl, ?_⟩) (by assumption) ?_
      rotate_left
      · intro w hSw
        (try dsimp only at hSw)
        go_simp
        try with_reducible rfl
      try simp only [Act.put, List.setIfInBounds_toArray, List.set_cons_zero, List.set_cons_succ]
      refine wpAnyH_take (i := 7) (v := ?_) rfl (by kernel_rfl) (by kernel_rfl) (by kernel_rfl) (fun _ _ _ h => h) (Or.inl ⟨by kernel_rfl, ?_⟩) (by assumption) ?_
      rotate_left
      · intro w hSw
        (try dsimp only at hSw)
        go_simp
        try with_reducible rfl
      try simp only [Act.put, List.setIfInBounds_toArray, List.set_cons_zero, List.set_cons_succ]
      refine wpAnyH_ready (rs := [8]) (by kernel_rfl) (by simp) ?_
      refine AllReadyH.cons rfl (fun K hK => ?_) AllReadyH.nil
      go_simp
      go_at_call 50
      refine (C.out _).mono ?_
      rintro e w9 ⟨rfl, b9⟩
      have B9 := hide (show Below W.heap.size W w9 from (below_drewN (Below.refl W.heap.size W) 1).trans (b9.mono (Nat.le_refl _)))
      clear b9
      have g9 := fun (p : Addr) v (h : W.cell? p = some v) => (B9.out.cell (lt_of_cell? h)).trans h
      go_wp2_with fail
      refine hK.out _ _ ⟨g9 _ _ f2, g9 _ _ f0, g9 _ _ t0, g9 _ _ t1, g9 _ _ t2⟩ (fun hHeld => ?_)
      clear hK K
      try simp only [Act.put, List.setIfInBounds_toArray, List.set_cons_zero, List.set_cons_succ]
      refine wpAnyH_done (by kernel_rfl) ?_ _
      go_simp
      clear hHeld g9
      refine NoPanic.normal ?_
      have HB9 := hide (boxed_below HB.out B9.out)
      cases q with
      | true =>
        have cb := HB9.out.cell
        have fb := HB9.out.frozen
        gi_wp2
        exact ⟨(keepsFrom_below B9.out).trans ((KeepsOthers.setCell _ _ _).from _), HB9.out.set _, touchK_t (touchK_t HT.out (Touch.of_below B9.out)) ((Touch.refl V w9).setCell (p := ⟨w.heap.size + 1, 0, none⟩) v1 _), rfl, _, List.mem_append_right _ (List.mem_singleton.2 rfl), HQ.out.symm⟩
      | false =>
        gi_wp2
        exact ⟨keepsFrom_below B9.out, Touch.of_below B9.out, HB9.out, touchK_t HT.out (Touch.of_below B9.out), fun u hu => (List.mem_append.1 hu).elim (HE.out u) (fun e => by rw [List.mem_singleton] at e; rw [e]; exact HQ.out.symm)⟩
    case done =>
      rintro D ys W hD hys ⟨hb, ht, hpre⟩ hK
      have HG := hide (show mayMu ms hs (k : Nat) = 0 from by
        rw [mayMu, if_neg (by rw [hm]; simp), if_neg]
        rw [none_inWay HX.out (fun y hy => ?_)]; · simp
        rw [← hys] at hy
        obtain ⟨u, hu, rfl⟩ := List.mem_map.1 hy
        exact hpre u hu)
      have cb := hb.cell
      have fb := hb.frozen
      have HB := hide hb
      have HT := hide ht
      clear hb ht hpre hys
      gi_wp2
      have hK' := (KeepsOthers.setCell W ⟨w.heap.size + 1, 0, none⟩ (.int .i64 0)).same D _ hK rfl
      have hc5 := cell_kept (HB.out.set (.int .i64 0)).cell (grownBy_putObj' _ D (.deferred none)) (fun r e => by cases e; exact ⟨_, hK', rfl⟩)
      refine ⟨by simp, .inl ⟨_, _, rfl, run_takeDeferred hK', ?_⟩⟩
      refine ⟨.int .i64 0, ?_, by rw [HG.out], ?_⟩
      · simp [results, Try.func41, Try.results41, go_sem, hc5]
      · refine B2.out.trans (Touch.below (S := V) ?_ B2.out.size vge)
        exact touchK_t (touchK_t HT.out ((Touch.refl V W).setCell (p := ⟨w.heap.size + 1, 0, none⟩) v1 _)) (Touch.of_grown (grownBy_putObj' _ D _) (fun g e => by cases e; exact vhi _ (by omega)))
    case stop =>
      rintro D c pre W hD hys ⟨hb, ht, rfl, hpre⟩ hK
      have HG := hide (show mayMu ms hs (k : Nat) = 7 from by
        obtain ⟨u, hu, hr⟩ := hpre
        rw [mayMu, if_neg (by rw [hm]; simp), if_pos]
        exact any_inWay HX.out (hys.subset (List.mem_map.2 ⟨u, hu, rfl⟩)) hr)
      have HB := hide hb
      have HT := hide ht
      clear hb ht hpre hys
      gi_wp2
      have hc5 := cell_kept HB.out.cell (grownBy_putObj' _ D (.deferred none)) (fun r e => by cases e; exact ⟨_, hK, rfl⟩)
      refine ⟨by simp, .inl ⟨_, _, rfl, run_takeDeferred hK, ?_⟩⟩
      refine ⟨.int .i64 7, ?_, by rw [HG.out], ?_⟩
      · simp [results, Try.func41, Try.results41, go_sem, hc5]
      · refine B2.out.trans (Touch.below (S := V) ?_ B2.out.size vge)
        exact touchK_t HT.out (Touch.of_grown (grownBy_putObj' _ D _) (fun g e => by cases e; exact vhi _ (by omega)))
end Go.Proofs.Yteeofpjfgjhemaa
