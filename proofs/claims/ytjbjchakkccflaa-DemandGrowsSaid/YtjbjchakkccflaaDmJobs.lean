/-
  The walk of DemandJobs, over the contracts of the program's demand.
-/
import Derived.Test.YtjbjchakkccflaaDmGrows
namespace Go.Proofs.Ytjbjchakkccflaa
open Go.ChangeShapes Go.WideShapes Go.ChangeAt Go.RowKit
set_option linter.unusedVariables false
set_option linter.unusedSimpArgs false
/-- The numbers of a job of the law. -/
structure Job (P D K : Int) : Prop where
  p0 : 1 ≤ P
  p1 : P ≤ 60
  d0 : 0 ≤ D
  d1 : D < 60
  k0 : 0 ≤ K
  k1 : K < 20
theorem job_due {span P D K : Int} (J : Job P D K) (s0 : 0 ≤ span) (s1 : span < 500) {q : Nat} (h1 : q = 0 ∨ ((q : Int) - 1) * P + D ≤ span) (h2 : span < (q : Int) * P + D) : dueE span ⟨P, D, K⟩ = (q : Int) * K ∧ q ≤ 500 := by
  have p0 := J.p0
  have p1 := J.p1
  have d0 := J.d0
  have d1 := J.d1
  have k0 := J.k0
  have k1 := J.k1
  have q5 : q ≤ 500 := by
    rcases h1 with h1 | h1
    · omega
    · have : ((q : Int) - 1) * 1 ≤ ((q : Int) - 1) * P ∨ q = 0 := by
        by_cases e : q = 0
        · exact .inr e
        · exact .inl (Int.mul_le_mul_of_nonneg_left p0 (by omega))
      rcases this with h | h <;> omega
  refine ⟨?_, q5⟩
  unfold dueE
  show (if cl D ≤ cl span then mul K (jobsE span ⟨P, D, K⟩) else 0) = _
  rw [cl_in D d0 (by omega), cl_in span s0 (by omega)]
  by_cases hd : D ≤ span
  · rw [if_pos hd]
    have hq : q ≠ 0 := fun e => by rw [e] at h2; simp at h2; omega
    have h3 : ((q : Int) - 1) * P + D ≤ span := by rcases h1 with h | h; exact absurd h hq; exact h
    have j : jobsE span ⟨P, D, K⟩ = q := by
      unfold jobsE
      show down (cl span - cl D) P + 1 = _
      rw [cl_in D d0 (by omega), cl_in span s0 (by omega)]
      unfold down
      rw [cl_in (span - D) (by omega) (by omega), dv_in P p0 (by omega)]
      rw [Int.ediv_eq_of_nonneg_of_lt_mul' (span - D) P ((q : Int) - 1) (by omega) (by omega) (by rw [show (q : Int) - 1 + 1 = q by omega]; omega)]
      omega
    have m : K * (q : Int) ≤ 20 * 500 := Int.mul_le_mul (by omega) (by omega) (by omega) (by omega)
    rw [j, mul_within _ _ (by rw [cl_in K k0 (by omega), cl_in (q : Int) (by omega) (by omega)]; omega), cl_in K k0 (by omega), cl_in (q : Int) (by omega) (by omega), Int.mul_comm]
  · rw [if_neg hd]
    have hq : q = 0 := by
      rcases h1 with h | h
      · exact h
      · by_cases e : q = 0
        · exact e
        · have : 0 ≤ ((q : Int) - 1) * P := Int.mul_nonneg (by omega) (by omega)
          omega
    rw [hq]; simp
theorem job_inv {span P D K : Int} (J : Job P D K) (s1 : span < 500) {q : Nat} (h1 : q = 0 ∨ ((q : Int) - 1) * P + D ≤ span) : 0 ≤ (q : Int) * P ∧ (q : Int) * P ≤ 560 ∧ 0 ≤ (q : Int) * K ∧ (q : Int) * K ≤ 12000 := by
  have p0 := J.p0
  have p1 := J.p1
  have d0 := J.d0
  have k0 := J.k0
  have k1 := J.k1
  have a1 : 0 ≤ (q : Int) * P := Int.mul_nonneg (by omega) (by omega)
  have a2 : (q : Int) * P ≤ 560 := by
    rcases h1 with rfl | h
    · simp
    · rw [Int.sub_mul] at h; omega
  have a3 : (q : Int) * 1 ≤ (q : Int) * P := Int.mul_le_mul_of_nonneg_left p0 (by omega)
  have a4 : (q : Int) * K ≤ 560 * 20 := Int.mul_le_mul (by omega) (by omega) k0 (by omega)
  exact ⟨a1, a2, Int.mul_nonneg (by omega) k0, by omega⟩
theorem old_grown {w2 w3 : World} {o : Obj} {r : Option Nat} {k : Nat} {x : Obj} (g : (w2.alloc o).grownBy w3 r) (hr : r ≠ some k) (h : w2.heap[k]? = some x) : w3.heap[k]? = some x := by
  have hk : k < w2.heap.size := lt_of_heap h
  have h1 : (w2.alloc o).heap[k]? = some x := (heap_alloc_old w2 o hk).trans h
  have h2 : w3.heap[k]? = (w2.alloc o).heap[k]? := g.block k (by simp; omega) (fun e => hr e.symm)
  exact h2.trans h1
theorem early_info : (Try.prog.info? 26).map (fun i => (i.zero, i.size, i.bytes)) = some (some (.agg #[.int .i64 0, .int .i64 0, .int .i64 0]), 3, 24) := by kernel_rfl
theorem own_sliceEr {w : World} {B : Nat} {e : TypeId} {z n : Nat} {v : Value} {xs : List Value} (h : w.ownsRow B e z v n xs) : ∃ a c, v = .slice a n c := by
  rcases h.2 with ⟨rfl, rfl⟩ | ⟨g, cap, cur, rfl, _⟩
  · exact ⟨none, 0, rfl⟩
  · exact ⟨_, _, rfl⟩
set_option maxRecDepth 10000 in
set_option maxHeartbeats 8000000 in
theorem walk_demandJobsC (C : PDemand) (w : World) (span : Int) (hs : (Lit.int .i64 span).wf = true) (pa : Option Addr) (n cn : Nat) (es : List Er) (hin : Came 3 erVals ErFit w pa n cn es) :
    Calls Try.prog 3 #[.int .i64 span, .slice pa n cn] w fun e w' => e = .returned (.bool true) ∧ Below w.heap.size w w' := by
  have AW := hide (fun W => dmawake_any C W)
  by_cases hg : 8 < n
  · have g1 : (8 : Int) < (n : Int) := by omega
    clear hin C
    go_enter Try.func3, Try.ntmps3
    go_wp2_with (go_at_call 7; refine (AW.out _).mono ?_; rintro e w' ⟨rfl, b⟩; have B := hide b; clear b)
    go_ret
    exact ⟨rfl, B.out⟩
  have g1 : ¬ (8 : Int) < (n : Int) := by omega
  obtain ⟨i0, hi0, hz0, hz1, hz2⟩ := info_parts early_info
  have I0 := hide (show Try.prog.info? 26 = some i0 ∧ i0.zero = some (.agg #[.int .i64 0, .int .i64 0, .int .i64 0]) ∧ i0.size = 3 ∧ i0.bytes = 24 from ⟨hi0, hz0, hz1, hz2⟩)
  have hn : n ≤ 8 := by omega
  have HN := hide hn
  have RA := hide hin.reads
  have LS := hide (fun (W : World) => low_i span 500 W (by omega) (by omega))
  have LP := hide (fun (W : World) (x : Int) => low_i x 60 W (by omega) (by omega))
  have LK := hide (fun (W : World) (x : Int) => low_i x 20 W (by omega) (by omega))
  have ND := hide (show ∀ (W : World) (s : Int) (A : Option Addr) (k c : Nat) (l : List Er), 0 ≤ s → s ≤ 4000 → k ≤ 100 → Reads 3 erVals W A k l → (∀ e ∈ l, ErFit W e) → Calls Try.prog 9 #[.int .i64 s, .slice A k c] W fun e w' => e = .returned (.int .i64 (needE s l)) ∧ Below W.heap.size W w' from fun W s A k c l h0 h1 hk hr hf => by
    have := C.need W s A k c l hr hf hk (wf_i (by omega) (by omega))
    exact this)
  clear hin C hg hs hn hi0 hz0 hz1 hz2
  go_enter Try.func3, Try.ntmps3
  go_upto_region 4 with (go_at_call 8; refine (LS.out _).mono ?_; rintro e w' ⟨⟨s, hs, rfl⟩, rfl⟩; clear LS)
  have HS := hide hs
  have s0 : 0 ≤ s := hs.1
  have s1 : s ≤ 500 := by omega
  clear hs
  go_wp2_with fail
  go_loopw [5, 6, 7] (fun sv lv kv wr => ∃ (k : Nat) (l : List Er), k ≤ n ∧ kv = .int .i64 (k : Int) ∧ sv = .int .i64 (needE s l) ∧ Hid (wr.ownsRow w.heap.size 26 3 lv k (l.flatMap erVals) ∧ l.length = k ∧ (∀ e ∈ l, Job e.per e.dl e.cost) ∧ needE s l ≤ (k : Int) * 10000 ∧ Below w.heap.size w wr)) (fun _ _ kv _ => n - (intOf kv).toNat)
  case atStart => exact ⟨0, [], Nat.zero_le _, rfl, rfl, World.ownsRow_nil _ _ _ _, rfl, (fun e he => by cases he), by show (0 : Int) ≤ _; omega, Below.refl _ _⟩
  case round =>
    obtain ⟨k, l, hk, rfl, rfl, hZ⟩ := hrel
    rename World => w1
    have O1 := hide hZ.out.1
    have LL := hide hZ.out.2.1
    have JJ := hide hZ.out.2.2.1
    have SM := hide hZ.out.2.2.2.1
    have B1 := hide hZ.out.2.2.2.2
    clear hZ
    obtain ⟨A1, ca1, rfl⟩ := own_sliceEr O1.out
    obtain ⟨U, hU⟩ : ∃ U, U = needE s l := ⟨_, rfl⟩
    have U0 : 0 ≤ U := by rw [hU]; exact needE_lo _ _
    rw [← hU] at SM ⊢
    have HU := hide hU
    clear hU
    by_cases hlt : k < n
    · have k0 : (0 : Int) ≤ (k : Int) := by omega
      have k1 : (k : Int) < (n : Int) := by omega
      have U1 : U ≤ 100000 := by have := SM.out; have := HN.out; omega
      obtain ⟨e, pb, po, he, rfl, c0, c1, c2⟩ := reads_er (RA.out.below B1.out) hlt
      obtain ⟨ep, hep⟩ : ∃ p, p = e.per := ⟨_, rfl⟩
      obtain ⟨ed, hed⟩ : ∃ p, p = e.dl := ⟨_, rfl⟩
      obtain ⟨ek, hek⟩ : ∃ p, p = e.cost := ⟨_, rfl⟩
      rw [← hep] at c0
      rw [← hed] at c1
      rw [← hek] at c2
      have HK := hide hlt
      clear hep hed hek he
      have SF := hide (show ∀ W, Below w1.heap.size w1 W → W.cell? ⟨pb, po + k * 3, none⟩ = some (.int .i64 ep) ∧ W.cell? ⟨pb, po + k * 3 + 1, none⟩ = some (.int .i64 ed) ∧ W.cell? ⟨pb, po + k * 3 + 2, none⟩ = some (.int .i64 ek) from fun W b => ⟨(b.cell (p := ⟨pb, po + k * 3, none⟩) (lt_of_cell? c0)).trans c0, (b.cell (p := ⟨pb, po + k * 3 + 1, none⟩) (lt_of_cell? c1)).trans c1, (b.cell (p := ⟨pb, po + k * 3 + 2, none⟩) (lt_of_cell? c2)).trans c2⟩)
      go_upto_region 9 with fail
      go_cut [8] (fun v wx => v = .pointer (some ⟨w1.heap.size, 0, none⟩) ∧ ∃ P dd cc : Int, Hid (Job P dd cc) ∧ Hid (wx.heap[w1.heap.size]? = some (.cells #[.int .i64 P, .int .i64 dd, .int .i64 cc] 26 (0, 0))) ∧ Hid (Below w1.heap.size w1 wx))
      case first =>
        rename_i Q9 K9 a9
        refine wp_region_noPanic ?_
        refine wp_region_held_drew (S := (fun W => W.cell? ⟨pb, po + k * 3, none⟩ = some (.int .i64 ep) ∧ W.cell? ⟨pb, po + k * 3 + 1, none⟩ = some (.int .i64 ed) ∧ W.cell? ⟨pb, po + k * 3 + 2, none⟩ = some (.int .i64 ek))) (by kernel_rfl) (SF.out _ (below_drewN (Below.refl _ w1) 1)) (fun hHeld => ?_)
        refine wpAnyH_take (i := 0) (v := ?_) rfl (by kernel_rfl) (by kernel_rfl) (by kernel_rfl) (fun _ _ _ h => h) (Or.inl ⟨by kernel_rfl, ?_⟩) (by assumption) ?_
        rotate_left
        · intro w hSw
          (try dsimp only at hSw)
          go_simp
          try with_reducible rfl
        try simp only [Act.put, List.setIfInBounds_toArray, List.set_cons_zero, List.set_cons_succ]
        refine wpAnyH_take (i := 1) (v := ?_) rfl (by kernel_rfl) (by kernel_rfl) (by kernel_rfl) (fun _ _ _ h => h) (Or.inl ⟨by kernel_rfl, ?_⟩) (by assumption) ?_
        rotate_left
        · intro w hSw
          (try dsimp only at hSw)
          go_simp
          try with_reducible rfl
        try simp only [Act.put, List.setIfInBounds_toArray, List.set_cons_zero, List.set_cons_succ]
        refine wpAnyH_take (i := 2) (v := ?_) rfl (by kernel_rfl) (by kernel_rfl) (by kernel_rfl) (fun _ _ _ h => h) (Or.inl ⟨by kernel_rfl, ?_⟩) (by assumption) ?_
        rotate_left
        · intro w hSw
          (try dsimp only at hSw)
          go_simp
          try with_reducible rfl
        try simp only [Act.put, List.setIfInBounds_toArray, List.set_cons_zero, List.set_cons_succ]
        refine wpAnyH_take (i := 3) (v := ?_) rfl (by kernel_rfl) (by kernel_rfl) (by kernel_rfl) (fun _ _ _ h => h) (Or.inl ⟨by kernel_rfl, ?_⟩) (by assumption) ?_
        rotate_left
        · intro w hSw
          (try dsimp only at hSw)
          go_simp
          try with_reducible rfl
        try simp only [Act.put, List.setIfInBounds_toArray, List.set_cons_zero, List.set_cons_succ]
        refine wpAnyH_take (i := 4) (v := ?_) rfl (by kernel_rfl) (by kernel_rfl) (by kernel_rfl) (fun _ _ _ h => h) (Or.inl ⟨by kernel_rfl, ?_⟩) (by assumption) ?_
        rotate_left
        · intro w hSw
          (try dsimp only at hSw)
          go_simp
          try with_reducible rfl
        try simp only [Act.put, List.setIfInBounds_toArray, List.set_cons_zero, List.set_cons_succ]
        refine wpAnyH_take (i := 7) (v := ?_) rfl (by kernel_rfl) (by kernel_rfl) (by kernel_rfl) (fun _ _ _ h => h) (Or.inl ⟨by kernel_rfl, ?_⟩) (by assumption) ?_
        rotate_left
        · intro w hSw
          (try dsimp only at hSw)
          go_simp
          try with_reducible rfl
        try simp only [Act.put, List.setIfInBounds_toArray, List.set_cons_zero, List.set_cons_succ]
        refine wpAnyH_take (i := 8) (v := ?_) rfl (by kernel_rfl) (by kernel_rfl) (by kernel_rfl) (fun _ _ _ h => h) (Or.inl ⟨by kernel_rfl, ?_⟩) (by assumption) ?_
        rotate_left
        · intro w hSw
          (try dsimp only at hSw)
          go_simp
          try with_reducible rfl
        try simp only [Act.put, List.setIfInBounds_toArray, List.set_cons_zero, List.set_cons_succ]
        refine wpAnyH_take (i := 9) (v := ?_) rfl (by kernel_rfl) (by kernel_rfl) (by kernel_rfl) (fun _ _ _ h => h) (Or.inl ⟨by kernel_rfl, ?_⟩) (by assumption) ?_
        rotate_left
        · intro w hSw
          (try dsimp only at hSw)
          go_simp
          try with_reducible rfl
        try simp only [Act.put, List.setIfInBounds_toArray, List.set_cons_zero, List.set_cons_succ]
        refine wpAnyH_take (i := 10) (v := ?_) rfl (by kernel_rfl) (by kernel_rfl) (by kernel_rfl) (fun _ _ _ h => h) (Or.inl ⟨by kernel_rfl, ?_⟩) (by assumption) ?_
        rotate_left
        · intro w hSw
          (try dsimp only at hSw)
          go_simp
          try with_reducible rfl
        try simp only [Act.put, List.setIfInBounds_toArray, List.set_cons_zero, List.set_cons_succ]
        refine wpAnyH_take (i := 11) (v := ?_) rfl (by kernel_rfl) (by kernel_rfl) (by kernel_rfl) (fun _ _ _ h => h) (Or.inl ⟨by kernel_rfl, ?_⟩) (by assumption) ?_
        rotate_left
        · intro w hSw
          (try dsimp only at hSw)
          go_simp
          try with_reducible rfl
        try simp only [Act.put, List.setIfInBounds_toArray, List.set_cons_zero, List.set_cons_succ]
        refine wpAnyH_take (i := 13) (v := ?_) rfl (by kernel_rfl) (by kernel_rfl) (by kernel_rfl) (fun _ _ _ h => h) (Or.inl ⟨by kernel_rfl, ?_⟩) (by assumption) ?_
        rotate_left
        · intro w hSw
          (try dsimp only at hSw)
          go_simp
          try with_reducible rfl
        try simp only [Act.put, List.setIfInBounds_toArray, List.set_cons_zero, List.set_cons_succ]
        refine wpAnyH_take (i := 14) (v := ?_) rfl (by kernel_rfl) (by kernel_rfl) (by kernel_rfl) (fun _ _ _ h => h) (Or.inl ⟨by kernel_rfl, ?_⟩) (by assumption) ?_
        rotate_left
        · intro w hSw
          (try dsimp only at hSw)
          go_simp
          try with_reducible rfl
        try simp only [Act.put, List.setIfInBounds_toArray, List.set_cons_zero, List.set_cons_succ]
        refine wpAnyH_take (i := 15) (v := ?_) rfl (by kernel_rfl) (by kernel_rfl) (by kernel_rfl) (fun _ _ _ h => h) (Or.inl ⟨by kernel_rfl, ?_⟩) (by assumption) ?_
        rotate_left
        · intro w hSw
          (try dsimp only at hSw)
          go_simp
          try with_reducible rfl
        try simp only [Act.put, List.setIfInBounds_toArray, List.set_cons_zero, List.set_cons_succ]
        refine wpAnyH_take (i := 16) (v := ?_) rfl (by kernel_rfl) (by kernel_rfl) (by kernel_rfl) (fun _ _ _ h => h) (Or.inl ⟨by kernel_rfl, ?_⟩) (by assumption) ?_
        rotate_left
        · intro w hSw
          (try dsimp only at hSw)
          go_simp
          try with_reducible rfl
        try simp only [Act.put, List.setIfInBounds_toArray, List.set_cons_zero, List.set_cons_succ]
        refine wpAnyH_take (i := 17) (v := ?_) rfl (by kernel_rfl) (by kernel_rfl) (by kernel_rfl) (fun _ _ _ h => h) (Or.inl ⟨by kernel_rfl, ?_⟩) (by assumption) ?_
        rotate_left
        · intro w hSw
          (try dsimp only at hSw)
          go_simp
          try with_reducible rfl
        try simp only [Act.put, List.setIfInBounds_toArray, List.set_cons_zero, List.set_cons_succ]
        refine wpAnyH_ready (rs := [5, 20]) (by kernel_rfl) (by simp) ?_
        refine AllReadyH.cons rfl (fun K hK => ?_) (AllReadyH.cons rfl (fun K hK => ?_) AllReadyH.nil)
        · go_simp
          go_at_call 8
          refine (LP.out _ ep).mono ?_
          rintro e w' ⟨⟨pp, hpp, rfl⟩, rfl⟩
          obtain ⟨P, hP⟩ : ∃ P, P = 1 + pp := ⟨_, rfl⟩
          have wP : IntKind.i64.wrap (1 + pp) = P := by rw [← hP]; exact IntWalk.i64_in _ (by omega)
          go_wp2_with fail
          refine hK _ _ (SF.out _ (below_drewN (Below.refl _ w1) 1)) (fun hHeld => ?_)
          clear hK K
          try simp only [Act.put, List.setIfInBounds_toArray, List.set_cons_zero, List.set_cons_succ]
          refine wpAnyH_take (i := 6) (v := ?_) rfl (by kernel_rfl) (by kernel_rfl) (by kernel_rfl) (fun _ _ _ h => h) (Or.inl ⟨by kernel_rfl, ?_⟩) (by assumption) ?_
          rotate_left
          · intro w hSw
            (try dsimp only at hSw)
            go_simp
            try with_reducible rfl
          try simp only [Act.put, List.setIfInBounds_toArray, List.set_cons_zero, List.set_cons_succ]
          refine wpAnyH_ready (rs := [12, 20]) (by kernel_rfl) (by simp) ?_
          refine AllReadyH.cons rfl (fun K hK => ?_) (AllReadyH.cons rfl (fun K hK => ?_) AllReadyH.nil)
          · go_simp
            go_at_call 8
            refine (LP.out _ ed).mono ?_
            rintro e w' ⟨⟨dd, hdd, rfl⟩, rfl⟩
            go_wp2_with fail
            refine hK _ _ (SF.out _ (below_drewN (Below.refl _ w1) 1)) (fun hHeld => ?_)
            clear hK K
            try simp only [Act.put, List.setIfInBounds_toArray, List.set_cons_zero, List.set_cons_succ]
            refine wpAnyH_ready (rs := [18, 20]) (by kernel_rfl) (by simp) ?_
            refine AllReadyH.cons rfl (fun K hK => ?_) (AllReadyH.cons rfl (fun K hK => ?_) AllReadyH.nil)
            · go_simp
              go_at_call 8
              refine (LK.out _ ek).mono ?_
              rintro e w' ⟨⟨cc, hcc, rfl⟩, rfl⟩
              go_wp2_with fail
              refine hK _ _ (SF.out _ (below_drewN (Below.refl _ w1) 1)) (fun hHeld => ?_)
              clear hK K
              try simp only [Act.put, List.setIfInBounds_toArray, List.set_cons_zero, List.set_cons_succ]
              refine wpAnyH_take (i := 19) (v := ?_) rfl (by kernel_rfl) (by kernel_rfl) (by kernel_rfl) (fun _ _ _ h => h) (Or.inl ⟨by kernel_rfl, ?_⟩) (by assumption) ?_
              rotate_left
              · intro w hSw
                (try dsimp only at hSw)
                go_simp
                try with_reducible rfl
              try simp only [Act.put, List.setIfInBounds_toArray, List.set_cons_zero, List.set_cons_succ]
              refine wpAnyH_ready (rs := [20]) (by kernel_rfl) (by simp) ?_
              refine AllReadyH.cons rfl (fun K hK => ?_) AllReadyH.nil
              go_simp
              go_wp2_with fail
              refine hK _ _ (SF.out _ ((below_drewN (Below.refl _ w1) 1).alloc (Nat.le_refl _) _)) (fun hHeld => ?_)
              clear hK K
              try simp only [Act.put, List.setIfInBounds_toArray, List.set_cons_zero, List.set_cons_succ]
              refine wpAnyH_ready (rs := [21]) (by kernel_rfl) (by simp) ?_
              refine AllReadyH.cons rfl (fun K hK => ?_) AllReadyH.nil
              go_simp
              go_wp2_with fail
              refine hK _ _ (SF.out _ ((below_drewN (Below.refl _ w1) 1).alloc (Nat.le_refl _) _)) (fun hHeld => ?_)
              clear hK K
              try simp only [Act.put, List.setIfInBounds_toArray, List.set_cons_zero, List.set_cons_succ]
              refine wpAnyH_done (by kernel_rfl) ?_ _
              go_simp
              refine NoPanic.normal ?_
              refine a9 _ _ ?_
              go_meet
              case rel => exact ⟨rfl, 1 + pp, dd, cc, ⟨by omega, by omega, hdd.1, hdd.2, hcc.1, hcc.2⟩, (show (w1.alloc (.cells #[.int .i64 (1 + pp), .int .i64 dd, .int .i64 cc] 26 (0, 0))).heap[w1.heap.size]? = _ from heap_alloc_new w1 _), below_drewN ((Below.refl _ w1).alloc (Nat.le_refl _) _) 1⟩
            · go_simp
              go_wp2_with fail
              refine hK _ _ (SF.out _ ((below_drewN (Below.refl _ w1) 1).alloc (Nat.le_refl _) _)) (fun hHeld => ?_)
              clear hK K
              try simp only [Act.put, List.setIfInBounds_toArray, List.set_cons_zero, List.set_cons_succ]
              refine wpAnyH_ready (rs := [18]) (by kernel_rfl) (by simp) ?_
              refine AllReadyH.cons rfl (fun K hK => ?_) AllReadyH.nil
              go_simp
              go_at_call 8
              refine (LK.out _ ek).mono ?_
              rintro e w' ⟨⟨cc, hcc, rfl⟩, rfl⟩
              go_wp2_with fail
              refine hK _ _ (SF.out _ ((below_drewN (Below.refl _ w1) 1).alloc (Nat.le_refl _) _)) (fun hHeld => ?_)
              clear hK K
              try simp only [Act.put, List.setIfInBounds_toArray, List.set_cons_zero, List.set_cons_succ]
              refine wpAnyH_take (i := 19) (v := ?_) rfl (by kernel_rfl) (by kernel_rfl) (by kernel_rfl) (fun _ _ _ h => h) (Or.inl ⟨by kernel_rfl, ?_⟩) (by assumption) ?_
              rotate_left
              · intro w hSw
                (try dsimp only at hSw)
                go_simp
                try with_reducible rfl
              try simp only [Act.put, List.setIfInBounds_toArray, List.set_cons_zero, List.set_cons_succ]
              refine wpAnyH_ready (rs := [21]) (by kernel_rfl) (by simp) ?_
              refine AllReadyH.cons rfl (fun K hK => ?_) AllReadyH.nil
              go_simp
              go_wp2_with fail
              refine hK _ _ (SF.out _ ((below_drewN (Below.refl _ w1) 1).alloc (Nat.le_refl _) _)) (fun hHeld => ?_)
              clear hK K
              try simp only [Act.put, List.setIfInBounds_toArray, List.set_cons_zero, List.set_cons_succ]
              refine wpAnyH_done (by kernel_rfl) ?_ _
              go_simp
              refine NoPanic.normal ?_
              refine a9 _ _ ?_
              go_meet
              case rel => exact ⟨rfl, 1 + pp, dd, cc, ⟨by omega, by omega, hdd.1, hdd.2, hcc.1, hcc.2⟩, (show (w1.alloc (.cells #[.int .i64 (1 + pp), .int .i64 dd, .int .i64 cc] 26 (0, 0))).heap[w1.heap.size]? = _ from heap_alloc_new w1 _), below_drewN ((Below.refl _ w1).alloc (Nat.le_refl _) _) 1⟩
          · go_simp
            go_wp2_with fail
            refine hK _ _ (SF.out _ ((below_drewN (Below.refl _ w1) 1).alloc (Nat.le_refl _) _)) (fun hHeld => ?_)
            clear hK K
            try simp only [Act.put, List.setIfInBounds_toArray, List.set_cons_zero, List.set_cons_succ]
            refine wpAnyH_ready (rs := [12]) (by kernel_rfl) (by simp) ?_
            refine AllReadyH.cons rfl (fun K hK => ?_) AllReadyH.nil
            go_simp
            go_at_call 8
            refine (LP.out _ ed).mono ?_
            rintro e w' ⟨⟨dd, hdd, rfl⟩, rfl⟩
            go_wp2_with fail
            refine hK _ _ (SF.out _ ((below_drewN (Below.refl _ w1) 1).alloc (Nat.le_refl _) _)) (fun hHeld => ?_)
            clear hK K
            try simp only [Act.put, List.setIfInBounds_toArray, List.set_cons_zero, List.set_cons_succ]
            refine wpAnyH_ready (rs := [18]) (by kernel_rfl) (by simp) ?_
            refine AllReadyH.cons rfl (fun K hK => ?_) AllReadyH.nil
            go_simp
            go_at_call 8
            refine (LK.out _ ek).mono ?_
            rintro e w' ⟨⟨cc, hcc, rfl⟩, rfl⟩
            go_wp2_with fail
            refine hK _ _ (SF.out _ ((below_drewN (Below.refl _ w1) 1).alloc (Nat.le_refl _) _)) (fun hHeld => ?_)
            clear hK K
            try simp only [Act.put, List.setIfInBounds_toArray, List.set_cons_zero, List.set_cons_succ]
            refine wpAnyH_take (i := 19) (v := ?_) rfl (by kernel_rfl) (by kernel_rfl) (by kernel_rfl) (fun _ _ _ h => h) (Or.inl ⟨by kernel_rfl, ?_⟩) (by assumption) ?_
            rotate_left
            · intro w hSw
              (try dsimp only at hSw)
              go_simp
              try with_reducible rfl
            try simp only [Act.put, List.setIfInBounds_toArray, List.set_cons_zero, List.set_cons_succ]
            refine wpAnyH_ready (rs := [21]) (by kernel_rfl) (by simp) ?_
            refine AllReadyH.cons rfl (fun K hK => ?_) AllReadyH.nil
            go_simp
            go_wp2_with fail
            refine hK _ _ (SF.out _ ((below_drewN (Below.refl _ w1) 1).alloc (Nat.le_refl _) _)) (fun hHeld => ?_)
            clear hK K
            try simp only [Act.put, List.setIfInBounds_toArray, List.set_cons_zero, List.set_cons_succ]
            refine wpAnyH_done (by kernel_rfl) ?_ _
            go_simp
            refine NoPanic.normal ?_
            refine a9 _ _ ?_
            go_meet
            case rel => exact ⟨rfl, 1 + pp, dd, cc, ⟨by omega, by omega, hdd.1, hdd.2, hcc.1, hcc.2⟩, (show (w1.alloc (.cells #[.int .i64 (1 + pp), .int .i64 dd, .int .i64 cc] 26 (0, 0))).heap[w1.heap.size]? = _ from heap_alloc_new w1 _), below_drewN ((Below.refl _ w1).alloc (Nat.le_refl _) _) 1⟩
        · go_simp
          go_wp2_with fail
          refine hK _ _ (SF.out _ ((below_drewN (Below.refl _ w1) 1).alloc (Nat.le_refl _) _)) (fun hHeld => ?_)
          clear hK K
          try simp only [Act.put, List.setIfInBounds_toArray, List.set_cons_zero, List.set_cons_succ]
          refine wpAnyH_ready (rs := [5]) (by kernel_rfl) (by simp) ?_
          refine AllReadyH.cons rfl (fun K hK => ?_) AllReadyH.nil
          go_simp
          go_at_call 8
          refine (LP.out _ ep).mono ?_
          rintro e w' ⟨⟨pp, hpp, rfl⟩, rfl⟩
          obtain ⟨P, hP⟩ : ∃ P, P = 1 + pp := ⟨_, rfl⟩
          have wP : IntKind.i64.wrap (1 + pp) = P := by rw [← hP]; exact IntWalk.i64_in _ (by omega)
          go_wp2_with fail
          refine hK _ _ (SF.out _ ((below_drewN (Below.refl _ w1) 1).alloc (Nat.le_refl _) _)) (fun hHeld => ?_)
          clear hK K
          try simp only [Act.put, List.setIfInBounds_toArray, List.set_cons_zero, List.set_cons_succ]
          refine wpAnyH_take (i := 6) (v := ?_) rfl (by kernel_rfl) (by kernel_rfl) (by kernel_rfl) (fun _ _ _ h => h) (Or.inl ⟨by kernel_rfl, ?_⟩) (by assumption) ?_
          rotate_left
          · intro w hSw
            (try dsimp only at hSw)
            go_simp
            try with_reducible rfl
          try simp only [Act.put, List.setIfInBounds_toArray, List.set_cons_zero, List.set_cons_succ]
          refine wpAnyH_ready (rs := [12]) (by kernel_rfl) (by simp) ?_
          refine AllReadyH.cons rfl (fun K hK => ?_) AllReadyH.nil
          go_simp
          go_at_call 8
          refine (LP.out _ ed).mono ?_
          rintro e w' ⟨⟨dd, hdd, rfl⟩, rfl⟩
          go_wp2_with fail
          refine hK _ _ (SF.out _ ((below_drewN (Below.refl _ w1) 1).alloc (Nat.le_refl _) _)) (fun hHeld => ?_)
          clear hK K
          try simp only [Act.put, List.setIfInBounds_toArray, List.set_cons_zero, List.set_cons_succ]
          refine wpAnyH_ready (rs := [18]) (by kernel_rfl) (by simp) ?_
          refine AllReadyH.cons rfl (fun K hK => ?_) AllReadyH.nil
          go_simp
          go_at_call 8
          refine (LK.out _ ek).mono ?_
          rintro e w' ⟨⟨cc, hcc, rfl⟩, rfl⟩
          go_wp2_with fail
          refine hK _ _ (SF.out _ ((below_drewN (Below.refl _ w1) 1).alloc (Nat.le_refl _) _)) (fun hHeld => ?_)
          clear hK K
          try simp only [Act.put, List.setIfInBounds_toArray, List.set_cons_zero, List.set_cons_succ]
          refine wpAnyH_take (i := 19) (v := ?_) rfl (by kernel_rfl) (by kernel_rfl) (by kernel_rfl) (fun _ _ _ h => h) (Or.inl ⟨by kernel_rfl, ?_⟩) (by assumption) ?_
          rotate_left
          · intro w hSw
            (try dsimp only at hSw)
            go_simp
            try with_reducible rfl
          try simp only [Act.put, List.setIfInBounds_toArray, List.set_cons_zero, List.set_cons_succ]
          refine wpAnyH_ready (rs := [21]) (by kernel_rfl) (by simp) ?_
          refine AllReadyH.cons rfl (fun K hK => ?_) AllReadyH.nil
          go_simp
          go_wp2_with fail
          refine hK _ _ (SF.out _ ((below_drewN (Below.refl _ w1) 1).alloc (Nat.le_refl _) _)) (fun hHeld => ?_)
          clear hK K
          try simp only [Act.put, List.setIfInBounds_toArray, List.set_cons_zero, List.set_cons_succ]
          refine wpAnyH_done (by kernel_rfl) ?_ _
          go_simp
          refine NoPanic.normal ?_
          refine a9 _ _ ?_
          go_meet
          case rel => exact ⟨rfl, 1 + pp, dd, cc, ⟨by omega, by omega, hdd.1, hdd.2, hcc.1, hcc.2⟩, (show (w1.alloc (.cells #[.int .i64 (1 + pp), .int .i64 dd, .int .i64 cc] 26 (0, 0))).heap[w1.heap.size]? = _ from heap_alloc_new w1 _), below_drewN ((Below.refl _ w1).alloc (Nat.le_refl _) _) 1⟩
      case rest =>
        obtain ⟨rfl, P, D, K, JB, H2, B2⟩ := hcut
        rename World => w2
        have z1 := hide B1.out.size
        have z2 := hide (show w1.heap.size < w2.heap.size from lt_of_heap H2.out)
        have O2 := hide ((Touch.of_below (S := fun _ => False) B2.out).own O1.out (fun _ _ e => e))
        have x0 : w2.cell? ⟨w1.heap.size, 0, none⟩ = some (.int .i64 P) := by rw [cell_of_row _ _ _ _ _ _ H2.out]; rfl
        have x1 : w2.cell? ⟨w1.heap.size, 1, none⟩ = some (.int .i64 D) := by rw [cell_of_row _ _ _ _ _ _ H2.out]; rfl
        have x2 : w2.cell? ⟨w1.heap.size, 2, none⟩ = some (.int .i64 K) := by rw [cell_of_row _ _ _ _ _ _ H2.out]; rfl
        have RB := hide (show Reads 3 erVals (w2.alloc (.cells #[.int .i64 P, .int .i64 D, .int .i64 K] 26)) (some ⟨w2.heap.size, 0, none⟩) 1 [⟨P, D, K⟩] from by
          have hb := heap_alloc_new w2 (.cells #[.int .i64 P, .int .i64 D, .int .i64 K] 26)
          refine ⟨rfl, fun _ => ⟨w2.heap.size, 0, rfl, fun i x hx j u hu => ?_⟩⟩
          have hi : i = 0 := by
            have := (List.getElem?_eq_some_iff.1 hx).1
            simp at this; omega
          subst hi
          injection hx with hx
          subst hx
          rw [Nat.zero_mul, Nat.zero_add, cell_of_row _ _ _ _ _ _ hb, List.getElem?_toArray]
          exact hu)
        have BW := hide (B1.out.trans (B2.out.mono B1.out.size))
        have KN := hide (show k + 1 ≤ 8 from by have := HN.out; omega)
        clear c0 c1 c2 SF
        go_upto_region 11 with (at_builtin; refine wpList_append_reads rfl (.tmp 42) (.tmp 44) _ rfl w.heap.size 26 i0 _ 24 Try.underlying22 I0.out.1 I0.out.2.1 I0.out.2.2.1 I0.out.2.2.2 rfl (by omega) _ _ _ rfl (O2.out.alloc _) _ 1 1 [⟨P, D, K⟩] rfl erVals_len erVals_cell RB.out (fun h => by cases h) (by have := KN.out; unfold maxLen; omega) (by have := KN.out; omega) (by have := BW.out.size; simp; omega) ?_; intro v3 w3 o3 g3; have H3 := hide (old_grown g3 (fun e => by have := (O1.out.lt _ e).2; omega) H2.out); have BB := hide ((BW.out.alloc (by have := BW.out.size; omega) _).grown g3 (by have := BW.out.size; simp; omega) (own_lo O2.out)); rw [← List.flatMap_append] at o3; have O3 := hide o3; clear o3 g3)
        have y0 : w3.cell? ⟨w1.heap.size, 0, none⟩ = some (.int .i64 P) := by rw [cell_of_row _ _ _ _ _ _ H3.out]; rfl
        have y1 : w3.cell? ⟨w1.heap.size, 1, none⟩ = some (.int .i64 D) := by rw [cell_of_row _ _ _ _ _ _ H3.out]; rfl
        have y2 : w3.cell? ⟨w1.heap.size, 2, none⟩ = some (.int .i64 K) := by rw [cell_of_row _ _ _ _ _ _ H3.out]; rfl
        clear x0 x1 x2 RB O2 H2 H3 B2 BW z1 z2 O1 B1
        go_wp2_with fail
        go_loopw [5, 9] (fun uv rv wx => ∃ (q : Nat) (R V : Int), uv = .int .i64 (U + V) ∧ rv = .int .i64 R ∧ wx = w3 ∧ Hid (R = (q : Int) * P ∧ V = (q : Int) * K ∧ (q = 0 ∨ ((q : Int) - 1) * P + D ≤ s))) (fun _ rv _ => 1000 - (intOf rv).toNat)
        case atStart => exact ⟨0, 0, 0, by rw [Int.add_zero], rfl, rfl, by simp, by simp, .inl rfl⟩
        case round =>
          obtain ⟨q, R, V, rfl, rfl, rfl, hZ⟩ := hrel
          obtain ⟨hR, hV, hq⟩ := hZ
          have hs2 : s < 500 := HS.out.2
          obtain ⟨r0, r1, v0, v1⟩ := job_inv JB.out hs2 hq
          rw [← hR] at r0 r1
          rw [← hV] at v0 v1
          have JD := JB.out
          have p0 := JD.p0
          have p1 := JD.p1
          have d0 := JD.d0
          have d1 := JD.d1
          have e0 := JD.k0
          have e1 := JD.k1
          clear JD
          by_cases hc : R + D ≤ s
          · have NX := hide (show R + P = ((q + 1 : Nat) : Int) * P ∧ V + K = ((q + 1 : Nat) : Int) * K ∧ (q + 1 = 0 ∨ (((q + 1 : Nat) : Int) - 1) * P + D ≤ s) from by
              refine ⟨by rw [hR, Int.natCast_add, Int.add_mul]; simp, by rw [hV, Int.natCast_add, Int.add_mul]; simp, .inr ?_⟩
              rw [show ((q + 1 : Nat) : Int) - 1 = q by omega, ← hR]
              exact hc)
            clear hR hV hq
            go_wp2_with fail
            go_roundw
            case rel => exact ⟨q + 1, R + P, V + K, by rw [Int.add_assoc], rfl, trivial, NX.out⟩
            case measure => simp [intOf]; omega
          · have hdue := job_due JB.out s0 hs2 hq (by rw [← hR]; omega)
            have NX := hide (show needE s (l ++ [⟨P, D, K⟩]) = U + V from by
              have := SM.out
              rw [needE_snoc, hdue.1, ← hV, ← HU.out]
              exact cl_in _ (by omega) (by omega))
            have VH := hide (show V ≤ 10000 from by
              have : (q : Int) * K ≤ 500 * 20 := Int.mul_le_mul (by have := hdue.2; omega) (by omega) e0 (by omega)
              omega)
            have LX := hide (show (l ++ [(⟨P, D, K⟩ : Er)]).length = k + 1 ∧ ∀ e ∈ l ++ [(⟨P, D, K⟩ : Er)], Job e.per e.dl e.cost from by
              refine ⟨by rw [List.length_append, LL.out]; rfl, fun e he => ?_⟩
              rcases List.mem_append.1 he with h | h
              · exact JJ.out e h
              · rw [List.mem_singleton.1 h]; exact JB.out)
            clear hR hV hq hdue
            go_wp2_with fail
            go_roundw
            case rel =>
              refine ⟨k + 1, l ++ [⟨P, D, K⟩], HK.out, by go_num, by rw [NX.out], O3.out, LX.out.1, LX.out.2, ?_, BB.out⟩
              have := SM.out
              have := VH.out
              rw [NX.out]
              omega
            case measure => have h9 := HK.out; simp [intOf]; omega
    · obtain rfl : k = n := by omega
      have k1 : ¬ (k : Int) < (k : Int) := by omega
      obtain ⟨A2, c2, e2, R2, _⟩ := own_reads erVals_len (by omega) O1.out
      cases e2
      have NN := hide (show ∀ W, Below w1.heap.size w1 W → Calls Try.prog 9 #[.int .i64 s, .slice A1 k ca1] W fun e w' => e = .returned (.int .i64 U) ∧ Below W.heap.size W w' from fun W b => by
        have := ND.out W s A1 k ca1 l s0 (by omega) (by have := HN.out; omega) (R2.below b) (fun e he => (by have := JJ.out e he; exact ⟨wf_i (by have := this.p0; omega) (by have := this.p1; omega), wf_i (by have := this.d0; omega) (by have := this.d1; omega), wf_i (by have := this.k0; omega) (by have := this.k1; omega)⟩))
        rw [← HU.out] at this
        exact this)
      clear O1 R2 RA JJ LL HU LP LK ND SM
      go_wp2_with (first
        | (go_at_call 9; refine (NN.out _ (Below.refl _ _)).mono ?_; rintro e w4 ⟨rfl, b⟩; have B4 := hide (B1.out.trans (b.mono B1.out.size)); clear b NN)
        | (go_at_call 7; refine (AW.out _).mono ?_; rintro e w5 ⟨rfl, b⟩; have B5 := hide (B4.out.trans (b.mono B4.out.size)); clear b))
      go_ret
      exact ⟨rfl, B5.out⟩
end Go.Proofs.Ytjbjchakkccflaa
