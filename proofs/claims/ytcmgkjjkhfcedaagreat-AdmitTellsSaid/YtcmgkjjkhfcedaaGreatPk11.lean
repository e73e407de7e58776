/-
  What the walks lean on, part 11: RkNew AmMay.
-/
import Derived.Test.YtcmgkjjkhfcedaaGreatPk10
/-
  The program's New; what is told of no table; rank by its blocks.
-/
namespace Go.Proofs.YtcmgkjjkhfcedaaGreat
open Go.ChangeShapes Go.WideShapes Go.ChangeAt Go.RowKit Go.Shelf
set_option linter.unusedVariables false
set_option linter.unusedSimpArgs false
theorem mutex_info : (Tryz.prog.info? 52).map (fun i => (i.zero, i.size, i.bytes)) = some (some (.agg #[.int .i64 0, .int .i64 0]), 2, 16) := by kernel_rfl
set_option maxRecDepth 20000 in
theorem run_muts_nil (w : World) : (binOp .eql 24 (.slice none 0 0) (.slice none 0 0)).run Tryz.prog w = .ok (.bool true) w := by rfl
set_option maxRecDepth 20000 in
theorem run_muts_some (w : World) (ad : Addr) (n c : Nat) : (binOp .eql 24 (.slice (some ad) n c) (.slice none 0 0)).run Tryz.prog w = .ok (.bool false) w := by rfl
attribute [local go_sem] run_muts_nil run_muts_some
set_option maxHeartbeats 4000000 in
theorem pclone_any {w : World} {a : Option Addr} {n c : Nat} {ms : List Mu} (ha : Reads 2 muVals w a n ms) (hnil : a = none → c = 0) (hn : n ≤ 30) :
    Calls Tryz.prog 59 #[.slice a n c] w fun e w' => ∃ v, e = .returned v ∧ w'.ownsRow w.heap.size 52 2 v n (ms.flatMap muVals) ∧ Below w.heap.size w w' := by
  obtain ⟨i0, hi0, hz0, hz1, hz2⟩ := info_parts mutex_info
  cases a with
  | none =>
    obtain rfl := ha.isNil rfl
    obtain rfl : ms = [] := List.eq_nil_of_length_eq_zero ha.1
    obtain rfl := hnil rfl
    go_enter Tryz.func59, Tryz.ntmps59
    go_wp2_with fail
    go_ret
    exact ⟨_, rfl, World.ownsRow_nil _ _ _ _, Below.refl _ _⟩
  | some ad =>
    have HR := hide (ha.below ((Below.refl w.heap.size w).alloc (Nat.le_refl _) (.cells #[] 52)))
    have HO := hide (show (w.alloc (.cells #[] 52)).ownsRow w.heap.size 52 2 (.slice (some ⟨w.heap.size, 0, none⟩) 0 0) 0 [] from ⟨rfl, .inr ⟨w.heap.size, 0, #[], rfl, Nat.le_refl _, World.alloc_heap_new _ _, by simp, by simp, by simp⟩⟩)
    have HB := hide ((Below.refl w.heap.size w).alloc (Nat.le_refl _) (.cells #[] 52))
    clear ha hnil
    go_enter Tryz.func59, Tryz.ntmps59
    go_wp2_with (first
      | (at_builtin; refine wpList_append_reads rfl (.tmp 5) (.tmp 6) _ rfl w.heap.size 52 i0 _ 16 Tryz.underlying24 hi0 hz0 hz1 hz2 rfl (by omega) _ 0 [] rfl HO.out (some ad) n c ms rfl muVals_len muVals_cell HR.out (fun e => by cases e) (by unfold maxLen; omega) (by omega) HB.out.size ?_; intro v1 w1 o1 g1; have O1 := hide o1; have B1 := hide (HB.out.grown g1 HB.out.size (fun k hk => (HO.out.lt k hk).1)); clear o1 g1))
    go_ret
    exact ⟨_, rfl, by rw [Nat.zero_add, List.nil_append] at O1; exact O1.out, B1.out⟩
theorem built_tab (a : Option Addr) (n c : Nat) : Tryz.prog.built 102 [(0, .slice a n c)] = some #[.slice a n c] := by kernel_rfl
attribute [local go_sem] built_tab
set_option maxHeartbeats 8000000 in
theorem pnew_any (w : World) (a : Option Addr) (n c : Nat) (ms : List Mu) (ha : Reads 2 muVals w a n ms) (hnil : a = none → c = 0) (hn : n ≤ 30) :
    Calls Tryz.prog 19 #[.slice a n c] w fun e w' => (goodMu ms = true ∧ ∃ T Q, e = .returned (.tuple #[.pointer (some ⟨T, 0, none⟩), .int .i64 0]) ∧ Tab w' Q T ms ∧ Below w.heap.size w w' ∧ ∀ i, Q i → w.heap.size ≤ i) ∨ (goodMu ms = false ∧ e = .returned (.tuple #[.pointer none, .int .i64 2]) ∧ Below w.heap.size w w') := by
  have HL := hide ha.1
  have n63 : (n : Int) ≤ 9223372036854775807 := by omega
  by_cases h6 : 6 < n
  · have G := hide (show goodMu ms = false from by unfold goodMu; rw [HL.out]; simp; omega)
    have h6' : (6 : Int) < (n : Int) := by omega
    clear ha hnil
    go_enter Tryz.func19, Tryz.ntmps19
    go_wp2_with fail
    exact bodyPost_ret (v := .tuple #[.pointer none, .int .i64 2]) (by simp [results, Tryz.results19, go_sem]) rfl (.inr ⟨G.out, rfl, Below.refl _ _⟩)
  have h6' : ¬ (6 : Int) < (n : Int) := by omega
  have HA := hide ha
  have HN := hide hnil
  clear ha hnil
  go_enter Tryz.func19, Tryz.ntmps19
  go_wp2_with fail
  go_loopw [11] (fun i wr => ∃ k : Nat, k ≤ n ∧ i = .int .i64 k ∧ Hid (Below w.heap.size w wr ∧ ∀ (i : Nat) (x : Mu), i < k → ms[i]? = some x → okMu x = true)) (fun i _ => n - (intOf i).toNat)
  case atStart => exact ⟨0, Nat.zero_le _, rfl, Below.refl _ _, fun i x hi => absurd hi (by omega)⟩
  case round =>
    obtain ⟨k, hk, rfl, hZ⟩ := hrel
    by_cases hlt : k < n
    · have k0 : (0 : Int) ≤ (k : Int) := by omega
      have k1 : (k : Int) < (n : Int) := by omega
      obtain ⟨⟨r, l⟩, b, off, hx, rfl, hc⟩ := HA.out.at_ hlt
      have HX := hide hx
      have c0 : wr.cell? ⟨b, off + k * 2, none⟩ = some (.int .i64 r) := (hZ.out.1.cell (lt_of_cell? (hc 0 _ rfl))).trans (hc 0 _ rfl)
      have c1 : wr.cell? ⟨b, off + k * 2 + 1, none⟩ = some (.int .i64 l) := (hZ.out.1.cell (lt_of_cell? (hc 1 _ rfl))).trans (hc 1 _ rfl)
      clear hx hc
      obtain ⟨q, hq⟩ : ∃ q, q = okMu ⟨r, l⟩ := ⟨_, rfl⟩
      have HQ := hide hq
      have C := hide (fun (W : World) => show Calls Tryz.prog 58 #[.agg #[.int .i64 r, .int .i64 l]] W fun e w' => e = .returned (.bool q) ∧ Below W.heap.size W w' from by rw [hq]; exact pmayM_any W r l)
      obtain ⟨w1, hw1⟩ : ∃ w1, w1 = wr.alloc (.cells #[.int .i64 r, .int .i64 l] 52) := ⟨_, rfl⟩
      have B1 := hide (show Below w.heap.size w w1 from by rw [hw1]; exact hZ.out.1.alloc hZ.out.1.size _)
      have W1 := hide hw1
      clear hq hw1
      cases q with
      | false =>
        have G := hide (goodMu_bad HX.out HQ.out.symm)
        go_wp2_with (rw [← W1.out]; go_at_call 58; refine (C.out _).mono ?_; rintro e w2 ⟨rfl, b2⟩; have B2 := hide (B1.out.trans (b2.mono B1.out.size)); clear b2)
        exact bodyPost_ret (v := .tuple #[.pointer none, .int .i64 2]) (by simp [results, Tryz.results19, go_sem]) rfl (.inr ⟨G.out, rfl, B2.out⟩)
      | true =>
        have N := hide (show ∀ (i : Nat) (x : Mu), i < k + 1 → ms[i]? = some x → okMu x = true from fun i y hi hy => by
          by_cases e : i = k
          · subst e
            rw [HX.out] at hy
            injection hy with hy
            subst hy
            exact HQ.out.symm
          · exact hZ.out.2 i y (by omega) hy)
        go_wp2_with (rw [← W1.out]; go_at_call 58; refine (C.out _).mono ?_; rintro e w2 ⟨rfl, b2⟩; have B2 := hide (B1.out.trans (b2.mono B1.out.size)); clear b2)
        go_roundw
        case rel => exact ⟨k + 1, by omega, by go_num, B2.out, N.out⟩
        case measure => simp [intOf]; omega
    · obtain rfl : k = n := by omega
      have G := hide (show goodMu ms = true from by
        rw [goodMu_all fun i x hi => hZ.out.2 i x (by have h1 := (List.getElem?_eq_some_iff.1 hi).1; rw [HL.out] at h1; exact h1) hi, HL.out]
        simp; omega)
      have C := hide (pclone_any (c := c) (HA.out.below hZ.out.1) HN.out hn)
      go_wp2_with (first
        | (go_at_call 59; refine C.out.mono ?_; rintro e w2 ⟨v, rfl, o2, b2⟩; obtain ⟨a2, c2, rfl, r2, q1, q2, q3⟩ := own_reads muVals_len (by omega) o2; have B2 := hide (hZ.out.1.trans (b2.mono hZ.out.1.size)); have O2 := hide (show ∀ i, (Value.slice a2 k c2).ownBlock = some i → w.heap.size ≤ i ∧ i < w2.heap.size from fun i hi => ⟨Nat.le_trans hZ.out.1.size (o2.lt i hi).1, (o2.lt i hi).2⟩); have R2 := hide r2; clear o2 b2 r2 q1 q2 q3)
        | (refine wpList_build rfl 102 _ rfl (by kernel_rfl) ?_))
      have bz := (Below.refl w2.heap.size w2).alloc (Nat.le_refl _) (.cells #[.slice a2 k c2] 102)
      refine bodyPost_ret (v := .tuple #[.pointer (some ⟨w2.heap.size, 0, none⟩), .int .i64 0]) (by simp [results, Tryz.results19, go_sem]) rfl (.inl ?_)
      refine ⟨G.out, w2.heap.size, fun i => i = w2.heap.size ∨ (Value.slice a2 k c2).ownBlock = some i, rfl, ⟨⟨a2, c2, ?_, ?_, ?_⟩, .inl rfl, ?_, G.out⟩, B2.out.trans (bz.mono B2.out.size), ?_⟩
      · rw [HL.out]; unfold World.cell?; rw [World.alloc_heap_new]; rfl
      · rw [HL.out]; exact R2.out.below bz
      · intro b o e; subst e; exact .inr rfl
      · rintro i (rfl | hi)
        · simp
        · have := (O2.out i hi).2; simp; omega
      · rintro i (rfl | hi)
        · exact B2.out.size
        · exact (O2.out i hi).1
set_option maxHeartbeats 4000000 in
theorem psum_nil (w : World) (r : Int) : Calls Tryz.prog 69 #[.pointer none, .int .i64 r] w fun e w' => e = .returned (.int .i64 0) ∧ Below w.heap.size w w' := by
  go_enter Tryz.func69, Tryz.ntmps69
  go_wp2_with fail
  go_ret
  exact ⟨rfl, Below.refl _ _⟩
/-- The program's table, its blocks left out. -/
def PTab (w : World) (S : Nat) (ms : List Mu) : Prop := ∃ Q, Tab w Q S ms
end Go.Proofs.YtcmgkjjkhfcedaaGreat
/-
  The program's admit (stage 18): what may be declared (written by tools/gen/ammay.py).
-/
namespace Go.Proofs.YtcmgkjjkhfcedaaGreat
open Go.ChangeShapes Go.WideShapes Go.ChangeAt Go.RowKit
set_option linter.unusedVariables false
set_option linter.unusedSimpArgs false
theorem awithin_any (n lo hi : Int) (w : World) : Calls Tryz.prog 20 #[.int .i64 n, .int .i64 lo, .int .i64 hi] w fun e w' => e = .returned (.bool (decide (lo ≤ n ∧ n ≤ hi))) ∧ w = w' := by
  by_cases h1 : lo ≤ n
  · by_cases h2 : n ≤ hi
    · rw [decide_eq_true ⟨h1, h2⟩]
      go_enter Tryz.func20, Tryz.ntmps20
      go_wp2_with fail
      go_ret
      exact ⟨rfl, rfl⟩
    · rw [decide_eq_false (fun e => h2 e.2)]
      go_enter Tryz.func20, Tryz.ntmps20
      go_wp2_with fail
      go_ret
      exact ⟨rfl, rfl⟩
  · rw [decide_eq_false (fun e => h1 e.1)]
    go_enter Tryz.func20, Tryz.ntmps20
    go_wp2_with fail
    go_ret
    exact ⟨rfl, rfl⟩
theorem awithin_is (n lo hi : Int) (b : Bool) (h : b = decide (lo ≤ n ∧ n ≤ hi)) (w : World) : Calls Tryz.prog 20 #[.int .i64 n, .int .i64 lo, .int .i64 hi] w fun e w' => e = .returned (.bool b) ∧ w = w' := by
  rw [h]; exact awithin_any n lo hi w
def gapOk (g : Int) : Bool := decide (1 ≤ g ∧ g ≤ 1000)
theorem agap_any (z : Int) (w : World) : Calls Tryz.prog 22 #[.int .i64 z] w fun e w' => e = .returned (.bool (gapOk z)) ∧ w = w' := by
  obtain ⟨b, hb⟩ : ∃ b, b = gapOk z := ⟨_, rfl⟩
  have I := hide (fun W => awithin_is z 1 1000 b hb W)
  rw [← hb]
  clear hb
  go_enter Tryz.func22, Tryz.ntmps22
  go_wp2_with (go_at_call 20; refine (I.out _).mono ?_; rintro e w' ⟨rfl, rfl⟩)
  go_ret
  exact ⟨rfl, rfl⟩
theorem aprog_any (a : Option Addr) (n c : Nat) (w : World) : Calls Tryz.prog 61 #[.slice a n c] w fun e w' => e = .returned (.bool (decide (n ≤ 40))) ∧ w = w' := by
  by_cases h : n ≤ 40
  · have q : (n : Int) ≤ 40 := by omega
    rw [decide_eq_true h]
    go_enter Tryz.func61, Tryz.ntmps61
    go_wp2_with fail
    go_ret
    exact ⟨ret_bool (by simp; try omega), rfl⟩
  · have q : ¬ (n : Int) ≤ 40 := by omega
    rw [decide_eq_false h]
    go_enter Tryz.func61, Tryz.ntmps61
    go_wp2_with fail
    go_ret
    exact ⟨ret_bool (by simp; try omega), rfl⟩
set_option maxHeartbeats 4000000 in
theorem ahasm_any (w : World) (ta : Option Addr) (tn tc : Nat) (ea : Option Addr) (en ec : Nat) (ma : Option Addr) (mn mc : Nat) (ga : Option Addr) (gn gc : Nat) (frames dog : Int) (hm : mn ≤ 12) (m : Int) :
    Calls Tryz.prog 64 #[.agg #[.slice ta tn tc, .slice ea en ec, .slice ma mn mc, .slice ga gn gc, .int .i64 frames, .int .i64 dog], .int .i64 m] w fun e w' => e = .returned (.bool (isMu mn m)) ∧ Below w.heap.size w w' := by
  obtain ⟨M1, hM1⟩ : ∃ M1, M1 = (mn : Int) - 1 := ⟨_, rfl⟩
  have wm : IntKind.i64.wrap ((mn : Int) - 1) = M1 := by rw [hM1]; exact IntWalk.i64_in _ (by omega)
  obtain ⟨b, hb⟩ : ∃ b, b = isMu mn m := ⟨_, rfl⟩
  have I := hide (fun W => awithin_is m 0 M1 b (by rw [hb, hM1]; unfold isMu; rw [Bool.eq_iff_iff]; simp only [decide_eq_true_eq]; omega) W)
  rw [← hb]
  clear hb hM1
  obtain ⟨w1, hw1⟩ : ∃ z, z = w.alloc (.cells #[.slice ta tn tc, .slice ea en ec, .slice ma mn mc, .slice ga gn gc, .int .i64 frames, .int .i64 dog] 64) := ⟨_, rfl⟩
  have bw1 : Below w.heap.size w w1 := by rw [hw1]; exact (Below.refl w.heap.size w).alloc (Nat.le_refl _) _
  have ew1 : w1.heap[w.heap.size]? = some (.cells #[.slice ta tn tc, .slice ea en ec, .slice ma mn mc, .slice ga gn gc, .int .i64 frames, .int .i64 dog] 64 (0, 0)) := by rw [hw1]; exact heap_alloc_new _ _
  have K2 := hide (fun (Y : World) (b : Below w1.heap.size w1 Y) => show Y.cell? ⟨w.heap.size, 2, none⟩ = some (.slice ma mn mc) from by rw [cell_of_row _ _ _ _ _ _ ((b.block _ (lt_of_heap ew1)).trans ew1)]; rfl)
  have Bw1 := hide bw1
  have Hw1 := hide hw1
  clear hw1 bw1 ew1
  have y2 := K2.out _ (Below.refl _ _)
  go_enter Tryz.func64, Tryz.ntmps64
  go_upto_region 1 with fail
  rw [← Hw1.out]
  go_wp2_with (go_at_call 20; refine (I.out _).mono ?_; rintro e w' ⟨rfl, rfl⟩)
  go_ret
  exact ⟨rfl, Bw1.out⟩
theorem built_prio0 (a b : Int) : Tryz.prog.built 105 [(0, .int .i64 a), (1, .int .i64 b)] = some #[.int .i64 a, .int .i64 b, .int .i64 0] := by kernel_rfl
attribute [local go_sem] built_prio0
def effOk (e : Int × Nat) : Bool := decide (0 ≤ e.1 ∧ e.1 ≤ 15) && decide (e.2 ≤ 40)
set_option maxHeartbeats 4000000 in
theorem aeff_any (w : World) (lev : Int) (qa : Option Addr) (qn qc : Nat) :
    Calls Tryz.prog 24 #[.agg #[.int .i64 lev, .slice qa qn qc]] w fun e w' => e = .returned (.bool (effOk (lev, qn))) ∧ Below w.heap.size w w' := by
  obtain ⟨b1, h1⟩ : ∃ b, b = decide (0 ≤ lev ∧ lev ≤ 15) := ⟨_, rfl⟩
  obtain ⟨b2, h2⟩ : ∃ b, b = decide (qn ≤ 40) := ⟨_, rfl⟩
  have RV : effOk (lev, qn) = (b1 && b2) := by rw [h1, h2]; rfl
  have M1 := hide (show ∀ W, Calls Tryz.prog 60 #[.agg #[.int .i64 0, .int .i64 lev, .int .i64 0]] W fun e w' => e = .returned (.bool b1) ∧ Below W.heap.size W w' from fun W => by
    have h := pmay_any W 0 lev 0
    have e : mayP ⟨0, lev, 0⟩ = b1 := by rw [h1]; simp [mayP]
    rwa [e] at h)
  have P1 := hide (show ∀ W, Calls Tryz.prog 61 #[.slice qa qn qc] W fun e w' => e = .returned (.bool b2) ∧ W = w' from fun W => by rw [h2]; exact aprog_any qa qn qc W)
  rw [RV]
  clear RV h1 h2
  obtain ⟨w1, hw1⟩ : ∃ z, z = w.alloc (.cells #[.int .i64 lev, .slice qa qn qc] 50) := ⟨_, rfl⟩
  have bw1 : Below w.heap.size w w1 := by rw [hw1]; exact (Below.refl w.heap.size w).alloc (Nat.le_refl _) _
  have ew1 : w1.heap[w.heap.size]? = some (.cells #[.int .i64 lev, .slice qa qn qc] 50 (0, 0)) := by rw [hw1]; exact heap_alloc_new _ _
  have K0 := hide (fun (Y : World) (b : Below w1.heap.size w1 Y) => show Y.cell? ⟨w.heap.size, 0, none⟩ = some (.int .i64 lev) from by rw [cell_of_row _ _ _ _ _ _ ((b.block _ (lt_of_heap ew1)).trans ew1)]; rfl)
  have K1 := hide (fun (Y : World) (b : Below w1.heap.size w1 Y) => show Y.cell? ⟨w.heap.size, 1, none⟩ = some (.slice qa qn qc) from by rw [cell_of_row _ _ _ _ _ _ ((b.block _ (lt_of_heap ew1)).trans ew1)]; rfl)
  have Bw1 := hide bw1
  have Hw1 := hide hw1
  clear hw1 bw1 ew1
  have y0 := K0.out _ (Below.refl _ _)
  have ARM := True.intro
  cases b1 with
  | false =>
    go_enter Tryz.func24, Tryz.ntmps24
    go_upto_region 1 with fail
    rw [← Hw1.out]
    go_wp2_with (first
      | (refine wpList_build rfl 105 _ rfl (by kernel_rfl) ?_)
      | (go_at_call 60; refine (M1.out _).mono ?_; rintro e w2 ⟨rfl, b2⟩; have B2 := hide (Bw1.out.trans (b2.mono Bw1.out.size)); clear b2))
    go_ret
    exact ⟨rfl, B2.out⟩
  | true =>
    go_enter Tryz.func24, Tryz.ntmps24
    go_upto_region 1 with fail
    rw [← Hw1.out]
    go_wp2_with (first
      | (refine wpList_build rfl 105 _ rfl (by kernel_rfl) ?_)
      | (go_at_call 60; refine (M1.out _).mono ?_; rintro e w2 ⟨rfl, b2⟩; have y1 := K1.out _ b2; have B2 := hide (Bw1.out.trans (b2.mono Bw1.out.size)); clear b2)
      | (go_at_call 61; refine (P1.out _).mono ?_; rintro e w3 ⟨rfl, rfl⟩))
    go_ret
    exact ⟨rfl, B2.out⟩
set_option maxHeartbeats 4000000 in
theorem abase_any (w : World) (cls lev per dl bud line : Int) (ua : Option Addr) (un uc : Nat) (qa : Option Addr) (qn qc : Nat) :
    Calls Tryz.prog 62 #[.agg #[.int .i64 cls, .int .i64 lev, .int .i64 per, .int .i64 dl, .int .i64 bud, .int .i64 line, .slice ua un uc, .slice qa qn qc]] w fun e w' => e = .returned (.agg #[.int .i64 cls, .int .i64 lev, .int .i64 0]) ∧ Below w.heap.size w w' := by
  go_enter Tryz.func62, Tryz.ntmps62
  go_wp2_with (refine wpList_build rfl 105 _ rfl (by kernel_rfl) ?_)
  exact bodyPost_ret (v := .agg #[.int .i64 cls, .int .i64 lev, .int .i64 0]) (by simp [results, Tryz.results62, go_sem]) rfl ⟨rfl, ((Below.refl _ _).alloc (Nat.le_refl _) _).alloc (by simp) _⟩
def timeOk (per dl bud : Int) : Bool := decide (1 ≤ per ∧ per ≤ 1000000) && decide (1 ≤ dl ∧ dl ≤ per) && decide (1 ≤ bud ∧ bud ≤ dl)
set_option maxHeartbeats 4000000 in
theorem atime_any (w : World) (cls lev per dl bud line : Int) (ua : Option Addr) (un uc : Nat) (qa : Option Addr) (qn qc : Nat) :
    Calls Tryz.prog 63 #[.agg #[.int .i64 cls, .int .i64 lev, .int .i64 per, .int .i64 dl, .int .i64 bud, .int .i64 line, .slice ua un uc, .slice qa qn qc]] w fun e w' => e = .returned (.bool (timeOk per dl bud)) ∧ Below w.heap.size w w' := by
  obtain ⟨c1, h1⟩ : ∃ b, b = decide (1 ≤ per ∧ per ≤ 1000000) := ⟨_, rfl⟩
  obtain ⟨c2, h2⟩ : ∃ b, b = decide (1 ≤ dl ∧ dl ≤ per) := ⟨_, rfl⟩
  obtain ⟨c3, h3⟩ : ∃ b, b = decide (1 ≤ bud ∧ bud ≤ dl) := ⟨_, rfl⟩
  have I1 := hide (fun W => awithin_is per 1 1000000 c1 h1 W)
  have I2 := hide (fun W => awithin_is dl 1 per c2 h2 W)
  have I3 := hide (fun W => awithin_is bud 1 dl c3 h3 W)
  rw [show timeOk per dl bud = (c1 && c2 && c3) from by rw [h1, h2, h3]; rfl]
  clear h1 h2 h3
  obtain ⟨w1, hw1⟩ : ∃ z, z = w.alloc (.cells #[.int .i64 cls, .int .i64 lev, .int .i64 per, .int .i64 dl, .int .i64 bud, .int .i64 line, .slice ua un uc, .slice qa qn qc] 47) := ⟨_, rfl⟩
  have bw1 : Below w.heap.size w w1 := by rw [hw1]; exact (Below.refl w.heap.size w).alloc (Nat.le_refl _) _
  have ew1 : w1.heap[w.heap.size]? = some (.cells #[.int .i64 cls, .int .i64 lev, .int .i64 per, .int .i64 dl, .int .i64 bud, .int .i64 line, .slice ua un uc, .slice qa qn qc] 47 (0, 0)) := by rw [hw1]; exact heap_alloc_new _ _
  have K2 := hide (fun (Y : World) (b : Below w1.heap.size w1 Y) => show Y.cell? ⟨w.heap.size, 2, none⟩ = some (.int .i64 per) from by rw [cell_of_row _ _ _ _ _ _ ((b.block _ (lt_of_heap ew1)).trans ew1)]; rfl)
  have K3 := hide (fun (Y : World) (b : Below w1.heap.size w1 Y) => show Y.cell? ⟨w.heap.size, 3, none⟩ = some (.int .i64 dl) from by rw [cell_of_row _ _ _ _ _ _ ((b.block _ (lt_of_heap ew1)).trans ew1)]; rfl)
  have K4 := hide (fun (Y : World) (b : Below w1.heap.size w1 Y) => show Y.cell? ⟨w.heap.size, 4, none⟩ = some (.int .i64 bud) from by rw [cell_of_row _ _ _ _ _ _ ((b.block _ (lt_of_heap ew1)).trans ew1)]; rfl)
  have Bw1 := hide bw1
  have Hw1 := hide hw1
  clear hw1 bw1 ew1
  have y2 := K2.out _ (Below.refl _ _)
  have y3 := K3.out _ (Below.refl _ _)
  have y4 := K4.out _ (Below.refl _ _)
  have BB := hide Bw1.out
  cases c1 with
  | false =>
    go_enter Tryz.func63, Tryz.ntmps63
    go_upto_region 1 with fail
    rw [← Hw1.out]
    go_wp2_with (first
      | (go_at_call 20; with_reducible refine (I1.out _).mono ?_; rintro e w' ⟨rfl, rfl⟩)
      | (go_at_call 20; with_reducible refine (I2.out _).mono ?_; rintro e w' ⟨rfl, rfl⟩)
      | (go_at_call 20; with_reducible refine (I3.out _).mono ?_; rintro e w' ⟨rfl, rfl⟩)
      | fail)
    go_ret
    exact ⟨rfl, BB.out⟩
  | true =>
    cases c2 with
    | false =>
      go_enter Tryz.func63, Tryz.ntmps63
      go_upto_region 1 with fail
      rw [← Hw1.out]
      go_wp2_with (first
        | (go_at_call 20; with_reducible refine (I1.out _).mono ?_; rintro e w' ⟨rfl, rfl⟩)
        | (go_at_call 20; with_reducible refine (I2.out _).mono ?_; rintro e w' ⟨rfl, rfl⟩)
        | (go_at_call 20; with_reducible refine (I3.out _).mono ?_; rintro e w' ⟨rfl, rfl⟩)
        | fail)
      go_ret
      exact ⟨rfl, BB.out⟩
    | true =>
      cases c3 with
      | false =>
        go_enter Tryz.func63, Tryz.ntmps63
        go_upto_region 1 with fail
        rw [← Hw1.out]
        go_wp2_with (first
          | (go_at_call 20; with_reducible refine (I1.out _).mono ?_; rintro e w' ⟨rfl, rfl⟩)
          | (go_at_call 20; with_reducible refine (I2.out _).mono ?_; rintro e w' ⟨rfl, rfl⟩)
          | (go_at_call 20; with_reducible refine (I3.out _).mono ?_; rintro e w' ⟨rfl, rfl⟩)
          | fail)
        go_ret
        exact ⟨rfl, BB.out⟩
      | true =>
        go_enter Tryz.func63, Tryz.ntmps63
        go_upto_region 1 with fail
        rw [← Hw1.out]
        go_wp2_with (first
          | (go_at_call 20; with_reducible refine (I1.out _).mono ?_; rintro e w' ⟨rfl, rfl⟩)
          | (go_at_call 20; with_reducible refine (I2.out _).mono ?_; rintro e w' ⟨rfl, rfl⟩)
          | (go_at_call 20; with_reducible refine (I3.out _).mono ?_; rintro e w' ⟨rfl, rfl⟩)
          | fail)
        go_ret
        exact ⟨rfl, BB.out⟩
set_option maxHeartbeats 4000000 in
theorem arel_any (w : World) (l : Int) (cls lev per dl bud line : Int) (ua : Option Addr) (un uc : Nat) (qa : Option Addr) (qn qc : Nat) :
    Calls Tryz.prog 65 #[.int .i64 l, .agg #[.int .i64 cls, .int .i64 lev, .int .i64 per, .int .i64 dl, .int .i64 bud, .int .i64 line, .slice ua un uc, .slice qa qn qc]] w fun e w' => e = .returned (.bool (decide (line ≠ -1) && decide (line = l))) ∧ Below w.heap.size w w' := by
  obtain ⟨w1, hw1⟩ : ∃ z, z = w.alloc (.cells #[.int .i64 cls, .int .i64 lev, .int .i64 per, .int .i64 dl, .int .i64 bud, .int .i64 line, .slice ua un uc, .slice qa qn qc] 47) := ⟨_, rfl⟩
  have bw1 : Below w.heap.size w w1 := by rw [hw1]; exact (Below.refl w.heap.size w).alloc (Nat.le_refl _) _
  have ew1 : w1.heap[w.heap.size]? = some (.cells #[.int .i64 cls, .int .i64 lev, .int .i64 per, .int .i64 dl, .int .i64 bud, .int .i64 line, .slice ua un uc, .slice qa qn qc] 47 (0, 0)) := by rw [hw1]; exact heap_alloc_new _ _
  have K5 := hide (fun (Y : World) (b : Below w1.heap.size w1 Y) => show Y.cell? ⟨w.heap.size, 5, none⟩ = some (.int .i64 line) from by rw [cell_of_row _ _ _ _ _ _ ((b.block _ (lt_of_heap ew1)).trans ew1)]; rfl)
  have Bw1 := hide bw1
  have Hw1 := hide hw1
  clear hw1 bw1 ew1
  have y5 := K5.out _ (Below.refl _ _)
  by_cases h : line = -1
  · subst h
    go_enter Tryz.func65, Tryz.ntmps65
    go_upto_region 1 with fail
    rw [← Hw1.out]
    go_wp2_with fail
    go_ret
    exact ⟨ret_bool (by simp), Bw1.out⟩
  · have hb : (line == -1) = false := by simpa using h
    rw [decide_eq_true h, Bool.true_and]
    go_enter Tryz.func65, Tryz.ntmps65
    go_upto_region 1 with fail
    rw [← Hw1.out]
    go_wp2_with fail
    go_ret
    exact ⟨ret_bool (by rw [Bool.eq_iff_iff]; first | (simp; done) | (simp; intro _; exact h)), Bw1.out⟩
set_option maxHeartbeats 4000000 in
theorem aeach_gap (w : World) (a : Option Addr) (n c : Nat) (xs : List Int) (hr : Reads 1 nuVals w a n xs) (hn : n ≤ 100) (most : Int) :
    Calls Tryz.prog 21 #[.slice a n c, .int .i64 most, .func (.func 22) #[] #[]] w fun e w' => e = .returned (.bool (decide ((n : Int) ≤ most) && xs.all (fun x => gapOk x))) ∧ Below w.heap.size w w' := by
  have HR := hide (fun (W : World) (b : Below w.heap.size w W) => hr.below b)
  have HL := hide hr.1
  have n2 : (n : Int) ≤ 1000 := by omega
  have CF := hide (show ∀ W : World, Below w.heap.size w W → ∀ x ∈ xs, Calls Tryz.prog 22 #[.int .i64 x] W fun e w' => e = .returned (.bool (gapOk x)) ∧ Below W.heap.size W w' from fun W b x _ => (agap_any x W).mono (by rintro e w' ⟨he, rfl⟩; exact ⟨he, Below.refl _ _⟩))
  clear hr hn
  by_cases hm : most < (n : Int)
  · rw [show decide ((n : Int) ≤ most) = false from decide_eq_false (by omega), Bool.false_and]
    go_enter Tryz.func21, Tryz.ntmps21
    go_wp2_with fail
    go_ret
    exact ⟨rfl, Below.refl _ _⟩
  rw [show decide ((n : Int) ≤ most) = true from decide_eq_true (by omega), Bool.true_and]
  obtain ⟨R, hR⟩ : ∃ R, R = xs.all (fun x => gapOk x) := ⟨_, rfl⟩
  have HRR := hide hR
  rw [← hR]
  clear hR
  go_enter Tryz.func21, Tryz.ntmps21
  go_wp2_with fail
  go_loopw [15] (fun iv wr => ∃ i : Nat, i ≤ n ∧ iv = .int .i64 (i : Int) ∧ Hid (Below w.heap.size w wr) ∧ Hid (∀ (j : Nat) (x : Int), j < i → xs[j]? = some x → (gapOk x) = true)) (fun iv _ => n - (intOf iv).toNat)
  case atStart => exact ⟨0, Nat.zero_le _, rfl, Below.refl _ _, fun j x hj => absurd hj (by omega)⟩
  case round =>
    obtain ⟨i, hi, rfl, hB, hA⟩ := hrel
    rename World => w1
    have B1 := hide hB.out
    have A1 := hide hA.out
    clear hB hA
    by_cases hlt : i < n
    · have i0 : (0 : Int) ≤ (i : Int) := by omega
      have i1 : (i : Int) < (n : Int) := by omega
      obtain ⟨x, pb, po, hx, rfl, hc⟩ := (HR.out _ B1.out).at_ hlt
      have y0 : w1.cell? ⟨pb, po + i, none⟩ = some (.int .i64 x) := by
        have h := hc 0 _ rfl
        rwa [Nat.mul_one, Nat.add_zero] at h
      have C := hide (CF.out w1 B1.out x (List.mem_of_getElem? hx))
      have X := hide hx
      have BX := hide B1.out
      obtain ⟨r, hr⟩ : ∃ r, r = (gapOk x) := ⟨_, rfl⟩
      rw [← hr] at C
      have ER := hide hr.symm
      clear hc hx hr
      cases r with
      | false =>
        have NO := hide (show R = false from by rw [HRR.out]; exact all_false X.out ER.out)
        go_wp2_with (go_at_call 22; refine C.out.mono ?_; rintro e w3 ⟨rfl, b3⟩; have B3 := hide (BX.out.trans (b3.mono BX.out.size)); clear b3)
        go_ret
        exact ⟨by rw [NO.out]; rfl, B3.out⟩
      | true =>
        go_wp2_with (go_at_call 22; refine C.out.mono ?_; rintro e w3 ⟨rfl, b3⟩; have B3 := hide (BX.out.trans (b3.mono BX.out.size)); clear b3)
        go_roundw
        case rel =>
          refine ⟨i + 1, by omega, by go_num, B3.out, fun j u hj hu => ?_⟩
          by_cases hji : j < i
          · exact A1.out j u hji hu
          · obtain rfl : j = i := by omega
            rw [X.out] at hu; injection hu with hu; subst hu; exact ER.out
        case measure => simp [intOf]; omega
    · obtain rfl : i = n := by omega
      have YES := hide (show R = true from by
        rw [HRR.out]
        exact List.all_eq_true.2 fun x hx => by
          obtain ⟨j, hj⟩ := List.getElem?_of_mem hx
          exact A1.out j x (by have := (List.getElem?_eq_some_iff.1 hj).1; have := HL.out; omega) hj)
      clear hlt hi
      go_wp2_with fail
      go_ret
      exact ⟨by rw [YES.out]; rfl, B1.out⟩
set_option maxHeartbeats 4000000 in
theorem aeach_mut (w : World) (ta : Option Addr) (tn tc : Nat) (ea : Option Addr) (en ec : Nat) (ma : Option Addr) (mn mc : Nat) (ga : Option Addr) (gn gc : Nat) (frames dog : Int) (a : Option Addr) (n c : Nat) (xs : List Int) (hr : Reads 1 nuVals w a n xs) (hn : n ≤ 100) (most : Int) (hx : mn ≤ 12) :
    Calls Tryz.prog 21 #[.slice a n c, .int .i64 most, .func (.func 64) #[.agg #[.slice ta tn tc, .slice ea en ec, .slice ma mn mc, .slice ga gn gc, .int .i64 frames, .int .i64 dog]] #[]] w fun e w' => e = .returned (.bool (decide ((n : Int) ≤ most) && xs.all (fun x => isMu mn x))) ∧ Below w.heap.size w w' := by
  have HR := hide (fun (W : World) (b : Below w.heap.size w W) => hr.below b)
  have HL := hide hr.1
  have n2 : (n : Int) ≤ 1000 := by omega
  have CF := hide (show ∀ W : World, Below w.heap.size w W → ∀ x ∈ xs, Calls Tryz.prog 64 #[.agg #[.slice ta tn tc, .slice ea en ec, .slice ma mn mc, .slice ga gn gc, .int .i64 frames, .int .i64 dog], .int .i64 x] W fun e w' => e = .returned (.bool (isMu mn x)) ∧ Below W.heap.size W w' from fun W b x _ => ahasm_any W ta tn tc ea en ec ma mn mc ga gn gc frames dog hx x)
  clear hr hn hx
  by_cases hm : most < (n : Int)
  · rw [show decide ((n : Int) ≤ most) = false from decide_eq_false (by omega), Bool.false_and]
    go_enter Tryz.func21, Tryz.ntmps21
    go_wp2_with fail
    go_ret
    exact ⟨rfl, Below.refl _ _⟩
  rw [show decide ((n : Int) ≤ most) = true from decide_eq_true (by omega), Bool.true_and]
  obtain ⟨R, hR⟩ : ∃ R, R = xs.all (fun x => isMu mn x) := ⟨_, rfl⟩
  have HRR := hide hR
  rw [← hR]
  clear hR
  go_enter Tryz.func21, Tryz.ntmps21
  go_wp2_with fail
  go_loopw [15] (fun iv wr => ∃ i : Nat, i ≤ n ∧ iv = .int .i64 (i : Int) ∧ Hid (Below w.heap.size w wr) ∧ Hid (∀ (j : Nat) (x : Int), j < i → xs[j]? = some x → (isMu mn x) = true)) (fun iv _ => n - (intOf iv).toNat)
  case atStart => exact ⟨0, Nat.zero_le _, rfl, Below.refl _ _, fun j x hj => absurd hj (by omega)⟩
  case round =>
    obtain ⟨i, hi, rfl, hB, hA⟩ := hrel
    rename World => w1
    have B1 := hide hB.out
    have A1 := hide hA.out
    clear hB hA
    by_cases hlt : i < n
    · have i0 : (0 : Int) ≤ (i : Int) := by omega
      have i1 : (i : Int) < (n : Int) := by omega
      obtain ⟨x, pb, po, hx, rfl, hc⟩ := (HR.out _ B1.out).at_ hlt
      have y0 : w1.cell? ⟨pb, po + i, none⟩ = some (.int .i64 x) := by
        have h := hc 0 _ rfl
        rwa [Nat.mul_one, Nat.add_zero] at h
      have C := hide (CF.out w1 B1.out x (List.mem_of_getElem? hx))
      have X := hide hx
      have BX := hide B1.out
      obtain ⟨r, hr⟩ : ∃ r, r = (isMu mn x) := ⟨_, rfl⟩
      rw [← hr] at C
      have ER := hide hr.symm
      clear hc hx hr
      cases r with
      | false =>
        have NO := hide (show R = false from by rw [HRR.out]; exact all_false X.out ER.out)
        go_wp2_with (go_at_call 64; refine C.out.mono ?_; rintro e w3 ⟨rfl, b3⟩; have B3 := hide (BX.out.trans (b3.mono BX.out.size)); clear b3)
        go_ret
        exact ⟨by rw [NO.out]; rfl, B3.out⟩
      | true =>
        go_wp2_with (go_at_call 64; refine C.out.mono ?_; rintro e w3 ⟨rfl, b3⟩; have B3 := hide (BX.out.trans (b3.mono BX.out.size)); clear b3)
        go_roundw
        case rel =>
          refine ⟨i + 1, by omega, by go_num, B3.out, fun j u hj hu => ?_⟩
          by_cases hji : j < i
          · exact A1.out j u hji hu
          · obtain rfl : j = i := by omega
            rw [X.out] at hu; injection hu with hu; subst hu; exact ER.out
        case measure => simp [intOf]; omega
    · obtain rfl : i = n := by omega
      have YES := hide (show R = true from by
        rw [HRR.out]
        exact List.all_eq_true.2 fun x hx => by
          obtain ⟨j, hj⟩ := List.getElem?_of_mem hx
          exact A1.out j x (by have := (List.getElem?_eq_some_iff.1 hj).1; have := HL.out; omega) hj)
      clear hlt hi
      go_wp2_with fail
      go_ret
      exact ⟨by rw [YES.out]; rfl, B1.out⟩
set_option maxHeartbeats 4000000 in
theorem aeach_eff (w : World) (a : Option Addr) (n c : Nat) (xs : List Ef) (hr : Reads 2 efVals w a n xs) (hn : n ≤ 100) (most : Int) :
    Calls Tryz.prog 23 #[.slice a n c, .int .i64 most, .func (.func 24) #[] #[]] w fun e w' => e = .returned (.bool (decide ((n : Int) ≤ most) && xs.all (fun x => effOk (x.lev, x.qn)))) ∧ Below w.heap.size w w' := by
  have HR := hide (fun (W : World) (b : Below w.heap.size w W) => hr.below b)
  have HL := hide hr.1
  have n2 : (n : Int) ≤ 1000 := by omega
  have CF := hide (show ∀ W : World, Below w.heap.size w W → ∀ x ∈ xs, Calls Tryz.prog 24 #[.agg #[.int .i64 x.lev, .slice x.qa x.qn x.qc]] W fun e w' => e = .returned (.bool (effOk (x.lev, x.qn))) ∧ Below W.heap.size W w' from fun W b x _ => aeff_any W x.lev x.qa x.qn x.qc)
  clear hr hn
  by_cases hm : most < (n : Int)
  · rw [show decide ((n : Int) ≤ most) = false from decide_eq_false (by omega), Bool.false_and]
    go_enter Tryz.func23, Tryz.ntmps23
    go_wp2_with fail
    go_ret
    exact ⟨rfl, Below.refl _ _⟩
  rw [show decide ((n : Int) ≤ most) = true from decide_eq_true (by omega), Bool.true_and]
  obtain ⟨R, hR⟩ : ∃ R, R = xs.all (fun x => effOk (x.lev, x.qn)) := ⟨_, rfl⟩
  have HRR := hide hR
  rw [← hR]
  clear hR
  go_enter Tryz.func23, Tryz.ntmps23
  go_wp2_with fail
  go_loopw [15] (fun iv wr => ∃ i : Nat, i ≤ n ∧ iv = .int .i64 (i : Int) ∧ Hid (Below w.heap.size w wr) ∧ Hid (∀ (j : Nat) (x : Ef), j < i → xs[j]? = some x → (effOk (x.lev, x.qn)) = true)) (fun iv _ => n - (intOf iv).toNat)
  case atStart => exact ⟨0, Nat.zero_le _, rfl, Below.refl _ _, fun j x hj => absurd hj (by omega)⟩
  case round =>
    obtain ⟨i, hi, rfl, hB, hA⟩ := hrel
    rename World => w1
    have B1 := hide hB.out
    have A1 := hide hA.out
    clear hB hA
    by_cases hlt : i < n
    · have i0 : (0 : Int) ≤ (i : Int) := by omega
      have i1 : (i : Int) < (n : Int) := by omega
      obtain ⟨x, pb, po, hx, rfl, hc⟩ := (HR.out _ B1.out).at_ hlt
      have y0 : w1.cell? ⟨pb, po + i * 2, none⟩ = some (.int .i64 x.lev) := hc 0 _ rfl
      have y1 : w1.cell? ⟨pb, po + i * 2 + 1, none⟩ = some (.slice x.qa x.qn x.qc) := hc 1 _ rfl
      obtain ⟨w2, hw2⟩ : ∃ w2, w2 = w1.alloc (.cells #[.int .i64 x.lev, .slice x.qa x.qn x.qc] 50) := ⟨_, rfl⟩
      have b2 : Below w.heap.size w w2 := by rw [hw2]; exact B1.out.alloc B1.out.size _
      have e2 : w2.heap[w1.heap.size]? = some (.cells #[.int .i64 x.lev, .slice x.qa x.qn x.qc] 50 (0, 0)) := by rw [hw2]; exact heap_alloc_new _ _
      have z0 : w2.cell? ⟨w1.heap.size, 0, none⟩ = some (.int .i64 x.lev) := by rw [cell_of_row _ _ _ _ _ _ e2]; rfl
      have z1 : w2.cell? ⟨w1.heap.size, 1, none⟩ = some (.slice x.qa x.qn x.qc) := by rw [cell_of_row _ _ _ _ _ _ e2]; rfl
      have C := hide (CF.out w2 b2 x (List.mem_of_getElem? hx))
      have X := hide hx
      have BX := hide b2
      have HW2 := hide hw2
      clear hw2 b2 e2
      obtain ⟨r, hr⟩ : ∃ r, r = (effOk (x.lev, x.qn)) := ⟨_, rfl⟩
      rw [← hr] at C
      have ER := hide hr.symm
      clear hc hx hr
      cases r with
      | false =>
        have NO := hide (show R = false from by rw [HRR.out]; exact all_false X.out ER.out)
        go_upto_region 6 with fail
        rw [← HW2.out]
        go_wp2_with (go_at_call 24; refine C.out.mono ?_; rintro e w3 ⟨rfl, b3⟩; have B3 := hide (BX.out.trans (b3.mono BX.out.size)); clear b3)
        go_ret
        exact ⟨by rw [NO.out]; rfl, B3.out⟩
      | true =>
        go_upto_region 6 with fail
        rw [← HW2.out]
        go_wp2_with (go_at_call 24; refine C.out.mono ?_; rintro e w3 ⟨rfl, b3⟩; have B3 := hide (BX.out.trans (b3.mono BX.out.size)); clear b3)
        go_roundw
        case rel =>
          refine ⟨i + 1, by omega, by go_num, B3.out, fun j u hj hu => ?_⟩
          by_cases hji : j < i
          · exact A1.out j u hji hu
          · obtain rfl : j = i := by omega
            rw [X.out] at hu; injection hu with hu; subst hu; exact ER.out
        case measure => simp [intOf]; omega
    · obtain rfl : i = n := by omega
      have YES := hide (show R = true from by
        rw [HRR.out]
        exact List.all_eq_true.2 fun x hx => by
          obtain ⟨j, hj⟩ := List.getElem?_of_mem hx
          exact A1.out j x (by have := (List.getElem?_eq_some_iff.1 hj).1; have := HL.out; omega) hj)
      clear hlt hi
      go_wp2_with fail
      go_ret
      exact ⟨by rw [YES.out]; rfl, B1.out⟩
end Go.Proofs.YtcmgkjjkhfcedaaGreat
