/-
  The program's New; what is told of no table; rank by its blocks.
-/
import Derived.Test.YteeofpjfgjhemaaRkSum
namespace Go.Proofs.Yteeofpjfgjhemaa
open Go.ChangeShapes Go.WideShapes Go.ChangeAt Go.RowKit Go.Shelf
set_option linter.unusedVariables false
set_option linter.unusedSimpArgs false
theorem mutex_info : (Try.prog.info? 49).map (fun i => (i.zero, i.size, i.bytes)) = some (some (.agg #[.int .i64 0, .int .i64 0]), 2, 16) := by kernel_rfl
set_option maxRecDepth 20000 in
theorem run_muts_nil (w : World) : (binOp .eql 22 (.slice none 0 0) (.slice none 0 0)).run Try.prog w = .ok (.bool true) w := by rfl
set_option maxRecDepth 20000 in
theorem run_muts_some (w : World) (ad : Addr) (n c : Nat) : (binOp .eql 22 (.slice (some ad) n c) (.slice none 0 0)).run Try.prog w = .ok (.bool false) w := by rfl
attribute [local go_sem] run_muts_nil run_muts_some
set_option maxHeartbeats 4000000 in
theorem pclone_any {w : World} {a : Option Addr} {n c : Nat} {ms : List Mu} (ha : Reads 2 muVals w a n ms) (hnil : a = none → c = 0) (hn : n ≤ 30) :
    Calls Try.prog 26 #[.slice a n c] w fun e w' => ∃ v, e = .returned v ∧ w'.ownsRow w.heap.size 49 2 v n (ms.flatMap muVals) ∧ Below w.heap.size w w' := by
  obtain ⟨i0, hi0, hz0, hz1, hz2⟩ := info_parts mutex_info
  cases a with
  | none =>
    obtain rfl := ha.isNil rfl
    obtain rfl : ms = [] := List.eq_nil_of_length_eq_zero ha.1
    obtain rfl := hnil rfl
    go_enter Try.func26, Try.ntmps26
    go_wp2_with fail
    go_ret
    exact ⟨_, rfl, World.ownsRow_nil _ _ _ _, Below.refl _ _⟩
  | some ad =>
    have HR := hide (ha.below ((Below.refl w.heap.size w).alloc (Nat.le_refl _) (.cells #[] 49)))
    have HO := hide (show (w.alloc (.cells #[] 49)).ownsRow w.heap.size 49 2 (.slice (some ⟨w.heap.size, 0, none⟩) 0 0) 0 [] from ⟨rfl, .inr ⟨w.heap.size, 0, #[], rfl, Nat.le_refl _, World.alloc_heap_new _ _, by simp, by simp, by simp⟩⟩)
    have HB := hide ((Below.refl w.heap.size w).alloc (Nat.le_refl _) (.cells #[] 49))
    clear ha hnil
    go_enter Try.func26, Try.ntmps26
    go_wp2_with (first
      | (at_builtin; refine wpList_append_reads rfl (.tmp 5) (.tmp 6) _ rfl w.heap.size 49 i0 _ 16 Try.underlying22 hi0 hz0 hz1 hz2 rfl (by omega) _ 0 [] rfl HO.out (some ad) n c ms rfl muVals_len muVals_cell HR.out (fun e => by cases e) (by unfold maxLen; omega) (by omega) HB.out.size ?_; intro v1 w1 o1 g1; have O1 := hide o1; have B1 := hide (HB.out.grown g1 HB.out.size (fun k hk => (HO.out.lt k hk).1)); clear o1 g1))
    go_ret
    exact ⟨_, rfl, by rw [Nat.zero_add, List.nil_append] at O1; exact O1.out, B1.out⟩
theorem built_tab (a : Option Addr) (n c : Nat) : Try.prog.built 60 [(0, .slice a n c)] = some #[.slice a n c] := by kernel_rfl
attribute [local go_sem] built_tab
set_option maxHeartbeats 8000000 in
theorem pnew_any (w : World) (a : Option Addr) (n c : Nat) (ms : List Mu) (ha : Reads 2 muVals w a n ms) (hnil : a = none → c = 0) (hn : n ≤ 30) :
    Calls Try.prog 9 #[.slice a n c] w fun e w' => (goodMu ms = true ∧ ∃ T Q, e = .returned (.tuple #[.pointer (some ⟨T, 0, none⟩), .int .i64 0]) ∧ Tab w' Q T ms ∧ Below w.heap.size w w' ∧ ∀ i, Q i → w.heap.size ≤ i) ∨ (goodMu ms = false ∧ e = .returned (.tuple #[.pointer none, .int .i64 2]) ∧ Below w.heap.size w w') := by
  have HL := hide ha.1
  have n63 : (n : Int) ≤ 9223372036854775807 := by omega
  by_cases h6 : 6 < n
  · have G := hide (show goodMu ms = false from by unfold goodMu; rw [HL.out]; simp; omega)
    have h6' : (6 : Int) < (n : Int) := by omega
    clear ha hnil
    go_enter Try.func9, Try.ntmps9
    go_wp2_with fail
    exact bodyPost_ret (v := .tuple #[.pointer none, .int .i64 2]) (by simp [results, Try.results9, go_sem]) rfl (.inr ⟨G.out, rfl, Below.refl _ _⟩)
  have h6' : ¬ (6 : Int) < (n : Int) := by omega
  have HA := hide ha
  have HN := hide hnil
  clear ha hnil
  go_enter Try.func9, Try.ntmps9
  go_wp2_with fail
  go_loopw [11] (fun i wr => ∃ k : Nat, k ≤ n ∧ i = .int .i64 k ∧ Hid (Below w.heap.size w wr ∧ ∀ (i : Nat) (x : Mu), i < k → ms[i]? = some x → okMu x = true)) (fun i _ => n - (intOf i).toNat)
  case atStart => exact ⟨0, Nat.zero_le _, rfl, Below.refl _ _, fun i x hi => absurd hi (by omega)⟩
  case round =>
    obtain ⟨k, hk, rfl, hZ⟩ := hrel
    by_cases hlt : k < n
    · have k0 : (0 : Int) ≤ (k : Int) := by omega
      have k1 : (k : Int) < (n : Int) := by omega
      obtain ⟨⟨r, l⟩, b, off, hx, rfl, hc⟩ := HA.out.at_ hlt
      have HX := hide hx
      have c0 : wr.cell? ⟨b, off + k * 2, none⟩ = some (.int .i64 r) := (hZ.out.1.cell (lt_of_cell? (hc 0 _ rfl))).trans (hc 0 _ rfl)
      have c1 : wr.cell? ⟨b, off + k * 2 + 1, none⟩ = some (.int .i64 l) := (hZ.out.1.cell (lt_of_cell? (hc 1 _ rfl))).trans (hc 1 _ rfl)
      clear hx hc
      obtain ⟨q, hq⟩ : ∃ q, q = okMu ⟨r, l⟩ := ⟨_, rfl⟩
      have HQ := hide hq
      have C := hide (fun (W : World) => show Calls Try.prog 25 #[.agg #[.int .i64 r, .int .i64 l]] W fun e w' => e = .returned (.bool q) ∧ Below W.heap.size W w' from by rw [hq]; exact pmayM_any W r l)
      obtain ⟨w1, hw1⟩ : ∃ w1, w1 = wr.alloc (.cells #[.int .i64 r, .int .i64 l] 49) := ⟨_, rfl⟩
      have B1 := hide (show Below w.heap.size w w1 from by rw [hw1]; exact hZ.out.1.alloc hZ.out.1.size _)
      have W1 := hide hw1
      clear hq hw1
      cases q with
      | false =>
        have G := hide (goodMu_bad HX.out HQ.out.symm)
        go_wp2_with (rw [← W1.out]; go_at_call 25; refine (C.out _).mono ?_; rintro e w2 ⟨rfl, b2⟩; have B2 := hide (B1.out.trans (b2.mono B1.out.size)); clear b2)
        exact bodyPost_ret (v := .tuple #[.pointer none, .int .i64 2]) (by simp [results, Try.results9, go_sem]) rfl (.inr ⟨G.out, rfl, B2.out⟩)
      | true =>
        have N := hide (show ∀ (i : Nat) (x : Mu), i < k + 1 → ms[i]? = some x → okMu x = true from fun i y hi hy => by
          by_cases e : i = k
          · subst e
            rw [HX.out] at hy
            injection hy with hy
            subst hy
            exact HQ.out.symm
          · exact hZ.out.2 i y (by omega) hy)
        go_wp2_with (rw [← W1.out]; go_at_call 25; refine (C.out _).mono ?_; rintro e w2 ⟨rfl, b2⟩; have B2 := hide (B1.out.trans (b2.mono B1.out.size)); clear b2)
        go_roundw
        case rel => exact ⟨k + 1, by omega, by go_num, B2.out, N.out⟩
        case measure => simp [intOf]; omega
    · obtain rfl : k = n := by omega
      have G := hide (show goodMu ms = true from by
        rw [goodMu_all fun i x hi => hZ.out.2 i x (by have h1 := (List.getElem?_eq_some_iff.1 hi).1; rw [HL.out] at h1; exact h1) hi, HL.out]
        simp; omega)
      have C := hide (pclone_any (c := c) (HA.out.below hZ.out.1) HN.out hn)
      go_wp2_with (first
        | (go_at_call 26; refine C.out.mono ?_; rintro e w2 ⟨v, rfl, o2, b2⟩; obtain ⟨a2, c2, rfl, r2, q1, q2, q3⟩ := own_reads muVals_len (by omega) o2; have B2 := hide (hZ.out.1.trans (b2.mono hZ.out.1.size)); have O2 := hide (show ∀ i, (Value.slice a2 k c2).ownBlock = some i → w.heap.size ≤ i ∧ i < w2.heap.size from fun i hi => ⟨Nat.le_trans hZ.out.1.size (o2.lt i hi).1, (o2.lt i hi).2⟩); have R2 := hide r2; clear o2 b2 r2 q1 q2 q3)
        | (refine wpList_build rfl 60 _ rfl (by kernel_rfl) ?_))
      have bz := (Below.refl w2.heap.size w2).alloc (Nat.le_refl _) (.cells #[.slice a2 k c2] 60)
      refine bodyPost_ret (v := .tuple #[.pointer (some ⟨w2.heap.size, 0, none⟩), .int .i64 0]) (by simp [results, Try.results9, go_sem]) rfl (.inl ?_)
      refine ⟨G.out, w2.heap.size, fun i => i = w2.heap.size ∨ (Value.slice a2 k c2).ownBlock = some i, rfl, ⟨⟨a2, c2, ?_, ?_, ?_⟩, .inl rfl, ?_, G.out⟩, B2.out.trans (bz.mono B2.out.size), ?_⟩
      · rw [HL.out]; unfold World.cell?; rw [World.alloc_heap_new]; rfl
      · rw [HL.out]; exact R2.out.below bz
      · intro b o e; subst e; exact .inr rfl
      · rintro i (rfl | hi)
        · simp
        · have := (O2.out i hi).2; simp; omega
      · rintro i (rfl | hi)
        · exact B2.out.size
        · exact (O2.out i hi).1
set_option maxHeartbeats 4000000 in
theorem pmay_nil (w : World) (b : Option Addr) (p d : Nat) (m : Int) : Calls Try.prog 41 #[.pointer none, .slice b p d, .int .i64 m] w fun e w' => e = .returned (.int .i64 1) ∧ Below w.heap.size w w' := by
  go_enter Try.func41, Try.ntmps41
  go_wp2_with fail
  refine bodyPost_ret (v := .int .i64 1) (by simp [results, Try.results41, go_sem]) rfl ⟨rfl, ?_⟩
  exact (((Below.refl w.heap.size w).alloc (Nat.le_refl _) _).alloc (by simp) _)
set_option maxHeartbeats 4000000 in
theorem prank_nil (w : World) (m : Int) : Calls Try.prog 18 #[.pointer none, .int .i64 m] w fun e w' => e = .returned (.int .i64 0) ∧ Below w.heap.size w w' := by
  go_enter Try.func18, Try.ntmps18
  go_wp2_with (go_at_call 33; refine (phas_nil w m).mono ?_; rintro e w' ⟨rfl, rfl⟩)
  go_ret
  exact ⟨rfl, Below.refl _ _⟩
set_option maxHeartbeats 4000000 in
theorem plimit_nil (w : World) (m : Int) : Calls Try.prog 48 #[.pointer none, .int .i64 m] w fun e w' => e = .returned (.int .i64 0) ∧ Below w.heap.size w w' := by
  go_enter Try.func48, Try.ntmps48
  go_wp2_with (go_at_call 33; refine (phas_nil w m).mono ?_; rintro e w' ⟨rfl, rfl⟩)
  go_ret
  exact ⟨rfl, Below.refl _ _⟩
/-- The program's table, its blocks left out. -/
def PTab (w : World) (S : Nat) (ms : List Mu) : Prop := ∃ Q, Tab w Q S ms
end Go.Proofs.Yteeofpjfgjhemaa
