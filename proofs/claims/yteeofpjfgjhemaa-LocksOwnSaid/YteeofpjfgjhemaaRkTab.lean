/-
  The program's table of mutexes in memory; its short methods.
-/
import Derived.Test.YteeofpjfgjhemaaRkBoth
import Derived.Test.YteeofpjfgjhemaaSeqKit
namespace Go.Proofs.Yteeofpjfgjhemaa
open Go.ChangeShapes Go.WideShapes Go.ChangeAt Go.RowKit
set_option linter.unusedVariables false
/-- The table at T, its blocks those of Q. -/
structure Tab (w : World) (Q : Nat → Prop) (T : Nat) (ms : List Mu) : Prop where
  row : ∃ a c, w.cell? ⟨T, 0, none⟩ = some (.slice a ms.length c) ∧ Reads 2 muVals w a ms.length ms ∧ ∀ b o, a = some ⟨b, o, none⟩ → Q b
  own : Q T
  lt : ∀ i, Q i → i < w.heap.size
  good : goodMu ms = true
theorem Tab.keep {V Q : Nat → Prop} {w w' : World} {T : Nat} {ms : List Mu} (h : Tab w Q T ms) (t : Touch V w w') (d : ∀ i, Q i → ¬ V i) : Tab w' Q T ms := by
  obtain ⟨⟨a, c, h1, h2, h3⟩, h4, h5, h6⟩ := h
  exact ⟨⟨a, c, t.cell h1 (d _ h4), h2.touch t (fun b o e => d _ (h3 b o e)), h3⟩, h4, fun i hi => Nat.lt_of_lt_of_le (h5 i hi) t.size, h6⟩
theorem Tab.below {Q : Nat → Prop} {w w' : World} {T : Nat} {ms : List Mu} (h : Tab w Q T ms) (b : Below w.heap.size w w') : Tab w' Q T ms := h.keep (Touch.of_below (S := fun _ => False) b) (fun _ _ e => e)
theorem Tab.len {Q : Nat → Prop} {w : World} {T : Nat} {ms : List Mu} (h : Tab w Q T ms) : ms.length ≤ 6 := by
  have := h.good
  simp [goodMu] at this
  exact this.2
theorem Tab.ok {Q : Nat → Prop} {w : World} {T : Nat} {ms : List Mu} (h : Tab w Q T ms) {k : Nat} {x : Mu} (hx : ms[k]? = some x) : 1 ≤ x.r ∧ x.r ≤ 100 ∧ 1 ≤ x.l ∧ x.l ≤ 1000 := by
  have := h.good
  simp [goodMu] at this
  have h1 := this.1 x (List.mem_iff_getElem?.2 ⟨k, hx⟩)
  simpa [okMu] using h1
/-- A mutex of it. -/
theorem Tab.at_ {Q : Nat → Prop} {w : World} {T : Nat} {ms : List Mu} (h : Tab w Q T ms) {k : Nat} (hk : k < ms.length) : ∃ x b off c, ms[k]? = some x ∧ w.cell? ⟨T, 0, none⟩ = some (.slice (some ⟨b, off, none⟩) ms.length c) ∧ w.cell? ⟨b, off + k * 2, none⟩ = some (.int .i64 x.r) ∧ w.cell? ⟨b, off + k * 2 + 1, none⟩ = some (.int .i64 x.l) ∧ Q b := by
  obtain ⟨⟨a, c, h1, h2, h3⟩, _⟩ := h
  obtain ⟨x, b, off, hx, rfl, hc⟩ := h2.at_ hk
  exact ⟨x, b, off, c, hx, h1, hc 0 _ rfl, hc 1 _ rfl, h3 b off rfl⟩
set_option maxHeartbeats 2000000 in
theorem plen_any {Q : Nat → Prop} {w : World} {T : Nat} {ms : List Mu} (h : Tab w Q T ms) : Calls Try.prog 27 #[.pointer (some ⟨T, 0, none⟩)] w fun e w' => e = .returned (.int .i64 (ms.length : Nat)) ∧ w = w' := by
  obtain ⟨⟨a, c, h1, _⟩, _⟩ := h
  go_enter Try.func27, Try.ntmps27
  go_wp2_with fail
  go_ret
  exact ⟨rfl, rfl⟩
set_option maxHeartbeats 2000000 in
theorem plen_nil (w : World) : Calls Try.prog 27 #[.pointer none] w fun e w' => e = .returned (.int .i64 0) ∧ w = w' := by
  go_enter Try.func27, Try.ntmps27
  go_wp2_with fail
  go_ret
  exact ⟨rfl, rfl⟩
set_option maxHeartbeats 2000000 in
theorem phas_any {Q : Nat → Prop} {w : World} {T : Nat} {ms : List Mu} (h : Tab w Q T ms) (m : Int) : Calls Try.prog 33 #[.pointer (some ⟨T, 0, none⟩), .int .i64 m] w fun e w' => e = .returned (.bool (isMu ms.length m)) ∧ w = w' := by
  by_cases h0 : 0 ≤ m
  · go_enter Try.func33, Try.ntmps33
    go_wp2_with (go_at_call 27; refine (plen_any h).mono ?_; rintro e w' ⟨rfl, rfl⟩)
    go_ret
    exact ⟨ret_bool (by rw [Bool.eq_iff_iff]; simp [isMu]; omega), rfl⟩
  · go_enter Try.func33, Try.ntmps33
    go_wp2_with fail
    go_ret
    exact ⟨ret_bool (by rw [Bool.eq_iff_iff]; simp [isMu]; omega), rfl⟩
set_option maxHeartbeats 2000000 in
theorem phas_nil (w : World) (m : Int) : Calls Try.prog 33 #[.pointer none, .int .i64 m] w fun e w' => e = .returned (.bool false) ∧ w = w' := by
  by_cases h0 : 0 ≤ m
  · go_enter Try.func33, Try.ntmps33
    go_wp2_with (go_at_call 27; refine (plen_nil w).mono ?_; rintro e w' ⟨rfl, rfl⟩)
    go_ret
    exact ⟨ret_bool (by simp; omega), rfl⟩
  · go_enter Try.func33, Try.ntmps33
    go_wp2_with fail
    go_ret
    exact ⟨ret_bool (by simp), rfl⟩
set_option maxHeartbeats 2000000 in
theorem prank_any {Q : Nat → Prop} {w : World} {T : Nat} {ms : List Mu} (h : Tab w Q T ms) (m : Int) : Calls Try.prog 18 #[.pointer (some ⟨T, 0, none⟩), .int .i64 m] w fun e w' => e = .returned (.int .i64 (rankMu ms m)) ∧ w = w' := by
  obtain ⟨G, hG⟩ : ∃ G, G = rankMu ms m := ⟨_, rfl⟩
  rw [← hG]
  have n6 := h.len
  by_cases hi : isMu ms.length m = true
  · obtain ⟨k, rfl, hk⟩ := isMu_iff.1 hi
    obtain ⟨x, b, off, c, hx, c0, c1, c2, _⟩ := h.at_ hk
    have G2 := hide (show G = x.r from by rw [hG, rankMu, if_pos hi, muAt_nat hx])
    have H := hide h
    have k1 : (k : Int) < (ms.length : Nat) := by omega
    clear hG hx h
    have C := hide (show Calls Try.prog 33 #[.pointer (some ⟨T, 0, none⟩), .int .i64 (k : Nat)] w fun e w' => e = .returned (.bool true) ∧ w = w' from by have := phas_any H.out (k : Nat); rwa [hi] at this)
    go_enter Try.func18, Try.ntmps18
    go_wp2_with (go_at_call 33; refine C.out.mono ?_; rintro e w' ⟨rfl, rfl⟩)
    go_ret
    exact ⟨by rw [G2.out]; rfl, rfl⟩
  · have hf : isMu ms.length m = false := by simpa using hi
    have G2 := hide (show G = 0 from by rw [hG, rankMu, if_neg hi])
    have H := hide h
    clear hG h
    have C := hide (show Calls Try.prog 33 #[.pointer (some ⟨T, 0, none⟩), .int .i64 m] w fun e w' => e = .returned (.bool false) ∧ w = w' from by have := phas_any H.out m; rwa [hf] at this)
    go_enter Try.func18, Try.ntmps18
    go_wp2_with (go_at_call 33; refine C.out.mono ?_; rintro e w' ⟨rfl, rfl⟩)
    go_ret
    exact ⟨by rw [G2.out]; rfl, rfl⟩
set_option maxHeartbeats 2000000 in
theorem plimit_any {Q : Nat → Prop} {w : World} {T : Nat} {ms : List Mu} (h : Tab w Q T ms) (m : Int) : Calls Try.prog 48 #[.pointer (some ⟨T, 0, none⟩), .int .i64 m] w fun e w' => e = .returned (.int .i64 (limMu ms m)) ∧ w = w' := by
  obtain ⟨G, hG⟩ : ∃ G, G = limMu ms m := ⟨_, rfl⟩
  rw [← hG]
  have n6 := h.len
  by_cases hi : isMu ms.length m = true
  · obtain ⟨k, rfl, hk⟩ := isMu_iff.1 hi
    obtain ⟨x, b, off, c, hx, c0, c1, c2, _⟩ := h.at_ hk
    have G2 := hide (show G = x.l from by rw [hG, limMu, if_pos hi, muAt_nat hx])
    have H := hide h
    have k1 : (k : Int) < (ms.length : Nat) := by omega
    clear hG hx h
    have C := hide (show Calls Try.prog 33 #[.pointer (some ⟨T, 0, none⟩), .int .i64 (k : Nat)] w fun e w' => e = .returned (.bool true) ∧ w = w' from by have := phas_any H.out (k : Nat); rwa [hi] at this)
    go_enter Try.func48, Try.ntmps48
    go_wp2_with (go_at_call 33; refine C.out.mono ?_; rintro e w' ⟨rfl, rfl⟩)
    go_ret
    exact ⟨by rw [G2.out]; rfl, rfl⟩
  · have hf : isMu ms.length m = false := by simpa using hi
    have G2 := hide (show G = 0 from by rw [hG, limMu, if_neg hi])
    have H := hide h
    clear hG h
    have C := hide (show Calls Try.prog 33 #[.pointer (some ⟨T, 0, none⟩), .int .i64 m] w fun e w' => e = .returned (.bool false) ∧ w = w' from by have := phas_any H.out m; rwa [hf] at this)
    go_enter Try.func48, Try.ntmps48
    go_wp2_with (go_at_call 33; refine C.out.mono ?_; rintro e w' ⟨rfl, rfl⟩)
    go_ret
    exact ⟨by rw [G2.out]; rfl, rfl⟩
/-- A mutex's rank held against a floor. -/
def reachB (f : Int) (m : Mu) : Bool := decide (f ≤ m.r)
set_option maxHeartbeats 2000000 in
theorem preach_any (w : World) (f r l : Int) : Calls Try.prog 50 #[.int .i64 f, .agg #[.int .i64 r, .int .i64 l]] w fun e w' => e = .returned (.bool (reachB f ⟨r, l⟩)) ∧ w' = w.alloc (.cells #[.int .i64 r, .int .i64 l] 49) := by
  go_enter Try.func50, Try.ntmps50
  go_wp2_with fail
  go_ret
  exact ⟨ret_bool (by rw [Bool.eq_iff_iff]; simp [reachB]), rfl⟩
set_option maxHeartbeats 4000000 in
theorem pmayM_any (w : World) (r l : Int) : Calls Try.prog 25 #[.agg #[.int .i64 r, .int .i64 l]] w fun e w' => e = .returned (.bool (okMu ⟨r, l⟩)) ∧ Below w.heap.size w w' := by
  have B := hide ((Below.refl w.heap.size w).alloc (Nat.le_refl _) (.cells #[.int .i64 r, .int .i64 l] 49))
  by_cases h1 : 1 ≤ r
  · by_cases h2 : r ≤ 100
    · by_cases h3 : 1 ≤ l
      · go_enter Try.func25, Try.ntmps25
        go_wp2_with fail
        go_ret
        exact ⟨ret_bool (by rw [Bool.eq_iff_iff]; simp [okMu]; omega), B.out⟩
      · go_enter Try.func25, Try.ntmps25
        go_wp2_with fail
        go_ret
        exact ⟨ret_bool (by rw [Bool.eq_iff_iff]; simp [okMu]; omega), B.out⟩
    · go_enter Try.func25, Try.ntmps25
      go_wp2_with fail
      go_ret
      exact ⟨ret_bool (by rw [Bool.eq_iff_iff]; simp [okMu]; omega), B.out⟩
  · go_enter Try.func25, Try.ntmps25
    go_wp2_with fail
    go_ret
    exact ⟨ret_bool (by rw [Bool.eq_iff_iff]; simp [okMu]; omega), B.out⟩
end Go.Proofs.Yteeofpjfgjhemaa
