/-
  What the walks lean on, part 10: PpMay RkBoth SeqKit RkTab RkSeq RkLeast RkMay RkSum.
-/
import Derived.RangeFuncNested
import Derived.RangeFuncBound
import Derived.RangeFuncCalls
import Derived.RangeFuncLeaves
import Derived.Shelf.Abstract
import Derived.Shelf.RegionOpen
import Derived.WalkKit
import Derived.OwnWalkIn
import Derived.TacticsInMore
import Derived.LoopNIn
import Derived.LoopIn
import Derived.Deep.RegionHeld3
import Derived.Test.YtcmgkjjkhfcedaaGreatPk09
/-
  The program's prio: within, May.
-/
namespace Go.Proofs.YtcmgkjjkhfcedaaGreat
open Go.ChangeShapes Go.WideShapes Go.ChangeAt Go.RowKit
set_option linter.unusedVariables false
theorem pwithin_any (w : World) (x h : Int) : Calls Tryz.prog 88 #[.int .i64 x, .int .i64 h] w fun e w' => e = .returned (.bool (decide (0 ≤ x ∧ x ≤ h))) ∧ w = w' := by
  by_cases l0 : 0 ≤ x
  · go_enter Tryz.func88, Tryz.ntmps88
    go_wp2_with fail
    go_ret
    exact ⟨ret_bool (by rw [Bool.eq_iff_iff]; simp; omega), rfl⟩
  · go_enter Tryz.func88, Tryz.ntmps88
    go_wp2_with fail
    go_ret
    exact ⟨ret_bool (by rw [Bool.eq_iff_iff]; simp; omega), rfl⟩
set_option maxHeartbeats 4000000 in
theorem pmay_any (w : World) (c l d : Int) : Calls Tryz.prog 60 #[.agg #[.int .i64 c, .int .i64 l, .int .i64 d]] w fun e w' => e = .returned (.bool (mayP ⟨c, l, d⟩)) ∧ Below w.heap.size w w' := by
  have B := hide ((Below.refl w.heap.size w).alloc (Nat.le_refl _) (.cells #[.int .i64 c, .int .i64 l, .int .i64 d] 105))
  by_cases c0 : c = 0
  · subst c0
    obtain ⟨b, hb⟩ : ∃ b, b = decide (0 ≤ l ∧ l ≤ 15) := ⟨_, rfl⟩
    have K := hide (show ∀ W, Calls Tryz.prog 88 #[.int .i64 l, .int .i64 15] W fun e w' => e = .returned (.bool b) ∧ W = w' from fun W => by rw [hb]; exact pwithin_any W l 15)
    have hm : mayP ⟨0, l, d⟩ = (b && decide (d = 0)) := by
      rw [hb, Bool.eq_iff_iff]; simp [mayP]; omega
    rw [hm]
    clear hm hb
    cases b with
    | true =>
      go_enter Tryz.func60, Tryz.ntmps60
      go_wp2_with (go_at_call 88; refine (K.out _).mono ?_; rintro e w' ⟨rfl, rfl⟩)
      go_ret
      exact ⟨ret_bool (by rw [Bool.eq_iff_iff]; simp), B.out⟩
    | false =>
      go_enter Tryz.func60, Tryz.ntmps60
      go_wp2_with (go_at_call 88; refine (K.out _).mono ?_; rintro e w' ⟨rfl, rfl⟩)
      go_ret
      exact ⟨ret_bool (by simp), B.out⟩
  by_cases c1 : c = 1
  · subst c1
    clear c0
    obtain ⟨b, hb⟩ : ∃ b, b = decide (0 ≤ d ∧ d ≤ 1099511627776) := ⟨_, rfl⟩
    have K := hide (show ∀ W, Calls Tryz.prog 88 #[.int .i64 d, .int .i64 1099511627776] W fun e w' => e = .returned (.bool b) ∧ W = w' from fun W => by rw [hb]; exact pwithin_any W d 1099511627776)
    have hm : mayP ⟨1, l, d⟩ = (decide (l = 0) && b) := by
      rw [hb, Bool.eq_iff_iff]; simp [mayP]
    rw [hm]
    clear hm hb
    by_cases l0 : l = 0
    · subst l0
      go_enter Tryz.func60, Tryz.ntmps60
      go_wp2_with (go_at_call 88; refine (K.out _).mono ?_; rintro e w' ⟨rfl, rfl⟩)
      go_ret
      exact ⟨ret_bool (by simp), B.out⟩
    · have l0' : (l == 0) = false := by simpa using l0
      go_enter Tryz.func60, Tryz.ntmps60
      go_wp2_with (go_at_call 88; refine (K.out _).mono ?_; rintro e w' ⟨rfl, rfl⟩)
      go_ret
      exact ⟨ret_bool (by simp [l0]), B.out⟩
  have c0' : (c == 0) = false := by simpa using c0
  have c1' : (c == 1) = false := by simpa using c1
  by_cases c2 : c = 2
  · subst c2
    clear c0 c1 c0' c1'
    obtain ⟨b, hb⟩ : ∃ b, b = decide (0 ≤ l ∧ l ≤ 63) := ⟨_, rfl⟩
    have K := hide (show ∀ W, Calls Tryz.prog 88 #[.int .i64 l, .int .i64 63] W fun e w' => e = .returned (.bool b) ∧ W = w' from fun W => by rw [hb]; exact pwithin_any W l 63)
    have hm : mayP ⟨2, l, d⟩ = (b && decide (d = 0)) := by
      rw [hb, Bool.eq_iff_iff]; simp [mayP]; omega
    rw [hm]
    clear hm hb
    cases b with
    | true =>
      go_enter Tryz.func60, Tryz.ntmps60
      go_wp2_with (go_at_call 88; refine (K.out _).mono ?_; rintro e w' ⟨rfl, rfl⟩)
      go_ret
      exact ⟨ret_bool (by rw [Bool.eq_iff_iff]; simp), B.out⟩
    | false =>
      go_enter Tryz.func60, Tryz.ntmps60
      go_wp2_with (go_at_call 88; refine (K.out _).mono ?_; rintro e w' ⟨rfl, rfl⟩)
      go_ret
      exact ⟨ret_bool (by simp), B.out⟩
  · have c2' : (c == 2) = false := by simpa using c2
    have hm : mayP ⟨c, l, d⟩ = false := by unfold mayP; rw [if_neg c0, if_neg c1, if_neg c2]
    rw [hm]
    clear c0 c1 c2
    go_enter Tryz.func60, Tryz.ntmps60
    go_wp2_with fail
    go_ret
    exact ⟨rfl, B.out⟩
end Go.Proofs.YtcmgkjjkhfcedaaGreat
/-
  Contracts of the program's rank (PRank, NilRank), its memory left open; awake of stage 10; the law RankNone.
-/
namespace Go.Proofs.YtcmgkjjkhfcedaaGreat
open Go.ChangeShapes Go.WideShapes Go.ChangeAt Go.RowKit
set_option linter.unusedVariables false
/-- A list of numbers that is handed in. -/
structure NumsIn (w : World) (b : Option Addr) (p d : Nat) (hs : List Int) : Prop where
  ints : Ints .i64 w b p hs
  le : p ≤ d
  max : d ≤ maxLen
  nil : b = none → d = 0
  few : p ≤ 30
  wf : ∀ h ∈ hs, (Lit.int .i64 h).wf = true
theorem NumsIn.below {w w' : World} {b : Option Addr} {p d : Nat} {hs : List Int} (h : NumsIn w b p d hs) (bw : Below w.heap.size w w') : NumsIn w' b p d hs := ⟨h.ints.below bw, h.le, h.max, h.nil, h.few, h.wf⟩
def three : List Mu := [⟨1, 5⟩, ⟨2, 7⟩, ⟨2, 9⟩]
theorem built_m1 : Tryz.prog.built 52 [(0, .int .i64 1), (1, .int .i64 5)] = some #[.int .i64 1, .int .i64 5] := by kernel_rfl
theorem built_m2 : Tryz.prog.built 52 [(0, .int .i64 2), (1, .int .i64 7)] = some #[.int .i64 2, .int .i64 7] := by kernel_rfl
theorem built_m3 : Tryz.prog.built 52 [(0, .int .i64 2), (1, .int .i64 9)] = some #[.int .i64 2, .int .i64 9] := by kernel_rfl
attribute [local go_sem] built_m1 built_m2 built_m3
section
variable {PT : World → Nat → List Mu → Prop}
theorem nums_one (w : World) (x : Int) (hx : (Lit.int .i64 x).wf = true) (n : Nat) (hn : n = w.heap.size) : NumsIn (w.alloc (.cells #[.int .i64 x] 3)) (some ⟨n, 0, none⟩) 1 1 [x] :=
  ⟨ints_cell1 _ _ _ _ _ hn, Nat.le_refl _, by unfold maxLen; omega, (fun e => by cases e), by omega, fun h hh => by rw [List.mem_singleton] at hh; rw [hh]; exact hx⟩
end
end Go.Proofs.YtcmgkjjkhfcedaaGreat
/-
  Ranges over functions, for texts of this project: what turns under Touch; a region that draws, within a round, op by op.
-/
namespace Go.Proofs.YtcmgkjjkhfcedaaGreat
open Go.ChangeShapes Go.WideShapes Go.ChangeAt Go.RowKit Go.Shelf
set_option linter.unusedVariables false
/-- What a call that only makes new blocks leaves. -/
theorem Touch.of_below' {S : Nat → Prop} {w w' : World} {B : Nat} (hB : w.heap.size ≤ B) (h : Below w.heap.size w w') : Touch S w w' := Touch.of_below h
theorem touchK_t {V : Nat → Prop} {A B C : World} (h : Touch V A B) (k : Touch V B C) : Touch V A C := h.trans k (fun _ hi => .inl hi)
theorem touchK_b {V : Nat → Prop} {w : World} (hV : ∀ i, w.heap.size ≤ i → V i) (W : World) (l : Nat) (o o' : Obj) (hl : w.heap.size ≤ l) (_ : W.heap[l]? = some o) (_ : o.isCells = false) (_ : o.isWalk = false) : Touch V W (W.putObj l o') :=
  Touch.of_grown (grownBy_putObj' W l o') (fun k e => by cases e; exact hV _ hl)
theorem ownFrom_touch {β : Type} {V : Nat → Prop} {B : Nat} {w₀ : World} (hB : ∀ i, B ≤ i → V i) : OwnFrom B (fun (_ : β) W => Touch V w₀ W) :=
  fun _ X Y row hs hg hr => hs.trans (S' := V) (Touch.of_grown hg (fun k e => hB _ (hr k e).1)) (fun _ hi => .inl hi)
/-- A step of the iterator's own that only makes new blocks. -/
theorem grown_of_below {w w' : World} (h : Below w.heap.size w w') : w.grownBy w' none := ⟨h.os, h.tape, h.output, h.size, fun k hk _ => h.block k hk⟩
theorem abides_below {β : Type} {B : Nat} {J : β → World → Prop} (h : AbidesFrom B J) {s : β} {w w' : World} (hj : J s w) (b : Below w.heap.size w w') : J s w' := h s w w' none hj (grown_of_below b) (fun _ e => by cases e)
/-- A step that only makes new blocks keeps whatever lay. -/
theorem keepsFrom_below {B : Nat} {W W' : World} (h : Below W.heap.size W W') : KeepsFrom B W W' := ⟨h.size, fun k o _ hk _ => (h.block k (lt_of_heap hk)).trans hk⟩
theorem boxed_below {W W' : World} {B : Nat} {t : TypeId} {v : Value} (h : Boxed W B t v) (b : Below W.heap.size W W') : Boxed W' B t v := (b.block B h.lt).trans h
theorem boxed_touch {V : Nat → Prop} {W W' : World} {B : Nat} {t : TypeId} {v : Value} (h : Boxed W B t v) (b : Touch V W W') (d : ¬ V B) : Boxed W' B t v := (b.block B h.lt d).trans h
section
variable {P : Program} {ops : Array Oper} {Q : Exit → Act → World → Prop} {md : Region.Mode} {l n : Nat}
/-- No operation of the region is a defer statement. -/
def noDefer (ops : Array Oper) : Bool := ops.all fun o => match o.op with | .defer _ => false | _ => true
theorem noDefer_at {o : Oper} {i : Nat} (h : noDefer ops = true) (ho : ops[i]? = some o) : ∀ c, o.op ≠ .defer c := by
  intro c hc
  have hi := (Array.getElem?_eq_some_iff.1 ho)
  obtain ⟨hlt, e⟩ := hi
  have := (Array.all_eq_true.1 h) i hlt
  rw [e, hc] at this
  cases this
theorem operIn_round {o : Oper} {a : Act} {w : World} {K : Act → World → Prop} (hd : ∀ c, o.op ≠ .defer c) (h : o.wp P a w K Q) : o.wpIn (Fence.wide.inRound l) n P a w K Q := by
  refine ⟨fun _ _ => trivial, ?_⟩
  rw [Oper.semAt_eq _ _ _ hd]
  unfold Oper.wp at h
  generalize (execOp a.eval o).run P w = r at *
  have hdep : (Fence.wide.inRound l).depth.isSome = true → 1 ≤ n := fun e => by cases e
  cases r with
  | ok x w' =>
    cases x <;> simp only [Oper.upon, Oper.uponIn] at h ⊢ <;>
      first
        | exact h
        | exact ⟨hdep, CallsIn.inRound l (callsIn_wide.2 h)⟩
        | exact ⟨hdep, fun c cs _ => let ⟨v, w', r, s⟩ := h c cs; ⟨v, w', r, stepsIn_wide.2 s⟩⟩
  | halt x w' => cases x <;> simp only [Oper.upon, Oper.uponIn] at h ⊢ <;> exact h
theorem wpOpIn_round {i : Nat} {a : Act} {w : World} {K : Act → World → Prop} (hd : noDefer ops = true) (hQ : ¬ LetsOut Q) (h : wpOp P ops Q i K a w) : wpOpIn (Fence.wide.inRound l) n P ops Q i K a w := by
  unfold wpOp at h
  unfold wpOpIn
  split
  · rename_i ho; simpa [ho] using h
  · rename_i o ho
    simp only [ho] at h
    split
    · rename_i hw
      simp only [hw, if_true] at h
      rcases h with h | h
      · exact operIn_round (noDefer_at hd ho) h
      · exact absurd h.2 hQ
    · rename_i hw
      simp only [hw] at h
      exact ⟨fun _ _ => trivial, h⟩
theorem wpAnyIn_round (hd : noDefer ops = true) (hQ : ¬ LetsOut Q) : ∀ (fuel : Nat) (listed : Array Bool) (a : Act) (w : World), wpAny P md ops Q fuel listed a w → wpAnyIn (Fence.wide.inRound l) n P md ops Q fuel listed a w
  | 0, _, _, _, h => h
  | fuel + 1, _, _, _, h => ⟨h.1, fun i hi => wpOpIn_round hd hQ (wpOp_mono (fun a' w' h' => wpAnyIn_round hd hQ fuel _ a' w' h') (h.2 i hi))⟩
/-- A region that draws, within a round: by its orders, as everywhere. -/
theorem region_round {id : Nat} {a : Act} {w : World} {S : World → Prop} (hd : noDefer ops = true) (hQ : ∀ e a w, NoPanic Q e a w → e ≠ .outgrown) (hm : P.follows .mixedOrders = true) (hS : S w.drew)
    (h : S w.drew → wpAnyH P .any ops (NoPanic Q) S ops.size (Array.replicate ops.size false) a w.drew) : (Code.region id ops true).wpIn (Fence.wide.inRound l) n P Q a w :=
  wpIn_mono (wpIn_region_any hm (wpAnyIn_round hd (fun ⟨a, w, hq⟩ => hQ _ _ _ hq rfl) _ _ _ _ (wpAny_of_held _ _ _ _ (h hS)))) NoPanic.imp
end
end Go.Proofs.YtcmgkjjkhfcedaaGreat
/-
  The program's table of mutexes in memory; its short methods.
-/
namespace Go.Proofs.YtcmgkjjkhfcedaaGreat
open Go.ChangeShapes Go.WideShapes Go.ChangeAt Go.RowKit
set_option linter.unusedVariables false
/-- The table at T, its blocks those of Q. -/
structure Tab (w : World) (Q : Nat → Prop) (T : Nat) (ms : List Mu) : Prop where
  row : ∃ a c, w.cell? ⟨T, 0, none⟩ = some (.slice a ms.length c) ∧ Reads 2 muVals w a ms.length ms ∧ ∀ b o, a = some ⟨b, o, none⟩ → Q b
  own : Q T
  lt : ∀ i, Q i → i < w.heap.size
  good : goodMu ms = true
theorem Tab.keep {V Q : Nat → Prop} {w w' : World} {T : Nat} {ms : List Mu} (h : Tab w Q T ms) (t : Touch V w w') (d : ∀ i, Q i → ¬ V i) : Tab w' Q T ms := by
  obtain ⟨⟨a, c, h1, h2, h3⟩, h4, h5, h6⟩ := h
  exact ⟨⟨a, c, t.cell h1 (d _ h4), h2.touch t (fun b o e => d _ (h3 b o e)), h3⟩, h4, fun i hi => Nat.lt_of_lt_of_le (h5 i hi) t.size, h6⟩
theorem Tab.below {Q : Nat → Prop} {w w' : World} {T : Nat} {ms : List Mu} (h : Tab w Q T ms) (b : Below w.heap.size w w') : Tab w' Q T ms := h.keep (Touch.of_below (S := fun _ => False) b) (fun _ _ e => e)
theorem Tab.len {Q : Nat → Prop} {w : World} {T : Nat} {ms : List Mu} (h : Tab w Q T ms) : ms.length ≤ 6 := by
  have := h.good
  simp [goodMu] at this
  exact this.2
theorem Tab.ok {Q : Nat → Prop} {w : World} {T : Nat} {ms : List Mu} (h : Tab w Q T ms) {k : Nat} {x : Mu} (hx : ms[k]? = some x) : 1 ≤ x.r ∧ x.r ≤ 100 ∧ 1 ≤ x.l ∧ x.l ≤ 1000 := by
  have := h.good
  simp [goodMu] at this
  have h1 := this.1 x (List.mem_iff_getElem?.2 ⟨k, hx⟩)
  simpa [okMu] using h1
/-- A mutex of it. -/
theorem Tab.at_ {Q : Nat → Prop} {w : World} {T : Nat} {ms : List Mu} (h : Tab w Q T ms) {k : Nat} (hk : k < ms.length) : ∃ x b off c, ms[k]? = some x ∧ w.cell? ⟨T, 0, none⟩ = some (.slice (some ⟨b, off, none⟩) ms.length c) ∧ w.cell? ⟨b, off + k * 2, none⟩ = some (.int .i64 x.r) ∧ w.cell? ⟨b, off + k * 2 + 1, none⟩ = some (.int .i64 x.l) ∧ Q b := by
  obtain ⟨⟨a, c, h1, h2, h3⟩, _⟩ := h
  obtain ⟨x, b, off, hx, rfl, hc⟩ := h2.at_ hk
  exact ⟨x, b, off, c, hx, h1, hc 0 _ rfl, hc 1 _ rfl, h3 b off rfl⟩
set_option maxHeartbeats 2000000 in
theorem plen_any {Q : Nat → Prop} {w : World} {T : Nat} {ms : List Mu} (h : Tab w Q T ms) : Calls Tryz.prog 105 #[.pointer (some ⟨T, 0, none⟩)] w fun e w' => e = .returned (.int .i64 (ms.length : Nat)) ∧ w = w' := by
  obtain ⟨⟨a, c, h1, _⟩, _⟩ := h
  go_enter Tryz.func105, Tryz.ntmps105
  go_wp2_with fail
  go_ret
  exact ⟨rfl, rfl⟩
set_option maxHeartbeats 2000000 in
theorem plen_nil (w : World) : Calls Tryz.prog 105 #[.pointer none] w fun e w' => e = .returned (.int .i64 0) ∧ w = w' := by
  go_enter Tryz.func105, Tryz.ntmps105
  go_wp2_with fail
  go_ret
  exact ⟨rfl, rfl⟩
set_option maxHeartbeats 2000000 in
theorem phas_any {Q : Nat → Prop} {w : World} {T : Nat} {ms : List Mu} (h : Tab w Q T ms) (m : Int) : Calls Tryz.prog 91 #[.pointer (some ⟨T, 0, none⟩), .int .i64 m] w fun e w' => e = .returned (.bool (isMu ms.length m)) ∧ w = w' := by
  by_cases h0 : 0 ≤ m
  · go_enter Tryz.func91, Tryz.ntmps91
    go_wp2_with (go_at_call 105; refine (plen_any h).mono ?_; rintro e w' ⟨rfl, rfl⟩)
    go_ret
    exact ⟨ret_bool (by rw [Bool.eq_iff_iff]; simp [isMu]; omega), rfl⟩
  · go_enter Tryz.func91, Tryz.ntmps91
    go_wp2_with fail
    go_ret
    exact ⟨ret_bool (by rw [Bool.eq_iff_iff]; simp [isMu]; omega), rfl⟩
set_option maxHeartbeats 2000000 in
theorem phas_nil (w : World) (m : Int) : Calls Tryz.prog 91 #[.pointer none, .int .i64 m] w fun e w' => e = .returned (.bool false) ∧ w = w' := by
  by_cases h0 : 0 ≤ m
  · go_enter Tryz.func91, Tryz.ntmps91
    go_wp2_with (go_at_call 105; refine (plen_nil w).mono ?_; rintro e w' ⟨rfl, rfl⟩)
    go_ret
    exact ⟨ret_bool (by simp; omega), rfl⟩
  · go_enter Tryz.func91, Tryz.ntmps91
    go_wp2_with fail
    go_ret
    exact ⟨ret_bool (by simp), rfl⟩
/-- A mutex's rank held against a floor. -/
def reachB (f : Int) (m : Mu) : Bool := decide (f ≤ m.r)
set_option maxHeartbeats 2000000 in
theorem preach_any (w : World) (f r l : Int) : Calls Tryz.prog 93 #[.int .i64 f, .agg #[.int .i64 r, .int .i64 l]] w fun e w' => e = .returned (.bool (reachB f ⟨r, l⟩)) ∧ w' = w.alloc (.cells #[.int .i64 r, .int .i64 l] 52) := by
  go_enter Tryz.func93, Tryz.ntmps93
  go_wp2_with fail
  go_ret
  exact ⟨ret_bool (by rw [Bool.eq_iff_iff]; simp [reachB]), rfl⟩
set_option maxHeartbeats 4000000 in
theorem pmayM_any (w : World) (r l : Int) : Calls Tryz.prog 58 #[.agg #[.int .i64 r, .int .i64 l]] w fun e w' => e = .returned (.bool (okMu ⟨r, l⟩)) ∧ Below w.heap.size w w' := by
  have B := hide ((Below.refl w.heap.size w).alloc (Nat.le_refl _) (.cells #[.int .i64 r, .int .i64 l] 52))
  by_cases h1 : 1 ≤ r
  · by_cases h2 : r ≤ 100
    · by_cases h3 : 1 ≤ l
      · go_enter Tryz.func58, Tryz.ntmps58
        go_wp2_with fail
        go_ret
        exact ⟨ret_bool (by rw [Bool.eq_iff_iff]; simp [okMu]; omega), B.out⟩
      · go_enter Tryz.func58, Tryz.ntmps58
        go_wp2_with fail
        go_ret
        exact ⟨ret_bool (by rw [Bool.eq_iff_iff]; simp [okMu]; omega), B.out⟩
    · go_enter Tryz.func58, Tryz.ntmps58
      go_wp2_with fail
      go_ret
      exact ⟨ret_bool (by rw [Bool.eq_iff_iff]; simp [okMu]; omega), B.out⟩
  · go_enter Tryz.func58, Tryz.ntmps58
    go_wp2_with fail
    go_ret
    exact ⟨ret_bool (by rw [Bool.eq_iff_iff]; simp [okMu]; omega), B.out⟩
end Go.Proofs.YtcmgkjjkhfcedaaGreat
/-
  The program's iterators over what is sought in a list: their contracts.
-/
namespace Go.Proofs.YtcmgkjjkhfcedaaGreat
open Go.ChangeShapes Go.WideShapes Go.ChangeAt Go.RowKit Go.Shelf
set_option linter.unusedVariables false
set_option linter.unusedSimpArgs false
attribute [local go_sem] Oper.semAt_some
abbrev Yes {α : Type} (p : α → Bool) := { x : α // p x = true }
theorem yes_snoc {α : Type} {p : α → Bool} {ys : List (Yes p)} {xs : List α} {k : Nat} {x : α} (h : ys.map (·.1) = (xs.take k).filter p) (hx : xs[k]? = some x) (hp : p x = true) : (ys ++ [(⟨x, hp⟩ : Yes p)]).map (·.1) = (xs.take (k + 1)).filter p := by
  rw [List.take_add_one, hx, List.filter_append, List.map_append, h]
  simp [hp]
theorem yes_skip {α : Type} {p : α → Bool} {ys : List (Yes p)} {xs : List α} {k : Nat} {x : α} (h : ys.map (·.1) = (xs.take k).filter p) (hx : xs[k]? = some x) (hp : p x = false) : ys.map (·.1) = (xs.take (k + 1)).filter p := by
  rw [List.take_add_one, hx, List.filter_append, h]
  simp [hp]
theorem yes_lt {α : Type} {p : α → Bool} {ys : List (Yes p)} {xs : List α} {k : Nat} (h : ys.map (·.1) = (xs.take k).filter p) : ys.length ≤ k := by
  have h1 := congrArg List.length h
  rw [List.length_map] at h1
  have h2 := List.length_filter_le p (xs.take k)
  have h3 := List.length_take_le k xs
  omega
theorem yes_pre {α : Type} {p : α → Bool} {ys : List (Yes p)} {xs : List α} {k : Nat} (h : ys.map (·.1) = (xs.take k).filter p) : ys.map (·.1) <+: xs.filter p := by
  refine ⟨(xs.drop k).filter p, ?_⟩
  rw [h, ← List.filter_append, List.take_append_drop]
set_option maxHeartbeats 2000000 in
theorem thoseI_any (a : Option Addr) (n c : Nat) (p : Option Addr) (w : World) : Calls Tryz.prog 90 #[.slice a n c, .func (.func 91) #[.pointer p] #[]] w fun e w' =>
    e = .returned (.func (.func 104) #[] #[.pointer (some ⟨w.heap.size, 0, none⟩), .pointer (some ⟨w.heap.size + 1, 0, none⟩)]) ∧ w' = (w.alloc (.cells #[.slice a n c] 25)).alloc (.cells #[.func (.func 91) #[.pointer p] #[]] 59) := by
  go_enter Tryz.func90, Tryz.ntmps90
  go_wp2_with fail
  go_ret
  exact ⟨rfl, rfl⟩
set_option maxHeartbeats 2000000 in
theorem thoseM_any (a : Option Addr) (n c : Nat) (f : Int) (w : World) : Calls Tryz.prog 92 #[.slice a n c, .func (.func 93) #[.int .i64 f] #[]] w fun e w' =>
    e = .returned (.func (.func 106) #[] #[.pointer (some ⟨w.heap.size, 0, none⟩), .pointer (some ⟨w.heap.size + 1, 0, none⟩)]) ∧ w' = (w.alloc (.cells #[.slice a n c] 24)).alloc (.cells #[.func (.func 93) #[.int .i64 f] #[]] 99) := by
  go_enter Tryz.func92, Tryz.ntmps92
  go_wp2_with fail
  go_ret
  exact ⟨rfl, rfl⟩
set_option maxRecDepth 100000 in
set_option maxHeartbeats 4000000 in
theorem thoseI1_in (n : Nat) (hn : 1 ≤ n) (l Bl Bs : Nat) (V : Nat → Prop) (p : Option Addr) (pred : Int → Bool) (a : Option Addr) (m c : Nat) (xs : List Int) (J Jx : List (Yes pred) → World → Prop) (W : World)
    (hHas : ∀ W', Touch V W W' → ∀ x, Calls Tryz.prog 91 #[.pointer p, .int .i64 x] W' fun e w' => e = .returned (.bool (pred x)) ∧ W' = w')
    (hY : ∀ pre x W, J pre W → pre.length < m → YieldAt Fence.wide (n - 1) Tryz.prog l #[.int .i64 x.1] W fun e W' => (e = .returned (.bool true) ∧ J (pre ++ [x]) W' ∧ Touch V W W') ∨ (e = .returned (.bool false) ∧ Jx (pre ++ [x]) W'))
    (hBl : W.cell? ⟨Bl, 0, none⟩ = some (.slice a m c)) (hBs : W.cell? ⟨Bs, 0, none⟩ = some (.func (.func 91) #[.pointer p] #[])) (hVs : ¬ V Bs) (hi : Ints .i64 W a m xs) (hd : 0 < m → ∀ b o, a = some ⟨b, o, none⟩ → ¬ V b) (hm : m ≤ maxLen) (h0 : J [] W) :
    CallsIn Fence.wide n Tryz.prog 104 #[.func (.yield l) #[] #[], .pointer (some ⟨Bl, 0, none⟩), .pointer (some ⟨Bs, 0, none⟩)] W fun e W' => (∃ v, e = .returned v) ∧
      ((∃ ys, ys.map (·.1) = xs.filter pred ∧ J ys W') ∨ (∃ pre, pre.map (·.1) <+: xs.filter pred ∧ Jx pre W')) := by
  have m63 : (m : Int) ≤ 9223372036854775807 := by unfold maxLen at hm; omega
  have HL := hide hi.1
  have HI := hide hi.2
  have HD := hide hd
  have HH := hide hHas
  have HY := hide hY
  have H0 := hide h0
  have HS := hide hBs
  have HV := hide hVs
  clear hm hi hd hHas hY h0 hBs hVs
  refine callsIn_of_wp Tryz.func104 rfl trivial ?_ rfl
  simp only [Tryz.ntmps104, List.size_toArray, List.length_cons, List.length_nil, Nat.reduceAdd, Nat.reduceSub, Array.replicate_succ, Array.replicate_zero, List.push_toArray, List.append_toArray, List.nil_append, List.cons_append]
  gi_wp2
  gi_loopw [8] (fun i wr => ∃ k : Nat, k ≤ m ∧ i = .int .i64 k ∧ Hid (Touch V W wr ∧ ∃ ys : List (Yes pred), ys.map (·.1) = (xs.take k).filter pred ∧ J ys wr)) (fun i _ => m - (intOf i).toNat)
  case atStart => exact ⟨0, Nat.zero_le _, rfl, Touch.refl _ _, [], by simp, H0.out⟩
  case round =>
    obtain ⟨k, hk, rfl, hZ⟩ := hrel
    by_cases hlt : k < m
    · have k0 : (0 : Int) ≤ (k : Int) := by omega
      have k1 : (k : Int) < (m : Int) := by omega
      obtain ⟨b, off, rfl, hc⟩ := HI.out (by omega)
      obtain ⟨x, hx⟩ : ∃ x, xs[k]? = some x := ⟨_, List.getElem?_eq_getElem (by have := HL.out; omega)⟩
      obtain ⟨g, hg⟩ : ∃ g, g = xs.getD k 0 := ⟨_, rfl⟩
      have hx : xs[k]? = some g := by rw [hg, List.getD_eq_getElem?_getD, List.getElem?_eq_getElem (by have := HL.out; omega)]; rfl
      have hc2 : wr.cell? ⟨b, off + k, none⟩ = some (.int .i64 g) := by rw [hg]; exact hZ.out.1.cell (hc k hlt) (HD.out (by omega) b off rfl)
      have hs2 : wr.cell? ⟨Bs, 0, none⟩ = some (.func (.func 91) #[.pointer p] #[]) := hZ.out.1.cell HS.out HV.out
      have HX := hide hx
      clear hc hx hg
      obtain ⟨q, hq⟩ : ∃ q, q = pred g := ⟨_, rfl⟩
      have HQ := hide hq
      have C := hide (show Calls Tryz.prog 91 #[.pointer p, .int .i64 g] wr fun e w' => e = .returned (.bool q) ∧ wr = w' from by rw [hq]; exact HH.out wr hZ.out.1 g)
      clear hq
      cases q with
      | false =>
        have N := hide (show Touch V W wr ∧ ∃ ys : List (Yes pred), ys.map (·.1) = (xs.take (k + 1)).filter pred ∧ J ys wr from by
          obtain ⟨ht, ys, e, hj⟩ := hZ.out
          exact ⟨ht, ys, yes_skip e HX.out HQ.out.symm, hj⟩)
        gi_wp2_with (refine ⟨trivial, ?_⟩; gi_at_call 91; refine (callsIn_wide.2 C.out).mono ?_; rintro e w' ⟨rfl, rfl⟩)
        refine ⟨fun _ h => (by cases h), ?_⟩
        gi_wp2
        go_roundw
        case rel => exact ⟨k + 1, by omega, by go_num, N.out⟩
        case measure => simp [intOf]; omega
      | true =>
        obtain ⟨ht, ys, e, hj⟩ := hZ.out
        obtain ⟨fn, tmps, assign, body, hy, hR⟩ := HY.out ys ⟨g, HQ.out.symm⟩ wr hj (by have := yes_lt e; omega)
        dsimp only at hy
        gi_wp2_with (refine ⟨trivial, ?_⟩; gi_at_call 91; refine (callsIn_wide.2 C.out).mono ?_; rintro e w' ⟨rfl, rfl⟩)
        refine hR.mono ?_
        have HT := hide ht
        have HE := hide e
        have HPq := hide HQ.out.symm
        clear ht e hj hy
        rintro e W3 (⟨rfl, hJ3, hk3⟩ | ⟨rfl, hJx3⟩)
        · have N := hide (show Touch V W W3 ∧ ∃ ys : List (Yes pred), ys.map (·.1) = (xs.take (k + 1)).filter pred ∧ J ys W3 from ⟨touchK_t HT.out hk3, _, yes_snoc HE.out HX.out HPq.out, hJ3⟩)
          clear hJ3 hk3
          gi_wp2
          go_roundw
          case rel => exact ⟨k + 1, by omega, by go_num, N.out⟩
          case measure => simp [intOf]; omega
        · have N := hide hJx3
          clear hJx3
          gi_wp2
          refine bodyPost_ret (results_none rfl _ _ _) rfl ?_
          exact ⟨⟨_, rfl⟩, .inr ⟨_, yes_pre (yes_snoc HE.out HX.out HPq.out), N.out⟩⟩
    · obtain rfl : k = m := by omega
      gi_wp2
      go_end0
      obtain ⟨ht, ys, e, hj⟩ := hZ.out
      have hl := HL.out
      exact ⟨⟨_, rfl⟩, .inl ⟨ys, by rw [e, List.take_of_length_le (by omega)], hj⟩⟩
/-- The iterator over numbers that are sought, as its callers know it. -/
theorem thoseI_stops (n : Nat) (hn : 1 ≤ n) (Bl Bs : Nat) (V : Nat → Prop) (p : Option Addr) (pred : Int → Bool) (a : Option Addr) (m c : Nat) (xs : List Int) (w : World)
    (hHas : ∀ W', Touch V w W' → ∀ x, Calls Tryz.prog 91 #[.pointer p, .int .i64 x] W' fun e w' => e = .returned (.bool (pred x)) ∧ W' = w')
    (hBl : w.cell? ⟨Bl, 0, none⟩ = some (.slice a m c)) (hBs : w.cell? ⟨Bs, 0, none⟩ = some (.func (.func 91) #[.pointer p] #[])) (hVs : ¬ V Bs) (hi : Ints .i64 w a m xs) (hd : 0 < m → ∀ b o, a = some ⟨b, o, none⟩ → ¬ V b) (hm : m ≤ maxLen) :
    SeqStopsK Fence.wide n Tryz.prog 104 #[.pointer (some ⟨Bl, 0, none⟩), .pointer (some ⟨Bs, 0, none⟩)] (fun x : Yes pred => #[Value.int .i64 x.1]) (Touch V) (fun ys => ys.map (·.1) = xs.filter pred) (fun pre => pre.map (·.1) <+: xs.filter pred) m w :=
  fun l J Jx W hW _ _ hY h0 => thoseI1_in n hn l Bl Bs V p pred a m c xs J Jx W (fun W' ht x => hHas W' (touchK_t (Touch.of_below hW) ht) x) hY ((Touch.of_below (S := fun _ => False) hW).cell hBl (fun e => e)) ((Touch.of_below (S := fun _ => False) hW).cell hBs (fun e => e)) hVs (hi.below hW) hd hm h0
set_option maxRecDepth 100000 in
set_option maxHeartbeats 4000000 in
theorem thoseM1_in (n : Nat) (hn : 1 ≤ n) (l Bl Bs : Nat) (V : Nat → Prop) (f : Int) (a : Option Addr) (m c : Nat) (ms : List Mu) (J Jx : List (Yes (reachB f)) → World → Prop) (W : World) (B : Nat) (hJ : AbidesFrom B J)
    (hY : ∀ pre x W, J pre W → pre.length < m → YieldAt Fence.wide (n - 1) Tryz.prog l #[.agg #[.int .i64 x.1.r, .int .i64 x.1.l]] W fun e W' => (e = .returned (.bool true) ∧ J (pre ++ [x]) W' ∧ Touch V W W') ∨ (e = .returned (.bool false) ∧ Jx (pre ++ [x]) W'))
    (hBl : W.cell? ⟨Bl, 0, none⟩ = some (.slice a m c)) (hBs : W.cell? ⟨Bs, 0, none⟩ = some (.func (.func 93) #[.int .i64 f] #[])) (hVs : ¬ V Bs) (hi : Reads 2 muVals W a m ms) (hd : 0 < m → ∀ b o, a = some ⟨b, o, none⟩ → ¬ V b) (hm : m ≤ maxLen) (h0 : J [] W) :
    CallsIn Fence.wide n Tryz.prog 106 #[.func (.yield l) #[] #[], .pointer (some ⟨Bl, 0, none⟩), .pointer (some ⟨Bs, 0, none⟩)] W fun e W' => (∃ v, e = .returned v) ∧
      ((∃ ys, ys.map (·.1) = ms.filter (reachB f) ∧ J ys W') ∨ (∃ pre, pre.map (·.1) <+: ms.filter (reachB f) ∧ Jx pre W')) := by
  have m63 : (m : Int) ≤ 9223372036854775807 := by unfold maxLen at hm; omega
  have HL := hide hi.1
  have HI := hide hi
  have HD := hide hd
  have HJ := hide hJ
  have HY := hide hY
  have H0 := hide h0
  have HS := hide hBs
  have HV := hide hVs
  clear hm hi hd hY h0 hBs hVs hJ
  refine callsIn_of_wp Tryz.func106 rfl trivial ?_ rfl
  simp only [Tryz.ntmps106, List.size_toArray, List.length_cons, List.length_nil, Nat.reduceAdd, Nat.reduceSub, Array.replicate_succ, Array.replicate_zero, List.push_toArray, List.append_toArray, List.nil_append, List.cons_append]
  gi_wp2
  gi_loopw [8] (fun i wr => ∃ k : Nat, k ≤ m ∧ i = .int .i64 k ∧ Hid (Touch V W wr ∧ ∃ ys : List (Yes (reachB f)), ys.map (·.1) = (ms.take k).filter (reachB f) ∧ J ys wr)) (fun i _ => m - (intOf i).toNat)
  case atStart => exact ⟨0, Nat.zero_le _, rfl, Touch.refl _ _, [], by simp, H0.out⟩
  case round =>
    obtain ⟨k, hk, rfl, hZ⟩ := hrel
    by_cases hlt : k < m
    · have k0 : (0 : Int) ≤ (k : Int) := by omega
      have k1 : (k : Int) < (m : Int) := by omega
      obtain ⟨x, b, off, hx, rfl, hc⟩ := HI.out.at_ hlt
      obtain ⟨r, ll⟩ := x
      have c0 : wr.cell? ⟨b, off + k * 2, none⟩ = some (.int .i64 r) := hZ.out.1.cell (hc 0 _ rfl) (HD.out (by omega) b off rfl)
      have c1 : wr.cell? ⟨b, off + k * 2 + 1, none⟩ = some (.int .i64 ll) := hZ.out.1.cell (hc 1 _ rfl) (HD.out (by omega) b off rfl)
      have hs2 : wr.cell? ⟨Bs, 0, none⟩ = some (.func (.func 93) #[.int .i64 f] #[]) := hZ.out.1.cell HS.out HV.out
      have hs3 : (wr.alloc (.cells #[.int .i64 r, .int .i64 ll] 52)).cell? ⟨Bs, 0, none⟩ = some (.func (.func 93) #[.int .i64 f] #[]) := (((Below.refl wr.heap.size wr).alloc (Nat.le_refl _) _).cell (p := ⟨Bs, 0, none⟩) (lt_of_cell? hs2)).trans hs2
      have HX := hide hx
      obtain ⟨w1, hw1⟩ : ∃ w1, w1 = (wr.alloc (.cells #[.int .i64 r, .int .i64 ll] 52)).alloc (.cells #[.int .i64 r, .int .i64 ll] 52) := ⟨_, rfl⟩
      have B1 := hide (show Below wr.heap.size wr w1 from by rw [hw1]; exact ((Below.refl wr.heap.size wr).alloc (Nat.le_refl _) _).alloc (by simp) _)
      have W1 := hide hw1
      clear hc hx hw1
      obtain ⟨q, hq⟩ : ∃ q, q = reachB f ⟨r, ll⟩ := ⟨_, rfl⟩
      have HQ := hide hq
      have C := hide (fun (W : World) => show Calls Tryz.prog 93 #[.int .i64 f, .agg #[.int .i64 r, .int .i64 ll]] W fun e w' => e = .returned (.bool q) ∧ w' = W.alloc (.cells #[.int .i64 r, .int .i64 ll] 52) from by rw [hq]; exact preach_any W f r ll)
      clear hq
      cases q with
      | false =>
        gi_wp2_with (refine ⟨trivial, ?_⟩; gi_at_call 93; refine (callsIn_wide.2 (C.out _)).mono ?_; rintro e w' ⟨rfl, rfl⟩)
        have N := hide (show Touch V W w1 ∧ ∃ ys : List (Yes (reachB f)), ys.map (·.1) = (ms.take (k + 1)).filter (reachB f) ∧ J ys w1 from by
          obtain ⟨ht, ys, e, hj⟩ := hZ.out
          exact ⟨touchK_t ht (Touch.of_below B1.out), ys, yes_skip e HX.out HQ.out.symm, abides_below HJ.out hj B1.out⟩)
        refine ⟨fun _ h => (by cases h), ?_⟩
        rw [← W1.out]
        gi_wp2
        go_roundw
        case rel => exact ⟨k + 1, by omega, by go_num, N.out⟩
        case measure => simp [intOf]; omega
      | true =>
        obtain ⟨ht, ys, e, hj⟩ := hZ.out
        obtain ⟨fn, tmps, assign, body, hy, hR⟩ := HY.out ys ⟨⟨r, ll⟩, HQ.out.symm⟩ w1 (abides_below HJ.out hj B1.out) (by have := yes_lt e; omega)
        dsimp only at hy
        rw [W1.out] at hy hR
        have HT := hide (touchK_t ht (Touch.of_below B1.out))
        have HE := hide e
        have HPq := hide HQ.out.symm
        clear ht e hj
        gi_wp2_with (refine ⟨trivial, ?_⟩; gi_at_call 93; refine (callsIn_wide.2 (C.out _)).mono ?_; rintro e w' ⟨rfl, rfl⟩)
        refine hR.mono ?_
        rw [← W1.out]
        clear hy hR
        rintro e W3 (⟨rfl, hJ3, hk3⟩ | ⟨rfl, hJx3⟩)
        · have N := hide (show Touch V W W3 ∧ ∃ ys : List (Yes (reachB f)), ys.map (·.1) = (ms.take (k + 1)).filter (reachB f) ∧ J ys W3 from ⟨touchK_t HT.out hk3, _, yes_snoc HE.out HX.out HPq.out, hJ3⟩)
          clear hJ3 hk3
          gi_wp2
          go_roundw
          case rel => exact ⟨k + 1, by omega, by go_num, N.out⟩
          case measure => simp [intOf]; omega
        · have N := hide hJx3
          clear hJx3
          gi_wp2
          refine bodyPost_ret (results_none rfl _ _ _) rfl ?_
          exact ⟨⟨_, rfl⟩, .inr ⟨_, yes_pre (yes_snoc HE.out HX.out HPq.out), N.out⟩⟩
    · obtain rfl : k = m := by omega
      gi_wp2
      go_end0
      obtain ⟨ht, ys, e, hj⟩ := hZ.out
      have hl := HL.out
      exact ⟨⟨_, rfl⟩, .inl ⟨ys, by rw [e, List.take_of_length_le (by omega)], hj⟩⟩
theorem thoseM_stops (n : Nat) (hn : 1 ≤ n) (Bl Bs : Nat) (V : Nat → Prop) (f : Int) (a : Option Addr) (m c : Nat) (ms : List Mu) (w : World)
    (hBl : w.cell? ⟨Bl, 0, none⟩ = some (.slice a m c)) (hBs : w.cell? ⟨Bs, 0, none⟩ = some (.func (.func 93) #[.int .i64 f] #[])) (hVs : ¬ V Bs) (hi : Reads 2 muVals w a m ms) (hd : 0 < m → ∀ b o, a = some ⟨b, o, none⟩ → ¬ V b) (hm : m ≤ maxLen) :
    SeqStopsK Fence.wide n Tryz.prog 106 #[.pointer (some ⟨Bl, 0, none⟩), .pointer (some ⟨Bs, 0, none⟩)] (fun x : Yes (reachB f) => #[Value.agg #[.int .i64 x.1.r, .int .i64 x.1.l]]) (Touch V) (fun ys => ys.map (·.1) = ms.filter (reachB f)) (fun pre => pre.map (·.1) <+: ms.filter (reachB f)) m w :=
  fun l J Jx W hW hJ _ hY h0 => thoseM1_in n hn l Bl Bs V f a m c ms J Jx W _ hJ hY ((Touch.of_below (S := fun _ => False) hW).cell hBl (fun e => e)) ((Touch.of_below (S := fun _ => False) hW).cell hBs (fun e => e)) hVs (hi.below hW) hd hm h0
end Go.Proofs.YtcmgkjjkhfcedaaGreat
/-
  The program's Least.
-/
namespace Go.Proofs.YtcmgkjjkhfcedaaGreat
open Go.ChangeShapes Go.WideShapes Go.ChangeAt Go.RowKit Go.Shelf
set_option linter.unusedVariables false
set_option linter.unusedSimpArgs false
attribute [local go_sem] Oper.semAt_some
/-- The least of ranks, 0 for none. -/
def leastG (f : Int → Int) (s u : Int) : Int := if s = 0 ∨ f u < s then f u else s
theorem leastG_fold {ms : List Mu} (h : ∀ u, isMu ms.length u = true → 1 ≤ (muAt ms u).r) (us : List Int) : ∀ s : Int, 0 ≤ s →
    us.foldl (leastS ms) (s, decide (0 < s)) = ((us.filter (isMu ms.length)).foldl (leastG fun u => (muAt ms u).r) s, decide (0 < (us.filter (isMu ms.length)).foldl (leastG fun u => (muAt ms u).r) s)) := by
  induction us with
  | nil => intro s hs; rfl
  | cons u us ih =>
    intro s hs
    rw [List.foldl_cons, List.filter_cons]
    by_cases hu : isMu ms.length u = true
    · have h1 : 1 ≤ (muAt ms u).r := h u hu
      rw [if_pos hu, List.foldl_cons]
      have e : leastS ms (s, decide (0 < s)) u = (leastG (fun u => (muAt ms u).r) s u, decide (0 < leastG (fun u => (muAt ms u).r) s u)) := by
        unfold leastS leastG
        by_cases c : s = 0 ∨ (muAt ms u).r < s
        · rw [if_pos (show s = 0 ∨ (fun u => (muAt ms u).r) u < s from c), if_pos (by
            simp only [hu, Bool.true_and, Bool.or_eq_true, Bool.not_eq_true', decide_eq_false_iff_not, decide_eq_true_eq]
            rcases c with c | c
            · left; omega
            · right; exact c)]
          rw [decide_eq_true (show 0 < (muAt ms u).r by omega)]
        · rw [if_neg (show ¬ (s = 0 ∨ (fun u => (muAt ms u).r) u < s) from c), if_neg (by
            simp only [hu, Bool.true_and, Bool.or_eq_true, Bool.not_eq_true', decide_eq_false_iff_not, decide_eq_true_eq]
            omega)]
      rw [e]
      exact ih _ (by unfold leastG; split <;> (try dsimp only) <;> omega)
    · rw [if_neg hu]
      have e : leastS ms (s, decide (0 < s)) u = (s, decide (0 < s)) := by
        unfold leastS
        rw [if_neg (by simp [hu])]
      rw [e]
      exact ih s hs
theorem leastMu_fold {ms : List Mu} (h : ∀ u, isMu ms.length u = true → 1 ≤ (muAt ms u).r) (us : List Int) : leastMu ms us = ((us.filter (isMu ms.length)).foldl (leastG fun u => (muAt ms u).r) 0, decide (0 < (us.filter (isMu ms.length)).foldl (leastG fun u => (muAt ms u).r) 0)) := by
  have := leastG_fold h us 0 (by omega)
  simpa [leastMu] using this
def leastF (ms : List Mu) (pre : List (Yes (isMu ms.length))) : Int := (pre.map (·.1)).foldl (leastG fun u => (muAt ms u).r) 0
theorem leastF_snoc (ms : List Mu) (pre : List (Yes (isMu ms.length))) (x : Yes (isMu ms.length)) : leastF ms (pre ++ [x]) = leastG (fun u => (muAt ms u).r) (leastF ms pre) x.1 := by simp [leastF]
theorem tab_ranks {Q : Nat → Prop} {w : World} {T : Nat} {ms : List Mu} (h : Tab w Q T ms) : ∀ u, isMu ms.length u = true → 1 ≤ (muAt ms u).r := by
  intro u hu
  obtain ⟨k, rfl, hk⟩ := isMu_iff.1 hu
  rw [muAt_nat (List.getElem?_eq_getElem hk)]
  exact (h.ok (List.getElem?_eq_getElem hk)).1
/-- A table, or none. -/
def TabQ (w : World) (Q : Nat → Prop) (t : Option Addr) (ms : List Mu) : Prop := (∃ T, t = some ⟨T, 0, none⟩ ∧ Tab w Q T ms) ∨ (t = none ∧ ms = [] ∧ ∀ i, Q i → i < w.heap.size)
theorem TabQ.keep {V Q : Nat → Prop} {w w' : World} {t : Option Addr} {ms : List Mu} (h : TabQ w Q t ms) (b : Touch V w w') (d : ∀ i, Q i → ¬ V i) : TabQ w' Q t ms := by
  rcases h with ⟨T, rfl, h⟩ | ⟨rfl, rfl, h⟩
  · exact .inl ⟨T, rfl, h.keep b d⟩
  · exact .inr ⟨rfl, rfl, fun i hi => Nat.lt_of_lt_of_le (h i hi) b.size⟩
theorem TabQ.below {Q : Nat → Prop} {w w' : World} {t : Option Addr} {ms : List Mu} (h : TabQ w Q t ms) (b : Below w.heap.size w w') : TabQ w' Q t ms := h.keep (Touch.of_below (S := fun _ => False) b) (fun _ _ e => e)
theorem TabQ.lt {Q : Nat → Prop} {w : World} {t : Option Addr} {ms : List Mu} (h : TabQ w Q t ms) : ∀ i, Q i → i < w.heap.size := by
  rcases h with ⟨T, rfl, h⟩ | ⟨rfl, rfl, h⟩
  · exact h.lt
  · exact h
theorem TabQ.len {Q : Nat → Prop} {w : World} {t : Option Addr} {ms : List Mu} (h : TabQ w Q t ms) : ms.length ≤ 6 := by
  rcases h with ⟨T, rfl, h⟩ | ⟨rfl, rfl, h⟩
  · exact h.len
  · exact Nat.zero_le _
theorem TabQ.has {Q : Nat → Prop} {w : World} {t : Option Addr} {ms : List Mu} (h : TabQ w Q t ms) (m : Int) : Calls Tryz.prog 91 #[.pointer t, .int .i64 m] w fun e w' => e = .returned (.bool (isMu ms.length m)) ∧ w = w' := by
  rcases h with ⟨T, rfl, h⟩ | ⟨rfl, rfl, h⟩
  · exact phas_any h m
  · exact (phas_nil w m).mono (by rintro e w' ⟨h1, h2⟩; exact ⟨by rw [h1]; exact ret_bool (by simp [isMu]), h2⟩)
theorem TabQ.ranks {Q : Nat → Prop} {w : World} {t : Option Addr} {ms : List Mu} (h : TabQ w Q t ms) : ∀ u, isMu ms.length u = true → 1 ≤ (muAt ms u).r := by
  rcases h with ⟨T, rfl, h⟩ | ⟨rfl, rfl, h⟩
  · exact tab_ranks h
  · intro u hu; simp [isMu] at hu; omega
theorem TabQ.at_ {Q : Nat → Prop} {w : World} {t : Option Addr} {ms : List Mu} (h : TabQ w Q t ms) {k : Nat} (hk : k < ms.length) : ∃ T, t = some ⟨T, 0, none⟩ ∧ Tab w Q T ms := by
  rcases h with ⟨T, rfl, h⟩ | ⟨rfl, rfl, h⟩
  · exact ⟨T, rfl, h⟩
  · exact absurd hk (Nat.not_lt_zero _)
set_option maxRecDepth 100000 in
set_option maxHeartbeats 8000000 in
theorem pleastQ_any {Q : Nat → Prop} {w : World} {t : Option Addr} {ms : List Mu} (h : TabQ w Q t ms) {b : Option Addr} {p d : Nat} {us : List Int} (hi : Ints .i64 w b p us) (hp : p ≤ maxLen) :
    Calls Tryz.prog 68 #[.pointer t, .slice b p d] w fun e w' => e = .returned (.tuple #[.int .i64 (leastMu ms us).1, .bool (leastMu ms us).2]) ∧ Below w.heap.size w w' := by
  have n6 := h.len
  obtain ⟨G, hG⟩ : ∃ G, G = leastMu ms us := ⟨_, rfl⟩
  rw [← hG]
  have HG := hide (hG.trans (leastMu_fold h.ranks us))
  clear hG
  refine (callsIn_wide (n := 3)).1 ?_
  refine callsIn_of_wp_marks Tryz.func68 rfl trivial ?_ rfl
  simp only [Tryz.ntmps68, List.size_toArray, List.length_cons, List.length_nil, Nat.reduceAdd, Nat.reduceSub, Array.replicate_succ, Array.replicate_zero, List.push_toArray, List.append_toArray, List.nil_append, List.cons_append]
  gi_wp2_with (first
      | (refine ⟨trivial, ?_⟩; gi_at_call 90; refine (callsIn_wide.2 (thoseI_any _ _ _ _ _)).mono ?_; rintro e w' ⟨rfl, rfl⟩))
  obtain ⟨w2, hw2⟩ : ∃ w2, w2 = ((((w.alloc (.cells #[.pointer t] 53)).alloc (.cells #[.int .i64 0] 3)).alloc (.cells #[.slice b p d] 25)).alloc (.cells #[.func (.func 91) #[.pointer t] #[]] 59)) := ⟨_, rfl⟩
  rw [← hw2]
  have b2 : Below w.heap.size w w2 := by rw [hw2]; exact ((((Below.refl w.heap.size w).alloc (Nat.le_refl _) _).alloc (by simp) _).alloc (by simp; omega) _).alloc (by simp; omega) _
  have s2 : w2.heap.size = w.heap.size + 4 := by rw [hw2]; simp
  have e0 : Boxed w2 w.heap.size 53 (.pointer t) := by rw [hw2]; exact (((Boxed.new w _ _).alloc _).alloc _).alloc _
  have e1 : Boxed w2 (w.heap.size + 1) 3 (.int .i64 0) := by
    have := ((Boxed.new (w.alloc (.cells #[.pointer t] 53)) 3 (.int .i64 0)).alloc (.cells #[.slice b p d] 25)).alloc (.cells #[.func (.func 91) #[.pointer t] #[]] 59)
    rw [World.size_alloc, ← hw2] at this; exact this
  have e3 : Boxed w2 (w.heap.size + 1 + 1) 25 (.slice b p d) := by
    have := (Boxed.new ((w.alloc (.cells #[.pointer t] 53)).alloc (.cells #[.int .i64 0] 3)) 25 (.slice b p d)).alloc (.cells #[.func (.func 91) #[.pointer t] #[]] 59)
    rw [World.size_alloc, World.size_alloc, ← hw2] at this; exact this
  have e4 : Boxed w2 (w.heap.size + 1 + 1 + 1) 59 (.func (.func 91) #[.pointer t] #[]) := by
    have := Boxed.new (((w.alloc (.cells #[.pointer t] 53)).alloc (.cells #[.int .i64 0] 3)).alloc (.cells #[.slice b p d] 25)) 59 (.func (.func 91) #[.pointer t] #[])
    rw [World.size_alloc, World.size_alloc, World.size_alloc, ← hw2] at this; exact this
  obtain ⟨V, hV⟩ : ∃ V : Nat → Prop, V = fun i => i = w.heap.size + 1 ∨ w.heap.size + 4 ≤ i := ⟨_, rfl⟩
  have v0 : ¬ V w.heap.size := by rw [hV]; intro e; rcases e with e | e <;> omega
  have v4 : ¬ V (w.heap.size + 1 + 1 + 1) := by rw [hV]; intro e; rcases e with e | e <;> omega
  have v1 : V (w.heap.size + 1) := by rw [hV]; exact .inl rfl
  have vlo : ∀ i, i < w.heap.size → ¬ V i := by intro i hi; rw [hV]; intro e; rcases e with e | e <;> omega
  have vhi : ∀ i, w.heap.size + 4 ≤ i → V i := by intro i hi; rw [hV]; exact .inr hi
  have vge : ∀ i, V i → w.heap.size ≤ i := by intro i hi; rw [hV] at hi; rcases hi with e | e <;> omega
  have B2 := hide b2
  have TB := hide (show TabQ w2 Q t ms from h.below b2)
  have TV := hide (show ∀ i, Q i → ¬ V i from fun i hi => vlo i (h.lt i hi))
  clear hw2 hV b2
  refine wpIn_rangeFunc_ownG rfl (by omega) (gf := 104) (lb := #[.pointer (some ⟨w.heap.size + 1 + 1, 0, none⟩), .pointer (some ⟨w.heap.size + 1 + 1 + 1, 0, none⟩)]) rfl trivial (enters_of Tryz.func104 (by kernel_rfl) rfl)
    (thoseI_stops (3 - 1) (by omega) (w.heap.size + 1 + 1) (w.heap.size + 1 + 1 + 1) V t (isMu ms.length) b p d us w2 (fun W' ht x => (TB.out.keep ht TV.out).has x) e3.cell e4.cell v4 (hi.below B2.out)
      (fun h0 g o e => vlo g (by obtain ⟨g', o', e', hc⟩ := hi.2 h0; rw [e] at e'; injection e' with e'; injection e' with e1 e2; subst e1; exact lt_of_cell? (hc 0 h0))) hp) touchK_t (touchK_b (fun i hi => vhi i (by omega))) (Below.refl _ _) (fun _ => rfl)
    (fun pre W => Boxed W (w.heap.size + 1) 3 (.int .i64 (leastF ms pre)) ∧ Touch V w2 W)
    (fun c pre W => False)
    (OwnFrom.and (Own.from (boxed_own _ _ (fun pre => .int .i64 (leastF ms pre))) _) (ownFrom_touch (fun i hi => vhi i (by omega))))
    (fun c => ownFrom_pure _ (fun _ => False))
    ⟨e1, Touch.refl _ _⟩
    (fun y => { tmps := #[.pointer t, .slice b p d, .pointer (some ⟨w.heap.size, 0, none⟩), undef, .int .i64 0, .bool false, .pointer (some ⟨w.heap.size + 1, 0, none⟩), .int .i64 y.1, undef, .slice b p d, .pointer t, .func (.func 91) #[.pointer t] #[], .func (.func 104) #[] #[.pointer (some ⟨w.heap.size + 1 + 1, 0, none⟩), .pointer (some ⟨w.heap.size + 1 + 1 + 1, 0, none⟩)], .int .i64 y.1, undef, undef, undef, undef, undef, undef, undef, undef, undef, undef, undef, undef, undef, undef, undef, undef, undef, undef, undef], defers := [] }) ?assign ?body ?done ?stop
  case assign =>
    intro l y W K hK
    gi_wp2
    exact hK
  case body =>
    rintro l pre ⟨y, hy⟩ W ⟨hb, ht⟩ hlen
    obtain ⟨j, rfl, hj⟩ := isMu_iff.1 hy
    obtain ⟨T, rfl, tb⟩ := (TB.out.keep ht TV.out).at_ hj
    obtain ⟨z, zb, zo, zc, hz, t0, t1, t2, hQb⟩ := tb.at_ hj
    have z1 := (tb.ok hz).1
    have f0 := (boxed_touch e0 ht v0).cell
    have j1 : (j : Int) < (ms.length : Nat) := by omega
    obtain ⟨s, hs⟩ : ∃ s, s = leastF ms pre := ⟨_, rfl⟩
    have hb2 : Boxed W (w.heap.size + 1) 3 (.int .i64 s) := by rw [hs]; exact hb
    have cb := hb2.cell
    have fb := hb2.frozen
    have N := hide (show leastF ms (pre ++ [(⟨(j : Int), hy⟩ : Yes (isMu ms.length))]) = (if s = 0 ∨ z.r < s then z.r else s) from by rw [leastF_snoc, ← hs, leastG]; simp only [muAt_nat hz])
    have HB := hide hb2
    have HT := hide ht
    clear hb hb2 ht hz hs
    by_cases c1 : s = 0
    · have N2 := hide (show leastF ms (pre ++ [(⟨(j : Int), hy⟩ : Yes (isMu ms.length))]) = z.r from by rw [N.out, if_pos (.inl c1)])
      gi_wp2
      exact ⟨(KeepsOthers.setCell _ _ _).from _, (Touch.refl V W).setCell (p := ⟨w.heap.size + 1, 0, none⟩) v1 _, by rw [N2.out]; exact HB.out.set _, touchK_t HT.out ((Touch.refl V W).setCell (p := ⟨w.heap.size + 1, 0, none⟩) v1 _)⟩
    · by_cases c2 : z.r < s
      · have N2 := hide (show leastF ms (pre ++ [(⟨(j : Int), hy⟩ : Yes (isMu ms.length))]) = z.r from by rw [N.out, if_pos (.inr c2)])
        gi_wp2
        exact ⟨(KeepsOthers.setCell _ _ _).from _, (Touch.refl V W).setCell (p := ⟨w.heap.size + 1, 0, none⟩) v1 _, by rw [N2.out]; exact HB.out.set _, touchK_t HT.out ((Touch.refl V W).setCell (p := ⟨w.heap.size + 1, 0, none⟩) v1 _)⟩
      · have N2 := hide (show leastF ms (pre ++ [(⟨(j : Int), hy⟩ : Yes (isMu ms.length))]) = s from by rw [N.out, if_neg (by omega)])
        gi_wp2
        exact ⟨keepsFrom_below (Below.refl _ _), Touch.refl _ _, by rw [N2.out]; exact HB.out, HT.out⟩
  case done =>
    rintro D ys W hD hys ⟨hb, ht⟩ hK
    have HG2 := hide (show G = (leastF ms ys, decide (0 < leastF ms ys)) from by rw [HG.out, leastF, hys])
    obtain ⟨s, hs⟩ : ∃ s, s = leastF ms ys := ⟨_, rfl⟩
    rw [← hs] at hb HG2
    have cb := hb.cell
    have HT := hide ht
    clear hb ht hys hs
    gi_wp2
    refine wpIn_wide.2 ?_
    go_region
    gi_wp2
    have hK' : W.drew.heap[D]? = W.heap[D]? := rfl
    refine ⟨by simp, .inl ⟨_, _, rfl, run_takeDeferred (hK'.trans hK), ?_⟩⟩
    refine ⟨.tuple #[.int .i64 s, .bool (decide (0 < s))], ?_, by rw [HG2.out], ?_⟩
    · simp [results, Tryz.func68, Tryz.results68, go_sem]
    · refine B2.out.trans (Touch.below (S := V) ?_ B2.out.size vge)
      exact touchK_t HT.out (touchK_t (Touch.of_below (below_drewN (Below.refl _ W) 1)) (Touch.of_grown (grownBy_putObj' _ D _) (fun g e => by cases e; exact vhi _ (by omega))))
  case stop =>
    rintro D c pre W hD hys hF hK
    exact hF.elim
theorem pleast_any {Q : Nat → Prop} {w : World} {T : Nat} {ms : List Mu} (h : Tab w Q T ms) {b : Option Addr} {p d : Nat} {us : List Int} (hi : Ints .i64 w b p us) (hp : p ≤ maxLen) :
    Calls Tryz.prog 68 #[.pointer (some ⟨T, 0, none⟩), .slice b p d] w fun e w' => e = .returned (.tuple #[.int .i64 (leastMu ms us).1, .bool (leastMu ms us).2]) ∧ Below w.heap.size w w' := pleastQ_any (.inl ⟨T, rfl, h⟩) hi hp
theorem pleast_nil (w : World) {b : Option Addr} {p d : Nat} {us : List Int} (hi : Ints .i64 w b p us) (hp : p ≤ maxLen) :
    Calls Tryz.prog 68 #[.pointer none, .slice b p d] w fun e w' => e = .returned (.tuple #[.int .i64 0, .bool false]) ∧ Below w.heap.size w w' := by
  have h := pleastQ_any (d := d) (.inr ⟨rfl, rfl, fun i e => False.elim e⟩ : TabQ w (fun _ => False) none []) hi hp
  have e : leastMu [] us = (0, false) := by
    unfold leastMu
    have h1 : ∀ u, leastS [] (0, false) u = (0, false) := fun u => by
      unfold leastS
      rw [if_neg]
      simp [isMu]
      try omega
    clear h hi
    induction us with
    | nil => rfl
    | cons u us ih => rw [List.foldl_cons, h1]; exact ih
  rw [e] at h
  exact h
end Go.Proofs.YtcmgkjjkhfcedaaGreat
/-
  The program's May.
-/
namespace Go.Proofs.YtcmgkjjkhfcedaaGreat
open Go.ChangeShapes Go.WideShapes Go.ChangeAt Go.RowKit Go.Shelf
set_option linter.unusedVariables false
set_option linter.unusedSimpArgs false
attribute [local go_sem] Oper.semAt_some
theorem any_inWay {ms : List Mu} {hs : List Int} {k : Nat} {x : Mu} (hx : ms[k]? = some x) {y : Int} (hy : y ∈ hs.filter (isMu ms.length)) (hr : reachB x.r (muAt ms y) = true) : hs.any (inWay ms (k : Int)) = true := by
  rw [List.any_eq_true]
  rw [List.mem_filter] at hy
  refine ⟨y, hy.1, ?_⟩
  simp [inWay, hy.2, muAt_nat hx]
  simpa [reachB] using hr
theorem none_inWay {ms : List Mu} {hs : List Int} {k : Nat} {x : Mu} (hx : ms[k]? = some x) (h : ∀ y ∈ hs.filter (isMu ms.length), reachB x.r (muAt ms y) = false) : hs.any (inWay ms (k : Int)) = false := by
  rw [List.any_eq_false]
  intro y hy
  by_cases hi : isMu ms.length y = true
  · have := h y (List.mem_filter.2 ⟨hy, hi⟩)
    simp [inWay, hi, muAt_nat hx]
    simpa [reachB] using this
  · simp [inWay, hi]
end Go.Proofs.YtcmgkjjkhfcedaaGreat
/-
  The program's Sum, New; what is told of no table; rank by its blocks.
-/
namespace Go.Proofs.YtcmgkjjkhfcedaaGreat
open Go.ChangeShapes Go.WideShapes Go.ChangeAt Go.RowKit Go.Shelf
set_option linter.unusedVariables false
set_option linter.unusedSimpArgs false
attribute [local go_sem] Oper.semAt_some
/-- A block of cells is told of by its own word alone. -/
theorem cells_own {β : Type} (B : Nat) (t : TypeId) (f : β → Array Value) : Own (fun s W => W.heap[B]? = some (.cells (f s) t (0, 0))) := fun s X Y row hs hg hrow => by
  obtain ⟨_, _, _, _, hb⟩ := hg
  exact (hb B (lt_of_heap hs) (fun e' => by obtain ⟨o, ho, hc⟩ := hrow B e'.symm; rw [hs] at ho; cases ho; cases hc)).trans hs
def sumG (s : Int) (m : Mu) : Int := cl (cl s + cl m.l)
theorem sumMu_fold (r : Int) (ms : List Mu) : ∀ s, ms.foldl (sumS r) s = (ms.filter (reachB r)).foldl sumG s := by
  induction ms with
  | nil => intro s; rfl
  | cons m ms ih =>
    intro s
    rw [List.foldl_cons, List.filter_cons, ih]
    by_cases h : r ≤ m.r
    · rw [if_pos (by simpa [reachB] using h), List.foldl_cons]
      congr 1
      unfold sumS
      rw [if_pos h]; rfl
    · rw [if_neg (by simpa [reachB] using h)]
      congr 1
      unfold sumS
      rw [if_neg h]
def sumF (r : Int) (pre : List (Yes (reachB r))) : Int := (pre.map (·.1)).foldl sumG 0
theorem sumF_snoc (r : Int) (pre : List (Yes (reachB r))) (x : Yes (reachB r)) : sumF r (pre ++ [x]) = sumG (sumF r pre) x.1 := by simp [sumF]
set_option maxRecDepth 100000 in
set_option maxHeartbeats 8000000 in
theorem psum_any {Q : Nat → Prop} {w : World} {T : Nat} {ms : List Mu} (h : Tab w Q T ms) (r : Int) :
    Calls Tryz.prog 69 #[.pointer (some ⟨T, 0, none⟩), .int .i64 r] w fun e w' => e = .returned (.int .i64 (sumMu ms r)) ∧ Below w.heap.size w w' := by
  have n6 := h.len
  obtain ⟨a, c, c0, ra, qa⟩ := h.row
  obtain ⟨G, hG⟩ : ∃ G, G = sumMu ms r := ⟨_, rfl⟩
  rw [← hG]
  have HG := hide (hG.trans (sumMu_fold r ms 0))
  clear hG
  have d0 : (w.alloc (.cells #[.int .i64 0] 3)).cell? ⟨T, 0, none⟩ = some (.slice a ms.length c) := (((Below.refl w.heap.size w).alloc (Nat.le_refl _) (.cells #[.int .i64 0] 3)).cell (lt_of_cell? c0)).trans c0
  refine (callsIn_wide (n := 3)).1 ?_
  refine callsIn_of_wp_marks Tryz.func69 rfl trivial ?_ rfl
  simp only [Tryz.ntmps69, List.size_toArray, List.length_cons, List.length_nil, Nat.reduceAdd, Nat.reduceSub, Array.replicate_succ, Array.replicate_zero, List.push_toArray, List.append_toArray, List.nil_append, List.cons_append]
  gi_wp2_with (first
      | (refine ⟨trivial, ?_⟩; gi_at_call 92; refine (callsIn_wide.2 (thoseM_any _ _ _ _ _)).mono ?_; rintro e w' ⟨rfl, rfl⟩))
  obtain ⟨w2, hw2⟩ : ∃ w2, w2 = (((w.alloc (.cells #[.int .i64 0] 3)).alloc (.cells #[.slice a ms.length c] 24)).alloc (.cells #[.func (.func 93) #[.int .i64 r] #[]] 99)) := ⟨_, rfl⟩
  rw [← hw2]
  have b2 : Below w.heap.size w w2 := by rw [hw2]; exact (((Below.refl w.heap.size w).alloc (Nat.le_refl _) _).alloc (by simp) _).alloc (by simp; omega) _
  have s2 : w2.heap.size = w.heap.size + 3 := by rw [hw2]; simp
  have e1 : Boxed w2 w.heap.size 3 (.int .i64 0) := by rw [hw2]; exact ((Boxed.new w _ _).alloc _).alloc _
  have e3 : Boxed w2 (w.heap.size + 1) 24 (.slice a ms.length c) := by
    have := (Boxed.new (w.alloc (.cells #[.int .i64 0] 3)) 24 (.slice a ms.length c)).alloc (.cells #[.func (.func 93) #[.int .i64 r] #[]] 99)
    rw [World.size_alloc, ← hw2] at this; exact this
  have e4 : Boxed w2 (w.heap.size + 1 + 1) 99 (.func (.func 93) #[.int .i64 r] #[]) := by
    have := Boxed.new ((w.alloc (.cells #[.int .i64 0] 3)).alloc (.cells #[.slice a ms.length c] 24)) 99 (.func (.func 93) #[.int .i64 r] #[])
    rw [World.size_alloc, World.size_alloc, ← hw2] at this; exact this
  obtain ⟨V, hV⟩ : ∃ V : Nat → Prop, V = fun i => i = w.heap.size ∨ w.heap.size + 3 ≤ i := ⟨_, rfl⟩
  have v4 : ¬ V (w.heap.size + 1 + 1) := by rw [hV]; intro e; rcases e with e | e <;> omega
  have v1 : V w.heap.size := by rw [hV]; exact .inl rfl
  have vlo : ∀ i, i < w.heap.size → ¬ V i := by intro i hi; rw [hV]; intro e; rcases e with e | e <;> omega
  have vhi : ∀ i, w.heap.size + 3 ≤ i → V i := by intro i hi; rw [hV]; exact .inr hi
  have vge : ∀ i, V i → w.heap.size ≤ i := by intro i hi; rw [hV] at hi; rcases hi with e | e <;> omega
  have B2 := hide b2
  clear hw2 hV b2 d0 c0
  refine wpIn_rangeFunc_ownH rfl (by omega) (gf := 106) (lb := #[.pointer (some ⟨w.heap.size + 1, 0, none⟩), .pointer (some ⟨w.heap.size + 1 + 1, 0, none⟩)]) rfl trivial (enters_of Tryz.func106 (by kernel_rfl) rfl)
    (thoseM_stops (3 - 1) (by omega) (w.heap.size + 1) (w.heap.size + 1 + 1) V r a ms.length c ms w2 e3.cell e4.cell v4 (ra.below B2.out)
      (fun h0 g o e => vlo g (h.lt g (qa g o e))) (by unfold maxLen; omega)) touchK_t (touchK_b (fun i hi => vhi i (by omega))) (Below.refl _ _) (fun _ => rfl)
    (fun pre W => Boxed W w.heap.size 3 (.int .i64 (sumF r pre)) ∧ (Touch V w2 W ∧ w2.heap.size ≤ W.heap.size))
    (fun c pre W => False)
    (OwnFrom.and (Own.from (boxed_own _ _ (fun pre => .int .i64 (sumF r pre))) _) (OwnFrom.and (ownFrom_touch (fun i hi => vhi i (by omega))) (fun _ X Y row hs hg hr => Nat.le_trans hs hg.size)))
    (fun c => ownFrom_pure _ (fun _ => False))
    ⟨e1, Touch.refl _ _, Nat.le_refl _⟩
    (fun y a' W => ∃ B, w.heap.size + 3 ≤ B ∧ a' = { tmps := #[.pointer (some ⟨T, 0, none⟩), .int .i64 r, undef, undef, .int .i64 0, .pointer (some ⟨w.heap.size, 0, none⟩), .pointer (some ⟨B, 0, none⟩), .pointer (some ⟨T, 0, none⟩), .bool false, .pointer (some ⟨T, 0, none⟩), .pointer (some ⟨T, 0, none⟩), .pointer (some ⟨T, 0, none⟩), .slice a ms.length c, .int .i64 r, .func (.func 93) #[.int .i64 r] #[], .func (.func 106) #[] #[.pointer (some ⟨w.heap.size + 1, 0, none⟩), .pointer (some ⟨w.heap.size + 1 + 1, 0, none⟩)], .agg #[.int .i64 y.1.r, .int .i64 y.1.l], undef, undef, undef, undef, undef, undef], defers := [] } ∧ W.heap[B]? = some (.cells #[.int .i64 y.1.r, .int .i64 y.1.l] 52 (0, 0)))
    (fun y a' _ X Y row hs hg hr => by
      obtain ⟨B, hB, ha, hc⟩ := hs
      exact ⟨B, hB, ha, (Own.from (cells_own B 52 (fun (_ : Unit) => #[.int .i64 y.1.r, .int .i64 y.1.l])) w2.heap.size) () X Y row hc hg hr⟩) ?assign ?body ?done ?stop
  case assign =>
    rintro l pre ⟨y, hy⟩ W K ⟨hb, ht, hz⟩ hK
    gi_wp2
    have bl := (Below.refl W.heap.size W).alloc (Nat.le_refl _) (.cells #[.int .i64 y.r, .int .i64 y.l] 52)
    exact hK _ _ (keepsFrom_below bl) (Touch.of_below bl) ⟨hb.alloc _, touchK_t ht (Touch.of_below bl), by simp; omega⟩ ⟨W.heap.size, by omega, rfl, World.alloc_heap_new _ _⟩
  case body =>
    rintro l pre ⟨y, hy⟩ a' W hl hrec ⟨hb, ht, hz⟩ ⟨B, hB, rfl, hc⟩ hlen
    obtain ⟨s, hs⟩ : ∃ s, s = sumF r pre := ⟨_, rfl⟩
    rw [← hs] at hb
    have cb := hb.cell
    have fb := hb.frozen
    have c2 : W.cell? ⟨B, 1, none⟩ = some (.int .i64 y.l) := by simp [World.cell?, hc]
    have N := hide (show sumF r (pre ++ [(⟨y, hy⟩ : Yes (reachB r))]) = cl (cl s + cl y.l) from by rw [sumF_snoc, ← hs]; rfl)
    have HB := hide hb
    have HT := hide ht
    obtain ⟨W3, hW3⟩ : ∃ W3, W3 = W.alloc (.cells #[.int .i64 s, .int .i64 y.l] 3) := ⟨_, rfl⟩
    have B3 := hide (show Below W.heap.size W W3 from by rw [hW3]; exact (Below.refl W.heap.size W).alloc (Nat.le_refl _) _)
    have hb3 : Boxed W3 w.heap.size 3 (.int .i64 s) := by rw [hW3]; exact hb.alloc _
    have cb3 := hb3.cell
    have fb3 := hb3.frozen
    have HB3 := hide hb3
    have HW3 := hide hW3
    have C := hide (show Calls Tryz.prog 35 #[.slice (some ⟨W.heap.size, 0, none⟩) 2 2] W3 fun e w' => e = .returned (.int .i64 (cl (cl s + cl y.l))) ∧ W3 = w' from by
      rw [hW3, ← sum_two]
      exact add_any _ 2 2 [s, y.l] _ (ints_two_at .i64 W s y.l _ _ rfl) (by omega))
    clear hb ht hs hb3 hW3
    gi_wp2_with (refine ⟨trivial, ?_⟩; gi_at_call 35; rw [← HW3.out]; refine CallsIn.inRound l (callsIn_wide.2 (C.out.mono ?_)); rintro e w' ⟨rfl, rfl⟩)
    have hset := (Touch.refl V W3).setCell (p := ⟨w.heap.size, 0, none⟩) v1 (.int .i64 (cl (cl s + cl y.l)))
    exact ⟨(keepsFrom_below B3.out).trans ((KeepsOthers.setCell _ _ _).from _), touchK_t (Touch.of_below B3.out) hset, by rw [N.out]; exact HB3.out.set _, touchK_t (touchK_t HT.out (Touch.of_below B3.out)) hset, by have := B3.out.size; have := hset.size; omega⟩
  case done =>
    rintro D ys W hD hys ⟨hb, ht, hz⟩ hK
    have HG2 := hide (show G = sumF r ys from by rw [HG.out, sumF, hys])
    obtain ⟨s, hs⟩ : ∃ s, s = sumF r ys := ⟨_, rfl⟩
    rw [← hs] at hb HG2
    have cb := hb.cell
    have HT := hide ht
    clear hb ht hys hs
    gi_wp2
    refine ⟨by simp, .inl ⟨_, _, rfl, run_takeDeferred hK, ?_⟩⟩
    refine ⟨.int .i64 s, ?_, by rw [HG2.out], ?_⟩
    · simp [results, Tryz.func69, Tryz.results69, go_sem]
    · refine B2.out.trans (Touch.below (S := V) ?_ B2.out.size vge)
      exact touchK_t HT.out (Touch.of_grown (grownBy_putObj' _ D _) (fun g e => by cases e; exact vhi _ (by omega)))
  case stop =>
    rintro D c pre W hD hys hF hK
    exact hF.elim
end Go.Proofs.YtcmgkjjkhfcedaaGreat
