/-
  Plain facts of an interrupt line (chapter 14): no Go in sight.
-/
import Derived.Test.YtmelbhilafjpcaaNumPlain
namespace Go.Proofs.Ytmelbhilafjpcaa
set_option linter.unusedVariables false
/-- A line: its gap, from when on the next one may come, when what is pending came, whether one is pending, whether one is kept back. -/
structure Ls where
  gap : Int
  next : Int
  at_ : Int
  pend : Bool
  kept : Bool
def arrB (s : Ls) (now : Int) : Bool := !s.pend && decide (s.next ≤ now)
def nextL (s : Ls) (now : Int) : Int := cl (cl now + cl s.gap)
def arrS (s : Ls) (now : Int) : Ls := if arrB s now = true then { s with pend := true, at_ := now, next := nextL s now } else { s with kept := true }
def tckB (s : Ls) (now : Int) : Bool := s.kept && arrB s now
def tckS (s : Ls) (now : Int) : Ls := if tckB s now = true then { s with kept := false, pend := true, at_ := now, next := nextL s now } else s
def tkS (s : Ls) : Ls := { s with pend := false }
def atL (s : Ls) : Int := if s.pend = true then s.at_ else 0
def newL (g : Int) : Ls := ⟨g, 0, 0, false, false⟩
theorem nextL_small {s : Ls} {now : Int} (h0 : 0 ≤ now) (h1 : now ≤ 2000000000) (g0 : 0 ≤ s.gap) (g1 : s.gap ≤ 1000) : nextL s now = now + s.gap := by
  unfold nextL
  rw [cl_in now h0 (by omega), cl_in s.gap g0 (by omega), cl_in _ (by omega) (by omega)]
/-- LineGaps: what holds ahead of moment t. -/
structure GapI (g t : Int) (s : Ls) (last : Int) (any : Bool) : Prop where
  gap : s.gap = g
  nx : any = true → s.next = last + g
  nx0 : any = false → s.next = 0
def stepA (s : Ls) (t : Int) (bit : Bool) : Ls := if bit = true then arrS (tckS s t) t else tckS s t
def cameA (s : Ls) (t : Int) (bit : Bool) : Bool := (bit && arrB (tckS s t) t) || tckB s t
theorem arrS_gap (s : Ls) (t : Int) : (arrS s t).gap = s.gap := by unfold arrS; split <;> rfl
theorem tckS_gap (s : Ls) (t : Int) : (tckS s t).gap = s.gap := by unfold tckS; split <;> rfl
theorem stepA_gap (s : Ls) (t : Int) (bit : Bool) : (stepA s t bit).gap = s.gap := by
  unfold stepA
  split
  · rw [arrS_gap, tckS_gap]
  · exact tckS_gap s t
theorem stepA_next {s : Ls} {t : Int} {bit : Bool} (h0 : 0 ≤ t) (h1 : t ≤ 2000000000) (g0 : 0 ≤ s.gap) (g1 : s.gap ≤ 1000) : (stepA s t bit).next = if cameA s t bit = true then t + s.gap else s.next := by
  unfold stepA cameA
  by_cases k : tckB s t = true
  · have e : tckS s t = { s with kept := false, pend := true, at_ := t, next := nextL s t } := by unfold tckS; rw [if_pos k]
    have f : arrB (tckS s t) t = false := by rw [e]; rfl
    rw [k, Bool.or_true, if_pos rfl]
    cases bit with
    | false => rw [if_neg (by simp), e]; exact nextL_small h0 h1 g0 g1
    | true =>
      rw [if_pos rfl]
      unfold arrS
      rw [f, if_neg (by simp), e]
      exact nextL_small h0 h1 g0 g1
  · have e : tckS s t = s := by unfold tckS; rw [if_neg k]
    have k' : tckB s t = false := by simpa using k
    rw [e, k', Bool.or_false]
    cases bit with
    | false => rfl
    | true =>
      rw [if_pos rfl, Bool.true_and]
      unfold arrS
      by_cases a : arrB s t = true
      · rw [if_pos a, if_pos a]; exact nextL_small h0 h1 g0 g1
      · rw [if_neg a, if_neg a]
theorem came_next {s : Ls} {t : Int} {bit : Bool} (h : cameA s t bit = true) : s.next ≤ t := by
  unfold cameA at h
  rcases Bool.or_eq_true _ _ |>.mp h with h | h
  · have h2 := (Bool.and_eq_true _ _ |>.mp h).2
    by_cases k : tckB s t = true
    · unfold tckB arrB at k
      simp at k
      exact k.2.2
    · have e : tckS s t = s := by unfold tckS; rw [if_neg k]
      rw [e] at h2
      unfold arrB at h2
      simp at h2
      exact h2.2
  · unfold tckB arrB at h
    simp at h
    exact h.2.2
theorem GapI.step {g t last : Int} {s : Ls} {any : Bool} (h : GapI g t s last any) (bit : Bool) (h0 : 0 ≤ t) (h1 : t ≤ 2000000000) (g0 : 0 ≤ g) (g1 : g ≤ 1000) :
    GapI g (t + 1) (stepA s t bit) (if cameA s t bit = true then t else last) (cameA s t bit || any) := by
  have e := stepA_next (s := s) (bit := bit) h0 h1 (by rw [h.gap]; exact g0) (by rw [h.gap]; exact g1)
  refine ⟨(stepA_gap s t bit).trans h.gap, fun ha => ?_, fun ha => ?_⟩
  · rw [e]
    by_cases k : cameA s t bit = true
    · rw [if_pos k, if_pos k, h.gap]
    · rw [if_neg k, if_neg k]
      refine h.nx ?_
      simpa [k] using ha
  · have k : cameA s t bit = false := by simp at ha; exact ha.1
    rw [e, k, if_neg (by simp)]
    exact h.nx0 (by simp at ha; exact ha.2)
theorem GapI.take {g t last : Int} {s : Ls} {any : Bool} (h : GapI g t s last any) : GapI g t (tkS s) last any := ⟨h.gap, h.nx, h.nx0⟩
theorem GapI.far {g t last : Int} {s : Ls} {any : Bool} (h : GapI g t s last any) {bit : Bool} (hc : cameA s t bit = true) (ha : any = true) : ¬ t - last < g := by
  have := came_next hc
  have := h.nx ha
  omega
/-- With one kept back, and none that came, one is pending once the next one may come. -/
theorem kept_pend {s : Ls} {t : Int} {bit : Bool} (hk : (stepA s t bit).kept = true) (hc : cameA s t bit = false) (hn : (stepA s t bit).next ≤ t) : (stepA s t bit).pend = true := by
  unfold cameA at hc
  simp only [Bool.or_eq_false_iff, Bool.and_eq_false_iff] at hc
  have e : tckS s t = s := by unfold tckS; rw [if_neg (by simp [hc.2])]
  have k := hc.2
  rw [e] at hc
  unfold stepA at hk hn ⊢
  rw [e] at hk hn ⊢
  cases bit with
  | false =>
    rw [if_neg (by simp)] at hk hn ⊢
    unfold tckB arrB at k
    rw [hk] at k
    simpa [hn] using k
  | true =>
    have a : arrB s t = false := by simpa using hc.1
    rw [if_pos rfl] at hk hn ⊢
    unfold arrS at hn ⊢
    rw [if_neg (by simp [a])] at hn ⊢
    unfold arrB at a
    simpa [hn] using a
/-- Two lines, the one some ticks later. -/
structure ShiftI (k g : Int) (s r : Ls) : Prop where
  g1 : s.gap = g
  g2 : r.gap = g
  pend : s.pend = r.pend
  kept : s.kept = r.kept
  at_ : s.pend = true → r.at_ = s.at_ + k ∧ 0 ≤ s.at_ ∧ s.at_ ≤ 1000
  nx : (s.next = 0 ∧ r.next = 0) ∨ r.next = s.next + k
theorem ShiftI.arr {k g : Int} {s r : Ls} (h : ShiftI k g s r) {t : Int} (t0 : 0 ≤ t) (k0 : 0 ≤ k) : arrB s t = arrB r (t + k) := by
  unfold arrB
  rw [h.pend]
  congr 1
  rw [decide_eq_decide]
  rcases h.nx with ⟨e1, e2⟩ | e <;> omega
theorem ShiftI.arrive {k g : Int} {s r : Ls} (h : ShiftI k g s r) {t : Int} (t0 : 0 ≤ t) (t1 : t ≤ 1000) (k0 : 0 ≤ k) (k1 : k ≤ 1000) (g0 : 0 ≤ g) (g1 : g ≤ 1000) : ShiftI k g (arrS s t) (arrS r (t + k)) := by
  have e := h.arr t0 k0
  unfold arrS
  by_cases a : arrB s t = true
  · rw [if_pos a, if_pos (by rw [← e]; exact a)]
    have n1 : nextL s t = t + g := by rw [nextL_small t0 (by omega) (by rw [h.g1]; exact g0) (by rw [h.g1]; exact g1), h.g1]
    have n2 : nextL r (t + k) = t + k + g := by rw [nextL_small (by omega) (by omega) (by rw [h.g2]; exact g0) (by rw [h.g2]; exact g1), h.g2]
    exact ⟨h.g1, h.g2, rfl, h.kept, fun _ => ⟨rfl, t0, t1⟩, .inr (by show nextL r (t + k) = nextL s t + k; rw [n1, n2]; omega)⟩
  · rw [if_neg a, if_neg (by rw [← e]; exact a)]
    exact ⟨h.g1, h.g2, h.pend, rfl, h.at_, h.nx⟩
theorem ShiftI.tckB {k g : Int} {s r : Ls} (h : ShiftI k g s r) {t : Int} (t0 : 0 ≤ t) (k0 : 0 ≤ k) : tckB s t = tckB r (t + k) := by
  unfold Go.Proofs.Ytmelbhilafjpcaa.tckB
  rw [h.kept, h.arr t0 k0]
theorem ShiftI.tick {k g : Int} {s r : Ls} (h : ShiftI k g s r) {t : Int} (t0 : 0 ≤ t) (t1 : t ≤ 1000) (k0 : 0 ≤ k) (k1 : k ≤ 1000) (g0 : 0 ≤ g) (g1 : g ≤ 1000) : ShiftI k g (tckS s t) (tckS r (t + k)) := by
  have e := h.tckB t0 k0
  unfold tckS
  by_cases a : Go.Proofs.Ytmelbhilafjpcaa.tckB s t = true
  · rw [if_pos a, if_pos (by rw [← e]; exact a)]
    have n1 : nextL s t = t + g := by rw [nextL_small t0 (by omega) (by rw [h.g1]; exact g0) (by rw [h.g1]; exact g1), h.g1]
    have n2 : nextL r (t + k) = t + k + g := by rw [nextL_small (by omega) (by omega) (by rw [h.g2]; exact g0) (by rw [h.g2]; exact g1), h.g2]
    exact ⟨h.g1, h.g2, rfl, rfl, fun _ => ⟨rfl, t0, t1⟩, .inr (by show nextL r (t + k) = nextL s t + k; rw [n1, n2]; omega)⟩
  · rw [if_neg a, if_neg (by rw [← e]; exact a)]
    exact h
theorem ShiftI.take {k g : Int} {s r : Ls} (h : ShiftI k g s r) : ShiftI k g (tkS s) (tkS r) := ⟨h.g1, h.g2, rfl, h.kept, (fun e => by cases e), h.nx⟩
/-- LineOnce. -/
theorem once_arr {g now : Int} (h0 : 0 ≤ now) : arrB (newL g) now = true := by simp [arrB, newL, h0]
end Go.Proofs.Ytmelbhilafjpcaa
