/-
  Mutexes that are held: plain words, what each call does, what is so all along (stage 12).
-/
import Derived.Test.YteeofpjfgjhemaaRkPlain
import Derived.Test.YteeofpjfgjhemaaGhClosed
namespace Go.Proofs.Yteeofpjfgjhemaa
open Go.ChangeShapes Go.WideShapes Go.ChangeAt Go.RowKit
set_option linter.unusedVariables false
/-- Who holds which mutex, for how many ticks. -/
structure Hd where
  t : Int
  m : Int
  k : Int
/-- Who waits for which. -/
structure Wt where
  t : Int
  m : Int
structure Lks where
  ms : List Mu
  h : List Hd
  w : List Wt
def holds (s : Lks) (t : Int) : List Hd := s.h.filter fun x => x.t == t
def numsL (s : Lks) (t : Int) : List Int := (holds s t).map (·.m)
def ownL (s : Lks) (m : Int) : Int := match s.h.find? (fun x => x.m == m) with
  | some x => x.t
  | none => -1
def waitL (s : Lks) (t : Int) : Int := match s.w.find? (fun y => y.t == t) with
  | some y => y.m
  | none => -1
def lockE (s : Lks) (t m : Int) : Int := if t < 0 then 2 else if 0 ≤ waitL s t then 5 else mayMu s.ms (numsL s t) m
def lockB (s : Lks) (t m : Int) : Bool := decide (lockE s t m = 0) && decide (ownL s m < 0)
def lockS (s : Lks) (t m : Int) : Lks := if lockE s t m = 0 then (if ownL s m < 0 then ⟨s.ms, s.h ++ [⟨t, m, 0⟩], s.w⟩ else ⟨s.ms, s.h, s.w ++ [⟨t, m⟩]⟩) else s
def lastL (s : Lks) (t : Int) : Option Int := (numsL s t).getLast?
def unlockE (s : Lks) (t m : Int) : Int := if lastL s t = some m then 0 else 6
def unlockS (s : Lks) (t m : Int) : Lks := if lastL s t = some m then ⟨s.ms, s.h.filter fun x => x.m != m, s.w.filter fun y => y.m != m⟩ else s
def unlockW (s : Lks) (t m x : Int) : Prop := lastL s t = some m ∧ ∃ y ∈ s.w, y.t = x ∧ y.m = m
def leaveS (s : Lks) (t : Int) : Lks := ⟨s.ms, s.h.filter fun x => x.t != t, s.w.filter fun y => y.t != t && !((numsL s t).contains y.m)⟩
def leaveW (s : Lks) (t x : Int) : Prop := ∃ y ∈ s.w, y.t = x ∧ y.t ≠ t ∧ y.m ∈ numsL s t
def addN (a b : Int) : Int := cl (cl a + cl b)
def runH (t n : Int) (x : Hd) : Hd := if x.t = t then ⟨x.t, x.m, addN x.k n⟩ else x
def runS (s : Lks) (t n : Int) : Lks := ⟨s.ms, s.h.map (runH t n), s.w⟩
def limAt (ms : List Mu) (m : Int) : Int := (muAt ms m).l
def overL (s : Lks) (t n : Int) : Bool := (holds s t).any fun x => decide (limAt s.ms x.m < addN x.k n)
def ownersL (s : Lks) : List Int := (List.range s.ms.length).map fun (i : Nat) => ownL s (i : Int)
/-- What is so all along. -/
structure GoodK (s : Lks) : Prop where
  hok : ∀ x ∈ s.h, 0 ≤ x.t ∧ 0 ≤ x.m ∧ x.m < (s.ms.length : Int)
  once : (s.h.map (·.m)).Nodup
  rise : s.h.Pairwise fun x y => x.t = y.t → (muAt s.ms x.m).r < (muAt s.ms y.m).r
  wt : ∀ y ∈ s.w, 0 ≤ y.t ∧ 0 ≤ y.m ∧ y.m < (s.ms.length : Int)
  wonce : (s.w.map (·.t)).Nodup
  wown : ∀ y ∈ s.w, ∃ x ∈ s.h, x.m = y.m ∧ x.t ≠ y.t
  above : ∀ y ∈ s.w, ∀ x ∈ s.h, x.t = y.t → (muAt s.ms x.m).r < (muAt s.ms y.m).r
theorem good_new (ms : List Mu) : GoodK ⟨ms, [], []⟩ := ⟨by simp, by simp, by simp, by simp, by simp, by simp, by simp⟩
theorem mem_nums {s : Lks} {t m : Int} : m ∈ numsL s t ↔ ∃ x ∈ s.h, x.t = t ∧ x.m = m := by
  unfold numsL holds
  simp [List.mem_map, List.mem_filter, and_assoc]
theorem own_none {s : Lks} (g : GoodK s) {m : Int} : ownL s m < 0 ↔ ∀ x ∈ s.h, x.m ≠ m := by
  unfold ownL
  split
  · rename_i x hx
    have h1 := List.mem_of_find?_eq_some hx
    have h2 := List.find?_some hx
    have := (g.hok x h1).1
    constructor
    · intro h; omega
    · intro h; exact absurd (by simpa using h2) (h x h1)
  · rename_i hx
    rw [List.find?_eq_none] at hx
    constructor
    · intro _ x hm; simpa using hx x hm
    · intro _; omega
theorem own_some {s : Lks} {m : Int} (h : 0 ≤ ownL s m) : ∃ x ∈ s.h, x.m = m ∧ x.t = ownL s m := by
  unfold ownL at *
  split at h
  · rename_i x hx
    exact ⟨x, List.mem_of_find?_eq_some hx, by simpa using List.find?_some hx, rfl⟩
  · omega
theorem wait_none {s : Lks} (g : GoodK s) {t : Int} : waitL s t < 0 ↔ ∀ y ∈ s.w, y.t ≠ t := by
  unfold waitL
  split
  · rename_i y hy
    have h1 := List.mem_of_find?_eq_some hy
    have h2 := List.find?_some hy
    have := (g.wt y h1).2.1
    constructor
    · intro h; omega
    · intro h; exact absurd (by simpa using h2) (h y h1)
  · rename_i hy
    rw [List.find?_eq_none] at hy
    constructor
    · intro _ y hm; simpa using hy y hm
    · intro _; omega
theorem wait_some {s : Lks} {t : Int} (h : 0 ≤ waitL s t) : ∃ y ∈ s.w, y.t = t ∧ y.m = waitL s t := by
  unfold waitL at *
  split at h
  · rename_i y hy
    exact ⟨y, List.mem_of_find?_eq_some hy, by simpa using List.find?_some hy, rfl⟩
  · omega
theorem nodup_same {α β : Type} {f : α → β} {l : List α} (h : (l.map f).Nodup) {x y : α} (hx : x ∈ l) (hy : y ∈ l) (e : f x = f y) : x = y := by
  induction l with
  | nil => cases hx
  | cons a l ih =>
    rw [List.map_cons, List.nodup_cons] at h
    rcases List.mem_cons.1 hx with hx1 | hx1
    · rcases List.mem_cons.1 hy with hy1 | hy1
      · rw [hx1, hy1]
      · exact absurd (List.mem_map.2 ⟨y, hy1, by rw [← e, hx1]⟩) h.1
    · rcases List.mem_cons.1 hy with hy1 | hy1
      · exact absurd (List.mem_map.2 ⟨x, hx1, by rw [e, hy1]⟩) h.1
      · exact ih h.2 hx1 hy1
theorem own_is {s : Lks} (g : GoodK s) {x : Hd} (hx : x ∈ s.h) : ownL s x.m = x.t := by
  by_cases h : 0 ≤ ownL s x.m
  · obtain ⟨z, hz, e1, e2⟩ := own_some h
    rw [nodup_same g.once hz hx e1] at e2
    exact e2.symm
  · exact absurd rfl ((own_none g).1 (by omega) x hx)
theorem wait_is {s : Lks} (g : GoodK s) {y : Wt} (hy : y ∈ s.w) : waitL s y.t = y.m := by
  by_cases h : 0 ≤ waitL s y.t
  · obtain ⟨z, hz, e1, e2⟩ := wait_some h
    rw [nodup_same g.wonce hz hy e1] at e2
    exact e2.symm
  · exact absurd rfl ((wait_none g).1 (by omega) y hy)
theorem may_ok {ms : List Mu} {hs : List Int} {m : Int} (h : mayMu ms hs m = 0) : (0 ≤ m ∧ m < (ms.length : Int)) ∧ ∀ x ∈ hs, 0 ≤ x ∧ x < (ms.length : Int) → (muAt ms x).r < (muAt ms m).r := by
  unfold mayMu at h
  split at h
  · omega
  · rename_i h1
    split at h
    · omega
    · rename_i h2
      have h1 : isMu ms.length m = true := by simpa using h1
      unfold isMu at h1
      refine ⟨by simpa using h1, fun x hx hi => ?_⟩
      have h3 : ¬ inWay ms m x = true := fun e => h2 (List.any_eq_true.2 ⟨x, hx, e⟩)
      unfold inWay isMu at h3
      have h4 : ¬ (muAt ms m).r ≤ (muAt ms x).r := by simpa [hi.1, hi.2] using h3
      omega
theorem lock_ok {s : Lks} {t m : Int} (h : lockE s t m = 0) : 0 ≤ t ∧ waitL s t < 0 ∧ mayMu s.ms (numsL s t) m = 0 := by
  unfold lockE at h
  split at h
  · omega
  · split at h
    · omega
    · exact ⟨by omega, by omega, h⟩
theorem good_lock {s : Lks} (g : GoodK s) (t m : Int) : GoodK (lockS s t m) := by
  unfold lockS
  split
  · rename_i h
    obtain ⟨t0, hw, hm⟩ := lock_ok h
    obtain ⟨m0, hr⟩ := may_ok hm
    have hr2 : ∀ x ∈ s.h, x.t = t → (muAt s.ms x.m).r < (muAt s.ms m).r := fun x hx e => hr x.m (mem_nums.2 ⟨x, hx, e, rfl⟩) (g.hok x hx).2
    have hw2 := (wait_none g).1 hw
    split
    · rename_i ho
      have ho := (own_none g).1 ho
      refine ⟨?_, ?_, ?_, g.wt, g.wonce, ?_, ?_⟩
      · intro x hx
        rcases List.mem_append.1 hx with hx | hx
        · exact g.hok x hx
        · rw [List.mem_singleton] at hx; subst hx; exact ⟨t0, m0⟩
      · show ((s.h ++ [(⟨t, m, 0⟩ : Hd)]).map fun x : Hd => x.m).Nodup
        rw [List.map_append, List.nodup_append]
        refine ⟨g.once, by simp, ?_⟩
        intro a ha b hb e
        simp at hb
        obtain ⟨x, hx, rfl⟩ := List.mem_map.1 ha
        exact ho x hx (by rw [e, hb])
      · show (s.h ++ [(⟨t, m, 0⟩ : Hd)]).Pairwise _
        rw [List.pairwise_append]
        refine ⟨g.rise, by simp, ?_⟩
        intro a ha b hb e
        rw [List.mem_singleton] at hb; subst hb
        exact hr2 a ha e
      · intro y hy
        obtain ⟨x, hx, e⟩ := g.wown y hy
        exact ⟨x, List.mem_append.2 (.inl hx), e⟩
      · intro y hy x hx e
        rcases List.mem_append.1 hx with hx | hx
        · exact g.above y hy x hx e
        · rw [List.mem_singleton] at hx; subst hx; exact absurd e.symm (hw2 y hy)
    · rename_i ho
      obtain ⟨x, hx, e1, e2⟩ := own_some (show 0 ≤ ownL s m by omega)
      refine ⟨g.hok, g.once, g.rise, ?_, ?_, ?_, ?_⟩
      · intro y hy
        rcases List.mem_append.1 hy with hy | hy
        · exact g.wt y hy
        · rw [List.mem_singleton] at hy; subst hy; exact ⟨t0, m0⟩
      · show ((s.w ++ [(⟨t, m⟩ : Wt)]).map fun y : Wt => y.t).Nodup
        rw [List.map_append, List.nodup_append]
        refine ⟨g.wonce, by simp, ?_⟩
        intro a ha b hb e
        simp at hb
        obtain ⟨y, hy, rfl⟩ := List.mem_map.1 ha
        exact hw2 y hy (by rw [e, hb])
      · intro y hy
        rcases List.mem_append.1 hy with hy | hy
        · exact g.wown y hy
        · rw [List.mem_singleton] at hy; subst hy
          refine ⟨x, hx, e1, fun e => ?_⟩
          have := hr2 x hx e
          rw [e1] at this
          omega
      · intro y hy z hz e
        rcases List.mem_append.1 hy with hy | hy
        · exact g.above y hy z hz e
        · rw [List.mem_singleton] at hy; subst hy; exact hr2 z hz e
  · exact g
theorem map_filter_nodup {α β : Type} {f : α → β} {p : α → Bool} {l : List α} (h : (l.map f).Nodup) : ((l.filter p).map f).Nodup := by
  induction l with
  | nil => simp
  | cons a l ih =>
    rw [List.map_cons, List.nodup_cons] at h
    rw [List.filter_cons]
    split
    · rw [List.map_cons, List.nodup_cons]
      refine ⟨fun hm => h.1 ?_, ih h.2⟩
      obtain ⟨x, hx, e⟩ := List.mem_map.1 hm
      exact List.mem_map.2 ⟨x, (List.mem_filter.1 hx).1, e⟩
    · exact ih h.2
theorem good_unlock {s : Lks} (g : GoodK s) (t m : Int) : GoodK (unlockS s t m) := by
  unfold unlockS
  split
  · refine ⟨fun x hx => g.hok x (List.mem_filter.1 hx).1, map_filter_nodup g.once, g.rise.filter _, fun y hy => g.wt y (List.mem_filter.1 hy).1, map_filter_nodup g.wonce, ?_, fun y hy x hx => g.above y (List.mem_filter.1 hy).1 x (List.mem_filter.1 hx).1⟩
    intro y hy
    obtain ⟨hy, hm⟩ := List.mem_filter.1 hy
    obtain ⟨x, hx, e, e2⟩ := g.wown y hy
    exact ⟨x, List.mem_filter.2 ⟨hx, by rw [e]; exact hm⟩, e, e2⟩
  · exact g
theorem good_leave {s : Lks} (g : GoodK s) (t : Int) : GoodK (leaveS s t) := by
  refine ⟨fun x hx => g.hok x (List.mem_filter.1 hx).1, map_filter_nodup g.once, g.rise.filter _, fun y hy => g.wt y (List.mem_filter.1 hy).1, map_filter_nodup g.wonce, ?_, fun y hy x hx => g.above y (List.mem_filter.1 hy).1 x (List.mem_filter.1 hx).1⟩
  intro y hy
  obtain ⟨hy, hm⟩ := List.mem_filter.1 hy
  obtain ⟨x, hx, e, e2⟩ := g.wown y hy
  simp at hm
  refine ⟨x, List.mem_filter.2 ⟨hx, ?_⟩, e, e2⟩
  have : x.t ≠ t := fun e3 => hm.2 (mem_nums.2 ⟨x, hx, e3, e⟩)
  simpa using this
theorem runH_t (t n : Int) (x : Hd) : (runH t n x).t = x.t := by unfold runH; split <;> rfl
theorem runH_m (t n : Int) (x : Hd) : (runH t n x).m = x.m := by unfold runH; split <;> rfl
theorem good_run {s : Lks} (g : GoodK s) (t n : Int) : GoodK (runS s t n) := by
  refine ⟨?_, ?_, ?_, g.wt, g.wonce, ?_, ?_⟩
  · intro x hx
    obtain ⟨z, hz, rfl⟩ := List.mem_map.1 hx
    rw [runH_t, runH_m]; exact g.hok z hz
  · show ((s.h.map (runH t n)).map (·.m)).Nodup
    rw [List.map_map]
    have : ((fun x : Hd => x.m) ∘ runH t n) = fun x : Hd => x.m := funext fun x => runH_m t n x
    rw [this]; exact g.once
  · show (s.h.map (runH t n)).Pairwise _
    rw [List.pairwise_map]
    refine g.rise.imp ?_
    intro a b h
    rw [runH_t, runH_t, runH_m, runH_m]; exact h
  · intro y hy
    obtain ⟨x, hx, e, e2⟩ := g.wown y hy
    exact ⟨runH t n x, List.mem_map.2 ⟨x, hx, rfl⟩, by rw [runH_m]; exact e, by rw [runH_t]; exact e2⟩
  · intro y hy x hx e
    obtain ⟨z, hz, rfl⟩ := List.mem_map.1 hx
    rw [runH_t] at e
    rw [runH_m]; exact g.above y hy z hz e
end Go.Proofs.Yteeofpjfgjhemaa
