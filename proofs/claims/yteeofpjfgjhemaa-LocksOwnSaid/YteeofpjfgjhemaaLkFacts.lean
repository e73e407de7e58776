/-
  Plain facts of mutexes that are held: nobody waits for itself; counts; what one thread does leaves the others.
-/
import Derived.Test.YteeofpjfgjhemaaLkPlain
import Derived.Test.YteeofpjfgjhemaaGhList
namespace Go.Proofs.Yteeofpjfgjhemaa
open Go.ChangeShapes Go.WideShapes Go.ChangeAt Go.RowKit
set_option linter.unusedVariables false
set_option linter.unusedSimpArgs false
def waitsL (s : Lks) (n : Nat) : List Int := (List.range n).map fun (i : Nat) => waitL s (i : Int)
theorem owners_at {s : Lks} {m : Nat} (h : m < s.ms.length) : (ownersL s).getD m 0 = ownL s (m : Int) := by
  unfold ownersL
  rw [List.getD_eq_getElem?_getD, List.getElem?_map, List.getElem?_range h]; rfl
theorem owners_len (s : Lks) : (ownersL s).length = s.ms.length := by unfold ownersL; simp
theorem waits_len (s : Lks) (n : Nat) : (waitsL s n).length = n := by unfold waitsL; simp
theorem waits_at {s : Lks} {n i : Nat} (h : i < n) : (waitsL s n).getD i 0 = waitL s (i : Int) := by
  unfold waitsL
  rw [List.getD_eq_getElem?_getD, List.getElem?_map, List.getElem?_range h]; rfl
/-- For whom i waits, in plain words. -/
theorem on_is {s : Lks} {n : Nat} {i : Int} (h : 0 ≤ onG (waitsL s n) (ownersL s) n i) : 0 ≤ i ∧ 0 ≤ waitL s i ∧ 0 ≤ ownL s (waitL s i) ∧ onG (waitsL s n) (ownersL s) n i = ownL s (waitL s i) := by
  by_cases h1 : i < 0 ∨ (n : Int) ≤ i
  · have : onG (waitsL s n) (ownersL s) n i = -1 := by unfold onG; rw [if_pos (by rcases h1 with h1 | h1; exact .inl h1; exact .inr (.inl h1))]
    omega
  · obtain ⟨k, rfl⟩ : ∃ k : Nat, i = (k : Int) := ⟨i.toNat, by omega⟩
    have e0 : (waitsL s n).getD (k : Int).toNat 0 = waitL s (k : Int) := by rw [Int.toNat_natCast]; exact waits_at (by omega)
    have e1 : onG (waitsL s n) (ownersL s) n (k : Int) = if waitL s (k : Int) < 0 ∨ (s.ms.length : Int) ≤ waitL s (k : Int) then -1
        else if (ownersL s).getD (waitL s (k : Int)).toNat 0 < 0 ∨ (n : Int) ≤ (ownersL s).getD (waitL s (k : Int)).toNat 0 then -1 else (ownersL s).getD (waitL s (k : Int)).toNat 0 := by
      unfold onG
      rw [e0, waits_len, owners_len, if_neg (by omega)]
    rw [e1] at h ⊢
    by_cases h2 : waitL s (k : Int) < 0 ∨ (s.ms.length : Int) ≤ waitL s (k : Int)
    · rw [if_pos h2] at h; omega
    · rw [if_neg h2] at h ⊢
      have e2 : (ownersL s).getD (waitL s (k : Int)).toNat 0 = ownL s (waitL s (k : Int)) := by
        rw [owners_at (by omega)]
        congr 1; omega
      rw [e2] at h ⊢
      by_cases h3 : ownL s (waitL s (k : Int)) < 0 ∨ (n : Int) ≤ ownL s (waitL s (k : Int))
      · rw [if_pos h3] at h; omega
      · rw [if_neg h3]; exact ⟨by omega, by omega, by omega, rfl⟩
theorem acy_locks {s : Lks} (g : GoodK s) (n : Nat) : acyZ (waitsL s n) (ownersL s) (n : Int) = true := by
  unfold acyZ
  refine acyG_yes fun i hi hm => ?_
  have key := chainG_in (ws := waitsL s n) (os := ownersL s) (n := (n : Int)) (j := (i : Int)) (P := fun x => ∃ z ∈ s.h, z.t = x ∧ (muAt s.ms (waitL s (i : Int))).r ≤ (muAt s.ms z.m).r ∧ 0 ≤ waitL s (i : Int)) ?_ ?_ (i : Int) hm
  · obtain ⟨z, hz, e1, e2, e3⟩ := key
    obtain ⟨y, hy, f1, f2⟩ := wait_some e3
    have := g.above y hy z hz (by rw [e1, f1])
    rw [f2] at this
    omega
  · intro h
    obtain ⟨_, h1, h2, h3⟩ := on_is h
    obtain ⟨z, hz, e1, e2⟩ := own_some h2
    exact ⟨z, hz, by rw [h3, e2], by rw [e1]; omega, h1⟩
  · intro x ⟨z, hz, e1, e2, e3⟩ h
    obtain ⟨_, h1, h2, h3⟩ := on_is h
    obtain ⟨v, hv, f1, f2⟩ := own_some h2
    obtain ⟨y, hy, y1, y2⟩ := wait_some h1
    have := g.above y hy z hz (by rw [e1, y1])
    rw [y2] at this
    exact ⟨v, hv, by rw [h3, f2], by rw [f1]; omega, e3⟩
/-- How many are held by threads below j, of mutexes below k. -/
def cntT (s : Lks) (j : Nat) : Nat := (s.h.filter fun x => decide (x.t < (j : Int))).length
def cntM (s : Lks) (k : Nat) : Nat := (s.h.filter fun x => decide (x.m < (k : Int))).length
theorem cntT_zero {s : Lks} (g : GoodK s) : cntT s 0 = 0 := by
  unfold cntT
  rw [List.length_eq_zero_iff, List.filter_eq_nil_iff]
  intro x hx
  have := (g.hok x hx).1
  simp; omega
theorem cntM_zero {s : Lks} (g : GoodK s) : cntM s 0 = 0 := by
  unfold cntM
  rw [List.length_eq_zero_iff, List.filter_eq_nil_iff]
  intro x hx
  have := (g.hok x hx).2.1
  simp; omega
theorem filter_next {α : Type} (f : α → Int) (l : List α) (j : Nat) : (l.filter fun x => decide (f x < ((j + 1 : Nat) : Int))).length = (l.filter fun x => decide (f x < (j : Int))).length + (l.filter fun x => f x == (j : Int)).length := by
  rw [← List.countP_eq_length_filter, ← List.countP_eq_length_filter, ← List.countP_eq_length_filter]
  induction l with
  | nil => rfl
  | cons a l ih =>
    simp only [List.countP_cons, decide_eq_true_eq, beq_iff_eq]
    rw [ih]
    repeat' split
    all_goals omega
theorem cntT_succ (s : Lks) (j : Nat) : cntT s (j + 1) = cntT s j + (holds s (j : Int)).length := filter_next (fun x : Hd => x.t) s.h j
theorem filter_one {l : List Hd} (h : (l.map (·.m)).Nodup) {x : Hd} (hx : x ∈ l) : (l.filter fun z => z.m == x.m).length = 1 := by
  induction l with
  | nil => cases hx
  | cons a l ih =>
    rw [List.map_cons, List.nodup_cons] at h
    rcases List.mem_cons.1 hx with e | hx1
    · subst e
      have : (l.filter fun z => z.m == x.m) = [] := by
        rw [List.filter_eq_nil_iff]
        intro z hz e
        exact h.1 (List.mem_map.2 ⟨z, hz, by simpa using e⟩)
      simp [this]
    · have : ¬ a.m = x.m := fun e => h.1 (List.mem_map.2 ⟨x, hx1, e.symm⟩)
      simp [this, ih h.2 hx1]
theorem cntM_succ {s : Lks} (g : GoodK s) (k : Nat) : cntM s (k + 1) = cntM s k + (if 0 ≤ ownL s (k : Int) then 1 else 0) := by
  have := filter_next (fun x : Hd => x.m) s.h k
  unfold cntM
  rw [this]
  congr 1
  split
  · rename_i h
    obtain ⟨x, hx, e, _⟩ := own_some h
    rw [← e]
    exact filter_one g.once hx
  · rename_i h
    have h := (own_none g (m := (k : Int))).1 (by omega)
    rw [List.length_eq_zero_iff, List.filter_eq_nil_iff]
    intro x hx e
    exact h x hx (by simpa using e)
theorem cntM_all {s : Lks} (g : GoodK s) : cntM s s.ms.length = s.h.length := by
  unfold cntM
  rw [List.filter_eq_self.2]
  intro x hx
  have := (g.hok x hx).2.2
  simpa using this
theorem cntT_all {s : Lks} {n : Nat} (h : ∀ x ∈ s.h, x.t < (n : Int)) : cntT s n = s.h.length := by
  unfold cntT
  rw [List.filter_eq_self.2]
  intro x hx
  simpa using h x hx
theorem cntM_mono (s : Lks) {j k : Nat} (h : j ≤ k) : cntM s j ≤ cntM s k := by
  unfold cntM
  have : (s.h.filter fun x => decide (x.m < (j : Int))) = ((s.h.filter fun x => decide (x.m < (k : Int))).filter fun x => decide (x.m < (j : Int))) := by
    rw [List.filter_filter]
    congr 1
    funext x
    by_cases h1 : x.m < (j : Int)
    · have : x.m < (k : Int) := by omega
      simp [h1, this]
    · simp [h1]
  rw [this]
  exact List.length_filter_le _ _
theorem hold_mem {s : Lks} {t : Int} {i : Nat} {x : Hd} (h : (holds s t)[i]? = some x) : x ∈ s.h ∧ x.t = t := by
  have := List.mem_of_getElem? h
  unfold holds at this
  simpa using List.mem_filter.1 this
theorem rank_at {ms : List Mu} {m : Int} (h : 0 ≤ m ∧ m < (ms.length : Int)) : rankMu ms m = (muAt ms m).r := by
  unfold rankMu isMu
  rw [if_pos (by simpa using h)]
theorem hold_rise {s : Lks} (g : GoodK s) {t : Int} {i : Nat} {x y : Hd} (hx : (holds s t)[i]? = some x) (hy : (holds s t)[i + 1]? = some y) : rankMu s.ms x.m < rankMu s.ms y.m := by
  have h1 := hold_mem hx
  have h2 := hold_mem hy
  rw [rank_at (g.hok x h1.1).2, rank_at (g.hok y h2.1).2]
  have hp : (holds s t).Pairwise fun x y => x.t = y.t → (muAt s.ms x.m).r < (muAt s.ms y.m).r := g.rise.filter _
  obtain ⟨a, ha⟩ := List.getElem?_eq_some_iff.1 hx
  obtain ⟨b, hb⟩ := List.getElem?_eq_some_iff.1 hy
  have := List.pairwise_iff_getElem.1 hp i (i + 1) a b (by omega)
  rw [ha, hb] at this
  exact this (by rw [h1.2, h2.2])
theorem hold_below {s : Lks} (g : GoodK s) {t : Int} {i : Nat} {x : Hd} (hx : (holds s t)[i]? = some x) (hw : 0 ≤ waitL s t) : rankMu s.ms x.m < rankMu s.ms (waitL s t) := by
  have h1 := hold_mem hx
  obtain ⟨y, hy, e1, e2⟩ := wait_some hw
  rw [rank_at (g.hok x h1.1).2, ← e2, rank_at (g.wt y hy).2]
  exact g.above y hy x h1.1 (by rw [h1.2, e1])
theorem wait_owned {s : Lks} (g : GoodK s) {t : Int} (hw : 0 ≤ waitL s t) : 0 ≤ ownL s (waitL s t) ∧ ownL s (waitL s t) ≠ t := by
  obtain ⟨y, hy, e1, e2⟩ := wait_some hw
  obtain ⟨x, hx, f1, f2⟩ := g.wown y hy
  rw [← e2, ← f1, own_is g hx]
  exact ⟨(g.hok x hx).1, by rw [← e1]; exact f2⟩
/-- Threads below n alone. -/
def OnlyT (s : Lks) (n : Nat) : Prop := ∀ x ∈ s.h, x.t < (n : Int)
theorem only_lock {s : Lks} {n : Nat} (h : OnlyT s n) {t : Int} (ht : t < (n : Int)) (m : Int) : OnlyT (lockS s t m) n := by
  unfold lockS
  split
  · split
    · intro x hx
      rcases List.mem_append.1 hx with hx | hx
      · exact h x hx
      · rw [List.mem_singleton] at hx; subst hx; exact ht
    · exact h
  · exact h
theorem only_unlock {s : Lks} {n : Nat} (h : OnlyT s n) (t m : Int) : OnlyT (unlockS s t m) n := by
  unfold unlockS
  split
  · exact fun x hx => h x (List.mem_filter.1 hx).1
  · exact h
theorem only_leave {s : Lks} {n : Nat} (h : OnlyT s n) (t : Int) : OnlyT (leaveS s t) n := fun x hx => h x (List.mem_filter.1 hx).1
/-- What one thread does leaves what another one holds. -/
theorem holds_lock {s : Lks} {t u m : Int} (h : t ≠ u) : holds (lockS s t m) u = holds s u := by
  unfold lockS
  split
  · split
    · unfold holds
      rw [List.filter_append]
      simp [h]
    · rfl
  · rfl
theorem holds_unlock {s : Lks} (g : GoodK s) {t u m : Int} (h : t ≠ u) : holds (unlockS s t m) u = holds s u := by
  unfold unlockS
  split
  · rename_i hl
    have hm : m ∈ numsL s t := by unfold lastL at hl; exact List.mem_of_getLast? hl
    obtain ⟨x, hx, e1, e2⟩ := mem_nums.1 hm
    unfold holds
    rw [List.filter_filter]
    refine List.filter_congr fun z hz => ?_
    by_cases e : z.t = u
    · have : z.m ≠ m := fun f => by
        have := nodup_same g.once hz hx (by rw [f, e2])
        rw [this, e1] at e
        exact h e
      simp [e, this]
    · simp [e]
  · rfl
theorem holds_leave {s : Lks} {t u : Int} (h : t ≠ u) : holds (leaveS s t) u = holds s u := by
  unfold leaveS holds
  rw [List.filter_filter]
  refine List.filter_congr fun z hz => ?_
  by_cases e : z.t = u
  · have : z.t ≠ t := fun f => h (by rw [← f, e])
    simp [e]; rw [← e]; exact this
  · simp [e]
theorem holds_run {s : Lks} {t u n : Int} (h : t ≠ u) : holds (runS s t n) u = holds s u := by
  unfold runS holds
  show (s.h.map (runH t n)).filter _ = _
  induction s.h with
  | nil => rfl
  | cons a l ih =>
    rw [List.map_cons, List.filter_cons, List.filter_cons, ih, runH_t]
    by_cases e : a.t = u
    · have : a.t ≠ t := fun f => h (by rw [← f, e])
      have e2 : runH t n a = a := by unfold runH; rw [if_neg this]
      rw [e2]
    · simp [e]
end Go.Proofs.Yteeofpjfgjhemaa
