/-
  Several texts as one: PkLks PkLoose PkHave.
-/
import Derived.Test.YteeofpjfgjhemaaPkD
import Derived.Test.YteeofpjfgjhemaaLkBoth
import Derived.Test.YteeofpjfgjhemaaRkTable
namespace Go.Proofs.Yteeofpjfgjhemaa
open Go.ChangeShapes Go.WideShapes Go.ChangeAt Go.RowKit Go.Maps
set_option linter.unusedVariables false
set_option linter.unusedSimpArgs false
theorem Rg.same {w : World} {U : Nat → Prop} {T S M H W : Nat} {B : Nat → Nat} {sl : Int → Option Sl} {tag : Nat → Int} {r r' : Rk} (h : Rg w U T S M H W B sl tag r) (hn : r'.n = r.n) (ho : ∀ j, j < r.n → r'.o j = r.o j) (hq : ∀ j, j < r.n → r'.q j = r.q j) (hh : ∀ t, r'.h t = r.h t) (ha : ∀ t, r'.a t = r.a t) : Rg w U T S M H W B sl tag r' := by
  have e1 : r'.h = r.h := funext hh
  have e2 : r'.a = r.a := funext ha
  obtain ⟨cur, m1, m2, m3⟩ := h.m
  refine ⟨by rw [hn]; exact h.s, ⟨cur, m1, by rw [hn]; exact m2, fun j hj => ?_⟩, fun j hj => ?_, h.hm, by rw [e2]; exact h.wm, by rw [e1]; exact h.row, h.us, h.ts, h.lt, by rw [hn]; exact h.n6⟩
  · rw [hn] at hj; rw [ho j hj]; exact m3 j hj
  · rw [hn] at hj; rw [hq j hj]; exact h.b j hj
def rawOf (s : Lks) : Rk := ⟨s.ms.length, fun j => ownL s (j : Int), fun j x => if waitL s x = (j : Int) then some () else none, fun t => hvsL s t, fun t => if 0 ≤ waitL s t then some (waitL s t) else none⟩
/-- Threads are small. -/
structure FewL (s : Lks) : Prop where
  h : ∀ x ∈ s.h, x.t < 1000000
  w : ∀ y ∈ s.w, y.t < 1000000
theorem hvs_nums (s : Lks) (t : Int) : (hvsL s t).map (·.m) = numsL s t := by unfold hvsL numsL; simp
theorem may_lock (s : Lks) (t m : Int) : mayR s.ms (rawOf s) t m = lockE s t m := by
  unfold mayR lockE
  by_cases h0 : t < 0
  · rw [if_pos h0, if_pos h0]
  · rw [if_neg h0, if_neg h0]
    by_cases h1 : 0 ≤ waitL s t
    · rw [if_pos h1, if_pos (show ((rawOf s).a t).isSome = true from by show ((if 0 ≤ waitL s t then some (waitL s t) else none) : Option Int).isSome = true; rw [if_pos h1]; rfl)]
    · rw [if_neg h1, if_neg (show ¬ ((rawOf s).a t).isSome = true from by show ¬ ((if 0 ≤ waitL s t then some (waitL s t) else none) : Option Int).isSome = true; rw [if_neg h1]; simp)]
      rw [← hvs_nums]; rfl
theorem own_neg {s : Lks} (g : GoodK s) {m : Int} (h : ownL s m < 0) : ownL s m = -1 := by
  unfold ownL at *
  split
  · rename_i x hx
    rw [hx] at h
    have := (g.hok x (List.mem_of_find?_eq_some hx)).1
    exact absurd h (by show ¬ x.t < 0; omega)
  · rfl
theorem wait_neg {s : Lks} (g : GoodK s) {t : Int} (h : waitL s t < 0) : waitL s t = -1 := by
  unfold waitL at *
  split
  · rename_i y hy
    rw [hy] at h
    have := (g.wt y (List.mem_of_find?_eq_some hy)).2.1
    exact absurd h (by show ¬ y.m < 0; omega)
  · rfl
theorem raw_q {s : Lks} (g : GoodK s) (f : FewL s) {j : Nat} {x : Int} (h : ((rawOf s).q j x).isSome = true) : (rawOf s).a x = some (j : Int) ∧ 0 ≤ x ∧ x < 1000000 := by
  have h1 : waitL s x = (j : Int) := by
    by_cases e : waitL s x = (j : Int)
    · exact e
    · have : (rawOf s).q j x = none := if_neg e
      rw [this] at h; cases h
  have h0 : 0 ≤ waitL s x := by omega
  obtain ⟨y, hy, e1, e2⟩ := wait_some h0
  refine ⟨?_, by rw [← e1]; exact (g.wt y hy).1, by rw [← e1]; exact f.w y hy⟩
  show (if 0 ≤ waitL s x then some (waitL s x) else none) = _
  rw [if_pos h0, h1]
theorem raw_qs {s : Lks} {j : Nat} {x : Int} : ((rawOf s).q j x).isSome = true ↔ waitL s x = (j : Int) := by
  show ((if waitL s x = (j : Int) then some () else none) : Option Unit).isSome = true ↔ _
  by_cases e : waitL s x = (j : Int)
  · rw [if_pos e]; simp [e]
  · rw [if_neg e]; simp [e]
theorem raw_few {s : Lks} (g : GoodK s) (h6 : s.ms.length ≤ 6) (t : Int) : ((rawOf s).h t).length ≤ 100 := by
  have h1 := few_keys s.ms.length (s.h.map (·.m)) g.once (fun k hk => by
    obtain ⟨x, hx, rfl⟩ := List.mem_map.1 hk
    exact ⟨(g.hok x hx).2.1, (g.hok x hx).2.2⟩)
  have h2 : (hvsL s t).length ≤ s.h.length := by unfold hvsL holds; rw [List.length_map]; exact List.length_filter_le _ _
  rw [List.length_map] at h1
  show (hvsL s t).length ≤ 100
  omega
theorem raw_wait {s : Lks} (g : GoodK s) (t : Int) : ((rawOf s).a t).getD (-1) = waitL s t := by
  show ((if 0 ≤ waitL s t then some (waitL s t) else none) : Option Int).getD (-1) = _
  by_cases h : 0 ≤ waitL s t
  · rw [if_pos h]; rfl
  · rw [if_neg h, wait_neg g (by omega)]; rfl
theorem raw_own {s : Lks} (g : GoodK s) (m : Int) : (if 0 ≤ m ∧ m < ((rawOf s).n : Int) then (rawOf s).o m.toNat else -1) = ownL s m := by
  by_cases h : 0 ≤ m ∧ m < ((rawOf s).n : Int)
  · rw [if_pos h]
    show ownL s ((m.toNat : Nat) : Int) = _
    rw [Int.toNat_of_nonneg h.1]
  · rw [if_neg h]
    by_cases h0 : 0 ≤ ownL s m
    · obtain ⟨x, hx, e, _⟩ := own_some h0
      have := (g.hok x hx).2
      exact absurd (by rw [← e]; exact this) h
    · rw [own_neg g (by omega)]
/-! Lock. -/
theorem raw_holds {s : Lks} (g : GoodK s) {t m : Int} (h : lockE s t m = 0) (ho : ownL s m < 0) {j : Nat} (hj : m = (j : Int)) :
    (∀ i, i < s.ms.length → (rawOf (lockS s t m)).o i = upN (rawOf s).o j t i) ∧ (∀ i, (rawOf (lockS s t m)).q i = (rawOf s).q i) ∧ (∀ x, (rawOf (lockS s t m)).h x = upI (rawOf s).h t ((rawOf s).h t ++ [⟨(j : Int), 0⟩]) x) ∧ ∀ x, (rawOf (lockS s t m)).a x = (rawOf s).a x := by
  have e : lockS s t m = ⟨s.ms, s.h ++ [⟨t, m, 0⟩], s.w⟩ := by unfold lockS; rw [if_pos h, if_pos ho]
  have hn := (own_none g).1 ho
  rw [e]
  have hw : ∀ x, waitL ⟨s.ms, s.h ++ [⟨t, m, 0⟩], s.w⟩ x = waitL s x := fun x => rfl
  refine ⟨fun i hi => ?_, fun i => rfl, fun x => ?_, fun x => rfl⟩
  · show ownL ⟨s.ms, s.h ++ [⟨t, m, 0⟩], s.w⟩ (i : Int) = upN (rawOf s).o j t i
    unfold ownL upN
    rw [List.find?_append]
    by_cases ei : i = j
    · subst ei
      rw [if_pos rfl]
      have : s.h.find? (fun x => x.m == (i : Int)) = none := List.find?_eq_none.2 fun x hx => by have := hn x hx; rw [hj] at this; simpa using this
      simp only [this, Option.none_or, List.find?_cons, hj, BEq.rfl, if_true]
    · rw [if_neg ei]
      have : (m == (i : Int)) = false := by rw [hj]; simp; omega
      show (match (s.h.find? (fun x => x.m == (i : Int))).or (List.find? (fun x => x.m == (i : Int)) [(⟨t, m, 0⟩ : Hd)]) with | some x => x.t | none => -1) = ownL s (i : Int)
      have e2 : List.find? (fun x : Hd => x.m == (i : Int)) [(⟨t, m, 0⟩ : Hd)] = none := by simp only [List.find?_cons, this, List.find?_nil]
      rw [e2, Option.or_none]
      rfl
  · show hvsL ⟨s.ms, s.h ++ [⟨t, m, 0⟩], s.w⟩ x = upI (rawOf s).h t (hvsL s t ++ [⟨(j : Int), 0⟩]) x
    unfold hvsL holds upI
    show List.map _ (List.filter _ (s.h ++ [(⟨t, m, 0⟩ : Hd)])) = _
    rw [List.filter_append, List.map_append]
    by_cases ex : x = t
    · subst ex
      rw [if_pos rfl]
      simp [hj]
    · rw [if_neg ex]
      have : (t == x) = false := by simp; omega
      simp [this]
      rfl
theorem raw_waits {s : Lks} (g : GoodK s) {t m : Int} (h : lockE s t m = 0) (ho : ¬ ownL s m < 0) {j : Nat} (hj : m = (j : Int)) :
    (∀ i, (rawOf (lockS s t m)).o i = (rawOf s).o i) ∧ (∀ i, (rawOf (lockS s t m)).q i = upN (rawOf s).q j (updF ((rawOf s).q j) t (some ())) i) ∧ (∀ x, (rawOf (lockS s t m)).h x = (rawOf s).h x) ∧ ∀ x, (rawOf (lockS s t m)).a x = updF (rawOf s).a t (some (j : Int)) x := by
  have e : lockS s t m = ⟨s.ms, s.h, s.w ++ [⟨t, m⟩]⟩ := by unfold lockS; rw [if_pos h, if_neg ho]
  obtain ⟨t0, hw, hm⟩ := lock_ok h
  have hn := (wait_none g).1 hw
  have hwt : ∀ x, waitL ⟨s.ms, s.h, s.w ++ [⟨t, m⟩]⟩ x = if x = t then m else waitL s x := fun x => by
    unfold waitL
    rw [List.find?_append]
    by_cases ex : x = t
    · subst ex
      rw [if_pos rfl]
      have : s.w.find? (fun y => y.t == x) = none := List.find?_eq_none.2 fun y hy => by simpa using hn y hy
      simp [this]
    · rw [if_neg ex]
      have h1 : (t == x) = false := by simp; omega
      have e2 : List.find? (fun y : Wt => y.t == x) [(⟨t, m⟩ : Wt)] = none := by simp only [List.find?_cons, h1, List.find?_nil]
      rw [e2, Option.or_none]
  rw [e]
  refine ⟨fun i => rfl, fun i => ?_, fun x => rfl, fun x => ?_⟩
  · funext x
    show (if waitL ⟨s.ms, s.h, s.w ++ [⟨t, m⟩]⟩ x = (i : Int) then some () else none) = upN (rawOf s).q j (updF ((rawOf s).q j) t (some ())) i x
    rw [hwt]
    unfold upN
    by_cases ei : i = j
    · subst ei
      rw [if_pos rfl]
      unfold updF
      by_cases ex : x = t
      · rw [if_pos ex, if_pos ex, if_pos hj]
      · rw [if_neg ex, if_neg ex]; rfl
    · rw [if_neg ei]
      by_cases ex : x = t
      · rw [if_pos ex, if_neg (by omega), ex]
        show none = (if waitL s t = (i : Int) then some () else none)
        rw [if_neg (by omega)]
      · rw [if_neg ex]; rfl
  · show (if 0 ≤ waitL ⟨s.ms, s.h, s.w ++ [⟨t, m⟩]⟩ x then some (waitL ⟨s.ms, s.h, s.w ++ [⟨t, m⟩]⟩ x) else none) = updF (rawOf s).a t (some (j : Int)) x
    rw [hwt]
    unfold updF
    by_cases ex : x = t
    · rw [if_pos ex, if_pos ex, if_pos (by omega), hj]
    · rw [if_neg ex, if_neg ex]; rfl
/-! What is let go. -/
theorem find_filter {α : Type} (p q : α → Bool) (h : ∀ x, p x = true → q x = true) (l : List α) : (l.filter q).find? p = l.find? p := by
  induction l with
  | nil => rfl
  | cons a l ih =>
    rw [List.filter_cons]
    by_cases hq : q a = true
    · rw [if_pos hq, List.find?_cons, List.find?_cons, ih]
    · rw [if_neg hq, List.find?_cons, ih]
      have : p a = false := by
        cases hp : p a with
        | false => rfl
        | true => exact absurd (h a hp) hq
      rw [this]
/-- The mutexes of js come free, t holds l, some wait no more. -/
theorem raw_run {s : Lks} (t n : Int) : (∀ i, (rawOf (runS s t n)).o i = (rawOf s).o i) ∧ (∀ i, (rawOf (runS s t n)).q i = (rawOf s).q i) ∧ (∀ x, (rawOf (runS s t n)).h x = upI (rawOf s).h t (((rawOf s).h t).map (runV n)) x) ∧ ∀ x, (rawOf (runS s t n)).a x = (rawOf s).a x := by
  have hm : ∀ x, (runH t n x).m = x.m := fun x => by unfold runH; split <;> rfl
  have ht : ∀ x, (runH t n x).t = x.t := fun x => by unfold runH; split <;> rfl
  refine ⟨fun i => ?_, fun i => rfl, fun x => ?_, fun x => rfl⟩
  · show ownL (runS s t n) (i : Int) = ownL s (i : Int)
    unfold ownL runS
    dsimp only
    rw [List.find?_map]
    have : ((fun x : Hd => x.m == (i : Int)) ∘ runH t n) = fun x : Hd => x.m == (i : Int) := by funext x; simp [hm]
    rw [this]
    cases s.h.find? (fun x : Hd => x.m == (i : Int)) with
    | none => rfl
    | some y => exact ht y
  · show hvsL (runS s t n) x = upI (rawOf s).h t ((hvsL s t).map (runV n)) x
    unfold hvsL holds runS upI
    dsimp only
    rw [List.filter_map]
    have : ((fun y : Hd => y.t == x) ∘ runH t n) = fun y : Hd => y.t == x := by funext y; simp [ht]
    rw [this, List.map_map]
    by_cases ex : x = t
    · subst ex
      rw [if_pos rfl, List.map_map]
      apply List.map_congr_left
      intro y hy
      have : y.t = x := by simpa using (List.mem_filter.1 hy).2
      simp [runH, runV, this]
    · rw [if_neg ex]
      show _ = hvsL s x
      unfold hvsL holds
      apply List.map_congr_left
      intro y hy
      have : y.t = x := by simpa using (List.mem_filter.1 hy).2
      have h2 : ¬ y.t = t := by omega
      simp [runH, h2]
end Go.Proofs.Yteeofpjfgjhemaa
namespace Go.Proofs.Yteeofpjfgjhemaa
open Go.ChangeShapes Go.WideShapes Go.ChangeAt Go.RowKit Go.Maps
set_option linter.unusedVariables false
set_option linter.unusedSimpArgs false
theorem find_filter' {α : Type} (p q : α → Bool) (l : List α) (h : ∀ x ∈ l, p x = true → q x = true) : (l.filter q).find? p = l.find? p := by
  induction l with
  | nil => rfl
  | cons a l ih =>
    have ih := ih fun x hx => h x (List.mem_cons_of_mem _ hx)
    rw [List.filter_cons]
    by_cases hq : q a = true
    · rw [if_pos hq, List.find?_cons, List.find?_cons, ih]
    · rw [if_neg hq, List.find?_cons, ih]
      have : p a = false := by
        cases hp : p a with
        | false => rfl
        | true => exact absurd (h a (List.mem_cons_self ..) hp) hq
      rw [this]
theorem own_filter {s : Lks} {q : Hd → Bool} {w : List Wt} {i : Int} (h : ∀ x ∈ s.h, x.m = i → q x = true) : ownL ⟨s.ms, s.h.filter q, w⟩ i = ownL s i := by
  unfold ownL
  dsimp only
  rw [find_filter' _ _ _ (fun x hx e => h x hx (by simpa using e))]
theorem own_gone {s : Lks} {q : Hd → Bool} {w : List Wt} {i : Int} (h : ∀ x ∈ s.h, x.m = i → q x = false) : ownL ⟨s.ms, s.h.filter q, w⟩ i = -1 := by
  unfold ownL
  dsimp only
  have : (s.h.filter q).find? (fun x => x.m == i) = none := List.find?_eq_none.2 fun x hx e => by
    obtain ⟨h1, h2⟩ := List.mem_filter.1 hx
    rw [h x h1 (by simpa using e)] at h2
    cases h2
  rw [this]
theorem wait_filter {s : Lks} {q : Wt → Bool} {hs : List Hd} {x : Int} (h : ∀ y ∈ s.w, y.t = x → q y = true) : waitL ⟨s.ms, hs, s.w.filter q⟩ x = waitL s x := by
  unfold waitL
  dsimp only
  rw [find_filter' _ _ _ (fun y hy e => h y hy (by simpa using e))]
theorem wait_gone {s : Lks} {q : Wt → Bool} {hs : List Hd} {x : Int} (h : ∀ y ∈ s.w, y.t = x → q y = false) : waitL ⟨s.ms, hs, s.w.filter q⟩ x = -1 := by
  unfold waitL
  dsimp only
  have : (s.w.filter q).find? (fun y => y.t == x) = none := List.find?_eq_none.2 fun y hy e => by
    obtain ⟨h1, h2⟩ := List.mem_filter.1 hy
    rw [h y h1 (by simpa using e)] at h2
    cases h2
  rw [this]
theorem raw_a (s : Lks) (x : Int) : (rawOf s).a x = if 0 ≤ waitL s x then some (waitL s x) else none := rfl
/-- What Unlock lets go. -/
theorem raw_unlock {s : Lks} (g : GoodK s) {t : Int} {l : List Hd} {z : Hd} (hz : holds s t = l ++ [z]) {j : Nat} (hj : z.m = (j : Int)) :
    unlockE s t (j : Int) = 0 ∧ (∀ i, (rawOf (unlockS s t (j : Int))).o i = fo (rawOf s).o [j] i) ∧ (∀ i, (rawOf (unlockS s t (j : Int))).q i = fq (rawOf s).q [j] i) ∧ (∀ x, (rawOf (unlockS s t (j : Int))).h x = upI (rawOf s).h t (l.map fun x => ⟨x.m, x.k⟩) x) ∧
      (∀ L : List Int, (∀ x, x ∈ L ↔ waitL s x = (j : Int)) → ∀ x, (rawOf (unlockS s t (j : Int))).a x = delAll (rawOf s).a L x) ∧ ∀ x, unlockW s t (j : Int) x ↔ waitL s x = (j : Int) := by
  have hl : lastL s t = some (j : Int) := by unfold lastL numsL; rw [hz]; simp [hj]
  have hzm : z ∈ holds s t := by rw [hz]; simp
  have hzh : z ∈ s.h ∧ z.t = t := by have := List.mem_filter.1 hzm; exact ⟨this.1, by simpa using this.2⟩
  have e : unlockS s t (j : Int) = ⟨s.ms, s.h.filter fun x => x.m != (j : Int), s.w.filter fun y => y.m != (j : Int)⟩ := by unfold unlockS; rw [if_pos hl]
  have once : ∀ x ∈ s.h, x.m = (j : Int) → x = z := fun x hx e => nodup_same g.once hx hzh.1 (by rw [e, hj])
  have hw : ∀ x, waitL ⟨s.ms, s.h.filter fun x => x.m != (j : Int), s.w.filter fun y => y.m != (j : Int)⟩ x = if waitL s x = (j : Int) then -1 else waitL s x := fun x => by
    by_cases ew : waitL s x = (j : Int)
    · rw [if_pos ew]
      refine wait_gone fun y hy ey => ?_
      have := wait_is g hy
      rw [ey, ew] at this
      simp [this]
    · rw [if_neg ew]
      refine wait_filter fun y hy ey => ?_
      have := wait_is g hy
      rw [ey] at this
      have : y.m ≠ (j : Int) := by omega
      simpa using this
  refine ⟨by unfold unlockE; rw [if_pos hl], fun i => ?_, fun i => ?_, fun x => ?_, fun L hL x => ?_, fun x => ?_⟩
  · rw [fo_at, e]
    show ownL _ (i : Int) = _
    by_cases ei : i = j
    · rw [if_pos (by simp [ei])]
      exact own_gone fun x hx ex => by simp [ex, ei]
    · rw [if_neg (by simp [ei])]
      exact own_filter fun x hx ex => by
        have : x.m ≠ (j : Int) := by omega
        simpa using this
  · funext x
    rw [fq_at, e]
    show (if waitL _ x = (i : Int) then some () else none) = _
    rw [hw]
    have R : (if i ∈ [j] then (fun _ => none) else (rawOf s).q i : Int → Option Unit) x = (if i ∈ [j] then none else if waitL s x = (i : Int) then some () else none) := by split <;> rfl
    rw [R]
    by_cases ew : waitL s x = (j : Int)
    · rw [if_pos ew, if_neg (show ¬ (-1 : Int) = (i : Int) by omega)]
      by_cases ei : i = j
      · rw [if_pos (show i ∈ [j] by simp [ei])]
      · rw [if_neg (show ¬ i ∈ [j] by simp [ei]), if_neg (by omega)]
    · rw [if_neg ew]
      by_cases ei : i = j
      · rw [if_pos (show i ∈ [j] by simp [ei]), if_neg (by omega)]
      · rw [if_neg (show ¬ i ∈ [j] by simp [ei])]
  · rw [e]
    show List.map _ (List.filter _ (List.filter _ s.h)) = upI (rawOf s).h t (l.map fun x => ⟨x.m, x.k⟩) x
    have hc : List.filter (fun y : Hd => y.t == x) (List.filter (fun y : Hd => y.m != (j : Int)) s.h) = List.filter (fun y : Hd => y.m != (j : Int)) (holds s x) := by
      unfold holds; rw [List.filter_filter, List.filter_filter]; congr 1; funext y; rw [Bool.and_comm]
    rw [hc]
    unfold upI
    by_cases ex : x = t
    · subst ex
      rw [if_pos rfl, hz, List.filter_append]
      have h1 : List.filter (fun y : Hd => y.m != (j : Int)) [z] = [] := by simp [hj]
      have h2 : List.filter (fun y : Hd => y.m != (j : Int)) l = l := List.filter_eq_self.2 fun y hy => by
        have hnd : ((holds s x).map (·.m)).Nodup := by
          unfold holds
          exact g.once.sublist ((List.filter_sublist (l := s.h)).map _)
        rw [hz, List.map_append, List.nodup_append] at hnd
        have := hnd.2.2 y.m (List.mem_map.2 ⟨y, hy, rfl⟩) z.m (by simp)
        have : y.m ≠ (j : Int) := by rw [← hj]; exact this
        simpa using this
      rw [h1, h2, List.append_nil]
    · rw [if_neg ex]
      show _ = hvsL s x
      unfold hvsL
      have : List.filter (fun y : Hd => y.m != (j : Int)) (holds s x) = holds s x := List.filter_eq_self.2 fun y hy => by
        have hy2 := List.mem_filter.1 hy
        have : y.m ≠ (j : Int) := fun em => ex (by rw [← hzh.2, ← once y hy2.1 em]; exact (show y.t = x from by simpa using hy2.2).symm)
        simpa using this
      rw [this]
  · rw [del_at, e, raw_a, raw_a]
    by_cases ew : waitL s x = (j : Int)
    · have h2 := (hw x).trans (if_pos ew)
      rw [if_pos ((hL x).2 ew), h2, if_neg (by omega)]
    · have h2 := (hw x).trans (if_neg ew)
      rw [if_neg (fun h => ew ((hL x).1 h)), h2]
  · constructor
    · rintro ⟨_, y, hy, e1, e2⟩
      rw [← e1, wait_is g hy, e2]
    · intro ew
      obtain ⟨y, hy, e1, e2⟩ := wait_some (s := s) (t := x) (by omega)
      exact ⟨hl, y, hy, e1, by rw [e2, ew]⟩
/-- What Leave lets go. -/
theorem raw_leave {s : Lks} (g : GoodK s) {t : Int} {js : List Nat} (hjs : numsL s t = js.map fun (j : Nat) => (j : Int)) {a0 : Int → Option Int} {q0 : Nat → Int → Option Unit}
    (ha : ∀ x, a0 x = if x = t then none else (rawOf s).a x) (hq : ∀ i x, q0 i x = if x = t then none else (rawOf s).q i x) :
    (∀ i, (rawOf (leaveS s t)).o i = fo (rawOf s).o js i) ∧ (∀ i, (rawOf (leaveS s t)).q i = fq q0 js i) ∧ (∀ x, (rawOf (leaveS s t)).h x = upI (rawOf s).h t [] x) ∧
      (∀ L : List Int, (∀ x, x ∈ L ↔ ∃ j ∈ js, (q0 j x).isSome = true) → (∀ x, (rawOf (leaveS s t)).a x = delAll a0 L x) ∧ ∀ x, x ∈ L ↔ leaveW s t x) := by
  have mj : ∀ i : Nat, i ∈ js ↔ (i : Int) ∈ numsL s t := fun i => by
    rw [hjs, List.mem_map]
    constructor
    · exact fun h => ⟨i, h, rfl⟩
    · rintro ⟨a, h, e⟩
      have : a = i := by omega
      rw [← this]; exact h
  have e : leaveS s t = ⟨s.ms, s.h.filter fun x => x.t != t, s.w.filter fun y => y.t != t && !((numsL s t).contains y.m)⟩ := rfl
  have hw : ∀ x, waitL (leaveS s t) x = if x = t ∨ waitL s x ∈ numsL s t then -1 else waitL s x := fun x => by
    rw [e]
    by_cases ew : x = t ∨ waitL s x ∈ numsL s t
    · rw [if_pos ew]
      refine wait_gone fun y hy ey => ?_
      rcases ew with ew | ew
      · simp [ey, ew]
      · have := wait_is g hy
        rw [ey] at this
        rw [this] at ew
        simp [ew]
    · rw [if_neg ew]
      refine wait_filter fun y hy ey => ?_
      have := wait_is g hy
      rw [ey] at this
      have h1 : y.t ≠ t := fun e => ew (.inl (by rw [← ey, e]))
      have h2 : y.m ∉ numsL s t := fun e => ew (.inr (by rw [this]; exact e))
      simp [h1, h2]
  have lq : ∀ x, (∃ j ∈ js, (q0 j x).isSome = true) ↔ x ≠ t ∧ waitL s x ∈ numsL s t := fun x => by
    constructor
    · rintro ⟨j, hj, hs⟩
      rw [hq] at hs
      by_cases ex : x = t
      · rw [if_pos ex] at hs; cases hs
      · rw [if_neg ex] at hs
        exact ⟨ex, by rw [raw_qs.1 hs]; exact (mj j).1 hj⟩
    · rintro ⟨ex, hm⟩
      rw [hjs, List.mem_map] at hm
      obtain ⟨j, hj, e⟩ := hm
      exact ⟨j, hj, by rw [hq, if_neg ex]; exact raw_qs.2 e.symm⟩
  refine ⟨fun i => ?_, fun i => ?_, fun x => ?_, fun L hL => ⟨fun x => ?_, fun x => ?_⟩⟩
  · rw [fo_at]
    show ownL (leaveS s t) (i : Int) = _
    rw [e]
    by_cases hi : i ∈ js
    · rw [if_pos hi]
      obtain ⟨z, hz, e1, e2⟩ := mem_nums.1 ((mj i).1 hi)
      refine own_gone fun x hx ex => ?_
      rw [nodup_same g.once hx hz (by rw [ex, e2])]
      simp [e1]
    · rw [if_neg hi]
      refine own_filter fun x hx ex => ?_
      have : x.t ≠ t := fun e => hi ((mj i).2 (mem_nums.2 ⟨x, hx, e, ex⟩))
      simpa using this
  · funext x
    rw [fq_at]
    show (if waitL (leaveS s t) x = (i : Int) then some () else none) = _
    rw [hw]
    have R : (if i ∈ js then (fun _ => none) else q0 i : Int → Option Unit) x = (if i ∈ js then none else q0 i x) := by split <;> rfl
    rw [R, hq, show (rawOf s).q i x = (if waitL s x = (i : Int) then some () else none) from rfl]
    by_cases ew : x = t ∨ waitL s x ∈ numsL s t
    · rw [if_pos ew, if_neg (show ¬ (-1 : Int) = (i : Int) by omega)]
      by_cases hi : i ∈ js
      · rw [if_pos hi]
      · rw [if_neg hi]
        rcases ew with ew | ew
        · rw [if_pos ew]
        · by_cases ex : x = t
          · rw [if_pos ex]
          · rw [if_neg ex, if_neg (fun e => hi ((mj i).2 (by rw [← e]; exact ew)))]
    · rw [if_neg ew]
      by_cases hi : i ∈ js
      · rw [if_pos hi, if_neg (fun e => ew (.inr (by rw [e]; exact (mj i).1 hi)))]
      · rw [if_neg hi, if_neg (fun e => ew (.inl e))]
  · show List.map _ (List.filter _ (List.filter _ s.h)) = upI (rawOf s).h t [] x
    rw [List.filter_filter]
    unfold upI
    by_cases ex : x = t
    · subst ex
      rw [if_pos rfl]
      have : List.filter (fun a : Hd => (a.t == x) && (a.t != x)) s.h = [] := List.filter_eq_nil_iff.2 fun a _ => by simp
      rw [this]; rfl
    · rw [if_neg ex]
      show _ = hvsL s x
      unfold hvsL holds
      congr 1
      apply List.filter_congr
      intro a _
      by_cases ea : a.t = x
      · have : a.t ≠ t := by omega
        simp [ea, ex]
      · simp [ea]
  · rw [del_at, ha, raw_a]
    by_cases hm : x ∈ L
    · have h1 := (lq x).1 ((hL x).1 hm)
      have h2 : waitL (leaveS s t) x = -1 := by rw [hw, if_pos (Or.inr h1.2)]
      rw [if_pos hm, h2, if_neg (by omega)]
    · rw [if_neg hm]
      by_cases ex : x = t
      · have h2 : waitL (leaveS s t) x = -1 := by rw [hw, if_pos (Or.inl ex)]
        rw [if_pos ex, h2, if_neg (by omega)]
      · have h2 : waitL (leaveS s t) x = waitL s x := by rw [hw, if_neg (fun h => h.elim ex (fun h => hm ((hL x).2 ((lq x).2 ⟨ex, h⟩))))]
        rw [if_neg ex, raw_a, h2]
  · rw [hL, lq]
    constructor
    · rintro ⟨ex, hm⟩
      have h0 : 0 ≤ waitL s x := by
        rw [hjs, List.mem_map] at hm
        obtain ⟨j, _, e⟩ := hm
        omega
      obtain ⟨y, hy, e1, e2⟩ := wait_some h0
      exact ⟨y, hy, e1, by rw [e1]; exact ex, by rw [e2]; exact hm⟩
    · rintro ⟨y, hy, e1, e2, e3⟩
      exact ⟨by rw [← e1]; exact e2, by rw [← e1, wait_is g hy]; exact e3⟩
end Go.Proofs.Yteeofpjfgjhemaa
namespace Go.Proofs.Yteeofpjfgjhemaa
open Go.ChangeShapes Go.WideShapes Go.ChangeAt Go.RowKit Go.Maps
set_option linter.unusedVariables false
set_option linter.unusedSimpArgs false
set_option maxHeartbeats 2000000 in
theorem nilLocks : NilLocks where
  lock := fun w t m => by
    have MA : Calls Try.prog 29 #[.pointer none, .int .i64 t, .int .i64 m] w fun e w' => e = .returned (.int .i64 1) ∧ w = w' := by
      go_enter Try.func29, Try.ntmps29
      go_wp2_with fail
      go_ret
      exact ⟨rfl, rfl⟩
    go_enter Try.func12, Try.ntmps12
    go_wp2_with (go_at_call 29; refine MA.mono ?_; rintro e w1 ⟨rfl, rfl⟩)
    exact bodyPost_ret (v := .tuple #[.bool false, .int .i64 1]) (by simp [results, Try.results12, go_sem]) rfl ⟨rfl, Below.refl _ _⟩
  unlock := fun w t m => by
    go_enter Try.func13, Try.ntmps13
    go_wp2_with fail
    exact bodyPost_ret (v := .tuple #[.slice none 0 0, .int .i64 1]) (by simp [results, Try.results13, go_sem]) rfl ⟨_, _, rfl, Below.refl _ _⟩
  leave := fun w t => by
    go_enter Try.func14, Try.ntmps14
    go_wp2_with fail
    go_ret
    exact ⟨_, _, rfl, Below.refl _ _⟩
  run := fun w t n => by
    go_enter Try.func21, Try.ntmps21
    go_wp2_with fail
    go_end0
    exact ⟨rfl, Below.refl _ _⟩
  over := fun w t n => by
    go_enter Try.func23, Try.ntmps23
    go_upto_region 1 with fail
    go_quiet (fail)
    rename_i Q9 K9 a9
    refine a9 _ _ ?_
    go_wp2_with fail
    go_ret
    exact ⟨rfl, below_drewN (Below.refl _ w) nq⟩
  held := fun w t => by
    go_enter Try.func15, Try.ntmps15
    go_wp2_with fail
    go_ret
    exact ⟨_, _, rfl, Below.refl _ _⟩
  owner := fun w m => by
    go_enter Try.func17, Try.ntmps17
    go_wp2_with fail
    go_ret
    exact ⟨rfl, Below.refl _ _⟩
  owners := fun w => by
    go_enter Try.func19, Try.ntmps19
    go_wp2_with fail
    go_ret
    exact ⟨_, _, rfl, Below.refl _ _⟩
  waits := fun w t => by
    go_enter Try.func16, Try.ntmps16
    go_wp2_with fail
    go_ret
    exact ⟨rfl, Below.refl _ _⟩
/-- The landed locks at S. -/
def PKl (w : World) (U Q : Nat → Prop) (T S : Nat) (s : Lks) : Prop := GoodK s ∧ FewL s ∧ Tab w Q T s.ms ∧ (∀ i, U i → ¬ Q i) ∧ Rw w U T S (rawOf s)
theorem lim_over {s : Lks} (g : GoodK s) (t n : Int) : ((rawOf s).h t).any (isOver s.ms n) = overL s t n := by
  show (hvsL s t).any (isOver s.ms n) = (holds s t).any fun x => decide (limAt s.ms x.m < addN x.k n)
  unfold hvsL
  rw [List.any_map]
  have key : ∀ x ∈ holds s t, (isOver s.ms n ∘ fun x : Hd => (⟨x.m, x.k⟩ : Hv)) x = decide (limAt s.ms x.m < addN x.k n) := fun x hx => by
    have := g.hok x (List.mem_filter.1 hx).1
    show decide (limMu s.ms x.m < addN x.k n) = decide (limAt s.ms x.m < addN x.k n)
    unfold limMu limAt
    rw [if_pos (by unfold isMu; simp; omega)]
  rw [Bool.eq_iff_iff, List.any_eq_true, List.any_eq_true]
  constructor
  · rintro ⟨x, hx, h⟩; exact ⟨x, hx, by rw [← key x hx]; exact h⟩
  · rintro ⟨x, hx, h⟩; exact ⟨x, hx, by rw [key x hx]; exact h⟩
theorem few_lock {s : Lks} (f : FewL s) {t : Int} (ht : t < 1000000) (m : Int) : FewL (lockS s t m) := by
  unfold lockS
  split
  · split
    · refine ⟨fun x hx => ?_, f.w⟩
      rcases List.mem_append.1 hx with hx | hx
      · exact f.h x hx
      · rw [List.mem_singleton] at hx; subst hx; exact ht
    · refine ⟨f.h, fun y hy => ?_⟩
      rcases List.mem_append.1 hy with hy | hy
      · exact f.w y hy
      · rw [List.mem_singleton] at hy; subst hy; exact ht
  · exact f
theorem few_unlock {s : Lks} (f : FewL s) (t m : Int) : FewL (unlockS s t m) := by
  unfold unlockS
  split
  · exact ⟨fun x hx => f.h x (List.mem_filter.1 hx).1, fun y hy => f.w y (List.mem_filter.1 hy).1⟩
  · exact f
theorem few_leave {s : Lks} (f : FewL s) (t : Int) : FewL (leaveS s t) := ⟨fun x hx => f.h x (List.mem_filter.1 hx).1, fun y hy => f.w y (List.mem_filter.1 hy).1⟩
theorem few_run {s : Lks} (f : FewL s) (t n : Int) : FewL (runS s t n) := by
  refine ⟨fun x hx => ?_, f.w⟩
  obtain ⟨y, hy, rfl⟩ := List.mem_map.1 hx
  have : (runH t n y).t = y.t := by unfold runH; split <;> rfl
  rw [this]; exact f.h y hy
/-- What a call leaves beside the table. -/
theorem PKl.step {w w' : World} {U U' Q : Nat → Prop} {T S : Nat} {s s' : Lks} (h : PKl w U Q T S s) (g : GoodK s') (f : FewL s') (hm : s'.ms = s.ms) (r : Rw w' U' T S (rawOf s')) (t : Touch U w w') (u : ∀ i, U' i → U i ∨ w.heap.size ≤ i) : PKl w' U' Q T S s' := by
  obtain ⟨_, _, h3, h4, _⟩ := h
  have hq : ∀ i, Q i → ¬ U i := fun i hq hu => h4 i hu hq
  refine ⟨g, f, by rw [hm]; exact h3.keep t hq, fun i hi hq' => ?_, r⟩
  rcases u i hi with e | e
  · exact h4 i e hq'
  · have := h3.lt i hq'; omega
theorem unlock_ms' (s : Lks) (t m : Int) : (unlockS s t m).ms = s.ms := by unfold unlockS; split <;> rfl
theorem lock_ms' (s : Lks) (t m : Int) : (lockS s t m).ms = s.ms := by unfold lockS; split <;> (try split) <;> rfl
theorem PKl.below {w w' : World} {U Q : Nat → Prop} {T S : Nat} {s : Lks} (h : PKl w U Q T S s) (b : Below w.heap.size w w') : PKl w' U Q T S s := by
  obtain ⟨h1, h2, h3, h4, M, H, W, B, sl, tag, h5⟩ := h
  exact ⟨h1, h2, h3.below b, h4, M, H, W, B, sl, tag, h5.below b⟩
theorem pkl_lock {U Q : Nat → Prop} {w : World} {T S : Nat} {s : Lks} (h : PKl w U Q T S s) {t m : Int} (ht : (Lit.int .i64 t).wf = true) (hm : (Lit.int .i64 m).wf = true) (hs : t < 1000000) :
    Calls Try.prog 12 #[.pointer (some ⟨S, 0, none⟩), .int .i64 t, .int .i64 m] w (SideK (fun w' U' => PKl w' U' Q T S (lockS s t m)) U w (.tuple #[.bool (lockB s t m), .int .i64 (lockE s t m)])) := by
  obtain ⟨g, f, hT, hd, M, H, W, B, sl, tag, hR⟩ := _root_.id h
  have hms : s.ms.length ≤ 6 := hT.len
  have MA := may_any hR hT (fun t m e => by
    have e : (if 0 ≤ waitL s t then some (waitL s t) else none) = some m := e
    split at e
    · injection e with e; omega
    · cases e) (raw_few g hms) (t := t) (m := m) ht
  rw [may_lock] at MA
  by_cases h0 : lockE s t m = 0
  · rw [h0] at MA
    obtain ⟨t0, hw, hmm⟩ := lock_ok h0
    have hm2 := (may_ok hmm).1
    obtain ⟨j, rfl⟩ : ∃ j : Nat, m = (j : Int) := ⟨m.toNat, by omega⟩
    have hjn : j < (rawOf s).n := by show j < s.ms.length; omega
    by_cases ho : ownL s (j : Int) < 0
    · have hB : lockB s t (j : Int) = true := by unfold lockB; simp [h0, ho]
      obtain ⟨r1, r2, r3, r4⟩ := raw_holds g h0 ho (j := j) rfl
      refine (lock_holds hR ⟨t0, hs⟩ hjn (own_neg g ho) (raw_few g hms t) MA).mono ?_
      rintro e w' ⟨rfl, U', sl', tag', q1, q2, q3⟩
      refine ⟨by rw [hB, h0], U', ?_, q2, q3⟩
      exact h.step (good_lock g t _) (few_lock f hs _) (lock_ms' s t _) ⟨M, H, W, B, sl', tag', q1.same (by show (lockS s t (j : Int)).ms.length = s.ms.length; rw [lock_ms']) r1 (fun i _ => r2 i) r3 r4⟩ q2 q3
    · have hB : lockB s t (j : Int) = false := by unfold lockB; simp [ho]
      obtain ⟨r1, r2, r3, r4⟩ := raw_waits g h0 ho (j := j) rfl
      have ho' : ¬ (rawOf s).o j = -1 := fun e => ho (by show ownL s (j : Int) < 0; have e : ownL s (j : Int) = -1 := e; omega)
      refine (lock_waits hR ⟨t0, hs⟩ hjn ho' MA).mono ?_
      rintro e w' ⟨rfl, q1, q2⟩
      refine ⟨by rw [hB, h0], U, ?_, q2, fun i hi => .inl hi⟩
      exact h.step (good_lock g t _) (few_lock f hs _) (lock_ms' s t _) ⟨M, H, W, B, sl, tag, q1.same (by show (lockS s t (j : Int)).ms.length = s.ms.length; rw [lock_ms']) (fun i _ => r1 i) (fun i _ => r2 i) r3 r4⟩ q2 (fun i hi => .inl hi)
  · have hB : lockB s t m = false := by unfold lockB; simp [h0]
    have hS : lockS s t m = s := by unfold lockS; rw [if_neg h0]
    refine (lock_no MA h0).mono ?_
    rintro e w' ⟨rfl, b⟩
    refine ⟨by rw [hB], U, ?_, Touch.of_below b, fun i hi => .inl hi⟩
    rw [hS]; exact h.below b
theorem pkl_unlock {U Q : Nat → Prop} {w : World} {T S : Nat} {s : Lks} (h : PKl w U Q T S s) {t m : Int} (ht : (Lit.int .i64 t).wf = true) (hm : (Lit.int .i64 m).wf = true) :
    Calls Try.prog 13 #[.pointer (some ⟨S, 0, none⟩), .int .i64 t, .int .i64 m] w (WakeK (fun w' U' => PKl w' U' Q T S (unlockS s t m)) (unlockW s t m) U w (fun v => .tuple #[v, .int .i64 (unlockE s t m)])) := by
  obtain ⟨g, f, hT, hd, M, H, W, B, sl, tag, hR⟩ := _root_.id h
  have hms : s.ms.length ≤ 6 := hT.len
  have no : ¬ lastL s t = some m → ∀ w', w = w' → WakeK (fun w' U' => PKl w' U' Q T S (unlockS s t m)) (unlockW s t m) U w (fun v => .tuple #[v, .int .i64 (unlockE s t m)]) (.returned (.tuple #[.slice none 0 0, .int .i64 6])) w' := fun hl w' e => by
    subst e
    refine ⟨.slice none 0 0, [], by unfold unlockE; rw [if_neg hl], U, ⟨List.Pairwise.nil, (fun x => ⟨(fun h => by cases h), (fun h => absurd h.1 hl)⟩), World.ownsRow_nil _ _ _ _, fun i hi => by cases hi⟩, ?_, Touch.refl _ _, fun i hi => .inl hi⟩
    have : unlockS s t m = s := by unfold unlockS; rw [if_neg hl]
    rw [this]; exact h
  have hmap : (rawOf s).h t = (holds s t).map fun x => ⟨x.m, x.k⟩ := rfl
  rcases List.eq_nil_or_concat (holds s t) with h0 | ⟨l, z, h0⟩
  · have hl : ¬ lastL s t = some m := by unfold lastL numsL; rw [h0]; simp
    refine (unlock_none hR ht (by rw [hmap, h0]; rfl)).mono ?_
    rintro e w' ⟨rfl, e⟩
    exact no hl w' e
  · have hr : (rawOf s).h t = l.map (fun x => (⟨x.m, x.k⟩ : Hv)) ++ [⟨z.m, z.k⟩] := by rw [hmap, h0]; simp
    have hll : (l.map (fun x => (⟨x.m, x.k⟩ : Hv))).length ≤ 100 := by
      have := raw_few g hms t
      rw [hr] at this
      simp at this ⊢
      omega
    have hz : z ∈ s.h ∧ z.t = t := by
      have hzm : z ∈ holds s t := by rw [h0]; simp
      have := List.mem_filter.1 hzm
      exact ⟨this.1, by simpa using this.2⟩
    have hzn := g.hok z hz.1
    by_cases e : z.m = m
    · obtain ⟨j, hj⟩ : ∃ j : Nat, z.m = (j : Int) := ⟨z.m.toNat, by omega⟩
      obtain rfl : m = (j : Int) := by rw [← e, hj]
      have h0' : holds s t = l ++ [z] := by simpa using h0
      obtain ⟨r0, r1, r2, r3, r4, r5⟩ := raw_unlock g h0' hj
      refine (unlock_last hR ht hr hj (by show j < s.ms.length; omega) hll (by rw [← hz.2]; exact f.h z hz.1) (fun j x _ hs => raw_q g f hs)).mono ?_
      rintro e w' ⟨v, rfl, L, U', B', sl', tag', f1, f2, f3, f4, f5, f6, f7⟩
      have lw : ∀ x, x ∈ L ↔ waitL s x = (j : Int) := fun x => by
        rw [f2]
        constructor
        · rintro ⟨i, hi, hs⟩
          simp at hi
          subst hi
          exact raw_qs.1 hs
        · intro e
          exact ⟨j, by simp, raw_qs.2 e⟩
      refine ⟨v, sortI L, by rw [r0], U', ⟨f3, fun x => by rw [sortI_mem, lw, r5], f4, fun i hi => ⟨(f5 i hi).1, .inr (f5 i hi).2⟩⟩, ?_, f6, f7⟩
      exact h.step (good_unlock g t _) (few_unlock f t _) (unlock_ms' s t _) ⟨M, H, W, B', sl', tag', f1.same (by show (unlockS s t (j : Int)).ms.length = s.ms.length; rw [unlock_ms']) (fun i _ => r1 i) (fun i _ => r2 i) r3 (r4 L lw)⟩ f6 f7
    · have hl : ¬ lastL s t = some m := by unfold lastL numsL; rw [h0]; simp [e]
      refine (unlock_other hR ht hr e hll).mono ?_
      rintro e w' ⟨rfl, e⟩
      exact no hl w' e
theorem pkl_leave {U Q : Nat → Prop} {w : World} {T S : Nat} {s : Lks} (h : PKl w U Q T S s) {t : Int} (ht : (Lit.int .i64 t).wf = true) :
    Calls Try.prog 14 #[.pointer (some ⟨S, 0, none⟩), .int .i64 t] w (WakeK (fun w' U' => PKl w' U' Q T S (leaveS s t)) (leaveW s t) U w (fun v => v)) := by
  obtain ⟨g, f, hT, hd, M, H, W, B, sl, tag, hR⟩ := _root_.id h
  have nm : ∀ m ∈ numsL s t, 0 ≤ m ∧ m < (s.ms.length : Int) := fun m hm => by
    obtain ⟨x, hx, _, e⟩ := mem_nums.1 hm
    rw [← e]; exact (g.hok x hx).2
  obtain ⟨js, hjs⟩ : ∃ js : List Nat, numsL s t = js.map fun (j : Nat) => (j : Int) := ⟨(numsL s t).map Int.toNat, by
    rw [List.map_map]
    exact (List.map_id (numsL s t)).symm.trans (List.map_congr_left fun m hm => by have := nm m hm; show m = ((m.toNat : Nat) : Int); omega)⟩
  have hh : ((rawOf s).h t).map (·.m) = js.map fun (j : Nat) => (j : Int) := (hvs_nums s t).trans hjs
  have hjn : ∀ j ∈ js, j < (rawOf s).n := fun j hj => by
    have := nm (j : Int) (by rw [hjs]; exact List.mem_map.2 ⟨j, hj, rfl⟩)
    show j < s.ms.length
    omega
  have hnd : js.Nodup := by
    have h1 : (numsL s t).Nodup := by unfold numsL holds; exact g.once.sublist ((List.filter_sublist (l := s.h)).map _)
    rw [hjs] at h1
    exact (List.pairwise_map.1 h1).imp (fun h e => h (by rw [e]))
  have hq : ∀ j x, j < (rawOf s).n → ((rawOf s).q j x).isSome = true → (rawOf s).a x = some (j : Int) ∧ 0 ≤ x ∧ x < 1000000 := fun j x _ hs => raw_q g f hs
  have fin : ∀ (a0 : Int → Option Int) (q0 : Nat → Int → Option Unit), (∀ x, a0 x = if x = t then none else (rawOf s).a x) → (∀ i x, q0 i x = if x = t then none else (rawOf s).q i x) → ∀ v w', Loosed w U T S M H W (rawOf s) js t [] a0 q0 v w' → WakeK (fun w' U' => PKl w' U' Q T S (leaveS s t)) (leaveW s t) U w (fun v => v) (.returned v) w' := fun a0 q0 ha hq0 v w' hL => by
    obtain ⟨L, U', B', sl', tag', f1, f2, f3, f4, f5, f6, f7⟩ := hL
    obtain ⟨r1, r2, r3, r4⟩ := raw_leave g hjs ha hq0
    obtain ⟨r5, r6⟩ := r4 L f2
    refine ⟨v, sortI L, rfl, U', ⟨f3, fun x => by rw [sortI_mem, r6], f4, fun i hi => ⟨(f5 i hi).1, .inr (f5 i hi).2⟩⟩, ?_, f6, f7⟩
    exact h.step (good_leave g t) (few_leave f t) rfl ⟨M, H, W, B', sl', tag', f1.same rfl (fun i _ => r1 i) (fun i _ => r2 i) r3 r5⟩ f6 f7
  by_cases hw : 0 ≤ waitL s t
  · obtain ⟨y, hy, e1, e2⟩ := wait_some hw
    have hym := (g.wt y hy).2
    obtain ⟨jm, hjm⟩ : ∃ jm : Nat, waitL s t = (jm : Int) := ⟨(waitL s t).toNat, by omega⟩
    have ha : (rawOf s).a t = some (jm : Int) := by rw [raw_a, if_pos hw, hjm]
    refine (leave_waits hR ht ha (by show jm < s.ms.length; omega) hh hjn hnd hq).mono ?_
    rintro e w' ⟨v, rfl, hL⟩
    refine fin _ _ (fun x => rfl) (fun i x => ?_) v w' hL
    unfold upN updF
    by_cases ei : i = jm
    · subst ei; rw [if_pos rfl]
    · rw [if_neg ei]
      by_cases ex : x = t
      · rw [if_pos ex, ex]
        show (if waitL s t = (i : Int) then some () else none) = none
        rw [if_neg (by omega)]
      · rw [if_neg ex]
  · have ha : (rawOf s).a t = none := by rw [raw_a, if_neg hw]
    refine (leave_stays hR ht ha hh hjn hnd hq).mono ?_
    rintro e w' ⟨v, rfl, hL⟩
    refine fin _ _ (fun x => ?_) (fun i x => ?_) v w' hL
    · by_cases ex : x = t
      · rw [if_pos ex, ex, ha]
      · rw [if_neg ex]
    · by_cases ex : x = t
      · rw [if_pos ex, ex]
        show (if waitL s t = (i : Int) then some () else none) = none
        rw [if_neg (by omega)]
      · rw [if_neg ex]
theorem plocks : PLocks Tab PKl where
  keep := by
    rintro V U Q w w' T S s ⟨h1, h2, h3, h4, M, H, W, B, sl, tag, h5⟩ t d
    exact ⟨h1, h2, h3.keep t (fun i hi => d i (.inr hi)), h4, M, H, W, B, sl, tag, h5.touch t (fun i hi => d i (.inl hi))⟩
  lt := by
    rintro U Q w T S s ⟨h1, h2, h3, h4, M, H, W, B, sl, tag, h5⟩ i (hi | hi)
    · exact h5.lt i hi
    · exact h3.lt i hi
  good := fun h => h.1
  dis := fun h => h.2.2.2.1
  tab := fun h => h.2.2.1
  new := by
    intro w Q T ms h
    refine (new_any h).mono ?_
    rintro e w' ⟨rfl, hj⟩
    have n6 := h.len
    have hb : Below w.heap.size w w' := by obtain ⟨_, _, _, _, _, _, _, _, _, _, hb⟩ := hj; exact hb
    obtain ⟨U, hR, hU⟩ := hj.done (by omega)
    refine ⟨w.heap.size + 3, U, rfl, ⟨good_new ms, ⟨fun x hx => by (try cases hx), fun y hy => by (try cases hy)⟩, h.below hb, fun i hi hq => by have := hU i hi; have := h.lt i hq; omega, ?_⟩, hb, hU⟩
    obtain ⟨M, H, W, B, sl, tag, hR⟩ := hR
    exact ⟨M, H, W, B, sl, tag, hR.same rfl (fun j _ => rfl) (fun j _ => by
      funext x
      show (if waitL ⟨ms, [], []⟩ x = (j : Int) then some () else none) = none
      rw [if_neg (by show ¬ (-1 : Int) = (j : Int); omega)]) (fun t => rfl) (fun t => rfl)⟩
  lock := fun h => pkl_lock h
  unlock := fun h => pkl_unlock h
  leave := fun h => pkl_leave h
  run := by
    intro U Q w T S s h t n ht hn
    obtain ⟨g, f, hT, hd, M, H, W, B, sl, tag, hR⟩ := _root_.id h
    obtain ⟨r1, r2, r3, r4⟩ := raw_run (s := s) t n
    refine (run_any hR ht).mono ?_
    rintro e w' ⟨rfl, q1, q2⟩
    refine ⟨rfl, U, ?_, q2, fun i hi => .inl hi⟩
    exact h.step (good_run g t n) (few_run f t n) rfl ⟨M, H, W, B, sl, tag, q1.same rfl (fun i _ => r1 i) (fun i _ => r2 i) r3 r4⟩ q2 (fun i hi => .inl hi)
  over := by
    rintro U Q w T S s ⟨g, f, hT, hd, M, H, W, B, sl, tag, hR⟩ t n ht hn
    refine (over_any hR hT ht).mono ?_
    rintro e w' ⟨rfl, b⟩
    exact ⟨by rw [lim_over g], b⟩
  held := by
    rintro U Q w T S s ⟨g, f, hT, hd, M, H, W, B, sl, tag, hR⟩ t ht
    refine (held_any hR (raw_few g hT.len) ht).mono ?_
    rintro e w' ⟨v, rfl, o, b⟩
    have hl : ((rawOf s).h t).length = (holds s t).length := by show (hvsL s t).length = _; unfold hvsL; rw [List.length_map]
    rw [hl] at o
    exact ⟨v, rfl, o, b⟩
  owner := by
    rintro U Q w T S s ⟨g, f, hT, hd, M, H, W, B, sl, tag, hR⟩ m hm
    refine (owner_any hR).mono ?_
    rintro e w' ⟨rfl, rfl⟩
    exact ⟨by rw [raw_own g], Below.refl _ _⟩
  owners := by
    rintro U Q w T S s ⟨g, f, hT, hd, M, H, W, B, sl, tag, hR⟩
    refine (owners_any hR).mono ?_
    rintro e w' ⟨v, rfl, o, b⟩
    exact ⟨v, rfl, o, b⟩
  waits := by
    rintro U Q w T S s ⟨g, f, hT, hd, M, H, W, B, sl, tag, hR⟩ t ht
    refine (waits_any hR ht).mono ?_
    rintro e w' ⟨rfl, rfl⟩
    exact ⟨by rw [raw_wait g], Below.refl _ _⟩
end Go.Proofs.Yteeofpjfgjhemaa
