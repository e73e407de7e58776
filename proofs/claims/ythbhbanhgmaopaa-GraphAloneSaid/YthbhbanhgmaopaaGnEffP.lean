/-
  Who lends to whom, going by falling priorities; plain facts.
-/
import Derived.Test.YthbhbanhgmaopaaGnFall
import Derived.Test.YthbhbanhgmaopaaGnB
namespace Go.Proofs.Ythbhbanhgmaopaa
open Go.ChangeShapes Go.WideShapes Go.ChangeAt Go.RowKit
set_option linter.unusedVariables false
abbrev EffS := List Bool × List Pr
def effStep (ps : List Pr) (i : Int) (s : EffS) (k : Int) : Bool × EffS :=
  if s.1.getD k.toNat false = true then (false, s) else (true, (s.1.set k.toNat true, s.2.set k.toNat (maxP (ps.getD k.toNat prD) [ps.getD i.toNat prD])))
/-- How many are not lent to. -/
def falses : List Bool → Nat
  | [] => 0
  | b :: l => falses l + if b then 0 else 1
theorem falses_set : ∀ (l : List Bool) (k : Nat), k < l.length → l.getD k false = false → falses (l.set k true) < falses l := by
  intro l
  induction l with
  | nil => intro k h; simp at h
  | cons b l ih =>
    intro k h h2
    cases k with
    | zero =>
      have : b = false := by simpa using h2
      subst this
      simp [falses]
    | succ k =>
      have := ih k (by simpa using h) (by simpa using h2)
      simp only [List.set_cons_succ, falses]
      omega
theorem getD_set {α : Type} {l : List α} {k : Nat} {v d : α} (h : k < l.length) (x : Nat) : (l.set k v).getD x d = if x = k then v else l.getD x d := by
  rw [List.getD_eq_getElem?_getD, List.getD_eq_getElem?_getD, List.getElem?_set]
  by_cases e : x = k
  · subst e; simp [h]
  · rw [if_neg (fun e' => e e'.symm), if_neg e]
/-- Does i lend to x: it is x, or waits for it, by however many. -/
def Lends (ws os : List Int) (n : Nat) (i x : Nat) : Prop := x = i ∨ (x : Int) ∈ chainG ws os n (i : Int)
theorem Lends.on {ws os : List Int} {n i x y : Nat} (h : Lends ws os n i x) (h0 : onG ws os n (x : Int) = (y : Int)) : Lends ws os n i y := by
  right
  rcases h with rfl | h
  · rw [← h0]; exact chainG_first (by omega)
  · rw [← h0]; exact chainG_closed h (by omega)
def newE (ps : List Pr) (i x : Nat) : Pr := maxP (ps.getD x prD) [ps.getD i prD]
/-- Behind a walk from i: those lent to before are as they were; those that i lends to are lent to. -/
structure EffEnd (ws os : List Int) (ps : List Pr) (n i : Nat) (s u : EffS) : Prop where
  l1 : u.1.length = n
  l2 : u.2.length = n
  old : ∀ x, x < n → s.1.getD x false = true → u.1.getD x false = true ∧ u.2.getD x prD = s.2.getD x prD
  new : ∀ x, x < n → u.1.getD x false = true → s.1.getD x false = true ∨ Lends ws os n i x ∧ u.2.getD x prD = newE ps i x
  all : ∀ x, x < n → Lends ws os n i x → u.1.getD x false = true
theorem eff_walk {ws os : List Int} {ps : List Pr} {n i : Nat} (hi : i < n) {s : EffS} : ∀ (f : Nat) (u : EffS) (cur : Int), falses u.1 < f → u.1.length = n → u.2.length = n →
    (∀ x, x < n → s.1.getD x false = true → u.1.getD x false = true ∧ u.2.getD x prD = s.2.getD x prD) →
    (∀ x, x < n → u.1.getD x false = true → s.1.getD x false = true ∨ Lends ws os n i x ∧ u.2.getD x prD = newE ps i x) →
    (cur = -1 ∨ ∃ y : Nat, cur = (y : Int) ∧ y < n ∧ Lends ws os n i y) →
    (∀ x y : Nat, x < n → u.1.getD x false = true → onG ws os n (x : Int) = (y : Int) → u.1.getD y false = true ∨ (y : Int) = cur) →
    (u.1.getD i false = true ∨ cur = (i : Int)) → EffEnd ws os ps n i s (alongF (effStep ps i) (onG ws os n) f u cur) := by
  intro f
  induction f with
  | zero => intro u cur h; omega
  | succ f ih =>
    intro u cur hf l1 l2 ha hb hc hd he
    have fin : (cur = -1 ∨ ∃ y : Nat, cur = (y : Int) ∧ u.1.getD y false = true) → EffEnd ws os ps n i s u := by
      intro h
      have ui : u.1.getD i false = true := by
        rcases he with h1 | h1
        · exact h1
        · rcases h with h2 | ⟨y, h2, h3⟩
          · omega
          · have : y = i := by omega
            rw [← this]; exact h3
      have clo : ∀ x y : Nat, x < n → u.1.getD x false = true → onG ws os n (x : Int) = (y : Int) → u.1.getD y false = true := by
        intro x y hx hu hxy
        rcases hd x y hx hu hxy with h1 | h1
        · exact h1
        · rcases h with h2 | ⟨z, h2, h3⟩
          · omega
          · have : z = y := by omega
            rw [← this]; exact h3
      refine ⟨l1, l2, ha, hb, fun x hx hl => ?_⟩
      rcases hl with rfl | hl
      · exact ui
      · have key : ∀ z ∈ chainG ws os n (i : Int), ∃ y : Nat, z = (y : Int) ∧ y < n ∧ u.1.getD y false = true := by
          have st : ∀ x : Nat, x < n → u.1.getD x false = true → 0 ≤ onG ws os n (x : Int) → ∃ y : Nat, onG ws os n (x : Int) = (y : Int) ∧ y < n ∧ u.1.getD y false = true := by
            intro x hx hu h0
            have := onG_lt h0
            exact ⟨(onG ws os n (x : Int)).toNat, by omega, by omega, clo x _ hx hu (by omega)⟩
          refine chainG_in (fun h0 => st i hi ui h0) ?_
          rintro z ⟨y, rfl, hy, hu⟩ h0
          exact st y hy hu h0
        obtain ⟨y, e1, _, e2⟩ := key _ hl
        have : y = x := by omega
        rw [← this]; exact e2
    rw [alongF_succ]
    by_cases h1 : cur = -1
    · rw [if_pos h1]; exact fin (.inl h1)
    · rw [if_neg h1]
      obtain ⟨y, rfl, hy, hly⟩ : ∃ y : Nat, cur = (y : Int) ∧ y < n ∧ Lends ws os n i y := by
        rcases hc with h | h
        · exact absurd h h1
        · exact h
      by_cases h2 : u.1.getD y false = true
      · have e : effStep ps i u y = (false, u) := by unfold effStep; rw [Int.toNat_natCast, if_pos h2]
        rw [e]
        exact fin (.inr ⟨y, rfl, h2⟩)
      · have h3 : u.1.getD y false = false := by simpa using h2
        have e : effStep ps i u y = (true, (u.1.set y true, u.2.set y (newE ps i y))) := by unfold effStep newE; rw [Int.toNat_natCast, Int.toNat_natCast, if_neg h2]
        rw [e]
        show EffEnd ws os ps n i s (alongF (effStep ps i) (onG ws os n) f (u.1.set y true, u.2.set y (newE ps i y)) (onG ws os n (y : Int)))
        have g1 : ∀ x, (u.1.set y true).getD x false = if x = y then true else u.1.getD x false := fun x => getD_set (by omega) x
        have g2 : ∀ x, (u.2.set y (newE ps i y)).getD x prD = if x = y then newE ps i y else u.2.getD x prD := fun x => getD_set (by omega) x
        have sy : s.1.getD y false = false := by
          cases h : s.1.getD y false with
          | false => rfl
          | true => rw [(ha y hy h).1] at h3; cases h3
        refine ih _ _ ?_ (by simpa using l1) (by simpa using l2) (fun x hx hs => ?_) (fun x hx hu => ?_) ?_ (fun x z hx hu hz => ?_) ?_
        · have := falses_set u.1 y (by omega) h3
          show falses (u.1.set y true) < f
          omega
        · have ne : x ≠ y := fun e => by rw [e, sy] at hs; cases hs
          show (u.1.set y true).getD x false = true ∧ (u.2.set y (newE ps i y)).getD x prD = _
          rw [g1, g2, if_neg ne, if_neg ne]
          exact ha x hx hs
        · have hu : (u.1.set y true).getD x false = true := hu
          show _ ∨ Lends ws os n i x ∧ (u.2.set y (newE ps i y)).getD x prD = _
          rw [g1] at hu
          rw [g2]
          by_cases e : x = y
          · rw [if_pos e, e]; exact .inr ⟨hly, rfl⟩
          · rw [if_neg e] at hu ⊢; exact hb x hx hu
        · by_cases h0 : 0 ≤ onG ws os n (y : Int)
          · have := onG_lt h0
            exact .inr ⟨(onG ws os n (y : Int)).toNat, by omega, by omega, hly.on (by omega)⟩
          · exact .inl (onG_none h0)
        · have hu : (u.1.set y true).getD x false = true := hu
          show (u.1.set y true).getD z false = true ∨ _
          rw [g1] at hu ⊢
          by_cases ez : z = y
          · rw [if_pos ez]; exact .inl rfl
          · rw [if_neg ez]
            by_cases e : x = y
            · rw [e] at hz; exact .inr hz.symm
            · rw [if_neg e] at hu
              rcases hd x z hx hu hz with h | h
              · exact .inl h
              · exact absurd (show z = y by omega) ez
        · show (u.1.set y true).getD i false = true ∨ _
          rw [g1]
          by_cases ei : i = y
          · rw [if_pos ei]; exact .inl rfl
          · rw [if_neg ei]
            rcases he with h | h
            · exact .inl h
            · exact absurd (show i = y by omega) ei
/-- Behind the first k of the order G. -/
structure EffOK (ws os : List Int) (ps : List Pr) (n : Nat) (G : Nat → Int) (k : Nat) (s : EffS) : Prop where
  l1 : s.1.length = n
  l2 : s.2.length = n
  lent : ∀ x, x < n → (s.1.getD x false = true ↔ ∃ t, t < k ∧ Lends ws os n (G t).toNat x)
  val : ∀ x, x < n → s.1.getD x false = true → ∃ t, t < k ∧ Lends ws os n (G t).toNat x ∧ s.2.getD x prD = newE ps (G t).toNat x ∧ ∀ t', t' < k → Lends ws os n (G t').toNat x → t ≤ t'
def effRound (ws os : List Int) (ps : List Pr) (n i : Nat) (s : EffS) : EffS := alongF (effStep ps i) (onG ws os n) (falses s.1 + 1) s i
theorem EffOK.start (ws os : List Int) (ps : List Pr) (n : Nat) (G : Nat → Int) : EffOK ws os ps n G 0 (List.replicate n false, List.replicate n prD) := by
  have h : ∀ x : Nat, x < n → (List.replicate n false).getD x false = false := fun x hx => by simp [List.getD, hx]
  refine ⟨by simp, by simp, fun x hx => ?_, fun x hx hl => ?_⟩
  · constructor
    · intro hl; rw [h x hx] at hl; cases hl
    · rintro ⟨t, ht, _⟩; omega
  · have hl : (List.replicate n false).getD x false = true := hl
    rw [h x hx] at hl; cases hl
theorem EffOK.next {ws os : List Int} {ps : List Pr} {n : Nat} {G : Nat → Int} {k i : Nat} {s : EffS} (h : EffOK ws os ps n G k s) (hi : i < n) (hG : G k = (i : Int)) : EffOK ws os ps n G (k + 1) (effRound ws os ps n i s) := by
  have hGi : (G k).toNat = i := by omega
  have clo : ∀ x y : Nat, x < n → s.1.getD x false = true → onG ws os n (x : Int) = (y : Int) → s.1.getD y false = true := by
    intro x y hx hs hxy
    obtain ⟨t, ht, hl⟩ := (h.lent x hx).1 hs
    have := onG_lt (ws := ws) (os := os) (n := (n : Int)) (i := (x : Int)) (by omega)
    exact (h.lent y (by omega)).2 ⟨t, ht, hl.on hxy⟩
  have E : EffEnd ws os ps n i s (effRound ws os ps n i s) := eff_walk hi _ s (i : Int) (Nat.lt_succ_self _) h.l1 h.l2 (fun x hx hs => ⟨hs, rfl⟩) (fun x hx hs => .inl hs) (.inr ⟨i, rfl, hi, .inl rfl⟩) (fun x y hx hs hxy => .inl (clo x y hx hs hxy)) (.inr rfl)
  refine ⟨E.l1, E.l2, fun x hx => ?_, fun x hx hu => ?_⟩
  · constructor
    · intro hu
      rcases E.new x hx hu with hs | ⟨hl, _⟩
      · obtain ⟨t, ht, hl⟩ := (h.lent x hx).1 hs
        exact ⟨t, by omega, hl⟩
      · exact ⟨k, by omega, by rw [hGi]; exact hl⟩
    · rintro ⟨t, ht, hl⟩
      by_cases e : t = k
      · rw [e, hGi] at hl; exact E.all x hx hl
      · exact (E.old x hx ((h.lent x hx).2 ⟨t, by omega, hl⟩)).1
  · by_cases hs : s.1.getD x false = true
    · obtain ⟨t, ht, hl, hv, hmin⟩ := h.val x hx hs
      refine ⟨t, by omega, hl, by rw [(E.old x hx hs).2]; exact hv, fun t' ht' hl' => ?_⟩
      by_cases e : t' = k
      · omega
      · exact hmin t' (by omega) hl'
    · rcases E.new x hx hu with h' | ⟨hl, hv⟩
      · exact absurd h' hs
      · refine ⟨k, by omega, by rw [hGi]; exact hl, by rw [hGi]; exact hv, fun t' ht' hl' => ?_⟩
        by_cases e : t' = k
        · omega
        · exact absurd ((h.lent x hx).2 ⟨t', by omega, hl'⟩) hs
theorem best_none {ws os : List Int} {ps : List Pr} {i : Nat} (h : ∀ j : Nat, j < ps.length → (i : Int) ∈ chainG ws os ps.length j → ¬ gtP (ps.getD j prD) (ps.getD i prD) = true) : ∀ k, k ≤ ps.length → bestG ws os ps i k = ps.getD i prD := by
  intro k
  induction k with
  | zero => intro _; rfl
  | succ k ih =>
    intro hk
    have e := ih (by omega)
    show (if (i : Int) ∈ chainG ws os ps.length k ∧ 0 < cmpP (ps.getD k prD) (bestG ws os ps i k) then ps.getD k prD else bestG ws os ps i k) = _
    rw [e, if_neg]
    rintro ⟨h1, h2⟩
    rw [cmpP_pos] at h2
    exact h k (by omega) h1 h2
theorem best_first {ws os : List Int} {ps : List Pr} {i j : Nat} (hj : j < ps.length) (hc : (i : Int) ∈ chainG ws os ps.length j) (hi : gtP (ps.getD j prD) (ps.getD i prD) = true)
    (hlo : ∀ l : Nat, l < j → (i : Int) ∈ chainG ws os ps.length l → gtP (ps.getD j prD) (ps.getD l prD) = true) (hhi : ∀ l : Nat, l < ps.length → (i : Int) ∈ chainG ws os ps.length l → ¬ gtP (ps.getD l prD) (ps.getD j prD) = true) :
    bestG ws os ps i ps.length = ps.getD j prD := by
  have h1 : ∀ k, k ≤ j → gtP (ps.getD j prD) (bestG ws os ps i k) = true := by
    intro k
    induction k with
    | zero => intro _; exact hi
    | succ k ih =>
      intro hk
      show gtP _ (if (i : Int) ∈ chainG ws os ps.length k ∧ 0 < cmpP (ps.getD k prD) (bestG ws os ps i k) then ps.getD k prD else bestG ws os ps i k) = true
      by_cases c : (i : Int) ∈ chainG ws os ps.length k ∧ 0 < cmpP (ps.getD k prD) (bestG ws os ps i k)
      · rw [if_pos c]; exact hlo k (by omega) c.1
      · rw [if_neg c]; exact ih (by omega)
  have h2 : ∀ k, j < k → k ≤ ps.length → bestG ws os ps i k = ps.getD j prD := by
    intro k
    induction k with
    | zero => intro h; omega
    | succ k ih =>
      intro hk hk2
      show (if (i : Int) ∈ chainG ws os ps.length k ∧ 0 < cmpP (ps.getD k prD) (bestG ws os ps i k) then ps.getD k prD else bestG ws os ps i k) = _
      by_cases e : k = j
      · rw [e, if_pos ⟨hc, by rw [cmpP_pos]; exact h1 j (Nat.le_refl _)⟩]
      · have e2 := ih (by omega) (by omega)
        rw [e2, if_neg]
        rintro ⟨c1, c2⟩
        rw [cmpP_pos] at c2
        exact hhi k (by omega) c1 c2
  exact h2 ps.length hj (Nat.le_refl _)
theorem maxP_one (x y : Pr) : maxP x [y] = if gtP y x = true then y else x := by rw [maxP_cons]; rfl
/-- By the order that falling tells, each has what counts. -/
theorem EffOK.done {ws os : List Int} {ps : List Pr} {n : Nat} {G : Nat → Int} {s : EffS} (h : EffOK ws os ps n G n s) (hn : ps.length = n) (h1 : ∀ k, k < n → ∃ i : Nat, i < n ∧ G k = (i : Int)) (h2 : ∀ i : Nat, i < n → ∃ k, k < n ∧ G k = (i : Int)) (hS : Srt (fallS ps) G 0 n) : s.2 = effG ws os ps := by
  apply List.ext_getElem?
  intro x
  by_cases hx : x < n
  · rw [effG_at (by omega), List.getElem?_eq_getElem (by rw [h.l2]; exact hx)]
    have ls : s.1.getD x false = true := by
      obtain ⟨k, hk, e⟩ := h2 x hx
      exact (h.lent x hx).2 ⟨k, hk, .inl (by omega)⟩
    obtain ⟨t, ht, hl, hv, hmin⟩ := h.val x hx ls
    have gd : s.2.getD x prD = s.2[x]'(by rw [h.l2]; exact hx) := by simp [List.getD, h.l2, hx]
    rw [← gd, hv]
    congr 1
    obtain ⟨i, hi, ei⟩ := h1 t ht
    have eN : (G t).toNat = i := by omega
    rw [eN] at hl ⊢
    -- i is ahead of all others that lend
    have ahead : ∀ j : Nat, j < n → Lends ws os n j x → ¬ gtP (ps.getD j prD) (ps.getD i prD) = true ∧ (j < i → gtP (ps.getD i prD) (ps.getD j prD) = true) := by
      intro j hj hlj
      obtain ⟨t', ht', ej⟩ := h2 j hj
      have hle := hmin t' ht' (by rw [ej, Int.toNat_natCast]; exact hlj)
      by_cases e : t = t'
      · have : i = j := by rw [e] at ei; omega
        subst this
        exact ⟨fun h => by rw [gtP_iff] at h; omega, fun h => by omega⟩
      · have := hS t t' (Nat.zero_le _) (by omega) ht'
        rw [ei, ej] at this
        unfold fallS at this
        rw [Int.toNat_natCast, Int.toNat_natCast] at this
        rcases this with h' | ⟨h', h''⟩
        · rw [cmpP_pos] at h'
          exact ⟨fun h => by rw [gtP_iff] at h h'; omega, fun _ => h'⟩
        · rw [cmpP_neg] at h'
          exact ⟨h', fun h => by omega⟩
    unfold newE
    rw [maxP_one]
    by_cases g : gtP (ps.getD i prD) (ps.getD x prD) = true
    · rw [if_pos g]
      have hne : x ≠ i := fun e => by rw [e, gtP_iff] at g; omega
      have hc : (x : Int) ∈ chainG ws os n (i : Int) := by rcases hl with h' | h'; exact absurd h' hne; exact h'
      subst hn
      exact (best_first hi hc g (fun l hl' hc' => (ahead l (by omega) (.inr hc')).2 hl') (fun l hl' hc' => (ahead l hl' (.inr hc')).1)).symm
    · rw [if_neg g]
      subst hn
      exact (best_none (fun j hj hc => fun h' => (gtP_none (ahead j hj (.inr hc)).1 g) h') ps.length (Nat.le_refl _)).symm
  · rw [List.getElem?_eq_none (by rw [h.l2]; omega), List.getElem?_eq_none (by rw [effG_length]; omega)]
end Go.Proofs.Ythbhbanhgmaopaa
