/-
  Plain facts on the steps of Take and of Give: which pieces are there, how many, and that they do not meet.
-/
import Derived.Test.YtllapjidnngaeaaSlSteps
namespace Go.Proofs.Ytllapjidnngaeaa
open Go.ChangeShapes Go.WideShapes Go.ChangeAt Go.RowKit
set_option linter.unusedVariables false
theorem there_iff (l : List Cu) (fr sl sz : Int) : there l fr sl sz = true ↔ ∃ u ∈ l, hit u fr sl sz = true := by
  unfold there
  rw [decide_eq_true_iff]
  rcases place_cases l fr sl sz with ⟨p, hp, h1, h2⟩ | ⟨h1, h2⟩
  · exact ⟨fun _ => ⟨_, List.getElem_mem hp, h1⟩, fun _ => by rw [h2]; omega⟩
  · refine ⟨fun h => by rw [h2] at h; omega, ?_⟩
    rintro ⟨u, hu, h3⟩
    obtain ⟨q, hq, rfl⟩ := List.mem_iff_getElem.mp hu
    rw [h1 q hq] at h3
    cases h3
theorem hit_of {u : Cu} {k : Nat} (hk : k < 64 / u.c) (h : u.tk k = true) : hit u (u.f : Int) (k : Int) (u.c : Int) = true := by
  unfold hit
  rw [Bool.and_eq_true]
  exact ⟨decide_eq_true ⟨rfl, rfl, by omega, by exact_mod_cast hk⟩, by simpa using h⟩
/-- What is a hit of a frame of which a piece was turned. -/
theorem hit_put (u : Cu) (k : Nat) (v : Bool) (hk : k < 64 / u.c) (fr sl sz : Int) : hit (u.put k v) fr sl sz = true ↔ (fr = (u.f : Int) ∧ sl = (k : Int) ∧ sz = (u.c : Int) ∧ v = true) ∨ (hit u fr sl sz = true ∧ ¬ (fr = (u.f : Int) ∧ sl = (k : Int) ∧ sz = (u.c : Int))) := by
  constructor
  · intro h
    obtain ⟨q, h1, h2, h3, h4, h5⟩ := hit_true h
    have h1' : fr = (u.f : Int) := h1
    have h2' : sz = (u.c : Int) := h2
    have h4' : q < 64 / u.c := h4
    have h5' : upd u.tk k v q = true := h5
    subst h1' h2' h3
    by_cases e : q = k
    · subst e
      rw [upd_same] at h5'
      exact .inl ⟨rfl, rfl, rfl, h5'⟩
    · rw [upd_other _ _ e] at h5'
      exact .inr ⟨hit_of h4' h5', fun h6 => e (by have := h6.2.1; omega)⟩
  · rintro (⟨rfl, rfl, rfl, rfl⟩ | ⟨h, hn⟩)
    · exact hit_of (u := u.put k true) hk (upd_same _ _ _)
    · obtain ⟨q, rfl, rfl, rfl, h4, h5⟩ := hit_true h
      refine hit_of (u := u.put k v) h4 ?_
      show upd u.tk k v q = true
      rw [upd_other _ _ (fun e => hn ⟨rfl, by rw [e], rfl⟩)]
      exact h5
theorem mem_set_iff {l : List Cu} (hc : Cuts l) {p : Nat} (hp : p < l.length) (x u : Cu) : u ∈ l.set p x ↔ u = x ∨ (u ∈ l ∧ u.f ≠ l[p].f) := by
  have hup := hc.up
  rw [List.pairwise_iff_getElem] at hup
  constructor
  · intro h
    obtain ⟨q, hq, rfl⟩ := List.mem_iff_getElem.mp h
    by_cases e : p = q
    · subst e; exact .inl (by simp)
    · have hq' : q < l.length := by simpa using hq
      rw [List.getElem_set_ne e]
      refine .inr ⟨List.getElem_mem hq', fun e2 => ?_⟩
      rcases Nat.lt_or_gt_of_ne e with h3 | h3
      · have := hup p q hp hq' h3; omega
      · have := hup q p hq' hp h3; omega
  · rintro (rfl | ⟨h, hn⟩)
    · exact List.mem_set hp _
    · obtain ⟨q, hq, rfl⟩ := List.mem_iff_getElem.mp h
      have e : p ≠ q := fun e => by subst e; exact hn rfl
      exact List.mem_iff_getElem.mpr ⟨q, by simpa using hq, by rw [List.getElem_set_ne e]⟩
/-- A frame is in the list once. -/
theorem same_frame {l : List Cu} (hc : Cuts l) {u v : Cu} (hu : u ∈ l) (hv : v ∈ l) (e : u.f = v.f) : u = v := by
  have hup := hc.up
  rw [List.pairwise_iff_getElem] at hup
  obtain ⟨p, hp, rfl⟩ := List.mem_iff_getElem.mp hu
  obtain ⟨q, hq, rfl⟩ := List.mem_iff_getElem.mp hv
  by_cases h : p = q
  · subst h; rfl
  · rcases Nat.lt_or_gt_of_ne h with h3 | h3
    · have := hup p q hp hq h3; omega
    · have := hup q p hq hp h3; omega
theorem there_set {l : List Cu} (hc : Cuts l) {p k : Nat} (hp : p < l.length) (hk : k < 64 / l[p].c) (v : Bool) (fr sl sz : Int) :
    there (l.set p (l[p].put k v)) fr sl sz = true ↔ (fr = (l[p].f : Int) ∧ sl = (k : Int) ∧ sz = (l[p].c : Int) ∧ v = true) ∨ (there l fr sl sz = true ∧ ¬ (fr = (l[p].f : Int) ∧ sl = (k : Int) ∧ sz = (l[p].c : Int))) := by
  rw [there_iff, there_iff]
  have hm := List.getElem_mem hp
  constructor
  · rintro ⟨u, hu, hh⟩
    rcases (mem_set_iff hc hp _ u).mp hu with rfl | ⟨h1, h2⟩
    · rcases (hit_put _ _ _ hk _ _ _).mp hh with h | ⟨h3, h4⟩
      · exact .inl h
      · exact .inr ⟨⟨_, hm, h3⟩, h4⟩
    · refine .inr ⟨⟨u, h1, hh⟩, fun h3 => h2 ?_⟩
      obtain ⟨q, h4, _⟩ := hit_true hh
      have := h3.1
      omega
  · rintro (h | ⟨⟨u, hu, hh⟩, hn⟩)
    · exact ⟨_, (mem_set_iff hc hp _ _).mpr (.inl rfl), (hit_put _ _ _ hk _ _ _).mpr (.inl h)⟩
    · by_cases e : u.f = l[p].f
      · have := same_frame hc hu hm e
        subst this
        exact ⟨_, (mem_set_iff hc hp _ _).mpr (.inl rfl), (hit_put _ _ _ hk _ _ _).mpr (.inr ⟨hh, hn⟩)⟩
      · exact ⟨u, (mem_set_iff hc hp _ _).mpr (.inr ⟨hu, e⟩), hh⟩
theorem mem_comeIn (l : List Cu) (p : Nat) (x u : Cu) : u ∈ comeIn l p x ↔ u ∈ l ∨ u = x := by
  unfold comeIn
  rw [List.mem_append, List.mem_cons]
  constructor
  · rintro (h1 | rfl | h1)
    · exact .inl (List.mem_of_mem_take h1)
    · exact .inr rfl
    · exact .inl (List.mem_of_mem_drop h1)
  · rintro (h1 | rfl)
    · rw [← List.take_append_drop p l, List.mem_append] at h1
      rcases h1 with h1 | h1
      · exact .inl h1
      · exact .inr (.inr h1)
    · exact .inr (.inl rfl)
theorem cls_fit {n : Int} (h : cls n ≠ 0) : n ≤ (cls n : Int) := by
  unfold cls at h ⊢
  split at h
  · exact absurd rfl h
  · rename_i h0
    rw [if_neg h0]
    split
    · omega
    · split <;> omega
theorem slot_fit {c k : Nat} (h : c = 16 ∨ c = 32 ∨ c = 64) (hk : k < 64 / c) : k * c + c ≤ 64 := by
  rcases h with rfl | rfl | rfl <;> omega
/-- What a piece that Take answers is. -/
structure Fresh (n : Int) (l : List Cu) (s : St) (f k c : Nat) (l' : List Cu) (s' : St) : Prop where
  fit : n ≤ (c : Int)
  within : k * c + c ≤ 64
  frame : f < s'.n ∧ s'.tk f = true
  was : there l f k c = false
  now : ∀ fr sl sz : Int, there l' fr sl sz = true ↔ (fr = (f : Int) ∧ sl = (k : Int) ∧ sz = (c : Int)) ∨ there l fr sl sz = true
  more : pieces l' = pieces l + 1
  apart : ∀ fr sl sz : Int, there l fr sl sz = true → fr = (f : Int) → sz = (c : Int) ∧ sl ≠ (k : Int)
  six : c = 16 ∨ c = 32 ∨ c = 64
theorem Took.tells {n : Int} {l : List Cu} {s : St} {f k c e : Nat} {l' : List Cu} {s' : St} (ht : Took n l s f k c e l' s') (h : Whole l s) (hc : Cuts l) (hg : Good s) :
    (e = 0 ∧ Fresh n l s f k c l' s') ∨ (f = 0 ∧ k = 0 ∧ c = 0 ∧ (e = 2 ∨ e = 3) ∧ l' = l ∧ s' = s) := by
  cases ht with
  | arg hc0 => exact .inr ⟨rfl, rfl, rfl, .inl rfl, rfl, rfl⟩
  | nothing => exact .inr ⟨rfl, rfl, rfl, .inr rfl, rfl, rfl⟩
  | old i k hi hc0 hk hcl hfree htk hfull =>
    have hm := List.getElem_mem hi
    have hk' : k < 64 / l[i].c := by rw [hcl]; exact hk
    have hwas : there l l[i].f k (cls n) = false := by
      rw [← hcl]
      cases hh : there l l[i].f k l[i].c with
      | false => rfl
      | true =>
        obtain ⟨u, hu, h1⟩ := (there_iff _ _ _ _).mp hh
        obtain ⟨q, h2, h3, h4, h5, h6⟩ := hit_true h1
        have := same_frame hc hu hm (by omega)
        subst this
        have e : q = k := by omega
        subst e
        rw [hfree] at h6
        cases h6
    refine .inl ⟨rfl, cls_fit hc0, slot_fit (hcl ▸ hc.cl _ hm) hk, h.tk _ hm, hwas, fun fr sl sz => ?_, ?_, fun fr sl sz hth e1 => ?_, hcl ▸ hc.cl _ hm⟩
    · rw [there_set hc hi hk' true, hcl]
      constructor
      · rintro (⟨h1, h2, h3, _⟩ | ⟨h1, _⟩)
        · exact .inl ⟨h1, h2, h3⟩
        · exact .inr h1
      · rintro (⟨h1, h2, h3⟩ | h1)
        · exact .inl ⟨h1, h2, h3, rfl⟩
        · refine .inr ⟨h1, ?_⟩
          rintro ⟨rfl, rfl, rfl⟩
          rw [hwas] at h1
          cases h1
    · have h1 := pieces_set hi (l[i].put k true)
      have h2 := cnt_put l[i].tk k 4 true (slot_lt (hc.cl _ hm) hk') hfree
      have h3 : (l[i].put k true).tk = upd l[i].tk k true := rfl
      rw [h3] at h1
      simp at h2
      omega
    · obtain ⟨u, hu, h1⟩ := (there_iff _ _ _ _).mp hth
      obtain ⟨q, h2, h3, h4, h5, h6⟩ := hit_true h1
      have := same_frame hc hu hm (by omega)
      subst this
      refine ⟨by rw [h3, hcl], fun h7 => ?_⟩
      have e : q = k := by omega
      subst e
      rw [hfree] at h6
      cases h6
  | new l0 x p hc0 hfull hfr hp hlo hhi =>
    have hx : f ∈ s.fr := by rw [hfr]; simp
    have hlt := hg.lt f hx
    have hxt : s.tk f = false := (hg.free f hlt).mp hx
    have hcl : cls n = 16 ∨ cls n = 32 ∨ cls n = 64 := (cls_cases n).resolve_left hc0
    have hk' : 0 < 64 / cls n := by rcases hcl with e | e | e <;> rw [e] <;> omega
    have hno : ∀ fr sl sz : Int, there l fr sl sz = true → fr ≠ (f : Int) := fun fr sl sz hth e => by
      obtain ⟨u, hu, h1⟩ := (there_iff _ _ _ _).mp hth
      obtain ⟨q, h2, _⟩ := hit_true h1
      have := (h.tk u hu).2
      rw [show u.f = f by omega, hxt] at this
      cases this
    refine .inl ⟨rfl, cls_fit hc0, slot_fit hcl hk', ⟨hlt, upd_same _ _ _⟩, ?_, fun fr sl sz => ?_, pieces_comeIn l p f _, fun fr sl sz hth e1 => absurd e1 (hno fr sl sz hth), hcl⟩
    · cases hh : there l f 0 (cls n) with
      | false => rfl
      | true => exact absurd rfl (hno _ _ _ hh)
    · rw [there_iff, there_iff]
      constructor
      · rintro ⟨u, hu, h1⟩
        rcases (mem_comeIn _ _ _ _).mp hu with hu | rfl
        · exact .inr ⟨u, hu, h1⟩
        · obtain ⟨q, h2, h3, h4, h5, h6⟩ := hit_true h1
          have h6' : upd (fun _ => false) 0 true q = true := h6
          by_cases e : q = 0
          · subst e; exact .inl ⟨h2, h4, h3⟩
          · rw [upd_other _ _ e] at h6'; cases h6'
      · rintro (⟨rfl, rfl, rfl⟩ | ⟨u, hu, h1⟩)
        · exact ⟨_, (mem_comeIn _ _ _ _).mpr (.inr rfl), hit_of (u := fresh1 f (cls n)) (k := 0) hk' rfl⟩
        · exact ⟨u, (mem_comeIn _ _ _ _).mpr (.inl hu), h1⟩
theorem sub_len {a b : List Nat} (h : a.Nodup) (hs : ∀ x ∈ a, x ∈ b) : a.length ≤ b.length := by
  induction a generalizing b with
  | nil => simp
  | cons x a ih =>
    obtain ⟨h1, h2⟩ := List.nodup_cons.mp h
    have hx := hs x List.mem_cons_self
    have h3 := ih (b := b.erase x) h2 (fun y hy => (List.mem_erase_of_ne (fun e => by subst e; exact h1 hy)).mpr (hs y (List.mem_cons_of_mem _ hy)))
    rw [List.length_erase_of_mem hx] at h3
    have : 0 < b.length := List.length_pos_of_mem hx
    rw [List.length_cons]
    omega
theorem cnt_pos {tk : Nat → Bool} {j k : Nat} (hj : j < k) (h : tk j = true) : 0 < cnt tk k := by
  unfold cnt
  exact List.length_pos_of_mem (List.mem_filter.mpr ⟨List.mem_range.mpr hj, h⟩)
/-- With no piece taken no frame is cut, and all frames are free. -/
theorem Whole.empty {l : List Cu} {s : St} (h : Whole l s) (hc : Cuts l) (hg : Good s) (h0 : pieces l = 0) : l = [] ∧ s.fr.length = s.n := by
  have hl : l = [] := by
    cases l with
    | nil => rfl
    | cons u l =>
      exfalso
      obtain ⟨j, hj, hjt⟩ := h.one u List.mem_cons_self
      have := cnt_pos (slot_lt (hc.cl u List.mem_cons_self) hj) hjt
      rw [pieces_cons] at h0
      omega
  refine ⟨hl, ?_⟩
  subst hl
  have h1 := nodup_len hg.nodup hg.lt
  have h2 := sub_len (a := List.range s.n) (b := s.fr) List.nodup_range (fun i hi => by
    have hi' := List.mem_range.mp hi
    refine (hg.free i hi').mpr ?_
    cases ht : s.tk i with
    | false => rfl
    | true => obtain ⟨u, hu, _⟩ := h.all i hi' ht; cases hu)
  rw [List.length_range] at h2
  omega
/-- What Give tells. -/
theorem Gave.tells {fr sl sz : Int} {l : List Cu} {s : St} {e : Nat} {l' : List Cu} {s' : St} (ht : Gave fr sl sz l s e l' s') (h : Whole l s) (hc : Cuts l) (hg : Good s) :
    (e = 4 ∧ there l fr sl sz = false ∧ l' = l ∧ s' = s) ∨ (e = 0 ∧ there l fr sl sz = true ∧ pieces l' + 1 = pieces l ∧ ∀ a b c : Int, there l' a b c = true ↔ there l a b c = true ∧ ¬ (a = fr ∧ b = sl ∧ c = sz)) := by
  cases ht with
  | none hn => exact .inl ⟨rfl, by unfold there; rw [hn]; rfl, rfl, rfl⟩
  | stay p q hp hf hq hz hlt ht hpl hne =>
    have hm := List.getElem_mem hp
    subst hf hq hz
    refine .inr ⟨rfl, (there_iff _ _ _ _).mpr ⟨_, hm, hit_of hlt ht⟩, ?_, fun a b c => ?_⟩
    · have h1 := pieces_set hp (l[p].put q false)
      have h2 := cnt_put l[p].tk q 4 false (slot_lt (hc.cl _ hm) hlt) ht
      have h3 : (l[p].put q false).tk = upd l[p].tk q false := rfl
      rw [h3] at h1
      simp at h2
      omega
    · rw [there_set hc hp hlt false]
      constructor
      · rintro (⟨_, _, _, h4⟩ | h4)
        · cases h4
        · exact h4
      · exact fun h4 => .inr h4
  | last p q hp hf hq hz hlt ht hpl hne =>
    have hm := List.getElem_mem hp
    subst hf hq hz
    have only : ∀ j, l[p].tk j = true → j = q := fun j hj => by
      by_cases e : j = q
      · exact e
      · exfalso
        have h4 : j < 4 := by
          by_cases h64 : j < 64 / l[p].c
          · exact slot_lt (hc.cl _ hm) h64
          · rw [h.out _ hm j (by omega)] at hj; cases hj
        have hj' : (l[p].put q false).tk j = true := by show upd l[p].tk q false j = true; rw [upd_other _ _ e]; exact hj
        unfold Cu.none at hne
        match j, h4 with
        | 0, _ => rw [hj'] at hne; cases hne
        | 1, _ => rw [hj'] at hne; simp at hne
        | 2, _ => rw [hj'] at hne; simp at hne
        | 3, _ => rw [hj'] at hne; simp at hne
    refine .inr ⟨rfl, (there_iff _ _ _ _).mpr ⟨_, hm, hit_of hlt ht⟩, ?_, fun a b c => ?_⟩
    · have h1 := pieces_strike hp
      have h2 := cnt_put l[p].tk q 4 false (slot_lt (hc.cl _ hm) hlt) ht
      have h3 : cnt (upd l[p].tk q false) 4 = 0 := by
        have hz : upd l[p].tk q false = fun _ => false := by
          funext j
          by_cases e : j = q
          · rw [e, upd_same]
          · rw [upd_other _ _ e]
            cases hj : l[p].tk j with
            | false => rfl
            | true => exact absurd (only j hj) e
        rw [hz]; rfl
      rw [h3] at h2
      simp at h2
      omega
    · rw [there_iff, there_iff]
      constructor
      · rintro ⟨u, hu, hh⟩
        obtain ⟨h1, h2⟩ := (mem_strike hc hp u).mp hu
        refine ⟨⟨u, h1, hh⟩, fun h3 => h2 ?_⟩
        obtain ⟨q', h4, _⟩ := hit_true hh
        have := h3.1
        omega
      · rintro ⟨⟨u, hu, hh⟩, hn⟩
        refine ⟨u, (mem_strike hc hp u).mpr ⟨hu, fun e => hn ?_⟩, hh⟩
        have := same_frame hc hu hm e
        subst this
        obtain ⟨q', h4, h5, h6, h7, h8⟩ := hit_true hh
        exact ⟨h4, by rw [h6, only q' h8], h5⟩
end Go.Proofs.Ytllapjidnngaeaa
