/-
  What a call of Take and of Give does, as steps on the list of cut frames and on the frames; the document's own slab takes these steps.
-/
import Derived.Test.YtllapjidnngaeaaSlPlain
namespace Go.Proofs.Ytllapjidnngaeaa
open Go.ChangeShapes Go.WideShapes Go.ChangeAt Go.RowKit
set_option linter.unusedVariables false
/-- Cut frames and frames belong together: none but cut frames are taken. -/
structure Whole (l : List Cu) (s : St) : Prop where
  tk : ∀ u ∈ l, u.f < s.n ∧ s.tk u.f = true
  one : ∀ u ∈ l, ∃ j, j < 64 / u.c ∧ u.tk j = true
  all : ∀ i, i < s.n → s.tk i = true → ∃ u ∈ l, u.f = i
  out : ∀ u ∈ l, ∀ j, 64 / u.c ≤ j → u.tk j = false
/-- What Take does: the piece, what is wrong, what is then. -/
inductive Took (n : Int) (l : List Cu) (s : St) : Nat → Nat → Nat → Nat → List Cu → St → Prop
  | arg (hc : cls n = 0) : Took n l s 0 0 0 2 l s
  | old (i k : Nat) (hi : i < l.length) (hc : cls n ≠ 0) (hk : k < 64 / cls n) (hcl : l[i].c = cls n) (hfree : l[i].tk k = false) (htk : ∀ j, j < k → l[i].tk j = true) (hfull : ∀ j (hj : j < i), Full (l[j]'(by omega)) (cls n) (64 / cls n)) :
      Took n l s l[i].f k (cls n) 0 (l.set i (l[i].put k true)) s
  | nothing (hc : cls n ≠ 0) (hfull : ∀ j (hj : j < l.length), Full l[j] (cls n) (64 / cls n)) (hfr : s.fr = []) : Took n l s 0 0 0 3 l s
  | new (l0 : List Nat) (x p : Nat) (hc : cls n ≠ 0) (hfull : ∀ j (hj : j < l.length), Full l[j] (cls n) (64 / cls n)) (hfr : s.fr = l0 ++ [x]) (hp : p ≤ l.length) (hlo : ∀ j (hj : j < p), (l[j]'(by omega)).f < x) (hhi : ∀ j (hj : j < l.length), p ≤ j → x < l[j].f) :
      Took n l s x 0 (cls n) 0 (comeIn l p (fresh1 x (cls n))) (s.take l0 x)
/-- What Give does. -/
inductive Gave (fr sl sz : Int) (l : List Cu) (s : St) : Nat → List Cu → St → Prop
  | none (hn : place l fr sl sz = -1) : Gave fr sl sz l s 4 l s
  | stay (p q : Nat) (hp : p < l.length) (hf : fr = (l[p].f : Int)) (hq : sl = (q : Int)) (hz : sz = (l[p].c : Int)) (hlt : q < 64 / l[p].c) (ht : l[p].tk q = true) (hpl : place l fr sl sz = (p : Int)) (hne : (l[p].put q false).none = false) :
      Gave fr sl sz l s 0 (l.set p (l[p].put q false)) s
  | last (p q : Nat) (hp : p < l.length) (hf : fr = (l[p].f : Int)) (hq : sl = (q : Int)) (hz : sz = (l[p].c : Int)) (hlt : q < 64 / l[p].c) (ht : l[p].tk q = true) (hpl : place l fr sl sz = (p : Int)) (hne : (l[p].put q false).none = true) :
      Gave fr sl sz l s 0 (strike l p) (s.give l[p].f)
theorem gave_total (fr sl sz : Int) (l : List Cu) (s : St) : ∃ e l' s', Gave fr sl sz l s e l' s' := by
  rcases place_cases l fr sl sz with ⟨p, hp, hh, hpl⟩ | ⟨_, hn⟩
  · obtain ⟨q, h1, h2, h3, h4, h5⟩ := hit_true hh
    cases hne : (l[p].put q false).none with
    | false => exact ⟨_, _, _, .stay p q hp h1 h3 h2 h4 h5 hpl hne⟩
    | true => exact ⟨_, _, _, .last p q hp h1 h3 h2 h4 h5 hpl hne⟩
  · exact ⟨_, _, _, .none hn⟩
theorem last_or (l : List Nat) : l = [] ∨ ∃ l0 x, l = l0 ++ [x] := by
  induction l with
  | nil => exact .inl rfl
  | cons a l ih =>
    rcases ih with rfl | ⟨l0, x, rfl⟩
    · exact .inr ⟨[], a, rfl⟩
    · exact .inr ⟨a :: l0, x, rfl⟩
theorem took_total (n : Int) {l : List Cu} {s : St} (h : Whole l s) (hc : Cuts l) (hg : Good s) : ∃ f k c e l' s', Took n l s f k c e l' s' := by
  by_cases h0 : cls n = 0
  · exact ⟨_, _, _, _, _, _, .arg h0⟩
  · rcases find_free l (cls n) with ⟨i, k, hi, h1, h2, h3, h4, h5⟩ | hfull
    · exact ⟨_, _, _, _, _, _, .old i k hi h0 h1 h2 h3 h4 h5⟩
    · rcases last_or s.fr with hfr | ⟨l0, x, hfr⟩
      · exact ⟨_, _, _, _, _, _, .nothing h0 hfull hfr⟩
      · have hx : x ∈ s.fr := by rw [hfr]; simp
        have hxt : s.tk x = false := (hg.free x (hg.lt x hx)).mp hx
        obtain ⟨p, hp, h1, h2⟩ := find_place hc x (fun u hu e => by have := (h.tk u hu).2; rw [e, hxt] at this; cases this)
        exact ⟨_, _, _, _, _, _, .new l0 x p h0 hfull hfr hp (fun j hj => h1 j hj (by omega)) h2⟩
/-- The document's slab and its frames, in blocks of U. -/
def DS (w : World) (U : Nat → Prop) (S R : Nat) (l : List Cu) (s : St) : Prop :=
  ∃ G K t b fresh back, SrG w G S R l ∧ RfG w K R t b s fresh back ∧ (∀ i, G i → ¬ K i) ∧ ∀ i, U i ↔ G i ∨ K i
theorem DS.cuts {w : World} {U : Nat → Prop} {S R : Nat} {l : List Cu} {s : St} (h : DS w U S R l s) : Cuts l := by obtain ⟨G, K, t, b, fresh, back, h1, _⟩ := h; exact h1.cuts
theorem DS.good {w : World} {U : Nat → Prop} {S R : Nat} {l : List Cu} {s : St} (h : DS w U S R l s) : Good s := by obtain ⟨G, K, t, b, fresh, back, _, h2, _⟩ := h; exact h2.1.good
theorem DS.lt {w : World} {U : Nat → Prop} {S R : Nat} {l : List Cu} {s : St} (h : DS w U S R l s) : ∀ i, U i → i < w.heap.size := by
  obtain ⟨G, K, t, b, fresh, back, h1, h2, _, h4⟩ := h
  intro i hi
  rcases (h4 i).mp hi with e | e
  · exact h1.lt i e
  · exact h2.2 i e
theorem DS.keep {V U : Nat → Prop} {w w' : World} {S R : Nat} {l : List Cu} {s : St} (h : DS w U S R l s) (u : Touch V w w') (hV : ∀ i, U i → ¬ V i) : DS w' U S R l s := by
  obtain ⟨G, K, t, b, fresh, back, h1, h2, h3, h4⟩ := h
  exact ⟨G, K, t, b, fresh, back, h1.keep u (fun i hi => hV i ((h4 i).mpr (.inl hi))), h2.keep u (fun i hi => hV i ((h4 i).mpr (.inr hi))), h3, h4⟩
theorem DS.below {U : Nat → Prop} {w w' : World} {S R : Nat} {l : List Cu} {s : St} (h : DS w U S R l s) (u : Below w.heap.size w w') : DS w' U S R l s := h.keep (V := fun _ => False) (Touch.of_below u) (fun _ _ e => e)
theorem DS.sr {w : World} {U : Nat → Prop} {S R : Nat} {l : List Cu} {s : St} (h : DS w U S R l s) : Sr w S R l := by obtain ⟨G, K, t, b, fresh, back, h1, _⟩ := h; exact h1.sr
theorem Whole.few {l : List Cu} {s : St} (h : Whole l s) (hc : Cuts l) : l.length ≤ s.n := by
  have hn : (l.map Cu.f).Nodup := by
    rw [List.Nodup, List.pairwise_map]
    exact hc.up.imp fun hab => by omega
  have := nodup_len hn (n := s.n) (fun i hi => by obtain ⟨u, hu, rfl⟩ := List.mem_map.mp hi; exact (h.tk u hu).1)
  simpa using this
theorem dtake {w : World} {U : Nat → Prop} {S R : Nat} {l : List Cu} {s : St} (h : DS w U S R l s) (hw : Whole l s) {n : Int} {f k c e : Nat} {l' : List Cu} {s' : St} (ht : Took n l s f k c e l' s') :
    Calls Try.prog 11 #[.pointer (some ⟨S, 0, none⟩), .int .i64 n] w fun en w' => en = .returned (.tuple #[refV f k c, .int .i64 (e : Int)]) ∧ ∃ U', DS w' U' S R l' s' ∧ Touch U w w' ∧ ∀ i, U' i → U i ∨ w.heap.size ≤ i := by
  have hd := h
  obtain ⟨G, K, t, b, fresh, back, h1, h2, h3, h4⟩ := h
  have same : ∀ w', Below w.heap.size w w' → ∃ U', DS w' U' S R l s ∧ Touch U w w' ∧ ∀ i, U' i → U i ∨ w.heap.size ≤ i := fun w' hb => ⟨U, hd.below hb, Touch.of_below hb, fun i hi => .inl hi⟩
  cases ht with
  | arg hc =>
    refine (rtake_arg h1.sr n hc).mono ?_
    rintro en w' ⟨rfl, hb⟩
    exact ⟨rfl, same w' hb⟩
  | nothing hc hfull hfr =>
    refine (rtake_nothing h1 h2 n _ rfl hc hfull hfr).mono ?_
    rintro en w' ⟨rfl, hb⟩
    exact ⟨rfl, same w' hb⟩
  | old i k hi hc hk hcl hfree htk hfull =>
    refine (rtake_old h1 n _ i _ rfl hc hi hk hcl hfree htk hfull).mono ?_
    rintro en w' ⟨rfl, h5, h6⟩
    refine ⟨rfl, U, ⟨G, K, t, b, fresh, back, h5, h2.keep h6 (fun i hi hg => h3 i hg hi), h3, h4⟩, h6.mono (fun i hi => (h4 i).mpr (.inl hi)), fun i hi => .inl hi⟩
  | new l0 x p hc hfull hfr hp hlo hhi =>
    have hx : f ∈ s.fr := by rw [hfr]; simp
    have hg := h2.1.good
    have hx64 : f < 64 := by have := hg.lt f hx; have := hg.n64; omega
    have hxt : s.tk f = false := (hg.free f (hg.lt f hx)).mp hx
    have hfew : l.length < 64 := by
      have hn : (f :: l.map Cu.f).Nodup := by
        refine List.nodup_cons.mpr ⟨fun hm => ?_, ?_⟩
        · obtain ⟨u, hu, e⟩ := List.mem_map.mp hm
          have := (hw.tk u hu).2
          rw [e, hxt] at this
          cases this
        · rw [List.Nodup, List.pairwise_map]
          exact h1.cuts.up.imp fun hab => by omega
      have := nodup_len hn (n := 64) (fun i hi => by
        rcases List.mem_cons.mp hi with rfl | hi
        · exact hx64
        · obtain ⟨u, hu, rfl⟩ := List.mem_map.mp hi
          exact h1.cuts.fs u hu)
      simp at this
      omega
    refine (rtake_new h1 h2 n _ rfl hc hfull hfr h3 hp hlo hhi hfew hx64).mono ?_
    rintro en w' ⟨rfl, G', K', fresh', back', h5, h6, h7, h8, h9⟩
    refine ⟨rfl, fun i => G' i ∨ K' i, ⟨G', K', t, b, fresh', back', h5, h6, h7, fun i => Iff.rfl⟩, h8.mono (fun i hi => (h4 i).mpr hi), fun i hi => ?_⟩
    rcases h9 i hi with e | e
    · exact .inl ((h4 i).mpr e)
    · exact .inr e
theorem slot_lt {c q : Nat} (h : c = 16 ∨ c = 32 ∨ c = 64) (hq : q < 64 / c) : q < 4 := by
  rcases h with rfl | rfl | rfl <;> omega
theorem dgive {w : World} {U : Nat → Prop} {S R : Nat} {l : List Cu} {s : St} (h : DS w U S R l s) (hw : Whole l s) {fr sl sz : Int} (hsl : (Lit.int .i64 sl).wf = true) {e : Nat} {l' : List Cu} {s' : St} (ht : Gave fr sl sz l s e l' s') :
    Calls Try.prog 17 #[.pointer (some ⟨S, 0, none⟩), refV fr sl sz] w fun en w' => en = .returned (.int .i64 (e : Int)) ∧ ∃ U', DS w' U' S R l' s' ∧ Touch U w w' ∧ ∀ i, U' i → U i ∨ w.heap.size ≤ i := by
  have hd := h
  obtain ⟨G, K, t, b, fresh, back, h1, h2, h3, h4⟩ := h
  cases ht with
  | none hn =>
    refine (rgive_none h1.sr fr sl sz hsl hn).mono ?_
    rintro en w' ⟨rfl, hb⟩
    exact ⟨rfl, U, hd.below hb, Touch.of_below hb, fun i hi => .inl hi⟩
  | stay p q hp hf hq hz hlt ht hpl hne =>
    subst hf hq hz
    have h4q := slot_lt (h1.cuts.cl _ (List.getElem_mem hp)) hlt
    refine (rgive_stay h1 _ _ q p hp h4q hpl hne).mono ?_
    rintro en w' ⟨rfl, h5, h6⟩
    exact ⟨rfl, U, ⟨G, K, t, b, fresh, back, h5, h2.keep h6 (fun i hi hg => h3 i hg hi), h3, h4⟩, h6.mono (fun i hi => (h4 i).mpr (.inl hi)), fun i hi => .inl hi⟩
  | last p q hp hf hq hz hlt ht hpl hne =>
    subst hf hq hz
    have h4q := slot_lt (h1.cuts.cl _ (List.getElem_mem hp)) hlt
    have htk := hw.tk _ (List.getElem_mem hp)
    refine (rgive_last h1 h2 h3 q p _ hp h4q hpl hne htk.1 htk.2).mono ?_
    rintro en w' ⟨rfl, G', K', h5, h6, h7, h8, h9⟩
    refine ⟨rfl, fun i => G' i ∨ K' i, ⟨G', K', t, b, _, _, h5, h6, h7, fun i => Iff.rfl⟩, h8.mono (fun i hi => (h4 i).mpr hi), fun i hi => ?_⟩
    rcases h9 i hi with e | e
    · exact .inl ((h4 i).mpr e)
    · exact .inr e
theorem mem_set_or {l : List Cu} {p : Nat} {x u : Cu} (h : u ∈ l.set p x) : u ∈ l ∨ u = x := List.mem_or_eq_of_mem_set h
theorem not_none {u : Cu} (h : u.none = false) : ∃ j, j < 4 ∧ u.tk j = true := by
  unfold Cu.none at h
  rcases hb0 : u.tk 0 with _ | _
  · rcases hb1 : u.tk 1 with _ | _
    · rcases hb2 : u.tk 2 with _ | _
      · rcases hb3 : u.tk 3 with _ | _
        · rw [hb0, hb1, hb2, hb3] at h; cases h
        · exact ⟨3, by omega, hb3⟩
      · exact ⟨2, by omega, hb2⟩
    · exact ⟨1, by omega, hb1⟩
  · exact ⟨0, by omega, hb0⟩
/-- A step of Take keeps cut frames and frames together. -/
theorem Took.whole {n : Int} {l : List Cu} {s : St} {f k c e : Nat} {l' : List Cu} {s' : St} (ht : Took n l s f k c e l' s') (h : Whole l s) (hc : Cuts l) (hg : Good s) : Whole l' s' := by
  cases ht with
  | arg => exact h
  | nothing => exact h
  | old i k hi hc0 hk hcl hfree htk hfull =>
    have hm := List.getElem_mem hi
    refine ⟨fun u hu => ?_, fun u hu => ?_, fun j hj hjt => ?_, fun u hu j hj => ?_⟩
    · rcases mem_set_or hu with hu | rfl
      · exact h.tk u hu
      · exact (h.tk _ hm :)
    · rcases mem_set_or hu with hu | rfl
      · exact h.one u hu
      · exact ⟨k, by show k < 64 / l[i].c; rw [hcl]; exact hk, upd_same _ _ _⟩
    · obtain ⟨u, hu, e⟩ := h.all j hj hjt
      obtain ⟨q, hq, rfl⟩ := List.mem_iff_getElem.mp hu
      by_cases eq : i = q
      · subst eq
        exact ⟨_, List.mem_set hi _, e⟩
      · exact ⟨l[q], List.mem_iff_getElem.mpr ⟨q, by simpa using hq, by rw [List.getElem_set_ne eq]⟩, e⟩
    · rcases mem_set_or hu with hu | rfl
      · exact h.out u hu j hj
      · have hj' : 64 / l[i].c ≤ j := hj
        show upd l[i].tk k true j = false
        rw [upd_other _ _ (by rw [hcl] at hj'; omega)]
        exact h.out _ hm j hj'
  | new l0 x p hc0 hfull hfr hp hlo hhi =>
    have hx : f ∈ s.fr := by rw [hfr]; simp
    have hlt := hg.lt f hx
    have hcl : cls n = 16 ∨ cls n = 32 ∨ cls n = 64 := (cls_cases n).resolve_left hc0
    have hmem : ∀ u, u ∈ comeIn l p (fresh1 f (cls n)) ↔ u ∈ l ∨ u = fresh1 f (cls n) := fun u => by
      unfold comeIn
      rw [List.mem_append, List.mem_cons]
      constructor
      · rintro (h1 | rfl | h1)
        · exact .inl (List.mem_of_mem_take h1)
        · exact .inr rfl
        · exact .inl (List.mem_of_mem_drop h1)
      · rintro (h1 | rfl)
        · rw [← List.take_append_drop p l, List.mem_append] at h1
          rcases h1 with h1 | h1
          · exact .inl h1
          · exact .inr (.inr h1)
        · exact .inr (.inl rfl)
    refine ⟨fun u hu => ?_, fun u hu => ?_, fun j hj hjt => ?_, fun u hu j hj => ?_⟩
    · rcases (hmem u).mp hu with hu | rfl
      · refine ⟨(h.tk u hu).1, ?_⟩
        show upd s.tk f true u.f = true
        by_cases e : u.f = f
        · rw [e, upd_same]
        · rw [upd_other _ _ e]; exact (h.tk u hu).2
      · exact ⟨hlt, upd_same _ _ _⟩
    · rcases (hmem u).mp hu with hu | rfl
      · exact h.one u hu
      · refine ⟨0, ?_, rfl⟩
        show 0 < 64 / cls n
        rcases hcl with e | e | e <;> rw [e] <;> omega
    · by_cases e : j = f
      · exact ⟨_, (hmem _).mpr (.inr rfl), e.symm⟩
      · have hjt' : upd s.tk f true j = true := hjt
        rw [upd_other _ _ e] at hjt'
        obtain ⟨u, hu, e'⟩ := h.all j hj hjt'
        exact ⟨u, (hmem u).mpr (.inl hu), e'⟩
    · rcases (hmem u).mp hu with hu | rfl
      · exact h.out u hu j hj
      · have hj' : 64 / cls n ≤ j := hj
        show upd (fun _ => false) 0 true j = false
        rw [upd_other _ _ (by rcases hcl with e | e | e <;> rw [e] at hj' <;> omega)]
theorem mem_strike {l : List Cu} (hc : Cuts l) {p : Nat} (hp : p < l.length) (u : Cu) : u ∈ strike l p ↔ u ∈ l ∧ u.f ≠ l[p].f := by
  have hup := hc.up
  have e : l = l.take p ++ l[p] :: l.drop (p + 1) := by rw [List.getElem_cons_drop, List.take_append_drop]
  rw [e] at hup
  rw [List.pairwise_append, List.pairwise_cons] at hup
  obtain ⟨_, ⟨h2, _⟩, h3⟩ := hup
  unfold strike
  rw [List.mem_append]
  constructor
  · rintro (h1 | h1)
    · refine ⟨List.mem_of_mem_take h1, ?_⟩
      have := h3 u h1 l[p] (List.mem_cons_self)
      omega
    · refine ⟨List.mem_of_mem_drop h1, ?_⟩
      have := h2 u h1
      omega
  · rintro ⟨h1, h4⟩
    rw [e, List.mem_append, List.mem_cons] at h1
    rcases h1 with h1 | rfl | h1
    · exact .inl h1
    · exact absurd rfl h4
    · exact .inr h1
/-- A step of Give keeps cut frames and frames together. -/
theorem Gave.whole {fr sl sz : Int} {l : List Cu} {s : St} {e : Nat} {l' : List Cu} {s' : St} (ht : Gave fr sl sz l s e l' s') (h : Whole l s) (hc : Cuts l) (hg : Good s) : Whole l' s' := by
  cases ht with
  | none => exact h
  | stay p q hp hf hq hz hlt ht hpl hne =>
    have hm := List.getElem_mem hp
    have hc4 := hc.cl _ hm
    refine ⟨fun u hu => ?_, fun u hu => ?_, fun j hj hjt => ?_, fun u hu j hj => ?_⟩
    · rcases mem_set_or hu with hu | rfl
      · exact h.tk u hu
      · exact (h.tk _ hm :)
    · rcases mem_set_or hu with hu | rfl
      · exact h.one u hu
      · obtain ⟨j, hj, hjt⟩ := not_none hne
        refine ⟨j, ?_, hjt⟩
        show j < 64 / l[p].c
        by_cases e : j < 64 / l[p].c
        · exact e
        · have hjt' : upd l[p].tk q false j = true := hjt
          rw [upd_other _ _ (by omega), h.out _ hm j (by omega)] at hjt'
          cases hjt'
    · obtain ⟨u, hu, e⟩ := h.all j hj hjt
      obtain ⟨q', hq', rfl⟩ := List.mem_iff_getElem.mp hu
      by_cases eq : p = q'
      · subst eq
        exact ⟨_, List.mem_set hp _, e⟩
      · exact ⟨l[q'], List.mem_iff_getElem.mpr ⟨q', by simpa using hq', by rw [List.getElem_set_ne eq]⟩, e⟩
    · rcases mem_set_or hu with hu | rfl
      · exact h.out u hu j hj
      · have hj' : 64 / l[p].c ≤ j := hj
        show upd l[p].tk q false j = false
        rw [upd_other _ _ (by omega)]
        exact h.out _ hm j hj'
  | last p q hp hf hq hz hlt ht hpl hne =>
    have hm := List.getElem_mem hp
    refine ⟨fun u hu => ?_, fun u hu => ?_, fun j hj hjt => ?_, fun u hu j hj => ?_⟩
    · obtain ⟨h1, h2⟩ := (mem_strike hc hp u).mp hu
      refine ⟨(h.tk u h1).1, ?_⟩
      show upd s.tk l[p].f false u.f = true
      rw [upd_other _ _ h2]
      exact (h.tk u h1).2
    · exact h.one u ((mem_strike hc hp u).mp hu).1
    · have hjt' : upd s.tk l[p].f false j = true := hjt
      by_cases e : j = l[p].f
      · subst e
        rw [upd_same] at hjt'
        cases hjt'
      · rw [upd_other _ _ e] at hjt'
        obtain ⟨u, hu, e'⟩ := h.all j hj hjt'
        exact ⟨u, (mem_strike hc hp u).mpr ⟨hu, by rw [e']; exact e⟩, e'⟩
    · exact h.out u ((mem_strike hc hp u).mp hu).1 j hj
end Go.Proofs.Ytllapjidnngaeaa
