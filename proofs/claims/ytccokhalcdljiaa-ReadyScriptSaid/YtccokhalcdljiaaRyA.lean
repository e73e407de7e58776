/-
  Several texts as one: RyMap RyFacts RyMem RyLad RyLadD RyLadF RyNums RyAll RyQueue RyDue.
-/
import Derived.Test.YtccokhalcdljiaaRdBoth
import Derived.Test.YtccokhalcdljiaaHpAwake
import Derived.Test.YtccokhalcdljiaaBitsAllW
import Derived.Deep.RegionLaw
import Derived.Test.YtccokhalcdljiaaHpAll
namespace Go.Proofs.Ytccokhalcdljiaa
open Go.ChangeShapes Go.WideShapes Go.ChangeAt Go.RowKit Go.Maps
set_option linter.unusedVariables false
def prV (p : Pr) : Value := .agg #[.int .i64 p.c, .int .i64 p.l, .int .i64 p.d]
def encP (p : Pr) : DataW Unit := .map [(.int .i64 0, .lit (.int .i64 p.c)), (.int .i64 1, .lit (.int .i64 p.l)), (.int .i64 2, .lit (.int .i64 p.d))]
theorem encP_inj {p q : Pr} (h : encP p = encP q) : p = q := by
  obtain ⟨a, b, c⟩ := p
  obtain ⟨a', b', c'⟩ := q
  unfold encP at h
  simp at h
  obtain ⟨h1, h2, h3⟩ := h
  rw [h1, h2, h3]
def readPr (v : Value) : Option (DataW Unit × List MemPlace) := match v with
  | .agg cs => match cs.toList with
    | [.int .i64 a, .int .i64 b, .int .i64 c] => some (encP ⟨a, b, c⟩, [])
    | _ => none
  | _ => none
theorem readPr_mk (p : Pr) : readPr (prV p) = some (encP p, []) := rfl
theorem readPr_inv {v : Value} {z : DataW Unit × List MemPlace} (h : readPr v = some z) : ∃ p, v = prV p ∧ z = (encP p, []) := by
  unfold readPr at h
  split at h
  · rename_i cs
    split at h
    · rename_i a b c e
      injection h with h
      refine ⟨⟨a, b, c⟩, ?_, h.symm⟩
      have e2 : cs = #[.int .i64 a, .int .i64 b, .int .i64 c] := by rw [← Array.toArray_toList (xs := cs), e]
      rw [e2]; rfl
    · cases h
  · cases h
def updP (f : Int → Option Pr) (k : Int) (v : Pr) : Int → Option Pr := fun x => if x = k then some v else f x
def delP (f : Int → Option Pr) (k : Int) : Int → Option Pr := fun x => if x = k then none else f x
theorem keyLaw : Keyed Try.prog 3 := int_keyed Try.underlying3
def pr0 : Pr := ⟨0, 0, 0⟩
theorem zeroPrio (w : World) : (zeroValue 31).run Try.prog w = .ok (prV pr0) w := by kernel_rfl
def Prms (w : World) (M n : Nat) (f : Int → Option Pr) : Prop :=
  ∃ D : DataW Unit, w.ownsMap Try.prog 3 readPr M n D ∧ Maps.size D = n ∧
    ∀ k, (Lit.int .i64 k).wf = true → Maps.has D (.int .i64 k) = (f k).isSome ∧ ∀ v, f k = some v → D.atKey (.int .i64 k) (encP pr0) = encP v
theorem Prms.lt {w : World} {M n : Nat} {f : Int → Option Pr} (h : Prms w M n f) : M < w.heap.size := by obtain ⟨D, hD, _⟩ := h; exact hD.lt
theorem Prms.made (w : World) : Prms (w.alloc (.map #[] 0)) w.heap.size 0 (fun _ => none) :=
  ⟨.map [], World.ownsMap_made _ _ _ _, rfl, fun k _ => ⟨rfl, fun v h => by cases h⟩⟩
theorem Prms.keep {w w' : World} {M n : Nat} {f : Int → Option Pr} (h : Prms w M n f) (e : w'.heap[M]? = w.heap[M]?) : Prms w' M n f := by
  obtain ⟨D, ⟨es, clock, hb, r⟩, rest⟩ := h
  exact ⟨D, ⟨es, clock, e.trans hb, r⟩, rest⟩
theorem Prms.store {w : World} {M n : Nat} {f : Int → Option Pr} (h : Prms w M n f) (hn : n < 1000000) (k : Int) (hk : (Lit.int .i64 k).wf = true) (v : Pr) (hf0 : f k = none) :
    ∃ w', (Instr.mapUpdate 54 (.map (some M)) (.int .i64 k) (prV v)).run Try.prog w = .ok () w' ∧ Prms w' M (n + 1) (updP f k v) ∧ w.grownBy w' (some M) := by
  obtain ⟨D, hD, hs, hf⟩ := h
  have hkey : keyOf Try.prog 3 (.int .i64 k) = some (.int .i64 k) := keyOf_int_mk Try.underlying3 hk
  have hI : WideAt.IsKeyLit (Lit.int .i64 k) := trivial
  obtain ⟨w', hrun, ho, hg⟩ := hD.update keyLaw Try.underlying54 (by unfold maxLen; omega) hkey (readPr_mk v)
  have hT := hD.tidy keyLaw
  have hS : Maps.size (D.put (.int .i64 k) (encP v)) = n + 1 := by
    rw [size_put hT, (hf k hk).1, hs, hf0]; rfl
  refine ⟨w', hrun, ⟨_, ?_, hS, fun x hx => ?_⟩, hg⟩
  · have hz := ho.size_le
    rw [← hS]
    obtain ⟨es, clock, hb, F, hle, hd⟩ := ho
    refine ⟨es, clock, hb, F, ?_, hd⟩
    rw [hd]
    simp [Maps.size, length_sorted]
  · unfold updP
    by_cases e : x = k
    · subst e
      rw [has_put_same hD.isMap hI, if_pos rfl]
      refine ⟨rfl, fun u hu => ?_⟩
      rw [← Option.some.inj hu]
      exact atKey_put_same hD.isMap hI _ _
    · have hne : (Lit.int .i64 x) ≠ (Lit.int .i64 k) := fun e' => by injection e' with _ e'; exact e e'
      rw [has_put_other hne, if_neg e]
      refine ⟨(hf x hx).1, fun u hu => ?_⟩
      rw [atKey_put_other hne]
      exact (hf x hx).2 u hu
theorem Prms.drop {w : World} {M n : Nat} {f : Int → Option Pr} (h : Prms w M n f) (k : Int) (hk : (Lit.int .i64 k).wf = true) (hf1 : (f k).isSome = true) (ty : TypeId) :
    ∃ w', (Builtin.delete_ #[54, 3] ty #[.map (some M), .int .i64 k]).run Try.prog w = .ok (.tuple #[]) w' ∧ Prms w' M (n - 1) (delP f k) ∧ w.grownBy w' (some M) := by
  obtain ⟨D, hD, hs, hf⟩ := h
  have hkey : keyOf Try.prog 3 (.int .i64 k) = some (.int .i64 k) := keyOf_int_mk Try.underlying3 hk
  obtain ⟨w', hrun, ho, hg⟩ := hD.drop keyLaw Try.underlying54 hkey ty
  have hT := hD.tidy keyLaw
  have hS : Maps.size (D.del (.int .i64 k)) = n - 1 := by
    have := size_del (k := .int .i64 k) hT
    rw [(hf k hk).1, hf1, hs] at this
    simp at this
    omega
  refine ⟨w', hrun, ⟨_, ?_, hS, fun x hx => ?_⟩, hg.grown⟩
  · rw [← hS]
    obtain ⟨es, clock, hb, F, hle, hd⟩ := ho
    refine ⟨es, clock, hb, F, ?_, hd⟩
    rw [hd]
    simp [Maps.size, length_sorted]
  · unfold delP
    by_cases e : x = k
    · subst e
      rw [has_del_same, if_pos rfl]
      exact ⟨rfl, fun u hu => by cases hu⟩
    · have hne : (Lit.int .i64 x) ≠ (Lit.int .i64 k) := fun e' => by injection e' with _ e'; exact e e'
      rw [has_del_other hne, if_neg e]
      refine ⟨(hf x hx).1, fun u hu => ?_⟩
      rw [atKey_del_other hne]
      exact (hf x hx).2 u hu
theorem Prms.look {w : World} {M n : Nat} {f : Int → Option Pr} (h : Prms w M n f) (k : Int) (hk : (Lit.int .i64 k).wf = true) :
    (Instr.lookup 54 (.map (some M)) (.int .i64 k) true).run Try.prog w = .ok (.tuple #[prV ((f k).getD pr0), .bool (f k).isSome]) w := by
  obtain ⟨D, hD, hs, hf⟩ := h
  have hkey : keyOf Try.prog 3 (.int .i64 k) = some (.int .i64 k) := keyOf_int_mk Try.underlying3 hk
  obtain ⟨v, ps, hrun, hv⟩ := hD.look_ok keyLaw Try.underlying54 (zeroPrio w) (readPr_mk pr0) hkey
  obtain ⟨c, rfl, hc⟩ := readPr_inv hv
  simp only [Prod.mk.injEq] at hc
  rw [hrun, (hf k hk).1]
  cases e : f k with
  | none =>
    have hh : Maps.has D (.int .i64 k) = false := by rw [(hf k hk).1, e]; rfl
    rw [atKey_of_not_has hh] at hc
    rw [← encP_inj hc.1]; rfl
  | some u =>
    have := (hf k hk).2 u e
    rw [hc.1] at this
    rw [encP_inj this]; rfl
theorem Prms.look1 {w : World} {M n : Nat} {f : Int → Option Pr} (h : Prms w M n f) (k : Int) (hk : (Lit.int .i64 k).wf = true) :
    (Instr.lookup 54 (.map (some M)) (.int .i64 k) false).run Try.prog w = .ok (prV ((f k).getD pr0)) w := by
  obtain ⟨D, ⟨es, clock, hb, F, _, hd⟩, _, hf⟩ := h
  have hkey : keyOf Try.prog 3 (.int .i64 k) = some (.int .i64 k) := keyOf_int_mk Try.underlying3 hk
  have h1 := hf k hk
  rw [hd] at h1
  rcases Maps.fit_look false keyLaw Try.underlying54 (zeroPrio w) hb F hkey with ⟨hr, _, hat⟩ | ⟨e0, y, _, _, hr, hRv, hat, _⟩
  · rw [Maps.has_false_of_atKey hat] at h1
    rw [hr]
    cases e : f k with
    | none => rfl
    | some u => rw [e] at h1; cases h1.1
  · rw [Maps.has_true_of_atKey hat] at h1
    obtain ⟨c, e1, e2⟩ := readPr_inv hRv
    rw [hr]
    cases e : f k with
    | none => rw [e] at h1; cases h1.1
    | some u =>
      have := h1.2 u e
      rw [hat] at this
      rw [e1]
      rw [e2] at this
      rw [encP_inj this]; rfl
theorem Prms.len {w : World} {M n : Nat} {f : Int → Option Pr} (h : Prms w M n f) (ty : TypeId) : (Builtin.len_ #[54] ty #[.map (some M)]).run Try.prog w = .ok (.int .i64 (n : Int)) w := by
  obtain ⟨D, hD, hs, _⟩ := h
  rw [hD.len Try.underlying54 ty, hs]
end Go.Proofs.Ytccokhalcdljiaa
namespace Go.Proofs.Ytccokhalcdljiaa
open Go.ChangeShapes Go.WideShapes Go.ChangeAt Go.RowKit
set_option linter.unusedVariables false
def updV {α : Type} (T : Nat → α) (i : Nat) (v : α) : Nat → α := fun j => if j = i then v else T j
theorem updV_same {α : Type} (T : Nat → α) (i : Nat) (v : α) : updV T i v i = v := if_pos rfl
theorem updV_other {α : Type} (T : Nat → α) {i j : Nat} (v : α) (h : j ≠ i) : updV T i v j = T j := if_neg h
def gLad (x : Rt) : Int × Int := ((x.id : Int), 0)
def gDue (x : Rt) : Int × Int := ((x.id : Int), x.p.d)
def lvl (m : List Rt) (k : Nat) : List Rt := m.filter (fun x => x.p.l == (k : Int))
theorem mem_lvl {m : List Rt} {k : Nat} {x : Rt} : x ∈ lvl m k ↔ x ∈ m ∧ x.p.l = (k : Int) := by unfold lvl; rw [List.mem_filter]; simp
theorem lvl_perm {m m' : List Rt} (h : m.Perm m') (k : Nat) : (lvl m k).Perm (lvl m' k) := h.filter _
theorem lvl_cons_same {x : Rt} {m : List Rt} {k : Nat} (h : x.p.l = (k : Int)) : lvl (x :: m) k = x :: lvl m k := by unfold lvl; rw [List.filter_cons_of_pos (by simp [h])]
theorem lvl_cons_other {x : Rt} {m : List Rt} {k : Nat} (h : x.p.l ≠ (k : Int)) : lvl (x :: m) k = lvl m k := by unfold lvl; rw [List.filter_cons_of_neg (by simp [h])]
/-- What the word and the heaps say of m. -/
structure Says (b : Nat → Bool) (hs : Nat → List (Int × Int)) (m : List Rt) : Prop where
  bt : ∀ k, k < 64 → b k = decide (0 < (hs k).length)
  perm : ∀ k, k < 64 → (hs k).Perm ((lvl m k).map gLad)
  fit : ∀ x ∈ m, 0 ≤ x.p.l ∧ x.p.l < 64
theorem Says.move {b : Nat → Bool} {hs : Nat → List (Int × Int)} {m m' : List Rt} (h : Says b hs m) (p : m.Perm m') : Says b hs m' :=
  ⟨h.bt, fun k hk => (h.perm k hk).trans ((lvl_perm p k).map _), fun x hx => h.fit x (p.mem_iff.mpr hx)⟩
theorem Says.added {b : Nat → Bool} {hs : Nat → List (Int × Int)} {m : List Rt} (h : Says b hs m) {k : Nat} (hk : k < 64) {x : Rt} (hx : x.p.l = (k : Int)) {l' : List (Int × Int)} (p : l'.Perm (hs k ++ [gLad x])) : Says (put b k true) (updV hs k l') (x :: m) := by
  refine ⟨fun j hj => ?_, fun j hj => ?_, fun y hy => ?_⟩
  · by_cases e : j = k
    · subst e
      rw [updV_same]
      have := p.length_eq
      rw [List.length_append] at this
      simp at this
      simp [put]; omega
    · rw [updV_other _ _ e, show put b k true j = b j from if_neg e]; exact h.bt j hj
  · by_cases e : j = k
    · subst e
      rw [updV_same, lvl_cons_same hx]
      exact p.trans ((List.perm_append_comm (l₁ := hs j) (l₂ := [gLad x])).trans ((h.perm j hj).cons (gLad x)))
    · rw [updV_other _ _ e, lvl_cons_other (by rw [hx]; omega)]; exact h.perm j hj
  · rcases List.mem_cons.mp hy with rfl | hy
    · rw [hx]; omega
    · exact h.fit y hy
theorem word_put {b : Nat → Bool} {k : Nat} (v : Bool) : word (put (bit (word b)) k v) = word (put b k v) := word_congr fun i hi => by
  unfold put
  split
  · rfl
  · exact bit_word b i hi
theorem Says.taken {b : Nat → Bool} {hs : Nat → List (Int × Int)} {m m' : List Rt} (h : Says b hs m) {k : Nat} (hk : k < 64) {x : Rt} (hx : x.p.l = (k : Int)) (pm : (x :: m').Perm m) {l' : List (Int × Int)} (p : (gLad x :: l').Perm (hs k)) : Says (put b k (decide (0 < l'.length))) (updV hs k l') m' := by
  refine ⟨fun j hj => ?_, fun j hj => ?_, fun y hy => h.fit y (pm.mem_iff.mp (List.mem_cons_of_mem _ hy))⟩
  · by_cases e : j = k
    · subst e
      rw [updV_same]
      simp [put]
    · rw [updV_other _ _ e, show put b k _ j = b j from if_neg e]; exact h.bt j hj
  · have hp := (h.perm j hj).trans ((lvl_perm pm.symm j).map gLad)
    by_cases e : j = k
    · subst e
      rw [updV_same]
      rw [lvl_cons_same hx, List.map_cons] at hp
      exact (List.perm_cons _).mp (p.trans hp)
    · rw [updV_other _ _ e]
      rw [lvl_cons_other (by rw [hx]; omega)] at hp
      exact hp
theorem Says.got {b : Nat → Bool} {hs : Nat → List (Int × Int)} {m : List Rt} (h : Says b hs m) {k : Nat} (hk : k < 64) {x : Rt} (hm : x ∈ m) (hx : x.p.l = (k : Int)) : b k = true ∧ ∃ i, i < (hs k).length ∧ Hp.it (hs k) i = gLad x := by
  have hin : gLad x ∈ hs k := (h.perm k hk).mem_iff.mpr (List.mem_map.mpr ⟨x, mem_lvl.mpr ⟨hm, hx⟩, rfl⟩)
  obtain ⟨i, hi, e⟩ := List.mem_iff_getElem.mp hin
  exact ⟨by rw [h.bt k hk]; simp; omega, i, hi, by rw [Hp.it_get hi]; exact e⟩
theorem Says.fresh {b : Nat → Bool} {hs : Nat → List (Int × Int)} {m : List Rt} (h : Says b hs m) {k : Nat} (hk : k < 64) {id : Int} (hn : ∀ x ∈ m, (x.id : Int) ≠ id) : ∀ i, i < (hs k).length → (Hp.it (hs k) i).1 ≠ id := by
  intro i hi
  have hin := (h.perm k hk).mem_iff.mp (Hp.it_mem hi)
  obtain ⟨y, hy, e⟩ := List.mem_map.mp hin
  rw [← e]
  exact hn y (mem_lvl.mp hy).1
theorem Says.len {b : Nat → Bool} {hs : Nat → List (Int × Int)} {m : List Rt} (h : Says b hs m) {k : Nat} (hk : k < 64) : (hs k).length ≤ m.length := by
  rw [(h.perm k hk).length_eq, List.length_map]
  exact List.length_filter_le _ _
/-- In order: levels fall, of one level numbers rise. -/
def Falls (m : List Rt) : Prop := m.Pairwise (fun a b => b.p.l < a.p.l ∨ a.p.l = b.p.l ∧ a.id < b.id)
theorem bit_zero (i : Nat) : bit 0 i = false := by simp [bit]
theorem word_none {b : Nat → Bool} (h : ∀ k, k < 64 → b k = false) : word b = 0 := by
  rw [word_congr (g := fun _ => false) h]
  exact word_ext _ 0 (by decide) (by decide) (fun i _ => bit_zero i)
theorem Says.first {b : Nat → Bool} {hs : Nat → List (Int × Int)} {m : List Rt} (h : Says b hs m) (hf : Falls m) (hh : ∀ k, k < 64 → Hp.HeapN (hs k) (hs k).length) :
    (m = [] ∧ topOf (word b) = -1) ∨ ∃ x r K, m = x :: r ∧ K < 64 ∧ topOf (word b) = ((K : Nat) : Int) ∧ 0 < (hs K).length ∧ Hp.it (hs K) 0 = gLad x := by
  cases m with
  | nil =>
    refine .inl ⟨rfl, ?_⟩
    rw [word_none (fun k hk => by
      rw [h.bt k hk]
      have := (h.perm k hk).length_eq
      simp [lvl] at this
      simp [this]), top_zero]
  | cons x r =>
    refine .inr ⟨x, r, ?_⟩
    obtain ⟨f0, f1⟩ := h.fit x (List.mem_cons_self ..)
    obtain ⟨j, hj⟩ : ∃ j : Nat, x.p.l = (j : Int) := ⟨x.p.l.toNat, by omega⟩
    have hj64 : j < 64 := by omega
    have bj := (h.got hj64 (List.mem_cons_self ..) hj).1
    have hne : word b ≠ 0 := fun e => by
      have := bit_word b j hj64
      rw [e, bit_zero, bj] at this; cases this
    obtain ⟨K, e1, hK, e2, e3⟩ := top_bit (word b) (word_lo b) (word_hi b) hne
    rw [bit_word b K hK] at e2
    have hlen : 0 < (hs K).length := by rw [h.bt K hK] at e2; simpa using e2
    have hin := (h.perm K hK).mem_iff.mp (Hp.it_mem hlen)
    obtain ⟨y, hy, ey⟩ := List.mem_map.mp hin
    obtain ⟨hym, hyl⟩ := mem_lvl.mp hy
    have hjK : ¬ K < j := fun hlt => by
      have := e3 j hlt
      rw [bit_word b j hj64, bj] at this; cases this
    have hxy : y = x ∨ (y.p.l < x.p.l ∨ x.p.l = y.p.l ∧ x.id < y.id) := by
      rcases List.mem_cons.mp hym with e | e
      · exact .inl e
      · exact .inr ((List.pairwise_cons.mp hf).1 y e)
    have hjK2 : j = K := by
      rcases hxy with e | e | e
      · subst e; omega
      · omega
      · omega
    subst hjK2
    obtain ⟨_, i, hi, ei⟩ := h.got hj64 (List.mem_cons_self ..) hj
    have hd := Hp.heap_min (hh j hj64) (x := gLad x) (by rw [← ei]; exact Hp.it_mem hi)
    rw [← ey, Hp.due_not] at hd
    have hd : ¬ ((0 : Int) < 0 ∨ ((0 : Int) = 0 ∧ (x.id : Int) < (y.id : Int))) := hd
    refine ⟨j, rfl, hj64, e1, hlen, ?_⟩
    rw [← ey]
    rcases hxy with e | e | e
    · rw [e]
    · omega
    · omega
theorem key_split {m : List Rt} (g : Rt → Int) (c : Int) (h : m.Pairwise (fun a b => g b ≤ g a)) : m.filter (fun x => decide (c ≤ g x)) = m.filter (fun x => decide (c + 1 ≤ g x)) ++ m.filter (fun x => g x == c) := by
  induction m with
  | nil => rfl
  | cons x r ih =>
    obtain ⟨h1, h2⟩ := List.pairwise_cons.mp h
    have ih := ih h2
    have hz : ¬ c + 1 ≤ g x → r.filter (fun x => decide (c + 1 ≤ g x)) = [] := fun e1 => by
      rw [List.filter_eq_nil_iff]
      intro y hy
      have := h1 y hy
      simp; omega
    by_cases e1 : c + 1 ≤ g x
    · have p1 : decide (c ≤ g x) = true := decide_eq_true (by omega)
      have p2 : decide (c + 1 ≤ g x) = true := decide_eq_true e1
      have p3 : (g x == c) = false := by simp; omega
      simp only [List.filter_cons, p1, p2, p3, if_true, Bool.false_eq_true, if_false, List.cons_append, ih]
    · have p2 : decide (c + 1 ≤ g x) = false := decide_eq_false e1
      have hz := hz e1
      rw [hz, List.nil_append] at ih
      by_cases e2 : g x = c
      · have p1 : decide (c ≤ g x) = true := decide_eq_true (by omega)
        have p3 : (g x == c) = true := by simp [e2]
        simp only [List.filter_cons, p1, p2, p3, if_true, Bool.false_eq_true, if_false, List.nil_append, ih, hz]
      · have p1 : decide (c ≤ g x) = false := decide_eq_false (by omega)
        have p3 : (g x == c) = false := by simp [e2]
        simp only [List.filter_cons, p1, p2, p3, Bool.false_eq_true, if_false, List.nil_append, ih, hz]
def idsR (m : List Rt) : List Int := m.map (fun x => (x.id : Int))
theorem Says.all {b : Nat → Bool} {hs : Nat → List (Int × Int)} {m : List Rt} (h : Says b hs m) (hf : Falls m) : (nums b).flatMap (fun k => idsR (lvl m k.toNat)) = idsR m := by
  have hp : m.Pairwise (fun a b => b.p.l ≤ a.p.l) := hf.imp (fun {a b} h => by omega)
  have key : ∀ n, n ≤ 64 → (fall b n).flatMap (fun k => idsR (lvl m k.toNat)) = idsR (m.filter (fun x => decide ((64 : Int) - n ≤ x.p.l))) := by
    intro n
    induction n with
    | zero =>
      intro _
      have : m.filter (fun x => decide ((64 : Int) - ((0 : Nat) : Int) ≤ x.p.l)) = [] := by
        rw [List.filter_eq_nil_iff]
        intro y hy
        have := h.fit y hy
        simp; omega
      rw [this]; rfl
    | succ n ih =>
      intro hn
      have ih := ih (by omega)
      have hs2 := key_split (fun x => x.p.l) ((64 : Int) - ((n + 1 : Nat) : Int)) hp
      have e3 : (64 : Int) - ((n + 1 : Nat) : Int) + 1 = 64 - (n : Int) := by omega
      have e4 : (64 : Int) - ((n + 1 : Nat) : Int) = ((63 - n : Nat) : Int) := by omega
      rw [e3, e4] at hs2
      rw [e4, hs2]
      have e5 : m.filter (fun x => x.p.l == ((63 - n : Nat) : Int)) = lvl m (63 - n) := rfl
      rw [e5]
      show (fall b n ++ if b (63 - n) then [((63 - n : Nat) : Int)] else []).flatMap _ = _
      rw [List.flatMap_append, ih]
      have e6 : idsR (m.filter (fun x => decide ((64 : Int) - n ≤ x.p.l)) ++ lvl m (63 - n)) = idsR (m.filter (fun x => decide ((64 : Int) - n ≤ x.p.l))) ++ idsR (lvl m (63 - n)) := by simp [idsR]
      rw [e6]
      refine congrArg _ ?_
      cases eb : b (63 - n) with
      | true => simp
      | false =>
        rw [h.bt _ (by omega)] at eb
        have e7 : (hs (63 - n)).length = 0 := by simpa using eb
        have e8 := (h.perm (63 - n) (by omega)).length_eq
        rw [e7, List.length_map] at e8
        rw [List.eq_nil_of_length_eq_zero e8.symm]; rfl
  have hw : m.filter (fun x => decide ((64 : Int) - ((64 : Nat) : Int) ≤ x.p.l)) = m := by
    rw [List.filter_eq_self]
    intro y hy
    have := h.fit y hy
    simp; omega
  have h64 := key 64 (Nat.le_refl _)
  rw [hw] at h64
  exact h64
end Go.Proofs.Ytccokhalcdljiaa
namespace Go.Proofs.Ytccokhalcdljiaa
open Go.ChangeShapes Go.WideShapes Go.ChangeAt Go.RowKit
set_option linter.unusedVariables false
def hpV : Option Nat → Value := fun | none => .pointer none | some H => .pointer (some ⟨H, 0, none⟩)
def lads (ps : Nat → Option Nat) (n : Nat) : List Value := (List.range n).map (fun k => hpV (ps k))
theorem lads_length (ps : Nat → Option Nat) (n : Nat) : (lads ps n).length = n := by simp [lads]
theorem lads_at {ps : Nat → Option Nat} {n i : Nat} (h : i < n) : (lads ps n)[i]? = some (hpV (ps i)) := by simp [lads, h]
theorem lads_set {ps : Nat → Option Nat} {n i : Nat} (h : i < n) (v : Option Nat) : (lads ps n).set i (hpV v) = lads (updV ps i v) n := by
  apply List.ext_getElem?
  intro j
  by_cases hj : j < n
  · rw [lads_at hj]
    by_cases e : j = i
    · subst e; rw [updV_same, List.getElem?_set_self (by rw [lads_length]; exact hj)]
    · rw [updV_other _ _ e, List.getElem?_set_ne (Ne.symm e), lads_at hj]
  · rw [List.getElem?_eq_none (by rw [List.length_set, lads_length]; omega), List.getElem?_eq_none (by rw [lads_length]; omega)]
def cellsLad (t : Int) (ps : Nat → Option Nat) : List Value := .int .u64 t :: lads ps 64
theorem cellsLad_length (t : Int) (ps : Nat → Option Nat) : (cellsLad t ps).length = 65 := by simp [cellsLad, lads_length]
/-- The block of a ladder. -/
def RowL (w : World) (L : Nat) (t : Int) (ps : Nat → Option Nat) : Prop := w.heap[L]? = some (.cells (cellsLad t ps).toArray 60 (0, 0))
theorem RowL.word {w : World} {L : Nat} {t : Int} {ps : Nat → Option Nat} (h : RowL w L t ps) : w.cell? ⟨L, 0, none⟩ = some (.int .u64 t) := by rw [cell_of_row _ _ _ _ _ _ h, List.getElem?_toArray]; rfl
theorem RowL.slot {w : World} {L : Nat} {t : Int} {ps : Nat → Option Nat} (h : RowL w L t ps) {i : Nat} (hi : i < 64) : w.cell? ⟨L, 1 + i, none⟩ = some (hpV (ps i)) := by
  rw [cell_of_row _ _ _ _ _ _ h, List.getElem?_toArray, show 1 + i = i + 1 by omega]
  exact lads_at hi
theorem RowL.frozen {w : World} {L : Nat} {t : Int} {ps : Nat → Option Nat} (h : RowL w L t ps) (q : Nat) : w.frozen? ⟨L, q, none⟩ = false := frozen_of_row _ _ _ _ _ h
theorem RowL.keep {w w' : World} {L : Nat} {t : Int} {ps : Nat → Option Nat} (h : RowL w L t ps) (e : w'.heap[L]? = w.heap[L]?) : RowL w' L t ps := by unfold RowL; rw [e]; exact h
theorem RowL.setWord {w : World} {L : Nat} {t : Int} {ps : Nat → Option Nat} (h : RowL w L t ps) (m : Int) : RowL (w.setCell ⟨L, 0, none⟩ (.int .u64 m)) L m ps := by
  unfold RowL
  rw [heap_setCell_same _ _ _ _ _ _ h]
  simp [cellsLad]
theorem RowL.setSlot {w : World} {L : Nat} {t : Int} {ps : Nat → Option Nat} (h : RowL w L t ps) {i : Nat} (hi : i < 64) (v : Option Nat) : RowL (w.setCell ⟨L, 1 + i, none⟩ (hpV v)) L t (updV ps i v) := by
  unfold RowL
  rw [heap_setCell_same _ _ _ _ _ _ h]
  have e : (cellsLad t ps).set (1 + i) (hpV v) = cellsLad t (updV ps i v) := by
    rw [show 1 + i = i + 1 by omega]
    show _ :: (lads ps 64).set i (hpV v) = _
    rw [lads_set hi]; rfl
  rw [← e]
  simp
/-- A ladder in memory: the word t, of each level a heap or none; its blocks are among U. -/
structure Lad (w : World) (U : Nat → Prop) (L : Nat) (t : Int) (ps : Nat → Option Nat) (Fs : Nat → Nat → Prop) (hs : Nat → List (Int × Int)) : Prop where
  row : RowL w L t ps
  uL : U L
  held : ∀ k H, k < 64 → ps k = some H → Hp.Held w (Fs k) H (hs k)
  bare : ∀ k, k < 64 → ps k = none → hs k = [] ∧ ∀ i, ¬ Fs k i
  uF : ∀ k i, k < 64 → Fs k i → U i
  neL : ∀ k, k < 64 → ¬ Fs k L
  dis : ∀ k j i, k < 64 → j < 64 → Fs k i → Fs j i → k = j
  lt : ∀ i, U i → i < w.heap.size
theorem Lad.keep {V U : Nat → Prop} {w w' : World} {L : Nat} {t : Int} {ps : Nat → Option Nat} {Fs : Nat → Nat → Prop} {hs : Nat → List (Int × Int)} (h : Lad w U L t ps Fs hs) (c : Touch V w w') (d : ∀ i, U i → ¬ V i) : Lad w' U L t ps Fs hs :=
  ⟨h.row.keep (c.block L (h.lt L h.uL) (d L h.uL)), h.uL, fun k H hk e => (h.held k H hk e).keep c (fun i hi => d i (h.uF k i hk hi)), h.bare, h.uF, h.neL, h.dis, fun i hi => Nat.lt_of_lt_of_le (h.lt i hi) c.size⟩
theorem Lad.below {U : Nat → Prop} {w w' : World} {L : Nat} {t : Int} {ps : Nat → Option Nat} {Fs : Nat → Nat → Prop} {hs : Nat → List (Int × Int)} (h : Lad w U L t ps Fs hs) (b : Below w.heap.size w w') : Lad w' U L t ps Fs hs :=
  h.keep (Touch.of_below (S := fun _ => False) b) (fun _ _ e => e)
/-- One heap has turned. -/
theorem Lad.turn {U F' : Nat → Prop} {w w' : World} {L : Nat} {t : Int} {ps : Nat → Option Nat} {Fs : Nat → Nat → Prop} {hs : Nat → List (Int × Int)} (h : Lad w U L t ps Fs hs) {k H : Nat} (hk : k < 64) (e : ps k = some H) {l' : List (Int × Int)}
    (h' : Hp.Held w' F' H l') (c : Touch (Fs k) w w') (hF : ∀ i, F' i → Fs k i ∨ w.heap.size ≤ i) :
    Lad w' (fun i => U i ∨ (w.heap.size ≤ i ∧ i < w'.heap.size)) L t ps (updV Fs k F') (updV hs k l') ∧ Touch U w w' := by
  refine ⟨⟨h.row.keep (c.block L (h.lt L h.uL) (h.neL k hk)), .inl h.uL, fun j J hj ej => ?_, fun j hj ej => ?_, fun j i hj hi => ?_, fun j hj hi => ?_, fun a b i ha hb h1 h2 => ?_, fun i hi => ?_⟩, c.mono (fun i hi => h.uF k i hk hi)⟩
  · by_cases ee : j = k
    · subst ee
      rw [e] at ej; injection ej with ej; subst ej
      rw [updV_same, updV_same]; exact h'
    · rw [updV_other _ _ ee, updV_other _ _ ee]
      exact (h.held j J hj ej).keep c (fun i hi e2 => ee (h.dis j k i hj hk hi e2))
  · have ee : j ≠ k := fun ee => by rw [ee, e] at ej; cases ej
    rw [updV_other _ _ ee, updV_other _ _ ee]
    exact h.bare j hj ej
  · by_cases ee : j = k
    · subst ee
      rw [updV_same] at hi
      rcases hF i hi with e2 | e2
      · exact .inl (h.uF j i hj e2)
      · exact .inr ⟨e2, h'.lt i hi⟩
    · rw [updV_other _ _ ee] at hi
      exact .inl (h.uF j i hj hi)
  · by_cases ee : j = k
    · subst ee
      rw [updV_same] at hi
      rcases hF L hi with e2 | e2
      · exact h.neL j hj e2
      · have := h.lt L h.uL; omega
    · rw [updV_other _ _ ee] at hi
      exact h.neL j hj hi
  · by_cases e1 : a = k
    · by_cases e2 : b = k
      · rw [e1, e2]
      · rw [e1, updV_same] at h1
        rw [updV_other _ _ e2] at h2
        rcases hF i h1 with e3 | e3
        · rw [e1]; exact h.dis k b i hk hb e3 h2
        · have := h.lt i (h.uF b i hb h2); omega
    · rw [updV_other _ _ e1] at h1
      by_cases e2 : b = k
      · rw [e2, updV_same] at h2
        rcases hF i h2 with e3 | e3
        · rw [e2]; exact h.dis a k i ha hk h1 e3
        · have := h.lt i (h.uF a i ha h1); omega
      · rw [updV_other _ _ e2] at h2
        exact h.dis a b i ha hb h1 h2
  · rcases hi with hi | hi
    · exact Nat.lt_of_lt_of_le (h.lt i hi) c.size
    · exact hi.2
/-- A new heap is laid at a level that had none. -/
theorem Lad.plant {U F' : Nat → Prop} {w w' : World} {L : Nat} {t : Int} {ps : Nat → Option Nat} {Fs : Nat → Nat → Prop} {hs : Nat → List (Int × Int)} (h : Lad w U L t ps Fs hs) {k H : Nat} (hk : k < 64) (e : ps k = none)
    (h' : Hp.Held w' F' H []) (c : Below w.heap.size w w') (hF : ∀ i, F' i → w.heap.size ≤ i) :
    Lad (w'.setCell ⟨L, 1 + k, none⟩ (hpV (some H))) (fun i => U i ∨ (w.heap.size ≤ i ∧ i < w'.heap.size)) L t (updV ps k (some H)) (updV Fs k F') hs ∧ Touch U w (w'.setCell ⟨L, 1 + k, none⟩ (hpV (some H))) := by
  have hL := h.lt L h.uL
  have c1 : Touch (fun i => i = L) w' (w'.setCell ⟨L, 1 + k, none⟩ (hpV (some H))) := Touch.setCell (S := fun i => i = L) (Touch.refl _ w') (p := ⟨L, 1 + k, none⟩) rfl _
  have hsz : (w'.setCell ⟨L, 1 + k, none⟩ (hpV (some H))).heap.size = w'.heap.size := by simp [World.setCell]
  have hb := h.below c
  have nil := (h.bare k hk e).1
  refine ⟨⟨hb.row.setSlot hk _, .inl h.uL, fun j J hj ej => ?_, fun j hj ej => ?_, fun j i hj hi => ?_, fun j hj hi => ?_, fun a b i ha hb h1 h2 => ?_, fun i hi => ?_⟩, ?_⟩
  · by_cases ee : j = k
    · subst ee
      rw [updV_same] at ej; injection ej with ej; subst ej
      rw [updV_same, nil]
      exact h'.keep c1 (fun i hi e2 => by have e2 : i = L := e2; have := hF i hi; omega)
    · rw [updV_other _ _ ee] at ej
      rw [updV_other _ _ ee]
      exact (hb.held j J hj ej).keep c1 (fun i hi e2 => by have e2 : i = L := e2; rw [e2] at hi; exact h.neL j hj hi)
  · have ee : j ≠ k := fun ee => by rw [ee, updV_same] at ej; cases ej
    rw [updV_other _ _ ee] at ej
    rw [updV_other _ _ ee]
    exact h.bare j hj ej
  · by_cases ee : j = k
    · subst ee
      rw [updV_same] at hi
      exact .inr ⟨hF i hi, h'.lt i hi⟩
    · rw [updV_other _ _ ee] at hi
      exact .inl (h.uF j i hj hi)
  · by_cases ee : j = k
    · subst ee
      rw [updV_same] at hi
      have := hF L hi; omega
    · rw [updV_other _ _ ee] at hi
      exact h.neL j hj hi
  · by_cases e1 : a = k
    · by_cases e2 : b = k
      · rw [e1, e2]
      · rw [e1, updV_same] at h1
        rw [updV_other _ _ e2] at h2
        have := hF i h1
        have := h.lt i (h.uF b i hb h2); omega
    · rw [updV_other _ _ e1] at h1
      by_cases e2 : b = k
      · rw [e2, updV_same] at h2
        have := hF i h2
        have := h.lt i (h.uF a i ha h1); omega
      · rw [updV_other _ _ e2] at h2
        exact h.dis a b i ha hb h1 h2
  · rw [hsz]
    rcases hi with hi | hi
    · exact Nat.lt_of_lt_of_le (h.lt i hi) c.size
    · exact hi.2
  · exact (Touch.of_below (S := U) c).setCell (p := ⟨L, 1 + k, none⟩) h.uL _
/-- The word is written. -/
theorem Lad.wrote {U : Nat → Prop} {w : World} {L : Nat} {t : Int} {ps : Nat → Option Nat} {Fs : Nat → Nat → Prop} {hs : Nat → List (Int × Int)} (h : Lad w U L t ps Fs hs) (m : Int) :
    Lad (w.setCell ⟨L, 0, none⟩ (.int .u64 m)) U L m ps Fs hs ∧ Touch U w (w.setCell ⟨L, 0, none⟩ (.int .u64 m)) := by
  have c1 : Touch (fun i => i = L) w (w.setCell ⟨L, 0, none⟩ (.int .u64 m)) := Touch.setCell (S := fun i => i = L) (Touch.refl _ w) (p := ⟨L, 0, none⟩) rfl _
  have hsz : (w.setCell ⟨L, 0, none⟩ (.int .u64 m)).heap.size = w.heap.size := by simp [World.setCell]
  refine ⟨⟨h.row.setWord m, h.uL, fun j J hj ej => (h.held j J hj ej).keep c1 (fun i hi e2 => by have e2 : i = L := e2; rw [e2] at hi; exact h.neL j hj hi), h.bare, h.uF, h.neL, h.dis, fun i hi => by rw [hsz]; exact h.lt i hi⟩, c1.mono (fun i hi => by have hi : i = L := hi; rw [hi]; exact h.uL)⟩
/-- A ladder that holds m. -/
def LadIs (w : World) (U : Nat → Prop) (L : Nat) (m : List Rt) : Prop := ∃ b ps Fs hs, Lad w U L (word b) ps Fs hs ∧ Says b hs m
theorem LadIs.move {w : World} {U : Nat → Prop} {L : Nat} {m m' : List Rt} (h : LadIs w U L m) (p : m.Perm m') : LadIs w U L m' := by
  obtain ⟨b, ps, Fs, hs, h1, h2⟩ := h
  exact ⟨b, ps, Fs, hs, h1, h2.move p⟩
theorem LadIs.keep {V U : Nat → Prop} {w w' : World} {L : Nat} {m : List Rt} (h : LadIs w U L m) (c : Touch V w w') (d : ∀ i, U i → ¬ V i) : LadIs w' U L m := by
  obtain ⟨b, ps, Fs, hs, h1, h2⟩ := h
  exact ⟨b, ps, Fs, hs, h1.keep c d, h2⟩
theorem LadIs.lt {w : World} {U : Nat → Prop} {L : Nat} {m : List Rt} (h : LadIs w U L m) : ∀ i, U i → i < w.heap.size := by
  obtain ⟨b, ps, Fs, hs, h1, h2⟩ := h
  exact h1.lt
theorem Lad.heaps {w : World} {U : Nat → Prop} {L : Nat} {t : Int} {ps : Nat → Option Nat} {Fs : Nat → Nat → Prop} {hs : Nat → List (Int × Int)} (h : Lad w U L t ps Fs hs) : ∀ k, k < 64 → Hp.HeapN (hs k) (hs k).length := by
  intro k hk
  cases e : ps k with
  | none => rw [(h.bare k hk e).1]; intro c c0 cn; cases cn
  | some H => exact (h.held k H hk e).2
/-- Dues that hold m. -/
structure DueAt (w : World) (U F : Nat → Prop) (D H : Nat) (hs : List (Int × Int)) : Prop where
  row : w.heap[D]? = some (.cells #[.pointer (some ⟨H, 0, none⟩)] 83 (0, 0))
  held : Hp.Held w F H hs
  uD : U D
  uF : ∀ i, F i → U i
  neD : ¬ F D
  lt : ∀ i, U i → i < w.heap.size
def DueIs (w : World) (U : Nat → Prop) (D : Nat) (m : List Rt) : Prop := ∃ F H hs, DueAt w U F D H hs ∧ hs.Perm (m.map gDue)
theorem DueAt.cell {w : World} {U F : Nat → Prop} {D H : Nat} {hs : List (Int × Int)} (h : DueAt w U F D H hs) : w.cell? ⟨D, 0, none⟩ = some (.pointer (some ⟨H, 0, none⟩)) := by rw [cell_of_row _ _ _ _ _ _ h.row]; rfl
theorem DueAt.keep {V U F : Nat → Prop} {w w' : World} {D H : Nat} {hs : List (Int × Int)} (h : DueAt w U F D H hs) (c : Touch V w w') (d : ∀ i, U i → ¬ V i) : DueAt w' U F D H hs :=
  ⟨(c.block D (h.lt D h.uD) (d D h.uD)).trans h.row, h.held.keep c (fun i hi => d i (h.uF i hi)), h.uD, h.uF, h.neD, fun i hi => Nat.lt_of_lt_of_le (h.lt i hi) c.size⟩
theorem DueAt.below {U F : Nat → Prop} {w w' : World} {D H : Nat} {hs : List (Int × Int)} (h : DueAt w U F D H hs) (b : Below w.heap.size w w') : DueAt w' U F D H hs := h.keep (Touch.of_below (S := fun _ => False) b) (fun _ _ e => e)
theorem DueAt.turn {U F F' : Nat → Prop} {w w' : World} {D H : Nat} {hs l' : List (Int × Int)} (h : DueAt w U F D H hs) (h' : Hp.Held w' F' H l') (c : Touch F w w') (hF : ∀ i, F' i → F i ∨ w.heap.size ≤ i) :
    DueAt w' (fun i => U i ∨ (w.heap.size ≤ i ∧ i < w'.heap.size)) F' D H l' ∧ Touch U w w' := by
  refine ⟨⟨(c.block D (h.lt D h.uD) h.neD).trans h.row, h', .inl h.uD, fun i hi => ?_, fun hi => ?_, fun i hi => ?_⟩, c.mono h.uF⟩
  · rcases hF i hi with e | e
    · exact .inl (h.uF i e)
    · exact .inr ⟨e, h'.lt i hi⟩
  · rcases hF D hi with e | e
    · exact h.neD e
    · have := h.lt D h.uD; omega
  · rcases hi with hi | hi
    · exact Nat.lt_of_lt_of_le (h.lt i hi) c.size
    · exact hi.2
theorem DueIs.move {w : World} {U : Nat → Prop} {D : Nat} {m m' : List Rt} (h : DueIs w U D m) (p : m.Perm m') : DueIs w U D m' := by
  obtain ⟨F, H, hs, h1, h2⟩ := h
  exact ⟨F, H, hs, h1, h2.trans (p.map _)⟩
theorem DueIs.keep {V U : Nat → Prop} {w w' : World} {D : Nat} {m : List Rt} (h : DueIs w U D m) (c : Touch V w w') (d : ∀ i, U i → ¬ V i) : DueIs w' U D m := by
  obtain ⟨F, H, hs, h1, h2⟩ := h
  exact ⟨F, H, hs, h1.keep c d, h2⟩
theorem DueIs.lt {w : World} {U : Nat → Prop} {D : Nat} {m : List Rt} (h : DueIs w U D m) : ∀ i, U i → i < w.heap.size := by
  obtain ⟨F, H, hs, h1, h2⟩ := h
  exact h1.lt
end Go.Proofs.Ytccokhalcdljiaa
namespace Go.Proofs.Ytccokhalcdljiaa
open Go.ChangeShapes Go.WideShapes Go.ChangeAt Go.RowKit
set_option linter.unusedVariables false
/-- A priority's block. -/
def PrBlk (w : World) (X : Nat) (c l d : Int) : Prop := w.heap[X]? = some (.cells #[.int .i64 c, .int .i64 l, .int .i64 d] 31 (0, 0))
theorem PrBlk.cells {w : World} {X : Nat} {c l d : Int} (h : PrBlk w X c l d) : w.cell? ⟨X, 0, none⟩ = some (.int .i64 c) ∧ w.cell? ⟨X, 1, none⟩ = some (.int .i64 l) ∧ w.cell? ⟨X, 2, none⟩ = some (.int .i64 d) := by
  refine ⟨?_, ?_, ?_⟩ <;> (rw [cell_of_row _ _ _ _ _ _ h]; rfl)
theorem PrBlk.keep {V : Nat → Prop} {w w' : World} {X : Nat} {c l d : Int} (h : PrBlk w X c l d) (t : Touch V w w') (hd : ¬ V X) : PrBlk w' X c l d := (t.block X (lt_of_heap h) hd).trans h
theorem Lad.drew {U : Nat → Prop} {w : World} {L : Nat} {t : Int} {ps : Nat → Option Nat} {Fs : Nat → Nat → Prop} {hs : Nat → List (Int × Int)} (h : Lad w U L t ps Fs hs) : Lad w.drew U L t ps Fs hs := h.below (below_drewN (Below.refl _ _) 1)
theorem lpush_any {U : Nat → Prop} {w : World} {L : Nat} {t : Int} {ps : Nat → Option Nat} {Fs : Nat → Nat → Prop} {hs : Nat → List (Int × Int)} (h : Lad w U L t ps Fs hs) {k H : Nat} (hk : k < 64) (e : ps k = some H) (id : Int) (h0 : 0 ≤ id) (hid : (Lit.int .i64 id).wf = true)
    (hno : ∀ i, i < (hs k).length → (Hp.it (hs k) i).1 ≠ id) (hn : (hs k).length < 800000) :
    Calls Try.prog 61 #[.pointer (some ⟨H, 0, none⟩), .int .i64 id, .int .i64 0] w fun en w' => en = .returned (.int .i64 0) ∧
      ∃ U' Fs' l', Lad w' U' L t ps Fs' (updV hs k l') ∧ l'.Perm (hs k ++ [(id, 0)]) ∧ Touch U w w' ∧ ∀ i, U' i → U i ∨ w.heap.size ≤ i := by
  refine (Hp.hpush_ok (h.held k H hk e) id 0 h0 hid hno hn).mono ?_
  rintro en w' ⟨rfl, F', l', q1, p1, t1, f1⟩
  obtain ⟨a, b⟩ := h.turn hk e q1 t1 f1
  exact ⟨rfl, _, _, _, a, p1, b, fun i hi => hi.elim .inl (fun e => .inr e.1)⟩
theorem Lad.planted {U F' : Nat → Prop} {w w' : World} {L : Nat} {t : Int} {ps : Nat → Option Nat} {Fs : Nat → Nat → Prop} {hs : Nat → List (Int × Int)} (h : Lad w U L t ps Fs hs) {k H : Nat} (hk : k < 64) (e : ps k = none)
    (h' : Hp.Held w' F' H []) (c : Below w.heap.size w w') (hF : ∀ i, F' i → w.heap.size ≤ i) :
    Lad (w'.setCell ⟨L, 1 + k, none⟩ (.pointer (some ⟨H, 0, none⟩))) (fun i => U i ∨ (w.heap.size ≤ i ∧ i < w'.heap.size)) L t (updV ps k (some H)) (updV Fs k F') hs ∧ Touch U w (w'.setCell ⟨L, 1 + k, none⟩ (.pointer (some ⟨H, 0, none⟩))) := h.plant hk e h' c hF
/-- A ladder on its way, beside the priority's block X. -/
structure LadOn (w w1 : World) (U U1 : Nat → Prop) (L X k : Nat) (c d t : Int) (ps : Nat → Option Nat) (Fs : Nat → Nat → Prop) (hs : Nat → List (Int × Int)) : Prop where
  lad : Lad w1 U1 L t ps Fs hs
  tch : Touch U w w1
  new : ∀ i, U1 i → U i ∨ w.heap.size ≤ i
  blk : PrBlk w1 X c (k : Int) d
  out : ¬ U1 X
theorem LadOn.cells {w w1 : World} {U U1 : Nat → Prop} {L X k : Nat} {c d t : Int} {ps : Nat → Option Nat} {Fs : Nat → Nat → Prop} {hs : Nat → List (Int × Int)} (h : LadOn w w1 U U1 L X k c d t ps Fs hs) {H : Nat} (hk : k < 64) (e : ps k = some H) :
    w1.cell? ⟨X, 1, none⟩ = some (.int .i64 (k : Int)) ∧ w1.cell? ⟨L, 1 + k, none⟩ = some (.pointer (some ⟨H, 0, none⟩)) :=
  ⟨h.blk.cells.2.1, by have s1 := h.lad.row.slot hk; rw [e] at s1; exact s1⟩
theorem LadOn.move {w w1 w2 : World} {U U1 U2 : Nat → Prop} {L X k : Nat} {c d t t2 : Int} {ps ps2 : Nat → Option Nat} {Fs Fs2 : Nat → Nat → Prop} {hs hs2 : Nat → List (Int × Int)} (h : LadOn w w1 U U1 L X k c d t ps Fs hs) (q : Lad w2 U2 L t2 ps2 Fs2 hs2) (c2 : Touch U1 w1 w2) (g : ∀ i, U2 i → U1 i ∨ w1.heap.size ≤ i) :
    LadOn w w2 U U2 L X k c d t2 ps2 Fs2 hs2 := by
  have hs1 := h.tch.size
  refine ⟨q, h.tch.trans c2 h.new, fun i hi => (g i hi).elim (h.new i) (fun e => .inr (by omega)), h.blk.keep c2 h.out, fun hu => (g X hu).elim h.out (fun e => ?_)⟩
  have := lt_of_heap h.blk; omega
theorem LadOn.drew {w w1 : World} {U U1 : Nat → Prop} {L X k : Nat} {c d t : Int} {ps : Nat → Option Nat} {Fs : Nat → Nat → Prop} {hs : Nat → List (Int × Int)} (h : LadOn w w1 U U1 L X k c d t ps Fs hs) : LadOn w w1.drew U U1 L X k c d t ps Fs hs :=
  ⟨h.lad.drew, h.tch.drewN 1, h.new, h.blk, h.out⟩
theorem LadOn.first {w : World} {U : Nat → Prop} {L k : Nat} {c d t : Int} {ps : Nat → Option Nat} {Fs : Nat → Nat → Prop} {hs : Nat → List (Int × Int)} (h : Lad w U L t ps Fs hs) : LadOn w (w.alloc (.cells #[.int .i64 c, .int .i64 (k : Int), .int .i64 d] 31)) U U L w.heap.size k c d t ps Fs hs := by
  have b := (Below.refl w.heap.size w).alloc (Nat.le_refl _) (.cells #[.int .i64 c, .int .i64 (k : Int), .int .i64 d] 31)
  exact ⟨h.below b, Touch.of_below b, fun i => .inl, heap_alloc_new _ _, fun hu => by have := h.lt _ hu; omega⟩
theorem ladd_end {w w2 : World} {U U2 : Nat → Prop} {L X k : Nat} {c d : Int} {b : Nat → Bool} {ps : Nat → Option Nat} {Fs : Nat → Nat → Prop} {hs : Nat → List (Int × Int)} {l2 : List (Int × Int)} {m : List Rt} {id : Int}
    (h : LadOn w w2 U U2 L X k c d (word b) ps Fs (updV hs k l2)) (p : l2.Perm (hs k ++ [(id, 0)])) (hm : Says b hs m) (hk : k < 64) (h0 : 0 ≤ id) :
    SideR (fun w' U' => LadIs w' U' L (⟨id.toNat, ⟨c, (k : Int), d⟩⟩ :: m)) U w (.tuple #[]) (.returned (.tuple #[])) (w2.drew.setCell ⟨L, 0, none⟩ (.int .u64 (word (put (bit (word b)) k true)))) := by
  have e1 : ((id.toNat : Nat) : Int) = id := by omega
  rw [word_put]
  obtain ⟨a, t⟩ := h.drew.lad.wrote (word (put b k true))
  refine ⟨rfl, U2, ⟨put b k true, ps, Fs, updV hs k l2, ?_, hm.added hk rfl ?_⟩, h.drew.tch.trans t h.new, h.new⟩
  · exact a
  · show l2.Perm (hs k ++ [(((id.toNat : Nat) : Int), 0)])
    rw [e1]; exact p
set_option maxHeartbeats 4000000 in
theorem ladd_old {U : Nat → Prop} {w : World} {L : Nat} {b : Nat → Bool} {ps : Nat → Option Nat} {Fs : Nat → Nat → Prop} {hs : Nat → List (Int × Int)} {m : List Rt} (h : Lad w U L (word b) ps Fs hs) (hm : Says b hs m) {k H : Nat} (hk : k < 64) (e : ps k = some H)
    (id c d : Int) (h0 : 0 ≤ id) (hid : (Lit.int .i64 id).wf = true) (hno : ∀ x ∈ m, (x.id : Int) ≠ id) (hn : m.length < 1000) :
    Calls Try.prog 57 #[.pointer (some ⟨L, 0, none⟩), .int .i64 id, .agg #[.int .i64 c, .int .i64 (k : Int), .int .i64 d]] w (SideR (fun w' U' => LadIs w' U' L (⟨id.toNat, ⟨c, (k : Int), d⟩⟩ :: m)) U w (.tuple #[])) := by
  have hl := hm.len hk
  have ON0 := hide (LadOn.first (k := k) (c := c) (d := d) h)
  obtain ⟨w1, hw1⟩ : ∃ w1, w1 = w.alloc (.cells #[.int .i64 c, .int .i64 (k : Int), .int .i64 d] 31) := ⟨_, rfl⟩
  obtain ⟨X, hX⟩ : ∃ X, X = w.heap.size := ⟨_, rfl⟩
  obtain ⟨U1, hU1⟩ : ∃ U1, U1 = U := ⟨_, rfl⟩
  have ON := hide (show LadOn w w1 U U1 L X k c d (word b) ps Fs hs from by rw [hw1, hX, hU1]; exact ON0.out)
  clear ON0 hU1
  have PU := hide (fun (W : World) (U9 : Nat → Prop) (ps9 : Nat → Option Nat) (Fs9 : Nat → Nat → Prop) (H9 : Nat) (LW : Lad W U9 L (word b) ps9 Fs9 hs) (e9 : ps9 k = some H9) => lpush_any LW hk e9 id h0 hid (hm.fresh hk hno) (by omega))
  have HS := hide hm
  have HE := hide e
  have k0 : (0 : Int) ≤ (k : Int) := by omega
  have k1 : (k : Int) < 64 := by omega
  have HW := hide hw1
  have HX := hide hX
  have wl := word_lo b
  have wh := word_hi b
  have ST := hide (fun (W : World) => set_in (word b) k W wl wh hk)
  clear hw1 hX h hm e hid hno hn hl wl wh
  obtain ⟨x1, s1⟩ := ON.out.cells hk HE.out
  go_enter Try.func57, Try.ntmps57
  go_upto_region 1 with fail
  rw [← HW.out, ← HX.out]
  go_region
  go_upto_region 3 with fail
  have ON1 := hide ON.out.drew
  go_region_held3 (fun w' => w'.cell? ⟨X, 1, none⟩ = some (.int .i64 (k : Int)) ∧ w'.cell? ⟨L, 1 + k, none⟩ = some (.pointer (some ⟨H, 0, none⟩))) (first | exact ⟨x1, s1⟩ | exact y1) (first | (go_at_call 61; refine (PU.out _ _ _ _ _ ON1.out.lad.drew HE.out).mono ?_; rintro en w4 ⟨rfl, U4, Fs4, l4, q4, p4, t4, g4⟩; have ON4 := hide (ON1.out.drew.move q4 t4 g4); have y1 := ON4.out.cells hk HE.out; have P4 := hide p4; clear q4 p4 t4 g4))
  have z1 := y1.1
  have z2 := ON4.out.lad.row.word
  have z3 := ON4.out.lad.row.frozen 0
  have END := hide (ladd_end ON4.out P4.out HS.out hk h0)
  clear x1 s1 y1 P4 HS
  go_upto_region 4 with fail
  go_region_law (first | (go_simp; go_at_call 62; refine (ST.out _).mono ?_; rintro en w5 ⟨rfl, rfl⟩))
  all_goals
    go_end0
    exact END.out
set_option maxHeartbeats 4000000 in
theorem ladd_new {U : Nat → Prop} {w : World} {L : Nat} {b : Nat → Bool} {ps : Nat → Option Nat} {Fs : Nat → Nat → Prop} {hs : Nat → List (Int × Int)} {m : List Rt} (h : Lad w U L (word b) ps Fs hs) (hm : Says b hs m) {k : Nat} (hk : k < 64) (e : ps k = none)
    (id c d : Int) (h0 : 0 ≤ id) (hid : (Lit.int .i64 id).wf = true) (hno : ∀ x ∈ m, (x.id : Int) ≠ id) (hn : m.length < 1000) :
    Calls Try.prog 57 #[.pointer (some ⟨L, 0, none⟩), .int .i64 id, .agg #[.int .i64 c, .int .i64 (k : Int), .int .i64 d]] w (SideR (fun w' U' => LadIs w' U' L (⟨id.toNat, ⟨c, (k : Int), d⟩⟩ :: m)) U w (.tuple #[])) := by
  have hl := hm.len hk
  have ON0 := hide (LadOn.first (k := k) (c := c) (d := d) h)
  obtain ⟨w1, hw1⟩ : ∃ w1, w1 = w.alloc (.cells #[.int .i64 c, .int .i64 (k : Int), .int .i64 d] 31) := ⟨_, rfl⟩
  obtain ⟨X, hX⟩ : ∃ X, X = w.heap.size := ⟨_, rfl⟩
  obtain ⟨U1, hU1⟩ : ∃ U1, U1 = U := ⟨_, rfl⟩
  have ON := hide (show LadOn w w1 U U1 L X k c d (word b) ps Fs hs from by rw [hw1, hX, hU1]; exact ON0.out)
  clear ON0 hU1
  have PU := hide (fun (W : World) (U9 : Nat → Prop) (ps9 : Nat → Option Nat) (Fs9 : Nat → Nat → Prop) (H9 : Nat) (LW : Lad W U9 L (word b) ps9 Fs9 hs) (e9 : ps9 k = some H9) => lpush_any LW hk e9 id h0 hid (hm.fresh hk hno) (by omega))
  have HS := hide hm
  have HE := hide e
  have k0 : (0 : Int) ≤ (k : Int) := by omega
  have k1 : (k : Int) < 64 := by omega
  have HW := hide hw1
  have HX := hide hX
  have wl := word_lo b
  have wh := word_hi b
  have ST := hide (fun (W : World) => set_in (word b) k W wl wh hk)
  clear hw1 hX h hm e hid hno hn hl wl wh
  obtain ⟨x1, s1⟩ : w1.cell? ⟨X, 1, none⟩ = some (.int .i64 (k : Int)) ∧ w1.cell? ⟨L, 1 + k, none⟩ = some (.pointer none) :=
    ⟨ON.out.blk.cells.2.1, by have s1 := ON.out.lad.row.slot hk; rw [HE.out] at s1; exact s1⟩
  go_enter Try.func57, Try.ntmps57
  go_upto_region 1 with fail
  rw [← HW.out, ← HX.out]
  go_region
  go_upto_region 2 with fail
  have ON1 := hide ON.out.drew.drew
  go_region_held3 (fun w' => w'.cell? ⟨X, 1, none⟩ = some (.int .i64 (k : Int))) (first | exact x1 | exact y1 | exact y2) (first | (go_at_call 35; refine (Hp.hnew_any _).mono ?_; rintro en w2 ⟨H, F, rfl, q2, b2, f2⟩; have NB := hide (ON1.out.blk.keep (Touch.of_below (S := fun _ => False) b2) (fun e => e)); obtain ⟨p2, t2⟩ := ON1.out.lad.planted hk HE.out q2 b2 f2; have fz := (ON1.out.lad.below b2).row.frozen (1 + k); have cz : w2.cell? ⟨L, 1 + k, none⟩ = some (.pointer none) := (by have s1 := (ON1.out.lad.below b2).row.slot hk; rw [HE.out] at s1; exact s1); have ON2 := hide (ON1.out.move p2 t2 (fun i hi => hi.elim .inl (fun e => .inr e.1))); have y1 := NB.out.cells.2.1; have y2 := ON2.out.blk.cells.2.1; clear q2 b2 f2 p2 t2))
  clear x1 s1 y1 y2 fz cz ON ON1 HE
  have HE := hide (updV_same ps k (some H))
  generalize updV ps k (some H) = ps2 at *
  generalize updV Fs k F = Fs2 at *
  generalize w2.setCell ⟨L, 1 + k, none⟩ (.pointer (some ⟨H, 0, none⟩)) = w3 at *
  -- HERE
  obtain ⟨x1, s1⟩ := ON2.out.cells hk HE.out
  have ON1 := hide ON2.out
  go_upto_region 3 with fail
  go_region_held3 (fun w' => w'.cell? ⟨X, 1, none⟩ = some (.int .i64 (k : Int)) ∧ w'.cell? ⟨L, 1 + k, none⟩ = some (.pointer (some ⟨H, 0, none⟩))) (first | exact ⟨x1, s1⟩ | exact y1) (first | (go_at_call 61; refine (PU.out _ _ _ _ _ ON1.out.lad.drew HE.out).mono ?_; rintro en w4 ⟨rfl, U4, Fs4, l4, q4, p4, t4, g4⟩; have ON4 := hide (ON1.out.drew.move q4 t4 g4); have y1 := ON4.out.cells hk HE.out; have P4 := hide p4; clear q4 p4 t4 g4))
  have z1 := y1.1
  have z2 := ON4.out.lad.row.word
  have z3 := ON4.out.lad.row.frozen 0
  have END := hide (ladd_end ON4.out P4.out HS.out hk h0)
  clear x1 s1 y1 P4 HS
  go_upto_region 4 with fail
  go_region_law (first | (go_simp; go_at_call 62; refine (ST.out _).mono ?_; rintro en w5 ⟨rfl, rfl⟩))
  all_goals
    go_end0
    exact END.out
theorem ladd_any {U : Nat → Prop} {w : World} {L : Nat} {m : List Rt} (h : LadIs w U L m) (id c l d : Int) (l0 : 0 ≤ l) (l1 : l < 64) (h0 : 0 ≤ id) (hid : (Lit.int .i64 id).wf = true) (hno : ∀ x ∈ m, (x.id : Int) ≠ id) (hn : m.length < 1000) :
    Calls Try.prog 57 #[.pointer (some ⟨L, 0, none⟩), .int .i64 id, .agg #[.int .i64 c, .int .i64 l, .int .i64 d]] w (SideR (fun w' U' => LadIs w' U' L (⟨id.toNat, ⟨c, l, d⟩⟩ :: m)) U w (.tuple #[])) := by
  obtain ⟨b, ps, Fs, hs, h1, h2⟩ := h
  obtain ⟨k, rfl⟩ : ∃ k : Nat, l = (k : Int) := ⟨l.toNat, by omega⟩
  cases e : ps k with
  | none => exact ladd_new h1 h2 (by omega) e id c d h0 hid hno hn
  | some H => exact ladd_old h1 h2 (by omega) e id c d h0 hid hno hn
end Go.Proofs.Ytccokhalcdljiaa
namespace Go.Proofs.Ytccokhalcdljiaa
open Go.ChangeShapes Go.WideShapes Go.ChangeAt Go.RowKit
set_option linter.unusedVariables false
theorem wquiet_eq {P : Program} {f : FuncId} {args : Array Value} {w : World} {n : Nat} {v : Value} (h : Calls P f args (w.drewN n) fun e w' => e = .returned v ∧ w.drewN n = w') : Calls P f args (w.drewN n) fun e w' => e = .returned v ∧ ∃ m, w' = w.drewN m :=
  h.mono fun e w' ⟨a, b⟩ => ⟨a, n, b.symm⟩
theorem Lad.drewN {U : Nat → Prop} {w : World} {L : Nat} {t : Int} {ps : Nat → Option Nat} {Fs : Nat → Nat → Prop} {hs : Nat → List (Int × Int)} (h : Lad w U L t ps Fs hs) (n : Nat) : Lad (w.drewN n) U L t ps Fs hs := h.below (below_drewN (Below.refl _ _) n)
theorem Lad.len {U : Nat → Prop} {w : World} {L : Nat} {t : Int} {ps : Nat → Option Nat} {Fs : Nat → Nat → Prop} {hs : Nat → List (Int × Int)} {k H : Nat} {l : List (Int × Int)} (h : Lad w U L t ps Fs (updV hs k l)) (hk : k < 64) (e : ps k = some H) (z : Int) (hz : (l.length : Int) = z) :
    Calls Try.prog 66 #[.pointer (some ⟨H, 0, none⟩)] w fun en w' => en = .returned (.int .i64 z) ∧ w = w' := by
  have := h.held k H hk e
  rw [updV_same] at this
  rw [← hz]
  exact Hp.len_any this
theorem LadOn.drewN {w w1 : World} {U U1 : Nat → Prop} {L X k : Nat} {c d t : Int} {ps : Nat → Option Nat} {Fs : Nat → Nat → Prop} {hs : Nat → List (Int × Int)} (h : LadOn w w1 U U1 L X k c d t ps Fs hs) (n : Nat) : LadOn w (w1.drewN n) U U1 L X k c d t ps Fs hs :=
  ⟨h.lad.drewN n, h.tch.drewN n, h.new, h.blk, h.out⟩
theorem ltake_any {U : Nat → Prop} {w : World} {L : Nat} {t : Int} {ps : Nat → Option Nat} {Fs : Nat → Nat → Prop} {hs : Nat → List (Int × Int)} (h : Lad w U L t ps Fs hs) {k H : Nat} (hk : k < 64) (e : ps k = some H) (x : Rt) (hid : (Lit.int .i64 (x.id : Int)).wf = true)
    (i : Nat) (hi : i < (hs k).length) (hx : Hp.it (hs k) i = gLad x) (hn : (hs k).length < 800000) :
    Calls Try.prog 65 #[.pointer (some ⟨H, 0, none⟩), .int .i64 (x.id : Int)] w fun en w' => en = .returned (.bool true) ∧
      ∃ U' Fs' l', Lad w' U' L t ps Fs' (updV hs k l') ∧ (gLad x :: l').Perm (hs k) ∧ Touch U w w' ∧ ∀ i, U' i → U i ∨ w.heap.size ≤ i := by
  refine (Hp.hdrop_yes (h.held k H hk e) (x.id : Int) hid i hi (by rw [hx]; rfl) hn).mono ?_
  rintro en w' ⟨rfl, l', q1, p1, t1⟩
  rw [hx] at p1
  obtain ⟨a, b⟩ := h.turn hk e q1 t1 (fun i => .inl)
  exact ⟨rfl, _, _, _, a, p1, b, fun i hi => hi.elim .inl (fun e => .inr e.1)⟩
theorem ldrop_some {w w2 : World} {U U2 : Nat → Prop} {L X k : Nat} {c d : Int} {b : Nat → Bool} {ps : Nat → Option Nat} {Fs : Nat → Nat → Prop} {hs : Nat → List (Int × Int)} {l2 : List (Int × Int)} {m m' : List Rt} {x : Rt}
    (h : LadOn w w2 U U2 L X k c d (word b) ps Fs (updV hs k l2)) (p : (gLad x :: l2).Perm (hs k)) (hm : Says b hs m) (hk : k < 64) (hx : x.p.l = (k : Int)) (pm : (x :: m').Perm m) (hl : 0 < l2.length) :
    SideR (fun w' U' => LadIs w' U' L m') U w (.tuple #[]) (.returned (.tuple #[])) w2 := by
  have h1 := hm.taken hk hx pm p
  rw [decide_eq_true hl] at h1
  have hb : b k = true := (hm.got hk (pm.mem_iff.mp (List.mem_cons_self ..)) hx).1
  have e : word (put b k true) = word b := word_congr fun i hi => by
    unfold put
    split
    · rename_i e; rw [e, hb]
    · rfl
  refine ⟨rfl, U2, ⟨put b k true, ps, Fs, updV hs k l2, ?_, h1⟩, h.tch, h.new⟩
  rw [e]; exact h.lad
theorem ldrop_none {w w2 : World} {U U2 : Nat → Prop} {L X k : Nat} {c d : Int} {b : Nat → Bool} {ps : Nat → Option Nat} {Fs : Nat → Nat → Prop} {hs : Nat → List (Int × Int)} {l2 : List (Int × Int)} {m m' : List Rt} {x : Rt}
    (h : LadOn w w2 U U2 L X k c d (word b) ps Fs (updV hs k l2)) (p : (gLad x :: l2).Perm (hs k)) (hm : Says b hs m) (hk : k < 64) (hx : x.p.l = (k : Int)) (pm : (x :: m').Perm m) (hl : l2.length = 0) :
    SideR (fun w' U' => LadIs w' U' L m') U w (.tuple #[]) (.returned (.tuple #[])) (w2.setCell ⟨L, 0, none⟩ (.int .u64 (word (put (bit (word b)) k false)))) := by
  have h1 := hm.taken hk hx pm p
  rw [decide_eq_false (by omega)] at h1
  rw [word_put]
  obtain ⟨a, t⟩ := h.lad.wrote (word (put b k false))
  exact ⟨rfl, U2, ⟨put b k false, ps, Fs, updV hs k l2, a, h1⟩, h.tch.trans t h.new, h.new⟩
set_option maxHeartbeats 4000000 in
theorem ldrop_k {U : Nat → Prop} {w : World} {L : Nat} {b : Nat → Bool} {ps : Nat → Option Nat} {Fs : Nat → Nat → Prop} {hs : Nat → List (Int × Int)} {m m' : List Rt} (h : Lad w U L (word b) ps Fs hs) (hm : Says b hs m) {k H : Nat} (hk : k < 64) (e : ps k = some H)
    (x : Rt) (c d : Int) (hx : x.p.l = (k : Int)) (hid : (Lit.int .i64 (x.id : Int)).wf = true) (pm : (x :: m').Perm m) (hn : m.length ≤ 1000) :
    Calls Try.prog 59 #[.pointer (some ⟨L, 0, none⟩), .int .i64 (x.id : Int), .agg #[.int .i64 c, .int .i64 (k : Int), .int .i64 d]] w (SideR (fun w' U' => LadIs w' U' L m') U w (.tuple #[])) := by
  have hl := hm.len hk
  obtain ⟨_, i, hi, ei⟩ := hm.got hk (pm.mem_iff.mp (List.mem_cons_self ..)) hx
  have ON0 := hide (LadOn.first (k := k) (c := c) (d := d) h)
  obtain ⟨w1, hw1⟩ : ∃ w1, w1 = w.alloc (.cells #[.int .i64 c, .int .i64 (k : Int), .int .i64 d] 31) := ⟨_, rfl⟩
  obtain ⟨X, hX⟩ : ∃ X, X = w.heap.size := ⟨_, rfl⟩
  have ON := hide (show LadOn w w1 U U L X k c d (word b) ps Fs hs from by rw [hw1, hX]; exact ON0.out)
  clear ON0
  have TA := hide (fun (W : World) (U9 : Nat → Prop) (LW : Lad W U9 L (word b) ps Fs hs) => ltake_any LW hk e x hid i hi ei (by omega))
  have HS := hide hm
  have HE := hide e
  have PM := hide pm
  have HL := hide hx
  have k0 : (0 : Int) ≤ (k : Int) := by omega
  have k1 : (k : Int) < 64 := by omega
  have HW := hide hw1
  have HX := hide hX
  have wl := word_lo b
  have wh := word_hi b
  have ST := hide (fun (W : World) => clear_in (word b) k W wl wh hk)
  clear hw1 hX h hm e hid hn hl wl wh hi ei pm hx
  obtain ⟨x1, s1⟩ := ON.out.cells hk HE.out
  have ON1 := hide ON.out
  go_enter Try.func59, Try.ntmps59
  go_upto_region 1 with fail
  rw [← HW.out, ← HX.out]
  go_region_held3 (fun w' => w'.cell? ⟨X, 1, none⟩ = some (.int .i64 (k : Int)) ∧ w'.cell? ⟨L, 1 + k, none⟩ = some (.pointer (some ⟨H, 0, none⟩))) (first | exact ⟨x1, s1⟩ | exact y1) (first | (go_at_call 65; refine (TA.out _ _ ON1.out.lad.drew).mono ?_; rintro en w4 ⟨rfl, U4, Fs4, l4, q4, p4, t4, g4⟩; have ON4 := hide (ON1.out.drew.move q4 t4 g4); have y1 := ON4.out.cells hk HE.out; have P4 := hide p4; clear q4 p4 t4 g4))
  obtain ⟨z1, s4⟩ := y1
  have z2 := ON4.out.lad.row.word
  have z3 := ON4.out.lad.row.frozen 0
  clear x1 s1
  rcases Nat.eq_zero_or_pos l4.length with hz | hz
  · have LN := hide (fun (n : Nat) => (ON4.out.lad.drewN n).len hk HE.out 0 (by omega))
    have END := hide (fun (n : Nat) => ldrop_none (ON4.out.drewN n) P4.out HS.out hk HL.out PM.out hz)
    clear P4 HS hz
    go_upto_region 2 with fail
    go_quiet ((go_at_call 66; exact wquiet_eq (LN.out _)))
    -- HERE
    go_upto_region 3 with fail
    go_region_law (first | (go_simp; go_at_call 67; refine (ST.out _).mono ?_; rintro en w5 ⟨rfl, rfl⟩))
    all_goals
      go_end0
      exact END.out _
  · have LN := hide (fun (n : Nat) => (ON4.out.lad.drewN n).len hk HE.out (l4.length : Int) rfl)
    have END := hide (fun (n : Nat) => ldrop_some (ON4.out.drewN n) P4.out HS.out hk HL.out PM.out hz)
    have nz : ((l4.length : Int) == 0) = false := by rw [beq_eq_false_iff_ne]; omega
    have nz2 : ¬ (l4.length : Int) = 0 := by omega
    clear P4 HS hz
    go_upto_region 2 with fail
    go_quiet ((go_at_call 66; exact wquiet_eq (LN.out _)))
    go_wp2_with fail
    go_end0
    exact END.out _
theorem ldrop_any {U : Nat → Prop} {w : World} {L : Nat} {m m' : List Rt} (h : LadIs w U L m) (x : Rt) (hid : (Lit.int .i64 (x.id : Int)).wf = true) (pm : (x :: m').Perm m) (hn : m.length ≤ 1000) :
    Calls Try.prog 59 #[.pointer (some ⟨L, 0, none⟩), .int .i64 (x.id : Int), .agg #[.int .i64 x.p.c, .int .i64 x.p.l, .int .i64 x.p.d]] w (SideR (fun w' U' => LadIs w' U' L m') U w (.tuple #[])) := by
  obtain ⟨b, ps, Fs, hs, h1, h2⟩ := h
  have hx := pm.mem_iff.mp (List.mem_cons_self ..)
  have hf := h2.fit x hx
  obtain ⟨k, hk⟩ : ∃ k : Nat, x.p.l = (k : Int) := ⟨x.p.l.toNat, by omega⟩
  have hk64 : k < 64 := by omega
  obtain ⟨_, i, hi, _⟩ := h2.got hk64 hx hk
  rw [hk]
  cases e : ps k with
  | none =>
    have := (h1.bare k hk64 e).1
    rw [this] at hi; cases hi
  | some H => exact ldrop_k h1 h2 hk64 e x x.p.c x.p.d hk hid pm hn
end Go.Proofs.Ytccokhalcdljiaa
namespace Go.Proofs.Ytccokhalcdljiaa
open Go.ChangeShapes Go.WideShapes Go.ChangeAt Go.RowKit
set_option linter.unusedVariables false
set_option maxHeartbeats 4000000 in
theorem lfirst_any {U : Nat → Prop} {w : World} {L : Nat} {m : List Rt} (h : LadIs w U L m) (hf : Falls m) :
    Calls Try.prog 60 #[.pointer (some ⟨L, 0, none⟩)] w fun e w' => e = .returned (.tuple #[.int .i64 (firstR m).1, .bool (firstR m).2]) ∧ Below w.heap.size w w' := by
  obtain ⟨b, ps, Fs, hs, h1, h2⟩ := h
  have c0 := h1.row.word
  have TP := hide (fun (W : World) => top_any (word b) W (word_lo b) (word_hi b))
  rcases h2.first hf h1.heaps with ⟨rfl, ht⟩ | ⟨x, r, K, rfl, hK, ht, hl, hi⟩
  · rw [ht] at TP
    clear h1 h2 ht
    go_enter Try.func60, Try.ntmps60
    go_wp2_with (go_at_call 68; refine (TP.out _).mono ?_; rintro e w1 ⟨rfl, rfl⟩)
    go_ret2
    exact ⟨rfl, Below.refl _ _⟩
  · rw [ht] at TP
    obtain ⟨H, e⟩ : ∃ H, ps K = some H := by
      cases e : ps K with
      | none => rw [(h1.bare K hK e).1] at hl; cases hl
      | some H => exact ⟨H, rfl⟩
    have MI := hide (Hp.min_some (h1.held K H hK e) hl)
    rw [hi] at MI
    have s1 : w.cell? ⟨L, 1 + K, none⟩ = some (.pointer (some ⟨H, 0, none⟩)) := by
      have s1 := h1.row.slot hK
      rw [e] at s1
      exact s1
    have k0 : ¬ (K : Int) < 0 := by omega
    have k1 : (K : Int) < 64 := by omega
    have k2 : (0 : Int) ≤ (K : Int) := by omega
    have e0 : Hp.itemBool (gLad x) true = .returned (.tuple #[.agg #[.int .i64 (x.id : Int), .int .i64 0], .bool true]) := rfl
    rw [e0] at MI
    have e1 : (firstR (x :: r)).1 = (x.id : Int) := rfl
    have e2 : (firstR (x :: r)).2 = true := rfl
    rw [e1, e2]
    clear h1 h2 ht hl hi e e0 e1 e2
    go_enter Try.func60, Try.ntmps60
    go_wp2_with (first
      | (go_at_call 68; refine (TP.out _).mono ?_; rintro e w1 ⟨rfl, rfl⟩)
      | (go_at_call 69; refine MI.out.mono ?_; rintro e w1 ⟨rfl, b1⟩; have B1 := hide b1; clear b1))
    -- HERE
    go_ret2
    exact ⟨rfl, B1.out.alloc B1.out.size _⟩
end Go.Proofs.Ytccokhalcdljiaa
namespace Go.Proofs.Ytccokhalcdljiaa
open Go.ChangeShapes Go.WideShapes Go.ChangeAt Go.RowKit
set_option linter.unusedVariables false
theorem own_mono {w : World} {base base' : Nat} {e : TypeId} {z n : Nat} {v : Value} {xs : List Value} (h : w.ownsRow base e z v n xs) (hb : base' ≤ base) : w.ownsRow base' e z v n xs :=
  ⟨h.1, h.2.elim .inl (fun ⟨g, cap, cur, h1, h2, rest⟩ => .inr ⟨g, cap, cur, h1, Nat.le_trans hb h2, rest⟩)⟩
/-- What numbers has written behind q rounds. -/
def numsAt (o : List (Int × Int)) (q : Nat) : List Value := (o.take q).map (fun x => Value.int .i64 x.1) ++ List.replicate (o.length - q) (.int .i64 0)
theorem numsAt_set (o : List (Int × Int)) {q : Nat} (h : q < o.length) : (numsAt o q).set q (.int .i64 (Hp.it o q).1) = numsAt o (q + 1) := by
  unfold numsAt
  have h1 : ((o.take q).map (fun x => Value.int .i64 x.1)).length = q := by simp; omega
  rw [List.set_append_right _ _ (by omega), h1, Nat.sub_self]
  obtain ⟨r, hr⟩ : ∃ r, o.length - q = r + 1 := ⟨o.length - q - 1, by omega⟩
  rw [hr, List.replicate_succ, List.set_cons_zero, show o.length - (q + 1) = r by omega, List.take_succ_eq_append_getElem h, List.map_append, Hp.it_get h]
  simp
theorem numsAt_all (o : List (Int × Int)) : numsAt o o.length = (o.map Prod.fst).map (Value.int .i64) := by
  unfold numsAt
  simp
/-- What holds behind q rounds. -/
structure NumsOn (w wr : World) (A : Option Addr) (c R : Nat) (o : List (Int × Int)) (q : Nat) : Prop where
  its : wr.ownsRow w.heap.size 113 2 (.slice A o.length c) o.length (Hp.cellsIt o)
  row : wr.ownsRow w.heap.size 3 1 (.slice (some ⟨R, 0, none⟩) o.length o.length) o.length (numsAt o q)
  bel : Below w.heap.size w wr
  ne : ∀ g, A = some g → g.block ≠ R
theorem own_none {w : World} {base : Nat} {e : TypeId} {z n : Nat} {A : Option Addr} {c : Nat} {xs : List Value} (h : w.ownsRow base e z (.slice A n c) n xs) (hn : 0 < n) : ∃ g, A = some ⟨g, 0, none⟩ := by
  rcases h.2 with ⟨h1, h2⟩ | ⟨g, cap, cur, h1, _⟩
  · injection h1 with a b c; omega
  · injection h1 with a b c; exact ⟨g, a⟩
theorem NumsOn.cells {w wr : World} {g c R : Nat} {o : List (Int × Int)} {q : Nat} (h : NumsOn w wr (some ⟨g, 0, none⟩) c R o q) (hq : q < o.length) :
    wr.cell? ⟨g, q * 2, none⟩ = some (.int .i64 (Hp.it o q).1) ∧ wr.cell? ⟨g, q * 2 + 1, none⟩ = some (.int .i64 (Hp.it o q).2) := by
  constructor
  · rw [h.its.cellAt (q * 2) (by omega)]; exact Hp.cellsIt_id o q hq
  · rw [h.its.cellAt (q * 2 + 1) (by omega)]; exact Hp.cellsIt_key o q hq
theorem NumsOn.below {w wr w' : World} {A : Option Addr} {c R : Nat} {o : List (Int × Int)} {q : Nat} (h : NumsOn w wr A c R o q) (b : Below wr.heap.size wr w') : NumsOn w w' A c R o q :=
  ⟨(Touch.of_below (S := fun _ => False) b).own h.its (fun _ _ e => e), (Touch.of_below (S := fun _ => False) b).own h.row (fun _ _ e => e), h.bel.trans (b.mono h.bel.size), h.ne⟩
theorem NumsOn.set {w wr : World} {A : Option Addr} {c R : Nat} {o : List (Int × Int)} {q : Nat} (h : NumsOn w wr A c R o q) (hq : q < o.length) : NumsOn w (wr.setCell ⟨R, q, none⟩ (.int .i64 (Hp.it o q).1)) A c R o (q + 1) := by
  obtain ⟨a, b⟩ := h.row.stored q (.int .i64 (Hp.it o q).1)
  rw [numsAt_set o hq] at a
  have t : Touch (fun i => i = R) wr (wr.setCell ⟨R, q, none⟩ (.int .i64 (Hp.it o q).1)) := Touch.setCell (S := fun i => i = R) (Touch.refl _ wr) (p := ⟨R, q, none⟩) rfl _
  have lo := (h.row.lt R rfl).1
  refine ⟨t.own h.its (fun g hg e => ?_), a, h.bel.trans (t.below h.bel.size (fun i e => by rw [e]; exact lo)), h.ne⟩
  cases A with
  | none => cases hg
  | some ad =>
    injection hg with hg
    exact h.ne ad rfl (by rw [hg]; exact e)
theorem NumsOn.row_cell {w wr : World} {A : Option Addr} {c R : Nat} {o : List (Int × Int)} {q : Nat} (h : NumsOn w wr A c R o q) (hq : q < o.length) : (∃ v, wr.cell? ⟨R, q, none⟩ = some v) ∧ wr.frozen? ⟨R, q, none⟩ = false := by
  refine ⟨?_, h.row.frozenAt q⟩
  rw [h.row.cellAt q (by omega)]
  have : q < (numsAt o q).length := by unfold numsAt; simp; omega
  exact ⟨_, List.getElem?_eq_getElem this⟩
set_option maxHeartbeats 4000000 in
theorem numbers_any {w : World} {F : Nat → Prop} {H : Nat} {l : List (Int × Int)} (h : Hp.Held w F H l) (hn : l.length ≤ 1000) :
    Calls Try.prog 64 #[.pointer (some ⟨H, 0, none⟩)] w fun e w' => ∃ v, e = .returned v ∧ w'.ownsRow w.heap.size 3 1 v l.length (((Hp.ord l).map Prod.fst).map (Value.int .i64)) ∧ Below w.heap.size w w' := by
  obtain ⟨i0, hi0, hz0, hz1, hz2⟩ := info_parts int_info
  have HA := hide (Hp.all_any h (by omega))
  have hol := Hp.ord_length l
  obtain ⟨o, ho⟩ : ∃ o, o = Hp.ord l := ⟨_, rfl⟩
  rw [← ho] at HA hol ⊢
  rw [← hol] at HA hn ⊢
  obtain ⟨n, hN⟩ : ∃ n, n = o.length := ⟨_, rfl⟩
  have MK := hide (fun (W : World) => run_makeSlice_full (P := Try.prog) W W.heap.size 39 3 i0 (.int .i64 0) 1 Try.underlying39 hi0 hz0 hz1 .i64 .i64 n (by omega) (by rw [hz2]; omega) (by unfold maxLen; omega) (Nat.le_refl _))
  rw [← hN] at HA
  clear h hol ho hz2
  have HN := hide hN
  have h1000 : n ≤ 1000 := by omega
  clear hN hn hi0 hz0 hz1
  go_enter Try.func64, Try.ntmps64
  go_upto_region 2 with (go_at_call 75; refine HA.out.mono ?_; rintro e w1 ⟨v, rfl, o1, b1⟩)
  obtain ⟨A, c, rfl, hnc, hcm, hA⟩ := Hp.own_slice o1
  obtain ⟨w2, r2, o2, g2⟩ := MK.out w1
  have O2 := hide o2
  have O1 := hide o1
  have B1 := hide b1
  have G2 := hide g2
  obtain ⟨R, hR⟩ : ∃ R, R = w1.heap.size := ⟨_, rfl⟩
  rw [← hR] at r2
  have NO := hide (show NumsOn w w2 A c R o 0 from by
    have hn := HN.out
    refine ⟨?_, ?_, b1.trans ((Below.refl _ _).grown g2 (Nat.le_refl _) (by simp) |>.mono b1.size), fun g hg e => ?_⟩
    · rw [← hn]; exact (Touch.of_grown (S := fun _ => False) g2 (fun _ e => by cases e)).own o1 (fun _ _ e => e)
    · have e1 : (madeCells (Value.int .i64 0).cells (n * 1)).toList = numsAt o 0 := by
        show (madeCells #[Value.int .i64 0] (n * 1)).toList = _
        rw [toList_madeCells_one, Nat.mul_one]
        unfold numsAt
        simp [hn]
      rw [e1, ← hR] at o2
      rw [← hn]
      exact own_mono o2 (by rw [hR]; exact b1.size)
    · have := (o1.lt g.block (by rw [hg]; rfl)).2
      omega)
  clear o1 b1 o2 g2 hA hR HA MK
  go_wp2_with fail
  go_loopw [14] (fun i wr => ∃ (q : Nat), q ≤ n ∧ i = .int .i64 (q : Int) ∧ Hid (NumsOn w wr A c R o q)) (fun i _ => n - (intOf i).toNat)
  case atStart => exact ⟨0, by omega, rfl, NO⟩
  case round =>
    obtain ⟨q, hqn, rfl, hZ⟩ := hrel
    clear r2 NO
    by_cases hlt : q < n
    · have hq : q < o.length := by rw [← HN.out]; exact hlt
      have q0 : (0 : Int) ≤ (q : Int) := by omega
      have q1 : (q : Int) < (n : Int) := by omega
      obtain ⟨g, rfl⟩ : ∃ g, A = some ⟨g, 0, none⟩ := own_none hZ.out.its (by omega)
      obtain ⟨c0, c1⟩ := hZ.out.cells hq
      have B5 := (Below.refl wr.heap.size wr).alloc (Nat.le_refl _) (.cells #[.int .i64 (Hp.it o q).1, .int .i64 (Hp.it o q).2] 113)
      have y0 := cell_of_row _ _ 0 _ _ _ (heap_alloc_new wr (.cells #[.int .i64 (Hp.it o q).1, .int .i64 (Hp.it o q).2] 113))
      have y0 : (wr.alloc (.cells #[.int .i64 (Hp.it o q).1, .int .i64 (Hp.it o q).2] 113)).cell? ⟨wr.heap.size, 0, none⟩ = some (.int .i64 (Hp.it o q).1) := by rw [y0]; rfl
      have N5 := hide (hZ.out.below B5)
      obtain ⟨⟨v5, k5⟩, f5⟩ := N5.out.row_cell hq
      have N6 := hide (N5.out.set hq)
      clear hq B5
      go_upto_region 6 with fail
      generalize wr.alloc (.cells #[.int .i64 (Hp.it o q).1, .int .i64 (Hp.it o q).2] 113) = w5 at *
      generalize wr.heap.size = Y at *
      clear c0 c1 hZ
      go_wp2_with fail
      go_roundw
      case rel => exact ⟨q + 1, by omega, by go_num, N6.out⟩
      case measure => simp [intOf]; omega
    · have q1 : ¬ (q : Int) < (n : Int) := by omega
      obtain rfl : q = n := by omega
      go_wp2_with fail
      go_ret
      obtain rfl : q = o.length := HN.out
      refine ⟨_, rfl, ?_, hZ.out.bel⟩
      have z := hZ.out.row
      rw [numsAt_all, List.map_map] at z
      exact z
end Go.Proofs.Ytccokhalcdljiaa
namespace Go.Proofs.Ytccokhalcdljiaa
open Go.ChangeShapes Go.WideShapes Go.ChangeAt Go.RowKit
set_option linter.unusedVariables false
theorem lvl_ord {b : Nat → Bool} {hs : Nat → List (Int × Int)} {m : List Rt} (h : Says b hs m) (hf : Falls m) {k : Nat} (hk : k < 64) : (Hp.ord (hs k)).map Prod.fst = idsR (lvl m k) := by
  have e : Hp.ord (hs k) = (lvl m k).map gLad := by
    refine Hp.ord_unique (h.perm k hk).symm ?_
    rw [List.pairwise_map]
    refine List.Pairwise.imp_of_mem ?_ (hf.sublist (show (lvl m k).Sublist m from List.filter_sublist))
    intro a c ha hc e
    have h1 := (mem_lvl.mp ha).2
    have h2 := (mem_lvl.mp hc).2
    rw [Hp.due_not]
    show ¬ ((0 : Int) < 0 ∨ ((0 : Int) = 0 ∧ (c.id : Int) < (a.id : Int)))
    omega
  rw [e, List.map_map]; rfl
theorem nums_fit {b : Nat → Bool} {q : Nat} (h : q < (nums b).length) : ∃ K : Nat, (nums b).getD q 0 = (K : Int) ∧ K < 64 ∧ b K = true := by
  rw [List.getD_eq_getElem?_getD, List.getElem?_eq_getElem h, Option.getD_some]
  have key : ∀ n, n ≤ 64 → ∀ x ∈ fall b n, ∃ K : Nat, x = (K : Int) ∧ K < 64 ∧ b K = true := by
    intro n
    induction n with
    | zero => intro _ x hx; cases hx
    | succ n ih =>
      intro hn x hx
      have hx : x ∈ fall b n ++ if b (63 - n) then [((63 - n : Nat) : Int)] else [] := hx
      rcases List.mem_append.mp hx with hx | hx
      · exact ih (by omega) x hx
      · cases e : b (63 - n) with
        | true =>
          rw [e] at hx
          simp only [if_true, List.mem_singleton] at hx
          exact ⟨63 - n, hx, by omega, e⟩
        | false => rw [e] at hx; cases hx
  exact key 64 (Nat.le_refl _) _ (List.getElem_mem h)
/-- A row of one's own that grows. -/
structure GrowsOn (w1 wr : World) (v : Value) (acc : List Int) : Prop where
  own : wr.ownsRow w1.heap.size 3 1 v acc.length (acc.map (Value.int .i64))
  bel : Below w1.heap.size w1 wr
theorem GrowsOn.below {w1 wr w2 : World} {v : Value} {acc : List Int} (h : GrowsOn w1 wr v acc) (b : Below wr.heap.size wr w2) : GrowsOn w1 w2 v acc :=
  ⟨(Touch.of_below (S := fun _ => False) b).own h.own (fun _ _ e => e), h.bel.trans (b.mono h.bel.size)⟩
theorem GrowsOn.next {w1 wr w2 : World} {v v2 : Value} {acc ids : List Int} {n : Nat} (h : GrowsOn w1 wr v acc) (hn : n = ids.length) (o : w2.ownsRow w1.heap.size 3 1 v2 (acc.length + n) (acc.map (Value.int .i64) ++ ids.map (Value.int .i64))) (g : wr.grownBy w2 v.ownBlock) : GrowsOn w1 w2 v2 (acc ++ ids) := by
  refine ⟨?_, h.bel.grown g h.bel.size (own_lo h.own)⟩
  rw [List.length_append, List.map_append, ← hn]; exact o
set_option maxHeartbeats 4000000 in
theorem lall_any {U : Nat → Prop} {w : World} {L : Nat} {m : List Rt} (h : LadIs w U L m) (hf : Falls m) (hm : m.length ≤ 1000) :
    Calls Try.prog 58 #[.pointer (some ⟨L, 0, none⟩)] w fun e w' => ∃ v, e = .returned v ∧ w'.ownsRow w.heap.size 3 1 v m.length ((idsR m).map (Value.int .i64)) ∧ Below w.heap.size w w' := by
  obtain ⟨b, ps, Fs, hs, h1, h2⟩ := h
  obtain ⟨i0, hi0, hz0, hz1, hz2⟩ := info_parts int_info
  have c0 := h1.row.word
  have BA := hide (fun (W : World) => ball_any (word b) W (word_lo b) (word_hi b))
  rw [nums_word] at BA
  have LA := hide h1
  have FIT := hide (fun (q : Nat) (hq : q < (nums b).length) => nums_fit hq)
  have ALL := hide (h2.all hf)
  obtain ⟨nb, hnb⟩ : ∃ nb, nb = nums b := ⟨_, rfl⟩
  rw [← hnb] at BA FIT ALL
  obtain ⟨N, hN⟩ : ∃ N, N = nb.length := ⟨_, rfl⟩
  rw [← hN] at BA FIT
  have h64 : N ≤ 64 := by rw [hN, hnb]; exact nums_le b
  have HN := hide hN
  have HZ := hide hz2
  -- one level
  have NU := hide (fun (W : World) (LW : Lad W U L (word b) ps Fs hs) (K H : Nat) (hK : K < 64) (e : ps K = some H) => show Calls Try.prog 64 #[.pointer (some ⟨H, 0, none⟩)] W fun e w' => ∃ A c, e = .returned (.slice A (idsR (lvl m K)).length c) ∧ Ints .i64 w' A (idsR (lvl m K)).length (idsR (lvl m K)) ∧ (A = none → c = 0) ∧ Below W.heap.size W w' from by
    have hl := h2.len hK
    refine (numbers_any (LW.held K H hK e) (by omega)).mono ?_
    rintro e w' ⟨v, rfl, o, b9⟩
    rw [lvl_ord h2 hf hK] at o
    have e9 : (hs K).length = (idsR (lvl m K)).length := by
      have := (h2.perm K hK).length_eq
      simp [idsR]
      simpa using this
    rw [e9] at o
    obtain ⟨A, c, rfl, i9, n9⟩ := own_ints o
    exact ⟨A, c, rfl, i9, n9, b9⟩)
  have HEAP := hide (fun (K : Nat) (hK : K < 64) (e : b K = true) => show ∃ H, ps K = some H from by
    cases e2 : ps K with
    | none =>
      have := (h1.bare K hK e2).1
      rw [h2.bt K hK, this] at e; cases e
    | some H => exact ⟨H, rfl⟩)
  -- the sum of lengths
  have PRE := hide (fun (q : Nat) (hq : q ≤ N) => show ((nb.take q).flatMap (fun k => idsR (lvl m k.toNat))).length ≤ 1000 from by
    have h3 := ALL.out
    rw [← List.take_append_drop q nb, List.flatMap_append] at h3
    have h4 := congrArg List.length h3
    rw [List.length_append] at h4
    have h5 : (idsR m).length = m.length := by simp [idsR]
    omega)
  have ML := hide hm
  have SNOC := hide (fun (q : Nat) (hq : q < N) => show nb.take (q + 1) = nb.take q ++ [nb.getD q 0] from by
    have hq : q < nb.length := by omega
    rw [List.take_succ_eq_append_getElem hq, List.getD_eq_getElem?_getD, List.getElem?_eq_getElem hq, Option.getD_some])
  clear h1 h2 hf hnb hN hz2 hm
  go_enter Try.func58, Try.ntmps58
  go_wp2_with (go_at_call 63; refine (BA.out _).mono ?_; rintro e w1 ⟨vn, rfl, o1, b1⟩; obtain ⟨An, cn, rfl, i1, n1⟩ := own_ints o1; have I1 := hide i1; have LO := hide (fun (g : Nat) (o : Nat) (hA : An = some ⟨g, o, none⟩) => (o1.lt g (by rw [hA]; rfl)).2); have B1 := hide b1; have LD1 := hide (LA.out.below b1); have G0 := hide (show GrowsOn w1 w1 (.slice none 0 0) [] from ⟨World.ownsRow_nil _ _ _ _, Below.refl _ _⟩); clear o1 i1 b1 n1)
  -- HERE
  go_loopw [3, 12] (fun v i wr => ∃ (q : Nat), q ≤ N ∧ i = .int .i64 (q : Int) ∧ Hid (GrowsOn w1 wr v ((nb.take q).flatMap (fun k => idsR (lvl m k.toNat))))) (fun _ i _ => N - (intOf i).toNat)
  case atStart => exact ⟨0, by omega, rfl, G0⟩
  case round =>
    obtain ⟨q, hqN, rfl, hZ⟩ := hrel
    clear G0
    rename_i v3 _ _
    by_cases hlt : q < N
    · have q0 : (0 : Int) ≤ (q : Int) := by omega
      have q1 : (q : Int) < (N : Int) := by omega
      obtain ⟨K, eK, hK, bK⟩ := FIT.out q hlt
      obtain ⟨H, eH⟩ := HEAP.out K hK bK
      obtain ⟨g, o, rfl, cs⟩ := I1.out.2 (by omega)
      have LW := hide (LD1.out.below hZ.out.bel)
      have hg := LO.out g o rfl
      have c1 : wr.cell? ⟨g, o + q, none⟩ = some (.int .i64 (K : Int)) := by
        have c1 := cs q hlt
        rw [eK] at c1
        exact (hZ.out.bel.cell (p := ⟨g, o + q, none⟩) hg).trans c1
      have s1 : wr.cell? ⟨L, 1 + K, none⟩ = some (.pointer (some ⟨H, 0, none⟩)) := by
        have s1 := LW.out.row.slot hK
        rw [eH] at s1
        exact s1
      have k0 : (0 : Int) ≤ (K : Int) := by omega
      have k1 : (K : Int) < 64 := by omega
      have NU2 := hide (NU.out wr LW.out K H hK eH)
      have PR := hide (PRE.out (q + 1) (by omega))
      have e9 : (nb.take (q + 1)).flatMap (fun k => idsR (lvl m k.toNat)) = (nb.take q).flatMap (fun k => idsR (lvl m k.toNat)) ++ idsR (lvl m K) := by
        rw [SNOC.out q hlt, List.flatMap_append, eK]; simp
      rw [e9] at PR
      have EQ := hide e9
      clear e9 eK bK eH cs hg
      obtain ⟨acc, hacc⟩ : ∃ acc, acc = (nb.take q).flatMap (fun k => idsR (lvl m k.toNat)) := ⟨_, rfl⟩
      obtain ⟨ids, hids⟩ : ∃ ids, ids = idsR (lvl m K) := ⟨_, rfl⟩
      rw [← hacc] at hZ PR EQ
      rw [← hids] at NU2 PR EQ
      clear hacc hids
      go_wp2_with (first
        | (go_at_call 64; refine NU2.out.mono ?_; rintro e w2 ⟨A2, c2, rfl, i2, n2, b2⟩; have Z2 := hide (hZ.out.below b2); have I2 := hide i2; have N2 := hide n2; clear i2 n2 b2)
        | (at_builtin; refine wpList_append_src rfl (.tmp 16) (.tmp 23) _ rfl w1.heap.size 3 i0 _ 8 Try.underlying39 hi0 hz0 hz1 HZ.out rfl _ _ _ rfl Z2.out.own .i64 _ _ _ ids rfl I2.out N2.out (by have := PR.out; rw [List.length_append] at this; unfold maxLen; omega) (by have := PR.out; rw [List.length_append] at this; omega) Z2.out.bel.size ?_; intro v' w' o' g' t'; have Z3 := hide (Z2.out.next rfl o' g'); clear o' g' t'))
      go_roundw
      case rel =>
        refine ⟨q + 1, by omega, by go_num, ?_⟩
        rw [EQ.out]
        exact Z3
      case measure => simp [intOf]; omega
    · have q1 : ¬ (q : Int) < (N : Int) := by omega
      go_wp2_with fail
      go_ret
      have e5 : nb.take q = nb := List.take_of_length_le (by have := HN.out; omega)
      have z := hZ.out.own
      rw [e5, ALL.out] at z
      have e6 : (idsR m).length = m.length := by simp [idsR]
      rw [e6] at z
      exact ⟨_, rfl, own_mono z B1.out.size, B1.out.trans (hZ.out.bel.mono B1.out.size)⟩
end Go.Proofs.Ytccokhalcdljiaa
namespace Go.Proofs.Ytccokhalcdljiaa
open Go.ChangeShapes Go.WideShapes Go.ChangeAt Go.RowKit
set_option linter.unusedVariables false
def cls (l : List Rt) (j : Nat) : List Rt := l.filter (fun x => x.p.c == (j : Int))
theorem mem_cls {l : List Rt} {j : Nat} {x : Rt} : x ∈ cls l j ↔ x ∈ l ∧ x.p.c = (j : Int) := by unfold cls; rw [List.mem_filter]; simp
theorem cls_perm {l l' : List Rt} (h : l.Perm l') (j : Nat) : (cls l j).Perm (cls l' j) := h.filter _
theorem cls_cons_same {x : Rt} {l : List Rt} {j : Nat} (h : x.p.c = (j : Int)) : cls (x :: l) j = x :: cls l j := by unfold cls; rw [List.filter_cons_of_pos (by simp [h])]
theorem cls_cons_other {x : Rt} {l : List Rt} {j : Nat} (h : x.p.c ≠ (j : Int)) : cls (x :: l) j = cls l j := by unfold cls; rw [List.filter_cons_of_neg (by simp [h])]
theorem cls_sub (l : List Rt) (j : Nat) : (cls l j).Sublist l := List.filter_sublist
theorem cls_len (l : List Rt) (j : Nat) : (cls l j).length ≤ l.length := List.length_filter_le _ _
theorem ahead_cls {a b : Rt} (h : aheadR a b = true) : b.p.c ≤ a.p.c := by
  unfold aheadR at h
  simp only [decide_eq_true_eq] at h
  have := (cmpP_ge (a := a.p) (b := b.p)).mp (by omega)
  omega
theorem may_cls {p : Pr} (h : mayP p = true) : p.c = 0 ∨ p.c = 1 ∨ p.c = 2 := by
  unfold mayP at h
  split at h
  · omega
  · split at h
    · omega
    · split at h
      · omega
      · cases h
theorem may_lvl {p : Pr} (h : mayP p = true) (hc : p.c ≠ 1) : 0 ≤ p.l ∧ p.l < 64 := by
  rcases may_cls h with e | e | e
  · unfold mayP at h
    rw [if_pos e] at h
    simp at h; omega
  · exact absurd e hc
  · unfold mayP at h
    rw [if_neg (by omega), if_neg (by omega), if_pos e] at h
    simp at h; omega
theorem good_parts {l : List Rt} (h : GoodR l) : l = cls l 2 ++ cls l 1 ++ cls l 0 := by
  have hp : l.Pairwise (fun a b => b.p.c ≤ a.p.c) := h.up.imp (fun {a b} e => ahead_cls e)
  have h0 := key_split (fun x => x.p.c) 0 hp
  have h1 := key_split (fun x => x.p.c) 1 hp
  have h2 := key_split (fun x => x.p.c) 2 hp
  have e0 : l.filter (fun x => decide ((0 : Int) ≤ x.p.c)) = l := by
    rw [List.filter_eq_self]
    intro x hx
    have := may_cls (h.may x hx)
    simp; omega
  have e3 : l.filter (fun x => decide ((2 : Int) + 1 ≤ x.p.c)) = [] := by
    rw [List.filter_eq_nil_iff]
    intro x hx
    have := may_cls (h.may x hx)
    simp; omega
  rw [e3, List.nil_append] at h2
  rw [show ((1 : Int) + 1) = 2 from rfl, h2] at h1
  rw [show ((0 : Int) + 1) = 1 from rfl, h1] at h0
  rw [e0] at h0
  exact h0
theorem good_falls {l : List Rt} (h : GoodR l) {j : Nat} (hj : j ≠ 1) : Falls (cls l j) := by
  unfold Falls
  refine (List.Pairwise.imp_of_mem ?_ (h.up.sublist (cls_sub l j)))
  intro a b ha hb e
  have ha := (mem_cls.mp ha).2
  have hb := (mem_cls.mp hb).2
  unfold aheadR at e
  simp only [decide_eq_true_eq] at e
  have h1 := cmpP_ge (a := a.p) (b := b.p)
  have h2 := cmpP_ge (a := b.p) (b := a.p)
  rw [cmpP_swap a.p b.p] at h2
  by_cases e0 : 0 < cmpP a.p b.p
  · have := h1.mp (by omega)
    by_cases e3 : b.p.l < a.p.l
    · exact .inl e3
    · have := h2.mpr (.inr ⟨by omega, .inr ⟨by omega, by omega⟩⟩)
      omega
  · have e4 : cmpP a.p b.p = 0 := by omega
    have := h1.mp (by omega)
    have := h2.mp (by omega)
    right
    omega
/-- In order of dues. -/
def Dues (m : List Rt) : Prop := m.Pairwise (fun a b => a.p.d < b.p.d ∨ a.p.d = b.p.d ∧ a.id < b.id)
theorem good_dues {l : List Rt} (h : GoodR l) : Dues (cls l 1) := by
  unfold Dues
  refine (List.Pairwise.imp_of_mem ?_ (h.up.sublist (cls_sub l 1)))
  intro a b ha hb e
  have ha := (mem_cls.mp ha).2
  have hb := (mem_cls.mp hb).2
  unfold aheadR at e
  simp only [decide_eq_true_eq] at e
  have h1 := cmpP_ge (a := a.p) (b := b.p)
  have h2 := cmpP_ge (a := b.p) (b := a.p)
  rw [cmpP_swap a.p b.p] at h2
  by_cases e0 : 0 < cmpP a.p b.p
  · have := h1.mp (by omega)
    by_cases e3 : a.p.d < b.p.d
    · exact .inl e3
    · have := h2.mpr (.inr ⟨by omega, .inl ⟨by omega, by omega⟩⟩)
      omega
  · have e4 : cmpP a.p b.p = 0 := by omega
    have := h1.mp (by omega)
    have := h2.mp (by omega)
    right
    omega
/-- The crowd of class j. -/
def Crowd (j : Nat) (w : World) (U : Nat → Prop) (v : Value) (m : List Rt) : Prop :=
  if j = 1 then ∃ B, v = .iface 61 (.pointer (some ⟨B, 0, none⟩)) ∧ DueIs w U B m else ∃ A, v = .iface 55 (.pointer (some ⟨A, 0, none⟩)) ∧ LadIs w U A m
theorem Crowd.cases {j : Nat} {U : Nat → Prop} {w : World} {v : Value} {m : List Rt} (h : Crowd j w U v m) : (j = 1 ∧ ∃ B, v = .iface 61 (.pointer (some ⟨B, 0, none⟩)) ∧ DueIs w U B m) ∨ (j ≠ 1 ∧ ∃ A, v = .iface 55 (.pointer (some ⟨A, 0, none⟩)) ∧ LadIs w U A m) := by
  unfold Crowd at h
  by_cases e : j = 1
  · rw [if_pos e] at h; exact .inl ⟨e, h⟩
  · rw [if_neg e] at h; exact .inr ⟨e, h⟩
theorem Crowd.due {U : Nat → Prop} {w : World} {m : List Rt} {B : Nat} (h : DueIs w U B m) : Crowd 1 w U (.iface 61 (.pointer (some ⟨B, 0, none⟩))) m := by unfold Crowd; rw [if_pos rfl]; exact ⟨B, rfl, h⟩
theorem Crowd.lad {j : Nat} {U : Nat → Prop} {w : World} {m : List Rt} {A : Nat} (hj : j ≠ 1) (h : LadIs w U A m) : Crowd j w U (.iface 55 (.pointer (some ⟨A, 0, none⟩))) m := by unfold Crowd; rw [if_neg hj]; exact ⟨A, rfl, h⟩
theorem Crowd.keep {j : Nat} {V U : Nat → Prop} {w w' : World} {v : Value} {m : List Rt} (h : Crowd j w U v m) (c : Touch V w w') (d : ∀ i, U i → ¬ V i) : Crowd j w' U v m := by
  rcases h.cases with ⟨rfl, B, rfl, h2⟩ | ⟨e, A, rfl, h2⟩
  · exact Crowd.due (h2.keep c d)
  · exact Crowd.lad e (h2.keep c d)
theorem Crowd.move {j : Nat} {U : Nat → Prop} {w : World} {v : Value} {m m' : List Rt} (h : Crowd j w U v m) (p : m.Perm m') : Crowd j w U v m' := by
  rcases h.cases with ⟨rfl, B, rfl, h2⟩ | ⟨e, A, rfl, h2⟩
  · exact Crowd.due (h2.move p)
  · exact Crowd.lad e (h2.move p)
theorem Crowd.lt {j : Nat} {U : Nat → Prop} {w : World} {v : Value} {m : List Rt} (h : Crowd j w U v m) : ∀ i, U i → i < w.heap.size := by
  rcases h.cases with ⟨rfl, B, rfl, h2⟩ | ⟨e, A, rfl, h2⟩
  · exact h2.lt
  · exact h2.lt
/-- What the queue's blocks hold: the map f, the crowds. -/
structure Qs (w : World) (U : Nat → Prop) (S M n : Nat) (f : Int → Option Pr) (vs : Nat → Value) (Us : Nat → Nat → Prop) (ms : Nat → List Rt) : Prop where
  row : w.heap[S]? = some (.cells #[.map (some M), vs 0, vs 1, vs 2] 67 (0, 0))
  map : Prms w M n f
  crowd : ∀ j, j < 3 → Crowd j w (Us j) (vs j) (ms j)
  uS : U S
  uM : U M
  neSM : S ≠ M
  uC : ∀ j i, j < 3 → Us j i → U i
  neS : ∀ j, j < 3 → ¬ Us j S
  neM : ∀ j, j < 3 → ¬ Us j M
  dis : ∀ a b i, a < 3 → b < 3 → Us a i → Us b i → a = b
  lt : ∀ i, U i → i < w.heap.size
theorem Qs.cells {w : World} {U : Nat → Prop} {S M n : Nat} {f : Int → Option Pr} {vs : Nat → Value} {Us : Nat → Nat → Prop} {ms : Nat → List Rt} (h : Qs w U S M n f vs Us ms) :
    w.cell? ⟨S, 0, none⟩ = some (.map (some M)) ∧ w.cell? ⟨S, 1, none⟩ = some (vs 0) ∧ w.cell? ⟨S, 2, none⟩ = some (vs 1) ∧ w.cell? ⟨S, 3, none⟩ = some (vs 2) := by
  refine ⟨?_, ?_, ?_, ?_⟩ <;> (rw [cell_of_row _ _ _ _ _ _ h.row]; rfl)
theorem Qs.keep {V U : Nat → Prop} {w w' : World} {S M n : Nat} {f : Int → Option Pr} {vs : Nat → Value} {Us : Nat → Nat → Prop} {ms : Nat → List Rt} (h : Qs w U S M n f vs Us ms) (c : Touch V w w') (d : ∀ i, U i → ¬ V i) : Qs w' U S M n f vs Us ms :=
  ⟨(c.block S (h.lt S h.uS) (d S h.uS)).trans h.row, h.map.keep (c.block M (h.lt M h.uM) (d M h.uM)), fun j hj => (h.crowd j hj).keep c (fun i hi => d i (h.uC j i hj hi)), h.uS, h.uM, h.neSM, h.uC, h.neS, h.neM, h.dis, fun i hi => Nat.lt_of_lt_of_le (h.lt i hi) c.size⟩
theorem Qs.below {U : Nat → Prop} {w w' : World} {S M n : Nat} {f : Int → Option Pr} {vs : Nat → Value} {Us : Nat → Nat → Prop} {ms : Nat → List Rt} (h : Qs w U S M n f vs Us ms) (b : Below w.heap.size w w') : Qs w' U S M n f vs Us ms := h.keep (Touch.of_below (S := fun _ => False) b) (fun _ _ e => e)
/-- One crowd has turned. -/
theorem Qs.turn {U U' : Nat → Prop} {w w' : World} {S M n : Nat} {f : Int → Option Pr} {vs : Nat → Value} {Us : Nat → Nat → Prop} {ms : Nat → List Rt} (h : Qs w U S M n f vs Us ms) {j : Nat} (hj : j < 3) {m' : List Rt} (h' : Crowd j w' U' (vs j) m') (c : Touch (Us j) w w') (hU : ∀ i, U' i → Us j i ∨ w.heap.size ≤ i) :
    Qs w' (fun i => U i ∨ (w.heap.size ≤ i ∧ i < w'.heap.size)) S M n f vs (updV Us j U') (updV ms j m') ∧ Touch U w w' := by
  refine ⟨⟨(c.block S (h.lt S h.uS) (h.neS j hj)).trans h.row, h.map.keep (c.block M (h.lt M h.uM) (h.neM j hj)), fun a ha => ?_, .inl h.uS, .inl h.uM, h.neSM, fun a i ha hi => ?_, fun a ha hi => ?_, fun a ha hi => ?_, fun a b i ha hb h1 h2 => ?_, fun i hi => ?_⟩, c.mono (fun i hi => h.uC j i hj hi)⟩
  · by_cases e : a = j
    · subst e; rw [updV_same, updV_same]; exact h'
    · rw [updV_other _ _ e, updV_other _ _ e]
      exact (h.crowd a ha).keep c (fun i hi e2 => e (h.dis a j i ha hj hi e2))
  · by_cases e : a = j
    · subst e
      rw [updV_same] at hi
      rcases hU i hi with e2 | e2
      · exact .inl (h.uC a i ha e2)
      · exact .inr ⟨e2, h'.lt i hi⟩
    · rw [updV_other _ _ e] at hi; exact .inl (h.uC a i ha hi)
  · by_cases e : a = j
    · subst e
      rw [updV_same] at hi
      rcases hU S hi with e2 | e2
      · exact h.neS a ha e2
      · have := h.lt S h.uS; omega
    · rw [updV_other _ _ e] at hi; exact h.neS a ha hi
  · by_cases e : a = j
    · subst e
      rw [updV_same] at hi
      rcases hU M hi with e2 | e2
      · exact h.neM a ha e2
      · have := h.lt M h.uM; omega
    · rw [updV_other _ _ e] at hi; exact h.neM a ha hi
  · by_cases e1 : a = j
    · by_cases e2 : b = j
      · rw [e1, e2]
      · rw [e1, updV_same] at h1
        rw [updV_other _ _ e2] at h2
        rcases hU i h1 with e3 | e3
        · rw [e1]; exact h.dis j b i hj hb e3 h2
        · have := h.lt i (h.uC b i hb h2); omega
    · rw [updV_other _ _ e1] at h1
      by_cases e2 : b = j
      · rw [e2, updV_same] at h2
        rcases hU i h2 with e3 | e3
        · rw [e2]; exact h.dis a j i ha hj h1 e3
        · have := h.lt i (h.uC a i ha h1); omega
      · rw [updV_other _ _ e2] at h2
        exact h.dis a b i ha hb h1 h2
  · rcases hi with hi | hi
    · exact Nat.lt_of_lt_of_le (h.lt i hi) c.size
    · exact hi.2
/-- The map has turned. -/
theorem Qs.store {U : Nat → Prop} {w w' : World} {S M n n' : Nat} {f f' : Int → Option Pr} {vs : Nat → Value} {Us : Nat → Nat → Prop} {ms : Nat → List Rt} (h : Qs w U S M n f vs Us ms) (hm : Prms w' M n' f') (g : w.grownBy w' (some M)) :
    Qs w' U S M n' f' vs Us ms ∧ Touch (fun i => i = M) w w' ∧ Touch U w w' := by
  have c : Touch (fun i => i = M) w w' := Touch.of_grown g (fun q e => by injection e with e; exact e.symm)
  refine ⟨⟨(c.block S (h.lt S h.uS) h.neSM).trans h.row, hm, fun j hj => (h.crowd j hj).keep c (fun i hi e => by have e : i = M := e; rw [e] at hi; exact h.neM j hj hi), h.uS, h.uM, h.neSM, h.uC, h.neS, h.neM, h.dis, fun i hi => Nat.lt_of_lt_of_le (h.lt i hi) c.size⟩, c, c.mono (fun i hi => by have hi : i = M := hi; rw [hi]; exact h.uM)⟩
/-- The map says l. -/
structure Sync (f : Int → Option Pr) (l : List Rt) : Prop where
  fwd : ∀ x ∈ l, f (x.id : Int) = some x.p
  back : ∀ k p, f k = some p → ∃ x ∈ l, (x.id : Int) = k ∧ x.p = p
theorem Sync.has {f : Int → Option Pr} {l : List Rt} (h : Sync f l) (id : Int) : (f id).isSome = hasR l id := by
  cases e : hasR l id with
  | true =>
    obtain ⟨x, hx, ex⟩ := (hasR_iff _ _).mp e
    rw [← ex, h.fwd x hx]; rfl
  | false =>
    cases e2 : f id with
    | none => rfl
    | some p =>
      obtain ⟨x, hx, ex, _⟩ := h.back id p e2
      have := (hasR_iff l id).mpr ⟨x, hx, ex⟩
      rw [e] at this; cases this
theorem Sync.add {f : Int → Option Pr} {l l' : List Rt} (h : Sync f l) {x : Rt} (hx : ∀ y ∈ l, y.id ≠ x.id) (p : l'.Perm (x :: l)) : Sync (updP f (x.id : Int) x.p) l' := by
  refine ⟨fun y hy => ?_, fun k q e => ?_⟩
  · unfold updP
    rcases List.mem_cons.mp (p.mem_iff.mp hy) with rfl | hy
    · rw [if_pos rfl]
    · rw [if_neg (by have := hx y hy; omega)]; exact h.fwd y hy
  · unfold updP at e
    split at e
    · rename_i ek
      injection e with e
      exact ⟨x, p.mem_iff.mpr (List.mem_cons_self ..), ek.symm, e⟩
    · obtain ⟨y, hy, e1, e2⟩ := h.back k q e
      exact ⟨y, p.mem_iff.mpr (List.mem_cons_of_mem _ hy), e1, e2⟩
theorem Sync.drop {f : Int → Option Pr} {l : List Rt} (h : Sync f l) (id : Int) : Sync (delP f id) (dropR l id) := by
  refine ⟨fun y hy => ?_, fun k q e => ?_⟩
  · obtain ⟨hy, hn⟩ := List.mem_filter.mp hy
    unfold delP
    rw [if_neg (by simpa using hn)]; exact h.fwd y hy
  · unfold delP at e
    split at e
    · cases e
    · rename_i ek
      obtain ⟨y, hy, e1, e2⟩ := h.back k q e
      exact ⟨y, List.mem_filter.mpr ⟨hy, by simp; omega⟩, e1, e2⟩
/-- The program's queue holds l, in blocks of U. -/
def PQ (w : World) (U : Nat → Prop) (S : Nat) (l : List Rt) : Prop :=
  ∃ M f vs Us, Qs w U S M l.length f vs Us (cls l) ∧ Sync f l ∧ GoodR l ∧ l.length ≤ 1000
theorem PQ.keep {V U : Nat → Prop} {w w' : World} {S : Nat} {l : List Rt} (h : PQ w U S l) (c : Touch V w w') (d : ∀ i, U i → ¬ V i) : PQ w' U S l := by
  obtain ⟨M, f, vs, Us, h1, h2⟩ := h
  exact ⟨M, f, vs, Us, h1.keep c d, h2⟩
theorem PQ.lt {U : Nat → Prop} {w : World} {S : Nat} {l : List Rt} (h : PQ w U S l) : ∀ i, U i → i < w.heap.size := by
  obtain ⟨M, f, vs, Us, h1, h2⟩ := h
  exact h1.lt
theorem PQ.good {U : Nat → Prop} {w : World} {S : Nat} {l : List Rt} (h : PQ w U S l) : GoodR l := by
  obtain ⟨M, f, vs, Us, h1, h2⟩ := h
  exact h2.2.1
end Go.Proofs.Ytccokhalcdljiaa
namespace Go.Proofs.Ytccokhalcdljiaa
open Go.ChangeShapes Go.WideShapes Go.ChangeAt Go.RowKit
set_option linter.unusedVariables false
theorem DueAt.drewN {U F : Nat → Prop} {w : World} {D H : Nat} {hs : List (Int × Int)} (h : DueAt w U F D H hs) (n : Nat) : DueAt (w.drewN n) U F D H hs := h.below (below_drewN (Below.refl _ _) n)
theorem due_fresh {hs : List (Int × Int)} {m : List Rt} (p : hs.Perm (m.map gDue)) {id : Int} (hn : ∀ x ∈ m, (x.id : Int) ≠ id) : ∀ i, i < hs.length → (Hp.it hs i).1 ≠ id := by
  intro i hi
  have hin := p.mem_iff.mp (Hp.it_mem hi)
  obtain ⟨y, hy, e⟩ := List.mem_map.mp hin
  rw [← e]
  exact hn y hy
set_option maxHeartbeats 4000000 in
theorem dadd_any {U : Nat → Prop} {w : World} {D : Nat} {m : List Rt} (h : DueIs w U D m) (id c l d : Int) (h0 : 0 ≤ id) (hid : (Lit.int .i64 id).wf = true) (hno : ∀ x ∈ m, (x.id : Int) ≠ id) (hn : m.length < 1000) :
    Calls Try.prog 108 #[.pointer (some ⟨D, 0, none⟩), .int .i64 id, .agg #[.int .i64 c, .int .i64 l, .int .i64 d]] w (SideR (fun w' U' => DueIs w' U' D (⟨id.toNat, ⟨c, l, d⟩⟩ :: m)) U w (.tuple #[])) := by
  obtain ⟨F, H, hs, h1, hp⟩ := h
  have hl : hs.length = m.length := by rw [hp.length_eq, List.length_map]
  have b1 := (Below.refl w.heap.size w).alloc (Nat.le_refl _) (.cells #[.int .i64 c, .int .i64 l, .int .i64 d] 31)
  have q0 : DueAt (w.alloc (.cells #[.int .i64 c, .int .i64 l, .int .i64 d] 31)) U F D H hs := h1.below b1
  have p0 : PrBlk (w.alloc (.cells #[.int .i64 c, .int .i64 l, .int .i64 d] 31)) w.heap.size c l d := heap_alloc_new _ _
  obtain ⟨w1, hw1⟩ : ∃ w1, w1 = w.alloc (.cells #[.int .i64 c, .int .i64 l, .int .i64 d] 31) := ⟨_, rfl⟩
  obtain ⟨X, hX⟩ : ∃ X, X = w.heap.size := ⟨_, rfl⟩
  rw [← hw1] at q0 p0 b1
  rw [← hX] at p0
  have nX : ¬ U X := fun hu => by have := h1.lt X hu; omega
  have z1 := q0.cell
  have z2 := p0.cells.2.2
  have e1 : ((id.toNat : Nat) : Int) = id := by omega
  have PU := hide (fun (W : World) (LW : DueAt W U F D H hs) (tw : Touch (fun _ => False) w W) (pb : PrBlk W X c l d) => show Calls Try.prog 61 #[.pointer (some ⟨H, 0, none⟩), .int .i64 id, .int .i64 d] W fun en w' => en = .returned (.int .i64 0) ∧ SideR (fun w' U' => DueIs w' U' D (⟨id.toNat, ⟨c, l, d⟩⟩ :: m)) U w (.tuple #[]) (.returned (.tuple #[])) w' ∧ (w'.cell? ⟨D, 0, none⟩ = some (.pointer (some ⟨H, 0, none⟩)) ∧ w'.cell? ⟨X, 2, none⟩ = some (.int .i64 d)) from by
    refine (Hp.hpush_ok LW.held id d h0 hid (due_fresh hp hno) (by omega)).mono ?_
    rintro en w' ⟨rfl, F', l', r1, r2, r3, r4⟩
    obtain ⟨a, t⟩ := LW.turn r1 r3 r4
    refine ⟨rfl, ⟨rfl, _, ⟨F', H, l', a, ?_⟩, (tw.mono (S' := U) (fun _ e => e.elim)).trans t (fun i hi => .inl hi), fun i hi => ?_⟩, a.cell, (pb.keep t nX).cells.2.2⟩
    · refine r2.trans ((List.perm_append_comm (l₁ := hs) (l₂ := [(id, d)])).trans ?_)
      show ((id, d) :: hs).Perm (gDue ⟨id.toNat, ⟨c, l, d⟩⟩ :: m.map gDue)
      have e2 : gDue ⟨id.toNat, ⟨c, l, d⟩⟩ = (id, d) := by show (((id.toNat : Nat) : Int), d) = (id, d); rw [e1]
      rw [e2]
      exact hp.cons _
    · have := tw.size
      exact hi.elim .inl (fun e => .inr (by omega)))
  have Q0 := hide q0
  have T0 := hide (Touch.of_below (S := fun _ => False) b1)
  have P0 := hide p0
  have HW := hide hw1
  have HX := hide hX
  clear h1 hp hl b1 q0 p0 hw1 hX hid hno hn e1 h0 nX
  go_enter Try.func108, Try.ntmps108
  go_upto_region 1 with fail
  rw [← HW.out, ← HX.out]
  go_region_held3 (fun w' => w'.cell? ⟨D, 0, none⟩ = some (.pointer (some ⟨H, 0, none⟩)) ∧ w'.cell? ⟨X, 2, none⟩ = some (.int .i64 d)) (first | exact ⟨z1, z2⟩ | exact y4) (first | (go_at_call 61; refine (PU.out _ (Q0.out.drewN 1) (T0.out.drewN 1) P0.out).mono ?_; rintro en w4 ⟨rfl, r4, y4⟩; have R4 := hide r4; clear r4))
  -- HERE
  go_end0
  exact R4.out
set_option maxHeartbeats 4000000 in
theorem ddrop_any {U : Nat → Prop} {w : World} {D : Nat} {m m' : List Rt} (h : DueIs w U D m) (x : Rt) (c l d : Int) (hid : (Lit.int .i64 (x.id : Int)).wf = true) (pm : (x :: m').Perm m) (hn : m.length ≤ 1000) :
    Calls Try.prog 110 #[.pointer (some ⟨D, 0, none⟩), .int .i64 (x.id : Int), .agg #[.int .i64 c, .int .i64 l, .int .i64 d]] w (SideR (fun w' U' => DueIs w' U' D m') U w (.tuple #[])) := by
  obtain ⟨F, H, hs, h1, hp⟩ := h
  have hl : hs.length = m.length := by rw [hp.length_eq, List.length_map]
  have b1 := (Below.refl w.heap.size w).alloc (Nat.le_refl _) (.cells #[.int .i64 c, .int .i64 l, .int .i64 d] 31)
  have q0 : DueAt (w.alloc (.cells #[.int .i64 c, .int .i64 l, .int .i64 d] 31)) U F D H hs := h1.below b1
  obtain ⟨w1, hw1⟩ : ∃ w1, w1 = w.alloc (.cells #[.int .i64 c, .int .i64 l, .int .i64 d] 31) := ⟨_, rfl⟩
  obtain ⟨X, hX⟩ : ∃ X, X = w.heap.size := ⟨_, rfl⟩
  rw [← hw1] at q0 b1
  have z1 := q0.cell
  have hin : gDue x ∈ hs := hp.mem_iff.mpr (List.mem_map.mpr ⟨x, pm.mem_iff.mp (List.mem_cons_self ..), rfl⟩)
  obtain ⟨i, hi, ei⟩ := List.mem_iff_getElem.mp hin
  rw [← Hp.it_get hi] at ei
  have PU := hide (show Calls Try.prog 65 #[.pointer (some ⟨H, 0, none⟩), .int .i64 (x.id : Int)] w1 fun en w' => en = .returned (.bool true) ∧ SideR (fun w' U' => DueIs w' U' D m') U w (.tuple #[]) (.returned (.tuple #[])) w' from by
    refine (Hp.hdrop_yes q0.held (x.id : Int) hid i hi (by rw [ei]; rfl) (by omega)).mono ?_
    rintro en w' ⟨rfl, l', r1, r2, r3⟩
    rw [ei] at r2
    obtain ⟨a, t⟩ := q0.turn r1 r3 (fun i => .inl)
    refine ⟨rfl, rfl, _, ⟨F, H, l', a, ?_⟩, (Touch.of_below (S := U) b1).trans t (fun i hi => .inl hi), fun i hi => ?_⟩
    · have r3 := (r2.trans hp).trans (pm.symm.map gDue)
      rw [List.map_cons] at r3
      exact (List.perm_cons _).mp r3
    · have := b1.size
      exact hi.elim .inl (fun e => .inr (by omega)))
  have HW := hide hw1
  have HX := hide hX
  clear h1 hp hl b1 q0 hw1 hX hid pm hn hin hi ei
  go_enter Try.func110, Try.ntmps110
  go_upto_region 1 with fail
  rw [← HW.out, ← HX.out]
  go_wp2_with (go_at_call 65; refine PU.out.mono ?_; rintro en w4 ⟨rfl, r4⟩; have R4 := hide r4; clear r4)
  go_end0
  exact R4.out
theorem due_ord {hs : List (Int × Int)} {m : List Rt} (p : hs.Perm (m.map gDue)) (hd : Dues m) : Hp.ord hs = m.map gDue := by
  refine Hp.ord_unique p.symm ?_
  rw [List.pairwise_map]
  refine hd.imp ?_
  intro a c e
  rw [Hp.due_not]
  show ¬ (c.p.d < a.p.d ∨ (c.p.d = a.p.d ∧ (c.id : Int) < (a.id : Int)))
  omega
theorem due_first {hs : List (Int × Int)} {x : Rt} {r : List Rt} (p : hs.Perm ((x :: r).map gDue)) (hd : Dues (x :: r)) (hh : Hp.HeapN hs hs.length) : 0 < hs.length ∧ Hp.it hs 0 = gDue x := by
  have hl := p.length_eq
  rw [List.length_map, List.length_cons] at hl
  have h0 : 0 < hs.length := by omega
  refine ⟨h0, ?_⟩
  obtain ⟨y, hy, ey⟩ := List.mem_map.mp (p.mem_iff.mp (Hp.it_mem h0))
  have hx := Hp.heap_min hh (p.mem_iff.mpr (List.mem_map.mpr ⟨x, List.mem_cons_self .., rfl⟩))
  rw [← ey, Hp.due_not] at hx
  have hx : ¬ (x.p.d < y.p.d ∨ (x.p.d = y.p.d ∧ (x.id : Int) < (y.id : Int))) := hx
  rcases List.mem_cons.mp hy with e | e
  · rw [← ey, e]
  · have := (List.pairwise_cons.mp hd).1 y e
    omega
set_option maxHeartbeats 4000000 in
theorem dfirst_any {U : Nat → Prop} {w : World} {D : Nat} {m : List Rt} (h : DueIs w U D m) (hf : Dues m) :
    Calls Try.prog 111 #[.pointer (some ⟨D, 0, none⟩)] w fun e w' => e = .returned (.tuple #[.int .i64 (firstR m).1, .bool (firstR m).2]) ∧ Below w.heap.size w w' := by
  obtain ⟨F, H, hs, h1, hp⟩ := h
  have z1 := h1.cell
  cases m with
  | nil =>
    have e : hs = [] := List.eq_nil_of_length_eq_zero (by rw [hp.length_eq]; rfl)
    subst e
    have MI := hide (Hp.min_empty h1.held)
    have e0 : Hp.itemBool (0, 0) false = .returned (.tuple #[.agg #[.int .i64 0, .int .i64 0], .bool false]) := rfl
    rw [e0] at MI
    clear h1 hp hf e0
    go_enter Try.func111, Try.ntmps111
    go_wp2_with (go_at_call 69; refine MI.out.mono ?_; rintro e w1 ⟨rfl, b1⟩; have B1 := hide b1; clear b1)
    go_ret2
    exact ⟨rfl, B1.out.alloc B1.out.size _⟩
  | cons x r =>
    obtain ⟨hl, hi⟩ := due_first hp hf h1.held.2
    have MI := hide (Hp.min_some h1.held hl)
    rw [hi] at MI
    have e0 : Hp.itemBool (gDue x) true = .returned (.tuple #[.agg #[.int .i64 (x.id : Int), .int .i64 x.p.d], .bool true]) := rfl
    rw [e0] at MI
    have e1 : (firstR (x :: r)).1 = (x.id : Int) := rfl
    have e2 : (firstR (x :: r)).2 = true := rfl
    rw [e1, e2]
    clear h1 hp hf hl hi e0 e1 e2
    go_enter Try.func111, Try.ntmps111
    go_wp2_with (go_at_call 69; refine MI.out.mono ?_; rintro e w1 ⟨rfl, b1⟩; have B1 := hide b1; clear b1)
    go_ret2
    exact ⟨rfl, B1.out.alloc B1.out.size _⟩
set_option maxHeartbeats 4000000 in
theorem dall_any {U : Nat → Prop} {w : World} {D : Nat} {m : List Rt} (h : DueIs w U D m) (hf : Dues m) (hm : m.length ≤ 1000) :
    Calls Try.prog 109 #[.pointer (some ⟨D, 0, none⟩)] w fun e w' => ∃ v, e = .returned v ∧ w'.ownsRow w.heap.size 3 1 v m.length ((idsR m).map (Value.int .i64)) ∧ Below w.heap.size w w' := by
  obtain ⟨F, H, hs, h1, hp⟩ := h
  have z1 := h1.cell
  have hl : hs.length = m.length := by rw [hp.length_eq, List.length_map]
  have NU := hide (numbers_any h1.held (by omega))
  have e : (Hp.ord hs).map Prod.fst = idsR m := by rw [due_ord hp hf, List.map_map]; rfl
  rw [e, hl] at NU
  have NU2 := NU
  clear h1 hp hf hm hl NU e
  go_enter Try.func109, Try.ntmps109
  go_wp2_with (go_at_call 64; refine NU2.out.mono ?_; rintro e w1 ⟨v, rfl, o1, b1⟩; have O1 := hide o1; have B1 := hide b1; clear o1 b1)
  go_ret
  exact ⟨_, rfl, O1.out, B1.out⟩
end Go.Proofs.Ytccokhalcdljiaa
