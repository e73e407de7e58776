/-
  A map from integers to values of one kind, in memory, by a reader of the values (general: no name of a stage). The keys lie from 0 up to a million.
-/
import Derived.Test.YtipepklobpnbpaaGRow
import Derived.Maps.OwnSet
namespace Go.Proofs.Ytipepklobpnbpaa
open Go.ChangeShapes Go.WideShapes Go.ChangeAt Go.RowKit Go.Maps
set_option linter.unusedVariables false
theorem keyI : Keyed Try.prog 3 := int_keyed Try.underlying3
/-- How the values of one kind stand, and what reads them. -/
structure Kind {α : Type} (val : α → Value) (enc : α → DataW Unit) (R : Value → Option (DataW Unit × List MemPlace)) : Prop where
  puts : ∀ x, R (val x) = some (enc x, [])
  inv : ∀ {v : Value} {z : DataW Unit × List MemPlace}, R v = some z → ∃ x, v = val x ∧ z = (enc x, [])
  inj : ∀ {x y : α}, enc x = enc y → x = y
def updF {α : Type} (f : Int → Option α) (k : Int) (v : Option α) : Int → Option α := fun x => if x = k then v else f x
/-- Block M is a map that reads as f. -/
def IM {α : Type} (enc : α → DataW Unit) (R : Value → Option (DataW Unit × List MemPlace)) (w : World) (M : Nat) (f : Int → Option α) : Prop :=
  ∃ (n : Nat) (D : DataW Unit) (ks : List Int), w.ownsMap Try.prog 3 R M n D ∧ Maps.size D = n ∧ ks.Nodup ∧ ks.length = n ∧
    (∀ k, k ∈ ks ↔ (f k).isSome = true) ∧ (∀ k ∈ ks, 0 ≤ k ∧ k < 1000000) ∧ ∀ k, Maps.has D (.int .i64 k) = (f k).isSome ∧ ∀ v, f k = some v → ∀ z, D.atKey (.int .i64 k) z = enc v
theorem few_keys : ∀ (N : Nat) (ks : List Int), ks.Nodup → (∀ k ∈ ks, 0 ≤ k ∧ k < (N : Int)) → ks.length ≤ N := by
  intro N
  induction N with
  | zero =>
    intro ks _ h
    cases ks with
    | nil => simp
    | cons a l => have := h a (List.mem_cons_self ..); omega
  | succ N ih =>
    intro ks hn h
    have h1 := ih (ks.filter fun k => k != (N : Int)) (hn.filter _) (fun k hk => by
      rw [List.mem_filter] at hk
      have := h k hk.1
      have h2 : k ≠ (N : Int) := by simpa using hk.2
      omega)
    have h2 : ks.length ≤ (ks.filter fun k => k != (N : Int)).length + 1 := by
      clear ih h h1
      induction ks with
      | nil => simp
      | cons a l ih =>
        rw [List.nodup_cons] at hn
        by_cases e : a = (N : Int)
        · subst e
          have : (l.filter fun k => k != (N : Int)) = l := List.filter_eq_self.2 fun x hx => by
            have : x ≠ (N : Int) := fun e => hn.1 (e ▸ hx)
            simpa using this
          simp [this]
        · have h3 := ih hn.2
          have : (a != (N : Int)) = true := by simpa using e
          simp [this]
          omega
    omega
section
variable {α : Type} {val : α → Value} {enc : α → DataW Unit} {R : Value → Option (DataW Unit × List MemPlace)} (K : Kind val enc R) {w : World} {M : Nat} {f : Int → Option α} {t e : TypeId}
theorem IM.lt (h : IM enc R w M f) : M < w.heap.size := by obtain ⟨n, D, ks, hD, _⟩ := h; exact hD.lt
theorem IM.few (h : IM enc R w M f) {k : Int} {v : α} (hf : f k = some v) : 0 ≤ k ∧ k < 1000000 := by
  obtain ⟨n, D, ks, _, _, _, _, h5, h6, _⟩ := h
  exact h6 k ((h5 k).2 (by rw [hf]; rfl))
theorem wf_few {k : Int} (h : 0 ≤ k ∧ k < 1000000) : (Lit.int .i64 k).wf = true := by simp [Lit.wf, IntKind.min, IntKind.max, IntKind.bits, IntKind.signed]; omega
theorem IM.keep {w' : World} (h : IM enc R w M f) (e : w'.heap[M]? = w.heap[M]?) : IM enc R w' M f := by
  obtain ⟨n, D, ks, ⟨es, clock, hb, r⟩, rest⟩ := h
  exact ⟨n, D, ks, ⟨es, clock, e.trans hb, r⟩, rest⟩
theorem IM.touch {S : Nat → Prop} {w' : World} (h : IM enc R w M f) (b : Touch S w w') (d : ¬ S M) : IM enc R w' M f := h.keep (b.block M h.lt d)
theorem IM.made {enc : α → DataW Unit} {R : Value → Option (DataW Unit × List MemPlace)} (w : World) {n : Nat} (hn : n = w.heap.size) : IM enc R (w.alloc (.map #[] 0)) n (fun _ => none) := by
  rw [hn]
  exact ⟨0, .map [], [], World.ownsMap_made _ _ _ _, rfl, List.nodup_nil, rfl, (fun k => by simp), (fun k hk => by cases hk), fun k => ⟨rfl, fun v h => by cases h⟩⟩
include K
theorem IM.store (h : IM enc R w M f) (ht : Try.prog.underlying t = some (.map 3 e)) {k : Int} (hk : 0 ≤ k ∧ k < 1000000) (v : α) :
    ∃ w', (Instr.mapUpdate t (.map (some M)) (.int .i64 k) (val v)).run Try.prog w = .ok () w' ∧ IM enc R w' M (updF f k (some v)) ∧ w.grownBy w' (some M) := by
  obtain ⟨n, D, ks, hD, hs, h3, h4, h5, h6, hf⟩ := h
  have hn : n ≤ 1000000 := by rw [← h4]; exact few_keys 1000000 ks h3 h6
  have hkey : keyOf Try.prog 3 (.int .i64 k) = some (.int .i64 k) := keyOf_int_mk Try.underlying3 (wf_few hk)
  have hI : WideAt.IsKeyLit (Lit.int .i64 k) := trivial
  obtain ⟨w', hrun, ho, hg⟩ := hD.update keyI ht (by unfold maxLen; omega) hkey (K.puts v)
  have hT := hD.tidy keyI
  refine ⟨w', hrun, ⟨Maps.size (D.put (.int .i64 k) (enc v)), _, if k ∈ ks then ks else ks ++ [k], ?_, rfl, ?_, ?_, ?_, ?_, fun x => ?_⟩, hg⟩
  · obtain ⟨es, clock, hb, F, hle, hd⟩ := ho
    refine ⟨es, clock, hb, F, ?_, hd⟩
    rw [hd]
    simp [Maps.size, length_sorted]
  · split
    · exact h3
    · rename_i hnk
      rw [List.nodup_append]
      exact ⟨h3, by simp, fun a ha b hb e => hnk (by simp at hb; rw [← hb, ← e]; exact ha)⟩
  · rw [size_put hT, (hf k).1, hs]
    by_cases hm : k ∈ ks
    · rw [if_pos hm, if_pos ((h5 k).1 hm), h4]
    · rw [if_neg hm, if_neg (fun e => hm ((h5 k).2 e)), List.length_append, h4]; rfl
  · intro x
    unfold updF
    by_cases e : x = k
    · subst e
      rw [if_pos rfl]
      by_cases hm : x ∈ ks <;> simp [hm]
    · rw [if_neg e, ← h5 x]
      by_cases hm : k ∈ ks <;> simp [hm, e]
  · intro x hx
    by_cases hm : k ∈ ks
    · rw [if_pos hm] at hx; exact h6 x hx
    · rw [if_neg hm] at hx
      rcases List.mem_append.1 hx with hx | hx
      · exact h6 x hx
      · simp at hx; subst hx; exact hk
  · unfold updF
    by_cases e : x = k
    · subst e
      rw [has_put_same hD.isMap hI, if_pos rfl]
      refine ⟨rfl, fun u hu z => ?_⟩
      rw [← Option.some.inj hu]
      exact atKey_put_same hD.isMap hI _ _
    · have hne : (Lit.int .i64 x) ≠ (Lit.int .i64 k) := fun e' => by injection e' with _ e'; exact e e'
      rw [has_put_other hne, if_neg e]
      refine ⟨(hf x).1, fun u hu z => ?_⟩
      rw [atKey_put_other hne]
      exact (hf x).2 u hu z
omit K in
theorem IM.drop (h : IM enc R w M f) (ht : Try.prog.underlying t = some (.map 3 e)) {k : Int} (hk : (Lit.int .i64 k).wf = true) (ty : TypeId) :
    ∃ w', (Builtin.delete_ #[t, 3] ty #[.map (some M), .int .i64 k]).run Try.prog w = .ok (.tuple #[]) w' ∧ IM enc R w' M (updF f k none) ∧ w.grownBy w' (some M) := by
  obtain ⟨n, D, ks, hD, hs, h3, h4, h5, h6, hf⟩ := h
  have hkey : keyOf Try.prog 3 (.int .i64 k) = some (.int .i64 k) := keyOf_int_mk Try.underlying3 hk
  obtain ⟨w', hrun, ho, hg⟩ := hD.drop keyI ht hkey ty
  have hT := hD.tidy keyI
  refine ⟨w', hrun, ⟨Maps.size (D.del (.int .i64 k)), _, ks.filter fun x => x != k, ?_, rfl, h3.filter _, ?_, ?_, ?_, fun x => ?_⟩, hg.grown⟩
  · obtain ⟨es, clock, hb, F, hle, hd⟩ := ho
    refine ⟨es, clock, hb, F, ?_, hd⟩
    rw [hd]
    simp [Maps.size, length_sorted]
  · have h7 := size_del (k := .int .i64 k) hT
    rw [(hf k).1, hs] at h7
    have h8 : (ks.filter fun x => x != k).length + (if k ∈ ks then 1 else 0) = ks.length := by
      clear h4 h5 h6 hf h7 hs hD ho
      induction ks with
      | nil => simp
      | cons a l ih =>
        rw [List.nodup_cons] at h3
        have h9 := ih h3.2
        by_cases ea : a = k
        · subst ea
          rw [if_neg h3.1] at h9
          simp
          simpa using h9
        · have h1 : (a != k) = true := by simpa using ea
          have h2 : k ≠ a := fun e => ea e.symm
          by_cases hm : k ∈ l
          · rw [if_pos hm] at h9; rw [if_pos (List.mem_cons_of_mem _ hm), List.filter_cons, if_pos h1]; simp only [List.length_cons]; omega
          · rw [if_neg hm] at h9; rw [if_neg (by simp [hm, h2]), List.filter_cons, if_pos h1]; simp only [List.length_cons]; omega
    by_cases hm : k ∈ ks
    · rw [if_pos hm] at h8; rw [if_pos ((h5 k).1 hm)] at h7; omega
    · rw [if_neg hm] at h8; rw [if_neg (fun e => hm ((h5 k).2 e))] at h7; omega
  · intro x
    unfold updF
    rw [List.mem_filter]
    by_cases e : x = k
    · subst e; simp
    · rw [if_neg e, ← h5 x]; simp [e]
  · intro x hx; exact h6 x (List.mem_filter.1 hx).1
  · unfold updF
    by_cases e : x = k
    · subst e
      rw [has_del_same, if_pos rfl]
      exact ⟨rfl, fun u hu => by cases hu⟩
    · have hne : (Lit.int .i64 x) ≠ (Lit.int .i64 k) := fun e' => by injection e' with _ e'; exact e e'
      rw [has_del_other hne, if_neg e]
      refine ⟨(hf x).1, fun u hu z => ?_⟩
      rw [atKey_del_other hne]
      exact (hf x).2 u hu z
theorem IM.look (h : IM enc R w M f) (ht : Try.prog.underlying t = some (.map 3 e)) {z : α} (hz : (zeroValue e).run Try.prog w = .ok (val z) w) {k : Int} (hk : (Lit.int .i64 k).wf = true) :
    (Instr.lookup t (.map (some M)) (.int .i64 k) true).run Try.prog w = .ok (.tuple #[val ((f k).getD z), .bool (f k).isSome]) w := by
  obtain ⟨n, D, ks, hD, hs, h3, h4, h5, h6, hf⟩ := h
  have hkey : keyOf Try.prog 3 (.int .i64 k) = some (.int .i64 k) := keyOf_int_mk Try.underlying3 hk
  obtain ⟨v, ps, hrun, hv⟩ := hD.look_ok keyI ht hz (K.puts z) hkey
  obtain ⟨c, rfl, hc⟩ := K.inv hv
  simp only [Prod.mk.injEq] at hc
  rw [hrun, (hf k).1]
  cases e : f k with
  | none =>
    have hh : Maps.has D (.int .i64 k) = false := by rw [(hf k).1, e]; rfl
    rw [atKey_of_not_has hh] at hc
    rw [← K.inj hc.1]; rfl
  | some u =>
    have := (hf k).2 u e
    rw [this] at hc
    rw [← K.inj hc.1]; rfl
theorem IM.look1 (h : IM enc R w M f) (ht : Try.prog.underlying t = some (.map 3 e)) {z : α} (hz : (zeroValue e).run Try.prog w = .ok (val z) w) {k : Int} (hk : (Lit.int .i64 k).wf = true) :
    (Instr.lookup t (.map (some M)) (.int .i64 k) false).run Try.prog w = .ok (val ((f k).getD z)) w := by
  obtain ⟨n, D, ks, ⟨es, clock, hb, F, _, hd⟩, hs, h3, h4, h5, h6, hf⟩ := h
  have hkey : keyOf Try.prog 3 (.int .i64 k) = some (.int .i64 k) := keyOf_int_mk Try.underlying3 hk
  have h1 := hf k
  rw [hd] at h1
  rcases Maps.fit_look false keyI ht hz hb F hkey with ⟨hr, _, hat⟩ | ⟨e0, y, _, _, hr, hRv, hat, _⟩
  · rw [Maps.has_false_of_atKey hat] at h1
    rw [hr]
    cases e : f k with
    | none => rfl
    | some u => rw [e] at h1; cases h1.1
  · rw [Maps.has_true_of_atKey hat] at h1
    obtain ⟨c, e1, e2⟩ := K.inv hRv
    rw [hr]
    cases e : f k with
    | none => rw [e] at h1; cases h1.1
    | some u =>
      have := h1.2 u e y.1
      rw [hat] at this
      rw [e1]
      rw [e2] at this
      rw [K.inj this]; rfl
end
/-- The three kinds of values. -/
def readI (v : Value) : Option (DataW Unit × List MemPlace) := match v with
  | .int .i64 x => some (.lit (.int .i64 x), [])
  | _ => none
theorem kindI : Kind (fun x : Int => Value.int .i64 x) (fun x : Int => (DataW.lit (.int .i64 x) : DataW Unit)) readI where
  puts := fun x => rfl
  inv := by
    intro v z h
    unfold readI at h
    split at h
    · rename_i x; injection h with h; exact ⟨x, rfl, h.symm⟩
    · cases h
  inj := by intro x y h; simpa using h
theorem kindU : Kind (fun _ : Unit => Value.agg #[]) (fun _ : Unit => (DataW.agg [] : DataW Unit)) unitElem where
  puts := fun _ => unitElem_mk
  inv := by intro v z h; obtain ⟨h1, h2⟩ := unitElem_inv h; exact ⟨(), h1, h2⟩
  inj := by intro x y _; rfl
/-- A slice, as it stands in a map. -/
structure Sl where
  a : Option Nat
  n : Nat
  c : Nat
def slV (x : Sl) : Value := .slice (x.a.map fun b => ⟨b, 0, none⟩) x.n x.c
def slE (x : Sl) : DataW Unit := .map [(.int .i64 0, .lit (.int .i64 (match x.a with | none => -1 | some b => (b : Int)))), (.int .i64 1, .lit (.int .i64 x.n)), (.int .i64 2, .lit (.int .i64 x.c))]
def readS (v : Value) : Option (DataW Unit × List MemPlace) := match v with
  | .slice none n c => some (slE ⟨none, n, c⟩, [])
  | .slice (some ⟨b, 0, none⟩) n c => some (slE ⟨some b, n, c⟩, [])
  | _ => none
theorem kindS : Kind slV slE readS where
  puts := by intro x; obtain ⟨a, n, c⟩ := x; cases a <;> rfl
  inv := by
    intro v z h
    unfold readS at h
    split at h
    · rename_i n c; injection h with h; exact ⟨⟨none, n, c⟩, rfl, h.symm⟩
    · rename_i b n c; injection h with h; exact ⟨⟨some b, n, c⟩, rfl, h.symm⟩
    · cases h
  inj := by
    intro x y h
    obtain ⟨a, n, c⟩ := x
    obtain ⟨a', n', c'⟩ := y
    unfold slE at h
    simp at h
    obtain ⟨h1, h2, h3⟩ := h
    obtain rfl : n = n' := by omega
    obtain rfl : c = c' := by omega
    cases a <;> cases a' <;> simp at h1 ⊢ <;> omega
end Go.Proofs.Ytipepklobpnbpaa
