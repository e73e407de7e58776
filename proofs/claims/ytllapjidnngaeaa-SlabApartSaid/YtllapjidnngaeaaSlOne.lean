/-
  The program's slab beside the pieces had (SlabApart).
-/
import Derived.Test.YtllapjidnngaeaaPsSlab
import Derived.Test.YtllapjidnngaeaaSlAwake
import Derived.Test.YtllapjidnngaeaaSlScript
namespace Go.Proofs.Ytllapjidnngaeaa
open Go.ChangeShapes Go.WideShapes Go.ChangeAt Go.RowKit
set_option linter.unusedVariables false
/-- The pieces had are those that are taken, each once. -/
structure Lk (l : List Cu) (xs : List Pc) : Prop where
  nodup : xs.Nodup
  mem : ∀ a b c : Int, there l a b c = true ↔ (⟨a, b, c⟩ : Pc) ∈ xs
  len : pieces l = xs.length
theorem Lk.take {n : Int} {l : List Cu} {s : St} {f k c : Nat} {l' : List Cu} {s' : St} {xs : List Pc} (h : Lk l xs) (hf : Fresh n l s f k c l' s') : Lk l' (xs ++ [⟨(f : Int), (k : Int), (c : Int)⟩]) := by
  have hn : (⟨(f : Int), (k : Int), (c : Int)⟩ : Pc) ∉ xs := fun e => by
    have := (h.mem _ _ _).mpr e
    rw [hf.was] at this
    cases this
  refine ⟨List.nodup_append.mpr ⟨h.nodup, by simp, fun a ha b hb e => ?_⟩, fun a b d => ?_, by rw [hf.more, h.len, List.length_append]; rfl⟩
  · rw [List.mem_singleton] at hb
    subst hb; subst e
    exact hn ha
  · rw [hf.now, List.mem_append, List.mem_singleton, h.mem]
    constructor
    · rintro (⟨rfl, rfl, rfl⟩ | h1)
      · exact .inr rfl
      · exact .inl h1
    · rintro (h1 | h1)
      · exact .inr h1
      · injection h1 with h1 h2 h3
        exact .inl ⟨h1, h2, h3⟩
theorem Lk.give {l l' : List Cu} {xs : List Pc} (h : Lk l xs) {i : Nat} (hi : i < xs.length) (hp : pieces l' + 1 = pieces l) (ht : ∀ a b c : Int, there l' a b c = true ↔ there l a b c = true ∧ ¬ (a = xs[i].f ∧ b = xs[i].k ∧ c = xs[i].c)) : Lk l' (xs.take i ++ xs.drop (i + 1)) := by
  have e : xs.take i ++ xs.drop (i + 1) = xs.eraseIdx i := (List.eraseIdx_eq_take_drop_succ xs i).symm
  rw [e]
  refine ⟨h.nodup.sublist (List.eraseIdx_sublist xs i), fun a b c => ?_, ?_⟩
  · rw [ht, h.mem, List.mem_eraseIdx_iff_getElem]
    constructor
    · rintro ⟨h1, h2⟩
      obtain ⟨j, hj, e3⟩ := List.mem_iff_getElem.mp h1
      refine ⟨j, hj, fun e2 => h2 ?_, e3⟩
      subst e2
      rw [e3]
      exact ⟨rfl, rfl, rfl⟩
    · rintro ⟨j, hj, h1, e⟩
      refine ⟨e ▸ List.getElem_mem hj, fun h2 => ?_⟩
      have e3 : xs[j] = xs[i] := by
        rw [e]
        obtain ⟨rfl, rfl, rfl⟩ := h2
        rfl
      have := (List.getElem_inj (h₀ := hj) (h₁ := hi) h.nodup).mp e3
      omega
  · have := h.len
    rw [List.length_eraseIdx_of_lt hi]
    omega
theorem there_wf {l : List Cu} (hc : Cuts l) {a b c : Int} (h : there l a b c = true) : (Lit.int .i64 a).wf = true ∧ (Lit.int .i64 b).wf = true ∧ (Lit.int .i64 c).wf = true := by
  obtain ⟨u, hu, h1⟩ := (there_iff _ _ _ _).mp h
  obtain ⟨q, rfl, rfl, rfl, h4, h5⟩ := hit_true h1
  have h6 := hc.fs u hu
  have h7 := hc.cl u hu
  have h8 := slot_lt h7 h4
  exact ⟨wf_small (by omega), wf_small (by omega), wf_small (by rcases h7 with e | e | e <;> omega)⟩
theorem Took.sn {n : Int} {l : List Cu} {s : St} {f k c e : Nat} {l' : List Cu} {s' : St} (h : Took n l s f k c e l' s') : s'.n = s.n := by cases h <;> rfl
theorem Gave.sn {fr sl sz : Int} {l : List Cu} {s : St} {e : Nat} {l' : List Cu} {s' : St} (h : Gave fr sl sz l s e l' s') : s'.n = s.n := by cases h <;> rfl
/-- The slab, the row of pieces had. -/
structure One (w wr : World) (U : Nat → Prop) (S H : Nat) (l : List Cu) (s : St) (v : Value) (n : Nat) (xs : List Pc) : Prop where
  ps : PsS wr U S H l s
  wh : Whole l s
  n4 : s.n = 4
  bel : Below w.heap.size w wr
  lo : ∀ i, U i → w.heap.size ≤ i
  row : wr.ownsRow w.heap.size 39 3 v n (cellsPcs xs)
  len : xs.length = n
  vU : ∀ g, v.ownBlock = some g → ¬ U g
def Kept (U : Nat → Prop) (w w' : World) : Prop := ∀ i, i < w.heap.size → ¬ U i → w'.heap[i]? = w.heap[i]?
theorem One.side {w wr w' : World} {U : Nat → Prop} {S H : Nat} {l l' : List Cu} {s s' : St} {v : Value} {n : Nat} {xs : List Pc} (h : One w wr U S H l s v n xs) (hw : Whole l' s') (hn : s'.n = s.n) {x : Value} {e : Ending} (hs : Side (fun w' U' => PsS w' U' S H l' s') U wr x e w') :
    e = .returned x ∧ ∃ U', One w w' U' S H l' s' v n xs ∧ Kept U wr w' ∧ ∀ i, i < wr.heap.size → ¬ U i → ¬ U' i := by
  obtain ⟨rfl, U', p, t, hU⟩ := hs
  have old : ∀ i, i < wr.heap.size → ¬ U i → ¬ U' i := fun i hi hn e => (hU i e).elim hn (fun e => by omega)
  refine ⟨rfl, U', ⟨p, hw, hn.trans h.n4, h.bel.trans (t.below h.bel.size h.lo), fun i hi => ?_, t.own h.row (fun g hg => h.vU g hg), h.len, fun g hg => old g (h.row.lt g hg).2 (h.vU g hg)⟩, fun i hi hn => t.block i hi hn, old⟩
  rcases hU i hi with e | e
  · exact h.lo i e
  · have := h.bel.size; omega
theorem One.below {w wr w' : World} {U : Nat → Prop} {S H : Nat} {l : List Cu} {s : St} {v : Value} {n : Nat} {xs : List Pc} (h : One w wr U S H l s v n xs) (u : Below wr.heap.size wr w') : One w w' U S H l s v n xs :=
  ⟨h.ps.below u, h.wh, h.n4, h.bel.trans (u.mono h.bel.size), h.lo, (Touch.of_below (S := fun _ => False) u).own h.row (fun _ _ e => e), h.len, h.vU⟩
theorem One.next {w wr w' : World} {U : Nat → Prop} {S H : Nat} {l : List Cu} {s : St} {v v' : Value} {n n' : Nat} {xs xs' : List Pc} (h : One w wr U S H l s v n xs) (t : Touch (fun i => v.ownBlock = some i) wr w') (r : w'.ownsRow w.heap.size 39 3 v' n' (cellsPcs xs')) (hl : xs'.length = n') (hv : ∀ g, v'.ownBlock = some g → v.ownBlock = some g ∨ wr.heap.size ≤ g) : One w w' U S H l s v' n' xs' :=
  ⟨h.ps.keep t (fun i hi e => h.vU i e hi), h.wh, h.n4, h.bel.trans (t.below h.bel.size (fun i e => (h.row.lt i e).1)), h.lo, r, hl, fun g hg => by
    rcases hv g hg with e | e
    · exact h.vU g e
    · exact fun e2 => by have := h.ps.lt g e2; omega⟩
theorem One.had {w wr : World} {U : Nat → Prop} {S H : Nat} {l : List Cu} {s : St} {A : Option Addr} {c n : Nat} {xs : List Pc} (h : One w wr U S H l s (.slice A n c) n xs) {i : Nat} (hi : i < n) :
    ∃ g, A = some ⟨g, 0, none⟩ ∧ ∃ (hx : i < xs.length), wr.cell? ⟨g, i * 3, none⟩ = some (.int .i64 xs[i].f) ∧ wr.cell? ⟨g, i * 3 + 1, none⟩ = some (.int .i64 xs[i].k) ∧ wr.cell? ⟨g, i * 3 + 2, none⟩ = some (.int .i64 xs[i].c) := by
  have ho := h.row
  have hl := h.len
  obtain ⟨g, rfl⟩ : ∃ g, A = some ⟨g, 0, none⟩ := by
    rcases ho.2 with ⟨e, h0⟩ | ⟨g, cap, cur, e, _⟩
    · omega
    · injection e with e _ _; exact ⟨g, e⟩
  have hx : i < xs.length := by omega
  have hc := fun j (hj : j < 3) => (ho.cellAt (i * 3 + j) (by omega)).trans (cellsPcs_at j hx hj)
  exact ⟨g, rfl, hx, hc 0 (by omega), hc 1 (by omega), hc 2 (by omega)⟩
theorem one_first {w w1 w2 : World} {H A Q S N : Nat} {U : Nat → Prop} (hN : N = 4) (b1 : Below w.heap.size w w1) (hb : ∀ i, Blk H A Q i → w.heap.size ≤ i) (p : PsS w2 U S H [] (St.new N)) (b2 : Below w1.heap.size w1 w2) (hU : ∀ i, U i → Blk H A Q i ∨ w1.heap.size ≤ i) :
    One w w2 U S H [] (St.new N) (.slice none 0 0) 0 [] :=
  ⟨p, whole_new N, hN, b1.trans (b2.mono b1.size), fun i hi => (hU i hi).elim (hb i) (fun e => by have := b1.size; omega), World.ownsRow_nil _ _ _ _, rfl, fun g hg => by cases hg⟩
theorem lk_first : Lk [] [] := ⟨List.nodup_nil, fun a b c => Iff.intro (fun h => (Bool.noConfusion (h : false = true))) (fun h => absurd h List.not_mem_nil), rfl⟩
theorem cellsPcs_split (xs : List Pc) (p : Nat) : cellsPcs xs = cellsPcs (xs.take p) ++ cellsPcs (xs.drop p) := by rw [← cellsPcs_append, List.take_append_drop]
theorem cellsPcs_all (xs : List Pc) : ∀ v ∈ cellsPcs xs, v.oneCell' = true := by
  intro v hv
  obtain ⟨x, _, h⟩ := List.mem_flatMap.mp hv
  exact cellsPc_one x v h
/-- What the two append steps need: the row ahead of p, the row behind it. -/
theorem One.rows {w wr : World} {U : Nat → Prop} {S H g : Nat} {l : List Cu} {s : St} {c n : Nat} {xs : List Pc} (h : One w wr U S H l s (.slice (some ⟨g, 0, none⟩) n c) n xs) {p : Nat} (hp : p < n) : n ≤ c ∧ c ≤ maxLen ∧
    (∀ W : World, W.heap = wr.heap → ∀ j u, (cellsPcs (xs.take p))[j]? = some u → W.cell? ((⟨g, 0, none⟩ : Addr).add j) = some u) ∧
    (∀ W : World, Below wr.heap.size wr W → ∀ j u, (cellsPcs (xs.drop (p + 1)))[j]? = some u → W.cell? ((⟨g, (p + 1) * 3, none⟩ : Addr).add j) = some u) := by
  have ho := h.row
  obtain ⟨a', c', e', _, h1, h2, _⟩ := own_sliceR ho
  injection e' with _ _ e'
  subst e'
  have hg := (ho.lt g rfl).2
  refine ⟨h1, h2, fun W hW j u hu => ?_, fun W hW j u hu => ?_⟩
  · have e1 : W.cell? ((⟨g, 0, none⟩ : Addr).add j) = wr.cell? ((⟨g, 0, none⟩ : Addr).add j) := World.cell?_of_block (by rw [hW])
    rw [e1]
    refine ho.cells rfl j u ?_
    rw [cellsPcs_split xs p, List.getElem?_append_left (List.getElem?_eq_some_iff.mp hu).1]
    exact hu
  · rw [addr_add, hW.cell (p := ⟨g, (p + 1) * 3 + j, none⟩) hg]
    have e : (cellsPcs xs)[(p + 1) * 3 + j]? = some u := by
      have hl : (cellsPcs (xs.take (p + 1))).length = (p + 1) * 3 := by rw [cellsPcs_length, List.length_take, h.len]; congr 1; omega
      rw [cellsPcs_split xs (p + 1), List.getElem?_append_right (by omega), hl, show (p + 1) * 3 + j - (p + 1) * 3 = j by omega]
      exact hu
    have := ho.cells rfl _ u e
    rw [addr_add, Nat.zero_add] at this
    exact this
/-- The rest behind p, wherever the language lets it begin. -/
theorem One.rest {w wr : World} {U : Nat → Prop} {S H g : Nat} {l : List Cu} {s : St} {c n : Nat} {xs : List Pc} (h : One w wr U S H l s (.slice (some ⟨g, 0, none⟩) n c) n xs) {p : Nat} (hp : p < n) : ∃ ad : Addr, (if c = p + 1 then some (⟨g, 0, none⟩ : Addr) else some ⟨g, (p + 1) * 3, none⟩) = some ad ∧
    (∀ W : World, Below wr.heap.size wr W → ∀ j u, (cellsPcs (xs.drop (p + 1)))[j]? = some u → W.cell? (ad.add j) = some u) := by
  obtain ⟨h1, h2, _, h4⟩ := h.rows hp
  by_cases e : c = p + 1
  · refine ⟨⟨g, 0, none⟩, by rw [if_pos e], fun W hW j u hu => ?_⟩
    have : xs.drop (p + 1) = [] := List.drop_eq_nil_of_le (by rw [h.len]; omega)
    rw [this] at hu
    cases hu
  · exact ⟨⟨g, (p + 1) * 3, none⟩, by rw [if_neg e], h4⟩
/-- A piece of those had is given back. -/
theorem Lk.hand {l : List Cu} {xs : List Pc} (h : Lk l xs) (hc : Cuts l) {i : Nat} (hi : i < xs.length) {s : St} (hw : Whole l s) (hg : Good s) :
    ∃ l' s', Gave xs[i].f xs[i].k xs[i].c l s 0 l' s' ∧ Lk l' (xs.take i ++ xs.drop (i + 1)) ∧ (Lit.int .i64 xs[i].f).wf = true ∧ (Lit.int .i64 xs[i].k).wf = true ∧ (Lit.int .i64 xs[i].c).wf = true := by
  have ht : there l xs[i].f xs[i].k xs[i].c = true := (h.mem _ _ _).mpr (List.getElem_mem hi)
  obtain ⟨e, l', s', hgv⟩ := gave_total xs[i].f xs[i].k xs[i].c l s
  rcases hgv.tells hw hc hg with ⟨_, h1, _, _⟩ | ⟨rfl, _, h3, h4⟩
  · rw [ht] at h1; cases h1
  · exact ⟨l', s', hgv, h.give hi h3 h4, there_wf hc ht⟩
end Go.Proofs.Ytllapjidnngaeaa
