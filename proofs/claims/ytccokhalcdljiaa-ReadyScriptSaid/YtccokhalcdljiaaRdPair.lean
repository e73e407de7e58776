/-
  Two queues of the program's beside one another; what order they were filled in does not show.
-/
import Derived.Test.YtccokhalcdljiaaRdFirst
import Derived.Test.YtccokhalcdljiaaFrLow
namespace Go.Proofs.Ytccokhalcdljiaa
open Go.ChangeShapes Go.WideShapes Go.ChangeAt Go.RowKit
set_option linter.unusedVariables false
theorem sorted_ext {l m : List Rt} (hl : l.Pairwise (fun a b => aheadR a b = true)) (hm : m.Pairwise (fun a b => aheadR a b = true)) (h : ∀ x, x ∈ l ↔ x ∈ m) : l = m := by
  induction l generalizing m with
  | nil =>
    cases m with
    | nil => rfl
    | cons b m => exact absurd ((h b).mpr List.mem_cons_self) List.not_mem_nil
  | cons a l ih =>
    cases m with
    | nil => exact absurd ((h a).mp List.mem_cons_self) List.not_mem_nil
    | cons b m =>
      obtain ⟨a1, a2⟩ := List.pairwise_cons.mp hl
      obtain ⟨b1, b2⟩ := List.pairwise_cons.mp hm
      have hab : a = b := by
        rcases List.mem_cons.mp ((h a).mp List.mem_cons_self) with e | e
        · exact e
        · rcases List.mem_cons.mp ((h b).mpr List.mem_cons_self) with e2 | e2
          · exact e2.symm
          · have h1 := a1 b e2
            have h2 := b1 a e
            rw [aheadR_asymm h1] at h2; cases h2
      subst hab
      rw [ih a2 b2 (fun x => ?_)]
      constructor
      · intro hx
        rcases List.mem_cons.mp ((h x).mp (List.mem_cons_of_mem _ hx)) with e | e
        · subst e; have := a1 x hx; rw [aheadR_irrefl] at this; cases this
        · exact e
      · intro hx
        rcases List.mem_cons.mp ((h x).mpr (List.mem_cons_of_mem _ hx)) with e | e
        · subst e; have := b1 x hx; rw [aheadR_irrefl] at this; cases this
        · exact e
theorem mem_addR {l : List Rt} {id : Int} {p : Pr} {x : Rt} : x ∈ addR l id p ↔ x ∈ l ∨ addE l id p = 0 ∧ x = ⟨id.toNat, p⟩ := by
  unfold addR
  by_cases e : addE l id p = 0
  · rw [if_pos e, mem_insR]; simp [e]
  · rw [if_neg e]; simp [e]
theorem mem_bld_iff {ps : List Pr} {k : Nat} {x : Rt} : x ∈ bldR ps k ↔ x.id < k ∧ x.p = ps.getD x.id prD ∧ mayP x.p = true := by
  induction k with
  | zero => constructor
            · intro h; cases h
            · intro h; omega
  | succ k ih =>
    show x ∈ addR _ _ _ ↔ _
    rw [mem_addR, ih, bld_addE]
    constructor
    · rintro (⟨h1, h2, h3⟩ | ⟨h1, rfl⟩)
      · exact ⟨by omega, h2, h3⟩
      · have e : ((k : Int)).toNat = k := by omega
        refine ⟨by show (k : Int).toNat < k + 1; omega, by show _ = ps.getD (k : Int).toNat prD; rw [e], ?_⟩
        show mayP (ps.getD k prD) = true
        cases h : mayP (ps.getD k prD) with
        | true => rfl
        | false => rw [h] at h1; simp at h1
    · rintro ⟨h1, h2, h3⟩
      by_cases e : x.id < k
      · exact .inl ⟨e, h2, h3⟩
      · have e2 : x.id = k := by omega
        refine .inr ⟨?_, ?_⟩
        · rw [h2, e2] at h3; rw [h3]; rfl
        · obtain ⟨i, p⟩ := x
          have e2 : i = k := e2
          have h2 : p = ps.getD i prD := h2
          subst e2 h2
          simp
/-- The other queue behind k rounds. -/
def bldB (ps : List Pr) (n : Nat) : Nat → List Rt
  | 0 => []
  | k + 1 => addR (bldB ps n k) ((n - 1 - k : Nat) : Int) (ps.getD (n - 1 - k) prD)
theorem mem_bldB {ps : List Pr} {n k : Nat} (hk : k ≤ n) {x : Rt} : (x ∈ bldB ps n k ↔ n - k ≤ x.id ∧ x.id < n ∧ x.p = ps.getD x.id prD ∧ mayP x.p = true) := by
  induction k generalizing x with
  | zero => constructor
            · intro h; cases h
            · intro h; omega
  | succ k ih =>
    have ih := fun x => ih (x := x) (by omega)
    have hno : hasR (bldB ps n k) ((n - 1 - k : Nat) : Int) = false := by
      cases e : hasR (bldB ps n k) ((n - 1 - k : Nat) : Int) with
      | false => rfl
      | true =>
        obtain ⟨y, hy, e2⟩ := (hasR_iff _ _).mp e
        have := ((ih y).mp hy).1
        omega
    have hE : ∀ p, addE (bldB ps n k) ((n - 1 - k : Nat) : Int) p = if mayP p = true then 0 else 2 := fun p => by
      unfold addE
      cases h : mayP p with
      | true => rw [if_neg (by simp), hno]; rfl
      | false => rw [if_pos (.inr rfl)]; rfl
    show x ∈ addR _ _ _ ↔ _
    rw [mem_addR, ih, hE]
    constructor
    · rintro (⟨h0, h1, h2, h3⟩ | ⟨h1, rfl⟩)
      · exact ⟨by omega, h1, h2, h3⟩
      · have e : (((n - 1 - k : Nat) : Int)).toNat = n - 1 - k := by omega
        refine ⟨by show n - (k + 1) ≤ ((n - 1 - k : Nat) : Int).toNat; omega, by show ((n - 1 - k : Nat) : Int).toNat < n; omega, by show _ = ps.getD ((n - 1 - k : Nat) : Int).toNat prD; rw [e], ?_⟩
        show mayP (ps.getD (n - 1 - k) prD) = true
        cases h : mayP (ps.getD (n - 1 - k) prD) with
        | true => rfl
        | false => rw [h] at h1; simp at h1
    · rintro ⟨h0, h1, h2, h3⟩
      by_cases e : n - k ≤ x.id
      · exact .inl ⟨e, h1, h2, h3⟩
      · have e2 : x.id = n - 1 - k := by omega
        refine .inr ⟨?_, ?_⟩
        · rw [h2, e2] at h3; rw [h3]; rfl
        · obtain ⟨i, p⟩ := x
          have e2 : i = n - 1 - k := e2
          have h2 : p = ps.getD i prD := h2
          subst e2 h2
          simp
theorem bldB_le (ps : List Pr) (n k : Nat) : (bldB ps n k).length ≤ k := by
  induction k with
  | zero => exact Nat.le_refl _
  | succ k ih =>
    show (addR _ _ _).length ≤ _
    unfold addR
    split
    · rw [insR_len]; omega
    · omega
theorem bld_same {ps : List Pr} {n : Nat} (h1 : GoodR (bldR ps n)) (h2 : GoodR (bldB ps n n)) : bldB ps n n = bldR ps n :=
  sorted_ext h2.up h1.up (fun x => by rw [mem_bldB (Nat.le_refl _), mem_bld_iff]; exact ⟨fun h => h.2, fun h => ⟨by omega, h⟩⟩)
/-- Two queues of the program's. -/
structure PairR (PQ : World → (Nat → Prop) → Nat → List Rt → Prop) (w wr : World) (U V : Nat → Prop) (S T : Nat) (l m : List Rt) : Prop where
  ps : PQ wr U S l
  qs : PQ wr V T m
  bel : Below w.heap.size w wr
  dis : ∀ i, U i → ¬ V i
  lo : ∀ i, U i → w.heap.size ≤ i
  lo2 : ∀ i, V i → w.heap.size ≤ i
section
variable {PQ : World → (Nat → Prop) → Nat → List Rt → Prop}
theorem PairR.swap {w wr : World} {U V : Nat → Prop} {S T : Nat} {l m : List Rt} (h : PairR PQ w wr U V S T l m) : PairR PQ w wr V U T S m l := ⟨h.qs, h.ps, h.bel, fun i hi e => h.dis i e hi, h.lo2, h.lo⟩
theorem PairR.moveL (C : PReady PQ) {w wr w' : World} {U U' V : Nat → Prop} {S T : Nat} {l l' m : List Rt} (h : PairR PQ w wr U V S T l m) (p : PQ w' U' S l') (u : Touch U wr w') (hU : ∀ i, U' i → U i ∨ wr.heap.size ≤ i) : PairR PQ w w' U' V S T l' m := by
  refine ⟨p, C.keep h.qs u (fun i hi e => h.dis i e hi), h.bel.trans (u.below h.bel.size h.lo), fun i hi hv => ?_, fun i hi => ?_, h.lo2⟩
  · rcases hU i hi with e | e
    · exact h.dis i e hv
    · have := C.lt h.qs i hv; omega
  · rcases hU i hi with e | e
    · exact h.lo i e
    · have := h.bel.size; omega
theorem PairR.left (C : PReady PQ) {w wr w' : World} {U V : Nat → Prop} {S T : Nat} {l l' m : List Rt} (h : PairR PQ w wr U V S T l m) {x : Value} {e : Ending} (hs : SideR (fun w' U' => PQ w' U' S l') U wr x e w') : e = .returned x ∧ ∃ U', PairR PQ w w' U' V S T l' m := by
  obtain ⟨rfl, U', p, u, hU⟩ := hs
  exact ⟨rfl, U', h.moveL C p u hU⟩
theorem PairR.right (C : PReady PQ) {w wr w' : World} {U V : Nat → Prop} {S T : Nat} {l m m' : List Rt} (h : PairR PQ w wr U V S T l m) {x : Value} {e : Ending} (hs : SideR (fun w' U' => PQ w' U' T m') V wr x e w') : e = .returned x ∧ ∃ V', PairR PQ w w' U V' S T l m' := by
  obtain ⟨he, V', h2⟩ := h.swap.left C hs
  exact ⟨he, V', h2.swap⟩
theorem PairR.below (C : PReady PQ) {w wr w' : World} {U V : Nat → Prop} {S T : Nat} {l m : List Rt} (h : PairR PQ w wr U V S T l m) (b : Below wr.heap.size wr w') : PairR PQ w w' U V S T l m :=
  ⟨C.below h.ps b, C.below h.qs b, h.bel.trans (b.mono h.bel.size), h.dis, h.lo, h.lo2⟩
/-- All of the one, then all of the other. -/
theorem PairR.allL (C : PReady PQ) {w wr w' : World} {U V : Nat → Prop} {S T : Nat} {l m : List Rt} (h : PairR PQ w wr U V S T l m) {e : Ending} (ha : AllP (fun w' U' => PQ w' U' S l) U l wr e w') :
    ∃ A c, e = .returned (.slice A l.length c) ∧ w'.ownsRow 0 3 1 (.slice A l.length c) l.length ((allR l).map (Value.int .i64)) ∧ (∃ U', PairR PQ w w' U' V S T l m) ∧ ∀ g, (Value.slice A l.length c).ownBlock = some g → ¬ V g := by
  obtain ⟨A, c, he, ho, U', p, u, hU, _⟩ := ha
  exact ⟨A, c, he, own_base ho (Nat.zero_le _), ⟨U', h.moveL C p u hU⟩, fun g hg e => by have := (ho.lt g hg).1; have := C.lt h.qs g e; omega⟩
theorem PairR.allR (C : PReady PQ) {w wr w' : World} {U V : Nat → Prop} {S T : Nat} {l m : List Rt} (h : PairR PQ w wr U V S T l m) {e : Ending} (ha : AllP (fun w' U' => PQ w' U' T m) V m wr e w') :
    ∃ A c, e = .returned (.slice A m.length c) ∧ w'.ownsRow 0 3 1 (.slice A m.length c) m.length ((Go.Proofs.Ytccokhalcdljiaa.allR m).map (Value.int .i64)) ∧ (∃ V', PairR PQ w w' U V' S T l m) ∧ Touch V wr w' := by
  obtain ⟨A, c, he, ho, V', p, u, hU, _⟩ := ha
  exact ⟨A, c, he, own_base ho (Nat.zero_le _), ⟨V', (h.swap.moveL C p u hU).swap⟩, u⟩
theorem pairR_first (C : PReady PQ) {w w1 w2 : World} {S T : Nat} {U V : Nat → Prop} {l m : List Rt} (p1 : PQ w1 U S l) (b1 : Below w.heap.size w w1) (l1 : ∀ i, U i → w.heap.size ≤ i) (p2 : PQ w2 V T m) (b2 : Below w1.heap.size w1 w2) (l2 : ∀ i, V i → w1.heap.size ≤ i) :
    PairR PQ w w2 U V S T l m :=
  ⟨C.below p1 b2, p2, b1.trans (b2.mono b1.size), fun i hi e => by have := C.lt p1 i hi; have := l2 i e; omega, l1, fun i e => by have := b1.size; have := l2 i e; omega⟩
end
end Go.Proofs.Ytccokhalcdljiaa
