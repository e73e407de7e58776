/-
  The document's own frames by the set of blocks that they own: contracts of Take and Give.
-/
import Derived.Test.YtipepklobpnbpaaRfOpsC
namespace Go.Proofs.Ytipepklobpnbpaa
open Go.ChangeShapes Go.WideShapes Go.ChangeAt Go.RowKit
set_option linter.unusedVariables false
/-- What is there and is not of G. -/
def Out (w : World) (G : Nat → Prop) (i : Nat) : Prop := i < w.heap.size ∧ ¬ G i
/-- The document's own frames, in blocks of G. -/
def RfG (w : World) (G : Nat → Prop) (R t b : Nat) (s : St) (fresh : Nat) (back : List Nat) : Prop :=
  Rf w (Out w G) R t b s fresh back ∧ ∀ i, G i → i < w.heap.size
theorem RfG.rs {w : World} {G : Nat → Prop} {R t b : Nat} {s : St} {fresh : Nat} {back : List Nat} (h : RfG w G R t b s fresh back) : ∀ i, RS R t b i → G i := fun i hi => Classical.byContradiction fun e => h.1.nP i hi ⟨h.1.lt i hi, e⟩
theorem Rf.mono {w : World} {P P' : Nat → Prop} {R t b : Nat} {s : St} {fresh : Nat} {back : List Nat} (h : Rf w P R t b s fresh back) (hs : ∀ i, P' i → i < w.heap.size) (hd : ∀ i, i < w.heap.size → P' i → P i) : Rf w P' R t b s fresh back := by
  have far : ∀ g', Far P R t b g' → Far P' R t b g' := fun g' h1 => ⟨fun e => h1.1 (hd g' (hs g' e) e), h1.2⟩
  refine ⟨h.good, h.fr, h.le, ?_, h.tk, ?_, hs, fun i hi e => h.nP i hi (hd i (hs i e) e), h.dRt, h.dRb, h.dtb⟩
  · obtain ⟨v, e1, ho, hv⟩ := h.hd
    exact ⟨v, e1, ho, fun g' hg' => far g' (hv g' hg')⟩
  · obtain ⟨cur, ty, e1, hs, hc⟩ := h.by_
    refine ⟨cur, ty, e1, hs, fun i hi hit => ?_⟩
    obtain ⟨g', c, a1, a2, a3, a4, a5⟩ := hc i hi hit
    exact ⟨g', c, a1, a2, a3, a4, far g' a5⟩
/-- Behind a call that kept P: what is new is owned too. -/
theorem RfG.next {w w' : World} {G : Nat → Prop} {R t b : Nat} {s s' : St} {fresh fresh' : Nat} {back back' : List Nat} (h : RfG w G R t b s fresh back) (r : Rf w' (Out w G) R t b s' fresh' back') (u : Touch (RS R t b) w w') :
    ∃ G', RfG w' G' R t b s' fresh' back' ∧ Touch G w w' ∧ (∀ i, G' i → G i ∨ w.heap.size ≤ i) := by
  refine ⟨fun i => G i ∨ (w.heap.size ≤ i ∧ i < w'.heap.size), ⟨r.mono (fun i e => e.1) (fun i hi e => ?_), fun i hi => ?_⟩, u.mono h.rs, fun i hi => hi.imp id (fun e => e.1)⟩
  · refine ⟨?_, fun hg => e.2 (.inl hg)⟩
    have h1 := e.2
    have h2 := e.1
    have : ¬ w.heap.size ≤ i := fun h3 => h1 (.inr ⟨h3, h2⟩)
    omega
  · rcases hi with hi | hi
    · exact Nat.lt_of_lt_of_le (h.2 i hi) u.size
    · exact hi.2
/-- What turns none of its blocks. -/
theorem RfG.keep {S G : Nat → Prop} {w w' : World} {R t b : Nat} {s : St} {fresh : Nat} {back : List Nat} (h : RfG w G R t b s fresh back) (u : Touch S w w') (hS : ∀ i, G i → ¬ S i) : RfG w' G R t b s fresh back := by
  have u2 : Touch (Out w G) w w' := ⟨u.os, u.tape, u.output, u.size, fun i hi hn => u.block i hi (fun e => hn ⟨hi, fun hg => hS i hg e⟩)⟩
  have r := h.1.touch u2 (fun _ e => e)
  have far : ∀ g', g' < w.heap.size → Far (Out w G) R t b g' → Far (Out w' G) R t b g' := fun g' hl h1 => ⟨fun e => h1.1 ⟨hl, e.2⟩, h1.2⟩
  refine ⟨⟨r.good, r.fr, r.le, ?_, r.tk, ?_, fun i e => e.1, fun i hi e => h.1.nP i hi ⟨h.1.lt i hi, e.2⟩, r.dRt, r.dRb, r.dtb⟩, fun i hi => Nat.lt_of_lt_of_le (h.2 i hi) u.size⟩
  · obtain ⟨v, e1, ho, hv⟩ := h.1.hd
    have hR : w'.heap[R]? = w.heap[R]? := u.block R (lt_of_heap e1) (fun e => hS R (h.rs R (.inl rfl)) e)
    have hg : ∀ g', v.ownBlock = some g' → G g' := fun g' hg' => Classical.byContradiction fun e => (hv g' hg').1 ⟨(ho.lt g' hg').2, e⟩
    exact ⟨v, hR.trans e1, u.own ho (fun g' hg' => hS g' (hg g' hg')), fun g' hg' => far g' (ho.lt g' hg').2 (hv g' hg')⟩
  · obtain ⟨cur, ty, e1, hs, hc⟩ := h.1.by_
    refine ⟨cur, ty, (u.block b (lt_of_heap e1) (fun e => hS b (h.rs b (.inr (.inr rfl))) e)).trans e1, hs, fun i hi hit => ?_⟩
    obtain ⟨g', c, a1, a2, a3, a4, a5⟩ := hc i hi hit
    have hl : g' < w.heap.size := by
      obtain ⟨b', o, e, hcell⟩ := a4.2 (by omega)
      injection e with e
      injection e with e _ _
      rw [e]
      exact lt_of_cell? (hcell 0 (by omega))
    have hg : G g' := Classical.byContradiction fun e => a5.1 ⟨hl, e⟩
    exact ⟨g', c, a1, a2, a3, u.ints a4 (fun b o e => by injection e with e; injection e with e _ _; rw [← e]; exact hS g' hg), far g' hl a5⟩
theorem RfG.below {G : Nat → Prop} {w w' : World} {R t b : Nat} {s : St} {fresh : Nat} {back : List Nat} (h : RfG w G R t b s fresh back) (u : Below w.heap.size w w') : RfG w' G R t b s fresh back := h.keep (S := fun _ => False) (Touch.of_below u) (fun _ _ e => e)
/-- Give back a frame that is taken. -/
theorem rgive_own {w : World} {G : Nat → Prop} {R t b : Nat} {s : St} {fresh : Nat} {back : List Nat} (h : RfG w G R t b s fresh back) (i : Nat) (hi : i < s.n) (ht : s.tk i = true) :
    Calls Try.prog 46 #[.pointer (some ⟨R, 0, none⟩), .int .i64 (i : Nat)] w fun e w' => e = .returned (.int .i64 0) ∧ ∃ G', RfG w' G' R t b (s.give i) fresh (back ++ [i]) ∧ Touch G w w' ∧ (∀ i, G' i → G i ∨ w.heap.size ≤ i) := by
  refine (rgive_ok h.1 i hi ht).mono ?_
  rintro e w' ⟨rfl, r, u⟩
  exact ⟨rfl, h.next r u⟩
/-- Take a frame, if there is one. -/
theorem rtake_own {w : World} {G : Nat → Prop} {R t b : Nat} {s : St} {fresh : Nat} {back : List Nat} (h : RfG w G R t b s fresh back) {l : List Nat} {x : Nat} (hfr : s.fr = l ++ [x]) :
    Calls Try.prog 44 #[.pointer (some ⟨R, 0, none⟩)] w fun e w' => e = .returned (.tuple #[.int .i64 (x : Nat), .int .i64 0]) ∧ ∃ G' fresh' back', RfG w' G' R t b (s.take l x) fresh' back' ∧ Touch G w w' ∧ (∀ i, G' i → G i ∨ w.heap.size ≤ i) := by
  have hfr0 := h.1.fr
  have hle := h.1.le
  rcases List.eq_nil_or_concat back with rfl | ⟨l0, x0, rfl⟩
  · have hlt : fresh < s.n := by
      rcases Nat.lt_or_ge fresh s.n with e | e
      · exact e
      · rw [show s.n - fresh = 0 by omega, hfr] at hfr0
        have := congrArg List.length hfr0
        simp [fallen] at this
    have hfr1 : s.fr = fallen s.n (s.n - (fresh + 1)) ++ [fresh] := by
      rw [hfr0, List.append_nil, show s.n - fresh = s.n - (fresh + 1) + 1 by omega, fallen_succ]
      congr 2; omega
    obtain ⟨e1, e2⟩ := List.append_inj' (hfr.symm.trans hfr1) rfl
    injection e2 with e2 _
    subst e1 e2
    refine (rtake_fresh h.1 hlt).mono ?_
    rintro e w' ⟨rfl, r, u⟩
    obtain ⟨G', a1, a2, a3⟩ := h.next r u
    exact ⟨rfl, G', _, _, a1, a2, a3⟩
  · rw [List.concat_eq_append] at *
    have hfr1 : s.fr = (fallen s.n (s.n - fresh) ++ l0) ++ [x0] := by rw [hfr0, List.append_assoc]
    obtain ⟨e1, e2⟩ := List.append_inj' (hfr.symm.trans hfr1) rfl
    injection e2 with e2 _
    subst e1 e2
    refine (rtake_back h.1).mono ?_
    rintro e w' ⟨rfl, r, u⟩
    obtain ⟨G', a1, a2, a3⟩ := h.next r u
    exact ⟨rfl, G', _, _, a1, a2, a3⟩
/-- There is none. -/
theorem rtake_none {w : World} {G : Nat → Prop} {R t b : Nat} {s : St} {fresh : Nat} {back : List Nat} (h : RfG w G R t b s fresh back) (hfr : s.fr = []) :
    Calls Try.prog 44 #[.pointer (some ⟨R, 0, none⟩)] w fun e w' => e = .returned (.tuple #[.int .i64 0, .int .i64 3]) ∧ ∃ m, w' = w.drewN m := by
  have hl := h.1.len
  have hle := h.1.le
  rw [hfr] at hl
  have hb : back = [] := List.eq_nil_of_length_eq_zero (by simp at hl; omega)
  subst hb
  exact rtake_full h.1 (by simp at hl; omega)
end Go.Proofs.Ytipepklobpnbpaa
