/-
  What is lent beside both; what each act does to both.
-/
import Derived.Test.YtbahhdocjnmncaaFrOver
namespace Go.Proofs.Ytbahhdocjnmncaa
open Go.ChangeShapes Go.WideShapes Go.ChangeAt Go.RowKit
set_option linter.unusedVariables false
theorem quiet_left {P : Program} {f : FuncId} {args : Array Value} {w : World} {n : Nat} {v : Value} (h : Calls P f args (w.drewN n) fun e w' => e = .returned v ∧ w.drewN n = w') : Calls P f args (w.drewN n) fun e w' => e = .returned v ∧ ∃ m, w' = w.drewN m :=
  h.mono fun e w' hh => ⟨hh.1, n, hh.2.symm⟩
theorem quiet_more {P : Program} {f : FuncId} {args : Array Value} {w : World} {n : Nat} {v : Value} (h : Calls P f args (w.drewN n) fun e w' => e = .returned v ∧ ∃ m, w' = (w.drewN n).drewN m) : Calls P f args (w.drewN n) fun e w' => e = .returned v ∧ ∃ m, w' = w.drewN m :=
  h.mono fun e w' ⟨he, m, hm⟩ => ⟨he, n + m, by rw [hm, World.drewN_drewN]⟩
/-- One block more that is none of the document's. -/
def And1 (P : Nat → Prop) (g i : Nat) : Prop := P i ∨ i = g
theorem Rf.widen {w w' : World} {P : Nat → Prop} {R t b g : Nat} {s : St} {fresh : Nat} {back : List Nat} (h : Rf w P R t b s fresh back) (hg : w.heap.size ≤ g) (u : Below w.heap.size w w') (hgl : g < w'.heap.size) : Rf w' (And1 P g) R t b s fresh back := by
  have far : ∀ g', Far P R t b g' → g' < w.heap.size → Far (And1 P g) R t b g' := fun g' h1 h2 => ⟨fun e => e.elim h1.1 (fun e => by omega), h1.2⟩
  have h2 := h.below u
  refine ⟨h.good, h.fr, h.le, ?_, h2.tk, ?_, fun i hi => hi.elim (h2.plt i) (fun e => by rw [e]; exact hgl), fun i hi e => e.elim (h.nP i hi) (fun e => by have := h.lt i hi; omega), h.dRt, h.dRb, h.dtb⟩
  · obtain ⟨v, e1, ho, hv⟩ := h.hd
    have u' : Touch (fun _ => False) w w' := Touch.of_below u
    exact ⟨v, (u.block R (lt_of_heap e1)).trans e1, u'.own ho (fun _ _ e => e), fun g' hg' => far g' (hv g' hg') (ho.lt g' hg').2⟩
  · obtain ⟨cur, ty, e1, hs, hc⟩ := h.by_
    refine ⟨cur, ty, (u.block b (lt_of_heap e1)).trans e1, hs, fun i hi hit => ?_⟩
    obtain ⟨g', c, a1, a2, a3, a4, a5⟩ := hc i hi hit
    refine ⟨g', c, a1, a2, a3, a4.below u, far g' a5 ?_⟩
    obtain ⟨b', o, e, hcell⟩ := a4.2 (by omega)
    injection e with e
    injection e with e _ _
    rw [e]
    exact lt_of_cell? (hcell 0 (by omega))
theorem Rf.narrow {w : World} {P : Nat → Prop} {R t b g : Nat} {s : St} {fresh : Nat} {back : List Nat} (h : Rf w (And1 P g) R t b s fresh back) : Rf w P R t b s fresh back := by
  have far : ∀ g', Far (And1 P g) R t b g' → Far P R t b g' := fun g' h1 => ⟨fun e => h1.1 (.inl e), h1.2⟩
  refine ⟨h.good, h.fr, h.le, ?_, h.tk, ?_, fun i hi => h.plt i (.inl hi), fun i hi e => h.nP i hi (.inl e), h.dRt, h.dRb, h.dtb⟩
  · obtain ⟨v, e1, ho, hv⟩ := h.hd
    exact ⟨v, e1, ho, fun g' hg' => far g' (hv g' hg')⟩
  · obtain ⟨cur, ty, e1, hs, hc⟩ := h.by_
    refine ⟨cur, ty, e1, hs, fun i hi hit => ?_⟩
    obtain ⟨g', c, a1, a2, a3, a4, a5⟩ := hc i hi hit
    exact ⟨g', c, a1, a2, a3, a4, far g' a5⟩
/-- Both, and the block that is lent. -/
structure Tg (w wr : World) (H A Q R t b g : Nat) (s s' : St) (fresh : Nat) (back : List Nat) : Prop where
  fr : Fr wr H A Q s
  rf : Rf wr (And1 (Blk H A Q) g) R t b s' fresh back
  bel : Below w.heap.size w wr
  blk : ∀ i, Blk H A Q i → w.heap.size ≤ i
  rs : ∀ i, RS R t b i → w.heap.size ≤ i
  hg : w.heap.size ≤ g
  nB : ¬ Blk H A Q g
theorem Tg.nR {w wr : World} {H A Q R t b g : Nat} {s s' : St} {fresh : Nat} {back : List Nat} (h : Tg w wr H A Q R t b g s s' fresh back) : ¬ RS R t b g := fun e => h.rf.nP g e (.inr rfl)
theorem Tw.lend {w wr w' : World} {H A Q R t b : Nat} {s s' : St} {fresh : Nat} {back : List Nat} (h : Tw w wr H A Q R t b s s' fresh back) (u : Below wr.heap.size wr w') (hl : wr.heap.size < w'.heap.size) : Tg w w' H A Q R t b wr.heap.size s s' fresh back :=
  ⟨h.fr.below u, h.rf.widen (Nat.le_refl _) u hl, h.bel.trans (u.mono h.bel.size), h.blk, h.rs, h.bel.size, fun e => by have := h.rf.plt _ e; omega⟩
theorem Tg.left {w wr w' : World} {H A Q R t b g : Nat} {s s' s2 : St} {fresh : Nat} {back : List Nat} (h : Tg w wr H A Q R t b g s s' fresh back) (f : Fr w' H A Q s2) (u : Touch (Blk H A Q) wr w') : Tg w w' H A Q R t b g s2 s' fresh back :=
  ⟨f, h.rf.touch u (fun _ e => .inl e), h.bel.trans (u.below h.bel.size h.blk), h.blk, h.rs, h.hg, h.nB⟩
theorem Tg.right {w wr w' : World} {H A Q R t b g : Nat} {s s' s2 : St} {fresh fresh2 : Nat} {back back2 : List Nat} (h : Tg w wr H A Q R t b g s s' fresh back) (f : Rf w' (And1 (Blk H A Q) g) R t b s2 fresh2 back2) (u : Touch (RS R t b) wr w') : Tg w w' H A Q R t b g s s2 fresh2 back2 :=
  ⟨h.fr.touch u (fun i hi e => h.rf.nP i e (.inl hi)), f, h.bel.trans (u.below h.bel.size h.rs), h.blk, h.rs, h.hg, h.nB⟩
theorem Tg.below {w wr w' : World} {H A Q R t b g : Nat} {s s' : St} {fresh : Nat} {back : List Nat} (h : Tg w wr H A Q R t b g s s' fresh back) (u : Below wr.heap.size wr w') : Tg w w' H A Q R t b g s s' fresh back :=
  ⟨h.fr.below u, h.rf.below u, h.bel.trans (u.mono h.bel.size), h.blk, h.rs, h.hg, h.nB⟩
theorem Tg.over {w wr w' : World} {H A Q R t b g : Nat} {s s' : St} {fresh : Nat} {back : List Nat} (h : Tg w wr H A Q R t b g s s' fresh back) (u : Touch (fun i => i = g) wr w') : Tw w w' H A Q R t b s s' fresh back :=
  ⟨h.fr.touch u (fun i hi e => h.nB (e ▸ hi)), (h.rf.touch u (fun _ e => .inr e)).narrow, h.bel.trans (u.below h.bel.size (fun i e => by rw [e]; exact h.hg)), h.blk, h.rs⟩
theorem Cop.over {w wr w' : World} {H A Q R t b X g : Nat} {d i o m : Int} {aa : Option Addr} {l c : Nat} (h : Cop w wr H A Q R t b X d i o m aa l c) (u : Touch (fun i => i = g) wr w') (hX : X ≠ g) : Cop w w' H A Q R t b X d i o m aa l c := ⟨(u.block X (lt_of_heap h.cells) hX).trans h.cells, h.nB, h.nR⟩
/-- A code of 0: what holds then. -/
theorem code_zero {s : St} {i off n : Int} (h : code s i off n = 0) : ∃ k o m : Nat, i = (k : Int) ∧ off = (o : Int) ∧ n = (m : Int) ∧ k < s.n ∧ s.tk k = true ∧ o + m ≤ 64 := by
  by_cases hc : 0 ≤ i ∧ i < s.n ∧ fit off n = true
  · obtain ⟨k, rfl⟩ := Int.eq_ofNat_of_zero_le hc.1
    have hf : 0 ≤ off ∧ 0 ≤ n ∧ n ≤ 64 - off := by have := hc.2.2; simp [fit] at this; omega
    obtain ⟨o, rfl⟩ := Int.eq_ofNat_of_zero_le hf.1
    obtain ⟨m, rfl⟩ := Int.eq_ofNat_of_zero_le hf.2.1
    refine ⟨k, o, m, rfl, rfl, rfl, by omega, ?_, by omega⟩
    unfold code at h
    rw [if_pos hc, Int.toNat_natCast] at h
    cases e : s.tk k with
    | true => rfl
    | false => rw [e] at h; simp at h
  · rw [code_arg hc] at h; exact absurd h (by decide)
end Go.Proofs.Ytbahhdocjnmncaa
