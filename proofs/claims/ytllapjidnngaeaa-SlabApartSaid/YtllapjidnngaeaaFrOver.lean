/-
  The contract of OverBytes (coxswainlaw0), by the one block that it turns; the program's frames beside the document's own.
-/
import Derived.Test.YtllapjidnngaeaaRfOpsD
import Derived.Deep.DeepCutAuto
import Derived.Deep.CutBlock
namespace Go.Proofs.Ytllapjidnngaeaa
open Go.ChangeShapes Go.WideShapes Go.ChangeAt Go.RowKit
set_option linter.unusedVariables false
/-- The program's frames and the document's own, beside one another. -/
structure Tw (w wr : World) (H A Q R t b : Nat) (s s' : St) (fresh : Nat) (back : List Nat) : Prop where
  fr : Fr wr H A Q s
  rf : Rf wr (Blk H A Q) R t b s' fresh back
  bel : Below w.heap.size w wr
  blk : ∀ i, Blk H A Q i → w.heap.size ≤ i
  rs : ∀ i, RS R t b i → w.heap.size ≤ i
theorem Tw.left {w wr w' : World} {H A Q R t b : Nat} {s s' s2 : St} {fresh : Nat} {back : List Nat} (h : Tw w wr H A Q R t b s s' fresh back) (f : Fr w' H A Q s2) (u : Touch (Blk H A Q) wr w') : Tw w w' H A Q R t b s2 s' fresh back :=
  ⟨f, h.rf.touch u (fun _ e => e), h.bel.trans (u.below h.bel.size h.blk), h.blk, h.rs⟩
theorem Tw.right {w wr w' : World} {H A Q R t b : Nat} {s s' s2 : St} {fresh fresh2 : Nat} {back back2 : List Nat} (h : Tw w wr H A Q R t b s s' fresh back) (f : Rf w' (Blk H A Q) R t b s2 fresh2 back2) (u : Touch (RS R t b) wr w') : Tw w w' H A Q R t b s s2 fresh2 back2 :=
  ⟨h.fr.touch u (fun i hi e => h.rf.nP i e hi), f, h.bel.trans (u.below h.bel.size h.rs), h.blk, h.rs⟩
theorem Tw.below {w wr w' : World} {H A Q R t b : Nat} {s s' : St} {fresh : Nat} {back : List Nat} (h : Tw w wr H A Q R t b s s' fresh back) (u : Below wr.heap.size wr w') : Tw w w' H A Q R t b s s' fresh back :=
  ⟨h.fr.below u, h.rf.below u, h.bel.trans (u.mono h.bel.size), h.blk, h.rs⟩
theorem Tw.drewN {w wr : World} {H A Q R t b : Nat} {s s' : St} {fresh : Nat} {back : List Nat} (h : Tw w wr H A Q R t b s s' fresh back) (m : Nat) : Tw w (wr.drewN m) H A Q R t b s s' fresh back := h.below (below_drewN (Below.refl _ _) m)
/-- What turns one block that is neither's. -/
theorem Tw.other {w wr w' : World} {H A Q R t b g : Nat} {s s' : St} {fresh : Nat} {back : List Nat} (h : Tw w wr H A Q R t b s s' fresh back) (u : Touch (fun i => i = g) wr w') (hB : ¬ Blk H A Q g) (hR : ¬ RS R t b g) (hw : w.heap.size ≤ g)
    (hd : Rf w' (Blk H A Q) R t b s' fresh back) : Tw w w' H A Q R t b s s' fresh back :=
  ⟨h.fr.touch u (fun i hi e => hB (e ▸ hi)), hd, h.bel.trans (u.below h.bel.size (fun i e => by rw [e]; exact hw)), h.blk, h.rs⟩
theorem num_any (w : World) (x : Int) : Calls Try.prog 12 #[.int .i64 x] w fun e w' => e = .returned (.int .i64 x) ∧ w = w' := by
  go_enter Try.func12, Try.ntmps12
  go_wp2_with fail
  go_ret
  exact ⟨rfl, rfl⟩
end Go.Proofs.Ytllapjidnngaeaa
