/-
  The document's own May, Least, Sum (coxswainref10).
-/
import Derived.Test.YteeofpjfgjhemaaRkPlain
import Derived.Deep.DeepCutAuto
import Derived.Deep.CutBlock
namespace Go.Proofs.Yteeofpjfgjhemaa
open Go.ChangeShapes Go.WideShapes Go.ChangeAt Go.RowKit
set_option linter.unusedVariables false
theorem quietI {P : Program} {f : FuncId} {args : Array Value} {w : World} {n : Nat} {v : Value} (h : Calls P f args (w.drewN n) fun e w' => e = .returned v ∧ w.drewN n = w') : Calls P f args (w.drewN n) fun e w' => e = .returned v ∧ ∃ m, w' = w.drewN m := by
  refine h.mono ?_
  rintro e w' ⟨rfl, rfl⟩
  exact ⟨rfl, n, rfl⟩
theorem drew_more {w wr : World} {nq : Nat} (h : ∃ q, wr = w.drewN q) : ∃ q, wr.drewN nq = w.drewN q := by
  obtain ⟨q, rfl⟩ := h
  exact ⟨q + nq, by simp [World.drewN, Nat.add_assoc]⟩
theorem any_take_succ {hs : List Int} {k : Nat} {h : Int} {p : Int → Bool} (he : hs[k]? = some h) (hn : (hs.take k).any p = false) : (hs.take (k + 1)).any p = p h := by
  have hk : k < hs.length := (List.getElem?_eq_some_iff.1 he).1
  rw [List.take_succ_eq_append_getElem hk, List.any_append, hn]
  rw [List.getElem?_eq_getElem hk] at he
  injection he with he
  simp [he]
theorem fold_take_succ {β : Type} {us : List Int} {k : Nat} {u : Int} {f : β → Int → β} {s : β} (he : us[k]? = some u) : (us.take (k + 1)).foldl f s = f ((us.take k).foldl f s) u := by
  have hk : k < us.length := (List.getElem?_eq_some_iff.1 he).1
  rw [List.take_succ_eq_append_getElem hk, List.foldl_append]
  rw [List.getElem?_eq_getElem hk] at he
  injection he with he
  simp [he]
end Go.Proofs.Yteeofpjfgjhemaa
