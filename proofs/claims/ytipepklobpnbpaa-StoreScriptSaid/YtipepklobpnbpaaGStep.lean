/-
  An append of elements of several cells in a region that draws; a row of one's own as one that came in.
-/
import Derived.Test.YtipepklobpnbpaaGRow
import Derived.Test.YtipepklobpnbpaaCame
import Derived.Deep.RegionLaw
namespace Go.Proofs.Ytipepklobpnbpaa
open Go.ChangeShapes Go.WideShapes Go.ChangeAt Go.RowKit
set_option linter.unusedVariables false
theorem step_append_reads {α : Type} {zz : Nat} {vals : α → List Value} {P : Program} {ops : Array Oper} {o : Oper} {a : Act} {w : World} {K : Act → World → Prop} {Q : Exit → Act → World → Prop} {E : Prop} (hgd : o.guard = none) (s x : Operand) (ty : TypeId)
    (ho : o.op = .call { callee := .builtin .append, args := #[s, x], argTypes := #[ty, ty] }) (base : Nat) (e : TypeId) (i : TypeInfo) (zv : Value) (bytes : Nat) (ht : P.underlying ty = some (.slice e)) (hi : P.info? e = some i) (hz : i.zero = some zv)
    (hsize : i.size = zz) (hby : i.bytes = bytes) (hzs : zv.cells.size = zz) (hsz : 0 < zz) (v : Value) (n : Nat) (xs : List Value) (hs : a.eval s = v) (hown : w.ownsRow base e zz v n xs)
    (A : Option Addr) (m c : Nat) (ys : List α) (hx : a.eval x = .slice A m c) (hv : ∀ x, (vals x).length = zz) (h1 : ∀ x, ∀ v ∈ vals x, v.oneCell' = true) (hr : Reads zz vals w A m ys) (hnil : A = none → c = 0)
    (h63 : n + m ≤ maxLen) (hbytes : (n + m) * bytes ≤ 140737488355328) (hbase : base ≤ w.heap.size)
    (h : ∀ v' w', w'.ownsRow base e zz v' (n + m) (xs ++ ys.flatMap vals) → w.grownBy w' v.ownBlock → K (a.put o.dst v') w') :
    if Region.wanted o (yielded ops a.tmps) = true then Oper.wp P o a w K Q else E := by
  have hw : Region.wanted o (yielded ops a.tmps) = true := by simp [Region.wanted, hgd]
  rw [if_pos hw]
  cases A with
  | none =>
    obtain rfl := hr.isNil rfl
    obtain rfl : ys = [] := List.eq_nil_of_length_eq_zero hr.1
    obtain rfl := hnil rfl
    have hrun := run_append_owned_none (P := P) (w := w) base ty o.type e i zz ht hi v n xs hown
    unfold Oper.wp execOp
    simp only [ho, resolve, invoke, builtin, Sem.run_bind, Sem.run_pure, Result.andThen_ok, List.map_toArray, List.map_cons, List.map_nil, hs, hx, hrun]
    exact h v w (by simpa using hown) (World.grownBy.refl w _)
  | some ad =>
    obtain ⟨v', w', hrun, h2, h3, _, _⟩ := run_append_own_at (P := P) w base ty o.type e i zv zz bytes ht hi hz hsize hby hzs hsz v n xs hown ad m c (ys.flatMap vals) (by rw [flat_length hv, hr.1]) (hr.cells hv ad rfl) (flat_cell h1 ys) h63 hbytes hbase
    unfold Oper.wp execOp
    simp only [ho, resolve, invoke, builtin, Sem.run_bind, Sem.run_pure, Result.andThen_ok, List.map_toArray, List.map_cons, List.map_nil, hs, hx, hrun]
    exact h v' w' h2 h3
theorem came_own {α : Type} {z : Nat} {vals : α → List Value} {fits : World → α → Prop} (hv : ∀ x, (vals x).length = z) (hz : 0 < z) {w : World} {B n : Nat} {e : TypeId} {v : Value} {xs : List α} (h : w.ownsRow B e z v n (xs.flatMap vals)) (hf : ∀ x ∈ xs, fits w x) : ∃ a c, v = .slice a n c ∧ Came z vals fits w a n c xs := by
  obtain ⟨a, c, rfl, h1, h2, h3, h4⟩ := own_reads hv hz h
  refine ⟨a, c, rfl, h1.1, h2, h3, h4, hf, fun hn => ?_⟩
  obtain ⟨b, off, e, hc⟩ := h1.2 hn
  refine ⟨b, off, e, ?_, hc⟩
  have hx : xs[0]? = some (xs[0]'(by rw [h1.1]; exact hn)) := List.getElem?_eq_getElem _
  have hj : 0 < (vals (xs[0]'(by rw [h1.1]; exact hn))).length := by rw [hv]; exact hz
  exact lt_of_cell? (hc 0 _ hx 0 _ (List.getElem?_eq_getElem hj))
end Go.Proofs.Ytipepklobpnbpaa
