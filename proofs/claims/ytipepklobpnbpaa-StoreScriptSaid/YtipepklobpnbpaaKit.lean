/-
  Small words that all texts of this seat share.
-/
import Derived.Test.YtipepklobpnbpaaRows
import Derived.WalkKit
import Derived.ProofKit
import Derived.OpenShut
import Derived.LoopTactic
import Derived.Outline
import Derived.ChangeOld
import Derived.Below
import Derived.WalkSmall
namespace Go.Proofs.Ytipepklobpnbpaa
open Go.ChangeShapes Go.WideShapes Go.ChangeAt Go.RowKit
set_option linter.unusedVariables false
theorem hide {p : Prop} (h : p) : Hid p := h
theorem ret_val {k : IntKind} {a b : Int} (h : a = b) : Value.int k a = .int k b := by rw [h]
theorem ret_int {k : IntKind} {a b : Int} (h : a = b) : Ending.returned (.int k a) = .returned (.int k b) := by rw [h]
theorem ret_bool {a b : Bool} (h : a = b) : Ending.returned (.bool a) = .returned (.bool b) := by rw [h]
theorem own : ownKnob Try.prog.godebug = none := by kernel_rfl
theorem laidOut : laidOutB Try.prog = true := by kernel_rfl
theorem take_succ_getD (l : List Int) (k : Nat) (h : k < l.length) : l.take (k + 1) = l.take k ++ [l.getD k 0] := by
  rw [List.take_succ_eq_append_getElem h]; simp [List.getD, h]
/-- A slice of n integers that reads as 'xs', nil let in. -/
def Ints (q : IntKind) (w : World) (a : Option Addr) (n : Nat) (xs : List Int) : Prop :=
  xs.length = n ∧ (0 < n → ∃ b off, a = some ⟨b, off, none⟩ ∧ ∀ j, j < n → w.cell? ⟨b, off + j, none⟩ = some (.int q (xs.getD j 0)))
/-- What comes in: a slice that reads as 'xs', each fitting its kind, its length and room within the model's bound. -/
def CameIn (q : IntKind) (w : World) (a : Option Addr) (n c : Nat) (xs : List Int) : Prop :=
  Ints q w a n xs ∧ n ≤ c ∧ c ≤ maxLen ∧ (a = none → c = 0) ∧ ∀ x ∈ xs, (Lit.int q x).wf = true
theorem lt_of_cell? {w : World} {a : Addr} {v : Value} (h : w.cell? a = some v) : a.block < w.heap.size := by
  unfold World.cell? at h
  rcases Nat.lt_or_ge a.block w.heap.size with hlt | hge
  · exact hlt
  · rw [Array.getElem?_eq_none hge] at h; cases h
theorem cameIn_open {q : IntKind} {w : World} {x : Addr} {l c : Nat} {zs : List Int} (hl : l ≤ c) (hm : c ≤ maxLen) (hz : zs.length = c)
    (hcell : ∀ i, i < zs.length → w.cell? (x.add i) = some (.int q (zs.getD i 0))) (hwz : ∀ n ∈ zs, (Lit.int q n).wf = true) : CameIn q w (some x) l c (zs.take l) := by
  refine ⟨⟨by simp; omega, fun hn => ?_⟩, hl, hm, (fun h => by cases h), fun y hy => hwz y (List.mem_of_mem_take hy)⟩
  obtain ⟨b, off, rfl, hc⟩ := ints_at hcell (by omega)
  refine ⟨b, off, rfl, fun j hj => ?_⟩
  rw [hc j (by omega)]
  simp [List.getD, hj]
theorem cameIn_nil {q : IntKind} {w : World} : CameIn q w none 0 0 [] := ⟨⟨rfl, fun h => absurd h (by omega)⟩, Nat.le_refl _, by unfold maxLen; omega, fun _ => rfl, fun _ h => by cases h⟩
theorem Ints.keep {q : IntKind} {w w' : World} {a : Option Addr} {n : Nat} {xs : List Int} (h : Ints q w a n xs) (hk : ∀ p : Addr, p.block < w.heap.size → w'.cell? p = w.cell? p) : Ints q w' a n xs := by
  refine ⟨h.1, fun hn => ?_⟩
  obtain ⟨b, off, e, hc⟩ := h.2 hn
  refine ⟨b, off, e, fun j hj => ?_⟩
  have hb : b < w.heap.size := lt_of_cell? (hc j hj)
  rw [hk ⟨b, off + j, none⟩ hb]; exact hc j hj
theorem Ints.below {q : IntKind} {w w' : World} {a : Option Addr} {n : Nat} {xs : List Int} (h : Ints q w a n xs) (hb : Below w.heap.size w w') : Ints q w' a n xs := h.keep fun _ hp => hb.cell hp
theorem ints_two (q : IntKind) (w : World) (x y : Int) (t : TypeId) : Ints q (w.alloc (.cells #[.int q x, .int q y] t)) (some ⟨w.heap.size, 0, none⟩) 2 [x, y] := by
  refine ⟨rfl, fun _ => ⟨_, _, rfl, fun j hj => ?_⟩⟩
  match j, hj with
  | 0, _ => simp
  | 1, _ => simp
theorem ints_two_at (q : IntKind) (w : World) (x y : Int) (t : TypeId) (n : Nat) (hn : n = w.heap.size) : Ints q (w.alloc (.cells #[.int q x, .int q y] t)) (some ⟨n, 0, none⟩) 2 [x, y] := by
  subst hn; exact ints_two q w x y t
theorem ints_cell1 (q : IntKind) (w : World) (x : Int) (t : TypeId) (n : Nat) (hn : n = w.heap.size) : Ints q (w.alloc (.cells #[.int q x] t)) (some ⟨n, 0, none⟩) 1 [x] := by
  subst hn
  refine ⟨rfl, fun _ => ⟨_, _, rfl, fun j hj => ?_⟩⟩
  match j, hj with
  | 0, _ => simp
theorem Ints.drew {q : IntKind} {w : World} {a : Option Addr} {n : Nat} {xs : List Int} (h : Ints q w a n xs) : Ints q w.drew a n xs := h
theorem below_drewN {B : Nat} {a w : World} (h : Below B a w) (n : Nat) : Below B a (w.drewN n) := ⟨h.os, h.tape, h.output, h.size, h.block⟩
theorem below_one {w w' : World} {o : Obj} {n : Nat} (hb : Below n (w.alloc o) w') (hn : w.heap.size ≤ n) : Below w.heap.size w w' :=
  ((Below.refl _ _).alloc (Nat.le_refl _) _).trans (hb.mono hn)
theorem below_one_drew {w w' : World} {o : Obj} (hb : Below (w.alloc o).drew.heap.size (w.alloc o).drew w') : Below w.heap.size w w' :=
  (((Below.refl _ _).alloc (Nat.le_refl _) _).drew).trans (hb.mono (by show w.heap.size ≤ (w.alloc o).heap.size; simp))
theorem below_two {w w' : World} {o1 o2 : Obj} {n : Nat} (hb : Below n ((w.alloc o1).alloc o2) w') (hn : w.heap.size ≤ n) : Below w.heap.size w w' :=
  (((Below.refl _ _).alloc (Nat.le_refl _) _).alloc (by simp) _).trans (hb.mono hn)
end Go.Proofs.Ytipepklobpnbpaa
