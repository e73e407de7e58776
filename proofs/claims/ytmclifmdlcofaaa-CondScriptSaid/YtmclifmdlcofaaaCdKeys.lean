/-
  Sixteen keys that come in by value; bits of a uint16.
-/
import Derived.Test.YtmclifmdlcofaaaCdNone
import Derived.Deep.MidRow
import Derived.OpenShut
import Derived.Test.YtmclifmdlcofaaaCame
namespace Go.Proofs.Ytmclifmdlcofaaa
open Go.ChangeShapes Go.WideShapes Go.ChangeAt Go.RowKit
set_option linter.unusedVariables false
set_option linter.unusedSimpArgs false
def keyVals (ks : List Int) : Array Value := #[.int .i64 (ks.getD 0 0), .int .i64 (ks.getD 1 0), .int .i64 (ks.getD 2 0), .int .i64 (ks.getD 3 0), .int .i64 (ks.getD 4 0), .int .i64 (ks.getD 5 0), .int .i64 (ks.getD 6 0), .int .i64 (ks.getD 7 0), .int .i64 (ks.getD 8 0), .int .i64 (ks.getD 9 0), .int .i64 (ks.getD 10 0), .int .i64 (ks.getD 11 0), .int .i64 (ks.getD 12 0), .int .i64 (ks.getD 13 0), .int .i64 (ks.getD 14 0), .int .i64 (ks.getD 15 0)]
theorem built_keys (ks : List Int) : Try.prog.built 35 [(0, .agg (keyVals ks))] = some (keyVals ks) := by unfold keyVals; kernel_rfl
theorem keyVals_size (ks : List Int) : (keyVals ks).size = 16 := rfl
theorem keyVals_get (ks : List Int) (j : Nat) (hj : j < 16) : (keyVals ks)[j]? = some (.int .i64 (ks.getD j 0)) := by
  unfold keyVals
  match j, hj with
  | 0, _ => rfl
  | 1, _ => rfl
  | 2, _ => rfl
  | 3, _ => rfl
  | 4, _ => rfl
  | 5, _ => rfl
  | 6, _ => rfl
  | 7, _ => rfl
  | 8, _ => rfl
  | 9, _ => rfl
  | 10, _ => rfl
  | 11, _ => rfl
  | 12, _ => rfl
  | 13, _ => rfl
  | 14, _ => rfl
  | 15, _ => rfl
  | j + 16, hj => omega
theorem keysAt_of {w : World} {ks : List Int} (h : ks.length = 16) (t : TypeId) : KeysAt (w.alloc (.cells (keyVals ks) t)) w.heap.size ks := ⟨h, _, t, heap_alloc_new _ _, keyVals_get ks⟩
theorem KeysAt.range {w : World} {K : Nat} {ks : List Int} (h : KeysAt w K ks) : w.rangeAt K 0 (keyVals ks).toList := by
  intro j v hv
  have hj : j < 16 := by
    have := (List.getElem?_eq_some_iff.1 hv).1
    rw [Array.length_toList, keyVals_size] at this
    exact this
  rw [Nat.zero_add, h.cell hj]
  rw [Array.getElem?_toList, keyVals_get ks j hj] at hv
  exact hv
theorem keys_size (ks : List Int) : (Try.prog.info? 23).map (·.size) = some (keyVals ks).toList.length := by
  rw [Array.length_toList, keyVals_size]; kernel_rfl
section
variable {H : Type} {enc : TypeId × Value → H} {P : Program} {w : World} {base : Nat} {spare : Nat → Bool} {held : Bool}
/-- An argument that is an array of integers. -/
theorem array_arg {n : Nat} {r : Reach} {b0 : Nat} {t e : TypeId} {v : Value} {d : DataW H} {ps : List MemPlace} (ht : P.underlying t = some (.array n e)) (he : P.underlying e = some (.int .i64)) (hce : P.cellsOf e = 1) (hC : P.cellsOf t = n) (hval : Value.okWide P w r b0 t v)
    (h : DataW.Trod enc P w base spare held t v d ps) : ∃ zs : List Int, v = .agg (zs.map (Value.int .i64)).toArray ∧ zs.length = n := by
  unfold Value.okWide at hval
  rw [ht] at hval
  obtain ⟨cs, rfl, hsz, _⟩ := hval
  obtain ⟨fuel, hf⟩ := h
  have hf' : DataW.trod enc P w base spare held fuel t cs.toList = some (d, ps) := by simpa [Value.cells] using hf
  obtain ⟨xs, m, _, _, hl, hxs, hi⟩ := DataW.trod_array ht hf'
  rw [hC] at hl
  obtain ⟨zs, hz, hp⟩ := list_of3 n (fun i (z : Int) => cs.toList[i]? = some (.int .i64 z)) (fun i hin => by
    have h1 := hi i hin
    rw [hce, Nat.mul_one] at h1
    have hx : xs[i]? = some (xs[i]'(by omega)) := List.getElem?_eq_getElem (by omega)
    rw [hx] at h1
    obtain ⟨y, hy, _⟩ := DataW.trod_int he h1
    refine ⟨y, ?_⟩
    have := congrArg (·[0]?) hy
    simpa [List.getElem?_take, List.getElem?_drop] using this)
  refine ⟨zs, ?_, hz⟩
  congr 1
  apply Array.ext'
  rw [List.toList_toArray]
  apply List.ext_getElem?
  intro i
  by_cases hin : i < n
  · rw [hp i (zs[i]'(by omega)) (List.getElem?_eq_getElem (by omega)), List.getElem?_map, List.getElem?_eq_getElem (by omega)]
    rfl
  · rw [List.getElem?_eq_none (by omega), List.getElem?_eq_none (by simp; omega)]
end
theorem keyVals_of {zs : List Int} (h : zs.length = 16) : (zs.map (Value.int .i64)).toArray = keyVals zs := by
  apply Array.ext
  · simp [h, keyVals_size]
  · intro i h1 h2
    rw [keyVals_size] at h2
    have e := keyVals_get zs i h2
    obtain ⟨_, e2⟩ := Array.getElem?_eq_some_iff.1 e
    rw [e2]
    simp [List.getD, h2, h]
theorem keys_arg {H : Type} {enc : TypeId × Value → H} {w : World} {base : Nat} {spare : Nat → Bool} {held : Bool} {r : Reach} {b0 : Nat} {v : Value} {d : DataW H} {ps : List MemPlace} (hval : Value.okWide Try.prog w r b0 23 v)
    (h : DataW.Trod enc Try.prog w base spare held 23 v d ps) : ∃ zs : List Int, v = .agg (keyVals zs) ∧ zs.length = 16 := by
  obtain ⟨zs, e, hl⟩ := array_arg Try.underlying23 Try.underlying3 (by kernel_rfl) (by kernel_rfl) hval h
  exact ⟨zs, by rw [e, keyVals_of hl], hl⟩
theorem u16_nat {a : Int} (h : (Lit.int .u16 a).wf = true) : ∃ n : Nat, a = (n : Int) ∧ n < 65536 := by
  have := bounds_u16 h
  exact ⟨a.toNat, by omega, by omega⟩
/-- A bit of a uint16. -/
theorem bit_at (a k : Nat) (ha : a < 65536) : bits .and .u16 ((a : Int) / 2 ^ k) 1 = if a.testBit k = true then 1 else 0 := by
  have e : (a : Int) / 2 ^ k = ((a / 2 ^ k : Nat) : Int) := by rw [Int.natCast_ediv]; congr 1
  have h2 : a / 2 ^ k < 65536 := Nat.lt_of_le_of_lt (Nat.div_le_self _ _) ha
  have h3 := u16_and_nat (a / 2 ^ k) 1 h2 (by omega)
  rw [e]
  refine (show bits .and .u16 ((a / 2 ^ k : Nat) : Int) 1 = _ from h3).trans ?_
  rw [Nat.and_one_is_mod, Nat.testBit_eq_decide_div_mod_eq]
  by_cases h : a / 2 ^ k % 2 = 1
  · rw [if_pos (by simpa using h), h]; rfl
  · rw [if_neg (by simpa using h)]
    have : a / 2 ^ k % 2 = 0 := by omega
    rw [this]; rfl
theorem bit_yes {a k : Nat} (ha : a < 65536) (h : a.testBit k = true) : bits .and .u16 ((a : Int) / 2 ^ k) 1 = 1 := by rw [bit_at a k ha, if_pos h]
theorem bit_no {a k : Nat} (ha : a < 65536) (h : a.testBit k = false) : bits .and .u16 ((a : Int) / 2 ^ k) 1 = 0 := by rw [bit_at a k ha, if_neg (by rw [h]; simp)]
end Go.Proofs.Ytmclifmdlcofaaa
