/-
  Contracts of the program's frames: Read.
-/
import Derived.Test.YtllapjidnngaeaaFrOpsD
namespace Go.Proofs.Ytllapjidnngaeaa
open Go.ChangeShapes Go.WideShapes Go.ChangeAt Go.RowKit
set_option linter.unusedVariables false
/-- n bytes of frame i from off on. -/
def St.part (s : St) (i off n : Nat) : List Int := (List.range n).map fun j => s.bt i (off + j)
theorem part_len (s : St) (i off n : Nat) : (s.part i off n).length = n := by simp [St.part]
theorem own_full {w : World} {B g n : Nat} {e : TypeId} {xs : List Value} (h : w.ownsRow B e 1 (.slice (some ⟨g, 0, none⟩) n n) n xs) : w.heap[g]? = some (.cells xs.toArray e (0, 0)) ∧ xs.length = n := by
  have hl : xs.length = n := by have := h.1; omega
  refine ⟨?_, hl⟩
  rcases h.2 with ⟨hn, _⟩ | ⟨g', cap, cur, e1, e2, e3, e4, e5, e6, e7⟩
  · cases hn
  · injection e1 with e8 _ e9
    injection e8 with e8
    injection e8 with e8 _ _
    subst e8 e9
    rw [e3, ← e7, List.take_of_length_le (by simp; omega)]
theorem own_of_full {w : World} {B g n : Nat} {e : TypeId} {xs : List Value} (h : w.heap[g]? = some (.cells xs.toArray e (0, 0))) (hl : xs.length = n) (hB : B ≤ g) (hm : n ≤ maxLen) : w.ownsRow B e 1 (.slice (some ⟨g, 0, none⟩) n n) n xs :=
  ⟨by omega, .inr ⟨g, n, xs.toArray, rfl, hB, h, Nat.le_refl _, hm, by simp [hl], by simp [← hl]⟩⟩
theorem splice_all {α : Type} {L cs : List α} (h : cs.length = L.length) : splice L 0 cs = cs := by simp [splice, h]
theorem fr_src {w : World} {H A Q : Nat} {s : St} (f : Fr w H A Q s) {i off n : Nat} (hi : i < s.n) (hf : off + n ≤ 64) : ∀ j v, ((s.part i off n).map (Value.int .u8))[j]? = some v → w.cell? ((⟨A, i * 65 + 1 + off, none⟩ : Addr).add j) = some v := by
  intro j v hv
  rw [List.getElem?_map] at hv
  rw [addr_add]
  by_cases hj : j < n
  · have e : (s.part i off n)[j]? = some (s.bt i (off + j)) := by simp [St.part, hj]
    rw [e] at hv
    injection hv with hv
    rw [← hv, show i * 65 + 1 + off + j = i * 65 + (1 + (off + j)) by omega]
    exact f.bt i (off + j) hi (by omega)
  · have e : (s.part i off n)[j]? = none := by rw [List.getElem?_eq_none]; rw [part_len]; omega
    rw [e] at hv; cases hv
theorem part_bytes {s : St} (g : Good s) {i off n : Nat} (hi : i < s.n) (hf : off + n ≤ 64) : Bytes (s.part i off n) := by
  intro y hy
  unfold St.part at hy
  obtain ⟨j, hj, rfl⟩ := List.mem_map.1 hy
  rw [List.mem_range] at hj
  exact g.byte i (off + j) hi (by omega)
end Go.Proofs.Ytllapjidnngaeaa
