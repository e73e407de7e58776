/-
  Contracts of the document's own Write of frames.
-/
import Derived.Test.YtipepklobpnbpaaRfOpsC
namespace Go.Proofs.Ytipepklobpnbpaa
open Go.ChangeShapes Go.WideShapes Go.ChangeAt Go.RowKit
set_option linter.unusedVariables false
/-- The bytes behind k steps of the loop. -/
def stepped (f : Nat → Int) (off : Nat) (ys : List Int) (k : Nat) : List Int := (List.range 64).map (over f off (ys.take k))
theorem stepped_len (f : Nat → Int) (off : Nat) (ys : List Int) (k : Nat) : (stepped f off ys k).length = 64 := by simp [stepped]
theorem stepped_zero (f : Nat → Int) (off : Nat) (ys : List Int) : stepped f off ys 0 = (List.range 64).map f := by
  unfold stepped
  apply List.map_congr_left
  intro j _
  unfold over
  rw [if_neg (by simp)]
theorem stepped_succ (f : Nat → Int) (off : Nat) (ys : List Int) (k : Nat) (hk : k < ys.length) (hf : off + ys.length ≤ 64) : ((stepped f off ys k).map (Value.int .u8)).set (off + k) (.int .u8 (ys.getD k 0)) = (stepped f off ys (k + 1)).map (Value.int .u8) := by
  have hl : ∀ k, ((stepped f off ys k).map (Value.int .u8)).length = 64 := fun k => by rw [List.length_map, stepped_len]
  apply List.ext_getElem
  · rw [List.length_set, hl, hl]
  · intro j h1 h2
    rw [hl] at h2
    have hl1 : (ys.take k).length = k := by simp; omega
    have hl2 : (ys.take (k + 1)).length = k + 1 := by simp; omega
    rw [List.getElem_set]
    by_cases e : off + k = j
    · subst e
      rw [if_pos rfl]
      simp only [stepped, List.getElem_map, List.getElem_range]
      unfold over
      rw [if_pos (by rw [hl2]; omega), show off + k - off = k by omega]
      simp [List.getD, hk]
    · rw [if_neg e]
      simp only [stepped, List.getElem_map, List.getElem_range]
      congr 1
      unfold over
      by_cases hr : off ≤ j ∧ j < off + k
      · rw [if_pos (by rw [hl1]; exact hr), if_pos (by rw [hl2]; omega)]
        have h3 : j - off < k := by omega
        have h4 : j - off < k + 1 := by omega
        simp [List.getD, h3, h4]
      · rw [if_neg (by rw [hl1]; exact hr), if_neg (by rw [hl2]; omega)]
theorem stepped_all (f : Nat → Int) (off : Nat) (ys : List Int) : stepped f off ys ys.length = (List.range 64).map (over f off ys) := by unfold stepped; rw [List.take_length]
theorem put_end {w W : World} {P : Nat → Prop} {R t b g c : Nat} {s : St} {fresh : Nat} {back : List Nat} (h : Rf w P R t b s fresh back) {i off : Nat} {ys : List Int} (hi : i < s.n) (ht : s.tk i = true) (hy : Bytes ys) (hf : off + ys.length ≤ 64) (hb : Below w.heap.size w W)
    (ho : W.ownsRow w.heap.size 5 1 (.slice (some ⟨g, 0, none⟩) 64 c) 64 (((List.range 64).map (over (s.bt i) off ys)).map (Value.int .u8))) : Rf (W.setCell ⟨b, i, none⟩ (.slice (some ⟨g, 0, none⟩) 64 c)) P R t b (s.put i off ys) fresh back ∧ Touch (RS R t b) w (W.setCell ⟨b, i, none⟩ (.slice (some ⟨g, 0, none⟩) 64 c)) := by
  have h2 := h.below hb
  have hg := (ho.lt g rfl).1
  obtain ⟨a', c', e', _, hc1, hc2, _⟩ := own_sliceR ho
  injection e' with _ _ e'
  subst e'
  obtain ⟨A', c', e', hints, _⟩ := own_ints ho
  injection e' with e' _ _
  have u : Touch (RS R t b) w (W.setCell ⟨b, i, none⟩ (.slice (some ⟨g, 0, none⟩) 64 c)) := touch_rs (Touch.of_below hb) (.inr (.inr rfl))
  refine ⟨⟨good_put h.good ht hy hf, h.fr, h.le, h2.hd.touch touch_one h.dRb (fun g hg e => hg.2 (.inr (.inr e))), h2.tk.touch touch_one h.dtb, ?_, fun j hj => Nat.lt_of_lt_of_le (h.plt j hj) u.size, h.nP, h.dRt, h.dRb, h.dtb⟩, u⟩
  refine h2.by_.set (tk' := s.tk) (bt' := upd s.bt i (over (s.bt i) off ys)) i hi hc1 hc2 ?_ (h.far hg) (fun j _ _ hjt => hjt) (fun j hj hji => upd_other _ _ hji)
  rw [upd_same, e']; exact hints
end Go.Proofs.Ytipepklobpnbpaa
