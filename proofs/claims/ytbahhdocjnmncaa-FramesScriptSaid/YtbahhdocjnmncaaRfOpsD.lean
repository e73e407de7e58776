/-
  Contracts of the document's own Write of frames.
-/
import Derived.Test.YtbahhdocjnmncaaRfOpsC
namespace Go.Proofs.Ytbahhdocjnmncaa
open Go.ChangeShapes Go.WideShapes Go.ChangeAt Go.RowKit
set_option linter.unusedVariables false
theorem rwrite_err {w : World} {P : Nat → Prop} {R t b : Nat} {s : St} {fresh : Nat} {back : List Nat} (h : Rf w P R t b s fresh back) (i off : Int) (ho : (Lit.int .i64 off).wf = true) (a : Option Addr) (m cc : Nat) (hc : code s i off (m : Int) ≠ 0) :
    Calls Try.prog 23 #[.pointer (some ⟨R, 0, none⟩), .int .i64 i, .int .i64 off, .slice a m cc] w fun e w' => e = .returned (.int .i64 (code s i off (m : Int))) ∧ w = w' := by
  have HH := hide h
  clear h
  rw [code_eq] at hc ⊢
  rcases code_is s i with e | e | e
  · rw [if_pos (.inl e)]
    go_enter Try.func23, Try.ntmps23
    go_wp2_with (go_at_call 31; with_reducible refine (ris_any HH.out _).mono ?_; rintro e' w' ⟨rfl, rfl⟩; rw [e])
    go_ret
    exact ⟨rfl, rfl⟩
  · cases hf : fit off (m : Int) with
    | false =>
      rw [if_pos (.inr rfl)]
      go_enter Try.func23, Try.ntmps23
      go_wp2_with (first
        | (go_at_call 31; with_reducible refine (ris_any HH.out _).mono ?_; rintro e' w' ⟨rfl, rfl⟩; rw [e])
        | (go_at_call 32; with_reducible refine (range_any _ _ _ ho).mono ?_; rintro e' w' ⟨rfl, rfl⟩; rw [hf]))
      go_ret
      exact ⟨rfl, rfl⟩
    | true =>
      rw [if_neg (by rw [e]; simp), e]
      go_enter Try.func23, Try.ntmps23
      go_wp2_with (first
        | (go_at_call 31; with_reducible refine (ris_any HH.out _).mono ?_; rintro e' w' ⟨rfl, rfl⟩; rw [e])
        | (go_at_call 32; with_reducible refine (range_any _ _ _ ho).mono ?_; rintro e' w' ⟨rfl, rfl⟩; rw [hf]))
      go_ret
      exact ⟨rfl, rfl⟩
  · cases hf : fit off (m : Int) with
    | false =>
      rw [if_pos (.inr rfl)]
      go_enter Try.func23, Try.ntmps23
      go_wp2_with (first
        | (go_at_call 31; with_reducible refine (ris_any HH.out _).mono ?_; rintro e' w' ⟨rfl, rfl⟩; rw [e])
        | (go_at_call 32; with_reducible refine (range_any _ _ _ ho).mono ?_; rintro e' w' ⟨rfl, rfl⟩; rw [hf]))
      go_ret
      exact ⟨rfl, rfl⟩
    | true => rw [if_neg (by rw [e, hf]; simp)] at hc; exact absurd e hc
/-- The bytes behind k steps of the loop. -/
def stepped (f : Nat → Int) (off : Nat) (ys : List Int) (k : Nat) : List Int := (List.range 64).map (over f off (ys.take k))
theorem stepped_len (f : Nat → Int) (off : Nat) (ys : List Int) (k : Nat) : (stepped f off ys k).length = 64 := by simp [stepped]
theorem stepped_zero (f : Nat → Int) (off : Nat) (ys : List Int) : stepped f off ys 0 = (List.range 64).map f := by
  unfold stepped
  apply List.map_congr_left
  intro j _
  unfold over
  rw [if_neg (by simp)]
theorem stepped_succ (f : Nat → Int) (off : Nat) (ys : List Int) (k : Nat) (hk : k < ys.length) (hf : off + ys.length ≤ 64) : ((stepped f off ys k).map (Value.int .u8)).set (off + k) (.int .u8 (ys.getD k 0)) = (stepped f off ys (k + 1)).map (Value.int .u8) := by
  have hl : ∀ k, ((stepped f off ys k).map (Value.int .u8)).length = 64 := fun k => by rw [List.length_map, stepped_len]
  apply List.ext_getElem
  · rw [List.length_set, hl, hl]
  · intro j h1 h2
    rw [hl] at h2
    have hl1 : (ys.take k).length = k := by simp; omega
    have hl2 : (ys.take (k + 1)).length = k + 1 := by simp; omega
    rw [List.getElem_set]
    by_cases e : off + k = j
    · subst e
      rw [if_pos rfl]
      simp only [stepped, List.getElem_map, List.getElem_range]
      unfold over
      rw [if_pos (by rw [hl2]; omega), show off + k - off = k by omega]
      simp [List.getD, hk]
    · rw [if_neg e]
      simp only [stepped, List.getElem_map, List.getElem_range]
      congr 1
      unfold over
      by_cases hr : off ≤ j ∧ j < off + k
      · rw [if_pos (by rw [hl1]; exact hr), if_pos (by rw [hl2]; omega)]
        have h3 : j - off < k := by omega
        have h4 : j - off < k + 1 := by omega
        simp [List.getD, h3, h4]
      · rw [if_neg (by rw [hl1]; exact hr), if_neg (by rw [hl2]; omega)]
theorem stepped_all (f : Nat → Int) (off : Nat) (ys : List Int) : stepped f off ys ys.length = (List.range 64).map (over f off ys) := by unfold stepped; rw [List.take_length]
theorem put_end {w W : World} {P : Nat → Prop} {R t b g c : Nat} {s : St} {fresh : Nat} {back : List Nat} (h : Rf w P R t b s fresh back) {i off : Nat} {ys : List Int} (hi : i < s.n) (ht : s.tk i = true) (hy : Bytes ys) (hf : off + ys.length ≤ 64) (hb : Below w.heap.size w W)
    (ho : W.ownsRow w.heap.size 5 1 (.slice (some ⟨g, 0, none⟩) 64 c) 64 (((List.range 64).map (over (s.bt i) off ys)).map (Value.int .u8))) : Rf (W.setCell ⟨b, i, none⟩ (.slice (some ⟨g, 0, none⟩) 64 c)) P R t b (s.put i off ys) fresh back ∧ Touch (RS R t b) w (W.setCell ⟨b, i, none⟩ (.slice (some ⟨g, 0, none⟩) 64 c)) := by
  have h2 := h.below hb
  have hg := (ho.lt g rfl).1
  obtain ⟨a', c', e', _, hc1, hc2, _⟩ := own_sliceR ho
  injection e' with _ _ e'
  subst e'
  obtain ⟨A', c', e', hints, _⟩ := own_ints ho
  injection e' with e' _ _
  have u : Touch (RS R t b) w (W.setCell ⟨b, i, none⟩ (.slice (some ⟨g, 0, none⟩) 64 c)) := touch_rs (Touch.of_below hb) (.inr (.inr rfl))
  refine ⟨⟨good_put h.good ht hy hf, h.fr, h.le, h2.hd.touch touch_one h.dRb (fun g hg e => hg.2 (.inr (.inr e))), h2.tk.touch touch_one h.dtb, ?_, fun j hj => Nat.lt_of_lt_of_le (h.plt j hj) u.size, h.nP, h.dRt, h.dRb, h.dtb⟩, u⟩
  refine h2.by_.set (tk' := s.tk) (bt' := upd s.bt i (over (s.bt i) off ys)) i hi hc1 hc2 ?_ (h.far hg) (fun j _ _ hjt => hjt) (fun j hj hji => upd_other _ _ hji)
  rw [upd_same, e']; exact hints
set_option maxHeartbeats 4000000 in
theorem rwrite_ok {w : World} {P : Nat → Prop} {R t b : Nat} {s : St} {fresh : Nat} {back : List Nat} (h : Rf w P R t b s fresh back) (i off : Nat) (hi : i < s.n) (ht : s.tk i = true) (a : Option Addr) (m cc : Nat) (ys : List Int) (hys : Ints .u8 w a m ys) (hy : Bytes ys) (hf : off + m ≤ 64) :
    Calls Try.prog 23 #[.pointer (some ⟨R, 0, none⟩), .int .i64 (i : Nat), .int .i64 (off : Nat), .slice a m cc] w fun e w' => e = .returned (.int .i64 0) ∧ Rf w' P R t b (s.put i off ys) fresh back ∧ Touch (RS R t b) w w' := by
  obtain ⟨i0, hi0, hz0, hz1, hz2⟩ := info_parts u8_info
  have h1 := h.r1
  obtain ⟨g, c, hc, hc1, hc2, hints⟩ := h.by_.at i hi ht
  have hm : ys.length = m := hys.1
  have c0 : code s (i : Nat) 0 0 = 0 := code_ok hi fit00 ht
  have hfit : fit (off : Int) (m : Int) = true := fit_nat hf
  have ho := wf_nat (off := off) (by omega)
  have x0 : (0 : Int) ≤ (i : Int) := by omega
  have x1 : (i : Int) < (s.n : Int) := by omega
  have HI := hide hints
  have HH := hide h
  have HY := hide hys
  have HB := hide hy
  clear h hints hys hy
  go_enter Try.func23, Try.ntmps23
  go_wp2_with (first
    | (go_at_call 31; with_reducible refine (ris_any HH.out _).mono ?_; rintro e' w' ⟨rfl, rfl⟩; rw [c0])
    | (go_at_call 32; with_reducible refine (range_any _ _ _ ho).mono ?_; rintro e' w' ⟨rfl, rfl⟩; rw [hfit])
    | (at_builtin; refine wpList_append_src rfl (.const (.slice none 0 0)) (.tmp 33) _ rfl w.heap.size 5 i0 _ 1 Try.underlying33 hi0 hz0 hz1 hz2 rfl _ 0 [] rfl (World.ownsRow_nil _ _ _ _) .u8 _ 64 _ _ rfl HI.out (fun h => by cases h) (by unfold maxLen; omega) (by omega) (Nat.le_refl _) ?_; intro v2 w2 o2 g2 t2; rw [Nat.zero_add, List.nil_append] at o2; obtain ⟨a2, cap2, rfl, _⟩ := own_sliceR o2; have b2 := hide ((Below.refl w.heap.size w).grown g2 (Nat.le_refl _) (by intro k hk; cases hk)); have O2 := hide o2; clear o2 g2 t2))
  obtain ⟨g3, rfl⟩ : ∃ g3, a2 = some ⟨g3, 0, none⟩ := by
    rcases O2.out.2 with ⟨e, _⟩ | ⟨g, cap, cur, e, _⟩
    · cases e
    · injection e with e _ _; exact ⟨g, e⟩
  have ST : Hid (w2.ownsRow w.heap.size 5 1 (.slice (some ⟨g3, 0, none⟩) 64 cap2) 64 ((stepped (s.bt i) off ys 0).map (Value.int .u8))) := by
    rw [stepped_zero]; exact O2.out
  go_loopw [11] (fun k wr => ∃ j : Nat, j ≤ m ∧ k = .int .i64 (j : Int) ∧ Hid (Below w.heap.size w wr ∧ wr.ownsRow w.heap.size 5 1 (.slice (some ⟨g3, 0, none⟩) 64 cap2) 64 ((stepped (s.bt i) off ys j).map (Value.int .u8)))) (fun k _ => m - (intOf k).toNat)
  case atStart => exact ⟨0, Nat.zero_le _, rfl, b2.out, ST.out⟩
  case round =>
    clear b2 ST O2
    obtain ⟨j, hj, rfl, hR⟩ := hrel
    by_cases hlt : j < m
    · obtain ⟨bb, bo, rfl, hcell⟩ := HY.out.2 (by omega)
      have cb := (hR.out.1.cell (p := ⟨bb, bo + j, none⟩) (lt_of_cell? (hcell j hlt))).trans (hcell j hlt)
      obtain ⟨old, hcx⟩ : ∃ old, wr.cell? ⟨g3, off + j, none⟩ = some old := ⟨_, by rw [hR.out.2.cellAt (off + j) (by omega), List.getElem?_eq_getElem (by rw [List.length_map, stepped_len]; omega)]⟩
      have hfx := hR.out.2.frozenAt (off + j)
      have S1 := (hR.out.2.stored (off + j) (.int .u8 (ys.getD j 0))).1
      rw [stepped_succ _ _ _ _ (by omega) (by omega)] at S1
      have S := hide S1
      have B := hide (hR.out.1.setCell (p := ⟨g3, off + j, none⟩) (hR.out.2.lt g3 rfl).1 (.int .u8 (ys.getD j 0)))
      have j0 : (0 : Int) ≤ (j : Int) := by omega
      have j1 : (j : Int) < (m : Int) := by omega
      have j2 : (0 : Int) ≤ (off : Int) + (j : Int) := by omega
      have j3 : (off : Int) + (j : Int) < 64 := by omega
      have j4 : IntKind.i64.wrap ((off : Int) + (j : Int)) = (off : Int) + (j : Int) := by rw [IntKind.wrap_i64]; omega
      clear hcell S1
      generalize ys.getD j 0 = y at *
      go_wp2_with fail
      go_roundw
      case rel => exact ⟨j + 1, by omega, by go_num, B.out, S.out⟩
      case measure => simp [intOf]; omega
    · obtain rfl : j = m := by omega
      have hr1 := (hR.out.1.cell (p := ⟨R, 1, none⟩) (HH.out.lt R (.inl rfl))).trans h1
      have h2 := HH.out.below hR.out.1
      obtain ⟨ov, hov⟩ := h2.by_.has i hi
      have bf := h2.by_.frozen i
      have hf2 : off + ys.length ≤ 64 := by omega
      have E := hide (put_end HH.out hi ht HB.out hf2 hR.out.1 (by rw [← stepped_all, hm]; exact hR.out.2))
      clear h2 h1 hc
      go_wp2_with fail
      go_ret
      exact ⟨rfl, E.out.1, E.out.2⟩
end Go.Proofs.Ytbahhdocjnmncaa
