/-
  Contracts of the document's own Give and Read of frames.
-/
import Derived.Test.YtipepklobpnbpaaRfOpsB
namespace Go.Proofs.Ytipepklobpnbpaa
open Go.ChangeShapes Go.WideShapes Go.ChangeAt Go.RowKit
set_option linter.unusedVariables false
theorem rgive_err {w : World} {P : Nat → Prop} {R t b : Nat} {s : St} {fresh : Nat} {back : List Nat} (h : Rf w P R t b s fresh back) (i : Int) (hc : code s i 0 0 ≠ 0) :
    Calls Try.prog 46 #[.pointer (some ⟨R, 0, none⟩), .int .i64 i] w fun e w' => e = .returned (.int .i64 (code s i 0 0)) ∧ w = w' := by
  have HH := hide h
  have hc' : (code s i 0 0 == 0) = false := by simpa using hc
  clear h
  generalize he : code s i 0 0 = c at *
  go_enter Try.func46, Try.ntmps46
  go_wp2_with (go_at_call 52; with_reducible refine (ris_any HH.out _).mono ?_; rintro e w' ⟨rfl, rfl⟩; rw [he])
  go_ret
  exact ⟨rfl, rfl⟩
theorem give_end {w W : World} {P : Nat → Prop} {R t b : Nat} {s : St} {fresh : Nat} {back : List Nat} (h : Rf w P R t b s fresh back) {i : Nat} (hi : i < s.n) (ht : s.tk i = true) (hm : Mid w W P R t b s.n fresh (back ++ [i]) (upd s.tk i false) s.tk s.bt) :
    Rf W P R t b (s.give i) fresh (back ++ [i]) ∧ Touch (RS R t b) w W := by
  refine ⟨⟨good_give h.good hi ht, ?_, h.le, hm.1, hm.2.1, ?_, fun j hj => Nat.lt_of_lt_of_le (h.plt j hj) hm.2.2.2.size, h.nP, h.dRt, h.dRb, h.dtb⟩, hm.2.2.2⟩
  · show s.fr ++ [i] = _
    rw [h.fr, List.append_assoc]; rfl
  · refine hm.2.2.1.less (tk' := upd s.tk i false) (bt' := upd s.bt i (fun _ => 0)) (fun j hj hjt => ?_) (fun j hj hjt => ?_)
    · by_cases e : j = i
      · subst e; rw [upd_same] at hjt; cases hjt
      · rw [upd_other _ _ e] at hjt; exact hjt
    · by_cases e : j = i
      · subst e; rw [upd_same] at hjt; cases hjt
      · rw [upd_other _ _ e]
set_option maxHeartbeats 2000000 in
theorem rgive_ok {w : World} {P : Nat → Prop} {R t b : Nat} {s : St} {fresh : Nat} {back : List Nat} (h : Rf w P R t b s fresh back) (i : Nat) (hi : i < s.n) (ht : s.tk i = true) :
    Calls Try.prog 46 #[.pointer (some ⟨R, 0, none⟩), .int .i64 (i : Nat)] w fun e w' => e = .returned (.int .i64 0) ∧ Rf w' P R t b (s.give i) fresh (back ++ [i]) ∧ Touch (RS R t b) w w' := by
  obtain ⟨i0, hi0, hz0, hz1, hz2⟩ := info_parts int_info
  have h0 := h.r0
  have tc := h.tk.cell i hi
  have tf := h.tk.frozen i
  have d1 := h.dRt
  have d2 := h.dRb
  have d3 := h.dtb
  have c0 : code s (i : Nat) 0 0 = 0 := code_ok hi fit00 ht
  have x0 : (0 : Int) ≤ (i : Int) := by omega
  have x1 : (i : Int) < (s.n : Int) := by omega
  have hbl : back.length ≤ 64 := by have h1 := h.good.len; have h2 := h.good.n64; rw [h.fr, List.length_append] at h1; omega
  have HH := hide h
  have M1 := hide (((h.mid 0).setT d1 d3 i hi false))
  clear h
  go_enter Try.func46, Try.ntmps46
  go_upto_region 4 with (go_at_call 52; with_reducible refine (ris_any HH.out _).mono ?_; rintro e w' ⟨rfl, rfl⟩; rw [c0])
  have M1 : Hid (Mid w (w.setCell ⟨t, i, none⟩ (.bool false)) P R t b s.n fresh back (upd s.tk i false) s.tk s.bt) := M1
  obtain ⟨W1, hW1⟩ : ∃ W1, W1 = w.setCell ⟨t, i, none⟩ (.bool false) := ⟨_, rfl⟩
  rw [← hW1] at M1 ⊢
  obtain ⟨v1, e1, ho1, hv1⟩ := M1.out.1
  obtain ⟨a, c, rfl, hnil, _⟩ := own_sliceR ho1
  obtain ⟨A', c', e', hints, _⟩ := own_ints ho1
  injection e' with e1' _ e2'
  subst e1' e2'
  have h2 : W1.cell? ⟨R, 2, none⟩ = some (.slice a back.length c) := by rw [cell_of_row _ _ _ _ _ _ e1]; rfl
  have lR : R < W1.heap.size := M1.out.1.lt
  have HV := hide hints
  have HN := hide hnil
  clear hW1 h0 tc tf e1 ho1 hv1 hints hnil
  go_wp2_with (first
    | (at_builtin; refine wpList_append_src rfl (.const (.slice none 0 0)) (.tmp 21) _ rfl W1.heap.size 3 i0 _ 8 Try.underlying67 hi0 hz0 hz1 hz2 rfl _ 0 [] rfl (World.ownsRow_nil _ _ _ _) .i64 _ back.length _ (nums back) rfl HV.out HN.out (by unfold maxLen; omega) (by omega) (Nat.le_refl _) ?_; intro v2 w2 o2 g2 t2; have b2 := hide ((Below.refl W1.heap.size W1).grown g2 (Nat.le_refl _) (by intro k hk; cases hk)); have O2 := hide o2; clear o2 g2 t2)
    | (at_builtin; refine wpList_append_src rfl (.tmp 22) (.tmp 24) _ rfl W1.heap.size 3 i0 _ 8 Try.underlying67 hi0 hz0 hz1 hz2 rfl _ _ _ rfl (O2.out.alloc _) .i64 _ 1 _ [(i : Int)] rfl (ints_cell1 _ _ _ _ _ rfl) (fun h => by cases h) (by unfold maxLen; omega) (by omega) (by have := b2.out.size; simp; omega) ?_; intro v3 w3 o3 g3 t3; obtain ⟨a3, c3, rfl, _⟩ := own_sliceR o3; have b3 := hide ((b2.out.alloc b2.out.size _).grown g3 (by have := b2.out.size; simp; omega) (fun k hk => (O2.out.lt k hk).1)); have M3 := hide (M1.out.below b3.out HH.out.lt); obtain ⟨vv, k2⟩ := M3.out.r2; have z2 := M3.out.rf 2; have O3 := hide o3; clear o3 g3 t3))
  have O4 := O3.out
  rw [Nat.zero_add] at O4
  have hF : ∀ g, (Value.slice a3 (back.length + 1) c3).ownBlock = some g → Far P R t b g := fun g hg => HH.out.far (Nat.le_trans M1.out.2.2.2.size (O4.lt g hg).1)
  have hO : w3.ownsRow 0 3 1 (.slice a3 (back.length + 1) c3) (back ++ [i]).length ((nums (back ++ [i])).map (Value.int .i64)) := by
    have e4 : (nums (back ++ [i])).map (Value.int .i64) = [] ++ (nums back).map (Value.int .i64) ++ [(i : Int)].map (Value.int .i64) := by simp [nums]
    rw [e4, List.length_append]
    exact own_base O4 (Nat.zero_le _)
  have E := give_end HH.out hi ht (M3.out.set2 d1 d2 hO hF)
  go_ret
  exact ⟨rfl, E.1, E.2⟩
/-- A piece of a row of bytes. -/
theorem ints_piece {w : World} {g i off n : Nat} {s : St} (h : Ints .u8 w (some ⟨g, 0, none⟩) 64 ((List.range 64).map (s.bt i))) (hf : off + n ≤ 64) : Ints .u8 w (some ⟨g, off, none⟩) n (s.part i off n) := by
  refine ⟨part_len _ _ _ _, fun hn => ?_⟩
  obtain ⟨b, o, e, hc⟩ := h.2 (by omega)
  injection e with e
  injection e with e1 e2 _
  subst e1 e2
  refine ⟨g, off, rfl, fun j hj => ?_⟩
  have := hc (off + j) (by omega)
  rw [Nat.zero_add] at this
  rw [this]
  have hj2 : off + j < 64 := by omega
  simp [St.part, List.getD, hj, hj2]
theorem code_eq {s : St} {i off n : Int} : code s i off n = if code s i 0 0 = 2 ∨ fit off n = false then 2 else code s i 0 0 := by
  by_cases h : 0 ≤ i ∧ i < s.n
  · have e0 : code s i 0 0 = if s.tk i.toNat then 0 else 4 := by unfold code; rw [if_pos ⟨h.1, h.2, fit00⟩]
    have n2 : code s i 0 0 ≠ 2 := by rw [e0]; split <;> decide
    cases hf : fit off n with
    | true =>
      rw [if_neg (fun e => e.elim n2 (fun e => by cases e)), e0]
      unfold code; rw [if_pos ⟨h.1, h.2, hf⟩]
    | false => rw [if_pos (.inr rfl), code_arg (fun e => by rw [hf] at e; cases e.2.2)]
  · have e0 : code s i 0 0 = 2 := code_arg (fun e => h ⟨e.1, e.2.1⟩)
    rw [if_pos (.inl e0), code_arg (fun e => h ⟨e.1, e.2.1⟩)]
/-- What is told first is 2, 4 or 0. -/
theorem code_is (s : St) (i : Int) : code s i 0 0 = 2 ∨ code s i 0 0 = 4 ∨ code s i 0 0 = 0 := by
  unfold code
  split
  · split
    · exact .inr (.inr rfl)
    · exact .inr (.inl rfl)
  · exact .inl rfl
end Go.Proofs.Ytipepklobpnbpaa
