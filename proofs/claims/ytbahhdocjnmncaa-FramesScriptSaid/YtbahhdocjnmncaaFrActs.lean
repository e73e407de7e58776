/-
  What each act does to the program's frames and to the document's own: they tell the same.
-/
import Derived.Test.YtbahhdocjnmncaaFrPair
namespace Go.Proofs.Ytbahhdocjnmncaa
open Go.ChangeShapes Go.WideShapes Go.ChangeAt Go.RowKit
set_option linter.unusedVariables false
section
variable {w wr : World} {H A Q R t b g : Nat} {s : St} {fresh : Nat} {back : List Nat}
theorem pair_take (h0 : Tw w wr H A Q R t b s s fresh back) : ∃ (x r : Int) (s2 : St) (fresh2 : Nat) (back2 : List Nat),
    (∀ wx, Tw w wx H A Q R t b s s fresh back → Calls Try.prog 13 #[.pointer (some ⟨H, 0, none⟩)] wx fun e w' => e = .returned (.tuple #[.int .i64 x, .int .i64 r]) ∧ Tw w w' H A Q R t b s2 s fresh back ∧ Touch (Blk H A Q) wx w') ∧
    (∀ wx, Tw w wx H A Q R t b s2 s fresh back → Calls Try.prog 14 #[.pointer (some ⟨R, 0, none⟩)] wx fun e w' => e = .returned (.tuple #[.int .i64 x, .int .i64 r]) ∧ Tw w w' H A Q R t b s2 s2 fresh2 back2 ∧ Touch (RS R t b) wx w') := by
  have hle := h0.rf.le
  have hfr0 := h0.rf.fr
  rcases List.eq_nil_or_concat back with rfl | ⟨l, x, rfl⟩
  · by_cases hf : fresh = s.n
    · have e0 : s.fr = [] := by rw [hfr0, hf, Nat.sub_self]; rfl
      refine ⟨0, 3, s, fresh, [], fun wx h => ?_, fun wx h => ?_⟩
      · refine (take_full h.fr e0).mono ?_
        rintro e w' ⟨rfl, rfl⟩
        exact ⟨rfl, h, Touch.refl _ _⟩
      · refine (rtake_full h.rf hf).mono ?_
        rintro e w' ⟨rfl, m, rfl⟩
        exact ⟨rfl, h.drewN m, (Touch.refl _ _).drewN m⟩
    · have hlt : fresh < s.n := by omega
      have hfr : s.fr = fallen s.n (s.n - (fresh + 1)) ++ [fresh] := by
        rw [hfr0, List.append_nil, show s.n - fresh = s.n - (fresh + 1) + 1 by omega, fallen_succ]
        congr 2; omega
      refine ⟨(fresh : Int), 0, s.take (fallen s.n (s.n - (fresh + 1))) fresh, fresh + 1, [], fun wx h => ?_, fun wx h => ?_⟩
      · refine (take_ok h.fr hfr).mono ?_
        rintro e w' ⟨rfl, f, u⟩
        exact ⟨rfl, h.left f u, u⟩
      · refine (rtake_fresh h.rf hlt).mono ?_
        rintro e w' ⟨rfl, f, u⟩
        exact ⟨rfl, h.right f u, u⟩
  · rw [List.concat_eq_append] at *
    have hfr : s.fr = (fallen s.n (s.n - fresh) ++ l) ++ [x] := by rw [hfr0, List.append_assoc]
    refine ⟨(x : Int), 0, s.take (fallen s.n (s.n - fresh) ++ l) x, fresh, l, fun wx h => ?_, fun wx h => ?_⟩
    · refine (take_ok h.fr hfr).mono ?_
      rintro e w' ⟨rfl, f, u⟩
      exact ⟨rfl, h.left f u, u⟩
    · refine (rtake_back h.rf).mono ?_
      rintro e w' ⟨rfl, f, u⟩
      exact ⟨rfl, h.right f u, u⟩
theorem pair_give (i : Int) : ∃ (r : Int) (s2 : St) (back2 : List Nat),
    (∀ wx, Tw w wx H A Q R t b s s fresh back → Calls Try.prog 15 #[.pointer (some ⟨H, 0, none⟩), .int .i64 i] wx fun e w' => e = .returned (.int .i64 r) ∧ Tw w w' H A Q R t b s2 s fresh back ∧ Touch (Blk H A Q) wx w') ∧
    (∀ wx, Tw w wx H A Q R t b s2 s fresh back → Calls Try.prog 16 #[.pointer (some ⟨R, 0, none⟩), .int .i64 i] wx fun e w' => e = .returned (.int .i64 r) ∧ Tw w w' H A Q R t b s2 s2 fresh back2 ∧ Touch (RS R t b) wx w') := by
  by_cases hc : code s i 0 0 = 0
  · obtain ⟨k, o, m, rfl, _, _, hk, ht, _⟩ := code_zero hc
    refine ⟨0, s.give k, back ++ [k], fun wx h => ?_, fun wx h => ?_⟩
    · refine (give_ok h.fr k hk ht).mono ?_
      rintro e w' ⟨rfl, f, u⟩
      exact ⟨rfl, h.left f u, u⟩
    · refine (rgive_ok h.rf k hk ht).mono ?_
      rintro e w' ⟨rfl, f, u⟩
      exact ⟨rfl, h.right f u, u⟩
  · refine ⟨code s i 0 0, s, back, fun wx h => ?_, fun wx h => ?_⟩
    · refine (give_err h.fr i hc).mono ?_
      rintro e w' ⟨rfl, rfl⟩
      exact ⟨rfl, h, Touch.refl _ _⟩
    · refine (rgive_err h.rf i hc).mono ?_
      rintro e w' ⟨rfl, rfl⟩
      exact ⟨rfl, h, Touch.refl _ _⟩
theorem pair_read (i o m : Int) (ho : (Lit.int .i64 o).wf = true) : ∃ (r : Int) (N : Nat) (ps : List Int), N ≤ 64 ∧
    (∀ wx, Tw w wx H A Q R t b s s fresh back → Calls Try.prog 17 #[.pointer (some ⟨H, 0, none⟩), .int .i64 i, .int .i64 o, .int .i64 m] wx fun e w' => ∃ v, e = .returned (.tuple #[v, .int .i64 r]) ∧ w'.ownsRow wx.heap.size 5 1 v N (ps.map (Value.int .u8)) ∧ Below wx.heap.size wx w') ∧
    (∀ wx, Tw w wx H A Q R t b s s fresh back → Calls Try.prog 18 #[.pointer (some ⟨R, 0, none⟩), .int .i64 i, .int .i64 o, .int .i64 m] wx fun e w' => ∃ v, e = .returned (.tuple #[v, .int .i64 r]) ∧ w'.ownsRow wx.heap.size 5 1 v N (ps.map (Value.int .u8)) ∧ Below wx.heap.size wx w') := by
  by_cases hc : code s i o m = 0
  · obtain ⟨k, o, m, rfl, rfl, rfl, hk, ht, hf⟩ := code_zero hc
    refine ⟨0, m, s.part k o m, by omega, fun wx h => ?_, fun wx h => ?_⟩
    · refine (read_ok h.fr k o m hk ht hf).mono ?_
      rintro e w' ⟨rfl, f, u⟩
      exact ⟨_, rfl, f, u⟩
    · exact rread_ok h.rf k o m hk ht hf
  · refine ⟨code s i o m, 0, [], by omega, fun wx h => ?_, fun wx h => ?_⟩
    · refine (read_err h.fr i o m ho hc).mono ?_
      rintro e w' ⟨rfl, rfl⟩
      exact ⟨_, rfl, World.ownsRow_nil _ _ _ _, Below.refl _ _⟩
    · refine (rread_err h.rf i o m ho hc).mono ?_
      rintro e w' ⟨rfl, rfl⟩
      exact ⟨_, rfl, World.ownsRow_nil _ _ _ _, Below.refl _ _⟩
theorem pair_write (i o : Int) (ho : (Lit.int .i64 o).wf = true) (l : Nat) (ys : List Int) (hl : ys.length = l) (hy : Bytes ys) : ∃ (r : Int) (s2 : St),
    (∀ wx v c, Tg w wx H A Q R t b g s s fresh back → Ints .u8 wx v l ys → Calls Try.prog 22 #[.pointer (some ⟨H, 0, none⟩), .int .i64 i, .int .i64 o, .slice v l c] wx fun e w' => e = .returned (.int .i64 r) ∧ Tg w w' H A Q R t b g s2 s fresh back ∧ Touch (Blk H A Q) wx w') ∧
    (∀ wx v c, Tg w wx H A Q R t b g s2 s fresh back → Ints .u8 wx v l ys → Calls Try.prog 23 #[.pointer (some ⟨R, 0, none⟩), .int .i64 i, .int .i64 o, .slice v l c] wx fun e w' => e = .returned (.int .i64 r) ∧ Tg w w' H A Q R t b g s2 s2 fresh back ∧ Touch (RS R t b) wx w') := by
  by_cases hc : code s i o (l : Int) = 0
  · obtain ⟨k, o, m, rfl, rfl, em, hk, ht, hf⟩ := code_zero hc
    obtain rfl : l = m := by omega
    refine ⟨0, s.put k o ys, fun wx v c h hi => ?_, fun wx v c h hi => ?_⟩
    · refine (write_ok h.fr k o hk ht v l c ys hi hy hf).mono ?_
      rintro e w' ⟨rfl, f, u⟩
      have u2 := u.mono (S' := Blk H A Q) (fun i e => .inr (.inl e))
      exact ⟨rfl, h.left f u2, u2⟩
    · refine (rwrite_ok h.rf k o hk ht v l c ys hi hy hf).mono ?_
      rintro e w' ⟨rfl, f, u⟩
      exact ⟨rfl, h.right f u, u⟩
  · refine ⟨code s i o (l : Int), s, fun wx v c h hi => ?_, fun wx v c h hi => ?_⟩
    · refine (write_err h.fr i o ho v l c hc).mono ?_
      rintro e w' ⟨rfl, rfl⟩
      exact ⟨rfl, h, Touch.refl _ _⟩
    · refine (rwrite_err h.rf i o ho v l c hc).mono ?_
      rintro e w' ⟨rfl, rfl⟩
      exact ⟨rfl, h, Touch.refl _ _⟩
end
end Go.Proofs.Ytbahhdocjnmncaa
