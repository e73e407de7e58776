/-
  The program's Name.
-/
import Derived.Lib.IndexLaws
import Derived.Test.YtndfnglcichngaaGreatDoorPa12
import Derived.Test.YtndfnglcichngaaGreatDoorPtShelf
namespace Go.Proofs.YtndfnglcichngaaGreatDoor
open Go.ChangeShapes Go.WideShapes Go.ChangeAt Go.RowKit
set_option linter.unusedVariables false
set_option linter.unusedSimpArgs false
theorem bt_toList (s : Txt) : (bt s).data.toList = s := by simp [bt]
/-- Where a byte is first, or nowhere. -/
theorem indexByte_cases (l : List UInt8) (c : UInt8) : (Lib.indexByte l c = -1 ∧ ∀ k : Nat, l[k]? ≠ some c) ∨ ∃ o : Nat, Lib.indexByte l c = (o : Int) ∧ l[o]? = some c ∧ ∀ k : Nat, k < o → l[k]? ≠ some c := by
  have h := Lib.indexByte_ge l c
  by_cases e : Lib.indexByte l c = -1
  · exact .inl ⟨e, Lib.indexByte_none e⟩
  · obtain ⟨o, ho⟩ : ∃ o : Nat, Lib.indexByte l c = (o : Int) := ⟨(Lib.indexByte l c).toNat, by omega⟩
    exact .inr ⟨o, ho, Lib.indexByte_some ho⟩
theorem indexB_any (w : World) (s : Txt) (c : Int) : Calls Tryz.prog 76 #[.string (bt s), .int .u8 c] w fun e w' => e = .returned (.int .i64 (Lib.indexByte s c.toNat.toUInt8)) ∧ w = w' := by
  have := Any.strings_IndexByte Tryz.idxB (bt s) c w
  rw [bt_toList] at this
  exact this.mono (by rintro e w' ⟨h1, h2⟩; exact ⟨h1, h2.symm⟩)
set_option maxRecDepth 10000 in
set_option maxHeartbeats 4000000 in
theorem pname_any (w : World) (s : Txt) : Calls Tryz.prog 37 #[.string (bt s)] w fun e w' => e = .returned (.int .i64 (nameE s)) ∧ w = w' := by
  have z0 := bt_size s
  by_cases h0 : s = []
  · have e0 := bt_emptyY h0
    have HN := hide (show nameE s = 9 from by unfold nameE; rw [if_pos h0])
    rw [HN.out]
    clear h0 z0
    go_enter Tryz.func37, Tryz.ntmps37
    go_wp2_with fail
    go_ret
    exact ⟨rfl, rfl⟩
  have e0 := bt_emptyN h0
  by_cases h8 : 8 < s.length
  · have HN := hide (nameE_long h0 h8)
    rw [HN.out]
    have n8 : (8 : Int) < ((bt s).size : Int) := by rw [z0]; omega
    clear h0 z0 h8
    go_enter Tryz.func37, Tryz.ntmps37
    go_wp2_with fail
    go_ret
    exact ⟨rfl, rfl⟩
  have n8 : ¬ (8 : Int) < ((bt s).size : Int) := by rw [z0]; omega
  by_cases h1 : s = [46]
  · have HN := hide (show nameE s = 19 from by rw [h1]; decide)
    have e1 := bt_yes h1
    rw [HN.out]
    clear h0 h1 z0 h8
    go_enter Tryz.func37, Tryz.ntmps37
    go_wp2_with fail
    go_ret
    exact ⟨rfl, rfl⟩
  have e1 := bt_no h1
  by_cases h2 : s = [46, 46]
  · have HN := hide (show nameE s = 19 from by rw [h2]; decide)
    have e2 := bt_yes h2
    rw [HN.out]
    clear h0 h1 h2 z0 h8
    go_enter Tryz.func37, Tryz.ntmps37
    go_wp2_with fail
    go_ret
    exact ⟨rfl, rfl⟩
  have e2 := bt_no h2
  have C7 := fun W => indexB_any W s 47
  have C0 := fun W => indexB_any W s 0
  rw [show ((47 : Int).toNat.toUInt8) = 47 from rfl] at C7
  rw [show ((0 : Int).toNat.toUInt8) = 0 from rfl] at C0
  rcases indexByte_cases s 47 with ⟨hn7, hf7⟩ | ⟨o, ho, hc, _⟩
  · rw [hn7] at C7
    rcases indexByte_cases s 0 with ⟨hn0, hf0⟩ | ⟨o, ho, hc, _⟩
    · rw [hn0] at C0
      have HN := hide (show nameE s = 0 from by
        rw [nameE_good h0 h8 (fun i c hi => ⟨fun e => hf7 i (by rw [hi, e]), fun e => hf0 i (by rw [hi, e])⟩), if_neg (by simp [h1, h2])])
      rw [HN.out]
      have K7 := hide C7
      have K0 := hide C0
      clear h0 h1 h2 z0 h8 hn7 hf7 hn0 hf0 C7 C0
      go_enter Tryz.func37, Tryz.ntmps37
      go_wp2_with (first
        | (go_at_call 76; with_reducible refine (K7.out _).mono ?_; rintro e w' ⟨rfl, rfl⟩)
        | (go_at_call 76; with_reducible refine (K0.out _).mono ?_; rintro e w' ⟨rfl, rfl⟩))
      go_ret
      exact ⟨rfl, rfl⟩
    · rw [ho] at C0
      have HN := hide (nameE_bad h0 h8 hc (.inr rfl))
      rw [HN.out]
      have K7 := hide C7
      have K0 := hide C0
      have o0 : (0 : Int) ≤ (o : Int) := by omega
      clear h0 h1 h2 z0 h8 hn7 hf7 ho hc C7 C0
      go_enter Tryz.func37, Tryz.ntmps37
      go_wp2_with (first
        | (go_at_call 76; with_reducible refine (K7.out _).mono ?_; rintro e w' ⟨rfl, rfl⟩)
        | (go_at_call 76; with_reducible refine (K0.out _).mono ?_; rintro e w' ⟨rfl, rfl⟩))
      go_ret
      exact ⟨rfl, rfl⟩
  · rw [ho] at C7
    have HN := hide (nameE_bad h0 h8 hc (.inl rfl))
    rw [HN.out]
    have K7 := hide C7
    have o0 : (0 : Int) ≤ (o : Int) := by omega
    clear h0 h1 h2 z0 h8 ho hc C7 C0
    go_enter Tryz.func37, Tryz.ntmps37
    go_wp2_with (go_at_call 76; with_reducible refine (K7.out _).mono ?_; rintro e w' ⟨rfl, rfl⟩)
    go_ret
    exact ⟨rfl, rfl⟩
end Go.Proofs.YtndfnglcichngaaGreatDoor
