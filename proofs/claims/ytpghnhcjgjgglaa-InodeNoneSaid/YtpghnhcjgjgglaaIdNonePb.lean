/-
  The walk of InodeNone.
-/
import Derived.Test.YtpghnhcjgjgglaaPa19
namespace Go.Proofs.Ytpghnhcjgjgglaa
open Go.ChangeShapes Go.WideShapes Go.ChangeAt Go.RowKit
set_option linter.unusedVariables false
set_option linter.unusedSimpArgs false
section
variable {PS : Nat → Rel So} {PI : Nat → Nat → Rel In}
attribute [local go_sem] inode_same
set_option maxRecDepth 100000 in
set_option maxHeartbeats 8000000 in
theorem walk_inodeNoneC (C : NewStore PS) (I : PInode PS PI) (Z : NilInode) (w : World) (x : Ac) (hx : AcWf w x) : Calls Try.prog 6 #[.agg (acV x).toArray] w fun e w' => e = .returned (.bool true) ∧ Below w.heap.size w w' := by
  obtain ⟨d, i, r, nm, b⟩ := x
  have bA := hide ((Below.refl w.heap.size w).alloc (Nat.le_refl _) (.cells #[.int .i64 d, .int .i64 i, .int .i64 r, .string (bt nm), .bool b] 31))
  have C1 : Hid (CopI (w.alloc (.cells #[.int .i64 d, .int .i64 i, .int .i64 r, .string (bt nm), .bool b] 31)) w.heap.size ⟨d, i, r, nm, b⟩) := hide (show CopI _ _ _ from heap_alloc_new _ _)
  have bs := bt_size nm
  have LE := hide bA.out.size
  show Calls Try.prog 6 #[.agg #[.int .i64 d, .int .i64 i, .int .i64 r, .string (bt nm), .bool b]] w _
  go_enter Try.func6, Try.ntmps6
  go_upto_region 1 with fail
  generalize hW1 : w.alloc (.cells #[.int .i64 d, .int .i64 i, .int .i64 r, .string (bt nm), .bool b] 31) = W1 at *
  have HX := hide (show w.heap.size = w.heap.size from rfl)
  generalize hX : w.heap.size = Xb at *
  clear HX
  have HX := hide hX
  clear hX
  clear hW1 hx
  have CB := hide (fun (W : World) (b' : Below W1.heap.size W1 W) => CopI.cells (W := W) (X := Xb) (x := ⟨d, i, r, nm, b⟩) ((b'.block Xb (lt_of_heap C1.out)).trans C1.out))
  obtain ⟨x0, x1, x2, x3, x4⟩ := C1.out.cells
  have AW := hide (fun (W : World) => awake21_any C I W)
  by_cases h100 : 100 < nm.length
  · have h1 : (100 : Int) < ((bt nm).size : Int) := by rw [bs]; omega
    clear bs h100
    go_wp2_with (go_at_call 8; refine (AW.out _).mono ?_; rintro e w' ⟨rfl, hb⟩)
    go_ret
    exact ⟨rfl, HX.out ▸ bA.out.trans (hb.mono LE.out)⟩
  · have h1 : ¬ (100 : Int) < ((bt nm).size : Int) := by rw [bs]; omega
    have HL := hide (show nm.length ≤ 1000 from by omega)
    clear bs h100
    go_wp2_with (first
      | (go_at_call 15; refine (Z.ma _ _).mono ?_; rintro e w2 ⟨rfl, b2⟩; have B2 := hide b2; obtain ⟨-, y1, -, -, -⟩ := CB.out _ b2; clear b2)
      | (go_at_call 12; refine (Z.gt _ _).mono ?_; rintro e w3 ⟨rfl, b3⟩; have B3' := hide (B2.out.trans (b3.mono B2.out.size)); have B3 := hide (B3'.out.alloc B3'.out.size (.cells #[.int .i64 0, .int .i64 0, .bool false, .int .i64 0] 35)); have HG := hide (heap_alloc_new w3 (.cells #[.int .i64 0, .int .i64 0, .bool false, .int .i64 0] 35)); obtain ⟨-, -, y2, y3, -⟩ := CB.out _ B3.out; clear b3)
      | (go_at_call 17; refine (Z.fi _ _ _ HL.out).mono ?_; rintro e w4 ⟨rfl, b4⟩; have B4 := hide (B3.out.trans (b4.mono B3.out.size)); have HG4 := hide ((b4.block _ (lt_of_heap HG.out)).trans HG.out); obtain ⟨-, -, z2, -, -⟩ := CB.out _ B4.out; clear b4)
      | (go_at_call 13; refine (Z.ls _ _).mono ?_; rintro e w5 ⟨c5, a5, rfl, b5⟩; have B5 := hide (B4.out.trans (b5.mono B4.out.size)); have HG5 := (b5.block _ (lt_of_heap HG4.out)).trans HG4.out; have q0 : w5.cell? ⟨w3.heap.size, 0, none⟩ = some (.int .i64 0) := (by rw [cell_of_row _ _ _ _ _ _ HG5]; rfl); have q1 : w5.cell? ⟨w3.heap.size, 1, none⟩ = some (.int .i64 0) := (by rw [cell_of_row _ _ _ _ _ _ HG5]; rfl); have q2 : w5.cell? ⟨w3.heap.size, 2, none⟩ = some (.bool false) := (by rw [cell_of_row _ _ _ _ _ _ HG5]; rfl); have q3 : w5.cell? ⟨w3.heap.size, 3, none⟩ = some (.int .i64 0) := (by rw [cell_of_row _ _ _ _ _ _ HG5]; rfl); clear b5 HG5)
      | (go_at_call 20; refine (Z.op _ _).mono ?_; rintro e w6 ⟨rfl, b6⟩; have B6 := hide (B5.out.trans (b6.mono B5.out.size)); clear b6)
      | (go_at_call 21; refine (Z.cl _ _).mono ?_; rintro e w7 ⟨rfl, b7⟩; have B7 := hide (B6.out.trans (b7.mono B6.out.size)); clear b7)
      | (go_at_call 16; refine (Z.en _ 0 [97] 1 (by decide)).mono ?_; rintro e w8 ⟨rfl, b8⟩; have B8 := hide (B7.out.trans (b8.mono B7.out.size)); clear b8)
      | (go_at_call 19; refine (Z.rm _ 0 [97] (by decide)).mono ?_; rintro e w9 ⟨rfl, b9⟩; have B9 := hide (B8.out.trans (b9.mono B8.out.size)); clear b9)
      | (go_at_call 14; refine (Z.os _ _).mono ?_; rintro e w10 ⟨rfl, b10⟩; have B10 := hide (B9.out.trans (b10.mono B9.out.size)); clear b10)
      | (go_at_call 22; refine (Z.ln _).mono ?_; rintro e w11 ⟨rfl, b11⟩; have B11 := hide (B10.out.trans (b11.mono B10.out.size)); clear b11)
      | (go_at_call 8; refine (AW.out _).mono ?_; rintro e w12 ⟨rfl, b12⟩; have B12 := hide (B11.out.trans (b12.mono B11.out.size)); clear b12))
    go_ret
    exact ⟨rfl, HX.out ▸ bA.out.trans (B12.out.mono LE.out)⟩
end
end Go.Proofs.Ytpghnhcjgjgglaa
