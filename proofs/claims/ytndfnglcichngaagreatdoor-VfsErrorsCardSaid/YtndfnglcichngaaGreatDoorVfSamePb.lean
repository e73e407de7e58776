/-
  The contract of same (coxswainlaw22).
-/
import Derived.Deep.RegionHeld3
import Derived.Test.YtndfnglcichngaaGreatDoorPa33
import Derived.Test.YtndfnglcichngaaGreatDoorPa15
namespace Go.Proofs.YtndfnglcichngaaGreatDoor
open Go.ChangeShapes Go.WideShapes Go.ChangeAt Go.RowKit
set_option linter.unusedVariables false
set_option linter.unusedSimpArgs false
theorem lstV_few {s : In} {B : Int} (g : GoodP s [] B) (t : Txt) : (lstV s t).length ≤ 8 := by
  unfold lstV
  split
  · split
    · exact g.few _
    · exact Nat.zero_le _
  · exact Nat.zero_le _
section
variable {PV : Nat → Nat → Nat → Rel In} {w wr : World} {U D : Nat → Prop} {X : List Nat} {H S T R T2 G V V2 : Nat} {s : In} {B : Int}
set_option maxRecDepth 100000 in
set_option maxHeartbeats 8000000 in
theorem same22_any (I : PVfs PV) (h : TwinV PV w wr U D X H S T R T2 G V V2 s) (g : GoodP s [] B) (hB : B ≤ 999999) (no : NoOrph s 0) (t : Txt) (ht : t.length ≤ 1000) :
    Calls Tryz.prog 14 #[.pointer (some ⟨V, 0, none⟩), .pointer (some ⟨V2, 0, none⟩), .string (bt t)] wr fun e w' => e = .returned (.bool true) ∧ TwinV PV w w' U D X H S T R T2 G V V2 s ∧ Stay X wr w' := by
  have KP := I.keeps H S T
  have KR := keepsRv R T2 G
  have TW := hide (fun (W : World) (b : Below wr.heap.size wr W) => h.below KP KR b)
  have PW := hide (fun (W : World) (b : Below wr.heap.size wr W) => I.wk (TW.out W b).1.ps g hB no t ht)
  have RW := hide (fun (W : World) (b : Below wr.heap.size wr W) => rv_wk (TW.out W b).1.ds g t ht)
  have PL := hide (fun (W : World) (b : Below wr.heap.size wr W) => I.ls (TW.out W b).1.ps g hB no t ht)
  have RL := hide (fun (W : World) (b : Below wr.heap.size wr W) => rv_ls (TW.out W b).1.ds g t ht)
  have PN := hide (fun (W : World) (b : Below wr.heap.size wr W) => I.nodes (TW.out W b).1.ps g hB no)
  have PC := hide (fun (W : World) (b : Below wr.heap.size wr W) => I.ln (TW.out W b).1.ps g hB no)
  have RC := hide (fun (W : World) (b : Below wr.heap.size wr W) => rv_ln (TW.out W b).1.ds)
  have VC := hide (fun (W : World) (b : Below wr.heap.size wr W) => (TW.out W b).1.ds.c0)
  have FREE := hide (fun (W W' : World) (b : Below wr.heap.size wr W) {t : TypeId} {z n : Nat} {v : Value} {xs : List Value} (ho : W'.ownsRow W.heap.size t z v n xs) => (TW.out W b).1.free KP KR ho)
  have OVR := hide (fun (W W' : World) (v : Value) (b : Below wr.heap.size wr W) (f : FreeO w W U D X v) (u : Touch (fun i => v.ownBlock = some i) W W') => (TW.out W b).1.over KP KR f u)
  have L8 := hide (lstV_few g t)
  obtain ⟨gn, hgn⟩ : ∃ z, z = cntI s := ⟨_, rfl⟩
  rw [← hgn] at PC RC
  obtain ⟨ga, hga⟩ : ∃ z, z = (walkI s t).1 := ⟨_, rfl⟩
  obtain ⟨ge, hge⟩ : ∃ z, z = (walkI s t).2 := ⟨_, rfl⟩
  rw [← hga, ← hge] at PW RW
  obtain ⟨gl, hgl⟩ : ∃ z, z = lstE s t := ⟨_, rfl⟩
  rw [← hgl] at PL RL
  obtain ⟨l, hl⟩ : ∃ z, z = lstV s t := ⟨_, rfl⟩
  rw [← hl] at PL RL L8
  have e1 : ((gn : Int) == (gn : Int)) = true := by simp
  have e2 : ((ga : Int) == (ga : Int)) = true := by simp
  have e3 : ((ge : Int) == (ge : Int)) = true := by simp
  have e4 : ((gl : Int) == (gl : Int)) = true := by simp
  clear h g no ht hgn hga hge hgl hl
  go_enter Tryz.func14, Tryz.ntmps14
  go_upto_region 3 with (first
    | (go_at_call 25; refine (PW.out _ (Below.refl _ _)).mono ?_; rintro e w1 ⟨rfl, b1⟩; have B1 := hide b1; clear b1)
    | (go_at_call 49; refine (RW.out _ B1.out).mono ?_; rintro e w2 ⟨rfl, b2⟩; have B2 := hide (B1.out.trans (b2.mono B1.out.size)); clear b2))
  go_upto_region 5 with (first
    | (go_at_call 16; refine (PL.out _ B2.out).mono ?_; rintro e w3 ⟨v3, rfl, o3, b3⟩; have O3 := hide o3; have B3' := hide b3; have B3 := hide (B2.out.trans (b3.mono B2.out.size)); clear o3 b3)
    | (go_at_call 50; refine (RL.out _ B3.out).mono ?_; rintro e w4 ⟨v4, rfl, o4, b4⟩; have O4 := hide o4; have B4' := hide b4; have B4 := hide (B3.out.trans (b4.mono B3.out.size)); clear o4 b4))
  have F3 := hide (FREE.out _ _ B2.out O3.out)
  have O34 := hide ((Touch.of_below (S := fun _ => False) B4'.out).own O3.out (fun _ _ e => e))
  have F4 := hide (F3.out.below B4'.out)
  obtain ⟨a3, c3, rfl, r3, -, -, -⟩ := own_reads enV_len (by omega) O34.out
  obtain ⟨a4, c4, rfl, r4, -, -, -⟩ := own_reads enV_len (by omega) O4.out
  have R3 := hide (fun (W : World) (b : Below w4.heap.size w4 W) => reads_to (r3.below b))
  have R4 := hide (fun (W : World) (b : Below w4.heap.size w4 W) => reads_to (r4.below b))
  clear r3 r4
  have v0 := VC.out _ B4.out
  have HV := hide (fun (W : World) (b : Below w4.heap.size w4 W) => show W.cell? ⟨V2, 0, none⟩ = some (.pointer (some ⟨T2, 0, none⟩)) from VC.out W (B4.out.trans (b.mono B4.out.size)))
  have DR := hide ((Below.refl w4.heap.size w4).drew)
  go_region_held3 (fun w' => w'.cell? ⟨V2, 0, none⟩ = some (.pointer (some ⟨T2, 0, none⟩))) (first | exact v0 | exact v5 | exact v6 | exact v7) (first
    | (go_at_call 24; refine (sameEntries_any _ _ _ _ _ _ _ (R3.out _ DR.out) (R4.out _ DR.out) (by have := L8.out; omega)).mono ?_; rintro e w5 ⟨rfl, b5⟩; have B5 := hide (DR.out.trans (b5.mono DR.out.size)); have v5 := HV.out _ B5.out; clear b5)
    | (go_at_call 17; refine (PN.out _ (B4.out.trans (B5.out.mono B4.out.size))).mono ?_; rintro e w6 ⟨rfl, b6⟩; have B6 := hide (B5.out.trans (b6.mono B5.out.size)); have v6 := HV.out _ B6.out; clear b6)
    | (go_at_call 18; refine (PC.out _ (B4.out.trans (B6.out.mono B4.out.size))).mono ?_; rintro e w7 ⟨rfl, b7⟩; have B7 := hide (B6.out.trans (b7.mono B6.out.size)); have v7 := HV.out _ B7.out; clear b7)
    | (go_at_call 51; refine (RC.out _ (B4.out.trans (B7.out.mono B4.out.size))).mono ?_; rintro e w' ⟨rfl, rfl⟩)
    | (go_at_call 41; refine (num_any _ _).mono ?_; rintro e w' ⟨rfl, rfl⟩))
  have BB7 := hide (B4.out.trans (B7.out.mono B4.out.size))
  have O7 := hide ((Touch.of_below (S := fun _ => False) B7.out).own O34.out (fun _ _ e => e))
  have F7 := hide (F4.out.below B7.out)
  go_wp2_with (go_at_call 52; refine (overEntries_any _ _ _ _ O7.out (by have := L8.out; omega)).mono ?_; rintro e w9 ⟨rfl, u9⟩; have U9 := hide u9; clear u9)
  go_ret
  have fin := OVR.out _ _ _ BB7.out F7.out U9.out
  exact ⟨rfl, fin.1, fun g hg => (fin.2 g hg).trans ((TW.out _ BB7.out).2 g hg)⟩
end
end Go.Proofs.YtndfnglcichngaaGreatDoor
