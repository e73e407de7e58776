/-
  The walk of VfsRenamed over the contracts of the program's paths.
-/
import Derived.Test.YtndfnglcichngaaGreatDoorPa18
import Derived.Test.YtndfnglcichngaaGreatDoorPa33
namespace Go.Proofs.YtndfnglcichngaaGreatDoor
open Go.ChangeShapes Go.WideShapes Go.ChangeAt Go.RowKit
set_option linter.unusedVariables false
set_option linter.unusedSimpArgs false
/-- What the program's Name answers. -/
def PNameOk : Prop := ∀ (w : World) (s : Txt), Calls Tryz.prog 37 #[.string (bt s)] w fun e w' => e = .returned (.int .i64 (nameE s)) ∧ w = w'
section
variable {PV : Nat → Nat → Nat → Rel In}
attribute [local go_sem] inode_same
set_option maxRecDepth 100000 in
set_option maxHeartbeats 16000000 in
theorem walk_vfsRenamedC (I : PVfs PV) (PNM : PNameOk) (w : World) (s1 s2 : Txt) (a : Option Addr) (n c : Nat) (bs : List Int) (hb : CameIn .u8 w a n c bs) : Calls Tryz.prog 9 #[.string (bt s1), .string (bt s2), .slice a n c] w fun e w' => e = .returned (.bool true) ∧ Below w.heap.size w w' := by
  have HX := hide hb
  have BY := hide (bytes_of_came hb)
  have LX := hide (show bs.length = n from hb.1.1)
  have hbn : n ≤ maxLen := Nat.le_trans hb.2.1 hb.2.2.1
  have q3 : (n : Int) ≤ 9223372036854775807 := by unfold maxLen at hbn; omega
  have AWK := hide (fun W => awake22_any I W)
  have PA := hide (fun W => PNM W s1)
  have PB := hide (fun W => PNM W s2)
  obtain ⟨x1, hx1⟩ : ∃ z, z = nameE s1 := ⟨_, rfl⟩
  obtain ⟨x2, hx2⟩ : ∃ z, z = nameE s2 := ⟨_, rfl⟩
  rw [← hx1] at PA
  rw [← hx2] at PB
  have H12 := hide (And.intro hx1 hx2)
  have F12 := hide (show (x1 = 0 → s1.length ≤ 8) ∧ (x2 = 0 → s2.length ≤ 8) from ⟨fun e => (nameE_ok (hx1 ▸ e)).2.1, fun e => (nameE_ok (hx2 ▸ e)).2.1⟩)
  have BTE := hide (bt_eq s1 s2)
  clear hb hbn hx1 hx2
  by_cases c3 : 300 < n
  · have d3 : (300 : Int) < (n : Int) := by omega
    clear c3
    go_enter Tryz.func9, Tryz.ntmps9
    go_wp2_with (go_at_call 11; refine (AWK.out _).mono ?_; rintro e w' ⟨rfl, hb⟩; have HB := hide hb; clear hb)
    go_ret
    exact ⟨rfl, HB.out⟩
  have d3 : ¬ (300 : Int) < (n : Int) := by omega
  by_cases c1 : x1 = 0
  case neg =>
    clear c3
    go_enter Tryz.func9, Tryz.ntmps9
    go_wp2_with (first
      | (go_at_call 37; (with_reducible refine (PA.out _).mono ?_); rintro e w' ⟨rfl, rfl⟩)
      | (go_at_call 11; refine (AWK.out _).mono ?_; rintro e w' ⟨rfl, hb⟩; have HB := hide hb; clear hb))
    go_ret
    exact ⟨rfl, HB.out⟩
  by_cases c2 : x2 = 0
  case neg =>
    clear c3
    subst c1
    go_enter Tryz.func9, Tryz.ntmps9
    go_wp2_with (first
      | (go_at_call 37; (with_reducible refine (PA.out _).mono ?_); rintro e w' ⟨rfl, rfl⟩; have PDONE := trivial)
      | (go_at_call 37; (with_reducible refine (PB.out _).mono ?_); rintro e w' ⟨rfl, rfl⟩)
      | (go_at_call 11; refine (AWK.out _).mono ?_; rintro e w' ⟨rfl, hb⟩; have HB := hide hb; clear hb))
    go_ret
    exact ⟨rfl, HB.out⟩
  subst c1
  subst c2
  have hp := H12.out.1.symm
  have hq := H12.out.2.symm
  have n8 : n ≤ 300 := by omega
  have L1 := F12.out.1 rfl
  have L2 := F12.out.2 rfl
  have AD1 := fun W => run_add_bt W [47] s1 (by simp; omega)
  have AD2 := fun W => run_add_bt W [47] s2 (by simp; omega)
  rw [show bt [47] = ByteArray.mk #[47] from rfl, show [47] ++ s1 = 47 :: s1 from rfl] at AD1
  rw [show bt [47] = ByteArray.mk #[47] from rfl, show [47] ++ s2 = 47 :: s2 from rfl] at AD2
  have K1 : (47 :: s1).length ≤ 1000 := by simp; omega
  have K2 : (47 :: s2).length ≤ 1000 := by simp; omega
  have ev := BTE.out
  have WQ := hide (one_wr (N := 8) (b := bs) (by omega) (by have := LX.out; omega))
  have g0 := newI_good 8
  have g1 : GoodP ⟨nR [⟨s1, 1⟩] 1 1, ⟨[⟨1, []⟩], 8⟩⟩ [] 2 := by have h := (opnV_good g0 (47 :: s1) 1).1; rw [ren_open hp] at h; exact h
  have g2 : GoodP ⟨nR [⟨s1, 1⟩] 1 1, oneO 8 bs⟩ [] 2 := by have h := g1.wrt 1 0 BY.out; unfold wrtI at h; rw [WQ.out.2] at h; exact h
  have n0 := newI_orph 8
  have o1 : NoOrph ⟨nR [⟨s1, 1⟩] 1 1, ⟨[⟨1, []⟩], 8⟩⟩ 0 := by have h := (opnV_good g0 (47 :: s1) 1).2 n0; rw [ren_open hp] at h; exact h
  have o2 : NoOrph ⟨nR [⟨s1, 1⟩] 1 1, oneO 8 bs⟩ 0 := o1
  have G0 := hide g0
  have G1 := hide g1
  have G2 := hide g2
  have O0 := hide n0
  have O1 := hide o1
  have O2 := hide o2
  have OP := hide (fun (W : World) (H S T V : Nat) (U : Nat → Prop) (h : PV H S T W U V (newI 8)) => show Calls Tryz.prog 19 #[.pointer (some ⟨V, 0, none⟩), .string (bt (47 :: s1)), .int .i64 1] W (SideO (fun w' U' => PV H S T w' U' V ⟨nR [⟨s1, 1⟩] 1 1, ⟨[⟨1, []⟩], 8⟩⟩) U W (.tuple #[.int .i64 1, .int .i64 0])) from by have h := I.op h G0.out (by decide) O0.out (47 :: s1) 1 K1 (by decide); rw [ren_open hp] at h; exact h)
  have WR := hide (fun (W : World) (H S T V : Nat) (U : Nat → Prop) (h : OneO (PV H S T) w W U [] V ⟨nR [⟨s1, 1⟩] 1 1, ⟨[⟨1, []⟩], 8⟩⟩) => show Calls Tryz.prog 27 #[.pointer (some ⟨S, 0, none⟩), .int .i64 1, .int .i64 0, .slice a n c] W (SideO (fun w' U' => PV H S T w' U' V ⟨nR [⟨s1, 1⟩] 1 1, oneO 8 bs⟩) U W (.int .i64 0)) from by
    have h := I.wr h.ps G1.out (by decide) O1.out (id := 1) (off := 0) (by decide) (by decide) (HX.out.1.below h.bel) HX.out.2.2.2.1 BY.out (by omega) (fun hp => apart22 h HX.out.1 hp)
    unfold wrtI at h
    have e1 := WQ.out.1
    rw [LX.out] at e1
    rw [WQ.out.2, e1] at h
    exact h)
  have HP := hide hp
  have HQ := hide hq
  have KL := hide (And.intro K1 K2)
  clear g0 g1 g2 n0 o1 o2 hp hq L1 L2 K1 K2 c3
  go_enter Tryz.func9, Tryz.ntmps9
  go_upto_region 3 with (first
    | (go_at_call 37; (with_reducible refine (PA.out _).mono ?_); rintro e w' ⟨rfl, rfl⟩)
    | (go_at_call 37; (with_reducible refine (PB.out _).mono ?_); rintro e w' ⟨rfl, rfl⟩))
  go_wp2_with fail
  go_at_call 12
  refine (both22_any I _).mono ?_
  rintro e w1 ⟨V, V2, H, S, T, R, T2, G, U, D, rfl, t⟩
  have K := I.keeps H S T
  have T1 := hide (show OneO (PV H S T) w w1 U [] V (newI 8) from ⟨t.ps, t.bel, t.lo, fun g hg => absurd hg List.not_mem_nil⟩)
  clear t
  go_wp2_with fail
  go_at_call 19
  refine (OP.out _ _ _ _ _ _ T1.out.ps).mono ?_
  intro en w3 hs
  obtain ⟨rfl, U3, t3, -⟩ := T1.out.side hs
  have T3 := hide t3
  clear hs t3 T1 OP
  go_wp2_with fail
  go_at_call 26
  refine (I.store T3.out.ps G1.out (by decide) O1.out).mono ?_
  rintro e w4 ⟨rfl, b4⟩
  have T4 := hide (T3.out.below K b4).1
  clear b4 T3
  go_wp2_with fail
  go_at_call 27
  refine (WR.out _ _ _ _ _ _ T4.out).mono ?_
  intro en w5 hs
  obtain ⟨rfl, U5, t5, -⟩ := T4.out.side hs
  have T5 := hide t5
  clear hs t5 T4 WR
  by_cases e12 : s1 = s2
  · rw [decide_eq_true e12] at ev
    have LK := hide (show Calls Tryz.prog 20 #[.pointer (some ⟨V, 0, none⟩), .string (bt (47 :: s1)), .string (bt (47 :: s2))] w5 (SideO (fun w' U' => PV H S T w' U' V (lnkV ⟨nR [⟨s1, 1⟩] 1 1, oneO 8 bs⟩ (47 :: s1) (47 :: s2)).2) U5 w5 (.int .i64 10)) from by
      have h := I.lk T5.out.ps G2.out (by decide) O2.out (47 :: s1) (47 :: s2) KL.out.1 KL.out.2
      rw [show (lnkV ⟨nR [⟨s1, 1⟩] 1 1, oneO 8 bs⟩ (47 :: s1) (47 :: s2)).1 = 10 from by rw [← e12]; exact ren_link_same HP.out] at h
      exact h)
    clear e12
    go_wp2_with (first
      | (go_at_call 20; refine LK.out.mono ?_; intro en w6 hs; obtain ⟨rfl, U6, t6, -⟩ := T5.out.side hs; have BEL := hide t6.bel; clear hs t6)
      | (go_at_call 11; refine (AWK.out _).mono ?_; rintro e w' ⟨rfl, hb⟩; have HB := hide hb; clear hb))
    go_ret
    exact ⟨rfl, BEL.out.trans (HB.out.mono BEL.out.size)⟩
  rw [decide_eq_false e12] at ev
  have LKE := ren_link (so := oneO 8 bs) HP.out HQ.out e12
  have RME := ren_rem (so := oneO 8 bs) HP.out e12
  have WKE := ren_walk (so := oneO 8 bs) HP.out HQ.out e12
  have g3 : GoodP ⟨nR (insL [⟨s1, 1⟩] ⟨s2, 1⟩) 2 1, oneO 8 bs⟩ [] 2 := by have h := (lnkV_good G2.out (47 :: s1) (47 :: s2)).1; rw [LKE] at h; exact h
  have o3 : NoOrph ⟨nR (insL [⟨s1, 1⟩] ⟨s2, 1⟩) 2 1, oneO 8 bs⟩ 0 := by have h := (lnkV_good G2.out (47 :: s1) (47 :: s2)).2 O2.out; rw [LKE] at h; exact h
  have g4 : GoodP ⟨nR [⟨s2, 1⟩] 1 1, oneO 8 bs⟩ [] 2 := by have h := (remV_good g3 (47 :: s1) false).1; rw [RME] at h; exact h
  have o4 : NoOrph ⟨nR [⟨s2, 1⟩] 1 1, oneO 8 bs⟩ 0 := by have h := (remV_good g3 (47 :: s1) false).2 o3; rw [RME] at h; exact h
  have G3 := hide g3
  have G4 := hide g4
  have O3 := hide o3
  have O4 := hide o4
  have LK := hide (show Calls Tryz.prog 20 #[.pointer (some ⟨V, 0, none⟩), .string (bt (47 :: s1)), .string (bt (47 :: s2))] w5 (SideO (fun w' U' => PV H S T w' U' V ⟨nR (insL [⟨s1, 1⟩] ⟨s2, 1⟩) 2 1, oneO 8 bs⟩) U5 w5 (.int .i64 0)) from by
    have h := I.lk T5.out.ps G2.out (by decide) O2.out (47 :: s1) (47 :: s2) KL.out.1 KL.out.2
    rw [LKE] at h
    exact h)
  have UL := hide (fun (W : World) (U : Nat → Prop) (h : PV H S T W U V ⟨nR (insL [⟨s1, 1⟩] ⟨s2, 1⟩) 2 1, oneO 8 bs⟩) => show Calls Tryz.prog 21 #[.pointer (some ⟨V, 0, none⟩), .string (bt (47 :: s1))] W (SideO (fun w' U' => PV H S T w' U' V ⟨nR [⟨s2, 1⟩] 1 1, oneO 8 bs⟩) U W (.int .i64 0)) from by have h := I.ul h G3.out (by decide) O3.out (47 :: s1) KL.out.1; rw [RME] at h; exact h)
  have STQ := hide (fun (W : World) (U : Nat → Prop) (h : PV H S T W U V ⟨nR [⟨s2, 1⟩] 1 1, oneO 8 bs⟩) => show Calls Tryz.prog 28 #[.pointer (some ⟨V, 0, none⟩), .string (bt (47 :: s2))] W (fun e w' => e = .returned (.tuple #[.agg #[.int .i64 1, .int .i64 1, .bool false, .int .i64 (n : Int)], .int .i64 0]) ∧ Below W.heap.size W w') from by
    have h := I.st h G4.out (by decide) O4.out (47 :: s2) KL.out.2
    rw [statA_is WKE.1 (by decide) rfl rfl, WKE.1] at h
    rw [← LX.out]
    exact h)
  have STP := hide (fun (W : World) (U : Nat → Prop) (h : PV H S T W U V ⟨nR [⟨s2, 1⟩] 1 1, oneO 8 bs⟩) => show Calls Tryz.prog 28 #[.pointer (some ⟨V, 0, none⟩), .string (bt (47 :: s1))] W (fun e w' => e = .returned (.tuple #[.agg #[.int .i64 0, .int .i64 0, .bool false, .int .i64 0], .int .i64 9]) ∧ Below W.heap.size W w') from by
    have h := I.st h G4.out (by decide) O4.out (47 :: s1) KL.out.1
    rw [show statA ⟨nR [⟨s2, 1⟩] 1 1, oneO 8 bs⟩ (47 :: s1) = .agg #[.int .i64 0, .int .i64 0, .bool false, .int .i64 0] from by unfold statA; rw [WKE.2, if_neg (by decide)], WKE.2] at h
    exact h)
  have RQ := hide (rdB_all (n := 999) g4.so (b := bs) (show getFi (oneO 8 bs).l 1 = some bs from rfl) (by decide))
  clear LKE RME WKE g3 g4 o3 o4 e12
  go_wp2_with fail
  go_at_call 20
  refine LK.out.mono ?_
  intro en w6 hs
  obtain ⟨rfl, U6, t6, -⟩ := T5.out.side hs
  have T6 := hide t6
  clear hs t6 T5 LK
  go_wp2_with fail
  go_at_call 21
  refine (UL.out _ _ T6.out.ps).mono ?_
  intro en w7 hs
  obtain ⟨rfl, U7, t7, -⟩ := T6.out.side hs
  have T7 := hide t7
  clear hs t7 T6 UL
  go_wp2_with fail
  go_at_call 28
  refine (STQ.out _ _ T7.out.ps).mono ?_
  rintro e w8 ⟨rfl, b8⟩
  have T8 := hide ((T7.out.below K b8).1.alloc K (.cells #[.int .i64 1, .int .i64 1, .bool false, .int .i64 (n : Int)] 54)).1
  have HG8 := hide (heap_alloc_new w8 (.cells #[.int .i64 1, .int .i64 1, .bool false, .int .i64 (n : Int)] 54))
  clear b8 T7 STQ
  go_wp2_with fail
  generalize w8.alloc (.cells #[.int .i64 1, .int .i64 1, .bool false, .int .i64 (n : Int)] 54) = w9 at *
  generalize w8.heap.size = Y1 at *
  go_at_call 28
  refine (STP.out _ _ T8.out.ps).mono ?_
  rintro e w10 ⟨rfl, b10⟩
  have t10 := T8.out.below K b10
  have t10a := t10.1.alloc K (.cells #[.int .i64 0, .int .i64 0, .bool false, .int .i64 0] 54)
  have T10 := hide t10a.1
  have HGA := hide (((t10a.2 Y1 (List.mem_cons_self ..)).trans (t10.2 Y1 (List.mem_cons_self ..))).trans HG8.out)
  clear b10 T8 STP t10 t10a HG8
  go_wp2_with fail
  generalize w10.alloc (.cells #[.int .i64 0, .int .i64 0, .bool false, .int .i64 0] 54) = w11 at *
  generalize w10.heap.size = Y2 at *
  go_at_call 26
  refine (I.store T10.out.ps G4.out (by decide) O4.out).mono ?_
  rintro e w12 ⟨rfl, b12⟩
  have t12 := T10.out.below K b12
  have T12 := hide t12.1
  have HGB := hide ((t12.2 Y1 (by simp)).trans HGA.out)
  clear b12 T10 t12 HGA
  have RD := hide (show Calls Tryz.prog 33 #[.pointer (some ⟨S, 0, none⟩), .int .i64 1, .int .i64 0, .int .i64 999] w12 (ReadIs (oneO 8 bs) 1 0 999 w12) from I.rd T12.out.ps G4.out (by decide) O4.out (by decide) (by decide) (by decide))
  go_wp2_with fail
  go_at_call 33
  refine (show Calls Tryz.prog 33 #[.pointer (some ⟨S, 0, none⟩), .int .i64 1, .int .i64 0, .int .i64 999] w12 (fun e w' => ∃ A c, e = .returned (.tuple #[.slice A n c, .int .i64 0]) ∧ Ints .u8 w' A n bs ∧ Below w12.heap.size w12 w') from RD.out.mono (fun e w' => by
    rintro ⟨v, rfl, o, bl⟩
    rw [RQ.out.2] at o
    obtain ⟨A, c, rfl, i, -⟩ := own_ints o
    refine ⟨A, c, ?_, LX.out ▸ i, bl⟩
    rw [RQ.out.1, LX.out]; rfl)).mono ?_
  rintro e w13 ⟨A9, c9, rfl, i9, b13⟩
  have t13 := T12.out.below K b13
  have T13 := hide t13.1
  have I13 := hide i9
  have ha := (t13.2 Y1 (by simp)).trans HGB.out
  have X13 := hide (HX.out.1.below T13.out.bel)
  clear b13 i9 T12 RD t13 HGB
  have k0 : w13.cell? ⟨Y1, 0, none⟩ = some (.int .i64 1) := by rw [cell_of_row _ _ _ _ _ _ ha]; rfl
  have k1 : w13.cell? ⟨Y1, 1, none⟩ = some (.int .i64 1) := by rw [cell_of_row _ _ _ _ _ _ ha]; rfl
  have k2 : w13.cell? ⟨Y1, 2, none⟩ = some (.bool false) := by rw [cell_of_row _ _ _ _ _ _ ha]; rfl
  have k3 : w13.cell? ⟨Y1, 3, none⟩ = some (.int .i64 (n : Int)) := by rw [cell_of_row _ _ _ _ _ _ ha]; rfl
  have AF := hide (fun (W : World) (b : Below w13.heap.size w13 W) => (T13.out.below K b).1.bel)
  have N63 := hide (show n ≤ 9223372036854775807 from by omega)
  clear ha
  go_wp2_with fail
  go_at_call 36
  refine (same_any _ _ _ _ _ bs _ I13.out X13.out N63.out).mono ?_
  rintro en w14 ⟨rfl, k14, rfl⟩
  have B14 := hide (AF.out _ (below_drewN (Below.refl _ _) k14))
  go_wp2_with (go_at_call 11; refine (AWK.out _).mono ?_; rintro e w' ⟨rfl, hb⟩; have HB := hide hb; clear hb)
  go_ret
  exact ⟨rfl, B14.out.trans (HB.out.mono B14.out.size)⟩
end
end Go.Proofs.YtndfnglcichngaaGreatDoor
