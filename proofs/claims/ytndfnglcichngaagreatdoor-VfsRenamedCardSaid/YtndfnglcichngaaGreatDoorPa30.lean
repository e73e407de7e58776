/-
  Several texts as one: VpWalk VpAbove VpTell VpDo VpCalls.
-/
import Derived.Test.YtndfnglcichngaaGreatDoorPa26
import Derived.Test.YtndfnglcichngaaGreatDoorPa29
import Derived.Laws.ResultCell
import Derived.Deep.RegionHeld3
namespace Go.Proofs.YtndfnglcichngaaGreatDoor
open Go.ChangeShapes Go.WideShapes Go.ChangeAt Go.RowKit
set_option linter.unusedVariables false
set_option linter.unusedSimpArgs false
section
variable {w : World} {U : Nat → Prop} {H S T V : Nat} {s s' : In} {B : Int}
set_option maxRecDepth 10000 in
set_option maxHeartbeats 4000000 in
theorem pvwalk_any (h : PVf H S T w U V s) (g : GoodP s [] B) (t : Txt) (ht : t.length ≤ 1000) : Calls Tryz.prog 25 #[.pointer (some ⟨V, 0, none⟩), .string (bt t)] w fun e w' => e = .returned (.tuple #[.int .i64 ((walkI s t).1 : Nat), .int .i64 ((walkI s t).2 : Nat)]) ∧ Below w.heap.size w w' := by
  have SP := hide (psplit_any w t (by omega))
  have SR := hide (splitT_range t)
  have S6 := hide (splitT_few6 t)
  have HW := hide (show walkI s t = if (splitT t).2 = 0 then walkL s 0 (splitT t).1 else (0, (splitT t).2.toNat) from rfl)
  obtain ⟨l, hl⟩ : ∃ l, l = (splitT t).1 := ⟨_, rfl⟩
  obtain ⟨ev, hev⟩ : ∃ ev, ev = (splitT t).2 := ⟨_, rfl⟩
  have SPL := hide (show Calls Tryz.prog 62 #[.string (bt t)] w (fun e w' => ∃ v, e = .returned (.tuple #[v, .int .i64 ev]) ∧ w'.ownsRow w.heap.size 9 1 v l.length (l.flatMap txVals) ∧ Below w.heap.size w w') from by rw [hl, hev]; exact SP.out)
  rw [← hl] at S6 HW
  rw [← hev] at SR HW
  obtain ⟨n, hn⟩ : ∃ n, n = l.length := ⟨_, rfl⟩
  have NL := hide hn
  rw [← hn] at SPL S6
  have n6 : (n : Int) ≤ 6 := by have := S6.out; omega
  clear SP hl hev hn
  by_cases e0 : ev = 0
  · have HD := hide (fun (W : World) (b : Below w.heap.size w W) => (h.below b).c0)
    have FD := hide (fun (W : World) (b : Below w.heap.size w W) (d : Nat) (x : Txt) => pvfind_any (h.below b) g (d : Int) x)
    rw [e0] at SPL
    rw [if_pos e0] at HW
    clear h e0 SR g
    go_enter Tryz.func25, Tryz.ntmps25
    go_upto_region 4 with (go_at_call 62; refine SPL.out.mono ?_; rintro e w1 ⟨v1, rfl, o1, b1⟩; have O1 := hide o1; have B1 := hide b1; clear o1 b1)
    obtain ⟨a1, c1, rfl, r1, -, -, -⟩ := own_reads txVals_len (by omega) O1.out
    have R1 := hide r1
    clear r1
    go_wp2_with fail
    go_loopw [8, 23] (fun dv kv wr => ∃ (k d : Nat), k ≤ n ∧ kv = .int .i64 (k : Int) ∧ dv = .int .i64 (d : Int) ∧ Hid (walkL s 0 (l.take k) = (d, 0)) ∧ Hid (Below w1.heap.size w1 wr)) (fun _ kv _ => n - (intOf kv).toNat)
    case atStart => exact ⟨0, 0, Nat.zero_le _, rfl, rfl, rfl, Below.refl _ _⟩
    case round =>
      obtain ⟨k, d, hk, rfl, rfl, hW, hB⟩ := hrel
      rename World => wr
      have k0 : (0 : Int) ≤ (k : Int) := by omega
      have BW := hide (B1.out.trans (hB.out.mono B1.out.size))
      by_cases hlt : k < n
      · have k1 : (k : Int) < (n : Int) := by omega
        obtain ⟨x, b, off, hx, rfl, c0⟩ := (R1.out.below hB.out).text hlt
        have q0 := HD.out _ BW.out
        have TK := hide (walkL_take hx (show (walkL s 0 (l.take k)).2 = 0 by rw [hW.out]))
        have ST := hide (show (walkL s 0 (l.take (k + 1))).2 ≠ 0 → walkL s 0 l = walkL s 0 (l.take (k + 1)) from walkL_stop)
        obtain ⟨fi, hfi⟩ : ∃ z, z = fiII s d x := ⟨_, rfl⟩
        obtain ⟨fe, hfe⟩ : ∃ z, z = fiIE s d x := ⟨_, rfl⟩
        have FX := hide (show Calls Tryz.prog 63 #[.pointer (some ⟨T, 0, none⟩), .int .i64 (d : Int), .string (bt x)] wr fun e w' => e = .returned (.tuple #[.int .i64 (fi : Int), .int .i64 (fe : Int)]) ∧ Below wr.heap.size wr w' from by rw [hfi, hfe]; exact FD.out wr BW.out d x)
        rw [hW.out] at TK
        have TK2 : Hid (walkL s 0 (l.take (k + 1)) = if fe = 0 then (fi, 0) else (0, fe)) := hide (by rw [hfi, hfe]; exact TK.out)
        clear hx hfi hfe TK
        by_cases z0 : fe = 0
        · rw [if_pos z0] at TK2
          subst z0
          go_wp2_with (go_at_call 63; refine FX.out.mono ?_; rintro e w2 ⟨rfl, b2⟩; have B2 := hide (hB.out.trans (b2.mono hB.out.size)); clear b2)
          go_roundw
          case rel => exact ⟨k + 1, fi, by omega, by go_num, rfl, TK2, B2⟩
          case measure => simp [intOf]; omega
        · rw [if_neg z0] at TK2
          have z1 : ¬ (fe : Int) = 0 := by omega
          have WI := hide (show walkI s t = (0, fe) from by rw [HW.out, ST.out (by rw [TK2.out]; exact z0), TK2.out])
          go_wp2_with (go_at_call 63; refine FX.out.mono ?_; rintro e w2 ⟨rfl, b2⟩; have B2 := hide (hB.out.trans (b2.mono hB.out.size)); clear b2)
          go_ret2
          rw [WI.out]
          exact ⟨rfl, B1.out.trans (B2.out.mono B1.out.size)⟩
      · obtain rfl : k = n := by omega
        have WI := hide (show walkI s t = (d, 0) from by rw [HW.out]; have h := hW.out; rw [List.take_of_length_le (by rw [NL.out]; exact Nat.le_refl _)] at h; exact h)
        go_wp2_with fail
        go_ret2
        rw [WI.out]
        exact ⟨rfl, BW.out⟩
  · rw [if_neg e0] at HW
    obtain ⟨z, hz⟩ := Int.eq_ofNat_of_zero_le SR.out.1
    subst hz
    rw [Int.toNat_natCast] at HW
    rw [HW.out]
    clear h SR g
    go_enter Tryz.func25, Tryz.ntmps25
    go_wp2_with (go_at_call 62; refine SPL.out.mono ?_; rintro e w1 ⟨v1, rfl, o1, b1⟩; have B1 := hide b1; clear o1 b1)
    go_ret2
    exact ⟨rfl, B1.out⟩
theorem pvwalk_nil (w : World) (t : Txt) : Calls Tryz.prog 25 #[.pointer none, .string (bt t)] w fun e w' => e = .returned (.tuple #[.int .i64 0, .int .i64 1]) ∧ w = w' := by
  go_enter Tryz.func25, Tryz.ntmps25
  go_wp2_with fail
  go_ret2
  exact ⟨rfl, rfl⟩
end
end Go.Proofs.YtndfnglcichngaaGreatDoor
namespace Go.Proofs.YtndfnglcichngaaGreatDoor
open Go.ChangeShapes Go.WideShapes Go.ChangeAt Go.RowKit
set_option linter.unusedVariables false
set_option linter.unusedSimpArgs false
section
variable {w : World} {U : Nat → Prop} {H S T V : Nat} {s s' : In} {B : Int}
set_option maxRecDepth 10000 in
set_option maxHeartbeats 8000000 in
theorem above_no (h : PVf H S T w U V s) (g : GoodP s [] B) (t : Txt) (ht : t.length ≤ 1000) (fv : Value) (hp : (parI s t).2.2 ≠ 0) : Calls Tryz.prog 54 #[.pointer (some ⟨V, 0, none⟩), .string (bt t), fv] w fun e w' => e = .returned (.int .i64 ((parI s t).2.2 : Nat)) ∧ Below w.heap.size w w' := by
  have PR := hide (ppath.parent w t (by omega))
  have SR := hide (parT_range t)
  have HP := hide (show parI s t = if (parT t).2.2 = 0 then (if (walkI s (parT t).1).2 = 0 then ((walkI s (parT t).1).1, (parT t).2.1, 0) else (0, [], (walkI s (parT t).1).2)) else (0, [], (parT t).2.2.toNat) from rfl)
  have PS := hide (show (parT t).2.2 = 0 → (parT t).1.length ≤ 54 from fun e => (parT_short e).1)
  obtain ⟨u, hu⟩ : ∃ z, z = (parT t).1 := ⟨_, rfl⟩
  obtain ⟨x, hx⟩ : ∃ z, z = (parT t).2.1 := ⟨_, rfl⟩
  obtain ⟨ev, hev⟩ : ∃ z, z = (parT t).2.2 := ⟨_, rfl⟩
  have PRT := hide (show Calls Tryz.prog 96 #[.string (bt t)] w (fun e w' => e = .returned (.tuple #[.string (bt u), .string (bt x), .int .i64 ev]) ∧ Below w.heap.size w w') from by rw [hu, hx, hev]; exact PR.out)
  rw [← hev] at SR HP PS
  rw [← hu] at HP PS
  rw [← hx] at HP
  clear PR hu hx hev
  by_cases e0 : ev = 0
  · rw [if_pos e0] at HP
    have U54 := hide (PS.out e0)
    rw [e0] at PRT
    obtain ⟨wd, hwd⟩ : ∃ z, z = (walkI s u).1 := ⟨_, rfl⟩
    obtain ⟨we, hwe⟩ : ∃ z, z = (walkI s u).2 := ⟨_, rfl⟩
    have WK := hide (fun (W : World) (b : Below w.heap.size w W) => show Calls Tryz.prog 25 #[.pointer (some ⟨V, 0, none⟩), .string (bt u)] W (fun e w' => e = .returned (.tuple #[.int .i64 (wd : Int), .int .i64 (we : Int)]) ∧ Below W.heap.size W w') from by rw [hwd, hwe]; exact pvwalk_any (h.below b) g u (by have := U54.out; omega))
    rw [← hwd, ← hwe] at HP
    clear h g SR PS e0 hwd hwe
    by_cases z0 : we = 0
    · rw [if_pos z0] at HP
      rw [HP.out] at hp
      exact absurd rfl hp
    · rw [if_neg z0] at HP
      rw [HP.out]
      have z1 : ¬ (we : Int) = 0 := by omega
      clear hp HP z0
      go_enter Tryz.func54, Tryz.ntmps54
      go_wp2_with (first
        | (go_at_call 96; refine PRT.out.mono ?_; rintro e w1 ⟨rfl, b1⟩; have B1 := hide b1; clear b1)
        | (go_at_call 25; refine (WK.out _ B1.out).mono ?_; rintro e w2 ⟨rfl, b2⟩; have B2 := hide (B1.out.trans (b2.mono B1.out.size)); clear b2))
      go_ret
      exact ⟨rfl, B2.out⟩
  · rw [if_neg e0] at HP
    obtain ⟨z, hz⟩ := Int.eq_ofNat_of_zero_le SR.out.1
    subst hz
    rw [Int.toNat_natCast] at HP
    rw [HP.out]
    clear h g SR PS hp HP
    go_enter Tryz.func54, Tryz.ntmps54
    go_wp2_with (go_at_call 96; refine PRT.out.mono ?_; rintro e w1 ⟨rfl, b1⟩; have B1 := hide b1; clear b1)
    go_ret
    exact ⟨rfl, B1.out⟩
theorem above_nil (w : World) (t : Txt) (fv : Value) : Calls Tryz.prog 54 #[.pointer none, .string (bt t), fv] w fun e w' => e = .returned (.int .i64 1) ∧ w = w' := by
  go_enter Tryz.func54, Tryz.ntmps54
  go_wp2_with fail
  go_ret
  exact ⟨rfl, rfl⟩
set_option maxRecDepth 10000 in
set_option maxHeartbeats 8000000 in
theorem above_makeFile (h : PVf H S T w U V s) (g : GoodP s [] B) (t : Txt) (ht : t.length ≤ 1000) (rv : Value) (hp : (parI s t).2.2 = 0) {s2 : In} {k : Int} (C : ∀ w1, Below w.heap.size w w1 → Calls Tryz.prog 55 #[rv, .int .i64 ((parI s t).1 : Nat), .string (bt (parI s t).2.1)] w1 (SideO (fun w' U' => PVf H S T w' U' V s2) U w1 (.int .i64 k))) : Calls Tryz.prog 54 #[.pointer (some ⟨V, 0, none⟩), .string (bt t), .func (.func 55) #[rv] #[]] w (SideO (fun w' U' => PVf H S T w' U' V s2) U w (.int .i64 k)) := by
  have PR := hide (ppath.parent w t (by omega))
  have SR := hide (parT_range t)
  have HP := hide (show parI s t = if (parT t).2.2 = 0 then (if (walkI s (parT t).1).2 = 0 then ((walkI s (parT t).1).1, (parT t).2.1, 0) else (0, [], (walkI s (parT t).1).2)) else (0, [], (parT t).2.2.toNat) from rfl)
  have PS := hide (show (parT t).2.2 = 0 → (parT t).1.length ≤ 54 from fun e => (parT_short e).1)
  obtain ⟨u, hu⟩ : ∃ z, z = (parT t).1 := ⟨_, rfl⟩
  obtain ⟨x, hx⟩ : ∃ z, z = (parT t).2.1 := ⟨_, rfl⟩
  obtain ⟨ev, hev⟩ : ∃ z, z = (parT t).2.2 := ⟨_, rfl⟩
  have PRT := hide (show Calls Tryz.prog 96 #[.string (bt t)] w (fun e w' => e = .returned (.tuple #[.string (bt u), .string (bt x), .int .i64 ev]) ∧ Below w.heap.size w w') from by rw [hu, hx, hev]; exact PR.out)
  rw [← hev] at SR HP PS
  rw [← hu] at HP PS
  rw [← hx] at HP
  clear PR hu hx hev
  by_cases e0 : ev = 0
  · rw [if_pos e0] at HP
    have U54 := hide (PS.out e0)
    rw [e0] at PRT
    obtain ⟨wd, hwd⟩ : ∃ z, z = (walkI s u).1 := ⟨_, rfl⟩
    obtain ⟨we, hwe⟩ : ∃ z, z = (walkI s u).2 := ⟨_, rfl⟩
    have WK := hide (fun (W : World) (b : Below w.heap.size w W) => show Calls Tryz.prog 25 #[.pointer (some ⟨V, 0, none⟩), .string (bt u)] W (fun e w' => e = .returned (.tuple #[.int .i64 (wd : Int), .int .i64 (we : Int)]) ∧ Below W.heap.size W w') from by rw [hwd, hwe]; exact pvwalk_any (h.below b) g u (by have := U54.out; omega))
    rw [← hwd, ← hwe] at HP
    by_cases z0 : we = 0
    · rw [if_pos z0] at HP
      rw [HP.out] at C
      have CC := hide C
      subst z0
      clear h g SR PS e0 hwd hwe C hp HP
      go_enter Tryz.func54, Tryz.ntmps54
      go_wp2_with (first
        | (go_at_call 96; refine PRT.out.mono ?_; rintro e w1 ⟨rfl, b1⟩; have B1 := hide b1; clear b1)
        | (go_at_call 25; refine (WK.out _ B1.out).mono ?_; rintro e w2 ⟨rfl, b2⟩; have B2 := hide (B1.out.trans (b2.mono B1.out.size)); clear b2)
        | (go_at_call 55; refine (CC.out _ B2.out).mono ?_; rintro e w3 ⟨rfl, q3⟩; have Q3 := hide q3; clear q3))
      go_ret
      exact SideO.later B2.out ⟨rfl, Q3.out⟩
    · rw [if_neg z0] at HP
      rw [HP.out] at hp
      exact absurd hp z0
  · rw [if_neg e0] at HP
    rw [HP.out] at hp
    have := SR.out.1
    exact absurd hp (by show ¬ ev.toNat = 0; omega)
set_option maxRecDepth 10000 in
set_option maxHeartbeats 8000000 in
theorem above_makeDir (h : PVf H S T w U V s) (g : GoodP s [] B) (t : Txt) (ht : t.length ≤ 1000) (rv : Value) (hp : (parI s t).2.2 = 0) {s2 : In} {k : Int} (C : ∀ w1, Below w.heap.size w w1 → Calls Tryz.prog 60 #[rv, .int .i64 ((parI s t).1 : Nat), .string (bt (parI s t).2.1)] w1 (SideO (fun w' U' => PVf H S T w' U' V s2) U w1 (.int .i64 k))) : Calls Tryz.prog 54 #[.pointer (some ⟨V, 0, none⟩), .string (bt t), .func (.func 60) #[rv] #[]] w (SideO (fun w' U' => PVf H S T w' U' V s2) U w (.int .i64 k)) := by
  have PR := hide (ppath.parent w t (by omega))
  have SR := hide (parT_range t)
  have HP := hide (show parI s t = if (parT t).2.2 = 0 then (if (walkI s (parT t).1).2 = 0 then ((walkI s (parT t).1).1, (parT t).2.1, 0) else (0, [], (walkI s (parT t).1).2)) else (0, [], (parT t).2.2.toNat) from rfl)
  have PS := hide (show (parT t).2.2 = 0 → (parT t).1.length ≤ 54 from fun e => (parT_short e).1)
  obtain ⟨u, hu⟩ : ∃ z, z = (parT t).1 := ⟨_, rfl⟩
  obtain ⟨x, hx⟩ : ∃ z, z = (parT t).2.1 := ⟨_, rfl⟩
  obtain ⟨ev, hev⟩ : ∃ z, z = (parT t).2.2 := ⟨_, rfl⟩
  have PRT := hide (show Calls Tryz.prog 96 #[.string (bt t)] w (fun e w' => e = .returned (.tuple #[.string (bt u), .string (bt x), .int .i64 ev]) ∧ Below w.heap.size w w') from by rw [hu, hx, hev]; exact PR.out)
  rw [← hev] at SR HP PS
  rw [← hu] at HP PS
  rw [← hx] at HP
  clear PR hu hx hev
  by_cases e0 : ev = 0
  · rw [if_pos e0] at HP
    have U54 := hide (PS.out e0)
    rw [e0] at PRT
    obtain ⟨wd, hwd⟩ : ∃ z, z = (walkI s u).1 := ⟨_, rfl⟩
    obtain ⟨we, hwe⟩ : ∃ z, z = (walkI s u).2 := ⟨_, rfl⟩
    have WK := hide (fun (W : World) (b : Below w.heap.size w W) => show Calls Tryz.prog 25 #[.pointer (some ⟨V, 0, none⟩), .string (bt u)] W (fun e w' => e = .returned (.tuple #[.int .i64 (wd : Int), .int .i64 (we : Int)]) ∧ Below W.heap.size W w') from by rw [hwd, hwe]; exact pvwalk_any (h.below b) g u (by have := U54.out; omega))
    rw [← hwd, ← hwe] at HP
    by_cases z0 : we = 0
    · rw [if_pos z0] at HP
      rw [HP.out] at C
      have CC := hide C
      subst z0
      clear h g SR PS e0 hwd hwe C hp HP
      go_enter Tryz.func54, Tryz.ntmps54
      go_wp2_with (first
        | (go_at_call 96; refine PRT.out.mono ?_; rintro e w1 ⟨rfl, b1⟩; have B1 := hide b1; clear b1)
        | (go_at_call 25; refine (WK.out _ B1.out).mono ?_; rintro e w2 ⟨rfl, b2⟩; have B2 := hide (B1.out.trans (b2.mono B1.out.size)); clear b2)
        | (go_at_call 60; refine (CC.out _ B2.out).mono ?_; rintro e w3 ⟨rfl, q3⟩; have Q3 := hide q3; clear q3))
      go_ret
      exact SideO.later B2.out ⟨rfl, Q3.out⟩
    · rw [if_neg z0] at HP
      rw [HP.out] at hp
      exact absurd hp z0
  · rw [if_neg e0] at HP
    rw [HP.out] at hp
    have := SR.out.1
    exact absurd hp (by show ¬ ev.toNat = 0; omega)
set_option maxRecDepth 10000 in
set_option maxHeartbeats 8000000 in
theorem above_dropFile (h : PVf H S T w U V s) (g : GoodP s [] B) (t : Txt) (ht : t.length ≤ 1000) (rv : Value) (hp : (parI s t).2.2 = 0) {s2 : In} {k : Int} (C : ∀ w1, Below w.heap.size w w1 → Calls Tryz.prog 59 #[rv, .int .i64 ((parI s t).1 : Nat), .string (bt (parI s t).2.1)] w1 (SideO (fun w' U' => PVf H S T w' U' V s2) U w1 (.int .i64 k))) : Calls Tryz.prog 54 #[.pointer (some ⟨V, 0, none⟩), .string (bt t), .func (.func 59) #[rv] #[]] w (SideO (fun w' U' => PVf H S T w' U' V s2) U w (.int .i64 k)) := by
  have PR := hide (ppath.parent w t (by omega))
  have SR := hide (parT_range t)
  have HP := hide (show parI s t = if (parT t).2.2 = 0 then (if (walkI s (parT t).1).2 = 0 then ((walkI s (parT t).1).1, (parT t).2.1, 0) else (0, [], (walkI s (parT t).1).2)) else (0, [], (parT t).2.2.toNat) from rfl)
  have PS := hide (show (parT t).2.2 = 0 → (parT t).1.length ≤ 54 from fun e => (parT_short e).1)
  obtain ⟨u, hu⟩ : ∃ z, z = (parT t).1 := ⟨_, rfl⟩
  obtain ⟨x, hx⟩ : ∃ z, z = (parT t).2.1 := ⟨_, rfl⟩
  obtain ⟨ev, hev⟩ : ∃ z, z = (parT t).2.2 := ⟨_, rfl⟩
  have PRT := hide (show Calls Tryz.prog 96 #[.string (bt t)] w (fun e w' => e = .returned (.tuple #[.string (bt u), .string (bt x), .int .i64 ev]) ∧ Below w.heap.size w w') from by rw [hu, hx, hev]; exact PR.out)
  rw [← hev] at SR HP PS
  rw [← hu] at HP PS
  rw [← hx] at HP
  clear PR hu hx hev
  by_cases e0 : ev = 0
  · rw [if_pos e0] at HP
    have U54 := hide (PS.out e0)
    rw [e0] at PRT
    obtain ⟨wd, hwd⟩ : ∃ z, z = (walkI s u).1 := ⟨_, rfl⟩
    obtain ⟨we, hwe⟩ : ∃ z, z = (walkI s u).2 := ⟨_, rfl⟩
    have WK := hide (fun (W : World) (b : Below w.heap.size w W) => show Calls Tryz.prog 25 #[.pointer (some ⟨V, 0, none⟩), .string (bt u)] W (fun e w' => e = .returned (.tuple #[.int .i64 (wd : Int), .int .i64 (we : Int)]) ∧ Below W.heap.size W w') from by rw [hwd, hwe]; exact pvwalk_any (h.below b) g u (by have := U54.out; omega))
    rw [← hwd, ← hwe] at HP
    by_cases z0 : we = 0
    · rw [if_pos z0] at HP
      rw [HP.out] at C
      have CC := hide C
      subst z0
      clear h g SR PS e0 hwd hwe C hp HP
      go_enter Tryz.func54, Tryz.ntmps54
      go_wp2_with (first
        | (go_at_call 96; refine PRT.out.mono ?_; rintro e w1 ⟨rfl, b1⟩; have B1 := hide b1; clear b1)
        | (go_at_call 25; refine (WK.out _ B1.out).mono ?_; rintro e w2 ⟨rfl, b2⟩; have B2 := hide (B1.out.trans (b2.mono B1.out.size)); clear b2)
        | (go_at_call 59; refine (CC.out _ B2.out).mono ?_; rintro e w3 ⟨rfl, q3⟩; have Q3 := hide q3; clear q3))
      go_ret
      exact SideO.later B2.out ⟨rfl, Q3.out⟩
    · rw [if_neg z0] at HP
      rw [HP.out] at hp
      exact absurd hp z0
  · rw [if_neg e0] at HP
    rw [HP.out] at hp
    have := SR.out.1
    exact absurd hp (by show ¬ ev.toNat = 0; omega)
set_option maxRecDepth 10000 in
set_option maxHeartbeats 8000000 in
theorem above_dropDir (h : PVf H S T w U V s) (g : GoodP s [] B) (t : Txt) (ht : t.length ≤ 1000) (rv : Value) (hp : (parI s t).2.2 = 0) {s2 : In} {k : Int} (C : ∀ w1, Below w.heap.size w w1 → Calls Tryz.prog 61 #[rv, .int .i64 ((parI s t).1 : Nat), .string (bt (parI s t).2.1)] w1 (SideO (fun w' U' => PVf H S T w' U' V s2) U w1 (.int .i64 k))) : Calls Tryz.prog 54 #[.pointer (some ⟨V, 0, none⟩), .string (bt t), .func (.func 61) #[rv] #[]] w (SideO (fun w' U' => PVf H S T w' U' V s2) U w (.int .i64 k)) := by
  have PR := hide (ppath.parent w t (by omega))
  have SR := hide (parT_range t)
  have HP := hide (show parI s t = if (parT t).2.2 = 0 then (if (walkI s (parT t).1).2 = 0 then ((walkI s (parT t).1).1, (parT t).2.1, 0) else (0, [], (walkI s (parT t).1).2)) else (0, [], (parT t).2.2.toNat) from rfl)
  have PS := hide (show (parT t).2.2 = 0 → (parT t).1.length ≤ 54 from fun e => (parT_short e).1)
  obtain ⟨u, hu⟩ : ∃ z, z = (parT t).1 := ⟨_, rfl⟩
  obtain ⟨x, hx⟩ : ∃ z, z = (parT t).2.1 := ⟨_, rfl⟩
  obtain ⟨ev, hev⟩ : ∃ z, z = (parT t).2.2 := ⟨_, rfl⟩
  have PRT := hide (show Calls Tryz.prog 96 #[.string (bt t)] w (fun e w' => e = .returned (.tuple #[.string (bt u), .string (bt x), .int .i64 ev]) ∧ Below w.heap.size w w') from by rw [hu, hx, hev]; exact PR.out)
  rw [← hev] at SR HP PS
  rw [← hu] at HP PS
  rw [← hx] at HP
  clear PR hu hx hev
  by_cases e0 : ev = 0
  · rw [if_pos e0] at HP
    have U54 := hide (PS.out e0)
    rw [e0] at PRT
    obtain ⟨wd, hwd⟩ : ∃ z, z = (walkI s u).1 := ⟨_, rfl⟩
    obtain ⟨we, hwe⟩ : ∃ z, z = (walkI s u).2 := ⟨_, rfl⟩
    have WK := hide (fun (W : World) (b : Below w.heap.size w W) => show Calls Tryz.prog 25 #[.pointer (some ⟨V, 0, none⟩), .string (bt u)] W (fun e w' => e = .returned (.tuple #[.int .i64 (wd : Int), .int .i64 (we : Int)]) ∧ Below W.heap.size W w') from by rw [hwd, hwe]; exact pvwalk_any (h.below b) g u (by have := U54.out; omega))
    rw [← hwd, ← hwe] at HP
    by_cases z0 : we = 0
    · rw [if_pos z0] at HP
      rw [HP.out] at C
      have CC := hide C
      subst z0
      clear h g SR PS e0 hwd hwe C hp HP
      go_enter Tryz.func54, Tryz.ntmps54
      go_wp2_with (first
        | (go_at_call 96; refine PRT.out.mono ?_; rintro e w1 ⟨rfl, b1⟩; have B1 := hide b1; clear b1)
        | (go_at_call 25; refine (WK.out _ B1.out).mono ?_; rintro e w2 ⟨rfl, b2⟩; have B2 := hide (B1.out.trans (b2.mono B1.out.size)); clear b2)
        | (go_at_call 61; refine (CC.out _ B2.out).mono ?_; rintro e w3 ⟨rfl, q3⟩; have Q3 := hide q3; clear q3))
      go_ret
      exact SideO.later B2.out ⟨rfl, Q3.out⟩
    · rw [if_neg z0] at HP
      rw [HP.out] at hp
      exact absurd hp z0
  · rw [if_neg e0] at HP
    rw [HP.out] at hp
    have := SR.out.1
    exact absurd hp (by show ¬ ev.toNat = 0; omega)
set_option maxRecDepth 10000 in
set_option maxHeartbeats 8000000 in
theorem above_enter (h : PVf H S T w U V s) (g : GoodP s [] B) (t : Txt) (ht : t.length ≤ 1000) (rv : Value) (hp : (parI s t).2.2 = 0) {s2 : In} {k : Int} (C : ∀ w1, Below w.heap.size w w1 → Calls Tryz.prog 58 #[rv, .int .i64 ((parI s t).1 : Nat), .string (bt (parI s t).2.1)] w1 (SideO (fun w' U' => PVf H S T w' U' V s2) U w1 (.int .i64 k))) : Calls Tryz.prog 54 #[.pointer (some ⟨V, 0, none⟩), .string (bt t), .func (.func 58) #[rv] #[]] w (SideO (fun w' U' => PVf H S T w' U' V s2) U w (.int .i64 k)) := by
  have PR := hide (ppath.parent w t (by omega))
  have SR := hide (parT_range t)
  have HP := hide (show parI s t = if (parT t).2.2 = 0 then (if (walkI s (parT t).1).2 = 0 then ((walkI s (parT t).1).1, (parT t).2.1, 0) else (0, [], (walkI s (parT t).1).2)) else (0, [], (parT t).2.2.toNat) from rfl)
  have PS := hide (show (parT t).2.2 = 0 → (parT t).1.length ≤ 54 from fun e => (parT_short e).1)
  obtain ⟨u, hu⟩ : ∃ z, z = (parT t).1 := ⟨_, rfl⟩
  obtain ⟨x, hx⟩ : ∃ z, z = (parT t).2.1 := ⟨_, rfl⟩
  obtain ⟨ev, hev⟩ : ∃ z, z = (parT t).2.2 := ⟨_, rfl⟩
  have PRT := hide (show Calls Tryz.prog 96 #[.string (bt t)] w (fun e w' => e = .returned (.tuple #[.string (bt u), .string (bt x), .int .i64 ev]) ∧ Below w.heap.size w w') from by rw [hu, hx, hev]; exact PR.out)
  rw [← hev] at SR HP PS
  rw [← hu] at HP PS
  rw [← hx] at HP
  clear PR hu hx hev
  by_cases e0 : ev = 0
  · rw [if_pos e0] at HP
    have U54 := hide (PS.out e0)
    rw [e0] at PRT
    obtain ⟨wd, hwd⟩ : ∃ z, z = (walkI s u).1 := ⟨_, rfl⟩
    obtain ⟨we, hwe⟩ : ∃ z, z = (walkI s u).2 := ⟨_, rfl⟩
    have WK := hide (fun (W : World) (b : Below w.heap.size w W) => show Calls Tryz.prog 25 #[.pointer (some ⟨V, 0, none⟩), .string (bt u)] W (fun e w' => e = .returned (.tuple #[.int .i64 (wd : Int), .int .i64 (we : Int)]) ∧ Below W.heap.size W w') from by rw [hwd, hwe]; exact pvwalk_any (h.below b) g u (by have := U54.out; omega))
    rw [← hwd, ← hwe] at HP
    by_cases z0 : we = 0
    · rw [if_pos z0] at HP
      rw [HP.out] at C
      have CC := hide C
      subst z0
      clear h g SR PS e0 hwd hwe C hp HP
      go_enter Tryz.func54, Tryz.ntmps54
      go_wp2_with (first
        | (go_at_call 96; refine PRT.out.mono ?_; rintro e w1 ⟨rfl, b1⟩; have B1 := hide b1; clear b1)
        | (go_at_call 25; refine (WK.out _ B1.out).mono ?_; rintro e w2 ⟨rfl, b2⟩; have B2 := hide (B1.out.trans (b2.mono B1.out.size)); clear b2)
        | (go_at_call 58; refine (CC.out _ B2.out).mono ?_; rintro e w3 ⟨rfl, q3⟩; have Q3 := hide q3; clear q3))
      go_ret
      exact SideO.later B2.out ⟨rfl, Q3.out⟩
    · rw [if_neg z0] at HP
      rw [HP.out] at hp
      exact absurd hp z0
  · rw [if_neg e0] at HP
    rw [HP.out] at hp
    have := SR.out.1
    exact absurd hp (by show ¬ ev.toNat = 0; omega)
end
end Go.Proofs.YtndfnglcichngaaGreatDoor
namespace Go.Proofs.YtndfnglcichngaaGreatDoor
open Go.ChangeShapes Go.WideShapes Go.ChangeAt Go.RowKit
set_option linter.unusedVariables false
set_option linter.unusedSimpArgs false
def entA (s : In) (p : Int) (x : Txt) : Value := if fiIE s p x = 0 then nodA s (fiII s p x) else .agg #[.int .i64 0, .int .i64 0, .bool false, .int .i64 0]
theorem nodA_is {s : In} {d : Int} (h : isI s d = true) : ∃ g1 g3, nodA s d = .agg #[.int .i64 d, .int .i64 g1, .bool (dirI s d), .int .i64 g3] := by
  refine ⟨(s.n d.toNat).links, (gtSz s d.toNat : Nat), ?_⟩
  unfold nodA dirI
  rw [if_pos h, h, Bool.true_and]
theorem agg_built : Tryz.prog.built 54 [] = some #[.int .i64 0, .int .i64 0, .bool false, .int .i64 0] := by kernel_rfl
attribute [local go_sem] agg_built
section
variable {w : World} {U : Nat → Prop} {H S T V : Nat} {s s' : In} {B : Int}
set_option maxRecDepth 10000 in
set_option maxHeartbeats 4000000 in
theorem pvstat_any (h : PVf H S T w U V s) (g : GoodP s [] B) (t : Txt) (ht : t.length ≤ 1000) : Calls Tryz.prog 28 #[.pointer (some ⟨V, 0, none⟩), .string (bt t)] w fun e w' => e = .returned (.tuple #[statA s t, .int .i64 ((walkI s t).2 : Nat)]) ∧ Below w.heap.size w w' := by
  have A1 := hide (show ∀ o : Obj, Below w.heap.size w (w.alloc o) from fun o => (Below.refl _ _).alloc (Nat.le_refl _) o)
  have HS := hide (show statA s t = if (walkI s t).2 = 0 then nodA s (walkI s t).1 else .agg #[.int .i64 0, .int .i64 0, .bool false, .int .i64 0] from rfl)
  obtain ⟨d, hdd⟩ : ∃ z, z = (walkI s t).1 := ⟨_, rfl⟩
  obtain ⟨we, hwe⟩ : ∃ z, z = (walkI s t).2 := ⟨_, rfl⟩
  have WK := hide (fun (W : World) (b : Below w.heap.size w W) => show Calls Tryz.prog 25 #[.pointer (some ⟨V, 0, none⟩), .string (bt t)] W (fun e w' => e = .returned (.tuple #[.int .i64 (d : Int), .int .i64 (we : Int)]) ∧ Below W.heap.size W w') from by rw [hdd, hwe]; exact pvwalk_any (h.below b) g t ht)
  rw [← hwe] at HS ⊢
  rw [← hdd] at HS
  obtain ⟨W0, hW0⟩ : ∃ W0, W0 = w.alloc (.cells #[.int .i64 0, .int .i64 0, .bool false, .int .i64 0] 54) := ⟨_, rfl⟩
  have HR0 := hide (show W0.heap[w.heap.size]? = some (.cells #[.int .i64 0, .int .i64 0, .bool false, .int .i64 0] 54 (0, 0)) from by rw [hW0]; exact heap_alloc_new _ _)
  have B0 := hide (show Below w.heap.size w W0 from by rw [hW0]; exact A1.out _)
  by_cases z0 : we = 0
  · rw [if_pos z0] at HS
    rw [HS.out]
    obtain ⟨g0, g1, g2, g3, hn⟩ := nodA_form s (d : Int)
    obtain ⟨ib, hib⟩ : ∃ z, z = isI s (d : Int) := ⟨_, rfl⟩
    have GT := hide (fun (W : World) (b : Below w.heap.size w W) => show Calls Tryz.prog 70 #[.pointer (some ⟨T, 0, none⟩), .int .i64 (d : Int)] W (fun e w' => e = .returned (.tuple #[.agg #[.int .i64 g0, .int .i64 g1, .bool g2, .int .i64 g3], .bool ib]) ∧ Below W.heap.size W w') from by rw [hib, ← hn]; exact pvget_any (h.below b) g (d : Int))
    have HD := hide (fun (W : World) (b : Below w.heap.size w W) => (h.below b).c0)
    rw [hn]
    have z1 : (we : Int) = 0 := by omega
    rw [z1] at WK ⊢
    have x00 := HD.out _ B0.out
    clear h g HS z0 hn hib hdd hwe
    go_enter Tryz.func28, Tryz.ntmps28
    go_upto_region 1 with fail
    rw [← hW0]
    clear hW0
    go_upto_region 4 with (go_at_call 25; refine (WK.out _ B0.out).mono ?_; rintro e w1 ⟨rfl, b1⟩; have B1' := hide b1; have B1 := hide (B0.out.trans (b1.mono B0.out.size)); have x0 := HD.out _ B1.out; clear b1)
    go_upto_region 5 with (go_at_call 70; refine (GT.out _ B1.out).mono ?_; rintro e w2 ⟨rfl, b2⟩; have B2' := hide (B1'.out.trans (b2.mono B1'.out.size)); have B2 := hide (B1.out.trans (b2.mono B1.out.size)); clear b2)
    have bA := (Below.refl w2.heap.size w2).alloc (Nat.le_refl _) (.cells #[.int .i64 g0, .int .i64 g1, .bool g2, .int .i64 g3] 54)
    have hr2 := (B2'.out.block w.heap.size (lt_of_heap HR0.out)).trans HR0.out
    have hr := (bA.block w.heap.size (lt_of_heap hr2)).trans hr2
    have hy := heap_alloc_new w2 (.cells #[.int .i64 g0, .int .i64 g1, .bool g2, .int .i64 g3] 54)
    have hne : ¬ w2.heap.size = w.heap.size := by have := lt_of_heap hr2; omega
    have B3 := hide (B2.out.trans (bA.mono B2.out.size))
    generalize w2.alloc (.cells #[.int .i64 g0, .int .i64 g1, .bool g2, .int .i64 g3] 54) = w3 at *
    generalize w2.heap.size = Y at *
    have y0 : w3.cell? ⟨Y, 0, none⟩ = some (.int .i64 g0) := by rw [cell_of_row _ _ _ _ _ _ hy]; rfl
    have y1 : w3.cell? ⟨Y, 1, none⟩ = some (.int .i64 g1) := by rw [cell_of_row _ _ _ _ _ _ hy]; rfl
    have y2 : w3.cell? ⟨Y, 2, none⟩ = some (.bool g2) := by rw [cell_of_row _ _ _ _ _ _ hy]; rfl
    have y3 : w3.cell? ⟨Y, 3, none⟩ = some (.int .i64 g3) := by rw [cell_of_row _ _ _ _ _ _ hy]; rfl
    have c0 : w3.cell? ⟨w.heap.size, 0, none⟩ = some (.int .i64 0) := by rw [cell_of_row _ _ _ _ _ _ hr]; rfl
    have c1 : w3.cell? ⟨w.heap.size, 1, none⟩ = some (.int .i64 0) := by rw [cell_of_row _ _ _ _ _ _ hr]; rfl
    have c2 : w3.cell? ⟨w.heap.size, 2, none⟩ = some (.bool false) := by rw [cell_of_row _ _ _ _ _ _ hr]; rfl
    have c3 : w3.cell? ⟨w.heap.size, 3, none⟩ = some (.int .i64 0) := by rw [cell_of_row _ _ _ _ _ _ hr]; rfl
    have f0 := frozen_of_row w3 _ 0 _ _ hr
    have f1 := frozen_of_row w3 _ 1 _ _ hr
    have f2 := frozen_of_row w3 _ 2 _ _ hr
    have f3 := frozen_of_row w3 _ 3 _ _ hr
    have HRR := hide hr
    have FB := hide (show Below w.heap.size w ((((w3.setCell ⟨w.heap.size, 0, none⟩ (.int .i64 g0)).setCell ⟨w.heap.size, 1, none⟩ (.int .i64 g1)).setCell ⟨w.heap.size, 2, none⟩ (.bool g2)).setCell ⟨w.heap.size, 3, none⟩ (.int .i64 g3)) from ((((B3.out.setCell (p := ⟨w.heap.size, 0, none⟩) (Nat.le_refl _) _).setCell (p := ⟨w.heap.size, 1, none⟩) (Nat.le_refl _) _).setCell (p := ⟨w.heap.size, 2, none⟩) (Nat.le_refl _) _).setCell (p := ⟨w.heap.size, 3, none⟩) (Nat.le_refl _) _))
    clear hr hr2 hy bA x0 x00
    go_wp2_with fail
    refine bodyPost_ret (v := .tuple #[.agg #[.int .i64 g0, .int .i64 g1, .bool g2, .int .i64 g3], .int .i64 0]) ?_ rfl ⟨rfl, FB.out⟩
    rw [results_cell_tmp rfl]
    have hz := heap_setCell_same _ _ 3 _ _ (.int .i64 g3) (heap_setCell_same _ _ 2 _ _ (.bool g2) (heap_setCell_same _ _ 1 _ _ (.int .i64 g1) (heap_setCell_same _ _ 0 _ _ (.int .i64 g0) HRR.out)))
    have z0 : (((((w3.setCell ⟨w.heap.size, 0, none⟩ (.int .i64 g0)).setCell ⟨w.heap.size, 1, none⟩ (.int .i64 g1)).setCell ⟨w.heap.size, 2, none⟩ (.bool g2)).setCell ⟨w.heap.size, 3, none⟩ (.int .i64 g3))).cell? ⟨w.heap.size, 0, none⟩ = some (.int .i64 g0) := by rw [cell_of_row _ _ _ _ _ _ hz]; rfl
    have z1 : (((((w3.setCell ⟨w.heap.size, 0, none⟩ (.int .i64 g0)).setCell ⟨w.heap.size, 1, none⟩ (.int .i64 g1)).setCell ⟨w.heap.size, 2, none⟩ (.bool g2)).setCell ⟨w.heap.size, 3, none⟩ (.int .i64 g3))).cell? ⟨w.heap.size, 1, none⟩ = some (.int .i64 g1) := by rw [cell_of_row _ _ _ _ _ _ hz]; rfl
    have z2 : (((((w3.setCell ⟨w.heap.size, 0, none⟩ (.int .i64 g0)).setCell ⟨w.heap.size, 1, none⟩ (.int .i64 g1)).setCell ⟨w.heap.size, 2, none⟩ (.bool g2)).setCell ⟨w.heap.size, 3, none⟩ (.int .i64 g3))).cell? ⟨w.heap.size, 2, none⟩ = some (.bool g2) := by rw [cell_of_row _ _ _ _ _ _ hz]; rfl
    have z3 : (((((w3.setCell ⟨w.heap.size, 0, none⟩ (.int .i64 g0)).setCell ⟨w.heap.size, 1, none⟩ (.int .i64 g1)).setCell ⟨w.heap.size, 2, none⟩ (.bool g2)).setCell ⟨w.heap.size, 3, none⟩ (.int .i64 g3))).cell? ⟨w.heap.size, 3, none⟩ = some (.int .i64 g3) := by rw [cell_of_row _ _ _ _ _ _ hz]; rfl
    go_simp
  · rw [if_neg z0] at HS
    rw [HS.out]
    have z1 : ¬ (we : Int) = 0 := by omega
    have HD := hide (fun (W : World) (b : Below w.heap.size w W) => (h.below b).c0)
    have x00 := HD.out _ B0.out
    clear h g HS z0 hdd hwe
    go_enter Tryz.func28, Tryz.ntmps28
    go_upto_region 1 with fail
    rw [← hW0]
    clear hW0
    go_upto_region 3 with (go_at_call 25; refine (WK.out _ B0.out).mono ?_; rintro e w1 ⟨rfl, b1⟩; have B1' := hide b1; have B1 := hide (B0.out.trans (b1.mono B0.out.size)); clear b1)
    have hr := (B1'.out.block w.heap.size (lt_of_heap HR0.out)).trans HR0.out
    have c0 : w1.cell? ⟨w.heap.size, 0, none⟩ = some (.int .i64 0) := by rw [cell_of_row _ _ _ _ _ _ hr]; rfl
    have c1 : w1.cell? ⟨w.heap.size, 1, none⟩ = some (.int .i64 0) := by rw [cell_of_row _ _ _ _ _ _ hr]; rfl
    have c2 : w1.cell? ⟨w.heap.size, 2, none⟩ = some (.bool false) := by rw [cell_of_row _ _ _ _ _ _ hr]; rfl
    have c3 : w1.cell? ⟨w.heap.size, 3, none⟩ = some (.int .i64 0) := by rw [cell_of_row _ _ _ _ _ _ hr]; rfl
    have f0 := frozen_of_row w1 _ 0 _ _ hr
    have f1 := frozen_of_row w1 _ 1 _ _ hr
    have f2 := frozen_of_row w1 _ 2 _ _ hr
    have f3 := frozen_of_row w1 _ 3 _ _ hr
    have HRR := hide hr
    have FB := hide (show Below w.heap.size w ((((w1.setCell ⟨w.heap.size, 0, none⟩ (.int .i64 0)).setCell ⟨w.heap.size, 1, none⟩ (.int .i64 0)).setCell ⟨w.heap.size, 2, none⟩ (.bool false)).setCell ⟨w.heap.size, 3, none⟩ (.int .i64 0)) from ((((B1.out.setCell (p := ⟨w.heap.size, 0, none⟩) (Nat.le_refl _) _).setCell (p := ⟨w.heap.size, 1, none⟩) (Nat.le_refl _) _).setCell (p := ⟨w.heap.size, 2, none⟩) (Nat.le_refl _) _).setCell (p := ⟨w.heap.size, 3, none⟩) (Nat.le_refl _) _))
    clear hr x00
    go_wp2_with fail
    refine bodyPost_ret (v := .tuple #[.agg #[.int .i64 0, .int .i64 0, .bool false, .int .i64 0], .int .i64 (we : Int)]) ?_ rfl ⟨rfl, FB.out⟩
    rw [results_cell_tmp rfl]
    go_simp
set_option maxRecDepth 10000 in
set_option maxHeartbeats 4000000 in
theorem pventry_any (h : PVf H S T w U V s) (g : GoodP s [] B) (p : Int) (x : Txt) : Calls Tryz.prog 100 #[.pointer (some ⟨V, 0, none⟩), .int .i64 p, .string (bt x)] w fun e w' => e = .returned (.tuple #[entA s p x, .int .i64 (fiIE s p x : Nat)]) ∧ Below w.heap.size w w' := by
  have A1 := hide (show ∀ o : Obj, Below w.heap.size w (w.alloc o) from fun o => (Below.refl _ _).alloc (Nat.le_refl _) o)
  have HS := hide (show entA s p x = if fiIE s p x = 0 then nodA s (fiII s p x) else .agg #[.int .i64 0, .int .i64 0, .bool false, .int .i64 0] from rfl)
  obtain ⟨d, hdd⟩ : ∃ z, z = fiII s p x := ⟨_, rfl⟩
  obtain ⟨we, hwe⟩ : ∃ z, z = fiIE s p x := ⟨_, rfl⟩
  have WK := hide (fun (W : World) (b : Below w.heap.size w W) => show Calls Tryz.prog 63 #[.pointer (some ⟨T, 0, none⟩), .int .i64 p, .string (bt x)] W (fun e w' => e = .returned (.tuple #[.int .i64 (d : Int), .int .i64 (we : Int)]) ∧ Below W.heap.size W w') from by rw [hdd, hwe]; exact pvfind_any (h.below b) g p x)
  rw [← hwe] at HS ⊢
  rw [← hdd] at HS
  obtain ⟨W0, hW0⟩ : ∃ W0, W0 = w.alloc (.cells #[.int .i64 0, .int .i64 0, .bool false, .int .i64 0] 54) := ⟨_, rfl⟩
  have HR0 := hide (show W0.heap[w.heap.size]? = some (.cells #[.int .i64 0, .int .i64 0, .bool false, .int .i64 0] 54 (0, 0)) from by rw [hW0]; exact heap_alloc_new _ _)
  have B0 := hide (show Below w.heap.size w W0 from by rw [hW0]; exact A1.out _)
  by_cases z0 : we = 0
  · rw [if_pos z0] at HS
    rw [HS.out]
    obtain ⟨g0, g1, g2, g3, hn⟩ := nodA_form s (d : Int)
    obtain ⟨ib, hib⟩ : ∃ z, z = isI s (d : Int) := ⟨_, rfl⟩
    have GT := hide (fun (W : World) (b : Below w.heap.size w W) => show Calls Tryz.prog 70 #[.pointer (some ⟨T, 0, none⟩), .int .i64 (d : Int)] W (fun e w' => e = .returned (.tuple #[.agg #[.int .i64 g0, .int .i64 g1, .bool g2, .int .i64 g3], .bool ib]) ∧ Below W.heap.size W w') from by rw [hib, ← hn]; exact pvget_any (h.below b) g (d : Int))
    have HD := hide (fun (W : World) (b : Below w.heap.size w W) => (h.below b).c0)
    rw [hn]
    have z1 : (we : Int) = 0 := by omega
    rw [z1] at WK ⊢
    have x00 := HD.out _ B0.out
    clear h g HS z0 hn hib hdd hwe
    go_enter Tryz.func100, Tryz.ntmps100
    go_upto_region 1 with fail
    rw [← hW0]
    clear hW0
    go_upto_region 4 with (go_at_call 63; refine (WK.out _ B0.out).mono ?_; rintro e w1 ⟨rfl, b1⟩; have B1' := hide b1; have B1 := hide (B0.out.trans (b1.mono B0.out.size)); have x0 := HD.out _ B1.out; clear b1)
    go_upto_region 5 with (go_at_call 70; refine (GT.out _ B1.out).mono ?_; rintro e w2 ⟨rfl, b2⟩; have B2' := hide (B1'.out.trans (b2.mono B1'.out.size)); have B2 := hide (B1.out.trans (b2.mono B1.out.size)); clear b2)
    have bA := (Below.refl w2.heap.size w2).alloc (Nat.le_refl _) (.cells #[.int .i64 g0, .int .i64 g1, .bool g2, .int .i64 g3] 54)
    have hr2 := (B2'.out.block w.heap.size (lt_of_heap HR0.out)).trans HR0.out
    have hr := (bA.block w.heap.size (lt_of_heap hr2)).trans hr2
    have hy := heap_alloc_new w2 (.cells #[.int .i64 g0, .int .i64 g1, .bool g2, .int .i64 g3] 54)
    have hne : ¬ w2.heap.size = w.heap.size := by have := lt_of_heap hr2; omega
    have B3 := hide (B2.out.trans (bA.mono B2.out.size))
    generalize w2.alloc (.cells #[.int .i64 g0, .int .i64 g1, .bool g2, .int .i64 g3] 54) = w3 at *
    generalize w2.heap.size = Y at *
    have y0 : w3.cell? ⟨Y, 0, none⟩ = some (.int .i64 g0) := by rw [cell_of_row _ _ _ _ _ _ hy]; rfl
    have y1 : w3.cell? ⟨Y, 1, none⟩ = some (.int .i64 g1) := by rw [cell_of_row _ _ _ _ _ _ hy]; rfl
    have y2 : w3.cell? ⟨Y, 2, none⟩ = some (.bool g2) := by rw [cell_of_row _ _ _ _ _ _ hy]; rfl
    have y3 : w3.cell? ⟨Y, 3, none⟩ = some (.int .i64 g3) := by rw [cell_of_row _ _ _ _ _ _ hy]; rfl
    have c0 : w3.cell? ⟨w.heap.size, 0, none⟩ = some (.int .i64 0) := by rw [cell_of_row _ _ _ _ _ _ hr]; rfl
    have c1 : w3.cell? ⟨w.heap.size, 1, none⟩ = some (.int .i64 0) := by rw [cell_of_row _ _ _ _ _ _ hr]; rfl
    have c2 : w3.cell? ⟨w.heap.size, 2, none⟩ = some (.bool false) := by rw [cell_of_row _ _ _ _ _ _ hr]; rfl
    have c3 : w3.cell? ⟨w.heap.size, 3, none⟩ = some (.int .i64 0) := by rw [cell_of_row _ _ _ _ _ _ hr]; rfl
    have f0 := frozen_of_row w3 _ 0 _ _ hr
    have f1 := frozen_of_row w3 _ 1 _ _ hr
    have f2 := frozen_of_row w3 _ 2 _ _ hr
    have f3 := frozen_of_row w3 _ 3 _ _ hr
    have HRR := hide hr
    have FB := hide (show Below w.heap.size w ((((w3.setCell ⟨w.heap.size, 0, none⟩ (.int .i64 g0)).setCell ⟨w.heap.size, 1, none⟩ (.int .i64 g1)).setCell ⟨w.heap.size, 2, none⟩ (.bool g2)).setCell ⟨w.heap.size, 3, none⟩ (.int .i64 g3)) from ((((B3.out.setCell (p := ⟨w.heap.size, 0, none⟩) (Nat.le_refl _) _).setCell (p := ⟨w.heap.size, 1, none⟩) (Nat.le_refl _) _).setCell (p := ⟨w.heap.size, 2, none⟩) (Nat.le_refl _) _).setCell (p := ⟨w.heap.size, 3, none⟩) (Nat.le_refl _) _))
    clear hr hr2 hy bA x0 x00
    go_wp2_with fail
    refine bodyPost_ret (v := .tuple #[.agg #[.int .i64 g0, .int .i64 g1, .bool g2, .int .i64 g3], .int .i64 0]) ?_ rfl ⟨rfl, FB.out⟩
    rw [results_cell_tmp rfl]
    have hz := heap_setCell_same _ _ 3 _ _ (.int .i64 g3) (heap_setCell_same _ _ 2 _ _ (.bool g2) (heap_setCell_same _ _ 1 _ _ (.int .i64 g1) (heap_setCell_same _ _ 0 _ _ (.int .i64 g0) HRR.out)))
    have z0 : (((((w3.setCell ⟨w.heap.size, 0, none⟩ (.int .i64 g0)).setCell ⟨w.heap.size, 1, none⟩ (.int .i64 g1)).setCell ⟨w.heap.size, 2, none⟩ (.bool g2)).setCell ⟨w.heap.size, 3, none⟩ (.int .i64 g3))).cell? ⟨w.heap.size, 0, none⟩ = some (.int .i64 g0) := by rw [cell_of_row _ _ _ _ _ _ hz]; rfl
    have z1 : (((((w3.setCell ⟨w.heap.size, 0, none⟩ (.int .i64 g0)).setCell ⟨w.heap.size, 1, none⟩ (.int .i64 g1)).setCell ⟨w.heap.size, 2, none⟩ (.bool g2)).setCell ⟨w.heap.size, 3, none⟩ (.int .i64 g3))).cell? ⟨w.heap.size, 1, none⟩ = some (.int .i64 g1) := by rw [cell_of_row _ _ _ _ _ _ hz]; rfl
    have z2 : (((((w3.setCell ⟨w.heap.size, 0, none⟩ (.int .i64 g0)).setCell ⟨w.heap.size, 1, none⟩ (.int .i64 g1)).setCell ⟨w.heap.size, 2, none⟩ (.bool g2)).setCell ⟨w.heap.size, 3, none⟩ (.int .i64 g3))).cell? ⟨w.heap.size, 2, none⟩ = some (.bool g2) := by rw [cell_of_row _ _ _ _ _ _ hz]; rfl
    have z3 : (((((w3.setCell ⟨w.heap.size, 0, none⟩ (.int .i64 g0)).setCell ⟨w.heap.size, 1, none⟩ (.int .i64 g1)).setCell ⟨w.heap.size, 2, none⟩ (.bool g2)).setCell ⟨w.heap.size, 3, none⟩ (.int .i64 g3))).cell? ⟨w.heap.size, 3, none⟩ = some (.int .i64 g3) := by rw [cell_of_row _ _ _ _ _ _ hz]; rfl
    go_simp
  · rw [if_neg z0] at HS
    rw [HS.out]
    have z1 : ¬ (we : Int) = 0 := by omega
    have HD := hide (fun (W : World) (b : Below w.heap.size w W) => (h.below b).c0)
    have x00 := HD.out _ B0.out
    clear h g HS z0 hdd hwe
    go_enter Tryz.func100, Tryz.ntmps100
    go_upto_region 1 with fail
    rw [← hW0]
    clear hW0
    go_upto_region 3 with (go_at_call 63; refine (WK.out _ B0.out).mono ?_; rintro e w1 ⟨rfl, b1⟩; have B1' := hide b1; have B1 := hide (B0.out.trans (b1.mono B0.out.size)); clear b1)
    have hr := (B1'.out.block w.heap.size (lt_of_heap HR0.out)).trans HR0.out
    have c0 : w1.cell? ⟨w.heap.size, 0, none⟩ = some (.int .i64 0) := by rw [cell_of_row _ _ _ _ _ _ hr]; rfl
    have c1 : w1.cell? ⟨w.heap.size, 1, none⟩ = some (.int .i64 0) := by rw [cell_of_row _ _ _ _ _ _ hr]; rfl
    have c2 : w1.cell? ⟨w.heap.size, 2, none⟩ = some (.bool false) := by rw [cell_of_row _ _ _ _ _ _ hr]; rfl
    have c3 : w1.cell? ⟨w.heap.size, 3, none⟩ = some (.int .i64 0) := by rw [cell_of_row _ _ _ _ _ _ hr]; rfl
    have f0 := frozen_of_row w1 _ 0 _ _ hr
    have f1 := frozen_of_row w1 _ 1 _ _ hr
    have f2 := frozen_of_row w1 _ 2 _ _ hr
    have f3 := frozen_of_row w1 _ 3 _ _ hr
    have HRR := hide hr
    have FB := hide (show Below w.heap.size w ((((w1.setCell ⟨w.heap.size, 0, none⟩ (.int .i64 0)).setCell ⟨w.heap.size, 1, none⟩ (.int .i64 0)).setCell ⟨w.heap.size, 2, none⟩ (.bool false)).setCell ⟨w.heap.size, 3, none⟩ (.int .i64 0)) from ((((B1.out.setCell (p := ⟨w.heap.size, 0, none⟩) (Nat.le_refl _) _).setCell (p := ⟨w.heap.size, 1, none⟩) (Nat.le_refl _) _).setCell (p := ⟨w.heap.size, 2, none⟩) (Nat.le_refl _) _).setCell (p := ⟨w.heap.size, 3, none⟩) (Nat.le_refl _) _))
    clear hr x00
    go_wp2_with fail
    refine bodyPost_ret (v := .tuple #[.agg #[.int .i64 0, .int .i64 0, .bool false, .int .i64 0], .int .i64 (we : Int)]) ?_ rfl ⟨rfl, FB.out⟩
    rw [results_cell_tmp rfl]
    go_simp
set_option maxRecDepth 10000 in
set_option maxHeartbeats 4000000 in
theorem pvstat_nil (w : World) (t : Txt) : Calls Tryz.prog 28 #[.pointer none, .string (bt t)] w fun e w' => e = .returned (.tuple #[.agg #[.int .i64 0, .int .i64 0, .bool false, .int .i64 0], .int .i64 1]) ∧ Below w.heap.size w w' := by
  have WK := hide (fun W => pvwalk_nil W t)
  obtain ⟨W0, hW0⟩ : ∃ W0, W0 = w.alloc (.cells #[.int .i64 0, .int .i64 0, .bool false, .int .i64 0] 54) := ⟨_, rfl⟩
  have hr := (show W0.heap[w.heap.size]? = some (.cells #[.int .i64 0, .int .i64 0, .bool false, .int .i64 0] 54 (0, 0)) from by rw [hW0]; exact heap_alloc_new _ _)
  have B1 := hide (show Below w.heap.size w W0 from by rw [hW0]; exact (Below.refl _ _).alloc (Nat.le_refl _) _)
  have c0 : W0.cell? ⟨w.heap.size, 0, none⟩ = some (.int .i64 0) := by rw [cell_of_row _ _ _ _ _ _ hr]; rfl
  have c1 : W0.cell? ⟨w.heap.size, 1, none⟩ = some (.int .i64 0) := by rw [cell_of_row _ _ _ _ _ _ hr]; rfl
  have c2 : W0.cell? ⟨w.heap.size, 2, none⟩ = some (.bool false) := by rw [cell_of_row _ _ _ _ _ _ hr]; rfl
  have c3 : W0.cell? ⟨w.heap.size, 3, none⟩ = some (.int .i64 0) := by rw [cell_of_row _ _ _ _ _ _ hr]; rfl
  have f0 := frozen_of_row W0 _ 0 _ _ hr
  have f1 := frozen_of_row W0 _ 1 _ _ hr
  have f2 := frozen_of_row W0 _ 2 _ _ hr
  have f3 := frozen_of_row W0 _ 3 _ _ hr
  have HRR := hide hr
  have FB := hide (show Below w.heap.size w ((((W0.setCell ⟨w.heap.size, 0, none⟩ (.int .i64 0)).setCell ⟨w.heap.size, 1, none⟩ (.int .i64 0)).setCell ⟨w.heap.size, 2, none⟩ (.bool false)).setCell ⟨w.heap.size, 3, none⟩ (.int .i64 0)) from (((B1.out.setCell (p := ⟨w.heap.size, 0, none⟩) (Nat.le_refl _) _).setCell (p := ⟨w.heap.size, 1, none⟩) (Nat.le_refl _) _).setCell (p := ⟨w.heap.size, 2, none⟩) (Nat.le_refl _) _).setCell (p := ⟨w.heap.size, 3, none⟩) (Nat.le_refl _) _)
  clear hr
  go_enter Tryz.func28, Tryz.ntmps28
  go_upto_region 1 with fail
  rw [← hW0]
  clear hW0
  go_wp2_with (go_at_call 25; refine (WK.out _).mono ?_; rintro e w' ⟨rfl, rfl⟩)
  refine bodyPost_ret (v := .tuple #[.agg #[.int .i64 0, .int .i64 0, .bool false, .int .i64 0], .int .i64 1]) ?_ rfl ⟨rfl, FB.out⟩
  rw [results_cell_tmp rfl]
  go_simp
set_option maxRecDepth 10000 in
set_option maxHeartbeats 4000000 in
theorem pvls_any (h : PVf H S T w U V s) (g : GoodP s [] B) (t : Txt) (ht : t.length ≤ 1000) : Calls Tryz.prog 16 #[.pointer (some ⟨V, 0, none⟩), .string (bt t)] w fun e w' => ∃ v, e = .returned (.tuple #[v, .int .i64 (lstE s t : Nat)]) ∧ w'.ownsRow w.heap.size 105 2 v (lstV s t).length ((lstV s t).flatMap enV) ∧ Below w.heap.size w w' := by
  have HV := hide (show lstV s t = if (walkI s t).2 = 0 then lsI s (walkI s t).1 else [] from by unfold lstV lsI; rw [Int.toNat_natCast])
  have HE := hide (show lstE s t = if (walkI s t).2 = 0 then lsIE s (walkI s t).1 else (walkI s t).2 from rfl)
  obtain ⟨d, hdd⟩ : ∃ z, z = (walkI s t).1 := ⟨_, rfl⟩
  obtain ⟨we, hwe⟩ : ∃ z, z = (walkI s t).2 := ⟨_, rfl⟩
  have WK := hide (show Calls Tryz.prog 25 #[.pointer (some ⟨V, 0, none⟩), .string (bt t)] w (fun e w' => e = .returned (.tuple #[.int .i64 (d : Int), .int .i64 (we : Int)]) ∧ Below w.heap.size w w') from by rw [hdd, hwe]; exact pvwalk_any h g t ht)
  rw [← hwe] at HV HE
  rw [← hdd] at HV HE
  by_cases z0 : we = 0
  · rw [if_pos z0] at HV HE
    rw [HV.out, HE.out]
    have LS := hide (fun (W : World) (b : Below w.heap.size w W) => pvlist_any (h.below b) g (d : Int))
    have HD := hide (fun (W : World) (b : Below w.heap.size w W) => (h.below b).c0)
    have z1 : (we : Int) = 0 := by omega
    rw [z1] at WK
    clear h g HV HE z0 hdd hwe
    go_enter Tryz.func16, Tryz.ntmps16
    go_wp2_with (first
      | (go_at_call 25; refine WK.out.mono ?_; rintro e w1 ⟨rfl, b1⟩; have B1 := hide b1; have x0 := HD.out _ b1; clear b1)
      | (go_at_call 53; refine (LS.out _ B1.out).mono ?_; rintro e w2 ⟨v, rfl, o2, b2⟩; have O2 := hide (own_base o2 B1.out.size); have B2 := hide (B1.out.trans (b2.mono B1.out.size)); clear o2 b2))
    go_ret2
    exact ⟨_, rfl, O2.out, B2.out⟩
  · rw [if_neg z0] at HV HE
    rw [HV.out, HE.out]
    have z1 : ¬ (we : Int) = 0 := by omega
    clear h g HV HE z0 hdd hwe
    go_enter Tryz.func16, Tryz.ntmps16
    go_wp2_with (go_at_call 25; refine WK.out.mono ?_; rintro e w1 ⟨rfl, b1⟩; have B1 := hide b1; clear b1)
    go_ret2
    exact ⟨_, rfl, World.ownsRow_nil _ _ _ _, B1.out⟩
end
end Go.Proofs.YtndfnglcichngaaGreatDoor
namespace Go.Proofs.YtndfnglcichngaaGreatDoor
open Go.ChangeShapes Go.WideShapes Go.ChangeAt Go.RowKit
set_option linter.unusedVariables false
set_option linter.unusedSimpArgs false
section
variable {w : World} {U : Nat → Prop} {H S T V : Nat} {s s' : In} {B : Int}
set_option maxRecDepth 10000 in
set_option maxHeartbeats 8000000 in
theorem pvlenter_any (h : PVf H S T w U V s) (g : GoodP s [] B) (p : Int) (x : Txt) (hx : x.length ≤ 1000) (id : Int) : Calls Tryz.prog 58 #[.agg #[.pointer (some ⟨T, 0, none⟩), .int .i64 id], .int .i64 p, .string (bt x)] w (SideO (fun w' U' => PVf H S T w' U' V (enI s p x id)) U w (.int .i64 (enIE s p x id : Nat))) := by
  have b1 := (Below.refl w.heap.size w).alloc (Nat.le_refl _) (.cells #[.pointer (some ⟨T, 0, none⟩), .int .i64 id] 103)
  have hr := heap_alloc_new w (.cells #[.pointer (some ⟨T, 0, none⟩), .int .i64 id] 103)
  obtain ⟨W0, hW0⟩ : ∃ W0, W0 = w.alloc (.cells #[.pointer (some ⟨T, 0, none⟩), .int .i64 id] 103) := ⟨_, rfl⟩
  rw [← hW0] at b1 hr
  have c0 : W0.cell? ⟨w.heap.size, 0, none⟩ = some (.pointer (some ⟨T, 0, none⟩)) := by rw [cell_of_row _ _ _ _ _ _ hr]; rfl
  have c1 : W0.cell? ⟨w.heap.size, 1, none⟩ = some (.int .i64 id) := by rw [cell_of_row _ _ _ _ _ _ hr]; rfl
  have B1 := hide b1
  have EN := hide (pventer_any (h.below b1) g p x (by omega) id)
  clear hr h b1 g
  go_enter Tryz.func58, Tryz.ntmps58
  go_upto_region 1 with fail
  rw [← hW0]
  clear hW0
  go_wp2_with (go_at_call 99; refine EN.out.mono ?_; rintro e w2 ⟨rfl, U2, p2, t2, l2⟩; have x2 := p2.c0; have P2 := hide p2; have T2 := hide t2; have L2 := hide l2; clear p2 t2 l2)
  go_ret
  exact SideO.later B1.out ⟨rfl, U2, P2.out, T2.out, L2.out⟩
set_option maxRecDepth 10000 in
set_option maxHeartbeats 8000000 in
theorem pvadd_any (h : PVf H S T w U V s) (g : GoodP s [] B) (hB : B ≤ 1000000) (p : Int) (x : Txt) (hx : x.length ≤ 1000) (d : Bool) : Calls Tryz.prog 97 #[.pointer (some ⟨V, 0, none⟩), .int .i64 p, .string (bt x), .bool d] w (SideO (fun w' U' => PVf H S T w' U' V (addI s p x d).2.2) U w (.tuple #[.int .i64 ((addI s p x d).1 : Nat), .int .i64 ((addI s p x d).2.1 : Nat)])) := by
  have HA := hide (show addI s p x d = if mkIE s ≠ 0 then (0, mkIE s, s) else if enIE (mkI s d) p x (mkII s) ≠ 0 then (0, enIE (mkI s d) p x (mkII s), clI (mkI s d) (mkII s)) else (mkII s, 0, enI (mkI s d) p x (mkII s)) from rfl)
  have MK0 := pvmake_any h g d
  have MNO := mkI_no (s := s) (d := d)
  have g2 := g.mk_ d
  have x0 := h.c0
  obtain ⟨mi, hmi⟩ : ∃ z, z = mkII s := ⟨_, rfl⟩
  obtain ⟨me, hme⟩ : ∃ z, z = mkIE s := ⟨_, rfl⟩
  obtain ⟨s2, hs2⟩ : ∃ z, z = mkI s d := ⟨_, rfl⟩
  rw [← hmi, ← hme, ← hs2] at HA MK0
  rw [← hme, ← hs2] at MNO
  rw [← hs2] at g2
  have MK := hide MK0
  clear MK0 hmi hme hs2
  by_cases m0 : me ≠ 0
  · rw [if_pos m0] at HA
    rw [MNO m0] at MK
    rw [HA.out]
    have m1 : ¬ (me : Int) = 0 := by omega
    clear h g HA m0 MNO g2
    go_enter Tryz.func97, Tryz.ntmps97
    go_wp2_with (go_at_call 123; refine MK.out.mono ?_; rintro e w1 ⟨rfl, U1, p1, t1, l1⟩; have x1 := p1.c0; have P1 := hide p1; have T1 := hide t1; have L1 := hide l1; clear p1 t1 l1)
    go_ret2
    exact ⟨rfl, U1, P1.out, T1.out, L1.out⟩
  rw [if_neg m0] at HA
  have m1 : (me : Int) = 0 := by omega
  rw [m1] at MK
  obtain ⟨ee, hee⟩ : ∃ z, z = enIE s2 p x mi := ⟨_, rfl⟩
  have ENO := enI_no (s := s2) (d := p) (t := x) (id := mi)
  have ENT := hide (fun (W : World) (U' : Nat → Prop) (ha : PVf H S T W U' V s2) => show Calls Tryz.prog 99 #[.pointer (some ⟨T, 0, none⟩), .int .i64 p, .string (bt x), .int .i64 (mi : Int)] W (SideO (fun w' U' => PVf H S T w' U' V (enI s2 p x mi)) U' W (.int .i64 (ee : Int))) from by rw [hee]; exact pventer_any ha g2 p x (by omega) mi)
  rw [← hee] at HA ENO
  by_cases n0 : ee ≠ 0
  · rw [if_pos n0] at HA
    rw [HA.out]
    have n1 : ¬ (ee : Int) = 0 := by omega
    rw [ENO n0] at ENT
    have CLO := hide (fun (W : World) (U' : Nat → Prop) (ha : PVf H S T W U' V s2) => pvclose_any ha g2 hB (mi : Int))
    clear h g HA m0 MNO g2 n0 ENO hee
    go_enter Tryz.func97, Tryz.ntmps97
    go_wp2_with (first
      | (go_at_call 123; refine MK.out.mono ?_; rintro e w1 ⟨rfl, U1, p1, t1, l1⟩; have x1 := p1.c0; have P1 := hide p1; have T1 := hide t1; have L1 := hide l1; clear p1 t1 l1)
      | (go_at_call 99; refine (ENT.out _ _ P1.out).mono ?_; rintro e w2 ⟨rfl, U2, p2, t2, l2⟩; have x2 := p2.c0; have P2 := hide p2; have T2 := hide t2; have L2 := hide l2; clear p2 t2 l2)
      | (go_at_call 34; refine (CLO.out _ _ P2.out).mono ?_; rintro e w3 ⟨rfl, U3, p3, t3, l3⟩; have x3 := p3.c0; have P3 := hide p3; have T3 := hide t3; have L3 := hide l3; clear p3 t3 l3))
    go_ret2
    exact SideO.step T1.out L1.out (SideO.step T2.out L2.out ⟨rfl, U3, P3.out, T3.out, L3.out⟩)
  · rw [if_neg n0] at HA
    rw [HA.out]
    have n1 : (ee : Int) = 0 := by omega
    rw [n1] at ENT
    clear h g HA m0 MNO g2 n0 ENO hee
    go_enter Tryz.func97, Tryz.ntmps97
    go_wp2_with (first
      | (go_at_call 123; refine MK.out.mono ?_; rintro e w1 ⟨rfl, U1, p1, t1, l1⟩; have x1 := p1.c0; have P1 := hide p1; have T1 := hide t1; have L1 := hide l1; clear p1 t1 l1)
      | (go_at_call 99; refine (ENT.out _ _ P1.out).mono ?_; rintro e w2 ⟨rfl, U2, p2, t2, l2⟩; have x2 := p2.c0; have P2 := hide p2; have T2 := hide t2; have L2 := hide l2; clear p2 t2 l2))
    go_ret2
    exact SideO.step T1.out L1.out ⟨rfl, U2, P2.out, T2.out, L2.out⟩
set_option maxRecDepth 10000 in
set_option maxHeartbeats 8000000 in
theorem pvmakefile_any (h : PVf H S T w U V s) (g : GoodP s [] B) (hB : B ≤ 1000000) (p : Int) (x : Txt) (hx : x.length ≤ 1000) : Calls Tryz.prog 55 #[.pointer (some ⟨V, 0, none⟩), .int .i64 p, .string (bt x)] w (SideO (fun w' U' => PVf H S T w' U' V (addI s p x false).2.2) U w (.int .i64 ((addI s p x false).2.1 : Nat))) := by
  have AD0 := pvadd_any h g hB p x hx false
  obtain ⟨a1, h1⟩ : ∃ z, z = (addI s p x false).1 := ⟨_, rfl⟩
  obtain ⟨a2, h2⟩ : ∃ z, z = (addI s p x false).2.1 := ⟨_, rfl⟩
  rw [← h1, ← h2] at AD0
  rw [← h2]
  have AD := hide AD0
  clear AD0 h g h1 h2
  go_enter Tryz.func55, Tryz.ntmps55
  go_wp2_with (go_at_call 97; refine AD.out.mono ?_; rintro e w1 ⟨rfl, U1, p1, t1, l1⟩; have x1 := p1.c0; have P1 := hide p1; have T1 := hide t1; have L1 := hide l1; clear p1 t1 l1)
  go_ret
  exact ⟨rfl, U1, P1.out, T1.out, L1.out⟩
set_option maxRecDepth 10000 in
set_option maxHeartbeats 8000000 in
theorem pvmakedir_any (h : PVf H S T w U V s) (g : GoodP s [] B) (hB : B ≤ 1000000) (p : Int) (x : Txt) (hx : x.length ≤ 1000) : Calls Tryz.prog 60 #[.pointer (some ⟨V, 0, none⟩), .int .i64 p, .string (bt x)] w (SideO (fun w' U' => PVf H S T w' U' V (mkdI s p x).2) U w (.int .i64 ((mkdI s p x).1 : Nat))) := by
  have HM := hide (show mkdI s p x = if fiIE s p x = 0 then (10, s) else if fiIE s p x ≠ 9 then (fiIE s p x, s) else if (addI s p x true).2.1 ≠ 0 then ((addI s p x true).2.1, (addI s p x true).2.2) else (0, clI (addI s p x true).2.2 ((addI s p x true).1 : Nat)) from rfl)
  have FIN := hide (fun (W : World) (b : Below w.heap.size w W) => h.below b)
  have x0 := h.c0
  have F3 := fiIE_three s p x
  obtain ⟨fi, hfi⟩ : ∃ z, z = fiII s p x := ⟨_, rfl⟩
  obtain ⟨fe, hfe⟩ : ∃ z, z = fiIE s p x := ⟨_, rfl⟩
  have FI := hide (show Calls Tryz.prog 63 #[.pointer (some ⟨T, 0, none⟩), .int .i64 p, .string (bt x)] w (fun e w' => e = .returned (.tuple #[.int .i64 (fi : Int), .int .i64 (fe : Int)]) ∧ Below w.heap.size w w') from by rw [hfi, hfe]; exact pvfind_any h g p x)
  rw [← hfe] at HM F3
  clear hfi hfe
  rcases F3 with e0 | e0 | e0
  · subst e0
    rw [show mkdI s p x = (10, s) from HM.out]
    clear h g HM
    go_enter Tryz.func60, Tryz.ntmps60
    go_wp2_with (go_at_call 63; refine FI.out.mono ?_; rintro e w1 ⟨rfl, b1⟩; have B1 := hide b1; have x1 := (FIN.out _ b1).c0; clear b1)
    go_ret
    exact SideO.of_below (FIN.out _ B1.out) B1.out
  · subst e0
    have AD1 := fun (W : World) (b : Below w.heap.size w W) => pvadd_any (h.below b) g hB p x hx true
    have ga := addI_good g p x true
    have CZ := addI_close (s := s) (p := p) (x := x) (d := true)
    have HM : Hid (mkdI s p x = if (addI s p x true).2.1 ≠ 0 then ((addI s p x true).2.1, (addI s p x true).2.2) else (0, clI (addI s p x true).2.2 ((addI s p x true).1 : Nat))) := hide HM.out
    obtain ⟨a1, h1⟩ : ∃ z, z = (addI s p x true).1 := ⟨_, rfl⟩
    obtain ⟨a2, h2⟩ : ∃ z, z = (addI s p x true).2.1 := ⟨_, rfl⟩
    obtain ⟨s2, h3⟩ : ∃ z, z = (addI s p x true).2.2 := ⟨_, rfl⟩
    rw [← h1, ← h2, ← h3] at HM
    simp only [← h1, ← h2, ← h3] at AD1 ga CZ
    have AD := hide AD1
    have CLO := hide (fun (W : World) (U' : Nat → Prop) (ha : PVf H S T W U' V s2) => pvclose_any ha ga hB (a1 : Int))
    have HD := hide (fun (W : World) (b : Below w.heap.size w W) => (h.below b).c0)
    clear h g AD1 h1 h2 h3 ga
    by_cases n0 : a2 ≠ 0
    · rw [if_pos n0] at HM
      rw [HM.out]
      have n1 : ¬ (a2 : Int) = 0 := by omega
      clear HM n0
      go_enter Tryz.func60, Tryz.ntmps60
      go_wp2_with (first
        | (go_at_call 63; refine FI.out.mono ?_; rintro e w1 ⟨rfl, b1⟩; have B1 := hide b1; have x1 := (FIN.out _ b1).c0; clear b1)
        | (go_at_call 97; refine (AD.out _ B1.out).mono ?_; rintro e w2 ⟨rfl, U2, p2, t2, l2⟩; have x2 := p2.c0; have P2 := hide p2; have T2 := hide t2; have L2 := hide l2; clear p2 t2 l2))
      go_ret
      exact SideO.later B1.out ⟨rfl, U2, P2.out, T2.out, L2.out⟩
    · rw [if_neg n0] at HM
      rw [HM.out]
      have n1 : (a2 : Int) = 0 := by omega
      rw [n1] at AD
      rw [CZ (by omega)] at CLO
      clear HM n0
      go_enter Tryz.func60, Tryz.ntmps60
      go_wp2_with (first
        | (go_at_call 63; refine FI.out.mono ?_; rintro e w1 ⟨rfl, b1⟩; have B1 := hide b1; have x1 := (FIN.out _ b1).c0; clear b1)
        | (go_at_call 97; refine (AD.out _ B1.out).mono ?_; rintro e w2 ⟨rfl, U2, p2, t2, l2⟩; have x2 := p2.c0; have P2 := hide p2; have T2 := hide t2; have L2 := hide l2; clear p2 t2 l2)
        | (go_at_call 34; refine (CLO.out _ _ P2.out).mono ?_; rintro e w3 ⟨rfl, U3, p3, t3, l3⟩; have x3 := p3.c0; have P3 := hide p3; have T3 := hide t3; have L3 := hide l3; clear p3 t3 l3))
      go_ret
      exact SideO.later B1.out (SideO.step T2.out L2.out ⟨rfl, U3, P3.out, T3.out, L3.out⟩)
  · subst e0
    rw [show mkdI s p x = (11, s) from HM.out]
    clear h g HM
    go_enter Tryz.func60, Tryz.ntmps60
    go_wp2_with (go_at_call 63; refine FI.out.mono ?_; rintro e w1 ⟨rfl, b1⟩; have B1 := hide b1; have x1 := (FIN.out _ b1).c0; clear b1)
    go_ret
    exact SideO.of_below (FIN.out _ B1.out) B1.out
set_option maxRecDepth 10000 in
set_option maxHeartbeats 8000000 in
theorem pvdropfile_any (h : PVf H S T w U V s) (g : GoodP s [] B) (p : Int) (x : Txt) : Calls Tryz.prog 59 #[.pointer (some ⟨V, 0, none⟩), .int .i64 p, .string (bt x)] w (SideO (fun w' U' => PVf H S T w' U' V (dropI s p x false).2) U w (.int .i64 ((dropI s p x false).1 : Nat))) := by
  have HN := hide (show dropI s p x false = if fiIE s p x ≠ 0 then (fiIE s p x, s) else if dirI s (fiII s p x) = true ∧ false = false then (12, s) else if dirI s (fiII s p x) = false ∧ false = true then (11, s) else (rmIE s p x, rmI s p x) from rfl)
  have FIN := hide (fun (W : World) (b : Below w.heap.size w W) => h.below b)
  have x0 := h.c0
  have EN0 := pventry_any h g p x
  have HEA := show entA s p x = if fiIE s p x = 0 then nodA s (fiII s p x) else .agg #[.int .i64 0, .int .i64 0, .bool false, .int .i64 0] from rfl
  have NI := fun (e : fiIE s p x = 0) => nodA_is (isI_of (named_is g e rfl).1 (named_is g e rfl).2.2.1)
  obtain ⟨fi, hfi⟩ : ∃ z, z = fiII s p x := ⟨_, rfl⟩
  obtain ⟨fe, hfe⟩ : ∃ z, z = fiIE s p x := ⟨_, rfl⟩
  rw [← hfe, ← hfi] at HN HEA
  rw [← hfe] at EN0
  simp only [← hfe, ← hfi] at NI
  clear hfe hfi
  by_cases f0 : fe ≠ 0
  · rw [if_pos f0] at HN
    rw [HN.out]
    rw [if_neg f0] at HEA
    rw [HEA] at EN0
    have EN := hide EN0
    have f1 : ¬ (fe : Int) = 0 := by omega
    clear h g HN f0 HEA NI EN0
    go_enter Tryz.func59, Tryz.ntmps59
    go_upto_region 2 with (go_at_call 100; refine EN.out.mono ?_; rintro e w1 ⟨rfl, b1⟩; have B1 := hide b1; clear b1)
    have B2 := hide (B1.out.trans (((Below.refl w1.heap.size w1).alloc (Nat.le_refl _) (.cells #[.int .i64 0, .int .i64 0, .bool false, .int .i64 0] 54)).mono B1.out.size))
    generalize w1.alloc (.cells #[.int .i64 0, .int .i64 0, .bool false, .int .i64 0] 54) = w2 at *
    go_wp2_with fail
    go_ret
    exact SideO.of_below (FIN.out _ B2.out) B2.out
  rw [if_neg f0] at HN
  have f1 : fe = 0 := by omega
  subst f1
  obtain ⟨g1, g3, hn⟩ := NI rfl
  rw [if_pos rfl, hn] at HEA
  rw [HEA] at EN0
  obtain ⟨dr, hdr⟩ : ∃ z, z = dirI s (fi : Int) := ⟨_, rfl⟩
  rw [← hdr] at EN0 HN
  have EN := hide EN0
  have RM := hide (fun (W : World) (b : Below w.heap.size w W) => pvremove_any (h.below b) g p x)
  clear h g hn HEA NI EN0 hdr f0
  cases dr with
  | true =>
    rw [show dropI s p x false = (12, s) from HN.out]
    clear HN RM
    go_enter Tryz.func59, Tryz.ntmps59
    go_upto_region 2 with (go_at_call 100; refine EN.out.mono ?_; rintro e w1 ⟨rfl, b1⟩; have B1 := hide b1; clear b1)
    have hy := heap_alloc_new w1 (.cells #[.int .i64 (fi : Int), .int .i64 g1, .bool true, .int .i64 g3] 54)
    have B2 := hide (B1.out.trans (((Below.refl w1.heap.size w1).alloc (Nat.le_refl _) (.cells #[.int .i64 (fi : Int), .int .i64 g1, .bool true, .int .i64 g3] 54)).mono B1.out.size))
    generalize w1.alloc (.cells #[.int .i64 (fi : Int), .int .i64 g1, .bool true, .int .i64 g3] 54) = w2 at *
    generalize w1.heap.size = Y at *
    have y2 : w2.cell? ⟨Y, 2, none⟩ = some (.bool true) := by rw [cell_of_row _ _ _ _ _ _ hy]; rfl
    clear hy
    go_wp2_with fail
    go_ret
    exact SideO.of_below (FIN.out _ B2.out) B2.out
  | false =>
    rw [show dropI s p x false = (rmIE s p x, rmI s p x) from HN.out]
    clear HN
    go_enter Tryz.func59, Tryz.ntmps59
    go_upto_region 2 with (go_at_call 100; refine EN.out.mono ?_; rintro e w1 ⟨rfl, b1⟩; have B1 := hide b1; clear b1)
    have hy := heap_alloc_new w1 (.cells #[.int .i64 (fi : Int), .int .i64 g1, .bool false, .int .i64 g3] 54)
    have B2 := hide (B1.out.trans (((Below.refl w1.heap.size w1).alloc (Nat.le_refl _) (.cells #[.int .i64 (fi : Int), .int .i64 g1, .bool false, .int .i64 g3] 54)).mono B1.out.size))
    generalize w1.alloc (.cells #[.int .i64 (fi : Int), .int .i64 g1, .bool false, .int .i64 g3] 54) = w2 at *
    generalize w1.heap.size = Y at *
    have y2 : w2.cell? ⟨Y, 2, none⟩ = some (.bool false) := by rw [cell_of_row _ _ _ _ _ _ hy]; rfl
    clear hy
    have x2 := (FIN.out _ B2.out).c0
    go_wp2_with (go_at_call 101; refine (RM.out _ B2.out).mono ?_; rintro e w3 ⟨rfl, U3, p3, t3, l3⟩; have x3 := p3.c0; have P3 := hide p3; have T3 := hide t3; have L3 := hide l3; clear p3 t3 l3)
    go_ret
    exact SideO.later B2.out ⟨rfl, U3, P3.out, T3.out, L3.out⟩
set_option maxRecDepth 10000 in
set_option maxHeartbeats 8000000 in
theorem pvdropdir_any (h : PVf H S T w U V s) (g : GoodP s [] B) (p : Int) (x : Txt) : Calls Tryz.prog 61 #[.pointer (some ⟨V, 0, none⟩), .int .i64 p, .string (bt x)] w (SideO (fun w' U' => PVf H S T w' U' V (dropI s p x true).2) U w (.int .i64 ((dropI s p x true).1 : Nat))) := by
  have HN := hide (show dropI s p x true = if fiIE s p x ≠ 0 then (fiIE s p x, s) else if dirI s (fiII s p x) = true ∧ true = false then (12, s) else if dirI s (fiII s p x) = false ∧ true = true then (11, s) else (rmIE s p x, rmI s p x) from rfl)
  have FIN := hide (fun (W : World) (b : Below w.heap.size w W) => h.below b)
  have x0 := h.c0
  have EN0 := pventry_any h g p x
  have HEA := show entA s p x = if fiIE s p x = 0 then nodA s (fiII s p x) else .agg #[.int .i64 0, .int .i64 0, .bool false, .int .i64 0] from rfl
  have NI := fun (e : fiIE s p x = 0) => nodA_is (isI_of (named_is g e rfl).1 (named_is g e rfl).2.2.1)
  obtain ⟨fi, hfi⟩ : ∃ z, z = fiII s p x := ⟨_, rfl⟩
  obtain ⟨fe, hfe⟩ : ∃ z, z = fiIE s p x := ⟨_, rfl⟩
  rw [← hfe, ← hfi] at HN HEA
  rw [← hfe] at EN0
  simp only [← hfe, ← hfi] at NI
  clear hfe hfi
  by_cases f0 : fe ≠ 0
  · rw [if_pos f0] at HN
    rw [HN.out]
    rw [if_neg f0] at HEA
    rw [HEA] at EN0
    have EN := hide EN0
    have f1 : ¬ (fe : Int) = 0 := by omega
    clear h g HN f0 HEA NI EN0
    go_enter Tryz.func61, Tryz.ntmps61
    go_upto_region 2 with (go_at_call 100; refine EN.out.mono ?_; rintro e w1 ⟨rfl, b1⟩; have B1 := hide b1; clear b1)
    have B2 := hide (B1.out.trans (((Below.refl w1.heap.size w1).alloc (Nat.le_refl _) (.cells #[.int .i64 0, .int .i64 0, .bool false, .int .i64 0] 54)).mono B1.out.size))
    generalize w1.alloc (.cells #[.int .i64 0, .int .i64 0, .bool false, .int .i64 0] 54) = w2 at *
    go_wp2_with fail
    go_ret
    exact SideO.of_below (FIN.out _ B2.out) B2.out
  rw [if_neg f0] at HN
  have f1 : fe = 0 := by omega
  subst f1
  obtain ⟨g1, g3, hn⟩ := NI rfl
  rw [if_pos rfl, hn] at HEA
  rw [HEA] at EN0
  obtain ⟨dr, hdr⟩ : ∃ z, z = dirI s (fi : Int) := ⟨_, rfl⟩
  rw [← hdr] at EN0 HN
  have EN := hide EN0
  have RM := hide (fun (W : World) (b : Below w.heap.size w W) => pvremove_any (h.below b) g p x)
  clear h g hn HEA NI EN0 hdr f0
  cases dr with
  | false =>
    rw [show dropI s p x true = (11, s) from HN.out]
    clear HN RM
    go_enter Tryz.func61, Tryz.ntmps61
    go_upto_region 2 with (go_at_call 100; refine EN.out.mono ?_; rintro e w1 ⟨rfl, b1⟩; have B1 := hide b1; clear b1)
    have hy := heap_alloc_new w1 (.cells #[.int .i64 (fi : Int), .int .i64 g1, .bool false, .int .i64 g3] 54)
    have B2 := hide (B1.out.trans (((Below.refl w1.heap.size w1).alloc (Nat.le_refl _) (.cells #[.int .i64 (fi : Int), .int .i64 g1, .bool false, .int .i64 g3] 54)).mono B1.out.size))
    generalize w1.alloc (.cells #[.int .i64 (fi : Int), .int .i64 g1, .bool false, .int .i64 g3] 54) = w2 at *
    generalize w1.heap.size = Y at *
    have y2 : w2.cell? ⟨Y, 2, none⟩ = some (.bool false) := by rw [cell_of_row _ _ _ _ _ _ hy]; rfl
    clear hy
    go_wp2_with fail
    go_ret
    exact SideO.of_below (FIN.out _ B2.out) B2.out
  | true =>
    rw [show dropI s p x true = (rmIE s p x, rmI s p x) from HN.out]
    clear HN
    go_enter Tryz.func61, Tryz.ntmps61
    go_upto_region 2 with (go_at_call 100; refine EN.out.mono ?_; rintro e w1 ⟨rfl, b1⟩; have B1 := hide b1; clear b1)
    have hy := heap_alloc_new w1 (.cells #[.int .i64 (fi : Int), .int .i64 g1, .bool true, .int .i64 g3] 54)
    have B2 := hide (B1.out.trans (((Below.refl w1.heap.size w1).alloc (Nat.le_refl _) (.cells #[.int .i64 (fi : Int), .int .i64 g1, .bool true, .int .i64 g3] 54)).mono B1.out.size))
    generalize w1.alloc (.cells #[.int .i64 (fi : Int), .int .i64 g1, .bool true, .int .i64 g3] 54) = w2 at *
    generalize w1.heap.size = Y at *
    have y2 : w2.cell? ⟨Y, 2, none⟩ = some (.bool true) := by rw [cell_of_row _ _ _ _ _ _ hy]; rfl
    clear hy
    have x2 := (FIN.out _ B2.out).c0
    go_wp2_with (go_at_call 101; refine (RM.out _ B2.out).mono ?_; rintro e w3 ⟨rfl, U3, p3, t3, l3⟩; have x3 := p3.c0; have P3 := hide p3; have T3 := hide t3; have L3 := hide l3; clear p3 t3 l3)
    go_ret
    exact SideO.later B2.out ⟨rfl, U3, P3.out, T3.out, L3.out⟩
end
end Go.Proofs.YtndfnglcichngaaGreatDoor
namespace Go.Proofs.YtndfnglcichngaaGreatDoor
open Go.ChangeShapes Go.WideShapes Go.ChangeAt Go.RowKit
set_option linter.unusedVariables false
set_option linter.unusedSimpArgs false
section
variable {w : World} {U : Nat → Prop} {H S T V : Nat} {s s' : In} {B : Int}
set_option maxRecDepth 10000 in
set_option maxHeartbeats 8000000 in
theorem pvunlink_any (h : PVf H S T w U V s) (g : GoodP s [] B) (hB : B ≤ 1000000) (t : Txt) (ht : t.length ≤ 1000) : Calls Tryz.prog 21 #[.pointer (some ⟨V, 0, none⟩), .string (bt t)] w (SideO (fun w' U' => PVf H S T w' U' V (remV s t false).2) U w (.int .i64 ((remV s t false).1 : Nat))) := by
  have HE := remV_drop s t false
  by_cases hp : (parI s t).2.2 ≠ 0
  · rw [if_pos hp] at HE
    rw [HE]
    have CA0 := above_no h g t ht (.func (.func 59) #[.pointer (some ⟨V, 0, none⟩)] #[]) hp
    have FIN := hide (fun (W : World) (b : Below w.heap.size w W) => h.below b)
    obtain ⟨pe, hpe⟩ : ∃ z, z = (parI s t).2.2 := ⟨_, rfl⟩
    rw [← hpe] at CA0 ⊢
    have CA := hide CA0
    clear h g HE CA0 hp hpe
    go_enter Tryz.func21, Tryz.ntmps21
    go_wp2_with (go_at_call 54; refine CA.out.mono ?_; rintro e w1 ⟨rfl, b1⟩; have B1 := hide b1; clear b1)
    go_ret
    exact SideO.of_below (FIN.out _ B1.out) B1.out
  · rw [if_neg hp] at HE
    rw [HE]
    have hx := parI_nm s t
    have CA0 := above_dropFile h g t ht (.pointer (some ⟨V, 0, none⟩)) (Classical.not_not.1 hp) (fun w1 b => pvdropfile_any (h.below b) g _ _)
    obtain ⟨k, hk⟩ : ∃ z, z = (dropI s (parI s t).1 (parI s t).2.1 false).1 := ⟨_, rfl⟩
    rw [← hk] at CA0 ⊢
    have CA := hide CA0
    clear h g HE CA0 hp hx hk
    go_enter Tryz.func21, Tryz.ntmps21
    go_wp2_with (go_at_call 54; refine CA.out.mono ?_; rintro e w1 ⟨rfl, U1, p1, t1, l1⟩; have x1 := p1.c0; have P1 := hide p1; have T1 := hide t1; have L1 := hide l1; clear p1 t1 l1)
    go_ret
    exact ⟨rfl, U1, P1.out, T1.out, L1.out⟩
set_option maxRecDepth 10000 in
set_option maxHeartbeats 8000000 in
theorem pvrmdir_any (h : PVf H S T w U V s) (g : GoodP s [] B) (hB : B ≤ 1000000) (t : Txt) (ht : t.length ≤ 1000) : Calls Tryz.prog 23 #[.pointer (some ⟨V, 0, none⟩), .string (bt t)] w (SideO (fun w' U' => PVf H S T w' U' V (remV s t true).2) U w (.int .i64 ((remV s t true).1 : Nat))) := by
  have HE := remV_drop s t true
  by_cases hp : (parI s t).2.2 ≠ 0
  · rw [if_pos hp] at HE
    rw [HE]
    have CA0 := above_no h g t ht (.func (.func 61) #[.pointer (some ⟨V, 0, none⟩)] #[]) hp
    have FIN := hide (fun (W : World) (b : Below w.heap.size w W) => h.below b)
    obtain ⟨pe, hpe⟩ : ∃ z, z = (parI s t).2.2 := ⟨_, rfl⟩
    rw [← hpe] at CA0 ⊢
    have CA := hide CA0
    clear h g HE CA0 hp hpe
    go_enter Tryz.func23, Tryz.ntmps23
    go_wp2_with (go_at_call 54; refine CA.out.mono ?_; rintro e w1 ⟨rfl, b1⟩; have B1 := hide b1; clear b1)
    go_ret
    exact SideO.of_below (FIN.out _ B1.out) B1.out
  · rw [if_neg hp] at HE
    rw [HE]
    have hx := parI_nm s t
    have CA0 := above_dropDir h g t ht (.pointer (some ⟨V, 0, none⟩)) (Classical.not_not.1 hp) (fun w1 b => pvdropdir_any (h.below b) g _ _)
    obtain ⟨k, hk⟩ : ∃ z, z = (dropI s (parI s t).1 (parI s t).2.1 true).1 := ⟨_, rfl⟩
    rw [← hk] at CA0 ⊢
    have CA := hide CA0
    clear h g HE CA0 hp hx hk
    go_enter Tryz.func23, Tryz.ntmps23
    go_wp2_with (go_at_call 54; refine CA.out.mono ?_; rintro e w1 ⟨rfl, U1, p1, t1, l1⟩; have x1 := p1.c0; have P1 := hide p1; have T1 := hide t1; have L1 := hide l1; clear p1 t1 l1)
    go_ret
    exact ⟨rfl, U1, P1.out, T1.out, L1.out⟩
set_option maxRecDepth 10000 in
set_option maxHeartbeats 8000000 in
theorem pvmkdir_any (h : PVf H S T w U V s) (g : GoodP s [] B) (hB : B ≤ 1000000) (t : Txt) (ht : t.length ≤ 1000) : Calls Tryz.prog 22 #[.pointer (some ⟨V, 0, none⟩), .string (bt t)] w (SideO (fun w' U' => PVf H S T w' U' V (mkdV s t).2) U w (.int .i64 ((mkdV s t).1 : Nat))) := by
  have HE := mkdV_add s t
  by_cases hp : (parI s t).2.2 ≠ 0
  · rw [if_pos hp] at HE
    rw [HE]
    have CA0 := above_no h g t ht (.func (.func 60) #[.pointer (some ⟨V, 0, none⟩)] #[]) hp
    have FIN := hide (fun (W : World) (b : Below w.heap.size w W) => h.below b)
    obtain ⟨pe, hpe⟩ : ∃ z, z = (parI s t).2.2 := ⟨_, rfl⟩
    rw [← hpe] at CA0 ⊢
    have CA := hide CA0
    clear h g HE CA0 hp hpe
    go_enter Tryz.func22, Tryz.ntmps22
    go_wp2_with (go_at_call 54; refine CA.out.mono ?_; rintro e w1 ⟨rfl, b1⟩; have B1 := hide b1; clear b1)
    go_ret
    exact SideO.of_below (FIN.out _ B1.out) B1.out
  · rw [if_neg hp] at HE
    rw [HE]
    have hx := parI_nm s t
    have CA0 := above_makeDir h g t ht (.pointer (some ⟨V, 0, none⟩)) (Classical.not_not.1 hp) (fun w1 b => pvmakedir_any (h.below b) g hB _ _ (by omega))
    obtain ⟨k, hk⟩ : ∃ z, z = (mkdI s (parI s t).1 (parI s t).2.1).1 := ⟨_, rfl⟩
    rw [← hk] at CA0 ⊢
    have CA := hide CA0
    clear h g HE CA0 hp hx hk
    go_enter Tryz.func22, Tryz.ntmps22
    go_wp2_with (go_at_call 54; refine CA.out.mono ?_; rintro e w1 ⟨rfl, U1, p1, t1, l1⟩; have x1 := p1.c0; have P1 := hide p1; have T1 := hide t1; have L1 := hide l1; clear p1 t1 l1)
    go_ret
    exact ⟨rfl, U1, P1.out, T1.out, L1.out⟩
set_option maxRecDepth 10000 in
set_option maxHeartbeats 8000000 in
theorem pvlink_any (h : PVf H S T w U V s) (g : GoodP s [] B) (a t : Txt) (ha : a.length ≤ 1000) (ht : t.length ≤ 1000) : Calls Tryz.prog 20 #[.pointer (some ⟨V, 0, none⟩), .string (bt a), .string (bt t)] w (SideO (fun w' U' => PVf H S T w' U' V (lnkV s a t).2) U w (.int .i64 ((lnkV s a t).1 : Nat))) := by
  have HN := hide (show lnkV s a t = if (walkI s a).2 ≠ 0 then ((walkI s a).2, s) else if dirI s (walkI s a).1 then (6, s) else if (parI s t).2.2 ≠ 0 then ((parI s t).2.2, s) else (enIE s (parI s t).1 (parI s t).2.1 (walkI s a).1, enI s (parI s t).1 (parI s t).2.1 (walkI s a).1) from rfl)
  have HB := hide (fun (W : World) (b : Below w.heap.size w W) => h.below b)
  have ST0 := pvstat_any h g a ha
  have HSA := show statA s a = if (walkI s a).2 = 0 then nodA s (walkI s a).1 else .agg #[.int .i64 0, .int .i64 0, .bool false, .int .i64 0] from rfl
  have NI := fun (e : (walkI s a).2 = 0) => nodA_is (walkI_isI g e)
  obtain ⟨d, hdd⟩ : ∃ z, z = (walkI s a).1 := ⟨_, rfl⟩
  obtain ⟨we, hwe⟩ : ∃ z, z = (walkI s a).2 := ⟨_, rfl⟩
  rw [← hwe, ← hdd] at HN HSA
  rw [← hwe] at ST0
  simp only [← hwe, ← hdd] at NI
  clear hdd hwe
  by_cases z0 : we ≠ 0
  · rw [if_pos z0] at HN
    rw [HN.out]
    rw [if_neg z0] at HSA
    rw [HSA] at ST0
    have ST := hide ST0
    have z1 : ¬ (we : Int) = 0 := by omega
    clear h g HN z0 HSA NI ST0
    go_enter Tryz.func20, Tryz.ntmps20
    go_upto_region 2 with (go_at_call 28; refine ST.out.mono ?_; rintro e w1 ⟨rfl, b1⟩; have B1 := hide b1; clear b1)
    have B2 := hide (B1.out.trans (((Below.refl w1.heap.size w1).alloc (Nat.le_refl _) (.cells #[.int .i64 0, .int .i64 0, .bool false, .int .i64 0] 54)).mono B1.out.size))
    generalize w1.alloc (.cells #[.int .i64 0, .int .i64 0, .bool false, .int .i64 0] 54) = w2 at *
    go_wp2_with fail
    go_ret
    exact SideO.of_below (HB.out _ B2.out) B2.out
  rw [if_neg z0] at HN
  have z1 : we = 0 := by omega
  subst z1
  obtain ⟨g1, g3, hn⟩ := NI rfl
  rw [if_pos rfl, hn] at HSA
  rw [HSA] at ST0
  obtain ⟨dr, hdr⟩ : ∃ z, z = dirI s (d : Int) := ⟨_, rfl⟩
  rw [← hdr] at ST0 HN
  have ST := hide ST0
  clear hn HSA NI ST0 hdr z0
  cases dr with
  | true =>
    rw [show lnkV s a t = (6, s) from HN.out]
    clear HN h g
    go_enter Tryz.func20, Tryz.ntmps20
    go_upto_region 2 with (go_at_call 28; refine ST.out.mono ?_; rintro e w1 ⟨rfl, b1⟩; have B1 := hide b1; clear b1)
    have hy := heap_alloc_new w1 (.cells #[.int .i64 (d : Int), .int .i64 g1, .bool true, .int .i64 g3] 54)
    have lv := lt_of_heap (HB.out _ B1.out).1
    have hne : V ≠ w1.heap.size := by omega
    have B2 := hide (B1.out.trans (((Below.refl w1.heap.size w1).alloc (Nat.le_refl _) (.cells #[.int .i64 (d : Int), .int .i64 g1, .bool true, .int .i64 g3] 54)).mono B1.out.size))
    have LU := hide (fun i (hi : U i) => show i < w1.heap.size from (keepsPVf H S T).lt (HB.out _ B1.out) i hi)
    have SZ := hide (show (w1.alloc (.cells #[.int .i64 (d : Int), .int .i64 g1, .bool true, .int .i64 g3] 54)).heap.size = w1.heap.size + 1 from by simp)
    generalize w1.alloc (.cells #[.int .i64 (d : Int), .int .i64 g1, .bool true, .int .i64 g3] 54) = w2 at *
    generalize w1.heap.size = Y at *
    have y2 : w2.cell? ⟨Y, 2, none⟩ = some (.bool true) := by rw [cell_of_row _ _ _ _ _ _ hy]; rfl
    have HY := hide hy
    clear hy lv
    go_wp2_with fail
    go_ret
    exact SideO.of_below (HB.out _ B2.out) B2.out
  | false =>
  have HN : Hid (lnkV s a t = if (parI s t).2.2 ≠ 0 then ((parI s t).2.2, s) else (enIE s (parI s t).1 (parI s t).2.1 (d : Int), enI s (parI s t).1 (parI s t).2.1 (d : Int))) := hide HN.out
  have LK : ∀ W, Below w.heap.size w W → Calls Tryz.prog 54 #[.pointer (some ⟨V, 0, none⟩), .string (bt t), .func (.func 58) #[.agg #[.pointer (some ⟨T, 0, none⟩), .int .i64 (d : Int)]] #[]] W (SideO (fun w' U' => PVf H S T w' U' V (lnkV s a t).2) U W (.int .i64 ((lnkV s a t).1 : Nat))) := fun W b => by
    rw [HN.out]
    by_cases hp : (parI s t).2.2 ≠ 0
    · rw [if_pos hp]
      refine (above_no (h.below b) g t ht (.func (.func 58) #[.agg #[.pointer (some ⟨T, 0, none⟩), .int .i64 (d : Int)]] #[]) hp).mono ?_
      rintro e w1 ⟨rfl, b1⟩
      exact SideO.of_below ((h.below b).below b1) b1
    · rw [if_neg hp]
      have hx := parI_nm s t
      exact above_enter (h.below b) g t ht (.agg #[.pointer (some ⟨T, 0, none⟩), .int .i64 (d : Int)]) (Classical.not_not.1 hp) (fun w1 b1 => pvlenter_any ((h.below b).below b1) g _ _ (by omega) (d : Int))
  obtain ⟨k, hk⟩ : ∃ z, z = (lnkV s a t).1 := ⟨_, rfl⟩
  obtain ⟨s2, hs2⟩ : ∃ z, z = (lnkV s a t).2 := ⟨_, rfl⟩
  rw [← hk, ← hs2] at LK ⊢
  have CA := hide LK
  clear HN LK h g hk hs2
  go_enter Tryz.func20, Tryz.ntmps20
  go_upto_region 2 with (go_at_call 28; refine ST.out.mono ?_; rintro e w1 ⟨rfl, b1⟩; have B1 := hide b1; clear b1)
  have hy := heap_alloc_new w1 (.cells #[.int .i64 (d : Int), .int .i64 g1, .bool false, .int .i64 g3] 54)
  have lv := lt_of_heap (HB.out _ B1.out).1
  have hne : V ≠ w1.heap.size := by omega
  have B2 := hide (B1.out.trans (((Below.refl w1.heap.size w1).alloc (Nat.le_refl _) (.cells #[.int .i64 (d : Int), .int .i64 g1, .bool false, .int .i64 g3] 54)).mono B1.out.size))
  have LU := hide (fun i (hi : U i) => show i < w1.heap.size from (keepsPVf H S T).lt (HB.out _ B1.out) i hi)
  have SZ := hide (show (w1.alloc (.cells #[.int .i64 (d : Int), .int .i64 g1, .bool false, .int .i64 g3] 54)).heap.size = w1.heap.size + 1 from by simp)
  generalize w1.alloc (.cells #[.int .i64 (d : Int), .int .i64 g1, .bool false, .int .i64 g3] 54) = w2 at *
  generalize w1.heap.size = Y at *
  have y0 : w2.cell? ⟨Y, 0, none⟩ = some (.int .i64 (d : Int)) := by rw [cell_of_row _ _ _ _ _ _ hy]; rfl
  have y2 : w2.cell? ⟨Y, 2, none⟩ = some (.bool false) := by rw [cell_of_row _ _ _ _ _ _ hy]; rfl
  have HY := hide hy
  clear hy lv
  have v0 := (HB.out _ B2.out).c0
  go_upto_region 6 with fail
  go_region_held3 (fun W => W.cell? ⟨V, 0, none⟩ = some (.pointer (some ⟨T, 0, none⟩)) ∧ W.cell? ⟨Y, 0, none⟩ = some (.int .i64 (d : Int))) (first | exact ⟨v0, y0⟩ | exact ⟨v3, y3⟩) (first
    | (go_at_call 54; refine (CA.out _ (below_drewN B2.out _)).mono ?_; rintro e w3 ⟨rfl, U3, p3, t3, l3⟩; have v3 := p3.c0; have y3 := (show w3.cell? ⟨Y, 0, none⟩ = some (.int .i64 (d : Int)) from by rw [cell_of_row _ _ _ _ _ _ ((t3.block Y (by have := SZ.out; simp; omega) (fun e => by have := LU.out Y e; omega)).trans HY.out)]; rfl); have P3 := hide p3; have T3 := hide t3; have L3 := hide l3; clear p3 t3 l3))
  go_wp2_with fail
  go_ret
  exact SideO.later (below_drewN B2.out 1) ⟨rfl, U3, P3.out, T3.out, L3.out⟩
set_option maxRecDepth 10000 in
set_option maxHeartbeats 8000000 in
theorem pvnew_any {H A Q N : Nat} (f : Fr w H A Q (St.new N)) : Calls Tryz.prog 31 #[.pointer (some ⟨H, 0, none⟩)] w fun e w' => ∃ V S T U, e = .returned (.pointer (some ⟨V, 0, none⟩)) ∧ PVf H S T w' U V (newI N) ∧ Below w.heap.size w w' ∧ ∀ i, U i → Blk H A Q i ∨ w.heap.size ≤ i := by
  have SN := hide (pnew_any f)
  clear f
  go_enter Tryz.func31, Tryz.ntmps31
  go_wp2_with fail
  go_at_call 71
  refine SN.out.mono ?_
  rintro e w1 ⟨S, E, rfl, p1, b1, hE⟩
  have IN := hide (pnew21_any p1)
  have B1 := hide b1
  have HE := hide hE
  clear p1 b1 hE
  go_wp2_with fail
  go_at_call 72
  refine IN.out.mono ?_
  rintro e w2 ⟨T, U0, rfl, p2, b2, hU⟩
  have P2 := hide p2
  have B2 := hide b2
  have HU := hide hU
  clear p2 b2 hU
  have bB := hide ((Below.refl w2.heap.size w2).alloc (Nat.le_refl _) (.cells #[.pointer (some ⟨T, 0, none⟩), .pointer (some ⟨S, 0, none⟩)] 94))
  go_wp2_with fail
  go_ret
  have s1 := B1.out.size
  have s2 := B2.out.size
  refine ⟨w2.heap.size, S, T, fun i => i = w2.heap.size ∨ U0 i, rfl, ⟨heap_alloc_new _ _, U0, (keepsPIn _ _).below P2.out bB.out, fun x => ?_, fun i => Iff.rfl⟩, ?_, fun i x => ?_⟩
  · have := (keepsPIn _ _).lt P2.out _ x; omega
  · exact B1.out.trans ((B2.out.mono (by omega)).trans (bB.out.mono (by omega)))
  · rcases x with rfl | x
    · exact .inr (by omega)
    · rcases HU.out i x with x | x
      · exact HE.out i x
      · exact .inr (by omega)
theorem pvnodes_any (h : PVf H S T w U V s) : Calls Tryz.prog 17 #[.pointer (some ⟨V, 0, none⟩)] w fun e w' => e = .returned (.pointer (some ⟨T, 0, none⟩)) ∧ Below w.heap.size w w' := by
  have x0 := h.c0
  clear h
  go_enter Tryz.func17, Tryz.ntmps17
  go_wp2_with fail
  go_ret
  exact ⟨rfl, Below.refl _ _⟩
theorem pvstore_any (h : PVf H S T w U V s) : Calls Tryz.prog 26 #[.pointer (some ⟨V, 0, none⟩)] w fun e w' => e = .returned (.pointer (some ⟨S, 0, none⟩)) ∧ Below w.heap.size w w' := by
  have x0 := h.c1
  clear h
  go_enter Tryz.func26, Tryz.ntmps26
  go_wp2_with fail
  go_ret
  exact ⟨rfl, Below.refl _ _⟩
end
end Go.Proofs.YtndfnglcichngaaGreatDoor
