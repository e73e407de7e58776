/-
  Several texts as one: VfRefC VfRefD VfRefE VfRefB VfGood VfBoth IpFind IpCmp.
-/
import Derived.Test.YtndfnglcichngaaGreatDoorPa14
import Derived.Laws.ResultCell
import Derived.Test.YtndfnglcichngaaGreatDoorPa15
import Derived.Deep.RegionHeld3
import Derived.Deep.QuietTactic
import Derived.BigQuiet
import Derived.Laws.Cover1
import Derived.Test.YtndfnglcichngaaGreatDoorPa13
namespace Go.Proofs.YtndfnglcichngaaGreatDoor
open Go.ChangeShapes Go.WideShapes Go.ChangeAt Go.RowKit
set_option linter.unusedVariables false
set_option linter.unusedSimpArgs false
theorem parI_nm (s : In) (t : Txt) : (parI s t).2.1.length ≤ 8 := by
  unfold parI
  split
  · rename_i e
    split
    · exact (parT_short e).2
    · show 0 ≤ 8; omega
  · show 0 ≤ 8; omega
section
variable {w : World} {D : Nat → Prop} {T R G Vb : Nat} {s : In} {E : Nat → Prop} {V : Nat → Value}
/-- The pointers stay while the table and the store turn. -/
theorem Hd22.rto {w' : World} {s' : In} (h : Hd22 w Vb T G) (hv : ¬ D Vb) (ha : RtAt w D T R G s E V) (r : Rto w w' D E T R G s') : Hd22 w' Vb T G := by
  obtain ⟨D', E', V', -, t, -, -⟩ := r
  exact (t.block Vb (lt_of_heap h) (fun e => hv (by rcases e with rfl | e; exact ha.dt.1; exact ha.sub _ e))).trans h
theorem Rto.use {w' : World} {s' : In} {P : Prop} (r : Rto w w' D E T R G s') (f : ∀ D' E' V', RtAt w' D' T R G s' E' V' → (∀ w2 s2, Rto w' w2 D' E' T R G s2 → Rto w w2 D E T R G s2) → P) : P := by
  obtain ⟨D', E', V', h, t, e, d⟩ := r
  exact f D' E' V' h (fun w2 s2 r2 => Rto.step t e d r2)
set_option maxRecDepth 10000 in
set_option maxHeartbeats 8000000 in
theorem vopen_any (h : RtAt w D T R G s E V) (hd : Hd22 w Vb T G) (hv : ¬ D Vb) {B : Int} (g : GoodP s [] B) (hB : B ≤ 999999) (t : Txt) (ht : t.length ≤ 1000) (fl : Int) : Calls Tryz.prog 40 #[.pointer (some ⟨Vb, 0, none⟩), .string (bt t), .int .i64 fl] w fun e w' => e = .returned (.tuple #[.int .i64 ((opnV s t fl).1 : Nat), .int .i64 ((opnV s t fl).2.1 : Nat)]) ∧ Rto w w' D E T R G (opnV s t fl).2.2 := by
  have hf := g.few
  have FIN := hide (fun (W : World) (b : Below w.heap.size w W) => Rto.of_below h b)
  by_cases hfl : fl < 0 ∨ 7 < fl
  · rw [show opnV s t fl = (0, 19, s) from if_pos hfl]
    by_cases f0 : fl < 0
    · clear h hd hf hfl g
      go_enter Tryz.func40, Tryz.ntmps40
      go_wp2_with fail
      go_ret2
      exact ⟨rfl, FIN.out _ (Below.refl _ _)⟩
    · have f7 : 7 < fl := hfl.resolve_left f0
      clear h hd hf hfl g
      go_enter Tryz.func40, Tryz.ntmps40
      go_wp2_with fail
      go_ret2
      exact ⟨rfl, FIN.out _ (Below.refl _ _)⟩
  have f0 : ¬ fl < 0 := fun e => hfl (.inl e)
  have f7 : ¬ 7 < fl := fun e => hfl (.inr e)
  have OP := hide (show opnV s t fl = if (walkI s t).2 = 0 then (if dirI s (walkI s t).1 then (0, 12, s) else ((walkI s t).1, 0, opI (if fl / 2 % 2 = 1 then cutI s (walkI s t).1 else s) (walkI s t).1)) else if (walkI s t).2 ≠ 9 ∨ fl % 2 = 0 then (0, (walkI s t).2, s) else newE s t from if_neg hfl)
  have D16 := walkI_lt g t
  obtain ⟨d, hdd⟩ : ∃ z, z = (walkI s t).1 := ⟨_, rfl⟩
  obtain ⟨we, hwe⟩ : ∃ z, z = (walkI s t).2 := ⟨_, rfl⟩
  have WK := hide (show Calls Tryz.prog 49 #[.pointer (some ⟨Vb, 0, none⟩), .string (bt t)] w (fun e w' => e = .returned (.tuple #[.int .i64 (d : Int), .int .i64 (we : Int)]) ∧ Below w.heap.size w w') from by rw [hdd, hwe]; exact vwalk_any h hd hf t ht)
  rw [← hwe, ← hdd] at OP
  rw [← hdd] at D16
  have HH := hide (fun (W : World) (b : Below w.heap.size w W) => h.below b)
  have HD := hide (fun (W : World) (b : Below w.heap.size w W) => hd.below b)
  have ID := hide (fun (W : World) (b : Below w.heap.size w W) (k : Nat) => tisdir_any (h.below b) (k : Int))
  have HV := hide hv
  have GG := hide g
  have HB := hide hB
  have d0 : (0 : Int) ≤ (d : Int) := by omega
  have d1 : (d : Int) < 16 := by omega
  have qe : fl.tdiv 2 = fl / 2 := Int.tdiv_eq_ediv_of_nonneg (by omega)
  have qe2 : (fl / 2).tmod 2 = fl / 2 % 2 := Int.tmod_eq_emod_of_nonneg (by omega)
  have qe3 : fl.tmod 2 = fl % 2 := Int.tmod_eq_emod_of_nonneg (by omega)
  clear hfl hdd hwe hv
  by_cases z0 : we = 0
  · rw [if_pos z0] at OP
    have z1 : (we : Int) = 0 := by omega
    rw [z1] at WK
    cases hdir : dirI s (d : Int) with
    | true =>
      rw [hdir, if_pos rfl] at OP
      rw [OP.out]
      have IDD := hide (fun W b => hdir ▸ ID.out W b d)
      clear h hd hf g OP
      go_enter Tryz.func40, Tryz.ntmps40
      go_wp2_with (first
        | (go_at_call 49; refine WK.out.mono ?_; rintro e w1 ⟨rfl, b1⟩; have B1 := hide b1; have x0 := (HD.out _ b1).c0; clear b1)
        | (go_at_call 78; refine (IDD.out _ B1.out).mono ?_; rintro e w' ⟨rfl, rfl⟩))
      go_ret2
      exact ⟨rfl, FIN.out _ B1.out⟩
    | false =>
      rw [hdir, if_neg (by simp)] at OP
      rw [OP.out]
      have IDD := hide (fun W b => hdir ▸ ID.out W b d)
      by_cases q1 : fl / 2 % 2 = 1
      · rw [if_pos q1]
        have q2 : (fl / 2).tmod 2 = 1 := by rw [qe2, q1]
        have CUT := hide (fun (W : World) (b : Below w.heap.size w W) => rct_any (h.below b).so (d : Int))
        have OPN := hide (fun (W : World) (D' E' : Nat → Prop) (V' : Nat → Value) (ha : RtAt W D' T R G (cutI s d) E' V') => topen_any ha (d : Int) (fun i => ⟨(GG.out.opn i).1, by have := (GG.out.opn i).2; have := HB.out; show (s.n i).opens ≤ 1000000; omega⟩))
        have OE := hide (show opIE (cutI s d) (d : Int) = 0 ∨ opIE (cutI s d) (d : Int) ≠ 0 from by omega)
        clear h hf g OP qe2 qe3
        go_enter Tryz.func40, Tryz.ntmps40
        go_upto_region 8 with (first
          | (go_at_call 49; refine WK.out.mono ?_; rintro e w1 ⟨rfl, b1⟩; have B1 := hide b1; have x0 := (HD.out _ b1).c0; have x1 := (HD.out _ b1).c1; clear b1)
          | (go_at_call 78; refine (IDD.out _ B1.out).mono ?_; rintro e w' ⟨rfl, rfl⟩))
        go_upto_region 9 with (go_at_call 79; refine (CUT.out _ B1.out).mono ?_; intro e w2 p2; obtain ⟨rfl, r2⟩ := (HH.out _ B1.out).stored p2; have R2 := hide (show Rto w w2 D E T R G (cutI s d) from Rto.after B1.out r2); clear p2 r2)
        have y0 := (Hd22.rto hd HV.out (HH.out _ (Below.refl _ _)) R2.out).c0
        refine Rto.use R2.out fun D2 E2 V2 h2 back => ?_
        have OP2 := hide (OPN.out _ _ _ _ h2)
        have BACK := hide back
        clear h2 back
        go_wp2_with (go_at_call 80; refine OP2.out.mono ?_; rintro e w3 ⟨rfl, r3⟩; have R3 := hide (BACK.out _ _ r3); clear r3)
        go_ret2
        exact ⟨rfl, R3.out⟩
      · rw [if_neg q1]
        have q2 : ¬ (fl / 2).tmod 2 = 1 := by rw [qe2]; exact q1
        have OPN := hide (fun (W : World) (b : Below w.heap.size w W) => topen_any (h.below b) (d : Int) (fun i => ⟨(GG.out.opn i).1, by have := (GG.out.opn i).2; have := HB.out; omega⟩))
        clear h hd hf g OP qe2 qe3
        go_enter Tryz.func40, Tryz.ntmps40
        go_wp2_with (first
          | (go_at_call 49; refine WK.out.mono ?_; rintro e w1 ⟨rfl, b1⟩; have B1 := hide b1; have x0 := (HD.out _ b1).c0; have x1 := (HD.out _ b1).c1; clear b1)
          | (go_at_call 78; refine (IDD.out _ B1.out).mono ?_; rintro e w' ⟨rfl, rfl⟩)
          | (go_at_call 80; refine (OPN.out _ B1.out).mono ?_; rintro e w3 ⟨rfl, r3⟩; have R3 := hide (Rto.after B1.out r3); clear r3))
        go_ret2
        exact ⟨rfl, R3.out⟩
  rw [if_neg z0] at OP
  have z1 : ¬ (we : Int) = 0 := by omega
  by_cases z9 : we ≠ 9 ∨ fl % 2 = 0
  · rw [if_pos z9] at OP
    rw [OP.out]
    by_cases y9 : we = 9
    · have k0 : fl.tmod 2 = 0 := by rw [qe3]; exact z9.resolve_left (fun h => h y9)
      subst y9
      clear h hd hf g OP qe2 qe3
      go_enter Tryz.func40, Tryz.ntmps40
      go_wp2_with (go_at_call 49; refine WK.out.mono ?_; rintro e w1 ⟨rfl, b1⟩; have B1 := hide b1; clear b1)
      go_ret2
      exact ⟨rfl, FIN.out _ B1.out⟩
    · have y1 : ¬ (we : Int) = 9 := by omega
      clear h hd hf g OP qe2 qe3
      go_enter Tryz.func40, Tryz.ntmps40
      go_wp2_with (go_at_call 49; refine WK.out.mono ?_; rintro e w1 ⟨rfl, b1⟩; have B1 := hide b1; clear b1)
      go_ret2
      exact ⟨rfl, FIN.out _ B1.out⟩
  rw [if_neg z9] at OP
  rw [OP.out]
  have y9 : we = 9 := Classical.not_not.1 (fun h => z9 (.inl h))
  have k1 : fl.tmod 2 = 1 := by
    have : ¬ fl % 2 = 0 := fun h => z9 (.inr h)
    rw [qe3]; omega
  subst y9
  have NE := hide (show newE s t = if (parI s t).2.2 ≠ 0 then (0, (parI s t).2.2, s) else if dirI s (parI s t).1 = false then (0, 11, s) else if mkIE s ≠ 0 then (0, mkIE s, s) else if enIE (mkI s false) (parI s t).1 (parI s t).2.1 (mkII s) ≠ 0 then (0, enIE (mkI s false) (parI s t).1 (parI s t).2.1 (mkII s), clI (mkI s false) (mkII s)) else (mkII s, 0, enI (mkI s false) (parI s t).1 (parI s t).2.1 (mkII s)) from rfl)
  have NML := parI_nm s t
  have P16 := parI_lt g t
  obtain ⟨p, hp⟩ : ∃ z, z = (parI s t).1 := ⟨_, rfl⟩
  obtain ⟨nm, hnm⟩ : ∃ z, z = (parI s t).2.1 := ⟨_, rfl⟩
  obtain ⟨pe, hpe⟩ : ∃ z, z = (parI s t).2.2 := ⟨_, rfl⟩
  have PA := hide (fun (W : World) (b : Below w.heap.size w W) => show Calls Tryz.prog 81 #[.pointer (some ⟨Vb, 0, none⟩), .string (bt t)] W (fun e w' => e = .returned (.tuple #[.int .i64 (p : Int), .string (bt nm), .int .i64 (pe : Int)]) ∧ Below W.heap.size W w') from by rw [hp, hnm, hpe]; exact vparent_any (h.below b) (hd.below b) hf t ht)
  rw [← hp, ← hnm, ← hpe] at NE
  rw [← hnm] at NML
  rw [← hp] at P16
  clear hp hnm hpe OP qe2 qe3 z9 hf
  by_cases p0 : pe ≠ 0
  · rw [if_pos p0] at NE
    rw [NE.out]
    have p1 : ¬ (pe : Int) = 0 := by omega
    clear h hd g NE p0
    go_enter Tryz.func40, Tryz.ntmps40
    go_wp2_with (first
      | (go_at_call 49; refine WK.out.mono ?_; rintro e w1 ⟨rfl, b1⟩; have B1 := hide b1; clear b1)
      | (go_at_call 81; refine (PA.out _ B1.out).mono ?_; rintro e w2 ⟨rfl, b2⟩; have B2 := hide (B1.out.trans (b2.mono B1.out.size)); clear b2))
    go_ret2
    exact ⟨rfl, FIN.out _ B2.out⟩
  rw [if_neg p0] at NE
  have p1 : (pe : Int) = 0 := by omega
  rw [p1] at PA
  cases pd : dirI s (p : Int) with
  | false =>
    rw [pd, if_pos rfl] at NE
    rw [NE.out]
    have IDP := hide (fun W b => pd ▸ ID.out W b p)
    clear h hd g NE p0
    go_enter Tryz.func40, Tryz.ntmps40
    go_wp2_with (first
      | (go_at_call 49; refine WK.out.mono ?_; rintro e w1 ⟨rfl, b1⟩; have B1 := hide b1; clear b1)
      | (go_at_call 81; refine (PA.out _ B1.out).mono ?_; rintro e w2 ⟨rfl, b2⟩; have B2 := hide (B1.out.trans (b2.mono B1.out.size)); have x0 := (HD.out _ B2.out).c0; clear b2)
      | (go_at_call 78; refine (IDP.out _ B2.out).mono ?_; rintro e w' ⟨rfl, rfl⟩))
    go_ret2
    exact ⟨rfl, FIN.out _ B2.out⟩
  | true =>
  rw [pd, if_neg (by simp)] at NE
  have IDP := hide (fun W b => pd ▸ ID.out W b p)
  obtain ⟨mi, hmi⟩ : ∃ z, z = mkII s := ⟨_, rfl⟩
  obtain ⟨me, hme⟩ : ∃ z, z = mkIE s := ⟨_, rfl⟩
  have MK := hide (fun (W : World) (b : Below w.heap.size w W) => show Calls Tryz.prog 82 #[.pointer (some ⟨T, 0, none⟩), .bool false] W (fun e w' => e = .returned (.tuple #[.int .i64 (mi : Int), .int .i64 (me : Int)]) ∧ Rto W w' D E T R G (mkI s false)) from by rw [hmi, hme]; exact tmake_any (h.below b) g.sofew false)
  have MNO := hide (show mkIE s ≠ 0 → mkI s false = s from fun he => by unfold mkIE at he; unfold mkI; cases e : freeI s with | none => rfl | some i => rw [e] at he; exact absurd rfl he)
  rw [← hmi, ← hme] at NE
  rw [← hme] at MNO
  by_cases m0 : me ≠ 0
  · rw [if_pos m0] at NE
    rw [NE.out]
    have m1 : ¬ (me : Int) = 0 := by omega
    rw [MNO.out m0] at MK
    clear h hd g NE p0 pd m0 MNO hmi hme
    go_enter Tryz.func40, Tryz.ntmps40
    go_wp2_with (first
      | (go_at_call 49; refine WK.out.mono ?_; rintro e w1 ⟨rfl, b1⟩; have B1 := hide b1; clear b1)
      | (go_at_call 81; refine (PA.out _ B1.out).mono ?_; rintro e w2 ⟨rfl, b2⟩; have B2 := hide (B1.out.trans (b2.mono B1.out.size)); have x0 := (HD.out _ B2.out).c0; clear b2)
      | (go_at_call 78; refine (IDP.out _ B2.out).mono ?_; rintro e w' ⟨rfl, rfl⟩)
      | (go_at_call 82; refine (MK.out _ B2.out).mono ?_; rintro e w3 ⟨rfl, r3⟩; have R3 := hide (Rto.after B2.out r3); clear r3))
    go_ret2
    exact ⟨rfl, R3.out⟩
  rw [if_neg m0] at NE
  have m1 : (me : Int) = 0 := by omega
  rw [m1] at MK
  have G2 := hide (g.mk_ false)
  have MLE := hide (show (mi : Int) < 16 from by
    rw [hmi]; unfold mkII
    cases e : freeI s with
    | none => show ((0 : Nat) : Int) < 16; omega
    | some i => have := (freeI_is e).2.1; show ((i : Nat) : Int) < 16; omega)
  obtain ⟨s2, hs2⟩ : ∃ z, z = mkI s false := ⟨_, rfl⟩
  rw [← hs2] at NE MK G2
  obtain ⟨ee, hee⟩ : ∃ z, z = enIE s2 (p : Int) nm (mi : Int) := ⟨_, rfl⟩
  have ENO := hide (show enIE s2 (p : Int) nm (mi : Int) ≠ 0 → enI s2 (p : Int) nm (mi : Int) = s2 from enI_no)
  rw [← hee] at NE ENO
  have ENT := hide (fun (W : World) (D' E' : Nat → Prop) (V' : Nat → Value) (ha : RtAt W D' T R G s2 E' V') => show Calls Tryz.prog 83 #[.pointer (some ⟨T, 0, none⟩), .int .i64 (p : Int), .string (bt nm), .int .i64 (mi : Int)] W (fun e w' => e = .returned (.int .i64 (ee : Int)) ∧ Rto W w' D' E' T R G (enI s2 (p : Int) nm (mi : Int))) from by rw [hee]; exact tenter_any ha G2.out (by have := HB.out; omega) (p : Int) nm (by omega) (mi : Int))
  have CLO := hide (fun (W : World) (D' E' : Nat → Prop) (V' : Nat → Value) (ha : RtAt W D' T R G s2 E' V') => tclose_any ha G2.out (by have := HB.out; omega) (mi : Int))
  by_cases n0 : ee ≠ 0
  · rw [if_pos n0] at NE
    rw [NE.out]
    have n1 : ¬ (ee : Int) = 0 := by omega
    rw [ENO.out n0] at ENT
    clear h g NE p0 pd m0 MNO hmi hme n0 hs2 hee ENO
    go_enter Tryz.func40, Tryz.ntmps40
    go_upto_region 21 with (first
      | (go_at_call 49; refine WK.out.mono ?_; rintro e w1 ⟨rfl, b1⟩; have B1 := hide b1; clear b1)
      | (go_at_call 81; refine (PA.out _ B1.out).mono ?_; rintro e w2 ⟨rfl, b2⟩; have B2 := hide (B1.out.trans (b2.mono B1.out.size)); have x0 := (HD.out _ B2.out).c0; clear b2)
      | (go_at_call 78; refine (IDP.out _ B2.out).mono ?_; rintro e w' ⟨rfl, rfl⟩)
      | (go_at_call 82; refine (MK.out _ B2.out).mono ?_; rintro e w3 ⟨rfl, r3⟩; have R3 := hide (Rto.after B2.out r3); clear r3))
    have y3 := (Hd22.rto hd HV.out (HH.out _ (Below.refl _ _)) R3.out).c0
    refine Rto.use R3.out fun D3 E3 V3 h3 back => ?_
    have EN3 := hide (ENT.out _ _ _ _ h3)
    have BACK := hide back
    clear h3 back
    go_upto_region 23 with (go_at_call 83; refine EN3.out.mono ?_; rintro e w4 ⟨rfl, r4⟩; have R4 := hide (BACK.out _ _ r4); clear r4)
    have y4 := (Hd22.rto hd HV.out (HH.out _ (Below.refl _ _)) R4.out).c0
    refine Rto.use R4.out fun D4 E4 V4 h4 back4 => ?_
    have CL4 := hide (CLO.out _ _ _ _ h4)
    have BACK4 := hide back4
    clear h4 back4
    go_wp2_with (go_at_call 46; refine CL4.out.mono ?_; rintro e w5 ⟨rfl, r5⟩; have R5 := hide (BACK4.out _ _ r5); clear r5)
    go_ret2
    exact ⟨rfl, R5.out⟩
  · rw [if_neg n0] at NE
    rw [NE.out]
    have n1 : (ee : Int) = 0 := by omega
    rw [n1] at ENT
    clear h g NE p0 pd m0 MNO hmi hme n0 hs2 hee ENO
    go_enter Tryz.func40, Tryz.ntmps40
    go_upto_region 21 with (first
      | (go_at_call 49; refine WK.out.mono ?_; rintro e w1 ⟨rfl, b1⟩; have B1 := hide b1; clear b1)
      | (go_at_call 81; refine (PA.out _ B1.out).mono ?_; rintro e w2 ⟨rfl, b2⟩; have B2 := hide (B1.out.trans (b2.mono B1.out.size)); have x0 := (HD.out _ B2.out).c0; clear b2)
      | (go_at_call 78; refine (IDP.out _ B2.out).mono ?_; rintro e w' ⟨rfl, rfl⟩)
      | (go_at_call 82; refine (MK.out _ B2.out).mono ?_; rintro e w3 ⟨rfl, r3⟩; have R3 := hide (Rto.after B2.out r3); clear r3))
    have y3 := (Hd22.rto hd HV.out (HH.out _ (Below.refl _ _)) R3.out).c0
    refine Rto.use R3.out fun D3 E3 V3 h3 back => ?_
    have EN3 := hide (ENT.out _ _ _ _ h3)
    have BACK := hide back
    clear h3 back
    go_wp2_with (go_at_call 83; refine EN3.out.mono ?_; rintro e w4 ⟨rfl, r4⟩; have R4 := hide (BACK.out _ _ r4); clear r4)
    go_ret2
    exact ⟨rfl, R4.out⟩
end
end Go.Proofs.YtndfnglcichngaaGreatDoor
namespace Go.Proofs.YtndfnglcichngaaGreatDoor
open Go.ChangeShapes Go.WideShapes Go.ChangeAt Go.RowKit
set_option linter.unusedVariables false
set_option linter.unusedSimpArgs false
section
variable {w : World} {D : Nat → Prop} {T R G Vb : Nat} {s : In} {E : Nat → Prop} {V : Nat → Value}
set_option maxRecDepth 10000 in
set_option maxHeartbeats 8000000 in
theorem vmkdir_any (h : RtAt w D T R G s E V) (hd : Hd22 w Vb T G) (hv : ¬ D Vb) {B : Int} (g : GoodP s [] B) (hB : B ≤ 999999) (t : Txt) (ht : t.length ≤ 1000) : Calls Tryz.prog 44 #[.pointer (some ⟨Vb, 0, none⟩), .string (bt t)] w fun e w' => e = .returned (.int .i64 ((mkdV s t).1 : Nat)) ∧ Rto w w' D E T R G (mkdV s t).2 := by
  have hf := g.few
  have FIN := hide (fun (W : World) (b : Below w.heap.size w W) => Rto.of_below h b)
  have HH := hide (fun (W : World) (b : Below w.heap.size w W) => h.below b)
  have HD := hide (fun (W : World) (b : Below w.heap.size w W) => hd.below b)
  have ID := hide (fun (W : World) (b : Below w.heap.size w W) (k : Nat) => tisdir_any (h.below b) (k : Int))
  have HV := hide hv
  have GG := hide g
  have HB := hide hB
  have NE := hide (show mkdV s t = if (parI s t).2.2 ≠ 0 then ((parI s t).2.2, s) else if fiIE s (parI s t).1 (parI s t).2.1 = 0 then (10, s) else if fiIE s (parI s t).1 (parI s t).2.1 = 11 then (11, s) else if mkIE s ≠ 0 then (mkIE s, s) else (enIE (mkI s true) (parI s t).1 (parI s t).2.1 (mkII s), clI (enI (mkI s true) (parI s t).1 (parI s t).2.1 (mkII s)) (mkII s)) from rfl)
  have NML := parI_nm s t
  have P16 := parI_lt g t
  obtain ⟨p, hp⟩ : ∃ z, z = (parI s t).1 := ⟨_, rfl⟩
  obtain ⟨nm, hnm⟩ : ∃ z, z = (parI s t).2.1 := ⟨_, rfl⟩
  obtain ⟨pe, hpe⟩ : ∃ z, z = (parI s t).2.2 := ⟨_, rfl⟩
  have PA := hide (fun (W : World) (b : Below w.heap.size w W) => show Calls Tryz.prog 81 #[.pointer (some ⟨Vb, 0, none⟩), .string (bt t)] W (fun e w' => e = .returned (.tuple #[.int .i64 (p : Int), .string (bt nm), .int .i64 (pe : Int)]) ∧ Below W.heap.size W w') from by rw [hp, hnm, hpe]; exact vparent_any (h.below b) (hd.below b) hf t ht)
  rw [← hp, ← hnm, ← hpe] at NE
  rw [← hnm] at NML
  rw [← hp] at P16
  clear hp hnm hpe
  by_cases p0 : pe ≠ 0
  · rw [if_pos p0] at NE
    rw [NE.out]
    have p1 : ¬ (pe : Int) = 0 := by omega
    clear h hd g NE p0 hf
    go_enter Tryz.func44, Tryz.ntmps44
    go_wp2_with (first
      | (go_at_call 81; refine (PA.out _ (Below.refl _ _)).mono ?_; rintro e w1 ⟨rfl, b1⟩; have B1 := hide b1; have x0 := (HD.out _ b1).c0; clear b1))
    go_ret
    exact ⟨rfl, FIN.out _ B1.out⟩
  rw [if_neg p0] at NE
  have p1 : (pe : Int) = 0 := by omega
  rw [p1] at PA
  have FI := hide (fun (W : World) (b : Below w.heap.size w W) => tfind_any (h.below b) hf (p : Int) nm)
  obtain ⟨fe, hfe⟩ : ∃ z, z = fiIE s (p : Int) nm := ⟨_, rfl⟩
  rw [← hfe] at FI NE
  by_cases f0 : fe = 0
  · rw [if_pos f0] at NE
    rw [NE.out]
    have f1 : (fe : Int) = 0 := by omega
    rw [f1] at FI
    clear h hd g NE p0 f0 hf hfe
    go_enter Tryz.func44, Tryz.ntmps44
    go_wp2_with (first
      | (go_at_call 81; refine (PA.out _ (Below.refl _ _)).mono ?_; rintro e w1 ⟨rfl, b1⟩; have B1 := hide b1; have x0 := (HD.out _ b1).c0; clear b1)
      | (go_at_call 85; refine (FI.out _ B1.out).mono ?_; rintro e w' ⟨rfl, rfl⟩))
    go_ret
    exact ⟨rfl, FIN.out _ B1.out⟩
  rw [if_neg f0] at NE
  have f1 : ¬ (fe : Int) = 0 := by omega
  by_cases f2 : fe = 11
  · rw [if_pos f2] at NE
    rw [NE.out]
    have f3 : (fe : Int) = 11 := by omega
    rw [f3] at FI
    clear h hd g NE p0 f0 f1 f2 hf hfe
    go_enter Tryz.func44, Tryz.ntmps44
    go_wp2_with (first
      | (go_at_call 81; refine (PA.out _ (Below.refl _ _)).mono ?_; rintro e w1 ⟨rfl, b1⟩; have B1 := hide b1; have x0 := (HD.out _ b1).c0; clear b1)
      | (go_at_call 85; refine (FI.out _ B1.out).mono ?_; rintro e w' ⟨rfl, rfl⟩))
    go_ret
    exact ⟨rfl, FIN.out _ B1.out⟩
  rw [if_neg f2] at NE
  have f3 : ¬ (fe : Int) = 11 := by omega
  obtain ⟨mi, hmi⟩ : ∃ z, z = mkII s := ⟨_, rfl⟩
  obtain ⟨me, hme⟩ : ∃ z, z = mkIE s := ⟨_, rfl⟩
  have MK := hide (fun (W : World) (b : Below w.heap.size w W) => show Calls Tryz.prog 82 #[.pointer (some ⟨T, 0, none⟩), .bool true] W (fun e w' => e = .returned (.tuple #[.int .i64 (mi : Int), .int .i64 (me : Int)]) ∧ Rto W w' D E T R G (mkI s true)) from by rw [hmi, hme]; exact tmake_any (h.below b) g.sofew true)
  have MNO := hide (show mkIE s ≠ 0 → mkI s true = s from fun he => by unfold mkIE at he; unfold mkI; cases e : freeI s with | none => rfl | some i => rw [e] at he; exact absurd rfl he)
  rw [← hmi, ← hme] at NE
  rw [← hme] at MNO
  by_cases m0 : me ≠ 0
  · rw [if_pos m0] at NE
    rw [NE.out]
    have m1 : ¬ (me : Int) = 0 := by omega
    rw [MNO.out m0] at MK
    clear h hd g NE p0 f0 f2 m0 MNO hmi hme hf hfe
    go_enter Tryz.func44, Tryz.ntmps44
    go_wp2_with (first
      | (go_at_call 81; refine (PA.out _ (Below.refl _ _)).mono ?_; rintro e w1 ⟨rfl, b1⟩; have B1 := hide b1; have x0 := (HD.out _ b1).c0; clear b1)
      | (go_at_call 85; refine (FI.out _ B1.out).mono ?_; rintro e w' ⟨rfl, rfl⟩)
      | (go_at_call 82; refine (MK.out _ B1.out).mono ?_; rintro e w3 ⟨rfl, r3⟩; have R3 := hide (Rto.after B1.out r3); clear r3))
    go_ret
    exact ⟨rfl, R3.out⟩
  rw [if_neg m0] at NE
  have m1 : (me : Int) = 0 := by omega
  rw [m1] at MK
  have G2 := hide (g.mk_ true)
  obtain ⟨s2, hs2⟩ : ∃ z, z = mkI s true := ⟨_, rfl⟩
  rw [← hs2] at NE MK G2
  have ENT := hide (fun (W : World) (D' E' : Nat → Prop) (V' : Nat → Value) (ha : RtAt W D' T R G s2 E' V') => tenter_any ha G2.out (by have := HB.out; omega) (p : Int) nm (by omega) (mi : Int))
  have CLO := hide (fun (W : World) (D' E' : Nat → Prop) (V' : Nat → Value) (ha : RtAt W D' T R G (enI s2 (p : Int) nm (mi : Int)) E' V') => tclose_any ha (G2.out.en (p : Int) nm (mi : Int)).1 (by have := HB.out; omega) (mi : Int))
  rw [NE.out]
  clear h g NE p0 f0 f2 m0 MNO hmi hme hs2 hf hfe
  go_enter Tryz.func44, Tryz.ntmps44
  go_upto_region 12 with (first
      | (go_at_call 81; refine (PA.out _ (Below.refl _ _)).mono ?_; rintro e w1 ⟨rfl, b1⟩; have B1 := hide b1; have x0 := (HD.out _ b1).c0; clear b1)
      | (go_at_call 85; refine (FI.out _ B1.out).mono ?_; rintro e w' ⟨rfl, rfl⟩)
      | (go_at_call 82; refine (MK.out _ B1.out).mono ?_; rintro e w3 ⟨rfl, r3⟩; have R3 := hide (Rto.after B1.out r3); clear r3))
  have y3 := (Hd22.rto hd HV.out (HH.out _ (Below.refl _ _)) R3.out).c0
  refine Rto.use R3.out fun D3 E3 V3 h3 back => ?_
  have EN3 := hide (ENT.out _ _ _ _ h3)
  have BACK := hide back
  clear h3 back
  go_upto_region 13 with (go_at_call 83; refine EN3.out.mono ?_; rintro e w4 ⟨rfl, r4⟩; have R4 := hide (BACK.out _ _ r4); clear r4)
  have y4 := (Hd22.rto hd HV.out (HH.out _ (Below.refl _ _)) R4.out).c0
  refine Rto.use R4.out fun D4 E4 V4 h4 back4 => ?_
  have CL4 := hide (CLO.out _ _ _ _ h4)
  have BACK4 := hide back4
  clear h4 back4
  go_wp2_with (go_at_call 46; refine CL4.out.mono ?_; rintro e w5 ⟨rfl, r5⟩; have R5 := hide (BACK4.out _ _ r5); clear r5)
  go_ret
  exact ⟨rfl, R5.out⟩
set_option maxRecDepth 10000 in
set_option maxHeartbeats 8000000 in
theorem vlink_any (h : RtAt w D T R G s E V) (hd : Hd22 w Vb T G) (hv : ¬ D Vb) {B : Int} (g : GoodP s [] B) (hB : B ≤ 999999) (a t : Txt) (hta : a.length ≤ 1000) (ht : t.length ≤ 1000) : Calls Tryz.prog 42 #[.pointer (some ⟨Vb, 0, none⟩), .string (bt a), .string (bt t)] w fun e w' => e = .returned (.int .i64 ((lnkV s a t).1 : Nat)) ∧ Rto w w' D E T R G (lnkV s a t).2 := by
  have hf := g.few
  have FIN := hide (fun (W : World) (b : Below w.heap.size w W) => Rto.of_below h b)
  have HH := hide (fun (W : World) (b : Below w.heap.size w W) => h.below b)
  have HD := hide (fun (W : World) (b : Below w.heap.size w W) => hd.below b)
  have ID := hide (fun (W : World) (b : Below w.heap.size w W) (k : Nat) => tisdir_any (h.below b) (k : Int))
  have HV := hide hv
  have GG := hide g
  have HB := hide hB
  have NE := hide (show lnkV s a t = if (walkI s a).2 ≠ 0 then ((walkI s a).2, s) else if dirI s (walkI s a).1 then (6, s) else if (parI s t).2.2 ≠ 0 then ((parI s t).2.2, s) else (enIE s (parI s t).1 (parI s t).2.1 (walkI s a).1, enI s (parI s t).1 (parI s t).2.1 (walkI s a).1) from rfl)
  obtain ⟨d, hdd⟩ : ∃ z, z = (walkI s a).1 := ⟨_, rfl⟩
  obtain ⟨we, hwe⟩ : ∃ z, z = (walkI s a).2 := ⟨_, rfl⟩
  have WK := hide (show Calls Tryz.prog 49 #[.pointer (some ⟨Vb, 0, none⟩), .string (bt a)] w (fun e w' => e = .returned (.tuple #[.int .i64 (d : Int), .int .i64 (we : Int)]) ∧ Below w.heap.size w w') from by rw [hdd, hwe]; exact vwalk_any h hd hf a hta)
  rw [← hwe, ← hdd] at NE
  clear hdd hwe
  have NML := parI_nm s t
  have P16 := parI_lt g t
  obtain ⟨p, hp⟩ : ∃ z, z = (parI s t).1 := ⟨_, rfl⟩
  obtain ⟨nm, hnm⟩ : ∃ z, z = (parI s t).2.1 := ⟨_, rfl⟩
  obtain ⟨pe, hpe⟩ : ∃ z, z = (parI s t).2.2 := ⟨_, rfl⟩
  have PA := hide (fun (W : World) (b : Below w.heap.size w W) => show Calls Tryz.prog 81 #[.pointer (some ⟨Vb, 0, none⟩), .string (bt t)] W (fun e w' => e = .returned (.tuple #[.int .i64 (p : Int), .string (bt nm), .int .i64 (pe : Int)]) ∧ Below W.heap.size W w') from by rw [hp, hnm, hpe]; exact vparent_any (h.below b) (hd.below b) hf t ht)
  rw [← hp, ← hnm, ← hpe] at NE
  rw [← hnm] at NML
  rw [← hp] at P16
  clear hp hnm hpe
  by_cases z0 : we ≠ 0
  · rw [if_pos z0] at NE
    rw [NE.out]
    have z1 : ¬ (we : Int) = 0 := by omega
    clear h hd g NE z0 hf
    go_enter Tryz.func42, Tryz.ntmps42
    go_wp2_with (first
      | (go_at_call 49; refine WK.out.mono ?_; rintro e w1 ⟨rfl, b1⟩; have B1 := hide b1; have x0 := (HD.out _ b1).c0; clear b1))
    go_ret
    exact ⟨rfl, FIN.out _ B1.out⟩
  rw [if_neg z0] at NE
  have z1 : (we : Int) = 0 := by omega
  rw [z1] at WK
  cases hdir : dirI s (d : Int) with
  | true =>
    rw [hdir, if_pos rfl] at NE
    rw [NE.out]
    have IDD := hide (fun W b => hdir ▸ ID.out W b d)
    clear h hd g NE z0 hf
    go_enter Tryz.func42, Tryz.ntmps42
    go_wp2_with (first
      | (go_at_call 49; refine WK.out.mono ?_; rintro e w1 ⟨rfl, b1⟩; have B1 := hide b1; have x0 := (HD.out _ b1).c0; clear b1)
      | (go_at_call 78; refine (IDD.out _ B1.out).mono ?_; rintro e w' ⟨rfl, rfl⟩))
    go_ret
    exact ⟨rfl, FIN.out _ B1.out⟩
  | false =>
  rw [hdir, if_neg (by simp)] at NE
  have IDD := hide (fun W b => hdir ▸ ID.out W b d)
  by_cases p0 : pe ≠ 0
  · rw [if_pos p0] at NE
    rw [NE.out]
    have p1 : ¬ (pe : Int) = 0 := by omega
    clear h hd g NE p0 hf
    go_enter Tryz.func42, Tryz.ntmps42
    go_wp2_with (first
      | (go_at_call 49; refine WK.out.mono ?_; rintro e w1 ⟨rfl, b1⟩; have B1 := hide b1; have x0 := (HD.out _ b1).c0; clear b1)
      | (go_at_call 78; refine (IDD.out _ B1.out).mono ?_; rintro e w' ⟨rfl, rfl⟩)
      | (go_at_call 81; refine (PA.out _ B1.out).mono ?_; rintro e w2 ⟨rfl, b2⟩; have B2 := hide (B1.out.trans (b2.mono B1.out.size)); have x2 := (HD.out _ B2.out).c0; clear b2))
    go_ret
    exact ⟨rfl, FIN.out _ B2.out⟩
  rw [if_neg p0] at NE
  have p1 : (pe : Int) = 0 := by omega
  rw [p1] at PA
  have ENT := hide (fun (W : World) (b : Below w.heap.size w W) => tenter_any (h.below b) g (by omega) (p : Int) nm (by omega) (d : Int))
  rw [NE.out]
  clear h hd g NE p0 z0 hf
  go_enter Tryz.func42, Tryz.ntmps42
  go_wp2_with (first
      | (go_at_call 49; refine WK.out.mono ?_; rintro e w1 ⟨rfl, b1⟩; have B1 := hide b1; have x0 := (HD.out _ b1).c0; clear b1)
      | (go_at_call 78; refine (IDD.out _ B1.out).mono ?_; rintro e w' ⟨rfl, rfl⟩)
      | (go_at_call 81; refine (PA.out _ B1.out).mono ?_; rintro e w2 ⟨rfl, b2⟩; have B2 := hide (B1.out.trans (b2.mono B1.out.size)); have x2 := (HD.out _ B2.out).c0; clear b2)
      | (go_at_call 83; refine (ENT.out _ B2.out).mono ?_; rintro e w4 ⟨rfl, r4⟩; have R4 := hide (Rto.after B2.out r4); clear r4))
  go_ret
  exact ⟨rfl, R4.out⟩
set_option maxRecDepth 10000 in
set_option maxHeartbeats 8000000 in
theorem vremove_any (h : RtAt w D T R G s E V) (hd : Hd22 w Vb T G) (hv : ¬ D Vb) {B : Int} (g : GoodP s [] B) (hB : B ≤ 999999) (t : Txt) (ht : t.length ≤ 1000) (dd : Bool) : Calls Tryz.prog 84 #[.pointer (some ⟨Vb, 0, none⟩), .string (bt t), .bool dd] w fun e w' => e = .returned (.int .i64 ((remV s t dd).1 : Nat)) ∧ Rto w w' D E T R G (remV s t dd).2 := by
  have hf := g.few
  have FIN := hide (fun (W : World) (b : Below w.heap.size w W) => Rto.of_below h b)
  have HH := hide (fun (W : World) (b : Below w.heap.size w W) => h.below b)
  have HD := hide (fun (W : World) (b : Below w.heap.size w W) => hd.below b)
  have ID := hide (fun (W : World) (b : Below w.heap.size w W) (k : Nat) => tisdir_any (h.below b) (k : Int))
  have HV := hide hv
  have GG := hide g
  have HB := hide hB
  have NE := hide (show remV s t dd = if (parI s t).2.2 ≠ 0 then ((parI s t).2.2, s) else if fiIE s (parI s t).1 (parI s t).2.1 ≠ 0 then (fiIE s (parI s t).1 (parI s t).2.1, s) else if dirI s (fiII s (parI s t).1 (parI s t).2.1) = true ∧ dd = false then (12, s) else if dirI s (fiII s (parI s t).1 (parI s t).2.1) = false ∧ dd = true then (11, s) else (rmIE s (parI s t).1 (parI s t).2.1, rmI s (parI s t).1 (parI s t).2.1) from rfl)
  have NML := parI_nm s t
  have P16 := parI_lt g t
  obtain ⟨p, hp⟩ : ∃ z, z = (parI s t).1 := ⟨_, rfl⟩
  obtain ⟨nm, hnm⟩ : ∃ z, z = (parI s t).2.1 := ⟨_, rfl⟩
  obtain ⟨pe, hpe⟩ : ∃ z, z = (parI s t).2.2 := ⟨_, rfl⟩
  have PA := hide (fun (W : World) (b : Below w.heap.size w W) => show Calls Tryz.prog 81 #[.pointer (some ⟨Vb, 0, none⟩), .string (bt t)] W (fun e w' => e = .returned (.tuple #[.int .i64 (p : Int), .string (bt nm), .int .i64 (pe : Int)]) ∧ Below W.heap.size W w') from by rw [hp, hnm, hpe]; exact vparent_any (h.below b) (hd.below b) hf t ht)
  rw [← hp, ← hnm, ← hpe] at NE
  rw [← hnm] at NML
  rw [← hp] at P16
  clear hp hnm hpe
  by_cases p0 : pe ≠ 0
  · rw [if_pos p0] at NE
    rw [NE.out]
    have p1 : ¬ (pe : Int) = 0 := by omega
    clear h hd g NE p0 hf
    go_enter Tryz.func84, Tryz.ntmps84
    go_wp2_with (first
      | (go_at_call 81; refine (PA.out _ (Below.refl _ _)).mono ?_; rintro e w1 ⟨rfl, b1⟩; have B1 := hide b1; have x0 := (HD.out _ b1).c0; clear b1))
    go_ret
    exact ⟨rfl, FIN.out _ B1.out⟩
  rw [if_neg p0] at NE
  have p1 : (pe : Int) = 0 := by omega
  rw [p1] at PA
  have FI := hide (fun (W : World) (b : Below w.heap.size w W) => tfind_any (h.below b) hf (p : Int) nm)
  obtain ⟨fe, hfe⟩ : ∃ z, z = fiIE s (p : Int) nm := ⟨_, rfl⟩
  obtain ⟨fi, hfi⟩ : ∃ z, z = fiII s (p : Int) nm := ⟨_, rfl⟩
  rw [← hfe, ← hfi] at FI NE
  by_cases f0 : fe ≠ 0
  · rw [if_pos f0] at NE
    rw [NE.out]
    have f1 : ¬ (fe : Int) = 0 := by omega
    clear h hd g NE p0 f0 hf hfe hfi
    go_enter Tryz.func84, Tryz.ntmps84
    go_wp2_with (first
      | (go_at_call 81; refine (PA.out _ (Below.refl _ _)).mono ?_; rintro e w1 ⟨rfl, b1⟩; have B1 := hide b1; have x0 := (HD.out _ b1).c0; clear b1)
      | (go_at_call 85; refine (FI.out _ B1.out).mono ?_; rintro e w' ⟨rfl, rfl⟩))
    go_ret
    exact ⟨rfl, FIN.out _ B1.out⟩
  rw [if_neg f0] at NE
  have f1 : (fe : Int) = 0 := by omega
  rw [f1] at FI
  have RM := hide (fun (W : World) (b : Below w.heap.size w W) => tremove_any (h.below b) g (by omega) (p : Int) nm)
  cases hdir : dirI s (fi : Int) with
  | true =>
    have IDD := hide (fun W b => hdir ▸ ID.out W b fi)
    cases dd with
    | false =>
      rw [hdir, if_pos ⟨rfl, rfl⟩] at NE
      rw [NE.out]
      clear h hd g NE p0 f0 hf hfe hfi
      go_enter Tryz.func84, Tryz.ntmps84
      go_wp2_with (first
      | (go_at_call 81; refine (PA.out _ (Below.refl _ _)).mono ?_; rintro e w1 ⟨rfl, b1⟩; have B1 := hide b1; have x0 := (HD.out _ b1).c0; clear b1)
      | (go_at_call 85; refine (FI.out _ B1.out).mono ?_; rintro e w' ⟨rfl, rfl⟩)
      | (go_at_call 78; refine (IDD.out _ B1.out).mono ?_; rintro e w' ⟨rfl, rfl⟩)
      | (go_at_call 118; refine (RM.out _ B1.out).mono ?_; rintro e w4 ⟨rfl, r4⟩; have R4 := hide (Rto.after B1.out r4); clear r4))
      go_ret
      exact ⟨rfl, FIN.out _ B1.out⟩
    | true =>
      rw [hdir, if_neg (by simp), if_neg (by simp)] at NE
      rw [NE.out]
      clear h hd g NE p0 f0 hf hfe hfi
      go_enter Tryz.func84, Tryz.ntmps84
      go_wp2_with (first
      | (go_at_call 81; refine (PA.out _ (Below.refl _ _)).mono ?_; rintro e w1 ⟨rfl, b1⟩; have B1 := hide b1; have x0 := (HD.out _ b1).c0; clear b1)
      | (go_at_call 85; refine (FI.out _ B1.out).mono ?_; rintro e w' ⟨rfl, rfl⟩)
      | (go_at_call 78; refine (IDD.out _ B1.out).mono ?_; rintro e w' ⟨rfl, rfl⟩)
      | (go_at_call 118; refine (RM.out _ B1.out).mono ?_; rintro e w4 ⟨rfl, r4⟩; have R4 := hide (Rto.after B1.out r4); clear r4))
      go_ret
      exact ⟨rfl, R4.out⟩
  | false =>
    have IDD := hide (fun W b => hdir ▸ ID.out W b fi)
    cases dd with
    | false =>
      rw [hdir, if_neg (by simp), if_neg (by simp)] at NE
      rw [NE.out]
      clear h hd g NE p0 f0 hf hfe hfi
      go_enter Tryz.func84, Tryz.ntmps84
      go_wp2_with (first
      | (go_at_call 81; refine (PA.out _ (Below.refl _ _)).mono ?_; rintro e w1 ⟨rfl, b1⟩; have B1 := hide b1; have x0 := (HD.out _ b1).c0; clear b1)
      | (go_at_call 85; refine (FI.out _ B1.out).mono ?_; rintro e w' ⟨rfl, rfl⟩)
      | (go_at_call 78; refine (IDD.out _ B1.out).mono ?_; rintro e w' ⟨rfl, rfl⟩)
      | (go_at_call 118; refine (RM.out _ B1.out).mono ?_; rintro e w4 ⟨rfl, r4⟩; have R4 := hide (Rto.after B1.out r4); clear r4))
      go_ret
      exact ⟨rfl, R4.out⟩
    | true =>
      rw [hdir, if_neg (by simp), if_pos ⟨rfl, rfl⟩] at NE
      rw [NE.out]
      clear h hd g NE p0 f0 hf hfe hfi
      go_enter Tryz.func84, Tryz.ntmps84
      go_wp2_with (first
      | (go_at_call 81; refine (PA.out _ (Below.refl _ _)).mono ?_; rintro e w1 ⟨rfl, b1⟩; have B1 := hide b1; have x0 := (HD.out _ b1).c0; clear b1)
      | (go_at_call 85; refine (FI.out _ B1.out).mono ?_; rintro e w' ⟨rfl, rfl⟩)
      | (go_at_call 78; refine (IDD.out _ B1.out).mono ?_; rintro e w' ⟨rfl, rfl⟩)
      | (go_at_call 118; refine (RM.out _ B1.out).mono ?_; rintro e w4 ⟨rfl, r4⟩; have R4 := hide (Rto.after B1.out r4); clear r4))
      go_ret
      exact ⟨rfl, FIN.out _ B1.out⟩
theorem vunlink_any (h : RtAt w D T R G s E V) (hd : Hd22 w Vb T G) (hv : ¬ D Vb) {B : Int} (g : GoodP s [] B) (hB : B ≤ 999999) (t : Txt) (ht : t.length ≤ 1000) : Calls Tryz.prog 43 #[.pointer (some ⟨Vb, 0, none⟩), .string (bt t)] w fun e w' => e = .returned (.int .i64 ((remV s t false).1 : Nat)) ∧ Rto w w' D E T R G (remV s t false).2 := by
  have C := hide (vremove_any h hd hv g hB t ht false)
  go_enter Tryz.func43, Tryz.ntmps43
  go_wp2_with (go_at_call 84; refine C.out.mono ?_; rintro e w1 ⟨rfl, r1⟩; have R1 := hide r1; clear r1)
  go_ret
  exact ⟨rfl, R1.out⟩
theorem vrmdir_any (h : RtAt w D T R G s E V) (hd : Hd22 w Vb T G) (hv : ¬ D Vb) {B : Int} (g : GoodP s [] B) (hB : B ≤ 999999) (t : Txt) (ht : t.length ≤ 1000) : Calls Tryz.prog 45 #[.pointer (some ⟨Vb, 0, none⟩), .string (bt t)] w fun e w' => e = .returned (.int .i64 ((remV s t true).1 : Nat)) ∧ Rto w w' D E T R G (remV s t true).2 := by
  have C := hide (vremove_any h hd hv g hB t ht true)
  go_enter Tryz.func45, Tryz.ntmps45
  go_wp2_with (go_at_call 84; refine C.out.mono ?_; rintro e w1 ⟨rfl, r1⟩; have R1 := hide r1; clear r1)
  go_ret
  exact ⟨rfl, R1.out⟩
end
end Go.Proofs.YtndfnglcichngaaGreatDoor
namespace Go.Proofs.YtndfnglcichngaaGreatDoor
open Go.ChangeShapes Go.WideShapes Go.ChangeAt Go.RowKit
set_option linter.unusedVariables false
set_option linter.unusedSimpArgs false
/-- The document's paths, their table at T, their store at G over the frames at R. -/
def Rv (R T G : Nat) : Rel In := fun w D Vb s => Hd22 w Vb T G ∧ ∃ D0, Rin R G w D0 T s ∧ ¬ D0 Vb ∧ ∀ i, D i ↔ i = Vb ∨ D0 i
theorem keepsRv (R T G : Nat) : Keeps (Rv R T G) where
  keep := by
    rintro V U w w' S s ⟨hd, D0, r, hv, hD⟩ u d
    exact ⟨(u.block S (lt_of_heap hd) (d S ((hD S).2 (.inl rfl)))).trans hd, D0, (keepsRin R G).keep r u (fun i e => d i ((hD i).2 (.inr e))), hv, hD⟩
  lt := by
    rintro U w S s ⟨hd, D0, r, hv, hD⟩ i e
    rcases (hD i).1 e with rfl | e
    · exact lt_of_heap hd
    · exact (keepsRin R G).lt r i e
section
variable {w : World} {D : Nat → Prop} {T R G Vb : Nat} {s : In} {E : Nat → Prop} {V : Nat → Value}
/-- What a call of the table leaves, as one of the paths'. -/
theorem Rto.paths {w' : World} {s' : In} {v : Value} (h : RtAt w D T R G s E V) (hd : Hd22 w Vb T G) (hv : ¬ D Vb) {U : Nat → Prop} (hU : ∀ i, U i ↔ i = Vb ∨ D i) (r : Rto w w' D E T R G s') : SideO (fun w' U' => Rv R T G w' U' Vb s') U w v (.returned v) w' := by
  have hd' := hd.rto hv h r
  obtain ⟨D', E', V', h', t, e, d⟩ := r
  have lv := lt_of_heap hd
  refine ⟨rfl, fun i => i = Vb ∨ D' i, ⟨hd', D', ⟨E', V', h'⟩, fun x => ?_, fun i => Iff.rfl⟩, t.mono (fun i x => (hU i).2 (.inr ?_)), fun i x => ?_⟩
  · rcases d Vb x with x | x
    · exact hv x
    · omega
  · rcases x with rfl | x
    · exact h.dt.1
    · exact h.sub i x
  · rcases x with rfl | x
    · exact .inl ((hU _).2 (.inl rfl))
    · exact (d i x).imp (fun x => (hU i).2 (.inr x)) id
set_option maxRecDepth 20000 in
set_option maxHeartbeats 4000000 in
theorem vrnew_any {w1 w2 w4 : World} {t b N : Nat} (r2 : Rf w2 (fun i => i < w1.heap.size) R t b (St.new N) 0 []) (b4 : Below w2.heap.size w2 w4) : Calls Tryz.prog 39 #[.pointer (some ⟨R, 0, none⟩)] w4 fun e w' => ∃ Vb T G D, e = .returned (.pointer (some ⟨Vb, 0, none⟩)) ∧ Rv R T G w' D Vb (newI N) ∧ Below w4.heap.size w4 w' ∧ ∀ i, D i → (w1.heap.size ≤ i ∧ i < w2.heap.size) ∨ w4.heap.size ≤ i := by
  have D5 := hide (dso_first r2 b4)
  have bA := hide ((Below.refl w4.heap.size w4).alloc (Nat.le_refl _) (.cells #[.pointer (some ⟨R, 0, none⟩), .slice none 0 0] 143))
  have S5 := hide (show (w4.alloc (.cells #[.pointer (some ⟨R, 0, none⟩), .slice none 0 0] 143)).heap.size = w4.heap.size + 1 from by simp)
  clear r2 b4
  go_enter Tryz.func39, Tryz.ntmps39
  go_wp2_with fail
  go_at_call 77
  refine (tnew_any D5.out).mono ?_
  rintro e w6 ⟨T, D, rfl, p6, b6, hD⟩
  have P6 := hide p6
  have B6 := hide b6
  have HD := hide hD
  clear p6 b6 hD
  have bB := hide ((Below.refl w6.heap.size w6).alloc (Nat.le_refl _) (.cells #[.pointer (some ⟨T, 0, none⟩), .pointer (some ⟨w4.heap.size, 0, none⟩)] 84))
  go_wp2_with fail
  go_ret
  have s5 := S5.out
  have s6 := B6.out.size
  refine ⟨w6.heap.size, T, w4.heap.size, fun i => i = w6.heap.size ∨ D i, rfl, ⟨heap_alloc_new _ _, D, (keepsRin _ _).below P6.out bB.out, fun x => ?_, fun i => Iff.rfl⟩, ?_, fun i x => ?_⟩
  · have := (keepsRin _ _).lt P6.out _ x; omega
  · exact bA.out.trans ((B6.out.mono (by omega)).trans (bB.out.mono (by omega)))
  · rcases x with rfl | x
    · exact .inr (by omega)
    · rcases HD.out i x with (x | x) | x
      · exact .inr (by omega)
      · exact .inl x
      · exact .inr (by omega)
end
end Go.Proofs.YtndfnglcichngaaGreatDoor
namespace Go.Proofs.YtndfnglcichngaaGreatDoor
open Go.ChangeShapes Go.WideShapes Go.ChangeAt Go.RowKit
set_option linter.unusedVariables false
set_option linter.unusedSimpArgs false
/-- What is told of a node, as a struct. -/
def nodA (s : In) (id : Int) : Value := if isI s id then .agg #[.int .i64 id, .int .i64 (s.n id.toNat).links, .bool (s.n id.toNat).dir, .int .i64 (gtSz s id.toNat : Nat)] else .agg #[.int .i64 0, .int .i64 0, .bool false, .int .i64 0]
theorem gotI_nod (s : In) (id : Int) : gotI s id = .tuple #[nodA s id, .bool (isI s id)] := by
  unfold gotI nodA
  cases isI s id <;> rfl
theorem nodA_form (s : In) (id : Int) : ∃ g0 g1 g2 g3, nodA s id = .agg #[.int .i64 g0, .int .i64 g1, .bool g2, .int .i64 g3] := by
  unfold nodA; split
  · exact ⟨_, _, _, _, rfl⟩
  · exact ⟨_, _, _, _, rfl⟩
def statA (s : In) (t : Txt) : Value := if (walkI s t).2 = 0 then nodA s (walkI s t).1 else .agg #[.int .i64 0, .int .i64 0, .bool false, .int .i64 0]
def lstV (s : In) (t : Txt) : List Ent := if (walkI s t).2 = 0 then (if dirI s (walkI s t).1 then (s.n (walkI s t).1).l else []) else []
def lstE (s : In) (t : Txt) : Nat := if (walkI s t).2 = 0 then (if dirI s (walkI s t).1 then 0 else 11) else (walkI s t).2
section
variable {w : World} {D : Nat → Prop} {T R G Vb : Nat} {s : In} {E : Nat → Prop} {V : Nat → Value}
set_option maxRecDepth 10000 in
set_option maxHeartbeats 4000000 in
theorem vstat_any (h : RtAt w D T R G s E V) (hd : Hd22 w Vb T G) (hf : ∀ i, (s.n i).l.length ≤ 8) (t : Txt) (ht : t.length ≤ 1000) : Calls Tryz.prog 48 #[.pointer (some ⟨Vb, 0, none⟩), .string (bt t)] w fun e w' => e = .returned (.tuple #[statA s t, .int .i64 ((walkI s t).2 : Nat)]) ∧ Below w.heap.size w w' := by
  have A1 := hide (show ∀ o : Obj, Below w.heap.size w (w.alloc o) from fun o => (Below.refl _ _).alloc (Nat.le_refl _) o)
  have HS := hide (show statA s t = if (walkI s t).2 = 0 then nodA s (walkI s t).1 else .agg #[.int .i64 0, .int .i64 0, .bool false, .int .i64 0] from rfl)
  obtain ⟨d, hdd⟩ : ∃ z, z = (walkI s t).1 := ⟨_, rfl⟩
  obtain ⟨we, hwe⟩ : ∃ z, z = (walkI s t).2 := ⟨_, rfl⟩
  have WK := hide (fun (W : World) (b : Below w.heap.size w W) => show Calls Tryz.prog 49 #[.pointer (some ⟨Vb, 0, none⟩), .string (bt t)] W (fun e w' => e = .returned (.tuple #[.int .i64 (d : Int), .int .i64 (we : Int)]) ∧ Below W.heap.size W w') from by rw [hdd, hwe]; exact vwalk_any (h.below b) (hd.below b) hf t ht)
  rw [← hwe] at HS ⊢
  rw [← hdd] at HS
  obtain ⟨W0, hW0⟩ : ∃ W0, W0 = w.alloc (.cells #[.int .i64 0, .int .i64 0, .bool false, .int .i64 0] 54) := ⟨_, rfl⟩
  have HR0 := hide (show W0.heap[w.heap.size]? = some (.cells #[.int .i64 0, .int .i64 0, .bool false, .int .i64 0] 54 (0, 0)) from by rw [hW0]; exact heap_alloc_new _ _)
  have B0 := hide (show Below w.heap.size w W0 from by rw [hW0]; exact A1.out _)
  by_cases z0 : we = 0
  · rw [if_pos z0] at HS
    rw [HS.out]
    obtain ⟨g0, g1, g2, g3, hn⟩ := nodA_form s (d : Int)
    obtain ⟨ib, hib⟩ : ∃ z, z = isI s (d : Int) := ⟨_, rfl⟩
    have GT := hide (fun (W : World) (b : Below w.heap.size w W) => show Calls Tryz.prog 91 #[.pointer (some ⟨T, 0, none⟩), .int .i64 (d : Int)] W (fun e w' => e = .returned (.tuple #[.agg #[.int .i64 g0, .int .i64 g1, .bool g2, .int .i64 g3], .bool ib]) ∧ Below W.heap.size W w') from by rw [hib, ← hn, ← gotI_nod]; exact tget_any (h.below b) hf (d : Int))
    have HD := hide (fun (W : World) (b : Below w.heap.size w W) => (hd.below b).c0)
    rw [hn]
    have z1 : (we : Int) = 0 := by omega
    rw [z1] at WK ⊢
    clear h hd hf HS z0 hn hib hdd hwe
    go_enter Tryz.func48, Tryz.ntmps48
    go_upto_region 1 with fail
    rw [← hW0]
    clear hW0
    go_upto_region 4 with (go_at_call 49; refine (WK.out _ B0.out).mono ?_; rintro e w1 ⟨rfl, b1⟩; have B1' := hide b1; have B1 := hide (B0.out.trans (b1.mono B0.out.size)); have x0 := HD.out _ B1.out; clear b1)
    go_upto_region 5 with (go_at_call 91; refine (GT.out _ B1.out).mono ?_; rintro e w2 ⟨rfl, b2⟩; have B2' := hide (B1'.out.trans (b2.mono B1'.out.size)); have B2 := hide (B1.out.trans (b2.mono B1.out.size)); clear b2)
    have bA := (Below.refl w2.heap.size w2).alloc (Nat.le_refl _) (.cells #[.int .i64 g0, .int .i64 g1, .bool g2, .int .i64 g3] 54)
    have hr2 := (B2'.out.block w.heap.size (lt_of_heap HR0.out)).trans HR0.out
    have hr := (bA.block w.heap.size (lt_of_heap hr2)).trans hr2
    have hy := heap_alloc_new w2 (.cells #[.int .i64 g0, .int .i64 g1, .bool g2, .int .i64 g3] 54)
    have hne : ¬ w2.heap.size = w.heap.size := by have := lt_of_heap hr2; omega
    have B3 := hide (B2.out.trans (bA.mono B2.out.size))
    generalize w2.alloc (.cells #[.int .i64 g0, .int .i64 g1, .bool g2, .int .i64 g3] 54) = w3 at *
    generalize w2.heap.size = Y at *
    have y0 : w3.cell? ⟨Y, 0, none⟩ = some (.int .i64 g0) := by rw [cell_of_row _ _ _ _ _ _ hy]; rfl
    have y1 : w3.cell? ⟨Y, 1, none⟩ = some (.int .i64 g1) := by rw [cell_of_row _ _ _ _ _ _ hy]; rfl
    have y2 : w3.cell? ⟨Y, 2, none⟩ = some (.bool g2) := by rw [cell_of_row _ _ _ _ _ _ hy]; rfl
    have y3 : w3.cell? ⟨Y, 3, none⟩ = some (.int .i64 g3) := by rw [cell_of_row _ _ _ _ _ _ hy]; rfl
    have c0 : w3.cell? ⟨w.heap.size, 0, none⟩ = some (.int .i64 0) := by rw [cell_of_row _ _ _ _ _ _ hr]; rfl
    have c1 : w3.cell? ⟨w.heap.size, 1, none⟩ = some (.int .i64 0) := by rw [cell_of_row _ _ _ _ _ _ hr]; rfl
    have c2 : w3.cell? ⟨w.heap.size, 2, none⟩ = some (.bool false) := by rw [cell_of_row _ _ _ _ _ _ hr]; rfl
    have c3 : w3.cell? ⟨w.heap.size, 3, none⟩ = some (.int .i64 0) := by rw [cell_of_row _ _ _ _ _ _ hr]; rfl
    have f0 := frozen_of_row w3 _ 0 _ _ hr
    have f1 := frozen_of_row w3 _ 1 _ _ hr
    have f2 := frozen_of_row w3 _ 2 _ _ hr
    have f3 := frozen_of_row w3 _ 3 _ _ hr
    have HRR := hide hr
    have FB := hide (show Below w.heap.size w ((((w3.setCell ⟨w.heap.size, 0, none⟩ (.int .i64 g0)).setCell ⟨w.heap.size, 1, none⟩ (.int .i64 g1)).setCell ⟨w.heap.size, 2, none⟩ (.bool g2)).setCell ⟨w.heap.size, 3, none⟩ (.int .i64 g3)) from (((B3.out.setCell (p := ⟨w.heap.size, 0, none⟩) (Nat.le_refl _) _).setCell (p := ⟨w.heap.size, 1, none⟩) (Nat.le_refl _) _).setCell (p := ⟨w.heap.size, 2, none⟩) (Nat.le_refl _) _).setCell (p := ⟨w.heap.size, 3, none⟩) (Nat.le_refl _) _)
    clear hr hr2 hy bA x0
    go_wp2_with fail
    refine bodyPost_ret (v := .tuple #[.agg #[.int .i64 g0, .int .i64 g1, .bool g2, .int .i64 g3], .int .i64 0]) ?_ rfl ⟨rfl, FB.out⟩
    rw [results_cell_tmp rfl]
    have hz := heap_setCell_same _ _ 3 _ _ (.int .i64 g3) (heap_setCell_same _ _ 2 _ _ (.bool g2) (heap_setCell_same _ _ 1 _ _ (.int .i64 g1) (heap_setCell_same _ _ 0 _ _ (.int .i64 g0) HRR.out)))
    have z0 : ((((w3.setCell ⟨w.heap.size, 0, none⟩ (.int .i64 g0)).setCell ⟨w.heap.size, 1, none⟩ (.int .i64 g1)).setCell ⟨w.heap.size, 2, none⟩ (.bool g2)).setCell ⟨w.heap.size, 3, none⟩ (.int .i64 g3)).cell? ⟨w.heap.size, 0, none⟩ = some (.int .i64 g0) := by rw [cell_of_row _ _ _ _ _ _ hz]; rfl
    have z1 : ((((w3.setCell ⟨w.heap.size, 0, none⟩ (.int .i64 g0)).setCell ⟨w.heap.size, 1, none⟩ (.int .i64 g1)).setCell ⟨w.heap.size, 2, none⟩ (.bool g2)).setCell ⟨w.heap.size, 3, none⟩ (.int .i64 g3)).cell? ⟨w.heap.size, 1, none⟩ = some (.int .i64 g1) := by rw [cell_of_row _ _ _ _ _ _ hz]; rfl
    have z2 : ((((w3.setCell ⟨w.heap.size, 0, none⟩ (.int .i64 g0)).setCell ⟨w.heap.size, 1, none⟩ (.int .i64 g1)).setCell ⟨w.heap.size, 2, none⟩ (.bool g2)).setCell ⟨w.heap.size, 3, none⟩ (.int .i64 g3)).cell? ⟨w.heap.size, 2, none⟩ = some (.bool g2) := by rw [cell_of_row _ _ _ _ _ _ hz]; rfl
    have z3 : ((((w3.setCell ⟨w.heap.size, 0, none⟩ (.int .i64 g0)).setCell ⟨w.heap.size, 1, none⟩ (.int .i64 g1)).setCell ⟨w.heap.size, 2, none⟩ (.bool g2)).setCell ⟨w.heap.size, 3, none⟩ (.int .i64 g3)).cell? ⟨w.heap.size, 3, none⟩ = some (.int .i64 g3) := by rw [cell_of_row _ _ _ _ _ _ hz]; rfl
    go_simp
  · rw [if_neg z0] at HS
    rw [HS.out]
    have z1 : ¬ (we : Int) = 0 := by omega
    clear h hd hf HS z0 hdd hwe
    go_enter Tryz.func48, Tryz.ntmps48
    go_upto_region 1 with fail
    rw [← hW0]
    clear hW0
    go_upto_region 3 with (go_at_call 49; refine (WK.out _ B0.out).mono ?_; rintro e w1 ⟨rfl, b1⟩; have B1' := hide b1; have B1 := hide (B0.out.trans (b1.mono B0.out.size)); clear b1)
    have hr := (B1'.out.block w.heap.size (lt_of_heap HR0.out)).trans HR0.out
    have c0 : w1.cell? ⟨w.heap.size, 0, none⟩ = some (.int .i64 0) := by rw [cell_of_row _ _ _ _ _ _ hr]; rfl
    have c1 : w1.cell? ⟨w.heap.size, 1, none⟩ = some (.int .i64 0) := by rw [cell_of_row _ _ _ _ _ _ hr]; rfl
    have c2 : w1.cell? ⟨w.heap.size, 2, none⟩ = some (.bool false) := by rw [cell_of_row _ _ _ _ _ _ hr]; rfl
    have c3 : w1.cell? ⟨w.heap.size, 3, none⟩ = some (.int .i64 0) := by rw [cell_of_row _ _ _ _ _ _ hr]; rfl
    have f0 := frozen_of_row w1 _ 0 _ _ hr
    have f1 := frozen_of_row w1 _ 1 _ _ hr
    have f2 := frozen_of_row w1 _ 2 _ _ hr
    have f3 := frozen_of_row w1 _ 3 _ _ hr
    have HRR := hide hr
    have FB := hide (show Below w.heap.size w ((((w1.setCell ⟨w.heap.size, 0, none⟩ (.int .i64 0)).setCell ⟨w.heap.size, 1, none⟩ (.int .i64 0)).setCell ⟨w.heap.size, 2, none⟩ (.bool false)).setCell ⟨w.heap.size, 3, none⟩ (.int .i64 0)) from (((B1.out.setCell (p := ⟨w.heap.size, 0, none⟩) (Nat.le_refl _) _).setCell (p := ⟨w.heap.size, 1, none⟩) (Nat.le_refl _) _).setCell (p := ⟨w.heap.size, 2, none⟩) (Nat.le_refl _) _).setCell (p := ⟨w.heap.size, 3, none⟩) (Nat.le_refl _) _)
    clear hr
    go_wp2_with fail
    refine bodyPost_ret (v := .tuple #[.agg #[.int .i64 0, .int .i64 0, .bool false, .int .i64 0], .int .i64 (we : Int)]) ?_ rfl ⟨rfl, FB.out⟩
    rw [results_cell_tmp rfl]
    go_simp
set_option maxRecDepth 10000 in
set_option maxHeartbeats 4000000 in
theorem vlist_any (h : RtAt w D T R G s E V) (hd : Hd22 w Vb T G) {B : Int} (g : GoodP s [] B) (t : Txt) (ht : t.length ≤ 1000) : Calls Tryz.prog 50 #[.pointer (some ⟨Vb, 0, none⟩), .string (bt t)] w fun e w' => ∃ v, e = .returned (.tuple #[v, .int .i64 (lstE s t : Nat)]) ∧ w'.ownsRow w.heap.size 105 2 v (lstV s t).length ((lstV s t).flatMap enV) ∧ Below w.heap.size w w' := by
  have hf := g.few
  have HV := hide (show lstV s t = if (walkI s t).2 = 0 then (if dirI s (walkI s t).1 then (s.n (walkI s t).1).l else []) else [] from rfl)
  have HE := hide (show lstE s t = if (walkI s t).2 = 0 then (if dirI s (walkI s t).1 then 0 else 11) else (walkI s t).2 from rfl)
  have D16 := walkI_lt g t
  obtain ⟨d, hdd⟩ : ∃ z, z = (walkI s t).1 := ⟨_, rfl⟩
  obtain ⟨we, hwe⟩ : ∃ z, z = (walkI s t).2 := ⟨_, rfl⟩
  have WK := hide (show Calls Tryz.prog 49 #[.pointer (some ⟨Vb, 0, none⟩), .string (bt t)] w (fun e w' => e = .returned (.tuple #[.int .i64 (d : Int), .int .i64 (we : Int)]) ∧ Below w.heap.size w w') from by rw [hdd, hwe]; exact vwalk_any h hd hf t ht)
  rw [← hwe] at HV HE
  rw [← hdd] at HV HE D16
  by_cases z0 : we = 0
  · rw [if_pos z0] at HV HE
    have ID := hide (fun (W : World) (b : Below w.heap.size w W) => tisdir_any (h.below b) (d : Int))
    have HD := hide (fun (W : World) (b : Below w.heap.size w W) => (hd.below b).c0)
    have z1 : (we : Int) = 0 := by omega
    rw [z1] at WK
    cases hdir : dirI s (d : Int) with
    | false =>
      rw [hdir] at HV HE ID
      rw [HV.out, HE.out]
      clear h hd hf HV HE z0 hdd hwe g
      go_enter Tryz.func50, Tryz.ntmps50
      go_wp2_with (first
        | (go_at_call 49; refine WK.out.mono ?_; rintro e w1 ⟨rfl, b1⟩; have B1 := hide b1; have x0 := HD.out _ b1; clear b1)
        | (go_at_call 78; refine (ID.out _ B1.out).mono ?_; rintro e w' ⟨rfl, rfl⟩))
      go_ret2
      exact ⟨_, rfl, World.ownsRow_nil _ _ _ _, B1.out⟩
    | true =>
      rw [hdir] at HV HE ID
      obtain ⟨l, hl⟩ : ∃ z, z = (s.n d).l := ⟨_, rfl⟩
      have HVl : lstV s t = l := by rw [HV.out, hl]; rfl
      rw [HVl, HE.out]
      obtain ⟨a, c, hv, hr, -, -, hna⟩ := h.list d
      have L8 := hide (hf d)
      rw [← hl] at hv hr L8
      have CL := hide (fun (W : World) (b : Below w.heap.size w W) => show W.cell? ⟨T, 1 + d * 5 + 4, none⟩ = some (.slice a l.length c) ∧ Reads 2 enV W a l.length l from ⟨hv ▸ (h.below b).cList D16, hr.below b⟩)
      have HNA := hide hna
      obtain ⟨i0', hi0, hz0, hz1, hz2⟩ := info_parts entry_info
      have INFO := hide (And.intro hi0 (And.intro hz0 (And.intro hz1 hz2)))
      have d0 : (0 : Int) ≤ (d : Int) := by omega
      have d1 : (d : Int) < 16 := by omega
      clear h hd hf HV HE z0 hdd hwe g hdir hl HVl hv hr hna hi0 hz0 hz1 hz2 D16
      go_enter Tryz.func50, Tryz.ntmps50
      go_wp2_with (first
        | (go_at_call 49; refine WK.out.mono ?_; rintro e w1 ⟨rfl, b1⟩; have B1 := hide b1; have x0 := HD.out _ b1; obtain ⟨x4, r4⟩ := CL.out _ b1; have R4 := hide r4; clear b1 r4)
        | (go_at_call 78; refine (ID.out _ B1.out).mono ?_; rintro e w' ⟨rfl, rfl⟩)
        | (at_builtin; refine wpList_append_reads rfl (.const (.slice none 0 0)) (.tmp 33) 36 rfl w.heap.size 105 i0' _ 24 (Tryz.underlying36) INFO.out.1 INFO.out.2.1 INFO.out.2.2.1 INFO.out.2.2.2 rfl (by omega) _ 0 [] rfl (World.ownsRow_nil _ _ _ _) a l.length c l rfl enV_len enV_cell R4.out HNA.out (by have := L8.out; unfold maxLen; omega) (by have := L8.out; omega) B1.out.size ?_; intro v3 w3 o3 g3; have O3 := hide o3; have B3 := hide (B1.out.grown g3 B1.out.size (fun k e => by cases e)); clear o3 g3))
      go_ret2
      exact ⟨_, rfl, by have h := O3.out; rw [Nat.zero_add, List.nil_append] at h; exact h, B3.out⟩
  · rw [if_neg z0] at HV HE
    rw [HV.out, HE.out]
    have z1 : ¬ (we : Int) = 0 := by omega
    clear h hd hf HV HE z0 hdd hwe g
    go_enter Tryz.func50, Tryz.ntmps50
    go_wp2_with (go_at_call 49; refine WK.out.mono ?_; rintro e w1 ⟨rfl, b1⟩; have B1 := hide b1; clear b1)
    go_ret2
    exact ⟨_, rfl, World.ownsRow_nil _ _ _ _, B1.out⟩
end
end Go.Proofs.YtndfnglcichngaaGreatDoor
namespace Go.Proofs.YtndfnglcichngaaGreatDoor
set_option linter.unusedVariables false
set_option linter.unusedSimpArgs false
theorem newE_good {s : In} {B : Int} (h : GoodP s [] B) (t : Txt) : GoodP (newE s t).2.2 [] B ∧ (NoOrph s 0 → NoOrph (newE s t).2.2 0) := by
  have m := h.mk_ false
  unfold newE
  split
  · exact ⟨h, id⟩
  split
  · exact ⟨h, id⟩
  split
  · exact ⟨h, id⟩
  split
  · exact ⟨(m.cl _).1, fun o => (m.cl _).2 (o.mk_ false)⟩
  · exact ⟨(m.en _ _ _).1, fun o => (m.en _ _ _).2 (o.mk_ false)⟩
theorem mkdV_good {s : In} {B : Int} (h : GoodP s [] B) (t : Txt) : GoodP (mkdV s t).2 [] B ∧ (NoOrph s 0 → NoOrph (mkdV s t).2 0) := by
  have m := h.mk_ true
  unfold mkdV
  split
  · exact ⟨h, id⟩
  split
  · exact ⟨h, id⟩
  split
  · exact ⟨h, id⟩
  split
  · exact ⟨h, id⟩
  · exact ⟨((m.en _ _ _).1.cl _).1, fun o => ((m.en _ _ _).1.cl _).2 ((m.en _ _ _).2 (o.mk_ true))⟩
theorem lnkV_good {s : In} {B : Int} (h : GoodP s [] B) (a t : Txt) : GoodP (lnkV s a t).2 [] B ∧ (NoOrph s 0 → NoOrph (lnkV s a t).2 0) := by
  unfold lnkV
  split
  · exact ⟨h, id⟩
  split
  · exact ⟨h, id⟩
  split
  · exact ⟨h, id⟩
  · exact h.en _ _ _
theorem remV_good {s : In} {B : Int} (h : GoodP s [] B) (t : Txt) (d : Bool) : GoodP (remV s t d).2 [] B ∧ (NoOrph s 0 → NoOrph (remV s t d).2 0) := by
  unfold remV
  split
  · exact ⟨h, id⟩
  split
  · exact ⟨h, id⟩
  split
  · exact ⟨h, id⟩
  split
  · exact ⟨h, id⟩
  · exact h.rm _ _
theorem opnV_good {s : In} {B : Int} (h : GoodP s [] B) (t : Txt) (fl : Int) : GoodP (opnV s t fl).2.2 [] (B + 1) ∧ (NoOrph s 0 → NoOrph (opnV s t fl).2.2 0) := by
  have up : ∀ {s' : In}, GoodP s' [] B → GoodP s' [] (B + 1) := fun g => { g with b1 := by have := g.b1; omega, opn := fun i => ⟨(g.opn i).1, by have := (g.opn i).2; omega⟩ }
  unfold opnV
  split
  · exact ⟨up h, id⟩
  split
  · split
    · exact ⟨up h, id⟩
    · split
      · exact ⟨(h.cut _).op _, fun o => NoOrph.op (s := cutI s (walkI s t).1) o (h.cut _) _⟩
      · exact ⟨h.op _, fun o => o.op h _⟩
  split
  · exact ⟨up h, id⟩
  · exact ⟨up (newE_good h t).1, (newE_good h t).2⟩
end Go.Proofs.YtndfnglcichngaaGreatDoor
namespace Go.Proofs.YtndfnglcichngaaGreatDoor
open Go.ChangeShapes Go.WideShapes Go.ChangeAt Go.RowKit
set_option linter.unusedVariables false
set_option linter.unusedSimpArgs false
/-- The program's paths at V, their nodes at T, their bytes at S, over the frames at H. -/
structure PVfs (PV : Nat → Nat → Nat → Rel In) : Prop where
  keeps : ∀ H S T, Keeps (PV H S T)
  new : ∀ {w : World} {H A Q N : Nat}, Fr w H A Q (St.new N) → Calls Tryz.prog 31 #[.pointer (some ⟨H, 0, none⟩)] w fun e w' => ∃ V S T U, e = .returned (.pointer (some ⟨V, 0, none⟩)) ∧ PV H S T w' U V (newI N) ∧ Below w.heap.size w w' ∧ ∀ i, U i → Blk H A Q i ∨ w.heap.size ≤ i
  wk : ∀ {w : World} {H S T V : Nat} {U : Nat → Prop} {s : In} {B : Int}, PV H S T w U V s → GoodP s [] B → B ≤ 999999 → NoOrph s 0 → ∀ t : Txt, t.length ≤ 1000 → Calls Tryz.prog 25 #[.pointer (some ⟨V, 0, none⟩), .string (bt t)] w fun e w' => e = .returned (.tuple #[.int .i64 ((walkI s t).1 : Nat), .int .i64 ((walkI s t).2 : Nat)]) ∧ Below w.heap.size w w'
  op : ∀ {w : World} {H S T V : Nat} {U : Nat → Prop} {s : In} {B : Int}, PV H S T w U V s → GoodP s [] B → B ≤ 999999 → NoOrph s 0 → ∀ (t : Txt) (fl : Int), t.length ≤ 1000 → (Lit.int .i64 fl).wf = true → Calls Tryz.prog 19 #[.pointer (some ⟨V, 0, none⟩), .string (bt t), .int .i64 fl] w (SideO (fun w' U' => PV H S T w' U' V (opnV s t fl).2.2) U w (.tuple #[.int .i64 ((opnV s t fl).1 : Nat), .int .i64 ((opnV s t fl).2.1 : Nat)]))
  lk : ∀ {w : World} {H S T V : Nat} {U : Nat → Prop} {s : In} {B : Int}, PV H S T w U V s → GoodP s [] B → B ≤ 999999 → NoOrph s 0 → ∀ a t : Txt, a.length ≤ 1000 → t.length ≤ 1000 → Calls Tryz.prog 20 #[.pointer (some ⟨V, 0, none⟩), .string (bt a), .string (bt t)] w (SideO (fun w' U' => PV H S T w' U' V (lnkV s a t).2) U w (.int .i64 ((lnkV s a t).1 : Nat)))
  ul : ∀ {w : World} {H S T V : Nat} {U : Nat → Prop} {s : In} {B : Int}, PV H S T w U V s → GoodP s [] B → B ≤ 999999 → NoOrph s 0 → ∀ t : Txt, t.length ≤ 1000 → Calls Tryz.prog 21 #[.pointer (some ⟨V, 0, none⟩), .string (bt t)] w (SideO (fun w' U' => PV H S T w' U' V (remV s t false).2) U w (.int .i64 ((remV s t false).1 : Nat)))
  rm : ∀ {w : World} {H S T V : Nat} {U : Nat → Prop} {s : In} {B : Int}, PV H S T w U V s → GoodP s [] B → B ≤ 999999 → NoOrph s 0 → ∀ t : Txt, t.length ≤ 1000 → Calls Tryz.prog 23 #[.pointer (some ⟨V, 0, none⟩), .string (bt t)] w (SideO (fun w' U' => PV H S T w' U' V (remV s t true).2) U w (.int .i64 ((remV s t true).1 : Nat)))
  md : ∀ {w : World} {H S T V : Nat} {U : Nat → Prop} {s : In} {B : Int}, PV H S T w U V s → GoodP s [] B → B ≤ 999999 → NoOrph s 0 → ∀ t : Txt, t.length ≤ 1000 → Calls Tryz.prog 22 #[.pointer (some ⟨V, 0, none⟩), .string (bt t)] w (SideO (fun w' U' => PV H S T w' U' V (mkdV s t).2) U w (.int .i64 ((mkdV s t).1 : Nat)))
  st : ∀ {w : World} {H S T V : Nat} {U : Nat → Prop} {s : In} {B : Int}, PV H S T w U V s → GoodP s [] B → B ≤ 999999 → NoOrph s 0 → ∀ t : Txt, t.length ≤ 1000 → Calls Tryz.prog 28 #[.pointer (some ⟨V, 0, none⟩), .string (bt t)] w fun e w' => e = .returned (.tuple #[statA s t, .int .i64 ((walkI s t).2 : Nat)]) ∧ Below w.heap.size w w'
  ls : ∀ {w : World} {H S T V : Nat} {U : Nat → Prop} {s : In} {B : Int}, PV H S T w U V s → GoodP s [] B → B ≤ 999999 → NoOrph s 0 → ∀ t : Txt, t.length ≤ 1000 → Calls Tryz.prog 16 #[.pointer (some ⟨V, 0, none⟩), .string (bt t)] w fun e w' => ∃ v, e = .returned (.tuple #[v, .int .i64 (lstE s t : Nat)]) ∧ w'.ownsRow w.heap.size 105 2 v (lstV s t).length ((lstV s t).flatMap enV) ∧ Below w.heap.size w w'
  nodes : ∀ {w : World} {H S T V : Nat} {U : Nat → Prop} {s : In} {B : Int}, PV H S T w U V s → GoodP s [] B → B ≤ 999999 → NoOrph s 0 → Calls Tryz.prog 17 #[.pointer (some ⟨V, 0, none⟩)] w fun e w' => e = .returned (.pointer (some ⟨T, 0, none⟩)) ∧ Below w.heap.size w w'
  store : ∀ {w : World} {H S T V : Nat} {U : Nat → Prop} {s : In} {B : Int}, PV H S T w U V s → GoodP s [] B → B ≤ 999999 → NoOrph s 0 → Calls Tryz.prog 26 #[.pointer (some ⟨V, 0, none⟩)] w fun e w' => e = .returned (.pointer (some ⟨S, 0, none⟩)) ∧ Below w.heap.size w w'
  cl : ∀ {w : World} {H S T V : Nat} {U : Nat → Prop} {s : In} {B : Int}, PV H S T w U V s → GoodP s [] B → B ≤ 999999 → NoOrph s 0 → ∀ id : Int, (Lit.int .i64 id).wf = true → Calls Tryz.prog 34 #[.pointer (some ⟨T, 0, none⟩), .int .i64 id] w (SideO (fun w' U' => PV H S T w' U' V (clI s id)) U w (.int .i64 (clIE s id : Nat)))
  ln : ∀ {w : World} {H S T V : Nat} {U : Nat → Prop} {s : In} {B : Int}, PV H S T w U V s → GoodP s [] B → B ≤ 999999 → NoOrph s 0 → Calls Tryz.prog 18 #[.pointer (some ⟨T, 0, none⟩)] w fun e w' => e = .returned (.int .i64 (cntI s : Nat)) ∧ Below w.heap.size w w'
  wr : ∀ {w : World} {H S T V : Nat} {U : Nat → Prop} {s : In} {B : Int}, PV H S T w U V s → GoodP s [] B → B ≤ 999999 → NoOrph s 0 → ∀ {id off : Int}, (Lit.int .i64 id).wf = true → (Lit.int .i64 off).wf = true → ∀ {a : Option Addr} {m c : Nat} {ys : List Int}, Ints .u8 w a m ys → (a = none → c = 0) → Bytes ys → m ≤ 1000000 → (0 < m → ∀ b o, a = some ⟨b, o, none⟩ → ¬ U b) → Calls Tryz.prog 27 #[.pointer (some ⟨S, 0, none⟩), .int .i64 id, .int .i64 off, .slice a m c] w (SideO (fun w' U' => PV H S T w' U' V (wrtI s id off ys)) U w (.int .i64 (wrE s.so id off m : Nat)))
  rd : ∀ {w : World} {H S T V : Nat} {U : Nat → Prop} {s : In} {B : Int}, PV H S T w U V s → GoodP s [] B → B ≤ 999999 → NoOrph s 0 → ∀ {id off n : Int}, (Lit.int .i64 id).wf = true → (Lit.int .i64 off).wf = true → (Lit.int .i64 n).wf = true → Calls Tryz.prog 33 #[.pointer (some ⟨S, 0, none⟩), .int .i64 id, .int .i64 off, .int .i64 n] w (ReadIs s.so id off n w)
  sz : ∀ {w : World} {H S T V : Nat} {U : Nat → Prop} {s : In} {B : Int}, PV H S T w U V s → GoodP s [] B → B ≤ 999999 → NoOrph s 0 → ∀ {id : Int}, (Lit.int .i64 id).wf = true → Calls Tryz.prog 35 #[.pointer (some ⟨S, 0, none⟩), .int .i64 id] w fun e w' => e = .returned (.tuple #[.int .i64 (lenO (getFi s.so.l id) : Nat), .int .i64 (thE s.so id : Nat)]) ∧ Below w.heap.size w w'
  free : ∀ {w : World} {H S T V : Nat} {U : Nat → Prop} {s : In} {B : Int}, PV H S T w U V s → GoodP s [] B → B ≤ 999999 → NoOrph s 0 → Calls Tryz.prog 32 #[.pointer (some ⟨H, 0, none⟩)] w fun e w' => e = .returned (.int .i64 (s.so.fr : Nat)) ∧ w = w'
/-- No paths. -/
structure NilVfs : Prop where
  wk : ∀ (w : World) (t : Txt), t.length ≤ 1000 → Calls Tryz.prog 25 #[.pointer none, .string (bt t)] w fun e w' => e = .returned (.tuple #[.int .i64 0, .int .i64 1]) ∧ Below w.heap.size w w'
  op : ∀ (w : World) (t : Txt) (fl : Int), t.length ≤ 1000 → Calls Tryz.prog 19 #[.pointer none, .string (bt t), .int .i64 fl] w fun e w' => e = .returned (.tuple #[.int .i64 0, .int .i64 1]) ∧ Below w.heap.size w w'
  lk : ∀ (w : World) (a t : Txt), a.length ≤ 1000 → t.length ≤ 1000 → Calls Tryz.prog 20 #[.pointer none, .string (bt a), .string (bt t)] w fun e w' => e = .returned (.int .i64 1) ∧ Below w.heap.size w w'
  ul : ∀ (w : World) (t : Txt), t.length ≤ 1000 → Calls Tryz.prog 21 #[.pointer none, .string (bt t)] w fun e w' => e = .returned (.int .i64 1) ∧ Below w.heap.size w w'
  rm : ∀ (w : World) (t : Txt), t.length ≤ 1000 → Calls Tryz.prog 23 #[.pointer none, .string (bt t)] w fun e w' => e = .returned (.int .i64 1) ∧ Below w.heap.size w w'
  md : ∀ (w : World) (t : Txt), t.length ≤ 1000 → Calls Tryz.prog 22 #[.pointer none, .string (bt t)] w fun e w' => e = .returned (.int .i64 1) ∧ Below w.heap.size w w'
  st : ∀ (w : World) (t : Txt), t.length ≤ 1000 → Calls Tryz.prog 28 #[.pointer none, .string (bt t)] w fun e w' => e = .returned (.tuple #[.agg #[.int .i64 0, .int .i64 0, .bool false, .int .i64 0], .int .i64 1]) ∧ Below w.heap.size w w'
  ls : ∀ (w : World) (t : Txt), t.length ≤ 1000 → Calls Tryz.prog 16 #[.pointer none, .string (bt t)] w fun e w' => ∃ c : Nat, ∃ a : Option Addr, e = .returned (.tuple #[.slice a 0 c, .int .i64 1]) ∧ Below w.heap.size w w'
  nodes : ∀ (w : World), Calls Tryz.prog 17 #[.pointer none] w fun e w' => e = .returned (.pointer none) ∧ Below w.heap.size w w'
  store : ∀ (w : World), Calls Tryz.prog 26 #[.pointer none] w fun e w' => e = .returned (.pointer none) ∧ Below w.heap.size w w'
/-- Two beside one another: the program's paths and the document's. -/
def TwinV (PV : Nat → Nat → Nat → Rel In) (w wr : World) (U D : Nat → Prop) (X : List Nat) (H S T R T2 G V V2 : Nat) (s : In) : Prop := TwoO (PV H S T) (Rv R T2 G) w wr U D X V V2 s s
section
variable {PV : Nat → Nat → Nat → Rel In}
set_option maxHeartbeats 4000000 in
theorem both22_any (I : PVfs PV) (w : World) : Calls Tryz.prog 12 #[] w fun e w' => ∃ V V2 H S T R T2 G U D, e = .returned (.tuple #[.pointer (some ⟨V, 0, none⟩), .pointer (some ⟨V2, 0, none⟩)]) ∧ TwinV PV w w' U D [] H S T R T2 G V V2 (newI 8) := by
  go_enter Tryz.func12, Tryz.ntmps12
  go_wp2_with fail
  go_at_call 29
  refine (new_ok _ 8 (by omega) (by omega)).mono ?_
  rintro e w1 ⟨H, A, Q, rfl, f1, b1, hb1⟩
  have F1 := hide f1
  have B1 := hide b1
  have HB1 := hide hb1
  clear f1 b1 hb1
  go_wp2_with fail
  go_at_call 38
  refine (rnew_ok _ 8 (by omega) (by omega) (fun i => i < w1.heap.size) (fun _ h => h)).mono ?_
  rintro e w2 ⟨R, rfl, t, b, r2, b2, hb2⟩
  have R2 := hide r2
  have B2 := hide b2
  clear r2 b2 hb2
  go_wp2_with fail
  go_at_call 31
  refine (I.new (F1.out.below B2.out)).mono ?_
  rintro e w3 ⟨V, S, T, U, rfl, p3, b3, hU3⟩
  have P3 := hide p3
  have B3 := hide b3
  have HU3 := hide hU3
  clear p3 b3 hU3
  go_wp2_with fail
  go_at_call 39
  refine (vrnew_any R2.out B3.out).mono ?_
  rintro e w6 ⟨V2, T2, G, D, rfl, p6, b6, hD⟩
  have P6 := hide p6
  have B6 := hide b6
  have HD := hide hD
  clear p6 b6 hD
  go_wp2_with fail
  go_ret2
  have s1 := B1.out.size
  have s2 := B2.out.size
  have s3 := B3.out.size
  have fl : ∀ i, Blk H A Q i → i < w1.heap.size := by
    rintro i (rfl | rfl | rfl)
    · exact F1.out.ltH
    · exact F1.out.ltA
    · exact F1.out.ltQ
  refine ⟨V, V2, H, S, T, R, T2, G, U, D, rfl, (I.keeps H S T).below P3.out B6.out, P6.out, ?_, fun i hi hd => ?_, fun i hi => ?_, fun i hi => ?_, fun g hg => absurd hg List.not_mem_nil⟩
  · exact (B1.out.trans (B2.out.mono s1)).trans ((B3.out.mono (Nat.le_trans s1 s2)).trans (B6.out.mono (by omega)))
  · have l3 := (I.keeps H S T).lt P3.out i hi
    have h6 := HD.out i hd
    rcases HU3.out i hi with h | h
    · have := fl i h; omega
    · omega
  · rcases HU3.out i hi with h | h
    · exact HB1.out i h
    · omega
  · have := HD.out i hi; omega
end
end Go.Proofs.YtndfnglcichngaaGreatDoor
namespace Go.Proofs.YtndfnglcichngaaGreatDoor
open Go.ChangeShapes Go.WideShapes Go.ChangeAt Go.RowKit
set_option linter.unusedVariables false
set_option linter.unusedSimpArgs false
section
variable {w : World} {U : Nat → Prop} {H T S : Nat} {s : In} {E : Nat → Prop} {N : Nat → Option Nat} {V : Nat → Value} {tag : Nat → Int}
theorem find21_yes (h : IpM w U H T S s E N V tag) {i b : Nat} (hi : i < 16) (e : N i = some b) : Calls Tryz.prog 74 #[.pointer (some ⟨T, 0, none⟩), .int .i64 (i : Int)] w fun e w' => e = .returned (.tuple #[.pointer (some ⟨b, 0, none⟩), .int .i64 0]) ∧ w = w' := by
  have c := h.cS hi e
  have i0 : ¬ (i : Int) < 0 := by omega
  have i1 : (i : Int) < 16 := by omega
  clear h e hi
  go_enter Tryz.func74, Tryz.ntmps74
  go_wp2_with fail
  go_ret2
  exact ⟨rfl, rfl⟩
theorem find21_no (h : IpM w U H T S s E N V tag) {id : Int} (e : isI s id = false) : Calls Tryz.prog 74 #[.pointer (some ⟨T, 0, none⟩), .int .i64 id] w fun e w' => e = .returned (.tuple #[.pointer none, .int .i64 4]) ∧ w = w' := by
  by_cases h0 : id < 0
  · clear h e
    go_enter Tryz.func74, Tryz.ntmps74
    go_wp2_with fail
    go_ret2
    exact ⟨rfl, rfl⟩
  · by_cases h1 : id < 16
    · obtain ⟨i, rfl⟩ := Int.eq_ofNat_of_zero_le (show 0 ≤ id by omega)
      have hi : i < 16 := by omega
      have hz : N i = none := by
        rw [isI_nat, show decide (i < 16) = true from decide_eq_true hi, Bool.true_and] at e
        exact h.gone e
      have c := h.cZ hi hz
      clear h e hz hi
      go_enter Tryz.func74, Tryz.ntmps74
      go_wp2_with fail
      go_ret2
      exact ⟨rfl, rfl⟩
    · clear h e
      go_enter Tryz.func74, Tryz.ntmps74
      go_wp2_with fail
      go_ret2
      exact ⟨rfl, rfl⟩
theorem find21_nil (w : World) (id : Int) : Calls Tryz.prog 74 #[.pointer none, .int .i64 id] w fun e w' => e = .returned (.tuple #[.pointer none, .int .i64 1]) ∧ w = w' := by
  go_enter Tryz.func74, Tryz.ntmps74
  go_wp2_with fail
  go_ret2
  exact ⟨rfl, rfl⟩
theorem folder21_yes (h : IpM w U H T S s E N V tag) {i b : Nat} (hi : i < 16) (e : N i = some b) (hd : (s.n i).dir = true) : Calls Tryz.prog 93 #[.pointer (some ⟨T, 0, none⟩), .int .i64 (i : Int)] w fun e w' => e = .returned (.tuple #[.pointer (some ⟨b, 0, none⟩), .int .i64 0]) ∧ w = w' := by
  have F := hide (find21_yes h hi e)
  have c := h.cDir e
  rw [hd] at c
  clear h e hi hd
  go_enter Tryz.func93, Tryz.ntmps93
  go_wp2_with (go_at_call 74; refine F.out.mono ?_; rintro e w' ⟨rfl, rfl⟩)
  go_ret2
  exact ⟨rfl, rfl⟩
theorem folder21_no (h : IpM w U H T S s E N V tag) {id : Int} (e : dirI s id = false) : Calls Tryz.prog 93 #[.pointer (some ⟨T, 0, none⟩), .int .i64 id] w fun e w' => e = .returned (.tuple #[.pointer none, .int .i64 11]) ∧ w = w' := by
  cases hI : isI s id with
  | false =>
    have F := hide (find21_no h hI)
    clear h e
    go_enter Tryz.func93, Tryz.ntmps93
    go_wp2_with (go_at_call 74; refine F.out.mono ?_; rintro e w' ⟨rfl, rfl⟩)
    go_ret2
    exact ⟨rfl, rfl⟩
  | true =>
    obtain ⟨i, rfl, hi, his⟩ := isI_yes hI
    obtain ⟨b, hb⟩ := h.there his
    have F := hide (find21_yes h hi hb)
    have c := h.cDir hb
    have hd : (s.n i).dir = false := by unfold dirI at e; rw [hI, Int.toNat_natCast] at e; simpa using e
    rw [hd] at c
    clear h e hI hd his hb
    go_enter Tryz.func93, Tryz.ntmps93
    go_wp2_with (go_at_call 74; refine F.out.mono ?_; rintro e w' ⟨rfl, rfl⟩)
    go_ret2
    exact ⟨rfl, rfl⟩
theorem folder21_nil (w : World) (id : Int) : Calls Tryz.prog 93 #[.pointer none, .int .i64 id] w fun e w' => e = .returned (.tuple #[.pointer none, .int .i64 1]) ∧ w = w' := by
  have F := hide (find21_nil w id)
  go_enter Tryz.func93, Tryz.ntmps93
  go_wp2_with (go_at_call 74; refine F.out.mono ?_; rintro e w' ⟨rfl, rfl⟩)
  go_ret2
  exact ⟨rfl, rfl⟩
theorem popen_any (h : IpM w U H T S s E N V tag) (id : Int) (ho : ∀ i, 0 ≤ (s.n i).opens ∧ (s.n i).opens ≤ 1000000) : Calls Tryz.prog 57 #[.pointer (some ⟨T, 0, none⟩), .int .i64 id] w (SideO (fun w' U' => PIn H S w' U' T (opI s id)) U w (.int .i64 (opIE s id : Nat))) := by
  cases hI : isI s id with
  | false =>
    have F := hide (find21_no h hI)
    have FIN := hide (SideO.of_below (v := .int .i64 4) (P := fun w' U' => PIn H S w' U' T s) (show PIn H S w U T s from ⟨_, _, _, _, h⟩) (Below.refl _ _))
    rw [show opI s id = s from by unfold opI; rw [if_neg (by rw [hI]; decide)], show opIE s id = 4 from by unfold opIE; rw [if_neg (by rw [hI]; decide)]]
    clear h hI
    go_enter Tryz.func57, Tryz.ntmps57
    go_wp2_with (go_at_call 74; refine F.out.mono ?_; rintro e w' ⟨rfl, rfl⟩)
    go_ret
    exact FIN.out
  | true =>
    obtain ⟨i, rfl, hi, his⟩ := isI_yes hI
    obtain ⟨b, hb⟩ := h.there his
    have F := hide (find21_yes h hi hb)
    have c := h.cOpens hb
    have fz := (h.nd i b hb).frz 2
    rw [show opI s (i : Int) = s.put i { s.n i with opens := (s.n i).opens + 1 } from by unfold opI; rw [if_pos hI, Int.toNat_natCast], show opIE s (i : Int) = 0 from by unfold opIE; rw [if_pos hI]]
    have o1 := (ho i).1
    have o2 := (ho i).2
    have FIN := hide (fun q => show SideO (fun w' U' => PIn H S w' U' T (s.put i { s.n i with opens := (s.n i).opens + 1 })) U w (.int .i64 0) (.returned (.int .i64 0)) ((w.setCell ⟨b, 2, none⟩ (.int .i64 ((s.n i).opens + 1))).drewN q) from ⟨rfl, U, ⟨_, _, _, _, (h.opened hb _ q).1⟩, (h.opened hb _ q).2.mono (fun k e => e ▸ h.un i b hb), fun k e => .inl e⟩)
    generalize (s.n i).opens = z at *
    clear h hI his hb ho
    go_enter Tryz.func57, Tryz.ntmps57
    go_wp2_with (go_at_call 74; refine F.out.mono ?_; rintro e w' ⟨rfl, rfl⟩)
    go_ret
    exact FIN.out 0
end
end Go.Proofs.YtndfnglcichngaaGreatDoor
namespace Go.Proofs.YtndfnglcichngaaGreatDoor
open Go.ChangeShapes Go.WideShapes Go.ChangeAt Go.RowKit
set_option linter.unusedVariables false
set_option linter.unusedSimpArgs false
theorem isNaNS_any (x : Txt) (w : World) : Calls Tryz.prog 160 #[.string (bt x)] w fun e w' => e = .returned (.bool false) ∧ w = w' := by
  have h : ((bt x).toList == (bt x).toList) = true := by simp
  have h2 : ((bt x).toList != (bt x).toList) = false := by simp
  go_enter Tryz.func160, Tryz.ntmps160
  go_wp2_with fail
  go_ret
  exact ⟨rfl, rfl⟩
def sgnT (a b : Txt) : Int := if ltT a b = true then -1 else if ltT b a = true then 1 else 0
theorem sgnT_neg (a b : Txt) : (sgnT a b < 0) ↔ ltT a b = true := by
  unfold sgnT; split
  · simp [*]
  · split <;> simp [*]
theorem sgnT_zero (a b : Txt) : (sgnT a b = 0) ↔ a = b := by
  unfold sgnT
  rcases ltT_tri a b with h | h | h
  · rw [if_pos h]; have := ltT_ne h; simp [this]
  · subst h; rw [ltT_irr]; simp
  · rw [if_neg (by rw [ltT_asym h]; decide), if_pos h]; have := ltT_ne h; simp; exact fun e => this e.symm
theorem sgnT_any (x y : Txt) (w : World) : Calls Tryz.prog 140 #[.string (bt x), .string (bt y)] w fun e w' => e = .returned (.int .i64 (sgnT x y)) ∧ w = w' := by
  have hx : Op.bytesLess (bt x).toList (bt y).toList = ltT x y := by rw [bt_list, bt_list]; rfl
  have hy : Op.bytesLess (bt y).toList (bt x).toList = ltT y x := by rw [bt_list, bt_list]; rfl
  have he : ((bt x).toList == (bt y).toList) = decide (x = y) := bt_eq x y
  by_cases h1 : ltT x y = true
  · have hr : sgnT x y = -1 := if_pos h1
    rw [hr]
    rw [h1] at hx
    clear hr hy he
    go_enter Tryz.func140, Tryz.ntmps140
    go_wp2_with (go_at_call 160; refine (isNaNS_any _ _).mono ?_; rintro e w' ⟨rfl, rfl⟩)
    go_ret
    exact ⟨rfl, rfl⟩
  · rw [show ltT x y = false from by simpa using h1] at hx
    by_cases h2 : ltT y x = true
    · have hr : sgnT x y = 1 := by unfold sgnT; rw [if_neg h1, if_pos h2]
      rw [hr]
      rw [h2] at hy
      rw [decide_eq_false (fun e => ltT_ne h2 e.symm)] at he
      clear hr
      go_enter Tryz.func140, Tryz.ntmps140
      go_wp2_with (go_at_call 160; refine (isNaNS_any _ _).mono ?_; rintro e w' ⟨rfl, rfl⟩)
      go_ret
      exact ⟨rfl, rfl⟩
    · have hr : sgnT x y = 0 := by unfold sgnT; rw [if_neg h1, if_neg h2]
      rw [hr]
      rw [show ltT y x = false from by simpa using h2] at hy
      rw [decide_eq_true ((ltT_tri x y).resolve_left h1 |>.resolve_right h2)] at he
      clear hr
      go_enter Tryz.func140, Tryz.ntmps140
      go_wp2_with (go_at_call 160; refine (isNaNS_any _ _).mono ?_; rintro e w' ⟨rfl, rfl⟩)
      go_ret
      exact ⟨rfl, rfl⟩
/-- An entry as a value. -/
def entV (t : Txt) (z : Int) : Value := .agg #[.string (bt t), .int .i64 z]
theorem byname_any (a b : Txt) (p q : Int) (w : World) : Calls Tryz.prog 125 #[.agg #[.string (bt a), .int .i64 p], .agg #[.string (bt b), .int .i64 q]] w fun e w' => e = .returned (.int .i64 (sgnT a b)) ∧ Below w.heap.size w w' := by
  go_enter Tryz.func125, Tryz.ntmps125
  go_wp2_with (go_at_call 140; refine (sgnT_any a b _).mono ?_; rintro e w' ⟨rfl, rfl⟩)
  go_ret
  exact ⟨rfl, ((Below.refl _ _).alloc (Nat.le_refl _) _).alloc (by simp) _⟩
/-- How many entries come ahead of a name. -/
def cntT (l : List Ent) (t : Txt) : Nat := l.countP fun x => ltT x.nm t
/-- Where a name stands. -/
def hitT (l : List Ent) (t : Txt) : Bool := match l[cntT l t]? with
  | some x => decide (x.nm = t)
  | none => false
theorem countP_here {α : Type} (p : α → Bool) : ∀ (l : List α) (i : Nat), i ≤ l.length → (∀ k x, k < i → l[k]? = some x → p x = true) → (∀ k x, i ≤ k → l[k]? = some x → p x = false) → l.countP p = i
  | [], i, hi, _, _ => by simp at hi; simp [hi]
  | a :: r, 0, _, _, h2 => by
    rw [List.countP_eq_zero]
    intro x hx
    obtain ⟨k, hk, rfl⟩ := List.getElem_of_mem hx
    rw [h2 k _ (Nat.zero_le _) (List.getElem?_eq_getElem hk)]; decide
  | a :: r, i + 1, hi, h1, h2 => by
    have ha : p a = true := h1 0 a (Nat.succ_pos _) rfl
    rw [List.countP_cons_of_pos ha, countP_here p r i (by simpa using hi) (fun k x h3 h4 => h1 (k + 1) x (by omega) (by simpa using h4)) (fun k x h3 h4 => h2 (k + 1) x (by omega) (by simpa using h4))]
theorem srt_at {l : List Ent} (hs : l.Pairwise fun a b => ltT a.nm b.nm = true) {i j : Nat} {x y : Ent} (hx : l[i]? = some x) (hy : l[j]? = some y) (h : i < j) : ltT x.nm y.nm = true := by
  obtain ⟨h1, e1⟩ := List.getElem?_eq_some_iff.1 hx
  obtain ⟨h2, e2⟩ := List.getElem?_eq_some_iff.1 hy
  have := List.pairwise_iff_getElem.1 hs i j h1 h2 h
  rwa [e1, e2] at this
theorem hitT_some {l : List Ent} {t : Txt} (h : hitT l t = true) : ∃ x, l[cntT l t]? = some x ∧ x.nm = t := by
  unfold hitT at h
  cases e : l[cntT l t]? with
  | none => rw [e] at h; cases h
  | some x => rw [e] at h; exact ⟨x, rfl, by simpa using h⟩
theorem hitT_of {l : List Ent} {t : Txt} {x : Ent} {i : Nat} (hs : l.Pairwise fun a b => ltT a.nm b.nm = true) (hx : l[i]? = some x) (hn : x.nm = t) : cntT l t = i ∧ hitT l t = true := by
  have e : cntT l t = i := countP_here _ l i (Nat.le_of_lt (List.getElem?_eq_some_iff.1 hx).1) (fun k y h1 h2 => by rw [← hn]; exact srt_at hs h2 hx h1) (fun k y h1 h2 => by
    rw [← hn]
    rcases Nat.lt_or_ge i k with h3 | h3
    · exact ltT_asym (srt_at hs hx h2 h3)
    · obtain rfl : k = i := by omega
      rw [hx] at h2; injection h2 with h2; subst h2; exact ltT_irr _)
  refine ⟨e, ?_⟩
  unfold hitT; rw [e, hx]; simpa using hn
theorem findL_hitT {l : List Ent} {t : Txt} (hs : l.Pairwise fun a b => ltT a.nm b.nm = true) : (findL l t).isSome = hitT l t := by
  cases e : findL l t with
  | none =>
    cases h : hitT l t with
    | false => rfl
    | true =>
      obtain ⟨x, hx, hn⟩ := hitT_some h
      exact absurd hn (findL_none.1 e x (List.mem_of_getElem? hx))
  | some i =>
    obtain ⟨p, x, q, hl, hn, _, _⟩ := findL_some e
    have hx : l[p.length]? = some x := by rw [hl]; simp
    rw [(hitT_of hs hx hn).2]; rfl
theorem findL_at {l : List Ent} {t : Txt} (hs : l.Pairwise fun a b => ltT a.nm b.nm = true) (h : hitT l t = true) : ∃ x, l[cntT l t]? = some x ∧ x.nm = t ∧ findL l t = some x.id := by
  obtain ⟨x, hx, hn⟩ := hitT_some h
  refine ⟨x, hx, hn, ?_⟩
  have h2 := findL_hitT (t := t) hs
  rw [h] at h2
  obtain ⟨i, hi⟩ := Option.isSome_iff_exists.1 h2
  obtain ⟨p, y, q, hl, hny, hyi, _⟩ := findL_some hi
  have hy : l[p.length]? = some y := by rw [hl]; simp
  rw [(hitT_of hs hy hny).1] at hx
  rw [hx] at hy; injection hy with hy
  rw [hi, hy, hyi]
end Go.Proofs.YtndfnglcichngaaGreatDoor
