/-
  The walk of VfsErrors over the contracts of the program's paths (written by tools/gen/vferr.py).
-/
import Derived.Test.YtndfnglcichngaaGreatDoorPa33
import Derived.Test.YtndfnglcichngaaGreatDoorPa14
import Derived.Test.YtndfnglcichngaaGreatDoorPa15
import Derived.Test.YtndfnglcichngaaGreatDoorVfSamePb
namespace Go.Proofs.YtndfnglcichngaaGreatDoor
open Go.ChangeShapes Go.WideShapes Go.ChangeAt Go.RowKit
set_option linter.unusedVariables false
set_option linter.unusedSimpArgs false
theorem own_stay {w w' : World} {B n z : Nat} {e : TypeId} {v : Value} {xs : List Value} (h : w.ownsRow B e z v n xs) (st : ∀ g, v.ownBlock = some g → w'.heap[g]? = w.heap[g]?) : w'.ownsRow B e z v n xs :=
  ⟨h.1, h.2.imp id (fun ⟨g, cap, cur, e1, e2, e3, r⟩ => ⟨g, cap, cur, e1, e2, (st g (by rw [e1]; rfl)).trans e3, r⟩)⟩
theorem walk_root (s : In) : walkI s [47] = (0, 0) := rfl
theorem root_list {s : In} {B : Int} (g : GoodP s [] B) : lstE s [47] = 0 := by
  have hd : dirI s 0 = true := dirI_of (i := 0) (by omega) g.root.1 g.root.2
  unfold lstE
  rw [walk_root, if_pos rfl]
  show lsIE s 0 = 0
  unfold lsIE; rw [hd]; rfl
theorem root_same {s s' : In} (h : s'.n = s.n) : lstV s' [47] = lstV s [47] := by
  unfold lstV
  rw [walk_root, walk_root, if_pos rfl, if_pos rfl]
  show lsI s' 0 = lsI s 0
  unfold lsI
  rw [(same_n h).2.1 0, h]
section
variable {PV : Nat → Nat → Nat → Rel In}
set_option maxRecDepth 100000 in
set_option maxHeartbeats 16000000 in
theorem walk_vfsErrorsC (I : PVfs PV) (w : World) (a : Option Addr) (n c : Nat) (zs : List Va) (hin : Came 5 vaV VaWf w a n c zs) (x : Va) (hx : VaWf w x) : Calls Tryz.prog 4 #[.slice a n c, .agg (vaV x).toArray] w fun e w' => e = .returned (.bool true) ∧ Below w.heap.size w w' := by
  obtain ⟨d, i, nm, nt, xa, xl, xc, ys⟩ := x
  have hn : n ≤ maxLen := Nat.le_trans hin.2.1 hin.2.2.1
  have bA := hide ((Below.refl w.heap.size w).alloc (Nat.le_refl _) (.cells #[.int .i64 d, .int .i64 i, .string (bt nm), .string (bt nt), .slice xa xl xc] 32))
  have C1 : Hid (CopV (w.alloc (.cells #[.int .i64 d, .int .i64 i, .string (bt nm), .string (bt nt), .slice xa xl xc] 32)) w.heap.size ⟨d, i, nm, nt, xa, xl, xc, ys⟩) := hide (show CopV _ _ _ from heap_alloc_new _ _)
  have HR := hide (hin.reads.below bA.out)
  have WF0 := hide hin.2.2.2.2.1
  have WN := hide (show (Lit.int .i64 i).wf = true from hx.2.1)
  have L1 := hide (show nm.length ≤ maxLen from hx.2.2.1)
  have L2 := hide (show nt.length ≤ maxLen from hx.2.2.2.1)
  have WF := hide (show ∀ y ∈ zs, VaWf (w.alloc (.cells #[.int .i64 d, .int .i64 i, .string (bt nm), .string (bt nt), .slice xa xl xc] 32)) y from fun y hy => by
    have h := WF0.out y hy
    exact ⟨h.1, h.2.1, h.2.2.1, h.2.2.2.1, ⟨h.2.2.2.2.1.below bA.out, h.2.2.2.2.2⟩⟩)
  have bs := bt_size nm
  have bt2 := bt_size nt
  clear hin hx WF0
  show Calls Tryz.prog 4 #[.slice a n c, .agg #[.int .i64 d, .int .i64 i, .string (bt nm), .string (bt nt), .slice xa xl xc]] w _
  go_enter Tryz.func4, Tryz.ntmps4
  go_upto_region 1 with fail
  generalize hW1 : w.alloc (.cells #[.int .i64 d, .int .i64 i, .string (bt nm), .string (bt nt), .slice xa xl xc] 32) = W1 at *
  clear hW1
  have GW := hide (bA.out.size)
  generalize hXb : w.heap.size = Xb at *
  have EQX := hide hXb
  clear hXb
  have x0 := C1.out.cells.1
  have x1 := C1.out.cells.2.1
  have x2 := C1.out.cells.2.2.1
  have x3 := C1.out.cells.2.2.2.1
  have GR := hide (great22_any (c := c) HR.out (fun y hy => ⟨(WF.out y hy).2.2.1, (WF.out y hy).2.2.2.1, Nat.le_trans (WF.out y hy).2.2.2.2.2.1 (WF.out y hy).2.2.2.2.2.2.1⟩) hn 40 (by omega))
  obtain ⟨z1, hz1⟩ : ∃ z, z = nm.length := ⟨_, rfl⟩
  obtain ⟨z2, hz2⟩ : ∃ z, z = nt.length := ⟨_, rfl⟩
  have HZ := hide (And.intro hz1 hz2)
  rw [← hz1] at bs L1
  rw [← hz2] at bt2 L2
  obtain ⟨y1, hy1⟩ : ∃ y, y = bt nm := ⟨_, rfl⟩
  obtain ⟨y2, hy2⟩ : ∃ y, y = bt nt := ⟨_, rfl⟩
  rw [← hy1] at x2 bs
  rw [← hy2] at x3 bt2
  have HY := hide (And.intro hy1 hy2)
  have l1 : (z1 : Int) ≤ 9223372036854775807 := by have := L1.out; unfold maxLen at this; omega
  have l2 : (z2 : Int) ≤ 9223372036854775807 := by have := L2.out; unfold maxLen at this; omega
  have AWK := hide (fun W => awake22_any I W)
  clear hy1 hy2 hz1 hz2 hn
  go_wp2_with fail
  go_at_call 10
  refine GR.out.mono ?_
  rintro e w' ⟨⟨r, rfl, hr⟩, rfl⟩
  cases r with
  | true =>
    clear hr
    go_wp2_with (go_at_call 11; refine (AWK.out _).mono ?_; rintro e w' ⟨rfl, hb⟩; have HB := hide hb; clear hb)
    go_ret
    exact ⟨rfl, by rw [EQX.out]; exact bA.out.trans (HB.out.mono GW.out)⟩
  | false =>
    have h40 := (hr rfl).1
    have FW := hide (hr rfl).2
    clear hr
    by_cases c1 : z1 ≤ 200
    · by_cases c2 : z2 ≤ 200
      · have d1 : ¬ (200 : Int) < (y1.size : Int) := by omega
        have d2 : ¬ (200 : Int) < (y2.size : Int) := by omega
        have S1 := hide (show nm.length ≤ 1000 from by have := HZ.out.1; omega)
        have S2 := hide (show nt.length ≤ 1000 from by have := HZ.out.2; omega)
        have PLY := hide (played22_any I W1 a n c zs HR.out WF.out FW.out (by omega))
        have XC := hide (fun (W : World) (b : Below W1.heap.size W1 W) => show W.cell? ⟨Xb, 0, none⟩ = some (.int .i64 d) ∧ W.cell? ⟨Xb, 1, none⟩ = some (.int .i64 i) ∧ W.cell? ⟨Xb, 2, none⟩ = some (.string y1) ∧ W.cell? ⟨Xb, 3, none⟩ = some (.string y2) from by
          have h : CopV W Xb ⟨d, i, nm, nt, xa, xl, xc, ys⟩ := (b.block Xb (lt_of_heap C1.out)).trans C1.out
          have q := h.cells
          rw [HY.out.1, HY.out.2]
          exact ⟨q.1, q.2.1, q.2.2.1, q.2.2.2.1⟩)
        clear c1 c2 h40 GR
        go_wp2_with fail
        go_at_call 15
        refine PLY.out.mono ?_
        rintro e w2 ⟨v, rfl, V, H, S, T, U, s, rfl, t1, g1, o1⟩
        have T1 := hide t1
        have G1 := hide g1
        have O1 := hide o1
        have K := I.keeps H S T
        have LS := hide (I.ls T1.out.ps G1.out (by omega) O1.out [47] (by decide))
        rw [root_list g1] at LS
        clear t1 g1 o1 PLY x0 x1 x2 x3
        obtain ⟨l, hl⟩ : ∃ z, z = lstV s [47] := ⟨_, rfl⟩
        have L8 := hide (show l.length ≤ 8 from by rw [hl]; exact lstV_few G1.out [47])
        rw [← hl] at LS
        have HL := hide hl
        obtain ⟨gn, hgn⟩ : ∃ z, z = cntI s := ⟨_, rfl⟩
        have HN := hide hgn
        clear hl hgn
        go_wp2_with fail
        go_at_call 16
        refine LS.out.mono ?_
        rintro e w3 ⟨v3, rfl, o3, b3⟩
        have T3 := hide (T1.out.below K b3).1
        obtain ⟨a3, c3, rfl, -, -, -, -⟩ := own_reads enV_len (by omega) o3
        have O3 := hide o3
        have LO := hide (show ∀ g, (Value.slice a3 l.length c3).ownBlock = some g → ¬ U g ∧ g < w3.heap.size from fun g hg => ⟨fun hu => by have h5 := (o3.lt g hg).1; have := K.lt T1.out.ps g hu; omega, (o3.lt g hg).2⟩)
        clear o3 b3 LS T1
        go_wp2_with fail
        go_at_call 17
        refine (I.nodes T3.out.ps G1.out (by omega) O1.out).mono ?_
        rintro e w4 ⟨rfl, b4⟩
        have T4 := hide (T3.out.below K b4).1
        have O4 := hide ((Touch.of_below (S := fun _ => False) b4).own O3.out (fun _ _ e => e))
        have LO4 := hide (show ∀ g, (Value.slice a3 l.length c3).ownBlock = some g → ¬ U g ∧ g < w4.heap.size from fun g hg => ⟨(LO.out g hg).1, by have := (LO.out g hg).2; have := b4.size; omega⟩)
        clear b4 T3 O3 LO
        have LN := hide (I.ln T4.out.ps G1.out (by omega) O1.out)
        rw [← HN.out] at LN
        go_wp2_with fail
        go_at_call 18
        refine LN.out.mono ?_
        rintro e w5 ⟨rfl, b5⟩
        have T5 := hide (T4.out.below K b5).1
        have O5 := hide ((Touch.of_below (S := fun _ => False) b5).own O4.out (fun _ _ e => e))
        have LO5 := hide (show ∀ g, (Value.slice a3 l.length c3).ownBlock = some g → ¬ U g from fun g hg => (LO4.out g hg).1)
        clear b5 T4 O4 LO4 LN
        obtain ⟨x0, x1, x2, x3⟩ := XC.out _ T5.out.bel
        by_cases d0_ : d = 0
        · subst d0_
          obtain ⟨ei, hei⟩ : ∃ z, z = (opnV s nm i).1 := ⟨_, rfl⟩
          obtain ⟨ev, hev⟩ : ∃ z, z = (opnV s nm i).2.1 := ⟨_, rfl⟩
          obtain ⟨s2, hs2⟩ : ∃ z, z = (opnV s nm i).2.2 := ⟨_, rfl⟩
          have OPC := hide (show Calls Tryz.prog 19 #[.pointer (some ⟨V, 0, none⟩), .string y1, .int .i64 i] w5 (SideO (fun w' U' => PV H S T w' U' V s2) U w5 (.tuple #[.int .i64 (ei : Int), .int .i64 (ev : Int)])) from by rw [hev, hs2, hei, HY.out.1]; exact I.op T5.out.ps G1.out (by omega) O1.out nm i S1.out WN.out)
          have G2 := hide (show GoodP s2 [] 1001 from by rw [hs2]; exact (opnV_good G1.out nm i).1)
          have N2 := hide (show NoOrph s2 0 from by rw [hs2]; exact (opnV_good G1.out nm i).2 O1.out)
          have NC := hide (show ev ≠ 0 → s2.n = s.n from by rw [hev, hs2]; exact fun h => opnV_no G1.out h)
          clear hev hs2 hei
          go_wp2_with fail
          go_at_call 19
          refine OPC.out.mono ?_
          rintro e w6 ⟨rfl, U6, p6, u6, hU6⟩
          have T6 := hide (T5.out.move p6 u6 hU6).1
          have O6 := hide (u6.own O5.out LO5.out)
          have BEL := hide T6.out.bel
          clear p6 u6 hU6 T5 O5 OPC x0 x1 x2 x3
          by_cases e0 : ev = 0
          · subst e0
            go_wp2_with (go_at_call 11; refine (AWK.out _).mono ?_; rintro e w' ⟨rfl, hb⟩; have HB := hide hb; clear hb)
            go_ret
            exact ⟨rfl, by rw [EQX.out]; exact bA.out.trans ((BEL.out.trans (HB.out.mono BEL.out.size)).mono GW.out)⟩
          · have e1 : ¬ (ev : Int) = 0 := by omega
            have LS := hide (I.ls T6.out.ps G2.out (by omega) N2.out [47] (by decide))
            rw [root_list G2.out, root_same (NC.out e0), ← HL.out] at LS
            go_wp2_with fail
            go_at_call 16
            refine LS.out.mono ?_
            rintro e w7 ⟨v7, rfl, o7, b7⟩
            have T7 := hide (T6.out.below K b7).1
            have O7 := hide ((Touch.of_below (S := fun _ => False) b7).own O6.out (fun _ _ e => e))
            obtain ⟨a7, c7, rfl, r7, -, -, -⟩ := own_reads enV_len (by omega) o7
            have R7 := hide (fun (W : World) (b : Below w7.heap.size w7 W) => reads_to (r7.below b))
            have R3 := hide (fun (W : World) (b : Below w7.heap.size w7 W) => reads_to ((show Reads 2 enV w7 a3 l.length l from by
              obtain ⟨a', c', e', r, -⟩ := own_reads enV_len (by omega) O7.out
              injection e' with e1 e2 e3
              subst e1
              exact r).below b))
            clear o7 b7 r7 T6 O6 LS
            have AF := hide (fun (W : World) (b : Below w7.heap.size w7 W) => (T7.out.below K b).1)
            have PN := hide (fun (W : World) (b : Below w7.heap.size w7 W) => I.nodes (AF.out W b).ps G2.out (by omega) N2.out)
            have PC := hide (fun (W : World) (b : Below w7.heap.size w7 W) => I.ln (AF.out W b).ps G2.out (by omega) N2.out)
            rw [show cntI s2 = gn from ((same_n (NC.out e0)).2.2.1).trans HN.out.symm] at PC
            have g0 : ((gn : Int) == (gn : Int)) = true := by simp
            go_wp2_with (first
              | (go_at_call 24; refine (sameEntries_any _ _ _ _ _ _ _ (R3.out _ (Below.refl _ _)) (R7.out _ (Below.refl _ _)) (by have := L8.out; omega)).mono ?_; rintro e w8 ⟨rfl, b8⟩; have B8 := hide b8; clear b8)
              | (go_at_call 17; refine (PN.out _ B8.out).mono ?_; rintro e w9 ⟨rfl, b9⟩; have B9 := hide (B8.out.trans (b9.mono B8.out.size)); clear b9)
              | (go_at_call 18; refine (PC.out _ B9.out).mono ?_; rintro e w10 ⟨rfl, b10⟩; have BX := hide (AF.out _ (B9.out.trans (b10.mono B9.out.size))).bel; clear b10)
              | (go_at_call 11; refine (AWK.out _).mono ?_; rintro e w' ⟨rfl, hb⟩; have HB := hide hb; clear hb))
            go_ret
            exact ⟨rfl, by rw [EQX.out]; exact bA.out.trans ((BX.out.trans (HB.out.mono BX.out.size)).mono GW.out)⟩
        by_cases d1_ : d = 1
        · subst d1_
          obtain ⟨ev, hev⟩ : ∃ z, z = (lnkV s nm nt).1 := ⟨_, rfl⟩
          obtain ⟨s2, hs2⟩ : ∃ z, z = (lnkV s nm nt).2 := ⟨_, rfl⟩
          have OPC := hide (show Calls Tryz.prog 20 #[.pointer (some ⟨V, 0, none⟩), .string y1, .string y2] w5 (SideO (fun w' U' => PV H S T w' U' V s2) U w5 (.int .i64 (ev : Int))) from by rw [hev, hs2, HY.out.1, HY.out.2]; exact I.lk T5.out.ps G1.out (by omega) O1.out nm nt S1.out S2.out)
          have G2 := hide (show GoodP s2 [] 1001 from by rw [hs2]; exact (lnkV_good G1.out nm nt).1.more (by omega))
          have N2 := hide (show NoOrph s2 0 from by rw [hs2]; exact (lnkV_good G1.out nm nt).2 O1.out)
          have NC := hide (show ev ≠ 0 → s2.n = s.n from by rw [hev, hs2]; exact fun h => by rw [lnkV_no h])
          clear hev hs2
          go_wp2_with fail
          go_at_call 20
          refine OPC.out.mono ?_
          rintro e w6 ⟨rfl, U6, p6, u6, hU6⟩
          have T6 := hide (T5.out.move p6 u6 hU6).1
          have O6 := hide (u6.own O5.out LO5.out)
          have BEL := hide T6.out.bel
          clear p6 u6 hU6 T5 O5 OPC x0 x1 x2 x3
          by_cases e0 : ev = 0
          · subst e0
            go_wp2_with (go_at_call 11; refine (AWK.out _).mono ?_; rintro e w' ⟨rfl, hb⟩; have HB := hide hb; clear hb)
            go_ret
            exact ⟨rfl, by rw [EQX.out]; exact bA.out.trans ((BEL.out.trans (HB.out.mono BEL.out.size)).mono GW.out)⟩
          · have e1 : ¬ (ev : Int) = 0 := by omega
            have LS := hide (I.ls T6.out.ps G2.out (by omega) N2.out [47] (by decide))
            rw [root_list G2.out, root_same (NC.out e0), ← HL.out] at LS
            go_wp2_with fail
            go_at_call 16
            refine LS.out.mono ?_
            rintro e w7 ⟨v7, rfl, o7, b7⟩
            have T7 := hide (T6.out.below K b7).1
            have O7 := hide ((Touch.of_below (S := fun _ => False) b7).own O6.out (fun _ _ e => e))
            obtain ⟨a7, c7, rfl, r7, -, -, -⟩ := own_reads enV_len (by omega) o7
            have R7 := hide (fun (W : World) (b : Below w7.heap.size w7 W) => reads_to (r7.below b))
            have R3 := hide (fun (W : World) (b : Below w7.heap.size w7 W) => reads_to ((show Reads 2 enV w7 a3 l.length l from by
              obtain ⟨a', c', e', r, -⟩ := own_reads enV_len (by omega) O7.out
              injection e' with e1 e2 e3
              subst e1
              exact r).below b))
            clear o7 b7 r7 T6 O6 LS
            have AF := hide (fun (W : World) (b : Below w7.heap.size w7 W) => (T7.out.below K b).1)
            have PN := hide (fun (W : World) (b : Below w7.heap.size w7 W) => I.nodes (AF.out W b).ps G2.out (by omega) N2.out)
            have PC := hide (fun (W : World) (b : Below w7.heap.size w7 W) => I.ln (AF.out W b).ps G2.out (by omega) N2.out)
            rw [show cntI s2 = gn from ((same_n (NC.out e0)).2.2.1).trans HN.out.symm] at PC
            have g0 : ((gn : Int) == (gn : Int)) = true := by simp
            go_wp2_with (first
              | (go_at_call 24; refine (sameEntries_any _ _ _ _ _ _ _ (R3.out _ (Below.refl _ _)) (R7.out _ (Below.refl _ _)) (by have := L8.out; omega)).mono ?_; rintro e w8 ⟨rfl, b8⟩; have B8 := hide b8; clear b8)
              | (go_at_call 17; refine (PN.out _ B8.out).mono ?_; rintro e w9 ⟨rfl, b9⟩; have B9 := hide (B8.out.trans (b9.mono B8.out.size)); clear b9)
              | (go_at_call 18; refine (PC.out _ B9.out).mono ?_; rintro e w10 ⟨rfl, b10⟩; have BX := hide (AF.out _ (B9.out.trans (b10.mono B9.out.size))).bel; clear b10)
              | (go_at_call 11; refine (AWK.out _).mono ?_; rintro e w' ⟨rfl, hb⟩; have HB := hide hb; clear hb))
            go_ret
            exact ⟨rfl, by rw [EQX.out]; exact bA.out.trans ((BX.out.trans (HB.out.mono BX.out.size)).mono GW.out)⟩
        by_cases d2_ : d = 2
        · subst d2_
          obtain ⟨ev, hev⟩ : ∃ z, z = (remV s nm false).1 := ⟨_, rfl⟩
          obtain ⟨s2, hs2⟩ : ∃ z, z = (remV s nm false).2 := ⟨_, rfl⟩
          have OPC := hide (show Calls Tryz.prog 21 #[.pointer (some ⟨V, 0, none⟩), .string y1] w5 (SideO (fun w' U' => PV H S T w' U' V s2) U w5 (.int .i64 (ev : Int))) from by rw [hev, hs2, HY.out.1]; exact I.ul T5.out.ps G1.out (by omega) O1.out nm S1.out)
          have G2 := hide (show GoodP s2 [] 1001 from by rw [hs2]; exact (remV_good G1.out nm false).1.more (by omega))
          have N2 := hide (show NoOrph s2 0 from by rw [hs2]; exact (remV_good G1.out nm false).2 O1.out)
          have NC := hide (show ev ≠ 0 → s2.n = s.n from by rw [hev, hs2]; exact fun h => by rw [remV_no h])
          clear hev hs2
          go_wp2_with fail
          go_at_call 21
          refine OPC.out.mono ?_
          rintro e w6 ⟨rfl, U6, p6, u6, hU6⟩
          have T6 := hide (T5.out.move p6 u6 hU6).1
          have O6 := hide (u6.own O5.out LO5.out)
          have BEL := hide T6.out.bel
          clear p6 u6 hU6 T5 O5 OPC x0 x1 x2 x3
          by_cases e0 : ev = 0
          · subst e0
            go_wp2_with (go_at_call 11; refine (AWK.out _).mono ?_; rintro e w' ⟨rfl, hb⟩; have HB := hide hb; clear hb)
            go_ret
            exact ⟨rfl, by rw [EQX.out]; exact bA.out.trans ((BEL.out.trans (HB.out.mono BEL.out.size)).mono GW.out)⟩
          · have e1 : ¬ (ev : Int) = 0 := by omega
            have LS := hide (I.ls T6.out.ps G2.out (by omega) N2.out [47] (by decide))
            rw [root_list G2.out, root_same (NC.out e0), ← HL.out] at LS
            go_wp2_with fail
            go_at_call 16
            refine LS.out.mono ?_
            rintro e w7 ⟨v7, rfl, o7, b7⟩
            have T7 := hide (T6.out.below K b7).1
            have O7 := hide ((Touch.of_below (S := fun _ => False) b7).own O6.out (fun _ _ e => e))
            obtain ⟨a7, c7, rfl, r7, -, -, -⟩ := own_reads enV_len (by omega) o7
            have R7 := hide (fun (W : World) (b : Below w7.heap.size w7 W) => reads_to (r7.below b))
            have R3 := hide (fun (W : World) (b : Below w7.heap.size w7 W) => reads_to ((show Reads 2 enV w7 a3 l.length l from by
              obtain ⟨a', c', e', r, -⟩ := own_reads enV_len (by omega) O7.out
              injection e' with e1 e2 e3
              subst e1
              exact r).below b))
            clear o7 b7 r7 T6 O6 LS
            have AF := hide (fun (W : World) (b : Below w7.heap.size w7 W) => (T7.out.below K b).1)
            have PN := hide (fun (W : World) (b : Below w7.heap.size w7 W) => I.nodes (AF.out W b).ps G2.out (by omega) N2.out)
            have PC := hide (fun (W : World) (b : Below w7.heap.size w7 W) => I.ln (AF.out W b).ps G2.out (by omega) N2.out)
            rw [show cntI s2 = gn from ((same_n (NC.out e0)).2.2.1).trans HN.out.symm] at PC
            have g0 : ((gn : Int) == (gn : Int)) = true := by simp
            go_wp2_with (first
              | (go_at_call 24; refine (sameEntries_any _ _ _ _ _ _ _ (R3.out _ (Below.refl _ _)) (R7.out _ (Below.refl _ _)) (by have := L8.out; omega)).mono ?_; rintro e w8 ⟨rfl, b8⟩; have B8 := hide b8; clear b8)
              | (go_at_call 17; refine (PN.out _ B8.out).mono ?_; rintro e w9 ⟨rfl, b9⟩; have B9 := hide (B8.out.trans (b9.mono B8.out.size)); clear b9)
              | (go_at_call 18; refine (PC.out _ B9.out).mono ?_; rintro e w10 ⟨rfl, b10⟩; have BX := hide (AF.out _ (B9.out.trans (b10.mono B9.out.size))).bel; clear b10)
              | (go_at_call 11; refine (AWK.out _).mono ?_; rintro e w' ⟨rfl, hb⟩; have HB := hide hb; clear hb))
            go_ret
            exact ⟨rfl, by rw [EQX.out]; exact bA.out.trans ((BX.out.trans (HB.out.mono BX.out.size)).mono GW.out)⟩
        by_cases d3_ : d = 3
        · subst d3_
          obtain ⟨ev, hev⟩ : ∃ z, z = (mkdV s nm).1 := ⟨_, rfl⟩
          obtain ⟨s2, hs2⟩ : ∃ z, z = (mkdV s nm).2 := ⟨_, rfl⟩
          have OPC := hide (show Calls Tryz.prog 22 #[.pointer (some ⟨V, 0, none⟩), .string y1] w5 (SideO (fun w' U' => PV H S T w' U' V s2) U w5 (.int .i64 (ev : Int))) from by rw [hev, hs2, HY.out.1]; exact I.md T5.out.ps G1.out (by omega) O1.out nm S1.out)
          have G2 := hide (show GoodP s2 [] 1001 from by rw [hs2]; exact (mkdV_good G1.out nm).1.more (by omega))
          have N2 := hide (show NoOrph s2 0 from by rw [hs2]; exact (mkdV_good G1.out nm).2 O1.out)
          have NC := hide (show ev ≠ 0 → s2.n = s.n from by rw [hev, hs2]; exact fun h => mkdV_no G1.out h)
          clear hev hs2
          go_wp2_with fail
          go_at_call 22
          refine OPC.out.mono ?_
          rintro e w6 ⟨rfl, U6, p6, u6, hU6⟩
          have T6 := hide (T5.out.move p6 u6 hU6).1
          have O6 := hide (u6.own O5.out LO5.out)
          have BEL := hide T6.out.bel
          clear p6 u6 hU6 T5 O5 OPC x0 x1 x2 x3
          by_cases e0 : ev = 0
          · subst e0
            go_wp2_with (go_at_call 11; refine (AWK.out _).mono ?_; rintro e w' ⟨rfl, hb⟩; have HB := hide hb; clear hb)
            go_ret
            exact ⟨rfl, by rw [EQX.out]; exact bA.out.trans ((BEL.out.trans (HB.out.mono BEL.out.size)).mono GW.out)⟩
          · have e1 : ¬ (ev : Int) = 0 := by omega
            have LS := hide (I.ls T6.out.ps G2.out (by omega) N2.out [47] (by decide))
            rw [root_list G2.out, root_same (NC.out e0), ← HL.out] at LS
            go_wp2_with fail
            go_at_call 16
            refine LS.out.mono ?_
            rintro e w7 ⟨v7, rfl, o7, b7⟩
            have T7 := hide (T6.out.below K b7).1
            have O7 := hide ((Touch.of_below (S := fun _ => False) b7).own O6.out (fun _ _ e => e))
            obtain ⟨a7, c7, rfl, r7, -, -, -⟩ := own_reads enV_len (by omega) o7
            have R7 := hide (fun (W : World) (b : Below w7.heap.size w7 W) => reads_to (r7.below b))
            have R3 := hide (fun (W : World) (b : Below w7.heap.size w7 W) => reads_to ((show Reads 2 enV w7 a3 l.length l from by
              obtain ⟨a', c', e', r, -⟩ := own_reads enV_len (by omega) O7.out
              injection e' with e1 e2 e3
              subst e1
              exact r).below b))
            clear o7 b7 r7 T6 O6 LS
            have AF := hide (fun (W : World) (b : Below w7.heap.size w7 W) => (T7.out.below K b).1)
            have PN := hide (fun (W : World) (b : Below w7.heap.size w7 W) => I.nodes (AF.out W b).ps G2.out (by omega) N2.out)
            have PC := hide (fun (W : World) (b : Below w7.heap.size w7 W) => I.ln (AF.out W b).ps G2.out (by omega) N2.out)
            rw [show cntI s2 = gn from ((same_n (NC.out e0)).2.2.1).trans HN.out.symm] at PC
            have g0 : ((gn : Int) == (gn : Int)) = true := by simp
            go_wp2_with (first
              | (go_at_call 24; refine (sameEntries_any _ _ _ _ _ _ _ (R3.out _ (Below.refl _ _)) (R7.out _ (Below.refl _ _)) (by have := L8.out; omega)).mono ?_; rintro e w8 ⟨rfl, b8⟩; have B8 := hide b8; clear b8)
              | (go_at_call 17; refine (PN.out _ B8.out).mono ?_; rintro e w9 ⟨rfl, b9⟩; have B9 := hide (B8.out.trans (b9.mono B8.out.size)); clear b9)
              | (go_at_call 18; refine (PC.out _ B9.out).mono ?_; rintro e w10 ⟨rfl, b10⟩; have BX := hide (AF.out _ (B9.out.trans (b10.mono B9.out.size))).bel; clear b10)
              | (go_at_call 11; refine (AWK.out _).mono ?_; rintro e w' ⟨rfl, hb⟩; have HB := hide hb; clear hb))
            go_ret
            exact ⟨rfl, by rw [EQX.out]; exact bA.out.trans ((BX.out.trans (HB.out.mono BX.out.size)).mono GW.out)⟩
        · skip
          obtain ⟨ev, hev⟩ : ∃ z, z = (remV s nm true).1 := ⟨_, rfl⟩
          obtain ⟨s2, hs2⟩ : ∃ z, z = (remV s nm true).2 := ⟨_, rfl⟩
          have OPC := hide (show Calls Tryz.prog 23 #[.pointer (some ⟨V, 0, none⟩), .string y1] w5 (SideO (fun w' U' => PV H S T w' U' V s2) U w5 (.int .i64 (ev : Int))) from by rw [hev, hs2, HY.out.1]; exact I.rm T5.out.ps G1.out (by omega) O1.out nm S1.out)
          have G2 := hide (show GoodP s2 [] 1001 from by rw [hs2]; exact (remV_good G1.out nm true).1.more (by omega))
          have N2 := hide (show NoOrph s2 0 from by rw [hs2]; exact (remV_good G1.out nm true).2 O1.out)
          have NC := hide (show ev ≠ 0 → s2.n = s.n from by rw [hev, hs2]; exact fun h => by rw [remV_no h])
          clear hev hs2
          go_wp2_with fail
          go_at_call 23
          refine OPC.out.mono ?_
          rintro e w6 ⟨rfl, U6, p6, u6, hU6⟩
          have T6 := hide (T5.out.move p6 u6 hU6).1
          have O6 := hide (u6.own O5.out LO5.out)
          have BEL := hide T6.out.bel
          clear p6 u6 hU6 T5 O5 OPC x0 x1 x2 x3
          by_cases e0 : ev = 0
          · subst e0
            go_wp2_with (go_at_call 11; refine (AWK.out _).mono ?_; rintro e w' ⟨rfl, hb⟩; have HB := hide hb; clear hb)
            go_ret
            exact ⟨rfl, by rw [EQX.out]; exact bA.out.trans ((BEL.out.trans (HB.out.mono BEL.out.size)).mono GW.out)⟩
          · have e1 : ¬ (ev : Int) = 0 := by omega
            have LS := hide (I.ls T6.out.ps G2.out (by omega) N2.out [47] (by decide))
            rw [root_list G2.out, root_same (NC.out e0), ← HL.out] at LS
            go_wp2_with fail
            go_at_call 16
            refine LS.out.mono ?_
            rintro e w7 ⟨v7, rfl, o7, b7⟩
            have T7 := hide (T6.out.below K b7).1
            have O7 := hide ((Touch.of_below (S := fun _ => False) b7).own O6.out (fun _ _ e => e))
            obtain ⟨a7, c7, rfl, r7, -, -, -⟩ := own_reads enV_len (by omega) o7
            have R7 := hide (fun (W : World) (b : Below w7.heap.size w7 W) => reads_to (r7.below b))
            have R3 := hide (fun (W : World) (b : Below w7.heap.size w7 W) => reads_to ((show Reads 2 enV w7 a3 l.length l from by
              obtain ⟨a', c', e', r, -⟩ := own_reads enV_len (by omega) O7.out
              injection e' with e1 e2 e3
              subst e1
              exact r).below b))
            clear o7 b7 r7 T6 O6 LS
            have AF := hide (fun (W : World) (b : Below w7.heap.size w7 W) => (T7.out.below K b).1)
            have PN := hide (fun (W : World) (b : Below w7.heap.size w7 W) => I.nodes (AF.out W b).ps G2.out (by omega) N2.out)
            have PC := hide (fun (W : World) (b : Below w7.heap.size w7 W) => I.ln (AF.out W b).ps G2.out (by omega) N2.out)
            rw [show cntI s2 = gn from ((same_n (NC.out e0)).2.2.1).trans HN.out.symm] at PC
            have g0 : ((gn : Int) == (gn : Int)) = true := by simp
            go_wp2_with (first
              | (go_at_call 24; refine (sameEntries_any _ _ _ _ _ _ _ (R3.out _ (Below.refl _ _)) (R7.out _ (Below.refl _ _)) (by have := L8.out; omega)).mono ?_; rintro e w8 ⟨rfl, b8⟩; have B8 := hide b8; clear b8)
              | (go_at_call 17; refine (PN.out _ B8.out).mono ?_; rintro e w9 ⟨rfl, b9⟩; have B9 := hide (B8.out.trans (b9.mono B8.out.size)); clear b9)
              | (go_at_call 18; refine (PC.out _ B9.out).mono ?_; rintro e w10 ⟨rfl, b10⟩; have BX := hide (AF.out _ (B9.out.trans (b10.mono B9.out.size))).bel; clear b10)
              | (go_at_call 11; refine (AWK.out _).mono ?_; rintro e w' ⟨rfl, hb⟩; have HB := hide hb; clear hb))
            go_ret
            exact ⟨rfl, by rw [EQX.out]; exact bA.out.trans ((BX.out.trans (HB.out.mono BX.out.size)).mono GW.out)⟩
      · have d1 : ¬ (200 : Int) < (y1.size : Int) := by omega
        have d2 : (200 : Int) < (y2.size : Int) := by omega
        go_wp2_with (go_at_call 11; refine (AWK.out _).mono ?_; rintro e w' ⟨rfl, hb⟩; have HB := hide hb; clear hb)
        go_ret
        exact ⟨rfl, by rw [EQX.out]; exact bA.out.trans (HB.out.mono GW.out)⟩
    · have d1 : (200 : Int) < (y1.size : Int) := by omega
      go_wp2_with (go_at_call 11; refine (AWK.out _).mono ?_; rintro e w' ⟨rfl, hb⟩; have HB := hide hb; clear hb)
      go_ret
      exact ⟨rfl, by rw [EQX.out]; exact bA.out.trans (HB.out.mono GW.out)⟩
end
end Go.Proofs.YtndfnglcichngaaGreatDoor
