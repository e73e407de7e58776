/-
  Several texts as one: VfSide VfAwake VfDone VfPlay VfOpenW VfLinked.
-/
import Derived.Test.YtndfnglcichngaaGreatDoorPa18
import Derived.Test.YtndfnglcichngaaGreatDoorPa14
import Derived.Test.YtndfnglcichngaaGreatDoorPa32
import Derived.Test.YtndfnglcichngaaGreatDoorPa16
import Derived.Deep.RegionHeld3
import Derived.Test.YtndfnglcichngaaGreatDoorPa00
namespace Go.Proofs.YtndfnglcichngaaGreatDoor
open Go.ChangeShapes Go.WideShapes Go.ChangeAt Go.RowKit
set_option linter.unusedVariables false
set_option linter.unusedSimpArgs false
section
variable {w : World} {D : Nat → Prop} {R T2 G V2 : Nat} {s : In} {B : Int}
theorem Rv.c0 (h : Rv R T2 G w D V2 s) : w.cell? ⟨V2, 0, none⟩ = some (.pointer (some ⟨T2, 0, none⟩)) := h.1.c0
theorem Rv.c1 (h : Rv R T2 G w D V2 s) : w.cell? ⟨V2, 1, none⟩ = some (.pointer (some ⟨G, 0, none⟩)) := h.1.c1
theorem rv_op (h : Rv R T2 G w D V2 s) (g : GoodP s [] B) (hB : B ≤ 999999) (t : Txt) (ht : t.length ≤ 1000) (fl : Int) : Calls Tryz.prog 40 #[.pointer (some ⟨V2, 0, none⟩), .string (bt t), .int .i64 fl] w (SideO (fun w' D' => Rv R T2 G w' D' V2 (opnV s t fl).2.2) D w (.tuple #[.int .i64 ((opnV s t fl).1 : Nat), .int .i64 ((opnV s t fl).2.1 : Nat)])) := by
  obtain ⟨hd, D0, ⟨E, V, r⟩, hv, hD⟩ := h
  exact (vopen_any r hd hv g hB t ht fl).mono fun e w' ⟨he, rr⟩ => he ▸ rr.paths r hd hv hD
theorem rv_md (h : Rv R T2 G w D V2 s) (g : GoodP s [] B) (hB : B ≤ 999999) (t : Txt) (ht : t.length ≤ 1000) : Calls Tryz.prog 44 #[.pointer (some ⟨V2, 0, none⟩), .string (bt t)] w (SideO (fun w' D' => Rv R T2 G w' D' V2 (mkdV s t).2) D w (.int .i64 ((mkdV s t).1 : Nat))) := by
  obtain ⟨hd, D0, ⟨E, V, r⟩, hv, hD⟩ := h
  exact (vmkdir_any r hd hv g hB t ht).mono fun e w' ⟨he, rr⟩ => he ▸ rr.paths r hd hv hD
theorem rv_lk (h : Rv R T2 G w D V2 s) (g : GoodP s [] B) (hB : B ≤ 999999) (a t : Txt) (ha : a.length ≤ 1000) (ht : t.length ≤ 1000) : Calls Tryz.prog 42 #[.pointer (some ⟨V2, 0, none⟩), .string (bt a), .string (bt t)] w (SideO (fun w' D' => Rv R T2 G w' D' V2 (lnkV s a t).2) D w (.int .i64 ((lnkV s a t).1 : Nat))) := by
  obtain ⟨hd, D0, ⟨E, V, r⟩, hv, hD⟩ := h
  exact (vlink_any r hd hv g hB a t ha ht).mono fun e w' ⟨he, rr⟩ => he ▸ rr.paths r hd hv hD
theorem rv_ul (h : Rv R T2 G w D V2 s) (g : GoodP s [] B) (hB : B ≤ 999999) (t : Txt) (ht : t.length ≤ 1000) : Calls Tryz.prog 43 #[.pointer (some ⟨V2, 0, none⟩), .string (bt t)] w (SideO (fun w' D' => Rv R T2 G w' D' V2 (remV s t false).2) D w (.int .i64 ((remV s t false).1 : Nat))) := by
  obtain ⟨hd, D0, ⟨E, V, r⟩, hv, hD⟩ := h
  exact (vunlink_any r hd hv g hB t ht).mono fun e w' ⟨he, rr⟩ => he ▸ rr.paths r hd hv hD
theorem rv_rm (h : Rv R T2 G w D V2 s) (g : GoodP s [] B) (hB : B ≤ 999999) (t : Txt) (ht : t.length ≤ 1000) : Calls Tryz.prog 45 #[.pointer (some ⟨V2, 0, none⟩), .string (bt t)] w (SideO (fun w' D' => Rv R T2 G w' D' V2 (remV s t true).2) D w (.int .i64 ((remV s t true).1 : Nat))) := by
  obtain ⟨hd, D0, ⟨E, V, r⟩, hv, hD⟩ := h
  exact (vrmdir_any r hd hv g hB t ht).mono fun e w' ⟨he, rr⟩ => he ▸ rr.paths r hd hv hD
theorem rv_cl (h : Rv R T2 G w D V2 s) (g : GoodP s [] B) (hB : B ≤ 999999) (id : Int) : Calls Tryz.prog 46 #[.pointer (some ⟨T2, 0, none⟩), .int .i64 id] w (SideO (fun w' D' => Rv R T2 G w' D' V2 (clI s id)) D w (.int .i64 (clIE s id : Nat))) := by
  obtain ⟨hd, D0, ⟨E, V, r⟩, hv, hD⟩ := h
  exact (tclose_any r g (by omega) id).mono fun e w' ⟨he, rr⟩ => he ▸ rr.paths r hd hv hD
theorem rv_wr (h : Rv R T2 G w D V2 s) {id off : Int} (wo : (Lit.int .i64 off).wf = true) {a : Option Addr} {m c : Nat} {ys : List Int} (hi : Ints .u8 w a m ys) (hc : a = none → c = 0) (hb : Bytes ys) (hm : m ≤ 1000000) (ha : 0 < m → ∀ b o, a = some ⟨b, o, none⟩ → ¬ D b) : Calls Tryz.prog 47 #[.pointer (some ⟨G, 0, none⟩), .int .i64 id, .int .i64 off, .slice a m c] w (SideO (fun w' D' => Rv R T2 G w' D' V2 (wrtI s id off ys)) D w (.int .i64 (wrE s.so id off m : Nat))) := by
  obtain ⟨hd, D0, ⟨E, V, r⟩, hv, hD⟩ := h
  refine (rwr_any r.so wo hi hc hb hm (fun h0 b o e hE => ha h0 b o e ((hD b).2 (.inr (r.sub b hE))))).mono fun e w' p => ?_
  obtain ⟨rfl, rr⟩ := r.stored p
  exact rr.paths r hd hv hD
theorem rv_st (h : Rv R T2 G w D V2 s) (g : GoodP s [] B) (t : Txt) (ht : t.length ≤ 1000) : Calls Tryz.prog 48 #[.pointer (some ⟨V2, 0, none⟩), .string (bt t)] w fun e w' => e = .returned (.tuple #[statA s t, .int .i64 ((walkI s t).2 : Nat)]) ∧ Below w.heap.size w w' := by
  obtain ⟨hd, D0, ⟨E, V, r⟩, hv, hD⟩ := h
  exact vstat_any r hd g.few t ht
theorem rv_wk (h : Rv R T2 G w D V2 s) (g : GoodP s [] B) (t : Txt) (ht : t.length ≤ 1000) : Calls Tryz.prog 49 #[.pointer (some ⟨V2, 0, none⟩), .string (bt t)] w fun e w' => e = .returned (.tuple #[.int .i64 ((walkI s t).1 : Nat), .int .i64 ((walkI s t).2 : Nat)]) ∧ Below w.heap.size w w' := by
  obtain ⟨hd, D0, ⟨E, V, r⟩, hv, hD⟩ := h
  exact vwalk_any r hd g.few t ht
theorem rv_ls (h : Rv R T2 G w D V2 s) (g : GoodP s [] B) (t : Txt) (ht : t.length ≤ 1000) : Calls Tryz.prog 50 #[.pointer (some ⟨V2, 0, none⟩), .string (bt t)] w fun e w' => ∃ v, e = .returned (.tuple #[v, .int .i64 (lstE s t : Nat)]) ∧ w'.ownsRow w.heap.size 105 2 v (lstV s t).length ((lstV s t).flatMap enV) ∧ Below w.heap.size w w' := by
  obtain ⟨hd, D0, ⟨E, V, r⟩, hv, hD⟩ := h
  exact vlist_any r hd g t ht
theorem rv_ln (h : Rv R T2 G w D V2 s) : Calls Tryz.prog 51 #[.pointer (some ⟨T2, 0, none⟩)] w fun e w' => e = .returned (.int .i64 (cntI s : Nat)) ∧ w = w' := by
  obtain ⟨hd, D0, ⟨E, V, r⟩, hv, hD⟩ := h
  exact tlen_any r
end
theorem statA_form (s : In) (t : Txt) : ∃ g0 g1 g2 g3, statA s t = .agg #[.int .i64 g0, .int .i64 g1, .bool g2, .int .i64 g3] := by
  unfold statA; split
  · exact nodA_form s _
  · exact ⟨_, _, _, _, rfl⟩
/-- What an act makes of paths. -/
def stepV (s : In) (x : Va) : In := if x.d = 0 then (opnV s x.s x.n).2.2 else if x.d = 1 then (lnkV s x.s x.t).2 else if x.d = 2 then (remV s x.s false).2 else if x.d = 3 then (mkdV s x.s).2 else if x.d = 4 then (remV s x.s true).2 else if x.d = 7 then clI s x.n else if x.d = 8 then wrtI s x.n 0 x.b else s
theorem stepV_good {s : In} {B : Int} (h : GoodP s [] B) (x : Va) (hb : Bytes x.b) : GoodP (stepV s x) [] (B + 1) := by
  unfold stepV
  split
  · exact (opnV_good h _ _).1
  split
  · exact (lnkV_good h _ _).1.more (by omega)
  split
  · exact (remV_good h _ _).1.more (by omega)
  split
  · exact (mkdV_good h _).1.more (by omega)
  split
  · exact (remV_good h _ _).1.more (by omega)
  split
  · exact (h.cl _).1.more (by omega)
  split
  · exact (h.wrt _ _ hb).more (by omega)
  · exact h.more (by omega)
theorem stepV_orph {s : In} {B : Int} (hn : NoOrph s 0) (h : GoodP s [] B) (x : Va) : NoOrph (stepV s x) 0 := by
  unfold stepV
  split
  · exact (opnV_good h _ _).2 hn
  split
  · exact (lnkV_good h _ _).2 hn
  split
  · exact (remV_good h _ _).2 hn
  split
  · exact (mkdV_good h _).2 hn
  split
  · exact (remV_good h _ _).2 hn
  split
  · exact (h.cl _).2 hn
  split
  · exact hn
  · exact hn
/-- The act's copy. -/
def CopV (W : World) (X : Nat) (x : Va) : Prop := W.heap[X]? = some (.cells (vaV x).toArray 32 (0, 0))
theorem CopV.cells {W : World} {X : Nat} {x : Va} (h : CopV W X x) : W.cell? ⟨X, 0, none⟩ = some (.int .i64 x.d) ∧ W.cell? ⟨X, 1, none⟩ = some (.int .i64 x.n) ∧ W.cell? ⟨X, 2, none⟩ = some (.string (bt x.s)) ∧ W.cell? ⟨X, 3, none⟩ = some (.string (bt x.t)) ∧ W.cell? ⟨X, 4, none⟩ = some (.slice x.a x.l x.c) := by
  unfold CopV at h
  refine ⟨?_, ?_, ?_, ?_, ?_⟩ <;> (rw [cell_of_row _ _ _ _ _ _ h]; rfl)
theorem CopV.stay {W W' : World} {X : Nat} {x : Va} {Y : List Nat} (h : CopV W X x) (st : Stay Y W W') (hm : X ∈ Y) : CopV W' X x := (st X hm).trans h
/-- What came in lies apart from both. -/
theorem apartV {w wr : World} {U D : Nat → Prop} {X : List Nat} {S R : Nat} {σ τ : Type} {P : Rel σ} {Q : Rel τ} {s : σ} {t : τ} (h : TwoO P Q w wr U D X S R s t) {q : IntKind} {a : Option Addr} {n : Nat} {xs : List Int} (hi : Ints q w a n xs) (hn : 0 < n) : ∀ b o, a = some ⟨b, o, none⟩ → ¬ U b ∧ ¬ D b := by
  intro b o e
  obtain ⟨b', off, e', hc⟩ := hi.2 hn
  rw [e] at e'
  injection e' with e'
  injection e' with e1 e2 _
  have h3 : b' < w.heap.size := lt_of_cell? (hc 0 hn)
  refine ⟨fun hU => ?_, fun hD => ?_⟩
  · have := h.lo b hU; omega
  · have := h.lo2 b hD; omega
end Go.Proofs.YtndfnglcichngaaGreatDoor
namespace Go.Proofs.YtndfnglcichngaaGreatDoor
open Go.ChangeShapes Go.WideShapes Go.ChangeAt Go.RowKit
set_option linter.unusedVariables false
set_option linter.unusedSimpArgs false
section
variable {PV : Nat → Nat → Nat → Rel In}
attribute [local go_sem] inode_same
def sV1 : In := (mkdV (newI 8) [47, 100]).2
def sV2 : In := (opnV sV1 [47, 100, 47, 102] 1).2.2
set_option maxRecDepth 100000 in
set_option maxHeartbeats 8000000 in
theorem awake22_any (I : PVfs PV) (w : World) : Calls Tryz.prog 11 #[] w fun e w' => e = .returned (.bool true) ∧ Below w.heap.size w w' := by
  have g0 := newI_good 8
  have g1 : GoodP sV1 [] 1 := (mkdV_good g0 [47, 100]).1
  have g2 : GoodP sV2 [] 2 := (opnV_good g1 [47, 100, 47, 102] 1).1
  have n0 := newI_orph 8
  have n1 : NoOrph sV1 0 := (mkdV_good g0 [47, 100]).2 n0
  have n2 : NoOrph sV2 0 := (opnV_good g1 [47, 100, 47, 102] 1).2 n1
  have e1 : (mkdV (newI 8) [47, 100]).1 = 0 := by decide +kernel
  have e2 : (opnV sV1 [47, 100, 47, 102] 1).1 = 2 := by decide +kernel
  have e3 : (opnV sV1 [47, 100, 47, 102] 1).2.1 = 0 := by decide +kernel
  have e4 : statA sV2 [47, 100] = .agg #[.int .i64 1, .int .i64 1, .bool true, .int .i64 1] := by kernel_rfl
  have e5 : (walkI sV2 [47, 100]).2 = 0 := by decide +kernel
  have e6 : (remV sV2 [47, 100] true).1 = 13 := by decide +kernel
  have MD := hide (fun (W : World) (H S T V : Nat) (U : Nat → Prop) (h : PV H S T W U V (newI 8)) => show Calls Tryz.prog 22 #[.pointer (some ⟨V, 0, none⟩), .string (bt [47, 100])] W (SideO (fun w' U' => PV H S T w' U' V sV1) U W (.int .i64 0)) from by have h := I.md h g0 (by decide) n0 [47, 100] (by decide); rw [e1] at h; exact h)
  have OP := hide (fun (W : World) (H S T V : Nat) (U : Nat → Prop) (h : PV H S T W U V sV1) => show Calls Tryz.prog 19 #[.pointer (some ⟨V, 0, none⟩), .string (bt [47, 100, 47, 102]), .int .i64 1] W (SideO (fun w' U' => PV H S T w' U' V sV2) U W (.tuple #[.int .i64 2, .int .i64 0])) from by have h := I.op h g1 (by decide) n1 [47, 100, 47, 102] 1 (by decide) (by decide); rw [e2, e3] at h; exact h)
  have ST := hide (fun (W : World) (H S T V : Nat) (U : Nat → Prop) (h : PV H S T W U V sV2) => show Calls Tryz.prog 28 #[.pointer (some ⟨V, 0, none⟩), .string (bt [47, 100])] W (fun e w' => e = .returned (.tuple #[.agg #[.int .i64 1, .int .i64 1, .bool true, .int .i64 1], .int .i64 0]) ∧ Below W.heap.size W w') from by have h := I.st h g2 (by decide) n2 [47, 100] (by decide); rw [e4, e5] at h; exact h)
  have RM := hide (fun (W : World) (H S T V : Nat) (U : Nat → Prop) (h : PV H S T W U V sV2) => show Calls Tryz.prog 23 #[.pointer (some ⟨V, 0, none⟩), .string (bt [47, 100])] W (SideO (fun w' U' => PV H S T w' U' V (remV sV2 [47, 100] true).2) U W (.int .i64 13)) from by have h := I.rm h g2 (by decide) n2 [47, 100] (by decide); rw [e6] at h; exact h)
  clear g0 g1 g2 n0 n1 n2 e1 e2 e3 e4 e5 e6
  go_enter Tryz.func11, Tryz.ntmps11
  go_wp2_with fail
  go_at_call 29
  refine (new_ok _ 8 (by omega) (by omega)).mono ?_
  rintro e w1 ⟨H, A, Q, rfl, f1, b1, hb1⟩
  have F1 := hide f1
  have B1 := hide b1
  have HB1 := hide hb1
  clear f1 b1 hb1
  go_wp2_with fail
  go_at_call 31
  refine (I.new F1.out).mono ?_
  rintro e w2 ⟨V, S, T, U, rfl, p2, b2, hU⟩
  have K := I.keeps H S T
  have T1 := hide (OneO.first (P := PV H S T) p2 (B1.out.trans (b2.mono B1.out.size)) (fun i hi => (hU i hi).elim (HB1.out i) (fun e => Nat.le_trans B1.out.size e)))
  clear p2 b2 hU
  go_wp2_with (first
    | (go_at_call 22; refine (MD.out _ _ _ _ _ _ T1.out.ps).mono ?_; intro en w3 hs; obtain ⟨rfl, U2, t2, -⟩ := T1.out.side hs; have T2 := hide t2; clear hs t2)
    | (go_at_call 19; refine (OP.out _ _ _ _ _ _ T2.out.ps).mono ?_; intro en w4 hs; obtain ⟨rfl, U3, t3, -⟩ := T2.out.side hs; have T3 := hide t3; clear hs t3)
    | (go_at_call 28; refine (ST.out _ _ _ _ _ _ T3.out.ps).mono ?_; rintro e w5 ⟨rfl, b5⟩; have HG := heap_alloc_new w5 (.cells #[.int .i64 1, .int .i64 1, .bool true, .int .i64 1] 54); have T4 := hide (T3.out.below K (b5.alloc b5.size (.cells #[.int .i64 1, .int .i64 1, .bool true, .int .i64 1] 54))).1; have q0 : (w5.alloc (.cells #[.int .i64 1, .int .i64 1, .bool true, .int .i64 1] 54)).cell? ⟨w5.heap.size, 0, none⟩ = some (.int .i64 1) := (by rw [cell_of_row _ _ _ _ _ _ HG]; rfl); have q1 : (w5.alloc (.cells #[.int .i64 1, .int .i64 1, .bool true, .int .i64 1] 54)).cell? ⟨w5.heap.size, 1, none⟩ = some (.int .i64 1) := (by rw [cell_of_row _ _ _ _ _ _ HG]; rfl); have q2 : (w5.alloc (.cells #[.int .i64 1, .int .i64 1, .bool true, .int .i64 1] 54)).cell? ⟨w5.heap.size, 2, none⟩ = some (.bool true) := (by rw [cell_of_row _ _ _ _ _ _ HG]; rfl); have q3 : (w5.alloc (.cells #[.int .i64 1, .int .i64 1, .bool true, .int .i64 1] 54)).cell? ⟨w5.heap.size, 3, none⟩ = some (.int .i64 1) := (by rw [cell_of_row _ _ _ _ _ _ HG]; rfl); clear b5)
    | (go_at_call 23; refine (RM.out _ _ _ _ _ _ T4.out.ps).mono ?_; intro en w6 hs; obtain ⟨rfl, U5, t5, -⟩ := T4.out.side hs; have T5 := hide t5; clear hs t5))
  go_ret
  exact ⟨rfl, T5.out.bel⟩
set_option maxRecDepth 100000 in
set_option maxHeartbeats 8000000 in
theorem walk_vfsNoneC (I : PVfs PV) (Z : NilVfs) (w : World) (t : Txt) (n : Int) : Calls Tryz.prog 7 #[.string (bt t), .int .i64 n] w fun e w' => e = .returned (.bool true) ∧ Below w.heap.size w w' := by
  have bs := bt_size t
  have AW := hide (fun (W : World) => awake22_any I W)
  go_enter Tryz.func7, Tryz.ntmps7
  by_cases h200 : 200 < t.length
  · have h1 : (200 : Int) < ((bt t).size : Int) := by rw [bs]; omega
    clear bs h200
    go_wp2_with (go_at_call 11; refine (AW.out _).mono ?_; rintro e w' ⟨rfl, hb⟩)
    go_ret
    exact ⟨rfl, hb⟩
  · have h1 : ¬ (200 : Int) < ((bt t).size : Int) := by rw [bs]; omega
    have HL := hide (show t.length ≤ 1000 from by omega)
    clear bs h200
    go_wp2_with (first
      | (go_at_call 25; refine (Z.wk _ _ HL.out).mono ?_; rintro e w2 ⟨rfl, b2⟩; have B2 := hide b2; clear b2)
      | (go_at_call 19; refine (Z.op _ _ _ HL.out).mono ?_; rintro e w3 ⟨rfl, b3⟩; have B3 := hide (B2.out.trans (b3.mono B2.out.size)); clear b3)
      | (go_at_call 28; refine (Z.st _ _ HL.out).mono ?_; rintro e w4 ⟨rfl, b4⟩; have B4' := hide (B3.out.trans (b4.mono B3.out.size)); have B4 := hide (B4'.out.alloc B4'.out.size (.cells #[.int .i64 0, .int .i64 0, .bool false, .int .i64 0] 54)); have HG := hide (heap_alloc_new w4 (.cells #[.int .i64 0, .int .i64 0, .bool false, .int .i64 0] 54)); clear b4)
      | (go_at_call 16; refine (Z.ls _ _ HL.out).mono ?_; rintro e w5 ⟨c5, a5, rfl, b5⟩; have B5 := hide (B4.out.trans (b5.mono B4.out.size)); have HG5 := (b5.block _ (lt_of_heap HG.out)).trans HG.out; have q0 : w5.cell? ⟨w4.heap.size, 0, none⟩ = some (.int .i64 0) := (by rw [cell_of_row _ _ _ _ _ _ HG5]; rfl); have q1 : w5.cell? ⟨w4.heap.size, 1, none⟩ = some (.int .i64 0) := (by rw [cell_of_row _ _ _ _ _ _ HG5]; rfl); have q2 : w5.cell? ⟨w4.heap.size, 2, none⟩ = some (.bool false) := (by rw [cell_of_row _ _ _ _ _ _ HG5]; rfl); have q3 : w5.cell? ⟨w4.heap.size, 3, none⟩ = some (.int .i64 0) := (by rw [cell_of_row _ _ _ _ _ _ HG5]; rfl); clear b5)
      | (go_at_call 20; refine (Z.lk _ _ _ HL.out HL.out).mono ?_; rintro e w6 ⟨rfl, b6⟩; have B6 := hide (B5.out.trans (b6.mono B5.out.size)); clear b6)
      | (go_at_call 21; refine (Z.ul _ _ HL.out).mono ?_; rintro e w7 ⟨rfl, b7⟩; have B7 := hide (B6.out.trans (b7.mono B6.out.size)); clear b7)
      | (go_at_call 22; refine (Z.md _ _ HL.out).mono ?_; rintro e w8 ⟨rfl, b8⟩; have B8 := hide (B7.out.trans (b8.mono B7.out.size)); clear b8)
      | (go_at_call 23; refine (Z.rm _ _ HL.out).mono ?_; rintro e w9 ⟨rfl, b9⟩; have B9 := hide (B8.out.trans (b9.mono B8.out.size)); clear b9)
      | (go_at_call 17; refine (Z.nodes _).mono ?_; rintro e w10 ⟨rfl, b10⟩; have B10 := hide (B9.out.trans (b10.mono B9.out.size)); clear b10)
      | (go_at_call 26; refine (Z.store _).mono ?_; rintro e w11 ⟨rfl, b11⟩; have B11 := hide (B10.out.trans (b11.mono B10.out.size)); clear b11)
      | (go_at_call 11; refine (AW.out _).mono ?_; rintro e w12 ⟨rfl, b12⟩; have B12 := hide (B11.out.trans (b12.mono B11.out.size)); clear b12))
    go_ret
    exact ⟨rfl, B12.out⟩
end
end Go.Proofs.YtndfnglcichngaaGreatDoor
namespace Go.Proofs.YtndfnglcichngaaGreatDoor
open Go.ChangeShapes Go.WideShapes Go.ChangeAt Go.RowKit
set_option linter.unusedVariables false
set_option linter.unusedSimpArgs false
section
variable {PV : Nat → Nat → Nat → Rel In} {w wr : World} {U D : Nat → Prop} {X : List Nat} {H S T R T2 G V V2 : Nat} {s : In} {B : Int}
attribute [local go_sem] inode_same
set_option maxRecDepth 100000 in
set_option maxHeartbeats 16000000 in
theorem done22_any (I : PVfs PV) (h : TwinV PV w wr U D X H S T R T2 G V V2 s) (g : GoodP s [] B) (hB : B ≤ 999999) (no : NoOrph s 0) (x : Va) (wn : (Lit.int .i64 x.n).wf = true) (hs : x.s.length ≤ 1000) (ht : x.t.length ≤ 1000) (hl : x.l ≤ 1000000) (hb : CameIn .u8 w x.a x.l x.c x.b) :
    Calls Tryz.prog 13 #[.pointer (some ⟨V, 0, none⟩), .pointer (some ⟨V2, 0, none⟩), .agg #[.int .i64 x.d, .int .i64 x.n, .string (bt x.s), .string (bt x.t), .slice x.a x.l x.c]] wr fun e w' => e = .returned (.bool true) ∧ ∃ U' D', TwinV PV w w' U' D' X H S T R T2 G V V2 (stepV s x) ∧ Stay X wr w' := by
  obtain ⟨d, i, nm, nt, a, l, c, ys⟩ := x
  have GG := hide g
  have NO := hide no
  have WN := hide wn
  have HS := hide (show nm.length ≤ 1000 from hs)
  have HT := hide (show nt.length ≤ 1000 from ht)
  have HB := hide hb
  have HL := hide (show l ≤ 1000000 from hl)
  have KP := I.keeps H S T
  have KR := keepsRv R T2 G
  have al := h.alloc KP KR (.cells #[.int .i64 d, .int .i64 i, .string (bt nm), .string (bt nt), .slice a l c] 32)
  have T1 := hide al.1
  have ST1 := hide al.2
  have C1 : Hid (CopV (wr.alloc (.cells #[.int .i64 d, .int .i64 i, .string (bt nm), .string (bt nt), .slice a l c] 32)) wr.heap.size ⟨d, i, nm, nt, a, l, c, ys⟩) := hide (show CopV _ _ _ from heap_alloc_new _ _)
  clear h g no wn hs ht al hb hl
  go_enter Tryz.func13, Tryz.ntmps13
  go_upto_region 1 with fail
  generalize hW1 : wr.alloc (.cells #[.int .i64 d, .int .i64 i, .string (bt nm), .string (bt nt), .slice a l c] 32) = W1 at *
  clear hW1
  generalize wr.heap.size = Xb at *
  have FIN := hide (show ∀ (w9 : World) (U' D' : Nat → Prop) (s' : In), stepV s ⟨d, i, nm, nt, a, l, c, ys⟩ = s' → TwinV PV w w9 U' D' (Xb :: X) H S T R T2 G V V2 s' → Stay (Xb :: X) W1 w9 → ∃ U' D', TwinV PV w w9 U' D' X H S T R T2 G V V2 (stepV s ⟨d, i, nm, nt, a, l, c, ys⟩) ∧ Stay X wr w9 from
    fun w9 U' D' s' e t9 st => ⟨U', D', e ▸ t9.fewer (fun g hg => List.mem_cons_of_mem _ hg), fun g hg => (st g (List.mem_cons_of_mem _ hg)).trans (ST1.out g hg)⟩)
  have MX := hide (show Xb ∈ Xb :: X from List.mem_cons_self ..)
  by_cases d0 : d = 0
  · subst d0
    obtain ⟨ei, hei⟩ : ∃ z, z = (opnV s nm i).1 := ⟨_, rfl⟩
    obtain ⟨ev, hev⟩ : ∃ z, z = (opnV s nm i).2.1 := ⟨_, rfl⟩
    have g0 : ((ev : Int) == (ev : Int)) = true := by simp
    have g1 : ((ei : Int) == (ei : Int)) = true := by simp
    have LF := hide (fun (W : World) (Vs : Nat → Prop) (h : PV H S T W Vs V s) => show Calls Tryz.prog 19 #[.pointer (some ⟨V, 0, none⟩), .string (bt nm), .int .i64 i] W (SideO (fun w' U' => PV H S T w' U' V ((opnV s nm i).2.2)) Vs W (.tuple #[.int .i64 (ei : Int), .int .i64 (ev : Int)])) from by rw [hev, hei]; exact I.op h GG.out hB NO.out nm i HS.out WN.out)
    have RG := hide (fun (W : World) (Vs : Nat → Prop) (h : Rv R T2 G W Vs V2 s) => show Calls Tryz.prog 40 #[.pointer (some ⟨V2, 0, none⟩), .string (bt nm), .int .i64 i] W (SideO (fun w' U' => Rv R T2 G w' U' V2 ((opnV s nm i).2.2)) Vs W (.tuple #[.int .i64 (ei : Int), .int .i64 (ev : Int)])) from by rw [hev, hei]; exact rv_op h GG.out hB nm HS.out i)
    have EQ := hide (show stepV s ⟨0, i, nm, nt, a, l, c, ys⟩ = (opnV s nm i).2.2 from rfl)
    have x0 := C1.out.cells.1
    have x1 := C1.out.cells.2.1
    have x2 := C1.out.cells.2.2.1
    clear hev hei
    go_wp2_with (first
      | (go_at_call 19; refine (LF.out _ _ T1.out.ps).mono ?_; intro en w4 hs; obtain ⟨rfl, U4, t4, h4⟩ := T1.out.left KP KR hs; have T4 := hide t4; have C4 := hide (C1.out.stay h4 MX.out); have S4 := hide h4; have y1 := C4.out.cells.2.1; have y2 := C4.out.cells.2.2.1; clear hs t4 h4)
      | (go_at_call 40; refine (RG.out _ _ T4.out.ds).mono ?_; intro en w5 hs; obtain ⟨rfl, D5, t5, h5⟩ := T4.out.right KP KR hs; have T5 := hide t5; have S5 := hide (show Stay (Xb :: X) W1 w5 from fun g hg => (h5 g hg).trans (S4.out g hg)); clear hs t5 h5)
      | (go_at_call 41; refine (num_any _ _).mono ?_; rintro e w' ⟨rfl, rfl⟩))
    go_ret
    exact ⟨rfl, FIN.out _ _ _ _ EQ.out T5.out S5.out⟩
  by_cases d1 : d = 1
  · subst d1
    obtain ⟨ev, hev⟩ : ∃ ev, ev = (lnkV s nm nt).1 := ⟨_, rfl⟩
    have g0 : ((ev : Int) == (ev : Int)) = true := by simp
    have LF := hide (fun (W : World) (Vs : Nat → Prop) (h : PV H S T W Vs V s) => show Calls Tryz.prog 20 #[.pointer (some ⟨V, 0, none⟩), .string (bt nm), .string (bt nt)] W (SideO (fun w' U' => PV H S T w' U' V ((lnkV s nm nt).2)) Vs W (.int .i64 (ev : Int))) from by rw [hev]; exact I.lk h GG.out hB NO.out nm nt HS.out HT.out)
    have RG := hide (fun (W : World) (Vs : Nat → Prop) (h : Rv R T2 G W Vs V2 s) => show Calls Tryz.prog 42 #[.pointer (some ⟨V2, 0, none⟩), .string (bt nm), .string (bt nt)] W (SideO (fun w' U' => Rv R T2 G w' U' V2 ((lnkV s nm nt).2)) Vs W (.int .i64 (ev : Int))) from by rw [hev]; exact rv_lk h GG.out hB nm nt HS.out HT.out)
    have EQ := hide (show stepV s ⟨1, i, nm, nt, a, l, c, ys⟩ = (lnkV s nm nt).2 from rfl)
    have T1d := hide (T1.out.below KP KR (Below.refl W1.heap.size W1).drew)
    have x0 := C1.out.cells.1
    have x2 : W1.cell? ⟨Xb, 2, none⟩ = some (.string (bt nm)) := C1.out.cells.2.2.1
    have x3 : W1.cell? ⟨Xb, 3, none⟩ = some (.string (bt nt)) := C1.out.cells.2.2.2.1
    clear hev
    go_wp2_with fail
    clear x0
    go_region_held3 (fun w' => w'.cell? ⟨Xb, 2, none⟩ = some (.string (bt nm)) ∧ w'.cell? ⟨Xb, 3, none⟩ = some (.string (bt nt))) (first | exact ⟨x2, x3⟩ | exact ⟨y2, y3⟩ | exact ⟨z2, z3⟩) (first
      | (go_at_call 20; refine (LF.out _ _ T1d.out.1.ps).mono ?_; intro en w4 hs; obtain ⟨rfl, U4, t4, h4⟩ := T1d.out.1.left KP KR hs; have T4 := hide t4; have S4 := hide (show Stay (Xb :: X) W1 w4 from fun g hg => (h4 g hg).trans (T1d.out.2 g hg)); have C4 := hide (C1.out.stay S4.out MX.out); have y2 : w4.cell? ⟨Xb, 2, none⟩ = some (.string (bt nm)) := C4.out.cells.2.2.1; have y3 : w4.cell? ⟨Xb, 3, none⟩ = some (.string (bt nt)) := C4.out.cells.2.2.2.1; clear hs t4 h4)
      | (go_at_call 42; refine (RG.out _ _ T4.out.ds).mono ?_; intro en w5 hs; obtain ⟨rfl, D5, t5, h5⟩ := T4.out.right KP KR hs; have T5 := hide t5; have S5 := hide (show Stay (Xb :: X) W1 w5 from fun g hg => (h5 g hg).trans (S4.out g hg)); have C5 := hide (C1.out.stay S5.out MX.out); have z2 : w5.cell? ⟨Xb, 2, none⟩ = some (.string (bt nm)) := C5.out.cells.2.2.1; have z3 : w5.cell? ⟨Xb, 3, none⟩ = some (.string (bt nt)) := C5.out.cells.2.2.2.1; clear hs t5 h5)
      | (go_at_call 41; refine (num_any _ _).mono ?_; rintro e w' ⟨rfl, rfl⟩))
    go_wp2_with fail
    go_ret
    exact ⟨rfl, FIN.out _ _ _ _ EQ.out T5.out S5.out⟩
  by_cases d2 : d = 2
  · subst d2
    obtain ⟨ev, hev⟩ : ∃ ev, ev = (remV s nm false).1 := ⟨_, rfl⟩
    have g0 : ((ev : Int) == (ev : Int)) = true := by simp
    have LF := hide (fun (W : World) (Vs : Nat → Prop) (h : PV H S T W Vs V s) => show Calls Tryz.prog 21 #[.pointer (some ⟨V, 0, none⟩), .string (bt nm)] W (SideO (fun w' U' => PV H S T w' U' V ((remV s nm false).2)) Vs W (.int .i64 (ev : Int))) from by rw [hev]; exact I.ul h GG.out hB NO.out nm HS.out)
    have RG := hide (fun (W : World) (Vs : Nat → Prop) (h : Rv R T2 G W Vs V2 s) => show Calls Tryz.prog 43 #[.pointer (some ⟨V2, 0, none⟩), .string (bt nm)] W (SideO (fun w' U' => Rv R T2 G w' U' V2 ((remV s nm false).2)) Vs W (.int .i64 (ev : Int))) from by rw [hev]; exact rv_ul h GG.out hB nm HS.out)
    have EQ := hide (show stepV s ⟨2, i, nm, nt, a, l, c, ys⟩ = (remV s nm false).2 from rfl)
    have T1d := hide (T1.out.below KP KR (Below.refl W1.heap.size W1).drew)
    have x0 := C1.out.cells.1
    have x2 : W1.cell? ⟨Xb, 2, none⟩ = some (.string (bt nm)) := C1.out.cells.2.2.1
    clear hev
    go_wp2_with fail
    clear x0
    go_region_held3 (fun w' => w'.cell? ⟨Xb, 2, none⟩ = some (.string (bt nm))) (first | exact x2 | exact y2 | exact z2) (first
      | (go_at_call 21; refine (LF.out _ _ T1d.out.1.ps).mono ?_; intro en w4 hs; obtain ⟨rfl, U4, t4, h4⟩ := T1d.out.1.left KP KR hs; have T4 := hide t4; have S4 := hide (show Stay (Xb :: X) W1 w4 from fun g hg => (h4 g hg).trans (T1d.out.2 g hg)); have C4 := hide (C1.out.stay S4.out MX.out); have y2 : w4.cell? ⟨Xb, 2, none⟩ = some (.string (bt nm)) := C4.out.cells.2.2.1; clear hs t4 h4)
      | (go_at_call 43; refine (RG.out _ _ T4.out.ds).mono ?_; intro en w5 hs; obtain ⟨rfl, D5, t5, h5⟩ := T4.out.right KP KR hs; have T5 := hide t5; have S5 := hide (show Stay (Xb :: X) W1 w5 from fun g hg => (h5 g hg).trans (S4.out g hg)); have C5 := hide (C1.out.stay S5.out MX.out); have z2 : w5.cell? ⟨Xb, 2, none⟩ = some (.string (bt nm)) := C5.out.cells.2.2.1; clear hs t5 h5)
      | (go_at_call 41; refine (num_any _ _).mono ?_; rintro e w' ⟨rfl, rfl⟩))
    go_wp2_with fail
    go_ret
    exact ⟨rfl, FIN.out _ _ _ _ EQ.out T5.out S5.out⟩
  by_cases d3 : d = 3
  · subst d3
    obtain ⟨ev, hev⟩ : ∃ ev, ev = (mkdV s nm).1 := ⟨_, rfl⟩
    have g0 : ((ev : Int) == (ev : Int)) = true := by simp
    have LF := hide (fun (W : World) (Vs : Nat → Prop) (h : PV H S T W Vs V s) => show Calls Tryz.prog 22 #[.pointer (some ⟨V, 0, none⟩), .string (bt nm)] W (SideO (fun w' U' => PV H S T w' U' V ((mkdV s nm).2)) Vs W (.int .i64 (ev : Int))) from by rw [hev]; exact I.md h GG.out hB NO.out nm HS.out)
    have RG := hide (fun (W : World) (Vs : Nat → Prop) (h : Rv R T2 G W Vs V2 s) => show Calls Tryz.prog 44 #[.pointer (some ⟨V2, 0, none⟩), .string (bt nm)] W (SideO (fun w' U' => Rv R T2 G w' U' V2 ((mkdV s nm).2)) Vs W (.int .i64 (ev : Int))) from by rw [hev]; exact rv_md h GG.out hB nm HS.out)
    have EQ := hide (show stepV s ⟨3, i, nm, nt, a, l, c, ys⟩ = (mkdV s nm).2 from rfl)
    have T1d := hide (T1.out.below KP KR (Below.refl W1.heap.size W1).drew)
    have x0 := C1.out.cells.1
    have x2 : W1.cell? ⟨Xb, 2, none⟩ = some (.string (bt nm)) := C1.out.cells.2.2.1
    clear hev
    go_wp2_with fail
    clear x0
    go_region_held3 (fun w' => w'.cell? ⟨Xb, 2, none⟩ = some (.string (bt nm))) (first | exact x2 | exact y2 | exact z2) (first
      | (go_at_call 22; refine (LF.out _ _ T1d.out.1.ps).mono ?_; intro en w4 hs; obtain ⟨rfl, U4, t4, h4⟩ := T1d.out.1.left KP KR hs; have T4 := hide t4; have S4 := hide (show Stay (Xb :: X) W1 w4 from fun g hg => (h4 g hg).trans (T1d.out.2 g hg)); have C4 := hide (C1.out.stay S4.out MX.out); have y2 : w4.cell? ⟨Xb, 2, none⟩ = some (.string (bt nm)) := C4.out.cells.2.2.1; clear hs t4 h4)
      | (go_at_call 44; refine (RG.out _ _ T4.out.ds).mono ?_; intro en w5 hs; obtain ⟨rfl, D5, t5, h5⟩ := T4.out.right KP KR hs; have T5 := hide t5; have S5 := hide (show Stay (Xb :: X) W1 w5 from fun g hg => (h5 g hg).trans (S4.out g hg)); have C5 := hide (C1.out.stay S5.out MX.out); have z2 : w5.cell? ⟨Xb, 2, none⟩ = some (.string (bt nm)) := C5.out.cells.2.2.1; clear hs t5 h5)
      | (go_at_call 41; refine (num_any _ _).mono ?_; rintro e w' ⟨rfl, rfl⟩))
    go_wp2_with fail
    go_ret
    exact ⟨rfl, FIN.out _ _ _ _ EQ.out T5.out S5.out⟩
  by_cases d4 : d = 4
  · subst d4
    obtain ⟨ev, hev⟩ : ∃ ev, ev = (remV s nm true).1 := ⟨_, rfl⟩
    have g0 : ((ev : Int) == (ev : Int)) = true := by simp
    have LF := hide (fun (W : World) (Vs : Nat → Prop) (h : PV H S T W Vs V s) => show Calls Tryz.prog 23 #[.pointer (some ⟨V, 0, none⟩), .string (bt nm)] W (SideO (fun w' U' => PV H S T w' U' V ((remV s nm true).2)) Vs W (.int .i64 (ev : Int))) from by rw [hev]; exact I.rm h GG.out hB NO.out nm HS.out)
    have RG := hide (fun (W : World) (Vs : Nat → Prop) (h : Rv R T2 G W Vs V2 s) => show Calls Tryz.prog 45 #[.pointer (some ⟨V2, 0, none⟩), .string (bt nm)] W (SideO (fun w' U' => Rv R T2 G w' U' V2 ((remV s nm true).2)) Vs W (.int .i64 (ev : Int))) from by rw [hev]; exact rv_rm h GG.out hB nm HS.out)
    have EQ := hide (show stepV s ⟨4, i, nm, nt, a, l, c, ys⟩ = (remV s nm true).2 from rfl)
    have T1d := hide (T1.out.below KP KR (Below.refl W1.heap.size W1).drew)
    have x0 := C1.out.cells.1
    have x2 : W1.cell? ⟨Xb, 2, none⟩ = some (.string (bt nm)) := C1.out.cells.2.2.1
    clear hev
    go_wp2_with fail
    clear x0
    go_region_held3 (fun w' => w'.cell? ⟨Xb, 2, none⟩ = some (.string (bt nm))) (first | exact x2 | exact y2 | exact z2) (first
      | (go_at_call 23; refine (LF.out _ _ T1d.out.1.ps).mono ?_; intro en w4 hs; obtain ⟨rfl, U4, t4, h4⟩ := T1d.out.1.left KP KR hs; have T4 := hide t4; have S4 := hide (show Stay (Xb :: X) W1 w4 from fun g hg => (h4 g hg).trans (T1d.out.2 g hg)); have C4 := hide (C1.out.stay S4.out MX.out); have y2 : w4.cell? ⟨Xb, 2, none⟩ = some (.string (bt nm)) := C4.out.cells.2.2.1; clear hs t4 h4)
      | (go_at_call 45; refine (RG.out _ _ T4.out.ds).mono ?_; intro en w5 hs; obtain ⟨rfl, D5, t5, h5⟩ := T4.out.right KP KR hs; have T5 := hide t5; have S5 := hide (show Stay (Xb :: X) W1 w5 from fun g hg => (h5 g hg).trans (S4.out g hg)); have C5 := hide (C1.out.stay S5.out MX.out); have z2 : w5.cell? ⟨Xb, 2, none⟩ = some (.string (bt nm)) := C5.out.cells.2.2.1; clear hs t5 h5)
      | (go_at_call 41; refine (num_any _ _).mono ?_; rintro e w' ⟨rfl, rfl⟩))
    go_wp2_with fail
    go_ret
    exact ⟨rfl, FIN.out _ _ _ _ EQ.out T5.out S5.out⟩
  by_cases d7 : d = 7
  · subst d7
    obtain ⟨ev, hev⟩ : ∃ ev, ev = clIE s i := ⟨_, rfl⟩
    have g0 : ((ev : Int) == (ev : Int)) = true := by simp
    have LF := hide (fun (W : World) (Vs : Nat → Prop) (h : PV H S T W Vs V s) => show Calls Tryz.prog 34 #[.pointer (some ⟨T, 0, none⟩), .int .i64 i] W (SideO (fun w' U' => PV H S T w' U' V (clI s i)) Vs W (.int .i64 (ev : Int))) from by rw [hev]; exact I.cl h GG.out hB NO.out i WN.out)
    have RG := hide (fun (W : World) (Vs : Nat → Prop) (h : Rv R T2 G W Vs V2 s) => show Calls Tryz.prog 46 #[.pointer (some ⟨T2, 0, none⟩), .int .i64 i] W (SideO (fun w' U' => Rv R T2 G w' U' V2 (clI s i)) Vs W (.int .i64 (ev : Int))) from by rw [hev]; exact rv_cl h GG.out hB i)
    have EQ := hide (show stepV s ⟨7, i, nm, nt, a, l, c, ys⟩ = clI s i from rfl)
    have T1d := hide (T1.out.below KP KR (Below.refl W1.heap.size W1).drew)
    have x0 := C1.out.cells.1
    have x1 : W1.cell? ⟨Xb, 1, none⟩ = some (.int .i64 i) := C1.out.cells.2.1
    have xv : W1.cell? ⟨V2, 0, none⟩ = some (.pointer (some ⟨T2, 0, none⟩)) := Rv.c0 T1.out.ds
    have ND := hide (fun (W : World) (Vs : Nat → Prop) (h : PV H S T W Vs V s) => I.nodes h GG.out hB NO.out)
    clear hev
    go_wp2_with fail
    clear x0
    go_region_held3 (fun w' => w'.cell? ⟨Xb, 1, none⟩ = some (.int .i64 i) ∧ w'.cell? ⟨V2, 0, none⟩ = some (.pointer (some ⟨T2, 0, none⟩))) (first | exact ⟨x1, xv⟩ | exact ⟨m1, mv⟩ | exact ⟨y1, yv⟩ | exact ⟨z1, zv⟩) (first
      | (go_at_call 17; refine (ND.out _ _ T1d.out.1.ps).mono ?_; rintro e w3 ⟨rfl, b3⟩; have t3 := T1d.out.1.below KP KR b3; have T3 := hide t3.1; have S3 := hide (show Stay (Xb :: X) W1 w3 from fun g hg => (t3.2 g hg).trans (T1d.out.2 g hg)); have C3 := hide (C1.out.stay S3.out MX.out); have m1 : w3.cell? ⟨Xb, 1, none⟩ = some (.int .i64 i) := C3.out.cells.2.1; have mv : w3.cell? ⟨V2, 0, none⟩ = some (.pointer (some ⟨T2, 0, none⟩)) := Rv.c0 T3.out.ds; clear t3 b3)
      | (go_at_call 34; refine (LF.out _ _ T3.out.ps).mono ?_; intro en w4 hs; obtain ⟨rfl, U4, t4, h4⟩ := T3.out.left KP KR hs; have T4 := hide t4; have S4 := hide (show Stay (Xb :: X) W1 w4 from fun g hg => (h4 g hg).trans (S3.out g hg)); have C4 := hide (C1.out.stay S4.out MX.out); have y1 : w4.cell? ⟨Xb, 1, none⟩ = some (.int .i64 i) := C4.out.cells.2.1; have yv : w4.cell? ⟨V2, 0, none⟩ = some (.pointer (some ⟨T2, 0, none⟩)) := Rv.c0 T4.out.ds; clear hs t4 h4)
      | (go_at_call 46; refine (RG.out _ _ T4.out.ds).mono ?_; intro en w5 hs; obtain ⟨rfl, D5, t5, h5⟩ := T4.out.right KP KR hs; have T5 := hide t5; have S5 := hide (show Stay (Xb :: X) W1 w5 from fun g hg => (h5 g hg).trans (S4.out g hg)); have C5 := hide (C1.out.stay S5.out MX.out); have z1 : w5.cell? ⟨Xb, 1, none⟩ = some (.int .i64 i) := C5.out.cells.2.1; have zv : w5.cell? ⟨V2, 0, none⟩ = some (.pointer (some ⟨T2, 0, none⟩)) := Rv.c0 T5.out.ds; clear hs t5 h5)
      | (go_at_call 41; refine (num_any _ _).mono ?_; rintro e w' ⟨rfl, rfl⟩))
    go_wp2_with fail
    go_ret
    exact ⟨rfl, FIN.out _ _ _ _ EQ.out T5.out S5.out⟩
  by_cases d8 : d = 8
  · subst d8
    obtain ⟨ev, hev⟩ : ∃ ev, ev = wrE s.so i 0 l := ⟨_, rfl⟩
    have g0 : ((ev : Int) == (ev : Int)) = true := by simp
    have LF := hide (fun (W : World) (Vs : Nat → Prop) (h : PV H S T W Vs V s) (hbel : Below w.heap.size w W) (hap : 0 < l → ∀ b o, a = some ⟨b, o, none⟩ → ¬ Vs b) => show Calls Tryz.prog 27 #[.pointer (some ⟨S, 0, none⟩), .int .i64 i, .int .i64 0, .slice a l c] W (SideO (fun w' U' => PV H S T w' U' V (wrtI s i 0 ys)) Vs W (.int .i64 (ev : Int))) from by rw [hev]; exact I.wr h GG.out hB NO.out WN.out (by decide) (HB.out.1.below hbel) HB.out.2.2.2.1 (bytes_of_came HB.out) HL.out hap)
    have RG := hide (fun (W : World) (Vs : Nat → Prop) (h : Rv R T2 G W Vs V2 s) (hbel : Below w.heap.size w W) (hap : 0 < l → ∀ b o, a = some ⟨b, o, none⟩ → ¬ Vs b) => show Calls Tryz.prog 47 #[.pointer (some ⟨G, 0, none⟩), .int .i64 i, .int .i64 0, .slice a l c] W (SideO (fun w' U' => Rv R T2 G w' U' V2 (wrtI s i 0 ys)) Vs W (.int .i64 (ev : Int))) from by rw [hev]; exact rv_wr h (by decide) (HB.out.1.below hbel) HB.out.2.2.2.1 (bytes_of_came HB.out) HL.out hap)
    have EQ := hide (show stepV s ⟨8, i, nm, nt, a, l, c, ys⟩ = wrtI s i 0 ys from rfl)
    have T1d := hide (T1.out.below KP KR (Below.refl W1.heap.size W1).drew)
    have x0 := C1.out.cells.1
    have x1 : W1.cell? ⟨Xb, 1, none⟩ = some (.int .i64 i) := C1.out.cells.2.1
    have x4 : W1.cell? ⟨Xb, 4, none⟩ = some (.slice a l c) := C1.out.cells.2.2.2.2
    have xv : W1.cell? ⟨V2, 1, none⟩ = some (.pointer (some ⟨G, 0, none⟩)) := Rv.c1 T1.out.ds
    have ND := hide (fun (W : World) (Vs : Nat → Prop) (h : PV H S T W Vs V s) => I.store h GG.out hB NO.out)
    clear hev
    go_wp2_with fail
    clear x0
    go_region_held3 (fun w' => w'.cell? ⟨Xb, 1, none⟩ = some (.int .i64 i) ∧ w'.cell? ⟨Xb, 4, none⟩ = some (.slice a l c) ∧ w'.cell? ⟨V2, 1, none⟩ = some (.pointer (some ⟨G, 0, none⟩))) (first | exact ⟨x1, x4, xv⟩ | exact ⟨m1, m4, mv⟩ | exact ⟨y1, y4, yv⟩ | exact ⟨z1, z4, zv⟩) (first
      | (go_at_call 26; refine (ND.out _ _ T1d.out.1.ps).mono ?_; rintro e w3 ⟨rfl, b3⟩; have t3 := T1d.out.1.below KP KR b3; have T3 := hide t3.1; have S3 := hide (show Stay (Xb :: X) W1 w3 from fun g hg => (t3.2 g hg).trans (T1d.out.2 g hg)); have C3 := hide (C1.out.stay S3.out MX.out); have m1 : w3.cell? ⟨Xb, 1, none⟩ = some (.int .i64 i) := C3.out.cells.2.1; have m4 : w3.cell? ⟨Xb, 4, none⟩ = some (.slice a l c) := C3.out.cells.2.2.2.2; have mv : w3.cell? ⟨V2, 1, none⟩ = some (.pointer (some ⟨G, 0, none⟩)) := Rv.c1 T3.out.ds; clear t3 b3)
      | (go_at_call 27; refine (LF.out _ _ T3.out.ps T3.out.bel (fun h0 b o e => (apartV T3.out HB.out.1 h0 b o e).1)).mono ?_; intro en w4 hs; obtain ⟨rfl, U4, t4, h4⟩ := T3.out.left KP KR hs; have T4 := hide t4; have S4 := hide (show Stay (Xb :: X) W1 w4 from fun g hg => (h4 g hg).trans (S3.out g hg)); have C4 := hide (C1.out.stay S4.out MX.out); have y1 : w4.cell? ⟨Xb, 1, none⟩ = some (.int .i64 i) := C4.out.cells.2.1; have y4 : w4.cell? ⟨Xb, 4, none⟩ = some (.slice a l c) := C4.out.cells.2.2.2.2; have yv : w4.cell? ⟨V2, 1, none⟩ = some (.pointer (some ⟨G, 0, none⟩)) := Rv.c1 T4.out.ds; clear hs t4 h4)
      | (go_at_call 47; refine (RG.out _ _ T4.out.ds T4.out.bel (fun h0 b o e => (apartV T4.out HB.out.1 h0 b o e).2)).mono ?_; intro en w5 hs; obtain ⟨rfl, D5, t5, h5⟩ := T4.out.right KP KR hs; have T5 := hide t5; have S5 := hide (show Stay (Xb :: X) W1 w5 from fun g hg => (h5 g hg).trans (S4.out g hg)); have C5 := hide (C1.out.stay S5.out MX.out); have z1 : w5.cell? ⟨Xb, 1, none⟩ = some (.int .i64 i) := C5.out.cells.2.1; have z4 : w5.cell? ⟨Xb, 4, none⟩ = some (.slice a l c) := C5.out.cells.2.2.2.2; have zv : w5.cell? ⟨V2, 1, none⟩ = some (.pointer (some ⟨G, 0, none⟩)) := Rv.c1 T5.out.ds; clear hs t5 h5)
      | (go_at_call 41; refine (num_any _ _).mono ?_; rintro e w' ⟨rfl, rfl⟩))
    go_wp2_with fail
    go_ret
    exact ⟨rfl, FIN.out _ _ _ _ EQ.out T5.out S5.out⟩
  · obtain ⟨q0, q1, q2, q3, hq⟩ : ∃ q0 q1 q2 q3, statA s nm = .agg #[.int .i64 q0, .int .i64 q1, .bool q2, .int .i64 q3] := statA_form s nm
    obtain ⟨ev, hev⟩ : ∃ z, z = (walkI s nm).2 := ⟨_, rfl⟩
    have g0 : ((ev : Int) == (ev : Int)) = true := by simp
    have LF := hide (fun (W : World) (Vs : Nat → Prop) (h : PV H S T W Vs V s) => show Calls Tryz.prog 28 #[.pointer (some ⟨V, 0, none⟩), .string (bt nm)] W (fun e w' => e = .returned (.tuple #[.agg #[.int .i64 q0, .int .i64 q1, .bool q2, .int .i64 q3], .int .i64 (ev : Int)]) ∧ Below W.heap.size W w') from by rw [hev, ← hq]; exact I.st h GG.out hB NO.out nm HS.out)
    have RG := hide (fun (W : World) (Vs : Nat → Prop) (h : Rv R T2 G W Vs V2 s) => show Calls Tryz.prog 48 #[.pointer (some ⟨V2, 0, none⟩), .string (bt nm)] W (fun e w' => e = .returned (.tuple #[.agg #[.int .i64 q0, .int .i64 q1, .bool q2, .int .i64 q3], .int .i64 (ev : Int)]) ∧ Below W.heap.size W w') from by rw [hev, ← hq]; exact rv_st h GG.out nm HS.out)
    have EQ := hide (show stepV s ⟨d, i, nm, nt, a, l, c, ys⟩ = s from by unfold stepV; rw [if_neg d0, if_neg d1, if_neg d2, if_neg d3, if_neg d4, if_neg d7, if_neg d8])
    have x0 := C1.out.cells.1
    have x2 := C1.out.cells.2.2.1
    clear hev hq
    go_upto_region 19 with (go_at_call 28; refine (LF.out _ _ T1.out.ps).mono ?_; rintro e w4 ⟨rfl, b4⟩; have t4 := T1.out.below KP KR b4; have T4 := hide t4.1; have C4 := hide (C1.out.stay t4.2 MX.out); have S4 := hide t4.2; have y2 := C4.out.cells.2.2.1; clear t4 b4)
    have bA := (Below.refl w4.heap.size w4).alloc (Nat.le_refl _) (.cells #[.int .i64 q0, .int .i64 q1, .bool q2, .int .i64 q3] 54)
    have tA := T4.out.below KP KR bA
    have TA := hide tA.1
    have SA := hide (show Stay (Xb :: X) W1 _ from fun g hg => (tA.2 g hg).trans (S4.out g hg))
    have CA := hide (C1.out.stay SA.out MX.out)
    have HY1 := hide (heap_alloc_new w4 (.cells #[.int .i64 q0, .int .i64 q1, .bool q2, .int .i64 q3] 54))
    have yA := CA.out.cells.2.2.1
    clear tA bA y2
    generalize w4.alloc (.cells #[.int .i64 q0, .int .i64 q1, .bool q2, .int .i64 q3] 54) = wA at *
    generalize w4.heap.size = Y1 at *
    go_upto_region 20 with (go_at_call 48; refine (RG.out _ _ TA.out.ds).mono ?_; rintro e w5 ⟨rfl, b5⟩; have t5 := TA.out.below KP KR b5; have T5 := hide t5.1; have S5 := hide (show Stay (Xb :: X) W1 w5 from fun g hg => (t5.2 g hg).trans (SA.out g hg)); have HY5 := hide ((b5.block Y1 (lt_of_heap HY1.out)).trans HY1.out); clear t5 b5)
    have bB := (Below.refl w5.heap.size w5).alloc (Nat.le_refl _) (.cells #[.int .i64 q0, .int .i64 q1, .bool q2, .int .i64 q3] 54)
    have tB := T5.out.below KP KR bB
    have TB := hide tB.1
    have SB := hide (show Stay (Xb :: X) W1 _ from fun g hg => (tB.2 g hg).trans (S5.out g hg))
    have HYB := hide ((bB.block Y1 (lt_of_heap HY5.out)).trans HY5.out)
    have HY2 := hide (heap_alloc_new w5 (.cells #[.int .i64 q0, .int .i64 q1, .bool q2, .int .i64 q3] 54))
    clear tB bB
    generalize w5.alloc (.cells #[.int .i64 q0, .int .i64 q1, .bool q2, .int .i64 q3] 54) = wB at *
    generalize w5.heap.size = Y2 at *
    have k0 : wB.cell? ⟨Y1, 0, none⟩ = some (.int .i64 q0) := by rw [cell_of_row _ _ _ _ _ _ HYB.out]; rfl
    have k1 : wB.cell? ⟨Y1, 1, none⟩ = some (.int .i64 q1) := by rw [cell_of_row _ _ _ _ _ _ HYB.out]; rfl
    have k2 : wB.cell? ⟨Y1, 2, none⟩ = some (.bool q2) := by rw [cell_of_row _ _ _ _ _ _ HYB.out]; rfl
    have k3 : wB.cell? ⟨Y1, 3, none⟩ = some (.int .i64 q3) := by rw [cell_of_row _ _ _ _ _ _ HYB.out]; rfl
    have m0 : wB.cell? ⟨Y2, 0, none⟩ = some (.int .i64 q0) := by rw [cell_of_row _ _ _ _ _ _ HY2.out]; rfl
    have m1 : wB.cell? ⟨Y2, 1, none⟩ = some (.int .i64 q1) := by rw [cell_of_row _ _ _ _ _ _ HY2.out]; rfl
    have m2 : wB.cell? ⟨Y2, 2, none⟩ = some (.bool q2) := by rw [cell_of_row _ _ _ _ _ _ HY2.out]; rfl
    have m3 : wB.cell? ⟨Y2, 3, none⟩ = some (.int .i64 q3) := by rw [cell_of_row _ _ _ _ _ _ HY2.out]; rfl
    go_wp2_with (go_at_call 41; refine (num_any _ _).mono ?_; rintro e w' ⟨rfl, rfl⟩)
    go_ret
    exact ⟨by simp, FIN.out _ _ _ _ EQ.out TB.out SB.out⟩
end
end Go.Proofs.YtndfnglcichngaaGreatDoor
namespace Go.Proofs.YtndfnglcichngaaGreatDoor
open Go.ChangeShapes Go.WideShapes Go.ChangeAt Go.RowKit
set_option linter.unusedVariables false
set_option linter.unusedSimpArgs false
section
variable {PV : Nat → Nat → Nat → Rel In}
/-- Paths behind acts. -/
def PlayedV (PV : Nat → Nat → Nat → Rel In) (w w' : World) (v : Value) : Prop := ∃ V H S T U s, v = .pointer (some ⟨V, 0, none⟩) ∧ OneO (PV H S T) w w' U [] V s ∧ GoodP s [] 1000 ∧ NoOrph s 0
set_option maxRecDepth 100000 in
set_option maxHeartbeats 8000000 in
theorem played22_any (I : PVfs PV) (w : World) (a : Option Addr) (n c : Nat) (zs : List Va) (hr : Reads 5 vaV w a n zs) (wf : ∀ x ∈ zs, VaWf w x) (few : ∀ x ∈ zs, VaFew x) (hn : n ≤ 100) : Calls Tryz.prog 15 #[.slice a n c] w fun e w' => ∃ v, e = .returned v ∧ PlayedV PV w w' v := by
  have HR := hide hr
  have WF := hide wf
  have FW := hide few
  clear hr wf few
  go_enter Tryz.func15, Tryz.ntmps15
  go_wp2_with fail
  go_at_call 12
  refine (both22_any I _).mono ?_
  rintro e w1 ⟨V, V2, H, S, T, R, T2, G, U, D, rfl, t1⟩
  have T1 := hide t1
  clear t1
  go_wp2_with fail
  go_loopw [5] (fun i wr => ∃ (k : Nat) (s : In) (U D : Nat → Prop), k ≤ n ∧ i = .int .i64 (k : Int) ∧ Hid (TwinV PV w wr U D [] H S T R T2 G V V2 s ∧ GoodP s [] ((k : Int) + 1) ∧ NoOrph s 0)) (fun i _ => n - (intOf i).toNat)
  case atStart => exact ⟨0, _, _, _, Nat.zero_le _, rfl, T1.out, by simpa using newI_good 8, newI_orph 8⟩
  case round =>
    clear T1 U D
    obtain ⟨k, s, U, D, hk, rfl, hT⟩ := hrel
    by_cases hlt : k < n
    · have k0 : (0 : Int) ≤ (k : Int) := by omega
      have k1 : (k : Int) < (n : Int) := by omega
      obtain ⟨x, b, off, hx, rfl, c0, c1, c2, c3, c4⟩ := (HR.out.below hT.out.1.bel).actV hlt
      have hm := List.mem_of_getElem? hx
      have wf := WF.out x hm
      have fw := FW.out x hm
      have DN := hide (done22_any I hT.out.1 hT.out.2.1 (by omega) hT.out.2.2 x wf.2.1 (by have := fw.1; omega) (by have := fw.2.1; omega) (by have := fw.2.2; omega) wf.2.2.2.2)
      have G2 := hide (stepV_good hT.out.2.1 x (bytes_of_came wf.2.2.2.2))
      have O2 := hide (stepV_orph hT.out.2.2 hT.out.2.1 x)
      obtain ⟨s2, hs2⟩ : ∃ z, z = stepV s x := ⟨_, rfl⟩
      rw [← hs2] at G2 O2 DN
      obtain ⟨d, i, nm, nt, xa, xl, xc, ys⟩ := x
      clear hx hm wf fw hs2
      go_wp2_with (go_at_call 13; refine DN.out.mono ?_; rintro e w4 ⟨rfl, U4, D4, t4, -⟩; have T4 := hide t4; clear t4)
      go_roundw
      case rel => exact ⟨k + 1, _, _, _, by omega, by go_num, T4.out, by have h := G2.out; rw [show ((k + 1 : Nat) : Int) + 1 = (k : Int) + 1 + 1 from by omega]; exact h, O2.out⟩
      case measure => simp [intOf]; omega
    · obtain rfl : k = n := by omega
      have t := hT.out.1
      have FIN := hide (show PlayedV PV w wr (.pointer (some ⟨V, 0, none⟩)) from ⟨V, H, S, T, U, s, rfl, ⟨t.ps, t.bel, t.lo, fun g hg => absurd hg List.not_mem_nil⟩, hT.out.2.1.more (by omega), hT.out.2.2⟩)
      clear t
      go_wp2_with fail
      go_ret
      exact ⟨_, rfl, FIN.out⟩
end
end Go.Proofs.YtndfnglcichngaaGreatDoor
namespace Go.Proofs.YtndfnglcichngaaGreatDoor
open Go.ChangeShapes Go.WideShapes Go.ChangeAt Go.RowKit
set_option linter.unusedVariables false
set_option linter.unusedSimpArgs false
theorem apart22 {w wr : World} {U : Nat → Prop} {X : List Nat} {S : Nat} {σ : Type} {P : Rel σ} {s : σ} (h : OneO P w wr U X S s) {q : IntKind} {a : Option Addr} {n : Nat} {xs : List Int} (hi : Ints q w a n xs) (hn : 0 < n) : ∀ b o, a = some ⟨b, o, none⟩ → ¬ U b := by
  intro b o e hU
  obtain ⟨b', off, e', hc⟩ := hi.2 hn
  rw [e] at e'
  injection e' with e'
  injection e' with e1 e2 _
  have := lt_of_cell? (hc 0 hn)
  have h2 := h.lo b hU
  have h3 : b' < w.heap.size := this
  omega
section
variable {PV : Nat → Nat → Nat → Rel In}
def oneO (N : Nat) (b : List Int) : So := ⟨[⟨1, b⟩], N - blkN b.length⟩
set_option maxRecDepth 100000 in
set_option maxHeartbeats 8000000 in
theorem walk_vfsOpenC (I : PVfs PV) (w : World) (a : Option Addr) (n c : Nat) (xs : List Int) (hx : CameIn .u8 w a n c xs) (k : Int) : Calls Tryz.prog 6 #[.slice a n c, .int .i64 k] w fun e w' => e = .returned (.bool true) ∧ Below w.heap.size w w' := by
  by_cases hn : 512 < n
  · have n1 : (512 : Int) < (n : Int) := by omega
    clear hx
    go_enter Tryz.func6, Tryz.ntmps6
    go_wp2_with (go_at_call 11; refine (awake22_any I _).mono ?_; rintro en w1 ⟨rfl, b1⟩)
    go_ret
    exact ⟨rfl, b1⟩
  have n1 : ¬ (512 : Int) < (n : Int) := by omega
  have HX := hide hx
  have HN := hide (show n ≤ 512 from by omega)
  have BY := hide (bytes_of_came hx)
  have LX := hide (show xs.length = n from hx.1.1)
  clear hx hn
  go_enter Tryz.func6, Tryz.ntmps6
  go_wp2_with fail
  go_at_call 30
  refine (low_i k 8 w (by decide) (by decide)).mono ?_
  rintro e w0 ⟨⟨r, ⟨r0, r1⟩, rfl⟩, rfl⟩
  obtain ⟨r, rfl⟩ := Int.eq_ofNat_of_zero_le r0
  obtain ⟨N, hN⟩ : ∃ N : Nat, N = 8 + r := ⟨_, rfl⟩
  have LB := hide (show (8 : Int) + (r : Int) = (N : Int) from by omega)
  have HN8 := hide (show 8 ≤ N ∧ N ≤ 16 from by omega)
  clear hN
  have NW := hide (fun W => new_ok W N (by have := HN8.out; omega) (by have := HN8.out; omega))
  have WQ := hide (one_wr (N := N) (b := xs) HN8.out.1 (by have := LX.out; have := HN.out; omega))
  have DQ := hide (one_dr (N := N) (b := xs) HN8.out.1 (by have := LX.out; have := HN.out; omega))
  have g0 := newI_good N
  have g1 : GoodP ⟨nX1, ⟨[⟨1, []⟩], N⟩⟩ [] 2 := by have h := (opnV_good g0 tX 1).1; rw [one_open] at h; exact h
  have g2 : GoodP ⟨nX1, oneO N xs⟩ [] 2 := by have h := g1.wrt 1 0 BY.out; unfold wrtI at h; rw [WQ.out.2] at h; exact h
  have g3 : GoodP ⟨nX2, oneO N xs⟩ [] 2 := by have h := (remV_good g2 tX false).1; rw [one_rem] at h; exact h
  have g4 : GoodP ⟨nX3, ⟨[], N⟩⟩ [] 2 := by have h := (g3.cl 1).1; rw [(one_close _).2.1] at h; unfold oneO at h; rw [DQ.out] at h; exact h
  have n0 := newI_orph N
  have o1 : NoOrph ⟨nX1, ⟨[⟨1, []⟩], N⟩⟩ 0 := by have h := (opnV_good g0 tX 1).2 n0; rw [one_open] at h; exact h
  have o2 : NoOrph ⟨nX1, oneO N xs⟩ 0 := o1
  have o3 : NoOrph ⟨nX2, oneO N xs⟩ 0 := by have h := (remV_good g2 tX false).2 o2; rw [one_rem] at h; exact h
  have o4 : NoOrph ⟨nX3, ⟨[], N⟩⟩ 0 := by have h := (g3.cl 1).2 o3; rw [(one_close _).2.1] at h; unfold oneO at h; rw [DQ.out] at h; exact h
  have RQ := hide (rdB_all (n := 600) g2.so (b := xs) (show getFi (oneO N xs).l 1 = some xs from rfl) (by decide))
  have G0 := hide g0
  have G1 := hide g1
  have G2 := hide g2
  have G3 := hide g3
  have G4 := hide g4
  have O0 := hide n0
  have O1 := hide o1
  have O2 := hide o2
  have O3 := hide o3
  have O4 := hide o4
  clear g0 g1 g2 g3 g4 n0 o1 o2 o3 o4
  go_wp2_with fail
  rw [LB.out]
  clear r0 r1
  go_at_call 29
  refine (NW.out _).mono ?_
  rintro e w1 ⟨H, A, Q, rfl, f1, b1, hb1⟩
  have F1 := hide f1
  have B1 := hide b1
  have HB1 := hide hb1
  clear f1 b1 hb1
  go_wp2_with fail
  go_at_call 31
  refine (I.new F1.out).mono ?_
  rintro e w2 ⟨V, S, T, U, rfl, p2, b2, hU⟩
  have K := I.keeps H S T
  have T1 := hide (OneO.first (P := PV H S T) p2 (B1.out.trans (b2.mono B1.out.size)) (fun i hi => (hU i hi).elim (HB1.out i) (fun e => Nat.le_trans B1.out.size e)))
  clear p2 b2 hU F1 B1 HB1
  have FR := hide (fun (W : World) (U : Nat → Prop) (s : In) (g : GoodP s [] 2) (o : NoOrph s 0) (h : PV H S T W U V s) => I.free h g (by decide) o)
  have ST := hide (fun (W : World) (U : Nat → Prop) (s : In) (g : GoodP s [] 2) (o : NoOrph s 0) (h : PV H S T W U V s) => I.store h g (by decide) o)
  have ND := hide (fun (W : World) (U : Nat → Prop) (s : In) (g : GoodP s [] 2) (o : NoOrph s 0) (h : PV H S T W U V s) => I.nodes h g (by decide) o)
  have G02 : Hid (GoodP (newI N) [] 2) := hide (by have g := G0.out; exact { g with b1 := by decide, opn := fun i => ⟨(g.opn i).1, by have := (g.opn i).2; omega⟩ })
  have OP := hide (fun (W : World) (U : Nat → Prop) (h : PV H S T W U V (newI N)) => show Calls Tryz.prog 19 #[.pointer (some ⟨V, 0, none⟩), .string (bt tX), .int .i64 1] W (SideO (fun w' U' => PV H S T w' U' V ⟨nX1, ⟨[⟨1, []⟩], N⟩⟩) U W (.tuple #[.int .i64 1, .int .i64 0])) from by have h := I.op h G0.out (by decide) O0.out tX 1 (by decide) (by decide); rw [one_open] at h; exact h)
  have UL := hide (fun (W : World) (U : Nat → Prop) (h : PV H S T W U V ⟨nX1, oneO N xs⟩) => show Calls Tryz.prog 21 #[.pointer (some ⟨V, 0, none⟩), .string (bt tX)] W (SideO (fun w' U' => PV H S T w' U' V ⟨nX2, oneO N xs⟩) U W (.int .i64 0)) from by have h := I.ul h G2.out (by decide) O2.out tX (by decide); rw [one_rem] at h; exact h)
  have WK := hide (fun (W : World) (U : Nat → Prop) (h : PV H S T W U V ⟨nX2, oneO N xs⟩) => show Calls Tryz.prog 25 #[.pointer (some ⟨V, 0, none⟩), .string (bt tX)] W (fun e w' => e = .returned (.tuple #[.int .i64 0, .int .i64 9]) ∧ Below W.heap.size W w') from by have h := I.wk h G3.out (by decide) O3.out tX (by decide); rw [one_gone] at h; exact h)
  have CL := hide (fun (W : World) (U : Nat → Prop) (h : PV H S T W U V ⟨nX2, oneO N xs⟩) => show Calls Tryz.prog 34 #[.pointer (some ⟨T, 0, none⟩), .int .i64 1] W (SideO (fun w' U' => PV H S T w' U' V ⟨nX3, ⟨[], N⟩⟩) U W (.int .i64 0)) from by have h := I.cl h G3.out (by decide) O3.out 1 (by decide); rw [(one_close _).2.1, (one_close _).1] at h; unfold oneO at h; rw [DQ.out] at h; exact h)
  go_wp2_with fail
  go_at_call 32
  refine (show Calls Tryz.prog 32 #[.pointer (some ⟨H, 0, none⟩)] _ (fun e w' => e = .returned (.int .i64 (N : Nat)) ∧ _ = w') from FR.out _ _ _ G02.out O0.out T1.out.ps).mono ?_
  rintro e w' ⟨rfl, rfl⟩
  go_wp2_with fail
  go_at_call 19
  refine (OP.out _ _ T1.out.ps).mono ?_
  intro en w3 hs
  obtain ⟨rfl, U3, t3, -⟩ := T1.out.side hs
  have T3 := hide t3
  clear hs t3 T1
  go_wp2_with fail
  go_at_call 26
  refine (ST.out _ _ _ G1.out O1.out T3.out.ps).mono ?_
  rintro e w4 ⟨rfl, b4⟩
  have T4 := hide (T3.out.below K b4).1
  clear b4 T3
  have WR := hide (show Calls Tryz.prog 27 #[.pointer (some ⟨S, 0, none⟩), .int .i64 1, .int .i64 0, .slice a n c] w4 (SideO (fun w' U' => PV H S T w' U' V ⟨nX1, oneO N xs⟩) U3 w4 (.int .i64 0)) from by
    have h := I.wr T4.out.ps G1.out (by decide) O1.out (id := 1) (off := 0) (by decide) (by decide) (HX.out.1.below T4.out.bel) HX.out.2.2.2.1 BY.out (by have := HN.out; omega) (fun hp => apart22 T4.out HX.out.1 hp)
    unfold wrtI at h
    have e1 := WQ.out.1
    rw [LX.out] at e1
    rw [WQ.out.2, e1] at h
    exact h)
  go_wp2_with fail
  go_at_call 27
  refine (WR.out).mono ?_
  intro en w5 hs
  obtain ⟨rfl, U5, t5, -⟩ := T4.out.side hs
  have T5 := hide t5
  clear hs t5 T4
  go_wp2_with fail
  go_at_call 21
  refine (UL.out _ _ T5.out.ps).mono ?_
  intro en w6 hs
  obtain ⟨rfl, U6, t6, -⟩ := T5.out.side hs
  have T6 := hide t6
  clear hs t6 T5
  go_wp2_with fail
  go_at_call 25
  refine (WK.out _ _ T6.out.ps).mono ?_
  rintro e w7 ⟨rfl, b7⟩
  have T7 := hide (T6.out.below K b7).1
  clear b7 T6
  go_wp2_with fail
  go_at_call 26
  refine (ST.out _ _ _ G3.out O3.out T7.out.ps).mono ?_
  rintro e w8 ⟨rfl, b8⟩
  have T8 := hide (T7.out.below K b8).1
  clear b8 T7
  have RD := hide (show Calls Tryz.prog 33 #[.pointer (some ⟨S, 0, none⟩), .int .i64 1, .int .i64 0, .int .i64 600] w8 (ReadIs (oneO N xs) 1 0 600 w8) from I.rd T8.out.ps G3.out (by decide) O3.out (by decide) (by decide) (by decide))
  go_wp2_with fail
  go_at_call 33
  refine (show Calls Tryz.prog 33 #[.pointer (some ⟨S, 0, none⟩), .int .i64 1, .int .i64 0, .int .i64 600] w8 (fun e w' => ∃ A c, e = .returned (.tuple #[.slice A n c, .int .i64 0]) ∧ Ints .u8 w' A n xs ∧ (∀ b o, A = some ⟨b, o, none⟩ → ¬ U6 b) ∧ Below w8.heap.size w8 w') from RD.out.mono (fun e w' => by
    rintro ⟨v, rfl, o, bl⟩
    rw [RQ.out.2] at o
    obtain ⟨A, c, rfl, i, -⟩ := own_ints o
    refine ⟨A, c, ?_, LX.out ▸ i, fun g o2 e hU => ?_, bl⟩
    · rw [RQ.out.1, LX.out]; rfl
    · obtain ⟨A', c', e', _, _, _, hz⟩ := own_sliceR o
      injection e' with e1 _ e2
      subst e1 e2
      have h0 : o2 = 0 := by have := (hz _ e).1; exact this
      subst h0
      have h5 := (o.lt g (by rw [e]; rfl)).1
      have := K.lt T8.out.ps g hU
      omega)).mono ?_
  rintro e w9 ⟨A9, c9, rfl, i9, d9, b9⟩
  have T9 := hide (T8.out.below K b9).1
  have I9 := hide i9
  have D9 := hide d9
  clear i9 d9 b9 T8 RD
  go_wp2_with fail
  go_at_call 17
  refine (ND.out _ _ _ G3.out O3.out T9.out.ps).mono ?_
  rintro e w10 ⟨rfl, b10⟩
  have T10 := hide (T9.out.below K b10).1
  have I10 := hide (I9.out.below b10)
  clear b10 T9
  go_wp2_with fail
  go_at_call 34
  refine (CL.out _ _ T10.out.ps).mono ?_
  rintro en w11 ⟨rfl, U11, p11, u11, hU11⟩
  have T11 := hide (T10.out.move p11 u11 hU11).1
  have I11 := hide (u11.ints I10.out (fun b o e => D9.out b o e))
  clear p11 u11 hU11 T10 I10 I9
  go_wp2_with fail
  go_at_call 26
  refine (ST.out _ _ _ G4.out O4.out T11.out.ps).mono ?_
  rintro e w12 ⟨rfl, b12⟩
  have T12 := hide (T11.out.below K b12).1
  have I12 := hide (I11.out.below b12)
  clear b12 T11
  go_wp2_with fail
  go_at_call 35
  refine (show Calls Tryz.prog 35 #[.pointer (some ⟨S, 0, none⟩), .int .i64 1] w12 (fun e w' => e = .returned (.tuple #[.int .i64 0, .int .i64 4]) ∧ Below w12.heap.size w12 w') from I.sz T12.out.ps G4.out (by decide) O4.out (id := 1) (by decide)).mono ?_
  rintro e w13 ⟨rfl, b13⟩
  have T13 := hide (T12.out.below K b13).1
  have I13 := hide (I12.out.below b13)
  clear b13 T12
  have X13 := hide (HX.out.1.below T13.out.bel)
  have N63 := hide (show xs.length ≤ 9223372036854775807 from by have := LX.out; have := HN.out; omega)
  have X63 := hide (show n ≤ 9223372036854775807 from by have := HN.out; omega)
  have AF := hide (fun (W : World) (b : Below w13.heap.size w13 W) => (T13.out.below K b).1)
  go_wp2_with fail
  go_at_call 36
  refine (same_any _ _ _ _ _ xs _ I13.out X13.out X63.out).mono ?_
  rintro en w14 ⟨rfl, k14, rfl⟩
  have T14 := hide (AF.out _ (below_drewN (Below.refl _ _) k14))
  go_wp2_with fail
  go_at_call 32
  refine (show Calls Tryz.prog 32 #[.pointer (some ⟨H, 0, none⟩)] _ (fun e w' => e = .returned (.int .i64 (N : Nat)) ∧ _ = w') from FR.out _ _ _ G4.out O4.out T14.out.ps).mono ?_
  rintro e w' ⟨rfl, rfl⟩
  go_wp2_with fail
  go_at_call 17
  refine (ND.out _ _ _ G4.out O4.out T14.out.ps).mono ?_
  rintro e w15 ⟨rfl, b15⟩
  have T15 := hide (T14.out.below K b15).1
  clear b15 T14
  go_wp2_with fail
  go_at_call 18
  refine (show Calls Tryz.prog 18 #[.pointer (some ⟨T, 0, none⟩)] w15 (fun e w' => e = .returned (.int .i64 1) ∧ Below w15.heap.size w15 w') from by have h := I.ln T15.out.ps G4.out (by decide) O4.out; rw [show cntI ⟨nX3, ⟨[], N⟩⟩ = 1 from by kernel_rfl] at h; exact h).mono ?_
  rintro e w16 ⟨rfl, b16⟩
  have T16 := hide (T15.out.below K b16).1
  clear b16 T15
  go_wp2_with (go_at_call 11; refine (awake22_any I _).mono ?_; rintro en w17 ⟨rfl, b17⟩; have T17 := hide (T16.out.below K b17).1; clear b17)
  go_ret
  exact ⟨rfl, T17.out.bel⟩
end
end Go.Proofs.YtndfnglcichngaaGreatDoor
namespace Go.Proofs.YtndfnglcichngaaGreatDoor
open Go.ChangeShapes Go.WideShapes Go.ChangeAt Go.RowKit
set_option linter.unusedVariables false
set_option linter.unusedSimpArgs false
theorem statA_is {s : In} {t : Txt} {x : Nat} (h : walkI s t = (x, 0)) (hx : x < 16) (h1 : (s.n x).is = true) (h2 : (s.n x).dir = false) : statA s t = .agg #[.int .i64 (x : Int), .int .i64 (s.n x).links, .bool false, .int .i64 (lenO (getFi s.so.l x) : Nat)] := by
  unfold statA
  rw [h, if_pos rfl]
  show nodA s (x : Int) = _
  unfold nodA
  rw [if_pos (isI_of hx h1), Int.toNat_natCast, h2]
  unfold gtSz
  rw [h2]; rfl
section
variable {PV : Nat → Nat → Nat → Rel In}
attribute [local go_sem] inode_same
set_option maxRecDepth 100000 in
set_option maxHeartbeats 16000000 in
theorem walk_vfsLinkedC (I : PVfs PV) (w : World) (a : Option Addr) (n c : Nat) (zs : List Va) (hin : Came 5 vaV VaWf w a n c zs) (s1 s2 : Txt) (w1l : s1.length ≤ maxLen) (w2l : s2.length ≤ maxLen) (ba : Option Addr) (bn bc : Nat) (bs : List Int) (hb : CameIn .u8 w ba bn bc bs) : Calls Tryz.prog 5 #[.slice a n c, .string (bt s1), .string (bt s2), .slice ba bn bc] w fun e w' => e = .returned (.bool true) ∧ Below w.heap.size w w' := by
  have hn : n ≤ maxLen := Nat.le_trans hin.2.1 hin.2.2.1
  have HR := hide hin.reads
  have WF := hide hin.2.2.2.2.1
  have HB := hide hb
  have BY := hide (bytes_of_came hb)
  have LX := hide (show bs.length = bn from hb.1.1)
  have hbn : bn ≤ maxLen := Nat.le_trans hb.2.1 hb.2.2.1
  have z1 := bt_size s1
  have z2 := bt_size s2
  have q1 : (s1.length : Int) ≤ 9223372036854775807 := by unfold maxLen at w1l; omega
  have q2 : (s2.length : Int) ≤ 9223372036854775807 := by unfold maxLen at w2l; omega
  have q3 : (bn : Int) ≤ 9223372036854775807 := by unfold maxLen at hbn; omega
  have AWK := hide (fun W => awake22_any I W)
  have GR := hide (great22_any (c := c) HR.out (fun y hy => ⟨(WF.out y hy).2.2.1, (WF.out y hy).2.2.2.1, Nat.le_trans (WF.out y hy).2.2.2.2.2.1 (WF.out y hy).2.2.2.2.2.2.1⟩) hn 40 (by omega))
  clear hin hb w1l w2l hbn hn
  obtain ⟨l1, hl1⟩ : ∃ z, z = s1.length := ⟨_, rfl⟩
  obtain ⟨l2, hl2⟩ : ∃ z, z = s2.length := ⟨_, rfl⟩
  have HL := hide (And.intro hl1 hl2)
  rw [← hl1] at z1 q1
  rw [← hl2] at z2 q2
  obtain ⟨y1, hy1⟩ : ∃ y, y = bt s1 := ⟨_, rfl⟩
  obtain ⟨y2, hy2⟩ : ∃ y, y = bt s2 := ⟨_, rfl⟩
  have HY := hide (And.intro hy1 hy2)
  rw [← hy1] at z1 ⊢
  rw [← hy2] at z2 ⊢
  clear hl1 hl2 hy1 hy2
  go_enter Tryz.func5, Tryz.ntmps5
  go_wp2_with fail
  go_at_call 10
  refine GR.out.mono ?_
  rintro e w' ⟨⟨r, rfl, hr⟩, rfl⟩
  cases r with
  | true =>
    clear hr
    go_wp2_with (go_at_call 11; refine (AWK.out _).mono ?_; rintro e w' ⟨rfl, hb⟩; have HB := hide hb; clear hb)
    go_ret
    exact ⟨rfl, HB.out⟩
  | false =>
    have h40 := (hr rfl).1
    have FW := hide (hr rfl).2
    clear hr
    by_cases c1 : l1 ≤ 200
    · by_cases c2 : l2 ≤ 200
      · by_cases c3 : bn ≤ 600
        · have d1 : ¬ (200 : Int) < (y1.size : Int) := by omega
          have d2 : ¬ (200 : Int) < (y2.size : Int) := by omega
          have d3 : ¬ (600 : Int) < (bn : Int) := by omega
          have S1 := hide (show s1.length ≤ 1000 from by have := HL.out.1; omega)
          have S2 := hide (show s2.length ≤ 1000 from by have := HL.out.2; omega)
          have B6 := hide (show bn ≤ 1000000 from by omega)
          have PLY := hide (played22_any I w a n c zs HR.out WF.out FW.out (by omega))
          clear c1 c2 c3 h40 GR
          go_wp2_with fail
          go_at_call 15
          refine PLY.out.mono ?_
          rintro e w1 ⟨v, rfl, V, H, S, T, U, s, rfl, t1, g1, o1⟩
          have T1 := hide t1
          have G1 := hide g1
          have O1 := hide o1
          have K := I.keeps H S T
          clear t1 g1 o1 PLY
          obtain ⟨ev, hev⟩ : ∃ ev, ev = (lnkV s s1 s2).1 := ⟨_, rfl⟩
          obtain ⟨sA, hsA⟩ : ∃ sA, sA = (lnkV s s1 s2).2 := ⟨_, rfl⟩
          have LK := hide (show Calls Tryz.prog 20 #[.pointer (some ⟨V, 0, none⟩), .string y1, .string y2] w1 (SideO (fun w' U' => PV H S T w' U' V sA) U w1 (.int .i64 (ev : Int))) from by rw [hev, hsA, HY.out.1, HY.out.2]; exact I.lk T1.out.ps G1.out (by omega) O1.out s1 s2 S1.out S2.out)
          have GA := hide (show GoodP sA [] 1000 from by rw [hsA]; exact (lnkV_good G1.out _ _).1)
          have OA := hide (show NoOrph sA 0 from by rw [hsA]; exact (lnkV_good G1.out _ _).2 O1.out)
          have LN := hide (show ev = 0 → _ from fun e => linked (a := s1) (t := s2) G1.out (hev ▸ e))
          rw [← hsA] at LN
          clear hev hsA
          go_wp2_with fail
          go_at_call 20
          refine LK.out.mono ?_
          intro en w2 hs
          obtain ⟨rfl, U2, t2, -⟩ := T1.out.side hs
          have T2 := hide t2
          clear hs t2 T1 LK
          by_cases e0 : ev = 0
          · subst e0
            obtain ⟨x, x16, hwa, hwt, his, hdir, h2l, hrest⟩ := LN.out rfl
            have K16 := hide (show (Lit.int .i64 (x : Int)).wf = true from by simp [Lit.wf, IntKind.min, IntKind.max, IntKind.bits, IntKind.signed]; omega)
            have xx : ((x : Int) == (x : Int)) = true := by simp
            obtain ⟨lk, hlk⟩ : ∃ z, z = (sA.n x).links := ⟨_, rfl⟩
            have lk2 : 2 ≤ lk := by rw [hlk]; exact h2l
            have lk3 : lk ≤ 1000 := by rw [hlk]; exact GA.out.lb x
            have gl : ((lk - 1 : Int) == (lk - 1 : Int)) = true := by simp
            have WA := hide (fun (W : World) (U : Nat → Prop) (h : PV H S T W U V sA) => show Calls Tryz.prog 25 #[.pointer (some ⟨V, 0, none⟩), .string y1] W (fun e w' => e = .returned (.tuple #[.int .i64 (x : Int), .int .i64 0]) ∧ Below W.heap.size W w') from by have h := I.wk h GA.out (by omega) OA.out s1 S1.out; rw [hwa, ← HY.out.1] at h; exact h)
            have WB := hide (fun (W : World) (U : Nat → Prop) (h : PV H S T W U V sA) => show Calls Tryz.prog 25 #[.pointer (some ⟨V, 0, none⟩), .string y2] W (fun e w' => e = .returned (.tuple #[.int .i64 (x : Int), .int .i64 0]) ∧ Below W.heap.size W w') from by have h := I.wk h GA.out (by omega) OA.out s2 S2.out; rw [hwt, ← HY.out.2] at h; exact h)
            obtain ⟨er, her⟩ : ∃ z, z = wrE sA.so x 0 bn := ⟨_, rfl⟩
            obtain ⟨sB, hsB⟩ : ∃ z, z = wrtI sA x 0 bs := ⟨_, rfl⟩
            have WR := hide (fun (W : World) (U : Nat → Prop) (h : OneO (PV H S T) w W U [] V sA) => show Calls Tryz.prog 27 #[.pointer (some ⟨S, 0, none⟩), .int .i64 (x : Int), .int .i64 0, .slice ba bn bc] W (SideO (fun w' U' => PV H S T w' U' V sB) U W (.int .i64 (er : Int))) from by rw [her, hsB]; exact I.wr h.ps GA.out (by omega) OA.out (id := x) (off := 0) K16.out (by decide) (HB.out.1.below h.bel) HB.out.2.2.2.1 BY.out B6.out (fun hp => apart22 h HB.out.1 hp))
            have GB := hide (show GoodP sB [] 1000 from by rw [hsB]; exact GA.out.wrt x 0 BY.out)
            have OB := hide (show NoOrph sB 0 from by rw [hsB]; exact OA.out)
            have EN := hide (show sB.n = sA.n from by rw [hsB]; rfl)
            obtain ⟨sz, hsz⟩ : ∃ z, z = lenO (getFi sB.so.l x) := ⟨_, rfl⟩
            have gz : ((sz : Int) == (sz : Int)) = true := by simp
            have hwaB := (walkI_n EN.out s1).trans hwa
            have hwtB := (walkI_n EN.out s2).trans hwt
            have hisB : (sB.n x).is = true := by rw [EN.out]; exact his
            have hdirB : (sB.n x).dir = false := by rw [EN.out]; exact hdir
            have STA := hide (fun (W : World) (U : Nat → Prop) (h : PV H S T W U V sB) => show Calls Tryz.prog 28 #[.pointer (some ⟨V, 0, none⟩), .string y1] W (fun e w' => e = .returned (.tuple #[.agg #[.int .i64 (x : Int), .int .i64 (lk), .bool false, .int .i64 (sz : Int)], .int .i64 0]) ∧ Below W.heap.size W w') from by have h := I.st h GB.out (by omega) OB.out s1 S1.out; rw [statA_is hwaB x16 hisB hdirB, hwaB, EN.out, ← hlk, ← hsz, ← HY.out.1] at h; exact h)
            have STB := hide (fun (W : World) (U : Nat → Prop) (h : PV H S T W U V sB) => show Calls Tryz.prog 28 #[.pointer (some ⟨V, 0, none⟩), .string y2] W (fun e w' => e = .returned (.tuple #[.agg #[.int .i64 (x : Int), .int .i64 (lk), .bool false, .int .i64 (sz : Int)], .int .i64 0]) ∧ Below W.heap.size W w') from by have h := I.st h GB.out (by omega) OB.out s2 S2.out; rw [statA_is hwtB x16 hisB hdirB, hwtB, EN.out, ← hlk, ← hsz, ← HY.out.2] at h; exact h)
            obtain ⟨r1, r2, r3, r4, r5, r6, r7⟩ := hrest sB 1000 EN.out GB.out
            have GC := hide (remV_good GB.out s1 false).1
            have OC := hide ((remV_good GB.out s1 false).2 OB.out)
            have UL := hide (fun (W : World) (U : Nat → Prop) (h : PV H S T W U V sB) => show Calls Tryz.prog 21 #[.pointer (some ⟨V, 0, none⟩), .string y1] W (SideO (fun w' U' => PV H S T w' U' V (remV sB s1 false).2) U W (.int .i64 0)) from by have h := I.ul h GB.out (by omega) OB.out s1 S1.out; rw [r1, ← HY.out.1] at h; exact h)
            obtain ⟨sC, hsC⟩ : ∃ z, z = (remV sB s1 false).2 := ⟨_, rfl⟩
            rw [← hsC] at r2 r3 r4 r5 r6 r7 GC OC UL
            have STC := hide (fun (W : World) (U : Nat → Prop) (h : PV H S T W U V sC) => show Calls Tryz.prog 28 #[.pointer (some ⟨V, 0, none⟩), .string y2] W (fun e w' => e = .returned (.tuple #[.agg #[.int .i64 (x : Int), .int .i64 (lk - 1), .bool false, .int .i64 (sz : Int)], .int .i64 0]) ∧ Below W.heap.size W w') from by have h := I.st h GC.out (by omega) OC.out s2 S2.out; rw [statA_is r2 x16 r4 r5, r2, r6, r7, EN.out, ← hlk, ← hsz, ← HY.out.2] at h; exact h)
            obtain ⟨q, hq⟩ : ∃ z, z = (walkI sC s1).1 := ⟨_, rfl⟩
            have WC := hide (fun (W : World) (U : Nat → Prop) (h : PV H S T W U V sC) => show Calls Tryz.prog 25 #[.pointer (some ⟨V, 0, none⟩), .string y1] W (fun e w' => e = .returned (.tuple #[.int .i64 (q : Int), .int .i64 9]) ∧ Below W.heap.size W w') from by have h := I.wk h GC.out (by omega) OC.out s1 S1.out; rw [r3, ← hq, ← HY.out.1] at h; exact h)
            clear hlk h2l hrest hwa hwt his hdir her hsB hsz hwaB hwtB hisB hdirB r1 r2 r3 r4 r5 r6 r7 hsC hq LN
            go_wp2_with fail
            go_at_call 25
            refine (WA.out _ _ T2.out.ps).mono ?_
            rintro e w3 ⟨rfl, b3⟩
            have T3 := hide (T2.out.below K b3).1
            clear b3 T2 WA
            go_wp2_with fail
            go_at_call 25
            refine (WB.out _ _ T3.out.ps).mono ?_
            rintro e w4 ⟨rfl, b4⟩
            have T4 := hide (T3.out.below K b4).1
            clear b4 T3 WB
            go_wp2_with fail
            go_at_call 26
            refine (I.store T4.out.ps GA.out (by omega) OA.out).mono ?_
            rintro e w5 ⟨rfl, b5⟩
            have T5 := hide (T4.out.below K b5).1
            clear b5 T4
            go_wp2_with fail
            go_at_call 27
            refine (WR.out _ _ T5.out).mono ?_
            intro en w6 hs
            obtain ⟨rfl, U6, t6, -⟩ := T5.out.side hs
            have T6 := hide t6
            clear hs t6 T5 WR
            go_wp2_with fail
            go_at_call 28
            refine (STA.out _ _ T6.out.ps).mono ?_
            rintro e w7 ⟨rfl, b7⟩
            have T7 := hide ((T6.out.below K b7).1.alloc K (.cells #[.int .i64 (x : Int), .int .i64 (lk), .bool false, .int .i64 (sz : Int)] 54)).1
            have HG7 := hide (heap_alloc_new w7 (.cells #[.int .i64 (x : Int), .int .i64 (lk), .bool false, .int .i64 (sz : Int)] 54))
            clear b7 T6 STA
            go_wp2_with fail
            generalize w7.alloc (.cells #[.int .i64 (x : Int), .int .i64 (lk), .bool false, .int .i64 (sz : Int)] 54) = w8 at *
            generalize w7.heap.size = Y1 at *
            go_at_call 28
            refine (STB.out _ _ T7.out.ps).mono ?_
            rintro e w9 ⟨rfl, b9⟩
            have t9 := T7.out.below K b9
            have t9a := t9.1.alloc K (.cells #[.int .i64 (x : Int), .int .i64 (lk), .bool false, .int .i64 (sz : Int)] 54)
            have T9 := hide t9a.1
            have HGA := hide (((t9a.2 Y1 (List.mem_cons_self ..)).trans (t9.2 Y1 (List.mem_cons_self ..))).trans HG7.out)
            have HGB := hide (heap_alloc_new w9 (.cells #[.int .i64 (x : Int), .int .i64 (lk), .bool false, .int .i64 (sz : Int)] 54))
            clear b9 T7 STB t9 t9a HG7
            go_wp2_with fail
            generalize w9.alloc (.cells #[.int .i64 (x : Int), .int .i64 (lk), .bool false, .int .i64 (sz : Int)] 54) = w10 at *
            generalize w9.heap.size = Y2 at *
            go_at_call 21
            refine (UL.out _ _ T9.out.ps).mono ?_
            intro en w11 hs
            obtain ⟨rfl, U11, t11, h11⟩ := T9.out.side hs
            have T11 := hide t11
            have HGA' := hide ((h11 Y1 (List.mem_cons_of_mem _ (List.mem_cons_self ..))).trans HGA.out)
            have HGB' := hide ((h11 Y2 (List.mem_cons_self ..)).trans HGB.out)
            clear hs t11 h11 T9 UL HGA HGB
            go_wp2_with fail
            go_at_call 28
            refine (STC.out _ _ T11.out.ps).mono ?_
            rintro e w12 ⟨rfl, b12⟩
            have t12 := T11.out.below K b12
            have t12a := t12.1.alloc K (.cells #[.int .i64 (x : Int), .int .i64 (lk - 1), .bool false, .int .i64 (sz : Int)] 54)
            have T12 := hide t12a.1
            have HGA := hide (((t12a.2 Y1 (List.mem_cons_of_mem _ (List.mem_cons_self ..))).trans (t12.2 Y1 (List.mem_cons_of_mem _ (List.mem_cons_self ..)))).trans HGA'.out)
            have HGB := hide (((t12a.2 Y2 (List.mem_cons_self ..)).trans (t12.2 Y2 (List.mem_cons_self ..))).trans HGB'.out)
            have HGC := hide (heap_alloc_new w12 (.cells #[.int .i64 (x : Int), .int .i64 (lk - 1), .bool false, .int .i64 (sz : Int)] 54))
            clear b12 T11 STC t12 t12a HGA' HGB'
            go_wp2_with fail
            generalize w12.alloc (.cells #[.int .i64 (x : Int), .int .i64 (lk - 1), .bool false, .int .i64 (sz : Int)] 54) = w13 at *
            generalize w12.heap.size = Y3 at *
            go_at_call 25
            refine (WC.out _ _ T12.out.ps).mono ?_
            rintro e w14 ⟨rfl, b14⟩
            have t14 := T12.out.below K b14
            have T14 := hide t14.1
            have ha := ((t14.2 Y1 (by simp)).trans HGA.out)
            have hb := ((t14.2 Y2 (by simp)).trans HGB.out)
            have hc := ((t14.2 Y3 (by simp)).trans HGC.out)
            clear b14 T12 WC t14 HGA HGB HGC
            have kc0 : w14.cell? ⟨Y1, 0, none⟩ = some (.int .i64 (x : Int)) := by rw [cell_of_row _ _ _ _ _ _ ha]; rfl
            have kc1 : w14.cell? ⟨Y1, 1, none⟩ = some (.int .i64 (lk)) := by rw [cell_of_row _ _ _ _ _ _ ha]; rfl
            have kc2 : w14.cell? ⟨Y1, 2, none⟩ = some (.bool false) := by rw [cell_of_row _ _ _ _ _ _ ha]; rfl
            have kc3 : w14.cell? ⟨Y1, 3, none⟩ = some (.int .i64 (sz : Int)) := by rw [cell_of_row _ _ _ _ _ _ ha]; rfl
            have mc0 : w14.cell? ⟨Y2, 0, none⟩ = some (.int .i64 (x : Int)) := by rw [cell_of_row _ _ _ _ _ _ hb]; rfl
            have mc1 : w14.cell? ⟨Y2, 1, none⟩ = some (.int .i64 (lk)) := by rw [cell_of_row _ _ _ _ _ _ hb]; rfl
            have mc2 : w14.cell? ⟨Y2, 2, none⟩ = some (.bool false) := by rw [cell_of_row _ _ _ _ _ _ hb]; rfl
            have mc3 : w14.cell? ⟨Y2, 3, none⟩ = some (.int .i64 (sz : Int)) := by rw [cell_of_row _ _ _ _ _ _ hb]; rfl
            have nc0 : w14.cell? ⟨Y3, 0, none⟩ = some (.int .i64 (x : Int)) := by rw [cell_of_row _ _ _ _ _ _ hc]; rfl
            have nc1 : w14.cell? ⟨Y3, 1, none⟩ = some (.int .i64 (lk - 1)) := by rw [cell_of_row _ _ _ _ _ _ hc]; rfl
            have nc2 : w14.cell? ⟨Y3, 2, none⟩ = some (.bool false) := by rw [cell_of_row _ _ _ _ _ _ hc]; rfl
            have nc3 : w14.cell? ⟨Y3, 3, none⟩ = some (.int .i64 (sz : Int)) := by rw [cell_of_row _ _ _ _ _ _ hc]; rfl
            have BEL := hide T14.out.bel
            clear ha hb hc T14
            go_wp2_with (go_at_call 11; refine (AWK.out _).mono ?_; rintro e w' ⟨rfl, hb⟩; have HB := hide hb; clear hb)
            go_ret
            exact ⟨rfl, BEL.out.trans (HB.out.mono BEL.out.size)⟩
          · have e1 : ¬ (ev : Int) = 0 := by omega
            have BEL := hide T2.out.bel
            go_wp2_with (go_at_call 11; refine (AWK.out _).mono ?_; rintro e w' ⟨rfl, hb⟩; have HB := hide hb; clear hb)
            go_ret
            exact ⟨rfl, BEL.out.trans (HB.out.mono BEL.out.size)⟩
        · have d1 : ¬ (200 : Int) < (y1.size : Int) := by omega
          have d2 : ¬ (200 : Int) < (y2.size : Int) := by omega
          have d3 : (600 : Int) < (bn : Int) := by omega
          go_wp2_with (go_at_call 11; refine (AWK.out _).mono ?_; rintro e w' ⟨rfl, hb⟩; have HB := hide hb; clear hb)
          go_ret
          exact ⟨rfl, HB.out⟩
      · have d1 : ¬ (200 : Int) < (y1.size : Int) := by omega
        have d2 : (200 : Int) < (y2.size : Int) := by omega
        go_wp2_with (go_at_call 11; refine (AWK.out _).mono ?_; rintro e w' ⟨rfl, hb⟩; have HB := hide hb; clear hb)
        go_ret
        exact ⟨rfl, HB.out⟩
    · have d1 : (200 : Int) < (y1.size : Int) := by omega
      go_wp2_with (go_at_call 11; refine (AWK.out _).mono ?_; rintro e w' ⟨rfl, hb⟩; have HB := hide hb; clear hb)
      go_ret
      exact ⟨rfl, HB.out⟩
end
end Go.Proofs.YtndfnglcichngaaGreatDoor
