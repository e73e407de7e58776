/-
  The walk of CondScript, over the contracts of the program's conditions.
-/
import Derived.Test.YtmclifmdlcofaaaCdKeys
import Derived.Test.YtmclifmdlcofaaaRowsIn
namespace Go.Proofs.Ytmclifmdlcofaaa
open Go.ChangeShapes Go.WideShapes Go.ChangeAt Go.RowKit
set_option linter.unusedVariables false
set_option linter.unusedSimpArgs false
attribute [local go_sem] built_keys
attribute [local irreducible] keyVals
/-- Act k of those at ⟨b, off⟩. -/
structure CActIs (w : World) (b off k : Nat) (d t i : Int) : Prop where
  c0 : w.cell? ⟨b, off + k * 3, none⟩ = some (.int .i64 d)
  c1 : w.cell? ⟨b, off + k * 3 + 1, none⟩ = some (.int .i64 t)
  c2 : w.cell? ⟨b, off + k * 3 + 2, none⟩ = some (.int .i64 i)
  wi : (Lit.int .i64 i).wf = true
theorem CActIs.below {w w' : World} {b off k : Nat} {d t i : Int} (h : CActIs w b off k d t i) (hb : Below w.heap.size w w') : CActIs w' b off k d t i := by
  have hlt : b < w.heap.size := lt_of_cell? h.c0
  exact ⟨(hb.cell hlt).trans h.c0, (hb.cell hlt).trans h.c1, (hb.cell hlt).trans h.c2, h.wi⟩
theorem cacts_open {w : World} {a : Option Addr} {n c : Nat} {zs : List (List Int)} (h : CameRows 3 w a n c zs) : 0 < n → ∃ b off, a = some ⟨b, off, none⟩ ∧ ∀ k, k < n → ∃ d t i, CActIs w b off k d t i := by
  intro hn
  obtain ⟨_, _, _, h4, h5⟩ := h
  obtain ⟨b, off, e, hb, hc⟩ := h5 hn
  refine ⟨b, off, e, fun k hk => ?_⟩
  obtain ⟨_, hw⟩ := h4 k hk
  exact ⟨_, _, _, by have := hc k 0 hk (by omega); simpa using this, by have := hc k 1 hk (by omega); rw [← Nat.add_assoc] at this; exact this, by have := hc k 2 hk (by omega); rw [← Nat.add_assoc] at this; exact this, hw 2 (by omega)⟩
theorem fewB {L : Cs} (g : GoodC L) (h : BelowC 16 L) : FewC L := fun l hl => by have := g.few (b := 16) h l hl; omega
theorem actC_i {w : World} {X : Nat} {d t i : Int} (h : ActC w X d t i) : w.cell? ⟨X, 2, none⟩ = some (.int .i64 i) := h.cells.2.2
theorem stay_act {w w' : World} {X : Nat} {d t i : Int} (h : ActC w X d t i) {Y : List Nat} (s : Stay Y w w') (hX : X ∈ Y) : ActC w' X d t i := (s X hX).trans h
/-- What stands at each act's beginning: both, the keys, those who wait. -/
structure AtC (PC : Rel Cs) (w wr : World) (U D : Nat → Prop) (Y : List Nat) (S R K X : Nat) (ks : List Int) (N : Nat) (L M : Cs) : Prop where
  two : TwoO PC Rcd w wr U D Y S R L M
  kk : KeysAt wr K ks
  kx : KeysAt wr X ks
  bl : BelowC 16 L
  bm : BelowC 16 M
  gl : GoodC L
  gm : GoodC M
  nl : L.length = N
  nm : M.length = N
section
variable {PC : Rel Cs}
theorem AtC.left (C : PConds PC) {w wr w' : World} {U D : Nat → Prop} {Y : List Nat} {S R K X N : Nat} {ks : List Int} {L L' M : Cs} (h : AtC PC w wr U D Y S R K X ks N L M) (hK : K ∈ Y) (hX : X ∈ Y) {v : Value} {e : Ending} (hs : SideO (fun w' U' => PC w' U' S L') U wr v e w') (hb : BelowC 16 L') (hn : L'.length = L.length) :
    e = .returned v ∧ ∃ U', AtC PC w w' U' D Y S R K X ks N L' M ∧ Stay Y wr w' := by
  obtain ⟨e1, U', t, s⟩ := h.two.left C.ok keepsRcd hs
  exact ⟨e1, U', ⟨t, h.kk.stay s hK, h.kx.stay s hX, hb, h.bm, C.good t.ps, h.gm, hn.trans h.nl, h.nm⟩, s⟩
theorem AtC.right (C : PConds PC) {w wr w' : World} {U D : Nat → Prop} {Y : List Nat} {S R K X N : Nat} {ks : List Int} {L M M' : Cs} (h : AtC PC w wr U D Y S R K X ks N L M) (hK : K ∈ Y) (hX : X ∈ Y) {v : Value} {e : Ending} (hs : SideO (fun w' D' => Rcd w' D' R M') D wr v e w') (hb : BelowC 16 M') (hg : GoodC M') (hn : M'.length = M.length) :
    e = .returned v ∧ ∃ D', AtC PC w w' U D' Y S R K X ks N L M' ∧ Stay Y wr w' := by
  obtain ⟨e1, D', t, s⟩ := h.two.right C.ok keepsRcd hs
  exact ⟨e1, D', ⟨t, h.kk.stay s hK, h.kx.stay s hX, h.bl, hb, h.gl, hg, h.nl, hn.trans h.nm⟩, s⟩
theorem AtC.below (C : PConds PC) {w wr w' : World} {U D : Nat → Prop} {Y : List Nat} {S R K X N : Nat} {ks : List Int} {L M : Cs} (h : AtC PC w wr U D Y S R K X ks N L M) (b : Below wr.heap.size wr w') : AtC PC w w' U D Y S R K X ks N L M :=
  ⟨(h.two.below C.ok keepsRcd b).1, h.kk.below b, h.kx.below b, h.bl, h.bm, h.gl, h.gm, h.nl, h.nm⟩
theorem AtC.alloc (C : PConds PC) {w wr : World} {U D : Nat → Prop} {Y : List Nat} {S R K X N : Nat} {ks : List Int} {L M : Cs} (h : AtC PC w wr U D Y S R K X ks N L M) (o : Obj) : AtC PC w (wr.alloc o) U D (wr.heap.size :: Y) S R K X ks N L M := by
  have b := (Below.refl wr.heap.size wr).alloc (Nat.le_refl _) o
  exact ⟨(h.two.alloc C.ok keepsRcd o).1, h.kk.below b, h.kx.below b, h.bl, h.bm, h.gl, h.gm, h.nl, h.nm⟩
theorem AtC.fewer {w wr : World} {U D : Nat → Prop} {Y Y' : List Nat} {S R K X N : Nat} {ks : List Int} {L M : Cs} (h : AtC PC w wr U D Y S R K X ks N L M) (hs : ∀ g ∈ Y', g ∈ Y) : AtC PC w wr U D Y' S R K X ks N L M :=
  ⟨h.two.fewer hs, h.kk, h.kx, h.bl, h.bm, h.gl, h.gm, h.nl, h.nm⟩
set_option maxRecDepth 100000 in
set_option maxHeartbeats 8000000 in
theorem walk_condScriptC (C : PConds PC) (w : World) (n0 : Int) (wn : (Lit.int .i64 n0).wf = true) (a : Option Addr) (n c : Nat) (zs : List (List Int)) (hin : CameRows 3 w a n c zs) (ks : List Int) (hk : ks.length = 16) :
    Calls Try.prog 3 #[.int .i64 n0, .slice a n c, .agg (keyVals ks)] w fun e w' => e = .returned (.bool true) ∧ Below w.heap.size w w' := by
  have hmf := run_keep_func
  have hn : n ≤ maxLen := Nat.le_trans hin.2.1 hin.2.2.1
  have HA := hide (cacts_open hin)
  have h63 : (n : Int) ≤ 9223372036854775807 := by unfold maxLen at hn; omega
  have K0 := hide (keysAt_of (w := w) hk 23)
  have B0 := hide ((Below.refl w.heap.size w).alloc (Nat.le_refl _) (.cells (keyVals ks) 23))
  have X0 := hide (show w.heap.size < (w.alloc (.cells (keyVals ks) 23)).heap.size from by simp)
  clear hin
  by_cases h100 : 100 < n
  · have h100' : (100 : Int) < (n : Int) := by omega
    go_enter Try.func3, Try.ntmps3
    go_wp2_with (go_at_call 8; refine (cdawake_any C _).mono ?_; rintro e w' ⟨rfl, hb⟩; have HB := hide (B0.out.trans (hb.mono B0.out.size)); clear hb)
    go_ret
    exact ⟨rfl, HB.out⟩
  have h100' : ¬ (100 : Int) < (n : Int) := by omega
  by_cases hbad : n0 < 1 ∨ 4 < n0
  · have WN := hide wn
    have HB := hide hbad
    clear wn hbad
    go_enter Try.func3, Try.ntmps3
    go_wp2_with fail
    go_at_call 9
    refine (C.bad _ WN.out HB.out).mono ?_
    rintro e w1 ⟨rfl, b1⟩
    have B1 := hide (B0.out.trans (b1.mono B0.out.size))
    clear b1
    go_wp2_with (first
      | (go_at_call 10; refine (rcnew_bad _ n0 HB.out).mono ?_; rintro e w' ⟨rfl, rfl⟩)
      | (go_at_call 11; refine (errnum_any _ _).mono ?_; rintro e w' ⟨rfl, rfl⟩)
      | (go_at_call 8; refine (cdawake_any C _).mono ?_; rintro e w' ⟨rfl, hb⟩; have B2 := hide (B1.out.trans (hb.mono B1.out.size)); clear hb))
    go_ret
    exact ⟨rfl, B2.out⟩
  obtain ⟨N, rfl⟩ := Int.eq_ofNat_of_zero_le (show 0 ≤ n0 by omega)
  have N1 : 1 ≤ N := by omega
  have N4 : N ≤ 4 := by omega
  clear hbad wn
  go_enter Try.func3, Try.ntmps3
  go_upto_region 1 with fail
  obtain ⟨w0, hw0⟩ : ∃ w0, w0 = w.alloc (.cells (keyVals ks) 23) := ⟨_, rfl⟩
  rw [← hw0] at K0 B0 X0 ⊢
  clear hw0
  obtain ⟨X, hX⟩ : ∃ X, X = w.heap.size := ⟨_, rfl⟩
  have HX := hide hX
  rw [← hX] at K0 X0 ⊢
  clear hX
  go_wp2_with fail
  go_at_call 9
  refine (C.new w0 N N1 N4).mono ?_
  rintro e w1 ⟨S, U, rfl, p1, b1, l1⟩
  have P1 := hide (show OneO PC w w1 U [X] S (newC N) from ⟨p1, B0.out.trans (b1.mono B0.out.size), fun i hi => Nat.le_trans B0.out.size (l1 i hi), fun g hg => by
    simp at hg
    subst hg
    exact ⟨Nat.lt_of_lt_of_le X0.out b1.size, fun e => by have := l1 g e; have := X0.out; omega⟩⟩)
  have K1 := hide (K0.out.below b1)
  clear p1 b1 l1 K0 B0 X0
  go_wp2_with fail
  go_at_call 10
  refine (rcnew_ok _ N N1 N4).mono ?_
  rintro e w2 ⟨R, D, rfl, r2, b2, l2⟩
  have T2 := hide (P1.out.two C.ok keepsRcd r2 b2 l2)
  have K2 := hide (K1.out.below b2)
  clear r2 b2 l2 P1 K1
  have LD := hide K2.out.range
  go_upto_region 9 with (go_at_call 11; refine (errnum_any _ _).mono ?_; rintro e w' ⟨rfl, rfl⟩)
  go_upto_region 10 with (first
    | (refine wpList_load_mid rfl 23 (.tmp 5) rfl X 0 rfl (keyVals ks).toList _ LD.out Try.underlying23 rfl (keys_size ks) ?_; rw [Array.toArray_toList])
    | (refine wpList_build rfl 35 _ rfl (by kernel_rfl) ?_))
  have GN := good_new N
  have BN : BelowC 16 (newC N) := fun l hl x hx => by rw [(List.mem_replicate.1 hl).2] at hx; cases hx
  have bz := (Below.refl w2.heap.size w2).alloc (Nat.le_refl _) (.cells (keyVals ks) 35)
  have T3 := hide (show AtC PC w (w2.alloc (.cells (keyVals ks) 35)) U D [w2.heap.size, X] S R w2.heap.size X ks N (newC N) (newC N) from ⟨(T2.out.alloc C.ok keepsRcd (.cells (keyVals ks) 35)).1, keysAt_of hk 35, K2.out.below bz, BN, BN, GN, GN, by simp [newC], by simp [newC]⟩)
  clear T2 K2 LD GN BN bz hk
  generalize w2.alloc (.cells (keyVals ks) 35) = w3 at *
  generalize w2.heap.size = K at *
  go_wp2_with fail
  go_loopw [12] (fun i wr => ∃ (k : Nat) (L : Cs) (U D : Nat → Prop), k ≤ n ∧ i = .int .i64 (k : Int) ∧ Hid (AtC PC w wr U D [K, X] S R K X ks N L L)) (fun i _ => n - (intOf i).toNat)
  case atStart => exact ⟨0, _, _, _, Nat.zero_le _, rfl, T3.out⟩
  case round =>
    clear T3 U D
    obtain ⟨k, L, U, D, hk, rfl, hT⟩ := hrel
    by_cases hlt : k < n
    · obtain ⟨ab, off, rfl, hall⟩ := HA.out (by omega)
      obtain ⟨d, x, y, hact0⟩ := hall k hlt
      have hact := hact0.below hT.out.two.bel
      have k0 : (0 : Int) ≤ (k : Int) := by omega
      have k1 : (k : Int) < (n : Int) := by omega
      have c0 := hact.c0
      have c1 := hact.c1
      have c2 := hact.c2
      have HWY := hide hact.wi
      have C1 : Hid (ActC (wr.alloc (.cells #[.int .i64 d, .int .i64 x, .int .i64 y] 37)) wr.heap.size d x y) := (show ActC _ _ _ _ _ from heap_alloc_new _ _)
      have T1 := hide (hT.out.alloc C (.cells #[.int .i64 d, .int .i64 x, .int .i64 y] 37))
      clear hall hact0 hact hT
      go_upto_region 14 with fail
      obtain ⟨W1, hW1⟩ : ∃ W1, W1 = wr.alloc (.cells #[.int .i64 d, .int .i64 x, .int .i64 y] 37) := ⟨_, rfl⟩
      rw [← hW1] at C1 T1 ⊢
      clear hW1 c0 c1 c2
      generalize wr.heap.size = XA at *
      obtain ⟨x0, x1, x2⟩ := C1.out.cells
      go_upto_block 2 with (go_at_call 12; refine (low_i _ 16 _ (by omega) (by omega)).mono ?_; rintro e w' ⟨⟨t, ⟨t0, t1⟩, rfl⟩, rfl⟩)
      have WT := hide (wf_i (x := t) (by omega) (by omega))
      clear x0 x1 x2
      go_cut [15] (fun v' wx => ∃ (L : Cs) (U D : Nat → Prop), v' = .bool true ∧ Hid (AtC PC w wx U D [XA, K, X] S R K X ks N L L) ∧ Hid (ActC wx XA d x y))
      case first =>
        have XC := hide (fun (w' : World) (hc : ActC w' XA d x y) => (show w'.cell? ⟨XA, 2, none⟩ = some (.int .i64 y) from actC_i hc))
        have q1 := XC.out _ C1.out
        have FW := hide (fewB T1.out.gl T1.out.bl)
        have N1000 := hide (show L.length ≤ 1000 from by rw [T1.out.nl]; omega)
        have TD := hide (T1.out.below C (below_drewN (Below.refl _ _) 1))
        by_cases d0 : d = 0
        · have d0' : (d == 0) = true := by simp [d0]
          clear d0
          have x0 : W1.cell? ⟨XA, 0, none⟩ = some (.int .i64 d) := C1.out.cells.1
          obtain ⟨ee, hee⟩ : ∃ b, b = waitE L t y := ⟨_, rfl⟩
          have CA := hide (show ∀ (W : World) (X0 : Nat → Prop), PC W X0 S L → Calls Try.prog 13 #[.pointer (some ⟨S, 0, none⟩), .int .i64 t, .int .i64 y] W (SideO (fun w' X' => PC w' X' S (waitS L t y)) X0 W (.int .i64 ee)) from fun W U h => by have := C.wait h FW.out WT.out HWY.out; rw [← hee] at this; exact this)
          have CR := hide (show ∀ (W : World) (X0 : Nat → Prop), Rcd W X0 R L → Calls Try.prog 14 #[.pointer (some ⟨R, 0, none⟩), .int .i64 t, .int .i64 y] W (SideO (fun w' X' => Rcd w' X' R (waitS L t y)) X0 W (.int .i64 ee)) from fun W U h => by have := rcwait_any h N1000.out FW.out t y; rw [← hee] at this; exact this)
          clear hee
          have g0 : (ee == ee) = true := by simp
          go_upto_region 18 with fail
          clear x0
          go_region_held3 (fun w' => w'.cell? ⟨XA, 2, none⟩ = some (.int .i64 y)) (first | exact q1 | exact q4 | exact q5) (first
            | (go_at_call 13; refine (CA.out _ _ TD.out.two.ps).mono ?_; intro en w4 hs; obtain ⟨rfl, U4, t4, s4⟩ := TD.out.left C (by simp) (by simp) hs (TD.out.bl.wait t1) (waitS_len _ _ _); clear hs; have T4 := hide t4; have C4 : Hid (ActC w4 XA d x y) := (show ActC _ _ _ _ _ from (s4 XA (by simp)).trans C1.out); have q4 := XC.out _ C4.out; clear t4 s4)
            | (go_at_call 11; refine (errnum_any _ _).mono ?_; rintro e w' ⟨rfl, rfl⟩)
            | (go_at_call 14; refine (CR.out _ _ T4.out.two.ds).mono ?_; intro en w5 hs; obtain ⟨rfl, D5, t5, s5⟩ := T4.out.right C (by simp) (by simp) hs (T4.out.bm.wait t1) (T4.out.gm.wait t y) (waitS_len _ _ _); clear hs; have T5 := hide t5; have C5 : Hid (ActC w5 XA d x y) := (show ActC _ _ _ _ _ from (s5 XA (by simp)).trans C4.out); have q5 := XC.out _ C5.out; clear t5 s5))
          go_wp2_with fail
          go_meet
          exact ⟨_, _, _, rfl, T5.out, C5⟩
        · have d0' : (d == 0) = false := by simp [d0]
          by_cases d1 : d = 1
          · have d1' : (d == 1) = true := by simp [d1]
            clear d0 d1
            have x0 : W1.cell? ⟨XA, 0, none⟩ = some (.int .i64 d) := C1.out.cells.1
            obtain ⟨xx, hxx⟩ : ∃ b, b = sigX ks L y := ⟨_, rfl⟩
            obtain ⟨bb, hbb⟩ : ∃ b, b = sigB L y := ⟨_, rfl⟩
            have CA := hide (show ∀ (W : World) (X0 : Nat → Prop), PC W X0 S L → KeysAt W K ks → ¬ X0 K → Calls Try.prog 15 #[.pointer (some ⟨S, 0, none⟩), .int .i64 y, .func (.func 16) #[.pointer (some ⟨K, 0, none⟩)] #[]] W (SideO (fun w' X' => PC w' X' S (sigS ks L y)) X0 W (.tuple #[.int .i64 xx, .bool bb])) from fun W U h hk hu => by have := C.sig h FW.out hk hu HWY.out; rw [← hxx, ← hbb] at this; exact this)
            have CR := hide (show ∀ (W : World) (X0 : Nat → Prop), Rcd W X0 R L → KeysAt W X ks → Calls Try.prog 17 #[.pointer (some ⟨R, 0, none⟩), .int .i64 y, .slice (some ⟨X, 0, none⟩) 16 16] W (SideO (fun w' X' => Rcd w' X' R (sigS ks L y)) X0 W (.tuple #[.int .i64 xx, .bool bb])) from fun W U h hk => by have := rcsig_any h T1.out.gl T1.out.bl N1000.out hk y; rw [← hxx, ← hbb] at this; exact this)
            clear hxx hbb
            have g0 : (bb == bb) = true := by simp
            have g1 : (xx == xx) = true := by simp
            go_upto_region 21 with (go_at_call 15; refine (CA.out _ _ T1.out.two.ps T1.out.kk (T1.out.two.xs K (by simp)).2.1).mono ?_; intro en w4 hs; obtain ⟨rfl, U4, t4, s4⟩ := T1.out.left C (by simp) (by simp) hs (T1.out.bl.signal ks y) (sigS_len _ _ _); clear hs; have T4 := hide t4; have C4 : Hid (ActC w4 XA d x y) := (show ActC _ _ _ _ _ from (s4 XA (by simp)).trans C1.out); have q4 := XC.out _ C4.out; clear t4 s4)
            clear x0
            have TD4 := hide (T4.out.below C (below_drewN (Below.refl _ _) 1))
            go_region_held3 (fun w' => w'.cell? ⟨XA, 2, none⟩ = some (.int .i64 y)) (first | exact q4 | exact q5) (first
              | (go_at_call 17; refine (CR.out _ _ TD4.out.two.ds TD4.out.kx).mono ?_; intro en w5 hs; obtain ⟨rfl, D5, t5, s5⟩ := TD4.out.right C (by simp) (by simp) hs (TD4.out.bm.signal ks y) (TD4.out.gm.signal ks y) (sigS_len _ _ _); clear hs; have T5 := hide t5; have C5 : Hid (ActC w5 XA d x y) := (show ActC _ _ _ _ _ from (s5 XA (by simp)).trans C4.out); have q5 := XC.out _ C5.out; clear t5 s5))
            go_wp2_with fail
            go_meet
            exact ⟨_, _, _, rfl, T5.out, C5⟩
          · have d1' : (d == 1) = false := by simp [d1]
            have x0 : W1.cell? ⟨XA, 0, none⟩ = some (.int .i64 d) := C1.out.cells.1
            by_cases d2 : d = 2
            · have d2' : (d == 2) = true := by simp [d2]
              clear d0 d1 d2
              obtain ⟨bb, hbb⟩ : ∃ b, b = canB L t := ⟨_, rfl⟩
              have CA := hide (show ∀ (W : World) (X0 : Nat → Prop), PC W X0 S L → Calls Try.prog 18 #[.pointer (some ⟨S, 0, none⟩), .int .i64 t] W (SideO (fun w' X' => PC w' X' S (canS L t)) X0 W (.bool bb)) from fun W U h => by have := C.can h FW.out WT.out; rw [← hbb] at this; exact this)
              have CR := hide (show ∀ (W : World) (X0 : Nat → Prop), Rcd W X0 R L → Calls Try.prog 19 #[.pointer (some ⟨R, 0, none⟩), .int .i64 t] W (SideO (fun w' X' => Rcd w' X' R (canS L t)) X0 W (.bool bb)) from fun W U h => by have := rccan_any h N1000.out FW.out t; rw [← hbb] at this; exact this)
              clear hbb
              have g0 : (bb == bb) = true := by simp
              go_wp2_with (first
                | (go_at_call 18; refine (CA.out _ _ T1.out.two.ps).mono ?_; intro en w4 hs; obtain ⟨rfl, U4, t4, s4⟩ := T1.out.left C (by simp) (by simp) hs (T1.out.bl.cancel t) (canS_len _ _); clear hs; have T4 := hide t4; have C4 : Hid (ActC w4 XA d x y) := (show ActC _ _ _ _ _ from (s4 XA (by simp)).trans C1.out); clear t4 s4)
                | (go_at_call 19; refine (CR.out _ _ T4.out.two.ds).mono ?_; intro en w5 hs; obtain ⟨rfl, D5, t5, s5⟩ := T4.out.right C (by simp) (by simp) hs (T4.out.bm.cancel t) (T4.out.gm.cancel t) (canS_len _ _); clear hs; have T5 := hide t5; have C5 : Hid (ActC w5 XA d x y) := (show ActC _ _ _ _ _ from (s5 XA (by simp)).trans C4.out); clear t5 s5))
              go_meet
              exact ⟨_, _, _, rfl, T5.out, C5⟩
            · have d2' : (d == 2) = false := by simp [d2]
              clear d0 d1 d2
              go_wp2_with fail
              go_meet
              exact ⟨_, _, _, rfl, T1.out, C1⟩
      case rest =>
        clear T1 C1
        obtain ⟨L1, U1, D1, rfl, hT, hC⟩ := hcut
        have FW := hide (fewB hT.out.gl hT.out.bl)
        have N1000 := hide (show L1.length ≤ 1000 from by rw [hT.out.nl]; omega)
        have LL := hide (lst_len (b := 16) hT.out.bl hT.out.gl y)
        have q0 := actC_i hC.out
        obtain ⟨oo, hoo⟩ : ∃ b, b = ofC L1 t := ⟨_, rfl⟩
        have CO := hide (show ∀ W : World, PC W U1 S L1 → Calls Try.prog 21 #[.pointer (some ⟨S, 0, none⟩), .int .i64 t] W fun e w' => e = .returned (.int .i64 oo) ∧ Below W.heap.size W w' from fun W h => by have := C.of h FW.out WT.out; rw [← hoo] at this; exact this)
        have CR := hide (show ∀ W : World, Rcd W D1 R L1 → Calls Try.prog 22 #[.pointer (some ⟨R, 0, none⟩), .int .i64 t] W fun e w' => e = .returned (.int .i64 oo) ∧ W = w' from fun W h => by have := rcof_any h N1000.out FW.out t; rw [← hoo] at this; exact this)
        have CL := hide (fun (W : World) (h : Rcd W D1 R L1) => rclist_any h N1000.out y)
        have CU := hide (C.list hT.out.two.ps FW.out HWY.out)
        clear hoo
        have g0 : (oo != oo) = false := by simp
        obtain ⟨ll, hll⟩ : ∃ z, z = lstC L1 y := ⟨_, rfl⟩
        rw [← hll] at LL CU CL
        obtain ⟨p, hp⟩ : ∃ p, p = ll.length := ⟨_, rfl⟩
        rw [← hp] at LL CU CL
        have HP := hide hp
        clear hll hp
        have T4 := hide hT.out
        have C4 := hide hC.out
        clear hT hC
        go_wp2_with fail
        go_at_call 20
        refine CU.out.mono ?_
        rintro e w5 ⟨v5, rfl, o5, b5⟩
        have B5 := hide b5
        have O5 := hide o5
        have q5 := actC_i (C4.out.below b5)
        obtain ⟨a5, c5, rfl⟩ : ∃ a c, v5 = .slice a p c := by
          obtain ⟨A, c, e, _⟩ := own_ints o5
          exact ⟨A, c, e⟩
        clear b5 o5 q0 CU
        go_wp2_with fail
        go_at_call 21
        refine (CO.out _ (T4.out.below C B5.out).two.ps).mono ?_
        rintro e w6 ⟨rfl, b6⟩
        have B6 := hide (B5.out.trans (b6.mono B5.out.size))
        have O6 := hide ((Touch.of_below (S := fun _ => False) b6).own O5.out fun _ _ e => e)
        have q6 := actC_i (C4.out.below B6.out)
        clear b6 q5
        go_wp2_with fail
        go_at_call 22
        refine (CR.out _ (T4.out.below C B6.out).two.ds).mono ?_
        rintro e w7 ⟨rfl, rfl⟩
        go_wp2_with fail
        go_at_call 24
        refine (CL.out _ (T4.out.below C B6.out).two.ds).mono ?_
        rintro e w7 ⟨v7, rfl, rfl, o7⟩
        have O7 := hide o7.out.1
        obtain ⟨a7, c7, rfl⟩ : ∃ a c, v7 = .slice a p c := by
          obtain ⟨A, c, e, _⟩ := own_ints o7.out.1
          exact ⟨A, c, e⟩
        clear o7 q6
        go_wp2_with fail
        go_at_call 23
        refine (same_own _ _ p ll _ O6.out O7.out (by have := LL.out; omega)).mono ?_
        rintro e w8 ⟨rfl, b8⟩
        have B8 := hide (B6.out.trans (b8.mono B6.out.size))
        have O8 := hide ((Touch.of_below (S := fun _ => False) b8).own O6.out fun _ _ e => e)
        clear b8
        go_wp2_with fail
        go_at_call 25
        refine (over_any _ p _ _ O8.out B8.out.size (by have := LL.out; omega)).mono ?_
        rintro e w9 ⟨rfl, b9⟩
        have T9 := hide (T4.out.below C (B8.out.trans b9))
        clear b9
        go_wp2_with fail
        go_roundw
        case rel => exact ⟨k + 1, L1, _, _, by omega, by go_num, T9.out.fewer (fun g hg => List.mem_cons_of_mem _ hg)⟩
        case measure => simp [intOf]; omega
    · obtain rfl : k = n := by omega
      have T1 := hide hT.out.two
      clear hT
      go_wp2_with (go_at_call 8; refine (cdawake_any C _).mono ?_; rintro e w9 ⟨rfl, b9⟩; have B9 := hide (T1.out.bel.trans (b9.mono T1.out.bel.size)); clear b9)
      go_ret
      exact ⟨rfl, B9.out⟩
end
end Go.Proofs.Ytmclifmdlcofaaa
