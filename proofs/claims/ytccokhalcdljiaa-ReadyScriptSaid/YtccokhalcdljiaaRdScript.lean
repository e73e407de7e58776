/-
  The walk of ReadyScript, over the contracts of the program's queue.
-/
import Derived.Test.YtccokhalcdljiaaRdSame
import Derived.Test.YtccokhalcdljiaaRdActs
namespace Go.Proofs.Ytccokhalcdljiaa
open Go.ChangeShapes Go.WideShapes Go.ChangeAt Go.RowKit
set_option linter.unusedVariables false
section
variable {PQ : World → (Nat → Prop) → Nat → List Rt → Prop}
/-- Rows that are free stay, and stay free. -/
def Stay (w wr w' : World) (U U' D : Nat → Prop) (X : List Nat) : Prop := ∀ v, Free w wr U D X v → Free w w' U' D X v ∧ ∀ B e z n xs, wr.ownsRow B e z v n xs → w'.ownsRow B e z v n xs
theorem TwoR.left2 (C : PReady PQ) {w wr w' : World} {U D : Nat → Prop} {X : List Nat} {S R : Nat} {s s' s2 : List Rt} (h : TwoR PQ w wr U D X S R s s2) {x : Value} {e : Ending} (hs : SideR (fun w' U' => PQ w' U' S s') U wr x e w') : e = .returned x ∧ ∃ U', TwoR PQ w w' U' D X S R s' s2 ∧ Held X wr w' ∧ Stay w wr w' U U' D X := by
  obtain ⟨rfl, U', p, t, hU⟩ := hs
  obtain ⟨h2, h3⟩ := h.moveL C p t hU
  refine ⟨rfl, U', h2, h3, fun v hv => ⟨fun i hi => ?_, fun B e z n xs ho => t.own ho (fun g hg => (hv g hg).1)⟩⟩
  obtain ⟨f1, f2, f3, f4, f5⟩ := hv i hi
  exact ⟨fun e => (hU i e).elim f1 (fun e => by omega), f2, f3, f4, Nat.lt_of_lt_of_le f5 t.size⟩
theorem TwoR.below2 (C : PReady PQ) {w wr w' : World} {U D : Nat → Prop} {X : List Nat} {S R : Nat} {s s2 : List Rt} (h : TwoR PQ w wr U D X S R s s2) (u : Below wr.heap.size wr w') : TwoR PQ w w' U D X S R s s2 ∧ Held X wr w' ∧ Stay w wr w' U U D X := by
  obtain ⟨h2, h3⟩ := h.below C u
  refine ⟨h2, h3, fun v hv => ⟨fun i hi => ?_, fun B e z n xs ho => (Touch.of_below (S := fun _ => False) u).own ho (fun _ _ e => e)⟩⟩
  obtain ⟨f1, f2, f3, f4, f5⟩ := hv i hi
  exact ⟨f1, f2, f3, f4, Nat.lt_of_lt_of_le f5 u.size⟩
/-- A row that is new is free. -/
theorem TwoR.newRow (C : PReady PQ) {w wr w' : World} {U D : Nat → Prop} {X : List Nat} {S R : Nat} {s s2 : List Rt} (h : TwoR PQ w wr U D X S R s s2) {v : Value} {e : TypeId} {z n : Nat} {xs : List Value} (ho : w'.ownsRow wr.heap.size e z v n xs) : Free w w' U D X v := fun i hi => by
  obtain ⟨l1, l2⟩ := ho.lt i hi
  have := h.bel.size
  exact ⟨fun e => by have := C.lt h.ps i e; omega, fun e => by have := h.ds.lt i e; omega, fun e => by have := (h.xs i e).1; omega, by omega, l2⟩
theorem addR_le (l : List Rt) (id : Int) (p : Pr) : (addR l id p).length ≤ l.length + 1 := by
  unfold addR
  split
  · rw [insR_len]; omega
  · omega
theorem chgR_le2 (l : List Rt) (id : Int) (p : Pr) : (chgR l id p).length ≤ l.length + 1 := by
  unfold chgR
  split
  · rw [insR_len]
    exact Nat.succ_le_succ (List.length_filter_le _ _)
  · omega
theorem own_first {w : World} {B n c : Nat} {e : TypeId} {A : Option Addr} {xs : List Int} (h : w.ownsRow B e 1 (.slice A n c) n (xs.map (Value.int .i64))) (hn : 0 < n) : ∃ g, A = some ⟨g, 0, none⟩ ∧ w.cell? ⟨g, 0, none⟩ = some (.int .i64 (xs.getD 0 0)) := by
  have hl : xs.length = n := by have := h.1; simpa using this
  rcases h.2 with ⟨_, h0⟩ | ⟨g, cap, cur, e, _⟩
  · omega
  · injection e with e _ _
    subst e
    refine ⟨g, rfl, ?_⟩
    have := h.cellAt 0 (by omega)
    rw [this, List.getElem?_map, List.getElem?_eq_getElem (by omega)]
    simp [List.getD, hl, hn]
set_option maxRecDepth 100000 in
set_option maxHeartbeats 8000000 in
theorem walk_readyScriptC (C : PReady PQ) (w : World) (a : Option Addr) (n c : Nat) (zs : List (List GV)) (hin : CameGen RK w a n c zs) : Calls Try.prog 3 #[.slice a n c] w fun e w' => e = .returned (.bool true) ∧ Below w.heap.size w w' := by
  have hn : n ≤ maxLen := Nat.le_trans hin.2.1 hin.2.2.1
  have HA := hide (racts_open hin)
  have h63 : (n : Int) ≤ 9223372036854775807 := by unfold maxLen at hn; omega
  clear hin
  by_cases h60 : 100 < n
  · have h60' : (100 : Int) < (n : Int) := by omega
    go_enter Try.func3, Try.ntmps3
    go_wp2_with (go_at_call 7; with_reducible refine (pawake8_any C _).mono ?_; rintro e w' ⟨rfl, hb⟩)
    go_ret
    exact ⟨rfl, hb⟩
  have h60' : ¬ (100 : Int) < (n : Int) := by omega
  go_enter Try.func3, Try.ntmps3
  go_wp2_with fail
  go_at_call 8
  refine (C.new _).mono ?_
  rintro e w1 ⟨S, U, rfl, p1, b1, l1⟩
  have T0 := hide (two_new C p1 b1 l1)
  clear p1 b1 l1
  go_upto_region 4 with fail
  obtain ⟨W0, hW0⟩ : ∃ W0, W0 = w1.alloc (.cells #[.slice none 0 0] 29) := ⟨_, rfl⟩
  rw [← hW0] at T0 ⊢
  clear hW0
  generalize w1.heap.size = R at *
  go_wp2_with fail
  go_loopw [5] (fun i wr => ∃ (k : Nat) (s : List Rt) (U D : Nat → Prop), k ≤ n ∧ i = .int .i64 (k : Int) ∧ s.length ≤ k ∧ Hid (TwoR PQ w wr U D [] S R s s)) (fun i _ => n - (intOf i).toNat)
  case atStart => exact ⟨0, _, _, _, Nat.zero_le _, rfl, Nat.zero_le _, T0.out⟩
  case round =>
    clear T0 U
    obtain ⟨k, s, U, D, hk, rfl, hsk, hT⟩ := hrel
    by_cases hlt : k < n
    · obtain ⟨ab, off, rfl, hall⟩ := HA.out (by omega)
      obtain ⟨d, x, pc, pl, pd, hact0⟩ := hall k hlt
      have hact := hact0.below hT.out.bel
      have k0 : (0 : Int) ≤ (k : Int) := by omega
      have k1 : (k : Int) < (n : Int) := by omega
      have c0 := hact.c0
      have c1 := hact.c1
      have c2 := hact.c2
      have c3 := hact.c3
      have c4 := hact.c4
      have HWX := hide hact.wi
      have HWP := hide hact.wp
      have C1 : Hid (CopR (wr.alloc (.cells #[.int .i64 d, .int .i64 x, .int .i64 pc, .int .i64 pl, .int .i64 pd] 33)) wr.heap.size d x pc pl pd) := (show CopR _ _ _ _ _ _ _ from heap_alloc_new _ _)
      have T1 := hide (hT.out.alloc C (.cells #[.int .i64 d, .int .i64 x, .int .i64 pc, .int .i64 pl, .int .i64 pd] 33)).1
      clear hall hact0 hact hT
      go_upto_block 2 with fail
      obtain ⟨W1, hW1⟩ : ∃ W1, W1 = wr.alloc (.cells #[.int .i64 d, .int .i64 x, .int .i64 pc, .int .i64 pl, .int .i64 pd] 33) := ⟨_, rfl⟩
      rw [← hW1] at C1 T1 ⊢
      clear hW1 c0 c1 c2 c3 c4
      generalize wr.heap.size = X at *
      go_cut [7] (fun v' wx => ∃ (s : List Rt) (U D : Nat → Prop), v' = .bool true ∧ s.length ≤ k + 1 ∧ Hid (TwoR PQ w wx U D [X] S R s s) ∧ Hid (CopR wx X d x pc pl pd))
      case first =>
        have q1 := C1.out.cells.2
        have s99 : s.length < 1000 := by omega
        by_cases d0 : d = 0
        · have d0' : (d == 0) = true := by simp [d0]
          clear d0
          have x0 := C1.out.cells.1
          have g0 : (((addE s x ⟨pc, pl, pd⟩ : Nat) : Int) == ((addE s x ⟨pc, pl, pd⟩ : Nat) : Int)) = true := by simp
          go_upto_region 13 with fail
          clear x0
          go_region_held3 (fun w' => w'.cell? ⟨X, 1, none⟩ = some (.int .i64 x) ∧ w'.cell? ⟨X, 2, none⟩ = some (.int .i64 pc) ∧ w'.cell? ⟨X, 3, none⟩ = some (.int .i64 pl) ∧ w'.cell? ⟨X, 4, none⟩ = some (.int .i64 pd)) (first | exact q1 | exact q4 | exact q5) (first
            | (go_at_call 10; refine (C.add (T1.out.below C (below_drewN (Below.refl _ _) 1)).1.ps HWX.out HWP.out s99).mono ?_; intro en w4 hs; obtain ⟨rfl, U4, t4, h4⟩ := (T1.out.below C (below_drewN (Below.refl _ _) 1)).1.left C hs; clear hs; have T4 := hide t4; have C4 : Hid (CopR w4 X d x pc pl pd) := (show CopR _ _ _ _ _ _ _ from (h4 X (by simp)).trans C1.out); have q4 := C4.out.cells.2; clear t4 h4)
            | (go_at_call 11; refine (rqadd_any T4.out.ds x pc pl pd HWX.out HWP.out s99).mono ?_; intro en w5 hs; obtain ⟨rfl, D5, t5, h5⟩ := T4.out.right C hs; clear hs; have T5 := hide t5; have C5 : Hid (CopR w5 X d x pc pl pd) := (show CopR _ _ _ _ _ _ _ from (h5 X (by simp)).trans C4.out); have q5 := C5.out.cells.2; clear t5 h5)
            | (go_at_call 9; refine (num_any _ _).mono ?_; rintro e w' ⟨rfl, rfl⟩))
          go_wp2_with fail
          go_meet
          exact ⟨_, _, _, rfl, by have := addR_le s x ⟨pc, pl, pd⟩; omega, T5.out, C5⟩
        · have d0' : (d == 0) = false := by simp [d0]
          by_cases d1 : d = 1
          · have d1' : (d == 1) = true := by simp [d1]
            clear d0 d1
            have x0 := C1.out.cells.1
            have g0 : (hasR s x == hasR s x) = true := by simp
            go_upto_region 15 with fail
            clear x0
            go_region_held3 (fun w' => w'.cell? ⟨X, 1, none⟩ = some (.int .i64 x) ∧ w'.cell? ⟨X, 2, none⟩ = some (.int .i64 pc) ∧ w'.cell? ⟨X, 3, none⟩ = some (.int .i64 pl) ∧ w'.cell? ⟨X, 4, none⟩ = some (.int .i64 pd)) (first | exact q1 | exact q4 | exact q5) (first
            | (go_at_call 12; refine (C.drop (T1.out.below C (below_drewN (Below.refl _ _) 1)).1.ps HWX.out).mono ?_; intro en w4 hs; obtain ⟨rfl, U4, t4, h4⟩ := (T1.out.below C (below_drewN (Below.refl _ _) 1)).1.left C hs; clear hs; have T4 := hide t4; have C4 : Hid (CopR w4 X d x pc pl pd) := (show CopR _ _ _ _ _ _ _ from (h4 X (by simp)).trans C1.out); have q4 := C4.out.cells.2; clear t4 h4)
            | (go_at_call 13; refine (rqdrop_side T4.out.ds x).mono ?_; intro en w5 hs; obtain ⟨rfl, D5, t5, h5⟩ := T4.out.right C hs; clear hs; have T5 := hide t5; have C5 : Hid (CopR w5 X d x pc pl pd) := (show CopR _ _ _ _ _ _ _ from (h5 X (by simp)).trans C4.out); have q5 := C5.out.cells.2; clear t5 h5))
            go_wp2_with fail
            go_meet
            exact ⟨_, _, _, rfl, by have := List.length_filter_le (fun y : Rt => !((y.id : Int) == x)) s; show (dropR s x).length ≤ k + 1; unfold dropR; omega, T5.out, C5⟩
          · have d1' : (d == 1) = false := by simp [d1]
            by_cases d2 : d = 2
            · have d2' : (d == 2) = true := by simp [d2]
              clear d0 d1 d2
              have x0 := C1.out.cells.1
              have g0 : (((chgE s x ⟨pc, pl, pd⟩ : Nat) : Int) == ((chgE s x ⟨pc, pl, pd⟩ : Nat) : Int)) = true := by simp
              go_upto_region 17 with fail
              clear x0
              go_region_held3 (fun w' => w'.cell? ⟨X, 1, none⟩ = some (.int .i64 x) ∧ w'.cell? ⟨X, 2, none⟩ = some (.int .i64 pc) ∧ w'.cell? ⟨X, 3, none⟩ = some (.int .i64 pl) ∧ w'.cell? ⟨X, 4, none⟩ = some (.int .i64 pd)) (first | exact q1 | exact q4 | exact q5) (first
            | (go_at_call 14; refine (C.chg (T1.out.below C (below_drewN (Below.refl _ _) 1)).1.ps HWX.out HWP.out s99).mono ?_; intro en w4 hs; obtain ⟨rfl, U4, t4, h4⟩ := (T1.out.below C (below_drewN (Below.refl _ _) 1)).1.left C hs; clear hs; have T4 := hide t4; have C4 : Hid (CopR w4 X d x pc pl pd) := (show CopR _ _ _ _ _ _ _ from (h4 X (by simp)).trans C1.out); have q4 := C4.out.cells.2; clear t4 h4)
            | (go_at_call 15; refine (rqchg_any T4.out.ds x pc pl pd HWX.out HWP.out s99).mono ?_; intro en w5 hs; obtain ⟨rfl, D5, t5, h5⟩ := T4.out.right C hs; clear hs; have T5 := hide t5; have C5 : Hid (CopR w5 X d x pc pl pd) := (show CopR _ _ _ _ _ _ _ from (h5 X (by simp)).trans C4.out); have q5 := C5.out.cells.2; clear t5 h5)
            | (go_at_call 9; refine (num_any _ _).mono ?_; rintro e w' ⟨rfl, rfl⟩))
              go_wp2_with fail
              go_meet
              exact ⟨_, _, _, rfl, by have := chgR_le2 s x ⟨pc, pl, pd⟩; omega, T5.out, C5⟩
            · have d2' : (d == 2) = false := by simp [d2]
              clear d0 d1 d2
              have x0 := C1.out.cells.1
              go_wp2_with fail
              go_meet
              exact ⟨_, _, _, rfl, by omega, T1.out, C1⟩
      case rest =>
        clear T1 C1
        obtain ⟨s1, U1, D1, rfl, hs1, hT, hC⟩ := hcut
        have s63 : s1.length ≤ 9223372036854775807 := by omega
        have AL := hide (C.all hT.out.ps)
        obtain ⟨hb, hhb⟩ : ∃ hb, hb = hasR s1 x := ⟨_, rfl⟩
        have HS := hide (fun (W : World) (V : Nat → Prop) (h : PQ W V S s1) => by have := C.has h HWX.out; rw [← hhb] at this; exact this)
        have HR := hide (fun (W : World) (V : Nat → Prop) (h : Rq W V R s1) => by have := rqhas_any h x; rw [← hhb] at this; exact this)
        have LE := hide (fun (W : World) (V : Nat → Prop) (h : PQ W V S s1) => C.len h)
        clear hhb
        have g1 : (hb != hb) = false := by simp
        have g2 : ((s1.length : Int) != (s1.length : Int)) = false := by simp
        go_upto_region 19 with (first
          | (go_at_call 16; refine AL.out.mono ?_; intro en w4 hs; obtain ⟨A4, c4, rfl, o4, U4, q4, h4, f4⟩ := hT.out.allL C hs; have T4 := hide q4; have O4 := hide o4; have F4 := hide f4; have C4 : Hid (CopR w4 X d x pc pl pd) := (show CopR _ _ _ _ _ _ _ from (h4 X (by simp)).trans hC.out); clear hs o4 q4 h4 f4)
          | (go_at_call 17; refine (rqall_any T4.out.ds).mono ?_; rintro en w5 ⟨⟨A5, c5, rfl, o5⟩, b5⟩; obtain ⟨q5, h5, s5⟩ := T4.out.below2 C b5; have G5 := hide (T4.out.newRow C o5); have P5 := hide (own_base o5 (Nat.zero_le _)); have T5 := hide q5; have F5 := hide (s5 _ F4.out).1; have O5 := hide ((s5 _ F4.out).2 _ _ _ _ _ O4.out); have C5 : Hid (CopR w5 X d x pc pl pd) := (show CopR _ _ _ _ _ _ _ from (h5 X (by simp)).trans C4.out); clear q5 h5 s5 o5 b5))
        clear AL hT hC
        by_cases hz : s1.length = 0
        · have hnil : s1 = [] := List.length_eq_zero_iff.mp hz
          have FI := hide (fun (W : World) (V : Nat → Prop) (h : PQ W V S s1) => show Calls Try.prog 18 #[.pointer (some ⟨S, 0, none⟩)] W (SideR (fun w' U' => PQ w' U' S s1) V W (.tuple #[.int .i64 0, .bool false])) from by have := C.first h; rw [show firstR s1 = (0, false) from by rw [hnil]; rfl] at this; exact this)
          clear hnil
          have z0 : ¬ (0 : Int) < (s1.length : Int) := by omega
          clear hz
          go_upto_region 23 with (first
            | (go_at_call 18; refine (FI.out _ _ T5.out.ps).mono ?_; intro en w6 hs; obtain ⟨rfl, U6, q6, h6, s6⟩ := T5.out.left2 C hs; have T6 := hide q6; have C6 : Hid (CopR w6 X d x pc pl pd) := (show CopR _ _ _ _ _ _ _ from (h6 X (by simp)).trans C5.out); have F6 := hide (s6 _ F5.out).1; have O6 := hide ((s6 _ F5.out).2 _ _ _ _ _ O5.out); have G6 := hide (s6 _ G5.out).1; have P6 := hide ((s6 _ G5.out).2 _ _ _ _ _ P5.out); clear hs q6 h6 s6))
          have q6 := C6.out.cells.2.1
          clear T4
          go_region_held3 (fun w' => w'.cell? ⟨X, 1, none⟩ = some (.int .i64 x)) (first | exact q6 | exact q7 | exact q8 | exact q9) (first
            | (go_at_call 19; refine (HS.out _ _ (T6.out.below2 C (below_drewN (Below.refl _ _) 1)).1.ps).mono ?_; intro en w7 hs; obtain ⟨b7, z7, y7⟩ := T6.out.below2 C (below_drewN (Below.refl w6.heap.size w6) 1); obtain ⟨rfl, U7, t7, h7, s7⟩ := b7.left2 C hs; have T7 := hide t7; have C7 : Hid (CopR w7 X d x pc pl pd) := (show CopR _ _ _ _ _ _ _ from (h7 X (by simp)).trans ((z7 X (by simp)).trans C6.out)); have q7 := C7.out.cells.2.1; have F7 := hide (s7 _ (y7 _ F6.out).1).1; have O7 := hide ((s7 _ (y7 _ F6.out).1).2 _ _ _ _ _ ((y7 _ F6.out).2 _ _ _ _ _ O6.out)); have G7 := hide (s7 _ (y7 _ G6.out).1).1; have P7 := hide ((s7 _ (y7 _ G6.out).1).2 _ _ _ _ _ ((y7 _ G6.out).2 _ _ _ _ _ P6.out)); clear hs b7 z7 y7 t7 h7 s7)
            | (go_at_call 20; refine (HR.out _ _ T7.out.ds).mono ?_; rintro e w' ⟨rfl, rfl⟩)
            | (go_at_call 21; refine (LE.out _ _ T7.out.ps).mono ?_; intro en w8 hs; obtain ⟨rfl, U8, t8, h8, s8⟩ := T7.out.left2 C hs; have T8 := hide t8; have C8 : Hid (CopR w8 X d x pc pl pd) := (show CopR _ _ _ _ _ _ _ from (h8 X (by simp)).trans C7.out); have q8 := C8.out.cells.2.1; have F8 := hide (s8 _ F7.out).1; have O8 := hide ((s8 _ F7.out).2 _ _ _ _ _ O7.out); have P8 := hide ((s8 _ G7.out).2 _ _ _ _ _ P7.out); clear hs t8 h8 s8)
            | (go_at_call 22; refine (same_own _ _ _ _ _ O8.out P8.out s63).mono ?_; rintro e w9 ⟨rfl, b9⟩; obtain ⟨t9, h9, s9⟩ := T8.out.below2 C b9; have T9 := hide t9; have q9 := (show CopR w9 X d x pc pl pd from (h9 X (by simp)).trans C8.out).cells.2.1; have F9 := hide (s9 _ F8.out).1; have O9 := hide ((s9 _ F8.out).2 _ _ _ _ _ O8.out); clear t9 h9 s9 b9))
          go_wp2_with (go_at_call 23; refine (over_touch _ _ _ _ O9.out (by omega)).mono ?_; rintro e w10 ⟨rfl, t10⟩; have T10 := hide ((T9.out.over C F9.out t10).1.fewer (X' := []) (fun g hg => absurd hg List.not_mem_nil)); clear t10)
          go_roundw
          case rel => exact ⟨k + 1, _, _, _, by omega, by go_num, by omega, T10.out⟩
          case measure => simp [intOf]; omega
        · have hz1 : 0 < s1.length := by omega
          have z0 : (0 : Int) < (s1.length : Int) := by omega
          clear hz
          obtain ⟨ft, hft⟩ : ∃ ft : Int, ft = (firstR s1).1 := ⟨_, rfl⟩
          have hfb : firstR s1 = (ft, true) := by
            rw [hft]
            cases s1 with
            | nil => cases hz1
            | cons y t => rfl
          have GA := hide (show (allR s1).getD 0 0 = ft from by
            rw [hft]
            cases s1 with
            | nil => cases hz1
            | cons y t => rfl)
          have FI := hide (fun (W : World) (V : Nat → Prop) (h : PQ W V S s1) => show Calls Try.prog 18 #[.pointer (some ⟨S, 0, none⟩)] W (SideR (fun w' U' => PQ w' U' S s1) V W (.tuple #[.int .i64 ft, .bool true])) from by have := C.first h; rw [hfb] at this; exact this)
          clear hft hfb
          have g3 : ((ft : Int) != (ft : Int)) = false := by simp
          obtain ⟨g, rfl, -⟩ := own_first P5.out hz1
          go_upto_region 23 with (first
            | (go_at_call 18; refine (FI.out _ _ T5.out.ps).mono ?_; intro en w6 hs; obtain ⟨rfl, U6, q6, h6, s6⟩ := T5.out.left2 C hs; have T6 := hide q6; have C6 : Hid (CopR w6 X d x pc pl pd) := (show CopR _ _ _ _ _ _ _ from (h6 X (by simp)).trans C5.out); have F6 := hide (s6 _ F5.out).1; have O6 := hide ((s6 _ F5.out).2 _ _ _ _ _ O5.out); have G6 := hide (s6 _ G5.out).1; have P6 := hide ((s6 _ G5.out).2 _ _ _ _ _ P5.out); have y0 := (show w6.cell? ⟨g, 0, none⟩ = some (.int .i64 ft) from by obtain ⟨g', e1, e2⟩ := own_first P6.out hz1; injection e1 with e1; injection e1 with e1 _ _; subst e1; rw [← GA.out]; exact e2); clear hs q6 h6 s6))
          have q6 := C6.out.cells.2.1
          clear y0
          go_region_held3 (fun w' => w'.cell? ⟨X, 1, none⟩ = some (.int .i64 x)) (first | exact q6 | exact q7 | exact q8 | exact q9) (first
            | (go_at_call 19; refine (HS.out _ _ (T6.out.below2 C (below_drewN (Below.refl _ _) 1)).1.ps).mono ?_; intro en w7 hs; obtain ⟨b7, z7, y7⟩ := T6.out.below2 C (below_drewN (Below.refl w6.heap.size w6) 1); obtain ⟨rfl, U7, t7, h7, s7⟩ := b7.left2 C hs; have T7 := hide t7; have C7 : Hid (CopR w7 X d x pc pl pd) := (show CopR _ _ _ _ _ _ _ from (h7 X (by simp)).trans ((z7 X (by simp)).trans C6.out)); have q7 := C7.out.cells.2.1; have F7 := hide (s7 _ (y7 _ F6.out).1).1; have O7 := hide ((s7 _ (y7 _ F6.out).1).2 _ _ _ _ _ ((y7 _ F6.out).2 _ _ _ _ _ O6.out)); have G7 := hide (s7 _ (y7 _ G6.out).1).1; have P7 := hide ((s7 _ (y7 _ G6.out).1).2 _ _ _ _ _ ((y7 _ G6.out).2 _ _ _ _ _ P6.out)); clear hs b7 z7 y7 t7 h7 s7)
            | (go_at_call 20; refine (HR.out _ _ T7.out.ds).mono ?_; rintro e w' ⟨rfl, rfl⟩)
            | (go_at_call 21; refine (LE.out _ _ T7.out.ps).mono ?_; intro en w8 hs; obtain ⟨rfl, U8, t8, h8, s8⟩ := T7.out.left2 C hs; have T8 := hide t8; have C8 : Hid (CopR w8 X d x pc pl pd) := (show CopR _ _ _ _ _ _ _ from (h8 X (by simp)).trans C7.out); have q8 := C8.out.cells.2.1; have F8 := hide (s8 _ F7.out).1; have O8 := hide ((s8 _ F7.out).2 _ _ _ _ _ O7.out); have P8 := hide ((s8 _ G7.out).2 _ _ _ _ _ P7.out); clear hs t8 h8 s8)
            | (go_at_call 22; refine (same_own _ _ _ _ _ O8.out P8.out s63).mono ?_; rintro e w9 ⟨rfl, b9⟩; obtain ⟨t9, h9, s9⟩ := T8.out.below2 C b9; have T9 := hide t9; have q9 := (show CopR w9 X d x pc pl pd from (h9 X (by simp)).trans C8.out).cells.2.1; have F9 := hide (s9 _ F8.out).1; have O9 := hide ((s9 _ F8.out).2 _ _ _ _ _ O8.out); clear t9 h9 s9 b9))
          go_wp2_with (go_at_call 23; refine (over_touch _ _ _ _ O9.out (by omega)).mono ?_; rintro e w10 ⟨rfl, t10⟩; have T10 := hide ((T9.out.over C F9.out t10).1.fewer (X' := []) (fun g hg => absurd hg List.not_mem_nil)); clear t10)
          go_roundw
          case rel => exact ⟨k + 1, _, _, _, by omega, by go_num, by omega, T10.out⟩
          case measure => simp [intOf]; omega
    · obtain rfl : k = n := by omega
      have s63 : s.length ≤ 9223372036854775807 := by omega
      have AL := hide (C.all hT.out.ps)
      go_wp2_with (first
        | (go_at_call 16; refine AL.out.mono ?_; intro en w2 hs; obtain ⟨A2, c2, rfl, o2, U2, q2, h2, f2⟩ := hT.out.allL C hs; have O2 := hide q2; have R2 := hide o2; have F2 := hide f2; clear hs o2 q2 h2 f2)
        | (go_at_call 17; refine (rqall_any O2.out.ds).mono ?_; rintro en w3 ⟨⟨A3, c3, rfl, o3⟩, b3⟩; obtain ⟨q3, h3, s3⟩ := O2.out.below2 C b3; have O3 := hide q3; have R3 := hide o3; have R4 := hide ((s3 _ F2.out).2 _ _ _ _ _ R2.out); clear q3 h3 s3 o3 b3)
        | (go_at_call 22; refine (same_own _ _ _ _ _ R4.out R3.out s63).mono ?_; rintro e w4 ⟨rfl, b4⟩; have O4 := hide (O3.out.below C b4).1; clear b4)
        | (go_at_call 7; with_reducible refine (pawake8_any C _).mono ?_; rintro e w' ⟨rfl, hb⟩))
      go_ret
      exact ⟨rfl, O4.out.bel.trans (hb.mono O4.out.bel.size)⟩
end
end Go.Proofs.Ytccokhalcdljiaa
