/-
  The law ProgFix, over the contracts of the program's prog.
-/
import Derived.Test.YthgoifmmnebkeaaPgLaws
namespace Go.Proofs.Ythgoifmmnebkeaa
open Go.ChangeShapes Go.WideShapes Go.ChangeAt Go.RowKit
set_option linter.unusedVariables false
theorem may_zSt : maySt zSt = true := by simp [maySt, zSt, eqSt, eqCl, clZ, emp]
theorem may_fixO (x : Step) : maySt (fixO x) = true := by
  unfold fixO
  by_cases h : maySt x = true
  · rw [if_pos h]; exact h
  · rw [if_neg h]; exact may_zSt
theorem fixO_fixO (x : Step) : fixO (fixO x) = fixO x := by
  have h := may_fixO x
  generalize fixO x = y at *
  unfold fixO; rw [if_pos h]
theorem fixL_length (xs : List Step) : (fixL xs).length = min 40 xs.length := by unfold fixL; simp
theorem fixL_fixL (xs : List Step) : fixL (fixL xs) = fixL xs := by
  have h : (fixL xs).take 40 = fixL xs := List.take_of_length_le (by rw [fixL_length]; omega)
  show ((fixL xs).take 40).map fixO = fixL xs
  rw [h]
  unfold fixL
  rw [List.map_map]
  exact List.map_congr_left fun x _ => fixO_fixO x
theorem wf_zSt (w : World) : StWf w zSt := wf_step w0I w0I w
theorem wf_fixL {w : World} {xs : List Step} (h : ∀ x ∈ xs, StWf w x) : ∀ x ∈ fixL xs, StWf w x := by
  intro x hx
  obtain ⟨y, hy, rfl⟩ := List.mem_map.1 hx
  unfold fixO
  split
  · exact h y (List.mem_of_mem_take hy)
  · exact wf_zSt w
theorem may_fixL {xs : List Step} {k : Nat} {x : Step} (h : (fixL xs)[k]? = some x) : maySt x = true := by
  obtain ⟨y, _, rfl⟩ := List.mem_map.1 (List.mem_iff_getElem?.2 ⟨k, h⟩)
  exact may_fixO y
theorem fix_form (C : PProg) (W : World) (A : Option Addr) (k cc : Nat) (ys F : List Step) (m : Nat) (hr : Reads 9 stVals W A k ys) (hw : ∀ x ∈ ys, StWf W x) (h1 : k ≤ cc) (h2 : cc ≤ maxLen) (h3 : A = none → cc = 0) (h4 : k ≤ 1000000) (hF : fixL ys = F) (hm : F.length = m) :
    Calls Try.prog 14 #[.slice A k cc] W fun e w' => ∃ a3 c3, e = .returned (.slice a3 m c3) ∧ w'.ownsRow W.heap.size 25 9 (.slice a3 m c3) m (F.flatMap stVals) ∧ m ≤ c3 ∧ c3 ≤ maxLen ∧ (a3 = none → c3 = 0) ∧ Below W.heap.size W w' := by
  subst hF
  subst hm
  refine (C.fix W A k cc ys hr hw h1 h2 h3 h4).mono ?_
  rintro e w' ⟨v, rfl, ho, hb⟩
  obtain ⟨a, c, rfl, _, q1, q2, q3⟩ := own_reads stVals_len (by omega) ho
  exact ⟨a, c, rfl, ho, q1, q2, q3, hb⟩
theorem rfix_form (W : World) (A : Option Addr) (k cc : Nat) (ys F : List Step) (m : Nat) (hr : Reads 9 stVals W A k ys) (h2 : k ≤ maxLen) (hF : fixL ys = F) (hm : F.length = m) :
    Calls Try.prog 16 #[.slice A k cc] W fun e w' => ∃ a3 c3, e = .returned (.slice a3 m c3) ∧ w'.ownsRow W.heap.size 25 9 (.slice a3 m c3) m (F.flatMap stVals) ∧ Below W.heap.size W w' := by
  subst hF
  subst hm
  refine (rfix_any A k cc ys W hr h2).mono ?_
  rintro e w' ⟨v, rfl, ho, hb⟩
  obtain ⟨a, c, rfl, _, q1, q2, q3⟩ := own_reads stVals_len (by omega) ho
  exact ⟨a, c, rfl, ho, hb⟩
theorem own_readsL {W : World} {B m : Nat} {a : Option Addr} {c : Nat} {F : List Step} (h : W.ownsRow B 25 9 (.slice a m c) m (F.flatMap stVals)) : Reads 9 stVals W a m F := by
  obtain ⟨a', c', e, hr, _⟩ := own_reads stVals_len (by omega) h
  injection e with e1 _ e2
  subst e1 e2
  exact hr
theorem own_keep {S : Nat → Prop} {W W' : World} {B m : Nat} {v : Value} {L : List Value} (b : Below W.heap.size W W') (h : W.ownsRow B 25 9 v m L) : W'.ownsRow B 25 9 v m L := (Touch.of_below (S := fun _ => False) b).own h (fun _ _ e => e)
set_option maxRecDepth 10000 in
set_option maxHeartbeats 16000000 in
theorem walk_progFixC (C : PProg) (w : World) (a : Option Addr) (n c : Nat) (xs : List Step) (hin : Came 9 stVals StWf w a n c xs) : Calls Try.prog 4 #[.slice a n c] w fun e w' => e = .returned (.bool true) ∧ Below w.heap.size w w' := by
  have hr := hin.reads
  obtain ⟨hxl, hnc, hcm, hnil, hfit, _⟩ := hin
  have hn : n ≤ maxLen := by omega
  by_cases hg : greatB xs = true
  · have K0 := hide (show Calls Try.prog 12 #[.slice a n c] w fun e w' => e = .returned (.bool true) ∧ w = w' from by have := great_any a n c xs w hr hn; rw [hg] at this; exact this)
    clear hr hxl hnc hcm hnil hfit hn hg
    go_enter Try.func4, Try.ntmps4
    go_wp2_with (first
      | (go_at_call 12; refine K0.out.mono ?_; rintro e w' ⟨rfl, rfl⟩)
      | (go_at_call 7; refine (pgawake_any C _).mono ?_; rintro e w2 ⟨rfl, b2⟩))
    go_ret
    exact ⟨rfl, b2⟩
  · have hg' : greatB xs = false := by simpa using hg
    have h60 : n ≤ 60 := by
      unfold greatB at hg'
      simp at hg'
      omega
    have K0 := hide (show Calls Try.prog 12 #[.slice a n c] w fun e w' => e = .returned (.bool false) ∧ w = w' from by have := great_any a n c xs w hr hn; rw [hg'] at this; exact this)
    obtain ⟨g, hgs⟩ : ∃ g, g = w.heap.size := ⟨_, rfl⟩
    have LD := hide (show Calls Try.prog 13 #[.slice a n c] w fun e w' => e = .returned (.slice (some ⟨g, 0, none⟩) n (n + 3)) ∧ RoomG 9 stVals mkOps 25 w' g n 3 xs ∧ Below w.heap.size w w' from by rw [hgs]; exact lendOps_any a n c xs w hr hnil (by omega))
    have HGS := hide hgs
    have RD := hide (fun (W : World) (bw : Below w.heap.size w W) => hr.below bw)
    have WF := hide (show ∀ (W : World), ∀ x ∈ xs, StWf W x from fun W x hx => hfit x hx)
    have HL := hide hxl
    have HNC := hide hnc
    have HCM := hide hcm
    have HNIL := hide hnil
    have HN := hide hn
    have H60 := hide h60
    obtain ⟨F, hF⟩ : ∃ F, fixL xs = F := ⟨_, rfl⟩
    obtain ⟨m, hm⟩ : ∃ m, F.length = m := ⟨_, rfl⟩
    have HF := hide hF
    have HM := hide hm
    have HFF := hide (show fixL F = F from by rw [← hF]; exact fixL_fixL xs)
    have WFF := hide (show ∀ (W : World), ∀ x ∈ F, StWf W x from fun W => by rw [← hF]; exact wf_fixL (WF.out W))
    have m40 : m ≤ 40 := by rw [← hm, ← hF, fixL_length]; omega
    have M40 := hide m40
    clear hr hxl hnc hcm hnil hfit hn hg hg' hgs hF hm m40 h60
    go_enter Try.func4, Try.ntmps4
    go_upto_region 6 with (first
      | (go_at_call 12; refine K0.out.mono ?_; rintro e w' ⟨rfl, rfl⟩)
      | (go_at_call 13; refine LD.out.mono ?_; rintro e w2 ⟨rfl, r2, b2⟩; have R2 := hide r2; have B2 := hide b2; clear r2 b2)
      | (go_at_call 14; have t6 := B6.out; clear t6; refine (fix_form C _ _ m _ F F m (own_readsL O6.out) (WFF.out _) CF.out.1 CF.out.2.1 CF.out.2.2 (by have := M40.out; omega) HFF.out HM.out).mono ?_; rintro e w7 ⟨a7, c7, rfl, o7, _, _, _, b7⟩; have Q7 := hide o7; have B7 := hide (B6.out.trans (b7.mono B6.out.size)); have O7 := hide (own_keep (S := fun _ => False) b7 O6.out); have R7 := hide (R6.out.below b7); clear o7 b7)
      | (go_at_call 14; refine (fix_form C _ _ n (n + 3) xs F m (R2.out.row stVals_len HL.out) (WF.out _) (by omega) (by have := H60.out; unfold maxLen; omega) (fun e => by cases e) (by have := H60.out; omega) HF.out HM.out).mono ?_; rintro e w3 ⟨a3, c3, rfl, o3, q1, q2, q3, b3⟩; have O3 := hide o3; have CF := hide (And.intro q1 (And.intro q2 q3)); have B3 := hide (B2.out.trans (b3.mono B2.out.size)); have R3 := hide (R2.out.below b3); have LW := hide B2.out.size; clear o3 q1 q2 q3 b3)
      | (go_at_call 16; refine (rfix_form _ _ n _ xs F m (RD.out _ B3.out) HN.out HF.out HM.out).mono ?_; rintro e w4 ⟨a4, c4, rfl, o4, b4⟩; have Q4 := hide o4; have B4 := hide (B3.out.trans (b4.mono B3.out.size)); have O4 := hide (own_keep (S := fun _ => False) b4 O3.out); have R4 := hide (R3.out.below b4); clear o4 b4)
      | (go_at_call 15; have t7 := B7.out; clear t7; refine (sameOps_any _ _ m _ _ F _ (own_readsL Q7.out) (own_readsL O7.out) (by have := M40.out; omega)).mono ?_; rintro e w8 ⟨rfl, b8⟩; have B8 := hide (B7.out.trans (b8.mono B7.out.size)); have O8 := hide (own_keep (S := fun _ => False) b8 O7.out); clear b8)
      | (go_at_call 15; refine (sameOps_any _ _ m _ _ F _ (own_readsL O4.out) (own_readsL Q4.out) (by have := M40.out; omega)).mono ?_; rintro e w5 ⟨rfl, b5⟩; have B5 := hide (B4.out.trans (b5.mono B4.out.size)); have O5 := hide (own_keep (S := fun _ => False) b5 O4.out); have R5 := hide (R4.out.below b5); clear b5)
      | (go_at_call 17; refine (keptOps_any _ _ n _ xs _ R5.out (RD.out _ B5.out) (by have := H60.out; omega)).mono ?_; rintro e w6 ⟨rfl, b6⟩; have B6 := hide (B5.out.trans (b6.mono B5.out.size)); have O6 := hide (own_keep (S := fun _ => False) b6 O5.out); have R6 := hide (R5.out.below b6); clear b6))
    clear K0 LD R2 B2 O3 CF B3 R3 Q4 B4 O4 R4 B5 O5 R5 B6 O6 R6 Q7 B7 O7 R7
    go_wp2_with fail
    go_loopw [5, 6] (fun ok i wr => ∃ k : Nat, ok = .bool true ∧ k ≤ m ∧ i = .int .i64 k ∧ Hid (wr.ownsRow w2.heap.size 25 9 (.slice a3 m c3) m (F.flatMap stVals) ∧ Below w.heap.size w wr)) (fun _ i _ => m - (intOf i).toNat)
    case atStart => exact ⟨0, rfl, Nat.zero_le _, rfl, O8.out, B8.out⟩
    case round =>
      clear O8 B8
      obtain ⟨k, rfl, hk, rfl, hZ⟩ := hrel
      have m40 := M40.out
      by_cases hlt : k < m
      · have k0 : (0 : Int) ≤ (k : Int) := by omega
        have k1 : (k : Int) < (m : Int) := by omega
        obtain ⟨x, b, off, hx, e3, hc⟩ := (own_readsL hZ.out.1).at_ hlt
        subst e3
        have hmx : maySt x = true := by
          have := HF.out
          rw [← this] at hx
          exact may_fixL hx
        have hwx : ∀ W, StWf W x := fun W => WFF.out W x (List.mem_iff_getElem?.2 ⟨k, hx⟩)
        have KM := hide (fun (W : World) => show Calls Try.prog 8 #[.agg #[.int .i64 x.k, .int .i64 x.a, .int .i64 x.b, .int .i64 x.c, .int .i64 x.cl.sys, .int .i64 x.cl.a, .int .i64 x.cl.b, .string x.cl.s, .string x.cl.t]] W fun e w' => e = .returned (.bool true) ∧ Below W.heap.size W w' from by have := C.may W x (hwx W); rw [hmx] at this; exact this)
        have p0 : wr.cell? ⟨b, off + k * 9, none⟩ = some (.int .i64 x.k) := hc 0 _ rfl
        have p1 : wr.cell? ⟨b, off + k * 9 + 1, none⟩ = some (.int .i64 x.a) := hc 1 _ rfl
        have p2 : wr.cell? ⟨b, off + k * 9 + 2, none⟩ = some (.int .i64 x.b) := hc 2 _ rfl
        have p3 : wr.cell? ⟨b, off + k * 9 + 3, none⟩ = some (.int .i64 x.c) := hc 3 _ rfl
        have p4 : wr.cell? ⟨b, off + k * 9 + 4, none⟩ = some (.int .i64 x.cl.sys) := hc 4 _ rfl
        have p5 : wr.cell? ⟨b, off + k * 9 + 5, none⟩ = some (.int .i64 x.cl.a) := hc 5 _ rfl
        have p6 : wr.cell? ⟨b, off + k * 9 + 6, none⟩ = some (.int .i64 x.cl.b) := hc 6 _ rfl
        have p7 : wr.cell? ⟨b, off + k * 9 + 7, none⟩ = some (.string x.cl.s) := hc 7 _ rfl
        have p8 : wr.cell? ⟨b, off + k * 9 + 8, none⟩ = some (.string x.cl.t) := hc 8 _ rfl
        clear hx hc hmx hwx
        go_wp2_with (go_at_call 8; refine (KM.out _).mono ?_; rintro e w9 ⟨rfl, b9⟩; have O9 := hide (own_keep (S := fun _ => False) b9 hZ.out.1); have B9 := hide (hZ.out.2.trans (b9.mono hZ.out.2.size)); clear b9)
        go_roundw
        case rel => exact ⟨k + 1, rfl, by omega, by go_num, O9.out, B9.out⟩
        case measure => simp [intOf]; omega
      · obtain rfl : k = m := by omega
        have O9 := hide hZ.out.1
        have B9 := hide hZ.out.2
        clear hZ
        go_wp2_with (first
          | (go_at_call 18; refine (overOps_any _ _ _ _ O9.out (by omega)).mono ?_; rintro e w10 ⟨rfl, t10⟩; have B10 := hide (B9.out.trans (t10.below B9.out.size (fun i e => Nat.le_trans LW.out (O9.out.lt i e).1))); clear t10)
          | (go_at_call 14; refine (fix_form C _ _ n _ xs F _ (RD.out _ B10.out) (WF.out _) HNC.out HCM.out HNIL.out (by have := H60.out; omega) HF.out HM.out).mono ?_; rintro e w11 ⟨a11, c11, rfl, o11, _, _, _, b11⟩; have Q11 := hide o11; have B11 := hide (B10.out.trans (b11.mono B10.out.size)); clear o11 b11)
          | (go_at_call 16; refine (rfix_form _ _ n _ xs F _ (RD.out _ B11.out) HN.out HF.out HM.out).mono ?_; rintro e w12 ⟨a12, c12, rfl, o12, b12⟩; have Q12 := hide o12; have B12 := hide (B11.out.trans (b12.mono B11.out.size)); have O12 := hide (own_keep (S := fun _ => False) b12 Q11.out); clear o12 b12)
          | (go_at_call 15; refine (sameOps_any _ _ _ _ _ F _ (own_readsL O12.out) (own_readsL Q12.out) (by omega)).mono ?_; rintro e w13 ⟨rfl, b13⟩; have B13 := hide (B12.out.trans (b13.mono B12.out.size)); clear b13)
          | (go_at_call 7; refine (pgawake_any C _).mono ?_; rintro e w14 ⟨rfl, b14⟩; have B14 := hide (B13.out.trans (b14.mono B13.out.size)); clear b14))
        go_ret
        exact ⟨rfl, B14.out⟩
end Go.Proofs.Ythgoifmmnebkeaa
