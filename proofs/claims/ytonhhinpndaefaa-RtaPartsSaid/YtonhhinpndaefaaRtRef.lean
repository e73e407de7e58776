/-
  The document's work and response (coxswainref16); the law's parts turned into the document's.
-/
import Derived.Test.YtonhhinpndaefaaRtIn
namespace Go.Proofs.Ytonhhinpndaefaa
open Go.ChangeShapes Go.WideShapes Go.ChangeAt Go.RowKit
set_option linter.unusedVariables false
theorem quiet_rt {P : Program} {f : FuncId} {args : Array Value} {w : World} {n : Nat} {v : Value} (h : Calls P f args (w.drewN n) fun e w' => e = .returned v ∧ w.drewN n = w') : Calls P f args (w.drewN n) fun e w' => e = .returned v ∧ ∃ m, w' = w.drewN m :=
  h.mono fun e w' hh => ⟨hh.1, n, hh.2.symm⟩
set_option maxHeartbeats 4000000 in
theorem rwork_any (w : World) (span : Int) (a : Option Addr) (n c : Nat) (ps : List Pt) (hr : Reads 2 ptVals w a n ps) (hn : n ≤ 1000) :
    Calls Try.prog 13 #[.int .i64 span, .slice a n c] w fun e w' => e = .returned (.int .i64 (workP span ps)) ∧ ∃ m, w' = w.drewN m := by
  have HR := hide (show ∀ m, Reads 2 ptVals (w.drewN m) a n ps from fun m => hr.below (below_drewN (Below.refl _ w) m))
  have HL := hide hr.1
  have HN := hide hn
  have n2 : (n : Int) ≤ 1000 := by omega
  have UP := hide (fun (W : World) (b : Int) => rup_any span b W)
  have MU := hide (fun (W : World) (a b : Int) => rmul_any a b W)
  have AD := hide (fun (W : World) (a b : Int) => radd_any a b W)
  clear hr hn
  go_enter Try.func13, Try.ntmps13
  go_wp2_with fail
  go_loopw [5, 6] (fun sv iv wr => ∃ i m : Nat, i ≤ n ∧ iv = .int .i64 (i : Int) ∧ sv = .int .i64 (workP span (ps.take i)) ∧ wr = w.drewN m) (fun _ iv _ => n - (intOf iv).toNat)
  case atStart => exact ⟨0, 0, Nat.zero_le _, rfl, rfl, rfl⟩
  case round =>
    obtain ⟨i, m, hi, rfl, rfl, rfl⟩ := hrel
    by_cases hlt : i < n
    · have i0 : (0 : Int) ≤ (i : Int) := by omega
      have i1 : (i : Int) < (n : Int) := by omega
      obtain ⟨pb, po, rfl, y0, y1⟩ := reads_pt (HR.out m) hlt
      have NX := hide (show workP span (ps.take (i + 1)) = cl (cl (workP span (ps.take i)) + cl (mul (up span (ps.getD i ptD).per) (ps.getD i ptD).cost)) from by
        rw [take_pt (by rw [HL.out]; exact hlt), ← workP_step]; rfl)
      obtain ⟨x, hx⟩ : ∃ x, x = ps.getD i ptD := ⟨_, rfl⟩
      rw [← hx] at y0 y1 NX
      obtain ⟨s, hs⟩ : ∃ s, s = workP span (ps.take i) := ⟨_, rfl⟩
      rw [← hs] at NX ⊢
      obtain ⟨W1, hW1⟩ : ∃ W1, W1 = w.drewN m := ⟨_, rfl⟩
      rw [← hW1] at y0 y1 ⊢
      have HW := hide hW1
      clear hx hs hW1
      go_upto_region 5 with fail
      go_quiet ((first
        | (go_at_call 25; exact quiet_rt (UP.out _ _))
        | (go_at_call 24; exact quiet_rt (MU.out _ _ _))
        | (go_at_call 15; exact quiet_rt (AD.out _ _ _))))
      go_wp2_with fail
      go_roundw
      case rel => exact ⟨i + 1, _, by omega, by go_num, by rw [NX.out], by rw [HW.out]; exact World.drewN_drewN w m _⟩
      case measure => simp [intOf]; omega
    · obtain rfl : i = n := by omega
      go_wp2_with fail
      go_ret
      exact ⟨ret_int (by rw [List.take_of_length_le (by rw [HL.out]; exact Nat.le_refl _)]), m, rfl⟩
/-- What a response is told as. -/
def RespIs (own block : Int) (ps : List Pt) (most : Int) (v : Value) : Prop := ∃ r ok, v = .tuple #[.int .i64 r, .bool ok] ∧ IsResp own block ps most r ok
set_option maxHeartbeats 4000000 in
theorem rresp_any (w : World) (own block : Int) (a : Option Addr) (n c : Nat) (ps : List Pt) (most : Int) (hr : Reads 2 ptVals w a n ps) (hn : n ≤ 1000) :
    Calls Try.prog 10 #[.int .i64 own, .int .i64 block, .slice a n c, .int .i64 most] w fun e w' => ∃ v, e = .returned v ∧ RespIs own block ps most v ∧ ∃ m, w' = w.drewN m := by
  have WK := hide (fun (m : Nat) (s : Int) => rwork_any (w.drewN m) s a n c ps (hr.below (below_drewN (Below.refl _ w) m)) hn)
  have CL := hide (fun (W : World) => rclip_any most W)
  have AD := hide (fun (W : World) (a b : Int) => radd_any a b W)
  clear hr hn
  obtain ⟨L, hL⟩ : ∃ L, L = cl most := ⟨_, rfl⟩
  have L0 : 0 ≤ L := by rw [hL]; exact cl_lo _
  have HL := hide hL
  rw [← hL] at CL
  clear hL
  go_enter Try.func10, Try.ntmps10
  go_wp2_with fail
  go_loopw [10] (fun iv wr => ∃ (i : Nat) (m : Nat), 1 ≤ i ∧ i ≤ 4097 ∧ iv = .int .i64 (i : Int) ∧ wr = w.drewN m ∧ Hid (∀ s : Int, 1 ≤ s → s < (i : Int) → s < needP own block ps s)) (fun iv _ => 4097 - (intOf iv).toNat)
  case atStart => exact ⟨1, 0, by omega, by omega, rfl, rfl, fun s h1 h2 => by omega⟩
  case round =>
    obtain ⟨i, m, h1, h2, rfl, rfl, hZ⟩ := hrel
    by_cases c1 : (i : Int) ≤ L
    · by_cases c2 : (i : Int) ≤ 4096
      · obtain ⟨u, hu⟩ : ∃ u, u = workP (i : Int) ps := ⟨_, rfl⟩
        obtain ⟨v, hv⟩ : ∃ v, v = cl (cl (cl (cl own + cl block)) + cl u) := ⟨_, rfl⟩
        have NV := hide (show v = needP own block ps i from by rw [hv, hu]; unfold needP; rw [sum_three, cl_cl])
        have AD2 := hide (fun (W : World) => (by rw [hv]; exact radd_any (cl (cl own + cl block)) u W : Calls Try.prog 15 #[.int .i64 (cl (cl own + cl block)), .int .i64 u] W fun e w' => e = .returned (.int .i64 v) ∧ W = w'))
        have AD1 := hide (fun (W : World) => radd_any own block W)
        have WI := hide (fun m => WK.out m (i : Int))
        rw [← hu] at WI
        obtain ⟨t, ht⟩ : ∃ t, t = cl (cl own + cl block) := ⟨_, rfl⟩
        rw [← ht] at AD1 AD2
        have i2 : (i : Int) ≤ 5000 := by omega
        clear hu hv ht AD WK
        by_cases c3 : v ≤ (i : Int)
        · have FIN := hide (show IsResp own block ps most i true from .inl ⟨rfl, by omega, by rw [← HL.out]; exact c1, c2, by rw [← NV.out]; exact c3, fun s s1 s2 => by have := hZ.out s s1 s2; omega⟩)
          go_wp2_with (first
            | (go_at_call 19; refine (CL.out _).mono ?_; rintro e w' ⟨rfl, rfl⟩)
            | (go_at_call 15; refine (AD1.out _).mono ?_; rintro e w' ⟨rfl, rfl⟩; clear AD1)
            | (go_at_call 13; refine (WI.out _).mono ?_; rintro e w' ⟨rfl, m2, hw2⟩; have HW2 := hide hw2; clear hw2)
            | (go_at_call 15; refine (AD2.out _).mono ?_; rintro e w' ⟨rfl, rfl⟩))
          exact bodyPost_ret (v := .tuple #[.int .i64 (i : Int), .bool true]) (by simp [results, Try.results10, go_sem]) rfl ⟨_, rfl, ⟨_, _, rfl, FIN.out⟩, _, by rw [HW2.out]; exact World.drewN_drewN w m m2⟩
        · have NX := hide (show ∀ s : Int, 1 ≤ s → s < ((i + 1 : Nat) : Int) → s < needP own block ps s from fun s s1 s2 => by
            by_cases e : s = (i : Int)
            · rw [e, ← NV.out]; omega
            · exact hZ.out s s1 (by omega))
          go_wp2_with (first
            | (go_at_call 19; refine (CL.out _).mono ?_; rintro e w' ⟨rfl, rfl⟩)
            | (go_at_call 15; refine (AD1.out _).mono ?_; rintro e w' ⟨rfl, rfl⟩; clear AD1)
            | (go_at_call 13; refine (WI.out _).mono ?_; rintro e w' ⟨rfl, m2, hw2⟩; have HW2 := hide hw2; clear hw2)
            | (go_at_call 15; refine (AD2.out _).mono ?_; rintro e w' ⟨rfl, rfl⟩))
          go_roundw
          case rel => exact ⟨i + 1, _, by omega, by omega, by go_num, by rw [HW2.out]; exact World.drewN_drewN w m m2, NX.out⟩
          case measure => simp [intOf]; omega
      · have FIN := hide (show IsResp own block ps most 0 false from .inr ⟨rfl, rfl, fun s s1 _ s3 => by have := hZ.out s s1 (by omega); omega⟩)
        go_wp2_with (go_at_call 19; refine (CL.out _).mono ?_; rintro e w' ⟨rfl, rfl⟩)
        exact bodyPost_ret (v := .tuple #[.int .i64 0, .bool false]) (by simp [results, Try.results10, go_sem]) rfl ⟨_, rfl, ⟨_, _, rfl, FIN.out⟩, _, rfl⟩
    · have FIN := hide (show IsResp own block ps most 0 false from .inr ⟨rfl, rfl, fun s s1 s2 _ => by have := hZ.out s s1 (by have := HL.out; omega); omega⟩)
      go_wp2_with (go_at_call 19; refine (CL.out _).mono ?_; rintro e w' ⟨rfl, rfl⟩)
      exact bodyPost_ret (v := .tuple #[.int .i64 0, .bool false]) (by simp [results, Try.results10, go_sem]) rfl ⟨_, rfl, ⟨_, _, rfl, FIN.out⟩, _, rfl⟩
theorem rpart_info : (Try.prog.info? 41).map (fun i => (i.zero, i.size, i.bytes)) = some (some (.agg #[.int .i64 0, .int .i64 0]), 2, 16) := by kernel_rfl
theorem own_slicePt {w : World} {B : Nat} {e : TypeId} {z n : Nat} {v : Value} {xs : List Value} (h : w.ownsRow B e z v n xs) : ∃ a c, v = .slice a n c := by
  rcases h.2 with ⟨rfl, rfl⟩ | ⟨g, cap, cur, rfl, _⟩
  · exact ⟨none, 0, rfl⟩
  · exact ⟨_, _, rfl⟩
set_option maxHeartbeats 8000000 in
theorem turned_any (w : World) (a : Option Addr) (n c : Nat) (ps : List Pt) (hr : Reads 2 ptVals w a n ps) (hn : n ≤ 1000) :
    Calls Try.prog 11 #[.slice a n c] w fun e w' => ∃ v, e = .returned v ∧ w'.ownsRow w.heap.size 41 2 v n (ps.flatMap ptVals) ∧ Below w.heap.size w w' := by
  obtain ⟨i0, hi0, hz0, hz1, hz2⟩ := info_parts rpart_info
  have HR := hide hr
  have HL := hide hr.1
  have HN := hide hn
  have n2 : (n : Int) ≤ 1000 := by omega
  clear hr hn
  go_enter Try.func11, Try.ntmps11
  go_wp2_with fail
  go_loopw [3, 4] (fun sv iv wr => ∃ i : Nat, i ≤ n ∧ iv = .int .i64 (i : Int) ∧ Hid (wr.ownsRow w.heap.size 41 2 sv i ((ps.take i).flatMap ptVals) ∧ Below w.heap.size w wr)) (fun _ iv _ => n - (intOf iv).toNat)
  case atStart => exact ⟨0, Nat.zero_le _, rfl, World.ownsRow_nil _ _ _ _, Below.refl _ _⟩
  case round =>
    obtain ⟨i, hi, rfl, hZ⟩ := hrel
    rename World => w1
    have O1 := hide hZ.out.1
    have B1 := hide hZ.out.2
    clear hZ
    obtain ⟨A, c1, rfl⟩ := own_slicePt O1.out
    by_cases hlt : i < n
    · have i0' : (0 : Int) ≤ (i : Int) := by omega
      have i1 : (i : Int) < (n : Int) := by omega
      obtain ⟨pb, po, rfl, y0, y1⟩ := reads_pt (HR.out.below B1.out) hlt
      have NX := hide (show (ps.take (i + 1)).flatMap ptVals = (ps.take i).flatMap ptVals ++ [.int .i64 (ps.getD i ptD).per, .int .i64 (ps.getD i ptD).cost] from by
        rw [take_pt (by rw [HL.out]; exact hlt), List.flatMap_append]; simp [ptVals])
      obtain ⟨x, hx⟩ : ∃ x, x = ps.getD i ptD := ⟨_, rfl⟩
      rw [← hx] at y0 y1 NX
      have SZ := hide (show w.heap.size ≤ w1.heap.size from B1.out.size)
      clear hx
      go_upto_region 5 with fail
      go_region_law ((refine step_append_lies _ (by rfl) _ _ _ (by rfl) w.heap.size 41 i0 _ 2 16 Try.underlying27 hi0 hz0 hz1 hz2 rfl (by omega) (.slice A i c1) i ((ps.take i).flatMap ptVals) (by rfl) ((O1.out.alloc _).drew) ⟨w1.heap.size, 0, none⟩ 1 1 [.int .i64 x.per, .int .i64 x.cost] (by rfl) (by rfl) (World.news_of_block (cs := #[.int .i64 x.per, .int .i64 x.cost]) (t := 41) (fr := (0, 0)) (heap_alloc_new w1 _)) (by simp [Value.oneCell']) (by omega) (by unfold maxLen; omega) (by omega) (by have := SZ.out; simp; omega) (w1.heap.size + 1) (by simp) ?_; intro gg cap w3 hown1 hgrow hat hlt'; have O3 := hide hown1; have G3 := hide hgrow; clear hown1 hgrow hat hlt'))
      all_goals
        have N3 := hide (show w3.ownsRow w.heap.size 41 2 (.slice (some ⟨gg, 0, none⟩) (i + 1) cap) (i + 1) ((ps.take (i + 1)).flatMap ptVals) from by rw [NX.out]; exact O3.out)
        have B3 := hide (show Below w.heap.size w w3 from ((below_drewN (B1.out.alloc SZ.out _) 1).grown G3.out (by have := SZ.out; simp; omega) (fun k hk => (O1.out.lt k hk).1)))
        clear O3 G3
        go_wp2_with fail
        go_roundw
        case rel => exact ⟨i + 1, by omega, by go_num, N3.out, B3.out⟩
        case measure => simp [intOf]; omega
    · obtain rfl : i = n := by omega
      go_wp2_with fail
      go_ret
      have o := O1.out
      rw [List.take_of_length_le (by rw [HL.out]; exact Nat.le_refl _)] at o
      exact ⟨_, rfl, o, B1.out⟩
end Go.Proofs.Ytonhhinpndaefaa
