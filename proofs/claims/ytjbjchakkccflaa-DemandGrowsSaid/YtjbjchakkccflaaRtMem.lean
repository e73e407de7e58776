/-
  The program's rta: how much the parts take within a span; the least span that is enough.
-/
import Derived.Test.YtjbjchakkccflaaRtTells
namespace Go.Proofs.Ytjbjchakkccflaa
open Go.ChangeShapes Go.WideShapes Go.ChangeAt Go.RowKit
set_option linter.unusedVariables false
set_option maxHeartbeats 4000000 in
theorem worth_any (w : World) (p : Pt) (q : Addr) (span : Int) (hq : w.cell? q = some (.int .i64 span)) :
    Calls Try.prog 29 #[.agg #[.int .i64 p.per, .int .i64 p.cost], .pointer (some q)] w fun e w' => e = .returned (.int .i64 (ptW span p)) ∧ Below w.heap.size w w' := by
  obtain ⟨w1, hw1⟩ : ∃ w1, w1 = w.alloc (.cells #[.int .i64 p.per, .int .i64 p.cost] 35) := ⟨_, rfl⟩
  have UP := hide (fun (W : World) (b : Int) => up_any span b W)
  have MU := hide (fun (W : World) (a b : Int) => mul_any a b W)
  have b1 : Below w.heap.size w w1 := by rw [hw1]; exact (Below.refl w.heap.size w).alloc (Nat.le_refl _) _
  have c1 : w1.cell? q = some (.int .i64 span) := (b1.cell (lt_of_cell? hq)).trans hq
  have e1 : w1.heap[w.heap.size]? = some (.cells #[.int .i64 p.per, .int .i64 p.cost] 35 (0, 0)) := by rw [hw1]; exact heap_alloc_new _ _
  have y0 : w1.cell? ⟨w.heap.size, 0, none⟩ = some (.int .i64 p.per) := by rw [cell_of_row _ _ _ _ _ _ e1]; rfl
  have y1 : w1.cell? ⟨w.heap.size, 1, none⟩ = some (.int .i64 p.cost) := by rw [cell_of_row _ _ _ _ _ _ e1]; rfl
  have B1 := hide b1
  have HW := hide hw1
  clear b1 hq e1 hw1
  go_enter Try.func29, Try.ntmps29
  go_upto_region 1 with fail
  rw [← HW.out]
  go_quiet ((first
    | (go_at_call 30; exact quiet_rt (UP.out _ _))
    | (go_at_call 21; exact quiet_rt (MU.out _ _ _))))
  go_wp2_with fail
  go_ret
  exact ⟨rfl, below_drewN B1.out _⟩
set_option maxHeartbeats 4000000 in
theorem psum_any (w : World) (a : Option Addr) (n c : Nat) (ps : List Pt) (hr : Reads 2 ptVals w a n ps) (hn : n ≤ 1000) (q : Addr) (span : Int) (hq : w.cell? q = some (.int .i64 span)) :
    Calls Try.prog 28 #[.slice a n c, .func (.func 29) #[] #[.pointer (some q)]] w fun e w' => e = .returned (.int .i64 (workP span ps)) ∧ Below w.heap.size w w' := by
  have HR := hide (fun (W : World) (b : Below w.heap.size w W) => hr.below b)
  have HQ := hide (fun (W : World) (b : Below w.heap.size w W) => (b.cell (lt_of_cell? hq)).trans hq)
  have HL := hide hr.1
  have HN := hide hn
  have n2 : (n : Int) ≤ 1000 := by omega
  have WO := hide (fun (W : World) (p : Pt) (h : W.cell? q = some (.int .i64 span)) => worth_any W p q span h)
  have AD := hide (fun (W : World) (x y : Int) (c : Nat) => add_any (some ⟨W.heap.size, 0, none⟩) 2 c [x, y] (W.alloc (.cells #[.int .i64 x, .int .i64 y] 3)))
  clear hr hn hq
  go_enter Try.func28, Try.ntmps28
  go_wp2_with fail
  go_loopw [5, 10] (fun sv iv wr => ∃ i : Nat, i ≤ n ∧ iv = .int .i64 (i : Int) ∧ sv = .int .i64 (workP span (ps.take i)) ∧ Hid (Below w.heap.size w wr)) (fun _ iv _ => n - (intOf iv).toNat)
  case atStart => exact ⟨0, Nat.zero_le _, rfl, rfl, Below.refl _ _⟩
  case round =>
    obtain ⟨i, hi, rfl, rfl, hB⟩ := hrel
    rename World => w1
    have B1 := hide hB.out
    clear hB
    by_cases hlt : i < n
    · have i0 : (0 : Int) ≤ (i : Int) := by omega
      have i1 : (i : Int) < (n : Int) := by omega
      obtain ⟨pb, po, rfl, y0, y1⟩ := reads_pt (HR.out _ B1.out) hlt
      have NX := hide (show workP span (ps.take (i + 1)) = cl (workP span (ps.take i) + ptW span (ps.getD i ptD)) from by
        rw [take_pt (by rw [HL.out]; exact hlt), ← workP_snoc])
      obtain ⟨x, hx⟩ : ∃ x, x = ps.getD i ptD := ⟨_, rfl⟩
      rw [← hx] at y0 y1 NX
      obtain ⟨s, hs⟩ : ∃ s, s = workP span (ps.take i) := ⟨_, rfl⟩
      have S0 := hide (show 0 ≤ s ∧ s ≤ 1099511627776 from by rw [hs]; exact ⟨workP_lo _ _, workP_hi _ _⟩)
      rw [← hs] at NX ⊢
      clear hx hs
      obtain ⟨w2, hw2⟩ : ∃ w2, w2 = w1.alloc (.cells #[.int .i64 x.per, .int .i64 x.cost] 35) := ⟨_, rfl⟩
      have b2 : Below w.heap.size w w2 := by rw [hw2]; exact B1.out.alloc B1.out.size _
      have e1 : w2.heap[w1.heap.size]? = some (.cells #[.int .i64 x.per, .int .i64 x.cost] 35 (0, 0)) := by rw [hw2]; exact heap_alloc_new _ _
      have z0 : w2.cell? ⟨w1.heap.size, 0, none⟩ = some (.int .i64 x.per) := by rw [cell_of_row _ _ _ _ _ _ e1]; rfl
      have z1 : w2.cell? ⟨w1.heap.size, 1, none⟩ = some (.int .i64 x.cost) := by rw [cell_of_row _ _ _ _ _ _ e1]; rfl
      have C := hide (WO.out w2 x (HQ.out _ b2))
      have B2 := hide b2
      have HW := hide hw2
      clear hw2 b2 e1 WO
      go_upto_region 5 with fail
      rw [← HW.out]
      go_wp2_with (first
        | (go_at_call 29; refine C.out.mono ?_; rintro e w3 ⟨rfl, b3⟩; have B3 := hide (B2.out.trans (b3.mono B2.out.size)); clear b3)
        | (go_at_call 20; refine (AD.out _ _ _ _ (ints_two .i64 _ _ _ _) (by omega)).mono ?_; rintro e w4 ⟨rfl, rfl⟩))
      go_roundw
      case rel => exact ⟨i + 1, by omega, by go_num, by rw [NX.out, sum_two, cl_in s S0.out.1 S0.out.2, cl_in (ptW span x) (ptW_lo _ _) (ptW_hi _ _)], B3.out.alloc B3.out.size _⟩
      case measure => simp [intOf]; omega
    · obtain rfl : i = n := by omega
      go_wp2_with fail
      go_ret
      exact ⟨ret_int (by rw [List.take_of_length_le (by rw [HL.out]; exact Nat.le_refl _)]), B1.out⟩
/-- A box for one thing. -/
theorem box_at {w : World} {v : Value} {t : TypeId} {n : Nat} (hn : n = w.heap.size) : (w.alloc (.cells #[v] t)).cell? ⟨n, 0, none⟩ = some v := by
  subst hn
  rw [cell_of_row _ _ _ _ _ _ (heap_alloc_new _ _)]; rfl
set_option maxHeartbeats 4000000 in
theorem work_any (w : World) (span : Int) (a : Option Addr) (n c : Nat) (ps : List Pt) (hr : Reads 2 ptVals w a n ps) (hn : n ≤ 1000) :
    Calls Try.prog 24 #[.int .i64 span, .slice a n c] w fun e w' => e = .returned (.int .i64 (workP span ps)) ∧ Below w.heap.size w w' := by
  obtain ⟨w1, hw1⟩ : ∃ w1, w1 = w.alloc (.cells #[.int .i64 span] 3) := ⟨_, rfl⟩
  have b1 : Below w.heap.size w w1 := by rw [hw1]; exact (Below.refl w.heap.size w).alloc (Nat.le_refl _) _
  have hmf : ∀ (fn : Fn) (first cap : Array Value) (w : World), (Instr.makeFunc fn first cap).run Try.prog w = .ok (.func fn first cap) w := fun _ _ _ _ => rfl
  have C := hide (psum_any w1 a n c ps (hr.below b1) hn ⟨w.heap.size, 0, none⟩ span (by rw [hw1]; exact box_at rfl))
  have B1 := hide b1
  have HW := hide hw1
  clear hr hn b1 hw1
  go_enter Try.func24, Try.ntmps24
  go_wp2_with (go_at_call 28; rw [← HW.out]; refine C.out.mono ?_; rintro e w2 ⟨rfl, b2⟩; have B2 := hide (B1.out.trans (b2.mono B1.out.size)); clear b2)
  go_ret
  exact ⟨rfl, B2.out⟩
set_option maxHeartbeats 4000000 in
theorem needs_any (w : World) (span : Int) (a : Option Addr) (n c : Nat) (ps : List Pt) (hr : Reads 2 ptVals w a n ps) (hn : n ≤ 1000) (own block : Int) (p q r : Addr) (hp : w.cell? p = some (.int .i64 own)) (hq : w.cell? q = some (.int .i64 block)) (hs : w.cell? r = some (.slice a n c)) :
    Calls Try.prog 26 #[.int .i64 span, .pointer (some p), .pointer (some q), .pointer (some r)] w fun e w' => e = .returned (.int .i64 (needP own block ps span)) ∧ Below w.heap.size w w' := by
  have C := hide (fun (W : World) (b : Below w.heap.size w W) => work_any W span a n c ps (hr.below b) hn)
  have CP := hide (fun (W : World) (b : Below w.heap.size w W) => (b.cell (lt_of_cell? hp)).trans hp)
  have CQ := hide (fun (W : World) (b : Below w.heap.size w W) => (b.cell (lt_of_cell? hq)).trans hq)
  have CS := hide (fun (W : World) (b : Below w.heap.size w W) => (b.cell (lt_of_cell? hs)).trans hs)
  have d0 := hide (show Below w.heap.size w w.drew from below_drewN (Below.refl _ w) 1)
  have p1 := CP.out _ d0.out
  have q1 := CQ.out _ d0.out
  have s1 := CS.out _ d0.out
  have AD := hide (fun (W : World) (x y z : Int) => add_any (some ⟨W.heap.size, 0, none⟩) 3 3 [x, y, z] (W.alloc (.cells #[.int .i64 x, .int .i64 y, .int .i64 z] 3)) (ints_three .i64 W x y z _ _ rfl) (by omega))
  obtain ⟨u, hu⟩ : ∃ u, u = workP span ps := ⟨_, rfl⟩
  rw [← hu] at C
  have HU := hide (show sum [own, block, u] = needP own block ps span from by rw [hu]; rfl)
  clear hr hn hu
  go_enter Try.func26, Try.ntmps26
  go_upto_region 1 with fail
  go_region_law ((first
    | (go_simp; go_at_call 24; refine (C.out _ d0.out).mono ?_; rintro e w2 ⟨rfl, b2⟩; have B2 := hide (d0.out.trans (b2.mono d0.out.size)); have p2 := CP.out _ B2.out; have q2 := CQ.out _ B2.out; clear b2)
    | (go_simp; go_at_call 20; refine (AD.out _ _ _ _).mono ?_; rintro e w4 ⟨rfl, rfl⟩)))
  all_goals
    go_wp2_with fail
    go_ret
    exact ⟨ret_int HU.out, B2.out.alloc B2.out.size _⟩
theorem needP_hi (own block : Int) (ps : List Pt) (s : Int) : needP own block ps s ≤ 1099511627776 := sum_hi _
/-- None below what a span needs is enough, where that span isn't. -/
theorem none_to {own block : Int} {ps : List Pt} {s : Int} (hc : ¬ needP own block ps s ≤ s) (hz : ∀ q : Int, 1 ≤ q → q < s → ¬ needP own block ps q ≤ q) (q : Int) (h1 : 1 ≤ q) (h2 : q < needP own block ps s) : ¬ needP own block ps q ≤ q := by
  by_cases h : q < s
  · exact hz q h1 h
  · have := needP_mono (show s ≤ q by omega) own block ps
    omega
set_option maxHeartbeats 4000000 in
theorem least_any (w : World) (a : Option Addr) (n c : Nat) (ps : List Pt) (hr : Reads 2 ptVals w a n ps) (hn : n ≤ 1000) (own block : Int) (p q r : Addr) (hp : w.cell? p = some (.int .i64 own)) (hq : w.cell? q = some (.int .i64 block)) (hs : w.cell? r = some (.slice a n c)) (most lim : Int) (hm : lim = most ∧ most ≤ 4096 ∨ lim = 4096 ∧ 4096 ≤ most) :
    Calls Try.prog 25 #[.int .i64 lim, .func (.func 26) #[] #[.pointer (some p), .pointer (some q), .pointer (some r)]] w fun e w' => ∃ v, e = .returned v ∧ RespIs own block ps most v ∧ Below w.heap.size w w' := by
  have C := hide (fun (W : World) (b : Below w.heap.size w W) (s : Int) => needs_any W s a n c ps (hr.below b) hn own block p q r ((b.cell (lt_of_cell? hp)).trans hp) ((b.cell (lt_of_cell? hq)).trans hq) ((b.cell (lt_of_cell? hs)).trans hs))
  have HM := hide hm
  have l1 : lim ≤ 4096 := by omega
  have CLM := hide (show ∀ s : Int, 1 ≤ s → (s ≤ lim ↔ s ≤ cl most ∧ s ≤ 4096) from fun s h1 => by
    rcases Int.lt_or_le most 0 with h | h
    · have := cl_neg most h; omega
    · rcases Int.lt_or_le 1099511627776 most with h' | h'
      · have := cl_big most h'; omega
      · have := cl_in most h h'; omega)
  clear hr hn hp hq hs hm
  go_enter Try.func25, Try.ntmps25
  go_wp2_with fail
  go_loopw [6] (fun sv wr => ∃ s : Int, sv = .int .i64 s ∧ 1 ≤ s ∧ s ≤ 1099511627776 ∧ Hid (Below w.heap.size w wr ∧ ∀ q : Int, 1 ≤ q → q < s → ¬ needP own block ps q ≤ q)) (fun sv _ => (4097 - intOf sv).toNat)
  case atStart => exact ⟨1, rfl, by omega, by omega, Below.refl _ _, fun q h1 h2 => by omega⟩
  case round =>
    obtain ⟨s, rfl, s0, s1, hZ⟩ := hrel
    rename World => w1
    have B1 := hide hZ.out.1
    have Z1 := hide hZ.out.2
    clear hZ
    by_cases c1 : s ≤ lim
    · have D := hide (C.out _ B1.out s)
      have n0 := needP_lo own block ps s
      have n1 := needP_hi own block ps s
      have NT := hide (fun (h : ¬ needP own block ps s ≤ s) => none_to h Z1.out)
      have FI := hide (fun (h : needP own block ps s ≤ s) => (show IsResp own block ps most s true from .inl ⟨rfl, s0, ((CLM.out s s0).1 c1).1, ((CLM.out s s0).1 c1).2, h, Z1.out⟩))
      obtain ⟨d, hd⟩ : ∃ d, d = needP own block ps s := ⟨_, rfl⟩
      rw [← hd] at D n0 n1 NT FI
      clear hd
      by_cases c2 : d ≤ s
      · have FIN := hide (FI.out c2)
        go_wp2_with (go_at_call 26; refine D.out.mono ?_; rintro e w2 ⟨rfl, b2⟩; have B2 := hide (B1.out.trans (b2.mono B1.out.size)); clear b2)
        exact bodyPost_ret (v := .tuple #[.int .i64 s, .bool true]) (by simp [results, Try.results25, go_sem]) rfl ⟨_, rfl, ⟨_, _, rfl, FIN.out⟩, B2.out⟩
      · have NX := hide (NT.out c2)
        go_wp2_with (go_at_call 26; refine D.out.mono ?_; rintro e w2 ⟨rfl, b2⟩; have B2 := hide (B1.out.trans (b2.mono B1.out.size)); clear b2)
        go_roundw
        case rel => exact ⟨d, rfl, by omega, n1, B2.out, fun q h1 h2 => Int.not_le.2 (NX.out q h1 h2)⟩
        case measure => simp [intOf]; omega
    · have FIN := hide (show IsResp own block ps most 0 false from .inr ⟨rfl, rfl, fun q h1 h2 h3 => Z1.out q h1 (by have := (CLM.out q h1).2 ⟨h2, h3⟩; omega)⟩)
      go_wp2_with fail
      exact bodyPost_ret (v := .tuple #[.int .i64 0, .bool false]) (by simp [results, Try.results25, go_sem]) rfl ⟨_, rfl, ⟨_, _, rfl, FIN.out⟩, B1.out⟩
set_option maxHeartbeats 4000000 in
theorem resp_any (w : World) (own block : Int) (a : Option Addr) (n c : Nat) (ps : List Pt) (most : Int) (hr : Reads 2 ptVals w a n ps) (hn : n ≤ 1000) (hm : (Lit.int .i64 most).wf = true) :
    Calls Try.prog 19 #[.int .i64 own, .int .i64 block, .slice a n c, .int .i64 most] w fun e w' => ∃ v, e = .returned v ∧ RespIs own block ps most v ∧ Below w.heap.size w w' := by
  obtain ⟨w3, hw3⟩ : ∃ w3, w3 = ((w.alloc (.cells #[.int .i64 own] 3)).alloc (.cells #[.int .i64 block] 3)).alloc (.cells #[.slice a n c] 29) := ⟨_, rfl⟩
  have b3 : Below w.heap.size w w3 := by rw [hw3]; exact (((Below.refl w.heap.size w).alloc (Nat.le_refl _) _).alloc (by simp) _).alloc (by simp; omega) _
  have hmf : ∀ (fn : Fn) (first cap : Array Value) (w : World), (Instr.makeFunc fn first cap).run Try.prog w = .ok (.func fn first cap) w := fun _ _ _ _ => rfl
  have p0 : w3.heap[w.heap.size]? = some (.cells #[.int .i64 own] 3 (0, 0)) := by
    rw [hw3]; exact (heap_alloc_old _ _ (by simp; omega)).trans ((heap_alloc_old _ _ (by simp)).trans (heap_alloc_new w _))
  have p1 : w3.heap[w.heap.size + 1]? = some (.cells #[.int .i64 block] 3 (0, 0)) := by
    rw [hw3]
    refine (heap_alloc_old _ _ (by simp)).trans ?_
    have := heap_alloc_new (w.alloc (.cells #[.int .i64 own] 3)) (.cells #[.int .i64 block] 3)
    simpa using this
  have p2 : w3.heap[w.heap.size + 1 + 1]? = some (.cells #[.slice a n c] 29 (0, 0)) := by
    rw [hw3]
    have := heap_alloc_new ((w.alloc (.cells #[.int .i64 own] 3)).alloc (.cells #[.int .i64 block] 3)) (.cells #[.slice a n c] 29)
    simpa using this
  have L := hide (fun lim h => least_any w3 a n c ps (hr.below b3) hn own block ⟨w.heap.size, 0, none⟩ ⟨w.heap.size + 1, 0, none⟩ ⟨w.heap.size + 1 + 1, 0, none⟩ (by rw [cell_of_row _ _ _ _ _ _ p0]; rfl) (by rw [cell_of_row _ _ _ _ _ _ p1]; rfl) (by rw [cell_of_row _ _ _ _ _ _ p2]; rfl) most lim h)
  have B3 := hide b3
  have HW := hide hw3
  clear hr hn b3 hw3 p0 p1 p2
  go_enter Try.func19, Try.ntmps19
  go_wp2_with (go_at_call 25; rw [← HW.out]; refine (L.out _ (by omega)).mono ?_; rintro e w4 ⟨v, rfl, ⟨r, ok, rfl, hr⟩, b4⟩; have R4 := hide hr; have B4 := hide (B3.out.trans (b4.mono B3.out.size)); clear hr b4)
  all_goals
    exact bodyPost_ret (v := .tuple #[.int .i64 r, .bool ok]) (by simp [results, Try.results19, go_sem]) rfl ⟨_, rfl, ⟨_, _, rfl, R4.out⟩, B4.out⟩
theorem prta_any : PRta := ⟨fun w span a n c ps hr _ hn _ => work_any w span a n c ps hr (by omega), fun w own block a n c ps most hr _ hn _ _ hm => resp_any w own block a n c ps most hr (by omega) hm⟩
end Go.Proofs.Ytjbjchakkccflaa
