/-
  What the walks lean on, part 16: RtMem DmMem.
-/
import Derived.Laws.MakeOwn
import Derived.Deep.OwnRows
import Derived.Test.YtcmgkjjkhfcedaaGreatPk15
/-
  The program's rta: how much the parts take within a span; the least span that is enough.
-/
namespace Go.Proofs.YtcmgkjjkhfcedaaGreat
open Go.ChangeShapes Go.WideShapes Go.ChangeAt Go.RowKit
set_option linter.unusedVariables false
set_option maxRecDepth 20000 in
set_option maxHeartbeats 4000000 in
theorem worth_any (w : World) (p : Pt) (q : Addr) (span : Int) (hq : w.cell? q = some (.int .i64 span)) :
    Calls Tryz.prog 95 #[.agg #[.int .i64 p.per, .int .i64 p.cost], .pointer (some q)] w fun e w' => e = .returned (.int .i64 (ptW span p)) ∧ Below w.heap.size w w' := by
  obtain ⟨w1, hw1⟩ : ∃ w1, w1 = w.alloc (.cells #[.int .i64 p.per, .int .i64 p.cost] 36) := ⟨_, rfl⟩
  have UP := hide (fun (W : World) (b : Int) => up_any span b W)
  have MU := hide (fun (W : World) (a b : Int) => mul_any a b W)
  have b1 : Below w.heap.size w w1 := by rw [hw1]; exact (Below.refl w.heap.size w).alloc (Nat.le_refl _) _
  have c1 : w1.cell? q = some (.int .i64 span) := (b1.cell (lt_of_cell? hq)).trans hq
  have e1 : w1.heap[w.heap.size]? = some (.cells #[.int .i64 p.per, .int .i64 p.cost] 36 (0, 0)) := by rw [hw1]; exact heap_alloc_new _ _
  have y0 : w1.cell? ⟨w.heap.size, 0, none⟩ = some (.int .i64 p.per) := by rw [cell_of_row _ _ _ _ _ _ e1]; rfl
  have y1 : w1.cell? ⟨w.heap.size, 1, none⟩ = some (.int .i64 p.cost) := by rw [cell_of_row _ _ _ _ _ _ e1]; rfl
  have B1 := hide b1
  have HW := hide hw1
  clear b1 hq e1 hw1
  go_enter Tryz.func95, Tryz.ntmps95
  go_upto_region 1 with fail
  rw [← HW.out]
  go_quiet ((first
    | (go_at_call 97; exact quiet_rt (UP.out _ _))
    | (go_at_call 96; exact quiet_rt (MU.out _ _ _))))
  go_wp2_with fail
  go_ret
  exact ⟨rfl, below_drewN B1.out _⟩
set_option maxRecDepth 20000 in
set_option maxHeartbeats 4000000 in
theorem rtsum_any (w : World) (a : Option Addr) (n c : Nat) (ps : List Pt) (hr : Reads 2 ptVals w a n ps) (hn : n ≤ 1000) (q : Addr) (span : Int) (hq : w.cell? q = some (.int .i64 span)) :
    Calls Tryz.prog 94 #[.slice a n c, .func (.func 95) #[] #[.pointer (some q)]] w fun e w' => e = .returned (.int .i64 (workP span ps)) ∧ Below w.heap.size w w' := by
  have HR := hide (fun (W : World) (b : Below w.heap.size w W) => hr.below b)
  have HQ := hide (fun (W : World) (b : Below w.heap.size w W) => (b.cell (lt_of_cell? hq)).trans hq)
  have HL := hide hr.1
  have HN := hide hn
  have n2 : (n : Int) ≤ 1000 := by omega
  have WO := hide (fun (W : World) (p : Pt) (h : W.cell? q = some (.int .i64 span)) => worth_any W p q span h)
  have AD := hide (fun (W : World) (x y : Int) (c : Nat) => add_any (some ⟨W.heap.size, 0, none⟩) 2 c [x, y] (W.alloc (.cells #[.int .i64 x, .int .i64 y] 3)))
  clear hr hn hq
  go_enter Tryz.func94, Tryz.ntmps94
  go_wp2_with fail
  go_loopw [5, 10] (fun sv iv wr => ∃ i : Nat, i ≤ n ∧ iv = .int .i64 (i : Int) ∧ sv = .int .i64 (workP span (ps.take i)) ∧ Hid (Below w.heap.size w wr)) (fun _ iv _ => n - (intOf iv).toNat)
  case atStart => exact ⟨0, Nat.zero_le _, rfl, rfl, Below.refl _ _⟩
  case round =>
    obtain ⟨i, hi, rfl, rfl, hB⟩ := hrel
    rename World => w1
    have B1 := hide hB.out
    clear hB
    by_cases hlt : i < n
    · have i0 : (0 : Int) ≤ (i : Int) := by omega
      have i1 : (i : Int) < (n : Int) := by omega
      obtain ⟨pb, po, rfl, y0, y1⟩ := reads_pt (HR.out _ B1.out) hlt
      have NX := hide (show workP span (ps.take (i + 1)) = cl (workP span (ps.take i) + ptW span (ps.getD i ptD)) from by
        rw [take_pt (by rw [HL.out]; exact hlt), ← workP_snoc])
      obtain ⟨x, hx⟩ : ∃ x, x = ps.getD i ptD := ⟨_, rfl⟩
      rw [← hx] at y0 y1 NX
      obtain ⟨s, hs⟩ : ∃ s, s = workP span (ps.take i) := ⟨_, rfl⟩
      have S0 := hide (show 0 ≤ s ∧ s ≤ 1099511627776 from by rw [hs]; exact ⟨workP_lo _ _, workP_hi _ _⟩)
      rw [← hs] at NX ⊢
      clear hx hs
      obtain ⟨w2, hw2⟩ : ∃ w2, w2 = w1.alloc (.cells #[.int .i64 x.per, .int .i64 x.cost] 36) := ⟨_, rfl⟩
      have b2 : Below w.heap.size w w2 := by rw [hw2]; exact B1.out.alloc B1.out.size _
      have e1 : w2.heap[w1.heap.size]? = some (.cells #[.int .i64 x.per, .int .i64 x.cost] 36 (0, 0)) := by rw [hw2]; exact heap_alloc_new _ _
      have z0 : w2.cell? ⟨w1.heap.size, 0, none⟩ = some (.int .i64 x.per) := by rw [cell_of_row _ _ _ _ _ _ e1]; rfl
      have z1 : w2.cell? ⟨w1.heap.size, 1, none⟩ = some (.int .i64 x.cost) := by rw [cell_of_row _ _ _ _ _ _ e1]; rfl
      have C := hide (WO.out w2 x (HQ.out _ b2))
      have B2 := hide b2
      have HW := hide hw2
      clear hw2 b2 e1 WO
      go_upto_region 5 with fail
      rw [← HW.out]
      go_wp2_with (first
        | (go_at_call 95; refine C.out.mono ?_; rintro e w3 ⟨rfl, b3⟩; have B3 := hide (B2.out.trans (b3.mono B2.out.size)); clear b3)
        | (go_at_call 35; refine (AD.out _ _ _ _ (ints_two .i64 _ _ _ _) (by omega)).mono ?_; rintro e w4 ⟨rfl, rfl⟩))
      go_roundw
      case rel => exact ⟨i + 1, by omega, by go_num, by rw [NX.out, sum_two, cl_in s S0.out.1 S0.out.2, cl_in (ptW span x) (ptW_lo _ _) (ptW_hi _ _)], B3.out.alloc B3.out.size _⟩
      case measure => simp [intOf]; omega
    · obtain rfl : i = n := by omega
      go_wp2_with fail
      go_ret
      exact ⟨ret_int (by rw [List.take_of_length_le (by rw [HL.out]; exact Nat.le_refl _)]), B1.out⟩
/-- A box for one thing. -/
theorem box_at {w : World} {v : Value} {t : TypeId} {n : Nat} (hn : n = w.heap.size) : (w.alloc (.cells #[v] t)).cell? ⟨n, 0, none⟩ = some v := by
  subst hn
  rw [cell_of_row _ _ _ _ _ _ (heap_alloc_new _ _)]; rfl
set_option maxRecDepth 20000 in
set_option maxHeartbeats 4000000 in
theorem work_any (w : World) (span : Int) (a : Option Addr) (n c : Nat) (ps : List Pt) (hr : Reads 2 ptVals w a n ps) (hn : n ≤ 1000) :
    Calls Tryz.prog 77 #[.int .i64 span, .slice a n c] w fun e w' => e = .returned (.int .i64 (workP span ps)) ∧ Below w.heap.size w w' := by
  obtain ⟨w1, hw1⟩ : ∃ w1, w1 = w.alloc (.cells #[.int .i64 span] 3) := ⟨_, rfl⟩
  have b1 : Below w.heap.size w w1 := by rw [hw1]; exact (Below.refl w.heap.size w).alloc (Nat.le_refl _) _
  have hmf : ∀ (fn : Fn) (first cap : Array Value) (w : World), (Instr.makeFunc fn first cap).run Tryz.prog w = .ok (.func fn first cap) w := fun _ _ _ _ => rfl
  have C := hide (rtsum_any w1 a n c ps (hr.below b1) hn ⟨w.heap.size, 0, none⟩ span (by rw [hw1]; exact box_at rfl))
  have B1 := hide b1
  have HW := hide hw1
  clear hr hn b1 hw1
  go_enter Tryz.func77, Tryz.ntmps77
  go_wp2_with (go_at_call 94; rw [← HW.out]; refine C.out.mono ?_; rintro e w2 ⟨rfl, b2⟩; have B2 := hide (B1.out.trans (b2.mono B1.out.size)); clear b2)
  go_ret
  exact ⟨rfl, B2.out⟩
set_option maxRecDepth 20000 in
set_option maxHeartbeats 4000000 in
theorem needs_any (w : World) (span : Int) (a : Option Addr) (n c : Nat) (ps : List Pt) (hr : Reads 2 ptVals w a n ps) (hn : n ≤ 1000) (own block : Int) (p q r : Addr) (hp : w.cell? p = some (.int .i64 own)) (hq : w.cell? q = some (.int .i64 block)) (hs : w.cell? r = some (.slice a n c)) :
    Calls Tryz.prog 76 #[.int .i64 span, .pointer (some p), .pointer (some q), .pointer (some r)] w fun e w' => e = .returned (.int .i64 (needP own block ps span)) ∧ Below w.heap.size w w' := by
  have C := hide (fun (W : World) (b : Below w.heap.size w W) => work_any W span a n c ps (hr.below b) hn)
  have CP := hide (fun (W : World) (b : Below w.heap.size w W) => (b.cell (lt_of_cell? hp)).trans hp)
  have CQ := hide (fun (W : World) (b : Below w.heap.size w W) => (b.cell (lt_of_cell? hq)).trans hq)
  have CS := hide (fun (W : World) (b : Below w.heap.size w W) => (b.cell (lt_of_cell? hs)).trans hs)
  have d0 := hide (show Below w.heap.size w w.drew from below_drewN (Below.refl _ w) 1)
  have p1 := CP.out _ d0.out
  have q1 := CQ.out _ d0.out
  have s1 := CS.out _ d0.out
  have AD := hide (fun (W : World) (x y z : Int) => add_any (some ⟨W.heap.size, 0, none⟩) 3 3 [x, y, z] (W.alloc (.cells #[.int .i64 x, .int .i64 y, .int .i64 z] 3)) (ints_three .i64 W x y z _ _ rfl) (by omega))
  obtain ⟨u, hu⟩ : ∃ u, u = workP span ps := ⟨_, rfl⟩
  rw [← hu] at C
  have HU := hide (show sum [own, block, u] = needP own block ps span from by rw [hu]; rfl)
  clear hr hn hu
  go_enter Tryz.func76, Tryz.ntmps76
  go_upto_region 1 with fail
  go_region_law ((first
    | (go_simp; go_at_call 77; refine (C.out _ d0.out).mono ?_; rintro e w2 ⟨rfl, b2⟩; have B2 := hide (d0.out.trans (b2.mono d0.out.size)); have p2 := CP.out _ B2.out; have q2 := CQ.out _ B2.out; clear b2)
    | (go_simp; go_at_call 35; refine (AD.out _ _ _ _).mono ?_; rintro e w4 ⟨rfl, rfl⟩)))
  all_goals
    go_wp2_with fail
    go_ret
    exact ⟨ret_int HU.out, B2.out.alloc B2.out.size _⟩
theorem needP_hi (own block : Int) (ps : List Pt) (s : Int) : needP own block ps s ≤ 1099511627776 := sum_hi _
/-- None below what a span needs is enough, where that span isn't. -/
theorem none_to {own block : Int} {ps : List Pt} {s : Int} (hc : ¬ needP own block ps s ≤ s) (hz : ∀ q : Int, 1 ≤ q → q < s → ¬ needP own block ps q ≤ q) (q : Int) (h1 : 1 ≤ q) (h2 : q < needP own block ps s) : ¬ needP own block ps q ≤ q := by
  by_cases h : q < s
  · exact hz q h1 h
  · have := needP_mono (show s ≤ q by omega) own block ps
    omega
set_option maxRecDepth 20000 in
set_option maxHeartbeats 4000000 in
theorem least_any (w : World) (a : Option Addr) (n c : Nat) (ps : List Pt) (hr : Reads 2 ptVals w a n ps) (hn : n ≤ 1000) (own block : Int) (p q r : Addr) (hp : w.cell? p = some (.int .i64 own)) (hq : w.cell? q = some (.int .i64 block)) (hs : w.cell? r = some (.slice a n c)) (most lim : Int) (hm : lim = most ∧ most ≤ 4096 ∨ lim = 4096 ∧ 4096 ≤ most) :
    Calls Tryz.prog 75 #[.int .i64 lim, .func (.func 76) #[] #[.pointer (some p), .pointer (some q), .pointer (some r)]] w fun e w' => ∃ v, e = .returned v ∧ RespIs own block ps most v ∧ Below w.heap.size w w' := by
  have C := hide (fun (W : World) (b : Below w.heap.size w W) (s : Int) => needs_any W s a n c ps (hr.below b) hn own block p q r ((b.cell (lt_of_cell? hp)).trans hp) ((b.cell (lt_of_cell? hq)).trans hq) ((b.cell (lt_of_cell? hs)).trans hs))
  have HM := hide hm
  have l1 : lim ≤ 4096 := by omega
  have CLM := hide (show ∀ s : Int, 1 ≤ s → (s ≤ lim ↔ s ≤ cl most ∧ s ≤ 4096) from fun s h1 => by
    rcases Int.lt_or_le most 0 with h | h
    · have := cl_neg most h; omega
    · rcases Int.lt_or_le 1099511627776 most with h' | h'
      · have := cl_big most h'; omega
      · have := cl_in most h h'; omega)
  clear hr hn hp hq hs hm
  go_enter Tryz.func75, Tryz.ntmps75
  go_wp2_with fail
  go_loopw [6] (fun sv wr => ∃ s : Int, sv = .int .i64 s ∧ 1 ≤ s ∧ s ≤ 1099511627776 ∧ Hid (Below w.heap.size w wr ∧ ∀ q : Int, 1 ≤ q → q < s → ¬ needP own block ps q ≤ q)) (fun sv _ => (4097 - intOf sv).toNat)
  case atStart => exact ⟨1, rfl, by omega, by omega, Below.refl _ _, fun q h1 h2 => by omega⟩
  case round =>
    obtain ⟨s, rfl, s0, s1, hZ⟩ := hrel
    rename World => w1
    have B1 := hide hZ.out.1
    have Z1 := hide hZ.out.2
    clear hZ
    by_cases c1 : s ≤ lim
    · have D := hide (C.out _ B1.out s)
      have n0 := needP_lo own block ps s
      have n1 := needP_hi own block ps s
      have NT := hide (fun (h : ¬ needP own block ps s ≤ s) => none_to h Z1.out)
      have FI := hide (fun (h : needP own block ps s ≤ s) => (show IsResp own block ps most s true from .inl ⟨rfl, s0, ((CLM.out s s0).1 c1).1, ((CLM.out s s0).1 c1).2, h, Z1.out⟩))
      obtain ⟨d, hd⟩ : ∃ d, d = needP own block ps s := ⟨_, rfl⟩
      rw [← hd] at D n0 n1 NT FI
      clear hd
      by_cases c2 : d ≤ s
      · have FIN := hide (FI.out c2)
        go_wp2_with (go_at_call 76; refine D.out.mono ?_; rintro e w2 ⟨rfl, b2⟩; have B2 := hide (B1.out.trans (b2.mono B1.out.size)); clear b2)
        exact bodyPost_ret (v := .tuple #[.int .i64 s, .bool true]) (by simp [results, Tryz.results75, go_sem]) rfl ⟨_, rfl, ⟨_, _, rfl, FIN.out⟩, B2.out⟩
      · have NX := hide (NT.out c2)
        go_wp2_with (go_at_call 76; refine D.out.mono ?_; rintro e w2 ⟨rfl, b2⟩; have B2 := hide (B1.out.trans (b2.mono B1.out.size)); clear b2)
        go_roundw
        case rel => exact ⟨d, rfl, by omega, n1, B2.out, fun q h1 h2 => Int.not_le.2 (NX.out q h1 h2)⟩
        case measure => simp [intOf]; omega
    · have FIN := hide (show IsResp own block ps most 0 false from .inr ⟨rfl, rfl, fun q h1 h2 h3 => Z1.out q h1 (by have := (CLM.out q h1).2 ⟨h2, h3⟩; omega)⟩)
      go_wp2_with fail
      exact bodyPost_ret (v := .tuple #[.int .i64 0, .bool false]) (by simp [results, Tryz.results75, go_sem]) rfl ⟨_, rfl, ⟨_, _, rfl, FIN.out⟩, B1.out⟩
set_option maxRecDepth 20000 in
set_option maxHeartbeats 4000000 in
theorem resp_any (w : World) (own block : Int) (a : Option Addr) (n c : Nat) (ps : List Pt) (most : Int) (hr : Reads 2 ptVals w a n ps) (hn : n ≤ 1000) (hm : (Lit.int .i64 most).wf = true) :
    Calls Tryz.prog 49 #[.int .i64 own, .int .i64 block, .slice a n c, .int .i64 most] w fun e w' => ∃ v, e = .returned v ∧ RespIs own block ps most v ∧ Below w.heap.size w w' := by
  obtain ⟨w3, hw3⟩ : ∃ w3, w3 = ((w.alloc (.cells #[.int .i64 own] 3)).alloc (.cells #[.int .i64 block] 3)).alloc (.cells #[.slice a n c] 31) := ⟨_, rfl⟩
  have b3 : Below w.heap.size w w3 := by rw [hw3]; exact (((Below.refl w.heap.size w).alloc (Nat.le_refl _) _).alloc (by simp) _).alloc (by simp; omega) _
  have hmf : ∀ (fn : Fn) (first cap : Array Value) (w : World), (Instr.makeFunc fn first cap).run Tryz.prog w = .ok (.func fn first cap) w := fun _ _ _ _ => rfl
  have p0 : w3.heap[w.heap.size]? = some (.cells #[.int .i64 own] 3 (0, 0)) := by
    rw [hw3]; exact (heap_alloc_old _ _ (by simp; omega)).trans ((heap_alloc_old _ _ (by simp)).trans (heap_alloc_new w _))
  have p1 : w3.heap[w.heap.size + 1]? = some (.cells #[.int .i64 block] 3 (0, 0)) := by
    rw [hw3]
    refine (heap_alloc_old _ _ (by simp)).trans ?_
    have := heap_alloc_new (w.alloc (.cells #[.int .i64 own] 3)) (.cells #[.int .i64 block] 3)
    simpa using this
  have p2 : w3.heap[w.heap.size + 1 + 1]? = some (.cells #[.slice a n c] 31 (0, 0)) := by
    rw [hw3]
    have := heap_alloc_new ((w.alloc (.cells #[.int .i64 own] 3)).alloc (.cells #[.int .i64 block] 3)) (.cells #[.slice a n c] 31)
    simpa using this
  have L := hide (fun lim h => least_any w3 a n c ps (hr.below b3) hn own block ⟨w.heap.size, 0, none⟩ ⟨w.heap.size + 1, 0, none⟩ ⟨w.heap.size + 1 + 1, 0, none⟩ (by rw [cell_of_row _ _ _ _ _ _ p0]; rfl) (by rw [cell_of_row _ _ _ _ _ _ p1]; rfl) (by rw [cell_of_row _ _ _ _ _ _ p2]; rfl) most lim h)
  have B3 := hide b3
  have HW := hide hw3
  clear hr hn b3 hw3 p0 p1 p2
  go_enter Tryz.func49, Tryz.ntmps49
  go_wp2_with (go_at_call 75; rw [← HW.out]; refine (L.out _ (by omega)).mono ?_; rintro e w4 ⟨v, rfl, ⟨r, ok, rfl, hr⟩, b4⟩; have R4 := hide hr; have B4 := hide (B3.out.trans (b4.mono B3.out.size)); clear hr b4)
  all_goals
    exact bodyPost_ret (v := .tuple #[.int .i64 r, .bool ok]) (by simp [results, Tryz.results49, go_sem]) rfl ⟨_, rfl, ⟨_, _, rfl, R4.out⟩, B4.out⟩
theorem prta_any : PRta := ⟨fun w span a n c ps hr _ hn _ => work_any w span a n c ps hr (by omega), fun w own block a n c ps most hr _ hn _ _ hm => resp_any w own block a n c ps most hr (by omega) hm⟩
end Go.Proofs.YtcmgkjjkhfcedaaGreat
/-
  The program's demand: how much jobs take that are released and due within a span; the least span that is enough; what fits.
-/
namespace Go.Proofs.YtcmgkjjkhfcedaaGreat
open Go.ChangeShapes Go.WideShapes Go.ChangeAt Go.RowKit
set_option linter.unusedVariables false
def jobsW (span : Int) (e : Er) : Int := if cl e.dl ≤ cl span then jobsE span e else 0
theorem dueE_jobs (span : Int) (e : Er) : mul e.cost (jobsW span e) = dueE span e := by
  unfold jobsW dueE
  split
  · rfl
  · unfold mul; rw [cl_in 0 (by omega) (by omega), Int.mul_zero]; exact cl_in 0 (by omega) (by omega)
set_option maxRecDepth 20000 in
set_option maxHeartbeats 4000000 in
theorem jobs_any (w : World) (span : Int) (e : Er) :
    Calls Tryz.prog 111 #[.int .i64 (cl span), .agg #[.int .i64 e.per, .int .i64 e.dl, .int .i64 e.cost]] w fun r w' => r = .returned (.int .i64 (jobsW span e)) ∧ Below w.heap.size w w' := by
  obtain ⟨w1, hw1⟩ : ∃ w1, w1 = w.alloc (.cells #[.int .i64 e.per, .int .i64 e.dl, .int .i64 e.cost] 88) := ⟨_, rfl⟩
  have CL := hide (fun (W : World) (b : Int) => clip_any b W)
  have DO := hide (fun (W : World) (a b : Int) => down_any a b W)
  have b1 : Below w.heap.size w w1 := by rw [hw1]; exact (Below.refl w.heap.size w).alloc (Nat.le_refl _) _
  have e1 : w1.heap[w.heap.size]? = some (.cells #[.int .i64 e.per, .int .i64 e.dl, .int .i64 e.cost] 88 (0, 0)) := by rw [hw1]; exact heap_alloc_new _ _
  have y0 : w1.cell? ⟨w.heap.size, 0, none⟩ = some (.int .i64 e.per) := by rw [cell_of_row _ _ _ _ _ _ e1]; rfl
  have y1 : w1.cell? ⟨w.heap.size, 1, none⟩ = some (.int .i64 e.dl) := by rw [cell_of_row _ _ _ _ _ _ e1]; rfl
  have s0 := cl_lo span
  have s1 := cl_hi span
  have d0 := cl_lo e.dl
  have d1 := cl_hi e.dl
  have q0 := down_lo (cl span - cl e.dl) e.per
  have q1 := down_hi (cl span - cl e.dl) e.per
  have J1 := hide (fun (h : ¬ cl span < cl e.dl) => (show down (cl span - cl e.dl) e.per + 1 = jobsW span e from by unfold jobsW; rw [if_pos (by omega)]; rfl))
  have J2 := hide (fun (h : cl span < cl e.dl) => (show 0 = jobsW span e from by unfold jobsW; rw [if_neg (by omega)]))
  have C1 := hide (CL.out w1 e.dl)
  have C2 := hide (DO.out w1 (cl span - cl e.dl) e.per)
  obtain ⟨q, hq⟩ : ∃ q, q = down (cl span - cl e.dl) e.per := ⟨_, rfl⟩
  obtain ⟨A, hA⟩ : ∃ A, A = cl span := ⟨_, rfl⟩
  obtain ⟨D, hD⟩ : ∃ D, D = cl e.dl := ⟨_, rfl⟩
  rw [← hq] at q0 q1 J1 C2
  rw [← hA, ← hD] at J1 J2 C2
  rw [← hA] at s0 s1 ⊢
  rw [← hD] at d0 d1 C1
  have B1 := hide b1
  have HW := hide hw1
  clear hw1 b1 e1 CL DO hq hA hD
  by_cases h : A < D
  · have E := hide (J2.out h)
    clear C2 J1 J2 q0 q1
    go_enter Tryz.func111, Tryz.ntmps111
    go_upto_region 1 with fail
    rw [← HW.out]
    go_wp2_with (go_at_call 67; refine C1.out.mono ?_; rintro r w2 ⟨rfl, rfl⟩)
    go_ret
    exact ⟨ret_int E.out, B1.out⟩
  · have E := hide (J1.out h)
    clear J1 J2
    go_enter Tryz.func111, Tryz.ntmps111
    go_upto_region 1 with fail
    rw [← HW.out]
    go_wp2_with (first
      | (go_at_call 67; refine C1.out.mono ?_; rintro r w2 ⟨rfl, rfl⟩)
      | (go_at_call 113; refine C2.out.mono ?_; rintro r w2 ⟨rfl, rfl⟩))
    go_ret
    exact ⟨ret_int E.out, B1.out⟩
set_option maxRecDepth 20000 in
set_option maxHeartbeats 4000000 in
theorem cost_any (w : World) (span : Int) (e : Er) :
    Calls Tryz.prog 109 #[.int .i64 (cl span), .agg #[.int .i64 e.per, .int .i64 e.dl, .int .i64 e.cost]] w fun r w' => r = .returned (.int .i64 (dueE span e)) ∧ Below w.heap.size w w' := by
  obtain ⟨w1, hw1⟩ : ∃ w1, w1 = w.alloc (.cells #[.int .i64 e.per, .int .i64 e.dl, .int .i64 e.cost] 88) := ⟨_, rfl⟩
  have b1 : Below w.heap.size w w1 := by rw [hw1]; exact (Below.refl w.heap.size w).alloc (Nat.le_refl _) _
  have e1 : w1.heap[w.heap.size]? = some (.cells #[.int .i64 e.per, .int .i64 e.dl, .int .i64 e.cost] 88 (0, 0)) := by rw [hw1]; exact heap_alloc_new _ _
  have y0 : w1.drew.cell? ⟨w.heap.size, 0, none⟩ = some (.int .i64 e.per) := by show w1.cell? _ = _; rw [cell_of_row _ _ _ _ _ _ e1]; rfl
  have y1 : w1.drew.cell? ⟨w.heap.size, 1, none⟩ = some (.int .i64 e.dl) := by show w1.cell? _ = _; rw [cell_of_row _ _ _ _ _ _ e1]; rfl
  have y2 : w1.drew.cell? ⟨w.heap.size, 2, none⟩ = some (.int .i64 e.cost) := by show w1.cell? _ = _; rw [cell_of_row _ _ _ _ _ _ e1]; rfl
  have C1 := hide (jobs_any w1.drew span e)
  have C2 := hide (fun (W : World) => mul_any e.cost (jobsW span e) W)
  rw [dueE_jobs] at C2
  have KE := hide (fun (W : World) (b : Below w1.drew.heap.size w1.drew W) => (b.cell (lt_of_cell? y2)).trans y2)
  have B1 := hide (show Below w.heap.size w w1.drew from below_drewN b1 1)
  have HW := hide hw1
  obtain ⟨J, hJ⟩ : ∃ J, J = jobsW span e := ⟨_, rfl⟩
  rw [← hJ] at C1 C2
  obtain ⟨D, hD⟩ : ∃ D, D = dueE span e := ⟨_, rfl⟩
  rw [← hD] at C2 ⊢
  clear hw1 b1 e1 hJ hD
  go_enter Tryz.func109, Tryz.ntmps109
  go_upto_region 1 with fail
  rw [← HW.out]
  go_region_law ((first
    | (go_simp; go_at_call 111; refine C1.out.mono ?_; rintro r w2 ⟨rfl, b2⟩; have z2 := KE.out _ b2; have B2 := hide (B1.out.trans (b2.mono B1.out.size)); clear b2)
    | (go_simp; go_at_call 96; refine (C2.out _).mono ?_; rintro r w4 ⟨rfl, rfl⟩)))
  all_goals
    go_wp2_with fail
    go_ret
    exact ⟨rfl, B2.out⟩
def erD : Er := ⟨0, 0, 0⟩
theorem er_cells {w : World} {a : Option Addr} {n : Nat} {xs : List Er} (h : Reads 3 erVals w a n xs) {i : Nat} (hi : i < n) : ∃ b off, a = some ⟨b, off, none⟩ ∧ w.cell? ⟨b, off + i * 3, none⟩ = some (.int .i64 (xs.getD i erD).per) ∧ w.cell? ⟨b, off + i * 3 + 1, none⟩ = some (.int .i64 (xs.getD i erD).dl) ∧ w.cell? ⟨b, off + i * 3 + 2, none⟩ = some (.int .i64 (xs.getD i erD).cost) := by
  obtain ⟨x, b, off, hx, rfl, hc⟩ := h.at_ hi
  have e : xs.getD i erD = x := by rw [List.getD_eq_getElem?_getD, hx]; rfl
  rw [e]
  exact ⟨b, off, rfl, hc 0 _ rfl, hc 1 _ rfl, hc 2 _ rfl⟩
theorem er_take {xs : List Er} {i : Nat} (h : i < xs.length) : xs.take (i + 1) = xs.take i ++ [xs.getD i erD] := by
  rw [List.take_succ_eq_append_getElem h]
  simp [List.getD, h]
set_option maxRecDepth 20000 in
set_option maxHeartbeats 4000000 in
theorem esum_any (w : World) (a : Option Addr) (n c : Nat) (es : List Er) (hr : Reads 3 erVals w a n es) (hn : n ≤ 100) (span : Int) :
    Calls Tryz.prog 108 #[.slice a n c, .func (.func 109) #[.int .i64 (cl span)] #[]] w fun e w' => e = .returned (.int .i64 (needE span es)) ∧ Below w.heap.size w w' := by
  have HR := hide (fun (W : World) (b : Below w.heap.size w W) => hr.below b)
  have HL := hide hr.1
  have HN := hide hn
  have n2 : (n : Int) ≤ 1000 := by omega
  have WO := hide (fun (W : World) (e : Er) => cost_any W span e)
  have AD := hide (fun (W : World) (x y : Int) (c : Nat) => add_any (some ⟨W.heap.size, 0, none⟩) 2 c [x, y] (W.alloc (.cells #[.int .i64 x, .int .i64 y] 3)))
  obtain ⟨S, hS⟩ : ∃ S, S = cl span := ⟨_, rfl⟩
  rw [← hS] at WO ⊢
  clear hr hn hS
  go_enter Tryz.func108, Tryz.ntmps108
  go_wp2_with fail
  go_loopw [5, 10] (fun sv iv wr => ∃ i : Nat, i ≤ n ∧ iv = .int .i64 (i : Int) ∧ sv = .int .i64 (needE span (es.take i)) ∧ Hid (Below w.heap.size w wr)) (fun _ iv _ => n - (intOf iv).toNat)
  case atStart => exact ⟨0, Nat.zero_le _, rfl, rfl, Below.refl _ _⟩
  case round =>
    obtain ⟨i, hi, rfl, rfl, hB⟩ := hrel
    rename World => w1
    have B1 := hide hB.out
    clear hB
    by_cases hlt : i < n
    · have i0 : (0 : Int) ≤ (i : Int) := by omega
      have i1 : (i : Int) < (n : Int) := by omega
      obtain ⟨pb, po, rfl, y0, y1, y2⟩ := er_cells (HR.out _ B1.out) hlt
      have NX := hide (show needE span (es.take (i + 1)) = cl (needE span (es.take i) + dueE span (es.getD i erD)) from by
        rw [er_take (by rw [HL.out]; exact hlt), ← needE_snoc])
      obtain ⟨x, hx⟩ : ∃ x, x = es.getD i erD := ⟨_, rfl⟩
      rw [← hx] at y0 y1 y2 NX
      obtain ⟨s, hs⟩ : ∃ s, s = needE span (es.take i) := ⟨_, rfl⟩
      have S0 := hide (show 0 ≤ s ∧ s ≤ 1099511627776 from by rw [hs]; exact ⟨needE_lo _ _, needE_hi _ _⟩)
      rw [← hs] at NX ⊢
      clear hx hs
      obtain ⟨w2, hw2⟩ : ∃ w2, w2 = w1.alloc (.cells #[.int .i64 x.per, .int .i64 x.dl, .int .i64 x.cost] 88) := ⟨_, rfl⟩
      have b2 : Below w.heap.size w w2 := by rw [hw2]; exact B1.out.alloc B1.out.size _
      have e1 : w2.heap[w1.heap.size]? = some (.cells #[.int .i64 x.per, .int .i64 x.dl, .int .i64 x.cost] 88 (0, 0)) := by rw [hw2]; exact heap_alloc_new _ _
      have z0 : w2.cell? ⟨w1.heap.size, 0, none⟩ = some (.int .i64 x.per) := by rw [cell_of_row _ _ _ _ _ _ e1]; rfl
      have z1 : w2.cell? ⟨w1.heap.size, 1, none⟩ = some (.int .i64 x.dl) := by rw [cell_of_row _ _ _ _ _ _ e1]; rfl
      have z2 : w2.cell? ⟨w1.heap.size, 2, none⟩ = some (.int .i64 x.cost) := by rw [cell_of_row _ _ _ _ _ _ e1]; rfl
      have C := hide (WO.out w2 x)
      have B2 := hide b2
      have HW := hide hw2
      clear hw2 b2 e1 WO
      go_upto_region 5 with fail
      rw [← HW.out]
      go_wp2_with (first
        | (go_at_call 109; refine C.out.mono ?_; rintro e w3 ⟨rfl, b3⟩; have B3 := hide (B2.out.trans (b3.mono B2.out.size)); clear b3)
        | (go_at_call 35; refine (AD.out _ _ _ _ (ints_two .i64 _ _ _ _) (by omega)).mono ?_; rintro e w4 ⟨rfl, rfl⟩))
      go_roundw
      case rel => exact ⟨i + 1, by omega, by go_num, by rw [NX.out, sum_two, cl_in s S0.out.1 S0.out.2, cl_in (dueE span x) (dueE_lo _ _) (dueE_hi _ _)], B3.out.alloc B3.out.size _⟩
      case measure => simp [intOf]; omega
    · obtain rfl : i = n := by omega
      go_wp2_with fail
      go_ret
      exact ⟨ret_int (by rw [List.take_of_length_le (by rw [HL.out]; exact Nat.le_refl _)]), B1.out⟩
set_option maxRecDepth 20000 in
set_option maxHeartbeats 4000000 in
theorem need_any (w : World) (span : Int) (a : Option Addr) (n c : Nat) (es : List Er) (hr : Reads 3 erVals w a n es) (hn : n ≤ 100) :
    Calls Tryz.prog 98 #[.int .i64 span, .slice a n c] w fun e w' => e = .returned (.int .i64 (needE span es)) ∧ Below w.heap.size w w' := by
  have hmf : ∀ (fn : Fn) (first cap : Array Value) (w : World), (Instr.makeFunc fn first cap).run Tryz.prog w = .ok (.func fn first cap) w := fun _ _ _ _ => rfl
  have CL := hide (clip_any span w)
  have C := hide (esum_any w a n c es hr hn span)
  clear hr hn
  go_enter Tryz.func98, Tryz.ntmps98
  go_wp2_with (first
    | (go_at_call 67; refine CL.out.mono ?_; rintro e w2 ⟨rfl, rfl⟩)
    | (go_at_call 108; refine C.out.mono ?_; rintro e w2 ⟨rfl, b2⟩; have B2 := hide b2; clear b2))
  go_ret
  exact ⟨rfl, B2.out⟩
set_option maxRecDepth 20000 in
set_option maxHeartbeats 4000000 in
theorem busy_any (w : World) (block : Int) (a : Option Addr) (n c : Nat) (ps : List Pt) (most : Int) (hr : Reads 2 ptVals w a n ps) (hn : n ≤ 1000) (hm : (Lit.int .i64 most).wf = true) :
    Calls Tryz.prog 78 #[.int .i64 block, .slice a n c, .int .i64 most] w fun e w' => ∃ v, e = .returned v ∧ RespIs 0 block ps most v ∧ Below w.heap.size w w' := by
  have C := hide (resp_any w 0 block a n c ps most hr hn hm)
  clear hr hn hm
  go_enter Tryz.func78, Tryz.ntmps78
  go_wp2_with (go_at_call 49; refine C.out.mono ?_; rintro e w4 ⟨v, rfl, ⟨r, ok, rfl, hr⟩, b4⟩; have R4 := hide hr; have B4 := hide b4; clear hr b4)
  exact bodyPost_ret (v := .tuple #[.int .i64 r, .bool ok]) (by simp [results, Tryz.results78, go_sem]) rfl ⟨_, rfl, ⟨_, _, rfl, R4.out⟩, B4.out⟩
theorem part_info : ∃ i, Tryz.prog.info? 36 = some i ∧ i.zero = some (.agg #[.int .i64 0, .int .i64 0]) ∧ i.size = 2 ∧ i.bytes = 16 := by
  have h : (Tryz.prog.info? 36).map (fun i => (i.zero, i.size, i.bytes)) = some (some (.agg #[.int .i64 0, .int .i64 0]), 2, 16) := by kernel_rfl
  cases e : Tryz.prog.info? 36 with
  | none => rw [e] at h; cases h
  | some i =>
    rw [e] at h
    simp at h
    exact ⟨i, rfl, h.1, h.2.1, h.2.2⟩
theorem part_size : (Tryz.prog.info? 36).map (·.size) = some 2 := by kernel_rfl
theorem built_ptD (x y : Int) : Tryz.prog.built 36 [(0, .int .i64 x), (1, .int .i64 y)] = some #[.int .i64 x, .int .i64 y] := by kernel_rfl
attribute [local go_sem] built_ptD
/-- A part is written into a row behind the others. -/
theorem own_next {w w' : World} {B R i n : Nat} {xs : List Pt} (h : w.ownsRow B 36 2 (.slice (some ⟨R, 0, none⟩) i n) i (xs.flatMap ptVals)) (p : Pt) (cur : Array Value) (hg : w.heap[R]? = some (.cells cur 36 (0, 0))) (hi : i < n)
    (e : w'.heap[R]? = some (.cells (splice cur.toList (i * 2) [.int .i64 p.per, .int .i64 p.cost]).toArray 36 (0, 0))) :
    w'.ownsRow B 36 2 (.slice (some ⟨R, 0, none⟩) (i + 1) n) (i + 1) ((xs ++ [p]).flatMap ptVals) := by
  obtain ⟨h1, h2⟩ := h
  rcases h2 with ⟨h2, _⟩ | ⟨g, cap, cu, h2, h3, h4, h5, h6, h7, h8⟩
  · cases h2
  · injection h2 with h2 _ h2c
    injection h2 with h2
    injection h2 with h2
    subst h2 h2c
    rw [h4] at hg
    injection hg with hg
    injection hg with hg
    subst hg
    have hl : i * 2 + 2 ≤ cu.toList.length := by simp; omega
    refine ⟨by rw [List.flatMap_append, List.length_append, h1]; simp [ptVals]; omega, .inr ⟨R, n, _, rfl, h3, e, by omega, h6, ?_, ?_⟩⟩
    · simp [splice]; omega
    · rw [List.flatMap_append, ← h8]
      show (splice cu.toList (i * 2) _).take ((i + 1) * 2) = _
      unfold splice
      have e1 : (List.take (i * 2) cu.toList).length = i * 2 := by rw [List.length_take]; omega
      have e2 : (i + 1) * 2 = ((List.take (i * 2) cu.toList ++ [Value.int .i64 p.per, .int .i64 p.cost])).length := by rw [List.length_append, e1]; simp; omega
      rw [e2]
      first
        | (rw [← List.append_assoc, List.take_left]; simp [ptVals])
        | (rw [List.take_left]; simp [ptVals])
theorem own_row_cells {w : World} {B R i n : Nat} {e : TypeId} {z : Nat} {xs : List Value} (h : w.ownsRow B e z (.slice (some ⟨R, 0, none⟩) i n) i xs) : ∃ cur : Array Value, w.heap[R]? = some (.cells cur e (0, 0)) ∧ cur.size = n * z := by
  rcases h.2 with ⟨h2, _⟩ | ⟨g, cap, cu, h2, h3, h4, h5, h6, h7, h8⟩
  · cases h2
  · injection h2 with h2 _ h2c
    injection h2 with h2
    injection h2 with h2
    subst h2 h2c
    exact ⟨cu, h4, h7⟩
set_option maxRecDepth 20000 in
set_option maxHeartbeats 4000000 in
theorem regard_any (w : World) (a : Option Addr) (n c : Nat) (es : List Er) (hr : Reads 3 erVals w a n es) (hn : n ≤ 100) :
    Calls Tryz.prog 79 #[.slice a n c] w fun e w' => e = .returned (.slice (some ⟨w.heap.size, 0, none⟩) n n) ∧ Reads 2 ptVals w' (some ⟨w.heap.size, 0, none⟩) n (es.map partE) ∧ Below w.heap.size w w' := by
  obtain ⟨i0, hi0, hz0, hz1, hz2⟩ := part_info
  have hmk : ∀ X : World, (Instr.makeSlice 31 (.int .i64 (n : Int)) (.int .i64 (n : Int))).run Tryz.prog X = .ok (.slice (some ⟨X.heap.size, 0, none⟩) n n) (X.alloc (.cells (madeCells #[.int .i64 0, .int .i64 0] (n * 2)) 36)) := fun X => by
    have := run_make (P := Tryz.prog) X 31 36 i0 (.agg #[.int .i64 0, .int .i64 0]) Tryz.underlying31 hi0 hz0 .i64 .i64 (n : Int) (n : Int) (by omega) (Int.le_refl _) (by rw [hz2]; omega) (by omega)
    rw [hz1] at this
    simpa [Value.cells] using this
  clear hi0 hz0 hz1 hz2
  have HR := hide (fun (W : World) (b : Below w.heap.size w W) => hr.below b)
  have HL := hide hr.1
  have HN := hide hn
  have n2 : (n : Int) ≤ 1000 := by omega
  obtain ⟨w0, hw0⟩ : ∃ w0, w0 = w.alloc (.cells (madeCells #[.int .i64 0, .int .i64 0] (n * 2)) 36) := ⟨_, rfl⟩
  have O0 := hide (show w0.ownsRow w.heap.size 36 2 (.slice (some ⟨w.heap.size, 0, none⟩) 0 n) 0 (((es.take 0).map partE).flatMap ptVals) from by
    rw [hw0]; exact World.ownsRow_made w _ n (Nat.le_refl _) (by unfold maxLen; omega) (size_madeCells _ _))
  have B0 := hide (show Below w.heap.size w w0 from by rw [hw0]; exact (Below.refl _ _).alloc (Nat.le_refl _) _)
  obtain ⟨R, hR⟩ : ∃ R, R = w.heap.size := ⟨_, rfl⟩
  rw [← hR] at O0 ⊢
  have LR := hide (show R = w.heap.size from hR)
  have HW := hide hw0
  clear hr hn hR hw0
  go_enter Tryz.func79, Tryz.ntmps79
  go_upto_region 2 with fail
  rw [← HW.out, ← LR.out]
  go_wp2_with fail
  go_loopw [11] (fun iv wr => ∃ i : Nat, i ≤ n ∧ iv = .int .i64 (i : Int) ∧ Hid (Below w.heap.size w wr) ∧ Hid (wr.ownsRow R 36 2 (.slice (some ⟨R, 0, none⟩) i n) i (((es.take i).map partE).flatMap ptVals))) (fun iv _ => n - (intOf iv).toNat)
  case atStart => exact ⟨0, Nat.zero_le _, rfl, B0, by first | exact O0 | (rw [LR.out]; exact O0)⟩
  case round =>
    obtain ⟨i, hi, rfl, hB, hO⟩ := hrel
    rename World => w1
    have B1 := hide hB.out
    have O1 := hide hO.out
    clear hB hO
    by_cases hlt : i < n
    · have i0 : (0 : Int) ≤ (i : Int) := by omega
      have i1 : (i : Int) < (n : Int) := by omega
      obtain ⟨pb, po, rfl, y0, y1, y2⟩ := er_cells (HR.out _ B1.out) hlt
      have NX := hide (show es.take (i + 1) = es.take i ++ [es.getD i erD] from er_take (by rw [HL.out]; exact hlt))
      obtain ⟨x, hx⟩ : ∃ x, x = es.getD i erD := ⟨_, rfl⟩
      rw [← hx] at y0 y1 y2 NX
      clear hx
      obtain ⟨w2, hw2⟩ : ∃ w2, w2 = w1.alloc (.cells #[.int .i64 x.per, .int .i64 x.dl, .int .i64 x.cost] 88) := ⟨_, rfl⟩
      have b2 : Below w.heap.size w w2 := by rw [hw2]; exact B1.out.alloc B1.out.size _
      have e1 : w2.heap[w1.heap.size]? = some (.cells #[.int .i64 x.per, .int .i64 x.dl, .int .i64 x.cost] 88 (0, 0)) := by rw [hw2]; exact heap_alloc_new _ _
      have z0 : w2.cell? ⟨w1.heap.size, 0, none⟩ = some (.int .i64 x.per) := by rw [cell_of_row _ _ _ _ _ _ e1]; rfl
      have z2 : w2.cell? ⟨w1.heap.size, 2, none⟩ = some (.int .i64 x.cost) := by rw [cell_of_row _ _ _ _ _ _ e1]; rfl
      have o2 : w2.ownsRow R 36 2 (.slice (some ⟨R, 0, none⟩) i n) i (((es.take i).map partE).flatMap ptVals) := by rw [hw2]; exact O1.out.alloc _
      obtain ⟨cur, h1, h2⟩ := own_row_cells o2
      have hold : i * 2 + 2 ≤ cur.toList.length := by simp; omega
      have h1' : w2.heap[R]? = some (.cells cur.toList.toArray 36 (0, 0)) := by simpa using h1
      have H1 := hide h1
      have O2 := hide o2
      have B2 := hide b2
      have HW2 := hide hw2
      clear hw2 b2 e1 h1 h2 o2
      go_upto_region 5 with fail
      rw [← HW2.out]
      go_wp2_with (first
        | (refine wpList_build rfl 36 _ rfl (by kernel_rfl) ?_)
        | (refine wpList_store_seg rfl 36 (.tmp 23) (.tmp 22) rfl R (i * 2) #[.int .i64 x.per, .int .i64 x.cost] rfl rfl 36 cur.toList h1' part_size hold (by simp [Value.oneCell']) ?_; intro w3 e3 t3; have E3 := hide e3; have T3 := hide t3; clear e3 t3))
      go_roundw
      case rel =>
        refine ⟨i + 1, by omega, by go_num, B2.out.trans (T3.out.below B2.out.size (fun j hj => by rw [hj, LR.out]; exact Nat.le_refl _)), ?_⟩
        rw [NX.out, List.map_append]
        exact own_next O2.out (partE x) cur H1.out hlt E3.out
      case measure => simp [intOf]; omega
    · obtain rfl : i = n := by omega
      go_wp2_with fail
      go_ret
      have O3 := O1.out
      rw [List.take_of_length_le (by rw [HL.out]; exact Nat.le_refl _)] at O3
      obtain ⟨A, C, e, hr, _⟩ := own_reads ptVals_len (by omega) O3
      injection e with e1 _ e2
      subst e1 e2
      exact ⟨rfl, hr, by first | exact B1.out | (rw [LR.out]; exact B1.out)⟩
theorem grow_any (w : World) (k : Nat) (hk : k ≤ 1000) :
    Calls Tryz.prog 74 #[.slice none 0 0, .int .i64 (k : Int)] w fun e w' => ∃ v, e = .returned v ∧ w'.ownsRow w.heap.size 36 2 v 0 [] ∧ Below w.heap.size w w' := by
  obtain ⟨i0, hi0, hz0, hz1, hz2⟩ := part_info
  by_cases h0 : k = 0
  · subst h0
    exact (Go.Proofs.Any8.slices_Grow_room Tryz.growPt none 0 0 0 w (by omega) (by omega) (by omega) (by omega)).mono fun e w' ⟨h1, h2⟩ => ⟨_, h1, World.ownsRow_nil _ _ _ _, by rw [h2]; exact Below.refl _ _⟩
  · refine (Go.Proofs.Any8.slices_Grow_grow Tryz.growPt i0 (.agg #[.int .i64 0, .int .i64 0]) hi0 hz0 (by rw [hz1]; omega) none 0 0 k [] w (by omega) (by omega) (by rw [hz2]; omega) (by omega) (by simp) (fun _ => rfl) (fun a h => by cases h)).mono fun e w' ⟨h1, h2⟩ => ⟨_, h1, ?_, ?_⟩
    · rw [h2]
      refine World.ownsRow_made w.drew _ _ (Nat.le_refl _) (grownCap_le_maxLen _ _ _ _ (by unfold maxLen; omega)) ?_
      have := grownCap_ge w (0 + k) 0 (Tryz.growPt_ren.t 25)
      rw [Array.size_append, Array.size_append, size_zeroCells, size_zeroCells]
      have e0 : ([] : List Value).toArray.size = 0 := rfl
      have e1 : (Value.agg #[.int .i64 0, .int .i64 0]).cells.size = 2 := rfl
      rw [e0, e1]
      omega
    · rw [h2]
      exact (below_drewN (Below.refl _ w) 1).alloc (Nat.le_refl _) _
set_option maxRecDepth 20000 in
set_option maxHeartbeats 4000000 in
theorem concat_any (w : World) (G : Nat) (a : Option Addr) (n c : Nat) (ps : List Pt) (b : Option Addr) (m d : Nat) (qs : List Pt) (ha : Reads 2 ptVals w a n ps) (hb : Reads 2 ptVals w b m qs) (hn : n ≤ 100) (hm : m ≤ 100) (na : a = none → c = 0) (nb : b = none → d = 0)
    (h0 : w.cell? ⟨G, 0, none⟩ = some (.slice a n c)) (h1 : w.cell? ⟨G, 1, none⟩ = some (.slice b m d)) :
    Calls Tryz.prog 43 #[.slice (some ⟨G, 0, none⟩) 2 2] w fun e w' => ∃ A C, e = .returned (.slice A (n + m) C) ∧ Reads 2 ptVals w' A (n + m) (ps ++ qs) ∧ Below w.heap.size w w' := by
  obtain ⟨i0, hi0, hz0, hz1, hz2⟩ := part_info
  have RA := hide (fun (W : World) (B : Below w.heap.size w W) => ha.below B)
  have RB := hide (fun (W : World) (B : Below w.heap.size w W) => hb.below B)
  have H0 := hide (fun (W : World) (B : Below w.heap.size w W) => (B.cell (lt_of_cell? h0)).trans h0)
  have H1 := hide (fun (W : World) (B : Below w.heap.size w W) => (B.cell (lt_of_cell? h1)).trans h1)
  have NA := hide na
  have NB := hide nb
  have n2 : (n : Int) ≤ 1000 := by omega
  have m2 : (m : Int) ≤ 1000 := by omega
  clear ha hb na nb
  go_enter Tryz.func43, Tryz.ntmps43
  go_wp2_with fail
  go_loopw [3, 11] (fun sv iv wr => ∃ z y : Int, iv = .int .i64 z ∧ sv = .int .i64 y ∧ w = wr ∧ Hid (z = 0 ∧ y = 0 ∨ z = 1 ∧ y = n ∨ z = 2 ∧ y = (n + m : Nat))) (fun _ iv _ => 2 - (intOf iv).toNat)
  case atStart => exact ⟨0, 0, rfl, rfl, rfl, .inl ⟨rfl, rfl⟩⟩
  case round =>
    obtain ⟨z, y, rfl, rfl, rfl, hZ⟩ := hrel
    have c0 := H0.out _ (Below.refl _ _)
    have c1 := H1.out _ (Below.refl _ _)
    rcases hZ.out with ⟨rfl, rfl⟩ | ⟨rfl, rfl⟩ | ⟨rfl, rfl⟩ <;> clear hZ
    · go_wp2_with fail
      go_roundw
      case rel => exact ⟨1, n, rfl, by first | rfl | go_num, by trivial, .inr (.inl ⟨rfl, rfl⟩)⟩
      case measure => simp [intOf]
    · go_wp2_with fail
      go_roundw
      case rel => exact ⟨2, (n + m : Nat), rfl, by first | rfl | go_num, by trivial, .inr (.inr ⟨rfl, rfl⟩)⟩
      case measure => simp [intOf]
    · obtain ⟨N, hN⟩ : ∃ N, N = n + m := ⟨_, rfl⟩
      have GR := hide (grow_any w N (by omega))
      have HN := hide hN
      rw [← hN]
      clear hN
      go_upto_region 10 with (go_at_call 74; refine GR.out.mono ?_; rintro e w1 ⟨v1, rfl, o1, b1⟩; have O1 := hide o1; have B1 := hide b1; clear o1 b1)
      go_wp2_with fail
      go_loopw [6, 27] (fun sv iv wr => ∃ z : Int, iv = .int .i64 z ∧ Hid (Below w.heap.size w wr) ∧ Hid (z = 0 ∧ wr.ownsRow w.heap.size 36 2 sv 0 [] ∨ z = 1 ∧ wr.ownsRow w.heap.size 36 2 sv n (ps.flatMap ptVals) ∨ z = 2 ∧ wr.ownsRow w.heap.size 36 2 sv (n + m) ((ps ++ qs).flatMap ptVals))) (fun _ iv _ => 2 - (intOf iv).toNat)
      case atStart => exact ⟨0, rfl, B1, .inl ⟨rfl, O1.out⟩⟩
      case round =>
        obtain ⟨z, rfl, hB, hZ⟩ := hrel
        rename World => w2
        have B2 := hide hB.out
        have d0 := H0.out _ B2.out
        have d1 := H1.out _ B2.out
        have A2 := hide (RA.out _ B2.out)
        have A3 := hide (RB.out _ B2.out)
        rcases hZ.out with ⟨rfl, hO⟩ | ⟨rfl, hO⟩ | ⟨rfl, hO⟩ <;> have O2 := hide hO <;> clear hZ hB hO GR O1 B1
        · go_wp2_with (at_builtin; refine wpList_append_reads rfl (.tmp 31) (.tmp 32) 31 rfl w.heap.size 36 i0 (.agg #[.int .i64 0, .int .i64 0]) 16 Tryz.underlying31 hi0 hz0 hz1 hz2 rfl (by omega) u6 0 [] rfl O2.out a n c ps rfl ptVals_len ptVals_cell A2.out NA.out (by unfold maxLen; omega) (by omega) B2.out.size ?_; intro v3 w3 o3 g3; have O3 := hide o3; have G3 := hide g3; clear o3 g3)
          go_roundw
          case rel =>
            refine ⟨1, rfl, B2.out.grown G3.out B2.out.size (own_lo O2.out), .inr (.inl ⟨rfl, ?_⟩)⟩
            have := O3.out
            rw [Nat.zero_add, List.nil_append] at this
            exact this
          case measure => simp [intOf]
        · go_wp2_with (at_builtin; refine wpList_append_reads rfl (.tmp 31) (.tmp 32) 31 rfl w.heap.size 36 i0 (.agg #[.int .i64 0, .int .i64 0]) 16 Tryz.underlying31 hi0 hz0 hz1 hz2 rfl (by omega) u6 n (ps.flatMap ptVals) rfl O2.out b m d qs rfl ptVals_len ptVals_cell A3.out NB.out (by unfold maxLen; omega) (by omega) B2.out.size ?_; intro v3 w3 o3 g3; have O3 := hide o3; have G3 := hide g3; clear o3 g3)
          go_roundw
          case rel =>
            refine ⟨2, rfl, B2.out.grown G3.out B2.out.size (own_lo O2.out), .inr (.inr ⟨rfl, ?_⟩)⟩
            have := O3.out
            rw [← List.flatMap_append] at this
            exact this
          case measure => simp [intOf]
        · obtain ⟨A, C, rfl, hr, _⟩ := own_reads ptVals_len (by omega) O2.out
          have HR := hide hr
          clear hr
          go_wp2_with fail
          go_ret
          exact ⟨A, C, rfl, HR.out, B2.out⟩
/-- Whether too much is due within a span. -/
def lateB (block : Int) (ps : List Pt) (es : List Er) (s : Int) : Bool := decide (0 < needE s es) && decide (s < sum [block, workP s ps, needE s es])
theorem lateB_iff (block : Int) (ps : List Pt) (es : List Er) (s : Int) : lateB block ps es s = true ↔ badE block ps es s := by unfold lateB badE; simp
theorem lateB_no {block : Int} {ps : List Pt} {es : List Er} {s : Int} (h : ¬ 0 < needE s es) : lateB block ps es s = false := by unfold lateB; simp [h]
theorem lateB_yes {block : Int} {ps : List Pt} {es : List Er} {s : Int} (h : 0 < needE s es) : lateB block ps es s = decide (s < sum [block, workP s ps, needE s es]) := by unfold lateB; simp [h]
set_option maxRecDepth 20000 in
set_option maxHeartbeats 4000000 in
theorem late_any (w : World) (block span : Int) (a : Option Addr) (n c : Nat) (ps : List Pt) (b : Option Addr) (m d : Nat) (es : List Er) (ha : Reads 2 ptVals w a n ps) (hb : Reads 3 erVals w b m es) (hn : n ≤ 100) (hm : m ≤ 100) :
    Calls Tryz.prog 81 #[.agg #[.int .i64 block, .slice a n c, .slice b m d], .int .i64 span] w fun e w' => e = .returned (.bool (lateB block ps es span)) ∧ Below w.heap.size w w' := by
  obtain ⟨w1, hw1⟩ : ∃ w1, w1 = w.alloc (.cells #[.int .i64 block, .slice a n c, .slice b m d] 124) := ⟨_, rfl⟩
  have b1 : Below w.heap.size w w1 := by rw [hw1]; exact (Below.refl w.heap.size w).alloc (Nat.le_refl _) _
  have e1 : w1.heap[w.heap.size]? = some (.cells #[.int .i64 block, .slice a n c, .slice b m d] 124 (0, 0)) := by rw [hw1]; exact heap_alloc_new _ _
  have y0 : w1.cell? ⟨w.heap.size, 0, none⟩ = some (.int .i64 block) := by rw [cell_of_row _ _ _ _ _ _ e1]; rfl
  have y1 : w1.cell? ⟨w.heap.size, 1, none⟩ = some (.slice a n c) := by rw [cell_of_row _ _ _ _ _ _ e1]; rfl
  have y2 : w1.cell? ⟨w.heap.size, 2, none⟩ = some (.slice b m d) := by rw [cell_of_row _ _ _ _ _ _ e1]; rfl
  have K0 := hide (fun (W : World) (b : Below w1.heap.size w1 W) => (b.cell (lt_of_cell? y0)).trans y0)
  have K1 := hide (fun (W : World) (b : Below w1.heap.size w1 W) => (b.cell (lt_of_cell? y1)).trans y1)
  have C1 := hide (need_any w1 span b m d es (hb.below b1) hm)
  have C2 := hide (fun (W : World) (B : Below w1.heap.size w1 W) => work_any W span a n c ps ((ha.below b1).below B) (by omega))
  have AD := hide (fun (W : World) (x y z : Int) => add_any (some ⟨W.heap.size, 0, none⟩) 3 3 [x, y, z] (W.alloc (.cells #[.int .i64 x, .int .i64 y, .int .i64 z] 3)) (ints_three .i64 W x y z _ _ rfl) (by omega))
  have LN := hide (@lateB_no block ps es span)
  have LY := hide (@lateB_yes block ps es span)
  obtain ⟨U, hU⟩ : ∃ U, U = needE span es := ⟨_, rfl⟩
  obtain ⟨V, hV⟩ : ∃ V, V = workP span ps := ⟨_, rfl⟩
  rw [← hU] at C1 LN LY
  rw [← hV] at C2 LY
  obtain ⟨X, hX⟩ : ∃ X, X = lateB block ps es span := ⟨_, rfl⟩
  rw [← hX] at LN LY ⊢
  obtain ⟨T, hT⟩ : ∃ T, T = sum [block, V, U] := ⟨_, rfl⟩
  rw [← hT] at LY
  have AT := hide (show ∀ W : World, Calls Tryz.prog 35 #[.slice (some ⟨W.heap.size, 0, none⟩) 3 3] (W.alloc (.cells #[.int .i64 block, .int .i64 V, .int .i64 U] 3)) fun e w' => e = .returned (.int .i64 T) ∧ W.alloc (.cells #[.int .i64 block, .int .i64 V, .int .i64 U] 3) = w' from fun W => by rw [hT]; exact AD.out W block V U)
  have B1 := hide b1
  have HW := hide hw1
  have SZ := hide (show w1.heap.size = w1.heap.size from rfl)
  clear ha hb hn hm hw1 b1 e1 hU hV hX hT AD
  by_cases h : 0 < U
  · have E := hide (LY.out h)
    have hT : (0 < U) = True := eq_true h
    go_enter Tryz.func81, Tryz.ntmps81
    go_upto_region 1 with fail
    rw [← HW.out]
    go_upto_region 2 with (go_at_call 98; refine C1.out.mono ?_; rintro r w2 ⟨rfl, b2⟩; have B2 := hide b2; have z0 := K0.out _ b2; have z1 := K1.out _ b2; clear b2)
    have D2 := hide (show Below w1.heap.size w1 w2.drew from below_drewN B2.out 1)
    have v0 := K0.out _ D2.out
    have v1 := K1.out _ D2.out
    go_region_held3 (fun W => W.cell? ⟨w.heap.size, 0, none⟩ = some (.int .i64 block) ∧ W.cell? ⟨w.heap.size, 1, none⟩ = some (.slice a n c)) ((first | exact ⟨v0, v1⟩ | exact ⟨p3, p4⟩ | exact ⟨p5, p6⟩)) ((first
        | (go_at_call 77; refine (C2.out _ D2.out).mono ?_; rintro e w3 ⟨rfl, b3⟩; have B3 := hide (D2.out.trans (b3.mono D2.out.size)); have p3 := K0.out _ B3.out; have p4 := K1.out _ B3.out; have p5 := K0.out _ (B3.out.alloc B3.out.size (.cells #[.int .i64 block, .int .i64 V, .int .i64 U] 3)); have p6 := K1.out _ (B3.out.alloc B3.out.size (.cells #[.int .i64 block, .int .i64 V, .int .i64 U] 3)); clear b3)
        | (go_at_call 35; refine (AT.out _).mono ?_; rintro e w4 ⟨rfl, rfl⟩)))
    all_goals
      go_wp2_with fail
      go_ret
      exact ⟨ret_bool E.out.symm, (B1.out.trans (B3.out.mono B1.out.size)).alloc (Nat.le_trans B1.out.size B3.out.size) _⟩
  · have E := hide (LN.out h)
    have hF : (0 < U) = False := eq_false h
    go_enter Tryz.func81, Tryz.ntmps81
    go_upto_region 1 with fail
    rw [← HW.out]
    go_upto_region 2 with (go_at_call 98; refine C1.out.mono ?_; rintro r w2 ⟨rfl, b2⟩; have B2 := hide (B1.out.trans (b2.mono B1.out.size)); clear b2)
    go_quiet (fail)
    go_wp2_with fail
    go_ret
    exact ⟨ret_bool E.out.symm, below_drewN B2.out _⟩
/-- What the search for a span at which too much is due answers. -/
def FirstIs (block : Int) (ps : List Pt) (es : List Er) (upTo : Int) (v : Value) : Prop :=
  ∃ x ok, v = .tuple #[.int .i64 x, .bool ok] ∧ ((ok = true ∧ 1 ≤ x ∧ x ≤ upTo ∧ badE block ps es x ∧ ∀ s, 1 ≤ s → s < x → ¬ badE block ps es s) ∨ (ok = false ∧ x = 0 ∧ ∀ s, 1 ≤ s → s ≤ upTo → ¬ badE block ps es s))
set_option maxRecDepth 20000 in
set_option maxHeartbeats 4000000 in
theorem first_any (w : World) (block upTo : Int) (a : Option Addr) (n c : Nat) (ps : List Pt) (b : Option Addr) (m d : Nat) (es : List Er) (ha : Reads 2 ptVals w a n ps) (hb : Reads 3 erVals w b m es) (hn : n ≤ 100) (hm : m ≤ 100) (hu : upTo ≤ 4096) :
    Calls Tryz.prog 80 #[.int .i64 upTo, .func (.func 81) #[.agg #[.int .i64 block, .slice a n c, .slice b m d]] #[]] w fun e w' => ∃ v, e = .returned v ∧ FirstIs block ps es upTo v ∧ Below w.heap.size w w' := by
  have C := hide (fun (W : World) (B : Below w.heap.size w W) (s : Int) => late_any W block s a n c ps b m d es (ha.below B) (hb.below B) hn hm)
  clear ha hb hn hm
  go_enter Tryz.func80, Tryz.ntmps80
  go_wp2_with fail
  go_loopw [6] (fun sv wr => ∃ s : Int, sv = .int .i64 s ∧ 1 ≤ s ∧ s ≤ 5000 ∧ Hid (Below w.heap.size w wr ∧ ∀ q : Int, 1 ≤ q → q < s → ¬ badE block ps es q)) (fun sv _ => (5000 - intOf sv).toNat)
  case atStart => exact ⟨1, rfl, by omega, by omega, Below.refl _ _, fun q h1 h2 => by omega⟩
  case round =>
    obtain ⟨s, rfl, s0, s1, hZ⟩ := hrel
    rename World => w1
    have B1 := hide hZ.out.1
    have Z1 := hide hZ.out.2
    clear hZ
    by_cases c1 : s ≤ upTo
    · have D := hide (C.out _ B1.out s)
      have BI := hide (lateB_iff block ps es s)
      obtain ⟨r, hr⟩ : ∃ r, r = lateB block ps es s := ⟨_, rfl⟩
      rw [← hr] at D BI
      clear hr
      cases r with
      | true =>
        have FIN := hide (show FirstIs block ps es upTo (.tuple #[.int .i64 s, .bool true]) from ⟨s, true, rfl, .inl ⟨rfl, s0, c1, BI.out.1 rfl, Z1.out⟩⟩)
        go_wp2_with (go_at_call 81; refine D.out.mono ?_; rintro e w2 ⟨rfl, b2⟩; have B2 := hide (B1.out.trans (b2.mono B1.out.size)); clear b2)
        exact bodyPost_ret (v := .tuple #[.int .i64 s, .bool true]) (by simp [results, Tryz.results80, go_sem]) rfl ⟨_, rfl, FIN.out, B2.out⟩
      | false =>
        have NX := hide (show ∀ q : Int, 1 ≤ q → q < s + 1 → ¬ badE block ps es q from fun q h1 h2 => by
          by_cases h : q < s
          · exact Z1.out q h1 h
          · obtain rfl : q = s := by omega
            intro hb
            have := BI.out.2 hb
            cases this)
        go_wp2_with (go_at_call 81; refine D.out.mono ?_; rintro e w2 ⟨rfl, b2⟩; have B2 := hide (B1.out.trans (b2.mono B1.out.size)); clear b2)
        go_roundw
        case rel => exact ⟨s + 1, by go_num, by omega, by omega, B2.out, NX.out⟩
        case measure => simp [intOf]; omega
    · have FIN := hide (show FirstIs block ps es upTo (.tuple #[.int .i64 0, .bool false]) from ⟨0, false, rfl, .inr ⟨rfl, rfl, fun q h1 h2 => Z1.out q h1 (by omega)⟩⟩)
      go_wp2_with fail
      exact bodyPost_ret (v := .tuple #[.int .i64 0, .bool false]) (by simp [results, Tryz.results80, go_sem]) rfl ⟨_, rfl, FIN.out, B1.out⟩
theorem built_load (block : Int) (a : Option Addr) (n c : Nat) (b : Option Addr) (m d : Nat) : Tryz.prog.built 124 [(0, .int .i64 block), (1, .slice a n c), (2, .slice b m d)] = some #[.int .i64 block, .slice a n c, .slice b m d] := by kernel_rfl
attribute [local go_sem] built_load
set_option maxRecDepth 20000 in
set_option maxHeartbeats 8000000 in
theorem fits_any (w : World) (block : Int) (a : Option Addr) (n c : Nat) (ps : List Pt) (b : Option Addr) (m d : Nat) (es : List Er) (most : Int) (ha : Reads 2 ptVals w a n ps) (hn : n ≤ 100) (hb : Reads 3 erVals w b m es) (hm : m ≤ 100) (na : a = none → c = 0) (hw : (Lit.int .i64 most).wf = true) :
    Calls Tryz.prog 50 #[.int .i64 block, .slice a n c, .slice b m d, .int .i64 most] w fun e w' => ∃ v, e = .returned v ∧ FitsIs block ps es most v ∧ Below w.heap.size w w' := by
  have RG := hide (regard_any w b m d es hb (by omega))
  have HA := hide ha
  have HB := hide hb
  have CO := hide (fun (W : World) (B : Below w.heap.size w W) (R : Reads 2 ptVals W (some ⟨w.heap.size, 0, none⟩) m (es.map partE)) =>
    concat_any (W.alloc (.cells #[.slice a n c, .slice (some ⟨w.heap.size, 0, none⟩) m m] 31)) W.heap.size a n c ps (some ⟨w.heap.size, 0, none⟩) m m (es.map partE) ((ha.below B).below ((Below.refl _ _).alloc (Nat.le_refl _) _)) (R.below ((Below.refl _ _).alloc (Nat.le_refl _) _)) (by omega) (by omega) na (fun h => by cases h)
      (by rw [cell_of_row _ _ _ _ _ _ (heap_alloc_new _ _)]; rfl) (by rw [cell_of_row _ _ _ _ _ _ (heap_alloc_new _ _)]; rfl))
  have BU := hide (fun (W : World) (A : Option Addr) (C : Nat) (R : Reads 2 ptVals W A (n + m) (ps ++ es.map partE)) => busy_any W block A (n + m) C (ps ++ es.map partE) most R (by omega) hw)
  have FI := hide (fun (W : World) (B : Below w.heap.size w W) (upTo : Int) (h : upTo ≤ 4096) => first_any W block upTo a n c ps b m d es (ha.below B) (hb.below B) (by omega) (by omega) h)
  have hmf : ∀ (fn : Fn) (first cap : Array Value) (w : World), (Instr.makeFunc fn first cap).run Tryz.prog w = .ok (.func fn first cap) w := fun _ _ _ _ => rfl
  clear ha hb hn hm na hw
  go_enter Tryz.func50, Tryz.ntmps50
  go_upto_region 2 with (first
    | (go_at_call 79; refine RG.out.mono ?_; rintro e w1 ⟨rfl, r1, b1⟩; have R1 := hide r1; have B1 := hide b1; clear r1 b1)
    | (go_at_call 43; refine (CO.out _ B1.out R1.out).mono ?_; rintro e w2 ⟨A2, C2, rfl, r2, b2⟩; have R2 := hide r2; have B2 := hide ((B1.out.alloc B1.out.size _).trans (b2.mono (by have := B1.out.size; simp; omega))); clear r2 b2)
    | (go_at_call 78; refine (BU.out _ A2 C2 R2.out).mono ?_; rintro e w3 ⟨v3, rfl, h3, b3⟩; obtain ⟨r, ok, rfl, hr⟩ := h3; have IR := hide hr; have B3 := hide (B2.out.trans (b3.mono B2.out.size)); clear hr b3))
  cases ok with
  | false =>
    have FIN := hide (show FitsIs block ps es most (.tuple #[.int .i64 0, .bool false]) from ⟨0, false, rfl, .inl ⟨r, IR.out, rfl, rfl⟩⟩)
    go_wp2_with fail
    exact bodyPost_ret (v := .tuple #[.int .i64 0, .bool false]) (by simp [results, Tryz.results50, go_sem]) rfl ⟨_, rfl, FIN.out, B3.out⟩
  | true =>
    have r4 : r ≤ 4096 := by
      rcases IR.out with ⟨_, _, _, h, _⟩ | ⟨h, _⟩
      · exact h
      · cases h
    go_upto_region 5 with (first
      | (refine wpList_build rfl 124 _ rfl (by kernel_rfl) ?_)
      | (go_at_call 80; refine (FI.out _ B3.out r r4).mono ?_; rintro e w4 ⟨v4, rfl, h4, b4⟩; obtain ⟨x, late, rfl, hx⟩ := h4; have IX := hide hx; have B4 := hide (B3.out.trans (b4.mono B3.out.size)); clear hx b4))
    cases late with
    | false =>
      have FIN := hide (show FitsIs block ps es most (.tuple #[.int .i64 r, .bool true]) from by
        refine ⟨r, true, rfl, .inr ⟨r, IR.out, .inr ⟨rfl, rfl, ?_⟩⟩⟩
        rcases IX.out with ⟨h, _⟩ | ⟨_, _, h⟩
        · cases h
        · exact h)
      go_wp2_with fail
      exact bodyPost_ret (v := .tuple #[.int .i64 r, .bool true]) (by simp [results, Tryz.results50, go_sem]) rfl ⟨_, rfl, FIN.out, B4.out⟩
    | true =>
      have FIN := hide (show FitsIs block ps es most (.tuple #[.int .i64 x, .bool false]) from by
        refine ⟨x, false, rfl, .inr ⟨r, IR.out, .inl ?_⟩⟩
        rcases IX.out with ⟨_, h1, h2, h3, h4⟩ | ⟨h, _⟩
        · exact ⟨rfl, h1, h2, h3, h4⟩
        · cases h)
      go_wp2_with fail
      exact bodyPost_ret (v := .tuple #[.int .i64 x, .bool false]) (by simp [results, Tryz.results50, go_sem]) rfl ⟨_, rfl, FIN.out, B4.out⟩
theorem pdemand_any : PDemand := ⟨fun w span a n c es hr _ hn _ => need_any w span a n c es hr hn, fun w block a n c ps most hr _ hn _ hm => busy_any w block a n c ps most hr (by omega) hm,
  fun w block a n c ps b m d es most hr _ hn hr2 _ hm na _ _ _ _ hw => fits_any w block a n c ps b m d es most hr hn hr2 hm na hw⟩
end Go.Proofs.YtcmgkjjkhfcedaaGreat
