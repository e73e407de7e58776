/-
  The law PrioMost, over the contracts of the program's prio.
-/
import Derived.Test.YteiokkdkeneogaaPrOrder
import Derived.Test.YteiokkdkeneogaaPrCompares
namespace Go.Proofs.Yteiokkdkeneogaa
open Go.ChangeShapes Go.WideShapes Go.ChangeAt Go.RowKit
set_option linter.unusedVariables false
/-- 'append' as a step of a region that draws, by its run. -/
theorem step_append_run {P : Program} {w w' : World} {ops : Array Oper} {o : Oper} {a : Act} {K : Act → World → Prop} {Q : Exit → Act → World → Prop} {E : Prop} {r : Value} (hgd : o.guard = none) (s x : Operand) (t : TypeId)
    (ho : o.op = .call { callee := .builtin .append, args := #[s, x], argTypes := #[t, t] }) (sv xv : Value) (hs : a.eval s = sv) (hx : a.eval x = xv) (hrun : (Builtin.append_ #[t, t] o.type #[sv, xv]).run P w = .ok r w')
    (h : K (a.put o.dst r) w') : if Region.wanted o (yielded ops a.tmps) = true then Oper.wp P o a w K Q else E := by
  have hw : Region.wanted o (yielded ops a.tmps) = true := by simp [Region.wanted, hgd]
  rw [if_pos hw]
  unfold Oper.wp execOp
  simp only [ho, resolve, invoke, builtin, Sem.run_bind, Sem.run_pure, Result.andThen_ok, List.map_toArray, List.map_cons, List.map_nil, hs, hx, hrun]
  exact h
/-- append of a slice that may be nil onto a row of one's own. -/
theorem run_append_src {P : Program} (w : World) (base : Nat) (t ty e : TypeId) (i : TypeInfo) (z : Value) (size bytes : Nat) (ht : P.underlying t = some (.slice e)) (hi : P.info? e = some i) (hz : i.zero = some z)
    (hsize : i.size = size) (hby : i.bytes = bytes) (hzs : z.cells.size = size) (hsz : 0 < size)
    (v : Value) (n : Nat) (xs : List Value) (hown : w.ownsRow base e size v n xs)
    (a : Option Addr) (m c : Nat) (news : List Value) (hl : news.length = m * size) (hnil : a = none → m = 0 ∧ c = 0) (hnews : ∀ ad, a = some ad → ∀ j u, news[j]? = some u → w.cell? (ad.add j) = some u) (h1 : ∀ u ∈ news, u.oneCell' = true)
    (h63 : n + m ≤ maxLen) (hbytes : (n + m) * bytes ≤ 140737488355328) (hbase : base ≤ w.heap.size) :
    ∃ v' w', (Builtin.append_ #[t, t] ty #[v, .slice a m c]).run P w = .ok v' w' ∧ w'.ownsRow base e size v' (n + m) (xs ++ news) ∧ w.grownBy w' v.ownBlock := by
  cases a with
  | none =>
    obtain ⟨rfl, rfl⟩ := hnil rfl
    have hn : news = [] := List.eq_nil_of_length_eq_zero (by simpa using hl)
    subst hn
    exact ⟨v, w, run_append_owned_none (P := P) (w := w) base t ty e i size ht hi v n xs hown, by simpa using hown, World.grownBy.refl w _⟩
  | some ad =>
    obtain ⟨v', w', hr, h2, h3, _⟩ := run_append_own_at (P := P) w base t ty e i z size bytes ht hi hz hsize hby hzs hsz v n xs hown ad m c news hl (hnews ad rfl) h1 h63 hbytes hbase
    exact ⟨v', w', hr, h2, h3⟩
theorem own_slice3 {w : World} {B : Nat} {e : TypeId} {z n : Nat} {v : Value} {xs : List Value} (h : w.ownsRow B e z v n xs) : ∃ a c, v = .slice a n c ∧ (a = none → c = 0) ∧ n ≤ c ∧ c ≤ maxLen := by
  rcases h.2 with ⟨rfl, rfl⟩ | ⟨g, cap, cur, rfl, _, _, h1, h2, _⟩
  · exact ⟨none, 0, rfl, fun _ => rfl, Nat.le_refl _, by unfold maxLen; omega⟩
  · exact ⟨_, _, rfl, (fun e => by cases e), h1, h2⟩
theorem own_prs {w : World} {B n : Nat} {v : Value} {ys : List Pr} (h : w.ownsRow B 23 3 v n (cellsPrs ys)) : ∃ A c, v = .slice A n c ∧ PrRow w A n ys ∧ n ≤ c ∧ c ≤ maxLen := by
  have hl : ys.length = n := by have := h.1; rw [cellsPrs_length] at this; omega
  obtain ⟨A, c, hv, _, h1, h2⟩ := own_slice3 h
  refine ⟨A, c, hv, ⟨hl, fun hn => ?_⟩, h1, h2⟩
  obtain ⟨g, cap, e, _, _⟩ := h.form hn
  rw [hv] at e
  injection e with e1 _ e2
  subst e1 e2
  subst hv
  refine ⟨g, 0, rfl, fun i hi => ?_⟩
  rw [Nat.zero_add]
  have hc : ∀ j, j < 3 → w.cell? ⟨g, i * 3 + j, none⟩ = (cellsPr (ys.getD i prD))[j]? := fun j hj => (h.cellAt (i * 3 + j) (by omega)).trans (cellsPrs_at j (by omega) hj)
  exact ⟨hc 0 (by omega), hc 1 (by omega), hc 2 (by omega)⟩
set_option maxHeartbeats 8000000 in
theorem walk_prioMostC (C : PPrio) (w : World) (c l d : Int) (hc : (Lit.int .i64 c).wf = true) (hl : (Lit.int .i64 l).wf = true) (hd : (Lit.int .i64 d).wf = true) (a : Option Addr) (n cap : Nat) (zs : List (List Int)) (hin0 : CameRowsN 3 w a n cap zs) :
    Calls Try.prog 4 #[.agg #[.int .i64 c, .int .i64 l, .int .i64 d], .slice a n cap] w fun e w' => e = .returned (.bool true) ∧ Below w.heap.size w w' := by
  obtain ⟨hin, hnil⟩ := hin0
  obtain ⟨ys, hrow, hnc, hcm, hwf⟩ := PrRow.of_came hin
  have hn : n ≤ maxLen := Nat.le_trans hnc hcm
  have h63 : (n : Int) ≤ 9223372036854775807 := by unfold maxLen at hn; omega
  have wa : PrWf ⟨c, l, d⟩ := ⟨hc, hl, hd⟩
  obtain ⟨w1, hw1⟩ : ∃ w1, w1 = w.alloc (.cells #[.int .i64 c, .int .i64 l, .int .i64 d] 23) := ⟨_, rfl⟩
  have B1 := hide (show Below w.heap.size w w1 from by rw [hw1]; exact (Below.refl w.heap.size w).alloc (Nat.le_refl _) _)
  have P1 := hide (show PrAt w1 w.heap.size c l d from by rw [hw1]; exact prAt_new w c l d)
  have HW := hide hw1
  clear hw1
  by_cases h30 : 30 < n
  · have h30' : (30 : Int) < (n : Int) := by omega
    clear hin hrow hwf
    go_enter Try.func4, Try.ntmps4
    go_upto_region 1 with fail
    rw [← HW.out]
    go_wp2_with (go_at_call 10; refine (pawake7_any C _).mono ?_; rintro e w' ⟨rfl, hb⟩)
    go_ret
    exact ⟨rfl, B1.out.trans (hb.mono B1.out.size)⟩
  have h30' : ¬ (30 : Int) < (n : Int) := by omega
  have H0 := hide hrow
  have HN := hide (show a = none → n = 0 ∧ cap = 0 from fun e => ⟨by have := hnil e; omega, hnil e⟩)
  have WF := hide hwf
  have WA := hide wa
  have hyl := hide hrow.1
  obtain ⟨i0, hi0, hz0, hz1, hz2⟩ := info_parts prio_info
  have HZ := hide hz2
  clear hin hrow hwf hc hl hd wa hz2
  obtain ⟨m, hm⟩ : ∃ m, m = maxP ⟨c, l, d⟩ ys := ⟨_, rfl⟩
  have MX := hide (fun (W : World) (b : Option Addr) (q : Nat) (hr : PrRow W b n ys) (h1 : n ≤ q) (h2 : q ≤ maxLen) (h3 : b = none → q = 0) => show Calls Try.prog 12 #[.agg #[.int .i64 c, .int .i64 l, .int .i64 d], .slice b n q] W fun e w' => e = .returned (.agg #[.int .i64 m.c, .int .i64 m.l, .int .i64 m.d]) ∧ Below W.heap.size W w' from by
    have := C.max W b n q c l d ys hr h1 h2 h3 (by omega) WA.out WF.out
    rw [← hm] at this; exact this)
  have RX := hide (fun (W : World) (b : Option Addr) (q : Nat) (hr : PrRow W b (n + 1) (⟨c, l, d⟩ :: ys)) => show Calls Try.prog 13 #[.slice b (n + 1) q] W fun e w' => e = .returned (.agg #[.int .i64 m.c, .int .i64 m.l, .int .i64 m.d]) ∧ Below W.heap.size W w' from by
    have := rmax_any W b n q ⟨c, l, d⟩ ys hr (by omega)
    rw [← hm] at this; exact this)
  have ee : ∀ W, (binOp .eql 23 (.agg #[.int .i64 m.c, .int .i64 m.l, .int .i64 m.d]) (.agg #[.int .i64 m.c, .int .i64 m.l, .int .i64 m.d])).run Try.prog W = .ok (.bool true) W := fun W => by rw [prio_eql]; simp
  clear hm
  obtain ⟨X, hX⟩ : ∃ X, X = w.heap.size := ⟨_, rfl⟩
  rw [← hX] at P1
  have HX := hide hX
  clear hX
  have R1 := hide (H0.out.below B1.out)
  obtain ⟨g, hg⟩ : ∃ g, g = w1.heap.size := ⟨_, rfl⟩
  have L := hide (show Calls Try.prog 11 #[.slice a n cap] w1 fun e w' => e = .returned (.slice (some ⟨g, 0, none⟩) n (n + 3)) ∧ RoomP w' g n 3 ys ∧ Below w1.heap.size w1 w' from by rw [hg]; exact lendP_any a n cap ys w1 R1.out hnil (by omega))
  have HG := hide hg
  clear hg hnil
  go_enter Try.func4, Try.ntmps4
  go_upto_region 1 with fail
  rw [← HW.out, ← HX.out]
  go_upto_region 4 with (go_at_call 11; refine L.out.mono ?_; rintro e w2 ⟨rfl, o2, b2⟩; have B2 := hide (B1.out.trans (b2.mono B1.out.size)); have P2 := hide (P1.out.below b2); have O2 := hide o2; have R2 := hide (R1.out.below b2); obtain ⟨x0, x1, x2⟩ := P2.out.cells; clear o2 b2)
  go_upto_region 5 with (go_at_call 12; refine (MX.out _ _ _ (O2.out.row hyl.out) (by omega) (by unfold maxLen; omega) (fun e => by cases e)).mono ?_; rintro e w3 ⟨rfl, b3⟩; have B3 := hide (B2.out.trans (b3.mono B2.out.size)); have P3 := hide (P2.out.below b3); have O3 := hide (O2.out.below b3); have R3 := hide (R2.out.below b3); clear b3)
  obtain ⟨w4, hw4⟩ : ∃ w4, w4 = w3.alloc (.cells #[.int .i64 m.c, .int .i64 m.l, .int .i64 m.d] 23) := ⟨_, rfl⟩
  rw [← hw4]
  have b4 : Below w3.heap.size w3 w4 := by rw [hw4]; exact (Below.refl _ _).alloc (Nat.le_refl _) _
  have B4 := hide (B3.out.trans (b4.mono B3.out.size))
  have P4 := hide (P3.out.below b4)
  have O4 := hide (O3.out.below b4)
  have R4 := hide (R3.out.below b4)
  have Q4 := hide (show PrAt w4 w3.heap.size m.c m.l m.d from by rw [hw4]; exact prAt_new w3 m.c m.l m.d)
  obtain ⟨Y, hY⟩ : ∃ Y, Y = w3.heap.size := ⟨_, rfl⟩
  rw [← hY] at Q4 ⊢
  clear hw4 b4 hY x0 x1 x2
  have c4 := And.intro P4.out.cells Q4.out.cells
  -- the row that is made of both
  have b5 : Below w4.heap.size w4 (w4.alloc (.cells #[.int .i64 c, .int .i64 l, .int .i64 d] 23)).drew := below_drewN ((Below.refl w4.heap.size w4).alloc (Nat.le_refl _) _) 1
  have c5 := And.intro (P4.out.below b5).cells (Q4.out.below b5).cells
  obtain ⟨v6, w6, r6, o6, g6⟩ := run_append_src (P := Try.prog) (w4.alloc (.cells #[.int .i64 c, .int .i64 l, .int .i64 d] 23)).drew w4.heap.size 28 28 23 i0 _ 3 24 Try.underlying28 hi0 hz0 hz1 HZ.out rfl (by omega) (.slice (some ⟨w4.heap.size, 0, none⟩) 1 1) 1 (cellsPrs [⟨c, l, d⟩]) (World.ownsRow_lit w4 #[.int .i64 c, .int .i64 l, .int .i64 d] 1 (Nat.le_refl _) (by unfold maxLen; omega) rfl).drew
    a n cap (cellsPrs ys) (by rw [cellsPrs_length, hyl.out]) HN.out (fun ad e => (R4.out.below b5).cells ad e) (cellsPrs_cell ys) (by unfold maxLen; omega) (by omega) (by show w4.heap.size ≤ (w4.alloc _).heap.size; simp)
  obtain ⟨A6, c6', rfl, hr6, _, _⟩ := own_prs (ys := [⟨c, l, d⟩] ++ ys) (by rw [cellsPrs_append]; exact o6)
  rw [Nat.add_comm 1 n] at hr6 r6
  have b6 : Below w4.heap.size w4 w6 := b5.grown g6 b5.size (by intro k hk; have e : w4.heap.size = k := Option.some.inj hk; omega)
  have B6 := hide (B4.out.trans (b6.mono B4.out.size))
  have P6 := hide (P4.out.below b6)
  have Q6 := hide (Q4.out.below b6)
  have O6 := hide (O4.out.below b6)
  have R6 := hide (R4.out.below b6)
  have H6 := hide hr6
  have c6 := And.intro P6.out.cells Q6.out.cells
  clear b5 o6 g6 b6 hr6
  go_region_held3 (fun w' => (w'.cell? ⟨X, 0, none⟩ = some (.int .i64 c) ∧ w'.cell? ⟨X, 1, none⟩ = some (.int .i64 l) ∧ w'.cell? ⟨X, 2, none⟩ = some (.int .i64 d)) ∧ (w'.cell? ⟨Y, 0, none⟩ = some (.int .i64 m.c) ∧ w'.cell? ⟨Y, 1, none⟩ = some (.int .i64 m.l) ∧ w'.cell? ⟨Y, 2, none⟩ = some (.int .i64 m.d))) (first | exact c4 | exact c5 | exact c6 | exact c7 | exact c8 | exact c9) (first
    | (refine step_append_run (by rfl) _ _ _ (by rfl) _ _ (by rfl) (by rfl) r6 ?_)
    | (go_at_call 13; refine (RX.out _ _ _ H6.out).mono ?_; rintro e w7 ⟨rfl, b7⟩; have B7 := hide (B6.out.trans (b7.mono B6.out.size)); have c7 := And.intro (P6.out.below b7).cells (Q6.out.below b7).cells; have P7 := hide (P6.out.below b7); have Q7 := hide (Q6.out.below b7); have O7 := hide (O6.out.below b7); have R7 := hide (R6.out.below b7); clear b7)
    | (go_at_call 14; refine (keptP_any _ _ _ _ _ _ O7.out R7.out (by omega)).mono ?_; rintro e w8 ⟨rfl, b8⟩; have B8 := hide (B7.out.trans (b8.mono B7.out.size)); have c8 := And.intro (P7.out.below b8).cells (Q7.out.below b8).cells; have P8 := hide (P7.out.below b8); have Q8 := hide (Q7.out.below b8); clear b8)
    | (go_at_call 10; refine (pawake7_any C _).mono ?_; rintro e w9 ⟨rfl, b9⟩; have B9 := hide (B8.out.trans (b9.mono B8.out.size)); have c9 := And.intro (P8.out.below b9).cells (Q8.out.below b9).cells; clear b9))
  go_wp2_with fail
  go_ret
  exact ⟨rfl, B9.out⟩
end Go.Proofs.Yteiokkdkeneogaa
