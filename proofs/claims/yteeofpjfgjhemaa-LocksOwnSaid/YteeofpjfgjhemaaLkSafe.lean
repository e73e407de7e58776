/-
  The law LocksSafe.
-/
import Derived.Test.YteeofpjfgjhemaaLkOwn
import Derived.Test.YteeofpjfgjhemaaLkRegB
import Derived.Deep.CutBlock
namespace Go.Proofs.Yteeofpjfgjhemaa
open Go.ChangeShapes Go.WideShapes Go.ChangeAt Go.RowKit
set_option linter.unusedVariables false
set_option linter.unusedSimpArgs false
/-- What is done: which call, who, which mutex, how many. -/
structure ActK where
  d : Int
  t : Int
  m : Int
  n : Int
def actVals (x : ActK) : List Value := [.int .i64 x.d, .int .i64 x.t, .int .i64 x.m, .int .i64 x.n]
def ActWf (_ : World) (x : ActK) : Prop := (Lit.int .i64 x.d).wf = true ∧ (Lit.int .i64 x.t).wf = true ∧ (Lit.int .i64 x.m).wf = true ∧ (Lit.int .i64 x.n).wf = true
theorem actVals_len (x : ActK) : (actVals x).length = 4 := rfl
section
variable {H : Type} {enc : TypeId × Value → H} {w : World} {base : Nat} {spare : Nat → Bool} {held : Bool}
theorem act_open (m : Nat) (cs : List Value) (x : DataW H × List MemPlace) (hl : cs.length = 4) (h : DataW.trod enc Try.prog w base spare held m 32 cs = some x) : ∃ z, cs = actVals z ∧ ActWf w z := by
  obtain ⟨a, e0, w0⟩ := field_int Try.underlying32 h 0 0 3 rfl Try.underlying3 (by kernel_rfl)
  obtain ⟨b, e1, w1⟩ := field_int Try.underlying32 h 1 1 3 rfl Try.underlying3 (by kernel_rfl)
  obtain ⟨c, e2, w2⟩ := field_int Try.underlying32 h 2 2 3 rfl Try.underlying3 (by kernel_rfl)
  obtain ⟨d, e3, w3⟩ := field_int Try.underlying32 h 3 3 3 rfl Try.underlying3 (by kernel_rfl)
  refine ⟨⟨a, b, c, d⟩, ?_, w0, w1, w2, w3⟩
  match cs, hl with
  | [v0, v1, v2, v3], _ =>
    simp at e0 e1 e2 e3
    simp [actVals, e0, e1, e2, e3]
end
theorem listIn_own {w : World} {B : Nat} {v : Value} {n : Nat} {xs : List Int} (h : w.ownsRow B 3 1 v n (xs.map (Value.int .i64))) (hl : xs.length = n) (hn : n ≤ 25) (hw : ∀ x ∈ xs, (Lit.int .i64 x).wf = true) : ∃ a c, v = .slice a n c ∧ ListIn w a n c xs := by
  rcases h.2 with ⟨rfl, rfl⟩ | ⟨g, cap, cur, rfl, _, _, h1, h2, _⟩
  · obtain rfl : xs = [] := List.eq_nil_of_length_eq_zero hl
    exact ⟨none, 0, rfl, ⟨⟨⟨rfl, fun h => absurd h (by omega)⟩, Nat.le_refl _, by unfold maxLen; omega, fun _ => rfl, fun _ h => by cases h⟩, by omega⟩⟩
  · exact ⟨_, _, rfl, ⟨⟨own_intsI h hl, h1, h2, (fun e => by cases e), hw⟩, hn⟩⟩
theorem own_lt6 {s : Lks} (o : OnlyT s 6) (m : Int) : ownL s m < 6 := by
  by_cases h : 0 ≤ ownL s m
  · obtain ⟨x, hx, _, e⟩ := own_some h
    have := o x hx
    omega
  · omega
theorem ownL_lo (s : Lks) (g : GoodK s) (m : Int) : -1 ≤ ownL s m := by
  by_cases h : 0 ≤ ownL s m
  · omega
  · unfold ownL at *
    split at h
    · rename_i x hx
      have := (g.hok x (List.mem_of_find?_eq_some hx)).1
      omega
    · omega
theorem waitL_lo (s : Lks) (g : GoodK s) (t : Int) : -1 ≤ waitL s t := by
  by_cases h : 0 ≤ waitL s t
  · omega
  · unfold waitL at *
    split at h
    · rename_i y hy
      have := (g.wt y (List.mem_of_find?_eq_some hy)).2.1
      omega
    · omega
theorem waitL_hi (s : Lks) (g : GoodK s) (t : Int) : waitL s t ≤ s.ms.length := by
  by_cases h : 0 ≤ waitL s t
  · obtain ⟨y, hy, _, e⟩ := wait_some h
    have := (g.wt y hy).2.2
    omega
  · omega
theorem waits_succ (s : Lks) (j : Nat) : waitsL s (j + 1) = waitsL s j ++ [waitL s (j : Int)] := by
  unfold waitsL
  rw [List.range_succ, List.map_append]; rfl
theorem leave_ms (s : Lks) (t : Int) : (leaveS s t).ms = s.ms := rfl
theorem own_past {w w' : World} {v u : Value} {B z n : Nat} {e : TypeId} {xs : List Value} (g : w.grownBy w' v.ownBlock) (o : w.ownsRow B e z u n xs) (h : ∀ i, v.ownBlock = some i → i < B) : w'.ownsRow B e z u n xs :=
  (Touch.of_grown (S := fun i => v.ownBlock = some i) g (fun i e => e)).own o fun i hi hs => by have h1 := (o.lt i hi).1; have h2 := h i hs; omega
theorem h_len {s : Lks} (g : GoodK s) : s.h.length ≤ s.ms.length := by
  have h2 := cntM_all g
  have h3 : ∀ k, cntM s k ≤ k := by
    intro k
    induction k with
    | zero => rw [cntM_zero g]; exact Nat.le_refl _
    | succ k ih => rw [cntM_succ g]; split <;> omega
  have := h3 s.ms.length
  omega
section
variable {PT : World → (Nat → Prop) → Nat → List Mu → Prop} {PK : World → (Nat → Prop) → (Nat → Prop) → Nat → Nat → Lks → Prop}
set_option maxRecDepth 10000 in
set_option maxHeartbeats 40000000 in
theorem walk_locksSafeC (CT : PTable PT) (C : PLocks PT PK) (GA : PAcyc) (w : World) (a : Option Addr) (n c : Nat) (ms : List Mu) (hin : Came 2 muVals MuWf w a n c ms) (b : Option Addr) (p d : Nat) (xs : List ActK) (hin2 : Came 4 actVals ActWf w b p d xs) :
    Calls Try.prog 3 #[.slice a n c, .slice b p d] w fun e w' => e = .returned (.bool true) ∧ Below w.heap.size w w' := by
  have hrd := hin.reads
  have hrd2 := hin2.reads
  obtain ⟨hml, hnc, hcm, hnil, hfit, _⟩ := hin
  obtain ⟨hxl, hpd, hdm, hnil2, hfit2, _⟩ := hin2
  have n63 : (n : Int) ≤ 9223372036854775807 := by unfold maxLen at hcm; omega
  have p63 : (p : Int) ≤ 9223372036854775807 := by unfold maxLen at hdm; omega
  by_cases h5 : (100 : Int) < (p : Int)
  · go_enter Try.func3, Try.ntmps3
    go_wp2_with (go_at_call 8; refine (lkawake_any CT C _).mono ?_; rintro e w2 ⟨rfl, b2⟩)
    go_ret
    exact ⟨rfl, b2⟩
  by_cases h6 : (6 : Int) < (n : Int)
  · go_enter Try.func3, Try.ntmps3
    go_wp2_with (go_at_call 8; refine (lkawake_any CT C _).mono ?_; rintro e w2 ⟨rfl, b2⟩)
    go_ret
    exact ⟨rfl, b2⟩
  by_cases hg : goodMu ms = true
  case neg =>
    have NB := hide (CT.newBad w a n c ms hrd hfit hnc hcm hnil (by omega) (by simpa using hg))
    clear hrd hrd2 hml hnc hcm hnil hfit hxl hpd hdm hnil2 hfit2 hg
    go_enter Try.func3, Try.ntmps3
    go_wp2_with (first
      | (go_at_call 9; refine NB.out.mono ?_; rintro e w1 ⟨rfl, b1⟩; have B1 := hide b1; clear b1)
      | (go_at_call 8; refine (lkawake_any CT C _).mono ?_; rintro e w2 ⟨rfl, b2⟩; have B2 := hide (B1.out.trans (b2.mono B1.out.size)); clear b2))
    go_ret
    exact ⟨rfl, B2.out⟩
  case pos =>
    have NG := hide (CT.newGood w a n c ms hrd hfit hnc hcm hnil (by omega) hg)
    have HX := hide hrd2
    have XW := hide (fun (k : Nat) (x : ActK) (h : xs[k]? = some x) => hfit2 x (List.mem_of_getElem? h))
    have ML := hide hml
    have N6 := hide (show ms.length ≤ 6 from by omega)
    clear hrd hrd2 hnc hcm hnil hfit hxl hpd hdm hnil2 hfit2 hg hml
    go_enter Try.func3, Try.ntmps3
    go_wp2_with (first
      | (go_at_call 9; refine NG.out.mono ?_; rintro e w1 ⟨T, Q, rfl, t1, b1, q1⟩; have T1 := hide t1; have B1 := hide b1; have Q1 := hide q1; clear t1 b1 q1)
      | (go_at_call 10; refine (lin_new C T1.out B1.out Q1.out).mono ?_; rintro e w2 ⟨S, U, rfl, h2⟩; have H2 := hide h2; clear h2))
    go_loopw [8] (fun iv wr => ∃ k : Nat, k ≤ p ∧ iv = .int .i64 k ∧ Hid (∃ U s, Lin PK w wr U Q T S s ∧ s.ms = ms ∧ OnlyT s 6)) (fun iv _ => p - (intOf iv).toNat)
    case atStart => exact ⟨0, Nat.zero_le _, rfl, U, _, H2.out, rfl, fun x hx => by cases hx⟩
    case round =>
      obtain ⟨k, hk, rfl, hZ⟩ := hrel
      obtain ⟨V, s, z3, z4, z5⟩ := hZ.out
      have Z3 := hide z3
      have Z4 := hide z4
      have Z5 := hide z5
      clear hZ z3 z4 z5 NG T1 B1 Q1 H2 n63 h6
      by_cases hlt : k < p
      · have k0 : (0 : Int) ≤ (k : Int) := by omega
        have k1 : (k : Int) < (p : Int) := by omega
        obtain ⟨x, gb, go, hx, rfl, hc⟩ := HX.out.at_ hlt
        obtain ⟨f0, f1, f2, f3⟩ := XW.out k x hx
        have hh := fun j u hu => (Z3.out.bel.cell (p := ⟨gb, go + k * 4 + j, none⟩) (lt_of_cell? (hc j u hu))).trans (hc j u hu)
        have c0 : wr.cell? ⟨gb, go + k * 4, none⟩ = some (.int .i64 x.d) := hh 0 _ rfl
        have c1 : wr.cell? ⟨gb, go + k * 4 + 1, none⟩ = some (.int .i64 x.t) := hh 1 _ rfl
        have c2 : wr.cell? ⟨gb, go + k * 4 + 2, none⟩ = some (.int .i64 x.m) := hh 2 _ rfl
        have c3 : wr.cell? ⟨gb, go + k * 4 + 3, none⟩ = some (.int .i64 x.n) := hh 3 _ rfl
        have FM := hide f2
        clear hx hc hh f0 f1 f2 f3
        generalize x.d = xd at *
        generalize x.t = xt at *
        generalize x.m = xm at *
        generalize x.n = xn at *
        go_upto_block 2 with (go_at_call 11; refine (low_int _ 6 _ (by omega) (by omega)).mono ?_; rintro e w' ⟨⟨r, hr, rfl⟩, rfl⟩)
        clear c0 c1 c2 c3
        obtain ⟨W1, hW1⟩ : ∃ W1, W1 = wr.alloc (.cells #[.int .i64 xd, .int .i64 xt, .int .i64 xm, .int .i64 xn] 32) := ⟨_, rfl⟩
        rw [← hW1]
        have A1 := hide (Z3.out.below C (show Below wr.heap.size wr W1 from by rw [hW1]; exact (Below.refl _ _).alloc (Nat.le_refl _) _))
        have x2 : W1.cell? ⟨wr.heap.size, 2, none⟩ = some (.int .i64 xm) := by rw [hW1]; exact (cell_of_row _ _ _ _ _ _ (heap_alloc_new wr _)).trans rfl
        clear hW1
        generalize wr.heap.size = X at *
        go_cut [10] (fun v wx => v = .int .i64 (r : Int) ∧ Hid (∃ U s, Lin PK w wx U Q T S s ∧ s.ms = ms ∧ OnlyT s 6))
        case first =>
          by_cases d0 : xd = 0
          · subst d0
            go_wp2_with (go_at_call 12; refine (A1.out.lock C (t := (r : Int)) (m := xm) (wf_small (by omega) (by omega)) FM.out (by omega)).mono ?_; rintro e w3 ⟨U3, rfl, h3, _, _⟩; have H3 := hide h3; clear h3)
            go_meet
            case rel => exact ⟨rfl, U3, _, H3.out, by rw [lock_ms]; exact Z4.out, only_lock Z5.out hr _⟩
          by_cases d1 : xd = 1
          · subst d1
            go_wp2_with (go_at_call 13; refine (A1.out.unlock C (t := (r : Int)) (m := xm) (wf_small (by omega) (by omega)) FM.out).mono ?_; rintro e w3 ⟨v3, R3, U3, rfl, _, h3, _, _⟩; have H3 := hide h3; clear h3)
            go_meet
            case rel => exact ⟨rfl, U3, _, H3.out, by rw [unlock_ms]; exact Z4.out, only_unlock Z5.out _ _⟩
          by_cases d2 : xd = 2
          · subst d2
            clear x2
            go_wp2_with (go_at_call 14; refine (A1.out.leave C (t := (r : Int)) (wf_small (by omega) (by omega))).mono ?_; rintro e w3 ⟨v3, R3, U3, rfl, _, h3, _, _⟩; have H3 := hide h3; clear h3)
            go_meet
            case rel => exact ⟨rfl, U3, _, H3.out, by rw [leave_ms]; exact Z4.out, only_leave Z5.out _⟩
          · have e0 : (xd == 0) = false := by simpa using d0
            have e1 : (xd == 1) = false := by simpa using d1
            have e2 : (xd == 2) = false := by simpa using d2
            go_wp2_with fail
            go_meet
            case rel => exact ⟨rfl, V, s, A1.out, Z4.out, Z5.out⟩
        case rest =>
          obtain ⟨rfl, hW⟩ := hcut
          clear Z3 Z4 Z5 A1 x2 FM V s
          obtain ⟨V, s, y1, y2, y3⟩ := hW.out
          have Y1 := hide y1
          have Y2 := hide y2
          have Y3 := hide y3
          have G := hide (C.good y1.pk)
          have PTY := hide (C.tab y1.pk)
          clear hW y1 y2 y3
          have LN := hide (show ∀ W, Below wc.heap.size wc W → Lin PK w W V Q T S s from fun W bW => Y1.out.below C bW)
          have G6 := hide (show s.h.length ≤ 6 from Nat.le_trans (h_len G.out) (by rw [Y2.out]; exact N6.out))
          have HLD := hide (fun t => Nat.le_trans (List.length_filter_le _ _) G6.out : ∀ t, (holds s t).length ≤ 6)
          have CT6 := hide (fun j => Nat.le_trans (List.length_filter_le _ _) G6.out : ∀ j, cntT s j ≤ 6)
          obtain ⟨i0, hi0, hz0, hz1, hz2⟩ := info_parts int_info
          have HZ := hide hz2
          clear hz2
          go_wp2_with fail
          go_loopw [11, 12, 13] (fun v mv jv wr2 => ∃ j : Nat, j ≤ 6 ∧ jv = .int .i64 j ∧ mv = .int .i64 (cntT s j : Nat) ∧ Hid (Below wc.heap.size wc wr2 ∧ wr2.ownsRow wc.heap.size 3 1 v j ((waitsL s j).map (Value.int .i64)))) (fun _ _ jv _ => 6 - (intOf jv).toNat)
          case atStart => exact ⟨0, by omega, rfl, by rw [cntT_zero G.out]; rfl, Below.refl _ _, World.ownsRow_nil _ _ _ _⟩
          case round =>
            obtain ⟨j, hj, rfl, rfl, hZ⟩ := hrel
            have B2 := hide hZ.out.1
            have O2 := hide hZ.out.2
            clear hZ
            have m0 : (0 : Int) ≤ (cntT s j : Int) := by omega
            have m1 : (cntT s j : Int) ≤ 6 := by have := CT6.out j; omega
            by_cases hj6 : j < 6
            · have j0 : (0 : Int) ≤ (j : Int) := by omega
              have j1 : (j : Int) < 6 := by omega
              obtain ⟨q, hq⟩ : ∃ q, q = (holds s (j : Int)).length := ⟨_, rfl⟩
              obtain ⟨wv, hwv⟩ : ∃ wv, wv = waitL s (j : Int) := ⟨_, rfl⟩
              have q6 : q ≤ 6 := by rw [hq]; exact HLD.out _
              have w1 : -1 ≤ wv := by rw [hwv]; exact waitL_lo s G.out _
              have s6 : s.ms.length ≤ 6 := (congrArg List.length Y2.out) ▸ N6.out
              have w2 : wv ≤ 6 := by have h1 := waitL_hi s G.out (j : Int); rw [hwv]; omega
              have wj : (Lit.int .i64 (j : Int)).wf = true := wf_small (by omega) (by omega)
              have kh := C.held (LN.out _ B2.out).pk (t := (j : Int)) wj
              rw [← hq] at kh
              have KH := hide kh
              have kw : ∀ W, Lin PK w W V Q T S s → Calls Try.prog 16 #[.pointer (some ⟨S, 0, none⟩), .int .i64 (j : Int)] W fun e w' => e = .returned (.int .i64 wv) ∧ Below W.heap.size W w' := fun W h => by rw [hwv]; exact C.waits h.pk wj
              have KW := hide kw
              clear kh kw
              have HQ := hide hq
              have HV := hide hwv
              clear hq hwv
              go_upto_region 30 with (first
                | (go_at_call 15; refine KH.out.mono ?_; rintro e w3 ⟨v3, rfl, o3, b3⟩; obtain ⟨ha, hc, rfl⟩ := own_sliceI o3
                   have B3 := hide (B2.out.trans (b3.mono B2.out.size))
                   have P3 := hide (own_below O2.out b3)
                   have O3 := hide o3
                   clear b3 o3)
                | (go_at_call 16; refine (KW.out _ (LN.out _ B3.out)).mono ?_; rintro e w4 ⟨rfl, b4⟩
                   have B4 := hide (B3.out.trans (b4.mono B3.out.size))
                   have P4 := hide (own_below P3.out b4)
                   have O4 := hide (own_below O3.out b4)
                   clear b4)
                | (at_builtin; refine wpList_append_src rfl (.tmp 88) (.tmp 90) _ rfl wc.heap.size 3 i0 _ 8 Try.underlying36 hi0 hz0 hz1 HZ.out rfl _ _ _ rfl (P4.out.alloc _) .i64 _ 1 _ [wv] rfl (ints_cell1 _ _ _ _ _ rfl) (fun h => by cases h) (by unfold maxLen; omega) (by omega) (by have := B4.out.size; simp; omega) ?_; intro v9 w9 o9 g9 t9
                   obtain ⟨a9, c9, e9⟩ := own_sliceI o9; subst e9
                   have P9 := hide (show w9.ownsRow wc.heap.size 3 1 (.slice a9 (j + 1) c9) (j + 1) ((waitsL s (j + 1)).map (Value.int .i64)) from by rw [waits_succ, ← HV.out, List.map_append]; exact o9)
                   have B9 := hide ((B4.out.alloc B4.out.size _).grown g9 (by have := B4.out.size; simp; omega) (fun i hi => (P4.out.lt i hi).1))
                   have OH := hide (own_past g9 (O4.out.alloc _) (fun g hs => (O2.out.lt g hs).2))
                   clear o9 g9 t9))
              go_wp2_with fail
              obtain ⟨ha2, hc2, e2, hr, _⟩ := own_reads hvVals_len (by omega) OH.out
              injection e2 with e21 _ e22
              subst e21 e22
              have HR := hide hr
              clear hr
              go_loopw [16] (fun nv wr3 => ∃ i3 : Nat, i3 ≤ q ∧ nv = .int .i64 i3 ∧ Hid (Below w9.heap.size w9 wr3)) (fun nv _ => q - (intOf nv).toNat)
              case atStart => exact ⟨0, Nat.zero_le _, rfl, Below.refl _ _⟩
              case round =>
                obtain ⟨i3, hi3, rfl, hZ⟩ := hrel
                rename World => wr3
                have L3 := hide hZ.out
                clear hZ
                have M3 := hide (B9.out.trans (L3.out.mono B9.out.size))
                by_cases h3 : i3 < q
                · have k0 : (0 : Int) ≤ (i3 : Int) := by omega
                  have k1 : (i3 : Int) < (q : Int) := by omega
                  obtain ⟨y, hb, ho, hy, rfl, hc9⟩ := HR.out.at_ h3
                  obtain ⟨z, hz, ez⟩ : ∃ z, (holds s (j : Int))[i3]? = some z ∧ y = ⟨z.m, z.k⟩ := by
                    unfold hvsL at hy
                    rw [List.getElem?_map] at hy
                    cases hh : (holds s (j : Int))[i3]? with
                    | none => rw [hh] at hy; cases hy
                    | some z => rw [hh] at hy; exact ⟨z, rfl, (by injection hy with hy; exact hy.symm)⟩
                  have zm := hold_mem hz
                  have wz : (Lit.int .i64 z.m).wf = true := by have := (G.out.hok z zm.1).2; exact wf_small (by omega) (by omega)
                  have eo : ownL s z.m = (j : Int) := by rw [own_is G.out zm.1, zm.2]
                  have d0 : w9.cell? ⟨hb, ho + i3 * 2, none⟩ = some (.int .i64 z.m) := by
                    have := hc9 0 _ rfl
                    rw [ez] at this
                    exact this
                  have OW := hide (show ∀ W', Below wr3.heap.size wr3 W' → Calls Try.prog 17 #[.pointer (some ⟨S, 0, none⟩), .int .i64 z.m] W' fun e w' => e = .returned (.int .i64 (j : Int)) ∧ Below W'.heap.size W' w' from fun W' bW => by
                    have := C.owner (LN.out W' (M3.out.trans (bW.mono M3.out.size))).pk (m := z.m) wz
                    rw [eo] at this
                    exact this)
                  have RK := hide (show ∀ (m : Int), (Lit.int .i64 m).wf = true → ∀ W', Below wr3.heap.size wr3 W' → Calls Try.prog 18 #[.pointer (some ⟨T, 0, none⟩), .int .i64 m] W' fun e w' => e = .returned (.int .i64 (rankMu s.ms m)) ∧ Below W'.heap.size W' w' from fun m wm W' bW => CT.rank (C.tab (LN.out W' (M3.out.trans (bW.mono M3.out.size))).pk) wm)
                  have R1 := hide (RK.out z.m wz)
                  clear hc9 hy
                  go_upto_region 33 with fail
                  by_cases p1 : 0 < i3
                  · obtain ⟨z0, hz0⟩ : ∃ z0, (holds s (j : Int))[i3 - 1]? = some z0 := ⟨_, List.getElem?_eq_getElem (by rw [← HQ.out]; omega)⟩
                    have zm0 := hold_mem hz0
                    have wz0 : (Lit.int .i64 z0.m).wf = true := by have := (G.out.hok z0 zm0.1).2; exact wf_small (by omega) (by omega)
                    have rs := hold_rise G.out hz0 (show (holds s (j : Int))[i3 - 1 + 1]? = some z by rw [show i3 - 1 + 1 = i3 by omega]; exact hz)
                    have d1 : w9.cell? ⟨hb, ho + (i3 - 1) * 2, none⟩ = some (.int .i64 z0.m) := by
                      obtain ⟨y1, hb1, ho1, hy1, e1, hc1⟩ := HR.out.at_ (show i3 - 1 < q by omega)
                      injection e1 with e1
                      injection e1 with e11 e12
                      subst e11 e12
                      have := hc1 0 _ rfl
                      unfold hvsL at hy1
                      rw [List.getElem?_map, hz0] at hy1
                      injection hy1 with hy1
                      rw [← hy1] at this
                      exact this
                    have R0 := hide (RK.out z0.m wz0)
                    have CC := hide (show ∀ W', Below wr3.heap.size wr3 W' → W'.cell? ⟨hb, ho + i3 * 2, none⟩ = some (.int .i64 z.m) ∧ W'.cell? ⟨hb, ho + (i3 - 1) * 2, none⟩ = some (.int .i64 z0.m) from fun W' bW => by
                      have bb := L3.out.trans (bW.mono L3.out.size)
                      exact ⟨(bb.cell (lt_of_cell? d0)).trans d0, (bb.cell (lt_of_cell? d1)).trans d1⟩)
                    have p2 : (0 : Int) < (i3 : Int) := by omega
                    have p3 : (1 : Int) ≤ (i3 : Int) := by omega
                    have p4 : (i3 : Int) - 1 < (q : Int) := by omega
                    have p5 : ((i3 : Int) - 1).toNat = i3 - 1 := by omega
                    have p6 : IntKind.i64.wrap ((i3 : Int) - 1) = (i3 : Int) - 1 := IntWalk.i64_in _ (by omega)
                    have p7 : ¬ rankMu s.ms z.m ≤ rankMu s.ms z0.m := by omega
                    have p8 : decide (rankMu s.ms z.m ≤ rankMu s.ms z0.m) = false := decide_eq_false p7
                    by_cases v1 : (0 : Int) ≤ wv
                    · have hw := hold_below G.out hz (by rw [← HV.out]; exact v1)
                      rw [← HV.out] at hw
                      have RW := hide (RK.out wv (wf_small (by omega) (by omega)))
                      have v2 : ¬ rankMu s.ms wv ≤ rankMu s.ms z.m := by omega
                      have v3 : decide (rankMu s.ms wv ≤ rankMu s.ms z.m) = false := decide_eq_false v2
                      refine lkreg_pw k0 k1 p1 p2 p3 p4 p5 p6 p7 p8 v1 v2 v3 CC OW R1 R0 RW ?_
                      show ∀ (a : Act) (w7 : World), _
                      intro a7 w7 b7 u102 u103 u104 u105 u106 u107 u108 u109 u110 u111 u112 u113 u114 u115 u116 u117 u118 u119 u120 u121 u122 u123 u124 u125 u126 u127 u128 u129 u130 u131 u132 u133 u134 u135 u136 u137 u138 u139 u140 u141 u142 u143 u144 u145 u146 u147 u148 ea
                      subst ea
                      have B7 := hide (L3.out.trans (b7.mono L3.out.size))
                      clear b7
                      go_wp2_with fail
                      go_roundw
                      case rel => exact ⟨i3 + 1, by omega, by go_num, B7.out⟩
                      case measure => simp [intOf]; omega
                    · have v3 : decide ((0 : Int) ≤ wv) = false := decide_eq_false v1
                      refine lkreg_pn (rw := 0) k0 k1 p1 p2 p3 p4 p5 p6 p7 p8 v1 v3 CC OW R1 R0 ?_
                      show ∀ (a : Act) (w7 : World), _
                      intro a7 w7 b7 u102 u103 u104 u105 u106 u107 u108 u109 u110 u111 u112 u113 u114 u115 u116 u117 u118 u119 u120 u121 u122 u123 u124 u125 u126 u127 u128 u129 u130 u131 u132 u133 u134 u135 u136 u137 u138 u139 u140 u141 u142 u143 u144 u145 u146 u147 u148 ea
                      subst ea
                      have B7 := hide (L3.out.trans (b7.mono L3.out.size))
                      clear b7
                      go_wp2_with fail
                      go_roundw
                      case rel => exact ⟨i3 + 1, by omega, by go_num, B7.out⟩
                      case measure => simp [intOf]; omega
                  · have CC := hide (show ∀ W', Below wr3.heap.size wr3 W' → W'.cell? ⟨hb, ho + i3 * 2, none⟩ = some (.int .i64 z.m) from fun W' bW => by
                      have bb := L3.out.trans (bW.mono L3.out.size)
                      exact (bb.cell (lt_of_cell? d0)).trans d0)
                    have p2 : ¬ (0 : Int) < (i3 : Int) := by omega
                    by_cases v1 : (0 : Int) ≤ wv
                    · have hw := hold_below G.out hz (by rw [← HV.out]; exact v1)
                      rw [← HV.out] at hw
                      have RW := hide (RK.out wv (wf_small (by omega) (by omega)))
                      have v2 : ¬ rankMu s.ms wv ≤ rankMu s.ms z.m := by omega
                      have v3 : decide (rankMu s.ms wv ≤ rankMu s.ms z.m) = false := decide_eq_false v2
                      refine lkreg_zw (m0 := 0) (r0 := 0) k0 k1 p1 p2 v1 v2 v3 CC OW R1 RW ?_
                      show ∀ (a : Act) (w7 : World), _
                      intro a7 w7 b7 u102 u103 u104 u105 u106 u107 u108 u109 u110 u111 u112 u113 u114 u115 u116 u117 u118 u119 u120 u121 u122 u123 u124 u125 u126 u127 u128 u129 u130 u131 u132 u133 u134 u135 u136 u137 u138 u139 u140 u141 u142 u143 u144 u145 u146 u147 u148 ea
                      subst ea
                      have B7 := hide (L3.out.trans (b7.mono L3.out.size))
                      clear b7
                      go_wp2_with fail
                      go_roundw
                      case rel => exact ⟨i3 + 1, by omega, by go_num, B7.out⟩
                      case measure => simp [intOf]; omega
                    · have v3 : decide ((0 : Int) ≤ wv) = false := decide_eq_false v1
                      refine lkreg_zn (m0 := 0) (r0 := 0) (r := 0) (rw := 0) k0 k1 p1 p2 v1 v3 CC OW ?_
                      show ∀ (a : Act) (w7 : World), _
                      intro a7 w7 b7 u102 u103 u104 u105 u106 u107 u108 u109 u110 u111 u112 u113 u114 u115 u116 u117 u118 u119 u120 u121 u122 u123 u124 u125 u126 u127 u128 u129 u130 u131 u132 u133 u134 u135 u136 u137 u138 u139 u140 u141 u142 u143 u144 u145 u146 u147 u148 ea
                      subst ea
                      have B7 := hide (L3.out.trans (b7.mono L3.out.size))
                      clear b7
                      go_wp2_with fail
                      go_roundw
                      case rel => exact ⟨i3 + 1, by omega, by go_num, B7.out⟩
                      case measure => simp [intOf]; omega
                · obtain rfl : i3 = q := by omega
                  have CS := hide (show cntT s (j + 1) = cntT s j + i3 from by rw [cntT_succ, ← HQ.out])
                  have k2 : ¬ (i3 : Int) < (i3 : Int) := by omega
                  by_cases v1 : (0 : Int) ≤ wv
                  · have ow := wait_owned G.out (t := (j : Int)) (by rw [← HV.out]; exact v1)
                    rw [← HV.out] at ow
                    obtain ⟨o, ho⟩ : ∃ o, o = ownL s wv := ⟨_, rfl⟩
                    rw [← ho] at ow
                    obtain ⟨o0, o1⟩ := ow
                    have o2 : (o == (j : Int)) = false := by simpa using o1
                    have o3 : ¬ o < 0 := by omega
                    have ko : ∀ W, Lin PK w W V Q T S s → Calls Try.prog 17 #[.pointer (some ⟨S, 0, none⟩), .int .i64 wv] W fun e w' => e = .returned (.int .i64 o) ∧ Below W.heap.size W w' := fun W h => by rw [ho]; exact C.owner h.pk (wf_small (by omega) (by omega))
                    have KO := hide ko
                    clear ko ho o1
                    go_wp2_with (first
                      | (go_at_call 17; have t4 := L4.out; clear t4; refine (KO.out _ (LN.out _ M4.out)).mono ?_; rintro e w5 ⟨rfl, b5⟩; have L5 := hide (L4.out.trans (b5.mono L4.out.size)); have M5 := hide (M4.out.trans (b5.mono M4.out.size)); clear b5)
                      | (go_at_call 17; refine (KO.out _ (LN.out _ M3.out)).mono ?_; rintro e w4 ⟨rfl, b4⟩; have L4 := hide (L3.out.trans (b4.mono L3.out.size)); have M4 := hide (M3.out.trans (b4.mono M3.out.size)); clear b4))
                    go_roundw
                    case rel => exact ⟨j + 1, by omega, by go_num, by rw [CS.out]; exact ret_val (by omega), M5.out, own_below P9.out L5.out⟩
                    case measure => simp [intOf]; omega
                  · have v3 : decide ((0 : Int) ≤ wv) = false := decide_eq_false v1
                    go_wp2_with fail
                    go_roundw
                    case rel => exact ⟨j + 1, by omega, by go_num, by rw [CS.out]; exact ret_val (by omega), M3.out, own_below P9.out L3.out⟩
                    case measure => simp [intOf]; omega
            · obtain rfl : j = 6 := by omega
              rename World => wr2
              have ka := cntT_all Y3.out
              rw [ka]
              obtain ⟨N, hN⟩ : ∃ N, N = s.h.length := ⟨_, rfl⟩
              obtain ⟨L, hL⟩ : ∃ L, L = s.ms.length := ⟨_, rfl⟩
              rw [← hN]
              have L6 : L ≤ 6 := by rw [hL, Y2.out]; exact N6.out
              have N7 : N ≤ 6 := by rw [hN]; exact G6.out
              have HN := hide hN
              have HL2 := hide hL
              have kh := C.owners (LN.out _ B2.out).pk
              rw [← hL] at kh
              have KH := hide kh
              have j6 : ¬ ((6 : Nat) : Int) < 6 := by omega
              clear kh ka hN hL m0 m1 hj hj6
              go_upto_region 38 with (first
                | (go_at_call 19; refine KH.out.mono ?_; rintro e w3 ⟨v3, rfl, o3, b3⟩
                   obtain ⟨oa, oc, rfl, lo⟩ := listIn_own o3 (by rw [owners_len, ← HL2.out]) (by omega) (fun x hx => by
                     obtain ⟨i, _, rfl⟩ := List.mem_map.1 hx
                     exact wf_small (by have := ownL_lo s G.out (i : Int); omega) (by have := own_lt6 Y3.out (i : Int); omega))
                   have B3 := hide (B2.out.trans (b3.mono B2.out.size))
                   have P3 := hide (own_below O2.out b3)
                   have LO := hide lo
                   clear b3 o3 lo))
              obtain ⟨wa, wcap, ew, lw⟩ := listIn_own P3.out (waits_len s 6) (by omega) (fun x hx => by
                obtain ⟨i, _, rfl⟩ := List.mem_map.1 hx
                exact wf_small (by have := waitL_lo s G.out (i : Int); omega) (by have h1 := waitL_hi s G.out (i : Int); have := HL2.out; omega))
              have EW := hide ew
              have LW := hide lw
              clear ew lw
              go_wp2_with fail
              go_loopw [12, 18] (fun mv iv wr3 => ∃ (i : Nat) (t : Nat), i ≤ L ∧ iv = .int .i64 i ∧ mv = .int .i64 t ∧ Hid (Below w3.heap.size w3 wr3 ∧ t + cntM s i = N)) (fun _ iv _ => L - (intOf iv).toNat)
              case atStart => exact ⟨0, N, Nat.zero_le _, rfl, rfl, Below.refl _ _, by rw [cntM_zero G.out]; rfl⟩
              case round =>
                obtain ⟨i, t, hi, rfl, rfl, hZ⟩ := hrel
                rename World => wr3
                have L3 := hide hZ.out.1
                have HT := hide hZ.out.2
                have t6 : t ≤ 6 := by have := HT.out; omega
                have t0 : (0 : Int) ≤ (t : Int) := by omega
                clear hZ
                by_cases hiL : i < L
                · have k0 : (0 : Int) ≤ (i : Int) := by omega
                  have k1 : (i : Int) < (L : Int) := by omega
                  obtain ⟨ob, oo, rfl, hc⟩ := LO.out.ints.2 (by omega)
                  have c0 := (L3.out.cell (lt_of_cell? (hc i hiL))).trans (hc i hiL)
                  rw [owners_at (by rw [← HL2.out]; exact hiL)] at c0
                  obtain ⟨o, ho⟩ : ∃ o, o = ownL s (i : Int) := ⟨_, rfl⟩
                  rw [← ho] at c0
                  have MS := hide (cntM_succ G.out i)
                  rw [← ho] at MS
                  have ML2 := hide (show cntM s (i + 1) ≤ N from by rw [HN.out, ← cntM_all G.out]; exact cntM_mono s (by rw [← HL2.out]; omega))
                  clear hc ho
                  by_cases oz : (0 : Int) ≤ o
                  · have MS2 := hide (show cntM s (i + 1) = cntM s i + 1 from by rw [MS.out, if_pos oz])
                    have t1 : 1 ≤ t := by have h1 := HT.out; have h2 := MS2.out; have h3 := ML2.out; omega
                    go_wp2_with fail
                    go_roundw
                    case rel => exact ⟨i + 1, t - 1, by omega, by go_num, ret_val (by omega), L3.out, by have h1 := HT.out; have h2 := MS2.out; omega⟩
                    case measure => simp [intOf]; omega
                  · have MS2 := hide (show cntM s (i + 1) = cntM s i from by rw [MS.out, if_neg oz]; rfl)
                    go_wp2_with fail
                    go_roundw
                    case rel => exact ⟨i + 1, t, by omega, by go_num, rfl, L3.out, by have h1 := HT.out; have h2 := MS2.out; omega⟩
                    case measure => simp [intOf]; omega
                · obtain rfl : i = L := by omega
                  have h0 : t = 0 := by
                    have h1 := HT.out
                    have h2 : cntM s i = N := by rw [HL2.out, HN.out]; exact cntM_all G.out
                    omega
                  subst h0
                  have k2 : ¬ (i : Int) < (i : Int) := by omega
                  have e0 : (((0 : Nat) : Int) != 0) = false := by decide
                  have ac := acy_locks G.out 6
                  have kc := GA.acyc wr3 wa 6 wcap (waitsL s 6) oa i oc (ownersL s) 6 (LW.out.below L3.out) (LO.out.below L3.out) (by decide) (by omega)
                  rw [show acyZ (waitsL s 6) (ownersL s) 6 = true from ac] at kc
                  have KC := hide kc
                  clear ac kc
                  rw [EW.out]
                  go_wp2_with (go_at_call 20; refine KC.out.mono ?_; rintro e w5 ⟨rfl, b5⟩; have M5 := hide (B3.out.trans ((L3.out.trans (b5.mono L3.out.size)).mono B3.out.size)); clear b5)
                  go_roundw
                  case rel => exact ⟨k + 1, by omega, by go_num, V, s, LN.out _ M5.out, Y2.out, Y3.out⟩
                  case measure => simp [intOf]; omega
      · obtain rfl : k = p := by omega
        go_wp2_with (first
          | (go_at_call 8; refine (lkawake_any CT C _).mono ?_; rintro e w10 ⟨rfl, b10⟩; have B10 := hide (Z3.out.bel.trans (b10.mono Z3.out.bel.size)); clear b10))
        go_ret
        exact ⟨rfl, B10.out⟩
end
end Go.Proofs.Yteeofpjfgjhemaa
