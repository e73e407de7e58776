/-
  The walk of DemandGrows, over the contracts of the program's demand.
-/
import Derived.Test.YtjbjchakkccflaaDmBoth
namespace Go.Proofs.Ytjbjchakkccflaa
open Go.ChangeShapes Go.WideShapes Go.ChangeAt Go.RowKit
set_option linter.unusedVariables false
theorem mod2000 (a : Int) : ∃ r : Int, (0 ≤ r ∧ r < 2000) ∧ wrap64 ((IntKind.u64.wrap a).tmod 2000) = r := by
  have h : IntKind.u64.wrap a = a % 18446744073709551616 := by simp [IntKind.wrap, IntKind.bits, IntKind.signed]
  rw [h, Int.tmod_eq_emod_of_nonneg (by omega)]
  have h1 : 0 ≤ (a % 18446744073709551616) % 2000 := Int.emod_nonneg _ (by omega)
  have h2 : (a % 18446744073709551616) % 2000 < 2000 := Int.emod_lt_of_pos _ (by omega)
  generalize (a % 18446744073709551616) % 2000 = y at *
  exact ⟨y, ⟨h1, h2⟩, by unfold wrap64; omega⟩
theorem needE_one (t : Int) (e : Er) : needE t [e] = dueE t e := by
  have := needE_snoc t [] e
  rw [List.nil_append] at this
  rw [this]
  show cl (0 + dueE t e) = _
  rw [Int.zero_add, cl_in _ (dueE_lo _ _) (dueE_hi _ _)]
theorem reads_er {w : World} {a : Option Addr} {n : Nat} {xs : List Er} (h : Reads 3 erVals w a n xs) {i : Nat} (hi : i < n) : ∃ x b off, xs[i]? = some x ∧ a = some ⟨b, off, none⟩ ∧ w.cell? ⟨b, off + i * 3, none⟩ = some (.int .i64 x.per) ∧ w.cell? ⟨b, off + i * 3 + 1, none⟩ = some (.int .i64 x.dl) ∧ w.cell? ⟨b, off + i * 3 + 2, none⟩ = some (.int .i64 x.cost) := by
  obtain ⟨x, b, off, hx, rfl, hc⟩ := h.at_ hi
  exact ⟨x, b, off, hx, rfl, hc 0 _ rfl, hc 1 _ rfl, hc 2 _ rfl⟩
set_option maxHeartbeats 8000000 in
theorem walk_demandGrowsC (C : PDemand) (w : World) (a : Int) (ha : (Lit.int .i64 a).wf = true) (b : Int) (hb : (Lit.int .i64 b).wf = true) (pa : Option Addr) (n cn : Nat) (es : List Er) (hin : Came 3 erVals ErFit w pa n cn es) :
    Calls Try.prog 6 #[.int .i64 a, .int .i64 b, .slice pa n cn] w fun e w' => e = .returned (.bool true) ∧ Below w.heap.size w w' := by
  have AW := hide (fun W => dmawake_any C W)
  by_cases hg : 8 < n
  · have g1 : (8 : Int) < (n : Int) := by omega
    clear hin C
    go_enter Try.func6, Try.ntmps6
    go_wp2_with (go_at_call 7; refine (AW.out _).mono ?_; rintro e w' ⟨rfl, b⟩; have B := hide b; clear b)
    go_ret
    exact ⟨rfl, B.out⟩
  have g1 : ¬ (8 : Int) < (n : Int) := by omega
  obtain ⟨x, hx, ex⟩ := mod2000 a
  obtain ⟨y, hy, ey⟩ := mod2000 b
  obtain ⟨t, ht⟩ : ∃ t, t = x + y := ⟨_, rfl⟩
  have hn : n ≤ 8 := by omega
  have RA := hide hin.reads
  have hf : ∀ e ∈ es, ErFit w e := hin.2.2.2.2.1
  have NE := hide (show ∀ (W : World) (s : Int), Below w.heap.size w W → 0 ≤ s → s ≤ 4000 → Calls Try.prog 9 #[.int .i64 s, .slice pa n cn] W fun e w' => e = .returned (.int .i64 (needE s es)) ∧ Below W.heap.size W w' from fun W s hB h0 h1 => by
    have f1 : ∀ e ∈ es, ErFit W e := fun e he => hf e he
    have := C.need W s pa n cn es (RA.out.below hB) f1 (by omega) (wf_i (by omega) (by omega))
    exact this)
  have N0 := hide (show ∀ (W : World), Calls Try.prog 9 #[.int .i64 0, .slice none 0 0] W fun e w' => e = .returned (.int .i64 0) ∧ Below W.heap.size W w' from fun W => by
    have := C.need W 0 none 0 0 [] reads_nil (fun e he => by cases he) (by omega) (by decide)
    exact this)
  have N1 := hide (show ∀ (W : World) (B : Nat) (s per dl : Int), 0 ≤ s → s ≤ 4000 → (Lit.int .i64 per).wf = true → (Lit.int .i64 dl).wf = true → W.heap[B]? = some (.cells #[.int .i64 per, .int .i64 dl, .int .i64 1] 26 (0, 0)) → Calls Try.prog 9 #[.int .i64 s, .slice (some ⟨B, 0, none⟩) 1 1] W fun e w' => e = .returned (.int .i64 (dueE s ⟨per, dl, 1⟩)) ∧ Below W.heap.size W w' from fun W B s per dl h0 h1 h2 h3 hB => by
    have f1 : ∀ e ∈ [(⟨per, dl, 1⟩ : Er)], ErFit W e := fun e he => by
      rw [List.mem_singleton] at he; rw [he]; exact ⟨h2, h3, (by decide : (Lit.int .i64 1).wf = true)⟩
    have := C.need W s (some ⟨B, 0, none⟩) 1 1 [⟨per, dl, 1⟩] (reads_block (xs := [(⟨per, dl, 1⟩ : Er)]) erVals_len hB) f1 (by omega) (wf_i (by omega) (by omega))
    rw [needE_one] at this
    exact this)
  have WF := hide (show ∀ e ∈ es, (Lit.int .i64 e.per).wf = true ∧ (Lit.int .i64 e.dl).wf = true from fun e he => ⟨(hf e he).1, (hf e he).2.1⟩)
  have XY := hide (show (0 ≤ x ∧ x < 2000) ∧ (0 ≤ y ∧ y < 2000) ∧ 0 ≤ t ∧ t ≤ 4000 ∧ t = x + y from ⟨hx, hy, by omega, by omega, ht⟩)
  have eT : x + y = t := ht.symm
  have x0 : 0 ≤ x := hx.1
  have x1 : x ≤ 2000 := by omega
  have y0 : 0 ≤ y := hy.1
  have y1 : y ≤ 2000 := by omega
  have HN := hide hn
  clear hin C hf hx hy ht hn ha hb hg
  go_enter Try.func6, Try.ntmps6
  go_upto_region 4 with fail
  rw [ex, ey]
  clear ex ey
  have NX := hide (fun (W : World) (h : Below w.heap.size w W) => NE.out W x h XY.out.1.1 (by have := XY.out; omega))
  have NT := hide (fun (W : World) (h : Below w.heap.size w W) => NE.out W t h XY.out.2.2.1 XY.out.2.2.2.1)
  have le := needE_mono (show x ≤ t by have := XY.out; omega) es
  obtain ⟨U, hU⟩ : ∃ U, U = needE x es := ⟨_, rfl⟩
  obtain ⟨V, hV⟩ : ∃ U, U = needE t es := ⟨_, rfl⟩
  rw [← hU] at NX le
  rw [← hV] at NT le
  have le2 : ¬ V < U := by omega
  clear hU hV le NE
  go_upto_region 6 with (first
    | (go_at_call 9; refine (NX.out _ (Below.refl _ _)).mono ?_; rintro e w1 ⟨rfl, b1⟩; have B1 := hide b1; clear b1 NX)
    | (go_at_call 9; refine (NT.out _ B1.out).mono ?_; rintro e w2 ⟨rfl, b2⟩; have B2 := hide (B1.out.trans (b2.mono B1.out.size)); clear b2 NT)
    | (go_at_call 9; refine (N0.out _).mono ?_; rintro e w3 ⟨rfl, b3⟩; have B3 := hide (B2.out.trans (b3.mono B2.out.size)); clear b3 N0))
  clear le2
  go_wp2_with fail
  go_loopw [9] (fun kv wr => ∃ k : Nat, k ≤ n ∧ kv = .int .i64 (k : Int) ∧ Hid (Below w.heap.size w wr)) (fun kv _ => n - (intOf kv).toNat)
  case atStart => exact ⟨0, Nat.zero_le _, rfl, B3.out⟩
  case round =>
    obtain ⟨k, hk, rfl, hZ⟩ := hrel
    rename World => w4
    by_cases hlt : k < n
    · have k0 : (0 : Int) ≤ (k : Int) := by omega
      have k1 : (k : Int) < (n : Int) := by omega
      obtain ⟨e, pb, po, he, rfl, c0, c1, c2⟩ := reads_er (RA.out.below hZ.out) hlt
      obtain ⟨wp, wd⟩ := WF.out e (List.mem_of_getElem? he)
      obtain ⟨per, hper⟩ : ∃ p, p = e.per := ⟨_, rfl⟩
      obtain ⟨dl, hdl⟩ : ∃ p, p = e.dl := ⟨_, rfl⟩
      rw [← hper] at c0 wp
      rw [← hdl] at c1 wd
      have WP := hide (And.intro wp wd)
      clear wp wd hper hdl he
      go_upto_region 11 with fail
      obtain ⟨w5, hw5⟩ : ∃ w5, w5 = w4.alloc (.cells #[.int .i64 per, .int .i64 dl, .int .i64 1] 26) := ⟨_, rfl⟩
      obtain ⟨B, hB⟩ : ∃ B, B = w4.heap.size := ⟨_, rfl⟩
      rw [← hw5, ← hB]
      have H5 := hide (show w5.heap[B]? = some (.cells #[.int .i64 per, .int .i64 dl, .int .i64 1] 26 (0, 0)) from by rw [hw5, hB]; exact heap_alloc_new _ _)
      have B5 := hide (show Below w.heap.size w w5 from by rw [hw5]; exact hZ.out.alloc hZ.out.size _)
      have d0 : w5.cell? ⟨B, 0, none⟩ = some (.int .i64 per) := by rw [cell_of_row _ _ _ _ _ _ H5.out]; rfl
      have d1 : w5.cell? ⟨B, 1, none⟩ = some (.int .i64 dl) := by rw [cell_of_row _ _ _ _ _ _ H5.out]; rfl
      have d2 : w5.cell? ⟨B, 2, none⟩ = some (.int .i64 1) := by rw [cell_of_row _ _ _ _ _ _ H5.out]; rfl
      clear hw5 hB hZ c0 c1 c2
      by_cases p1 : per < 1
      · go_wp2_with fail
        go_roundw
        case rel => exact ⟨k + 1, by omega, by go_num, B5.out⟩
        case measure => simp [intOf]; omega
      by_cases p2 : dl < per
      · go_wp2_with fail
        go_roundw
        case rel => exact ⟨k + 1, by omega, by go_num, B5.out⟩
        case measure => simp [intOf]; omega
      obtain ⟨w6, hw6⟩ : ∃ w6, w6 = w5.alloc (.cells #[.int .i64 per, .int .i64 dl, .int .i64 1] 26) := ⟨_, rfl⟩
      obtain ⟨Y, hY⟩ : ∃ Y, Y = w5.heap.size := ⟨_, rfl⟩
      have H6 := hide (show w6.heap[Y]? = some (.cells #[.int .i64 per, .int .i64 dl, .int .i64 1] 26 (0, 0)) from by rw [hw6, hY]; exact heap_alloc_new _ _)
      have B6 := hide (show Below w.heap.size w w6 from by rw [hw6]; exact B5.out.alloc B5.out.size _)
      have two := dueE_two XY.out.1.1 (show x ≤ 2000 by omega) XY.out.2.1.1 (show y ≤ 2000 by omega) (show 1 ≤ per by omega) (show per ≤ dl by omega)
      rw [← XY.out.2.2.2.2] at two
      have NZ := hide (show ∀ (s : Int), 0 ≤ s → s ≤ 4000 → ∀ W, Below w6.heap.size w6 W → Calls Try.prog 9 #[.int .i64 s, .slice (some ⟨Y, 0, none⟩) 1 1] W fun e w' => e = .returned (.int .i64 (dueE s ⟨per, dl, 1⟩)) ∧ Below W.heap.size W w' from fun s h0 h1 W hW => N1.out W Y s per dl h0 h1 WP.out.1 WP.out.2 ((hW.block Y (lt_of_heap H6.out)).trans H6.out))
      have QX := hide (fun (W : World) (h : Below w6.heap.size w6 W) => NZ.out x XY.out.1.1 (by have := XY.out; omega) W h)
      have QY := hide (fun (W : World) (h : Below w6.heap.size w6 W) => NZ.out y XY.out.2.1.1 (by have := XY.out; omega) W h)
      have QT := hide (fun (W : World) (h : Below w6.heap.size w6 W) => NZ.out t XY.out.2.2.1 XY.out.2.2.2.1 W h)
      obtain ⟨U, hU⟩ : ∃ U, U = dueE x ⟨per, dl, 1⟩ := ⟨_, rfl⟩
      obtain ⟨V, hV⟩ : ∃ U, U = dueE y ⟨per, dl, 1⟩ := ⟨_, rfl⟩
      obtain ⟨Z, hZ⟩ : ∃ U, U = dueE t ⟨per, dl, 1⟩ := ⟨_, rfl⟩
      have U0 : 0 ≤ U := by rw [hU]; exact dueE_lo _ _
      have U1 : U ≤ 1099511627776 := by rw [hU]; exact dueE_hi _ _
      have V0 : 0 ≤ V := by rw [hV]; exact dueE_lo _ _
      have V1 : V ≤ 1099511627776 := by rw [hV]; exact dueE_hi _ _
      rw [← hU] at QX two
      rw [← hV] at QY two
      rw [← hZ] at QT two
      obtain ⟨S, hS⟩ : ∃ S, S = U + V := ⟨_, rfl⟩
      have eS : U + V = S := hS.symm
      have le : ¬ Z < S := by omega
      have HW6 := hide hw6
      have HY := hide hY
      clear hU hV hZ hS hw6 hY NZ two
      go_upto_region 13 with fail
      rw [← HY.out, ← HW6.out]
      clear HW6 HY d0 d1 d2 p1 p2
      go_wp2_with (first
        | (go_at_call 9; refine (QX.out _ (Below.refl _ _)).mono ?_; rintro e u1 ⟨rfl, b⟩; have D1 := hide b; clear b QX)
        | (go_at_call 9; refine (QY.out _ D1.out).mono ?_; rintro e u2 ⟨rfl, b⟩; have D2 := hide (D1.out.trans (b.mono D1.out.size)); clear b QY)
        | (go_at_call 9; refine (QT.out _ D2.out).mono ?_; rintro e u3 ⟨rfl, b⟩; have D3 := hide (D2.out.trans (b.mono D2.out.size)); clear b QT))
      go_roundw
      case rel => exact ⟨k + 1, by omega, by go_num, B6.out.trans (D3.out.mono B6.out.size)⟩
      case measure => simp [intOf]; omega
    · obtain rfl : k = n := by omega
      go_wp2_with (go_at_call 7; refine (AW.out _).mono ?_; rintro e w9 ⟨rfl, b9⟩; have B9 := hide (hZ.out.trans (b9.mono hZ.out.size)); clear b9)
      go_ret
      exact ⟨rfl, B9.out⟩
end Go.Proofs.Ytjbjchakkccflaa
