/-
  The program's iterators over pieces: strings.SplitSeq at a slash, slices.Values of texts.
-/
import Derived.Test.YtjcfdpicdmidaaaDoorPyName
import Derived.Test.YtjcfdpicdmidaaaDoorSeqBy
namespace Go.Proofs.YtjcfdpicdmidaaaDoor
open Go.ChangeShapes Go.WideShapes Go.ChangeAt Go.RowKit Go.Shelf
set_option linter.unusedVariables false
set_option linter.unusedSimpArgs false
attribute [local go_sem] Oper.semAt_some
theorem index_any (w : World) (s : Txt) : Calls Tryd.prog 35 #[.string (bt s), .string (bt [47])] w fun e w' => e = .returned (.int .i64 (Lib.indexByte s 47)) ∧ w = w' := by
  have := Any.strings_Index_one Tryd.idx (bt s) 47 w
  rw [bt_toList] at this
  exact this.mono (by rintro e w' ⟨h1, h2⟩; exact ⟨h1, h2.symm⟩)
theorem cuts_none {r : Txt} (h : ∀ k : Nat, r[k]? ≠ some 47) : cutsA [] r = [r] := by
  rw [cutsA_piece [] r (fun c hc e => by obtain ⟨k, hk⟩ := List.mem_iff_getElem?.1 hc; exact h k (by rw [hk, e]))]; rfl
theorem cuts_some {r : Txt} {o : Nat} (ho : r[o]? = some 47) (h : ∀ k : Nat, k < o → r[k]? ≠ some 47) : cutsA [] r = r.take o :: cutsA [] (r.drop (o + 1)) := by
  have hi : o < r.length := (List.getElem?_eq_some_iff.1 ho).1
  have e : r = r.take o ++ 47 :: r.drop (o + 1) := by
    have := (List.take_append_drop o r).symm
    rw [List.drop_eq_getElem_cons hi, (List.getElem?_eq_some_iff.1 ho).2] at this
    exact this
  conv => lhs; rw [e]
  rw [cutsA_slash [] _ _ (fun c hc e => by
    obtain ⟨k, hk⟩ := List.mem_iff_getElem?.1 hc
    have hk2 : k < o := by have := (List.getElem?_eq_some_iff.1 hk).1; rw [List.length_take] at this; omega
    rw [List.getElem?_take_of_lt hk2] at hk
    exact h k hk2 (by rw [hk, e]))]
  rfl
/-- How long the text in a box is. -/
def boxN (W : World) (B : Nat) : Nat := match W.cell? ⟨B, 0, none⟩ with | some (.string b) => b.size | _ => 0
theorem boxN_of {W : World} {B : Nat} {t : TypeId} {r : Txt} (h : Boxed W B t (.string (bt r))) : boxN W B = r.length := by unfold boxN; rw [h.cell]; exact bt_size r
theorem run_front_bt (w : World) (s : Txt) {o : Nat} (h : o ≤ s.length) : (Instr.slice 9 (.string (bt s)) none (some (.int .i64 (o : Int))) none).run Tryd.prog w = .ok (.string (bt (s.take o))) w := by
  have z := bt_size s
  have := run_slice_string_h (P := Tryd.prog) (w := w) (t := 9) (s := bt s) Tryd.underlying9 .i64 (o : Int) (by omega) (by omega)
  rw [this, show ((o : Int)).toNat = o from by omega, bt_extract]
  simp
theorem run_rest_bt (w : World) (s : Txt) {o : Nat} (h : o ≤ s.length) : (Instr.slice 9 (.string (bt s)) (some (.int .i64 (o : Int))) none none).run Tryd.prog w = .ok (.string (bt (s.drop o))) w := by
  have z := bt_size s
  have := run_slice_string_l (P := Tryd.prog) (w := w) (t := 9) (s := bt s) Tryd.underlying9 .i64 (o : Int) (by omega) (by omega)
  rw [this, show ((o : Int)).toNat = o from by omega, bt_extract, bt_size]
  simp
set_option maxRecDepth 100000 in
set_option maxHeartbeats 4000000 in
theorem split1_by (n : Nat) (hn : 1 ≤ n) (w : World) (s : Txt) (hs : s.length ≤ 1000000) (Bp Bs Bv : Nat) (V : Nat → Prop)
    (hBp : Boxed w Bp 9 (.string (ByteArray.mk #[47]))) (hBs : Boxed w Bs 9 (.string (bt s))) (hBv : Boxed w Bv 3 (.int .i64 0)) (vp : ¬ V Bp) (vs : ¬ V Bs) (vv : ¬ V Bv) (d1 : Bp ≠ Bs) (d2 : Bv ≠ Bs) :
    SeqBy Fence.wide n Tryd.prog 33 #[.pointer (some ⟨Bp, 0, none⟩), .pointer (some ⟨Bs, 0, none⟩), .pointer (some ⟨Bv, 0, none⟩)] (fun x : Txt => #[Value.string (bt x)]) (Touch V) (Touch fun i => i = Bs)
      (fun ys => ys = cutsA [] s) (fun pre => pre <+: cutsA [] s) (cutsA [] s).length w := by
  intro l J Jx W hW hJ hJx h0 hY
  have HY := hide hY
  have HJ := hide hJ
  have b0 := (boxed_below hBp hW).cell
  have z1 : (ByteArray.mk #[47]).size = 1 := rfl
  have A0 := hide (show cutsA [] s = [] ++ cutsA [] s ∧ s.length ≤ 1000000 ∧ Boxed W Bs 9 (.string (bt s)) ∧ Boxed W Bp 9 (.string (ByteArray.mk #[47])) ∧ Boxed W Bv 3 (.int .i64 0) ∧ J [] W from ⟨rfl, hs, boxed_below hBs hW, boxed_below hBp hW, boxed_below hBv hW, h0⟩)
  clear hY hJ hJx hBp hBs hBv hW h0
  refine callsIn_of_wp Tryd.func33 rfl trivial ?_ rfl
  simp only [Tryd.ntmps33, List.size_toArray, List.length_cons, List.length_nil, Nat.reduceAdd, Nat.reduceSub, Array.replicate_succ, Array.replicate_zero, List.push_toArray, List.append_toArray, List.nil_append, List.cons_append]
  gi_wp2
  gi_loopw [] (fun wr => ∃ (pre : List Txt) (r : Txt), Hid (cutsA [] s = pre ++ cutsA [] r ∧ r.length ≤ 1000000 ∧ Boxed wr Bs 9 (.string (bt r)) ∧ Boxed wr Bp 9 (.string (ByteArray.mk #[47])) ∧ Boxed wr Bv 3 (.int .i64 0) ∧ J pre wr)) (fun wr => boxN wr Bs)
  case atStart => exact ⟨[], s, A0.out⟩
  case round =>
    obtain ⟨pre, r, hZ⟩ := hrel
    obtain ⟨hc, hr, bs, bp, bv, hj⟩ := hZ.out
    have c0 := bs.cell
    have c1 := bp.cell
    have c2 := bv.cell
    have CI := fun W => index_any W r
    rw [show bt [47] = ByteArray.mk #[47] from rfl] at CI
    rcases indexByte_cases r 47 with ⟨hi, hf⟩ | ⟨o, hi, hf, hfo⟩
    · rw [hi] at CI
      have CK := hide CI
      clear CI
      have E := hide (show pre ++ [r] = cutsA [] s from by rw [hc, cuts_none hf])
      obtain ⟨fn, tmps, assign, body, hy, hR⟩ := HY.out pre r wr hj (by rw [← E.out]; simp)
      try dsimp only at hy
      clear hc hr bs bp bv hj hi hf hZ A0 c2
      gi_wp2_with (refine ⟨trivial, ?_⟩; gi_at_call 35; refine (callsIn_wide.2 (CK.out _)).mono ?_; rintro e w' ⟨rfl, rfl⟩)
      refine hR.mono ?_
      rintro e W3 (⟨rfl, hJ3, hk3⟩ | ⟨rfl, hJx3⟩)
      · have N := hide hJ3
        clear hJ3 hk3
        gi_wp2
        go_end0
        exact ⟨⟨_, rfl⟩, .inl ⟨_, E.out, N.out⟩⟩
      · have N := hide hJx3
        clear hJx3
        gi_wp2
        go_end0
        exact ⟨⟨_, rfl⟩, .inr ⟨_, by rw [E.out]; exact List.prefix_refl _, N.out⟩⟩
    · have ho : o < r.length := (List.getElem?_eq_some_iff.1 hf).1
      rw [hi] at CI
      have CK := hide CI
      clear CI
      have E := hide (show (pre ++ [r.take o]) ++ cutsA [] (r.drop (o + 1)) = cutsA [] s from by rw [hc, cuts_some hf hfo]; simp)
      obtain ⟨fn, tmps, assign, body, hy, hR⟩ := HY.out pre (r.take o) wr hj (by rw [← E.out]; simp)
      have o1 : o ≤ 1000000 := by omega
      have o0 : (0 : Int) ≤ (o : Int) := by omega
      have SF := fun W => run_front_bt W r (o := o) (by omega)
      have SR := fun W => run_rest_bt W r (o := o + 1) (by omega)
      rw [show ((o + 1 : Nat) : Int) = (o : Int) + 1 from by omega] at SR
      have DL := hide (show (r.drop (o + 1)).length ≤ 1000000 ∧ (r.drop (o + 1)).length < r.length from by rw [List.length_drop]; omega)
      have hb := hide (And.intro bs (And.intro bp bv))
      generalize r.take o = p at *
      generalize r.drop (o + 1) = r2 at *
      clear hc hr bs bp bv hj hi hf hfo hZ A0 ho
      gi_wp2_with (refine ⟨trivial, ?_⟩; gi_at_call 35; refine (callsIn_wide.2 (CK.out _)).mono ?_; rintro e w' ⟨rfl, rfl⟩)
      refine hR.mono ?_
      rintro e W3 (⟨rfl, hJ3, hk3⟩ | ⟨rfl, hJx3⟩)
      · have e0 := boxed_touch hb.out.1 hk3 vs
        have e1 := boxed_touch hb.out.2.1 hk3 vp
        have e2 := boxed_touch hb.out.2.2 hk3 vv
        have g0 := e0.cell
        have g1 := e1.cell
        have g3 := e0.frozen
        have N := hide (show cutsA [] s = (pre ++ [p]) ++ cutsA [] r2 ∧ r2.length ≤ 1000000 ∧ Boxed (W3.setCell ⟨Bs, 0, none⟩ (.string (bt r2))) Bs 9 (.string (bt r2)) ∧ Boxed (W3.setCell ⟨Bs, 0, none⟩ (.string (bt r2))) Bp 9 (.string (ByteArray.mk #[47])) ∧ Boxed (W3.setCell ⟨Bs, 0, none⟩ (.string (bt r2))) Bv 3 (.int .i64 0) ∧ J (pre ++ [p]) (W3.setCell ⟨Bs, 0, none⟩ (.string (bt r2))) from
          ⟨E.out.symm, DL.out.1, e0.set _, e1.other d1 _, e2.other d2 _, HJ.out _ _ _ hJ3 (Touch.setCell (S := fun i => i = Bs) (Touch.refl _ W3) (p := ⟨Bs, 0, none⟩) rfl _)⟩)
        have MS := hide (show boxN (W3.setCell ⟨Bs, 0, none⟩ (.string (bt r2))) Bs < boxN wr Bs from by rw [boxN_of (e0.set _), boxN_of hb.out.1]; exact DL.out.2)
        clear e0 e1 e2 hJ3 hk3
        gi_wp2
        go_roundw
        case rel => exact ⟨_, _, N.out⟩
        case measure => exact MS.out
      · have N := hide hJx3
        clear hJx3
        gi_wp2
        refine bodyPost_ret (results_none rfl _ _ _) rfl ?_
        exact ⟨⟨_, rfl⟩, .inr ⟨_, by rw [← E.out]; exact List.prefix_append _ _, N.out⟩⟩
set_option maxRecDepth 100000 in
set_option maxHeartbeats 4000000 in
theorem values1_by (n : Nat) (hn : 1 ≤ n) (w : World) (a : Option Addr) (m c : Nat) (ps : List Txt) (hm : m ≤ 1000000) (Bx : Nat) (V : Nat → Prop) (hB : Boxed w Bx 23 (.slice a m c)) (hr : Reads 1 txVals w a m ps) (vx : ¬ V Bx)
    (va : 0 < m → ∀ b o, a = some ⟨b, o, none⟩ → ¬ V b) :
    SeqBy Fence.wide n Tryd.prog 29 #[.pointer (some ⟨Bx, 0, none⟩)] (fun x : Txt => #[Value.string (bt x)]) (Touch V) (Touch fun _ => False) (fun ys => ys = ps) (fun pre => pre <+: ps) ps.length w := by
  intro l J Jx W hW hJ hJx h0 hY
  have HY := hide hY
  have HR := hide (hr.below hW)
  have HL := hide hr.1
  have HA := hide va
  have b0 := (boxed_below hB hW).cell
  have A0 := hide h0
  have m0 : (m : Int) ≤ 1000000 := by omega
  clear hY hJ hJx hB hW h0 hr va hm
  refine callsIn_of_wp Tryd.func29 rfl trivial ?_ rfl
  simp only [Tryd.ntmps29, List.size_toArray, List.length_cons, List.length_nil, Nat.reduceAdd, Nat.reduceSub, Array.replicate_succ, Array.replicate_zero, List.push_toArray, List.append_toArray, List.nil_append, List.cons_append]
  gi_wp2
  gi_loopw [7] (fun i wr => ∃ k : Nat, k ≤ m ∧ i = .int .i64 k ∧ Hid (Touch V W wr ∧ J (ps.take k) wr)) (fun i _ => m - (intOf i).toNat)
  case atStart => exact ⟨0, Nat.zero_le _, rfl, Touch.refl _ _, A0.out⟩
  case round =>
    obtain ⟨k, hk, rfl, hZ⟩ := hrel
    obtain ⟨ht, hj⟩ := hZ.out
    by_cases hlt : k < m
    · have k0 : (0 : Int) ≤ (k : Int) := by omega
      have k1 : (k : Int) < (m : Int) := by omega
      obtain ⟨x, b, o, hx, rfl, hc⟩ := HR.out.text hlt
      have c2 := ht.cell hc (HA.out (by omega) b o rfl)
      have NX := hide (show ps.take (k + 1) = ps.take k ++ [x] from by rw [List.take_add_one, hx]; rfl)
      obtain ⟨fn, tmps, assign, body, hy, hR⟩ := HY.out (ps.take k) x wr hj (by rw [List.length_take, HL.out]; omega)
      try dsimp only at hy
      have HT := hide ht
      clear hx hc hj ht hZ
      gi_wp2
      refine hR.mono ?_
      rintro e W3 (⟨rfl, hJ3, hk3⟩ | ⟨rfl, hJx3⟩)
      · have N := hide (show Touch V W W3 ∧ J (ps.take (k + 1)) W3 from ⟨touchK_t HT.out hk3, by rw [NX.out]; exact hJ3⟩)
        clear hJ3 hk3
        gi_wp2
        go_roundw
        case rel => exact ⟨k + 1, by omega, by go_num, N.out⟩
        case measure => simp [intOf]; omega
      · have N := hide hJx3
        clear hJx3
        gi_wp2
        refine bodyPost_ret (results_none rfl _ _ _) rfl ?_
        exact ⟨⟨_, rfl⟩, .inr ⟨_, by rw [← NX.out]; exact List.take_prefix _ _, N.out⟩⟩
    · obtain rfl : k = m := by omega
      have N := hide (show J ps wr from by rwa [List.take_of_length_le (by rw [HL.out]; exact Nat.le_refl _)] at hj)
      clear hj ht hZ
      gi_wp2
      go_end0
      exact ⟨⟨_, rfl⟩, .inl ⟨_, rfl, N.out⟩⟩
set_option maxHeartbeats 2000000 in
theorem values_any (a : Option Addr) (n c : Nat) (w : World) : Calls Tryd.prog 23 #[.slice a n c] w fun e w' =>
    e = .returned (.func (.func 29) #[] #[.pointer (some ⟨w.heap.size, 0, none⟩)]) ∧ w' = w.alloc (.cells #[.slice a n c] 23) := by
  go_enter Tryd.func23, Tryd.ntmps23
  go_wp2_with fail
  go_ret
  exact ⟨rfl, rfl⟩
set_option maxHeartbeats 2000000 in
theorem splitSeq_any (s p : ByteArray) (w : World) : Calls Tryd.prog 25 #[.string s, .string p, .int .i64 0] w fun e w' =>
    e = .returned (.func (.func 33) #[] #[.pointer (some ⟨w.heap.size + 1, 0, none⟩), .pointer (some ⟨w.heap.size, 0, none⟩), .pointer (some ⟨w.heap.size + 1 + 1, 0, none⟩)]) ∧
      w' = ((w.alloc (.cells #[.string s] 9)).alloc (.cells #[.string p] 9)).alloc (.cells #[.int .i64 0] 3) := by
  go_enter Tryd.func25, Tryd.ntmps25
  go_wp2_with fail
  go_ret
  exact ⟨rfl, rfl⟩
set_option maxHeartbeats 2000000 in
theorem splitSeqs_any (s p : ByteArray) (w : World) : Calls Tryd.prog 19 #[.string s, .string p] w fun e w' =>
    e = .returned (.func (.func 33) #[] #[.pointer (some ⟨w.heap.size + 1, 0, none⟩), .pointer (some ⟨w.heap.size, 0, none⟩), .pointer (some ⟨w.heap.size + 1 + 1, 0, none⟩)]) ∧
      w' = ((w.alloc (.cells #[.string s] 9)).alloc (.cells #[.string p] 9)).alloc (.cells #[.int .i64 0] 3) := by
  go_enter Tryd.func19, Tryd.ntmps19
  go_wp2_with (go_at_call 25; refine (splitSeq_any _ _ _).mono ?_; rintro e w' ⟨rfl, rfl⟩)
  go_ret
  exact ⟨rfl, rfl⟩
end Go.Proofs.YtjcfdpicdmidaaaDoor
