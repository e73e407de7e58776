/-
  Several texts as one: PySeq PyWrong.
-/
import Derived.Test.YtndfnglcichngaaGreatDoorPyNamePb
import Derived.Test.YtndfnglcichngaaGreatDoorPa27
namespace Go.Proofs.YtndfnglcichngaaGreatDoor
open Go.ChangeShapes Go.WideShapes Go.ChangeAt Go.RowKit Go.Shelf
set_option linter.unusedVariables false
set_option linter.unusedSimpArgs false
attribute [local go_sem] Oper.semAt_some
theorem index_any (w : World) (s : Txt) : Calls Tryz.prog 143 #[.string (bt s), .string (bt [47])] w fun e w' => e = .returned (.int .i64 (Lib.indexByte s 47)) ∧ w = w' := by
  have := Any.strings_Index_one Tryz.idx (bt s) 47 w
  rw [bt_toList] at this
  exact this.mono (by rintro e w' ⟨h1, h2⟩; exact ⟨h1, h2.symm⟩)
theorem cuts_none {r : Txt} (h : ∀ k : Nat, r[k]? ≠ some 47) : cutsA [] r = [r] := by
  rw [cutsA_piece [] r (fun c hc e => by obtain ⟨k, hk⟩ := List.mem_iff_getElem?.1 hc; exact h k (by rw [hk, e]))]; rfl
theorem cuts_some {r : Txt} {o : Nat} (ho : r[o]? = some 47) (h : ∀ k : Nat, k < o → r[k]? ≠ some 47) : cutsA [] r = r.take o :: cutsA [] (r.drop (o + 1)) := by
  have hi : o < r.length := (List.getElem?_eq_some_iff.1 ho).1
  have e : r = r.take o ++ 47 :: r.drop (o + 1) := by
    have := (List.take_append_drop o r).symm
    rw [List.drop_eq_getElem_cons hi, (List.getElem?_eq_some_iff.1 ho).2] at this
    exact this
  conv => lhs; rw [e]
  rw [cutsA_slash [] _ _ (fun c hc e => by
    obtain ⟨k, hk⟩ := List.mem_iff_getElem?.1 hc
    have hk2 : k < o := by have := (List.getElem?_eq_some_iff.1 hk).1; rw [List.length_take] at this; omega
    rw [List.getElem?_take_of_lt hk2] at hk
    exact h k hk2 (by rw [hk, e]))]
  rfl
/-- How long the text in a box is. -/
def boxN (W : World) (B : Nat) : Nat := match W.cell? ⟨B, 0, none⟩ with | some (.string b) => b.size | _ => 0
theorem boxN_of {W : World} {B : Nat} {t : TypeId} {r : Txt} (h : Boxed W B t (.string (bt r))) : boxN W B = r.length := by unfold boxN; rw [h.cell]; exact bt_size r
theorem run_front_bt (w : World) (s : Txt) {o : Nat} (h : o ≤ s.length) : (Instr.slice 9 (.string (bt s)) none (some (.int .i64 (o : Int))) none).run Tryz.prog w = .ok (.string (bt (s.take o))) w := by
  have z := bt_size s
  have := run_slice_string_h (P := Tryz.prog) (w := w) (t := 9) (s := bt s) Tryz.underlying9 .i64 (o : Int) (by omega) (by omega)
  rw [this, show ((o : Int)).toNat = o from by omega, bt_extract]
  simp
theorem run_rest_bt (w : World) (s : Txt) {o : Nat} (h : o ≤ s.length) : (Instr.slice 9 (.string (bt s)) (some (.int .i64 (o : Int))) none none).run Tryz.prog w = .ok (.string (bt (s.drop o))) w := by
  have z := bt_size s
  have := run_slice_string_l (P := Tryz.prog) (w := w) (t := 9) (s := bt s) Tryz.underlying9 .i64 (o : Int) (by omega) (by omega)
  rw [this, show ((o : Int)).toNat = o from by omega, bt_extract, bt_size]
  simp
set_option maxRecDepth 100000 in
set_option maxHeartbeats 4000000 in
theorem split1_by (n : Nat) (hn : 1 ≤ n) (w : World) (s : Txt) (hs : s.length ≤ 1000000) (Bp Bs Bv : Nat) (V : Nat → Prop)
    (hBp : Boxed w Bp 9 (.string (ByteArray.mk #[47]))) (hBs : Boxed w Bs 9 (.string (bt s))) (hBv : Boxed w Bv 3 (.int .i64 0)) (vp : ¬ V Bp) (vs : ¬ V Bs) (vv : ¬ V Bv) (d1 : Bp ≠ Bs) (d2 : Bv ≠ Bs) :
    SeqBy Fence.wide n Tryz.prog 141 #[.pointer (some ⟨Bp, 0, none⟩), .pointer (some ⟨Bs, 0, none⟩), .pointer (some ⟨Bv, 0, none⟩)] (fun x : Txt => #[Value.string (bt x)]) (Touch V) (Touch fun i => i = Bs)
      (fun ys => ys = cutsA [] s) (fun pre => pre <+: cutsA [] s) (cutsA [] s).length w := by
  intro l J Jx W hW hJ hJx h0 hY
  have HY := hide hY
  have HJ := hide hJ
  have b0 := (boxed_below hBp hW).cell
  have z1 : (ByteArray.mk #[47]).size = 1 := rfl
  have A0 := hide (show cutsA [] s = [] ++ cutsA [] s ∧ s.length ≤ 1000000 ∧ Boxed W Bs 9 (.string (bt s)) ∧ Boxed W Bp 9 (.string (ByteArray.mk #[47])) ∧ Boxed W Bv 3 (.int .i64 0) ∧ J [] W from ⟨rfl, hs, boxed_below hBs hW, boxed_below hBp hW, boxed_below hBv hW, h0⟩)
  clear hY hJ hJx hBp hBs hBv hW h0
  refine callsIn_of_wp Tryz.func141 rfl trivial ?_ rfl
  simp only [Tryz.ntmps141, List.size_toArray, List.length_cons, List.length_nil, Nat.reduceAdd, Nat.reduceSub, Array.replicate_succ, Array.replicate_zero, List.push_toArray, List.append_toArray, List.nil_append, List.cons_append]
  gi_wp2
  gi_loopw [] (fun wr => ∃ (pre : List Txt) (r : Txt), Hid (cutsA [] s = pre ++ cutsA [] r ∧ r.length ≤ 1000000 ∧ Boxed wr Bs 9 (.string (bt r)) ∧ Boxed wr Bp 9 (.string (ByteArray.mk #[47])) ∧ Boxed wr Bv 3 (.int .i64 0) ∧ J pre wr)) (fun wr => boxN wr Bs)
  case atStart => exact ⟨[], s, A0.out⟩
  case round =>
    obtain ⟨pre, r, hZ⟩ := hrel
    obtain ⟨hc, hr, bs, bp, bv, hj⟩ := hZ.out
    have c0 := bs.cell
    have c1 := bp.cell
    have c2 := bv.cell
    have CI := fun W => index_any W r
    rw [show bt [47] = ByteArray.mk #[47] from rfl] at CI
    rcases indexByte_cases r 47 with ⟨hi, hf⟩ | ⟨o, hi, hf, hfo⟩
    · rw [hi] at CI
      have CK := hide CI
      clear CI
      have E := hide (show pre ++ [r] = cutsA [] s from by rw [hc, cuts_none hf])
      obtain ⟨fn, tmps, assign, body, hy, hR⟩ := HY.out pre r wr hj (by rw [← E.out]; simp)
      try dsimp only at hy
      clear hc hr bs bp bv hj hi hf hZ A0 c2
      gi_wp2_with (refine ⟨trivial, ?_⟩; gi_at_call 143; refine (callsIn_wide.2 (CK.out _)).mono ?_; rintro e w' ⟨rfl, rfl⟩)
      refine hR.mono ?_
      rintro e W3 (⟨rfl, hJ3, hk3⟩ | ⟨rfl, hJx3⟩)
      · have N := hide hJ3
        clear hJ3 hk3
        gi_wp2
        go_end0
        exact ⟨⟨_, rfl⟩, .inl ⟨_, E.out, N.out⟩⟩
      · have N := hide hJx3
        clear hJx3
        gi_wp2
        go_end0
        exact ⟨⟨_, rfl⟩, .inr ⟨_, by rw [E.out]; exact List.prefix_refl _, N.out⟩⟩
    · have ho : o < r.length := (List.getElem?_eq_some_iff.1 hf).1
      rw [hi] at CI
      have CK := hide CI
      clear CI
      have E := hide (show (pre ++ [r.take o]) ++ cutsA [] (r.drop (o + 1)) = cutsA [] s from by rw [hc, cuts_some hf hfo]; simp)
      obtain ⟨fn, tmps, assign, body, hy, hR⟩ := HY.out pre (r.take o) wr hj (by rw [← E.out]; simp)
      have o1 : o ≤ 1000000 := by omega
      have o0 : (0 : Int) ≤ (o : Int) := by omega
      have SF := fun W => run_front_bt W r (o := o) (by omega)
      have SR := fun W => run_rest_bt W r (o := o + 1) (by omega)
      rw [show ((o + 1 : Nat) : Int) = (o : Int) + 1 from by omega] at SR
      have DL := hide (show (r.drop (o + 1)).length ≤ 1000000 ∧ (r.drop (o + 1)).length < r.length from by rw [List.length_drop]; omega)
      have hb := hide (And.intro bs (And.intro bp bv))
      generalize r.take o = p at *
      generalize r.drop (o + 1) = r2 at *
      clear hc hr bs bp bv hj hi hf hfo hZ A0 ho
      gi_wp2_with (refine ⟨trivial, ?_⟩; gi_at_call 143; refine (callsIn_wide.2 (CK.out _)).mono ?_; rintro e w' ⟨rfl, rfl⟩)
      refine hR.mono ?_
      rintro e W3 (⟨rfl, hJ3, hk3⟩ | ⟨rfl, hJx3⟩)
      · have e0 := boxed_touch hb.out.1 hk3 vs
        have e1 := boxed_touch hb.out.2.1 hk3 vp
        have e2 := boxed_touch hb.out.2.2 hk3 vv
        have g0 := e0.cell
        have g1 := e1.cell
        have g3 := e0.frozen
        have N := hide (show cutsA [] s = (pre ++ [p]) ++ cutsA [] r2 ∧ r2.length ≤ 1000000 ∧ Boxed (W3.setCell ⟨Bs, 0, none⟩ (.string (bt r2))) Bs 9 (.string (bt r2)) ∧ Boxed (W3.setCell ⟨Bs, 0, none⟩ (.string (bt r2))) Bp 9 (.string (ByteArray.mk #[47])) ∧ Boxed (W3.setCell ⟨Bs, 0, none⟩ (.string (bt r2))) Bv 3 (.int .i64 0) ∧ J (pre ++ [p]) (W3.setCell ⟨Bs, 0, none⟩ (.string (bt r2))) from
          ⟨E.out.symm, DL.out.1, e0.set _, e1.other d1 _, e2.other d2 _, HJ.out _ _ _ hJ3 (Touch.setCell (S := fun i => i = Bs) (Touch.refl _ W3) (p := ⟨Bs, 0, none⟩) rfl _)⟩)
        have MS := hide (show boxN (W3.setCell ⟨Bs, 0, none⟩ (.string (bt r2))) Bs < boxN wr Bs from by rw [boxN_of (e0.set _), boxN_of hb.out.1]; exact DL.out.2)
        clear e0 e1 e2 hJ3 hk3
        gi_wp2
        go_roundw
        case rel => exact ⟨_, _, N.out⟩
        case measure => exact MS.out
      · have N := hide hJx3
        clear hJx3
        gi_wp2
        refine bodyPost_ret (results_none rfl _ _ _) rfl ?_
        exact ⟨⟨_, rfl⟩, .inr ⟨_, by rw [← E.out]; exact List.prefix_append _ _, N.out⟩⟩
set_option maxRecDepth 100000 in
set_option maxHeartbeats 4000000 in
theorem values1_by (n : Nat) (hn : 1 ≤ n) (w : World) (a : Option Addr) (m c : Nat) (ps : List Txt) (hm : m ≤ 1000000) (Bx : Nat) (V : Nat → Prop) (hB : Boxed w Bx 106 (.slice a m c)) (hr : Reads 1 txVals w a m ps) (vx : ¬ V Bx)
    (va : 0 < m → ∀ b o, a = some ⟨b, o, none⟩ → ¬ V b) :
    SeqBy Fence.wide n Tryz.prog 146 #[.pointer (some ⟨Bx, 0, none⟩)] (fun x : Txt => #[Value.string (bt x)]) (Touch V) (Touch fun _ => False) (fun ys => ys = ps) (fun pre => pre <+: ps) ps.length w := by
  intro l J Jx W hW hJ hJx h0 hY
  have HY := hide hY
  have HR := hide (hr.below hW)
  have HL := hide hr.1
  have HA := hide va
  have b0 := (boxed_below hB hW).cell
  have A0 := hide h0
  have m0 : (m : Int) ≤ 1000000 := by omega
  clear hY hJ hJx hB hW h0 hr va hm
  refine callsIn_of_wp Tryz.func146 rfl trivial ?_ rfl
  simp only [Tryz.ntmps146, List.size_toArray, List.length_cons, List.length_nil, Nat.reduceAdd, Nat.reduceSub, Array.replicate_succ, Array.replicate_zero, List.push_toArray, List.append_toArray, List.nil_append, List.cons_append]
  gi_wp2
  gi_loopw [7] (fun i wr => ∃ k : Nat, k ≤ m ∧ i = .int .i64 k ∧ Hid (Touch V W wr ∧ J (ps.take k) wr)) (fun i _ => m - (intOf i).toNat)
  case atStart => exact ⟨0, Nat.zero_le _, rfl, Touch.refl _ _, A0.out⟩
  case round =>
    obtain ⟨k, hk, rfl, hZ⟩ := hrel
    obtain ⟨ht, hj⟩ := hZ.out
    by_cases hlt : k < m
    · have k0 : (0 : Int) ≤ (k : Int) := by omega
      have k1 : (k : Int) < (m : Int) := by omega
      obtain ⟨x, b, o, hx, rfl, hc⟩ := HR.out.text hlt
      have c2 := ht.cell hc (HA.out (by omega) b o rfl)
      have NX := hide (show ps.take (k + 1) = ps.take k ++ [x] from by rw [List.take_add_one, hx]; rfl)
      obtain ⟨fn, tmps, assign, body, hy, hR⟩ := HY.out (ps.take k) x wr hj (by rw [List.length_take, HL.out]; omega)
      try dsimp only at hy
      have HT := hide ht
      clear hx hc hj ht hZ
      gi_wp2
      refine hR.mono ?_
      rintro e W3 (⟨rfl, hJ3, hk3⟩ | ⟨rfl, hJx3⟩)
      · have N := hide (show Touch V W W3 ∧ J (ps.take (k + 1)) W3 from ⟨touchK_t HT.out hk3, by rw [NX.out]; exact hJ3⟩)
        clear hJ3 hk3
        gi_wp2
        go_roundw
        case rel => exact ⟨k + 1, by omega, by go_num, N.out⟩
        case measure => simp [intOf]; omega
      · have N := hide hJx3
        clear hJx3
        gi_wp2
        refine bodyPost_ret (results_none rfl _ _ _) rfl ?_
        exact ⟨⟨_, rfl⟩, .inr ⟨_, by rw [← NX.out]; exact List.take_prefix _ _, N.out⟩⟩
    · obtain rfl : k = m := by omega
      have N := hide (show J ps wr from by rwa [List.take_of_length_le (by rw [HL.out]; exact Nat.le_refl _)] at hj)
      clear hj ht hZ
      gi_wp2
      go_end0
      exact ⟨⟨_, rfl⟩, .inl ⟨_, rfl, N.out⟩⟩
set_option maxHeartbeats 2000000 in
theorem values_any (a : Option Addr) (n c : Nat) (w : World) : Calls Tryz.prog 134 #[.slice a n c] w fun e w' =>
    e = .returned (.func (.func 146) #[] #[.pointer (some ⟨w.heap.size, 0, none⟩)]) ∧ w' = w.alloc (.cells #[.slice a n c] 106) := by
  go_enter Tryz.func134, Tryz.ntmps134
  go_wp2_with fail
  go_ret
  exact ⟨rfl, rfl⟩
set_option maxHeartbeats 2000000 in
theorem splitSeq_any (s p : ByteArray) (w : World) : Calls Tryz.prog 127 #[.string s, .string p, .int .i64 0] w fun e w' =>
    e = .returned (.func (.func 141) #[] #[.pointer (some ⟨w.heap.size + 1, 0, none⟩), .pointer (some ⟨w.heap.size, 0, none⟩), .pointer (some ⟨w.heap.size + 1 + 1, 0, none⟩)]) ∧
      w' = ((w.alloc (.cells #[.string s] 9)).alloc (.cells #[.string p] 9)).alloc (.cells #[.int .i64 0] 3) := by
  go_enter Tryz.func127, Tryz.ntmps127
  go_wp2_with fail
  go_ret
  exact ⟨rfl, rfl⟩
set_option maxHeartbeats 2000000 in
theorem splitSeqs_any (s p : ByteArray) (w : World) : Calls Tryz.prog 103 #[.string s, .string p] w fun e w' =>
    e = .returned (.func (.func 141) #[] #[.pointer (some ⟨w.heap.size + 1, 0, none⟩), .pointer (some ⟨w.heap.size, 0, none⟩), .pointer (some ⟨w.heap.size + 1 + 1, 0, none⟩)]) ∧
      w' = ((w.alloc (.cells #[.string s] 9)).alloc (.cells #[.string p] 9)).alloc (.cells #[.int .i64 0] 3) := by
  go_enter Tryz.func103, Tryz.ntmps103
  go_wp2_with (go_at_call 127; refine (splitSeq_any _ _ _).mono ?_; rintro e w' ⟨rfl, rfl⟩)
  go_ret
  exact ⟨rfl, rfl⟩
end Go.Proofs.YtndfnglcichngaaGreatDoor
namespace Go.Proofs.YtndfnglcichngaaGreatDoor
open Go.ChangeShapes Go.WideShapes Go.ChangeAt Go.RowKit Go.Shelf
set_option linter.unusedVariables false
set_option linter.unusedSimpArgs false
attribute [local go_sem] Oper.semAt_some
def wrongE (ps : List Txt) : Int := if firstE ps ≠ 0 then firstE ps else if 6 < ps.length then 20 else 0
theorem firstE_pre {pre ps : List Txt} (h : pre <+: ps) (he : firstE pre ≠ 0) : firstE ps = firstE pre := by
  obtain ⟨r, rfl⟩ := h
  induction pre with
  | nil => exact absurd rfl he
  | cons p q ih =>
    unfold firstE at he ⊢
    by_cases k : nameE p = 0
    · rw [if_pos k] at he; rw [List.cons_append]; dsimp only; rw [if_pos k, if_pos k]; exact ih he
    · rw [List.cons_append]; dsimp only; rw [if_neg k, if_neg k]
theorem firstE_add {pre : List Txt} {y : Txt} (h : firstE pre = 0) : firstE (pre ++ [y]) = nameE y := by
  rw [firstE_app _ _ h]
  unfold firstE
  by_cases k : nameE y = 0
  · rw [if_pos k, k]; rfl
  · rw [if_neg k]
set_option maxRecDepth 100000 in
set_option maxHeartbeats 8000000 in
theorem pwrong_any (w : World) (gf : Nat) (lb : Array Value) (ps : List Txt) (hps : ps.length ≤ 1000001) (Z : Nat → Prop) (hZ : ∀ i, Z i → i < w.heap.size)
    (he : ∀ args W, (callFunc gf args).run Tryz.prog W = .ok (.enter gf args) W)
    (hseq : ∀ (w2 : World) (V : Nat → Prop), Below w.heap.size w w2 → (∀ i, V i → w.heap.size ≤ i) → SeqBy Fence.wide 2 Tryz.prog gf lb (fun x : Txt => #[Value.string (bt x)]) (Touch V) (Touch Z) (fun ys => ys = ps) (fun pre => pre <+: ps) ps.length w2) :
    Calls Tryz.prog 102 #[.func (.func gf) #[] lb, .func (.func 37) #[] #[]] w fun e w' => e = .returned (.int .i64 (wrongE ps)) ∧ Touch Z w w' := by
  have HZ0 := hide hZ
  have HE := hide he
  have HS := hide hseq
  have n0 : ps.length ≤ 1000001 := hps
  clear hZ he hseq hps
  refine (callsIn_wide (n := 3)).1 ?_
  refine callsIn_of_wp_marks Tryz.func102 rfl trivial ?_ rfl
  simp only [Tryz.ntmps102, List.size_toArray, List.length_cons, List.length_nil, Nat.reduceAdd, Nat.reduceSub, Array.replicate_succ, Array.replicate_zero, List.push_toArray, List.append_toArray, List.nil_append, List.cons_append]
  gi_wp2
  obtain ⟨w2, hw2⟩ : ∃ w2, w2 = ((w.alloc (.cells #[.func (.func 37) #[] #[]] 46)).alloc (.cells #[.int .i64 0] 37)).alloc (.cells #[.int .i64 0] 3) := ⟨_, rfl⟩
  rw [← hw2]
  have b2 : Below w.heap.size w w2 := by rw [hw2]; exact (((Below.refl w.heap.size w).alloc (Nat.le_refl _) _).alloc (by simp) _).alloc (by simp; omega) _
  have s2 : w2.heap.size = w.heap.size + 3 := by rw [hw2]; simp
  have e0 : Boxed w2 w.heap.size 46 (.func (.func 37) #[] #[]) := by rw [hw2]; exact ((Boxed.new w _ _).alloc _).alloc _
  have e1 : Boxed w2 (w.heap.size + 1) 37 (.int .i64 0) := by
    have := (Boxed.new (w.alloc (.cells #[.func (.func 37) #[] #[]] 46)) 37 (.int .i64 0)).alloc (.cells #[.int .i64 0] 3)
    rw [World.size_alloc, ← hw2] at this; exact this
  have e2 : Boxed w2 (w.heap.size + 1 + 1) 3 (.int .i64 0) := by
    have := Boxed.new ((w.alloc (.cells #[.func (.func 37) #[] #[]] 46)).alloc (.cells #[.int .i64 0] 37)) 3 (.int .i64 0)
    rw [World.size_alloc, World.size_alloc, ← hw2] at this; exact this
  obtain ⟨V, hV⟩ : ∃ V : Nat → Prop, V = fun i => i = w.heap.size + 1 ∨ i = w.heap.size + 1 + 1 ∨ w.heap.size + 3 ≤ i := ⟨_, rfl⟩
  have v0 : ¬ V w.heap.size := by rw [hV]; intro e; rcases e with e | e | e <;> omega
  have v1 : V (w.heap.size + 1) := by rw [hV]; exact .inl rfl
  have v2 : V (w.heap.size + 1 + 1) := by rw [hV]; exact .inr (.inl rfl)
  have vhi : ∀ i, w.heap.size + 3 ≤ i → V i := by intro i hi; rw [hV]; exact .inr (.inr hi)
  have vge : ∀ i, V i → w.heap.size ≤ i := by intro i hi; rw [hV] at hi; rcases hi with e | e | e <;> omega
  have B2 := hide b2
  obtain ⟨U, hU⟩ : ∃ U : Nat → Prop, U = fun i => V i ∨ Z i := ⟨_, rfl⟩
  have u0 : ¬ U w.heap.size := by rw [hU]; intro e; rcases e with e | e; exact v0 e; exact absurd (HZ0.out _ e) (by omega)
  have zn : ∀ i, w.heap.size ≤ i → ¬ Z i := fun i hi e => absurd (HZ0.out _ e) (by omega)
  have uv : ∀ i, V i → U i := fun i h => by rw [hU]; exact .inl h
  have uz : ∀ i, Z i → U i := fun i h => by rw [hU]; exact .inr h
  clear hw2 hV b2
  refine wpIn_rangeFunc_by rfl (by omega) (gf := gf) (lb := lb) rfl trivial HE.out (HS.out w2 V B2.out vge) touchK_t (touchK_b (fun i hi => vhi i (by omega)))
    (fun A B h i o hi ho _ => (h.block i (lt_of_heap ho) (zn i (by omega))).trans ho) (fun _ => rfl)
    (fun pre W => (Boxed W (w.heap.size + 1) 37 (.int .i64 0) ∧ Boxed W (w.heap.size + 1 + 1) 3 (.int .i64 (pre.length : Nat))) ∧ (Touch U w2 W ∧ firstE pre = 0))
    (fun c pre W => Boxed W (w.heap.size + 1) 37 (.int .i64 (firstE pre)) ∧ (Touch U w2 W ∧ (c = .ret ∧ firstE pre ≠ 0)))
    (OwnFrom.and (OwnFrom.and (Own.from (boxed_own _ _ (fun _ => .int .i64 0)) _) (Own.from (boxed_own _ _ (fun pre => .int .i64 ((List.length pre : Nat) : Int))) _)) (OwnFrom.and (ownFrom_touch (fun i hi => uv i (vhi i (by omega)))) (ownFrom_pure _ _)))
    (fun c => OwnFrom.and (Own.from (boxed_own _ _ (fun pre => .int .i64 (firstE pre))) _) (OwnFrom.and (ownFrom_touch (fun i hi => uv i (vhi i (by omega)))) (ownFrom_pure _ _)))
    (fun s A B h k => ⟨⟨boxed_touch h.1.1 k (zn _ (by omega)), boxed_touch h.1.2 k (zn _ (by omega))⟩, h.2.1.trans k (fun i hi => .inl (uz i hi)), h.2.2⟩)
    (fun c s A B h k => ⟨boxed_touch h.1 k (zn _ (by omega)), h.2.1.trans k (fun i hi => .inl (uz i hi)), h.2.2⟩)
    ⟨⟨e1, e2⟩, Touch.refl _ _, rfl⟩
    (fun y => { tmps := #[.func (.func gf) #[] lb, .func (.func 37) #[] #[], undef, .pointer (some ⟨w.heap.size, 0, none⟩), .pointer (some ⟨w.heap.size + 1, 0, none⟩), .pointer (some ⟨w.heap.size + 1 + 1, 0, none⟩), .string (bt y), undef, .func (.func gf) #[] lb, .string (bt y), undef, undef, undef, undef, undef, undef, undef, undef, undef, undef], defers := [] }) ?assign ?body ?done ?stop
  case assign =>
    intro l y W K hK
    gi_wp2
    exact hK
  case body =>
    rintro l pre y W ⟨⟨hb1, hb2⟩, ht, hpre⟩ hlen
    have f0 := (boxed_touch e0 ht u0).cell
    have CN := hide (pname_any W y)
    have k0 : pre.length ≤ 1000001 := by omega
    obtain ⟨k, hk⟩ : ∃ k, k = pre.length := ⟨_, rfl⟩
    rw [← hk] at hb2 k0
    have f2 := hb2.cell
    have g2 := hb2.frozen
    have f1 := hb1.cell
    have g1 := hb1.frozen
    have HT := hide ht
    have HB1 := hide hb1
    have HB2 := hide hb2
    have FE := hide (show firstE (pre ++ [y]) = nameE y from firstE_add hpre)
    have HL := hide (show ((pre ++ [y]).length : Nat) = k + 1 from by rw [hk]; simp)
    by_cases h0 : nameE y = 0
    · rw [h0] at CN FE
      clear hb1 hb2 ht hpre hlen hk h0
      gi_wp2_with (refine ⟨trivial, ?_⟩; gi_at_call 37; refine (CallsIn.inRound l (callsIn_wide.2 CN.out)).mono ?_; rintro e w' ⟨rfl, rfl⟩)
      have c1 := (Touch.setCell (S := V) (Touch.refl V W) (p := ⟨w.heap.size + 1 + 1, 0, none⟩) v2 (.int .i64 ((k : Int) + 1)))
      exact ⟨(KeepsOthers.setCell _ _ _).from _, c1, ⟨HB1.out.other (by omega) _, by rw [HL.out]; exact HB2.out.set _⟩, HT.out.trans c1 (fun i hi => .inl (uv i hi)), FE.out⟩
    · obtain ⟨E, hE⟩ : ∃ E, E = nameE y := ⟨_, rfl⟩
      rw [← hE] at CN FE
      have nE : (E != 0) = true := by rw [hE]; simpa using h0
      clear hb1 hb2 ht hpre hlen hk h0 hE
      gi_wp2_with (refine ⟨trivial, ?_⟩; gi_at_call 37; refine (CallsIn.inRound l (callsIn_wide.2 CN.out)).mono ?_; rintro e w' ⟨rfl, rfl⟩)
      have c1 := (Touch.setCell (S := V) (Touch.refl V W) (p := ⟨w.heap.size + 1, 0, none⟩) v1 (.int .i64 E))
      exact ⟨(KeepsOthers.setCell _ _ _).from _, by rw [FE.out]; exact HB1.out.set _, HT.out.trans c1 (fun i hi => .inl (uv i hi)), rfl, by rw [FE.out]; simpa using nE⟩
  case done =>
    rintro D ys W hD rfl ⟨⟨hb1, hb2⟩, ht, hpre⟩ hK
    have f2 := hb2.cell
    have f1 := hb1.cell
    have g1 := hb1.frozen
    have HB := hide hb1
    have HT := hide ht
    have fin : ∀ E : Int, Touch Z w ((W.setCell ⟨w.heap.size + 1, 0, none⟩ (.int .i64 E)).putObj D (.deferred none)) := fun E => by
      have t1 : Touch U w2 ((W.setCell ⟨w.heap.size + 1, 0, none⟩ (.int .i64 E)).putObj D (.deferred none)) :=
        (ht.setCell (p := ⟨w.heap.size + 1, 0, none⟩) (uv _ v1) _).trans (S' := U) (Touch.of_grown (grownBy_putObj' _ D _) (fun g e => by cases e; exact uv _ (vhi _ (by omega)))) (fun i hi => .inl hi)
      refine (Touch.of_below B2.out).trans t1 (fun i hi => ?_)
      rw [hU] at hi
      rcases hi with h | h
      · exact .inr (vge i h)
      · exact .inl h
    have FIN := hide fin
    obtain ⟨k, hk⟩ : ∃ k, k = ys.length := ⟨_, rfl⟩
    rw [← hk] at f2
    have HPRE := hide hpre
    have HK2 := hide hk
    clear hb1 hb2 ht hpre fin hk
    by_cases h6 : 6 < k
    · have l6 : (6 : Int) < (k : Int) := by omega
      have HG := hide (show wrongE ys = 20 from by unfold wrongE; rw [if_neg (by rw [HPRE.out]; simp), if_pos (by rw [← HK2.out]; exact h6)])
      clear h6
      gi_wp2
      have hK' := (KeepsOthers.setCell W ⟨w.heap.size + 1, 0, none⟩ (.int .i64 20)).same D _ hK rfl
      have hc5 := cell_kept (HB.out.set (.int .i64 20)).cell (grownBy_putObj' _ D (.deferred none)) (fun r e => by cases e; exact ⟨_, hK', rfl⟩)
      refine ⟨by simp, .inl ⟨_, _, rfl, run_takeDeferred hK', ?_⟩⟩
      refine ⟨.int .i64 20, ?_, by rw [HG.out], FIN.out _⟩
      simp [results, Tryz.func102, Tryz.results102, go_sem, hc5]
    · have l6 : ¬ (6 : Int) < (k : Int) := by omega
      have HG := hide (show wrongE ys = 0 from by unfold wrongE; rw [if_neg (by rw [HPRE.out]; simp), if_neg (by rw [← HK2.out]; exact h6)])
      clear h6
      gi_wp2
      have hK' := (KeepsOthers.setCell W ⟨w.heap.size + 1, 0, none⟩ (.int .i64 0)).same D _ hK rfl
      have hc5 := cell_kept (HB.out.set (.int .i64 0)).cell (grownBy_putObj' _ D (.deferred none)) (fun r e => by cases e; exact ⟨_, hK', rfl⟩)
      refine ⟨by simp, .inl ⟨_, _, rfl, run_takeDeferred hK', ?_⟩⟩
      refine ⟨.int .i64 0, ?_, by rw [HG.out], FIN.out _⟩
      simp [results, Tryz.func102, Tryz.results102, go_sem, hc5]
  case stop =>
    rintro D c pre W hD hys ⟨hb, ht, rfl, hpre⟩ hK
    have HG := hide (show wrongE ps = firstE pre from by
      have := firstE_pre hys hpre
      unfold wrongE; rw [if_pos (by rw [this]; exact hpre), this])
    have t1 : Touch U w2 (W.putObj D (.deferred none)) := ht.trans (S' := U) (Touch.of_grown (grownBy_putObj' _ D _) (fun g e => by cases e; exact uv _ (vhi _ (by omega)))) (fun i hi => .inl hi)
    have FIN := hide (show Touch Z w (W.putObj D (.deferred none)) from (Touch.of_below B2.out).trans t1 (fun i hi => by
      rw [hU] at hi
      rcases hi with h | h
      · exact .inr (vge i h)
      · exact .inl h))
    have HB := hide hb
    clear hb ht hpre hys t1
    generalize firstE pre = E at *
    gi_wp2
    have hc5 := cell_kept HB.out.cell (grownBy_putObj' _ D (.deferred none)) (fun r e => by cases e; exact ⟨_, hK, rfl⟩)
    refine ⟨by simp, .inl ⟨_, _, rfl, run_takeDeferred hK, ?_⟩⟩
    refine ⟨.int .i64 E, ?_, by rw [HG.out], FIN.out⟩
    simp [results, Tryz.func102, Tryz.results102, go_sem, hc5]
end Go.Proofs.YtndfnglcichngaaGreatDoor
