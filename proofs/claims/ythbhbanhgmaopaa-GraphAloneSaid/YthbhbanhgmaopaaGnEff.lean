/-
  The program's Effective.
-/
import Derived.Test.YthbhbanhgmaopaaGnEff1
import Derived.Test.YthbhbanhgmaopaaGnA
namespace Go.Proofs.Ythbhbanhgmaopaa
open Go.ChangeShapes Go.WideShapes Go.ChangeAt Go.RowKit
set_option linter.unusedVariables false
theorem flat_zero : ∀ n : Nat, (List.replicate n prD).flatMap prVals = List.replicate (n * 3) (Value.int .i64 0) := by
  intro n
  induction n with
  | zero => rfl
  | succ n ih =>
    rw [List.replicate_succ, List.flatMap_cons, ih, show (n + 1) * 3 = n * 3 + 1 + 1 + 1 by omega, List.replicate_succ, List.replicate_succ, List.replicate_succ]
    rfl
theorem made_three (n : Nat) : madeCells #[Value.int .i64 0, Value.int .i64 0, Value.int .i64 0] (n * 3) = ((List.replicate n prD).flatMap prVals).toArray := by
  rw [flat_zero]
  apply Array.ext
  · simp [madeCells]
  · intro i h1 h2
    have h : i % 3 < 3 := Nat.mod_lt _ (by omega)
    obtain ⟨t, ht⟩ : ∃ t, t = i % 3 := ⟨_, rfl⟩
    rw [← ht] at h
    have h3 : t = 0 ∨ t = 1 ∨ t = 2 := by omega
    simp only [madeCells, Array.getElem_map, Array.getElem_range]
    simp only [List.size_toArray, List.length_cons, List.length_nil, Nat.zero_add, Nat.reduceAdd, ← ht]
    rcases h3 with rfl | rfl | rfl <;> simp
theorem run_make_prios (n : Nat) (h : n ≤ 25) (w : World) : (Instr.makeSlice 31 (.int .i64 (n : Int)) (.int .i64 (n : Int))).run Try.prog w = .ok (.slice (some ⟨w.heap.size, 0, none⟩) n n) (w.alloc (.cells ((List.replicate n prD).flatMap prVals).toArray 39)) := by
  obtain ⟨i0, hi0, hz0, hz1, hz2⟩ := info_parts prio_info
  have := run_make (P := Try.prog) w 31 39 i0 _ Try.underlying31 hi0 hz0 .i64 .i64 (n : Int) (n : Int) (by omega) (by omega) (by rw [hz2]; omega) (by omega)
  rw [hz1] at this
  rw [← made_three]
  simpa [Value.cells] using this
theorem bool_info : (Try.prog.info? 4).map (fun i => (i.zero, i.size, i.bytes)) = some (some (.bool false), 1, 1) := by kernel_rfl
theorem run_make_bools (n : Nat) (h : n ≤ 25) (w : World) : (Instr.makeSlice 54 (.int .i64 (n : Int)) (.int .i64 (n : Int))).run Try.prog w = .ok (.slice (some ⟨w.heap.size, 0, none⟩) n n) (w.alloc (.cells ((List.replicate n false).map Value.bool).toArray 4)) := by
  have := run_make_row' (P := Try.prog) 54 4 (.bool false) 1 Try.underlying54 bool_info rfl .i64 .i64 n (by omega) (by omega) w
  rw [this, made_oneA]
  simp
set_option maxRecDepth 10000 in
set_option maxHeartbeats 8000000 in
theorem peff_any (w : World) (pa : Option Addr) (n cn : Nat) (ps : List Pr) (a : Option Addr) (p ca : Nat) (ws : List Int) (b : Option Addr) (q cb : Nat) (os : List Int) (hr : Reads 3 prVals w pa n ps) (hn : n ≤ 25) (ha : ListIn w a p ca ws) (hb : ListIn w b q cb os) :
    Calls Try.prog 21 #[.slice pa n cn, .slice a p ca, .slice b q cb] w fun e w' => ∃ v, e = .returned v ∧ w'.ownsRow w.heap.size 39 3 v n ((effG ws os ps).flatMap prVals) ∧ Below w.heap.size w w' := by
  have hl : ps.length = n := hr.1
  obtain ⟨A, hA⟩ : ∃ A, A = w.heap.size := ⟨_, rfl⟩
  obtain ⟨Cp, hCp⟩ : ∃ C, C = ((List.replicate n prD).flatMap prVals).toArray := ⟨_, rfl⟩
  obtain ⟨Cb, hCb⟩ : ∃ C, C = ((List.replicate n false).map Value.bool).toArray := ⟨_, rfl⟩
  obtain ⟨w1, hw1⟩ : ∃ w1, w1 = w.alloc (.cells #[.slice pa n cn] 31) := ⟨_, rfl⟩
  obtain ⟨w2, hw2⟩ : ∃ w2, w2 = w1.alloc (.cells #[.slice a p ca, .slice b q cb, .int .i64 (n : Int)] 44) := ⟨_, rfl⟩
  obtain ⟨w3, hw3⟩ : ∃ w3, w3 = w2.alloc (.cells Cp 39) := ⟨_, rfl⟩
  obtain ⟨w4, hw4⟩ : ∃ w4, w4 = w3.alloc (.cells #[.slice (some ⟨A + 2, 0, none⟩) n n] 31) := ⟨_, rfl⟩
  obtain ⟨w5, hw5⟩ : ∃ w5, w5 = w4.alloc (.cells Cb 4) := ⟨_, rfl⟩
  obtain ⟨w6, hw6⟩ : ∃ w6, w6 = w5.alloc (.cells #[.slice (some ⟨A + 4, 0, none⟩) n n] 54) := ⟨_, rfl⟩
  have s1 : w1.heap.size = A + 1 := by rw [hw1, hA]; simp
  have s2 : w2.heap.size = A + 2 := by rw [hw2, World.size_alloc, s1]
  have s3 : w3.heap.size = A + 3 := by rw [hw3, World.size_alloc, s2]
  have s4 : w4.heap.size = A + 4 := by rw [hw4, World.size_alloc, s3]
  have s5 : w5.heap.size = A + 5 := by rw [hw5, World.size_alloc, s4]
  have s6 : w6.heap.size = A + 6 := by rw [hw6, World.size_alloc, s5]
  have k1 : Below w1.heap.size w1 w2 := by rw [hw2]; exact (Below.refl _ w1).alloc (Nat.le_refl _) _
  have k2 : Below w2.heap.size w2 w3 := by rw [hw3]; exact (Below.refl _ w2).alloc (Nat.le_refl _) _
  have k3 : Below w3.heap.size w3 w4 := by rw [hw4]; exact (Below.refl _ w3).alloc (Nat.le_refl _) _
  have k4 : Below w4.heap.size w4 w5 := by rw [hw5]; exact (Below.refl _ w4).alloc (Nat.le_refl _) _
  have k5 : Below w5.heap.size w5 w6 := by rw [hw6]; exact (Below.refl _ w5).alloc (Nat.le_refl _) _
  have k46 : Below w4.heap.size w4 w6 := k4.trans (k5.mono k4.size)
  have k36 : Below w3.heap.size w3 w6 := k3.trans (k46.mono k3.size)
  have k26 : Below w2.heap.size w2 w6 := k2.trans (k36.mono k2.size)
  have k16 : Below w1.heap.size w1 w6 := k1.trans (k26.mono k1.size)
  have B6 := hide (show Below w.heap.size w w6 from ((Below.refl w.heap.size w).alloc (Nat.le_refl _) _ : Below w.heap.size w (w.alloc (.cells #[.slice pa n cn] 31))).trans (by rw [← hw1]; exact k16.mono (by rw [s1, hA]; omega)))
  have BB6 := hide (show BoxAt w6 A 31 (.slice pa n cn) from (by rw [hw1]; exact BoxAt.new w _ _ hA : BoxAt w1 A 31 (.slice pa n cn)).below k16)
  have NN6 := hide (show NetAt w6 (A + 1) a p ca b q cb n from NetAt.below (by rw [hw2, ← s1]; exact heap_alloc_new _ _) k26)
  have PR6 := hide (show PrsAt w6 (A + 2) (List.replicate n prD) from (by unfold PrsAt; rw [hw3, ← s2, ← hCp]; exact heap_alloc_new _ _ : PrsAt w3 (A + 2) (List.replicate n prD)).keep (k36.block _ (by omega)))
  have EB6 := hide (show BoxAt w6 (A + 3) 31 (.slice (some ⟨A + 2, 0, none⟩) n n) from (by rw [hw4]; exact BoxAt.new w3 _ _ s3.symm : BoxAt w4 (A + 3) 31 (.slice (some ⟨A + 2, 0, none⟩) n n)).below k46)
  have LR6 := hide (show BoolsAt w6 (A + 4) (List.replicate n false) from (by unfold BoolsAt; rw [hw5, ← s4, ← hCb]; exact heap_alloc_new _ _ : BoolsAt w5 (A + 4) (List.replicate n false)).keep (k5.block _ (by omega)))
  have LX6 := hide (show BoxAt w6 (A + 5) 54 (.slice (some ⟨A + 4, 0, none⟩) n n) from by rw [hw6]; exact BoxAt.new w5 _ _ s5.symm)
  have RD := hide hr
  have LA := hide ha.ints
  have LB := hide hb.ints
  have PP := hide (show 0 < n → ∀ c o, pa = some ⟨c, o, none⟩ → c < A from fun h c o e => by
    obtain ⟨pb, po, e2, h', _⟩ := reads_pr hr h
    rw [e] at e2; injection e2 with e2; injection e2 with e2 _
    rw [e2, hA]; exact lt_of_cell? h')
  have PA := hide (show 0 < p → ∀ c o, a = some ⟨c, o, none⟩ → c < A from fun h c o e => by
    obtain ⟨b', o', e', h'⟩ := ha.ints.cell (k := 0) h
    rw [e] at e'; injection e' with e'; injection e' with e' _
    rw [e', hA]; exact lt_of_cell? h')
  have PB := hide (show 0 < q → ∀ c o, b = some ⟨c, o, none⟩ → c < A from fun h c o e => by
    obtain ⟨b', o', e', h'⟩ := hb.ints.cell (k := 0) h
    rw [e] at e'; injection e' with e'; injection e' with e' _
    rw [e', hA]; exact lt_of_cell? h')
  have FL := hide (falling_any w6 pa n cn ps (hr.below B6.out) hn)
  have ST := hide (fun (s : EffS) (i : Nat) (Bi : Nat) (W : World) (hi : i < n) (hB : A + 6 ≤ Bi) (h : EffI n (A + 4) (A + 2) (A + 5) A Bi (A + 3) pa cn ps i a p ws b q os s W) (hW : A + 5 < W.heap.size) =>
    along_eff (effStep ps i) (fun s => falses s.1) (EffI n (A + 4) (A + 2) (A + 5) A Bi (A + 3) pa cn ps i a p ws b q os) (EffV (A + 4) (A + 2)) (.pointer (some ⟨A + 5, 0, none⟩)) (.pointer (some ⟨A, 0, none⟩)) (.pointer (some ⟨Bi, 0, none⟩)) (.pointer (some ⟨A + 3, 0, none⟩)) W a p ca ws b q cb os n ha.2 hb.2
      (fun s V V' h k => h.below k) (fun s V h => ⟨h.la, h.lb⟩) (by rintro (h | h) <;> omega)
      (fun s k V h hs k0 kn => eff1_any n (A + 4) (A + 2) (A + 5) A Bi (A + 3) pa cn ps i a p ws b q os hn hi (by omega) (fun c o e => by have := PP.out (by omega) c o e; omega) (fun h c o e => by have := PA.out h c o e; omega) (fun h c o e => by have := PB.out h c o e; omega) s k V h k0 kn)
      (fun s k V h k0 kn ht => by
        unfold effStep at ht ⊢
        by_cases h1 : s.1.getD k.toNat false = true
        · rw [if_pos h1] at ht; cases ht
        · rw [if_neg h1]
          exact falses_set s.1 k.toNat (by rw [h.l1]; omega) (by simpa using h1))
      s i h (.inr ⟨by omega, by omega⟩))
  have HW := hide (show w6 = (((((w.alloc (.cells #[.slice pa n cn] 31)).alloc (.cells #[.slice a p ca, .slice b q cb, .int .i64 (n : Int)] 44)).alloc (.cells Cp 39)).alloc (.cells #[.slice (some ⟨A + 2, 0, none⟩) n n] 31)).alloc (.cells Cb 4)).alloc (.cells #[.slice (some ⟨A + 4, 0, none⟩) n n] 54) from by rw [hw6, hw5, hw4, hw3, hw2, hw1])
  have HA := hide hA
  have HL := hide hl
  have HN := hide hn
  have S6 := hide s6
  have n2 : (n : Int) ≤ 25 := by omega
  have n0 : (0 : Int) ≤ (n : Int) := by omega
  have mkp := run_make_prios n hn
  have mkb := run_make_bools n hn
  rw [← hCp] at mkp
  rw [← hCb] at mkb
  clear k1 k2 k3 k4 k5 k46 k36 k26 k16 hw1 hw2 hw3 hw4 hw5 hw6 s1 s2 s3 s4 s5 s6 ha hb hr hA hl hn hCp hCb
  go_enter Try.func21, Try.ntmps21
  go_upto_region 4 with fail
  rw [← HA.out, show A + 1 + 1 + 1 + 1 + 1 = A + 5 from rfl, show A + 1 + 1 + 1 + 1 = A + 4 from rfl, show A + 1 + 1 + 1 = A + 3 from rfl, show A + 1 + 1 = A + 2 from rfl, ← HW.out]
  clear mkp mkb HW
  have cb6 := BB6.out.cell
  go_wp2_with (go_at_call 34; refine FL.out.mono ?_; rintro e w7 ⟨g, G, rfl, h1, h2, h3, h4, h5, h6⟩; have GG := hide h1; have GR := hide h2; have B7 := hide h3; have GI := hide h4; have GA := hide h5; have GS := hide h6; clear h1 h2 h3 h4 h5 h6)
  clear cb6 FL
  have nv : ∀ B, B ≠ A + 4 → B ≠ A + 2 → ¬ EffV (A + 4) (A + 2) B := fun B h1 h2 h => by rcases h with h | h; exact h1 h; exact h2 h
  have NV := hide nv
  clear nv
  go_loopw [26] (fun kv wr => ∃ (k : Nat) (s : EffS), k ≤ n ∧ kv = .int .i64 (k : Int) ∧ Hid (BoolsAt wr (A + 4) s.1 ∧ PrsAt wr (A + 2) s.2 ∧ Touch (EffV (A + 4) (A + 2)) w7 wr ∧ EffOK ws os ps n G k s)) (fun kv _ => n - (intOf kv).toNat)
  case atStart => exact ⟨0, (List.replicate n false, List.replicate n prD), Nat.zero_le _, rfl, LR6.out.keep (B7.out.block _ (lt_of_heap LR6.out)), PR6.out.keep (B7.out.block _ (lt_of_heap PR6.out)), Touch.refl _ _, EffOK.start ws os ps n G⟩
  case round =>
    obtain ⟨k, s, hk, rfl, hZ⟩ := hrel
    rename World => w8
    have L8 := hide hZ.out.1
    have P8 := hide hZ.out.2.1
    have T8 := hide hZ.out.2.2.1
    have OK := hide hZ.out.2.2.2
    clear hZ
    have GE := hide (show g ≠ A + 4 ∧ g ≠ A + 2 ∧ A + 6 ≤ g from by have := GG.out; have := S6.out; omega)
    have NX : NetAt w8 (A + 1) a p ca b q cb n := (T8.out.block (A + 1) (lt_of_heap (NN6.out.below B7.out)) (NV.out _ (by omega) (by omega))).trans (NN6.out.below B7.out)
    have EX : BoxAt w8 (A + 3) 31 (.slice (some ⟨A + 2, 0, none⟩) n n) := (EB6.out.below B7.out).touch T8.out (NV.out _ (by omega) (by omega))
    by_cases hlt : k < n
    · have k0 : (0 : Int) ≤ (k : Int) := by omega
      have k1 : (k : Int) < (n : Int) := by omega
      have R8 := GR.out.keep (T8.out.block g GR.out.lt (NV.out _ GE.out.1 GE.out.2.1))
      have ck := R8.cell hlt
      obtain ⟨i, hi, hGi⟩ := GI.out k hlt
      rw [hGi] at ck
      obtain ⟨w9, hw9⟩ : ∃ w9, w9 = w8.alloc (.cells #[.int .i64 (i : Int)] 3) := ⟨_, rfl⟩
      obtain ⟨Bi, hBi⟩ : ∃ B, B = w8.heap.size := ⟨_, rfl⟩
      have b9 : Below w8.heap.size w8 w9 := by rw [hw9]; exact (Below.refl _ w8).alloc (Nat.le_refl _) _
      have sz : A + 6 ≤ w8.heap.size := by have := T8.out.size; have := B7.out.size; have := S6.out; omega
      have X9 : EffI n (A + 4) (A + 2) (A + 5) A Bi (A + 3) pa cn ps i a p ws b q os s w9 := by
        have t6 : Touch (EffV (A + 4) (A + 2)) w6 w8 := (Touch.of_below B7.out).trans T8.out (fun _ e => .inl e)
        refine ⟨L8.out.keep (b9.block _ (lt_of_heap L8.out)), P8.out.keep (b9.block _ (lt_of_heap P8.out)), OK.out.l1, OK.out.l2, (LX6.out.touch t6 (NV.out _ (by omega) (by omega))).below b9, (BB6.out.touch t6 (NV.out _ (by omega) (by omega))).below b9, by rw [hw9]; exact BoxAt.new w8 _ _ hBi, EX.below b9, ?_, ?_, ?_⟩
        · exact (reads_touch (RD.out.below B6.out) t6 (fun h c o e => NV.out _ (by have := PP.out h c o e; omega) (by have := PP.out h c o e; omega))).below b9
        · exact (ints_touch' (LA.out.below B6.out) t6 (fun h c o e => NV.out _ (by have := PA.out h c o e; omega) (by have := PA.out h c o e; omega))).below b9
        · exact (ints_touch' (LB.out.below B6.out) t6 (fun h c o e => NV.out _ (by have := PB.out h c o e; omega) (by have := PB.out h c o e; omega))).below b9
      have C := hide (ST.out s i Bi w9 hi (by omega) X9 (by have := b9.size; omega))
      have NEXT := hide (show EffOK ws os ps n G (k + 1) (alongF (effStep ps i) (onG ws os n) (falses s.1 + 1) s i) from OK.out.next hi hGi)
      have N9 := hide (NX.below b9)
      have I9 := hide X9.ibox
      have B9 := hide b9
      obtain ⟨t, ht⟩ : ∃ t, t = alongF (effStep ps i) (onG ws os n) (falses s.1 + 1) s i := ⟨_, rfl⟩
      rw [← ht] at NEXT
      have C2 : Hid (Calls Try.prog 28 #[.agg #[.slice a p ca, .slice b q cb, .int .i64 (n : Int)], .int .i64 (i : Int), .func (.func 35) #[] #[.pointer (some ⟨A + 5, 0, none⟩), .pointer (some ⟨A, 0, none⟩), .pointer (some ⟨Bi, 0, none⟩), .pointer (some ⟨A + 3, 0, none⟩)]] w9 fun e w' => e = .returned (.tuple #[]) ∧ EffI n (A + 4) (A + 2) (A + 5) A Bi (A + 3) pa cn ps i a p ws b q os t w' ∧ Touch (EffV (A + 4) (A + 2)) w9 w') := (show Calls _ _ _ _ _ from by rw [ht]; exact C.out)
      have HW9 := hide hw9
      have HBi := hide hBi
      clear X9 b9 hw9 hBi C ht NX EX R8 sz ST hGi hi
      go_upto_region 7 with fail
      rw [← HBi.out, ← HW9.out]
      obtain ⟨x0, x1, x2⟩ := N9.out.cells
      have ci := I9.out.cell
      clear ck HW9 HBi
      go_wp2_with (go_at_call 28; refine C2.out.mono ?_; rintro e w10 ⟨rfl, h10, t10⟩; have H10 := hide h10; have T10 := hide t10; clear h10 t10)
      go_roundw
      case rel => exact ⟨k + 1, t, by omega, by go_num, H10.out.lrow, H10.out.erow, (T8.out.trans (Touch.of_below (S := EffV (A + 4) (A + 2)) B9.out) (fun _ e => .inl e)).trans T10.out (fun _ e => .inl e), NEXT.out⟩
      case measure => simp [intOf]; omega
    · obtain rfl : k = n := by omega
      have FIN := hide (OK.out.done HL.out GI.out GA.out GS.out)
      have ce := EX.cell
      clear NX EX
      go_wp2_with fail
      go_ret
      have he : PrsAt w8 (A + 2) (effG ws os ps) := by rw [← FIN.out]; exact P8.out
      have el : (effG ws os ps).length = k := by rw [effG_length]; exact HL.out
      refine ⟨_, rfl, ⟨by rw [flat_len, el], .inr ⟨A + 2, k, _, rfl, by have := HA.out; omega, he, Nat.le_refl _, by have := HN.out; unfold maxLen; omega, by simp only [List.size_toArray]; rw [flat_len, el], ?_⟩⟩, ?_⟩
      · rw [List.take_of_length_le (by show ((effG ws os ps).flatMap prVals).length ≤ k * 3; rw [flat_len, el]; exact Nat.le_refl _)]
      · exact (B6.out.trans (B7.out.mono B6.out.size)).trans (T8.out.below (B6.out.trans (B7.out.mono B6.out.size)).size (fun i h => by have := HA.out; rcases h with h | h <;> omega))
theorem pgraphL : PGraph where
  on := fun w a p ca ws b q cb os n i ha hb _ _ _ => pon_any w a p ca ws b q cb os n i ha hb
  chain := fun w a p ca ws b q cb os n i ha hb _ hn _ => pchain_any w a p ca ws b q cb os n i ha hb hn
  acyc := fun w a p ca ws b q cb os n ha hb _ hn => pacyc_any w a p ca ws b q cb os n ha hb hn
  eff := fun w pa n cn ps a p ca ws b q cb os hr _ _ _ _ hn ha hb => peff_any w pa n cn ps a p ca ws b q cb os hr hn ha hb
end Go.Proofs.Ythbhbanhgmaopaa
