/-
  Several texts as one: PyGen PyPath.
-/
import Derived.Laws.MakeOwn
import Derived.Deep.OwnRows
import Derived.Test.YtndfnglcichngaaGreatDoorPa28
import Derived.Test.YtndfnglcichngaaGreatDoorPa12
namespace Go.Proofs.YtndfnglcichngaaGreatDoor
open Go.ChangeShapes Go.WideShapes Go.ChangeAt Go.RowKit Go.Shelf
set_option linter.unusedVariables false
set_option linter.unusedSimpArgs false
theorem cuts_len (cur r : Txt) : (cutsA cur r).length = r.count 47 + 1 := by
  induction r generalizing cur with
  | nil => simp [cutsA]
  | cons c r ih =>
    unfold cutsA
    by_cases h : c = 47
    · rw [if_pos h, List.length_cons, ih, h, List.count_cons_self]
    · rw [if_neg h, ih, List.count_cons_of_ne h]
theorem count_any (w : World) (s : Txt) : Calls Tryz.prog 145 #[.string (bt s), .string (ByteArray.mk #[47])] w fun e w' => e = .returned (.int .i64 ((s.count 47 : Nat) : Int)) ∧ w = w' := by
  have := Any.strings_Count_one Tryz.cnt (bt s) 47 w
  rw [bt_toList] at this
  exact this.mono (by rintro e w' ⟨h1, h2⟩; exact ⟨h1, h2.symm⟩)
theorem txt_info : (Tryz.prog.info? 9).map (fun i => (i.zero, i.size, i.bytes)) = some (some (.string ByteArray.empty), 1, 16) := by kernel_rfl
theorem made_texts (n : Nat) : madeCells #[Value.string ByteArray.empty] n = (List.replicate n (Value.string ByteArray.empty)).toArray := by
  apply Array.ext
  · simp [size_madeCells]
  · intro i h1 h2
    simp [madeCells, Nat.mod_one]
theorem set_text {L : List Value} {k m : Nat} {v z : Value} (h : L.length = k) (hm : 0 < m) : (L ++ List.replicate m z).set k v = (L ++ [v]) ++ List.replicate (m - 1) z := by
  obtain ⟨j, rfl⟩ : ∃ j, m = j + 1 := ⟨m - 1, by omega⟩
  rw [List.set_append_right _ _ (by omega), h, Nat.sub_self, List.replicate_succ, List.set_cons_zero]
  simp
theorem txs_len (l : List Txt) : (l.flatMap txVals).length = l.length := by
  induction l with
  | nil => rfl
  | cons a l ih => rw [List.flatMap_cons, List.length_append, ih, txVals_len, List.length_cons]; omega
theorem txs_snoc (l : List Txt) (p : Txt) : (l ++ [p]).flatMap txVals = l.flatMap txVals ++ [.string (bt p)] := by simp [txVals]
set_option maxRecDepth 10000 in
set_option maxHeartbeats 4000000 in
theorem genSplit_any (w : World) (s : Txt) (hs : s.length ≤ 1000000) : Calls Tryz.prog 128 #[.string (bt s), .string (ByteArray.mk #[47]), .int .i64 0, .int .i64 (-1)] w fun e w' =>
    ∃ v, e = .returned v ∧ w'.ownsRow w.heap.size 9 1 v (cutsA [] s).length ((cutsA [] s).flatMap txVals) ∧ Below w.heap.size w w' := by
  obtain ⟨q, hq⟩ : ∃ q, q = s.count 47 := ⟨_, rfl⟩
  have qn : q ≤ s.length := by rw [hq]; exact List.count_le_length
  have CN := hide (fun W => count_any W s)
  rw [← hq] at CN
  have ZN := hide (show (cutsA [] s).length = q + 1 from by rw [cuts_len, hq])
  obtain ⟨n, hn⟩ : ∃ n, n = q + 1 := ⟨_, rfl⟩
  rw [ZN.out, ← hn]
  obtain ⟨z, hz⟩ : ∃ z, (bt s).size = z ∧ q ≤ z ∧ z ≤ 1000000 := ⟨_, rfl, by rw [bt_size]; exact qn, by rw [bt_size]; exact hs⟩
  obtain ⟨z0, z1, z2⟩ := hz
  have hmk : ∀ X : World, (Instr.makeSlice 106 (.int .i64 (n : Int)) (.int .i64 (n : Int))).run Tryz.prog X = .ok (.slice (some ⟨X.heap.size, 0, none⟩) n n) (X.alloc (.cells (Array.replicate n (Value.string ByteArray.empty)) 9)) := fun X => by
    have := run_make_row' (P := Tryz.prog) 106 9 (.string ByteArray.empty) 16 Tryz.underlying106 txt_info rfl .i64 .i64 n (by omega) (by omega) X
    rw [made_texts] at this
    simpa using this
  have OW := hide (show (w.alloc (.cells (Array.replicate n (Value.string ByteArray.empty)) 9)).ownsRow w.heap.size 9 1 (.slice (some ⟨w.heap.size, 0, none⟩) n n) n (List.replicate n (Value.string ByteArray.empty)) from by
    refine ⟨by simp, .inr ⟨_, _, _, rfl, Nat.le_refl _, heap_alloc_new w _, Nat.le_refl _, by unfold maxLen; omega, by simp, by simp⟩⟩)
  have l1 : ¬ ((z : Int) + 1 < (q : Int) + 1) := by omega
  have l2 : (q : Int) + 1 ≤ (z : Int) + 1 := by omega
  clear hs qn hq
  go_enter Tryz.func128, Tryz.ntmps128
  go_upto_region 7 with (go_at_call 145; refine (CN.out _).mono ?_; rintro e w' ⟨rfl, rfl⟩)
  go_cut [3] (fun v wx => v = .int .i64 (n : Int) ∧ wx = w)
  case first =>
    go_wp2_with fail
    all_goals go_meet
    all_goals exact ⟨by congr 1; omega, rfl⟩
  case rest =>
    obtain ⟨rfl, rfl⟩ := hcut
    have q1 : (n : Int) - 1 = (q : Int) := by omega
    have HN := hide hn
    have n1 : (n : Int) ≤ 1000001 := by omega
    clear l1 l2 hn
    go_wp2_with fail
    obtain ⟨B, hB⟩ : ∃ B, B = wc.heap.size := ⟨_, rfl⟩
    have BB := hide (show Below wc.heap.size wc (wc.alloc (.cells (Array.replicate n (Value.string ByteArray.empty)) 9)) from (Below.refl _ _).alloc (Nat.le_refl _) _)
    rw [← hB] at OW ⊢
    have HB := hide hB
    clear hB
    generalize wc.alloc (.cells (Array.replicate n (Value.string ByteArray.empty)) 9) = W0 at *
    go_loopw [0, 10] (fun sv iv wr => ∃ (k : Nat) (r : Txt), k ≤ q ∧ sv = .string (bt r) ∧ iv = .int .i64 (k : Int) ∧ Hid (∃ pre : List Txt, pre.length = k ∧ cutsA [] s = pre ++ cutsA [] r ∧ r.length ≤ 1000000 ∧ r.count 47 = q - k ∧ wr.ownsRow B 9 1 (.slice (some ⟨B, 0, none⟩) n n) n (pre.flatMap txVals ++ List.replicate (n - k) (Value.string ByteArray.empty)) ∧ Below wc.heap.size wc wr)) (fun _ iv _ => q - (intOf iv).toNat)
    case atStart => exact ⟨0, s, Nat.zero_le _, rfl, rfl, [], rfl, rfl, by rw [← bt_size s, z0]; exact z2, by have := ZN.out; rw [cuts_len] at this; omega, OW.out, BB.out⟩
    case round =>
      obtain ⟨k, r, hk, rfl, rfl, hZ⟩ := hrel
      obtain ⟨pre, hl, hc, hr, hcnt, ho, hb⟩ := hZ.out
      have hLL : (pre.flatMap txVals ++ List.replicate (n - k) (Value.string ByteArray.empty)).length = n := by have := HN.out; rw [List.length_append, txs_len, List.length_replicate]; omega
      have u0 := ho.cellAt k (by have := HN.out; omega)
      have f0 := ho.frozenAt k
      have k0 : (0 : Int) ≤ (k : Int) := by omega
      have kn : (k : Int) < (n : Int) := by have := HN.out; omega
      obtain ⟨u, hu⟩ : ∃ u, wr.cell? ⟨B, k, none⟩ = some u := ⟨_, u0.trans (List.getElem?_eq_getElem (by rw [hLL]; have := HN.out; omega))⟩
      clear hLL
      by_cases hlt : k < q
      · have k1 : (k : Int) < (q : Int) := by omega
        rcases indexByte_cases r 47 with ⟨_, hf⟩ | ⟨o, hi, hf, hfo⟩
        · exfalso
          have : 0 < r.count 47 := by omega
          obtain ⟨j, hj⟩ := List.mem_iff_getElem?.1 (List.count_pos_iff.1 this)
          exact hf j hj
        · have olt : o < r.length := (List.getElem?_eq_some_iff.1 hf).1
          have CI := hide (show ∀ W, Calls Tryz.prog 143 #[.string (bt r), .string (ByteArray.mk #[47])] W fun e w' => e = .returned (.int .i64 (o : Int)) ∧ W = w' from fun W => by have := index_any W r; rwa [hi] at this)
          have hcs := cuts_some hf hfo
          have NX := hide (show ∃ pre' : List Txt, pre'.length = k + 1 ∧ cutsA [] s = pre' ++ cutsA [] (r.drop (o + 1)) ∧ (r.drop (o + 1)).length ≤ 1000000 ∧ (r.drop (o + 1)).count 47 = q - (k + 1) ∧ (wr.setCell ⟨B, k, none⟩ (.string (bt (r.take o)))).ownsRow B 9 1 (.slice (some ⟨B, 0, none⟩) n n) n (pre'.flatMap txVals ++ List.replicate (n - (k + 1)) (Value.string ByteArray.empty)) ∧ Below wc.heap.size wc (wr.setCell ⟨B, k, none⟩ (.string (bt (r.take o)))) from by
            refine ⟨pre ++ [r.take o], by simp [hl], by rw [hc, hcs]; simp, by rw [List.length_drop]; omega, ?_, ?_, hb.setCell (p := ⟨B, k, none⟩) (by rw [HB.out]; exact Nat.le_refl _) _⟩
            · have h1 := congrArg List.length hcs
              rw [List.length_cons, cuts_len, cuts_len] at h1
              omega
            · have h1 := (ho.stored k (.string (bt (r.take o)))).1
              rw [set_text (by rw [txs_len, hl]) (by have := HN.out; omega)] at h1
              rw [txs_snoc, show n - (k + 1) = n - k - 1 from by omega]
              exact h1)
          have o1 : o ≤ 1000000 := by omega
          have o0 : (0 : Int) ≤ (o : Int) := by omega
          have SF := fun W => run_front_bt W r (o := o) (by omega)
          have SR := fun W => run_rest_bt W r (o := o + 1) (by omega)
          rw [show ((o + 1 : Nat) : Int) = (o : Int) + 1 from by omega] at SR
          have zp : (ByteArray.mk #[47]).size = 1 := rfl
          generalize r.take o = p at *
          generalize r.drop (o + 1) = r2 at *
          clear hc hr hcnt ho hb hZ hi hf hfo hcs u0 olt
          go_wp2_with (go_at_call 143; refine (CI.out _).mono ?_; rintro e w' ⟨rfl, rfl⟩)
          go_roundw
          case rel => exact ⟨k + 1, r2, by omega, rfl, by go_num, NX.out⟩
          case measure => simp [intOf]; omega
      · obtain rfl : k = q := by omega
        have hn0 : ∀ j : Nat, r[j]? ≠ some 47 := fun j hj => by
          have : 0 < r.count 47 := List.count_pos_iff.2 (List.mem_of_getElem? hj)
          omega
        have NX := hide (show (wr.setCell ⟨B, k, none⟩ (.string (bt r))).ownsRow B 9 1 (.slice (some ⟨B, 0, none⟩) n n) n ((cutsA [] s).flatMap txVals) ∧ Below wc.heap.size wc (wr.setCell ⟨B, k, none⟩ (.string (bt r))) from by
          refine ⟨?_, hb.setCell (p := ⟨B, k, none⟩) (by rw [HB.out]; exact Nat.le_refl _) _⟩
          have h1 := (ho.stored k (.string (bt r))).1
          rw [set_text (by rw [txs_len, hl]) (by have := HN.out; omega), show n - k - 1 = 0 from by have := HN.out; omega] at h1
          rw [hc, cuts_none hn0, txs_snoc]
          simpa using h1)
        have q2 : (k : Int) + 1 = (n : Int) := by omega
        clear hc hr hcnt ho hb hZ hn0 u0 q1
        go_wp2_with fail
        go_ret
        exact ⟨_, rfl, by rw [← HB.out]; exact NX.out.1, NX.out.2⟩
set_option maxHeartbeats 2000000 in
theorem splits_any (w : World) (s : Txt) (hs : s.length ≤ 1000000) : Calls Tryz.prog 104 #[.string (bt s), .string (ByteArray.mk #[47])] w fun e w' =>
    ∃ v, e = .returned v ∧ w'.ownsRow w.heap.size 9 1 v (cutsA [] s).length ((cutsA [] s).flatMap txVals) ∧ Below w.heap.size w w' := by
  have G := hide (genSplit_any w s hs)
  clear hs
  go_enter Tryz.func104, Tryz.ntmps104
  go_wp2_with (go_at_call 128; refine G.out.mono ?_; rintro e w1 ⟨v, rfl, o1, b1⟩; have N := hide (And.intro o1 b1); clear o1 b1)
  go_ret
  exact ⟨_, rfl, N.out.1, N.out.2⟩
set_option maxHeartbeats 2000000 in
theorem clone_any (w : World) (s : Txt) (hs : s.length ≤ 1000000) : Calls Tryz.prog 95 #[.string (bt s)] w fun e w' => e = .returned (.string (bt s)) ∧ Below w.heap.size w w' := by
  have G := hide (Any.stringslite_Clone Tryz.clone (bt s) w (by rw [bt_size]; omega))
  clear hs
  go_enter Tryz.func95, Tryz.ntmps95
  go_wp2_with (go_at_call 121; refine G.out.mono ?_; rintro e w1 ⟨rfl, b1⟩; have N := hide b1; clear b1)
  go_ret
  exact ⟨rfl, N.out⟩
theorem buildX : Builder.Extra Tryz.prog Tryz.join_ren where
  sizeBuilder := by kernel_rfl
  liesBuilder := by kernel_rfl
  t5 := Tryz.underlying5
  a5 := Tryz.isAgg5
  z5 := Tryz.sizeOf5
  v5 := Tryz.zeroValue5
  infoByte := by kernel_rfl
  cellsByte := by kernel_rfl
  sizeByte := by kernel_rfl
  neB5 := by decide
theorem joined_intercalate {l : List Txt} (h : l ≠ []) : joined l = 47 :: Lib.join l [47] := by
  cases l with
  | nil => exact absurd rfl h
  | cons p ps =>
    rw [Lib.join_cons]
    clear h
    show 47 :: (p ++ joined ps) = 47 :: (p ++ Lib.joinTail [47] ps)
    congr 2
/-- strings.Join at a slash: the names put together, but for the first slash. -/
theorem joins_any (w : World) (a : Option Addr) (n c : Nat) (ps : List Txt) (hr : Reads 1 txVals w a n ps) (hc : n ≤ c) (hn : n ≤ 1000) (hl : (Lib.join ps [47]).length ≤ 1000000) :
    Calls Tryz.prog 135 #[.slice a n c, .string (ByteArray.mk #[47])] w fun e w' => e = .returned (.string (bt (Lib.join ps [47]))) ∧ Below w.heap.size w w' := by
  by_cases h0 : n = 0
  · subst h0
    have : ps = [] := List.eq_nil_of_length_eq_zero hr.1
    subst this
    refine (Any.strings_Join_none Tryz.join buildX a c (ByteArray.mk #[47]) w).mono ?_
    rintro e w' ⟨h1, rfl⟩
    exact ⟨h1, Below.refl _ _⟩
  · obtain ⟨x, b, o, hx, ha, hcell⟩ := hr.text (k := 0) (by omega)
    subst ha
    have hL := hr.1
    have M : (ps.map bt).map (fun y => y.data.toList) = ps := by
      rw [List.map_map]
      conv => rhs; rw [← List.map_id ps]
      exact List.map_congr_left (fun y _ => by simp [bt])
    have := Any.strings_Join Tryz.join buildX b o c (ps.map bt) (ByteArray.mk #[47]) w (fun j y hy => by
        rw [List.getElem?_map] at hy
        obtain ⟨z, hz, rfl⟩ := Option.map_eq_some_iff.1 hy
        obtain ⟨x2, b2, o2, e1, e2, e3⟩ := hr.text (k := j) (by rw [← hL]; exact (List.getElem?_eq_some_iff.1 hz).1)
        rw [hz] at e1
        injection e1 with e1
        injection e2 with e2
        injection e2 with e2 e4
        subst e1 e2 e4
        exact e3) (lt_of_cell? hcell) (by rw [List.length_map]; omega) (by rw [List.length_map]; omega) (by rw [M]; show (Lib.join ps [47]).length ≤ _; omega)
    rw [M, List.length_map, hL] at this
    exact this
end Go.Proofs.YtndfnglcichngaaGreatDoor
namespace Go.Proofs.YtndfnglcichngaaGreatDoor
open Go.ChangeShapes Go.WideShapes Go.ChangeAt Go.RowKit Go.Shelf
set_option linter.unusedVariables false
set_option linter.unusedSimpArgs false
theorem wrongS_any (w : World) (s : Txt) (hs : s.length ≤ 1000000) :
    Calls Tryz.prog 102 #[.func (.func 141) #[] #[.pointer (some ⟨w.heap.size + 1, 0, none⟩), .pointer (some ⟨w.heap.size, 0, none⟩), .pointer (some ⟨w.heap.size + 1 + 1, 0, none⟩)], .func (.func 37) #[] #[]]
      (((w.alloc (.cells #[.string (bt s)] 9)).alloc (.cells #[.string (ByteArray.mk #[47])] 9)).alloc (.cells #[.int .i64 0] 3)) fun e w' => e = .returned (.int .i64 (wrongE (cutsA [] s))) ∧ Below w.heap.size w w' := by
  obtain ⟨w1, hw1⟩ : ∃ w1, w1 = ((w.alloc (.cells #[.string (bt s)] 9)).alloc (.cells #[.string (ByteArray.mk #[47])] 9)).alloc (.cells #[.int .i64 0] 3) := ⟨_, rfl⟩
  rw [← hw1]
  have b1 : Below w.heap.size w w1 := by rw [hw1]; exact (((Below.refl w.heap.size w).alloc (Nat.le_refl _) _).alloc (by simp) _).alloc (by simp; omega) _
  have s1 : w1.heap.size = w.heap.size + 3 := by rw [hw1]; simp
  have e0 : Boxed w1 w.heap.size 9 (.string (bt s)) := by rw [hw1]; exact ((Boxed.new w _ _).alloc _).alloc _
  have e1 : Boxed w1 (w.heap.size + 1) 9 (.string (ByteArray.mk #[47])) := by
    have := (Boxed.new (w.alloc (.cells #[.string (bt s)] 9)) 9 (.string (ByteArray.mk #[47]))).alloc (.cells #[.int .i64 0] 3)
    rw [World.size_alloc, ← hw1] at this; exact this
  have e2 : Boxed w1 (w.heap.size + 1 + 1) 3 (.int .i64 0) := by
    have := Boxed.new ((w.alloc (.cells #[.string (bt s)] 9)).alloc (.cells #[.string (ByteArray.mk #[47])] 9)) 3 (.int .i64 0)
    rw [World.size_alloc, World.size_alloc, ← hw1] at this; exact this
  have cl : (cutsA [] s).length ≤ 1000001 := by rw [cuts_len]; have := List.count_le_length (a := (47 : UInt8)) (l := s); omega
  refine (pwrong_any w1 141 _ (cutsA [] s) cl (fun i => i = w.heap.size) (fun i hi => by subst hi; rw [s1]; omega) (enters_of Tryz.func141 (by kernel_rfl) rfl) (fun w2 V b v => ?_)).mono ?_
  · exact split1_by 2 (by omega) w2 s hs (w.heap.size + 1) w.heap.size (w.heap.size + 1 + 1) V (boxed_below e1 b) (boxed_below e0 b) (boxed_below e2 b) (fun h => by have := v _ h; omega) (fun h => by have := v _ h; omega) (fun h => by have := v _ h; omega) (by omega) (by omega)
  · rintro e w3 ⟨h1, h2⟩
    exact ⟨h1, b1.trans (h2.below b1.size (fun i hi => by subst hi; exact Nat.le_refl _))⟩
theorem wrongV_any (w : World) (a : Option Addr) (n c : Nat) (ps : List Txt) (hr : Reads 1 txVals w a n ps) (hn : n ≤ 1000) :
    Calls Tryz.prog 102 #[.func (.func 146) #[] #[.pointer (some ⟨w.heap.size, 0, none⟩)], .func (.func 37) #[] #[]]
      (w.alloc (.cells #[.slice a n c] 106)) fun e w' => e = .returned (.int .i64 (wrongE ps)) ∧ Below w.heap.size w w' := by
  have b1 : Below w.heap.size w (w.alloc (.cells #[.slice a n c] 106)) := (Below.refl w.heap.size w).alloc (Nat.le_refl _) _
  have s1 : (w.alloc (.cells #[.slice a n c] 106)).heap.size = w.heap.size + 1 := by simp
  have e0 : Boxed (w.alloc (.cells #[.slice a n c] 106)) w.heap.size 106 (.slice a n c) := Boxed.new w _ _
  have r1 := hr.below b1
  have hl := hr.1
  have lo : 0 < n → ∀ b o, a = some ⟨b, o, none⟩ → b < w.heap.size := fun h b o e => by
    obtain ⟨x, b2, o2, _, e2, hc⟩ := hr.text h
    rw [e] at e2
    injection e2 with e2
    injection e2 with e2 _
    rw [e2]
    exact lt_of_cell? hc
  generalize (w.alloc (.cells #[.slice a n c] 106)) = w1 at *
  refine (pwrong_any w1 146 _ ps (by omega) (fun _ => False) (fun i hi => hi.elim) (enters_of Tryz.func146 (by kernel_rfl) rfl) (fun w2 V b v => ?_)).mono ?_
  · exact values1_by 2 (by omega) w2 a n c ps (by omega) w.heap.size V (boxed_below e0 b) (r1.below b) (fun h => by have := v _ h; omega) (fun h bb o e hv => by have := v _ hv; have := lo h bb o e; omega)
  · rintro e w3 ⟨h1, h2⟩
    exact ⟨h1, b1.trans (h2.below b1.size (fun i hi => hi.elim))⟩
set_option maxRecDepth 10000 in
set_option maxHeartbeats 8000000 in
theorem psplit_any (w : World) (s : Txt) (hs : s.length ≤ 1000000) : Calls Tryz.prog 62 #[.string (bt s)] w (SplitIs w s) := by
  by_cases h0 : s = []
  · have e0 := bt_emptyY h0
    have HN := hide (show splitT s = ([], 9) from by unfold splitT; rw [if_pos h0])
    clear h0 hs
    go_enter Tryz.func62, Tryz.ntmps62
    go_wp2_with fail
    go_ret2
    exact SplitIs.none HN.out (Below.refl _ _)
  have e0 := bt_emptyN h0
  obtain ⟨c0, hc0⟩ : ∃ c, s[0]? = some c := ⟨_, List.getElem?_eq_getElem (by cases s with | nil => exact absurd rfl h0 | cons a b => simp)⟩
  have hix := fun W => run_index_bt W s hc0
  rw [show ((0 : Nat) : Int) = 0 from rfl] at hix
  obtain ⟨y0, hy0⟩ : ∃ y : Int, y = (c0.toNat : Int) := ⟨_, rfl⟩
  rw [← hy0] at hix
  by_cases h47 : c0 = 47
  case neg =>
    have y47 : (y0 != 47) = true := by
      have : ¬ y0 = 47 := by rw [hy0]; exact fun e => h47 ((u8_iff c0 47 (by omega)).1 e)
      simpa using this
    have HN := hide (show splitT s = ([], 19) from by unfold splitT; rw [if_neg h0, if_pos (by rw [hc0]; simpa using h47)])
    clear h0 hs hc0 hy0 h47
    go_enter Tryz.func62, Tryz.ntmps62
    go_wp2_with fail
    go_ret2
    exact SplitIs.none HN.out (Below.refl _ _)
  case pos =>
    have y47 : (y0 != 47) = false := by
      have : y0 = 47 := by rw [hy0]; exact (u8_iff c0 47 (by omega)).2 h47
      simp [this]
    by_cases h1 : s = [47]
    · have e1 := bt_yes h1
      have HN := hide (show splitT s = ([], 0) from by rw [h1]; rfl)
      clear h0 hs hc0 hy0 h47 h1
      go_enter Tryz.func62, Tryz.ntmps62
      go_wp2_with fail
      go_ret2
      exact SplitIs.none HN.out (Below.refl _ _)
    have e1 := bt_no h1
    have hlen : 1 ≤ s.length := by cases s with | nil => exact absurd rfl h0 | cons a b => simp
    have SR := fun W => run_rest_bt W s (o := 1) hlen
    rw [show ((1 : Nat) : Int) = 1 from rfl] at SR
    obtain ⟨r, hr⟩ : ∃ r, r = s.drop 1 := ⟨_, rfl⟩
    have hrl : r.length ≤ 1000000 := by rw [hr, List.length_drop]; omega
    have HS := hide (show splitT s = if firstE (cutsA [] r) ≠ 0 then ([], firstE (cutsA [] r)) else if 6 < (cutsA [] r).length then ([], 20) else (cutsA [] r, 0) from by
      unfold splitT; rw [if_neg h0, if_neg (by rw [hc0, h47]; simp), if_neg h1, ← hr])
    rw [← hr] at SR
    have CW := hide (wrongS_any w r hrl)
    obtain ⟨E, hE⟩ : ∃ E, E = wrongE (cutsA [] r) := ⟨_, rfl⟩
    rw [← hE] at CW
    have LR := hide hrl
    by_cases hz : E = 0
    · have HN := hide (show splitT s = (cutsA [] r, 0) from by
        have : wrongE (cutsA [] r) = 0 := by rw [← hE]; exact hz
        unfold wrongE at this
        rw [HS.out]
        by_cases k : firstE (cutsA [] r) = 0
        · rw [if_neg (by rw [k]; simp)] at this ⊢
          by_cases k6 : 6 < (cutsA [] r).length
          · rw [if_pos k6] at this; cases this
          · rw [if_neg k6]
        · rw [if_pos k] at this; exact absurd this k)
      subst hz
      clear h0 hs hc0 hy0 h47 h1 hr hrl hlen hE
      go_enter Tryz.func62, Tryz.ntmps62
      go_wp2_with (first
        | (go_at_call 103; refine (splitSeqs_any _ _ _).mono ?_; rintro e w' ⟨rfl, rfl⟩)
        | (go_at_call 102; refine CW.out.mono ?_; rintro e w1 ⟨rfl, b1⟩; have B1 := hide b1; clear b1)
        | (go_at_call 95; refine (clone_any _ _ LR.out).mono ?_; rintro e w2 ⟨rfl, b2⟩; have B2 := hide (B1.out.trans (b2.mono B1.out.size)); clear b2)
        | (go_at_call 104; refine (splits_any _ _ LR.out).mono ?_; rintro e w3 ⟨v, rfl, o3, b3⟩; have B3 := hide (B2.out.trans (b3.mono B2.out.size)); have O3 := hide (own_base o3 B2.out.size); clear b3 o3))
      go_ret2
      refine ⟨v, by rw [HN.out]; rfl, ?_, B3.out⟩
      rw [HN.out]
      exact O3.out
    · have nE : (E != 0) = true := by simpa using hz
      have HN := hide (show splitT s = ([], E) from by
        rw [HS.out]
        unfold wrongE at hE
        by_cases k : firstE (cutsA [] r) = 0
        · rw [if_neg (by rw [k]; simp)] at hE
          rw [if_neg (by rw [k]; simp)]
          by_cases k6 : 6 < (cutsA [] r).length
          · rw [if_pos k6] at hE; rw [if_pos k6, hE]
          · rw [if_neg k6] at hE; exact absurd hE hz
        · rw [if_pos k] at hE
          rw [if_pos k, hE])
      clear h0 hs hc0 hy0 h47 h1 hr hrl hlen hE hz
      go_enter Tryz.func62, Tryz.ntmps62
      go_wp2_with (first
        | (go_at_call 103; refine (splitSeqs_any _ _ _).mono ?_; rintro e w' ⟨rfl, rfl⟩)
        | (go_at_call 102; refine CW.out.mono ?_; rintro e w1 ⟨rfl, b1⟩; have B1 := hide b1; clear b1))
      go_ret2
      exact SplitIs.none HN.out B1.out
set_option maxRecDepth 10000 in
set_option maxHeartbeats 8000000 in
theorem pjoin_any (w : World) (a : Option Addr) (n c : Nat) (ps : List Txt) (h : Reads 1 txVals w a n ps) (hc : n ≤ c) (hn : n ≤ 1000) (hl : ∀ p ∈ ps, p.length ≤ 1000) :
    Calls Tryz.prog 122 #[.slice a n c] w fun e w' => e = .returned (.tuple #[.string (bt (joinT ps).1), .int .i64 (joinT ps).2]) ∧ Below w.heap.size w w' := by
  have CW := hide (wrongV_any w a n c ps h hn)
  obtain ⟨E, hE⟩ : ∃ E, E = wrongE ps := ⟨_, rfl⟩
  rw [← hE] at CW
  have HL := h.1
  by_cases hz : E = 0
  · have hw : firstE ps = 0 ∧ ps.length ≤ 6 := by
      have : wrongE ps = 0 := by rw [← hE]; exact hz
      unfold wrongE at this
      by_cases k : firstE ps = 0
      · rw [if_neg (by rw [k]; simp)] at this
        by_cases k6 : 6 < ps.length
        · rw [if_pos k6] at this; cases this
        · exact ⟨k, by omega⟩
      · rw [if_pos k] at this; exact absurd this k
    obtain ⟨J, hJ⟩ : ∃ J, J = Lib.join ps [47] := ⟨_, rfl⟩
    have jl : J.length ≤ 54 := by
      by_cases k : ps = []
      · rw [hJ, k]; decide
      · have := joined_size hw.1
        rw [joined_intercalate k, ← hJ, List.length_cons] at this
        omega
    have CJ := hide (fun (W : World) (b : Below w.heap.size w W) => joins_any W a n c ps (h.below b) hc hn (by rw [← hJ]; omega))
    rw [← hJ] at CJ
    have HN := hide (show joinT ps = (47 :: J, 0) from by
      unfold joinT
      rw [if_neg (by rw [hw.1]; simp), if_neg (by omega)]
      by_cases k : ps = []
      · rw [if_pos k, hJ, k]; rfl
      · rw [if_neg k, joined_intercalate k, ← hJ])
    have AD := fun W => run_add_bt W [47] J (by simp; omega)
    rw [show bt [47] = ByteArray.mk #[47] from rfl] at AD
    subst hz
    clear h hc hn hl hE HL hw hJ jl
    go_enter Tryz.func122, Tryz.ntmps122
    go_wp2_with (first
      | (go_at_call 134; refine (values_any _ _ _ _).mono ?_; rintro e w' ⟨rfl, rfl⟩)
      | (go_at_call 102; refine CW.out.mono ?_; rintro e w1 ⟨rfl, b1⟩; have B1 := hide b1; clear b1)
      | (go_at_call 135; refine (CJ.out _ B1.out).mono ?_; rintro e w2 ⟨rfl, b2⟩; have B2 := hide (B1.out.trans (b2.mono B1.out.size)); clear b2))
    go_ret2
    exact ⟨by rw [HN.out]; rfl, B2.out⟩
  · have nE : (E != 0) = true := by simpa using hz
    have HN := hide (show joinT ps = ([], E) from by
      unfold joinT
      unfold wrongE at hE
      by_cases k : firstE ps = 0
      · rw [if_neg (by rw [k]; simp)] at hE
        rw [if_neg (by rw [k]; simp)]
        by_cases k6 : 6 < ps.length
        · rw [if_pos k6] at hE; rw [if_pos k6, hE]
        · rw [if_neg k6] at hE; exact absurd hE hz
      · rw [if_pos k] at hE
        rw [if_pos k, hE])
    clear h hc hn hl hE HL hz
    go_enter Tryz.func122, Tryz.ntmps122
    go_wp2_with (first
      | (go_at_call 134; refine (values_any _ _ _ _).mono ?_; rintro e w' ⟨rfl, rfl⟩)
      | (go_at_call 102; refine CW.out.mono ?_; rintro e w1 ⟨rfl, b1⟩; have B1 := hide b1; clear b1))
    go_ret2
    exact ⟨by rw [HN.out]; rfl, B1.out⟩
set_option maxRecDepth 10000 in
set_option maxHeartbeats 8000000 in
theorem ppar_any (w : World) (s : Txt) (hs : s.length ≤ 1000000) : Calls Tryz.prog 96 #[.string (bt s)] w (ParIs w s) := by
  have SP := hide (psplit_any w s hs)
  obtain ⟨E, hE⟩ : ∃ E, E = (splitT s).2 := ⟨_, rfl⟩
  by_cases h0 : E = 0
  · have hb : (E != 0) = false := by rw [h0]; rfl
    obtain ⟨ls, hls⟩ : ∃ ls, ls = (splitT s).1 := ⟨_, rfl⟩
    have hok : firstE ls = 0 := by rw [hls]; exact splitT_names (by rw [← hE]; exact h0)
    have h6 : ls.length ≤ 6 := by rw [hls]; exact (split_join (by rw [← hE]; exact h0)).2
    rcases List.eq_nil_or_concat ls with hn | ⟨ini, last, hn⟩
    · have HP := hide (show parT s = ([], [], 19) from by unfold parT; rw [if_neg (by rw [← hE, h0]; simp), if_pos (by rw [← hls]; exact hn)])
      have SQ := hide (show Calls Tryz.prog 62 #[.string (bt s)] w (fun e w' => ∃ A c, e = .returned (.tuple #[.slice A 0 c, .int .i64 0]) ∧ Below w.heap.size w w') from SP.out.mono fun e w' hh => by
        obtain ⟨v, h1, h2, h3⟩ := hh
        rw [← hls, hn] at h2
        obtain ⟨A, c, rfl, _⟩ := own_sliceT h2
        exact ⟨A, c, by rw [h1, ← hE, h0] <;> rfl, h3⟩)
      clear SP hE h0 hls hok h6 hn hb
      go_enter Tryz.func96, Tryz.ntmps96
      go_wp2_with (go_at_call 62; refine SQ.out.mono ?_; rintro e w1 ⟨A, c, rfl, b1⟩; have B1 := hide b1; clear b1)
      go_ret3
      exact ⟨by rw [HP.out]; rfl, B1.out⟩
    · rw [List.concat_eq_append] at hn
      obtain ⟨m, hm⟩ : ∃ m, m = ini.length := ⟨_, rfl⟩
      have m5 : m ≤ 5 := by rw [hn] at h6; simp at h6; omega
      have hl : ls.length = m + 1 := by rw [hn, hm]; simp
      have hini : firstE ini = 0 := firstE_zero.2 fun p hp => firstE_zero.1 hok p (by rw [hn]; simp [hp])
      have HP := hide (show parT s = ((joinT ini).1, last, 0) from by
        unfold parT
        rw [if_neg (by rw [← hE, h0]; simp), if_neg (by rw [← hls, hn]; simp), ← hls, hn]
        simp)
      have SQ := hide (show Calls Tryz.prog 62 #[.string (bt s)] w (fun e w' => ∃ g c, e = .returned (.tuple #[.slice (some ⟨g, 0, none⟩) (m + 1) c, .int .i64 0]) ∧ m + 1 ≤ c ∧ Reads 1 txVals w' (some ⟨g, 0, none⟩) (m + 1) (ini ++ [last]) ∧ Below w.heap.size w w') from SP.out.mono fun e w' hh => by
        obtain ⟨v, h1, h2, h3⟩ := hh
        rw [← hls, hl] at h2
        obtain ⟨A, c, rfl, hr, hc, _, _⟩ := own_reads txVals_len (by omega) h2
        rw [hn] at hr
        rcases h2.2 with ⟨e1, _⟩ | ⟨g, cap, cur, e1, _⟩
        · cases e1
        · injection e1 with e1 _ e2
          subst e1
          exact ⟨g, c, by rw [h1, ← hE, h0] <;> rfl, hc, hr, h3⟩)
      have JL := hide (fun (p : Txt) (hp : p ∈ ini) => show p.length ≤ 1000 from by have := (nameE_ok (firstE_zero.1 hini p hp)).2.1; omega)
      have J2 := hide (show (joinT ini).2 = 0 from by unfold joinT; rw [if_neg (by rw [hini]; simp), if_neg (by omega)]; split <;> rfl)
      have LT := hide (show (ini ++ [last])[m]? = some last from by rw [hm]; simp)
      have TK := hide (show (ini ++ [last]).take m = ini from by rw [hm]; simp)
      clear SP hE h0 hls hok h6 hn hb hl hini hm
      go_enter Tryz.func96, Tryz.ntmps96
      go_wp2_with (first
        | (go_at_call 62; refine SQ.out.mono ?_; rintro e w1 ⟨g, c, rfl, hc, hr, b1⟩; have B1 := hide b1; have RD := hide (show Reads 1 txVals w1 (some ⟨g, 0, none⟩) m ini from by have := hr.front (k := m) (by omega); rwa [TK.out] at this); have q0 : w1.cell? ⟨g, m, none⟩ = some (.string (bt last)) := (by obtain ⟨x, b, o, h1, h2, h3⟩ := hr.text (k := m) (by omega); rw [LT.out] at h1; injection h1 with h1; injection h2 with h2; injection h2 with h2 h4; subst h1 h2 h4; simpa using h3); clear b1 hr)
        | (go_at_call 122; refine (pjoin_any _ _ _ _ ini RD.out (by omega) (by omega) JL.out).mono ?_; rintro e w2 ⟨rfl, b2⟩; have B2 := hide (B1.out.trans (b2.mono B1.out.size)); have q2 := (b2.cell (lt_of_cell? q0)).trans q0; clear b2))
      go_quiet (fail)
      go_wp2_with fail
      go_ret3
      exact ⟨by rw [HP.out, J2.out]; rfl, below_drewN B2.out _⟩
  · have hb : (E != 0) = true := by simpa using h0
    have HP := hide (show parT s = ([], [], E) from by unfold parT; rw [if_pos (by rw [← hE]; exact h0), hE])
    have SQ := hide (show Calls Tryz.prog 62 #[.string (bt s)] w (fun e w' => ∃ A n c, e = .returned (.tuple #[.slice A n c, .int .i64 E]) ∧ Below w.heap.size w w') from SP.out.mono fun e w' hh => by
      obtain ⟨v, h1, h2, h3⟩ := hh
      obtain ⟨A, c, rfl, _⟩ := own_sliceT h2
      exact ⟨A, _, c, by rw [h1, ← hE], h3⟩)
    clear SP hE h0
    go_enter Tryz.func96, Tryz.ntmps96
    go_wp2_with (go_at_call 62; refine SQ.out.mono ?_; rintro e w1 ⟨A, n, c, rfl, b1⟩; have B1 := hide b1; clear b1)
    go_ret3
    exact ⟨by rw [HP.out]; rfl, B1.out⟩
theorem ppath : PPath where
  name := fun w s hs => (pname_any w s).mono (by rintro e w' ⟨h1, rfl⟩; exact ⟨h1, Below.refl _ _⟩)
  split := psplit_any
  join := pjoin_any
  parent := ppar_any
end Go.Proofs.YtndfnglcichngaaGreatDoor
