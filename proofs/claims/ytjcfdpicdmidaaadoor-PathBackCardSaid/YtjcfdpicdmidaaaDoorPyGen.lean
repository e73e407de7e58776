/-
  strings.Split at a slash, strings.Clone, strings.Join at a slash.
-/
import Derived.Test.YtjcfdpicdmidaaaDoorPyWrong
import Derived.Laws.MakeOwn
import Derived.Deep.OwnRows
namespace Go.Proofs.YtjcfdpicdmidaaaDoor
open Go.ChangeShapes Go.WideShapes Go.ChangeAt Go.RowKit Go.Shelf
set_option linter.unusedVariables false
set_option linter.unusedSimpArgs false
theorem cuts_len (cur r : Txt) : (cutsA cur r).length = r.count 47 + 1 := by
  induction r generalizing cur with
  | nil => simp [cutsA]
  | cons c r ih =>
    unfold cutsA
    by_cases h : c = 47
    · rw [if_pos h, List.length_cons, ih, h, List.count_cons_self]
    · rw [if_neg h, ih, List.count_cons_of_ne h]
theorem count_any (w : World) (s : Txt) : Calls Tryd.prog 37 #[.string (bt s), .string (ByteArray.mk #[47])] w fun e w' => e = .returned (.int .i64 ((s.count 47 : Nat) : Int)) ∧ w = w' := by
  have := Any.strings_Count_one Tryd.cnt (bt s) 47 w
  rw [bt_toList] at this
  exact this.mono (by rintro e w' ⟨h1, h2⟩; exact ⟨h1, h2.symm⟩)
theorem txt_info : (Tryd.prog.info? 9).map (fun i => (i.zero, i.size, i.bytes)) = some (some (.string ByteArray.empty), 1, 16) := by kernel_rfl
theorem made_texts (n : Nat) : madeCells #[Value.string ByteArray.empty] n = (List.replicate n (Value.string ByteArray.empty)).toArray := by
  apply Array.ext
  · simp [size_madeCells]
  · intro i h1 h2
    simp [madeCells, Nat.mod_one]
theorem set_text {L : List Value} {k m : Nat} {v z : Value} (h : L.length = k) (hm : 0 < m) : (L ++ List.replicate m z).set k v = (L ++ [v]) ++ List.replicate (m - 1) z := by
  obtain ⟨j, rfl⟩ : ∃ j, m = j + 1 := ⟨m - 1, by omega⟩
  rw [List.set_append_right _ _ (by omega), h, Nat.sub_self, List.replicate_succ, List.set_cons_zero]
  simp
theorem txs_len (l : List Txt) : (l.flatMap txVals).length = l.length := by
  induction l with
  | nil => rfl
  | cons a l ih => rw [List.flatMap_cons, List.length_append, ih, txVals_len, List.length_cons]; omega
theorem txs_snoc (l : List Txt) (p : Txt) : (l ++ [p]).flatMap txVals = l.flatMap txVals ++ [.string (bt p)] := by simp [txVals]
set_option maxRecDepth 10000 in
set_option maxHeartbeats 4000000 in
theorem genSplit_any (w : World) (s : Txt) (hs : s.length ≤ 1000000) : Calls Tryd.prog 26 #[.string (bt s), .string (ByteArray.mk #[47]), .int .i64 0, .int .i64 (-1)] w fun e w' =>
    ∃ v, e = .returned v ∧ w'.ownsRow w.heap.size 9 1 v (cutsA [] s).length ((cutsA [] s).flatMap txVals) ∧ Below w.heap.size w w' := by
  obtain ⟨q, hq⟩ : ∃ q, q = s.count 47 := ⟨_, rfl⟩
  have qn : q ≤ s.length := by rw [hq]; exact List.count_le_length
  have CN := hide (fun W => count_any W s)
  rw [← hq] at CN
  have ZN := hide (show (cutsA [] s).length = q + 1 from by rw [cuts_len, hq])
  obtain ⟨n, hn⟩ : ∃ n, n = q + 1 := ⟨_, rfl⟩
  rw [ZN.out, ← hn]
  obtain ⟨z, hz⟩ : ∃ z, (bt s).size = z ∧ q ≤ z ∧ z ≤ 1000000 := ⟨_, rfl, by rw [bt_size]; exact qn, by rw [bt_size]; exact hs⟩
  obtain ⟨z0, z1, z2⟩ := hz
  have hmk : ∀ X : World, (Instr.makeSlice 23 (.int .i64 (n : Int)) (.int .i64 (n : Int))).run Tryd.prog X = .ok (.slice (some ⟨X.heap.size, 0, none⟩) n n) (X.alloc (.cells (Array.replicate n (Value.string ByteArray.empty)) 9)) := fun X => by
    have := run_make_row' (P := Tryd.prog) 23 9 (.string ByteArray.empty) 16 Tryd.underlying23 txt_info rfl .i64 .i64 n (by omega) (by omega) X
    rw [made_texts] at this
    simpa using this
  have OW := hide (show (w.alloc (.cells (Array.replicate n (Value.string ByteArray.empty)) 9)).ownsRow w.heap.size 9 1 (.slice (some ⟨w.heap.size, 0, none⟩) n n) n (List.replicate n (Value.string ByteArray.empty)) from by
    refine ⟨by simp, .inr ⟨_, _, _, rfl, Nat.le_refl _, heap_alloc_new w _, Nat.le_refl _, by unfold maxLen; omega, by simp, by simp⟩⟩)
  have l1 : ¬ ((z : Int) + 1 < (q : Int) + 1) := by omega
  have l2 : (q : Int) + 1 ≤ (z : Int) + 1 := by omega
  clear hs qn hq
  go_enter Tryd.func26, Tryd.ntmps26
  go_upto_region 7 with (go_at_call 37; refine (CN.out _).mono ?_; rintro e w' ⟨rfl, rfl⟩)
  go_cut [3] (fun v wx => v = .int .i64 (n : Int) ∧ wx = w)
  case first =>
    go_wp2_with fail
    all_goals go_meet
    all_goals exact ⟨by congr 1; omega, rfl⟩
  case rest =>
    obtain ⟨rfl, rfl⟩ := hcut
    have q1 : (n : Int) - 1 = (q : Int) := by omega
    have HN := hide hn
    have n1 : (n : Int) ≤ 1000001 := by omega
    clear l1 l2 hn
    go_wp2_with fail
    obtain ⟨B, hB⟩ : ∃ B, B = wc.heap.size := ⟨_, rfl⟩
    have BB := hide (show Below wc.heap.size wc (wc.alloc (.cells (Array.replicate n (Value.string ByteArray.empty)) 9)) from (Below.refl _ _).alloc (Nat.le_refl _) _)
    rw [← hB] at OW ⊢
    have HB := hide hB
    clear hB
    generalize wc.alloc (.cells (Array.replicate n (Value.string ByteArray.empty)) 9) = W0 at *
    go_loopw [0, 10] (fun sv iv wr => ∃ (k : Nat) (r : Txt), k ≤ q ∧ sv = .string (bt r) ∧ iv = .int .i64 (k : Int) ∧ Hid (∃ pre : List Txt, pre.length = k ∧ cutsA [] s = pre ++ cutsA [] r ∧ r.length ≤ 1000000 ∧ r.count 47 = q - k ∧ wr.ownsRow B 9 1 (.slice (some ⟨B, 0, none⟩) n n) n (pre.flatMap txVals ++ List.replicate (n - k) (Value.string ByteArray.empty)) ∧ Below wc.heap.size wc wr)) (fun _ iv _ => q - (intOf iv).toNat)
    case atStart => exact ⟨0, s, Nat.zero_le _, rfl, rfl, [], rfl, rfl, by rw [← bt_size s, z0]; exact z2, by have := ZN.out; rw [cuts_len] at this; omega, OW.out, BB.out⟩
    case round =>
      obtain ⟨k, r, hk, rfl, rfl, hZ⟩ := hrel
      obtain ⟨pre, hl, hc, hr, hcnt, ho, hb⟩ := hZ.out
      have hLL : (pre.flatMap txVals ++ List.replicate (n - k) (Value.string ByteArray.empty)).length = n := by have := HN.out; rw [List.length_append, txs_len, List.length_replicate]; omega
      have u0 := ho.cellAt k (by have := HN.out; omega)
      have f0 := ho.frozenAt k
      have k0 : (0 : Int) ≤ (k : Int) := by omega
      have kn : (k : Int) < (n : Int) := by have := HN.out; omega
      obtain ⟨u, hu⟩ : ∃ u, wr.cell? ⟨B, k, none⟩ = some u := ⟨_, u0.trans (List.getElem?_eq_getElem (by rw [hLL]; have := HN.out; omega))⟩
      clear hLL
      by_cases hlt : k < q
      · have k1 : (k : Int) < (q : Int) := by omega
        rcases indexByte_cases r 47 with ⟨_, hf⟩ | ⟨o, hi, hf, hfo⟩
        · exfalso
          have : 0 < r.count 47 := by omega
          obtain ⟨j, hj⟩ := List.mem_iff_getElem?.1 (List.count_pos_iff.1 this)
          exact hf j hj
        · have olt : o < r.length := (List.getElem?_eq_some_iff.1 hf).1
          have CI := hide (show ∀ W, Calls Tryd.prog 35 #[.string (bt r), .string (ByteArray.mk #[47])] W fun e w' => e = .returned (.int .i64 (o : Int)) ∧ W = w' from fun W => by have := index_any W r; rwa [hi] at this)
          have hcs := cuts_some hf hfo
          have NX := hide (show ∃ pre' : List Txt, pre'.length = k + 1 ∧ cutsA [] s = pre' ++ cutsA [] (r.drop (o + 1)) ∧ (r.drop (o + 1)).length ≤ 1000000 ∧ (r.drop (o + 1)).count 47 = q - (k + 1) ∧ (wr.setCell ⟨B, k, none⟩ (.string (bt (r.take o)))).ownsRow B 9 1 (.slice (some ⟨B, 0, none⟩) n n) n (pre'.flatMap txVals ++ List.replicate (n - (k + 1)) (Value.string ByteArray.empty)) ∧ Below wc.heap.size wc (wr.setCell ⟨B, k, none⟩ (.string (bt (r.take o)))) from by
            refine ⟨pre ++ [r.take o], by simp [hl], by rw [hc, hcs]; simp, by rw [List.length_drop]; omega, ?_, ?_, hb.setCell (p := ⟨B, k, none⟩) (by rw [HB.out]; exact Nat.le_refl _) _⟩
            · have h1 := congrArg List.length hcs
              rw [List.length_cons, cuts_len, cuts_len] at h1
              omega
            · have h1 := (ho.stored k (.string (bt (r.take o)))).1
              rw [set_text (by rw [txs_len, hl]) (by have := HN.out; omega)] at h1
              rw [txs_snoc, show n - (k + 1) = n - k - 1 from by omega]
              exact h1)
          have o1 : o ≤ 1000000 := by omega
          have o0 : (0 : Int) ≤ (o : Int) := by omega
          have SF := fun W => run_front_bt W r (o := o) (by omega)
          have SR := fun W => run_rest_bt W r (o := o + 1) (by omega)
          rw [show ((o + 1 : Nat) : Int) = (o : Int) + 1 from by omega] at SR
          have zp : (ByteArray.mk #[47]).size = 1 := rfl
          generalize r.take o = p at *
          generalize r.drop (o + 1) = r2 at *
          clear hc hr hcnt ho hb hZ hi hf hfo hcs u0 olt
          go_wp2_with (go_at_call 35; refine (CI.out _).mono ?_; rintro e w' ⟨rfl, rfl⟩)
          go_roundw
          case rel => exact ⟨k + 1, r2, by omega, rfl, by go_num, NX.out⟩
          case measure => simp [intOf]; omega
      · obtain rfl : k = q := by omega
        have hn0 : ∀ j : Nat, r[j]? ≠ some 47 := fun j hj => by
          have : 0 < r.count 47 := List.count_pos_iff.2 (List.mem_of_getElem? hj)
          omega
        have NX := hide (show (wr.setCell ⟨B, k, none⟩ (.string (bt r))).ownsRow B 9 1 (.slice (some ⟨B, 0, none⟩) n n) n ((cutsA [] s).flatMap txVals) ∧ Below wc.heap.size wc (wr.setCell ⟨B, k, none⟩ (.string (bt r))) from by
          refine ⟨?_, hb.setCell (p := ⟨B, k, none⟩) (by rw [HB.out]; exact Nat.le_refl _) _⟩
          have h1 := (ho.stored k (.string (bt r))).1
          rw [set_text (by rw [txs_len, hl]) (by have := HN.out; omega), show n - k - 1 = 0 from by have := HN.out; omega] at h1
          rw [hc, cuts_none hn0, txs_snoc]
          simpa using h1)
        have q2 : (k : Int) + 1 = (n : Int) := by omega
        clear hc hr hcnt ho hb hZ hn0 u0 q1
        go_wp2_with fail
        go_ret
        exact ⟨_, rfl, by rw [← HB.out]; exact NX.out.1, NX.out.2⟩
set_option maxHeartbeats 2000000 in
theorem splits_any (w : World) (s : Txt) (hs : s.length ≤ 1000000) : Calls Tryd.prog 20 #[.string (bt s), .string (ByteArray.mk #[47])] w fun e w' =>
    ∃ v, e = .returned v ∧ w'.ownsRow w.heap.size 9 1 v (cutsA [] s).length ((cutsA [] s).flatMap txVals) ∧ Below w.heap.size w w' := by
  have G := hide (genSplit_any w s hs)
  clear hs
  go_enter Tryd.func20, Tryd.ntmps20
  go_wp2_with (go_at_call 26; refine G.out.mono ?_; rintro e w1 ⟨v, rfl, o1, b1⟩; have N := hide (And.intro o1 b1); clear o1 b1)
  go_ret
  exact ⟨_, rfl, N.out.1, N.out.2⟩
set_option maxHeartbeats 2000000 in
theorem clone_any (w : World) (s : Txt) (hs : s.length ≤ 1000000) : Calls Tryd.prog 21 #[.string (bt s)] w fun e w' => e = .returned (.string (bt s)) ∧ Below w.heap.size w w' := by
  have G := hide (Any.stringslite_Clone Tryd.clone (bt s) w (by rw [bt_size]; omega))
  clear hs
  go_enter Tryd.func21, Tryd.ntmps21
  go_wp2_with (go_at_call 27; refine G.out.mono ?_; rintro e w1 ⟨rfl, b1⟩; have N := hide b1; clear b1)
  go_ret
  exact ⟨rfl, N.out⟩
theorem buildX : Builder.Extra Tryd.prog Tryd.join_ren where
  sizeBuilder := by kernel_rfl
  liesBuilder := by kernel_rfl
  t5 := Tryd.underlying5
  a5 := Tryd.isAgg5
  z5 := Tryd.sizeOf5
  v5 := Tryd.zeroValue5
  infoByte := by kernel_rfl
  cellsByte := by kernel_rfl
  sizeByte := by kernel_rfl
  neB5 := by decide
theorem joined_intercalate {l : List Txt} (h : l ≠ []) : joined l = 47 :: Lib.join l [47] := by
  cases l with
  | nil => exact absurd rfl h
  | cons p ps =>
    rw [Lib.join_cons]
    clear h
    show 47 :: (p ++ joined ps) = 47 :: (p ++ Lib.joinTail [47] ps)
    congr 2
/-- strings.Join at a slash: the names put together, but for the first slash. -/
theorem joins_any (w : World) (a : Option Addr) (n c : Nat) (ps : List Txt) (hr : Reads 1 txVals w a n ps) (hc : n ≤ c) (hn : n ≤ 1000) (hl : (Lib.join ps [47]).length ≤ 1000000) :
    Calls Tryd.prog 24 #[.slice a n c, .string (ByteArray.mk #[47])] w fun e w' => e = .returned (.string (bt (Lib.join ps [47]))) ∧ Below w.heap.size w w' := by
  by_cases h0 : n = 0
  · subst h0
    have : ps = [] := List.eq_nil_of_length_eq_zero hr.1
    subst this
    refine (Any.strings_Join_none Tryd.join buildX a c (ByteArray.mk #[47]) w).mono ?_
    rintro e w' ⟨h1, rfl⟩
    exact ⟨h1, Below.refl _ _⟩
  · obtain ⟨x, b, o, hx, ha, hcell⟩ := hr.text (k := 0) (by omega)
    subst ha
    have hL := hr.1
    have M : (ps.map bt).map (fun y => y.data.toList) = ps := by
      rw [List.map_map]
      conv => rhs; rw [← List.map_id ps]
      exact List.map_congr_left (fun y _ => by simp [bt])
    have := Any.strings_Join Tryd.join buildX b o c (ps.map bt) (ByteArray.mk #[47]) w (fun j y hy => by
        rw [List.getElem?_map] at hy
        obtain ⟨z, hz, rfl⟩ := Option.map_eq_some_iff.1 hy
        obtain ⟨x2, b2, o2, e1, e2, e3⟩ := hr.text (k := j) (by rw [← hL]; exact (List.getElem?_eq_some_iff.1 hz).1)
        rw [hz] at e1
        injection e1 with e1
        injection e2 with e2
        injection e2 with e2 e4
        subst e1 e2 e4
        exact e3) (lt_of_cell? hcell) (by rw [List.length_map]; omega) (by rw [List.length_map]; omega) (by rw [M]; show (Lib.join ps [47]).length ≤ _; omega)
    rw [M, List.length_map, hL] at this
    exact this
end Go.Proofs.YtjcfdpicdmidaaaDoor
