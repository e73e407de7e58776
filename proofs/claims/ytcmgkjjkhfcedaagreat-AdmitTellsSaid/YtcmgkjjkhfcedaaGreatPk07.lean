/-
  What the walks lean on, part 7: AdRefG AdRefH.
-/
import Derived.Test.YtcmgkjjkhfcedaaGreatPk06
/-
  The document's own demand (coxswainref17): Fits (ahead of chapter 18's Admit).
-/
namespace Go.Proofs.YtcmgkjjkhfcedaaGreat
open Go.ChangeShapes Go.WideShapes Go.ChangeAt Go.RowKit
set_option linter.unusedVariables false
theorem ints_three18 {w : World} {x y z : Int} {t : TypeId} : Ints .i64 (w.alloc (.cells #[.int .i64 x, .int .i64 y, .int .i64 z] t)) (some ⟨w.heap.size, 0, none⟩) 3 [x, y, z] := ⟨rfl, fun _ => ⟨_, _, rfl, fun j hj => by
  have h : j = 0 ∨ j = 1 ∨ j = 2 := by omega
  rcases h with rfl | rfl | rfl <;> (rw [cell_of_row _ _ _ _ _ _ (heap_alloc_new _ _)]; rfl)⟩⟩
set_option maxRecDepth 20000 in
set_option maxHeartbeats 8000000 in
theorem rfits17_any (w : World) (block : Int) (a : Option Addr) (n c : Nat) (ps : List Pt) (b : Option Addr) (m d : Nat) (es : List Er) (most : Int) (hr : Reads 2 ptVals w a n ps) (hn : n ≤ 400) (hnil : a = none → c = 0) (he : Reads 3 erVals w b m es) (hm : m ≤ 400) :
    Calls Tryz.prog 55 #[.int .i64 block, .slice a n c, .slice b m d, .int .i64 most] w fun e w' => ∃ x ok, e = .returned (.tuple #[.int .i64 x, .bool ok]) ∧ IsFits block ps es most x ok ∧ Below w.heap.size w w' := by
  obtain ⟨i0, hi0, hz0, hz1, hz2⟩ := info_parts rpart_info
  have I0 := hide (show Tryz.prog.info? 37 = some i0 ∧ i0.zero = some _ ∧ i0.size = 2 ∧ i0.bytes = 16 from ⟨hi0, hz0, hz1, hz2⟩)
  have HR := hide (show ∀ Y : World, Below w.heap.size w Y → Reads 2 ptVals Y a n ps from fun Y q => hr.below q)
  have HE := hide (show ∀ Y : World, Below w.heap.size w Y → Reads 3 erVals Y b m es from fun Y q => he.below q)
  have HL := hide he.1
  have NL := hide hnil
  have HN := hide hn
  have HM := hide hm
  have n2 : (n : Int) ≤ 400 := by omega
  have m2 : (m : Int) ≤ 400 := by omega
  have NE := hide (fun (Y : World) (q : Below w.heap.size w Y) (s : Int) => rneed17_any Y s b m d es (HE.out Y q) (by omega))
  have WK := hide (fun (Y : World) (q : Below w.heap.size w Y) (s : Int) => rwork_any Y s a n c ps (HR.out Y q) (by omega))
  obtain ⟨r, ok, hR⟩ := IsResp.there 0 block (ps ++ es.map partE) most
  have RR := hide hR
  have BU := hide (show ∀ (Y : World) (A : Option Addr) (C : Nat), Reads 2 ptVals Y A (n + m) (ps ++ es.map partE) → Calls Tryz.prog 84 #[.int .i64 block, .slice A (n + m) C, .int .i64 most] Y fun e w' => e = .returned (.tuple #[.int .i64 r, .bool ok]) ∧ ∃ k, w' = Y.drewN k from fun Y A C h => (rbusy17_any Y block A (n + m) C _ most h (by omega)).mono (by
    rintro e w' ⟨r', ok', rfl, h', q⟩
    obtain ⟨rfl, rfl⟩ := h'.same RR.out
    exact ⟨rfl, q⟩))
  clear hr he hnil hn hm hR hi0 hz0 hz1 hz2
  go_enter Tryz.func55, Tryz.ntmps55
  go_wp2_with (at_builtin; refine wpList_append_reads rfl (.const (.slice none 0 0)) (.tmp 16) _ rfl w.heap.size 37 i0 _ 16 Tryz.underlying33 I0.out.1 I0.out.2.1 I0.out.2.2.1 I0.out.2.2.2 rfl (by omega) _ 0 [] rfl (World.ownsRow_nil _ _ _ _) a n c ps rfl ptVals_len ptVals_cell (HR.out _ (Below.refl _ _)) NL.out (by have := HN.out; unfold maxLen; omega) (by have := HN.out; omega) (Nat.le_refl _) ?_; intro v2 w2 o2 g2; rw [Nat.zero_add, List.nil_append] at o2; have O2 := hide o2; have B2 := hide (show Below w.heap.size w w2 from (Below.refl w.heap.size w).grown g2 (Nat.le_refl _) (fun k hk => by cases hk)); clear o2 g2)
  go_loopw [10, 11] (fun v kv wr => ∃ k : Nat, k ≤ m ∧ kv = .int .i64 (k : Int) ∧ Hid (wr.ownsRow w.heap.size 37 2 v (n + k) ((ps ++ (es.take k).map partE).flatMap ptVals) ∧ Below w.heap.size w wr)) (fun _ kv _ => m - (intOf kv).toNat)
  case atStart => exact ⟨0, Nat.zero_le _, rfl, by rw [show List.map partE (es.take 0) = [] from rfl, List.append_nil]; exact O2.out, B2.out⟩
  case round =>
    obtain ⟨i, hi, rfl, hZ⟩ := hrel
    rename World => w1
    have O1 := hide hZ.out.1
    have B1 := hide hZ.out.2
    clear hZ O2 B2
    obtain ⟨A, c1, rfl⟩ := own_slicePt O1.out
    by_cases hlt : i < m
    · have i0' : (0 : Int) ≤ (i : Int) := by omega
      have i1 : (i : Int) < (m : Int) := by omega
      obtain ⟨x, eb, eo, hx, rfl, y0, y1, y2⟩ := reads_er (HE.out _ B1.out) hlt
      have NX := hide (show (ps ++ (es.take (i + 1)).map partE).flatMap ptVals = (ps ++ (es.take i).map partE).flatMap ptVals ++ [.int .i64 x.per, .int .i64 x.cost] from by
        rw [take_getE hx, List.map_append, ← List.append_assoc, List.flatMap_append]; rfl)
      have SZ := hide (show w.heap.size ≤ w1.heap.size from B1.out.size)
      clear hx
      have hi0 := I0.out.1
      have hz0 := I0.out.2.1
      have hz1 := I0.out.2.2.1
      have hz2 := I0.out.2.2.2
      go_upto_region 5 with fail
      go_region_law ((refine step_append_lies _ (by rfl) _ _ _ (by rfl) w.heap.size 37 i0 _ 2 16 Tryz.underlying33 hi0 hz0 hz1 hz2 rfl (by omega) (.slice A (n + i) c1) (n + i) ((ps ++ (es.take i).map partE).flatMap ptVals) (by rfl) ((O1.out.alloc _).drew) ⟨w1.heap.size, 0, none⟩ 1 1 [.int .i64 x.per, .int .i64 x.cost] (by rfl) (by rfl) (World.news_of_block (cs := #[.int .i64 x.per, .int .i64 x.cost]) (t := 37) (fr := (0, 0)) (heap_alloc_new w1 _)) (by simp [Value.oneCell']) (by omega) (by unfold maxLen; omega) (by omega) (by have := SZ.out; simp; omega) (w1.heap.size + 1) (by simp) ?_; intro gg cap w3 hown1 hgrow hat hlt'; have O3 := hide hown1; have G3 := hide hgrow; clear hown1 hgrow hat hlt'))
      all_goals
        have N3 := hide (show w3.ownsRow w.heap.size 37 2 (.slice (some ⟨gg, 0, none⟩) (n + i + 1) cap) (n + (i + 1)) ((ps ++ (es.take (i + 1)).map partE).flatMap ptVals) from by rw [NX.out]; exact O3.out)
        have B3 := hide (show Below w.heap.size w w3 from ((below_drewN (B1.out.alloc SZ.out _) 1).grown G3.out (by have := SZ.out; simp; omega) (fun k hk => (O1.out.lt k hk).1)))
        clear O3 G3
        go_wp2_with fail
        go_roundw
        case rel => exact ⟨i + 1, by omega, by go_num, N3.out, B3.out⟩
        case measure => simp [intOf]; omega
    · obtain rfl : i = m := by omega
      obtain ⟨A', c1', e1, hRA, _⟩ := own_reads ptVals_len (by omega) (xs := ps ++ es.map partE) (show w1.ownsRow w.heap.size 37 2 (.slice A (n + i) c1) (n + i) ((ps ++ es.map partE).flatMap ptVals) from by have h := O1.out; rw [List.take_of_length_le (by rw [HL.out]; exact Nat.le_refl _)] at h; exact h)
      injection e1 with e1 _ e2
      subst e1 e2
      have BW := hide (BU.out w1 A c1 hRA)
      clear hRA BU
      cases ok with
      | false =>
        go_wp2_with (go_at_call 84; refine BW.out.mono ?_; rintro e w' ⟨rfl, q, hw⟩; have B3 := hide (show Below w.heap.size w w' from by rw [hw]; exact below_drewN B1.out q); clear hw)
        exact bodyPost_ret (v := .tuple #[.int .i64 0, .bool false]) (by simp [results, Tryz.results55, go_sem]) rfl ⟨_, _, rfl, .inl ⟨r, RR.out, rfl, rfl⟩, B3.out⟩
      | true =>
        have RB := hide (show 1 ≤ r ∧ r ≤ 4096 from by rcases RR.out with ⟨_, h1, _, h2, _⟩ | ⟨h, _⟩; exact ⟨h1, h2⟩; cases h)
        have rb1 := RB.out.1
        have rb2 := RB.out.2
        go_wp2_with (go_at_call 84; refine BW.out.mono ?_; rintro e w' ⟨rfl, q, hw⟩; have B3 := hide (show Below w.heap.size w w' from by rw [hw]; exact below_drewN B1.out q); clear hw)
        go_loopw [14] (fun iv wx => ∃ k : Nat, 1 ≤ k ∧ k ≤ 4097 ∧ iv = .int .i64 (k : Int) ∧ Hid (Below w.heap.size w wx ∧ ∀ s : Int, 1 ≤ s → s < (k : Int) → ¬ badE block ps es s)) (fun iv _ => 4097 - (intOf iv).toNat)
        case atStart => exact ⟨1, by omega, by omega, rfl, B3.out, fun s h1 h2 => by omega⟩
        case round =>
          obtain ⟨k, h1, h2, rfl, hZ⟩ := hrel
          rename World => wx
          have BX := hide hZ.out.1
          have ZB := hide hZ.out.2
          clear hZ B3
          by_cases c1' : (k : Int) ≤ r
          · have c2 : (k : Int) ≤ 4096 := by omega
            obtain ⟨Ne, hNe⟩ : ∃ z, z = needE (k : Int) es := ⟨_, rfl⟩
            obtain ⟨Wo, hWo⟩ : ∃ z, z = workP (k : Int) ps := ⟨_, rfl⟩
            obtain ⟨U, hU⟩ : ∃ z, z = sum [block, Wo, Ne] := ⟨_, rfl⟩
            have BD := hide (show badE block ps es (k : Int) ↔ 0 < Ne ∧ (k : Int) < U from by unfold badE; rw [hU, hWo, hNe])
            have NK := hide (NE.out wx BX.out (k : Int))
            have WKK := hide (fun (Y : World) (q : Below w.heap.size w Y) => WK.out Y q (k : Int))
            have SM := hide (fun (Y : World) => rsum_any (some ⟨Y.heap.size, 0, none⟩) 3 3 [block, Wo, Ne] (Y.alloc (.cells #[.int .i64 block, .int .i64 Wo, .int .i64 Ne] 3)) ints_three18 (by omega))
            rw [← hNe] at NK
            rw [← hWo] at WKK
            rw [← hU] at SM
            clear hNe hWo hU
            by_cases c3 : 0 < Ne
            · by_cases c4 : (k : Int) < U
              · have FIN := hide (show IsFits block ps es most (k : Int) false from .inr ⟨r, RR.out, .inl ⟨rfl, by omega, c1', BD.out.2 ⟨c3, c4⟩, ZB.out⟩⟩)
                go_wp2_with (first
                  | (go_at_call 85; refine NK.out.mono ?_; rintro e w4 ⟨rfl, q4, hw4⟩; have B4 := hide (show Below w.heap.size w w4 from by rw [hw4]; exact below_drewN BX.out q4); clear hw4)
                  | (go_at_call 83; refine (WKK.out _ B4.out).mono ?_; rintro e w5 ⟨rfl, q5, hw5⟩; have B5 := hide (show Below w.heap.size w w5 from by rw [hw5]; exact below_drewN B4.out q5); clear hw5)
                  | (go_at_call 86; refine (SM.out _).mono ?_; rintro e w6 ⟨rfl, rfl⟩))
                exact bodyPost_ret (v := .tuple #[.int .i64 (k : Int), .bool false]) (by simp [results, Tryz.results55, go_sem]) rfl ⟨_, _, rfl, FIN.out, B5.out.alloc B5.out.size _⟩
              · have NX := hide (show ∀ s : Int, 1 ≤ s → s < ((k + 1 : Nat) : Int) → ¬ badE block ps es s from fun s s1 s2 => by
                  by_cases e : s = (k : Int)
                  · rw [e, BD.out]; omega
                  · exact ZB.out s s1 (by omega))
                go_wp2_with (first
                  | (go_at_call 85; refine NK.out.mono ?_; rintro e w4 ⟨rfl, q4, hw4⟩; have B4 := hide (show Below w.heap.size w w4 from by rw [hw4]; exact below_drewN BX.out q4); clear hw4)
                  | (go_at_call 83; refine (WKK.out _ B4.out).mono ?_; rintro e w5 ⟨rfl, q5, hw5⟩; have B5 := hide (show Below w.heap.size w w5 from by rw [hw5]; exact below_drewN B4.out q5); clear hw5)
                  | (go_at_call 86; refine (SM.out _).mono ?_; rintro e w6 ⟨rfl, rfl⟩))
                go_roundw
                case rel => exact ⟨k + 1, by omega, by omega, by go_num, B5.out.alloc B5.out.size _, NX.out⟩
                case measure => simp [intOf]; omega
            · have NX := hide (show ∀ s : Int, 1 ≤ s → s < ((k + 1 : Nat) : Int) → ¬ badE block ps es s from fun s s1 s2 => by
                by_cases e : s = (k : Int)
                · rw [e, BD.out]; omega
                · exact ZB.out s s1 (by omega))
              go_wp2_with (go_at_call 85; refine NK.out.mono ?_; rintro e w4 ⟨rfl, q4, hw4⟩; have B4 := hide (show Below w.heap.size w w4 from by rw [hw4]; exact below_drewN BX.out q4); clear hw4)
              go_roundw
              case rel => exact ⟨k + 1, by omega, by omega, by go_num, B4.out, NX.out⟩
              case measure => simp [intOf]; omega
          · have FIN := hide (show IsFits block ps es most r true from .inr ⟨r, RR.out, .inr ⟨rfl, rfl, fun s s1 s2 => ZB.out s s1 (by omega)⟩⟩)
            go_wp2_with fail
            exact bodyPost_ret (v := .tuple #[.int .i64 r, .bool true]) (by simp [results, Tryz.results55, go_sem]) rfl ⟨_, .inr ⟨rfl, FIN.out, BX.out⟩⟩
end Go.Proofs.YtcmgkjjkhfcedaaGreat
/-
  The document's own admit (coxswainref18): Response (written by tools/gen/adrefh.py).
-/
namespace Go.Proofs.YtcmgkjjkhfcedaaGreat
open Go.ChangeShapes Go.WideShapes Go.ChangeAt Go.RowKit
set_option linter.unusedVariables false
set_option linter.unusedSimpArgs false
theorem rbuilt_early (a b c : Int) : Tryz.prog.built 92 [(0, .int .i64 a), (1, .int .i64 b), (2, .int .i64 c)] = some #[.int .i64 a, .int .i64 b, .int .i64 c] := by kernel_rfl
theorem rearly_info : (Tryz.prog.info? 92).map (fun i => (i.zero, i.size, i.bytes)) = some (some (.agg #[.int .i64 0, .int .i64 0, .int .i64 0]), 3, 24) := by kernel_rfl
/-- What Response of the document answers, as one word. -/
def RespOk (c : Cp) (task : Int) (w : World) (e : Ending) (w' : World) : Prop := ∃ r ok, e = .returned (.tuple #[.int .i64 r, .bool ok]) ∧ RespC c task r ok ∧ Below w.heap.size w w'
theorem RespOk.of {c : Cp} {task r : Int} {ok : Bool} {w w' : World} (h : RespC c task r ok) (b : Below w.heap.size w w') : RespOk c task w (.returned (.tuple #[.int .i64 r, .bool ok])) w' := by
  unfold RespOk
  exact ⟨r, ok, rfl, h, b⟩
theorem RespC.of {c : Cp} {i : Nat} {a : Tp} (hm : mayC c = true) (ha : c.ts[i]? = some a) {r r0 : Int} {ok : Bool} (h : RespT c i a r0 ok) (hr : r = (if ok then r0 else 0)) : RespC c (i : Int) r ok := by
  unfold RespC
  rw [if_pos ⟨hm, by omega⟩, Int.toNat_natCast, ha]
  exact ⟨r0, h, hr⟩
theorem partsC_at {c : Cp} (hm : mayC c = true) {i : Nat} {a : Tp} (ha : c.ts[i]? = some a) : partsC c (i : Int) = partsT c i a := by
  unfold partsC
  rw [if_pos ⟨hm, by omega⟩, Int.toNat_natCast, ha]
theorem partsT_len18 (c : Cp) (i : Nat) (a : Tp) : (partsT c i a).length ≤ c.gs.length + c.ts.length := by
  unfold partsT
  rw [List.length_append, List.length_map, List.length_map]
  have h1 := List.length_filter_le (fun b => decide (b.cls = 2) && countsT a b) (c.ts.eraseIdx i)
  have h2 : (c.ts.eraseIdx i).length ≤ c.ts.length := by rw [List.length_eraseIdx]; split <;> omega
  omega
theorem respT_fixed {c : Cp} {i : Nat} {a : Tp} {r : Int} {ok : Bool} (h : a.cls = 2) (hr : IsResp a.bud (blkT c a) (partsT c i a) a.dl r ok) : RespT c i a r ok ∧ r = (if ok then r else 0) := by
  unfold RespT
  rw [if_pos h]
  refine ⟨hr, ?_⟩
  rcases hr with ⟨e, _⟩ | ⟨e, e2, _⟩
  · rw [e]; rfl
  · rw [e, e2]; rfl
theorem respT_early {c : Cp} {i : Nat} {a : Tp} {x : Int} {ok : Bool} (h : ¬ a.cls = 2) (hf : IsFits (blkT c a) (partsT c i a) (earliesT c) 4096 x ok) : RespT c i a (if ok then a.dl else 0) ok := by
  unfold RespT
  rw [if_neg h]
  exact ⟨x, hf, rfl⟩
/-- The earlies of the first k. -/
def earL (ts : List Tk) (k : Nat) : List Er := (((ts.take k).map tpOf).filter fun t => decide (t.cls = 1)).map earT
theorem earL_next {ts : List Tk} {k : Nat} {y : Tk} (h : ts[k]? = some y) : earL ts (k + 1) = earL ts k ++ (if y.cls = 1 then [⟨y.per, y.dl, y.bud⟩] else []) := by
  unfold earL
  rw [List.take_add_one, h, List.map_append, List.filter_append, List.map_append]
  congr 1
  show List.map earT (List.filter _ [tpOf y]) = _
  rw [List.filter_cons]
  by_cases e : y.cls = 1
  · rw [if_pos (show decide ((tpOf y).cls = 1) = true from decide_eq_true e), if_pos e]; rfl
  · rw [if_neg (show ¬ decide ((tpOf y).cls = 1) = true from by rw [decide_eq_true_eq]; exact e), if_neg e]; rfl
theorem earL_len (ts : List Tk) (k : Nat) : (earL ts k).length ≤ k := by
  unfold earL
  rw [List.length_map]
  refine Nat.le_trans (List.length_filter_le _ _) ?_
  rw [List.length_map, List.length_take]
  omega
set_option maxRecDepth 20000 in
set_option maxHeartbeats 8000000 in
theorem rresp18_any (w : World) (c : Cf) (hc : CfFit w c) (hg : greatCf c = false) (task : Int) :
    Calls Tryz.prog 13 #[.agg (cfVals c).toArray, .int .i64 task] w fun e w' => RespOk (cpOf c) task w e w' := by
  obtain ⟨cc, hcc⟩ : ∃ cc, cc = c := ⟨_, rfl⟩
  have HC := hide hcc
  have HG := hide (show greatCf cc = false from by rw [hcc]; exact hg)
  have FC := hide (show CfFit w cc from by rw [hcc]; exact hc)
  obtain ⟨ta, tn, tc, ts, ea, en, ec, es, ma, mn, mc, ms, ga, gn, gc, gs, frames, dog⟩ := c
  show Calls Tryz.prog 13 #[.agg #[.slice ta tn tc, .slice ea en ec, .slice ma mn mc, .slice ga gn gc, .int .i64 frames, .int .i64 dog], .int .i64 task] w _
  have F := hide hc
  have bounds : tn ≤ 12 ∧ en ≤ 12 ∧ mn ≤ 12 ∧ gn ≤ 12 ∧ ∀ t ∈ ts, t.un ≤ 12 := by
    unfold greatCf at hg
    simp only [Bool.or_eq_false_iff, decide_eq_false_iff_not] at hg
    refine ⟨by omega, by omega, by omega, by omega, fun t ht => ?_⟩
    have h := hg.1.2
    cases e : bigTk t
    · unfold bigTk at e
      simp only [Bool.or_eq_false_iff, decide_eq_false_iff_not] at e
      omega
    · rw [List.any_eq_true.2 ⟨t, ht, e⟩] at h; cases h
  obtain ⟨tn12, en12, mn12, gn12, hun⟩ := bounds
  have HUN := hide hun
  have TN := hide tn12
  have MN := hide mn12
  have GN := hide gn12
  have RT := hide F.out.tasks.reads
  have TL := hide (show ts.length = tn from RT.out.1)
  obtain ⟨W0, hW⟩ : ∃ W0, W0 = w.alloc (.cells #[.slice ta tn tc, .slice ea en ec, .slice ma mn mc, .slice ga gn gc, .int .i64 frames, .int .i64 dog] 27) := ⟨_, rfl⟩
  have hb := heap_alloc_new w (.cells #[.slice ta tn tc, .slice ea en ec, .slice ma mn mc, .slice ga gn gc, .int .i64 frames, .int .i64 dog] 27)
  have B0 := hide ((Below.refl w.heap.size w).alloc (Nat.le_refl _) (.cells #[.slice ta tn tc, .slice ea en ec, .slice ma mn mc, .slice ga gn gc, .int .i64 frames, .int .i64 dog] 27))
  rw [← hW] at hb B0
  have SC := hide (show ∀ Y : World, Below W0.heap.size W0 Y → Y.cell? ⟨w.heap.size, 0, none⟩ = some (.slice ta tn tc) ∧ Y.cell? ⟨w.heap.size, 1, none⟩ = some (.slice ea en ec) ∧ Y.cell? ⟨w.heap.size, 2, none⟩ = some (.slice ma mn mc) ∧ Y.cell? ⟨w.heap.size, 3, none⟩ = some (.slice ga gn gc) ∧ Y.cell? ⟨w.heap.size, 4, none⟩ = some (.int .i64 frames) ∧ Y.cell? ⟨w.heap.size, 5, none⟩ = some (.int .i64 dog) from fun Y b => by
    have e := (b.block _ (lt_of_heap hb)).trans hb
    refine ⟨?_, ?_, ?_, ?_, ?_, ?_⟩ <;> (rw [cell_of_row _ _ _ _ _ _ e]; rfl))
  have HW := hide hW
  have CI := hide (show ∀ Y : World, Below W0.heap.size W0 Y → CfFit Y cc from fun Y b => (FC.out.below B0.out).below b)
  obtain ⟨k0, k1, k2, k3, k4, k5⟩ := SC.out W0 (Below.refl _ _)
  clear hcc hc hg hun hW hb tn12 en12 mn12 gn12
  obtain ⟨q, hq⟩ : ∃ q, q = isC (cpOf cc) task := ⟨_, rfl⟩
  have IS := hide (show ∀ Y : World, Below W0.heap.size W0 Y → Calls Tryz.prog 38 #[.agg #[.slice ta tn tc, .slice ea en ec, .slice ma mn mc, .slice ga gn gc, .int .i64 frames, .int .i64 dog], .int .i64 task] Y fun e w' => e = .returned (.bool q) ∧ Below Y.heap.size Y w' from fun Y b => by
    have h := ris18_any Y cc (CI.out Y b) HG.out task
    rw [← hq, HC.out] at h
    exact h)
  have HQ := hide hq
  clear hq
  rw [← HC.out]
  cases q with
  | false =>
    have V := hide (show RespC (cpOf cc) task 0 false from (isC_no HQ.out.symm).2.2)
    go_enter Tryz.func13, Tryz.ntmps13
    go_upto_region 1 with fail
    rw [← HW.out]
    go_wp2_with (go_at_call 38; refine (IS.out _ (Below.refl _ _)).mono ?_; rintro e w1 ⟨rfl, b1⟩; have B1 := hide (B0.out.trans (b1.mono B0.out.size)); clear b1)
    exact bodyPost_ret (v := .tuple #[.int .i64 0, .bool false]) (by simp [results, Tryz.results13, go_sem]) rfl (RespOk.of V.out B1.out)
  | true =>
    obtain ⟨i, a, rfl, ha, hm⟩ := isC_some HQ.out.symm
    obtain ⟨x, hx, hxa⟩ : ∃ x, ts[i]? = some x ∧ tpOf x = a := by
      rw [HC.out] at ha
      obtain ⟨x, h1, h2⟩ := Option.map_eq_some_iff.1 (show (ts[i]?).map tpOf = some a from by rw [← List.getElem?_map]; exact ha)
      exact ⟨x, h1, h2⟩
    subst hxa
    have hi : i < tn := by have := (List.getElem?_eq_some_iff.1 hx).1; have := TL.out; omega
    obtain ⟨bt, ot, rfl⟩ : ∃ bt ot, ta = some ⟨bt, ot, none⟩ := by
      obtain ⟨_, b, off, _, e, _⟩ := RT.out.at_ hi
      exact ⟨b, off, e⟩
    have i0 : (0 : Int) ≤ (i : Int) := by omega
    have i1 : (i : Int) < (tn : Int) := by omega
    obtain ⟨x_cls, x_lev, x_per, x_dl, x_bud, x_line, x_ua, x_un, x_uc, x_us, x_qa, x_qn, x_qc, x_qs⟩ := x
    have CX := hide (show ∀ W : World, Below W0.heap.size W0 W → W.cell? ⟨bt, ot + i * 8, none⟩ = some (.int .i64 x_cls) ∧ W.cell? ⟨bt, ot + i * 8 + 1, none⟩ = some (.int .i64 x_lev) ∧ W.cell? ⟨bt, ot + i * 8 + 2, none⟩ = some (.int .i64 x_per) ∧ W.cell? ⟨bt, ot + i * 8 + 3, none⟩ = some (.int .i64 x_dl) ∧ W.cell? ⟨bt, ot + i * 8 + 4, none⟩ = some (.int .i64 x_bud) ∧ W.cell? ⟨bt, ot + i * 8 + 5, none⟩ = some (.int .i64 x_line) ∧ W.cell? ⟨bt, ot + i * 8 + 6, none⟩ = some (.slice x_ua x_un x_uc) ∧ W.cell? ⟨bt, ot + i * 8 + 7, none⟩ = some (.slice x_qa x_qn x_qc) from fun W b => by
      have rx := tk_range (RT.out.below (B0.out.trans (b.mono B0.out.size))) hx
      exact ⟨rx 0 _ rfl, rx 1 _ rfl, rx 2 _ rfl, rx 3 _ rfl, rx 4 _ rfl, rx 5 _ rfl, rx 6 _ rfl, rx 7 _ rfl⟩)
    obtain ⟨xt, hxt⟩ : ∃ xt, xt = tpOf ⟨x_cls, x_lev, x_per, x_dl, x_bud, x_line, x_ua, x_un, x_uc, x_us, x_qa, x_qn, x_qc, x_qs⟩ := ⟨_, rfl⟩
    have XC := hide (show xt.cls = x_cls ∧ xt.bud = x_bud ∧ xt.dl = x_dl from by rw [hxt]; exact ⟨rfl, rfl, rfl⟩)
    rw [← hxt] at ha
    have RC := hide (show ∀ (r r0 : Int) (ok : Bool), RespT (cpOf cc) i xt r0 ok → r = (if ok then r0 else 0) → RespC (cpOf cc) (i : Int) r ok from fun r r0 ok h1 h2 => RespC.of hm ha h1 h2)
    obtain ⟨BLK, hBLK⟩ : ∃ z, z = blkT (cpOf cc) xt := ⟨_, rfl⟩
    obtain ⟨PS, hPS⟩ : ∃ z, z = partsT (cpOf cc) i xt := ⟨_, rfl⟩
    have BL := hide (show ∀ Y : World, Below W0.heap.size W0 Y → Calls Tryz.prog 9 #[.agg #[.slice (some ⟨bt, ot, none⟩) tn tc, .slice ea en ec, .slice ma mn mc, .slice ga gn gc, .int .i64 frames, .int .i64 dog], .int .i64 (i : Int)] Y fun e w' => e = .returned (.int .i64 BLK) ∧ Below Y.heap.size Y w' from fun Y b => by
      have h := rblk18_any Y cc (CI.out Y b) HG.out (i : Int)
      rw [blkC_at hm ha, ← hBLK] at h
      rw [HC.out] at h
      exact h)
    obtain ⟨pn, hpn⟩ : ∃ z, z = PS.length := ⟨_, rfl⟩
    have PN := hide (show pn ≤ 24 from by
      have h := partsT_len18 (cpOf cc) i xt
      rw [← hPS, ← hpn] at h
      have h1 : (cpOf cc).gs.length ≤ 12 := by rw [HC.out]; have h0 : gs.length = gn := F.out.gaps.reads.1; have := GN.out; show gs.length ≤ 12; omega
      have h2 : (cpOf cc).ts.length ≤ 12 := by rw [HC.out]; show (ts.map tpOf).length ≤ 12; rw [List.length_map]; have := TL.out; have := TN.out; omega
      omega)
    have PA := hide (show ∀ Y : World, Below W0.heap.size W0 Y → Calls Tryz.prog 11 #[.agg #[.slice (some ⟨bt, ot, none⟩) tn tc, .slice ea en ec, .slice ma mn mc, .slice ga gn gc, .int .i64 frames, .int .i64 dog], .int .i64 (i : Int)] Y fun e w' => ∃ A C, e = .returned (.slice A pn C) ∧ Reads 2 ptVals w' A pn PS ∧ (A = none → C = 0) ∧ Below Y.heap.size Y w' from fun Y b => by
      have h := rparts18_any Y cc (CI.out Y b) HG.out (i : Int)
      rw [partsC_at hm ha, ← hPS, ← hpn] at h
      rw [HC.out] at h
      refine Calls.mono h ?_
      rintro e w' ⟨v, rfl, o, b'⟩
      obtain ⟨A, C, rfl, hr, _, _, hn⟩ := own_reads ptVals_len (by omega) o
      exact ⟨A, C, rfl, hr, hn, b'⟩)
    have HBK := hide hBLK
    have HPS := hide hPS
    clear hx ha hm hxt hBLK hPS hpn hi k0 k1 k2 k3 k4 k5
    go_enter Tryz.func13, Tryz.ntmps13
    go_upto_region 1 with fail
    rw [← HW.out]
    obtain ⟨k0, k1, k2, k3, k4, k5⟩ := SC.out W0 (Below.refl _ _)
    go_upto_region 4 with (go_at_call 38; refine (IS.out _ (Below.refl _ _)).mono ?_; rintro e w1 ⟨rfl, b1⟩; have B1 := hide b1; clear k0 k1 k2 k3 k4 k5; obtain ⟨k0, k1, k2, k3, k4, k5⟩ := SC.out w1 b1; obtain ⟨t0, t1, t2, t3, t4, t5, t6, t7⟩ := CX.out w1 b1; clear b1)
    clear k0 k1 k2 k3 k4 k5 t0 t1 t2 t3 t4 t5 t6 t7
    obtain ⟨P, hP⟩ : ∃ P, P = w1.heap.size := ⟨_, rfl⟩
    have hn2 := heap_alloc_new w1 (.cells #[.int .i64 x_cls, .int .i64 x_lev, .int .i64 x_per, .int .i64 x_dl, .int .i64 x_bud, .int .i64 x_line, .slice x_ua x_un x_uc, .slice x_qa x_qn x_qc] 47)
    have b2 := B1.out.alloc B1.out.size (.cells #[.int .i64 x_cls, .int .i64 x_lev, .int .i64 x_per, .int .i64 x_dl, .int .i64 x_bud, .int .i64 x_line, .slice x_ua x_un x_uc, .slice x_qa x_qn x_qc] 47)
    obtain ⟨w2, hw2⟩ : ∃ w2, w2 = w1.alloc (.cells #[.int .i64 x_cls, .int .i64 x_lev, .int .i64 x_per, .int .i64 x_dl, .int .i64 x_bud, .int .i64 x_line, .slice x_ua x_un x_uc, .slice x_qa x_qn x_qc] 47) := ⟨_, rfl⟩
    rw [← hw2] at hn2 b2 ⊢
    rw [← hP] at hn2 ⊢
    have B2 := hide b2
    have H2 := hide hn2
    clear b2 hn2 hw2 hP
    have SP := hide (show ∀ Y : World, Below w2.heap.size w2 Y → Y.cell? ⟨P, 0, none⟩ = some (.int .i64 x_cls) ∧ Y.cell? ⟨P, 3, none⟩ = some (.int .i64 x_dl) ∧ Y.cell? ⟨P, 4, none⟩ = some (.int .i64 x_bud) from fun Y b => by
      have e := (b.block _ (lt_of_heap H2.out)).trans H2.out
      refine ⟨?_, ?_, ?_⟩ <;> (rw [cell_of_row _ _ _ _ _ _ e]; rfl))
    obtain ⟨p0, p3, p4⟩ := SP.out w2 (Below.refl _ _)
    have SX := hide (show ∀ Y : World, Below w2.heap.size w2 Y → Y.cell? ⟨w.heap.size, 0, none⟩ = some (.slice (some ⟨bt, ot, none⟩) tn tc) ∧ Y.cell? ⟨w.heap.size, 1, none⟩ = some (.slice ea en ec) ∧ Y.cell? ⟨w.heap.size, 2, none⟩ = some (.slice ma mn mc) ∧ Y.cell? ⟨w.heap.size, 3, none⟩ = some (.slice ga gn gc) ∧ Y.cell? ⟨w.heap.size, 4, none⟩ = some (.int .i64 frames) ∧ Y.cell? ⟨w.heap.size, 5, none⟩ = some (.int .i64 dog) ∧ Y.cell? ⟨P, 3, none⟩ = some (.int .i64 x_dl) ∧ Y.cell? ⟨P, 4, none⟩ = some (.int .i64 x_bud) from fun Y b => by
      obtain ⟨k0, k1, k2, k3, k4, k5⟩ := SC.out Y (B2.out.trans (b.mono B2.out.size))
      exact ⟨k0, k1, k2, k3, k4, k5, (SP.out Y b).2.1, (SP.out Y b).2.2⟩)
    by_cases e2 : x_cls = 2
    · subst e2
      obtain ⟨r, ok, hR⟩ := IsResp.there x_bud BLK PS x_dl
      have RR := hide hR
      have RP := hide (show ∀ (Y : World) (A : Option Addr) (C : Nat), Reads 2 ptVals Y A pn PS → Calls Tryz.prog 54 #[.int .i64 x_bud, .int .i64 BLK, .slice A pn C, .int .i64 x_dl] Y fun e w' => e = .returned (.tuple #[.int .i64 r, .bool ok]) ∧ ∃ m, w' = Y.drewN m from fun Y A C h => (rresp_any Y x_bud BLK A pn C PS x_dl h (by have := PN.out; omega)).mono (by
        rintro e w' ⟨v, rfl, ⟨r', ok', rfl, h'⟩, q⟩
        obtain ⟨rfl, rfl⟩ := h'.same RR.out
        exact ⟨rfl, q⟩))
      have FIN := hide (show RespC (cpOf cc) (i : Int) r ok from by
        obtain ⟨h1, h2⟩ := respT_fixed (c := cpOf cc) (i := i) (a := xt) (r := r) (ok := ok) XC.out.1 (by rw [XC.out.2.1, XC.out.2.2, ← HBK.out, ← HPS.out]; exact RR.out)
        exact RC.out r r ok h1 h2)
      clear hR
      go_upto_region 5 with fail
      clear p0 p3 p4
      have D2 := hide (show Below w2.heap.size w2 w2.drew from below_drewN (Below.refl _ w2) 1)
      have D0 := hide (B2.out.trans (D2.out.mono B2.out.size))
      go_region_held3 (fun W => W.cell? ⟨w.heap.size, 0, none⟩ = some (.slice (some ⟨bt, ot, none⟩) tn tc) ∧ W.cell? ⟨w.heap.size, 1, none⟩ = some (.slice ea en ec) ∧ W.cell? ⟨w.heap.size, 2, none⟩ = some (.slice ma mn mc) ∧ W.cell? ⟨w.heap.size, 3, none⟩ = some (.slice ga gn gc) ∧ W.cell? ⟨w.heap.size, 4, none⟩ = some (.int .i64 frames) ∧ W.cell? ⟨w.heap.size, 5, none⟩ = some (.int .i64 dog) ∧ W.cell? ⟨P, 3, none⟩ = some (.int .i64 x_dl) ∧ W.cell? ⟨P, 4, none⟩ = some (.int .i64 x_bud)) (first | exact SX.out _ D2.out | exact SX.out _ C5.out | exact SX.out _ C6.out | exact SX.out _ C7.out) (first
        | (go_at_call 54; with_reducible refine (RP.out _ _ _ R6.out).mono ?_; rintro e w7 ⟨rfl, q7, hw7⟩; have C7 := hide (show Below w2.heap.size w2 w7 from by rw [hw7]; exact below_drewN C6.out q7); clear hw7)
        | (go_at_call 9; with_reducible refine (BL.out _ D0.out).mono ?_; rintro e w5 ⟨rfl, b5⟩; have C5 := hide (D2.out.trans (b5.mono D2.out.size)); clear b5)
        | (go_at_call 11; with_reducible refine (PA.out _ (B2.out.trans (C5.out.mono B2.out.size))).mono ?_; rintro e w6 ⟨A6, C6', rfl, r6, n6, b6⟩; have R6 := hide r6; have N6 := hide n6; have C6 := hide (C5.out.trans (b6.mono C5.out.size)); clear b6 r6 n6))
      go_wp2_with fail
      exact bodyPost_ret (v := .tuple #[.int .i64 r, .bool ok]) (by simp [results, Tryz.results13, go_sem]) rfl (RespOk.of FIN.out (B0.out.trans ((B2.out.trans (C7.out.mono B2.out.size)).mono B0.out.size)))
    · obtain ⟨j0, hj0, hz0, hz1, hz2⟩ := info_parts rearly_info
      have J0 := hide (show Tryz.prog.info? 92 = some j0 ∧ j0.zero = some _ ∧ j0.size = 3 ∧ j0.bytes = 24 from ⟨hj0, hz0, hz1, hz2⟩)
      clear hj0 hz0 hz1 hz2
      have BE := hide rbuilt_early
      go_wp2_with fail
      rw [show (x_cls == 2) = false from by simp [e2]]
      clear p0 p3 p4
      go_loopw [7, 8] (fun v kv wr => ∃ k : Nat, k ≤ tn ∧ kv = .int .i64 (k : Int) ∧ Hid (wr.ownsRow w2.heap.size 92 3 v (earL ts k).length ((earL ts k).flatMap erVals) ∧ Below w2.heap.size w2 wr)) (fun _ kv _ => tn - (intOf kv).toNat)
      case atStart => exact ⟨0, Nat.zero_le _, rfl, World.ownsRow_nil _ _ _ _, Below.refl _ _⟩
      case round =>
        obtain ⟨k, hk, rfl, hZ⟩ := hrel
        rename World => wr
        have O := hide hZ.out.1
        have BW := hide hZ.out.2
        have B := hide (B2.out.trans (BW.out.mono B2.out.size))
        clear hZ
        obtain ⟨k0, k1, k2, k3, k4, k5⟩ := SC.out wr B.out
        by_cases hlt : k < tn
        · have j0' : (0 : Int) ≤ (k : Int) := by omega
          have j1 : (k : Int) < (tn : Int) := by omega
          have TNN := TN.out
          obtain ⟨y, hy⟩ : ∃ y, ts[k]? = some y := ⟨_, List.getElem?_eq_getElem (by have := TL.out; omega)⟩
          have hcy := tk_range RT.out hy
          have NXT := hide (earL_next hy)
          have CC := hide (show ∀ Y : World, Below W0.heap.size W0 Y → Y.cell? ⟨bt, ot + k * 8, none⟩ = some (.int .i64 y.cls) ∧ Y.cell? ⟨bt, ot + k * 8 + 2, none⟩ = some (.int .i64 y.per) ∧ Y.cell? ⟨bt, ot + k * 8 + 3, none⟩ = some (.int .i64 y.dl) ∧ Y.cell? ⟨bt, ot + k * 8 + 4, none⟩ = some (.int .i64 y.bud) from fun Y b => by
            have rx := tk_range (RT.out.below (B0.out.trans (b.mono B0.out.size))) hy
            exact ⟨rx 0 _ rfl, rx 2 _ rfl, rx 3 _ rfl, rx 4 _ rfl⟩)
          obtain ⟨ycls, hycls⟩ : ∃ z, z = y.cls := ⟨_, rfl⟩
          obtain ⟨yper, hyper⟩ : ∃ z, z = y.per := ⟨_, rfl⟩
          obtain ⟨ydl, hydl⟩ : ∃ z, z = y.dl := ⟨_, rfl⟩
          obtain ⟨ybud, hybud⟩ : ∃ z, z = y.bud := ⟨_, rfl⟩
          rw [← hycls, ← hyper, ← hydl, ← hybud] at CC NXT
          have ALN := hide (earL_len ts k)
          obtain ⟨c0, c2, c3, c4⟩ := CC.out wr B.out
          clear hy hcy hycls hyper hydl hybud
          by_cases e1 : ycls = 1
          · subst e1
            have NN := hide (show earL ts (k + 1) = earL ts k ++ [⟨yper, ydl, ybud⟩] from by rw [NXT.out, if_pos rfl])
            go_upto_region 11 with fail
            clear c0 c2 c3 c4 k0 k1 k2 k3 k4 k5
            rename_i a9
            have D1 := hide (show Below wr.heap.size wr wr.drew from below_drewN (Below.refl _ wr) 1)
            have SF2 := hide (show ∀ Y : World, Below W0.heap.size W0 Y → Y.cell? ⟨w.heap.size, 0, none⟩ = some (.slice (some ⟨bt, ot, none⟩) tn tc) ∧ Y.cell? ⟨bt, ot + k * 8 + 2, none⟩ = some (.int .i64 yper) ∧ Y.cell? ⟨bt, ot + k * 8 + 3, none⟩ = some (.int .i64 ydl) ∧ Y.cell? ⟨bt, ot + k * 8 + 4, none⟩ = some (.int .i64 ybud) from fun Y b => ⟨(SC.out Y b).1, (CC.out Y b).2.1, (CC.out Y b).2.2.1, (CC.out Y b).2.2.2⟩)
            have SF := hide (fun (Y : World) (b : Below wr.heap.size wr Y) => SF2.out Y (B.out.trans (b.mono B.out.size)))
            have hbp := BE.out yper ydl ybud
            obtain ⟨L, hL⟩ : ∃ L, L = earL ts k := ⟨_, rfl⟩
            rw [← hL] at O NN ALN
            clear hL
            refine wp_region_noPanic ?_
            refine wp_region_held_drew (S := (fun W => W.cell? ⟨w.heap.size, 0, none⟩ = some (.slice (some ⟨bt, ot, none⟩) tn tc) ∧ W.cell? ⟨bt, ot + k * 8 + 2, none⟩ = some (.int .i64 yper) ∧ W.cell? ⟨bt, ot + k * 8 + 3, none⟩ = some (.int .i64 ydl) ∧ W.cell? ⟨bt, ot + k * 8 + 4, none⟩ = some (.int .i64 ybud))) (by kernel_rfl) (SF.out _ D1.out) (fun hHeld => ?_)
            refine wpAnyH_take (i := 0) (v := ?_) rfl (by kernel_rfl) (by kernel_rfl) (by kernel_rfl) (fun _ _ _ h => h) (Or.inl ⟨by kernel_rfl, ?_⟩) (by assumption) ?_
            rotate_left
            · intro w hSw
              (try dsimp only at hSw)
              go_simp
              try with_reducible rfl
            try simp only [Act.put, List.getElem_toArray, List.getElem_cons_zero, List.getElem_cons_succ, List.setIfInBounds_toArray, List.set_cons_zero, List.set_cons_succ]
            refine wpAnyH_take (i := 1) (v := ?_) rfl (by kernel_rfl) (by kernel_rfl) (by kernel_rfl) (fun _ _ _ h => h) (Or.inl ⟨by kernel_rfl, ?_⟩) (by assumption) ?_
            rotate_left
            · intro w hSw
              (try dsimp only at hSw)
              go_simp
              try with_reducible rfl
            try simp only [Act.put, List.getElem_toArray, List.getElem_cons_zero, List.getElem_cons_succ, List.setIfInBounds_toArray, List.set_cons_zero, List.set_cons_succ]
            refine wpAnyH_take (i := 2) (v := ?_) rfl (by kernel_rfl) (by kernel_rfl) (by kernel_rfl) (fun _ _ _ h => h) (Or.inl ⟨by kernel_rfl, ?_⟩) (by assumption) ?_
            rotate_left
            · intro w hSw
              (try dsimp only at hSw)
              go_simp
              try with_reducible rfl
            try simp only [Act.put, List.getElem_toArray, List.getElem_cons_zero, List.getElem_cons_succ, List.setIfInBounds_toArray, List.set_cons_zero, List.set_cons_succ]
            refine wpAnyH_take (i := 3) (v := ?_) rfl (by kernel_rfl) (by kernel_rfl) (by kernel_rfl) (fun _ _ _ h => h) (Or.inl ⟨by kernel_rfl, ?_⟩) (by assumption) ?_
            rotate_left
            · intro w hSw
              (try dsimp only at hSw)
              go_simp
              try with_reducible rfl
            try simp only [Act.put, List.getElem_toArray, List.getElem_cons_zero, List.getElem_cons_succ, List.setIfInBounds_toArray, List.set_cons_zero, List.set_cons_succ]
            refine wpAnyH_take (i := 4) (v := ?_) rfl (by kernel_rfl) (by kernel_rfl) (by kernel_rfl) (fun _ _ _ h => h) (Or.inl ⟨by kernel_rfl, ?_⟩) (by assumption) ?_
            rotate_left
            · intro w hSw
              (try dsimp only at hSw)
              go_simp
              try with_reducible rfl
            try simp only [Act.put, List.getElem_toArray, List.getElem_cons_zero, List.getElem_cons_succ, List.setIfInBounds_toArray, List.set_cons_zero, List.set_cons_succ]
            refine wpAnyH_take (i := 5) (v := ?_) rfl (by kernel_rfl) (by kernel_rfl) (by kernel_rfl) (fun _ _ _ h => h) (Or.inl ⟨by kernel_rfl, ?_⟩) (by assumption) ?_
            rotate_left
            · intro w hSw
              (try dsimp only at hSw)
              go_simp
              try with_reducible rfl
            try simp only [Act.put, List.getElem_toArray, List.getElem_cons_zero, List.getElem_cons_succ, List.setIfInBounds_toArray, List.set_cons_zero, List.set_cons_succ]
            refine wpAnyH_take (i := 6) (v := ?_) rfl (by kernel_rfl) (by kernel_rfl) (by kernel_rfl) (fun _ _ _ h => h) (Or.inl ⟨by kernel_rfl, ?_⟩) (by assumption) ?_
            rotate_left
            · intro w hSw
              (try dsimp only at hSw)
              go_simp
              try with_reducible rfl
            try simp only [Act.put, List.getElem_toArray, List.getElem_cons_zero, List.getElem_cons_succ, List.setIfInBounds_toArray, List.set_cons_zero, List.set_cons_succ]
            refine wpAnyH_take (i := 7) (v := ?_) rfl (by kernel_rfl) (by kernel_rfl) (by kernel_rfl) (fun _ _ _ h => h) (Or.inl ⟨by kernel_rfl, ?_⟩) (by assumption) ?_
            rotate_left
            · intro w hSw
              (try dsimp only at hSw)
              go_simp
              try with_reducible rfl
            try simp only [Act.put, List.getElem_toArray, List.getElem_cons_zero, List.getElem_cons_succ, List.setIfInBounds_toArray, List.set_cons_zero, List.set_cons_succ]
            refine wpAnyH_take (i := 8) (v := ?_) rfl (by kernel_rfl) (by kernel_rfl) (by kernel_rfl) (fun _ _ _ h => h) (Or.inl ⟨by kernel_rfl, ?_⟩) (by assumption) ?_
            rotate_left
            · intro w hSw
              (try dsimp only at hSw)
              go_simp
              try with_reducible rfl
            try simp only [Act.put, List.getElem_toArray, List.getElem_cons_zero, List.getElem_cons_succ, List.setIfInBounds_toArray, List.set_cons_zero, List.set_cons_succ]
            refine wpAnyH_take (i := 9) (v := ?_) rfl (by kernel_rfl) (by kernel_rfl) (by kernel_rfl) (fun _ _ _ h => h) (Or.inl ⟨by kernel_rfl, ?_⟩) (by assumption) ?_
            rotate_left
            · intro w hSw
              (try dsimp only at hSw)
              go_simp
              try with_reducible rfl
            try simp only [Act.put, List.getElem_toArray, List.getElem_cons_zero, List.getElem_cons_succ, List.setIfInBounds_toArray, List.set_cons_zero, List.set_cons_succ]
            refine wpAnyH_take (i := 10) (v := ?_) rfl (by kernel_rfl) (by kernel_rfl) (by kernel_rfl) (fun _ _ _ h => h) (Or.inl ⟨by kernel_rfl, ?_⟩) (by assumption) ?_
            rotate_left
            · intro w hSw
              (try dsimp only at hSw)
              go_simp
              try with_reducible rfl
            try simp only [Act.put, List.getElem_toArray, List.getElem_cons_zero, List.getElem_cons_succ, List.setIfInBounds_toArray, List.set_cons_zero, List.set_cons_succ]
            refine wpAnyH_take (i := 11) (v := ?_) rfl (by kernel_rfl) (by kernel_rfl) (by kernel_rfl) (fun _ _ _ h => h) (Or.inl ⟨by kernel_rfl, ?_⟩) (by assumption) ?_
            rotate_left
            · intro w hSw
              (try dsimp only at hSw)
              go_simp
              try with_reducible rfl
            try simp only [Act.put, List.getElem_toArray, List.getElem_cons_zero, List.getElem_cons_succ, List.setIfInBounds_toArray, List.set_cons_zero, List.set_cons_succ]
            refine wpAnyH_take (i := 12) (v := ?_) rfl (by kernel_rfl) (by kernel_rfl) (by kernel_rfl) (fun _ _ _ h => h) (Or.inl ⟨by kernel_rfl, ?_⟩) (by assumption) ?_
            rotate_left
            · intro w hSw
              (try dsimp only at hSw)
              go_simp
              try with_reducible rfl
            try simp only [Act.put, List.getElem_toArray, List.getElem_cons_zero, List.getElem_cons_succ, List.setIfInBounds_toArray, List.set_cons_zero, List.set_cons_succ]
            refine wpAnyH_take (i := 13) (v := ?_) rfl (by kernel_rfl) (by kernel_rfl) (by kernel_rfl) (fun _ _ _ h => h) (Or.inl ⟨by kernel_rfl, ?_⟩) (by assumption) ?_
            rotate_left
            · intro w hSw
              (try dsimp only at hSw)
              go_simp
              try with_reducible rfl
            try simp only [Act.put, List.getElem_toArray, List.getElem_cons_zero, List.getElem_cons_succ, List.setIfInBounds_toArray, List.set_cons_zero, List.set_cons_succ]
            refine wpAnyH_take (i := 14) (v := ?_) rfl (by kernel_rfl) (by kernel_rfl) (by kernel_rfl) (fun _ _ _ h => h) (Or.inl ⟨by kernel_rfl, ?_⟩) (by assumption) ?_
            rotate_left
            · intro w hSw
              (try dsimp only at hSw)
              go_simp
              try with_reducible rfl
            try simp only [Act.put, List.getElem_toArray, List.getElem_cons_zero, List.getElem_cons_succ, List.setIfInBounds_toArray, List.set_cons_zero, List.set_cons_succ]
            refine wpAnyH_take (i := 15) (v := ?_) rfl (by kernel_rfl) (by kernel_rfl) (by kernel_rfl) (fun _ _ _ h => h) (Or.inl ⟨by kernel_rfl, ?_⟩) (by assumption) ?_
            rotate_left
            · intro w hSw
              (try dsimp only at hSw)
              go_simp
              try with_reducible rfl
            try simp only [Act.put, List.getElem_toArray, List.getElem_cons_zero, List.getElem_cons_succ, List.setIfInBounds_toArray, List.set_cons_zero, List.set_cons_succ]
            refine wpAnyH_take (i := 16) (v := ?_) rfl (by kernel_rfl) (by kernel_rfl) (by kernel_rfl) (fun _ _ _ h => h) (Or.inl ⟨by kernel_rfl, ?_⟩) (by assumption) ?_
            rotate_left
            · intro w hSw
              (try dsimp only at hSw)
              go_simp
              try with_reducible rfl
            try simp only [Act.put, List.getElem_toArray, List.getElem_cons_zero, List.getElem_cons_succ, List.setIfInBounds_toArray, List.set_cons_zero, List.set_cons_succ]
            refine wpAnyH_take (i := 17) (v := ?_) rfl (by kernel_rfl) (by kernel_rfl) (by kernel_rfl) (fun _ _ _ h => h) (Or.inl ⟨by kernel_rfl, ?_⟩) (by assumption) ?_
            rotate_left
            · intro w hSw
              (try dsimp only at hSw)
              go_simp
              try with_reducible rfl
            try simp only [Act.put, List.getElem_toArray, List.getElem_cons_zero, List.getElem_cons_succ, List.setIfInBounds_toArray, List.set_cons_zero, List.set_cons_succ]
            refine wpAnyH_take (i := 18) (v := ?_) rfl (by kernel_rfl) (by kernel_rfl) (by kernel_rfl) (fun _ _ _ h => h) (Or.inl ⟨by kernel_rfl, ?_⟩) (by assumption) ?_
            rotate_left
            · intro w hSw
              (try dsimp only at hSw)
              go_simp
              try with_reducible rfl
            try simp only [Act.put, List.getElem_toArray, List.getElem_cons_zero, List.getElem_cons_succ, List.setIfInBounds_toArray, List.set_cons_zero, List.set_cons_succ]
            refine wpAnyH_take (i := 19) (v := ?_) rfl (by kernel_rfl) (by kernel_rfl) (by kernel_rfl) (fun _ _ _ h => h) (Or.inl ⟨by kernel_rfl, ?_⟩) (by assumption) ?_
            rotate_left
            · intro w hSw
              (try dsimp only at hSw)
              go_simp
              try with_reducible rfl
            try simp only [Act.put, List.getElem_toArray, List.getElem_cons_zero, List.getElem_cons_succ, List.setIfInBounds_toArray, List.set_cons_zero, List.set_cons_succ]
            refine wpAnyH_ready (rs := [20]) (by kernel_rfl) (by simp) ?_
            refine AllReadyH.cons rfl (fun K hK => ?_) AllReadyH.nil
            go_simp
            go_wp2_with fail
            refine hK _ _ (SF.out _ (D1.out.alloc D1.out.size _)) (fun hHeld => ?_)
            clear hK K
            try simp only [Act.put, List.getElem_toArray, List.getElem_cons_zero, List.getElem_cons_succ, List.setIfInBounds_toArray, List.set_cons_zero, List.set_cons_succ]
            refine wpAnyH_ready (rs := [21]) (by kernel_rfl) (by simp) ?_
            refine AllReadyH.cons rfl (fun K hK => ?_) AllReadyH.nil
            obtain ⟨wa, hwa⟩ : ∃ wa, wa = wr.drew.alloc (.cells #[.int .i64 yper, .int .i64 ydl, .int .i64 ybud] 92) := ⟨_, rfl⟩
            have RA := hide (show Reads 3 erVals wa (some ⟨wr.heap.size, 0, none⟩) 1 [⟨yper, ydl, ybud⟩] from by rw [hwa]; exact reads_block (xs := [(⟨yper, ydl, ybud⟩ : Er)]) erVals_len (heap_alloc_new wr.drew _))
            have OA := hide (show wa.ownsRow w2.heap.size 92 3 _ L.length (L.flatMap erVals) from by rw [hwa]; exact O.out.drew.alloc _)
            have BA3 := hide (show Below wr.heap.size wr wa from by rw [hwa]; exact D1.out.alloc D1.out.size _)
            have BA := hide (B.out.trans (BA3.out.mono B.out.size))
            have BA2 := hide (BW.out.trans (BA3.out.mono BW.out.size))
            subst hwa
            refine step_append_reads rfl (.tmp 50) (.tmp 70) _ rfl w2.heap.size 92 j0 _ 24 Tryz.underlying91 J0.out.1 J0.out.2.1 J0.out.2.2.1 J0.out.2.2.2 rfl (by omega) _ L.length _ rfl OA.out _ 1 _ [(⟨yper, ydl, ybud⟩ : Er)] rfl erVals_len erVals_cell RA.out (fun h => by cases h) (by have := ALN.out; have := TN.out; unfold maxLen; omega) (by have := ALN.out; have := TN.out; omega) BA2.out.size ?_
            intro v4 w4 o4 g4
            have O4 := hide o4
            have B4 := hide (show Below W0.heap.size W0 w4 from B2.out.trans ((BA2.out.grown g4 BA2.out.size (fun j hj => (OA.out.lt j hj).1)).mono B2.out.size))
            have B42 := hide (show Below w2.heap.size w2 w4 from BA2.out.grown g4 BA2.out.size (fun j hj => (OA.out.lt j hj).1))
            clear o4 g4
            refine hK _ _ (SF2.out _ B4.out) (fun hHeld => ?_)
            clear hK K
            try simp only [Act.put, List.getElem_toArray, List.getElem_cons_zero, List.getElem_cons_succ, List.setIfInBounds_toArray, List.set_cons_zero, List.set_cons_succ]
            refine wpAnyH_take (i := 22) (v := ?_) rfl (by kernel_rfl) (by kernel_rfl) (by kernel_rfl) (fun _ _ _ h => h) (Or.inl ⟨by kernel_rfl, ?_⟩) (by assumption) ?_
            rotate_left
            · intro w hSw
              (try dsimp only at hSw)
              go_simp
              try with_reducible rfl
            try simp only [Act.put, List.getElem_toArray, List.getElem_cons_zero, List.getElem_cons_succ, List.setIfInBounds_toArray, List.set_cons_zero, List.set_cons_succ]
            refine wpAnyH_done (by kernel_rfl) ?_ _
            go_simp
            refine NoPanic.normal ?_
            refine a9 _ _ ?_
            clear hHeld
            go_wp2_with fail
            go_roundw
            case rel => exact ⟨k + 1, by omega, by go_num, by rw [NN.out, List.flatMap_append, List.length_append]; exact O4.out, B42.out⟩
            case measure => simp [intOf]; omega
          · have NN := hide (show earL ts (k + 1) = earL ts k from by rw [NXT.out, if_neg e1, List.append_nil])
            go_wp2_with fail
            go_roundw
            case rel => exact ⟨k + 1, by omega, by go_num, by rw [NN.out]; exact O.out, BW.out⟩
            case measure => simp [intOf]; omega
        · obtain rfl : tn = k := by omega
          have TLL := TL.out
          have EE := hide (show earliesT (cpOf cc) = earL ts tn from by unfold earliesT earL; rw [HC.out, List.take_of_length_le (by omega)]; rfl)
          obtain ⟨ES, hES⟩ : ∃ z, z = earL ts tn := ⟨_, rfl⟩
          have ELN := hide (show ES.length ≤ 12 from by rw [hES]; have := earL_len ts tn; have := TN.out; omega)
          rw [← hES] at O EE
          obtain ⟨A2, D2', ev2, hr2, _⟩ := own_reads erVals_len (by omega) O.out
          subst ev2
          have RE := hide hr2
          clear hES hr2
          obtain ⟨X, ok, hF⟩ := IsFits.there BLK PS ES 4096
          have FF := hide hF
          have FI := hide (show ∀ (Y : World) (A : Option Addr) (C : Nat), Reads 2 ptVals Y A pn PS → (A = none → C = 0) → Below wr.heap.size wr Y → Calls Tryz.prog 55 #[.int .i64 BLK, .slice A pn C, .slice A2 ES.length D2', .int .i64 4096] Y fun e w' => e = .returned (.tuple #[.int .i64 X, .bool ok]) ∧ Below Y.heap.size Y w' from fun Y A C h hn b => (rfits17_any Y BLK A pn C PS A2 ES.length D2' ES 4096 h (by have := PN.out; omega) hn (RE.out.below b) (by have := ELN.out; omega)).mono (by
            rintro e w' ⟨x', ok', rfl, h', b'⟩
            obtain ⟨rfl, rfl⟩ := h'.same FF.out
            exact ⟨rfl, b'⟩))
          have RTE := hide (show RespT (cpOf cc) i xt (if ok then xt.dl else 0) ok from respT_early (x := X) (by rw [XC.out.1]; exact e2) (by rw [← HBK.out, ← HPS.out, EE.out]; exact FF.out))
          rw [XC.out.2.2] at RTE
          clear hF
          go_upto_region 12 with fail
          clear k0 k1 k2 k3 k4 k5
          have D2 := hide (show Below wr.heap.size wr wr.drew from below_drewN (Below.refl _ wr) 1)
          have SY := hide (show ∀ Y : World, Below wr.heap.size wr Y → Y.cell? ⟨w.heap.size, 0, none⟩ = some (.slice (some ⟨bt, ot, none⟩) tn tc) ∧ Y.cell? ⟨w.heap.size, 1, none⟩ = some (.slice ea en ec) ∧ Y.cell? ⟨w.heap.size, 2, none⟩ = some (.slice ma mn mc) ∧ Y.cell? ⟨w.heap.size, 3, none⟩ = some (.slice ga gn gc) ∧ Y.cell? ⟨w.heap.size, 4, none⟩ = some (.int .i64 frames) ∧ Y.cell? ⟨w.heap.size, 5, none⟩ = some (.int .i64 dog) from fun Y b => SC.out Y (B.out.trans (b.mono B.out.size)))
          cases ok with
          | false =>
            have FIN := hide (RC.out 0 _ false RTE.out rfl)
            go_region_held3 (fun W => W.cell? ⟨w.heap.size, 0, none⟩ = some (.slice (some ⟨bt, ot, none⟩) tn tc) ∧ W.cell? ⟨w.heap.size, 1, none⟩ = some (.slice ea en ec) ∧ W.cell? ⟨w.heap.size, 2, none⟩ = some (.slice ma mn mc) ∧ W.cell? ⟨w.heap.size, 3, none⟩ = some (.slice ga gn gc) ∧ W.cell? ⟨w.heap.size, 4, none⟩ = some (.int .i64 frames) ∧ W.cell? ⟨w.heap.size, 5, none⟩ = some (.int .i64 dog)) (first | exact SY.out _ D2.out | exact SY.out _ C5.out | exact SY.out _ C6.out | exact SY.out _ C7.out) (first
              | (go_at_call 55; with_reducible refine (FI.out _ _ _ R6.out N6.out C6.out).mono ?_; rintro e w7 ⟨rfl, b7⟩; have C7 := hide (C6.out.trans (b7.mono C6.out.size)); have p3 := (SP.out w7 (BW.out.trans (C7.out.mono BW.out.size))).2.1; clear b7)
              | (go_at_call 9; with_reducible refine (BL.out _ (B.out.trans (D2.out.mono B.out.size))).mono ?_; rintro e w5 ⟨rfl, b5⟩; have C5 := hide (D2.out.trans (b5.mono D2.out.size)); clear b5)
              | (go_at_call 11; with_reducible refine (PA.out _ (B.out.trans (C5.out.mono B.out.size))).mono ?_; rintro e w6 ⟨A6, C6', rfl, r6, n6, b6⟩; have R6 := hide r6; have N6 := hide n6; have C6 := hide (C5.out.trans (b6.mono C5.out.size)); clear b6 r6 n6))
            go_wp2_with fail
            exact bodyPost_ret (v := .tuple #[.int .i64 0, .bool false]) (by simp [results, Tryz.results13, go_sem]) rfl (RespOk.of FIN.out (B0.out.trans ((B.out.trans (C7.out.mono B.out.size)).mono B0.out.size)))
          | true =>
            have FIN := hide (RC.out x_dl _ true RTE.out rfl)
            go_region_held3 (fun W => W.cell? ⟨w.heap.size, 0, none⟩ = some (.slice (some ⟨bt, ot, none⟩) tn tc) ∧ W.cell? ⟨w.heap.size, 1, none⟩ = some (.slice ea en ec) ∧ W.cell? ⟨w.heap.size, 2, none⟩ = some (.slice ma mn mc) ∧ W.cell? ⟨w.heap.size, 3, none⟩ = some (.slice ga gn gc) ∧ W.cell? ⟨w.heap.size, 4, none⟩ = some (.int .i64 frames) ∧ W.cell? ⟨w.heap.size, 5, none⟩ = some (.int .i64 dog)) (first | exact SY.out _ D2.out | exact SY.out _ C5.out | exact SY.out _ C6.out | exact SY.out _ C7.out) (first
              | (go_at_call 55; with_reducible refine (FI.out _ _ _ R6.out N6.out C6.out).mono ?_; rintro e w7 ⟨rfl, b7⟩; have C7 := hide (C6.out.trans (b7.mono C6.out.size)); have p3 := (SP.out w7 (BW.out.trans (C7.out.mono BW.out.size))).2.1; clear b7)
              | (go_at_call 9; with_reducible refine (BL.out _ (B.out.trans (D2.out.mono B.out.size))).mono ?_; rintro e w5 ⟨rfl, b5⟩; have C5 := hide (D2.out.trans (b5.mono D2.out.size)); clear b5)
              | (go_at_call 11; with_reducible refine (PA.out _ (B.out.trans (C5.out.mono B.out.size))).mono ?_; rintro e w6 ⟨A6, C6', rfl, r6, n6, b6⟩; have R6 := hide r6; have N6 := hide n6; have C6 := hide (C5.out.trans (b6.mono C5.out.size)); clear b6 r6 n6))
            go_wp2_with fail
            exact bodyPost_ret (v := .tuple #[.int .i64 x_dl, .bool true]) (by simp [results, Tryz.results13, go_sem]) rfl (RespOk.of FIN.out (B0.out.trans ((B.out.trans (C7.out.mono B.out.size)).mono B0.out.size)))
end Go.Proofs.YtcmgkjjkhfcedaaGreat
