/-
  The document's own May, Least, Sum (coxswainref10).
-/
import Derived.Test.YtiaohcjjkbpngaaRkPlain
import Derived.Deep.DeepCutAuto
import Derived.Deep.CutBlock
namespace Go.Proofs.Ytiaohcjjkbpngaa
open Go.ChangeShapes Go.WideShapes Go.ChangeAt Go.RowKit
set_option linter.unusedVariables false
theorem quietI {P : Program} {f : FuncId} {args : Array Value} {w : World} {n : Nat} {v : Value} (h : Calls P f args (w.drewN n) fun e w' => e = .returned v ∧ w.drewN n = w') : Calls P f args (w.drewN n) fun e w' => e = .returned v ∧ ∃ m, w' = w.drewN m := by
  refine h.mono ?_
  rintro e w' ⟨rfl, rfl⟩
  exact ⟨rfl, n, rfl⟩
theorem drew_more {w wr : World} {nq : Nat} (h : ∃ q, wr = w.drewN q) : ∃ q, wr.drewN nq = w.drewN q := by
  obtain ⟨q, rfl⟩ := h
  exact ⟨q + nq, by simp [World.drewN, Nat.add_assoc]⟩
theorem any_take_succ {hs : List Int} {k : Nat} {h : Int} {p : Int → Bool} (he : hs[k]? = some h) (hn : (hs.take k).any p = false) : (hs.take (k + 1)).any p = p h := by
  have hk : k < hs.length := (List.getElem?_eq_some_iff.1 he).1
  rw [List.take_succ_eq_append_getElem hk, List.any_append, hn]
  rw [List.getElem?_eq_getElem hk] at he
  injection he with he
  simp [he]
set_option maxHeartbeats 8000000 in
theorem rmay10_any (a : Option Addr) (n c : Nat) (ms : List Mu) (b : Option Addr) (p d : Nat) (hs : List Int) (m : Int) (w : World) (ha : Reads 2 muVals w a n ms) (hb : Ints .i64 w b p hs) (hn : n ≤ maxLen) (hp : p ≤ maxLen) :
    Calls Try.prog 15 #[.slice a n c, .slice b p d, .int .i64 m] w fun e w' => e = .returned (.int .i64 (mayMu ms hs m)) ∧ ∃ q, w' = w.drewN q := by
  have hl := ha.1
  have n63 : (n : Int) ≤ 9223372036854775807 := by unfold maxLen at hn; omega
  have p63 : (p : Int) ≤ 9223372036854775807 := by unfold maxLen at hp; omega
  obtain ⟨G, hG⟩ : ∃ G, G = mayMu ms hs m := ⟨_, rfl⟩
  rw [← hG]
  have HG := hide hG
  have HN := hide hn
  clear hG
  by_cases hm : isMu n m = true
  · obtain ⟨mn, rfl, hmn⟩ := isMu_iff.1 hm
    have K0 := hide (fun (W : World) => show Calls Try.prog 12 #[.slice a n c, .int .i64 (mn : Int)] W fun e w' => e = .returned (.bool true) ∧ W = w' from by have := ris_any a n c (mn : Int) W HN.out; rw [hm] at this; exact this)
    obtain ⟨xm, ab, ao, hxm, rfl, hcm⟩ := ha.at_ hmn
    have HXM := hide (muAt_nat hxm)
    have cm : w.cell? ⟨ab, ao + mn * 2, none⟩ = some (.int .i64 xm.r) := hcm 0 _ rfl
    have HA := hide ha
    have HB := hide hb
    have HM := hide hm
    have HL := hide hl
    have m0 : (0 : Int) ≤ (mn : Int) := by omega
    have m1 : (mn : Int) < (n : Int) := by omega
    clear ha hb hm hl hxm hcm hn hp
    go_enter Try.func15, Try.ntmps15
    go_wp2_with (go_at_call 12; refine (K0.out _).mono ?_; rintro e w' ⟨rfl, rfl⟩)
    go_loopw [7] (fun i wr => ∃ k : Nat, k ≤ p ∧ i = .int .i64 k ∧ Hid ((∃ q, wr = w.drewN q) ∧ (hs.take k).any (inWay ms mn) = false)) (fun i _ => p - (intOf i).toNat)
    case atStart => exact ⟨0, Nat.zero_le _, rfl, ⟨0, rfl⟩, by simp⟩
    case round =>
      obtain ⟨k, hk, rfl, hZ⟩ := hrel
      have hcell : ∀ q : Addr, wr.cell? q = w.cell? q := fun q => by obtain ⟨_, rfl⟩ := hZ.out.1; rfl
      by_cases hlt : k < p
      · have k0 : (0 : Int) ≤ (k : Int) := by omega
        have k1 : (k : Int) < (p : Int) := by omega
        obtain ⟨bb, bo, rfl, hcb⟩ := HB.out.2 (by omega)
        have hk2 : k < hs.length := by rw [HB.out.1]; exact hlt
        obtain ⟨h, hh⟩ : ∃ h, h = hs.getD k 0 := ⟨_, rfl⟩
        have hh2 : hs[k]? = some h := by rw [hh]; simp [List.getD, hk2]
        have ch : wr.cell? ⟨bb, bo + k, none⟩ = some (.int .i64 h) := by rw [hcell, hh]; exact hcb k hlt
        have cm' : wr.cell? ⟨ab, ao + mn * 2, none⟩ = some (.int .i64 xm.r) := by rw [hcell]; exact cm
        have SU := hide (fun (hn : (hs.take k).any (inWay ms mn) = false) => any_take_succ hh2 hn)
        have DR := hide (hZ.out.1)
        have NO := hide (hZ.out.2)
        have HH2 := hide hh2
        by_cases hb : isMu n h = true
        · obtain ⟨hn', rfl, hhn⟩ := isMu_iff.1 hb
          have q1 : ∀ m, Calls Try.prog 12 #[.slice (some ⟨ab, ao, none⟩) n c, .int .i64 (hn' : Int)] (wr.drewN m) fun e w' => e = .returned (.bool true) ∧ ∃ n, w' = wr.drewN n := fun m => quietI (by have := ris_any (some ⟨ab, ao, none⟩) n c (hn' : Int) (wr.drewN m) HN.out; rw [hb] at this; exact this)
          obtain ⟨xh, ab', ao', hxh, e2, hch⟩ := HA.out.at_ hhn
          injection e2 with e2
          injection e2 with e3 e4
          subst e3 e4
          have cx : wr.cell? ⟨ab, ao + hn' * 2, none⟩ = some (.int .i64 xh.r) := by rw [hcell]; exact hch 0 _ rfl
          have h0 : (0 : Int) ≤ (hn' : Int) := by omega
          have h1 : (hn' : Int) < (n : Int) := by omega
          have IW := hide (show inWay ms (mn : Int) (hn' : Int) = decide (xm.r ≤ xh.r) from by unfold inWay; rw [HXM.out, muAt_nat hxh, HL.out, hb]; simp)
          clear hcell hZ hh hh2 hcb hxh hch hb
          by_cases hle : xm.r ≤ xh.r
          · have G2 := hide (show G = 7 from by
              have h1 := SU.out NO.out
              rw [IW.out, decide_eq_true hle] at h1
              rw [HG.out]
              unfold mayMu
              rw [HL.out, HM.out]
              have h2 : hs.any (inWay ms mn) = true := by
                rw [List.any_eq_true] at h1 ⊢
                obtain ⟨y, hy, hp⟩ := h1
                exact ⟨y, List.mem_of_mem_take hy, hp⟩
              simp [h2])
            go_upto_region 6 with fail
            go_quiet ((go_at_call 12; exact q1 _))
            go_wp2_with fail
            go_ret
            exact ⟨ret_int G2.out.symm, drew_more DR.out⟩
          · have N2 := hide (show (hs.take (k + 1)).any (inWay ms mn) = false from by rw [SU.out NO.out, IW.out]; simp; omega)
            go_upto_region 6 with fail
            go_quiet ((go_at_call 12; exact q1 _))
            have D2 := hide (drew_more (nq := nq) DR.out)
            clear q1 ch cm' cx DR
            generalize wr.drewN nq = w2 at *
            go_wp2_with fail
            go_roundw
            case rel => exact ⟨k + 1, by omega, by go_num, D2.out, N2.out⟩
            case measure => simp [intOf]; omega
        · have hb' : isMu n h = false := by simpa using hb
          have q1 : ∀ m, Calls Try.prog 12 #[.slice (some ⟨ab, ao, none⟩) n c, .int .i64 h] (wr.drewN m) fun e w' => e = .returned (.bool false) ∧ ∃ n, w' = wr.drewN n := fun m => quietI (by have := ris_any (some ⟨ab, ao, none⟩) n c h (wr.drewN m) HN.out; rw [hb'] at this; exact this)
          have N2 := hide (show (hs.take (k + 1)).any (inWay ms mn) = false from by rw [SU.out NO.out]; unfold inWay; rw [HL.out, hb']; simp)
          clear hcell hZ hh hh2 hcb hb hb'
          go_upto_region 6 with fail
          go_quiet ((go_at_call 12; exact q1 _))
          have D2 := hide (drew_more (nq := nq) DR.out)
          clear q1 ch cm' DR
          generalize wr.drewN nq = w2 at *
          go_wp2_with fail
          go_roundw
          case rel => exact ⟨k + 1, by omega, by go_num, D2.out, N2.out⟩
          case measure => simp [intOf]; omega
      · obtain rfl : k = p := by omega
        have G2 := hide (show G = 0 from by
          have h1 := hZ.out.2
          rw [List.take_of_length_le (by rw [HB.out.1]; omega)] at h1
          rw [HG.out]
          unfold mayMu
          rw [HL.out, HM.out, h1]
          simp)
        have D2 := hide hZ.out.1
        clear hZ hcell
        go_wp2_with fail
        go_ret
        exact ⟨ret_int G2.out.symm, D2.out⟩
  · have hm' : isMu n m = false := by simpa using hm
    have K0 := hide (fun (W : World) => show Calls Try.prog 12 #[.slice a n c, .int .i64 m] W fun e w' => e = .returned (.bool false) ∧ W = w' from by have := ris_any a n c m W HN.out; rw [hm'] at this; exact this)
    have G2 := hide (show G = 19 from by rw [HG.out]; unfold mayMu; rw [hl, hm']; simp)
    clear ha hb hm hm' hl hn hp
    go_enter Try.func15, Try.ntmps15
    go_wp2_with (go_at_call 12; refine (K0.out _).mono ?_; rintro e w' ⟨rfl, rfl⟩)
    go_ret
    exact ⟨ret_int G2.out.symm, 0, rfl⟩
theorem fold_take_succ {β : Type} {us : List Int} {k : Nat} {u : Int} {f : β → Int → β} {s : β} (he : us[k]? = some u) : (us.take (k + 1)).foldl f s = f ((us.take k).foldl f s) u := by
  have hk : k < us.length := (List.getElem?_eq_some_iff.1 he).1
  rw [List.take_succ_eq_append_getElem hk, List.foldl_append]
  rw [List.getElem?_eq_getElem hk] at he
  injection he with he
  simp [he]
set_option maxHeartbeats 8000000 in
theorem rleast_any (a : Option Addr) (n c : Nat) (ms : List Mu) (b : Option Addr) (p d : Nat) (us : List Int) (w : World) (ha : Reads 2 muVals w a n ms) (hb : Ints .i64 w b p us) (hn : n ≤ maxLen) (hp : p ≤ maxLen) :
    Calls Try.prog 11 #[.slice a n c, .slice b p d] w fun e w' => e = .returned (.tuple #[.int .i64 (leastMu ms us).1, .bool (leastMu ms us).2]) ∧ ∃ q, w' = w.drewN q := by
  have hl := ha.1
  have n63 : (n : Int) ≤ 9223372036854775807 := by unfold maxLen at hn; omega
  have p63 : (p : Int) ≤ 9223372036854775807 := by unfold maxLen at hp; omega
  obtain ⟨G, hG⟩ : ∃ G, G = leastMu ms us := ⟨_, rfl⟩
  rw [← hG]
  have HG := hide hG
  have HN := hide hn
  have HA := hide ha
  have HB := hide hb
  have HL := hide hl
  clear hG ha hb hl hn hp
  go_enter Try.func11, Try.ntmps11
  go_wp2_with fail
  go_loopw [6, 7, 8] (fun bv iv i wr => ∃ (k : Nat) (s : Int) (t : Bool), k ≤ p ∧ bv = .int .i64 s ∧ iv = .bool t ∧ i = .int .i64 k ∧ Hid ((∃ q, wr = w.drewN q) ∧ (us.take k).foldl (leastS ms) (0, false) = (s, t))) (fun _ _ i _ => p - (intOf i).toNat)
  case atStart => exact ⟨0, 0, false, Nat.zero_le _, rfl, rfl, rfl, ⟨0, rfl⟩, by simp⟩
  case round =>
    obtain ⟨k, s, t, hk, rfl, rfl, rfl, hZ⟩ := hrel
    have hcell : ∀ q : Addr, wr.cell? q = w.cell? q := fun q => by obtain ⟨_, rfl⟩ := hZ.out.1; rfl
    by_cases hlt : k < p
    · have k0 : (0 : Int) ≤ (k : Int) := by omega
      have k1 : (k : Int) < (p : Int) := by omega
      have KM1 := hide (show k + 1 ≤ p from by omega)
      obtain ⟨bb, bo, rfl, hcb⟩ := HB.out.2 (by omega)
      have hk2 : k < us.length := by rw [HB.out.1]; exact hlt
      obtain ⟨u, hu⟩ : ∃ u, u = us.getD k 0 := ⟨_, rfl⟩
      have hu2 : us[k]? = some u := by rw [hu]; simp [List.getD, hk2]
      have ch : wr.cell? ⟨bb, bo + k, none⟩ = some (.int .i64 u) := by rw [hcell, hu]; exact hcb k hlt
      have SU := hide (show (us.take (k + 1)).foldl (leastS ms) (0, false) = leastS ms (s, t) u from by rw [fold_take_succ hu2, hZ.out.2])
      have DR := hide (hZ.out.1)
      by_cases hb : isMu n u = true
      · obtain ⟨un, rfl, hun⟩ := isMu_iff.1 hb
        have q1 : ∀ W, Calls Try.prog 12 #[.slice a n c, .int .i64 (un : Int)] W fun e w' => e = .returned (.bool true) ∧ W = w' := fun W => (by have := ris_any a n c (un : Int) W HN.out; rw [hb] at this; exact this)
        obtain ⟨x, ab, ao, hx, rfl, hcx⟩ := HA.out.at_ hun
        have cx : wr.cell? ⟨ab, ao + un * 2, none⟩ = some (.int .i64 x.r) := by rw [hcell]; exact hcx 0 _ rfl
        have h0 : (0 : Int) ≤ (un : Int) := by omega
        have h1 : (un : Int) < (n : Int) := by omega
        have IW := hide (show leastS ms (s, t) (un : Int) = if (!t || decide (x.r < s)) = true then (x.r, true) else (s, t) from by unfold leastS; rw [muAt_nat hx, HL.out, hb]; simp)
        clear hcell hZ hu hu2 hcb hx hcx hb
        cases t with
        | false =>
          have N2 := hide (show (us.take (k + 1)).foldl (leastS ms) (0, false) = (x.r, true) from by rw [SU.out, IW.out]; simp)
          go_wp2_with (go_at_call 12; refine (q1 _).mono ?_; rintro e w' ⟨rfl, rfl⟩)
          go_roundw
          case rel => exact ⟨k + 1, x.r, true, KM1.out, rfl, rfl, by go_num, DR.out, N2.out⟩
          case measure => have h9 := KM1.out; simp [intOf]; omega
        | true =>
          by_cases hle : x.r < s
          · have N2 := hide (show (us.take (k + 1)).foldl (leastS ms) (0, false) = (x.r, true) from by rw [SU.out, IW.out]; simp [hle])
            go_wp2_with (go_at_call 12; refine (q1 _).mono ?_; rintro e w' ⟨rfl, rfl⟩)
            go_roundw
            case rel => exact ⟨k + 1, x.r, true, KM1.out, rfl, rfl, by go_num, DR.out, N2.out⟩
            case measure => have h9 := KM1.out; simp [intOf]; omega
          · have N2 := hide (show (us.take (k + 1)).foldl (leastS ms) (0, false) = (s, true) from by rw [SU.out, IW.out]; simp; omega)
            go_wp2_with (go_at_call 12; refine (q1 _).mono ?_; rintro e w' ⟨rfl, rfl⟩)
            go_roundw
            case rel => exact ⟨k + 1, s, true, KM1.out, rfl, rfl, by go_num, DR.out, N2.out⟩
            case measure => have h9 := KM1.out; simp [intOf]; omega
      · have hb' : isMu n u = false := by simpa using hb
        have q1 : ∀ W, Calls Try.prog 12 #[.slice a n c, .int .i64 u] W fun e w' => e = .returned (.bool false) ∧ W = w' := fun W => (by have := ris_any a n c u W HN.out; rw [hb'] at this; exact this)
        have N2 := hide (show (us.take (k + 1)).foldl (leastS ms) (0, false) = (s, t) from by rw [SU.out]; unfold leastS; rw [HL.out, hb']; simp)
        clear hcell hZ hu hu2 hcb hb hb'
        go_wp2_with (go_at_call 12; refine (q1 _).mono ?_; rintro e w' ⟨rfl, rfl⟩)
        go_roundw
        case rel => exact ⟨k + 1, s, t, KM1.out, rfl, rfl, by go_num, DR.out, N2.out⟩
        case measure => have h9 := KM1.out; simp [intOf]; omega
    · obtain rfl : k = p := by omega
      have G2 := hide (show G = (s, t) from by
        have h1 := hZ.out.2
        rw [List.take_of_length_le (by rw [HB.out.1]; omega)] at h1
        rw [HG.out]; exact h1)
      have D2 := hide hZ.out.1
      clear hZ hcell
      go_wp2_with fail
      go_ret2
      have g2 := G2.out
      subst g2
      exact ⟨rfl, D2.out⟩
set_option maxHeartbeats 8000000 in
theorem rsum10_any (a : Option Addr) (n c : Nat) (ms : List Mu) (r : Int) (w : World) (ha : Reads 2 muVals w a n ms) (hn : n ≤ maxLen) :
    Calls Try.prog 17 #[.slice a n c, .int .i64 r] w fun e w' => e = .returned (.int .i64 (sumMu ms r)) ∧ w = w' := by
  have n63 : (n : Int) ≤ 9223372036854775807 := by unfold maxLen at hn; omega
  obtain ⟨G, hG⟩ : ∃ G, G = sumMu ms r := ⟨_, rfl⟩
  rw [← hG]
  have HG := hide hG
  have HA := hide ha
  have HL := hide ha.1
  clear hG ha hn
  go_enter Try.func17, Try.ntmps17
  go_wp2_with fail
  go_loop [5, 6] (fun sv i => ∃ (k : Nat) (s : Int), k ≤ n ∧ sv = .int .i64 s ∧ i = .int .i64 k ∧ Hid ((ms.take k).foldl (sumS r) 0 = s)) (fun _ i => n - (intOf i).toNat)
  case atStart => exact ⟨0, 0, Nat.zero_le _, rfl, rfl, rfl⟩
  case round =>
    obtain ⟨k, s, hk, rfl, rfl, hZ⟩ := hrel
    by_cases hlt : k < n
    · have k0 : (0 : Int) ≤ (k : Int) := by omega
      have k1 : (k : Int) < (n : Int) := by omega
      have KM1 := hide (show k + 1 ≤ n from by omega)
      obtain ⟨x, b, off, hx, rfl, hc⟩ := HA.out.at_ hlt
      have c0 : w.cell? ⟨b, off + k * 2, none⟩ = some (.int .i64 x.r) := hc 0 _ rfl
      have c1 : w.cell? ⟨b, off + k * 2 + 1, none⟩ = some (.int .i64 x.l) := hc 1 _ rfl
      have SU := hide (show (ms.take (k + 1)).foldl (sumS r) 0 = sumS r s x from by
        have hk2 : k < ms.length := (List.getElem?_eq_some_iff.1 hx).1
        rw [List.take_succ_eq_append_getElem hk2, List.foldl_append, hZ.out]
        rw [List.getElem?_eq_getElem hk2] at hx
        injection hx with hx
        simp [hx])
      clear hx hc
      by_cases hr : r ≤ x.r
      · have N2 := hide (show (ms.take (k + 1)).foldl (sumS r) 0 = cl (cl s + cl x.l) from by rw [SU.out]; unfold sumS; rw [if_pos hr])
        go_wp2_with (go_at_call 30; refine (radd_any _ _ _).mono ?_; rintro e w' ⟨rfl, rfl⟩)
        go_round
        case rel => exact ⟨k + 1, _, KM1.out, rfl, by go_num, N2.out⟩
        case measure => have h9 := KM1.out; simp [intOf]; omega
      · have N2 := hide (show (ms.take (k + 1)).foldl (sumS r) 0 = s from by rw [SU.out]; unfold sumS; rw [if_neg hr])
        go_wp2_with fail
        go_round
        case rel => exact ⟨k + 1, s, KM1.out, rfl, by go_num, N2.out⟩
        case measure => have h9 := KM1.out; simp [intOf]; omega
    · obtain rfl : k = n := by omega
      have G2 := hide (show G = s from by
        have h1 := hZ.out
        rw [List.take_of_length_le (by rw [HL.out]; omega)] at h1
        rw [HG.out]; exact h1)
      go_wp2_with fail
      go_ret
      exact ⟨ret_int G2.out.symm, rfl⟩
end Go.Proofs.Ytiaohcjjkbpngaa
