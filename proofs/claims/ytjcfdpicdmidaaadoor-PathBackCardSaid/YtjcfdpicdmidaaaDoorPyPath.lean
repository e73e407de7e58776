/-
  The program's Split, Join, Parent; its path as a whole.
-/
import Derived.Test.YtjcfdpicdmidaaaDoorPyGen
import Derived.Test.YtjcfdpicdmidaaaDoorPtBoth
namespace Go.Proofs.YtjcfdpicdmidaaaDoor
open Go.ChangeShapes Go.WideShapes Go.ChangeAt Go.RowKit Go.Shelf
set_option linter.unusedVariables false
set_option linter.unusedSimpArgs false
theorem wrongS_any (w : World) (s : Txt) (hs : s.length ≤ 1000000) :
    Calls Tryd.prog 18 #[.func (.func 33) #[] #[.pointer (some ⟨w.heap.size + 1, 0, none⟩), .pointer (some ⟨w.heap.size, 0, none⟩), .pointer (some ⟨w.heap.size + 1 + 1, 0, none⟩)], .func (.func 13) #[] #[]]
      (((w.alloc (.cells #[.string (bt s)] 9)).alloc (.cells #[.string (ByteArray.mk #[47])] 9)).alloc (.cells #[.int .i64 0] 3)) fun e w' => e = .returned (.int .i64 (wrongE (cutsA [] s))) ∧ Below w.heap.size w w' := by
  obtain ⟨w1, hw1⟩ : ∃ w1, w1 = ((w.alloc (.cells #[.string (bt s)] 9)).alloc (.cells #[.string (ByteArray.mk #[47])] 9)).alloc (.cells #[.int .i64 0] 3) := ⟨_, rfl⟩
  rw [← hw1]
  have b1 : Below w.heap.size w w1 := by rw [hw1]; exact (((Below.refl w.heap.size w).alloc (Nat.le_refl _) _).alloc (by simp) _).alloc (by simp; omega) _
  have s1 : w1.heap.size = w.heap.size + 3 := by rw [hw1]; simp
  have e0 : Boxed w1 w.heap.size 9 (.string (bt s)) := by rw [hw1]; exact ((Boxed.new w _ _).alloc _).alloc _
  have e1 : Boxed w1 (w.heap.size + 1) 9 (.string (ByteArray.mk #[47])) := by
    have := (Boxed.new (w.alloc (.cells #[.string (bt s)] 9)) 9 (.string (ByteArray.mk #[47]))).alloc (.cells #[.int .i64 0] 3)
    rw [World.size_alloc, ← hw1] at this; exact this
  have e2 : Boxed w1 (w.heap.size + 1 + 1) 3 (.int .i64 0) := by
    have := Boxed.new ((w.alloc (.cells #[.string (bt s)] 9)).alloc (.cells #[.string (ByteArray.mk #[47])] 9)) 3 (.int .i64 0)
    rw [World.size_alloc, World.size_alloc, ← hw1] at this; exact this
  have cl : (cutsA [] s).length ≤ 1000001 := by rw [cuts_len]; have := List.count_le_length (a := (47 : UInt8)) (l := s); omega
  refine (pwrong_any w1 33 _ (cutsA [] s) cl (fun i => i = w.heap.size) (fun i hi => by subst hi; rw [s1]; omega) (enters_of Tryd.func33 (by kernel_rfl) rfl) (fun w2 V b v => ?_)).mono ?_
  · exact split1_by 2 (by omega) w2 s hs (w.heap.size + 1) w.heap.size (w.heap.size + 1 + 1) V (boxed_below e1 b) (boxed_below e0 b) (boxed_below e2 b) (fun h => by have := v _ h; omega) (fun h => by have := v _ h; omega) (fun h => by have := v _ h; omega) (by omega) (by omega)
  · rintro e w3 ⟨h1, h2⟩
    exact ⟨h1, b1.trans (h2.below b1.size (fun i hi => by subst hi; exact Nat.le_refl _))⟩
theorem wrongV_any (w : World) (a : Option Addr) (n c : Nat) (ps : List Txt) (hr : Reads 1 txVals w a n ps) (hn : n ≤ 1000) :
    Calls Tryd.prog 18 #[.func (.func 29) #[] #[.pointer (some ⟨w.heap.size, 0, none⟩)], .func (.func 13) #[] #[]]
      (w.alloc (.cells #[.slice a n c] 23)) fun e w' => e = .returned (.int .i64 (wrongE ps)) ∧ Below w.heap.size w w' := by
  have b1 : Below w.heap.size w (w.alloc (.cells #[.slice a n c] 23)) := (Below.refl w.heap.size w).alloc (Nat.le_refl _) _
  have s1 : (w.alloc (.cells #[.slice a n c] 23)).heap.size = w.heap.size + 1 := by simp
  have e0 : Boxed (w.alloc (.cells #[.slice a n c] 23)) w.heap.size 23 (.slice a n c) := Boxed.new w _ _
  have r1 := hr.below b1
  have hl := hr.1
  have lo : 0 < n → ∀ b o, a = some ⟨b, o, none⟩ → b < w.heap.size := fun h b o e => by
    obtain ⟨x, b2, o2, _, e2, hc⟩ := hr.text h
    rw [e] at e2
    injection e2 with e2
    injection e2 with e2 _
    rw [e2]
    exact lt_of_cell? hc
  generalize (w.alloc (.cells #[.slice a n c] 23)) = w1 at *
  refine (pwrong_any w1 29 _ ps (by omega) (fun _ => False) (fun i hi => hi.elim) (enters_of Tryd.func29 (by kernel_rfl) rfl) (fun w2 V b v => ?_)).mono ?_
  · exact values1_by 2 (by omega) w2 a n c ps (by omega) w.heap.size V (boxed_below e0 b) (r1.below b) (fun h => by have := v _ h; omega) (fun h bb o e hv => by have := v _ hv; have := lo h bb o e; omega)
  · rintro e w3 ⟨h1, h2⟩
    exact ⟨h1, b1.trans (h2.below b1.size (fun i hi => hi.elim))⟩
set_option maxRecDepth 10000 in
set_option maxHeartbeats 8000000 in
theorem psplit_any (w : World) (s : Txt) (hs : s.length ≤ 1000000) : Calls Tryd.prog 7 #[.string (bt s)] w (SplitIs w s) := by
  by_cases h0 : s = []
  · have e0 := bt_emptyY h0
    have HN := hide (show splitT s = ([], 9) from by unfold splitT; rw [if_pos h0])
    clear h0 hs
    go_enter Tryd.func7, Tryd.ntmps7
    go_wp2_with fail
    go_ret2
    exact SplitIs.none HN.out (Below.refl _ _)
  have e0 := bt_emptyN h0
  obtain ⟨c0, hc0⟩ : ∃ c, s[0]? = some c := ⟨_, List.getElem?_eq_getElem (by cases s with | nil => exact absurd rfl h0 | cons a b => simp)⟩
  have hix := fun W => run_index_bt W s hc0
  rw [show ((0 : Nat) : Int) = 0 from rfl] at hix
  obtain ⟨y0, hy0⟩ : ∃ y : Int, y = (c0.toNat : Int) := ⟨_, rfl⟩
  rw [← hy0] at hix
  by_cases h47 : c0 = 47
  case neg =>
    have y47 : (y0 != 47) = true := by
      have : ¬ y0 = 47 := by rw [hy0]; exact fun e => h47 ((u8_iff c0 47 (by omega)).1 e)
      simpa using this
    have HN := hide (show splitT s = ([], 19) from by unfold splitT; rw [if_neg h0, if_pos (by rw [hc0]; simpa using h47)])
    clear h0 hs hc0 hy0 h47
    go_enter Tryd.func7, Tryd.ntmps7
    go_wp2_with fail
    go_ret2
    exact SplitIs.none HN.out (Below.refl _ _)
  case pos =>
    have y47 : (y0 != 47) = false := by
      have : y0 = 47 := by rw [hy0]; exact (u8_iff c0 47 (by omega)).2 h47
      simp [this]
    by_cases h1 : s = [47]
    · have e1 := bt_yes h1
      have HN := hide (show splitT s = ([], 0) from by rw [h1]; rfl)
      clear h0 hs hc0 hy0 h47 h1
      go_enter Tryd.func7, Tryd.ntmps7
      go_wp2_with fail
      go_ret2
      exact SplitIs.none HN.out (Below.refl _ _)
    have e1 := bt_no h1
    have hlen : 1 ≤ s.length := by cases s with | nil => exact absurd rfl h0 | cons a b => simp
    have SR := fun W => run_rest_bt W s (o := 1) hlen
    rw [show ((1 : Nat) : Int) = 1 from rfl] at SR
    obtain ⟨r, hr⟩ : ∃ r, r = s.drop 1 := ⟨_, rfl⟩
    have hrl : r.length ≤ 1000000 := by rw [hr, List.length_drop]; omega
    have HS := hide (show splitT s = if firstE (cutsA [] r) ≠ 0 then ([], firstE (cutsA [] r)) else if 6 < (cutsA [] r).length then ([], 20) else (cutsA [] r, 0) from by
      unfold splitT; rw [if_neg h0, if_neg (by rw [hc0, h47]; simp), if_neg h1, ← hr])
    rw [← hr] at SR
    have CW := hide (wrongS_any w r hrl)
    obtain ⟨E, hE⟩ : ∃ E, E = wrongE (cutsA [] r) := ⟨_, rfl⟩
    rw [← hE] at CW
    have LR := hide hrl
    by_cases hz : E = 0
    · have HN := hide (show splitT s = (cutsA [] r, 0) from by
        have : wrongE (cutsA [] r) = 0 := by rw [← hE]; exact hz
        unfold wrongE at this
        rw [HS.out]
        by_cases k : firstE (cutsA [] r) = 0
        · rw [if_neg (by rw [k]; simp)] at this ⊢
          by_cases k6 : 6 < (cutsA [] r).length
          · rw [if_pos k6] at this; cases this
          · rw [if_neg k6]
        · rw [if_pos k] at this; exact absurd this k)
      subst hz
      clear h0 hs hc0 hy0 h47 h1 hr hrl hlen hE
      go_enter Tryd.func7, Tryd.ntmps7
      go_wp2_with (first
        | (go_at_call 19; refine (splitSeqs_any _ _ _).mono ?_; rintro e w' ⟨rfl, rfl⟩)
        | (go_at_call 18; refine CW.out.mono ?_; rintro e w1 ⟨rfl, b1⟩; have B1 := hide b1; clear b1)
        | (go_at_call 21; refine (clone_any _ _ LR.out).mono ?_; rintro e w2 ⟨rfl, b2⟩; have B2 := hide (B1.out.trans (b2.mono B1.out.size)); clear b2)
        | (go_at_call 20; refine (splits_any _ _ LR.out).mono ?_; rintro e w3 ⟨v, rfl, o3, b3⟩; have B3 := hide (B2.out.trans (b3.mono B2.out.size)); have O3 := hide (own_base o3 B2.out.size); clear b3 o3))
      go_ret2
      refine ⟨v, by rw [HN.out]; rfl, ?_, B3.out⟩
      rw [HN.out]
      exact O3.out
    · have nE : (E != 0) = true := by simpa using hz
      have HN := hide (show splitT s = ([], E) from by
        rw [HS.out]
        unfold wrongE at hE
        by_cases k : firstE (cutsA [] r) = 0
        · rw [if_neg (by rw [k]; simp)] at hE
          rw [if_neg (by rw [k]; simp)]
          by_cases k6 : 6 < (cutsA [] r).length
          · rw [if_pos k6] at hE; rw [if_pos k6, hE]
          · rw [if_neg k6] at hE; exact absurd hE hz
        · rw [if_pos k] at hE
          rw [if_pos k, hE])
      clear h0 hs hc0 hy0 h47 h1 hr hrl hlen hE hz
      go_enter Tryd.func7, Tryd.ntmps7
      go_wp2_with (first
        | (go_at_call 19; refine (splitSeqs_any _ _ _).mono ?_; rintro e w' ⟨rfl, rfl⟩)
        | (go_at_call 18; refine CW.out.mono ?_; rintro e w1 ⟨rfl, b1⟩; have B1 := hide b1; clear b1))
      go_ret2
      exact SplitIs.none HN.out B1.out
set_option maxRecDepth 10000 in
set_option maxHeartbeats 8000000 in
theorem pjoin_any (w : World) (a : Option Addr) (n c : Nat) (ps : List Txt) (h : Reads 1 txVals w a n ps) (hc : n ≤ c) (hn : n ≤ 1000) (hl : ∀ p ∈ ps, p.length ≤ 1000) :
    Calls Tryd.prog 16 #[.slice a n c] w fun e w' => e = .returned (.tuple #[.string (bt (joinT ps).1), .int .i64 (joinT ps).2]) ∧ Below w.heap.size w w' := by
  have CW := hide (wrongV_any w a n c ps h hn)
  obtain ⟨E, hE⟩ : ∃ E, E = wrongE ps := ⟨_, rfl⟩
  rw [← hE] at CW
  have HL := h.1
  by_cases hz : E = 0
  · have hw : firstE ps = 0 ∧ ps.length ≤ 6 := by
      have : wrongE ps = 0 := by rw [← hE]; exact hz
      unfold wrongE at this
      by_cases k : firstE ps = 0
      · rw [if_neg (by rw [k]; simp)] at this
        by_cases k6 : 6 < ps.length
        · rw [if_pos k6] at this; cases this
        · exact ⟨k, by omega⟩
      · rw [if_pos k] at this; exact absurd this k
    obtain ⟨J, hJ⟩ : ∃ J, J = Lib.join ps [47] := ⟨_, rfl⟩
    have jl : J.length ≤ 54 := by
      by_cases k : ps = []
      · rw [hJ, k]; decide
      · have := joined_size hw.1
        rw [joined_intercalate k, ← hJ, List.length_cons] at this
        omega
    have CJ := hide (fun (W : World) (b : Below w.heap.size w W) => joins_any W a n c ps (h.below b) hc hn (by rw [← hJ]; omega))
    rw [← hJ] at CJ
    have HN := hide (show joinT ps = (47 :: J, 0) from by
      unfold joinT
      rw [if_neg (by rw [hw.1]; simp), if_neg (by omega)]
      by_cases k : ps = []
      · rw [if_pos k, hJ, k]; rfl
      · rw [if_neg k, joined_intercalate k, ← hJ])
    have AD := fun W => run_add_bt W [47] J (by simp; omega)
    rw [show bt [47] = ByteArray.mk #[47] from rfl] at AD
    subst hz
    clear h hc hn hl hE HL hw hJ jl
    go_enter Tryd.func16, Tryd.ntmps16
    go_wp2_with (first
      | (go_at_call 23; refine (values_any _ _ _ _).mono ?_; rintro e w' ⟨rfl, rfl⟩)
      | (go_at_call 18; refine CW.out.mono ?_; rintro e w1 ⟨rfl, b1⟩; have B1 := hide b1; clear b1)
      | (go_at_call 24; refine (CJ.out _ B1.out).mono ?_; rintro e w2 ⟨rfl, b2⟩; have B2 := hide (B1.out.trans (b2.mono B1.out.size)); clear b2))
    go_ret2
    exact ⟨by rw [HN.out]; rfl, B2.out⟩
  · have nE : (E != 0) = true := by simpa using hz
    have HN := hide (show joinT ps = ([], E) from by
      unfold joinT
      unfold wrongE at hE
      by_cases k : firstE ps = 0
      · rw [if_neg (by rw [k]; simp)] at hE
        rw [if_neg (by rw [k]; simp)]
        by_cases k6 : 6 < ps.length
        · rw [if_pos k6] at hE; rw [if_pos k6, hE]
        · rw [if_neg k6] at hE; exact absurd hE hz
      · rw [if_pos k] at hE
        rw [if_pos k, hE])
    clear h hc hn hl hE HL hz
    go_enter Tryd.func16, Tryd.ntmps16
    go_wp2_with (first
      | (go_at_call 23; refine (values_any _ _ _ _).mono ?_; rintro e w' ⟨rfl, rfl⟩)
      | (go_at_call 18; refine CW.out.mono ?_; rintro e w1 ⟨rfl, b1⟩; have B1 := hide b1; clear b1))
    go_ret2
    exact ⟨by rw [HN.out]; rfl, B1.out⟩
set_option maxRecDepth 10000 in
set_option maxHeartbeats 8000000 in
theorem ppar_any (w : World) (s : Txt) (hs : s.length ≤ 1000000) : Calls Tryd.prog 9 #[.string (bt s)] w (ParIs w s) := by
  have SP := hide (psplit_any w s hs)
  obtain ⟨E, hE⟩ : ∃ E, E = (splitT s).2 := ⟨_, rfl⟩
  by_cases h0 : E = 0
  · have hb : (E != 0) = false := by rw [h0]; rfl
    obtain ⟨ls, hls⟩ : ∃ ls, ls = (splitT s).1 := ⟨_, rfl⟩
    have hok : firstE ls = 0 := by rw [hls]; exact splitT_names (by rw [← hE]; exact h0)
    have h6 : ls.length ≤ 6 := by rw [hls]; exact (split_join (by rw [← hE]; exact h0)).2
    rcases List.eq_nil_or_concat ls with hn | ⟨ini, last, hn⟩
    · have HP := hide (show parT s = ([], [], 19) from by unfold parT; rw [if_neg (by rw [← hE, h0]; simp), if_pos (by rw [← hls]; exact hn)])
      have SQ := hide (show Calls Tryd.prog 7 #[.string (bt s)] w (fun e w' => ∃ A c, e = .returned (.tuple #[.slice A 0 c, .int .i64 0]) ∧ Below w.heap.size w w') from SP.out.mono fun e w' hh => by
        obtain ⟨v, h1, h2, h3⟩ := hh
        rw [← hls, hn] at h2
        obtain ⟨A, c, rfl, _⟩ := own_sliceT h2
        exact ⟨A, c, by rw [h1, ← hE, h0] <;> rfl, h3⟩)
      clear SP hE h0 hls hok h6 hn hb
      go_enter Tryd.func9, Tryd.ntmps9
      go_wp2_with (go_at_call 7; refine SQ.out.mono ?_; rintro e w1 ⟨A, c, rfl, b1⟩; have B1 := hide b1; clear b1)
      go_ret3
      exact ⟨by rw [HP.out]; rfl, B1.out⟩
    · rw [List.concat_eq_append] at hn
      obtain ⟨m, hm⟩ : ∃ m, m = ini.length := ⟨_, rfl⟩
      have m5 : m ≤ 5 := by rw [hn] at h6; simp at h6; omega
      have hl : ls.length = m + 1 := by rw [hn, hm]; simp
      have hini : firstE ini = 0 := firstE_zero.2 fun p hp => firstE_zero.1 hok p (by rw [hn]; simp [hp])
      have HP := hide (show parT s = ((joinT ini).1, last, 0) from by
        unfold parT
        rw [if_neg (by rw [← hE, h0]; simp), if_neg (by rw [← hls, hn]; simp), ← hls, hn]
        simp)
      have SQ := hide (show Calls Tryd.prog 7 #[.string (bt s)] w (fun e w' => ∃ g c, e = .returned (.tuple #[.slice (some ⟨g, 0, none⟩) (m + 1) c, .int .i64 0]) ∧ m + 1 ≤ c ∧ Reads 1 txVals w' (some ⟨g, 0, none⟩) (m + 1) (ini ++ [last]) ∧ Below w.heap.size w w') from SP.out.mono fun e w' hh => by
        obtain ⟨v, h1, h2, h3⟩ := hh
        rw [← hls, hl] at h2
        obtain ⟨A, c, rfl, hr, hc, _, _⟩ := own_reads txVals_len (by omega) h2
        rw [hn] at hr
        rcases h2.2 with ⟨e1, _⟩ | ⟨g, cap, cur, e1, _⟩
        · cases e1
        · injection e1 with e1 _ e2
          subst e1
          exact ⟨g, c, by rw [h1, ← hE, h0] <;> rfl, hc, hr, h3⟩)
      have JL := hide (fun (p : Txt) (hp : p ∈ ini) => show p.length ≤ 1000 from by have := (nameE_ok (firstE_zero.1 hini p hp)).2.1; omega)
      have J2 := hide (show (joinT ini).2 = 0 from by unfold joinT; rw [if_neg (by rw [hini]; simp), if_neg (by omega)]; split <;> rfl)
      have LT := hide (show (ini ++ [last])[m]? = some last from by rw [hm]; simp)
      have TK := hide (show (ini ++ [last]).take m = ini from by rw [hm]; simp)
      clear SP hE h0 hls hok h6 hn hb hl hini hm
      go_enter Tryd.func9, Tryd.ntmps9
      go_wp2_with (first
        | (go_at_call 7; refine SQ.out.mono ?_; rintro e w1 ⟨g, c, rfl, hc, hr, b1⟩; have B1 := hide b1; have RD := hide (show Reads 1 txVals w1 (some ⟨g, 0, none⟩) m ini from by have := hr.front (k := m) (by omega); rwa [TK.out] at this); have q0 : w1.cell? ⟨g, m, none⟩ = some (.string (bt last)) := (by obtain ⟨x, b, o, h1, h2, h3⟩ := hr.text (k := m) (by omega); rw [LT.out] at h1; injection h1 with h1; injection h2 with h2; injection h2 with h2 h4; subst h1 h2 h4; simpa using h3); clear b1 hr)
        | (go_at_call 16; refine (pjoin_any _ _ _ _ ini RD.out (by omega) (by omega) JL.out).mono ?_; rintro e w2 ⟨rfl, b2⟩; have B2 := hide (B1.out.trans (b2.mono B1.out.size)); have q2 := (b2.cell (lt_of_cell? q0)).trans q0; clear b2))
      go_quiet (fail)
      go_wp2_with fail
      go_ret3
      exact ⟨by rw [HP.out, J2.out]; rfl, below_drewN B2.out _⟩
  · have hb : (E != 0) = true := by simpa using h0
    have HP := hide (show parT s = ([], [], E) from by unfold parT; rw [if_pos (by rw [← hE]; exact h0), hE])
    have SQ := hide (show Calls Tryd.prog 7 #[.string (bt s)] w (fun e w' => ∃ A n c, e = .returned (.tuple #[.slice A n c, .int .i64 E]) ∧ Below w.heap.size w w') from SP.out.mono fun e w' hh => by
      obtain ⟨v, h1, h2, h3⟩ := hh
      obtain ⟨A, c, rfl, _⟩ := own_sliceT h2
      exact ⟨A, _, c, by rw [h1, ← hE], h3⟩)
    clear SP hE h0
    go_enter Tryd.func9, Tryd.ntmps9
    go_wp2_with (go_at_call 7; refine SQ.out.mono ?_; rintro e w1 ⟨A, n, c, rfl, b1⟩; have B1 := hide b1; clear b1)
    go_ret3
    exact ⟨by rw [HP.out]; rfl, B1.out⟩
theorem ppath : PPath where
  name := fun w s hs => (pname_any w s).mono (by rintro e w' ⟨h1, rfl⟩; exact ⟨h1, Below.refl _ _⟩)
  split := psplit_any
  join := pjoin_any
  parent := ppar_any
end Go.Proofs.YtjcfdpicdmidaaaDoor
