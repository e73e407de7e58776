/-
  PathBack.
-/
import Derived.Test.YtjcfdpicdmidaaaDoorPtBoth
namespace Go.Proofs.YtjcfdpicdmidaaaDoor
open Go.ChangeShapes Go.WideShapes Go.ChangeAt Go.RowKit
set_option linter.unusedVariables false
set_option linter.unusedSimpArgs false
section
set_option maxRecDepth 10000 in
set_option maxHeartbeats 8000000 in
theorem walk_pathBackC (C : PPath) (w : World) (s : Txt) (hs : s.length ≤ maxLen) : Calls Tryd.prog 5 #[.string (bt s)] w fun e w' => e = .returned (.bool true) ∧ Below w.heap.size w w' := by
  have z0 := bt_size s
  have zm : (bt s).size ≤ 9223372036854775807 := by unfold maxLen at hs; omega
  have TR := hide (fun (W W' : World) (a : Below w.heap.size w W) (b : Below W.heap.size W W') => show Below w.heap.size w W' from a.trans (b.mono a.size))
  have AW := hide (fun W => ptawake_any C W)
  by_cases h2 : 2000 < s.length
  · have n2 : (2000 : Int) < ((bt s).size : Int) := by omega
    clear h2 hs z0
    go_enter Tryd.func5, Tryd.ntmps5
    go_wp2_with (go_at_call 6; refine (AW.out _).mono ?_; rintro e w7 ⟨rfl, b7⟩; have B7 := hide b7; clear b7)
    go_ret
    exact ⟨rfl, B7.out⟩
  · have n2 : ¬ (2000 : Int) < ((bt s).size : Int) := by omega
    have L := hide (show s.length ≤ 1000000 from by omega)
    obtain ⟨E, hE⟩ : ∃ E, E = (splitT s).2 := ⟨_, rfl⟩
    by_cases h0 : E = 0
    · obtain ⟨ls, hls⟩ : ∃ ls, ls = (splitT s).1 := ⟨_, rfl⟩
      have HOK := hide (show firstE ls = 0 from by rw [hls]; exact splitT_names (by rw [← hE]; exact h0))
      have h6 : ls.length ≤ 6 := by rw [hls]; exact splitT_few s
      have HJ := hide (show joinT ls = (s, 0) from by rw [hls]; exact (split_join (by rw [← hE]; exact h0)).1)
      obtain ⟨n, hn⟩ : ∃ n, n = ls.length := ⟨_, rfl⟩
      have n6 : n ≤ 6 := by omega
      have S1 := hide ((C.split w s L.out).mono fun e W' h => show ∃ A c, e = .returned (.tuple #[.slice A n c, .int .i64 0]) ∧ (∀ b, (Value.slice A n c).ownBlock = some b → b < W'.heap.size) ∧ n ≤ c ∧ Reads 1 txVals W' A n ls ∧ Below w.heap.size w W' from by
        obtain ⟨A, c, h1, h2, h3, h4, _, h5⟩ := splitIs_ok h
        rw [← hE, ← hls, ← hn, h0] at h1
        rw [← hls, ← hn] at h2 h3 h4
        exact ⟨A, c, h1, fun b hb => (h2.lt b hb).2, h4, h3, h5⟩)
      have J1 := hide (fun (W : World) (a : Option Addr) (c : Nat) (h : Reads 1 txVals W a n ls) (hc : n ≤ c) => show Calls Tryd.prog 16 #[.slice a n c] W (fun e w' => e = .returned (.tuple #[.string (bt s), .int .i64 0]) ∧ Below W.heap.size W w') from by
        have := C.join W a n c ls h hc (by omega) (fun p hp => by have := (nameE_ok (firstE_zero.1 HOK.out p hp)).2.1; omega)
        rw [HJ.out] at this
        exact this)
      have e1 : ((bt s).toList == (bt s).toList) = true := by simp
      have e2 : ((bt s).toList != (bt s).toList) = false := by simp
      rcases List.eq_nil_or_concat ls with hnil | ⟨ini, last, hcon⟩
      · have HP := hide (show parT s = ([], [], 19) from by unfold parT; rw [if_neg (by rw [← hE, h0]; simp), if_pos (by rw [← hls]; exact hnil)])
        obtain rfl : n = 0 := by rw [hn, hnil]; rfl
        have P1 := hide (fun W => (C.parent W s L.out).mono fun e W' h => show e = .returned (.tuple #[.string (ByteArray.mk #[]), .string (ByteArray.mk #[]), .int .i64 19]) ∧ Below W.heap.size W W' from by unfold ParIs at h; rw [HP.out] at h; exact h)
        clear h0 hE hls h6 hn hnil h2 hs z0
        go_enter Tryd.func5, Tryd.ntmps5
        go_wp2_with (first
          | (go_at_call 7; refine S1.out.mono ?_; rintro e w1 ⟨A1, c1, rfl, o1, k1, r1, b1⟩; have B1 := hide b1; have R1 := hide r1; have K1 := hide k1; clear b1 r1 o1 k1)
          | (go_at_call 16; refine (J1.out _ _ _ R1.out K1.out).mono ?_; rintro e w2 ⟨rfl, b2⟩; have B2 := hide (TR.out _ _ B1.out b2); clear b2)
          | (go_at_call 9; refine (P1.out _).mono ?_; rintro e w3 ⟨rfl, b3⟩; have B3 := hide (TR.out _ _ B2.out b3); clear b3)
          | (go_at_call 6; refine (AW.out _).mono ?_; rintro e w7 ⟨rfl, b7⟩; have B7 := hide (TR.out _ _ B3.out b7); clear b7))
        go_ret
        exact ⟨rfl, B7.out⟩
      · rw [List.concat_eq_append] at hcon
        obtain ⟨m, hm⟩ : ∃ m, m = ini.length := ⟨_, rfl⟩
        obtain rfl : n = m + 1 := by rw [hn, hcon, hm]; simp
        have hini : firstE ini = 0 := firstE_zero.2 fun p hp => firstE_zero.1 HOK.out p (by rw [hcon]; simp [hp])
        have HP := hide (show parT s = ((joinT ini).1, last, 0) from by
          unfold parT
          rw [if_neg (by rw [← hE, h0]; simp), if_neg (by rw [← hls, hcon]; simp), ← hls, hcon]
          simp)
        have HI := hide (join_split hini (by omega))
        have JS := hide (show (joinT ini).1.length ≤ 1000000 from by
          have := joined_size hini
          unfold joinT
          rw [if_neg (by rw [hini]; simp), if_neg (by omega)]
          split
          · simp
          · show (joined ini).length ≤ 1000000; omega)
        obtain ⟨t, ht⟩ : ∃ t, t = (joinT ini).1 := ⟨_, rfl⟩
        rw [← ht] at HP HI JS
        have LN := hide (show nameE last = 0 from firstE_zero.1 HOK.out last (by rw [hcon]; simp))
        have LL := hide (show last.length ≤ 1000000 from by have := (nameE_ok LN.out).2.1; omega)
        have P1 := hide (fun W => (C.parent W s L.out).mono fun e W' h => show e = .returned (.tuple #[.string (bt t), .string (bt last), .int .i64 0]) ∧ Below W.heap.size W W' from by unfold ParIs at h; rw [HP.out] at h; exact h)
        have S2 := hide (fun W => (C.split W t JS.out).mono fun e W' h => show ∃ A c, e = .returned (.tuple #[.slice A m c, .int .i64 0]) ∧ W'.ownsRow W.heap.size 9 1 (.slice A m c) m (ini.flatMap txVals) ∧ Below W.heap.size W W' from by
          obtain ⟨A, c, h1, h2, h3, h4, _, h5⟩ := splitIs_ok h
          rw [HI.out] at h1 h2
          rw [hm]
          exact ⟨A, c, h1, h2, h5⟩)
        have N1 := hide (fun W => show Calls Tryd.prog 13 #[.string (bt last)] W fun e w' => e = .returned (.int .i64 0) ∧ Below W.heap.size W w' from by have := C.name W last LL.out; rwa [LN.out] at this)
        have FL := hide (show ini.flatMap txVals ++ txVals last = ls.flatMap txVals from by rw [hcon]; simp)
        obtain ⟨i0, hi0, hz0, hz1, hz2⟩ := info_parts txs_info
        have HZ := hide hz2
        have hby : (m + 1) * 16 ≤ 140737488355328 := by omega
        have nz : ((m : Int) + 1 == 0) = false := by simp; omega
        clear h0 hE hls h6 hn hcon h2 hs z0 hini hm ht hz2
        go_enter Tryd.func5, Tryd.ntmps5
        go_upto_region 13 with (first
          | (go_at_call 9; refine (P1.out _).mono ?_; rintro e w3 ⟨rfl, b3⟩; have B3 := hide (TR.out _ _ B2.out b3); have R3 := hide (R2.out.below b3); have X3 := hide (fun b hb => Nat.lt_of_lt_of_le (X2.out b hb) b3.size); clear b3)
          | (go_at_call 7; with_reducible refine S1.out.mono ?_; rintro e w1 ⟨A1, c1, rfl, o1, k1, r1, b1⟩; have B1 := hide b1; have R1 := hide r1; have K1 := hide k1; have X1 := hide o1; clear b1 r1 o1 k1)
          | (go_at_call 16; refine (J1.out _ _ _ R1.out K1.out).mono ?_; rintro e w2 ⟨rfl, b2⟩; have B2 := hide (TR.out _ _ B1.out b2); have R2 := hide (R1.out.below b2); have X2 := hide (fun b hb => Nat.lt_of_lt_of_le (X1.out b hb) b2.size); clear b2)
          | (go_at_call 7; with_reducible refine (S2.out _).mono ?_; rintro e w4 ⟨A4, c4, rfl, o4, b4⟩; have B4 := hide (TR.out _ _ B3.out b4); have R4 := hide (R3.out.below b4); have X4 := hide (fun b (hb : (Value.slice A4 m c4).ownBlock = some b) => show ¬ (Value.slice A1 (m + 1) c1).ownBlock = some b ∧ w.heap.size ≤ b from ⟨fun e => by have h1 := X3.out b e; have h2 := (o4.lt b hb).1; omega, by have h1 := (o4.lt b hb).1; have h2 := B3.out.size; omega⟩); have O4 := hide o4; have Z4 := hide b4.size; clear b4 o4))
        go_wp2_with (first
          | (refine wpList_append_own_yes (by kernel_rfl) (.tmp 80) (.tmp 82) _ rfl w3.heap.size 9 i0 _ 1 16 Tryd.underlying23 hi0 hz0 hz1 HZ.out rfl (by omega) _ _ _ rfl (O4.out.alloc _) ⟨w4.heap.size, 0, none⟩ 1 1 (txVals last) rfl rfl (cells_new w4 (txVals last) _ _ rfl) (txVals_cell last) (by unfold maxLen; omega) hby (by have := Z4.out; simp; omega) ?_; intro v9 w9 o9 g9; rw [FL.out] at o9; obtain ⟨A9, c9, rfl, r9, _, _, _⟩ := own_reads txVals_len (by omega) o9; have K9 := hide r9; have B9 := hide ((B4.out.alloc B4.out.size _).grown g9 (by have := B4.out.size; simp; omega) (fun q hq => (X4.out q hq).2)); have R9 := hide ((R4.out.below ((Below.refl _ _).alloc (Nat.le_refl _) _)).touch (Touch.of_grown (S := fun i => (Value.slice A4 m c4).ownBlock = some i) g9 (fun g e => e)) (fun b o e1 e2 => (X4.out b e2).1 (by rw [e1]; rfl))); clear o9 g9 r9)
          | (go_at_call 11; refine (sameTexts_any _ _ (m + 1) _ _ ls _ K9.out R9.out (by omega)).mono ?_; rintro e w5 ⟨rfl, b5⟩; have B5 := hide (TR.out _ _ B9.out b5); clear b5)
          | (go_at_call 13; refine (N1.out _).mono ?_; rintro e w6 ⟨rfl, b6⟩; have B6 := hide (TR.out _ _ B5.out b6); clear b6)
          | (go_at_call 6; refine (AW.out _).mono ?_; rintro e w7 ⟨rfl, b7⟩; have B7 := hide (TR.out _ _ B6.out b7); clear b7))
        go_ret
        exact ⟨rfl, B7.out⟩
    · have hb : (E != 0) = true := by simpa using h0
      have S1 := hide ((C.split w s L.out).mono fun e W' h => show ∃ A c, e = .returned (.tuple #[.slice A 0 c, .int .i64 E]) ∧ Below w.heap.size w W' from by
        obtain ⟨A, c, h1, h2, h3, _, _, h4⟩ := splitIs_ok h
        rw [splitT_err (by rw [← hE]; exact h0), ← hE] at h1
        exact ⟨A, c, h1, h4⟩)
      clear h0 hE h2 hs z0
      go_enter Tryd.func5, Tryd.ntmps5
      go_wp2_with (first
        | (go_at_call 7; refine S1.out.mono ?_; rintro e w1 ⟨A1, c1, rfl, b1⟩; have B1 := hide b1; clear b1)
        | (go_at_call 6; refine (AW.out _).mono ?_; rintro e w7 ⟨rfl, b7⟩; have B7 := hide (TR.out _ _ B1.out b7); clear b7))
      go_ret
      exact ⟨rfl, B7.out⟩
end
end Go.Proofs.YtjcfdpicdmidaaaDoor
