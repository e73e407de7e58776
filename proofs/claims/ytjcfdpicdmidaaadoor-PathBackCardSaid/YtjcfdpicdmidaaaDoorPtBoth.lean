/-
  Contracts of the program's path; awake of stage 19; PathSplits, PathJoins, PathBack.
-/
import Derived.Test.YtjcfdpicdmidaaaDoorPtRef
import Derived.Test.YtjcfdpicdmidaaaDoorLow
namespace Go.Proofs.YtjcfdpicdmidaaaDoor
open Go.ChangeShapes Go.WideShapes Go.ChangeAt Go.RowKit
set_option linter.unusedVariables false
set_option linter.unusedSimpArgs false
/-- The program's path. -/
structure PPath : Prop where
  name : ∀ (w : World) (s : Txt), s.length ≤ 1000000 → Calls Tryd.prog 13 #[.string (bt s)] w fun e w' => e = .returned (.int .i64 (nameE s)) ∧ Below w.heap.size w w'
  split : ∀ (w : World) (s : Txt), s.length ≤ 1000000 → Calls Tryd.prog 7 #[.string (bt s)] w (SplitIs w s)
  join : ∀ (w : World) (a : Option Addr) (n c : Nat) (ps : List Txt), Reads 1 txVals w a n ps → n ≤ c → n ≤ 1000 → (∀ p ∈ ps, p.length ≤ 1000) →
    Calls Tryd.prog 16 #[.slice a n c] w fun e w' => e = .returned (.tuple #[.string (bt (joinT ps).1), .int .i64 (joinT ps).2]) ∧ Below w.heap.size w w'
  parent : ∀ (w : World) (s : Txt), s.length ≤ 1000000 → Calls Tryd.prog 9 #[.string (bt s)] w (ParIs w s)
theorem splitIs_ok {w w' : World} {s : Txt} {e : Ending} (h : SplitIs w s e w') : ∃ A c, e = .returned (.tuple #[.slice A (splitT s).1.length c, .int .i64 (splitT s).2]) ∧ w'.ownsRow w.heap.size 9 1 (.slice A (splitT s).1.length c) (splitT s).1.length ((splitT s).1.flatMap txVals) ∧ Reads 1 txVals w' A (splitT s).1.length (splitT s).1 ∧ (splitT s).1.length ≤ c ∧ (A = none → c = 0) ∧ Below w.heap.size w w' := by
  obtain ⟨v, h1, h2, h3⟩ := h
  obtain ⟨A, c, rfl, hr, hc, _, hn⟩ := own_reads txVals_len (by omega) h2
  exact ⟨A, c, h1, h2, hr, hc, hn, h3⟩
theorem splitT_few (s : Txt) : (splitT s).1.length ≤ 6 := by
  by_cases h : (splitT s).2 = 0
  · exact (split_join h).2
  · rw [splitT_err h]; simp
theorem reads_two (w : World) (x y : Txt) (t : TypeId) (n : Nat) (hn : n = w.heap.size) : Reads 1 txVals (w.alloc (.cells #[.string (bt x), .string (bt y)] t)) (some ⟨n, 0, none⟩) 2 [x, y] := by
  subst hn
  refine ⟨rfl, fun _ => ⟨_, _, rfl, fun i p hx j u hu => ?_⟩⟩
  have hj : j = 0 := by have := (List.getElem?_eq_some_iff.1 hu).1; simp [txVals] at this; exact this
  subst hj
  match i, hx with
  | 0, hx => injection hx with hx; subst hx; injection hu with hu; subst hu; simp
  | 1, hx => injection hx with hx; subst hx; injection hu with hu; subst hu; simp
def tA : Txt := [47, 97, 47, 98, 99]
def tB : Txt := [47, 97, 47, 47, 98]
section
variable (C : PPath)
set_option maxRecDepth 10000 in
set_option maxHeartbeats 8000000 in
theorem ptawake_any (C : PPath) (w : World) : Calls Tryd.prog 6 #[] w fun e w' => e = .returned (.bool true) ∧ Below w.heap.size w w' := by
  have E1 := hide (show splitT tA = ([[97], [98, 99]], 0) from by decide)
  have E2 := hide (show splitT tB = ([], 9) from by decide)
  have E3 := hide (show parT tA = ([47, 97], [98, 99], 0) from by decide)
  have S1 := hide (show Calls Tryd.prog 7 #[.string (ByteArray.mk #[47, 97, 47, 98, 99])] w (fun e w' => ∃ A c, e = .returned (.tuple #[.slice A 2 c, .int .i64 0]) ∧ Reads 1 txVals w' A 2 [[97], [98, 99]] ∧ Below w.heap.size w w') from (C.split w tA (by decide)).mono fun e w' h => by
    obtain ⟨A, c, h1, _, h3, _, _, h4⟩ := splitIs_ok h
    rw [E1.out] at h1 h3
    exact ⟨A, c, h1, h3, h4⟩)
  have S2 := hide (fun (W : World) => show Calls Tryd.prog 7 #[.string (ByteArray.mk #[47, 97, 47, 47, 98])] W (fun e w' => ∃ A c, e = .returned (.tuple #[.slice A 0 c, .int .i64 9]) ∧ Below W.heap.size W w') from (C.split W tB (by decide)).mono fun e w' h => by
    obtain ⟨A, c, h1, _, h3, _, _, h4⟩ := splitIs_ok h
    rw [E2.out] at h1
    exact ⟨A, c, h1, h4⟩)
  have S3 := hide (fun (W : World) => show Calls Tryd.prog 9 #[.string (ByteArray.mk #[47, 97, 47, 98, 99])] W (fun e w' => e = .returned (.tuple #[.string (ByteArray.mk #[47, 97]), .string (ByteArray.mk #[98, 99]), .int .i64 0]) ∧ Below W.heap.size W w') from (C.parent W tA (by decide)).mono fun e w' h => by
    have h1 := h.1
    rw [E3.out] at h1
    exact ⟨h1, h.2⟩)
  clear E1 E2 E3
  go_enter Tryd.func6, Tryd.ntmps6
  go_wp2_with (first
    | (go_at_call 9; refine (S3.out _).mono ?_; rintro e w3 ⟨rfl, b3⟩; have B3 := hide (B2.out.trans (b3.mono B2.out.size)); have R3 := hide ((R2.out).below b3); clear b3)
    | (go_at_call 7; with_reducible refine S1.out.mono ?_; rintro e w1 ⟨A1, c1, rfl, r1, b1⟩; have B1 := hide b1; have R1 := hide r1; clear b1 r1)
    | (go_at_call 7; with_reducible refine (S2.out _).mono ?_; rintro e w2 ⟨A2, c2, rfl, b2⟩; have B2 := hide (B1.out.trans (b2.mono B1.out.size)); have R2 := hide ((R1.out).below b2); clear b2)
    | (go_at_call 11; refine (sameTexts_any _ _ 2 _ _ [[97], [98, 99]] _ (R3.out.below ((Below.refl _ _).alloc (Nat.le_refl _) _)) (reads_two _ [97] [98, 99] _ _ rfl) (by omega)).mono ?_; rintro e w4 ⟨rfl, b4⟩; have B4 := hide ((B3.out.alloc B3.out.size _).trans (b4.mono (by have := B3.out.size; simp; omega))); clear b4))
  go_ret
  exact ⟨rfl, B4.out⟩
set_option maxRecDepth 10000 in
set_option maxHeartbeats 8000000 in
theorem walk_pathSplitsC (C : PPath) (w : World) (s : Txt) (hs : s.length ≤ maxLen) : Calls Tryd.prog 3 #[.string (bt s)] w fun e w' => e = .returned (.bool true) ∧ Below w.heap.size w w' := by
  have z0 := bt_size s
  have zm : (bt s).size ≤ 9223372036854775807 := by unfold maxLen at hs; omega
  by_cases h2 : 2000 < s.length
  · have n2 : (2000 : Int) < ((bt s).size : Int) := by omega
    clear h2 hs z0
    go_enter Tryd.func3, Tryd.ntmps3
    go_wp2_with (go_at_call 6; refine (ptawake_any C _).mono ?_; rintro e w7 ⟨rfl, b7⟩; have B7 := hide b7; clear b7)
    go_ret
    exact ⟨rfl, B7.out⟩
  · have n2 : ¬ (2000 : Int) < ((bt s).size : Int) := by omega
    have L := hide (show s.length ≤ 1000000 from by omega)
    obtain ⟨E, hE⟩ : ∃ E, E = (splitT s).2 := ⟨_, rfl⟩
    obtain ⟨ls, hls⟩ : ∃ ls, ls = (splitT s).1 := ⟨_, rfl⟩
    obtain ⟨n, hn⟩ : ∃ n, n = ls.length := ⟨_, rfl⟩
    have n6 : n ≤ 1000000 := by have := splitT_few s; rw [hn, hls]; omega
    have ok := hide (fun (W W' : World) (e : Ending) (h : SplitIs W s e W') => show ∃ A c, e = .returned (.tuple #[.slice A n c, .int .i64 E]) ∧ W'.ownsRow W.heap.size 9 1 (.slice A n c) n (ls.flatMap txVals) ∧ Reads 1 txVals W' A n ls ∧ Below W.heap.size W W' from by
      obtain ⟨A, c, h1, h2, h3, _, _, h4⟩ := splitIs_ok h
      rw [← hE, ← hls, ← hn] at h1
      rw [← hls, ← hn] at h2 h3
      exact ⟨A, c, h1, h2, h3, h4⟩)
    have S1 := hide (fun W => (C.split W s L.out).mono fun e W' h => ok.out W W' e h)
    have S2 := hide (fun W => (rsplit_any W s L.out).mono fun e W' h => ok.out W W' e h)
    obtain ⟨P, hP⟩ : ∃ P, P = (parT s).1 := ⟨_, rfl⟩
    obtain ⟨Q, hQ⟩ : ∃ Q, Q = (parT s).2.1 := ⟨_, rfl⟩
    obtain ⟨G, hG⟩ : ∃ G, G = (parT s).2.2 := ⟨_, rfl⟩
    have pk := hide (fun (W W' : World) (e : Ending) (h : ParIs W s e W') => show e = .returned (.tuple #[.string (bt P), .string (bt Q), .int .i64 G]) ∧ Below W.heap.size W W' from by unfold ParIs at h; rw [← hP, ← hQ, ← hG] at h; exact h)
    have P1 := hide (fun W => (C.parent W s L.out).mono fun e W' h => pk.out W W' e h)
    have P2 := hide (fun W => (rpar_any W s L.out).mono fun e W' h => pk.out W W' e h)
    have N1 := hide (fun W => C.name W s L.out)
    have N2 := hide (fun W => rname_any W s L.out)
    obtain ⟨F, hF⟩ : ∃ F, F = nameE s := ⟨_, rfl⟩
    rw [← hF] at N1 N2
    clear hF hP hQ hG hE hls hn h2 hs z0 ok pk
    go_enter Tryd.func3, Tryd.ntmps3
    go_upto_region 7 with (first
      | (go_at_call 7; refine (S1.out _).mono ?_; rintro e w1 ⟨A1, c1, rfl, o1, r1, b1⟩; have B1 := hide b1; have O1 := hide o1; have Q1 := hide o1; have R1 := hide r1; clear b1 r1 o1)
      | (go_at_call 8; refine (S2.out _).mono ?_; rintro e w2 ⟨A2, c2, rfl, o2, r2, b2⟩; have B2 := hide (B1.out.trans (b2.mono B1.out.size)); have K2 := hide (R1.out.below b2); have Q2 := hide (own_downT Q1.out b2); have O2 := hide o2; have R2 := hide r2; clear b2 r2 o2)
      | (go_at_call 9; refine (P1.out _).mono ?_; rintro e w3 ⟨rfl, b3⟩; have B3 := hide (B2.out.trans (b3.mono B2.out.size)); have K3 := hide (K2.out.below b3); have Q3 := hide (own_downT Q2.out b3); have R3 := hide (R2.out.below b3); clear b3)
      | (go_at_call 10; refine (P2.out _).mono ?_; rintro e w4 ⟨rfl, b4⟩; have B4 := hide (B3.out.trans (b4.mono B3.out.size)); have K4 := hide (K3.out.below b4); have Q4 := hide (own_downT Q3.out b4); have R4 := hide (R3.out.below b4); clear b4))
    have NE := hide (show ∀ b o, A2 = some ⟨b, o, none⟩ → ¬ (Value.slice A1 n c1).ownBlock = some b from fun b o e1 e2 => by
      have h1 := (O1.out.lt b e2).2
      have h2 := (O2.out.lt b (by rw [e1]; rfl)).1
      omega)
    have LO := hide (show ∀ b, (Value.slice A1 n c1).ownBlock = some b → w.heap.size ≤ b from fun b e2 => (O1.out.lt b e2).1)
    clear K2 K3 R3 B1 B2 B3 Q1 Q2 Q3 O1 O2 R1 R2
    have tr : ∀ {W W' : World}, Below w.heap.size w W → Below W.heap.size W W' → Below w.heap.size w W' := fun a b => a.trans (b.mono a.size)
    have TR := hide (fun (W W' : World) (a : Below w.heap.size w W) (b : Below W.heap.size W W') => tr a b)
    clear tr
    go_upto_region 8 with (first
      | (go_at_call 11; refine (sameTexts_any _ _ n _ _ ls _ K4.out R4.out n6).mono ?_; rintro e w5 ⟨rfl, b5⟩; have B5 := hide (TR.out _ _ B4.out b5); have R5 := hide (R4.out.below b5); have Q5 := hide (own_downT Q4.out b5); clear b5)
      | (go_at_call 12; refine (errnum_any _ _).mono ?_; rintro e w' ⟨rfl, rfl⟩)
      | (go_at_call 13; refine (N1.out _).mono ?_; rintro e w6 ⟨rfl, b6⟩; have B6 := hide (TR.out _ _ B5.out b6); have R6 := hide (R5.out.below b6); have Q6 := hide (own_downT Q5.out b6); clear b6)
      | (go_at_call 14; refine (N2.out _).mono ?_; rintro e w' ⟨rfl, rfl⟩))
    go_wp2_with (first
      | (go_at_call 15; refine (overTexts_any _ n _ _ Q6.out n6).mono ?_; rintro e w7 ⟨rfl, t7⟩; have R7 := hide (R6.out.touch t7 NE.out); have B7 := hide (B6.out.trans (t7.below B6.out.size (fun i hi => LO.out i hi))); clear t7)
      | (go_at_call 7; refine (S1.out _).mono ?_; rintro e w8 ⟨A8, c8, rfl, o8, r8, b8⟩; have B8 := hide (TR.out _ _ B7.out b8); have R8 := hide (R7.out.below b8); have K8 := hide r8; clear b8 r8 o8)
      | (go_at_call 11; refine (sameTexts_any _ _ n _ _ ls _ K8.out R8.out n6).mono ?_; rintro e w9 ⟨rfl, b9⟩; have B9 := hide (TR.out _ _ B8.out b9); clear b9)
      | (go_at_call 6; refine (ptawake_any C _).mono ?_; rintro e w10 ⟨rfl, b10⟩; have B10 := hide (TR.out _ _ B9.out b10); clear b10))
    go_ret
    exact ⟨rfl, B10.out⟩
set_option maxRecDepth 10000 in
set_option maxHeartbeats 8000000 in
theorem walk_pathJoinsC (C : PPath) (w : World) (a : Option Addr) (n c : Nat) (ps : List Txt) (hin : Came 1 txVals TxWf w a n c ps) : Calls Tryd.prog 4 #[.slice a n c] w fun e w' => e = .returned (.bool true) ∧ Below w.heap.size w w' := by
  have RD := hide hin.reads
  have NC := hide hin.2.1
  have FT := hide hin.2.2.2.2.1
  have HL := hide hin.1
  have n63 : n ≤ 9223372036854775807 := by have h1 := hin.2.1; have h2 := hin.2.2.1; unfold maxLen at h2; omega
  clear hin
  by_cases h20 : 20 < n
  · have n2 : (20 : Int) < (n : Int) := by omega
    clear h20
    go_enter Tryd.func4, Tryd.ntmps4
    go_wp2_with (go_at_call 6; refine (ptawake_any C _).mono ?_; rintro e w7 ⟨rfl, b7⟩; have B7 := hide b7; clear b7)
    go_ret
    exact ⟨rfl, B7.out⟩
  · have n2 : ¬ (20 : Int) < (n : Int) := by omega
    have n20 : n ≤ 20 := by omega
    clear h20
    go_enter Tryd.func4, Tryd.ntmps4
    go_wp2_with fail
    go_loop [3] (fun i => ∃ k : Nat, k ≤ n ∧ i = .int .i64 k ∧ Hid (∀ p ∈ ps.take k, p.length ≤ 200)) (fun i => n - (intOf i).toNat)
    case atStart => exact ⟨0, Nat.zero_le _, rfl, fun p hp => by simp at hp⟩
    case round =>
      obtain ⟨k, hk, rfl, hZ⟩ := hrel
      by_cases hlt : k < n
      · have k0 : (0 : Int) ≤ (k : Int) := by omega
        have k1 : (k : Int) < (n : Int) := by omega
        obtain ⟨p, b1, o1, hx, rfl, hp⟩ := RD.out.text hlt
        have zp := bt_size p
        have zm : (bt p).size ≤ 9223372036854775807 := by have := FT.out p (List.mem_of_getElem? hx); unfold TxWf maxLen at this; omega
        by_cases h2 : 200 < p.length
        · have m2 : (200 : Int) < ((bt p).size : Int) := by omega
          clear h2 hx zp hZ
          go_wp2_with (go_at_call 6; refine (ptawake_any C _).mono ?_; rintro e w7 ⟨rfl, b7⟩; have B7 := hide b7; clear b7)
          go_ret
          exact ⟨rfl, B7.out⟩
        · have m2 : ¬ (200 : Int) < ((bt p).size : Int) := by omega
          have NX : Hid (∀ q ∈ ps.take (k + 1), q.length ≤ 200) := by
            intro q hq
            rw [List.take_add_one, hx] at hq
            rcases List.mem_append.1 hq with h | h
            · exact hZ.out q h
            · simp at h; rw [h]; omega
          clear h2 hx zp hZ
          go_wp2_with fail
          go_round
          case rel => exact ⟨k + 1, by omega, by go_num, NX⟩
          case measure => simp [intOf]; omega
      · obtain rfl : k = n := by omega
        have SH := hide (show ∀ p ∈ ps, p.length ≤ 200 from by have := hZ.out; rwa [List.take_of_length_le (by rw [HL.out]; exact Nat.le_refl _)] at this)
        have J1 := hide (C.join w a k c ps RD.out NC.out (by omega) (fun p hp => by have := SH.out p hp; omega))
        have J2 := hide (fun (W : World) (b : Below w.heap.size w W) => rjoin_any W a k c ps (RD.out.below b) (by omega) (fun p hp => by have := SH.out p hp; omega))
        generalize (joinT ps).1 = t at *
        generalize (joinT ps).2 = E at *
        have te : ((bt t).toList == (bt t).toList) = true := by simp
        clear hZ
        go_wp2_with (first
          | (go_at_call 16; refine J1.out.mono ?_; rintro e w1 ⟨rfl, b1⟩; have B1 := hide b1; clear b1)
          | (go_at_call 17; refine (J2.out _ B1.out).mono ?_; rintro e w' ⟨rfl, rfl⟩)
          | (go_at_call 12; refine (errnum_any _ _).mono ?_; rintro e w' ⟨rfl, rfl⟩)
          | (go_at_call 6; refine (ptawake_any C _).mono ?_; rintro e w10 ⟨rfl, b10⟩; have B10 := hide (B1.out.trans (b10.mono B1.out.size)); clear b10))
        go_ret
        exact ⟨rfl, B10.out⟩
end
end Go.Proofs.YtjcfdpicdmidaaaDoor
