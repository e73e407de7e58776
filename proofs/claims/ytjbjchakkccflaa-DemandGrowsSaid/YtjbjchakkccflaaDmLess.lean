/-
  The walk of DemandLess, over the contracts of the program's demand.
-/
import Derived.Test.YtjbjchakkccflaaDmBoth
namespace Go.Proofs.Ytjbjchakkccflaa
open Go.ChangeShapes Go.WideShapes Go.ChangeAt Go.RowKit
set_option linter.unusedVariables false
theorem front_last {α : Type} {xs : List α} {n : Nat} (h : xs.length = n + 1) : ∃ x, xs = xs.take n ++ [x] := by
  refine ⟨xs[n]'(by omega), ?_⟩
  rw [← List.take_succ_eq_append_getElem (by omega), List.take_of_length_le (by omega)]
theorem workP_front {ps : List Pt} {n : Nat} (h : ps.length = n + 1) (s : Int) (rest : List Pt) : workP s (ps.take n ++ rest) ≤ workP s (ps ++ rest) := by
  obtain ⟨x, hx⟩ := front_last h
  have := workP_less s (ps.take n) x rest
  have e : ps ++ rest = ps.take n ++ x :: rest := by
    have : ps ++ rest = (ps.take n ++ [x]) ++ rest := by rw [← hx]
    rw [this, List.append_assoc]; rfl
  rw [e]
  exact this
set_option maxHeartbeats 8000000 in
theorem walk_demandLessC (C : PDemand) (w : World) (block : Int) (hb : (Lit.int .i64 block).wf = true) (pa : Option Addr) (n cn : Nat) (ps : List Pt) (hin : Came 2 ptVals PtFit w pa n cn ps) (pb : Option Addr) (m cm : Nat) (es : List Er) (hin2 : Came 3 erVals ErFit w pb m cm es) (less : Int) (hl : (Lit.int .i64 less).wf = true) :
    Calls Try.prog 4 #[.int .i64 block, .slice pa n cn, .slice pb m cm, .int .i64 less] w fun e w' => e = .returned (.bool true) ∧ Below w.heap.size w w' := by
  have AW := hide (fun W => dmawake_any C W)
  by_cases hg : 8 < n
  · have g1 : (8 : Int) < (n : Int) := by omega
    clear hin hin2 C
    go_enter Try.func4, Try.ntmps4
    go_wp2_with (go_at_call 7; refine (AW.out _).mono ?_; rintro e w' ⟨rfl, b⟩; have B := hide b; clear b)
    go_ret
    exact ⟨rfl, B.out⟩
  by_cases hg2 : 8 < m
  · have g1 : ¬ (8 : Int) < (n : Int) := by omega
    have g2 : (8 : Int) < (m : Int) := by omega
    clear hin hin2 C
    go_enter Try.func4, Try.ntmps4
    go_wp2_with (go_at_call 7; refine (AW.out _).mono ?_; rintro e w' ⟨rfl, b⟩; have B := hide b; clear b)
    go_ret
    exact ⟨rfl, B.out⟩
  have g1 : ¬ (8 : Int) < (n : Int) := by omega
  have g2 : ¬ (8 : Int) < (m : Int) := by omega
  have LB := hide (fun (W : World) => low_i block 50 W (by omega) (by omega))
  have LL := hide (fun (W : World) (b : Int) (h : 0 ≤ b ∧ b < 50) => low_i less (b + 1) W (by omega) (by omega))
  have RA := hide hin.reads
  have RB := hide hin2.reads
  have hfa : ∀ x ∈ ps, PtFit w x := hin.2.2.2.2.1
  have hfb : ∀ x ∈ es, ErFit w x := hin2.2.2.2.2.1
  have hna := hin.2.2.2.1
  have hnb := hin2.2.2.2.1
  have hca := hin.2.1
  have hcb := hin2.2.1
  have FI := hide (show ∀ (W : World) (b : Int) (k l : Nat), Below w.heap.size w W → 0 ≤ b → b < 50 → k ≤ n → l ≤ m → Calls Try.prog 10 #[.int .i64 b, .slice pa k cn, .slice pb l cm, .int .i64 600] W fun e w' => ∃ v, e = .returned v ∧ FitsIs b (ps.take k) (es.take l) 600 v ∧ Below W.heap.size W w' from fun W b k l hB h0 h1 hk hl => by
    have f1 : ∀ x ∈ ps.take k, PtFit W x := fun x hx => hfa x (List.mem_of_mem_take hx)
    have f2 : ∀ x ∈ es.take l, ErFit W x := fun x hx => hfb x (List.mem_of_mem_take hx)
    have := C.fits W b pa k cn (ps.take k) pb l cm (es.take l) 600 ((RA.out.below hB).front hk) f1 (by omega) ((RB.out.below hB).front hl) f2 (by omega) hna hnb (by omega) (by omega) (wf_i (by omega) (by omega)) (by decide)
    exact this)
  have tn : ps.take n = ps := List.take_of_length_le (by rw [RA.out.1]; exact Nat.le_refl _)
  have tm : es.take m = es := List.take_of_length_le (by rw [RB.out.1]; exact Nat.le_refl _)
  have F0 := hide (show ∀ (W : World) (b : Int), Below w.heap.size w W → 0 ≤ b → b < 50 → Calls Try.prog 10 #[.int .i64 b, .slice pa n cn, .slice pb m cm, .int .i64 600] W fun e w' => ∃ v, e = .returned v ∧ FitsIs b ps es 600 v ∧ Below W.heap.size W w' from fun W b hB h0 h1 => by
    have := FI.out W b n m hB h0 h1 (Nat.le_refl _) (Nat.le_refl _)
    rw [tn, tm] at this
    exact this)
  have FA := hide (show ∀ (n' : Nat), n = n' + 1 → ∀ (W : World) (b : Int), Below w.heap.size w W → 0 ≤ b → b < 50 → Calls Try.prog 10 #[.int .i64 b, .slice pa n' cn, .slice pb m cm, .int .i64 600] W fun e w' => ∃ v, e = .returned v ∧ FitsIs b (ps.take n') es 600 v ∧ Below W.heap.size W w' from fun n' hn' W b hB h0 h1 => by
    have := FI.out W b n' m hB h0 h1 (by omega) (Nat.le_refl _)
    rw [tm] at this
    exact this)
  have FB := hide (show ∀ (m' : Nat), m = m' + 1 → ∀ (W : World) (b : Int), Below w.heap.size w W → 0 ≤ b → b < 50 → Calls Try.prog 10 #[.int .i64 b, .slice pa n cn, .slice pb m' cm, .int .i64 600] W fun e w' => ∃ v, e = .returned v ∧ FitsIs b ps (es.take m') 600 v ∧ Below W.heap.size W w' from fun m' hm' W b hB h0 h1 => by
    have := FI.out W b n m' hB h0 h1 (Nat.le_refl _) (by omega)
    rw [tn] at this
    exact this)
  have YA := hide (show ∀ (n' : Nat), n = n' + 1 → ∀ (b x x' : Int) (ok' : Bool), IsFits b ps es 600 x true → IsFits b (ps.take n') es 600 x' ok' → ok' = true from fun n' hn' b x x' ok' h h' => by
    have hl : ps.length = n' + 1 := by rw [RA.out.1]; exact hn'
    refine h.less h' (Int.le_refl _) (fun s => ?_) (fun s => Int.le_refl _) (fun s => workP_front hl s _)
    have := workP_front hl s []
    rwa [List.append_nil, List.append_nil] at this)
  have YB := hide (show ∀ (m' : Nat), m = m' + 1 → ∀ (b x x' : Int) (ok' : Bool), IsFits b ps es 600 x true → IsFits b ps (es.take m') 600 x' ok' → ok' = true from fun m' hm' b x x' ok' h h' => by
    have hl : es.length = m' + 1 := by rw [RB.out.1]; exact hm'
    obtain ⟨y, hy⟩ := front_last hl
    refine h.less h' (Int.le_refl _) (fun s => Int.le_refl _) (fun s => ?_) (fun s => ?_)
    · have := needE_less s (es.take m') y
      rwa [← hy] at this
    · have := workP_less s (ps ++ (es.take m').map partE) (partE y) []
      have e : ps ++ es.map partE = (ps ++ (es.take m').map partE) ++ [partE y] := by
        have : es.map partE = (es.take m' ++ [y]).map partE := by rw [← hy]
        rw [this, List.map_append, List.append_assoc]; rfl
      rw [List.append_nil, ← e] at this
      exact this)
  have YL := hide (show ∀ (b b' x x' : Int) (ok' : Bool), IsFits b ps es 600 x true → IsFits b' ps es 600 x' ok' → b' ≤ b → ok' = true from fun b b' x x' ok' h h' hb => h.less h' hb (fun s => Int.le_refl _) (fun s => Int.le_refl _) (fun s => Int.le_refl _))
  have CAP := hide (show n ≤ cn ∧ m ≤ cm from ⟨hca, hcb⟩)
  clear hin hin2 C hfa hfb hna hnb hca hcb tn tm FI RA RB hb hl
  go_enter Try.func4, Try.ntmps4
  go_upto_region 4 with (go_at_call 8; refine (LB.out _).mono ?_; rintro e w' ⟨⟨b, hb2, rfl⟩, rfl⟩; clear LB)
  have HB := hide hb2
  have b2 : b ≤ 50 := by omega
  have b3 : 0 ≤ b := hb2.1
  have LL2 := hide (fun (W : World) => LL.out W b hb2)
  clear hb2 LL
  go_upto_region 5 with (go_at_call 10; refine (F0.out _ b (Below.refl _ _) HB.out.1 HB.out.2).mono ?_; rintro e w1 ⟨v1, rfl, h1, b1⟩; obtain ⟨x1, ok1, rfl, hf1⟩ := h1; have I1 := hide hf1; have B1 := hide b1; clear hf1 b1)
  cases ok1 with
  | false =>
    go_wp2_with (go_at_call 7; refine (AW.out _).mono ?_; rintro e w9 ⟨rfl, b9⟩; have B9 := hide (B1.out.trans (b9.mono B1.out.size)); clear b9)
    go_ret
    exact ⟨rfl, B9.out⟩
  | true =>
    rcases Nat.eq_zero_or_pos n with hn0 | hn0
    · subst hn0
      go_upto_region 11 with fail
      rcases Nat.eq_zero_or_pos m with hm0 | hm0
      · subst hm0
        go_wp2_with (first
          | (go_at_call 8; refine (LL2.out _).mono ?_; rintro e w' ⟨⟨b', hb', rfl⟩, rfl⟩; have HB' := hide (show 0 ≤ b' ∧ b' < 50 ∧ b' ≤ b from ⟨hb'.1, by have := HB.out; omega, by omega⟩); clear hb' LL2)
          | (go_at_call 10; refine (F0.out _ b' B1.out HB'.out.1 HB'.out.2.1).mono ?_; rintro e w7 ⟨v7, rfl, h7, b7⟩; obtain ⟨x7, ok7, rfl, hf7⟩ := h7; obtain rfl := YL.out _ _ _ _ _ I1.out hf7 HB'.out.2.2; have B7 := hide (B1.out.trans (b7.mono B1.out.size)); clear hf7 b7)
          | (go_at_call 7; refine (AW.out _).mono ?_; rintro e w9 ⟨rfl, b9⟩; have B9 := hide (B7.out.trans (b9.mono B7.out.size)); clear b9))
        go_ret
        exact ⟨rfl, B9.out⟩
      · obtain ⟨m', rfl⟩ : ∃ m', m = m' + 1 := ⟨m - 1, by omega⟩
        have m0 : (0 : Int) < ((m' + 1 : Nat) : Int) := by omega
        have eM : ((m' + 1 : Nat) : Int) - 1 = (m' : Int) := by omega
        have m9 : ((m' : Nat) : Int) ≤ 9 := by omega
        have m8 : ((m' : Nat) : Int) ≤ (cm : Int) := by have := CAP.out; omega
        have FBm := hide (FB.out m' rfl)
        have YBm := hide (fun (x x' : Int) (ok' : Bool) (h : IsFits b ps es 600 x true) (h' : IsFits b ps (es.take m') 600 x' ok') => YB.out m' rfl b x x' ok' h h')
        go_upto_region 15 with (go_at_call 10; refine (FBm.out _ b B1.out HB.out.1 HB.out.2).mono ?_; rintro e w5 ⟨v5, rfl, h5, b5⟩; obtain ⟨x5, ok5, rfl, hf5⟩ := h5; obtain rfl := YBm.out _ _ _ I1.out hf5; have B5 := hide (B1.out.trans (b5.mono B1.out.size)); clear hf5 b5)
        go_wp2_with (first
          | (go_at_call 8; refine (LL2.out _).mono ?_; rintro e w' ⟨⟨b', hb', rfl⟩, rfl⟩; have HB' := hide (show 0 ≤ b' ∧ b' < 50 ∧ b' ≤ b from ⟨hb'.1, by have := HB.out; omega, by omega⟩); clear hb' LL2)
          | (go_at_call 10; refine (F0.out _ b' B5.out HB'.out.1 HB'.out.2.1).mono ?_; rintro e w7 ⟨v7, rfl, h7, b7⟩; obtain ⟨x7, ok7, rfl, hf7⟩ := h7; obtain rfl := YL.out _ _ _ _ _ I1.out hf7 HB'.out.2.2; have B7 := hide (B5.out.trans (b7.mono B5.out.size)); clear hf7 b7)
          | (go_at_call 7; refine (AW.out _).mono ?_; rintro e w9 ⟨rfl, b9⟩; have B9 := hide (B7.out.trans (b9.mono B7.out.size)); clear b9))
        go_ret
        exact ⟨rfl, B9.out⟩
    · obtain ⟨n', rfl⟩ : ∃ n', n = n' + 1 := ⟨n - 1, by omega⟩
      have n0 : (0 : Int) < ((n' + 1 : Nat) : Int) := by omega
      have eN : ((n' + 1 : Nat) : Int) - 1 = (n' : Int) := by omega
      have n9 : ((n' : Nat) : Int) ≤ 9 := by omega
      have n8 : ((n' : Nat) : Int) ≤ (cn : Int) := by have := CAP.out; omega
      have FAn := hide (FA.out n' rfl)
      have YAn := hide (fun (x x' : Int) (ok' : Bool) (h : IsFits b ps es 600 x true) (h' : IsFits b (ps.take n') es 600 x' ok') => YA.out n' rfl b x x' ok' h h')
      go_upto_region 11 with (go_at_call 10; refine (FAn.out _ b B1.out HB.out.1 HB.out.2).mono ?_; rintro e w3 ⟨v3, rfl, h3, b3⟩; obtain ⟨x3, ok3, rfl, hf3⟩ := h3; obtain rfl := YAn.out _ _ _ I1.out hf3; have B3 := hide (B1.out.trans (b3.mono B1.out.size)); clear hf3 b3)
      rcases Nat.eq_zero_or_pos m with hm0 | hm0
      · subst hm0
        go_wp2_with (first
          | (go_at_call 8; refine (LL2.out _).mono ?_; rintro e w' ⟨⟨b', hb', rfl⟩, rfl⟩; have HB' := hide (show 0 ≤ b' ∧ b' < 50 ∧ b' ≤ b from ⟨hb'.1, by have := HB.out; omega, by omega⟩); clear hb' LL2)
          | (go_at_call 10; refine (F0.out _ b' B3.out HB'.out.1 HB'.out.2.1).mono ?_; rintro e w7 ⟨v7, rfl, h7, b7⟩; obtain ⟨x7, ok7, rfl, hf7⟩ := h7; obtain rfl := YL.out _ _ _ _ _ I1.out hf7 HB'.out.2.2; have B7 := hide (B3.out.trans (b7.mono B3.out.size)); clear hf7 b7)
          | (go_at_call 7; refine (AW.out _).mono ?_; rintro e w9 ⟨rfl, b9⟩; have B9 := hide (B7.out.trans (b9.mono B7.out.size)); clear b9))
        go_ret
        exact ⟨rfl, B9.out⟩
      · obtain ⟨m', rfl⟩ : ∃ m', m = m' + 1 := ⟨m - 1, by omega⟩
        have m0 : (0 : Int) < ((m' + 1 : Nat) : Int) := by omega
        have eM : ((m' + 1 : Nat) : Int) - 1 = (m' : Int) := by omega
        have m9 : ((m' : Nat) : Int) ≤ 9 := by omega
        have m8 : ((m' : Nat) : Int) ≤ (cm : Int) := by have := CAP.out; omega
        have FBm := hide (FB.out m' rfl)
        have YBm := hide (fun (x x' : Int) (ok' : Bool) (h : IsFits b ps es 600 x true) (h' : IsFits b ps (es.take m') 600 x' ok') => YB.out m' rfl b x x' ok' h h')
        go_upto_region 15 with (go_at_call 10; refine (FBm.out _ b B3.out HB.out.1 HB.out.2).mono ?_; rintro e w5 ⟨v5, rfl, h5, b5⟩; obtain ⟨x5, ok5, rfl, hf5⟩ := h5; obtain rfl := YBm.out _ _ _ I1.out hf5; have B5 := hide (B3.out.trans (b5.mono B3.out.size)); clear hf5 b5)
        go_wp2_with (first
          | (go_at_call 8; refine (LL2.out _).mono ?_; rintro e w' ⟨⟨b', hb', rfl⟩, rfl⟩; have HB' := hide (show 0 ≤ b' ∧ b' < 50 ∧ b' ≤ b from ⟨hb'.1, by have := HB.out; omega, by omega⟩); clear hb' LL2)
          | (go_at_call 10; refine (F0.out _ b' B5.out HB'.out.1 HB'.out.2.1).mono ?_; rintro e w7 ⟨v7, rfl, h7, b7⟩; obtain ⟨x7, ok7, rfl, hf7⟩ := h7; obtain rfl := YL.out _ _ _ _ _ I1.out hf7 HB'.out.2.2; have B7 := hide (B5.out.trans (b7.mono B5.out.size)); clear hf7 b7)
          | (go_at_call 7; refine (AW.out _).mono ?_; rintro e w9 ⟨rfl, b9⟩; have B9 := hide (B7.out.trans (b9.mono B7.out.size)); clear b9))
        go_ret
        exact ⟨rfl, B9.out⟩
end Go.Proofs.Ytjbjchakkccflaa
