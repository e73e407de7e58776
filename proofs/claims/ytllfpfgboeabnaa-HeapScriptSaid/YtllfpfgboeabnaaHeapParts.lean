/-
  The walk of HeapParts.
-/
import Derived.Test.YtllfpfgboeabnaaHeapSame
import Derived.Test.YtllfpfgboeabnaaHeapSorts
namespace Go.Proofs.Ytllfpfgboeabnaa
open Go.ChangeShapes Go.WideShapes Go.ChangeAt Go.RowKit
set_option linter.unusedVariables false
/-- All but who bears that number. -/
def but (k : Nat) (l : List (Int × Int)) : List (Int × Int) := l.filter fun x => x.1 != (k : Int)
theorem but_mem {k : Nat} {l : List (Int × Int)} {x : Int × Int} : x ∈ but k l ↔ x ∈ l ∧ x.1 ≠ (k : Int) := by unfold but; simp [List.mem_filter]
theorem prs_ne {ks : List Int} {n k : Nat} (h : n ≤ k) : but k (prs ks n) = prs ks n := by
  unfold but
  rw [List.filter_eq_self]
  intro x hx
  obtain ⟨j, hj, e⟩ := prs_mem.1 hx
  rw [e]; simp; omega
theorem but_succ (ks : List Int) (n k : Nat) : but k (prs ks (n + 1)) = if n = k then but k (prs ks n) else but k (prs ks n) ++ [((n : Int), ks.getD n 0)] := by
  unfold but
  rw [prs_succ, List.filter_append]
  by_cases e : n = k
  · subst e; simp
  · have : ((n : Int) != (k : Int)) = true := by simp; omega
    rw [if_neg e]; simp [this]
theorem prs_split (ks : List Int) (n k : Nat) (h : k < n) : (prs ks n).Perm (((k : Int), ks.getD k 0) :: but k (prs ks n)) := by
  induction n with
  | zero => omega
  | succ n ih =>
    rw [but_succ]
    by_cases e : n = k
    · subst e
      rw [if_pos rfl, prs_ne (Nat.le_refl _), prs_succ]
      exact List.perm_append_comm
    · rw [if_neg e, prs_succ]
      exact (ih (by omega)).append_right _
theorem at_of_mem {l : List (Int × Int)} {x : Int × Int} (h : x ∈ l) : ∃ p, p < l.length ∧ it l p = x := by
  obtain ⟨p, hp, e⟩ := List.getElem_of_mem h
  exact ⟨p, hp, by rw [it_get hp, e]⟩
theorem set_perm {l : List (Int × Int)} {k : Nat} (h : k < l.length) (y : Int × Int) {r : List (Int × Int)} (p : (it l k :: r).Perm l) : (l.set k y).Perm (y :: r) := by
  have h1 : l.Perm (it l k :: (l.take k ++ l.drop (k + 1))) := by
    have e : l = l.take k ++ it l k :: l.drop (k + 1) := by
      rw [it_get h]; simp
    exact (List.Perm.of_eq e).trans List.perm_middle
  have h2 : (l.set k y).Perm (y :: (l.take k ++ l.drop (k + 1))) := by
    rw [List.set_eq_take_append_cons_drop, if_pos h]
    exact List.perm_middle
  exact h2.trans ((h1.symm.trans p.symm).cons_inv.cons _)
/-- Behind the first loop. -/
structure Built (ks : List Int) (n k : Nat) (la lb lc : List (Int × Int)) : Prop where
  a : la.Perm (prs ks n)
  b : lb.Perm (prs ks n)
  c : lc.Perm (but k (prs ks n))
theorem parts_drop {ks : List Int} {n k p : Nat} {la la' lc : List (Int × Int)} (hk : k < n) (ha : la.Perm (prs ks n)) (hc : lc.Perm (but k (prs ks n))) (hp : it la p = ((k : Int), ks.getD k 0)) (h : (it la p :: la').Perm la) : la'.Perm lc ∧ ∀ x ∈ la', x.1 ≠ (k : Int) := by
  rw [hp] at h
  have h1 := ((h.trans ha).trans (prs_split ks n k hk)).cons_inv
  exact ⟨h1.trans hc.symm, fun x hx => (but_mem.1 (h1.mem_iff.1 hx)).2⟩
theorem parts_move {ks : List Int} {n k p : Nat} {lb lb' lc lc' : List (Int × Int)} {key : Int} (hk : k < n) (hb : lb.Perm (prs ks n)) (hc : lc.Perm (but k (prs ks n))) (hpl : p < lb.length) (hp : it lb p = ((k : Int), ks.getD k 0)) (h : lb'.Perm (lb.set p ((k : Int), key))) (h2 : lc'.Perm (lc ++ [((k : Int), key)])) : lb'.Perm lc' := by
  have h3 : (it lb p :: but k (prs ks n)).Perm lb := by rw [hp]; exact (hb.trans (prs_split ks n k hk)).symm
  have h4 := set_perm hpl ((k : Int), key) h3
  refine (h.trans h4).trans (List.Perm.trans ?_ h2.symm)
  exact ((hc.symm.cons _)).trans (List.perm_append_comm (l₁ := [((k : Int), key)]))
theorem trio_new {w w1 w2 w3 : World} {Ha Hb Hc : Nat} {Fa Fb Fc : Nat → Prop} (a : Held w1 Fa Ha []) (b : Held w2 Fb Hb []) (c : Held w3 Fc Hc []) (b1 : Below w.heap.size w w1) (b2 : Below w1.heap.size w1 w2) (b3 : Below w2.heap.size w2 w3) (ga : ∀ i, Fa i → w.heap.size ≤ i) (gb : ∀ i, Fb i → w1.heap.size ≤ i) (gc : ∀ i, Fc i → w2.heap.size ≤ i) :
    Trio w w3 Ha Hb Hc [] [] [] := by
  have la := a.lt
  have lb := b.lt
  have s1 := b1.size
  have s2 := b2.size
  exact ⟨Fa, Fb, Fc, (a.below b2).below b3, b.below b3, c, fun i h e => by have := la i h; have := gb i e; omega, fun i h e => by have := lb i h; have := gc i e; omega, fun i h e => by have := la i e; have := gc i h; omega, ga,
    fun i h => by have := gb i h; omega, fun i h => by have := gc i h; omega, b1.trans ((b2.mono s1).trans (b3.mono (by omega)))⟩
set_option maxRecDepth 100000 in
set_option maxHeartbeats 4000000 in
theorem walk_heapParts (w : World) (A : Option Addr) (n c : Nat) (ks : List Int) (hin : CameIn .i64 w A n c ks) (who : Int) (hwho : (Lit.int .i64 who).wf = true) (key : Int) (hkey : (Lit.int .i64 key).wf = true) :
    Calls Try.prog 6 #[.slice A n c, .int .i64 who, .int .i64 key] w fun e w' => e = .returned (.bool true) ∧ Below w.heap.size w w' := by
  obtain ⟨⟨hl, hc⟩, hnc, hcm, hnil, hwf⟩ := hin
  clear hwho hkey hnc hcm hnil hwf
  by_cases hbig : 60 < n
  · have hb : (60 : Int) < (n : Int) := by omega
    clear hl hc
    go_enter Try.func6, Try.ntmps6
    go_wp2_with (go_at_call 7; with_reducible refine (awake_any _).mono ?_; rintro e w' ⟨rfl, hb⟩)
    go_ret
    exact ⟨rfl, hb⟩
  by_cases h0 : n = 0
  · subst h0
    clear hl hc hbig
    go_enter Try.func6, Try.ntmps6
    go_wp2_with (go_at_call 7; with_reducible refine (awake_any _).mono ?_; rintro e w' ⟨rfl, hb⟩)
    go_ret
    exact ⟨rfl, hb⟩
  have hn : n ≤ 60 := by omega
  have hn0 : 0 < n := by omega
  have g1 : decide (60 < n) = false := by simp; omega
  have g2 : ((n : Int) == 0) = false := by simp; omega
  obtain ⟨b, off, rfl, hcell⟩ := hc hn0
  have HC := hide hcell
  clear hl hc h0 hbig hcell
  go_enter Try.func6, Try.ntmps6
  go_wp2_with fail
  go_at_call 8
  with_reducible refine (hnew_any _).mono ?_
  rintro e w1 ⟨Ha, Fa, rfl, q1, b1, f1⟩
  have Q1 := hide q1
  have G1 := hide f1
  have B1 := hide b1
  clear q1 b1 f1
  go_wp2_with fail
  go_at_call 8
  with_reducible refine (hnew_any _).mono ?_
  rintro e w2 ⟨Hb, Fb, rfl, q2, b2, f2⟩
  have Q2 := hide q2
  have G2 := hide f2
  have B2 := hide b2
  clear q2 b2 f2
  go_wp2_with fail
  go_at_call 8
  with_reducible refine (hnew_any _).mono ?_
  rintro e w3 ⟨Hc, Fc, rfl, q3, b3, f3⟩
  have HT := hide (trio_new Q1.out Q2.out q3 B1.out B2.out b3 G1.out G2.out f3)
  clear q3 b3 f3 Q1 Q2 G1 G2 B1 B2
  go_wp2_with fail
  go_at_call 24
  with_reducible refine (low_any who n _ hn0 (by omega)).mono ?_
  rintro e w' ⟨⟨k, hk, rfl⟩, rfl⟩
  go_wp2_with fail
  go_loopw [11] (fun i wr => ∃ (i' : Nat) (la lb lc : List (Int × Int)), i' ≤ n ∧ i = .int .i64 (i' : Int) ∧ Hid (Trio w wr Ha Hb Hc la lb lc) ∧ Hid (Built ks i' k la lb lc)) (fun i _ => n - (intOf i).toNat)
  case atStart => exact ⟨0, [], [], [], Nat.zero_le _, rfl, HT, (show Built ks 0 k [] [] [] from ⟨List.Perm.refl _, List.Perm.refl _, List.Perm.refl _⟩)⟩
  case round =>
    clear HT
    obtain ⟨i, la, lb, lc, hi, rfl, hT, hBu⟩ := hrel
    by_cases hlt : i < n
    · obtain ⟨z, hz⟩ : ∃ z, z = ks.getD i 0 := ⟨_, rfl⟩
      have hck0 := HC.out i hlt
      rw [← hz] at hck0
      have hbw := lt_of_cell? hck0
      have hck := (hT.out.bel.cell (p := ⟨b, off + i, none⟩) hbw).trans hck0
      have HZ := hide hz
      have HK0 := hide hck0
      have i0 : (0 : Int) ≤ (i : Int) := by omega
      have i1 : (i : Int) < (n : Int) := by omega
      have na : ∀ x ∈ la, x.1 ≠ (i : Int) := fun x hx => by
        obtain ⟨j, hj, e⟩ := prs_mem.1 (hBu.out.a.mem_iff.1 hx); rw [e]; show (j : Int) ≠ (i : Int); omega
      have nb : ∀ x ∈ lb, x.1 ≠ (i : Int) := fun x hx => by
        obtain ⟨j, hj, e⟩ := prs_mem.1 (hBu.out.b.mem_iff.1 hx); rw [e]; show (j : Int) ≠ (i : Int); omega
      have nc : ∀ x ∈ lc, x.1 ≠ (i : Int) := fun x hx => by
        obtain ⟨j, hj, e⟩ := prs_mem.1 (but_mem.1 (hBu.out.c.mem_iff.1 hx)).1; rw [e]; show (j : Int) ≠ (i : Int); omega
      have lA : la.length < 800000 := by rw [hBu.out.a.length_eq, prs_length]; omega
      have lB : lb.length < 800000 := by rw [hBu.out.b.length_eq, prs_length]; omega
      have lC : lc.length < 800000 := by
        rw [hBu.out.c.length_eq]
        have := List.length_filter_le (fun x : Int × Int => x.1 != (k : Int)) (prs ks i)
        rw [prs_length] at this
        exact Nat.lt_of_le_of_lt this (by omega)
      have NA := hide na
      have NB := hide nb
      have NC := hide nc
      clear hz hck0 na nb nc
      go_wp2_with fail
      go_at_call 10
      with_reducible refine (trio_push hT.out (i : Int) z i0 (wf_nat i (by omega)) (not_in NA.out) lA).mono ?_
      rintro e w4 ⟨rfl, la', t4, pa⟩
      have T4 := hide t4
      have PA := hide pa
      have hck := (t4.bel.cell (p := ⟨b, off + i, none⟩) hbw).trans HK0.out
      clear t4 pa hT
      go_wp2_with fail
      go_at_call 10
      with_reducible refine (trio_push T4.out.rot (i : Int) z i0 (wf_nat i (by omega)) (not_in NB.out) lB).mono ?_
      rintro e w5 ⟨rfl, lb', t5, pb⟩
      have T5 := hide t5
      have PB := hide pb
      have hck := (t5.bel.cell (p := ⟨b, off + i, none⟩) hbw).trans HK0.out
      clear t5 pb T4
      by_cases hik : i = k
      · subst hik
        have BN : Hid (Built ks (i + 1) i la' lb' lc) := by
          refine (show Built ks (i + 1) i la' lb' lc from ⟨?_, ?_, ?_⟩)
          · rw [prs_succ, ← HZ.out]; exact PA.out.trans (hBu.out.a.append_right _)
          · rw [prs_succ, ← HZ.out]; exact PB.out.trans (hBu.out.b.append_right _)
          · rw [but_succ, if_pos rfl]; exact hBu.out.c
        have hne : ((i : Int) != (i : Int)) = false := by simp
        go_wp2_with fail
        go_roundw
        case rel => exact ⟨i + 1, la', lb', lc, by omega, by go_num, (show Trio w w5 Ha Hb Hc la' lb' lc from T5.out.rot.rot), BN⟩
        case measure => simp [intOf]; omega
      · have hne : ((i : Int) != (k : Int)) = true := by simp; omega
        go_wp2_with fail
        go_at_call 10
        with_reducible refine (trio_push T5.out.rot (i : Int) z i0 (wf_nat i (by omega)) (not_in NC.out) lC).mono ?_
        rintro e w6 ⟨rfl, lc', t6, pc⟩
        have T6 := hide t6
        have PC := hide pc
        clear t6 pc T5
        have BN : Hid (Built ks (i + 1) k la' lb' lc') := by
          refine (show Built ks (i + 1) k la' lb' lc' from ⟨?_, ?_, ?_⟩)
          · rw [prs_succ, ← HZ.out]; exact PA.out.trans (hBu.out.a.append_right _)
          · rw [prs_succ, ← HZ.out]; exact PB.out.trans (hBu.out.b.append_right _)
          · rw [but_succ, if_neg hik, ← HZ.out]; exact PC.out.trans (hBu.out.c.append_right _)
        go_wp2_with fail
        go_roundw
        case rel => exact ⟨i + 1, la', lb', lc', by omega, by go_num, (show Trio w w6 Ha Hb Hc la' lb' lc' from T6.out.rot), BN⟩
        case measure => simp [intOf]; omega
    · obtain rfl : i = n := by omega
      have hmem : ((k : Int), ks.getD k 0) ∈ prs ks i := prs_mem.2 ⟨k, hk, rfl⟩
      obtain ⟨p, hp, hpa⟩ := at_of_mem (hBu.out.a.mem_iff.2 hmem)
      obtain ⟨q, hq, hqb⟩ := at_of_mem (hBu.out.b.mem_iff.2 hmem)
      have lA : la.length < 800000 := by rw [hBu.out.a.length_eq, prs_length]; omega
      have lB : lb.length < 800000 := by rw [hBu.out.b.length_eq, prs_length]; omega
      have lC : lc.length < 800000 := by
        rw [hBu.out.c.length_eq]
        have := List.length_filter_le (fun x : Int × Int => x.1 != (k : Int)) (prs ks i)
        rw [prs_length] at this
        exact Nat.lt_of_le_of_lt this (by omega)
      have hkw := wf_nat k (by omega)
      have HPA := hide hpa
      have HQB := hide hqb
      have HP := hide hp
      have HQ := hide hq
      have HKW := hide hkw
      have k0 : (0 : Int) ≤ (k : Int) := by omega
      clear hmem hpa hqb hp hq hkw HC
      go_wp2_with fail
      go_at_call 15
      with_reducible refine (trio_drop hT.out (k : Int) HKW.out p HP.out (by rw [HPA.out]) lA).mono ?_
      rintro e w4 ⟨rfl, la', t4, pa⟩
      obtain ⟨pal, nal⟩ := parts_drop hk hBu.out.a hBu.out.c HPA.out pa
      have T4 := hide t4
      have PA := hide pal
      have NA := hide nal
      have lA' : la'.length < 800000 := by rw [pal.length_eq]; exact lC
      clear t4 pa hT pal nal
      go_wp2_with fail
      go_at_call 15
      with_reducible refine (trio_drop_no T4.out (k : Int) HKW.out (not_in NA.out)).mono ?_
      rintro e w' ⟨rfl, rfl⟩
      go_wp2_with fail
      go_at_call 19
      with_reducible refine (trio_all T4.out (Nat.le_of_lt lA')).mono ?_
      rintro e w5 ⟨v5, rfl, o5, b5⟩
      have T5 := hide (T4.out.below b5)
      have O5 := hide o5
      clear o5 b5 T4
      go_wp2_with fail
      go_at_call 19
      with_reducible refine (trio_all T5.out.rot.rot (Nat.le_of_lt lC)).mono ?_
      rintro e w6 ⟨v6, rfl, o6, b6⟩
      have T6 := hide (T5.out.below b6)
      rw [← PA.out.length_eq, ← ord_congr PA.out] at o6
      have O6 := hide o6
      have O5' := hide (own_keep O5.out (fun g hg => b6.block g (O5.out.lt g hg).2))
      clear o6 b6 T5 O5
      go_wp2_with fail
      go_at_call 25
      with_reducible refine (sameItems_own v5 v6 (ord la') la'.length _ O5'.out O6.out (ord_length _) (by omega)).mono ?_
      rintro e w7 ⟨rfl, b7⟩
      have T7 := hide (T6.out.below b7)
      clear b7 T6 O5' O6
      go_wp2_with fail
      go_at_call 16
      with_reducible refine (trio_move T7.out.rot (k : Int) key HKW.out q HQ.out (by rw [HQB.out]) lB).mono ?_
      rintro e w8 ⟨rfl, lb', t8, pb⟩
      have T8 := hide t8
      have PB := hide pb
      have lB' : lb'.length < 800000 := by rw [pb.length_eq, List.length_set]; exact lB
      clear t8 pb T7
      go_wp2_with fail
      go_at_call 10
      with_reducible refine (trio_push T8.out.rot (k : Int) key k0 HKW.out (not_in (fun x hx => (but_mem.1 (hBu.out.c.mem_iff.1 hx)).2)) lC).mono ?_
      rintro e w9 ⟨rfl, lc', t9, pc⟩
      have T9 := hide t9
      have PBC := hide (parts_move hk hBu.out.b hBu.out.c HQ.out HQB.out PB.out pc)
      clear t9 pc T8 PB
      go_wp2_with fail
      go_at_call 19
      with_reducible refine (trio_all T9.out.rot.rot (Nat.le_of_lt lB')).mono ?_
      rintro e w10 ⟨v10, rfl, o10, b10⟩
      have T10 := hide (T9.out.below b10)
      have O10 := hide o10
      clear o10 b10 T9
      go_wp2_with fail
      go_at_call 19
      with_reducible refine (trio_all T10.out (by rw [← PBC.out.length_eq]; exact Nat.le_of_lt lB')).mono ?_
      rintro e w11 ⟨v11, rfl, o11, b11⟩
      have T11 := hide (T10.out.below b11)
      rw [← PBC.out.length_eq, ← ord_congr PBC.out] at o11
      have O11 := hide o11
      have O10' := hide (own_keep O10.out (fun g hg => b11.block g (O10.out.lt g hg).2))
      clear o11 b11 T10 O10
      go_wp2_with fail
      go_at_call 25
      with_reducible refine (sameItems_own v10 v11 (ord lb') lb'.length _ O10'.out O11.out (ord_length _) (by omega)).mono ?_
      rintro e w12 ⟨rfl, b12⟩
      have T12 := hide (T11.out.below b12)
      clear b12 T11 O10' O11
      go_wp2_with fail
      go_at_call 16
      with_reducible refine (trio_move_no T12.out.rot (k : Int) 1 HKW.out (not_in NA.out)).mono ?_
      rintro e w' ⟨rfl, rfl⟩
      go_wp2_with (go_at_call 7; with_reducible refine (awake_any _).mono ?_; rintro e w' ⟨rfl, hb⟩)
      go_ret
      exact ⟨rfl, T12.out.bel.trans (hb.mono T12.out.bel.size)⟩
end Go.Proofs.Ytllfpfgboeabnaa
