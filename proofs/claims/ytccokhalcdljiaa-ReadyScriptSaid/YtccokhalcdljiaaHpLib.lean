/-
  Contracts of container/heap's Push, Pop, Remove and Fix over the queue.
-/
import Derived.Test.YtccokhalcdljiaaHpDown
namespace Go.Proofs.Ytccokhalcdljiaa.Hp
open Go.ChangeShapes Go.WideShapes Go.ChangeAt Go.RowKit Go.Sort
set_option linter.unusedVariables false
attribute [local go_sem] m_less m_swap m_len m_push m_pop
theorem perm_last {l l' : List (Int × Int)} {n : Nat} (h : l'.Perm l) (hl : l.length = n + 1) {x : Int × Int} (hx : it l' n = x) : (x :: l'.dropLast).Perm l := by
  have hl' : l'.length = n + 1 := by rw [h.length_eq]; exact hl
  have hne : l' ≠ [] := fun e => by rw [e] at hl'; cases hl'
  have hlast : l'.getLast hne = x := by
    rw [List.getLast_eq_getElem, ← hx, it_get (by omega)]
    simp [hl']
  have e := List.dropLast_concat_getLast hne
  rw [hlast] at e
  exact (List.perm_append_comm (l₁ := [x])).trans (by rw [e]; exact h)
theorem heap_last {l : List (Int × Int)} {n : Nat} (h : HeapN l n) (hl : l.length = n + 1) : HeapN l.dropLast l.dropLast.length := by
  have e : l.dropLast.length = n := by rw [List.length_dropLast]; omega
  rw [e]
  exact heapN_eq h (fun k hk => it_dropLast l k (by omega))
set_option maxHeartbeats 800000 in
theorem cpush_any (w : World) (F : Nat → Prop) (H : Nat) (id key : Int) (l : List (Int × Int)) (h : Q w F H l) (hp : HeapN l l.length) (hid : (Lit.int .i64 id).wf = true) (hnew : ∀ k, k < l.length → (it l k).1 ≠ id) (hn : l.length < 800000) :
    Calls Try.prog 71 #[.iface 117 (.pointer (some ⟨H, 0, none⟩)), .iface 113 (.agg #[.int .i64 id, .int .i64 key])] w fun e w' => e = .returned (.tuple #[]) ∧
      ∃ F' l', Q w' F' H l' ∧ l'.Perm (l ++ [(id, key)]) ∧ HeapN l' l'.length ∧ Touch F w w' ∧ ∀ i, F' i → F i ∨ w.heap.size ≤ i := by
  have HQ := hide h
  have HI := hide hnew
  have HU := hide (push_up hp (id, key))
  have hl : (l ++ [(id, key)]).length = l.length + 1 := by simp
  have HL := hide hl
  have hb : (l ++ [(id, key)]).length ≤ 900000 := by omega
  have HB := hide hb
  clear h hnew hp hl hb
  go_enter Try.func71, Try.ntmps71
  go_wp2_with fail
  go_at_call 115
  with_reducible refine (qpush_any _ F H id key l HQ.out hid HI.out (by omega)).mono ?_
  rintro e w1 ⟨rfl, F1, q1, t1, f1⟩
  have Q1 := hide q1
  have T1 := hide t1
  have F1' := hide f1
  clear q1 t1 f1 HQ HI
  generalize hl1 : l ++ [(id, key)] = l1 at *
  have HL1 := hide hl1
  clear hl1
  go_wp2_with fail
  go_at_call 78
  with_reducible refine (qlen_at Q1.out).mono ?_
  rintro e w' ⟨rfl, rfl⟩
  rw [HL.out]
  rw [show ((l.length + 1 : Nat) : Int) = (l.length : Int) + 1 from by omega]
  go_wp2_with fail
  go_at_call 81
  with_reducible refine (hup_any _ F1 H (l.length + 1) _ l.length l1 Q1.out (by omega) HU.out (by omega) (by rw [HL.out]; exact Nat.le_refl _) HB.out).mono ?_
  rintro e w2 ⟨rfl, l2, s2, h2⟩
  have S2 := hide s2
  have H2 := hide h2
  clear s2 h2
  go_wp2_with fail
  go_end0
  refine ⟨rfl, F1, l2, S2.out.1, ?_, ?_, T1.out.trans S2.out.2.2.2 F1'.out, F1'.out⟩
  · rw [HL1.out]; exact S2.out.2.1
  · rw [S2.out.2.1.length_eq, HL.out]; exact H2.out
set_option maxHeartbeats 800000 in
theorem cpop_any (w : World) (F : Nat → Prop) (H n : Nat) (l : List (Int × Int)) (h : Q w F H l) (hp : HeapN l l.length) (hl : l.length = n + 1) (hn : l.length < 800000) :
    Calls Try.prog 107 #[.iface 117 (.pointer (some ⟨H, 0, none⟩))] w fun e w' => (∃ v, e = .returned v) ∧
      ∃ l', Q w' F H l' ∧ (it l 0 :: l').Perm l ∧ HeapN l' l'.length ∧ Touch F w w' := by
  have HQ := hide h
  have HL := hide hl
  have hn' : n < 799999 := by omega
  have hD : DownInv (swp l 0 n) n 0 0 := by
    rcases Nat.eq_zero_or_pos n with h0 | h0
    · subst h0; exact ⟨fun c _ h => by omega, fun c _ h => by omega, Nat.le_refl _⟩
    · rw [hl] at hp; exact cut_down hp hl h0
  have HD := hide hD
  have h0 : it (swp l 0 n) n = it l 0 := by rw [it_swp l 0 n n (by omega) (by omega), if_pos rfl]
  have H0 := hide h0
  have HP := hide (swp_perm l 0 n (by omega) (by omega))
  have hl1 : (swp l 0 n).length = n + 1 := by rw [length_swp]; exact hl
  have HL1 := hide hl1
  clear h hl hp hn hD h0 hl1
  go_enter Try.func107, Try.ntmps107
  go_wp2_with fail
  go_at_call 78
  with_reducible refine (qlen_at HQ.out).mono ?_
  rintro e w' ⟨rfl, rfl⟩
  rw [HL.out]
  rw [show ((n + 1 : Nat) : Int) = (n : Int) + 1 from by omega]
  go_wp2_with fail
  go_at_call 116
  with_reducible refine (qswap_at HQ.out 0 _ 0 n (by omega) (by omega) (by rw [HL.out]; omega) (by rw [HL.out]; omega) (by rw [HL.out]; omega)).mono ?_
  rintro e w1 ⟨rfl, q1, t1⟩
  have Q1 := hide q1
  have T1 := hide t1
  clear q1 t1 HQ
  generalize hg : swp l 0 n = l1 at *
  clear hg
  go_wp2_with fail
  go_at_call 87
  with_reducible refine (hdown_any _ F H n 0 0 _ l1 Q1.out (by omega) (by omega) HD.out (by rw [HL1.out]; omega) (by rw [HL1.out]; omega) (by omega)).mono ?_
  rintro e w2 ⟨b, l2, rfl, s2, h2, h3⟩
  have hh : HeapN l2 n := by
    cases b with
    | true => exact h2 rfl
    | false => exact up_done (h3 rfl) (.inl rfl)
  have S2 := hide s2
  have H2 := hide hh
  have hl2 : l2.length = n + 1 := by rw [s2.2.1.length_eq]; exact HL1.out
  have L2 := hide hl2
  clear s2 h2 h3 hh hl2
  go_wp2_with fail
  go_at_call 114
  with_reducible refine (qpop_any _ F H l2 n S2.out.q L2.out (by omega)).mono ?_
  rintro e w3 ⟨⟨v, rfl⟩, q3, t3⟩
  have Q3 := hide q3
  have T3 := hide t3
  clear q3 t3
  go_wp2_with fail
  go_ret
  refine ⟨⟨_, rfl⟩, l2.dropLast, Q3.out, ?_, heap_last H2.out L2.out, (T1.out.trans S2.out.2.2.2 (fun _ e => .inl e)).trans T3.out (fun _ e => .inl e)⟩
  exact perm_last (S2.out.2.1.trans HP.out) HL.out ((S2.out.2.2.1 n (Nat.le_refl _)).trans H0.out)
set_option maxHeartbeats 800000 in
theorem cremove_any (w : World) (F : Nat → Prop) (H n a : Nat) (i : Int) (l : List (Int × Int)) (h : Q w F H l) (ea : i = (a : Int)) (hp : HeapN l l.length) (hl : l.length = n + 1) (ha : a < l.length) (hn : l.length < 800000) :
    Calls Try.prog 77 #[.iface 117 (.pointer (some ⟨H, 0, none⟩)), .int .i64 i] w fun e w' => (∃ v, e = .returned v) ∧
      ∃ l', Q w' F H l' ∧ (it l a :: l').Perm l ∧ HeapN l' l'.length ∧ Touch F w w' := by
  subst ea
  have HQ := hide h
  have HL := hide hl
  have hn' : n < 799999 := by omega
  have han : a ≤ n := by omega
  by_cases e : a = n
  · subst e
    have H2 := hide (show HeapN l a from fun c c0 cn => hp c c0 (by omega))
    clear h hl hp hn han
    have hne : ((a : Int) != (a : Int)) = false := by simp
    go_enter Try.func77, Try.ntmps77
    go_wp2_with fail
    go_at_call 78
    with_reducible refine (qlen_at HQ.out).mono ?_
    rintro e w' ⟨rfl, rfl⟩
    rw [HL.out]
    rw [show ((a + 1 : Nat) : Int) = (a : Int) + 1 from by omega]
    go_wp2_with fail
    go_at_call 114
    with_reducible refine (qpop_any _ F H l a HQ.out HL.out (by omega)).mono ?_
    rintro e w3 ⟨⟨v, rfl⟩, q3, t3⟩
    have Q3 := hide q3
    have T3 := hide t3
    clear q3 t3
    go_wp2_with fail
    go_ret
    exact ⟨⟨_, rfl⟩, l.dropLast, Q3.out, perm_last (List.Perm.refl _) HL.out rfl, heap_last H2.out HL.out, T3.out⟩
  · have hlt : a < n := by omega
    have hD := cut_down (by rw [hl] at hp; exact hp) hl hlt
    have HD := hide hD
    have h0 : it (swp l a n) n = it l a := by rw [it_swp l a n n (by omega) (by omega), if_pos rfl]
    have H0 := hide h0
    have HP := hide (swp_perm l a n (by omega) (by omega))
    have hl1 : (swp l a n).length = n + 1 := by rw [length_swp]; exact hl
    have HL1 := hide hl1
    have hne : ((n : Int) != (a : Int)) = true := by simp; omega
    clear h hl hp hn hD h0 hl1 e
    go_enter Try.func77, Try.ntmps77
    go_wp2_with fail
    go_at_call 78
    with_reducible refine (qlen_at HQ.out).mono ?_
    rintro e w' ⟨rfl, rfl⟩
    rw [HL.out]
    rw [show ((n + 1 : Nat) : Int) = (n : Int) + 1 from by omega]
    go_wp2_with fail
    go_at_call 116
    with_reducible refine (qswap_at HQ.out _ _ a n rfl (by omega) (by rw [HL.out]; omega) (by rw [HL.out]; omega) (by rw [HL.out]; omega)).mono ?_
    rintro e w1 ⟨rfl, q1, t1⟩
    have Q1 := hide q1
    have T1 := hide t1
    clear q1 t1 HQ
    generalize hg : swp l a n = l1 at *
    clear hg
    go_wp2_with fail
    go_at_call 87
    with_reducible refine (hdown_any _ F H n a _ _ l1 Q1.out rfl (by omega) HD.out (by rw [HL1.out]; omega) (by rw [HL1.out]; omega) (by omega)).mono ?_
    rintro e w2 ⟨b, l2, rfl, s2, h2, h3⟩
    have S2 := hide s2
    have hl2 : l2.length = n + 1 := by rw [s2.2.1.length_eq]; exact HL1.out
    have L2 := hide hl2
    clear s2 hl2
    cases b with
    | true =>
      have H2 := hide (h2 rfl)
      clear h2 h3
      go_wp2_with fail
      go_at_call 114
      with_reducible refine (qpop_any _ F H l2 n S2.out.q L2.out (by omega)).mono ?_
      rintro e w3 ⟨⟨v, rfl⟩, q3, t3⟩
      have Q3 := hide q3
      have T3 := hide t3
      clear q3 t3
      go_wp2_with fail
      go_ret
      refine ⟨⟨_, rfl⟩, l2.dropLast, Q3.out, ?_, heap_last H2.out L2.out, (T1.out.trans S2.out.2.2.2 (fun _ e => .inl e)).trans T3.out (fun _ e => .inl e)⟩
      exact perm_last (S2.out.2.1.trans HP.out) HL.out ((S2.out.2.2.1 n (Nat.le_refl _)).trans H0.out)
    | false =>
      have H3 := hide (h3 rfl)
      clear h2 h3
      go_wp2_with fail
      go_at_call 81
      with_reducible refine (hup_any _ F H n _ a l2 S2.out.q rfl H3.out hlt (by rw [L2.out]; omega) (by rw [L2.out]; omega)).mono ?_
      rintro e w4 ⟨rfl, l4, s4, h4⟩
      have S4 := hide s4
      have H4 := hide h4
      have hl4 : l4.length = n + 1 := by rw [s4.2.1.length_eq]; exact L2.out
      have L4 := hide hl4
      clear s4 h4 hl4
      go_wp2_with fail
      go_at_call 114
      with_reducible refine (qpop_any _ F H l4 n S4.out.q L4.out (by omega)).mono ?_
      rintro e w3 ⟨⟨v, rfl⟩, q3, t3⟩
      have Q3 := hide q3
      have T3 := hide t3
      clear q3 t3
      go_wp2_with fail
      go_ret
      refine ⟨⟨_, rfl⟩, l4.dropLast, Q3.out, ?_, heap_last H4.out L4.out, ((T1.out.trans S2.out.2.2.2 (fun _ e => .inl e)).trans S4.out.2.2.2 (fun _ e => .inl e)).trans T3.out (fun _ e => .inl e)⟩
      exact perm_last ((S4.out.2.1.trans S2.out.2.1).trans HP.out) HL.out (((S4.out.2.2.1 n (Nat.le_refl _)).trans (S2.out.2.2.1 n (Nat.le_refl _))).trans H0.out)
end Go.Proofs.Ytccokhalcdljiaa.Hp
