/-
  The document's own store: Read.
-/
import Derived.Test.YtipepklobpnbpaaSoRefB
namespace Go.Proofs.Ytipepklobpnbpaa
open Go.ChangeShapes Go.WideShapes Go.ChangeAt Go.RowKit
set_option linter.unusedVariables false
set_option linter.unusedSimpArgs false
theorem ints_of_piece {w : World} {g k m n : Nat} {o : List Int} (h : Ints .u8 w (some ⟨g, 0, none⟩) n o) (hk : k + m ≤ n) : Ints .u8 w (some ⟨g, k, none⟩) m ((o.drop k).take m) := by
  refine ⟨by rw [List.length_take, List.length_drop, h.1]; omega, fun hm => ⟨g, k, rfl, fun j hj => ?_⟩⟩
  obtain ⟨b, off, e, hc⟩ := h.2 (by omega)
  injection e with e
  injection e with e1 e2 _
  subst e1 e2
  have := hc (k + j) (by omega)
  rw [Nat.zero_add] at this
  rw [this, List.getD_eq_getElem?_getD, List.getD_eq_getElem?_getD, List.getElem?_take_of_lt hj, List.getElem?_drop]
theorem own_pos {q : IntKind} {e : TypeId} {w : World} {B n : Nat} {v : Value} {xs : List Int} (h : w.ownsRow B e 1 v n (xs.map (Value.int q))) (hn : 0 < n) : ∃ g c, v = .slice (some ⟨g, 0, none⟩) n c ∧ n ≤ c ∧ c ≤ maxLen ∧ Ints q w (some ⟨g, 0, none⟩) n xs := by
  obtain ⟨a, c, rfl, i, _⟩ := own_ints h
  rcases h.2 with ⟨_, h0⟩ | ⟨g, cap, cur, e, _, _, h1, h2, _⟩
  · omega
  · injection e with e1 _ e2
    subst e1 e2
    exact ⟨g, _, rfl, h1, h2, i⟩
section
variable {w : World} {D : Nat → Prop} {G R : Nat} {s : So}
theorem readIs_nil {s : So} {id off n : Int} {w : World} {v : Nat} (hv : rdE s id off n = v) (hb : rdB s id off n = []) : ReadIs s id off n w (.returned (.tuple #[.slice none 0 0, .int .i64 (v : Int)])) w := by
  refine ⟨.slice none 0 0, by rw [hv], ?_, Below.refl _ _⟩
  rw [hb]
  exact World.ownsRow_nil _ _ _ _
set_option maxRecDepth 10000 in
set_option maxHeartbeats 4000000 in
theorem rrd_any (h : Dso R w D G s) (id off n : Int) (wo : (Lit.int .i64 off).wf = true) (wn : (Lit.int .i64 n).wf = true) :
    Calls Try.prog 21 #[.pointer (some ⟨G, 0, none⟩), .int .i64 id, .int .i64 off, .int .i64 n] w (ReadIs s id off n w) := by
  have hwo := wf_i64 wo
  have hwn := wf_i64 wn
  clear wo wn
  cases e : getFi s.l id with
  | none =>
    have AT := hide (h.gone e)
    have hE : rdE s id off n = 4 := by unfold rdE; rw [e]; rfl
    have RI := hide (readIs_nil (w := w) hE (by unfold rdB; rw [hE]; rfl))
    clear h e hE
    go_enter Try.func21, Try.ntmps21
    go_wp2_with (go_at_call 36; refine AT.out.mono ?_; rintro e w' ⟨rfl, rfl⟩)
    go_ret2
    exact RI.out
  | some o =>
    obtain ⟨m, N, c, g, bv, hm, hN, c1, d1, ob, at_⟩ := h.file e
    have AT := hide at_
    have m0 : (0 : Int) ≤ (m : Int) := by omega
    have m1 : (m : Int) < (N : Int) := by omega
    have n5 : (N : Int) ≤ 100000 := by omega
    have m2 : ¬ (m : Int) < 0 := by omega
    by_cases hbad : off < 0 ∨ n < 0
    · have hE : rdE s id off n = 19 := by unfold rdE; rw [e]; show (if off < 0 ∨ n < 0 then 19 else 0) = 19; rw [if_pos hbad]
      have RI := hide (readIs_nil (w := w) hE (by unfold rdB; rw [hE]; rfl))
      clear h e hE at_ ob hm hN
      by_cases h0 : off < 0
      · clear hbad
        go_enter Try.func21, Try.ntmps21
        go_wp2_with (go_at_call 36; refine AT.out.mono ?_; rintro e w' ⟨rfl, rfl⟩)
        go_ret2
        exact RI.out
      · have h1 : n < 0 := hbad.resolve_left h0
        clear hbad
        go_enter Try.func21, Try.ntmps21
        go_wp2_with (go_at_call 36; refine AT.out.mono ?_; rintro e w' ⟨rfl, rfl⟩)
        go_ret2
        exact RI.out
    · have hE : rdE s id off n = 0 := by unfold rdE; rw [e]; show (if off < 0 ∨ n < 0 then 19 else 0) = 0; rw [if_neg hbad]
      have hB : rdB s id off n = (o.drop off.toNat).take n.toNat := by unfold rdB; rw [hE, e]; rfl
      obtain ⟨O, rfl⟩ := Int.eq_ofNat_of_zero_le (show 0 ≤ off by omega)
      obtain ⟨M, rfl⟩ := Int.eq_ofNat_of_zero_le (show 0 ≤ n by omega)
      rw [Int.toNat_natCast, Int.toNat_natCast] at hB
      have o5 := (h.good.old e).2.1
      have q1 : ¬ (O : Int) < 0 := by omega
      have q2 : ¬ (M : Int) < 0 := by omega
      obtain ⟨ol, hol⟩ : ∃ ol, ol = o.length := ⟨_, rfl⟩
      rw [← hol] at ob o5
      have HOL := hide hol
      clear h e at_ hm hN hbad hol
      by_cases hO : ol ≤ O
      · have RI := hide (readIs_nil (w := w) hE (by rw [hB, List.drop_eq_nil_of_le (by rw [← HOL.out]; exact hO), List.take_nil]))
        obtain ⟨a, c2, rfl, _⟩ := own_sliceR ob
        have h1 : (ol : Int) ≤ (O : Int) := by omega
        clear hE hB ob
        go_enter Try.func21, Try.ntmps21
        go_wp2_with (go_at_call 36; refine AT.out.mono ?_; rintro e w' ⟨rfl, rfl⟩)
        go_ret2
        exact RI.out
      · obtain ⟨gb, cb, rfl, hcap, hmax, io⟩ := own_pos ob (by omega)
        obtain ⟨k, hk⟩ : ∃ k, k = min M (ol - O) := ⟨_, rfl⟩
        have hB2 : rdB s id (O : Int) (M : Int) = (o.drop O).take k := by
          rw [hB, hk]
          rcases Nat.le_total M (ol - O) with hle | hle
          · rw [Nat.min_eq_left hle]
          · rw [Nat.min_eq_right hle, List.take_of_length_le (by rw [List.length_drop, ← HOL.out]; exact hle), List.take_of_length_le (by rw [List.length_drop, ← HOL.out]; exact Nat.le_refl _)]
        have IP := hide (ints_of_piece (m := k) io (show O + k ≤ ol by omega))
        have kl : ((o.drop O).take k).length = k := by rw [List.length_take, List.length_drop, ← HOL.out]; omega
        have KL := hide kl
        have HE := hide hE
        have HB := hide hB2
        obtain ⟨i0, hi0, hz0, hz1, hz2⟩ := info_parts byte_info
        have p0 : ¬ (ol : Int) ≤ (O : Int) := by omega
        have p1 : (0 : Int) ≤ (O : Int) := by omega
        have p2 : (O : Int) ≤ (ol : Int) := by omega
        have p3 : ¬ cb = O := by omega
        have p4 : (ol : Int) ≤ (cb : Int) := by omega
        have p5 : (O : Int) ≤ (cb : Int) := by omega
        have p6 : ((ol - O : Nat) : Int) = (ol : Int) - (O : Int) := by omega
        have FIN := hide (show ∀ v w', w'.ownsRow w.heap.size 5 1 v (0 + k) ([] ++ ((o.drop O).take k).map (Value.int .u8)) → Below w.heap.size w w' → ReadIs s id (O : Int) (M : Int) w (.returned (.tuple #[v, .int .i64 0])) w' from fun v w' o1 b1 => by
          refine ⟨v, by rw [HE.out]; rfl, ?_, b1⟩
          rw [HB.out, KL.out]
          simpa using o1)
        by_cases hM : M < ol - O
        · obtain rfl : k = M := by omega
          have r1 : (k : Int) < ((ol - O : Nat) : Int) := by omega
          have r2 : (k : Int) ≤ ((ol - O : Nat) : Int) := by omega
          have r3 : (k : Int) ≤ ((cb - O : Nat) : Int) := by omega
          clear hE hB hB2 ob io hk hcap hmax hO p6 kl
          go_enter Try.func21, Try.ntmps21
          go_wp2_with (first
            | (go_at_call 36; refine AT.out.mono ?_; rintro e w' ⟨rfl, rfl⟩)
            | (at_builtin; go_loud (refine wpList_append_src rfl (.const (.slice none 0 0)) (.tmp 45) _ rfl w.heap.size 5 i0 _ 1 Try.underlying39 hi0 hz0 hz1 hz2 rfl _ 0 [] rfl (World.ownsRow_nil _ _ _ _) .u8 _ _ _ _ rfl IP.out (fun e => by cases e) (by unfold maxLen; omega) (by omega) (Nat.le_refl _) ?_); intro v' w1 o1 g1 t1; have F1 := hide (FIN.out v' w1 o1 ((Below.refl _ _).grown g1 (Nat.le_refl _) (fun k hk => by cases hk))); clear o1 g1 t1))
          go_ret2
          exact F1.out
        · obtain rfl : k = ol - O := by omega
          have r1 : ¬ (M : Int) < ((ol - O : Nat) : Int) := by omega
          clear hE hB hB2 ob io hk hcap hmax hO p6 kl
          go_enter Try.func21, Try.ntmps21
          go_wp2_with (first
            | (go_at_call 36; refine AT.out.mono ?_; rintro e w' ⟨rfl, rfl⟩)
            | (at_builtin; go_loud (refine wpList_append_src rfl (.const (.slice none 0 0)) (.tmp 45) _ rfl w.heap.size 5 i0 _ 1 Try.underlying39 hi0 hz0 hz1 hz2 rfl _ 0 [] rfl (World.ownsRow_nil _ _ _ _) .u8 _ _ _ _ rfl IP.out (fun e => by cases e) (by unfold maxLen; omega) (by omega) (Nat.le_refl _) ?_); intro v' w1 o1 g1 t1; have F1 := hide (FIN.out v' w1 o1 ((Below.refl _ _).grown g1 (Nat.le_refl _) (fun k hk => by cases hk))); clear o1 g1 t1))
          go_ret2
          exact F1.out
end
end Go.Proofs.Ytipepklobpnbpaa
