/-
  The document's own conditions: Wait.
-/
import Derived.Test.YtmclifmdlcofaaaCdRefC
namespace Go.Proofs.Ytmclifmdlcofaaa
open Go.ChangeShapes Go.WideShapes Go.ChangeAt Go.RowKit
set_option linter.unusedVariables false
set_option linter.unusedSimpArgs false
/-- What was gathered ahead of place j. -/
structure InsAt (l : List Int) (t : Int) (j : Nat) (fin : Bool) (acc : List Int) : Prop where
  no : fin = false → acc = l.take j ∧ ∀ x ∈ l.take j, ¬ t < x
  yes : fin = true → acc ++ l.drop j = insL l t
theorem InsAt.len {l : List Int} {t : Int} {j : Nat} {fin : Bool} {acc : List Int} (h : InsAt l t j fin acc) (hj : j ≤ l.length) : acc.length ≤ j + 1 := by
  cases fin with
  | false => rw [(h.no rfl).1]; simp; omega
  | true =>
    have := congrArg List.length (h.yes rfl)
    rw [List.length_append, insL_len, List.length_drop] at this
    omega
theorem drop_at {l : List Int} {j : Nat} (hj : j < l.length) : l.drop j = l.getD j 0 :: l.drop (j + 1) := by
  rw [List.drop_eq_getElem_cons hj]; simp [List.getD, hj]
theorem InsAt.past {l : List Int} {t : Int} {j : Nat} {acc : List Int} (h : InsAt l t j true acc) (hj : j < l.length) : InsAt l t (j + 1) true (acc ++ [l.getD j 0]) :=
  ⟨(fun e => by cases e), fun _ => by rw [← h.yes rfl, drop_at hj]; simp⟩
theorem InsAt.on {l : List Int} {t : Int} {j : Nat} {acc : List Int} (h : InsAt l t j false acc) (hj : j < l.length) (hx : ¬ t < l.getD j 0) : InsAt l t (j + 1) false (acc ++ [l.getD j 0]) := by
  obtain ⟨e1, e2⟩ := h.no rfl
  refine ⟨fun _ => ⟨by rw [e1, take_succ_getD l j hj], fun x hm => ?_⟩, (fun e => by cases e)⟩
  rw [take_succ_getD l j hj] at hm
  rcases List.mem_append.1 hm with hm | hm
  · exact e2 x hm
  · simp at hm; rw [hm]; simpa using hx
theorem InsAt.here {l : List Int} {t : Int} {j : Nat} {acc : List Int} (h : InsAt l t j false acc) (hj : j < l.length) (hx : t < l.getD j 0) : InsAt l t (j + 1) true (acc ++ [t] ++ [l.getD j 0]) := by
  obtain ⟨e1, e2⟩ := h.no rfl
  refine ⟨(fun e => by cases e), fun _ => ?_⟩
  have e3 : l = l.take j ++ l.getD j 0 :: l.drop (j + 1) := by rw [← drop_at hj, List.take_append_drop]
  have := insL_mid (b := l.drop (j + 1)) e2 hx
  rw [← e3] at this
  rw [this, e1]
  simp
theorem InsAt.done {l : List Int} {t : Int} {acc : List Int} (h : InsAt l t l.length true acc) : acc = insL l t := by
  have := h.yes rfl
  rwa [List.drop_length, List.append_nil] at this
theorem InsAt.last {l : List Int} {t : Int} {acc : List Int} (h : InsAt l t l.length false acc) : acc ++ [t] = insL l t := by
  obtain ⟨e1, e2⟩ := h.no rfl
  rw [List.take_length] at e1 e2
  rw [e1, insL_end e2]
set_option maxHeartbeats 8000000 in
theorem rcwait_any {w : World} {D : Nat → Prop} {R : Nat} {L : Cs} (h : Rcd w D R L) (hn : L.length ≤ 1000) (hl : ∀ l ∈ L, l.length ≤ 100000) (t i : Int) :
    Calls Try.prog 14 #[.pointer (some ⟨R, 0, none⟩), .int .i64 t, .int .i64 i] w (SideO (fun w' D' => Rcd w' D' R (waitS L t i)) D w (.int .i64 (waitE L t i))) := by
  have COF := hide (rcof_any h hn hl t)
  have H0 := hide h
  obtain ⟨G, vs, h⟩ := h
  have cR := h.cell
  have stay : ∀ x : Int, x ≠ 0 → waitE L t i = x → SideO (fun w' D' => Rcd w' D' R (waitS L t i)) D w (.int .i64 (waitE L t i)) (.returned (.int .i64 x)) w := fun x hx e =>
    ⟨by rw [e], D, by unfold waitS; rw [if_neg (by rw [e]; exact hx)]; exact H0.out, Touch.refl _ _, fun i hi => .inl hi⟩
  by_cases hbad : t < 0 ∨ isCond L i = false
  · have FIN := hide (stay 2 (by decide) (by unfold waitE; rw [if_pos hbad]))
    have hb2 : t < 0 ∨ i < 0 ∨ (L.length : Int) ≤ i := by
      rcases hbad with hb | hb
      · exact .inl hb
      · have : ¬ (0 ≤ i ∧ i < (L.length : Int)) := by simpa [isCond] using hb
        omega
    generalize waitE L t i = we at *
    generalize waitS L t i = ws at *
    clear stay hbad h COF
    by_cases t0 : t < 0
    · clear hb2
      go_enter Try.func14, Try.ntmps14
      go_wp2_with fail
      go_ret
      exact FIN.out
    · by_cases i0 : i < 0
      · clear hb2
        go_enter Try.func14, Try.ntmps14
        go_wp2_with fail
        go_ret
        exact FIN.out
      · have i1 : (L.length : Int) ≤ i := by omega
        clear hb2
        go_enter Try.func14, Try.ntmps14
        go_wp2_with fail
        go_ret
        exact FIN.out
  have t0 : ¬ t < 0 := fun e => hbad (.inl e)
  have hic : isCond L i = true := by cases e : isCond L i; exact absurd (.inr e) hbad; rfl
  obtain ⟨k, rfl, hk⟩ := isCond_iff.1 hic
  have k0 : ¬ (k : Int) < 0 := by omega
  have k1 : ¬ (L.length : Int) ≤ (k : Int) := by omega
  by_cases hof : 0 ≤ ofC L t
  · have FIN := hide (stay 5 (by decide) (by unfold waitE; rw [if_neg hbad, if_pos hof]))
    generalize waitE L t (k : Int) = we at *
    generalize waitS L t (k : Int) = ws at *
    generalize ofC L t = x at *
    clear stay hbad h hic
    go_enter Try.func14, Try.ntmps14
    go_wp2_with (go_at_call 22; refine COF.out.mono ?_; rintro e w' ⟨rfl, rfl⟩)
    go_ret
    exact FIN.out
  have E0 : waitE L t (k : Int) = 0 := by unfold waitE; rw [if_neg hbad, if_neg hof]
  obtain ⟨v, l, hl1, hv1, cG, ho⟩ := h.at_ hk
  have ES := hide (show waitS L t (k : Int) = L.set k (insL l t) from by unfold waitS; rw [if_pos E0, lstC_get hl1]; simp)
  rw [E0, ES.out]
  have x0 : ofC L t < 0 := by omega
  have hlen := hl l (List.mem_of_getElem? hl1)
  have H := hide h
  obtain ⟨A, c, rfl, hA, hc⟩ := row_open ho
  have HC := hide hc
  obtain ⟨n, hN⟩ : ∃ n, n = L.length := ⟨_, rfl⟩
  obtain ⟨p, hp⟩ : ∃ p, p = l.length := ⟨_, rfl⟩
  have HN := hide hN
  have HP := hide hp
  rw [← hN] at cR hn hk k1
  rw [← hp] at cG hlen HC
  have CR := hide (fun (W : World) (bw : Below w.heap.size w W) => (show W.cell? ⟨R, 0, none⟩ = some (.slice (some ⟨G, 0, none⟩) n n) ∧ W.cell? ⟨G, k, none⟩ = some (.slice A p c) from ⟨(bw.cell (lt_of_cell? cR)).trans cR, (bw.cell (lt_of_cell? cG)).trans cG⟩))
  obtain ⟨i0, hi0, hz0, hz1, hz2⟩ := info_parts int_info
  have I0 := hide (And.intro hi0 (And.intro hz0 (And.intro hz1 hz2)))
  have k2 : (0 : Int) ≤ (k : Int) := by omega
  have k3 : (k : Int) < (n : Int) := by omega
  generalize ofC L t = x at *
  clear h hl ho hA hc hl1 hv1 hi0 hz0 hz1 hz2 hN hp stay hbad hic hof E0 H0
  go_enter Try.func14, Try.ntmps14
  go_wp2_with (go_at_call 22; refine COF.out.mono ?_; rintro e w' ⟨rfl, rfl⟩)
  clear cR cG
  go_loopw [7, 8, 9] (fun v fv iv wr => ∃ (j : Nat) (fin : Bool) (acc : List Int), j ≤ p ∧ fv = .bool fin ∧ iv = .int .i64 (j : Int) ∧ Hid (wr.ownsRow w.heap.size 3 1 v acc.length (acc.map (Value.int .i64)) ∧ Below w.heap.size w wr ∧ InsAt l t j fin acc)) (fun _ _ iv _ => p - (intOf iv).toNat)
  case atStart => exact ⟨0, false, [], Nat.zero_le _, rfl, rfl, World.ownsRow_nil _ _ _ _, Below.refl _ _, ⟨fun _ => ⟨rfl, fun x hx => by cases hx⟩, (fun e => by cases e)⟩⟩
  case round =>
    obtain ⟨j, fin, acc, hj, rfl, rfl, hY⟩ := hrel
    have O1 := hide hY.out.1
    have B1 := hide hY.out.2.1
    have I1 := hide hY.out.2.2
    clear hY
    obtain ⟨cR, cG⟩ := CR.out wr B1.out
    have SZ := hide B1.out.size
    have LE := hide (I1.out.len (by rw [← HP.out]; exact hj))
    have PL := hide (show p ≤ 100000 from hlen)
    by_cases hlt : j < p
    · have j0 : (0 : Int) ≤ (j : Int) := by omega
      have j1 : (j : Int) < (p : Int) := by omega
      have JL := hide (show j < l.length from by rw [← HP.out]; exact hlt)
      obtain ⟨b, off, rfl, cx0⟩ := HC.out j hlt
      obtain ⟨x, hx⟩ : ∃ x, x = l.getD j 0 := ⟨_, rfl⟩
      have cx : wr.cell? ⟨b, off + j, none⟩ = some (.int .i64 x) := by rw [hx]; exact (B1.out.cell (lt_of_cell? cx0)).trans cx0
      have HX := hide hx
      clear cx0 hx
      cases fin with
      | true =>
        have NX := hide (show InsAt l t (j + 1) true (acc ++ [x]) from by rw [HX.out]; exact I1.out.past JL.out)
        go_wp2_with (at_builtin; refine wpList_append_src rfl (.tmp 61) (.tmp 72) _ rfl w.heap.size 3 i0 _ 8 Try.underlying44 I0.out.1 I0.out.2.1 I0.out.2.2.1 I0.out.2.2.2 rfl _ _ _ rfl (O1.out.alloc _) .i64 _ 1 _ [x] rfl (ints_cell1 _ _ _ _ _ rfl) (fun h => by cases h) (by have := LE.out; have := PL.out; unfold maxLen; omega) (by have := LE.out; have := PL.out; omega) (by have := SZ.out; simp; omega) ?_; intro v' w' o' g' t'; have O2 := hide o'; have B2 := hide ((B1.out.alloc SZ.out _).grown g' (by have := SZ.out; simp; omega) (own_lo O1.out)); clear o' g' t')
        go_roundw
        case rel => exact ⟨j + 1, true, acc ++ [x], by omega, rfl, by go_num, by rw [List.length_append, List.map_append]; exact O2.out, B2.out, NX.out⟩
        case measure => simp [intOf]; omega
      | false =>
        by_cases ht : t < x
        · have NX := hide (show InsAt l t (j + 1) true (acc ++ [t] ++ [x]) from by rw [HX.out]; exact I1.out.here JL.out (by rw [← HX.out]; exact ht))
          go_wp2_with (first
            | (at_builtin; refine wpList_append_src rfl (.tmp 57) (.tmp 59) _ rfl w.heap.size 3 i0 _ 8 Try.underlying44 I0.out.1 I0.out.2.1 I0.out.2.2.1 I0.out.2.2.2 rfl _ _ _ rfl (O1.out.alloc _) .i64 _ 1 _ [t] rfl (ints_cell1 _ _ _ _ _ rfl) (fun h => by cases h) (by have := LE.out; have := PL.out; unfold maxLen; omega) (by have := LE.out; have := PL.out; omega) (by have := SZ.out; simp; omega) ?_; intro v2 w2 o' g' t'; have O2 := hide o'; have B2 := hide ((B1.out.alloc SZ.out _).grown g' (by have := SZ.out; simp; omega) (own_lo O1.out)); clear o' g' t'; have SZ2 := hide B2.out.size; obtain ⟨dR, dG⟩ := CR.out w2 B2.out; have dx : w2.cell? ⟨b, off + j, none⟩ = some (.int .i64 x) := by (obtain ⟨b9, off9, e9, c9⟩ := HC.out j hlt; injection e9 with e9; injection e9 with e10 e11; subst e10 e11; rw [HX.out]; exact (B2.out.cell (lt_of_cell? c9)).trans c9))
            | (at_builtin; refine wpList_append_src rfl (.tmp 61) (.tmp 72) _ rfl w.heap.size 3 i0 _ 8 Try.underlying44 I0.out.1 I0.out.2.1 I0.out.2.2.1 I0.out.2.2.2 rfl _ _ _ rfl (O2.out.alloc _) .i64 _ 1 _ [x] rfl (ints_cell1 _ _ _ _ _ rfl) (fun h => by cases h) (by have := LE.out; have := PL.out; unfold maxLen; omega) (by have := LE.out; have := PL.out; omega) (by have := SZ2.out; simp; omega) ?_; intro v3 w3 o' g' t'; have O3 := hide o'; have B3 := hide ((B2.out.alloc SZ2.out _).grown g' (by have := SZ2.out; simp; omega) (own_lo O2.out)); clear o' g' t'))
          go_roundw
          case rel => exact ⟨j + 1, true, acc ++ [t] ++ [x], by omega, rfl, by go_num, by rw [List.length_append, List.length_append, List.map_append, List.map_append]; exact O3.out, B3.out, NX.out⟩
          case measure => simp [intOf]; omega
        · have NX := hide (show InsAt l t (j + 1) false (acc ++ [x]) from by rw [HX.out]; exact I1.out.on JL.out (by rw [← HX.out]; exact ht))
          go_wp2_with (at_builtin; refine wpList_append_src rfl (.tmp 61) (.tmp 72) _ rfl w.heap.size 3 i0 _ 8 Try.underlying44 I0.out.1 I0.out.2.1 I0.out.2.2.1 I0.out.2.2.2 rfl _ _ _ rfl (O1.out.alloc _) .i64 _ 1 _ [x] rfl (ints_cell1 _ _ _ _ _ rfl) (fun h => by cases h) (by have := LE.out; have := PL.out; unfold maxLen; omega) (by have := LE.out; have := PL.out; omega) (by have := SZ.out; simp; omega) ?_; intro v' w' o' g' t'; have O2 := hide o'; have B2 := hide ((B1.out.alloc SZ.out _).grown g' (by have := SZ.out; simp; omega) (own_lo O1.out)); clear o' g' t')
          go_roundw
          case rel => exact ⟨j + 1, false, acc ++ [x], by omega, rfl, by go_num, by rw [List.length_append, List.map_append]; exact O2.out, B2.out, NX.out⟩
          case measure => simp [intOf]; omega
    · obtain rfl : j = p := by omega
      rw [HP.out] at I1
      cases fin with
      | true =>
        have ED := I1.out.done
        have O3 := hide (show wr.ownsRow w.heap.size 3 1 u7 (insL l t).length ((insL l t).map (Value.int .i64)) from by rw [← ED]; exact O1.out)
        clear ED
        obtain ⟨A2, c2, rfl, _⟩ := row_open O3.out
        have P := hide (H.out.put B1.out (by rw [← HN.out]; exact hk) O3.out)
        have fz : wr.frozen? ⟨G, k, none⟩ = false := by
          have := (B1.out.block G (H.out.lt _ H.out.dG)).trans H.out.hG
          exact frozen_of_row _ _ _ _ _ this
        generalize (insL l t).length = q at *
        go_wp2_with fail
        go_ret
        obtain ⟨_, D', p1, p2, p3⟩ := P.out
        exact ⟨rfl, D', p1, p2, p3⟩
      | false =>
        have ED := hide I1.out.last
        go_wp2_with (at_builtin; refine wpList_append_src rfl (.tmp 76) (.tmp 78) _ rfl w.heap.size 3 i0 _ 8 Try.underlying44 I0.out.1 I0.out.2.1 I0.out.2.2.1 I0.out.2.2.2 rfl _ _ _ rfl (O1.out.alloc _) .i64 _ 1 _ [t] rfl (ints_cell1 _ _ _ _ _ rfl) (fun h => by cases h) (by have := LE.out; have := PL.out; unfold maxLen; omega) (by have := LE.out; have := PL.out; omega) (by have := SZ.out; simp; omega) ?_; intro v2 w2 o' g' t'; have O2 := hide (show w2.ownsRow w.heap.size 3 1 v2 (insL l t).length ((insL l t).map (Value.int .i64)) from by rw [← ED.out, List.length_append, List.map_append]; exact o'); have B2 := hide ((B1.out.alloc SZ.out _).grown g' (by have := SZ.out; simp; omega) (own_lo O1.out)); clear o' g' t'; obtain ⟨A2, c2, rfl, _⟩ := row_open O2.out; have P := hide (H.out.put B2.out (by rw [← HN.out]; exact hk) O2.out); have fz : w2.frozen? ⟨G, k, none⟩ = false := frozen_of_row _ _ _ _ _ ((B2.out.block G (H.out.lt _ H.out.dG)).trans H.out.hG); obtain ⟨dR, dG⟩ := CR.out w2 B2.out; generalize (insL l t).length = q at *)
        go_ret
        obtain ⟨_, D', p1, p2, p3⟩ := P.out
        exact ⟨rfl, D', p1, p2, p3⟩
end Go.Proofs.Ytmclifmdlcofaaa
