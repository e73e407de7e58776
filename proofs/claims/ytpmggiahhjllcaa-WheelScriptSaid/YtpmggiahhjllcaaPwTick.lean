/-
  The program's wheel's Tick.
-/
import Derived.Test.YtpmggiahhjllcaaPwDeeds
namespace Go.Proofs.Ytpmggiahhjllcaa
open Go.ChangeShapes Go.WideShapes Go.ChangeAt Go.RowKit
set_option linter.unusedVariables false
theorem ptick_last {w : World} {U : Nat → Prop} {S n m : Nat} {f : Int → Option Nat} {L : Nat → List Tm} {mv : Value} {T : Nat → Value} (h : Rw w U S n m f L mv T) (e : n = 16777215) :
    Calls Try.prog 18 #[.pointer (some ⟨S, 0, none⟩)] w fun e w' => e = .returned (.tuple #[.slice none 0 0, .int .i64 0]) ∧ w = w' := by
  have c0 := h.row.now
  have hn : (16777215 : Int) ≤ (n : Int) := by omega
  clear h e
  go_enter Try.func18, Try.ntmps18
  go_wp2_with fail
  go_ret2
  exact ⟨rfl, rfl⟩
theorem Rw.drewN {w : World} {U : Nat → Prop} {S n m : Nat} {f : Int → Option Nat} {L : Nat → List Tm} {mv : Value} {T : Nat → Value} (h : Rw w U S n m f L mv T) (q : Nat) : Rw (w.drewN q) U S n m f L mv T :=
  h.keep (V := fun _ => False) ((Touch.refl _ w).drewN q) (fun _ _ e => e)
theorem Rw.setNow {w : World} {U : Nat → Prop} {S n m : Nat} {f : Int → Option Nat} {L : Nat → List Tm} {mv : Value} {T : Nat → Value} (h : Rw w U S n m f L mv T) (q : Nat) : Rw (w.setCell ⟨S, 0, none⟩ (.int .i64 (q : Int))) U S q m f L mv T ∧ Touch U w (w.setCell ⟨S, 0, none⟩ (.int .i64 (q : Int))) := by
  have t : Touch (fun i => i = S) w (w.setCell ⟨S, 0, none⟩ (.int .i64 (q : Int))) := (Touch.refl (fun i => i = S) w).setCell (p := ⟨S, 0, none⟩) rfl _
  exact ⟨⟨h.row.setNow q, h.map.keep (fun M e => t.block M (h.lt M (h.uM M e)) (h.neSM e)), fun k hk => t.own (h.own k hk) (fun g hg e => h.neTS hk hg e), h.dis, h.uS, h.uM, h.uT, fun i hi => Nat.lt_of_lt_of_le (h.lt i hi) t.size⟩, t.mono (fun i e => by rw [e]; exact h.uS)⟩
theorem DeedP.form {w : World} {U : Nat → Prop} {S n m : Nat} {f : Int → Option Nat} {L : Nat → List Tm} {mv : Value} {K : List Tm} {v : Value} {e : Ending} {w' : World} (h : DeedP w U S n m f L mv K v e w') : ∃ A l c x, e = .returned (.tuple #[.slice A l c, .int .i64 x]) := by
  obtain ⟨A, c, _, _, _, he, _⟩ := h
  exact ⟨A, _, c, _, he⟩
/-- What a tick's walk comes to. -/
def TickP (w : World) (U : Nat → Prop) (S : Nat) (s : Ws) (e : Ending) (w' : World) : Prop := Ticked (fun w' U' s' => Pw w' U' S s') U s w e w'
theorem tick_end {w w4 w' : World} {U U4 : Nat → Prop} {S : Nat} {s : Ws} {m : Nat} {f : Int → Option Nat} {L : Nat → List Tm} {mv v : Value} {K : List Tm} {e : Ending} (g : Abs s m f L) (hne : s.now ≠ 16777215) (hK : K = L (pk s.now (s.now + 1))) (t : Touch U w w4) (hU4 : ∀ i, U4 i → U i) (hv : ∀ q, v.ownBlock = some q → U q)
    (hd : DeedP w4 U4 S (s.now + 1) m f (updV L (pk s.now (s.now + 1)) []) mv K v e w') : TickP w U S s e w' := by
  obtain ⟨A, c, U', T', f', he, p1, p2, o1, b1, t1, u1⟩ := hd
  have hA := g.tick hne hK p2
  have hs : (tickS s).now = s.now + 1 := by unfold tickS; rw [if_neg hne]
  rw [g.moved hne hK] at he
  rw [g.due_len hK] at he o1 b1
  rw [g.due_sort hK] at o1
  have hsz := t.size
  have hP : Pw w' U' S (tickS s) := ⟨_, _, _, mv, T', by rw [hs]; exact p1, hA⟩
  refine ⟨A, c, he, o1, U', hP, ?_, ?_, ?_⟩
  · exact t.trans t1 (fun i hi => .inl (hi.elim (hU4 i) (hv i)))
  · intro i hi
    rcases u1 i hi with hi | hi
    · exact .inl (hU4 i hi)
    · exact .inr (by omega)
  · intro i hi
    obtain ⟨b2, b3⟩ := b1 i hi
    refine ⟨b2, ?_⟩
    rcases b3 with b3 | b3
    · exact .inl (hv i b3)
    · exact .inr (by omega)
set_option maxRecDepth 10000 in
set_option maxHeartbeats 8000000 in
theorem ptick_ok {w : World} {U : Nat → Prop} {S : Nat} {s : Ws} {m : Nat} {f : Int → Option Nat} {L : Nat → List Tm} {mv : Value} {T : Nat → Value} (h : Rw w U S s.now m f L mv T) (g : Abs s m f L) (hne : s.now ≠ 16777215) :
    Calls Try.prog 18 #[.pointer (some ⟨S, 0, none⟩)] w (TickP w U S s) := by
  have hn0 := g.good.n
  obtain ⟨n, hn⟩ : ∃ n, n = s.now := ⟨_, rfl⟩
  rw [← hn] at h
  have hn1 : n + 1 < 16777216 := by omega
  have n0 : ¬ (16777215 : Int) ≤ (n : Int) := by omega
  have n00 : (0 : Int) ≤ (n : Int) := by omega
  have en : ((n : Int) + 1) = ((n + 1 : Nat) : Int) := by omega
  have hk := pk_lt n (n + 1)
  have r3 := ring_le n (n + 1)
  have s3 := slot_le n (n + 1)
  have r0 : (0 : Int) ≤ ((ring n (n + 1) : Nat) : Int) := by omega
  have r1 : ((ring n (n + 1) : Nat) : Int) < 4 := by omega
  have s0 : (0 : Int) ≤ ((slot n (n + 1) : Nat) : Int) := by omega
  have s1 : ((slot n (n + 1) : Nat) : Int) < 64 := by omega
  obtain ⟨k0, hk0⟩ : ∃ k0, k0 = pk n (n + 1) := ⟨_, rfl⟩
  have ek : ring n (n + 1) * 64 + slot n (n + 1) = k0 := by rw [hk0]; rfl
  obtain ⟨K, hKK⟩ : ∃ K, K = L k0 := ⟨_, rfl⟩
  have hK : K = L (pk s.now (s.now + 1)) := by rw [hKK, hk0, hn]
  have UL := hide (fun (W : World) => by have := unlike_any W n (n + 1) (by omega) (by omega); rw [← en] at this; exact this)
  have DG := hide (fun (W : World) => pdigit_any W (n + 1) (ring n (n + 1)) (by omega) r3)
  have hdg : dig (n + 1) (ring n (n + 1)) = slot n (n + 1) := rfl
  rw [hdg] at DG
  have hT : ∀ q, (T k0).ownBlock = some q → U q := fun q e => h.uT k0 q (by rw [hk0]; exact hk) e
  have END := hide (fun (w4 w' : World) (U4 : Nat → Prop) (e : Ending) (v : Value) (hv : T k0 = v) (t : Touch U w w4) (hU4 : ∀ i, U4 i → U i) (hd : DeedP w4 U4 S (n + 1) m f (updV L k0 []) mv K v e w') => tick_end (v := v) g hne hK t hU4 (by rw [← hv]; exact hT) (by rw [← hn, ← hk0]; exact hd))
  have FI := hide (fun (hr : ring n (n + 1) = 0) => show ∀ x ∈ K, f (x.id : Int) = some x.due ∧ (Lit.int .i64 (x.id : Int)).wf = true ∧ x.due = n + 1 from fun x hx => by
    obtain ⟨hx1, hx2⟩ := (g.row_mem hK).mp hx
    rw [← hn] at hx2
    obtain ⟨l1, l2⟩ := g.good.lt x hx1
    refine ⟨by rw [g.at_, atOf_mem g.good.up hx1], g.wf x hx1, ?_⟩
    by_cases e : x.due = n + 1
    · exact e
    · have := (tick_moves hn1 (by omega) l2 hx2 e).2
      omega)
  have SI := hide (show ∀ x ∈ K, f (x.id : Int) = some x.due ∧ (Lit.int .i64 (x.id : Int)).wf = true ∧ x.due < 16777217 from fun x hx => by
    obtain ⟨hx1, hx2⟩ := (g.row_mem hK).mp hx
    obtain ⟨l1, l2⟩ := g.good.lt x hx1
    exact ⟨by rw [g.at_, atOf_mem g.good.up hx1], g.wf x hx1, by omega⟩)
  have ND := hide (g.nodup hK)
  have hKl : K.length ≤ 64 := by rw [hKK, hk0]; have := g.len (pk_lt s.now (s.now + 1)); rw [← hn] at this; exact this
  have LL := hide (show ∀ j, j < 256 → (updV L k0 [] j).length + K.length ≤ 100000 from fun j hj => by
    by_cases e : j = k0
    · rw [e, updV_same]; simp; omega
    · rw [updV_other _ _ e]; have := g.len hj; omega)
  rw [← hk0] at hk
  have H0 := hide h
  have c0 := h.row.now
  have HK := hide hk
  have HKK := hide hKK
  have EK := hide ek
  have HN1 := hide hn1
  have EN := hide en
  clear h g hne hn0 hn hk hk0 hK hKK hKl hT hdg hn1 ek en
  generalize ring n (n + 1) = r at *
  generalize slot n (n + 1) = sl at *
  go_enter Try.func18, Try.ntmps18
  go_upto_region 3 with fail
  go_quiet ((go_at_call 31; exact wquiet_eq (UL.out _)))
  have H1 := hide (H0.out.drewN nq)
  have T1 := hide ((Touch.refl U w).drewN nq)
  clear c0
  generalize w.drewN nq = w1 at *
  have c0 := H1.out.row.now
  have f0 := H1.out.row.frozen 0
  go_upto_region 5 with fail
  rw [EN.out]
  obtain ⟨h2, t2⟩ := H1.out.setNow (n + 1)
  have H2 := hide h2
  have T2 := hide (T1.out.trans t2 (fun i e => .inl e))
  clear h2 t2 c0 f0
  generalize w1.setCell ⟨S, 0, none⟩ (.int .i64 ((n + 1 : Nat) : Int)) = w2 at *
  generalize n + 1 = N at *
  have c0 := H2.out.row.now
  go_quiet ((go_at_call 32; exact wquiet_eq (DG.out _)))
  have H3 := hide (H2.out.drewN nq)
  have T3 := hide (T2.out.trans ((Touch.refl U w2).drewN nq) (fun i e => .inl e))
  clear c0
  generalize w2.drewN nq = w3 at *
  obtain ⟨A, c, hv, hnc, hcm, _⟩ := own_slice (H3.out.own k0 HK.out)
  have eo : 2 + k0 = 2 + r * 64 + sl := by have := EK.out; omega
  have c1 := H3.out.row.slot HK.out
  have f1 := H3.out.row.frozen (2 + k0)
  rw [hv, eo] at c1
  rw [eo] at f1
  obtain ⟨h4, o4, t4⟩ := rw_detach H3.out HK.out
  rw [← HKK.out, hv] at o4
  rw [eo] at h4 o4 t4
  have UV := hide (show ∀ q, (Value.slice A K.length c).ownBlock = some q → ¬ (U q ∧ (T k0).ownBlock ≠ some q) from fun q e e2 => e2.2 (by rw [hv, ← HKK.out]; exact e))
  have HV := hide hv
  rw [← HKK.out] at o4 c1
  have H4 := hide h4
  have O4 := hide o4
  have T4 := hide (T3.out.trans t4 (fun i e => .inl e))
  clear h4 o4 t4 hv hnc hcm eo
  go_upto_region 8 with fail
  clear c1 f1
  generalize w3.setCell ⟨S, 2 + r * 64 + sl, none⟩ (.slice none 0 0) = w4 at *
  by_cases hr : r = 0
  · have di := deed_fire
    have FI2 := hide (FI.out hr)
    subst hr
    go_wp2_with (first
      | (go_at_call 33; refine (pdeeds_any _).mono ?_; rintro en w5 ⟨rfl, b5⟩; have H5 := hide (H4.out.below b5); have O5 := hide ((Touch.of_below (S := fun _ => False) b5).own O4.out (fun _ _ e => e)); have T5 := hide (T4.out.trans (Touch.of_below (S := fun _ => False) b5) (fun _ e => e.elim)); clear b5)
      | (go_at_call 38; refine (pfire_deed H5.out O5.out UV.out ND.out FI2.out (by have := LL.out 0 (by omega); omega)).mono ?_; intro en w9 hD; obtain ⟨A9, l9, c9, x9, rfl⟩ := hD.form; have HD := hide hD; clear hD))
    go_ret2
    exact END.out _ _ (fun i => U i ∧ (T k0).ownBlock ≠ some i) _ _ (by rw [HV.out, ← HKK.out]) T5.out (fun i hi => hi.1) HD.out
  · have di := fun w => deed_spread w hr r3
    clear hr
    go_wp2_with (first
      | (go_at_call 33; refine (pdeeds_any _).mono ?_; rintro en w5 ⟨rfl, b5⟩; have H5 := hide (H4.out.below b5); have O5 := hide ((Touch.of_below (S := fun _ => False) b5).own O4.out (fun _ _ e => e)); have T5 := hide (T4.out.trans (Touch.of_below (S := fun _ => False) b5) (fun _ e => e.elim)); clear b5)
      | (go_at_call 39; refine (pspread_any H5.out (by have := HN1.out; omega) O5.out UV.out ND.out SI.out LL.out).mono ?_; intro en w9 hD; obtain ⟨A9, l9, c9, x9, rfl⟩ := hD.form; have HD := hide hD; clear hD))
    go_ret2
    exact END.out _ _ (fun i => U i ∧ (T k0).ownBlock ≠ some i) _ _ (by rw [HV.out, ← HKK.out]) T5.out (fun i hi => hi.1) HD.out
end Go.Proofs.Ytpmggiahhjllcaa
