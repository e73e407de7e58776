/-
  The program's wrong: the first error of a name, piece by piece, then too many of them.
-/
import Derived.Test.YtjcfdpicdmidaaaDoorPySeq
namespace Go.Proofs.YtjcfdpicdmidaaaDoor
open Go.ChangeShapes Go.WideShapes Go.ChangeAt Go.RowKit Go.Shelf
set_option linter.unusedVariables false
set_option linter.unusedSimpArgs false
attribute [local go_sem] Oper.semAt_some
def wrongE (ps : List Txt) : Int := if firstE ps ≠ 0 then firstE ps else if 6 < ps.length then 20 else 0
theorem firstE_pre {pre ps : List Txt} (h : pre <+: ps) (he : firstE pre ≠ 0) : firstE ps = firstE pre := by
  obtain ⟨r, rfl⟩ := h
  induction pre with
  | nil => exact absurd rfl he
  | cons p q ih =>
    unfold firstE at he ⊢
    by_cases k : nameE p = 0
    · rw [if_pos k] at he; rw [List.cons_append]; dsimp only; rw [if_pos k, if_pos k]; exact ih he
    · rw [List.cons_append]; dsimp only; rw [if_neg k, if_neg k]
theorem firstE_add {pre : List Txt} {y : Txt} (h : firstE pre = 0) : firstE (pre ++ [y]) = nameE y := by
  rw [firstE_app _ _ h]
  unfold firstE
  by_cases k : nameE y = 0
  · rw [if_pos k, k]; rfl
  · rw [if_neg k]
set_option maxRecDepth 100000 in
set_option maxHeartbeats 8000000 in
theorem pwrong_any (w : World) (gf : Nat) (lb : Array Value) (ps : List Txt) (hps : ps.length ≤ 1000001) (Z : Nat → Prop) (hZ : ∀ i, Z i → i < w.heap.size)
    (he : ∀ args W, (callFunc gf args).run Tryd.prog W = .ok (.enter gf args) W)
    (hseq : ∀ (w2 : World) (V : Nat → Prop), Below w.heap.size w w2 → (∀ i, V i → w.heap.size ≤ i) → SeqBy Fence.wide 2 Tryd.prog gf lb (fun x : Txt => #[Value.string (bt x)]) (Touch V) (Touch Z) (fun ys => ys = ps) (fun pre => pre <+: ps) ps.length w2) :
    Calls Tryd.prog 18 #[.func (.func gf) #[] lb, .func (.func 13) #[] #[]] w fun e w' => e = .returned (.int .i64 (wrongE ps)) ∧ Touch Z w w' := by
  have HZ0 := hide hZ
  have HE := hide he
  have HS := hide hseq
  have n0 : ps.length ≤ 1000001 := hps
  clear hZ he hseq hps
  refine (callsIn_wide (n := 3)).1 ?_
  refine callsIn_of_wp_marks Tryd.func18 rfl trivial ?_ rfl
  simp only [Tryd.ntmps18, List.size_toArray, List.length_cons, List.length_nil, Nat.reduceAdd, Nat.reduceSub, Array.replicate_succ, Array.replicate_zero, List.push_toArray, List.append_toArray, List.nil_append, List.cons_append]
  gi_wp2
  obtain ⟨w2, hw2⟩ : ∃ w2, w2 = ((w.alloc (.cells #[.func (.func 13) #[] #[]] 35)).alloc (.cells #[.int .i64 0] 24)).alloc (.cells #[.int .i64 0] 3) := ⟨_, rfl⟩
  rw [← hw2]
  have b2 : Below w.heap.size w w2 := by rw [hw2]; exact (((Below.refl w.heap.size w).alloc (Nat.le_refl _) _).alloc (by simp) _).alloc (by simp; omega) _
  have s2 : w2.heap.size = w.heap.size + 3 := by rw [hw2]; simp
  have e0 : Boxed w2 w.heap.size 35 (.func (.func 13) #[] #[]) := by rw [hw2]; exact ((Boxed.new w _ _).alloc _).alloc _
  have e1 : Boxed w2 (w.heap.size + 1) 24 (.int .i64 0) := by
    have := (Boxed.new (w.alloc (.cells #[.func (.func 13) #[] #[]] 35)) 24 (.int .i64 0)).alloc (.cells #[.int .i64 0] 3)
    rw [World.size_alloc, ← hw2] at this; exact this
  have e2 : Boxed w2 (w.heap.size + 1 + 1) 3 (.int .i64 0) := by
    have := Boxed.new ((w.alloc (.cells #[.func (.func 13) #[] #[]] 35)).alloc (.cells #[.int .i64 0] 24)) 3 (.int .i64 0)
    rw [World.size_alloc, World.size_alloc, ← hw2] at this; exact this
  obtain ⟨V, hV⟩ : ∃ V : Nat → Prop, V = fun i => i = w.heap.size + 1 ∨ i = w.heap.size + 1 + 1 ∨ w.heap.size + 3 ≤ i := ⟨_, rfl⟩
  have v0 : ¬ V w.heap.size := by rw [hV]; intro e; rcases e with e | e | e <;> omega
  have v1 : V (w.heap.size + 1) := by rw [hV]; exact .inl rfl
  have v2 : V (w.heap.size + 1 + 1) := by rw [hV]; exact .inr (.inl rfl)
  have vhi : ∀ i, w.heap.size + 3 ≤ i → V i := by intro i hi; rw [hV]; exact .inr (.inr hi)
  have vge : ∀ i, V i → w.heap.size ≤ i := by intro i hi; rw [hV] at hi; rcases hi with e | e | e <;> omega
  have B2 := hide b2
  obtain ⟨U, hU⟩ : ∃ U : Nat → Prop, U = fun i => V i ∨ Z i := ⟨_, rfl⟩
  have u0 : ¬ U w.heap.size := by rw [hU]; intro e; rcases e with e | e; exact v0 e; exact absurd (HZ0.out _ e) (by omega)
  have zn : ∀ i, w.heap.size ≤ i → ¬ Z i := fun i hi e => absurd (HZ0.out _ e) (by omega)
  have uv : ∀ i, V i → U i := fun i h => by rw [hU]; exact .inl h
  have uz : ∀ i, Z i → U i := fun i h => by rw [hU]; exact .inr h
  clear hw2 hV b2
  refine wpIn_rangeFunc_by rfl (by omega) (gf := gf) (lb := lb) rfl trivial HE.out (HS.out w2 V B2.out vge) touchK_t (touchK_b (fun i hi => vhi i (by omega)))
    (fun A B h i o hi ho _ => (h.block i (lt_of_heap ho) (zn i (by omega))).trans ho) (fun _ => rfl)
    (fun pre W => (Boxed W (w.heap.size + 1) 24 (.int .i64 0) ∧ Boxed W (w.heap.size + 1 + 1) 3 (.int .i64 (pre.length : Nat))) ∧ (Touch U w2 W ∧ firstE pre = 0))
    (fun c pre W => Boxed W (w.heap.size + 1) 24 (.int .i64 (firstE pre)) ∧ (Touch U w2 W ∧ (c = .ret ∧ firstE pre ≠ 0)))
    (OwnFrom.and (OwnFrom.and (Own.from (boxed_own _ _ (fun _ => .int .i64 0)) _) (Own.from (boxed_own _ _ (fun pre => .int .i64 ((List.length pre : Nat) : Int))) _)) (OwnFrom.and (ownFrom_touch (fun i hi => uv i (vhi i (by omega)))) (ownFrom_pure _ _)))
    (fun c => OwnFrom.and (Own.from (boxed_own _ _ (fun pre => .int .i64 (firstE pre))) _) (OwnFrom.and (ownFrom_touch (fun i hi => uv i (vhi i (by omega)))) (ownFrom_pure _ _)))
    (fun s A B h k => ⟨⟨boxed_touch h.1.1 k (zn _ (by omega)), boxed_touch h.1.2 k (zn _ (by omega))⟩, h.2.1.trans k (fun i hi => .inl (uz i hi)), h.2.2⟩)
    (fun c s A B h k => ⟨boxed_touch h.1 k (zn _ (by omega)), h.2.1.trans k (fun i hi => .inl (uz i hi)), h.2.2⟩)
    ⟨⟨e1, e2⟩, Touch.refl _ _, rfl⟩
    (fun y => { tmps := #[.func (.func gf) #[] lb, .func (.func 13) #[] #[], undef, .pointer (some ⟨w.heap.size, 0, none⟩), .pointer (some ⟨w.heap.size + 1, 0, none⟩), .pointer (some ⟨w.heap.size + 1 + 1, 0, none⟩), .string (bt y), undef, .func (.func gf) #[] lb, .string (bt y), undef, undef, undef, undef, undef, undef, undef, undef, undef, undef], defers := [] }) ?assign ?body ?done ?stop
  case assign =>
    intro l y W K hK
    gi_wp2
    exact hK
  case body =>
    rintro l pre y W ⟨⟨hb1, hb2⟩, ht, hpre⟩ hlen
    have f0 := (boxed_touch e0 ht u0).cell
    have CN := hide (pname_any W y)
    have k0 : pre.length ≤ 1000001 := by omega
    obtain ⟨k, hk⟩ : ∃ k, k = pre.length := ⟨_, rfl⟩
    rw [← hk] at hb2 k0
    have f2 := hb2.cell
    have g2 := hb2.frozen
    have f1 := hb1.cell
    have g1 := hb1.frozen
    have HT := hide ht
    have HB1 := hide hb1
    have HB2 := hide hb2
    have FE := hide (show firstE (pre ++ [y]) = nameE y from firstE_add hpre)
    have HL := hide (show ((pre ++ [y]).length : Nat) = k + 1 from by rw [hk]; simp)
    by_cases h0 : nameE y = 0
    · rw [h0] at CN FE
      clear hb1 hb2 ht hpre hlen hk h0
      gi_wp2_with (refine ⟨trivial, ?_⟩; gi_at_call 13; refine (CallsIn.inRound l (callsIn_wide.2 CN.out)).mono ?_; rintro e w' ⟨rfl, rfl⟩)
      have c1 := (Touch.setCell (S := V) (Touch.refl V W) (p := ⟨w.heap.size + 1 + 1, 0, none⟩) v2 (.int .i64 ((k : Int) + 1)))
      exact ⟨(KeepsOthers.setCell _ _ _).from _, c1, ⟨HB1.out.other (by omega) _, by rw [HL.out]; exact HB2.out.set _⟩, HT.out.trans c1 (fun i hi => .inl (uv i hi)), FE.out⟩
    · obtain ⟨E, hE⟩ : ∃ E, E = nameE y := ⟨_, rfl⟩
      rw [← hE] at CN FE
      have nE : (E != 0) = true := by rw [hE]; simpa using h0
      clear hb1 hb2 ht hpre hlen hk h0 hE
      gi_wp2_with (refine ⟨trivial, ?_⟩; gi_at_call 13; refine (CallsIn.inRound l (callsIn_wide.2 CN.out)).mono ?_; rintro e w' ⟨rfl, rfl⟩)
      have c1 := (Touch.setCell (S := V) (Touch.refl V W) (p := ⟨w.heap.size + 1, 0, none⟩) v1 (.int .i64 E))
      exact ⟨(KeepsOthers.setCell _ _ _).from _, by rw [FE.out]; exact HB1.out.set _, HT.out.trans c1 (fun i hi => .inl (uv i hi)), rfl, by rw [FE.out]; simpa using nE⟩
  case done =>
    rintro D ys W hD rfl ⟨⟨hb1, hb2⟩, ht, hpre⟩ hK
    have f2 := hb2.cell
    have f1 := hb1.cell
    have g1 := hb1.frozen
    have HB := hide hb1
    have HT := hide ht
    have fin : ∀ E : Int, Touch Z w ((W.setCell ⟨w.heap.size + 1, 0, none⟩ (.int .i64 E)).putObj D (.deferred none)) := fun E => by
      have t1 : Touch U w2 ((W.setCell ⟨w.heap.size + 1, 0, none⟩ (.int .i64 E)).putObj D (.deferred none)) :=
        (ht.setCell (p := ⟨w.heap.size + 1, 0, none⟩) (uv _ v1) _).trans (S' := U) (Touch.of_grown (grownBy_putObj' _ D _) (fun g e => by cases e; exact uv _ (vhi _ (by omega)))) (fun i hi => .inl hi)
      refine (Touch.of_below B2.out).trans t1 (fun i hi => ?_)
      rw [hU] at hi
      rcases hi with h | h
      · exact .inr (vge i h)
      · exact .inl h
    have FIN := hide fin
    obtain ⟨k, hk⟩ : ∃ k, k = ys.length := ⟨_, rfl⟩
    rw [← hk] at f2
    have HPRE := hide hpre
    have HK2 := hide hk
    clear hb1 hb2 ht hpre fin hk
    by_cases h6 : 6 < k
    · have l6 : (6 : Int) < (k : Int) := by omega
      have HG := hide (show wrongE ys = 20 from by unfold wrongE; rw [if_neg (by rw [HPRE.out]; simp), if_pos (by rw [← HK2.out]; exact h6)])
      clear h6
      gi_wp2
      have hK' := (KeepsOthers.setCell W ⟨w.heap.size + 1, 0, none⟩ (.int .i64 20)).same D _ hK rfl
      have hc5 := cell_kept (HB.out.set (.int .i64 20)).cell (grownBy_putObj' _ D (.deferred none)) (fun r e => by cases e; exact ⟨_, hK', rfl⟩)
      refine ⟨by simp, .inl ⟨_, _, rfl, run_takeDeferred hK', ?_⟩⟩
      refine ⟨.int .i64 20, ?_, by rw [HG.out], FIN.out _⟩
      simp [results, Tryd.func18, Tryd.results18, go_sem, hc5]
    · have l6 : ¬ (6 : Int) < (k : Int) := by omega
      have HG := hide (show wrongE ys = 0 from by unfold wrongE; rw [if_neg (by rw [HPRE.out]; simp), if_neg (by rw [← HK2.out]; exact h6)])
      clear h6
      gi_wp2
      have hK' := (KeepsOthers.setCell W ⟨w.heap.size + 1, 0, none⟩ (.int .i64 0)).same D _ hK rfl
      have hc5 := cell_kept (HB.out.set (.int .i64 0)).cell (grownBy_putObj' _ D (.deferred none)) (fun r e => by cases e; exact ⟨_, hK', rfl⟩)
      refine ⟨by simp, .inl ⟨_, _, rfl, run_takeDeferred hK', ?_⟩⟩
      refine ⟨.int .i64 0, ?_, by rw [HG.out], FIN.out _⟩
      simp [results, Tryd.func18, Tryd.results18, go_sem, hc5]
  case stop =>
    rintro D c pre W hD hys ⟨hb, ht, rfl, hpre⟩ hK
    have HG := hide (show wrongE ps = firstE pre from by
      have := firstE_pre hys hpre
      unfold wrongE; rw [if_pos (by rw [this]; exact hpre), this])
    have t1 : Touch U w2 (W.putObj D (.deferred none)) := ht.trans (S' := U) (Touch.of_grown (grownBy_putObj' _ D _) (fun g e => by cases e; exact uv _ (vhi _ (by omega)))) (fun i hi => .inl hi)
    have FIN := hide (show Touch Z w (W.putObj D (.deferred none)) from (Touch.of_below B2.out).trans t1 (fun i hi => by
      rw [hU] at hi
      rcases hi with h | h
      · exact .inr (vge i h)
      · exact .inl h))
    have HB := hide hb
    clear hb ht hpre hys t1
    generalize firstE pre = E at *
    gi_wp2
    have hc5 := cell_kept HB.out.cell (grownBy_putObj' _ D (.deferred none)) (fun r e => by cases e; exact ⟨_, hK, rfl⟩)
    refine ⟨by simp, .inl ⟨_, _, rfl, run_takeDeferred hK, ?_⟩⟩
    refine ⟨.int .i64 E, ?_, by rw [HG.out], FIN.out⟩
    simp [results, Tryd.func18, Tryd.results18, go_sem, hc5]
end Go.Proofs.YtjcfdpicdmidaaaDoor
