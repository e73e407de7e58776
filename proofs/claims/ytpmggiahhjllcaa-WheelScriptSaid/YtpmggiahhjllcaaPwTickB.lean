/-
  What is in memory behind a tick is the timers behind it.
-/
import Derived.Test.YtpmggiahhjllcaaPwTickA
namespace Go.Proofs.Ytpmggiahhjllcaa
open Go.ChangeShapes Go.WideShapes Go.ChangeAt Go.RowKit
set_option linter.unusedVariables false
theorem filter_split_perm {α : Type} (q : α → Bool) (l : List α) : (l.filter q ++ l.filter (fun x => !q x)).Perm l := by
  induction l with
  | nil => exact List.Perm.refl _
  | cons x l ih =>
    cases h : q x with
    | true => rw [List.filter_cons_of_pos h, List.filter_cons_of_neg (by simp [h])]; exact ih.cons x
    | false =>
      rw [List.filter_cons_of_neg (by simp [h]), List.filter_cons_of_pos (by simp [h])]
      exact List.perm_middle.trans (ih.cons x)
section
variable {s : Ws} {m : Nat} {f : Int → Option Nat} {L : Nat → List Tm} {K : List Tm}
/-- The row of the slot that the next moment comes to. -/
theorem Abs.row_mem (h : Abs s m f L) (hK : K = L (pk s.now (s.now + 1))) {x : Tm} : x ∈ K ↔ x ∈ s.l ∧ pk s.now x.due = pk s.now (s.now + 1) := by
  rw [hK, (h.rows _ (pk_lt _ _)).mem_iff, List.mem_filter]; simp
theorem Abs.due_perm (h : Abs s m f L) (hK : K = L (pk s.now (s.now + 1))) : (dueL (s.now + 1) K).Perm (s.l.filter (fun x => x.due == s.now + 1)) := by
  unfold dueL
  rw [hK]
  refine ((h.rows _ (pk_lt _ _)).filter _).trans (List.Perm.of_eq ?_)
  rw [List.filter_filter]
  refine List.filter_congr fun x hx => ?_
  by_cases e : x.due = s.now + 1
  · simp [e]
  · simp [e]
theorem Abs.due_len (h : Abs s m f L) (hK : K = L (pk s.now (s.now + 1))) : (dueL (s.now + 1) K).length = (gone s).length := by
  rw [(h.due_perm hK).length_eq]; unfold gone; rw [List.length_map]
theorem Abs.due_sort (h : Abs s m f L) (hK : K = L (pk s.now (s.now + 1))) : sortI ((dueL (s.now + 1) K).map idI) = goneI s := by
  have hp := (h.due_perm hK).map idI
  have e : (s.l.filter (fun x => x.due == s.now + 1)).map idI = goneI s := by unfold goneI gone; rw [List.map_map]; rfl
  rw [e] at hp
  refine sortI_eq hp ?_
  rw [← e, List.pairwise_map]
  exact (h.good.up.sublist List.filter_sublist).imp (fun h => by unfold idI; omega)
theorem Abs.nodup (h : Abs s m f L) (hK : K = L (pk s.now (s.now + 1))) : K.Pairwise (fun a b => a.id ≠ b.id) := by
  rw [hK]
  refine (h.rows _ (pk_lt _ _)).symm.pairwise ?_ (fun h e => h e.symm)
  exact (h.good.up.sublist List.filter_sublist).imp (fun h => by omega)
theorem Abs.tick (h : Abs s m f L) (hne : s.now ≠ 16777215) (hK : K = L (pk s.now (s.now + 1))) {f' : Int → Option Nat} (hf : ∀ q, f' q = if q ∈ (dueL (s.now + 1) K).map idI then none else f q) :
    Abs (tickS s) (m - (dueL (s.now + 1) K).length) f' (fun j => updV L (pk s.now (s.now + 1)) [] j ++ toL (s.now + 1) j K) := by
  have hg := good_tick h.good
  have hn := h.good.n
  have hn1 : s.now + 1 < 16777216 := by omega
  have hs : tickS s = ⟨s.now + 1, rest s⟩ := by unfold tickS; rw [if_neg hne]
  rw [hs] at hg ⊢
  refine ⟨hg, ?_, fun q => ?_, fun j hj => ?_, fun y hy => h.wf y (List.mem_filter.mp hy).1⟩
  · have h1 := gone_len s
    have h2 := h.due_len hK
    have h3 := h.cnt
    show m - _ = (rest s).length
    omega
  · show f' q = atOf (rest s) q
    rw [hf]
    apply Option.ext
    intro a
    rw [atOf_iff hg.up]
    by_cases e : q ∈ (dueL (s.now + 1) K).map idI
    · rw [if_pos e]
      obtain ⟨y, hy, ey⟩ := List.mem_map.mp e
      have hy2 := List.mem_filter.mp ((h.due_perm hK).mem_iff.mp hy)
      constructor
      · intro e2; cases e2
      · rintro ⟨x, hx, e2, e3⟩
        obtain ⟨hx1, hx2⟩ := List.mem_filter.mp hx
        have a1 := atOf_mem h.good.up hx1
        have a2 := atOf_mem h.good.up hy2.1
        unfold idI at ey
        rw [show (x.id : Int) = (y.id : Int) by omega, a2] at a1
        have a3 := Option.some.inj a1
        simp at hx2
        have a4 : y.due = s.now + 1 := by simpa using hy2.2
        exact absurd (a3.symm.trans a4) hx2
    · rw [if_neg e, h.at_, atOf_iff h.good.up]
      constructor
      · rintro ⟨x, hx, e2, e3⟩
        refine ⟨x, List.mem_filter.mpr ⟨hx, ?_⟩, e2, e3⟩
        simp
        intro e4
        exact e (List.mem_map.mpr ⟨x, (h.due_perm hK).mem_iff.mpr (List.mem_filter.mpr ⟨hx, by simpa using e4⟩), e2⟩)
      · rintro ⟨x, hx, e2, e3⟩
        exact ⟨x, (List.mem_filter.mp hx).1, e2, e3⟩
  · show (updV L (pk s.now (s.now + 1)) [] j ++ toL (s.now + 1) j K).Perm ((rest s).filter (fun x => pk (s.now + 1) x.due == j))
    have hsp := filter_split_perm (fun x : Tm => pk s.now x.due == pk s.now (s.now + 1)) s.l
    have h1 := (hsp.filter (fun x => pk (s.now + 1) x.due == j && !(x.due == s.now + 1))).symm
    rw [show (rest s).filter (fun x => pk (s.now + 1) x.due == j) = s.l.filter (fun x => pk (s.now + 1) x.due == j && !(x.due == s.now + 1)) from by unfold rest; rw [List.filter_filter]]
    refine List.Perm.trans ?_ h1.symm
    rw [List.filter_append]
    refine List.perm_append_comm.trans (List.Perm.append ?_ ?_)
    · unfold toL
      rw [hK]
      refine ((h.rows _ (pk_lt _ _)).filter _).trans (List.Perm.of_eq (List.filter_congr fun x _ => Bool.and_comm _ _))
    · rw [List.filter_filter]
      by_cases e : j = pk s.now (s.now + 1)
      · subst e
        rw [updV_same]
        refine List.Perm.of_eq (List.filter_eq_nil_iff.mpr fun x hx => ?_).symm
        obtain ⟨l1, l2⟩ := h.good.lt x hx
        intro e2
        simp at e2
        obtain ⟨⟨e2, e3⟩, e4⟩ := e2
        exact e4 ((tick_stays hn1 l1 l2 e4).2.1.symm.trans e2)
      · rw [updV_other _ _ e]
        refine (h.rows j hj).trans (List.Perm.of_eq (List.filter_congr fun x hx => ?_))
        obtain ⟨l1, l2⟩ := h.good.lt x hx
        by_cases e2 : pk s.now x.due = pk s.now (s.now + 1)
        · have : ¬ pk s.now x.due = j := fun e3 => e (e3.symm.trans e2)
          simp [e2]
          intro e3
          exact absurd (e2.trans e3) this
        · obtain ⟨t1, t2, _⟩ := tick_stays hn1 l1 l2 e2
          have b1 : (x.due == s.now + 1) = false := by simpa using t1
          have b2 : (pk s.now x.due == pk s.now (s.now + 1)) = false := by simpa using e2
          rw [t2, b1, b2, Bool.not_false, Bool.and_true, Bool.and_true]
theorem Abs.moved (h : Abs s m f L) (hne : s.now ≠ 16777215) (hK : K = L (pk s.now (s.now + 1))) : K.length - (dueL (s.now + 1) K).length = moved s := by
  have hn := h.good.n
  have hn1 : s.now + 1 < 16777216 := by omega
  have e1 : K.length = (s.l.filter (fun x => pk s.now x.due == pk s.now (s.now + 1))).length := by rw [hK]; exact (h.rows _ (pk_lt _ _)).length_eq
  have e2 := filter_split (fun x : Tm => x.due == s.now + 1) (s.l.filter (fun x => pk s.now x.due == pk s.now (s.now + 1)))
  have e3 : (s.l.filter (fun x => pk s.now x.due == pk s.now (s.now + 1))).filter (fun x => x.due == s.now + 1) = s.l.filter (fun x => x.due == s.now + 1) := by
    rw [List.filter_filter]
    refine List.filter_congr fun x _ => ?_
    by_cases e : x.due = s.now + 1
    · simp [e]
    · simp [e]
  rw [e3] at e2
  have e4 := (h.due_perm hK).length_eq
  unfold Go.Proofs.Ytpmggiahhjllcaa.moved rest
  rw [List.countP_eq_length_filter, List.filter_filter]
  have e5 : (s.l.filter (fun x => pk s.now x.due == pk s.now (s.now + 1))).filter (fun x => !(x.due == s.now + 1)) = s.l.filter (fun x => (ring s.now x.due != ring (s.now + 1) x.due) && !(x.due == s.now + 1)) := by
    rw [List.filter_filter]
    refine List.filter_congr fun x hx => ?_
    obtain ⟨l1, l2⟩ := h.good.lt x hx
    by_cases e : x.due = s.now + 1
    · simp [e]
    · by_cases e6 : pk s.now x.due = pk s.now (s.now + 1)
      · obtain ⟨t1, t2⟩ := tick_moves hn1 l1 l2 e6 e
        have : ¬ ring s.now x.due = ring (s.now + 1) x.due := by omega
        simp [e, e6, this]
      · obtain ⟨t1, t2, t3⟩ := tick_stays hn1 l1 l2 e6
        simp [e6, t3]
  rw [e5] at e2
  omega
end
end Go.Proofs.Ytpmggiahhjllcaa
