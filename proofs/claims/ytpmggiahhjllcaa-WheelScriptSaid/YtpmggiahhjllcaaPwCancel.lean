/-
  The program's wheel's Cancel.
-/
import Derived.Test.YtpmggiahhjllcaaPwArm2
import Derived.Deep.RegionHeld3
namespace Go.Proofs.Ytpmggiahhjllcaa
open Go.ChangeShapes Go.WideShapes Go.ChangeAt Go.RowKit
set_option linter.unusedVariables false
theorem Rw.setRow {w w2 : World} {U : Nat → Prop} {S n m : Nat} {f : Int → Option Nat} {L : Nat → List Tm} {mv : Value} {T : Nat → Value} (h : Rw w U S n m f L mv T) {k : Nat} (hk : k < 256) (t : Touch (fun i => (T k).ownBlock = some i) w w2) (v : Value) (l' : List Tm)
    (hown : w2.ownsRow 0 3 1 v l'.length (idsV l')) (hv : ∀ g, v.ownBlock = some g → (T k).ownBlock = some g) :
    Rw (w2.setCell ⟨S, 2 + k, none⟩ v) U S n m f (updV L k l') mv (updV T k v) ∧ Touch U w (w2.setCell ⟨S, 2 + k, none⟩ v) := by
  have hrow2 := h.row.keep (t.block S (h.lt S h.uS) (fun e => h.neTS hk e rfl))
  have t2 : Touch (fun i => i = S ∨ (T k).ownBlock = some i) w (w2.setCell ⟨S, 2 + k, none⟩ v) := (t.mono (fun i e => .inr e)).setCell (p := ⟨S, 2 + k, none⟩) (.inl rfl) v
  refine ⟨⟨hrow2.setSlot hk v, h.map.keep (fun M e => t2.block M (h.lt M (h.uM M e)) (fun e2 => e2.elim (h.neSM e) (fun e2 => h.neTM hk e2 e rfl))), fun j hj => ?_, fun a b g ha hb h1 h2 => ?_, h.uS, h.uM, fun j g hj hg => ?_, fun i hi => Nat.lt_of_lt_of_le (h.lt i hi) t2.size⟩, t2.mono (fun i e => e.elim (fun e => e ▸ h.uS) (fun e => h.uT k i hk e))⟩
  · by_cases e : j = k
    · subst e
      rw [updV_same, updV_same]
      have t3 : Touch (fun i => i = S) w2 (w2.setCell ⟨S, 2 + j, none⟩ v) := (Touch.refl (fun i => i = S) w2).setCell (p := ⟨S, 2 + j, none⟩) rfl v
      exact t3.own hown (fun g hg e2 => h.neTS hk (hv g hg) e2)
    · rw [updV_other _ _ e, updV_other _ _ e]
      exact t2.own (h.own j hj) (fun g hg e2 => e2.elim (h.neTS hj hg) (fun e2 => e (h.dis j k g hj hk hg e2)))
  · have h1' : (T a).ownBlock = some g := by
      by_cases e : a = k
      · subst e; rw [updV_same] at h1; exact hv g h1
      · rw [updV_other _ _ e] at h1; exact h1
    have h2' : (T b).ownBlock = some g := by
      by_cases e : b = k
      · subst e; rw [updV_same] at h2; exact hv g h2
      · rw [updV_other _ _ e] at h2; exact h2
    exact h.dis a b g ha hb h1' h2'
  · by_cases e : j = k
    · subst e; rw [updV_same] at hg; exact h.uT j g hj (hv g hg)
    · rw [updV_other _ _ e] at hg; exact h.uT j g hj hg
theorem Rw.drew {w : World} {U : Nat → Prop} {S n m : Nat} {f : Int → Option Nat} {L : Nat → List Tm} {mv : Value} {T : Nat → Value} (h : Rw w U S n m f L mv T) : Rw w.drew U S n m f L mv T :=
  h.keep (V := fun _ => False) ((Touch.refl _ w).drewN 1) (fun _ _ e => e)
theorem rw_drop {w : World} {U : Nat → Prop} {S n m : Nat} {f : Int → Option Nat} {L : Nat → List Tm} {mv : Value} {T : Nat → Value} (h : Rw w U S n m f L mv T) {id : Int} (hid : (Lit.int .i64 id).wf = true) (hf : (f id).isSome = true) (ty : TypeId) :
    ∃ w', (Builtin.delete_ #[54, 3] ty #[mv, .int .i64 id]).run Try.prog w = .ok (.tuple #[]) w' ∧ Rw w' U S n (m - 1) (delM f id) L mv T ∧ Touch (fun i => mv = .map (some i)) w w' := by
  obtain ⟨M, e, hM⟩ := h.map.some hf
  obtain ⟨w', hr, hM', hg⟩ := hM.drop id hid hf ty
  rw [← e] at hr
  exact ⟨w', hr, h.turned e hg hM', Touch.of_grown hg (fun k e2 => by rw [← Option.some.inj e2]; exact e)⟩
theorem step_delete {P : Program} {w w' : World} {ops : Array Oper} {o : Oper} {a : Act} {K : Act → World → Prop} {Q : Exit → Act → World → Prop} {E : Prop} {r : Value} (hgd : o.guard = none) (s x : Operand) (t k : TypeId)
    (ho : o.op = .call { callee := .builtin .delete, args := #[s, x], argTypes := #[t, k] }) (sv xv : Value) (hs : a.eval s = sv) (hx : a.eval x = xv) (hrun : (Builtin.delete_ #[t, k] o.type #[sv, xv]).run P w = .ok r w')
    (h : K (a.put o.dst r) w') : if Region.wanted o (yielded ops a.tmps) = true then Oper.wp P o a w K Q else E := by
  have hw : Region.wanted o (yielded ops a.tmps) = true := by simp [Region.wanted, hgd]
  rw [if_pos hw]
  unfold Oper.wp execOp
  simp only [ho, resolve, invoke, builtin, Sem.run_bind, Sem.run_pure, Result.andThen_ok, List.map_toArray, List.map_cons, List.map_nil, hs, hx, hrun]
  exact h
/-! Plain facts. -/
theorem one_id {l : List Tm} (h : l.Pairwise (fun a b => a.id < b.id)) {x : Tm} (hx : x ∈ l) : (l.filter (fun y => (y.id : Int) == (x.id : Int))).length = 1 := by
  induction l with
  | nil => cases hx
  | cons y l ih =>
    obtain ⟨h1, h2⟩ := List.pairwise_cons.mp h
    rcases List.mem_cons.mp hx with rfl | hx
    · rw [List.filter_cons_of_pos (by simp)]
      have : l.filter (fun y => (y.id : Int) == (x.id : Int)) = [] := List.filter_eq_nil_iff.mpr (fun z hz => by have := h1 z hz; simp; omega)
      rw [this]; rfl
    · have := h1 x hx
      rw [List.filter_cons_of_neg (by simp; omega)]
      exact ih h2 hx
theorem atOf_can {l : List Tm} (h : l.Pairwise (fun a b => a.id < b.id)) (id q : Int) : atOf (l.filter (fun x => !((x.id : Int) == id))) q = delM (atOf l) id q := by
  apply Option.ext
  intro a
  unfold delM
  rw [atOf_iff (h.sublist List.filter_sublist)]
  by_cases e : q = id
  · rw [if_pos e]
    constructor
    · rintro ⟨x, hx, h1, _⟩
      have := (List.mem_filter.mp hx).2
      simp at this
      exact absurd (h1.trans e) this
    · intro h; cases h
  · rw [if_neg e, atOf_iff h]
    constructor
    · rintro ⟨x, hx, h1, h2⟩
      exact ⟨x, (List.mem_filter.mp hx).1, h1, h2⟩
    · rintro ⟨x, hx, h1, h2⟩
      exact ⟨x, List.mem_filter.mpr ⟨hx, by simp; rw [h1]; exact e⟩, h1, h2⟩
theorem Abs.can {s : Ws} {m : Nat} {f : Int → Option Nat} {L : Nat → List Tm} (h : Abs s m f L) {id : Int} {a : Nat} (e : f id = some a) :
    Abs (canS s id) (m - 1) (delM f id) (updV L (pk s.now a) ((L (pk s.now a)).filter (fun x => !((x.id : Int) == id)))) := by
  obtain ⟨x, hx, h1, h2⟩ := h.has e
  have hone : ∀ y ∈ s.l, (y.id : Int) = id → y.due = a := fun y hy hyi => by
    have e1 := atOf_mem h.good.up hy
    have e2 := atOf_mem h.good.up hx
    rw [hyi, ← h1, e2, h2] at e1
    exact (Option.some.inj e1).symm
  refine ⟨good_can h.good id, ?_, fun q => ?_, fun k hk => ?_, fun y hy => h.wf y (List.mem_filter.mp hy).1⟩
  · show m - 1 = (s.l.filter (fun y => !((y.id : Int) == id))).length
    have h3 := one_id h.good.up hx
    have h4 := filter_split (fun y : Tm => (y.id : Int) == id) s.l
    rw [h1] at h3
    have := h.cnt
    omega
  · show delM f id q = atOf (s.l.filter (fun y => !((y.id : Int) == id))) q
    rw [atOf_can h.good.up]
    unfold delM
    rw [h.at_]
  · show (updV L (pk s.now a) _ k).Perm ((s.l.filter (fun y => !((y.id : Int) == id))).filter (fun y => pk s.now y.due == k))
    rw [List.filter_filter]
    by_cases ek : k = pk s.now a
    · subst ek
      rw [updV_same]
      have := (h.rows _ hk).filter (fun x => !((x.id : Int) == id))
      rw [List.filter_filter] at this
      refine this.trans (List.Perm.of_eq (List.filter_congr fun y _ => Bool.and_comm _ _))
    · rw [updV_other _ _ ek]
      refine (h.rows k hk).trans (List.Perm.of_eq (List.filter_congr fun y hy => ?_))
      by_cases e2 : (y.id : Int) = id
      · have := hone y hy e2
        have : ¬ pk s.now y.due = k := by rw [this]; exact fun e => ek e.symm
        simp [this]
      · simp [e2]
theorem ids_ints (l : List Tm) : idsV l = (l.map (fun x => (x.id : Int))).map (Value.int .i64) := by simp [idsV]
theorem ids_filter (l : List Tm) (id : Int) : (l.map (fun x => (x.id : Int))).filter (fun x => !(x == id)) = (l.filter (fun x => !((x.id : Int) == id))).map (fun x => (x.id : Int)) := by
  rw [List.filter_map]; rfl
theorem pcan_none {w : World} {U : Nat → Prop} {S n m : Nat} {f : Int → Option Nat} {L : Nat → List Tm} {mv : Value} {T : Nat → Value} (h : Rw w U S n m f L mv T) (hn : n < 16777217) {id : Int} (hid : (Lit.int .i64 id).wf = true) (e : f id = none) :
    Calls Try.prog 15 #[.pointer (some ⟨S, 0, none⟩), .int .i64 id] w fun en w' => en = .returned (.bool false) ∧ Below w.heap.size w w' := by
  have HB := hide (show Below w.heap.size w (w.alloc (.cells #[.int .i64 id] 3)) from (Below.refl _ _).alloc (Nat.le_refl _) _)
  have HP := hide (pplace_any (h.below HB.out) hn hid (fun a e2 => by rw [e] at e2; cases e2))
  rw [e] at HP
  simp only [Option.map_none, Option.getD_none, Option.isSome_none] at HP
  clear h hid e
  go_enter Try.func15, Try.ntmps15
  go_wp2_with (go_at_call 24; refine HP.out.mono ?_; rintro en w' ⟨rfl, rfl⟩)
  go_ret
  exact ⟨rfl, HB.out⟩
end Go.Proofs.Ytpmggiahhjllcaa
