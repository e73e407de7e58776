/-
  The program's wheel's Arm.
-/
import Derived.Test.YtpmggiahhjllcaaPwPut
namespace Go.Proofs.Ytpmggiahhjllcaa
open Go.ChangeShapes Go.WideShapes Go.ChangeAt Go.RowKit
set_option linter.unusedVariables false
theorem atOf_iff {l : List Tm} (h : l.Pairwise (fun a b => a.id < b.id)) {id : Int} {a : Nat} : atOf l id = some a ↔ ∃ x ∈ l, (x.id : Int) = id ∧ x.due = a := by
  constructor
  · exact atOf_inv
  · rintro ⟨x, hx, rfl, rfl⟩; exact atOf_mem h hx
theorem ins_perm (l : List Tm) (x : Tm) : (ins l x).Perm (x :: l) := by
  unfold ins
  refine List.perm_middle.trans ?_
  rw [List.take_append_drop]
theorem atOf_ins {l : List Tm} (h : l.Pairwise (fun a b => a.id < b.id)) {x : Tm} (hx : ∀ y ∈ l, y.id ≠ x.id) (id : Int) : atOf (ins l x) id = updM (atOf l) x.id x.due id := by
  apply Option.ext
  intro a
  unfold updM
  rw [atOf_iff (ins_up h hx)]
  by_cases e : id = x.id
  · rw [if_pos e]
    constructor
    · rintro ⟨y, hy, h1, h2⟩
      rcases (mem_ins _ _ _).mp hy with hy | rfl
      · exact absurd (by omega) (hx y hy)
      · rw [h2]
    · intro h1
      exact ⟨x, (mem_ins _ _ _).mpr (.inr rfl), e.symm, Option.some.inj h1⟩
  · rw [if_neg e, atOf_iff h]
    constructor
    · rintro ⟨y, hy, h1, h2⟩
      rcases (mem_ins _ _ _).mp hy with hy | rfl
      · exact ⟨y, hy, h1, h2⟩
      · exact absurd h1.symm e
    · rintro ⟨y, hy, h1, h2⟩
      exact ⟨y, (mem_ins _ _ _).mpr (.inl hy), h1, h2⟩
theorem Abs.len {s : Ws} {m : Nat} {f : Int → Option Nat} {L : Nat → List Tm} (h : Abs s m f L) {k : Nat} (hk : k < 256) : (L k).length ≤ 64 := by
  rw [(h.rows k hk).length_eq]
  exact Nat.le_trans (List.length_filter_le _ _) h.good.few
theorem Abs.has {s : Ws} {m : Nat} {f : Int → Option Nat} {L : Nat → List Tm} (h : Abs s m f L) {id : Int} {a : Nat} (e : f id = some a) : ∃ x ∈ s.l, (x.id : Int) = id ∧ x.due = a := by
  rw [h.at_] at e; exact atOf_inv e
theorem Abs.lt {s : Ws} {m : Nat} {f : Int → Option Nat} {L : Nat → List Tm} (h : Abs s m f L) {id : Int} {a : Nat} (e : f id = some a) : a < 16777217 := by
  obtain ⟨x, hx, _, rfl⟩ := h.has e
  have := (h.good.lt x hx).2
  omega
theorem Abs.arm {s : Ws} {m : Nat} {f : Int → Option Nat} {L : Nat → List Tm} (h : Abs s m f L) {id a : Int} (hw : (Lit.int .i64 id).wf = true) (e : armE s id a = 0) {x : Tm} (hx : x = ⟨id.toNat, a.toNat⟩) :
    Abs (armS s id a) (m + 1) (updM f id a.toNat) (updV L (pk s.now x.due) (L (pk s.now x.due) ++ [x])) := by
  have hg := good_arm h.good id a
  have hs : armS s id a = ⟨s.now, ins s.l x⟩ := by unfold armS; rw [if_pos e, hx]
  obtain ⟨e1, e2, e3, e4, e5⟩ := armE_zero e
  have hid : (x.id : Int) = id := by rw [hx]; show ((id.toNat : Nat) : Int) = id; omega
  have hdue : x.due = a.toNat := by rw [hx]
  have hne : ∀ y ∈ s.l, y.id ≠ x.id := fun y hy e6 => by
    have : armed s.l id = true := (armed_iff _ _).mpr ⟨y, hy, by omega⟩
    rw [e4] at this; cases this
  refine ⟨hg, ?_, fun q => ?_, fun k hk => ?_, fun y hy => ?_⟩
  · rw [hs]; show m + 1 = (ins s.l x).length; rw [ins_len, h.cnt]
  · rw [hs]
    show updM f id a.toNat q = atOf (ins s.l x) q
    rw [atOf_ins h.good.up hne, hid, hdue]
    unfold updM
    rw [h.at_]
  · rw [hs]
    show (updV L (pk s.now x.due) (L (pk s.now x.due) ++ [x]) k).Perm ((ins s.l x).filter (fun y => pk s.now y.due == k))
    refine List.Perm.trans ?_ ((ins_perm s.l x).filter _).symm
    by_cases ek : k = pk s.now x.due
    · subst ek
      rw [updV_same, List.filter_cons_of_pos (by simp)]
      exact (List.perm_append_singleton _ _).trans ((h.rows _ hk).cons x)
    · rw [updV_other _ _ ek, List.filter_cons_of_neg (by simpa using fun e => ek e.symm)]
      exact h.rows k hk
  · rw [hs] at hy
    rcases (mem_ins _ _ _).mp hy with hy | rfl
    · exact h.wf y hy
    · rw [hid]; exact hw
theorem parm_err {w : World} {U : Nat → Prop} {S : Nat} {s : Ws} {m : Nat} {f : Int → Option Nat} {L : Nat → List Tm} {mv : Value} {T : Nat → Value} (h : Rw w U S s.now m f L mv T) (g : Abs s m f L) {id a : Int} (hid : (Lit.int .i64 id).wf = true) (e : armE s id a ≠ 0) :
    Calls Try.prog 13 #[.pointer (some ⟨S, 0, none⟩), .int .i64 id, .int .i64 a] w fun en w' => en = .returned (.int .i64 (armE s id a : Nat)) ∧ w = w' := by
  have c0 := h.row.now
  have c1 := h.row.map
  have r1 := h.map.look id hid
  have r2 := fun ty => h.map.len ty
  unfold armE at e ⊢
  by_cases a1 : id < 0
  · rw [if_pos (.inl a1)]
    clear r1 r2 h g e
    go_enter Try.func13, Try.ntmps13
    go_wp2_with fail
    go_ret
    exact ⟨rfl, rfl⟩
  by_cases a2 : a ≤ (s.now : Int)
  · rw [if_pos (.inr (.inl a2))]
    clear r1 r2 h g e
    go_enter Try.func13, Try.ntmps13
    go_wp2_with fail
    go_ret
    exact ⟨rfl, rfl⟩
  by_cases a3 : 16777216 ≤ a
  · rw [if_pos (.inr (.inr a3))]
    clear r1 r2 h g e
    go_enter Try.func13, Try.ntmps13
    go_wp2_with fail
    go_ret
    exact ⟨rfl, rfl⟩
  rw [if_neg (by omega)] at e ⊢
  have eS : (f id).isSome = armed s.l id := by rw [g.at_, atOf_isSome]
  have em := g.cnt
  have few := g.good.few
  rw [eS] at r1
  generalize (f id).getD 0 = x at r1
  clear h g eS
  by_cases a4 : armed s.l id = true
  · rw [if_pos a4]
    rw [a4] at r1
    clear r2 e
    go_enter Try.func13, Try.ntmps13
    go_wp2_with fail
    go_ret
    exact ⟨rfl, rfl⟩
  rw [if_neg a4] at e ⊢
  have a4' : armed s.l id = false := by simpa using a4
  rw [a4'] at r1
  by_cases a5 : s.l.length = 64
  · rw [if_pos a5]
    have em2 : (64 : Int) ≤ (m : Int) := by omega
    clear e a5 em few
    go_enter Try.func13, Try.ntmps13
    go_wp2_with fail
    go_ret
    exact ⟨rfl, rfl⟩
  · rw [if_neg a5] at e
    exact absurd rfl e
end Go.Proofs.Ytpmggiahhjllcaa
