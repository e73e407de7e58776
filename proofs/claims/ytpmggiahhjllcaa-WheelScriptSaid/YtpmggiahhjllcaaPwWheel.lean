/-
  The program's wheel meets its contracts.
-/
import Derived.Test.YtpmggiahhjllcaaPwTick
import Derived.Test.YtpmggiahhjllcaaWhNone
import Derived.Test.YtpmggiahhjllcaaWhScript
import Derived.Test.YtpmggiahhjllcaaWhCancel
import Derived.Test.YtpmggiahhjllcaaWhOnce
import Derived.Test.YtpmggiahhjllcaaWhMoves
namespace Go.Proofs.Ytpmggiahhjllcaa
open Go.ChangeShapes Go.WideShapes Go.ChangeAt Go.RowKit
set_option linter.unusedVariables false
theorem pwheel : PWheel (fun w U S s => Pw w U S s) where
  keep h t d := h.keep t d
  lt h := by obtain ⟨m, f, L, mv, T, r, a⟩ := h; exact r.lt
  good h := by obtain ⟨m, f, L, mv, T, r, a⟩ := h; exact a.good
  new w n hn := (pnew_ok w n hn).mono fun e w' ⟨h1, h2, h3⟩ => ⟨_, _, h1, h2, h3, fun i hi => by have hi : i = w.heap.size := hi; omega⟩
  bad w n hw h := (pnew_bad w n h).mono fun e w' ⟨h1, h2⟩ => ⟨h1, h2 ▸ Below.refl _ _⟩
  arm {U w S s} h {id a} hid ha := by
    obtain ⟨m, f, L, mv, T, r, g⟩ := h
    by_cases e : armE s id a = 0
    · exact (parm_ok r g hid e).mono fun en w' ⟨h1, U', h2, h3, h4⟩ => ⟨by rw [h1, e]; rfl, U', h2, h3, h4⟩
    · refine (parm_err r g hid e).mono fun en w' ⟨h1, h2⟩ => ⟨h1, U, ?_, h2 ▸ Touch.refl _ _, fun i hi => .inl hi⟩
      have : armS s id a = s := by unfold armS; rw [if_neg e]
      rw [this, ← h2]
      exact ⟨m, f, L, mv, T, r, g⟩
  can {U w S s} h {id} hid := by
    obtain ⟨m, f, L, mv, T, r, g⟩ := h
    have hn := g.good.n
    cases e : f id with
    | none =>
      have ea : armed s.l id = false := by rw [← atOf_isSome, ← g.at_, e]; rfl
      have es : canS s id = s := by
        unfold canS
        rw [List.filter_eq_self.mpr (fun x hx => by
          by_cases e2 : (x.id : Int) = id
          · have : armed s.l id = true := (armed_iff _ _).mpr ⟨x, hx, e2⟩
            rw [ea] at this; cases this
          · simp [e2])]
      refine (pcan_none r (by omega) hid e).mono fun en w' ⟨h1, h2⟩ => ⟨by rw [h1, ea], U, ?_, Touch.of_below h2, fun i hi => .inl hi⟩
      rw [es]
      exact ⟨m, f, L, mv, T, r.below h2, g⟩
    | some a =>
      have ea : armed s.l id = true := by rw [← atOf_isSome, ← g.at_, e]; rfl
      obtain ⟨x, hx, h1, h2⟩ := g.has e
      have hmem : x ∈ L (pk s.now a) := by rw [(g.rows _ (pk_lt _ _)).mem_iff, List.mem_filter]; exact ⟨hx, by rw [h2]; simp⟩
      have hlen := g.len (pk_lt s.now a)
      refine (pcan_some r (by omega) hid e (g.lt e) (List.length_pos_of_mem hmem) (by omega)).mono fun en w' ⟨h1, T', h2, h3⟩ => ⟨by rw [h1, ea], U, ?_, h3, fun i hi => .inl hi⟩
      exact ⟨_, _, _, mv, T', h2, g.can e⟩
  tick {U w S s} h := by
    obtain ⟨m, f, L, mv, T, r, g⟩ := h
    by_cases e : s.now = 16777215
    · refine (ptick_last r e).mono fun en w' ⟨h1, h2⟩ => ?_
      have hl := g.good.last e
      have e1 : gone s = [] := by unfold gone; rw [hl]; rfl
      have e2 : moved s = 0 := by unfold moved rest; rw [hl]; rfl
      have e3 : tickS s = s := by unfold tickS; rw [if_pos e]
      subst h2
      unfold Ticked goneI
      rw [e1, e2, e3]
      exact ⟨none, 0, h1, World.ownsRow_nil _ _ _ _, U, ⟨m, f, L, mv, T, r, g⟩, Touch.refl _ _, fun i hi => .inl hi, fun i hi => by cases hi⟩
    · exact ptick_ok r g e
  at_ {U w S s} h {id} hid := by
    obtain ⟨m, f, L, mv, T, r, g⟩ := h
    have := pat_any r hid
    rw [g.at_] at this
    exact this.mono fun e w' ⟨h1, h2⟩ => ⟨h1, h2 ▸ Below.refl _ _⟩
  place {U w S s} h {id} hid := by
    obtain ⟨m, f, L, mv, T, r, g⟩ := h
    have hn := g.good.n
    have := pplace_any r (by omega) hid (fun a e => g.lt e)
    rw [g.at_] at this
    exact this.mono fun e w' ⟨h1, h2⟩ => ⟨h1, h2 ▸ Below.refl _ _⟩
  len {U w S s} h := by
    obtain ⟨m, f, L, mv, T, r, g⟩ := h
    have := plen_any r
    rw [g.cnt] at this
    exact this.mono fun e w' ⟨h1, h2⟩ => ⟨h1, h2 ▸ Below.refl _ _⟩
  now {U w S s} h := by
    obtain ⟨m, f, L, mv, T, r, g⟩ := h
    exact (pnow_any r).mono fun e w' ⟨h1, h2⟩ => ⟨h1, h2 ▸ Below.refl _ _⟩
theorem walk_wheelScript : ∀ (w : World) (now : Int) (wn : (Lit.int .i64 now).wf = true) (a : Option Addr) (n c : Nat) (zs : List (List Int)) (hin : CameRows 3 w a n c zs), Calls Try.prog 3 #[.int .i64 now, .slice a n c] w fun e w' => e = .returned (.bool true) ∧ Below w.heap.size w w' := walk_wheelScriptC pwheel
theorem walk_wheelAnew : ∀ (w : World) (now : Int) (wn : (Lit.int .i64 now).wf = true) (ticks : Int) (wt : (Lit.int .i64 ticks).wf = true) (at_ : Int) (wa : (Lit.int .i64 at_).wf = true), Calls Try.prog 8 #[.int .i64 now, .int .i64 ticks, .int .i64 at_] w fun e w' => e = .returned (.bool true) ∧ Below w.heap.size w w' := walk_wheelAnewC pwheel
theorem walk_wheelCancel : ∀ (w : World) (now : Int) (wn : (Lit.int .i64 now).wf = true) (a : Option Addr) (n c : Nat) (zs : List Int) (hin : CameIn .i64 w a n c zs) (gn : Int) (wg : (Lit.int .i64 gn).wf = true), Calls Try.prog 7 #[.int .i64 now, .slice a n c, .int .i64 gn] w fun e w' => e = .returned (.bool true) ∧ Below w.heap.size w w' := walk_wheelCancelC pwheel
theorem walk_wheelOnce : ∀ (w : World) (now : Int) (wn : (Lit.int .i64 now).wf = true) (a : Option Addr) (n c : Nat) (zs : List Int) (hin : CameIn .i64 w a n c zs), Calls Try.prog 4 #[.int .i64 now, .slice a n c] w fun e w' => e = .returned (.bool true) ∧ Below w.heap.size w w' := walk_wheelOnceC pwheel
theorem walk_wheelMoves : ∀ (w : World) (now : Int) (wn : (Lit.int .i64 now).wf = true) (a : Option Addr) (n c : Nat) (zs : List Int) (hin : CameIn .i64 w a n c zs), Calls Try.prog 5 #[.int .i64 now, .slice a n c] w fun e w' => e = .returned (.bool true) ∧ Below w.heap.size w w' := walk_wheelMovesC pwheel
theorem walk_wheelNone : ∀ (w : World) (d i a : Int) (wd : (Lit.int .i64 d).wf = true) (wi : (Lit.int .i64 i).wf = true) (wa : (Lit.int .i64 a).wf = true), Calls Try.prog 6 #[.agg #[.int .i64 d, .int .i64 i, .int .i64 a]] w fun e w' => e = .returned (.bool true) ∧ Below w.heap.size w w' := walk_wheelNoneC pwheel nilWheel
end Go.Proofs.Ytpmggiahhjllcaa
