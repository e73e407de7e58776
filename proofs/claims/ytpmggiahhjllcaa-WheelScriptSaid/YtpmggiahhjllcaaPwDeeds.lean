/-
  The table of deeds; a row taken out of its slot.
-/
import Derived.Test.YtpmggiahhjllcaaPwTickB
namespace Go.Proofs.Ytpmggiahhjllcaa
open Go.ChangeShapes Go.WideShapes Go.ChangeAt Go.RowKit
set_option linter.unusedVariables false
def deedsV : Array Value := #[.func (.func 38) #[] #[], .func (.func 39) #[] #[], .func (.func 39) #[] #[], .func (.func 39) #[] #[]]
theorem store_func (w : World) (a : Addr) (m : Mode) (fn : Fn) (first captured : Array Value) : (store a (.func fn first captured) m).run Try.prog w = stored Try.prog w a (.func fn first captured) m := run_store Try.prog w a _ m rfl
attribute [local go_sem] store_func
theorem pdeeds_any (w : World) : Calls Try.prog 33 #[] w fun e w' => e = .returned (.agg deedsV) ∧ Below w.heap.size w w' := by
  go_enter Try.func33, Try.ntmps33
  go_wp2_with fail
  first
  | (go_ret; exact ⟨rfl, (Below.refl _ _).alloc (Nat.le_refl _) _⟩)
  | exact bodyPost_ret (v := .agg deedsV) (by simp [results, Try.results33, go_sem]; rfl) rfl ⟨rfl, (Below.refl _ _).alloc (Nat.le_refl _) _⟩
theorem deed_fire (w : World) : (Instr.index 70 (.agg deedsV) (.int .i64 0)).run Try.prog w = .ok (.func (.func 38) #[] #[]) w := by kernel_rfl
theorem deed_spread (w : World) {r : Nat} (h0 : r ≠ 0) (h3 : r ≤ 3) : (Instr.index 70 (.agg deedsV) (.int .i64 (r : Int))).run Try.prog w = .ok (.func (.func 39) #[] #[]) w := by
  have h1 : ∀ w, (Instr.index 70 (.agg deedsV) (.int .i64 ((1 : Nat) : Int))).run Try.prog w = .ok (.func (.func 39) #[] #[]) w := fun w => by kernel_rfl
  have h2 : ∀ w, (Instr.index 70 (.agg deedsV) (.int .i64 ((2 : Nat) : Int))).run Try.prog w = .ok (.func (.func 39) #[] #[]) w := fun w => by kernel_rfl
  have h3' : ∀ w, (Instr.index 70 (.agg deedsV) (.int .i64 ((3 : Nat) : Int))).run Try.prog w = .ok (.func (.func 39) #[] #[]) w := fun w => by kernel_rfl
  rcases (show r = 1 ∨ r = 2 ∨ r = 3 by omega) with rfl | rfl | rfl
  · exact h1 w
  · exact h2 w
  · exact h3' w
theorem rw_detach {w : World} {U : Nat → Prop} {S n m : Nat} {f : Int → Option Nat} {L : Nat → List Tm} {mv : Value} {T : Nat → Value} (h : Rw w U S n m f L mv T) {k : Nat} (hk : k < 256) :
    Rw (w.setCell ⟨S, 2 + k, none⟩ (.slice none 0 0)) (fun i => U i ∧ (T k).ownBlock ≠ some i) S n m f (updV L k []) mv (updV T k (.slice none 0 0)) ∧ (w.setCell ⟨S, 2 + k, none⟩ (.slice none 0 0)).ownsRow 0 3 1 (T k) (L k).length (idsV (L k)) ∧ Touch U w (w.setCell ⟨S, 2 + k, none⟩ (.slice none 0 0)) := by
  obtain ⟨h1, t1⟩ := h.setRow hk (Touch.refl _ w) (.slice none 0 0) [] (World.ownsRow_nil _ _ _ _) (fun g hg => by cases hg)
  refine ⟨⟨h1.row, h1.map, h1.own, h1.dis, ⟨h1.uS, fun e => h.neTS hk e rfl⟩, fun M e => ⟨h1.uM M e, fun e2 => h.neTM hk e2 e rfl⟩, fun j g hj hg => ⟨h1.uT j g hj hg, fun e => ?_⟩, fun i hi => h1.lt i hi.1⟩, ?_, t1⟩
  · by_cases e2 : j = k
    · subst e2; rw [updV_same] at hg; cases hg
    · rw [updV_other _ _ e2] at hg; exact e2 (h.dis j k g hj hk hg e)
  · have t2 : Touch (fun i => i = S) w (w.setCell ⟨S, 2 + k, none⟩ (.slice none 0 0)) := (Touch.refl (fun i => i = S) w).setCell (p := ⟨S, 2 + k, none⟩) rfl _
    exact t2.own (h.own k hk) (fun g hg e => h.neTS hk hg e)
end Go.Proofs.Ytpmggiahhjllcaa
