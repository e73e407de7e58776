/-
  The program's store: all contracts together; of no store.
-/
import Derived.Test.YtipepklobpnbpaaSpWrite
import Derived.Test.YtipepklobpnbpaaSoNone
namespace Go.Proofs.Ytipepklobpnbpaa
open Go.ChangeShapes Go.WideShapes Go.ChangeAt Go.RowKit Go.Maps
set_option linter.unusedVariables false
theorem pstore : PStore PSo where
  keeps := keepsPSo
  good := by rintro H U w S s ⟨A, Q, M, xs, st, tag, h⟩; exact h.p.good
  few := by
    rintro H U w S s ⟨A, Q, M, xs, st, tag, h⟩
    rw [h.p.fr]
    have := h.m.fr.good.len; have := h.m.fr.good.n64; omega
  new := fun f => pnew_any f
  mak := fun h _ wi hf => pmk_any h wi hf
  dr := fun h _ wi => pdr_any h wi
  ct := fun h _ wi => pct_any h wi
  sz := fun h _ wi => (psz_any h wi).mono fun e w' ⟨a, b⟩ => ⟨a, b ▸ Below.refl _ _⟩
  bk := fun h _ wi => (pbk_any h wi).mono fun e w' ⟨a, b⟩ => ⟨a, b ▸ Below.refl _ _⟩
  rd := fun h _ _ _ wi wo wn => prd_any h wi wo wn
  wr := fun h _ _ wi wo _ _ _ _ hi hc hb hm ha => pwr_any h wi wo hi hc hb hm ha
  free := by
    rintro H U w S s ⟨A, Q, M, xs, st, tag, h⟩
    rw [h.p.fr]
    exact free_any h.m.fr
theorem nilStore : NilStore where
  mak := fun w id => by
    go_enter Try.func16, Try.ntmps16
    go_wp2_with fail
    go_ret
    exact ⟨rfl, Below.refl _ _⟩
  dr := fun w id => by
    have CT : Calls Try.prog 28 #[.pointer none, .int .i64 id] w fun e w' => e = .returned (.int .i64 1) ∧ w = w' := by
      go_enter Try.func28, Try.ntmps28
      go_wp2_with (go_at_call 37; refine (find_nil _ _).mono ?_; rintro e w' ⟨rfl, rfl⟩)
      go_ret
      exact ⟨rfl, rfl⟩
    go_enter Try.func18, Try.ntmps18
    go_wp2_with (go_at_call 28; refine CT.mono ?_; rintro e w' ⟨rfl, rfl⟩)
    go_ret
    exact ⟨rfl, Below.refl _ _⟩
  ct := fun w id => by
    go_enter Try.func28, Try.ntmps28
    go_wp2_with (go_at_call 37; refine (find_nil _ _).mono ?_; rintro e w' ⟨rfl, rfl⟩)
    go_ret
    exact ⟨rfl, Below.refl _ _⟩
  sz := fun w id => by
    go_enter Try.func30, Try.ntmps30
    go_wp2_with (go_at_call 37; refine (find_nil _ _).mono ?_; rintro e w' ⟨rfl, rfl⟩)
    go_ret2
    exact ⟨rfl, Below.refl _ _⟩
  bk := fun w id => by
    go_enter Try.func32, Try.ntmps32
    go_wp2_with (go_at_call 37; refine (find_nil _ _).mono ?_; rintro e w' ⟨rfl, rfl⟩)
    go_ret
    exact ⟨rfl, Below.refl _ _⟩
  rd := fun w id off n => by
    go_enter Try.func20, Try.ntmps20
    go_wp2_with (go_at_call 37; refine (find_nil _ _).mono ?_; rintro e w' ⟨rfl, rfl⟩)
    go_ret2
    exact ⟨rfl, Below.refl _ _⟩
  wr := fun w id off => by
    go_enter Try.func25, Try.ntmps25
    go_wp2_with (go_at_call 37; refine (find_nil _ _).mono ?_; rintro e w' ⟨rfl, rfl⟩)
    go_ret
    exact ⟨rfl, Below.refl _ _⟩
end Go.Proofs.Ytipepklobpnbpaa
