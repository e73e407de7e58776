/-
  Contracts of the program's graph (PGraph); the document's own for any number of threads; awake of stage 11.
-/
import Derived.Test.YthbhbanhgmaopaaGhEff
import Derived.Test.YthbhbanhgmaopaaGhList
namespace Go.Proofs.Ythbhbanhgmaopaa
open Go.ChangeShapes Go.WideShapes Go.ChangeAt Go.RowKit
set_option linter.unusedVariables false
structure PGraph : Prop where
  on : ∀ (w : World) (a : Option Addr) (p ca : Nat) (ws : List Int) (b : Option Addr) (q cb : Nat) (os : List Int) (n i : Int), ListIn w a p ca ws → ListIn w b q cb os → (Lit.int .i64 n).wf = true → n ≤ 25 → (Lit.int .i64 i).wf = true →
    Calls Try.prog 14 #[.slice a p ca, .slice b q cb, .int .i64 n, .int .i64 i] w fun e w' => e = .returned (.int .i64 (onG ws os n i)) ∧ Below w.heap.size w w'
  chain : ∀ (w : World) (a : Option Addr) (p ca : Nat) (ws : List Int) (b : Option Addr) (q cb : Nat) (os : List Int) (n i : Int), ListIn w a p ca ws → ListIn w b q cb os → (Lit.int .i64 n).wf = true → n ≤ 25 → (Lit.int .i64 i).wf = true →
    Calls Try.prog 11 #[.slice a p ca, .slice b q cb, .int .i64 n, .int .i64 i] w fun e w' => ∃ v, e = .returned v ∧ w'.ownsRow w.heap.size 3 1 v (chainG ws os n i).length ((chainG ws os n i).map (Value.int .i64)) ∧ Below w.heap.size w w'
  acyc : ∀ (w : World) (a : Option Addr) (p ca : Nat) (ws : List Int) (b : Option Addr) (q cb : Nat) (os : List Int) (n : Int), ListIn w a p ca ws → ListIn w b q cb os → (Lit.int .i64 n).wf = true → n ≤ 25 →
    Calls Try.prog 16 #[.slice a p ca, .slice b q cb, .int .i64 n] w fun e w' => e = .returned (.bool (acyZ ws os n)) ∧ Below w.heap.size w w'
  eff : ∀ (w : World) (pa : Option Addr) (n cn : Nat) (ps : List Pr) (a : Option Addr) (p ca : Nat) (ws : List Int) (b : Option Addr) (q cb : Nat) (os : List Int), Reads 3 prVals w pa n ps → (∀ x ∈ ps, PrFit w x) → n ≤ cn → cn ≤ maxLen → (pa = none → cn = 0) → n ≤ 25 → ListIn w a p ca ws → ListIn w b q cb os →
    Calls Try.prog 21 #[.slice pa n cn, .slice a p ca, .slice b q cb] w fun e w' => ∃ v, e = .returned v ∧ w'.ownsRow w.heap.size 39 3 v n ((effG ws os ps).flatMap prVals) ∧ Below w.heap.size w w'
theorem onG_neg {ws os : List Int} {n i : Int} (h : n < 0) : onG ws os n i = -1 := by
  unfold onG
  rw [if_pos (by omega)]
theorem chainG_neg {ws os : List Int} {n i : Int} (h : n < 0) : chainG ws os n i = [] := by
  unfold chainG
  rw [onG_neg h, show n.toNat + 1 = 0 + 1 by omega]
  show (if (-1 : Int) < 0 ∨ (-1 : Int) ∈ ([] : List Int) then [] else _) = []
  rw [if_pos (.inl (by omega))]
set_option maxHeartbeats 2000000 in
theorem rchainZ_any (w : World) (a : Option Addr) (p ca : Nat) (ws : List Int) (b : Option Addr) (q cb : Nat) (os : List Int) (n i : Int) (ha : ListIn w a p ca ws) (hb : ListIn w b q cb os) (hn : n ≤ 25) :
    Calls Try.prog 13 #[.slice a p ca, .slice b q cb, .int .i64 n, .int .i64 i] w fun e w' => ∃ v, e = .returned v ∧ w'.ownsRow w.heap.size 3 1 v (chainG ws os n i).length ((chainG ws os n i).map (Value.int .i64)) ∧ Below w.heap.size w w' := by
  by_cases h : 0 ≤ n
  · obtain ⟨m, rfl⟩ : ∃ m : Nat, n = (m : Int) := ⟨n.toNat, by omega⟩
    exact rchain_any a p ca ws b q cb os m i w ha.ints hb.ints ha.max hb.max (by omega)
  · rw [chainG_neg (by omega)]
    have ON := hide (ron_any a p ca ws b q cb os n i w ha.ints hb.ints ha.max hb.max)
    rw [onG_neg (by omega)] at ON
    clear ha hb hn h
    go_enter Try.func13, Try.ntmps13
    go_wp2_with (go_at_call 15; refine ON.out.mono ?_; rintro e w' ⟨rfl, rfl⟩)
    go_loopw [9, 10] (fun v kv wr => v = .slice none 0 0 ∧ kv = .int .i64 (-1) ∧ wr = w) (fun _ _ _ => 0)
    case atStart => exact ⟨rfl, rfl, rfl⟩
    case round =>
      obtain ⟨rfl, rfl, rfl⟩ := hrel
      go_wp2_with fail
      go_ret
      exact ⟨_, rfl, World.ownsRow_nil _ _ _ _, Below.refl _ _⟩
set_option maxHeartbeats 2000000 in
theorem racycZ_any (w : World) (a : Option Addr) (p ca : Nat) (ws : List Int) (b : Option Addr) (q cb : Nat) (os : List Int) (n : Int) (ha : ListIn w a p ca ws) (hb : ListIn w b q cb os) (hn : n ≤ 25) :
    Calls Try.prog 17 #[.slice a p ca, .slice b q cb, .int .i64 n] w fun e w' => e = .returned (.bool (acyZ ws os n)) ∧ Below w.heap.size w w' := by
  have hl : ws.length = p := ha.ints.1
  by_cases h : 0 ≤ n
  · obtain ⟨m, rfl⟩ : ∃ m : Nat, n = (m : Int) := ⟨n.toNat, by omega⟩
    have := racyc_any a p ca ws b q cb os m w ha.ints hb.ints ha.max hb.max (by omega)
    unfold acyZ
    rw [hl, Int.toNat_natCast]
    exact this
  · have e : acyZ ws os n = true := by unfold acyZ; rw [show min n.toNat ws.length = 0 by omega]; rfl
    rw [e]
    have k1 : ¬ (0 : Int) < n := by omega
    clear ha hb hn h hl e
    go_enter Try.func17, Try.ntmps17
    go_wp2_with fail
    go_loopw [7] (fun iv wr => iv = .int .i64 0 ∧ wr = w) (fun _ _ => 0)
    case atStart => exact ⟨rfl, rfl⟩
    case round =>
      obtain ⟨rfl, rfl⟩ := hrel
      go_wp2_with fail
      go_ret
      exact ⟨rfl, Below.refl _ _⟩
end Go.Proofs.Ythbhbanhgmaopaa
