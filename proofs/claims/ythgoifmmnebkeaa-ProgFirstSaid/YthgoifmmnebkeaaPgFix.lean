/-
  Great lists of steps; the document's own Fix (coxswainref9); contracts of the program's prog.
-/
import Derived.Test.YthgoifmmnebkeaaPgMay
import Derived.Test.YthgoifmmnebkeaaGOps
namespace Go.Proofs.Ythgoifmmnebkeaa
open Go.ChangeShapes Go.WideShapes Go.ChangeAt Go.RowKit
set_option linter.unusedVariables false
def bigSt (o : Step) : Bool := decide (600 < o.cl.s.size) || decide (600 < o.cl.t.size)
def greatB (xs : List Step) : Bool := decide (60 < xs.length) || xs.any bigSt
def zSt : Step := ⟨0, 0, 0, 0, ⟨0, 0, 0, ByteArray.empty, ByteArray.empty⟩⟩
def fixO (o : Step) : Step := if maySt o = true then o else zSt
def fixL (xs : List Step) : List Step := (xs.take 40).map fixO
theorem greatB_no {xs : List Step} (h : ¬ 60 < xs.length) (hk : ∀ (i : Nat) (x : Step), xs[i]? = some x → bigSt x = false) : greatB xs = false := by
  unfold greatB
  have h1 : xs.any bigSt = false := by
    rw [List.any_eq_false]
    intro x hx
    obtain ⟨i, he⟩ := List.mem_iff_getElem?.1 hx
    simp [hk i x he]
  simp [h, h1]
theorem greatB_yes {xs : List Step} {i : Nat} {x : Step} (h : xs[i]? = some x) (hb : bigSt x = true) : greatB xs = true := by
  unfold greatB
  have h1 : xs.any bigSt = true := List.any_eq_true.2 ⟨x, List.mem_iff_getElem?.2 ⟨i, h⟩, hb⟩
  simp [h1]
set_option maxHeartbeats 4000000 in
theorem great_any (a : Option Addr) (n c : Nat) (xs : List Step) (w : World) (ha : Reads 9 stVals w a n xs) (hn : n ≤ maxLen) :
    Calls Try.prog 12 #[.slice a n c] w fun e w' => e = .returned (.bool (greatB xs)) ∧ w = w' := by
  have hl := ha.1
  have n63 : (n : Int) ≤ 9223372036854775807 := by unfold maxLen at hn; omega
  obtain ⟨G, hG⟩ : ∃ G, G = greatB xs := ⟨_, rfl⟩
  rw [← hG]
  have HG := hide hG
  have HL := hide hl
  have HA := hide ha
  clear hG ha hl hn
  by_cases h60 : (60 : Int) < (n : Int)
  · have G2 := hide (show G = true from by rw [HG.out]; unfold greatB; have := HL.out; simp; left; omega)
    go_enter Try.func12, Try.ntmps12
    go_wp2_with fail
    go_ret
    exact ⟨ret_bool G2.out.symm, rfl⟩
  · go_enter Try.func12, Try.ntmps12
    go_wp2_with fail
    go_loop [3] (fun i => ∃ k : Nat, k ≤ n ∧ i = .int .i64 k ∧ Hid (∀ (i : Nat) (x : Step), i < k → xs[i]? = some x → bigSt x = false)) (fun i => n - (intOf i).toNat)
    case atStart => exact ⟨0, Nat.zero_le _, rfl, fun i x hi => absurd hi (by omega)⟩
    case round =>
      obtain ⟨k, hk, rfl, hZ⟩ := hrel
      by_cases hlt : k < n
      · have k0 : (0 : Int) ≤ (k : Int) := by omega
        have k1 : (k : Int) < (n : Int) := by omega
        obtain ⟨x, b, off, hx, rfl, hc⟩ := HA.out.at_ hlt
        have HX := hide hx
        have c7 : w.cell? ⟨b, off + k * 9 + 7, none⟩ = some (.string x.cl.s) := hc 7 _ rfl
        have c8 : w.cell? ⟨b, off + k * 9 + 8, none⟩ = some (.string x.cl.t) := hc 8 _ rfl
        have c7' : w.cell? ⟨b, off + k * 9 + 4 + 3, none⟩ = some (.string x.cl.s) := c7
        have c8' : w.cell? ⟨b, off + k * 9 + 4 + 4, none⟩ = some (.string x.cl.t) := c8
        clear hx hc
        by_cases hs : (600 : Int) < (x.cl.s.size : Int)
        · have G2 := hide (show G = true from by rw [HG.out]; exact greatB_yes HX.out (by unfold bigSt; simp; left; omega))
          go_wp2_with fail
          go_ret
          exact ⟨ret_bool G2.out.symm, rfl⟩
        · by_cases ht : (600 : Int) < (x.cl.t.size : Int)
          · have G2 := hide (show G = true from by rw [HG.out]; exact greatB_yes HX.out (by unfold bigSt; simp; right; omega))
            go_wp2_with fail
            go_ret
            exact ⟨ret_bool G2.out.symm, rfl⟩
          · have N2 := hide (show ∀ (i : Nat) (y : Step), i < k + 1 → xs[i]? = some y → bigSt y = false from fun i y hi hy => by
              by_cases e : i = k
              · subst e
                rw [HX.out] at hy
                injection hy with hy
                subst hy
                unfold bigSt; simp; omega
              · exact hZ.out i y (by omega) hy)
            go_wp2_with fail
            go_round
            case rel => exact ⟨k + 1, by omega, by go_num, N2.out⟩
            case measure => simp [intOf]; omega
      · obtain rfl : k = n := by omega
        have G2 := hide (show G = false from by
          rw [HG.out]
          have h1 := HL.out
          refine greatB_no (by omega) fun i x hi => hZ.out i x ?_ hi
          have := (List.getElem?_eq_some_iff.1 hi).1
          omega)
        go_wp2_with fail
        go_ret
        exact ⟨ret_bool G2.out.symm, rfl⟩
theorem fixL_succ {xs : List Step} {k : Nat} {x : Step} (hx : xs[k]? = some x) : (xs.take (k + 1)).map fixO = (xs.take k).map fixO ++ [fixO x] := by
  have hk : k < xs.length := (List.getElem?_eq_some_iff.1 hx).1
  rw [List.take_succ_eq_append_getElem hk, List.map_append]
  have : xs[k] = x := by rw [List.getElem?_eq_getElem hk] at hx; injection hx
  rw [this]; rfl
theorem built_zero : Try.prog.built 25 [] = some #[.int .i64 0, .int .i64 0, .int .i64 0, .int .i64 0, .int .i64 0, .int .i64 0, .int .i64 0, .string ByteArray.empty, .string ByteArray.empty] := by kernel_rfl
attribute [local go_sem] built_zero
set_option maxRecDepth 10000 in
set_option maxHeartbeats 8000000 in
theorem rfix_any (a : Option Addr) (n c : Nat) (xs : List Step) (w : World) (ha : Reads 9 stVals w a n xs) (hn : n ≤ maxLen) :
    Calls Try.prog 16 #[.slice a n c] w fun e w' => ∃ v, e = .returned v ∧ w'.ownsRow w.heap.size 25 9 v (fixL xs).length ((fixL xs).flatMap stVals) ∧ Below w.heap.size w w' := by
  obtain ⟨i0, hi0, hz0, hz1, hz2⟩ := info_parts ops_info
  have HZ := hide hz2
  have HL := hide ha.1
  have n63 : (n : Int) ≤ 9223372036854775807 := by unfold maxLen at hn; omega
  have HA := hide ha
  clear ha hz2 hn
  go_enter Try.func16, Try.ntmps16
  go_wp2_with fail
  go_loopw [3, 4] (fun v i wr => ∃ k : Nat, k ≤ n ∧ k ≤ 40 ∧ i = .int .i64 k ∧ Hid (wr.ownsRow w.heap.size 25 9 v k (((xs.take k).map fixO).flatMap stVals) ∧ Below w.heap.size w wr)) (fun _ i _ => n - (intOf i).toNat)
  case atStart => exact ⟨0, Nat.zero_le _, Nat.zero_le _, rfl, World.ownsRow_nil _ _ _ _, Below.refl _ _⟩
  case round =>
    obtain ⟨k, hk, hk40, rfl, hZ⟩ := hrel
    have O0 := hide hZ.out.1
    have B0 := hide hZ.out.2
    clear hZ
    by_cases hlt : k < n
    · have k0 : (0 : Int) ≤ (k : Int) := by omega
      have k1 : (k : Int) < (n : Int) := by omega
      by_cases h40 : k < 40
      · have k2 : (k : Int) < 40 := by omega
        obtain ⟨x, b, off, hx, rfl, hc⟩ := HA.out.at_ hlt
        have HX := hide hx
        have CC := hide (fun (W : World) (bw : Below w.heap.size w W) => show _ ∧ _ ∧ _ ∧ _ ∧ _ ∧ _ ∧ _ ∧ _ ∧ _ from
          have hh := fun j u hu => (bw.cell (p := ⟨b, off + k * 9 + j, none⟩) (lt_of_cell? (hc j u hu))).trans (hc j u hu)
          ⟨hh 0 _ rfl, hh 1 _ rfl, hh 2 _ rfl, hh 3 _ rfl, hh 4 _ rfl, hh 5 _ rfl, hh 6 _ rfl, hh 7 _ rfl, hh 8 _ rfl⟩)
        obtain ⟨c0, c1, c2, c3, c4, c5, c6, c7, c8⟩ := CC.out wr B0.out
        rw [Nat.add_zero] at c0
        clear hx hc
        have K := hide (fun W => rmay9_any W x.k x.a x.b x.c x.cl.sys x.cl.a x.cl.b x.cl.s x.cl.t)
        obtain ⟨m, hm⟩ : ∃ m, m = maySt x := ⟨_, rfl⟩
        have K2 := hide (show ∀ W, Calls Try.prog 9 #[.agg #[.int .i64 x.k, .int .i64 x.a, .int .i64 x.b, .int .i64 x.c, .int .i64 x.cl.sys, .int .i64 x.cl.a, .int .i64 x.cl.b, .string x.cl.s, .string x.cl.t]] W fun e w' => e = .returned (.bool m) ∧ Below W.heap.size W w' from fun W => by rw [hm]; exact K.out W)
        have HM := hide hm
        clear K hm
        cases m with
        | true =>
          have EQ := hide (show ((xs.take (k + 1)).map fixO).flatMap stVals = ((xs.take k).map fixO).flatMap stVals ++ stVals x from by rw [fixL_succ HX.out, List.flatMap_append]; simp [fixO, ← HM.out])
          go_wp2_with (first
            | (go_at_call 9; refine (K2.out _).mono ?_; rintro e w2 ⟨rfl, b2⟩; have B2 := hide (B0.out.trans (b2.mono B0.out.size)); have O2 := hide ((Touch.of_below (S := fun _ => False) b2).own O0.out (fun _ _ e => e)); obtain ⟨d0, d1, d2, d3, d4, d5, d6, d7, d8⟩ := CC.out w2 B2.out; rw [Nat.add_zero] at d0; clear b2)
            | (at_builtin; refine wpList_append_own_at _ rfl (.tmp 20) (.tmp 25) _ rfl w.heap.size 25 i0 _ 9 88 Try.underlying29 hi0 hz0 hz1 HZ.out rfl (by omega) _ _ _ rfl (O2.out.alloc _) ⟨w2.heap.size, 0, none⟩ 1 1 (stVals x) rfl rfl (cells_new w2 (stVals x) _ _ rfl) (stVals_cell x) (by unfold maxLen; omega) (by omega) (by have := B2.out.size; simp; omega) ?_; intro v9 w9 o9 g9 _ t9; have O9 := hide o9; have B9 := hide ((B2.out.alloc B2.out.size _).grown g9 (by have := B2.out.size; simp; omega) (fun k hk => (O2.out.lt k hk).1)); clear o9 g9 t9))
          go_roundw
          case rel => exact ⟨k + 1, by omega, by omega, by go_num, by rw [EQ.out]; exact O9.out, B9.out⟩
          case measure => simp [intOf]; omega
        | false =>
          have EQ := hide (show ((xs.take (k + 1)).map fixO).flatMap stVals = ((xs.take k).map fixO).flatMap stVals ++ stVals zSt from by rw [fixL_succ HX.out, List.flatMap_append]; simp [fixO, ← HM.out])
          go_wp2_with (first
            | (go_at_call 9; refine (K2.out _).mono ?_; rintro e w2 ⟨rfl, b2⟩; have B2 := hide (B0.out.trans (b2.mono B0.out.size)); have O2 := hide ((Touch.of_below (S := fun _ => False) b2).own O0.out (fun _ _ e => e)); obtain ⟨d0, d1, d2, d3, d4, d5, d6, d7, d8⟩ := CC.out w2 B2.out; rw [Nat.add_zero] at d0; clear b2)
            | (at_builtin; refine wpList_append_own_at _ rfl (.tmp 27) (.tmp 29) _ rfl w.heap.size 25 i0 _ 9 88 Try.underlying29 hi0 hz0 hz1 HZ.out rfl (by omega) _ _ _ rfl (O2.out.alloc _) ⟨w2.heap.size, 0, none⟩ 1 1 (stVals zSt) rfl rfl (cells_new w2 (stVals zSt) _ _ rfl) (stVals_cell zSt) (by unfold maxLen; omega) (by omega) (by have := B2.out.size; simp; omega) ?_; intro v9 w9 o9 g9 _ t9; have O9 := hide o9; have B9 := hide ((B2.out.alloc B2.out.size _).grown g9 (by have := B2.out.size; simp; omega) (fun k hk => (O2.out.lt k hk).1)); clear o9 g9 t9))
          go_roundw
          case rel => exact ⟨k + 1, by omega, by omega, by go_num, by rw [EQ.out]; exact O9.out, B9.out⟩
          case measure => simp [intOf]; omega
      · obtain rfl : k = 40 := by omega
        have hl := HL.out
        have EQ := hide (show fixL xs = (xs.take 40).map fixO from rfl)
        have EL := hide (show 40 = (fixL xs).length from by unfold fixL; simp; omega)
        have k2 : ¬ (((40 : Nat) : Int) < 40) := by omega
        clear hl
        go_wp2_with fail
        go_ret
        exact ⟨_, rfl, by rw [← EL.out, EQ.out]; exact O0.out, B0.out⟩
    · obtain rfl : k = n := by omega
      have hl := HL.out
      have EQ := hide (show fixL xs = (xs.take k).map fixO from by unfold fixL; rw [List.take_of_length_le (by omega), List.take_of_length_le (by omega)])
      have EL := hide (show k = (fixL xs).length from by unfold fixL; simp; omega)
      have k2 : ¬ ((k : Int) < (k : Int)) := by omega
      clear hl
      go_wp2_with fail
      go_ret
      exact ⟨_, rfl, by rw [← EL.out, EQ.out]; exact O0.out, B0.out⟩
/-- What the program's prog must answer. -/
structure PProg : Prop where
  call : ∀ (w : World) (c : Cl), ClWf c → Calls Try.prog 10 #[.agg (clVals c).toArray] w fun e w' => e = .returned (.bool (mayCl c)) ∧ Below w.heap.size w w'
  may : ∀ (w : World) (o : Step), StWf w o → Calls Try.prog 8 #[.agg (stVals o).toArray] w fun e w' => e = .returned (.bool (maySt o)) ∧ Below w.heap.size w w'
  fix : ∀ (w : World) (a : Option Addr) (n c : Nat) (xs : List Step), Reads 9 stVals w a n xs → (∀ x ∈ xs, StWf w x) → n ≤ c → c ≤ maxLen → (a = none → c = 0) → n ≤ 1000000 →
    Calls Try.prog 14 #[.slice a n c] w fun e w' => ∃ v, e = .returned v ∧ w'.ownsRow w.heap.size 25 9 v (fixL xs).length ((fixL xs).flatMap stVals) ∧ Below w.heap.size w w'
end Go.Proofs.Ythgoifmmnebkeaa
