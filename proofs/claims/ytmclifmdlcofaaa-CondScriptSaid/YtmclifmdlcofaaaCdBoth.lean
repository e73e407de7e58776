/-
  Contracts of the program's conditions, their memory left open (PConds, NilConds); awake of stage 13; CondNone, CondNil.
-/
import Derived.Test.YtmclifmdlcofaaaCdRefE
namespace Go.Proofs.Ytmclifmdlcofaaa
open Go.ChangeShapes Go.WideShapes Go.ChangeAt Go.RowKit
set_option linter.unusedVariables false
set_option linter.unusedSimpArgs false
def FewC (L : Cs) : Prop := ∀ l ∈ L, l.length ≤ 100000
/-- The program's conditions. -/
structure PConds (PC : Rel Cs) : Prop where
  ok : Keeps PC
  good : ∀ {w : World} {U : Nat → Prop} {S : Nat} {L : Cs}, PC w U S L → GoodC L
  new : ∀ (w : World) (n : Nat), 1 ≤ n → n ≤ 4 → Calls Try.prog 9 #[.int .i64 (n : Int)] w fun e w' => ∃ S U, e = .returned (.tuple #[.pointer (some ⟨S, 0, none⟩), .int .i64 0]) ∧ PC w' U S (newC n) ∧ Below w.heap.size w w' ∧ ∀ i, U i → w.heap.size ≤ i
  bad : ∀ (w : World) {n : Int}, (Lit.int .i64 n).wf = true → n < 1 ∨ 4 < n → Calls Try.prog 9 #[.int .i64 n] w fun e w' => e = .returned (.tuple #[.pointer none, .int .i64 2]) ∧ Below w.heap.size w w'
  wait : ∀ {w : World} {U : Nat → Prop} {S : Nat} {L : Cs}, PC w U S L → FewC L → ∀ {t i : Int}, (Lit.int .i64 t).wf = true → (Lit.int .i64 i).wf = true →
    Calls Try.prog 13 #[.pointer (some ⟨S, 0, none⟩), .int .i64 t, .int .i64 i] w (SideO (fun w' U' => PC w' U' S (waitS L t i)) U w (.int .i64 (waitE L t i)))
  sig : ∀ {w : World} {U : Nat → Prop} {S : Nat} {L : Cs}, PC w U S L → FewC L → ∀ {K : Nat} {ks : List Int}, KeysAt w K ks → ¬ U K → ∀ {i : Int}, (Lit.int .i64 i).wf = true →
    Calls Try.prog 15 #[.pointer (some ⟨S, 0, none⟩), .int .i64 i, .func (.func 16) #[.pointer (some ⟨K, 0, none⟩)] #[]] w (SideO (fun w' U' => PC w' U' S (sigS ks L i)) U w (.tuple #[.int .i64 (sigX ks L i), .bool (sigB L i)]))
  sigNil : ∀ {w : World} {U : Nat → Prop} {S : Nat} {L : Cs}, PC w U S L → FewC L → ∀ {i : Int}, (Lit.int .i64 i).wf = true →
    Calls Try.prog 15 #[.pointer (some ⟨S, 0, none⟩), .int .i64 i, .nilFunc] w (SideO (fun w' U' => PC w' U' S (nilS L i)) U w (.tuple #[.int .i64 (nilX L i), .bool (nilB L i)]))
  can : ∀ {w : World} {U : Nat → Prop} {S : Nat} {L : Cs}, PC w U S L → FewC L → ∀ {t : Int}, (Lit.int .i64 t).wf = true →
    Calls Try.prog 18 #[.pointer (some ⟨S, 0, none⟩), .int .i64 t] w (SideO (fun w' U' => PC w' U' S (canS L t)) U w (.bool (canB L t)))
  list : ∀ {w : World} {U : Nat → Prop} {S : Nat} {L : Cs}, PC w U S L → FewC L → ∀ {i : Int}, (Lit.int .i64 i).wf = true →
    Calls Try.prog 20 #[.pointer (some ⟨S, 0, none⟩), .int .i64 i] w fun e w' => ∃ v, e = .returned v ∧ w'.ownsRow w.heap.size 3 1 v (lstC L i).length ((lstC L i).map (Value.int .i64)) ∧ Below w.heap.size w w'
  of : ∀ {w : World} {U : Nat → Prop} {S : Nat} {L : Cs}, PC w U S L → FewC L → ∀ {t : Int}, (Lit.int .i64 t).wf = true →
    Calls Try.prog 21 #[.pointer (some ⟨S, 0, none⟩), .int .i64 t] w fun e w' => e = .returned (.int .i64 (ofC L t)) ∧ Below w.heap.size w w'
/-- Of none. -/
structure NilConds : Prop where
  wait : ∀ (w : World) (t i : Int), Calls Try.prog 13 #[.pointer none, .int .i64 t, .int .i64 i] w fun e w' => e = .returned (.int .i64 1) ∧ Below w.heap.size w w'
  sig : ∀ (w : World) (i : Int), Calls Try.prog 15 #[.pointer none, .int .i64 i, .nilFunc] w fun e w' => e = .returned (.tuple #[.int .i64 (-1), .bool false]) ∧ Below w.heap.size w w'
  can : ∀ (w : World) (t : Int), Calls Try.prog 18 #[.pointer none, .int .i64 t] w fun e w' => e = .returned (.bool false) ∧ Below w.heap.size w w'
  list : ∀ (w : World) (i : Int), Calls Try.prog 20 #[.pointer none, .int .i64 i] w fun e w' => ∃ a c, e = .returned (.slice a 0 c) ∧ Below w.heap.size w w'
  of : ∀ (w : World) (t : Int), Calls Try.prog 21 #[.pointer none, .int .i64 t] w fun e w' => e = .returned (.int .i64 (-1)) ∧ Below w.heap.size w w'
def zero16 : Array Value := #[.int .i64 0, .int .i64 0, .int .i64 0, .int .i64 0, .int .i64 0, .int .i64 0, .int .i64 0, .int .i64 0, .int .i64 0, .int .i64 0, .int .i64 0, .int .i64 0, .int .i64 0, .int .i64 0, .int .i64 0, .int .i64 0]
theorem zero16_eq : zero16 = Array.replicate 16 (.int .i64 0) := by kernel_rfl
theorem keys_new (w : World) (t : TypeId) : KeysAt (w.alloc (.cells zero16 t)) w.heap.size (List.replicate 16 0) :=
  ⟨by simp, _, t, heap_alloc_new _ _, fun j hj => by rw [zero16_eq, List.getD_eq_getElem?_getD, List.getElem?_replicate, if_pos hj]; simp [hj]⟩
theorem KeysAt.set {w : World} {K : Nat} {ks : List Int} (h : KeysAt w K ks) (j : Nat) (hj : j < 16) (v : Int) : KeysAt (w.setCell ⟨K, j, none⟩ (.int .i64 v)) K (ks.set j v) := by
  obtain ⟨hl, cur, t, e, hc⟩ := h
  refine ⟨by simpa using hl, _, t, heap_setCell_same w K j cur t _ e, fun i hi => ?_⟩
  have hcs : cur[j]? = some (.int .i64 (ks.getD j 0)) := hc j hj
  have hsz : j < cur.size := (Array.getElem?_eq_some_iff.1 hcs).1
  by_cases hij : i = j
  · subst hij
    rw [Array.getElem?_setIfInBounds_self_of_lt hsz, List.getD_eq_getElem?_getD, List.getElem?_set_self (by omega)]; rfl
  · rw [Array.getElem?_setIfInBounds_ne (by omega), List.getD_eq_getElem?_getD, List.getElem?_set_ne (by omega), ← List.getD_eq_getElem?_getD]; exact hc i hi
theorem KeysAt.frozen {w : World} {K : Nat} {ks : List Int} (h : KeysAt w K ks) (j : Nat) : w.frozen? ⟨K, j, none⟩ = false := by
  obtain ⟨_, cur, t, e, _⟩ := h
  exact frozen_of_row _ _ _ _ _ e
theorem KeysAt.stay {w w' : World} {K : Nat} {ks : List Int} (h : KeysAt w K ks) {X : List Nat} (s : Stay X w w') (hK : K ∈ X) : KeysAt w' K ks := by
  obtain ⟨h1, cur, t, e, hc⟩ := h
  exact ⟨h1, cur, t, (s K hK).trans e, hc⟩
theorem run_keep_func (w : World) (fn : Fn) (first cap : Array Value) : (Instr.makeFunc fn first cap).run Try.prog w = .ok (.func fn first cap) w := rfl
theorem built_keys0 : Try.prog.built 35 [] = some zero16 := by kernel_rfl
attribute [local go_sem] built_keys0
def ksA : List Int := (List.replicate 16 0).set 5 1
def cA0 : Cs := [[], []]
def cA1 : Cs := [[5], []]
def cA2 : Cs := [[2, 5], []]
def cA3 : Cs := [[2], []]
theorem few_lit {L : Cs} (h : (L.all fun l => decide (l.length ≤ 1000)) = true) : FewC L := fun l hl => by
  have := List.all_eq_true.1 h l hl
  have := of_decide_eq_true this
  omega
section
variable {PC : Rel Cs}
set_option maxRecDepth 10000 in
set_option maxHeartbeats 8000000 in
theorem cdawake_any (C : PConds PC) (w : World) : Calls Try.prog 8 #[] w fun e w' => e = .returned (.bool true) ∧ Below w.heap.size w w' := by
  have E := hide (show waitS cA0 5 0 = cA1 ∧ waitS cA1 2 0 = cA2 ∧ sigS ksA cA2 0 = cA3 from ⟨by decide, by decide, by decide⟩)
  have V := hide (show waitE cA0 5 0 = 0 ∧ waitE cA1 2 0 = 0 ∧ sigX ksA cA2 0 = 5 ∧ sigB cA2 0 = true ∧ ofC cA3 5 = -1 ∧ ofC cA3 2 = 0 from ⟨by decide, by decide, by decide, by decide, by decide, by decide⟩)
  have hmf := run_keep_func
  go_enter Try.func8, Try.ntmps8
  go_wp2_with fail
  go_at_call 9
  refine (C.new w 2 (by omega) (by omega)).mono ?_
  rintro e w1 ⟨S, U, rfl, p1, b1, l1⟩
  have P1 := hide (show OneO PC w w1 U [] S cA0 from OneO.first p1 b1 l1)
  clear p1 b1 l1
  go_wp2_with fail
  go_at_call 13
  refine (C.wait P1.out.ps (few_lit (by decide)) (t := 5) (i := 0) (by decide) (by decide)).mono ?_
  intro en w2 hs
  obtain ⟨rfl, U2, q2, _⟩ := P1.out.side hs
  clear hs
  rw [E.out.1] at q2
  rw [V.out.1]
  have P2 := hide q2
  clear q2 P1
  go_wp2_with fail
  go_at_call 13
  refine (C.wait P2.out.ps (few_lit (by decide)) (t := 2) (i := 0) (by decide) (by decide)).mono ?_
  intro en w3 hs
  obtain ⟨rfl, U3, q3, _⟩ := P2.out.side hs
  clear hs
  rw [E.out.2.1] at q3
  rw [V.out.2.1]
  have P3 := hide q3
  clear q3 P2
  go_upto_region 5 with (refine wpList_build rfl 35 _ rfl (by kernel_rfl) ?_)
  obtain ⟨P4, _⟩ := P3.out.alloc C.ok (.cells zero16 35)
  have KL := P3.out.bel.size
  have K4 := keys_new w3 35
  generalize w3.alloc (.cells zero16 35) = w4 at *
  generalize w3.heap.size = K at *
  have y0 := K4.cell (j := 5) (by omega)
  have f0 := K4.frozen 5
  have K5 := hide (show KeysAt (w4.setCell ⟨K, 5, none⟩ (.int .i64 1)) K ksA from K4.set 5 (by omega) 1)
  have P5 := hide (show OneO PC w (w4.setCell ⟨K, 5, none⟩ (.int .i64 1)) U3 [K] S cA2 from P4.touch C.ok ((Touch.refl (fun i => i = K) w4).setCell (p := ⟨K, 5, none⟩) rfl _) (fun i hi => by rw [hi]; exact ⟨(P4.xs K (by simp)).2, KL⟩))
  clear K4 P4 P3 KL
  go_upto_region 6 with fail
  generalize w4.setCell ⟨K, 5, none⟩ (.int .i64 1) = w5 at *
  clear y0 f0
  go_wp2_with fail
  go_at_call 15
  refine (C.sig P5.out.ps (few_lit (by decide)) K5.out (P5.out.xs K (by simp)).2 (i := 0) (by decide)).mono ?_
  intro en w6 hs
  obtain ⟨rfl, U6, q6, _⟩ := P5.out.side hs
  clear hs
  rw [E.out.2.2] at q6
  rw [V.out.2.2.1, V.out.2.2.2.1]
  have P6 := hide q6
  clear q6 P5
  go_wp2_with fail
  go_at_call 21
  refine (C.of P6.out.ps (few_lit (by decide)) (t := 5) (by decide)).mono ?_
  rintro e w7 ⟨rfl, b7⟩
  have P7 := hide (P6.out.below C.ok b7).1
  clear b7 P6
  rw [V.out.2.2.2.2.1]
  go_wp2_with fail
  go_at_call 21
  refine (C.of P7.out.ps (few_lit (by decide)) (t := 2) (by decide)).mono ?_
  rintro e w8 ⟨rfl, b8⟩
  have P8 := hide (P7.out.below C.ok b8).1
  clear b8 P7
  rw [V.out.2.2.2.2.2]
  go_wp2_with fail
  go_ret
  exact ⟨rfl, P8.out.bel⟩
end
end Go.Proofs.Ytmclifmdlcofaaa
