/-
  The program's Signal; all its contracts.
-/
import Derived.Test.YtmclifmdlcofaaaCnFirst
import Derived.Test.YtmclifmdlcofaaaCnWait
import Derived.Test.YtmclifmdlcofaaaCnNew
namespace Go.Proofs.Ytmclifmdlcofaaa
open Go.ChangeShapes Go.WideShapes Go.ChangeAt Go.RowKit
set_option linter.unusedVariables false
set_option linter.unusedSimpArgs false
set_option maxRecDepth 10000 in
set_option maxHeartbeats 4000000 in
/-- Of several, without a way to tell: nobody. -/
theorem first_lost (w : World) (a : Option Addr) (n c : Nat) (hn : 2 ≤ n) :
    Calls Try.prog 29 #[.slice a n c, .nilFunc] w fun e w' => e = .returned (.tuple #[.int .i64 (-1), .bool false]) ∧ Below w.heap.size w w' := by
  have B0 := hide (show Below w.heap.size w ((w.alloc (.cells #[.int .i64 (-1)] 3)).alloc (.cells #[.bool false] 4)) from ((Below.refl _ _).alloc (Nat.le_refl _) _).alloc (by simp) _)
  have n0 : ¬ (n : Int) = 0 := by omega
  have n1 : (1 : Int) < (n : Int) := by omega
  have bs := before_nil
  clear hn
  go_enter_defers Try.func29, Try.ntmps29
  go_wp2_with fail
  simp [bodyPostD, Leaves, results, Try.results29, go_sem]
  exact B0.out
theorem first_any {w : World} {B : Nat} {v : Value} {l : List Int} (ho : w.ownsRow B 3 1 v l.length (l.map (Value.int .i64))) (hl : l.length ≤ 100000) {ks : List Int} {K : Nat} (hK : KeysAt w K ks) :
    Calls Try.prog 29 #[v, .func (.func 16) #[.pointer (some ⟨K, 0, none⟩)] #[]] w fun e w' => e = .returned (.tuple #[.int .i64 (bestC ks l), .bool (decide (l ≠ []))]) ∧ Below w.heap.size w w' := by
  have h0 := own_base ho (Nat.zero_le _)
  cases l with
  | nil =>
    obtain ⟨A, c, rfl, _, _⟩ := own_ints ho
    exact first_none w A c _
  | cons x l =>
    obtain ⟨g, c, rfl⟩ : ∃ g c, v = .slice (some ⟨g, 0, none⟩) (l.length + 1) c := by
      rcases ho.2 with ⟨_, e⟩ | ⟨g, c, cur, rfl, _⟩
      · cases e
      · exact ⟨g, c, rfl⟩
    rw [show decide (x :: l ≠ []) = true from by simp]
    by_cases hc : c = 1
    · obtain ⟨cur, _, e4, _⟩ := row_cells h0
      obtain rfl : l = [] := List.eq_nil_of_length_eq_zero (by omega)
      exact first_one h0 (.inr ⟨K, rfl⟩)
    · exact first_more rfl h0 (by simp at hl; omega) hc hK
theorem first_anyNil {w : World} {B : Nat} {v : Value} {l : List Int} (ho : w.ownsRow B 3 1 v l.length (l.map (Value.int .i64))) :
    Calls Try.prog 29 #[v, .nilFunc] w fun e w' => e = .returned (.tuple #[.int .i64 (if l.length = 1 then l.headD (-1) else -1), .bool (decide (l.length = 1))]) ∧ Below w.heap.size w w' := by
  have h0 := own_base ho (Nat.zero_le _)
  obtain ⟨A, c, rfl, _, _⟩ := own_ints ho
  match l, h0 with
  | [], _ => exact first_none w A c _
  | [x], h0 =>
    obtain ⟨g, rfl⟩ : ∃ g, A = some ⟨g, 0, none⟩ := by
      rcases h0.2 with ⟨e, _⟩ | ⟨g, c, cur, e, _⟩
      · cases e
      · injection e with e; exact ⟨g, e⟩
    exact first_one h0 (.inl rfl)
  | x :: y :: l, h0 =>
    have := first_lost w A (x :: y :: l).length c (by simp)
    rw [if_neg (by simp), show decide ((x :: y :: l).length = 1) = false from by simp]
    exact this
section
variable {w : World} {U : Nat → Prop} {S R : Nat} {L : Cs} {vs : List Value}
set_option maxRecDepth 10000 in
set_option maxHeartbeats 4000000 in
theorem sig_any (h : Cn w U S L R vs) (hf : FewC L) (i : Int) {fv : Value} {x : Int} {b : Bool}
    (F : ∀ (X : World) (v : Value), Below w.heap.size w X → X.ownsRow w.heap.size 3 1 v (lstC L i).length ((lstC L i).map (Value.int .i64)) → Calls Try.prog 29 #[v, fv] X fun e w' => e = .returned (.tuple #[.int .i64 x, .bool b]) ∧ Below X.heap.size X w') :
    Calls Try.prog 15 #[.pointer (some ⟨S, 0, none⟩), .int .i64 i, fv] w (SideO (fun w' U' => PCn w' U' S (if b = true then canS L x else L)) U w (.tuple #[.int .i64 x, .bool b])) := by
  have LI := hide (list_any h hf i)
  have FF := hide F
  have HH := hide h
  have HF := hide hf
  obtain ⟨n, hn⟩ : ∃ n, n = (lstC L i).length := ⟨_, rfl⟩
  obtain ⟨xs, hx⟩ : ∃ xs, xs = (lstC L i).map (Value.int .i64) := ⟨_, rfl⟩
  rw [← hn, ← hx] at LI FF
  clear h hf hn hx F
  cases b with
  | false =>
    rw [if_neg (by simp)]
    go_enter Try.func15, Try.ntmps15
    go_wp2_with (first
      | (go_at_call 20; refine LI.out.mono ?_; rintro e w2 ⟨v, rfl, h2⟩; have H2 := hide h2; clear h2)
      | (go_at_call 29; refine (FF.out _ v H2.out.2 H2.out.1).mono ?_; rintro e w3 ⟨rfl, b3⟩; have B3 := hide (H2.out.2.trans (b3.mono H2.out.2.size)); clear b3))
    go_ret2
    exact SideO.of_below (P := fun w' U' => PCn w' U' S L) ⟨R, vs, HH.out.below B3.out⟩ B3.out
  | true =>
    rw [if_pos rfl]
    go_enter Try.func15, Try.ntmps15
    go_wp2_with (first
      | (go_at_call 20; refine LI.out.mono ?_; rintro e w2 ⟨v, rfl, h2⟩; have H2 := hide h2; clear h2)
      | (go_at_call 29; refine (FF.out _ v H2.out.2 H2.out.1).mono ?_; rintro e w3 ⟨rfl, b3⟩; have B3 := hide (H2.out.2.trans (b3.mono H2.out.2.size)); clear b3)
      | (go_at_call 18; refine (can_any (HH.out.below B3.out) HF.out x).mono ?_; rintro e w4 ⟨rfl, k4⟩; have K4 := hide k4; clear k4))
    go_ret2
    obtain ⟨U', q1, q2, q3⟩ := K4.out
    exact ⟨rfl, U', q1, (Touch.of_below B3.out).trans q2 (fun i e => .inl e), fun i hi => (q3 i hi).imp id fun e => Nat.le_trans B3.out.size e⟩
end
set_option maxRecDepth 10000 in
set_option maxHeartbeats 4000000 in
theorem nsig_any (w : World) (i : Int) : Calls Try.prog 15 #[.pointer none, .int .i64 i, .nilFunc] w fun e w' => e = .returned (.tuple #[.int .i64 (-1), .bool false]) ∧ Below w.heap.size w w' := by
  go_enter Try.func15, Try.ntmps15
  go_wp2_with (first
    | (go_at_call 20; refine (nlist_any _ i).mono ?_; rintro e w2 ⟨rfl, b2⟩; have B2 := hide b2; clear b2)
    | (go_at_call 29; refine (first_none _ none 0 _).mono ?_; rintro e w3 ⟨rfl, b3⟩; have B3 := hide (B2.out.trans (b3.mono B2.out.size)); clear b3))
  go_ret2
  exact ⟨rfl, B3.out⟩
theorem few_lst {L : Cs} (hf : FewC L) (i : Int) : (lstC L i).length ≤ 100000 := by
  cases hc : isCond L i with
  | false => rw [lstC_out hc]; simp
  | true =>
    obtain ⟨k, rfl, hk⟩ := isCond_iff.1 hc
    rw [lstC_get (List.getElem?_eq_getElem hk)]
    exact hf _ (List.getElem_mem hk)
theorem pconds : PConds PCn := {
  ok := pcn_keeps
  good := fun ⟨R, vs, h⟩ => h.good
  new := new_any
  bad := fun w n _ hn => bad_any w hn
  wait := fun ⟨R, vs, h⟩ hf t i _ _ => wait_any h hf t i
  sig := fun {w U S L} ⟨R, vs, h⟩ hf {K ks} hk hU i hi => by
    have := sig_any h hf i (x := sigX ks L i) (b := sigB L i) (fun X v b ho => first_any ho (few_lst hf i) (hk.below b))
    unfold sigS
    exact this
  sigNil := fun {w U S L} ⟨R, vs, h⟩ hf i hi => by
    have := sig_any h hf i (x := nilX L i) (b := nilB L i) (fun X v b ho => by
      have := first_anyNil ho
      unfold nilX nilB
      simpa using this)
    unfold nilS
    exact this
  can := fun ⟨R, vs, h⟩ hf t _ => can_any h hf t
  list := fun ⟨R, vs, h⟩ hf i _ => list_any h hf i
  of := fun ⟨R, vs, h⟩ hf t _ => of_any h hf t }
theorem nilConds : NilConds := {
  wait := nwait_any
  sig := nsig_any
  can := ncan_any
  list := fun w i => (nlist_any w i).mono fun e w' ⟨he, b⟩ => ⟨none, 0, he, b⟩
  of := nof_any }
end Go.Proofs.Ytmclifmdlcofaaa
