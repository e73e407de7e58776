/-
  Contracts of the program's ready (PReady), its memory left open; awake of stage 8.
-/
import Derived.Test.YtccokhalcdljiaaRqChg
namespace Go.Proofs.Ytccokhalcdljiaa
open Go.ChangeShapes Go.WideShapes Go.ChangeAt Go.RowKit
set_option linter.unusedVariables false
/-- What All leaves: its row is nobody's. -/
def AllP (P : World → (Nat → Prop) → Prop) (U : Nat → Prop) (l : List Rt) (w : World) (e : Ending) (w' : World) : Prop :=
  ∃ A c, e = .returned (.slice A l.length c) ∧ w'.ownsRow w.heap.size 3 1 (.slice A l.length c) l.length ((allR l).map (Value.int .i64)) ∧
    ∃ U', P w' U' ∧ Touch U w w' ∧ (∀ i, U' i → U i ∨ w.heap.size ≤ i) ∧ ∀ i, (Value.slice A l.length c).ownBlock = some i → ¬ U' i
structure PReady (PQ : World → (Nat → Prop) → Nat → List Rt → Prop) : Prop where
  keep : ∀ {V U : Nat → Prop} {w w' : World} {S : Nat} {l : List Rt}, PQ w U S l → Touch V w w' → (∀ i, U i → ¬ V i) → PQ w' U S l
  lt : ∀ {U : Nat → Prop} {w : World} {S : Nat} {l : List Rt}, PQ w U S l → ∀ i, U i → i < w.heap.size
  good : ∀ {U : Nat → Prop} {w : World} {S : Nat} {l : List Rt}, PQ w U S l → GoodR l
  new : ∀ (w : World), Calls Try.prog 8 #[] w fun e w' => ∃ S U, e = .returned (.pointer (some ⟨S, 0, none⟩)) ∧ PQ w' U S [] ∧ Below w.heap.size w w' ∧ ∀ i, U i → w.heap.size ≤ i
  add : ∀ {U : Nat → Prop} {w : World} {S : Nat} {l : List Rt}, PQ w U S l → ∀ {id c lv d : Int}, (Lit.int .i64 id).wf = true → PrWf ⟨c, lv, d⟩ → l.length < 1000 →
    Calls Try.prog 10 #[.pointer (some ⟨S, 0, none⟩), .int .i64 id, .agg #[.int .i64 c, .int .i64 lv, .int .i64 d]] w (SideR (fun w' U' => PQ w' U' S (addR l id ⟨c, lv, d⟩)) U w (.int .i64 (addE l id ⟨c, lv, d⟩ : Nat)))
  drop : ∀ {U : Nat → Prop} {w : World} {S : Nat} {l : List Rt}, PQ w U S l → ∀ {id : Int}, (Lit.int .i64 id).wf = true →
    Calls Try.prog 12 #[.pointer (some ⟨S, 0, none⟩), .int .i64 id] w (SideR (fun w' U' => PQ w' U' S (dropR l id)) U w (.bool (hasR l id)))
  chg : ∀ {U : Nat → Prop} {w : World} {S : Nat} {l : List Rt}, PQ w U S l → ∀ {id c lv d : Int}, (Lit.int .i64 id).wf = true → PrWf ⟨c, lv, d⟩ → l.length < 1000 →
    Calls Try.prog 14 #[.pointer (some ⟨S, 0, none⟩), .int .i64 id, .agg #[.int .i64 c, .int .i64 lv, .int .i64 d]] w (SideR (fun w' U' => PQ w' U' S (chgR l id ⟨c, lv, d⟩)) U w (.int .i64 (chgE l id ⟨c, lv, d⟩ : Nat)))
  first : ∀ {U : Nat → Prop} {w : World} {S : Nat} {l : List Rt}, PQ w U S l →
    Calls Try.prog 18 #[.pointer (some ⟨S, 0, none⟩)] w (SideR (fun w' U' => PQ w' U' S l) U w (.tuple #[.int .i64 (firstR l).1, .bool (firstR l).2]))
  has : ∀ {U : Nat → Prop} {w : World} {S : Nat} {l : List Rt}, PQ w U S l → ∀ {id : Int}, (Lit.int .i64 id).wf = true →
    Calls Try.prog 19 #[.pointer (some ⟨S, 0, none⟩), .int .i64 id] w (SideR (fun w' U' => PQ w' U' S l) U w (.bool (hasR l id)))
  len : ∀ {U : Nat → Prop} {w : World} {S : Nat} {l : List Rt}, PQ w U S l →
    Calls Try.prog 21 #[.pointer (some ⟨S, 0, none⟩)] w (SideR (fun w' U' => PQ w' U' S l) U w (.int .i64 (l.length : Nat)))
  all : ∀ {U : Nat → Prop} {w : World} {S : Nat} {l : List Rt}, PQ w U S l →
    Calls Try.prog 16 #[.pointer (some ⟨S, 0, none⟩)] w (AllP (fun w' U' => PQ w' U' S l) U l w)
/-- One queue of the program's, and the world ahead of it. -/
structure OneR (PQ : World → (Nat → Prop) → Nat → List Rt → Prop) (w wr : World) (U : Nat → Prop) (S : Nat) (l : List Rt) : Prop where
  ps : PQ wr U S l
  bel : Below w.heap.size w wr
  lo : ∀ i, U i → w.heap.size ≤ i
section
variable {PQ : World → (Nat → Prop) → Nat → List Rt → Prop}
theorem PReady.below (C : PReady PQ) {U : Nat → Prop} {w w' : World} {S : Nat} {l : List Rt} (h : PQ w U S l) (b : Below w.heap.size w w') : PQ w' U S l := C.keep h (Touch.of_below (S := fun _ => False) b) (fun _ _ e => e)
theorem OneR.move {w wr w' : World} {U U' : Nat → Prop} {S : Nat} {l l' : List Rt} (h : OneR PQ w wr U S l) (p : PQ w' U' S l') (t : Touch U wr w') (hU : ∀ i, U' i → U i ∨ wr.heap.size ≤ i) : OneR PQ w w' U' S l' :=
  ⟨p, h.bel.trans (t.below h.bel.size h.lo), fun i hi => (hU i hi).elim (h.lo i) (fun e => Nat.le_trans h.bel.size e)⟩
theorem OneR.side {w wr w' : World} {U : Nat → Prop} {S : Nat} {l l' : List Rt} (h : OneR PQ w wr U S l) {x : Value} {e : Ending} (hs : SideR (fun w' U' => PQ w' U' S l') U wr x e w') : e = .returned x ∧ ∃ U', OneR PQ w w' U' S l' := by
  obtain ⟨rfl, U', p, t, hU⟩ := hs
  exact ⟨rfl, U', h.move p t hU⟩
theorem OneR.below (C : PReady PQ) {w wr w' : World} {U : Nat → Prop} {S : Nat} {l : List Rt} (h : OneR PQ w wr U S l) (b : Below wr.heap.size wr w') : OneR PQ w w' U S l :=
  ⟨C.below h.ps b, h.bel.trans (b.mono h.bel.size), h.lo⟩
theorem OneR.first {w w' : World} {U : Nat → Prop} {S : Nat} {l : List Rt} (p : PQ w' U S l) (b : Below w.heap.size w w') (lo : ∀ i, U i → w.heap.size ≤ i) : OneR PQ w w' U S l := ⟨p, b, lo⟩
set_option maxHeartbeats 4000000 in
theorem pawake8_any (C : PReady PQ) (w : World) : Calls Try.prog 7 #[] w fun e w' => e = .returned (.bool true) ∧ Below w.heap.size w w' := by
  have p4 : PrWf ⟨0, 3, 0⟩ := by unfold PrWf; decide
  have p5 : PrWf ⟨1, 0, 90⟩ := by unfold PrWf; decide
  have p6 : PrWf ⟨2, 0, 0⟩ := by unfold PrWf; decide
  have e4 : addE [] 4 ⟨0, 3, 0⟩ = 0 := by decide
  have e5 : addE [⟨4, ⟨0, 3, 0⟩⟩] 5 ⟨1, 0, 90⟩ = 0 := by decide
  have e6 : addE [⟨5, ⟨1, 0, 90⟩⟩, ⟨4, ⟨0, 3, 0⟩⟩] 6 ⟨2, 0, 0⟩ = 0 := by decide
  have a4 : addR [] 4 ⟨0, 3, 0⟩ = [⟨4, ⟨0, 3, 0⟩⟩] := rfl
  have a5 : addR [⟨4, ⟨0, 3, 0⟩⟩] 5 ⟨1, 0, 90⟩ = [⟨5, ⟨1, 0, 90⟩⟩, ⟨4, ⟨0, 3, 0⟩⟩] := by unfold addR; rw [if_pos e5]; rfl
  have a6 : addR [⟨5, ⟨1, 0, 90⟩⟩, ⟨4, ⟨0, 3, 0⟩⟩] 6 ⟨2, 0, 0⟩ = [⟨6, ⟨2, 0, 0⟩⟩, ⟨5, ⟨1, 0, 90⟩⟩, ⟨4, ⟨0, 3, 0⟩⟩] := by unfold addR; rw [if_pos e6]; rfl
  go_enter Try.func7, Try.ntmps7
  go_wp2_with fail
  go_at_call 8
  refine (C.new _).mono ?_
  rintro e w1 ⟨S, U, rfl, q1, b1, l1⟩
  have P1 := hide (OneR.first q1 b1 l1)
  clear q1 b1 l1
  go_wp2_with fail
  go_at_call 10
  refine (C.add P1.out.ps (by decide) p4 (by decide)).mono ?_
  intro en w2 hs
  obtain ⟨rfl, U2, q2⟩ := P1.out.side hs
  clear hs
  rw [a4] at q2
  rw [e4]
  have P2 := hide q2
  clear q2 P1
  go_wp2_with fail
  go_at_call 10
  refine (C.add P2.out.ps (by decide) p5 (by decide)).mono ?_
  intro en w3 hs
  obtain ⟨rfl, U3, q3⟩ := P2.out.side hs
  clear hs
  rw [a5] at q3
  rw [e5]
  have P3 := hide q3
  clear q3 P2
  go_wp2_with fail
  go_at_call 10
  refine (C.add P3.out.ps (by decide) p6 (by decide)).mono ?_
  intro en w4 hs
  obtain ⟨rfl, U4, q4⟩ := P3.out.side hs
  clear hs
  rw [a6] at q4
  rw [e6]
  have P4 := hide q4
  clear q4 P3 a4 a5 a6 e4 e5 e6 p4 p5 p6
  obtain ⟨l, hl⟩ : ∃ l : List Rt, l = [⟨6, ⟨2, 0, 0⟩⟩, ⟨5, ⟨1, 0, 90⟩⟩, ⟨4, ⟨0, 3, 0⟩⟩] := ⟨_, rfl⟩
  rw [← hl] at P4
  have f1 : (firstR l).1 = 6 := by rw [hl]; rfl
  have f2 : (firstR l).2 = true := by rw [hl]; rfl
  have al : allR l = [6, 5, 4] := by rw [hl]; rfl
  have ll : l.length = 3 := by rw [hl]; rfl
  have FI := hide (fun (W : World) (V : Nat → Prop) (hW : PQ W V S l) => by have := C.first hW; rw [f1, f2] at this; exact this)
  have AL := hide (fun (W : World) (V : Nat → Prop) (hW : PQ W V S l) => by have := C.all hW; unfold AllP at this; rw [al, ll] at this; exact this)
  clear hl f1 f2 al ll
  go_wp2_with fail
  go_at_call 18
  refine (FI.out _ _ P4.out.ps).mono ?_
  intro en w5 hs
  obtain ⟨rfl, U5, q5⟩ := P4.out.side hs
  have P5 := hide q5
  clear q5 hs P4
  go_wp2_with fail
  go_at_call 16
  refine (AL.out _ _ P5.out.ps).mono ?_
  rintro en w6 ⟨A, c, rfl, o6, U6, q6, t6, g6, n6⟩
  have P6 := hide (P5.out.move q6 t6 g6)
  have bA : Below w6.heap.size w6 (w6.alloc (.cells #[.int .i64 6, .int .i64 5, .int .i64 4] 3)) := (Below.refl _ _).alloc (Nat.le_refl _) _
  obtain ⟨A9, c9, ev, i6, _⟩ := own_ints o6
  injection ev with ev1 _ ev2
  subst ev1 ev2
  have IA := hide (i6.below bA)
  have IB := hide (show Ints .i64 (w6.alloc (.cells #[.int .i64 6, .int .i64 5, .int .i64 4] 3)) (some ⟨w6.heap.size, 0, none⟩) 3 [6, 5, 4] from ⟨rfl, fun _ => ⟨_, _, rfl, fun j hj => by
    match j, hj with
    | 0, _ => simp
    | 1, _ => simp
    | 2, _ => simp⟩⟩)
  have BA := hide (P6.out.bel.trans (bA.mono P6.out.bel.size))
  have BS := hide BA.out.size
  clear q6 t6 g6 n6 o6 i6 bA P5
  go_wp2_with (go_at_call 22; refine (same_any _ _ 3 _ _ [6, 5, 4] _ IA.out IB.out (by omega)).mono ?_; rintro en w7 ⟨rfl, b7⟩)
  go_ret
  exact ⟨rfl, BA.out.trans (b7.mono BS.out)⟩
end
end Go.Proofs.Ytccokhalcdljiaa
