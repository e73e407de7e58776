/-
  The program's wheel beside the document's: what turns, what stays; 'same' (coxswainlaw6).
-/
import Derived.Test.YtpmggiahhjllcaaWhBoth
namespace Go.Proofs.Ytpmggiahhjllcaa
open Go.ChangeShapes Go.WideShapes Go.ChangeAt Go.RowKit
set_option linter.unusedVariables false
/-- Both wheels, and blocks of X that neither has. -/
structure TwoW (PW : World → (Nat → Prop) → Nat → Ws → Prop) (w wr : World) (U D : Nat → Prop) (X : List Nat) (S R : Nat) (s s2 : Ws) : Prop where
  ps : PW wr U S s
  ds : Wr wr D R s2
  bel : Below w.heap.size w wr
  dis : ∀ i, U i → ¬ D i
  lo : ∀ i, U i → w.heap.size ≤ i
  lo2 : ∀ i, D i → w.heap.size ≤ i
  xs : ∀ g ∈ X, g < wr.heap.size ∧ ¬ U g ∧ ¬ D g
def Held (X : List Nat) (w w' : World) : Prop := ∀ g ∈ X, w'.heap[g]? = w.heap[g]?
section
variable {PW : World → (Nat → Prop) → Nat → Ws → Prop}
theorem TwoW.moveL (C : PWheel PW) {w wr w' : World} {U U' D : Nat → Prop} {X : List Nat} {S R : Nat} {s s' s2 : Ws} (h : TwoW PW w wr U D X S R s s2) (p : PW w' U' S s') (t : Touch U wr w') (hU : ∀ i, U' i → U i ∨ wr.heap.size ≤ i) : TwoW PW w w' U' D X S R s' s2 ∧ Held X wr w' := by
  have old : ∀ i, i < wr.heap.size → ¬ U i → ¬ U' i := fun i hi hn e => (hU i e).elim hn (fun e => by omega)
  refine ⟨⟨p, h.ds.keep t (fun i hi e => h.dis i e hi), h.bel.trans (t.below h.bel.size h.lo), fun i hi hd => ?_, fun i hi => ?_, h.lo2, fun g hg => ⟨Nat.lt_of_lt_of_le (h.xs g hg).1 t.size, old g (h.xs g hg).1 (h.xs g hg).2.1, (h.xs g hg).2.2⟩⟩, fun g hg => t.block g (h.xs g hg).1 (h.xs g hg).2.1⟩
  · exact old i (h.ds.lt i hd) (fun e => h.dis i e hd) hi
  · rcases hU i hi with e | e
    · exact h.lo i e
    · have := h.bel.size; omega
theorem TwoW.moveR (C : PWheel PW) {w wr w' : World} {U D D' : Nat → Prop} {X : List Nat} {S R : Nat} {s s2 s3 : Ws} (h : TwoW PW w wr U D X S R s s2) (p : Wr w' D' R s3) (t : Touch D wr w') (hU : ∀ i, D' i → D i ∨ wr.heap.size ≤ i) : TwoW PW w w' U D' X S R s s3 ∧ Held X wr w' := by
  have old : ∀ i, i < wr.heap.size → ¬ D i → ¬ D' i := fun i hi hn e => (hU i e).elim hn (fun e => by omega)
  refine ⟨⟨C.keep h.ps t (fun i hi e => h.dis i hi e), p, h.bel.trans (t.below h.bel.size h.lo2), fun i hi hd => ?_, h.lo, fun i hi => ?_, fun g hg => ⟨Nat.lt_of_lt_of_le (h.xs g hg).1 t.size, (h.xs g hg).2.1, old g (h.xs g hg).1 (h.xs g hg).2.2⟩⟩, fun g hg => t.block g (h.xs g hg).1 (h.xs g hg).2.2⟩
  · exact old i (C.lt h.ps i hi) (fun e => h.dis i hi e) hd
  · rcases hU i hi with e | e
    · exact h.lo2 i e
    · have := h.bel.size; omega
theorem TwoW.left (C : PWheel PW) {w wr w' : World} {U D : Nat → Prop} {X : List Nat} {S R : Nat} {s s' s2 : Ws} (h : TwoW PW w wr U D X S R s s2) {x : Value} {e : Ending} (hs : Side (fun w' U' => PW w' U' S s') U wr x e w') : e = .returned x ∧ ∃ U', TwoW PW w w' U' D X S R s' s2 ∧ Held X wr w' := by
  obtain ⟨rfl, U', p, t, hU⟩ := hs
  exact ⟨rfl, U', h.moveL C p t hU⟩
theorem TwoW.right (C : PWheel PW) {w wr w' : World} {U D : Nat → Prop} {X : List Nat} {S R : Nat} {s s2 s3 : Ws} (h : TwoW PW w wr U D X S R s s2) {x : Value} {e : Ending} (hs : Side (fun w' D' => Wr w' D' R s3) D wr x e w') : e = .returned x ∧ ∃ D', TwoW PW w w' U D' X S R s s3 ∧ Held X wr w' := by
  obtain ⟨rfl, D', p, t, hU⟩ := hs
  exact ⟨rfl, D', h.moveR C p t hU⟩
theorem TwoW.below (C : PWheel PW) {w wr w' : World} {U D : Nat → Prop} {X : List Nat} {S R : Nat} {s s2 : Ws} (h : TwoW PW w wr U D X S R s s2) (u : Below wr.heap.size wr w') : TwoW PW w w' U D X S R s s2 ∧ Held X wr w' :=
  ⟨⟨C.below h.ps u, h.ds.below u, h.bel.trans (u.mono h.bel.size), h.dis, h.lo, h.lo2, fun g hg => ⟨Nat.lt_of_lt_of_le (h.xs g hg).1 u.size, (h.xs g hg).2⟩⟩, fun g hg => u.block g (h.xs g hg).1⟩
theorem TwoW.alloc (C : PWheel PW) {w wr : World} {U D : Nat → Prop} {X : List Nat} {S R : Nat} {s s2 : Ws} (h : TwoW PW w wr U D X S R s s2) (o : Obj) : TwoW PW w (wr.alloc o) U D (wr.heap.size :: X) S R s s2 ∧ Held X wr (wr.alloc o) := by
  obtain ⟨h2, h3⟩ := h.below C ((Below.refl wr.heap.size wr).alloc (Nat.le_refl _) o)
  refine ⟨⟨h2.ps, h2.ds, h2.bel, h2.dis, h2.lo, h2.lo2, fun g hg => ?_⟩, h3⟩
  rcases List.mem_cons.mp hg with rfl | e
  · exact ⟨by simp, fun e => by have := C.lt h.ps _ e; omega, fun e => by have := h.ds.lt _ e; omega⟩
  · exact h2.xs g e
theorem TwoW.fewer {w wr : World} {U D : Nat → Prop} {X X' : List Nat} {S R : Nat} {s s2 : Ws} (h : TwoW PW w wr U D X S R s s2) (hs : ∀ g ∈ X', g ∈ X) : TwoW PW w wr U D X' S R s s2 :=
  ⟨h.ps, h.ds, h.bel, h.dis, h.lo, h.lo2, fun g hg => h.xs g (hs g hg)⟩
/-- A row that is neither's, and no block of X. -/
def Free (w wr : World) (U D : Nat → Prop) (X : List Nat) (v : Value) : Prop := ∀ i, v.ownBlock = some i → ¬ U i ∧ ¬ D i ∧ i ∉ X ∧ w.heap.size ≤ i ∧ i < wr.heap.size
theorem TwoW.tickL (C : PWheel PW) {w wr w' : World} {U D : Nat → Prop} {X : List Nat} {S R : Nat} {s s2 : Ws} (h : TwoW PW w wr U D X S R s s2) {e : Ending} (ht : Ticked (fun w' U' s' => PW w' U' S s') U s wr e w') :
    ∃ A c, e = .returned (.tuple #[.slice A (gone s).length c, .int .i64 (moved s : Nat)]) ∧ w'.ownsRow 0 3 1 (.slice A (gone s).length c) (gone s).length ((goneI s).map (Value.int .i64)) ∧ ∃ U', TwoW PW w w' U' D X S R (tickS s) s2 ∧ Held X wr w' ∧ Free w w' U' D X (.slice A (gone s).length c) := by
  obtain ⟨A, c, he, ho, U', p, t, hU, hf⟩ := ht
  obtain ⟨h2, h3⟩ := h.moveL C p t hU
  refine ⟨A, c, he, ho, U', h2, h3, fun i hi => ?_⟩
  obtain ⟨_, l2⟩ := ho.lt i hi
  have := h.bel.size
  obtain ⟨f1, f2⟩ := hf i hi
  rcases f2 with f2 | f2
  · exact ⟨f1, h.dis i f2, fun e => (h.xs i e).2.1 f2, h.lo i f2, l2⟩
  · exact ⟨f1, fun e => by have := h.ds.lt i e; omega, fun e => by have := (h.xs i e).1; omega, by omega, l2⟩
theorem TwoW.tickR (C : PWheel PW) {w wr w' : World} {U D : Nat → Prop} {X : List Nat} {S R : Nat} {s s2 : Ws} (h : TwoW PW w wr U D X S R s s2) {v : Value} (hv : Free w wr U D X v) {e : Ending} (ht : Ticked (fun w' U' s' => Wr w' U' R s') D s2 wr e w') :
    ∃ A c, e = .returned (.tuple #[.slice A (gone s2).length c, .int .i64 (moved s2 : Nat)]) ∧ w'.ownsRow 0 3 1 (.slice A (gone s2).length c) (gone s2).length ((goneI s2).map (Value.int .i64)) ∧ ∃ D', TwoW PW w w' U D' X S R s (tickS s2) ∧ Held X wr w' ∧ Free w w' U D' X v ∧ Touch D wr w' := by
  obtain ⟨A, c, he, ho, D', p, t, hU, hf⟩ := ht
  obtain ⟨h2, h3⟩ := h.moveR C p t hU
  refine ⟨A, c, he, ho, D', h2, h3, fun i hi => ?_, t⟩
  obtain ⟨f1, f2, f3, f4, f5⟩ := hv i hi
  exact ⟨f1, fun e => (hU i e).elim f2 (fun e => by omega), f3, f4, Nat.lt_of_lt_of_le f5 t.size⟩
theorem TwoW.over (C : PWheel PW) {w wr w' : World} {U D : Nat → Prop} {X : List Nat} {S R : Nat} {s s2 : Ws} (h : TwoW PW w wr U D X S R s s2) {v : Value} (hv : Free w wr U D X v) (t : Touch (fun i => v.ownBlock = some i) wr w') : TwoW PW w w' U D X S R s s2 ∧ Held X wr w' :=
  ⟨⟨C.keep h.ps t (fun i hi e => (hv i e).1 hi), h.ds.keep t (fun i hi e => (hv i e).2.1 hi), h.bel.trans (t.below h.bel.size (fun i e => (hv i e).2.2.2.1)), h.dis, h.lo, h.lo2, fun g hg => ⟨Nat.lt_of_lt_of_le (h.xs g hg).1 t.size, (h.xs g hg).2⟩⟩, fun g hg => t.block g (h.xs g hg).1 (fun e => (hv g e).2.2.1 hg)⟩
set_option maxHeartbeats 2000000 in
theorem wsame_any (C : PWheel PW) {w wr : World} {U D : Nat → Prop} {X : List Nat} {S R : Nat} {s : Ws} (h : TwoW PW w wr U D X S R s s) {id : Int} (hid : (Lit.int .i64 id).wf = true) :
    Calls Try.prog 22 #[.pointer (some ⟨S, 0, none⟩), .pointer (some ⟨R, 0, none⟩), .int .i64 id] wr fun e w' => e = .returned (.bool true) ∧ Below wr.heap.size wr w' := by
  obtain ⟨x, hx⟩ : ∃ x, x = (atOf s.l id).getD 0 := ⟨_, rfl⟩
  obtain ⟨b, hb⟩ : ∃ b, b = (atOf s.l id).isSome := ⟨_, rfl⟩
  obtain ⟨y, hy⟩ : ∃ y, y = ((atOf s.l id).map (ring s.now)).getD 0 := ⟨_, rfl⟩
  obtain ⟨z, hz⟩ : ∃ z, z = ((atOf s.l id).map (slot s.now)).getD 0 := ⟨_, rfl⟩
  have c1 := fun (w1 : World) (p : PW w1 U S s) => C.at_ p hid
  have c2 := fun (w1 : World) (p : Wr w1 D R s) => wrAt_any p id
  have c3 := fun (w1 : World) (p : PW w1 U S s) => C.place p hid
  have c4 := fun (w1 : World) (p : Wr w1 D R s) => wrplace_any p id
  rw [← hx, ← hb] at c1 c2
  rw [← hb, ← hy, ← hz] at c3 c4
  have T0 := hide h
  have C1 := hide c1
  have C2 := hide c2
  have C3 := hide c3
  have C4 := hide c4
  have g1 : ((x : Int) == (x : Int)) = true := by simp
  have g2 : (b == b) = true := by simp
  have g3 : ((y : Int) == (y : Int)) = true := by simp
  have g4 : ((z : Int) == (z : Int)) = true := by simp
  have g5 : ((s.l.length : Int) == (s.l.length : Int)) = true := by simp
  have g6 : ((s.now : Int) == (s.now : Int)) = true := by simp
  clear h hx hb hy hz c1 c2 c3 c4
  go_enter Try.func22, Try.ntmps22
  go_wp2_with fail
  go_at_call 25
  refine (C1.out _ T0.out.ps).mono ?_
  rintro e w1 ⟨rfl, b1⟩
  have T1 := hide (T0.out.below C b1).1
  have B1 := hide b1
  clear b1
  go_wp2_with fail
  go_at_call 35
  refine (C2.out _ T1.out.ds).mono ?_
  rintro e w2 ⟨rfl, rfl⟩
  go_wp2_with fail
  go_at_call 24
  refine (C3.out _ T1.out.ps).mono ?_
  rintro e w3 ⟨rfl, b3⟩
  have T3 := hide (T1.out.below C b3).1
  have B3 := hide (B1.out.trans (b3.mono B1.out.size))
  clear b3
  go_wp2_with fail
  go_at_call 36
  refine (C4.out _ T3.out.ds).mono ?_
  rintro e w4 ⟨rfl, m4, rfl⟩
  have T4 := hide (T3.out.below C (below_drewN (Below.refl _ _) m4)).1
  have B4 := hide (below_drewN B3.out m4)
  go_upto_region 5 with fail
  generalize w3.drewN m4 = w4 at *
  have q4 := And.intro T4.out.ds.s0 T4.out.ds.row
  obtain ⟨aa, cc, r1, _⟩ := T4.out.ds.row
  have q4 := And.intro T4.out.ds.s0 r1
  have CE := hide (show ∀ w5, Below w4.heap.size w4 w5 → w5.cell? ⟨R, 0, none⟩ = some (.int .i64 (s.now : Int)) ∧ w5.cell? ⟨R, 1, none⟩ = some (.slice aa s.l.length cc) from fun w5 b5 => ⟨(b5.cell (p := ⟨R, 0, none⟩) (lt_of_cell? q4.1)).trans q4.1, (b5.cell (p := ⟨R, 1, none⟩) (lt_of_cell? q4.2)).trans q4.2⟩)
  clear r1
  go_region_held3 (fun w' => w'.cell? ⟨R, 0, none⟩ = some (.int .i64 (s.now : Int)) ∧ w'.cell? ⟨R, 1, none⟩ = some (.slice aa s.l.length cc)) (first | exact q4 | exact q5 | exact q6) (first
    | (go_at_call 23; refine (C.len (T4.out.below C (below_drewN (Below.refl _ _) 1)).1.ps).mono ?_; rintro e w5 ⟨rfl, b5⟩; have T5 := hide ((T4.out.below C (below_drewN (Below.refl _ _) 1)).1.below C b5).1; have B5 := hide ((below_drewN B4.out 1).trans (b5.mono B4.out.size)); have q5 := CE.out w5 ((below_drewN (Below.refl w4.heap.size w4) 1).trans b5); clear b5)
    | (go_at_call 26; refine (C.now T5.out.ps).mono ?_; rintro e w6 ⟨rfl, b6⟩; have B6 := hide (B5.out.trans (b6.mono B5.out.size)); have q6 := And.intro ((b6.cell (p := ⟨R, 0, none⟩) (lt_of_cell? q5.1)).trans q5.1) ((b6.cell (p := ⟨R, 1, none⟩) (lt_of_cell? q5.2)).trans q5.2); clear b6))
  go_wp2_with fail
  go_ret
  exact ⟨rfl, B6.out⟩
end
end Go.Proofs.Ytpmggiahhjllcaa
