/-
  Several texts as one: SeqKit SeqBy.
-/
import Derived.RangeFuncNested
import Derived.RangeFuncBound
import Derived.RangeFuncCalls
import Derived.RangeFuncLeaves
import Derived.Shelf.Abstract
import Derived.Shelf.RegionOpen
import Derived.WalkKit
import Derived.OwnWalkIn
import Derived.TacticsInMore
import Derived.LoopNIn
import Derived.LoopIn
import Derived.Deep.RegionHeld3
import Derived.Test.YtndfnglcichngaaGreatDoorPa07
namespace Go.Proofs.YtndfnglcichngaaGreatDoor
open Go.ChangeShapes Go.WideShapes Go.ChangeAt Go.RowKit Go.Shelf
set_option linter.unusedVariables false
/-- What a call that only makes new blocks leaves. -/
theorem Touch.of_below' {S : Nat → Prop} {w w' : World} {B : Nat} (hB : w.heap.size ≤ B) (h : Below w.heap.size w w') : Touch S w w' := Touch.of_below h
theorem touchK_t {V : Nat → Prop} {A B C : World} (h : Touch V A B) (k : Touch V B C) : Touch V A C := h.trans k (fun _ hi => .inl hi)
theorem touchK_b {V : Nat → Prop} {w : World} (hV : ∀ i, w.heap.size ≤ i → V i) (W : World) (l : Nat) (o o' : Obj) (hl : w.heap.size ≤ l) (_ : W.heap[l]? = some o) (_ : o.isCells = false) (_ : o.isWalk = false) : Touch V W (W.putObj l o') :=
  Touch.of_grown (grownBy_putObj' W l o') (fun k e => by cases e; exact hV _ hl)
theorem ownFrom_touch {β : Type} {V : Nat → Prop} {B : Nat} {w₀ : World} (hB : ∀ i, B ≤ i → V i) : OwnFrom B (fun (_ : β) W => Touch V w₀ W) :=
  fun _ X Y row hs hg hr => hs.trans (S' := V) (Touch.of_grown hg (fun k e => hB _ (hr k e).1)) (fun _ hi => .inl hi)
/-- A step of the iterator's own that only makes new blocks. -/
theorem grown_of_below {w w' : World} (h : Below w.heap.size w w') : w.grownBy w' none := ⟨h.os, h.tape, h.output, h.size, fun k hk _ => h.block k hk⟩
theorem abides_below {β : Type} {B : Nat} {J : β → World → Prop} (h : AbidesFrom B J) {s : β} {w w' : World} (hj : J s w) (b : Below w.heap.size w w') : J s w' := h s w w' none hj (grown_of_below b) (fun _ e => by cases e)
/-- A step that only makes new blocks keeps whatever lay. -/
theorem keepsFrom_below {B : Nat} {W W' : World} (h : Below W.heap.size W W') : KeepsFrom B W W' := ⟨h.size, fun k o _ hk _ => (h.block k (lt_of_heap hk)).trans hk⟩
theorem boxed_below {W W' : World} {B : Nat} {t : TypeId} {v : Value} (h : Boxed W B t v) (b : Below W.heap.size W W') : Boxed W' B t v := (b.block B h.lt).trans h
theorem boxed_touch {V : Nat → Prop} {W W' : World} {B : Nat} {t : TypeId} {v : Value} (h : Boxed W B t v) (b : Touch V W W') (d : ¬ V B) : Boxed W' B t v := (b.block B h.lt d).trans h
section
variable {P : Program} {ops : Array Oper} {Q : Exit → Act → World → Prop} {md : Region.Mode} {l n : Nat}
/-- No operation of the region is a defer statement. -/
def noDefer (ops : Array Oper) : Bool := ops.all fun o => match o.op with | .defer _ => false | _ => true
theorem noDefer_at {o : Oper} {i : Nat} (h : noDefer ops = true) (ho : ops[i]? = some o) : ∀ c, o.op ≠ .defer c := by
  intro c hc
  have hi := (Array.getElem?_eq_some_iff.1 ho)
  obtain ⟨hlt, e⟩ := hi
  have := (Array.all_eq_true.1 h) i hlt
  rw [e, hc] at this
  cases this
theorem operIn_round {o : Oper} {a : Act} {w : World} {K : Act → World → Prop} (hd : ∀ c, o.op ≠ .defer c) (h : o.wp P a w K Q) : o.wpIn (Fence.wide.inRound l) n P a w K Q := by
  refine ⟨fun _ _ => trivial, ?_⟩
  rw [Oper.semAt_eq _ _ _ hd]
  unfold Oper.wp at h
  generalize (execOp a.eval o).run P w = r at *
  have hdep : (Fence.wide.inRound l).depth.isSome = true → 1 ≤ n := fun e => by cases e
  cases r with
  | ok x w' =>
    cases x <;> simp only [Oper.upon, Oper.uponIn] at h ⊢ <;>
      first
        | exact h
        | exact ⟨hdep, CallsIn.inRound l (callsIn_wide.2 h)⟩
        | exact ⟨hdep, fun c cs _ => let ⟨v, w', r, s⟩ := h c cs; ⟨v, w', r, stepsIn_wide.2 s⟩⟩
  | halt x w' => cases x <;> simp only [Oper.upon, Oper.uponIn] at h ⊢ <;> exact h
theorem wpOpIn_round {i : Nat} {a : Act} {w : World} {K : Act → World → Prop} (hd : noDefer ops = true) (hQ : ¬ LetsOut Q) (h : wpOp P ops Q i K a w) : wpOpIn (Fence.wide.inRound l) n P ops Q i K a w := by
  unfold wpOp at h
  unfold wpOpIn
  split
  · rename_i ho; simpa [ho] using h
  · rename_i o ho
    simp only [ho] at h
    split
    · rename_i hw
      simp only [hw, if_true] at h
      rcases h with h | h
      · exact operIn_round (noDefer_at hd ho) h
      · exact absurd h.2 hQ
    · rename_i hw
      simp only [hw] at h
      exact ⟨fun _ _ => trivial, h⟩
theorem wpAnyIn_round (hd : noDefer ops = true) (hQ : ¬ LetsOut Q) : ∀ (fuel : Nat) (listed : Array Bool) (a : Act) (w : World), wpAny P md ops Q fuel listed a w → wpAnyIn (Fence.wide.inRound l) n P md ops Q fuel listed a w
  | 0, _, _, _, h => h
  | fuel + 1, _, _, _, h => ⟨h.1, fun i hi => wpOpIn_round hd hQ (wpOp_mono (fun a' w' h' => wpAnyIn_round hd hQ fuel _ a' w' h') (h.2 i hi))⟩
/-- A region that draws, within a round: by its orders, as everywhere. -/
theorem region_round {id : Nat} {a : Act} {w : World} {S : World → Prop} (hd : noDefer ops = true) (hQ : ∀ e a w, NoPanic Q e a w → e ≠ .outgrown) (hm : P.follows .mixedOrders = true) (hS : S w.drew)
    (h : S w.drew → wpAnyH P .any ops (NoPanic Q) S ops.size (Array.replicate ops.size false) a w.drew) : (Code.region id ops true).wpIn (Fence.wide.inRound l) n P Q a w :=
  wpIn_mono (wpIn_region_any hm (wpAnyIn_round hd (fun ⟨a, w, hq⟩ => hQ _ _ _ hq rfl) _ _ _ _ (wpAny_of_held _ _ _ _ (h hS)))) NoPanic.imp
end
end Go.Proofs.YtndfnglcichngaaGreatDoor
namespace Go.Proofs.YtndfnglcichngaaGreatDoor
open Go.ChangeShapes Go.WideShapes Go.ChangeAt Go.RowKit Go.Shelf
set_option linter.unusedVariables false
section
variable {F : Fence} {n : Nat} {P : Program} {α : Type}
/-- An iterator whose own steps are St: it hands xs, S xs, or a part, Sp, to any round that keeps Kp and a predicate that bears St. -/
def SeqBy (F : Fence) (n : Nat) (P : Program) (g : Nat) (lb : Array Value) (encs : α → Array Value) (Kp St : World → World → Prop) (S Sp : List α → Prop) (N : Nat) (w : World) : Prop :=
  ∀ (l : Nat) (J Jx : List α → World → Prop) (W : World), Below w.heap.size w W → (∀ s A B, J s A → St A B → J s B) → (∀ s A B, Jx s A → St A B → Jx s B) → J [] W →
    (∀ pre x A, J pre A → pre.length < N → YieldAt F (n - 1) P l (encs x) A fun e B => (e = .returned (.bool true) ∧ J (pre ++ [x]) B ∧ Kp A B) ∨ (e = .returned (.bool false) ∧ Jx (pre ++ [x]) B)) →
    CallsIn F n P g (#[.func (.yield l) #[] #[]] ++ lb) W fun e B => (∃ v, e = .returned v) ∧ ((∃ xs, S xs ∧ J xs B) ∨ (∃ pre, Sp pre ∧ Jx pre B))
/-- The loop's two blocks: its record r at l + 1, no deferred calls at l. -/
def LoopMk (l : Nat) (r : Loop) (W : World) : Prop := W.heap[l + 1]? = some (.loop r) ∧ W.heap[l]? = some (.deferred (some []))
theorem LoopMk.put {l : Nat} {r : Loop} {W : World} (h : LoopMk l r W) (r' : Loop) : LoopMk l r' (W.putObj (l + 1) (.loop r')) :=
  ⟨World.putObj_heap_same (lt_of_heap h.1), (World.putObj_heap_other (by omega)).trans h.2⟩
theorem LoopMk.keep {l : Nat} {r : Loop} {W W' : World} (h : LoopMk l r W) (k : ∀ (i : Nat) (o : Obj), l ≤ i → W.heap[i]? = some o → o.isCells = false → W'.heap[i]? = some o) : LoopMk l r W' :=
  ⟨k _ _ (by omega) h.1 rfl, k _ _ (Nat.le_refl _) h.2 rfl⟩
theorem LoopMk.new (w : World) (r : Loop) : LoopMk w.heap.size r ((w.alloc (.deferred (some []))).alloc (.loop r)) := by
  refine ⟨?_, (Below.heap_alloc _ _ _ (by simp)).trans (World.alloc_heap_new w _)⟩
  have := World.alloc_heap_new (w.alloc (.deferred (some []))) (.loop r)
  rwa [World.size_alloc] at this
/-- How a round's body may be left, as one word: the jump, if any. -/
def jumpOf : Exit → Option (Option Code)
  | .normal => some none
  | .ret => some (some .ret)
  | .exit id => some (some (.exit id))
  | .goto t => some (some (.goto t))
  | .panic _ => none
  | .outgrown => none
theorem wpIn_rangeFunc_by {g : Operand} {ps : Array Tmp} {assign body : Code} {Q : Exit → Act → World → Prop} {a : Act} {w : World}
    (hro : F.round = none) (h1 : 1 ≤ n) {gf : Nat} {lb : Array Value} (hg : a.eval g = .func (.func gf) #[] lb) (hFg : F.fn gf) (eg : ∀ args w, (callFunc gf args).run P w = .ok (.enter gf args) w)
    {encs : α → Array Value} {Kp St : World → World → Prop} {S Sp : List α → Prop} {N : Nat} (hseq : SeqBy F (n - 1) P gf lb encs Kp St S Sp N w)
    (hKt : ∀ {A B C : World}, Kp A B → Kp B C → Kp A C) (hKb : ∀ (W : World) (l : Nat) (o o' : Obj), w.heap.size ≤ l → W.heap[l]? = some o → o.isCells = false → o.isWalk = false → Kp W (W.putObj l o'))
    (hSk : ∀ A B, St A B → ∀ (i : Nat) (o : Obj), w.heap.size ≤ i → A.heap[i]? = some o → o.isCells = false → B.heap[i]? = some o) (hps : ∀ x, (encs x).size = ps.size)
    (I : List α → World → Prop) (Ix : Code → List α → World → Prop) (hI : OwnFrom w.heap.size I) (hIx : ∀ c, OwnFrom w.heap.size (Ix c)) (hIs : ∀ s A B, I s A → St A B → I s B) (hIxs : ∀ c s A B, Ix c s A → St A B → Ix c s B)
    (h0 : I [] w) (a₁ : α → Act)
    (hassign : ∀ (l : Nat) (x : α) (W : World) (K : Act → World → Prop), K (a₁ x) W →
      assign.wpIn (F.inRound l) (n - 1 - 1) P (Exit.then K (fun _ _ _ => False)) { tmps := (ps.zip (encs x)).foldl (fun t (p, v) => t.setIfInBounds p v) a.tmps, defers := [] } W)
    (hbody : ∀ (l : Nat) (pre : List α) (x : α) (W : World), I pre W → pre.length < N → body.wpIn (F.inRound l) (n - 1 - 1) P (ownPostG w.heap.size Kp I Ix (pre ++ [x]) W) (a₁ x) W)
    (hdone : ∀ (D : Nat) (xs : List α) (W : World), w.heap.size ≤ D → S xs → I xs W → W.heap[D]? = some (.deferred (some [])) → Q .normal { a with defers := { target := .collected D, args := #[] } :: a.defers } W)
    (hstop : ∀ (D : Nat) (c : Code) (pre : List α) (W : World), w.heap.size ≤ D → Sp pre → Ix c pre W → W.heap[D]? = some (.deferred (some [])) → c.wpIn F n P Q { a with defers := { target := .collected D, args := #[] } :: a.defers } W) :
    (Code.rangeFunc g ps assign body).wpIn F n P Q a w := by
  refine wpIn_rangeFunc fun fn hfn => ?_
  rw [hro]
  obtain ⟨r0, hr0⟩ : ∃ r0 : Loop, r0 = { state := .ready, pending := none, fn, tmps := a.tmps, params := ps, assign, body, defers := w.heap.size } := ⟨_, rfl⟩
  obtain ⟨dn, hdn⟩ : ∃ dn : Code → Loop, dn = fun c => { r0 with state := .done, pending := some c } := ⟨_, rfl⟩
  obtain ⟨W1, hW1⟩ : ∃ W1, W1 = (w.alloc (.deferred (some []))).alloc (.loop r0) := ⟨_, rfl⟩
  have M1 : LoopMk w.heap.size r0 W1 := by rw [hW1]; exact LoopMk.new w r0
  have B1 : Below w.heap.size w W1 := by rw [hW1]; exact (((Below.refl w.heap.size w).alloc (Nat.le_refl _) _).alloc (by simp) _)
  have I1 : I [] W1 := by rw [hW1]; exact hI.alloc _ (hI.alloc _ h0)
  refine ⟨w.heap.size + 1, [{ target := .collected w.heap.size, args := #[] }], W1, { target := .fn (.func gf) lb, args := #[.func (.yield (w.heap.size + 1)) #[] #[]] }, W1, gf, #[.func (.yield (w.heap.size + 1)) #[] #[]] ++ lb, W1, ?_, ?_, ?_, ?_, fun _ => h1, ?_⟩
  · rw [hW1, hr0]; exact run_enterLoop_outer _ _ _ _ _
  · simp only [resolve, hg]
    simp [go_sem]
  · intro f' h; simp [Target.leads] at h; subst h; exact hFg
  · simp [invoke, go_sem, eg]
  refine (hseq (w.heap.size + 1) (fun pre W => I pre W ∧ LoopMk w.heap.size r0 W) (fun pre W => ∃ c, Ix c pre W ∧ LoopMk w.heap.size (dn c) W) W1 B1
    (fun s A B h k => ⟨hIs s A B h.1 k, h.2.keep (hSk A B k)⟩) (fun s A B h k => by obtain ⟨c, h1, h2⟩ := h; exact ⟨c, hIxs c s A B h1 k, h2.keep (hSk A B k)⟩) ⟨I1, M1⟩ ?_).mono ?_
  · rintro pre x A ⟨hi, hm⟩ hlen
    have hy := run_yield (P := P) (args := encs x) hm.1 (by rw [hr0]; exact hps x)
    refine ⟨r0.fn, _, r0.assign, r0.body, hy, ?_⟩
    have e1 : r0.fn = fn := by rw [hr0]
    have e2 : r0.assign = assign := by rw [hr0]
    have e3 : r0.body = body := by rw [hr0]
    have e4 : r0.params = ps := by rw [hr0]
    have e5 : r0.tmps = a.tmps := by rw [hr0]
    have e6 : r0.state = .ready := by rw [hr0]
    rw [e1, e2, e3, e4, e5]
    refine roundIn_of_wpIn hfn (hassign _ x A _ ⟨_, run_beginRound hm.1 e6, ?_⟩)
    obtain ⟨rb, hrb⟩ : ∃ rb : Loop, rb = { r0 with state := .busy } := ⟨_, rfl⟩
    rw [← hrb]
    have mb := hm.put rb
    have kb : Kp A (A.putObj (w.heap.size + 1) (.loop rb)) := hKb _ _ _ _ (by omega) hm.1 rfl rfl
    refine wpIn_mono (hbody _ pre x _ (hI.putObj _ hi (by omega) hm.1 rfl) hlen) ?_
    have fin : ∀ (j : Option Code) (C : World), KeepsFrom w.heap.size (A.putObj (w.heap.size + 1) (.loop rb)) C → (Instr.endRound (w.heap.size + 1) j).run P C = .ok (.bool j.isNone) (C.putObj (w.heap.size + 1) (.loop { r0 with state := if j.isNone then .ready else .done, pending := j })) ∧ LoopMk w.heap.size rb C := fun j C k => by
      have m3 := mb.keep (W' := C) k.same
      have := run_endRound (P := P) j m3.1
      rw [hrb] at this
      exact ⟨this, m3⟩
    rintro e a3 C hp
    have back : ∀ (c : Code), KeepsFrom w.heap.size (A.putObj (w.heap.size + 1) (.loop rb)) C → Ix c (pre ++ [x]) C → ∃ (v : Value) (D : World), (Instr.endRound (w.heap.size + 1) (some c)).run P C = .ok v D ∧ v = .bool false ∧ ∃ c, Ix c (pre ++ [x]) D ∧ LoopMk w.heap.size (dn c) D := fun c k hi3 => by
      obtain ⟨hr, m3⟩ := fin (some c) C k
      exact ⟨_, _, hr, rfl, c, (hIx c).putObj _ hi3 (by omega) m3.1 rfl, by rw [hdn]; exact m3.put _⟩
    cases e with
    | normal =>
      obtain ⟨k, kp, hi3⟩ := hp
      obtain ⟨hr, m3⟩ := fin none C k
      refine ⟨_, _, hr, .inl ⟨rfl, ⟨hI.putObj _ hi3 (by omega) m3.1 rfl, ?_⟩, hKt (hKt kb kp) (hKb _ _ _ _ (by omega) m3.1 rfl rfl)⟩⟩
      have := m3.put { r0 with state := .ready, pending := none }
      have e7 : { r0 with state := .ready, pending := none } = r0 := by rw [hr0]
      rw [e7] at this
      simpa [e7] using this
    | ret => obtain ⟨v, D, h1, rfl, h2⟩ := back .ret hp.1 hp.2; exact ⟨_, _, h1, .inr ⟨rfl, h2⟩⟩
    | exit id => obtain ⟨v, D, h1, rfl, h2⟩ := back (.exit id) hp.1 hp.2; exact ⟨_, _, h1, .inr ⟨rfl, h2⟩⟩
    | goto t => obtain ⟨v, D, h1, rfl, h2⟩ := back (.goto t) hp.1 hp.2; exact ⟨_, _, h1, .inr ⟨rfl, h2⟩⟩
    | panic ch => exact hp.elim
    | outgrown => exact hp.elim
  · rintro e B ⟨⟨v, rfl⟩, (⟨xs, hS, hi, hm⟩ | ⟨pre, hSp, c, hi, hm⟩)⟩
    · refine ⟨none, _, ?_, hdone _ xs _ (Nat.le_refl _) hS (hI.putObj (.loop { r0 with state := .exhausted, pending := none }) hi (by omega) hm.1 rfl) ((World.putObj_heap_other (by omega)).trans hm.2)⟩
      have := run_endLoop (P := P) hm.1 (by rw [hr0]; simp)
      rw [show r0.pending = none from by rw [hr0]] at this
      exact this
    · refine ⟨some c, _, ?_, hstop _ c pre _ (Nat.le_refl _) hSp ((hIx c).putObj (.loop { dn c with state := .exhausted, pending := some c }) hi (by omega) hm.1 rfl) ((World.putObj_heap_other (by omega)).trans hm.2)⟩
      have := run_endLoop (P := P) hm.1 (by rw [hdn]; simp)
      rw [show (dn c).pending = some c from by rw [hdn]] at this
      exact this
end
end Go.Proofs.YtndfnglcichngaaGreatDoor
