/-
  Contracts of the program's rank (PTable) and locks (PLocks, NilLocks), their memory left open; awake of stage 12; the law LocksNone.
-/
import Derived.Test.YteeofpjfgjhemaaLkFacts
import Derived.Test.YteeofpjfgjhemaaHelds
import Derived.Test.YteeofpjfgjhemaaSame
import Derived.Test.YteeofpjfgjhemaaFrLow
namespace Go.Proofs.Yteeofpjfgjhemaa
open Go.ChangeShapes Go.WideShapes Go.ChangeAt Go.RowKit
set_option linter.unusedVariables false
/-- The program's rank, by the blocks that are its table's. -/
structure PTable (PT : World → (Nat → Prop) → Nat → List Mu → Prop) : Prop where
  keep : ∀ {V Q : Nat → Prop} {w w' : World} {T : Nat} {ms : List Mu}, PT w Q T ms → Touch V w w' → (∀ i, Q i → ¬ V i) → PT w' Q T ms
  lt : ∀ {Q : Nat → Prop} {w : World} {T : Nat} {ms : List Mu}, PT w Q T ms → ∀ i, Q i → i < w.heap.size
  newGood : ∀ (w : World) (a : Option Addr) (n c : Nat) (ms : List Mu), Reads 2 muVals w a n ms → (∀ m ∈ ms, MuWf w m) → n ≤ c → c ≤ maxLen → (a = none → c = 0) → n ≤ 30 → goodMu ms = true →
    Calls Try.prog 9 #[.slice a n c] w fun e w' => ∃ T Q, e = .returned (.tuple #[.pointer (some ⟨T, 0, none⟩), .int .i64 0]) ∧ PT w' Q T ms ∧ Below w.heap.size w w' ∧ ∀ i, Q i → w.heap.size ≤ i
  newBad : ∀ (w : World) (a : Option Addr) (n c : Nat) (ms : List Mu), Reads 2 muVals w a n ms → (∀ m ∈ ms, MuWf w m) → n ≤ c → c ≤ maxLen → (a = none → c = 0) → n ≤ 30 → goodMu ms = false →
    Calls Try.prog 9 #[.slice a n c] w fun e w' => e = .returned (.tuple #[.pointer none, .int .i64 2]) ∧ Below w.heap.size w w'
  rank : ∀ {Q : Nat → Prop} {w : World} {T : Nat} {ms : List Mu}, PT w Q T ms → ∀ {m : Int}, (Lit.int .i64 m).wf = true → Calls Try.prog 18 #[.pointer (some ⟨T, 0, none⟩), .int .i64 m] w fun e w' => e = .returned (.int .i64 (rankMu ms m)) ∧ Below w.heap.size w w'
/-- A call that changes: what it answers, what is then. -/
def SideK (P : World → (Nat → Prop) → Prop) (U : Nat → Prop) (w : World) (v : Value) (e : Ending) (w' : World) : Prop :=
  e = .returned v ∧ ∃ U', P w' U' ∧ Touch U w w' ∧ ∀ i, U' i → U i ∨ w.heap.size ≤ i
/-- A row of those that are woken, which is nobody's. -/
def WokenRow (W : Int → Prop) (U U' : Nat → Prop) (w w' : World) (v : Value) (R : List Int) : Prop :=
  R.Pairwise (· < ·) ∧ (∀ x, x ∈ R ↔ W x) ∧ w'.ownsRow 0 3 1 v R.length (R.map (Value.int .i64)) ∧ ∀ i, v.ownBlock = some i → ¬ U' i ∧ (U i ∨ w.heap.size ≤ i)
/-- The same with a row of those that are woken; f: how it stands in what is answered. -/
def WakeK (P : World → (Nat → Prop) → Prop) (W : Int → Prop) (U : Nat → Prop) (w : World) (f : Value → Value) (e : Ending) (w' : World) : Prop :=
  ∃ v R, e = .returned (f v) ∧ ∃ U', WokenRow W U U' w w' v R ∧ P w' U' ∧ Touch U w w' ∧ ∀ i, U' i → U i ∨ w.heap.size ≤ i
def hvsL (s : Lks) (t : Int) : List Hv := (holds s t).map fun x => ⟨x.m, x.k⟩
/-- The program's locks: U its own blocks, Q the table's. -/
structure PLocks (PT : World → (Nat → Prop) → Nat → List Mu → Prop) (PK : World → (Nat → Prop) → (Nat → Prop) → Nat → Nat → Lks → Prop) : Prop where
  keep : ∀ {V U Q : Nat → Prop} {w w' : World} {T S : Nat} {s : Lks}, PK w U Q T S s → Touch V w w' → (∀ i, U i ∨ Q i → ¬ V i) → PK w' U Q T S s
  lt : ∀ {U Q : Nat → Prop} {w : World} {T S : Nat} {s : Lks}, PK w U Q T S s → ∀ i, U i ∨ Q i → i < w.heap.size
  good : ∀ {U Q : Nat → Prop} {w : World} {T S : Nat} {s : Lks}, PK w U Q T S s → GoodK s
  dis : ∀ {U Q : Nat → Prop} {w : World} {T S : Nat} {s : Lks}, PK w U Q T S s → ∀ i, U i → ¬ Q i
  tab : ∀ {U Q : Nat → Prop} {w : World} {T S : Nat} {s : Lks}, PK w U Q T S s → PT w Q T s.ms
  new : ∀ {w : World} {Q : Nat → Prop} {T : Nat} {ms : List Mu}, PT w Q T ms →
    Calls Try.prog 10 #[.pointer (some ⟨T, 0, none⟩)] w fun e w' => ∃ S U, e = .returned (.pointer (some ⟨S, 0, none⟩)) ∧ PK w' U Q T S ⟨ms, [], []⟩ ∧ Below w.heap.size w w' ∧ ∀ i, U i → w.heap.size ≤ i
  lock : ∀ {U Q : Nat → Prop} {w : World} {T S : Nat} {s : Lks}, PK w U Q T S s → ∀ {t m : Int}, (Lit.int .i64 t).wf = true → (Lit.int .i64 m).wf = true → t < 1000000 →
    Calls Try.prog 12 #[.pointer (some ⟨S, 0, none⟩), .int .i64 t, .int .i64 m] w (SideK (fun w' U' => PK w' U' Q T S (lockS s t m)) U w (.tuple #[.bool (lockB s t m), .int .i64 (lockE s t m)]))
  unlock : ∀ {U Q : Nat → Prop} {w : World} {T S : Nat} {s : Lks}, PK w U Q T S s → ∀ {t m : Int}, (Lit.int .i64 t).wf = true → (Lit.int .i64 m).wf = true →
    Calls Try.prog 13 #[.pointer (some ⟨S, 0, none⟩), .int .i64 t, .int .i64 m] w (WakeK (fun w' U' => PK w' U' Q T S (unlockS s t m)) (unlockW s t m) U w (fun v => .tuple #[v, .int .i64 (unlockE s t m)]))
  leave : ∀ {U Q : Nat → Prop} {w : World} {T S : Nat} {s : Lks}, PK w U Q T S s → ∀ {t : Int}, (Lit.int .i64 t).wf = true →
    Calls Try.prog 14 #[.pointer (some ⟨S, 0, none⟩), .int .i64 t] w (WakeK (fun w' U' => PK w' U' Q T S (leaveS s t)) (leaveW s t) U w (fun v => v))
  run : ∀ {U Q : Nat → Prop} {w : World} {T S : Nat} {s : Lks}, PK w U Q T S s → ∀ {t n : Int}, (Lit.int .i64 t).wf = true → (Lit.int .i64 n).wf = true →
    Calls Try.prog 21 #[.pointer (some ⟨S, 0, none⟩), .int .i64 t, .int .i64 n] w (SideK (fun w' U' => PK w' U' Q T S (runS s t n)) U w (.tuple #[]))
  over : ∀ {U Q : Nat → Prop} {w : World} {T S : Nat} {s : Lks}, PK w U Q T S s → ∀ {t n : Int}, (Lit.int .i64 t).wf = true → (Lit.int .i64 n).wf = true →
    Calls Try.prog 23 #[.pointer (some ⟨S, 0, none⟩), .int .i64 t, .int .i64 n] w fun e w' => e = .returned (.bool (overL s t n)) ∧ Below w.heap.size w w'
  held : ∀ {U Q : Nat → Prop} {w : World} {T S : Nat} {s : Lks}, PK w U Q T S s → ∀ {t : Int}, (Lit.int .i64 t).wf = true →
    Calls Try.prog 15 #[.pointer (some ⟨S, 0, none⟩), .int .i64 t] w fun e w' => ∃ v, e = .returned v ∧ w'.ownsRow w.heap.size 44 2 v (holds s t).length ((hvsL s t).flatMap hvVals) ∧ Below w.heap.size w w'
  owner : ∀ {U Q : Nat → Prop} {w : World} {T S : Nat} {s : Lks}, PK w U Q T S s → ∀ {m : Int}, (Lit.int .i64 m).wf = true →
    Calls Try.prog 17 #[.pointer (some ⟨S, 0, none⟩), .int .i64 m] w fun e w' => e = .returned (.int .i64 (ownL s m)) ∧ Below w.heap.size w w'
  owners : ∀ {U Q : Nat → Prop} {w : World} {T S : Nat} {s : Lks}, PK w U Q T S s →
    Calls Try.prog 19 #[.pointer (some ⟨S, 0, none⟩)] w fun e w' => ∃ v, e = .returned v ∧ w'.ownsRow w.heap.size 3 1 v s.ms.length ((ownersL s).map (Value.int .i64)) ∧ Below w.heap.size w w'
  waits : ∀ {U Q : Nat → Prop} {w : World} {T S : Nat} {s : Lks}, PK w U Q T S s → ∀ {t : Int}, (Lit.int .i64 t).wf = true →
    Calls Try.prog 16 #[.pointer (some ⟨S, 0, none⟩), .int .i64 t] w fun e w' => e = .returned (.int .i64 (waitL s t)) ∧ Below w.heap.size w w'
/-- Of no locks. -/
structure NilLocks : Prop where
  lock : ∀ (w : World) (t m : Int), Calls Try.prog 12 #[.pointer none, .int .i64 t, .int .i64 m] w fun e w' => e = .returned (.tuple #[.bool false, .int .i64 1]) ∧ Below w.heap.size w w'
  unlock : ∀ (w : World) (t m : Int), Calls Try.prog 13 #[.pointer none, .int .i64 t, .int .i64 m] w fun e w' => ∃ a c, e = .returned (.tuple #[.slice a 0 c, .int .i64 1]) ∧ Below w.heap.size w w'
  leave : ∀ (w : World) (t : Int), Calls Try.prog 14 #[.pointer none, .int .i64 t] w fun e w' => ∃ a c, e = .returned (.slice a 0 c) ∧ Below w.heap.size w w'
  run : ∀ (w : World) (t n : Int), Calls Try.prog 21 #[.pointer none, .int .i64 t, .int .i64 n] w fun e w' => e = .returned (.tuple #[]) ∧ Below w.heap.size w w'
  over : ∀ (w : World) (t n : Int), Calls Try.prog 23 #[.pointer none, .int .i64 t, .int .i64 n] w fun e w' => e = .returned (.bool false) ∧ Below w.heap.size w w'
  held : ∀ (w : World) (t : Int), Calls Try.prog 15 #[.pointer none, .int .i64 t] w fun e w' => ∃ a c, e = .returned (.slice a 0 c) ∧ Below w.heap.size w w'
  owner : ∀ (w : World) (m : Int), Calls Try.prog 17 #[.pointer none, .int .i64 m] w fun e w' => e = .returned (.int .i64 (-1)) ∧ Below w.heap.size w w'
  owners : ∀ (w : World), Calls Try.prog 19 #[.pointer none] w fun e w' => ∃ a c, e = .returned (.slice a 0 c) ∧ Below w.heap.size w w'
  waits : ∀ (w : World) (t : Int), Calls Try.prog 16 #[.pointer none, .int .i64 t] w fun e w' => e = .returned (.int .i64 (-1)) ∧ Below w.heap.size w w'
theorem rises_ext : ∀ {l r : List Int}, l.Pairwise (· < ·) → r.Pairwise (· < ·) → (∀ x, x ∈ l ↔ x ∈ r) → l = r := by
  intro l
  induction l with
  | nil =>
    intro r _ _ h
    cases r with
    | nil => rfl
    | cons b r => have := (h b).2 (List.mem_cons_self ..); cases this
  | cons a l ih =>
    intro r hl hr h
    cases r with
    | nil => have := (h a).1 (List.mem_cons_self ..); cases this
    | cons b r =>
      rw [List.pairwise_cons] at hl hr
      have hab : a = b := by
        have h1 := (h a).1 (List.mem_cons_self ..)
        have h2 := (h b).2 (List.mem_cons_self ..)
        rcases List.mem_cons.1 h1 with e | e
        · exact e
        · rcases List.mem_cons.1 h2 with f | f
          · exact f.symm
          · have := hl.1 b f; have := hr.1 a e; omega
      subst hab
      congr 1
      refine ih hl.2 hr.2 fun x => ?_
      have hx := h x
      simp only [List.mem_cons] at hx
      constructor
      · intro hm
        rcases hx.1 (.inr hm) with e | e
        · have := hl.1 x hm; omega
        · exact e
      · intro hm
        rcases hx.2 (.inr hm) with e | e
        · have := hr.1 x hm; omega
        · exact e
/-- Blocks of a touch that lie apart. -/
theorem PLocks.below {PT : World → (Nat → Prop) → Nat → List Mu → Prop} {PK : World → (Nat → Prop) → (Nat → Prop) → Nat → Nat → Lks → Prop} (C : PLocks PT PK) {U Q : Nat → Prop} {w w' : World} {T S : Nat} {s : Lks} (h : PK w U Q T S s) (b : Below w.heap.size w w') : PK w' U Q T S s :=
  C.keep h (Touch.of_below (S := fun _ => False) b) (fun _ _ e => e)
theorem PTable.below {PT : World → (Nat → Prop) → Nat → List Mu → Prop} (C : PTable PT) {Q : Nat → Prop} {w w' : World} {T : Nat} {ms : List Mu} (h : PT w Q T ms) (b : Below w.heap.size w w') : PT w' Q T ms :=
  C.keep h (Touch.of_below (S := fun _ => False) b) (fun _ _ e => e)
end Go.Proofs.Yteeofpjfgjhemaa
