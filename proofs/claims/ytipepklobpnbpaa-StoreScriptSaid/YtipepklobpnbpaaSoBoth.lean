/-
  Contracts of the program's store (PStore), its memory left open; awake of stage 20.
-/
import Derived.Test.YtipepklobpnbpaaSoPlain
import Derived.Test.YtipepklobpnbpaaPairs
import Derived.Test.YtipepklobpnbpaaLow
import Derived.Test.YtipepklobpnbpaaBytes
import Derived.Test.YtipepklobpnbpaaFrNew
import Derived.Deep.DeepCutAuto
import Derived.Deep.CutBlock
import Derived.Deep.RegionLaw
import Derived.Lib.SmallJoins
namespace Go.Proofs.Ytipepklobpnbpaa
open Go.ChangeShapes Go.WideShapes Go.ChangeAt Go.RowKit
set_option linter.unusedVariables false
/-- What Read answers: a row of its own. -/
def ReadIs (s : So) (id off n : Int) (w : World) (e : Ending) (w' : World) : Prop :=
  ∃ v, e = .returned (.tuple #[v, .int .i64 (rdE s id off n : Nat)]) ∧ w'.ownsRow w.heap.size 5 1 v (rdB s id off n).length ((rdB s id off n).map (Value.int .u8)) ∧ Below w.heap.size w w'
structure PStore (PS : Nat → Rel So) : Prop where
  keeps : ∀ H, Keeps (PS H)
  good : ∀ {H : Nat} {U : Nat → Prop} {w : World} {S : Nat} {s : So}, PS H w U S s → GoodSo s
  few : ∀ {H : Nat} {U : Nat → Prop} {w : World} {S : Nat} {s : So}, PS H w U S s → s.fr ≤ 64
  new : ∀ {w : World} {H A Q N : Nat}, Fr w H A Q (St.new N) → Calls Try.prog 14 #[.pointer (some ⟨H, 0, none⟩)] w fun e w' => ∃ S U, e = .returned (.pointer (some ⟨S, 0, none⟩)) ∧ PS H w' U S ⟨[], N⟩ ∧ Below w.heap.size w w' ∧ ∀ i, U i → Blk H A Q i ∨ w.heap.size ≤ i
  mak : ∀ {H : Nat} {U : Nat → Prop} {w : World} {S : Nat} {s : So}, PS H w U S s → ∀ {id : Int}, (Lit.int .i64 id).wf = true → s.l.length < 1000000 →
    Calls Try.prog 16 #[.pointer (some ⟨S, 0, none⟩), .int .i64 id] w (SideO (fun w' U' => PS H w' U' S (mkS s id)) U w (.int .i64 (mkE s id : Nat)))
  dr : ∀ {H : Nat} {U : Nat → Prop} {w : World} {S : Nat} {s : So}, PS H w U S s → ∀ {id : Int}, (Lit.int .i64 id).wf = true →
    Calls Try.prog 18 #[.pointer (some ⟨S, 0, none⟩), .int .i64 id] w (SideO (fun w' U' => PS H w' U' S (drS s id)) U w (.int .i64 (thE s id : Nat)))
  ct : ∀ {H : Nat} {U : Nat → Prop} {w : World} {S : Nat} {s : So}, PS H w U S s → ∀ {id : Int}, (Lit.int .i64 id).wf = true →
    Calls Try.prog 28 #[.pointer (some ⟨S, 0, none⟩), .int .i64 id] w (SideO (fun w' U' => PS H w' U' S (ctS s id)) U w (.int .i64 (thE s id : Nat)))
  sz : ∀ {H : Nat} {U : Nat → Prop} {w : World} {S : Nat} {s : So}, PS H w U S s → ∀ {id : Int}, (Lit.int .i64 id).wf = true →
    Calls Try.prog 30 #[.pointer (some ⟨S, 0, none⟩), .int .i64 id] w fun e w' => e = .returned (.tuple #[.int .i64 (lenO (getFi s.l id) : Nat), .int .i64 (thE s id : Nat)]) ∧ Below w.heap.size w w'
  bk : ∀ {H : Nat} {U : Nat → Prop} {w : World} {S : Nat} {s : So}, PS H w U S s → ∀ {id : Int}, (Lit.int .i64 id).wf = true →
    Calls Try.prog 32 #[.pointer (some ⟨S, 0, none⟩), .int .i64 id] w fun e w' => e = .returned (.int .i64 (blkO (getFi s.l id) : Nat)) ∧ Below w.heap.size w w'
  rd : ∀ {H : Nat} {U : Nat → Prop} {w : World} {S : Nat} {s : So}, PS H w U S s → ∀ {id off n : Int}, (Lit.int .i64 id).wf = true → (Lit.int .i64 off).wf = true → (Lit.int .i64 n).wf = true →
    Calls Try.prog 20 #[.pointer (some ⟨S, 0, none⟩), .int .i64 id, .int .i64 off, .int .i64 n] w (ReadIs s id off n w)
  wr : ∀ {H : Nat} {U : Nat → Prop} {w : World} {S : Nat} {s : So}, PS H w U S s → ∀ {id off : Int}, (Lit.int .i64 id).wf = true → (Lit.int .i64 off).wf = true → ∀ {a : Option Addr} {m c : Nat} {ys : List Int}, Ints .u8 w a m ys → (a = none → c = 0) → Bytes ys → m ≤ 1000000 → (0 < m → ∀ b o, a = some ⟨b, o, none⟩ → ¬ U b) →
    Calls Try.prog 25 #[.pointer (some ⟨S, 0, none⟩), .int .i64 id, .int .i64 off, .slice a m c] w (SideO (fun w' U' => PS H w' U' S (wrS s id off ys)) U w (.int .i64 (wrE s id off m : Nat)))
  free : ∀ {H : Nat} {U : Nat → Prop} {w : World} {S : Nat} {s : So}, PS H w U S s →
    Calls Try.prog 34 #[.pointer (some ⟨H, 0, none⟩)] w fun e w' => e = .returned (.int .i64 (s.fr : Nat)) ∧ w = w'
theorem wf_k {x : Nat} (h : x ≤ 4000000) : (Lit.int .i64 (x : Int)).wf = true := wf_i (by omega) (by omega)
section
variable {PS : Nat → Rel So}
/-- A store over new frames: one object. -/
theorem one_store (C : PStore PS) {w w1 w2 : World} {H A Q N S : Nat} {U : Nat → Prop} (b1 : Below w.heap.size w w1) (lo : ∀ i, Blk H A Q i → w.heap.size ≤ i) (p2 : PS H w2 U S ⟨[], N⟩) (b2 : Below w1.heap.size w1 w2) (hU : ∀ i, U i → Blk H A Q i ∨ w1.heap.size ≤ i) : OneO (PS H) w w2 U [] S ⟨[], N⟩ :=
  OneO.first p2 (b1.trans (b2.mono b1.size)) (fun i hi => (hU i hi).elim (lo i) (fun e => Nat.le_trans b1.size e))
theorem ints_ab (w : World) (n : Nat) (hn : n = w.heap.size) (t : TypeId) (fr : Nat × Nat) : Ints .u8 (w.alloc (.cells #[.int .u8 97, .int .u8 98] t fr)) (some ⟨n, 0, none⟩) 2 [97, 98] := by
  subst hn
  refine ⟨rfl, fun _ => ⟨_, _, rfl, fun j hj => ?_⟩⟩
  rw [World.cell?_alloc_mark w _ t fr (0 + j)]
  match j, hj with
  | 0, _ => rfl
  | 1, _ => rfl
theorem ints_000ab (w : World) (n : Nat) (hn : n = w.heap.size) (t : TypeId) : Ints .u8 (w.alloc (.cells #[.int .u8 0, .int .u8 0, .int .u8 0, .int .u8 97, .int .u8 98] t)) (some ⟨n, 0, none⟩) 5 [0, 0, 0, 97, 98] := by
  subst hn
  refine ⟨rfl, fun _ => ⟨_, _, rfl, fun j hj => ?_⟩⟩
  match j, hj with
  | 0, _ => simp
  | 1, _ => simp
  | 2, _ => simp
  | 3, _ => simp
  | 4, _ => simp
theorem conv_ab (W : World) : (convert 39 39 (.slice (some ⟨W.heap.size, 0, none⟩) 2 2)).run Try.prog (W.alloc (.cells #[.int .u8 97, .int .u8 98] 5)) = .ok (.slice (some ⟨W.heap.size, 0, none⟩) 2 2) (W.alloc (.cells #[.int .u8 97, .int .u8 98] 5 (2, 3))) :=
  Joins.run_convert_bytes_const_at W _ _ _ 2 2 _ rfl Try.underlying39 Try.underlying5
attribute [local go_sem] conv_ab
set_option maxHeartbeats 4000000 in
theorem soawake_any (C : PStore PS) (w : World) : Calls Try.prog 10 #[] w fun e w' => e = .returned (.bool true) ∧ Below w.heap.size w w' := by
  have m1 : mkS ⟨[], 4⟩ 1 = ⟨[⟨1, []⟩], 4⟩ := rfl
  have e1 : mkE ⟨[], 4⟩ 1 = 0 := rfl
  have m2 : wrS ⟨[⟨1, []⟩], 4⟩ 1 3 [97, 98] = ⟨[⟨1, [0, 0, 0, 97, 98]⟩], 3⟩ := by kernel_rfl
  have e2 : wrE ⟨[⟨1, []⟩], 4⟩ 1 3 2 = 0 := by decide +kernel
  have e3 : rdE ⟨[⟨1, [0, 0, 0, 97, 98]⟩], 3⟩ 1 0 9 = 0 := by decide +kernel
  have m3 : rdB ⟨[⟨1, [0, 0, 0, 97, 98]⟩], 3⟩ 1 0 9 = [0, 0, 0, 97, 98] := by decide +kernel
  have e4 : blkO (getFi [⟨1, [0, 0, 0, 97, 98]⟩] 1) = 1 := by decide +kernel
  go_enter Try.func10, Try.ntmps10
  go_wp2_with fail
  go_at_call 12
  refine (new_ok w 4 (by omega) (by omega)).mono ?_
  rintro e w1 ⟨H, A, Q, rfl, f1, b1, hb⟩
  have F1 := hide f1
  have B1 := hide b1
  have HB := hide hb
  clear f1 b1 hb
  go_wp2_with fail
  go_at_call 14
  refine (C.new F1.out).mono ?_
  rintro e w2 ⟨S, U, rfl, p2, b2, hU⟩
  have P2 := hide (one_store C B1.out HB.out p2 b2 hU)
  clear p2 b2 hU F1 B1 HB
  go_wp2_with fail
  go_at_call 16
  refine (C.mak P2.out.ps (by decide) (by decide)).mono ?_
  intro en w3 hs
  obtain ⟨rfl, U3, q3, -⟩ := P2.out.side hs
  clear hs
  rw [m1] at q3
  rw [e1]
  have P3 := hide (q3.alloc (C.keeps H) (.cells #[.int .u8 97, .int .u8 98] 5 (2, 3))).1
  have N3 := hide (fun (b o : Nat) (e : (some ⟨w3.heap.size, 0, none⟩ : Option Addr) = some ⟨b, o, none⟩) => show ¬ U3 b from by injection e with e; injection e with e _ _; rw [← e]; intro h; have := (C.keeps H).lt q3.ps _ h; omega)
  clear q3 P2
  go_wp2_with fail
  go_at_call 25
  refine (C.wr P3.out.ps (by decide) (by decide) (ints_ab w3 _ rfl _ _) (fun e => by cases e) (by intro y hy; simp at hy; omega) (by omega) (fun _ => N3.out)).mono ?_
  intro en w4 hs
  obtain ⟨rfl, U4, q4, -⟩ := P3.out.side hs
  clear hs
  rw [m2] at q4
  rw [e2]
  have P4 := hide q4
  clear q4 P3 N3 m1 m2 e1 e2
  have RD := hide (C.rd P4.out.ps (id := 1) (off := 0) (n := 9) (by decide) (by decide) (by decide))
  unfold ReadIs at RD
  rw [e3, m3] at RD
  go_wp2_with fail
  go_at_call 20
  refine RD.out.mono ?_
  rintro e w5 ⟨v, rfl, o5, b5⟩
  obtain ⟨P5, -⟩ := P4.out.below (C.keeps H) b5
  have bA : Below w5.heap.size w5 (w5.alloc (.cells #[.int .u8 0, .int .u8 0, .int .u8 0, .int .u8 97, .int .u8 98] 5)) := (Below.refl _ _).alloc (Nat.le_refl _) _
  obtain ⟨A5, c5, rfl, i5, -⟩ := own_ints o5
  have I5 := hide (i5.below bA)
  have P6 := hide (P5.below (C.keeps H) bA).1
  have BK := hide (fun m => C.bk (P6.out.below (C.keeps H) (below_drewN (Below.refl _ _) m)).1.ps (id := 1) (by decide))
  have BB := hide P6.out.bel
  have Z6 := hide (ints_000ab w5 _ rfl 5)
  rw [e4] at BK
  clear o5 b5 P5 bA i5 P4 RD e3 m3 e4 P6
  generalize hw6 : w5.alloc (.cells #[.int .u8 0, .int .u8 0, .int .u8 0, .int .u8 97, .int .u8 98] 5) = w6 at *
  go_wp2_with fail
  clear hw6
  go_at_call 22
  refine (same_any _ _ 5 _ _ [0, 0, 0, 97, 98] _ I5.out Z6.out (by omega)).mono ?_
  rintro e w7 ⟨rfl, m7, rfl⟩
  go_wp2_with fail
  go_at_call 32
  refine (BK.out m7).mono ?_
  rintro e w8 ⟨rfl, b8⟩
  go_wp2_with fail
  go_ret
  exact ⟨rfl, (below_drewN BB.out m7).trans (b8.mono BB.out.size)⟩
end
end Go.Proofs.Ytipepklobpnbpaa
