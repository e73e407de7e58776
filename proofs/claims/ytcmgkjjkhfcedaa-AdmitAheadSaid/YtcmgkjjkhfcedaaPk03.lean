/-
  What the walks lean on, part 3: AdBoth Same AdAwake AdBlocks PrPlain FrLow.
-/
import Derived.Deep.QuietTactic
import Derived.BigQuiet
import Derived.Laws.OwnMore
import Derived.Deep.DeepCutAuto
import Derived.Deep.RegionHeld3
import Derived.Laws.StructEq
import Derived.Test.YtcmgkjjkhfcedaaPk02
/-
  Contracts of the program's admit (PAdmit), over a configuration that came in; what it is in plain words.
-/
namespace Go.Proofs.Ytcmgkjjkhfcedaa
open Go.ChangeShapes Go.WideShapes Go.ChangeAt Go.RowKit
set_option linter.unusedVariables false
def tpOf (t : Tk) : Tp := ⟨t.cls, t.lev, t.per, t.dl, t.bud, t.line, t.us, t.qn⟩
def cpOf (c : Cf) : Cp := ⟨c.ts.map tpOf, c.es.map fun e => (e.lev, e.qn), c.ms, c.gs, c.frames, c.dog⟩
theorem Came.below {α : Type} {size : Nat} {vals : α → List Value} {fits : World → α → Prop} {w w' : World} {a : Option Addr} {n c : Nat} {zs : List α} (h : Came size vals fits w a n c zs) (b : Below w.heap.size w w') (hf : ∀ z, fits w z → fits w' z) : Came size vals fits w' a n c zs := by
  obtain ⟨h1, h2, h3, h4, h5, h6⟩ := h
  refine ⟨h1, h2, h3, h4, fun z hz => hf z (h5 z hz), fun hn => ?_⟩
  obtain ⟨bl, off, e, hlt, hc⟩ := h6 hn
  exact ⟨bl, off, e, Nat.lt_of_lt_of_le hlt b.size, fun i z hz j u hu => (b.cell (p := ⟨bl, off + i * size + j, none⟩) hlt).trans (hc i z hz j u hu)⟩
theorem TkFit.below {w w' : World} {t : Tk} (h : TkFit w t) (b : Below w.heap.size w w') : TkFit w' t := ⟨h.cls, h.lev, h.per, h.dl, h.bud, h.line, h.uses.below b (fun _ h => h), h.prog.below b (fun _ h => h)⟩
theorem EfFit.below {w w' : World} {e : Ef} (h : EfFit w e) (b : Below w.heap.size w w') : EfFit w' e := ⟨h.lev, h.prog.below b (fun _ h => h)⟩
theorem CfFit.below {w w' : World} {c : Cf} (h : CfFit w c) (b : Below w.heap.size w w') : CfFit w' c := ⟨h.tasks.below b (fun _ h => h.below b), h.best.below b (fun _ h => h.below b), h.mutexes.below b (fun _ h => h), h.gaps.below b (fun _ h => h), h.frames, h.dog⟩
/-- What Blocking answers. -/
def blkC (c : Cp) (task : Int) : Int := if mayC c = true ∧ 0 ≤ task then match c.ts[task.toNat]? with | some a => blkT c a | none => 0 else 0
def partsC (c : Cp) (task : Int) : List Pt := if mayC c = true ∧ 0 ≤ task then match c.ts[task.toNat]? with | some a => partsT c task.toNat a | none => [] else []
def RespC (c : Cp) (task r : Int) (ok : Bool) : Prop := if mayC c = true ∧ 0 ≤ task then match c.ts[task.toNat]? with | some a => ∃ r0, RespT c task.toNat a r0 ok ∧ r = (if ok then r0 else 0) | none => r = 0 ∧ ok = false else r = 0 ∧ ok = false
theorem blkC_at {c : Cp} (hm : mayC c = true) {i : Nat} {a : Tp} (ha : c.ts[i]? = some a) : blkC c (i : Int) = blkT c a := by
  unfold blkC
  rw [if_pos ⟨hm, by omega⟩, Int.toNat_natCast, ha]
structure PAdmit : Prop where
  may : ∀ (w : World) (c : Cf), CfFit w c → greatCf c = false → Calls Try.prog 11 #[.agg (cfVals c).toArray] w fun e w' => e = .returned (.bool (mayC (cpOf c))) ∧ Below w.heap.size w w'
  blk : ∀ (w : World) (c : Cf), CfFit w c → greatCf c = false → ∀ task : Int, (Lit.int .i64 task).wf = true → Calls Try.prog 13 #[.agg (cfVals c).toArray, .int .i64 task] w fun e w' => e = .returned (.int .i64 (blkC (cpOf c) task)) ∧ Below w.heap.size w w'
  parts : ∀ (w : World) (c : Cf), CfFit w c → greatCf c = false → ∀ task : Int, (Lit.int .i64 task).wf = true → Calls Try.prog 14 #[.agg (cfVals c).toArray, .int .i64 task] w fun e w' => ∃ v, e = .returned v ∧ w'.ownsRow w.heap.size 51 2 v (partsC (cpOf c) task).length ((partsC (cpOf c) task).flatMap ptVals) ∧ Below w.heap.size w w'
  resp : ∀ (w : World) (c : Cf), CfFit w c → greatCf c = false → ∀ task : Int, (Lit.int .i64 task).wf = true → Calls Try.prog 19 #[.agg (cfVals c).toArray, .int .i64 task] w fun e w' => ∃ r ok, e = .returned (.tuple #[.int .i64 r, .bool ok]) ∧ RespC (cpOf c) task r ok ∧ Below w.heap.size w w'
  adm : ∀ (w : World) (c : Cf), CfFit w c → greatCf c = false → Calls Try.prog 9 #[.agg (cfVals c).toArray] w fun e w' => ∃ v ok rs, e = .returned (.tuple #[.bool ok, v]) ∧ AdmT (cpOf c) ok rs ∧ w'.ownsRow w.heap.size 3 1 v rs.length (rs.map (Value.int .i64)) ∧ Below w.heap.size w w'
end Go.Proofs.Ytcmgkjjkhfcedaa
/-
  Contracts of what the statements share: whether two slices of integers are the same; a slice of integers written over.
-/
namespace Go.Proofs.Ytcmgkjjkhfcedaa
open Go.ChangeShapes Go.WideShapes Go.ChangeAt Go.RowKit
set_option linter.unusedVariables false
theorem int_info : (Try.prog.info? 3).map (fun i => (i.zero, i.size, i.bytes)) = some (some (.int .i64 0), 1, 8) := by kernel_rfl
set_option maxHeartbeats 800000 in
theorem same_any (a b : Option Addr) (n c d : Nat) (xs : List Int) (w : World) (ha : Ints .i64 w a n xs) (hb : Ints .i64 w b n xs) (hn : n ≤ 9223372036854775807) :
    Calls Try.prog 12 #[.slice a n c, .slice b n d] w fun e w' => e = .returned (.bool true) ∧ Below w.heap.size w w' := by
  obtain ⟨hl, hc⟩ := ha
  obtain ⟨_, hd⟩ := hb
  clear hl
  have e0 : ((n : Int) == (n : Int)) = true := by simp
  have e1 : ((n : Int) != (n : Int)) = false := by simp
  go_enter Try.func12, Try.ntmps12
  go_wp2_with fail
  go_loopw [5] (fun i wr => ∃ k : Nat, k ≤ n ∧ i = .int .i64 k ∧ ∃ m, wr = w.drewN m) (fun i _ => n - (intOf i).toNat)
  case atStart => exact ⟨0, Nat.zero_le _, rfl, 0, rfl⟩
  case round =>
    obtain ⟨k, hk, rfl, m, rfl⟩ := hrel
    by_cases hlt : k < n
    · obtain ⟨b1, o1, rfl, hcs⟩ := hc (by omega)
      obtain ⟨b2, o2, rfl, hds⟩ := hd (by omega)
      have h1 := hcs k hlt
      have h2 := hds k hlt
      clear hcs hds hc hd
      go_wp2_with fail
      go_quiet (fail)
      go_wp2_with fail
      go_roundw
      case rel => exact ⟨k + 1, by omega, by go_num, _, rfl⟩
      case measure => simp [intOf]; omega
    · clear hc hd
      go_wp2_with fail
      go_ret
      exact ⟨rfl, below_drewN (Below.refl _ _) _⟩
theorem same_own (u v : Value) (n : Nat) (xs : List Int) (w : World) {b1 b2 : Nat} (hu : w.ownsRow b1 3 1 u n (xs.map (Value.int .i64))) (hv : w.ownsRow b2 3 1 v n (xs.map (Value.int .i64))) (hn : n ≤ 9223372036854775807) :
    Calls Try.prog 12 #[u, v] w fun e w' => e = .returned (.bool true) ∧ Below w.heap.size w w' := by
  obtain ⟨A, c, rfl, hi, _⟩ := own_ints hu
  obtain ⟨B, d, rfl, hj, _⟩ := own_ints hv
  exact same_any A B n c d xs w hi hj hn
end Go.Proofs.Ytcmgkjjkhfcedaa
/-
  What every program answers that is one (stage 18).
-/
namespace Go.Proofs.Ytcmgkjjkhfcedaa
open Go.ChangeShapes Go.WideShapes Go.ChangeAt Go.RowKit
set_option linter.unusedVariables false
set_option linter.unusedSimpArgs false
def tkA : Tk := ⟨2, 9, 100, 40, 5, -1, none, 0, 0, [], none, 0, 0, []⟩
def tkB (X : Nat) : Tk := ⟨1, 0, 200, 100, 10, -1, some ⟨X + 1, 0, none⟩, 1, 1, [0], none, 0, 0, []⟩
def cfA (X : Nat) : Cf := ⟨some ⟨X + 2, 0, none⟩, 2, 2, [tkA, tkB X], none, 0, 0, [], some ⟨X, 0, none⟩, 1, 1, [⟨1, 6⟩], none, 0, 0, [], 8, 500⟩
def cpA : Cp := ⟨[⟨2, 9, 100, 40, 5, -1, [], 0⟩, ⟨1, 0, 200, 100, 10, -1, [0], 0⟩], [], [⟨1, 6⟩], [], 8, 500⟩
theorem cpA_of (X : Nat) : cpOf (cfA X) = cpA := rfl
theorem cpA_may : mayC cpA = true := by decide
theorem cpA_blk : blkC cpA 1 = 17 := by decide
theorem great_cfA (X : Nat) : greatCf (cfA X) = false := by rfl
theorem respA : RespT cpA 0 ⟨2, 9, 100, 40, 5, -1, [], 0⟩ 16 true := by
  have hn : ∀ s, needP 5 (blkT cpA ⟨2, 9, 100, 40, 5, -1, [], 0⟩) (partsT cpA 0 ⟨2, 9, 100, 40, 5, -1, [], 0⟩) s = 16 := fun s => by
    have e1 : partsT cpA 0 ⟨2, 9, 100, 40, 5, -1, [], 0⟩ = [] := by rfl
    have e2 : blkT cpA ⟨2, 9, 100, 40, 5, -1, [], 0⟩ = 11 := by decide
    rw [e1, e2]
    show sum [5, 11, 0] = 16
    decide
  unfold RespT
  rw [if_pos rfl]
  refine .inl ⟨rfl, by omega, by decide, by omega, ?_, fun s h1 h2 => ?_⟩
  · show needP 5 _ _ 16 ≤ 16
    rw [hn]; omega
  · show ¬ needP 5 _ _ s ≤ s
    rw [hn]; omega
theorem respB : RespT cpA 1 ⟨1, 0, 200, 100, 10, -1, [0], 0⟩ 100 true := by
  have e1 : partsT cpA 1 ⟨1, 0, 200, 100, 10, -1, [0], 0⟩ = [⟨100, 5⟩] := by rfl
  have e2 : blkT cpA ⟨1, 0, 200, 100, 10, -1, [0], 0⟩ = 17 := by decide
  have e3 : earliesT cpA = [⟨200, 100, 10⟩] := by rfl
  have hn : ∀ n : Fin 33, 1 ≤ n.val → needP 0 17 ([⟨100, 5⟩] ++ [(⟨200, 100, 10⟩ : Er)].map partE) (n.val : Int) = 32 := by decide
  have he : ∀ n : Fin 33, needE (n.val : Int) [⟨200, 100, 10⟩] = 0 := by decide
  have at_ : ∀ s : Int, 1 ≤ s → s ≤ 32 → ∃ n : Fin 33, 1 ≤ n.val ∧ s = (n.val : Int) := fun s h1 h2 => ⟨⟨s.toNat, by omega⟩, by show 1 ≤ s.toNat; omega, by show s = ((s.toNat : Nat) : Int); omega⟩
  unfold RespT
  rw [if_neg (by decide), e1, e2, e3]
  refine ⟨32, .inr ⟨32, .inl ⟨rfl, by omega, by decide, by omega, ?_, fun s h1 h2 => ?_⟩, .inr ⟨rfl, rfl, fun s h1 h2 => ?_⟩⟩, rfl⟩
  · have := hn ⟨32, by omega⟩ (by show 1 ≤ 32; omega)
    show needP 0 17 _ 32 ≤ 32
    rw [show (32 : Int) = ((32 : Nat) : Int) from rfl, this]; omega
  · obtain ⟨n, q1, rfl⟩ := at_ s h1 (by omega)
    rw [hn n q1]; omega
  · obtain ⟨n, q1, rfl⟩ := at_ s h1 h2
    rintro ⟨h, _⟩
    rw [he n] at h
    omega
theorem admA {ok : Bool} {rs : List Int} (h : AdmT cpA ok rs) : ok = true ∧ rs = [16, 100] := by
  have e : ok = true := h.yes cpA_may fun i a ha => by
    match i, ha with
    | 0, ha => injection ha with ha; subst ha; exact ⟨⟨16, respA⟩, by decide⟩
    | 1, ha => injection ha with ha; subst ha; exact ⟨⟨100, respB⟩, by decide⟩
    | i + 2, ha => cases ha
  subst e
  refine ⟨rfl, ?_⟩
  have hl : rs.length = 2 := by rcases h with ⟨_, _, hl, _⟩ | ⟨e, _⟩; exact hl; cases e
  obtain ⟨r0, h0, hr0, _⟩ := h.at_ (i := 0) rfl
  obtain ⟨r1, h1, hr1, _⟩ := h.at_ (i := 1) rfl
  have e0 := (hr0.same respA).1
  have e1 := (hr1.same respB).1
  match rs, hl with
  | [a, b], _ =>
    injection h0 with h0
    injection h1 with h1
    rw [h0, h1, e0, e1]
theorem built_muA : Try.prog.built 44 [(0, .int .i64 1), (1, .int .i64 6)] = some #[.int .i64 1, .int .i64 6] := by kernel_rfl
theorem built_tkA : Try.prog.built 34 [(0, .int .i64 2), (1, .int .i64 9), (2, .int .i64 100), (3, .int .i64 40), (4, .int .i64 5), (5, .int .i64 (-1))] = some (tkVals tkA).toArray := by kernel_rfl
theorem built_tkB (X : Nat) : Try.prog.built 34 [(0, .int .i64 1), (2, .int .i64 200), (3, .int .i64 100), (4, .int .i64 10), (5, .int .i64 (-1)), (6, .slice (some ⟨X + 1, 0, none⟩) 1 1)] = some (tkVals (tkB X)).toArray := by kernel_rfl
theorem built_cfA (X : Nat) : Try.prog.built 27 [(4, .int .i64 8), (5, .int .i64 500), (2, .slice (some ⟨X, 0, none⟩) 1 1), (0, .slice (some ⟨X + 2, 0, none⟩) 2 2)] = some (cfVals (cfA X)).toArray := by kernel_rfl
theorem came_block {α : Type} {z : Nat} {vals : α → List Value} {fits : World → α → Prop} (hv : ∀ x, (vals x).length = z) {w : World} {B : Nat} {xs : List α} {t : TypeId} {fr : Nat × Nat} (h : w.heap[B]? = some (.cells (xs.flatMap vals).toArray t fr)) (hl : xs.length ≤ maxLen) (hf : ∀ x ∈ xs, fits w x) : Came z vals fits w (some ⟨B, 0, none⟩) xs.length xs.length xs := by
  refine ⟨rfl, Nat.le_refl _, hl, (fun e => by cases e), hf, fun _ => ⟨B, 0, rfl, lt_of_heap h, fun i x hx j u hu => ?_⟩⟩
  have hj : j < z := by rw [← hv x]; exact (List.getElem?_eq_some_iff.1 hu).1
  rw [cell_of_row _ _ _ _ _ _ h, List.getElem?_toArray, Nat.zero_add, flat_at hv hx hj]
  exact hu
theorem came_none {α : Type} {z : Nat} {vals : α → List Value} {fits : World → α → Prop} (w : World) : Came z vals fits w none 0 0 [] := ⟨rfl, Nat.le_refl _, Nat.zero_le _, fun _ => rfl, (fun x hx => by cases hx), fun h => absurd h (by omega)⟩
set_option maxRecDepth 20000 in
set_option maxHeartbeats 4000000 in
theorem adawake_any (C : PAdmit) (w : World) : Calls Try.prog 8 #[] w fun e w' => e = .returned (.bool true) ∧ Below w.heap.size w w' := by
  obtain ⟨w4, hw4⟩ : ∃ w4, w4 = ((((w.alloc (.cells #[.int .i64 1, .int .i64 6] 44)).alloc (.cells #[.int .i64 0] 3)).alloc (.cells #[.int .i64 2, .int .i64 9, .int .i64 100, .int .i64 40, .int .i64 5, .int .i64 (-1), .slice none 0 0, .slice none 0 0, .int .i64 1, .int .i64 0, .int .i64 200, .int .i64 100, .int .i64 10, .int .i64 (-1), .slice (some ⟨w.heap.size + 1, 0, none⟩) 1 1, .slice none 0 0] 34)).alloc (.cells #[.slice (some ⟨w.heap.size + 1 + 1, 0, none⟩) 2 2, .slice none 0 0, .slice (some ⟨w.heap.size, 0, none⟩) 1 1, .slice none 0 0, .int .i64 8, .int .i64 500] 27)) := ⟨_, rfl⟩
  have b4 : Below w.heap.size w w4 := by rw [hw4]; exact ((((Below.refl _ _).alloc (Nat.le_refl _) _).alloc (by simp) _).alloc (by simp; omega) _).alloc (by simp; omega) _
  have s1 : (w.alloc (.cells #[.int .i64 1, .int .i64 6] 44)).heap.size = w.heap.size + 1 := by simp
  have s2 : ((w.alloc (.cells #[.int .i64 1, .int .i64 6] 44)).alloc (.cells #[.int .i64 0] 3)).heap.size = w.heap.size + 2 := by simp
  have s3 : (((w.alloc (.cells #[.int .i64 1, .int .i64 6] 44)).alloc (.cells #[.int .i64 0] 3)).alloc (.cells #[.int .i64 2, .int .i64 9, .int .i64 100, .int .i64 40, .int .i64 5, .int .i64 (-1), .slice none 0 0, .slice none 0 0, .int .i64 1, .int .i64 0, .int .i64 200, .int .i64 100, .int .i64 10, .int .i64 (-1), .slice (some ⟨w.heap.size + 1, 0, none⟩) 1 1, .slice none 0 0] 34)).heap.size = w.heap.size + 3 := by simp
  have m0 : w4.heap[w.heap.size]? = some (.cells ([(⟨1, 6⟩ : Mu)].flatMap muVals).toArray 44 (0, 0)) := by
    rw [hw4]
    exact (heap_alloc_old _ _ (by rw [s3]; omega)).trans ((heap_alloc_old _ _ (by rw [s2]; omega)).trans ((heap_alloc_old _ _ (by rw [s1]; omega)).trans (heap_alloc_new w _)))
  have m1 : w4.heap[w.heap.size + 1]? = some (.cells ([(0 : Int)].flatMap nuVals).toArray 3 (0, 0)) := by
    have h := heap_alloc_new (w.alloc (.cells #[.int .i64 1, .int .i64 6] 44)) (.cells #[.int .i64 0] 3)
    rw [s1] at h
    rw [hw4]
    exact (heap_alloc_old _ _ (by rw [s3]; omega)).trans ((heap_alloc_old _ _ (by rw [s2]; omega)).trans h)
  have m2 : w4.heap[w.heap.size + 2]? = some (.cells ([tkA, tkB w.heap.size].flatMap tkVals).toArray 34 (0, 0)) := by
    have h := heap_alloc_new ((w.alloc (.cells #[.int .i64 1, .int .i64 6] 44)).alloc (.cells #[.int .i64 0] 3)) (.cells #[.int .i64 2, .int .i64 9, .int .i64 100, .int .i64 40, .int .i64 5, .int .i64 (-1), .slice none 0 0, .slice none 0 0, .int .i64 1, .int .i64 0, .int .i64 200, .int .i64 100, .int .i64 10, .int .i64 (-1), .slice (some ⟨w.heap.size + 1, 0, none⟩) 1 1, .slice none 0 0] 34)
    rw [s2] at h
    rw [hw4]
    exact (heap_alloc_old _ _ (by rw [s3]; omega)).trans h
  have m3 : w4.heap[w.heap.size + 3]? = some (.cells #[.slice (some ⟨w.heap.size + 1 + 1, 0, none⟩) 2 2, .slice none 0 0, .slice (some ⟨w.heap.size, 0, none⟩) 1 1, .slice none 0 0, .int .i64 8, .int .i64 500] 27 (0, 0)) := by
    have h := heap_alloc_new (((w.alloc (.cells #[.int .i64 1, .int .i64 6] 44)).alloc (.cells #[.int .i64 0] 3)).alloc (.cells #[.int .i64 2, .int .i64 9, .int .i64 100, .int .i64 40, .int .i64 5, .int .i64 (-1), .slice none 0 0, .slice none 0 0, .int .i64 1, .int .i64 0, .int .i64 200, .int .i64 100, .int .i64 10, .int .i64 (-1), .slice (some ⟨w.heap.size + 1, 0, none⟩) 1 1, .slice none 0 0] 34)) (.cells #[.slice (some ⟨w.heap.size + 1 + 1, 0, none⟩) 2 2, .slice none 0 0, .slice (some ⟨w.heap.size, 0, none⟩) 1 1, .slice none 0 0, .int .i64 8, .int .i64 500] 27)
    rw [s3] at h
    rw [hw4]
    exact h
  have F := hide (show CfFit w4 (cfA w.heap.size) from by
    have hb : TkFit w4 (tkB w.heap.size) := ⟨show (Lit.int .i64 1).wf = true by decide, show (Lit.int .i64 0).wf = true by decide, show (Lit.int .i64 200).wf = true by decide, show (Lit.int .i64 100).wf = true by decide, show (Lit.int .i64 10).wf = true by decide, show (Lit.int .i64 (-1)).wf = true by decide, came_block (xs := [(0 : Int)]) nuVals_len m1 (by unfold maxLen; decide) (fun x hx => by rw [List.mem_singleton] at hx; rw [hx]; show (Lit.int .i64 0).wf = true; decide), came_none w4⟩
    have ha : TkFit w4 tkA := ⟨by decide, by decide, by decide, by decide, by decide, by decide, came_none w4, came_none w4⟩
    refine ⟨came_block (xs := [tkA, tkB w.heap.size]) tkVals_len m2 (by unfold maxLen; show 2 ≤ _; decide) (fun x hx => ?_), came_none w4, came_block (xs := [(⟨1, 6⟩ : Mu)]) muVals_len m0 (by unfold maxLen; decide) (fun x hx => by rw [List.mem_singleton] at hx; rw [hx]; exact ⟨by decide, by decide⟩), came_none w4, show (Lit.int .i64 8).wf = true by decide, show (Lit.int .i64 500).wf = true by decide⟩
    rcases List.mem_cons.1 hx with rfl | hx
    · exact ha
    · rw [List.mem_singleton] at hx; rw [hx]; exact hb)
  have AD := hide (show Calls Try.prog 9 #[.agg (cfVals (cfA w.heap.size)).toArray] w4 fun e w' => ∃ v, e = .returned (.tuple #[.bool true, v]) ∧ w'.ownsRow w4.heap.size 3 1 v 2 ([(16 : Int), 100].map (Value.int .i64)) ∧ Below w4.heap.size w4 w' from by
    refine (C.adm w4 (cfA w.heap.size) F.out (great_cfA w.heap.size)).mono ?_
    rintro e w' ⟨v, ok, rs, rfl, h, ho, b⟩
    obtain ⟨rfl, rfl⟩ := admA (by rw [cpA_of] at h; exact h)
    exact ⟨v, rfl, ho, b⟩)
  have BK := hide (show ∀ Y : World, Below w4.heap.size w4 Y → Calls Try.prog 13 #[.agg (cfVals (cfA w.heap.size)).toArray, .int .i64 1] Y fun e w' => e = .returned (.int .i64 17) ∧ Below Y.heap.size Y w' from fun Y b => by
    have := C.blk Y (cfA w.heap.size) (F.out.below b) (great_cfA w.heap.size) 1 (by decide)
    rw [cpA_of, cpA_blk] at this
    exact this)
  have MY := hide (show ∀ Y : World, Below w4.heap.size w4 Y → Calls Try.prog 11 #[.agg (cfVals (cfA w.heap.size)).toArray] Y fun e w' => e = .returned (.bool true) ∧ Below Y.heap.size Y w' from fun Y b => by
    have := C.may Y (cfA w.heap.size) (F.out.below b) (great_cfA w.heap.size)
    rw [cpA_of, cpA_may] at this
    exact this)
  have SC := hide (show ∀ Y : World, Below w4.heap.size w4 Y → Y.cell? ⟨w.heap.size + 1 + 1 + 1, 0, none⟩ = some (.slice (some ⟨w.heap.size + 1 + 1, 0, none⟩) 2 2) ∧ Y.cell? ⟨w.heap.size + 1 + 1 + 1, 1, none⟩ = some (.slice none 0 0) ∧ Y.cell? ⟨w.heap.size + 1 + 1 + 1, 2, none⟩ = some (.slice (some ⟨w.heap.size, 0, none⟩) 1 1) ∧ Y.cell? ⟨w.heap.size + 1 + 1 + 1, 3, none⟩ = some (.slice none 0 0) ∧ Y.cell? ⟨w.heap.size + 1 + 1 + 1, 4, none⟩ = some (.int .i64 8) ∧ Y.cell? ⟨w.heap.size + 1 + 1 + 1, 5, none⟩ = some (.int .i64 500) from fun Y b => by
    have e := (b.block _ (lt_of_heap m3)).trans m3
    refine ⟨?_, ?_, ?_, ?_, ?_, ?_⟩ <;> (show Y.cell? ⟨w.heap.size + 3, _, none⟩ = _; rw [cell_of_row _ _ _ _ _ _ e]; rfl))
  have B4 := hide b4
  have HW := hide hw4
  have hb1 := built_muA
  have hb2 := built_tkA
  have hb3 := built_tkB w.heap.size
  have hb4 := built_cfA w.heap.size
  clear C hw4 b4 s1 s2 s3 m0 m1 m2 m3
  go_enter Try.func8, Try.ntmps8
  go_upto_region 2 with fail
  rw [← HW.out]
  obtain ⟨k0, k1, k2, k3, k4, k5⟩ := SC.out w4 (Below.refl _ _)
  clear hb1 hb2 hb3 hb4
  go_upto_region 3 with (go_at_call 9; refine AD.out.mono ?_; rintro e w5 ⟨v, rfl, o5, b5⟩; have O5 := hide o5; have B5 := hide b5; clear o5 b5)
  have b5 := B5.out
  obtain ⟨k0', k1', k2', k3', k4', k5'⟩ := SC.out w5 b5
  have LT := hide (show Ints .i64 (w5.alloc (.cells #[.int .i64 16, .int .i64 100] 3)) (some ⟨w5.heap.size, 0, none⟩) 2 [16, 100] from by
    refine ⟨rfl, fun _ => ⟨_, 0, rfl, fun i hi => ?_⟩⟩
    rw [Nat.zero_add]
    have := cells_new w5 [.int .i64 16, .int .i64 100] 3 _ rfl i
    rw [addr_add, Nat.zero_add] at this
    refine this _ ?_
    match i, hi with
    | 0, _ => rfl
    | 1, _ => rfl)
  have b6 : Below w4.heap.size w4 (w5.alloc (.cells #[.int .i64 16, .int .i64 100] 3)) := b5.alloc b5.size _
  obtain ⟨A, c', ev, hI, _⟩ := own_ints O5.out
  have SM := hide (show Calls Try.prog 12 #[v, .slice (some ⟨w5.heap.size, 0, none⟩) 2 2] (w5.alloc (.cells #[.int .i64 16, .int .i64 100] 3)) fun e w' => e = .returned (.bool true) ∧ Below (w5.alloc (.cells #[.int .i64 16, .int .i64 100] 3)).heap.size (w5.alloc (.cells #[.int .i64 16, .int .i64 100] 3)) w' from by
    rw [ev]
    have h0 := same_any A (some ⟨w5.heap.size, 0, none⟩) 2 c' 2 [16, 100] _ (hI.below ((Below.refl _ w5).alloc (Nat.le_refl _) (.cells #[.int .i64 16, .int .i64 100] 3))) LT.out (by decide)
    exact h0.mono (by rintro e w' ⟨rfl, h⟩; exact ⟨rfl, by first | exact h | (rw [h]; exact Below.refl _ _) | (rw [← h]; exact Below.refl _ _)⟩))
  have B6 := hide b6
  clear b5 b6 ev hI k0 k1 k2 k3 k4 k5 k0' k1' k2' k3' k4' k5'
  go_wp2_with (first
    | (go_at_call 12; refine SM.out.mono ?_; rintro e w7 ⟨rfl, b7⟩; have B7 := hide (B6.out.trans (b7.mono B6.out.size)); clear b7; obtain ⟨k0, k1, k2, k3, k4, k5⟩ := SC.out w7 B7.out)
    | (go_at_call 13; refine (BK.out _ B7.out).mono ?_; rintro e w8 ⟨rfl, b8⟩; have B8 := hide (B7.out.trans (b8.mono B7.out.size)); clear b8 k0 k1 k2 k3 k4 k5; obtain ⟨k0, k1, k2, k3, k4, k5⟩ := SC.out w8 B8.out)
    | (go_at_call 11; refine (MY.out _ B8.out).mono ?_; rintro e w9 ⟨rfl, b9⟩; have B9 := hide (B8.out.trans (b9.mono B8.out.size)); clear b9 k0 k1 k2 k3 k4 k5))
  go_ret
  exact ⟨rfl, B4.out.trans (B9.out.mono B4.out.size)⟩
end Go.Proofs.Ytcmgkjjkhfcedaa
/-
  The walk of AdmitBlocks, over the contracts of the program's admit.
-/
namespace Go.Proofs.Ytcmgkjjkhfcedaa
open Go.ChangeShapes Go.WideShapes Go.ChangeAt Go.RowKit
set_option linter.unusedVariables false
set_option linter.unusedSimpArgs false
def limS (ms : List Mu) (k : Nat) : Int := ((ms.take k).map (·.l)).sum
theorem limS_step {ms : List Mu} {k : Nat} {x : Mu} (h : ms[k]? = some x) : limS ms (k + 1) = limS ms k + x.l := by
  unfold limS
  rw [List.take_add_one, h, List.map_append, List.sum_append]
  simp
theorem limS_in {ms : List Mu} (hg : goodMu ms = true) : ∀ k, 0 ≤ limS ms k ∧ limS ms k ≤ 1000 * (k : Int) := by
  have hok : ∀ m ∈ ms, 1 ≤ m.l ∧ m.l ≤ 1000 := by
    intro m hm
    simp [goodMu] at hg
    have := hg.1 m hm
    simp [okMu] at this
    omega
  intro k
  induction k with
  | zero => simp [limS]
  | succ k ih =>
    cases h : ms[k]? with
    | none =>
      have h1 := List.getElem?_eq_none_iff.1 h
      have : limS ms (k + 1) = limS ms k := by unfold limS; rw [List.take_of_length_le (by omega), List.take_of_length_le h1]
      omega
    | some x =>
      have := hok x (List.mem_of_getElem? h)
      rw [limS_step h]
      omega
theorem mayC_mu {c : Cp} (h : mayC c = true) : goodMu c.ms = true := by
  unfold mayC at h
  simp only [Bool.and_eq_true] at h
  exact h.1.1.1.1.1.1.1.2
theorem alloc_second (w : World) (a b : Obj) : ((w.alloc a).alloc b).heap[w.heap.size + 1]? = some b := by
  have := heap_alloc_new (w.alloc a) b
  simpa using this
theorem Reads.range {w : World} {b off n : Nat} {ts : List Tk} (h : Reads 8 tkVals w (some ⟨b, off, none⟩) n ts) {i : Nat} {t : Tk} (ht : ts[i]? = some t) : w.rangeAt b (off + i * 8) (tkVals t) := by
  have hi : i < n := by rw [← h.1]; exact (List.getElem?_eq_some_iff.1 ht).1
  obtain ⟨x, b', off', hx, e, hc⟩ := h.at_ hi
  injection e with e
  injection e with e1 e2
  subst e1 e2
  rw [ht] at hx
  injection hx with hx
  subst hx
  exact hc
set_option maxRecDepth 20000 in
set_option maxHeartbeats 8000000 in
theorem walk_admitBlocksC (C : PAdmit) (w : World) (c : Cf) (hc : CfFit w c) :
    Calls Try.prog 5 #[.agg (cfVals c).toArray] w fun e w' => e = .returned (.bool true) ∧ Below w.heap.size w w' := by
  obtain ⟨cc, hcc⟩ : ∃ cc, cc = c := ⟨_, rfl⟩
  have HC := hide hcc
  obtain ⟨ta, tn, tc, ts, ea, en, ec, es, ma, mn, mc, ms, ga, gn, gc, gs, frames, dog⟩ := c
  show Calls Try.prog 5 #[.agg #[.slice ta tn tc, .slice ea en ec, .slice ma mn mc, .slice ga gn gc, .int .i64 frames, .int .i64 dog]] w _
  have F := hide hc
  obtain ⟨W0, hW⟩ : ∃ W0, W0 = w.alloc (.cells #[.slice ta tn tc, .slice ea en ec, .slice ma mn mc, .slice ga gn gc, .int .i64 frames, .int .i64 dog] 27) := ⟨_, rfl⟩
  have hb := heap_alloc_new w (.cells #[.slice ta tn tc, .slice ea en ec, .slice ma mn mc, .slice ga gn gc, .int .i64 frames, .int .i64 dog] 27)
  have B0 := hide ((Below.refl w.heap.size w).alloc (Nat.le_refl _) (.cells #[.slice ta tn tc, .slice ea en ec, .slice ma mn mc, .slice ga gn gc, .int .i64 frames, .int .i64 dog] 27))
  rw [← hW] at hb B0
  have SC := hide (show ∀ Y : World, Below W0.heap.size W0 Y → Y.cell? ⟨w.heap.size, 0, none⟩ = some (.slice ta tn tc) ∧ Y.cell? ⟨w.heap.size, 1, none⟩ = some (.slice ea en ec) ∧ Y.cell? ⟨w.heap.size, 2, none⟩ = some (.slice ma mn mc) ∧ Y.cell? ⟨w.heap.size, 3, none⟩ = some (.slice ga gn gc) ∧ Y.cell? ⟨w.heap.size, 4, none⟩ = some (.int .i64 frames) ∧ Y.cell? ⟨w.heap.size, 5, none⟩ = some (.int .i64 dog) from fun Y b => by
    have e := (b.block _ (lt_of_heap hb)).trans hb
    refine ⟨?_, ?_, ?_, ?_, ?_, ?_⟩ <;> (rw [cell_of_row _ _ _ _ _ _ e]; rfl))
  obtain ⟨G, hG⟩ : ∃ G, G = greatCf cc := ⟨_, rfl⟩
  obtain ⟨P, hP⟩ : ∃ P, P = mayC (cpOf cc) := ⟨_, rfl⟩
  have GR := hide (show Calls Try.prog 7 #[.agg #[.slice ta tn tc, .slice ea en ec, .slice ma mn mc, .slice ga gn gc, .int .i64 frames, .int .i64 dog]] W0 fun e w' => e = .returned (.bool G) ∧ Below W0.heap.size W0 w' from by
    have := greatCf_any W0 cc (by rw [hcc]; exact hc.below B0.out)
    rw [← hG, hcc] at this
    exact this)
  have MY := hide (show G = false → ∀ Y : World, Below W0.heap.size W0 Y → Calls Try.prog 11 #[.agg #[.slice ta tn tc, .slice ea en ec, .slice ma mn mc, .slice ga gn gc, .int .i64 frames, .int .i64 dog]] Y fun e w' => e = .returned (.bool P) ∧ Below Y.heap.size Y w' from fun hg Y b => by
    have := C.may Y cc (by rw [hcc]; exact (hc.below B0.out).below b) (by rw [← hG]; exact hg)
    rw [← hP, hcc] at this
    exact this)
  have BK := hide (show G = false → ∀ Y : World, Below W0.heap.size W0 Y → ∀ task : Int, (Lit.int .i64 task).wf = true → Calls Try.prog 13 #[.agg #[.slice ta tn tc, .slice ea en ec, .slice ma mn mc, .slice ga gn gc, .int .i64 frames, .int .i64 dog], .int .i64 task] Y fun e w' => e = .returned (.int .i64 (blkC (cpOf cc) task)) ∧ Below Y.heap.size Y w' from fun hg Y b task ht => by
    have := C.blk Y cc (by rw [hcc]; exact (hc.below B0.out).below b) (by rw [← hG]; exact hg) task ht
    rw [hcc] at this ⊢
    exact this)
  have AW := hide (fun (Y : World) => adawake_any C Y)
  have HP := hide hP
  have HW := hide hW
  obtain ⟨k0, k1, k2, k3, k4, k5⟩ := SC.out W0 (Below.refl _ _)
  clear hc hW hb C hG hP hcc
  cases G with
  | true =>
    clear MY BK
    go_enter Try.func5, Try.ntmps5
    go_upto_region 1 with fail
    rw [← HW.out]
    go_wp2_with (first
      | (go_at_call 7; refine GR.out.mono ?_; rintro e w1 ⟨rfl, b1⟩; have B1 := hide (B0.out.trans (b1.mono B0.out.size)); clear b1 k0 k1 k2 k3 k4 k5)
      | (go_at_call 8; refine (AW.out _).mono ?_; rintro e w2 ⟨rfl, b2⟩; have B2 := hide (B1.out.trans (b2.mono B1.out.size)); clear b2))
    go_ret
    exact ⟨rfl, B2.out⟩
  | false =>
    have MYF := hide (show ∀ Y : World, Below W0.heap.size W0 Y → Calls Try.prog 11 #[.agg #[.slice ta tn tc, .slice ea en ec, .slice ma mn mc, .slice ga gn gc, .int .i64 frames, .int .i64 dog]] Y fun e w' => e = .returned (.bool P) ∧ Below Y.heap.size Y w' from fun Y b => MY.out rfl Y b)
    have BKF := hide (show ∀ Y : World, Below W0.heap.size W0 Y → ∀ task : Int, (Lit.int .i64 task).wf = true → Calls Try.prog 13 #[.agg #[.slice ta tn tc, .slice ea en ec, .slice ma mn mc, .slice ga gn gc, .int .i64 frames, .int .i64 dog], .int .i64 task] Y fun e w' => e = .returned (.int .i64 (blkC (cpOf cc) task)) ∧ Below Y.heap.size Y w' from fun Y b => BK.out rfl Y b)
    clear MY BK
    cases P with
    | false =>
      go_enter Try.func5, Try.ntmps5
      go_upto_region 1 with fail
      rw [← HW.out]
      go_wp2_with (first
        | (go_at_call 7; refine GR.out.mono ?_; rintro e w1 ⟨rfl, b1⟩; have B1 := hide b1; clear b1 k0 k1 k2 k3 k4 k5; obtain ⟨k0, k1, k2, k3, k4, k5⟩ := SC.out w1 B1.out)
        | (go_at_call 11; refine (MYF.out _ B1.out).mono ?_; rintro e w2 ⟨rfl, b2⟩; have B2 := hide (B1.out.trans (b2.mono B1.out.size)); clear b2 k0 k1 k2 k3 k4 k5)
        | (go_at_call 8; refine (AW.out _).mono ?_; rintro e w3 ⟨rfl, b3⟩; have B3 := hide (B0.out.trans ((B2.out.trans (b3.mono B2.out.size)).mono B0.out.size)); clear b3))
      go_ret
      exact ⟨rfl, B3.out⟩
    | true =>
      have HM := hide (show mayC (cpOf cc) = true from HP.out.symm)
      go_enter Try.func5, Try.ntmps5
      go_upto_region 1 with fail
      rw [← HW.out]
      go_wp2_with (first
        | (go_at_call 7; refine GR.out.mono ?_; rintro e w1 ⟨rfl, b1⟩; have B1 := hide b1; clear b1 k0 k1 k2 k3 k4 k5; obtain ⟨k0, k1, k2, k3, k4, k5⟩ := SC.out w1 B1.out)
        | (go_at_call 11; refine (MYF.out _ B1.out).mono ?_; rintro e w2 ⟨rfl, b2⟩; have B2 := hide (B1.out.trans (b2.mono B1.out.size)); clear b2 k0 k1 k2 k3 k4 k5; obtain ⟨k0, k1, k2, k3, k4, k5⟩ := SC.out w2 B2.out))
      have MU := hide (show goodMu ms = true from by have := mayC_mu HM.out; rw [HC.out] at this; exact this)
      have RM := hide (F.out.mutexes.reads.below (B0.out.trans (B2.out.mono B0.out.size)))
      have mn6 : mn ≤ 6 := by have h1 := MU.out; have h2 : ms.length = mn := RM.out.1; simp [goodMu] at h1; omega
      go_loopw [3, 4] (fun sv iv wr => ∃ k : Nat, k ≤ mn ∧ iv = .int .i64 k ∧ sv = .int .i64 (limS ms k) ∧ w2 = wr) (fun _ iv _ => mn - (intOf iv).toNat)
      case atStart => exact ⟨0, Nat.zero_le _, rfl, rfl, rfl⟩
      case round =>
        obtain ⟨k, hk, rfl, rfl, rfl⟩ := hrel
        by_cases hlt : k < mn
        · have n0 : (0 : Int) ≤ (k : Int) := by omega
          have n1 : (k : Int) < (mn : Int) := by omega
          obtain ⟨⟨xr, xl⟩, b, off, hx, rfl, hc⟩ := RM.out.at_ hlt
          have c1 := hc 1 _ rfl
          have hs := limS_step hx
          have h4 := limS_in MU.out k
          have h5 := limS_in MU.out (k + 1)
          obtain ⟨s0, hs0⟩ : ∃ s0, s0 = limS ms k := ⟨_, rfl⟩
          obtain ⟨s1, hs1⟩ : ∃ s1, s1 = limS ms (k + 1) := ⟨_, rfl⟩
          have hw : IntKind.i64.wrap (s0 + xl) = s1 := by rw [hs0, hs1, hs]; exact IntWalk.i64_in _ (by dsimp only at hs; omega)
          rw [← hs0]
          have S1 := hide hs1
          clear hx hc hs h4 h5 hs0 hs1
          go_wp2_with fail
          go_roundw
          case rel => exact ⟨k + 1, by omega, by go_num, by rw [S1.out], trivial⟩
          case measure => simp [intOf]; omega
        · obtain rfl : k = mn := by omega
          have RT := hide F.out.tasks.reads
          have TF := hide (show ∀ x ∈ ts, TkFit w x from F.out.tasks.2.2.2.2.1)
          obtain ⟨SUM, hS⟩ : ∃ SUM, SUM = limS ms k := ⟨_, rfl⟩
          have HS := hide (show (ms.map (·.l)).sum = SUM ∧ 0 ≤ SUM ∧ SUM ≤ 6000 from by
            have h1 := limS_in MU.out k
            have h2 : ms.length = k := RM.out.1
            refine ⟨?_, by omega, by omega⟩
            rw [hS]; unfold limS; rw [List.take_of_length_le (by omega)])
          rw [← hS]
          clear hS
          have tn8 : tn ≤ 8 := by
            have h1 := HM.out
            rw [HC.out] at h1
            unfold mayC at h1
            simp only [Bool.and_eq_true, decide_eq_true_eq] at h1
            have h2 := h1.1.1.1.1.1.1.1.1.1
            have h3 : ts.length = tn := RT.out.1
            have h4 : (ts.map tpOf).length ≤ 8 := h2
            rw [List.length_map] at h4
            omega
          have TA := hide (show ∀ (i : Nat) (x : Tk), ts[i]? = some x → blkC (cpOf cc) (i : Int) = blkT (cpOf cc) (tpOf x) ∧ 11 ≤ blkT (cpOf cc) (tpOf x) ∧ blkT (cpOf cc) (tpOf x) ≤ 11 + SUM from fun i x hx => by
            have h1 : (cpOf cc).ts[i]? = some (tpOf x) := by rw [HC.out]; show (ts.map tpOf)[i]? = _; rw [List.getElem?_map, hx]; rfl
            refine ⟨blkC_at HM.out h1, blkM_lo _ _, ?_⟩
            have h2 := blkM_hi (mayC_mu HM.out) (usesT (cpOf cc).ts (tpOf x))
            have h3 : ((cpOf cc).ms.map (·.l)).sum = SUM := by rw [HC.out]; exact HS.out.1
            unfold blkT
            omega)
          obtain ⟨TOP, hTOP⟩ : ∃ TOP, TOP = 11 + SUM := ⟨_, rfl⟩
          have HWS := hide (show IntKind.i64.wrap (11 + SUM) = TOP from by rw [hTOP]; exact IntWalk.i64_in _ (by have := HS.out; omega))
          have HTOP := hide hTOP
          clear hTOP
          go_wp2_with fail
          go_loopw [5] (fun iv wr => ∃ i : Nat, i ≤ tn ∧ iv = .int .i64 i ∧ Hid (Below W0.heap.size W0 wr)) (fun iv _ => tn - (intOf iv).toNat)
          case atStart => exact ⟨0, Nat.zero_le _, rfl, B2.out⟩
          case round =>
            obtain ⟨i, hi, rfl, hZ⟩ := hrel
            rename World => wr2
            clear k0 k1 k2 k3 k4 k5
            obtain ⟨k0, k1, k2, k3, k4, k5⟩ := SC.out _ hZ.out
            by_cases hlt2 : i < tn
            · have i0 : (0 : Int) ≤ (i : Int) := by omega
              have i1 : (i : Int) < (tn : Int) := by omega
              obtain ⟨x, bt, ot, hx, rfl, hcx⟩ := RT.out.at_ hlt2
              obtain ⟨bi, hbi⟩ : ∃ bi, bi = blkC (cpOf cc) (i : Int) := ⟨_, rfl⟩
              have HX := hide hx
              have HBI := hide (show bi = blkT (cpOf cc) (tpOf x) from by rw [hbi]; exact (TA.out i x hx).1)
              have u1 : ¬ bi < 11 := by rw [HBI.out]; have := (TA.out i x hx).2.1; omega
              have u2 : ¬ TOP < bi := by rw [HBI.out, HTOP.out]; have := (TA.out i x hx).2.2; omega
              have BI := hide (show Calls Try.prog 13 #[.agg #[.slice (some ⟨bt, ot, none⟩) tn tc, .slice ea en ec, .slice ma k mc, .slice ga gn gc, .int .i64 frames, .int .i64 dog], .int .i64 (i : Nat)] wr2 fun e w' => e = .returned (.int .i64 bi) ∧ Below wr2.heap.size wr2 w' from by rw [hbi]; exact BKF.out _ hZ.out _ (by simp [Lit.wf, IntKind.min, IntKind.max, IntKind.bits, IntKind.signed]; omega))
              have hws := HWS.out
              clear hx hbi hcx
              go_wp2_with (go_at_call 13; refine BI.out.mono ?_; rintro e w5 ⟨rfl, b5⟩; have B5 := hide (hZ.out.trans (b5.mono hZ.out.size)); clear b5 k0 k1 k2 k3 k4 k5; obtain ⟨k0, k1, k2, k3, k4, k5⟩ := SC.out w5 B5.out)
              -- INNER
              have HB := hide hZ.out
              have U1 := hide u1
              clear u1 u2 hws
              go_wp2_with fail
              go_loopw [7] (fun kv wr => ∃ k : Nat, k ≤ tn ∧ kv = .int .i64 k ∧ Hid (Below W0.heap.size W0 wr)) (fun kv _ => tn - (intOf kv).toNat)
              case atStart => exact ⟨0, Nat.zero_le _, rfl, B5.out⟩
              case round =>
                obtain ⟨kk, hkk, rfl, hZ⟩ := hrel
                rename World => wr3
                clear k0 k1 k2 k3 k4 k5
                obtain ⟨k0, k1, k2, k3, k4, k5⟩ := SC.out _ hZ.out
                have H3 := hide hZ.out
                clear hZ
                by_cases hlt3 : kk < tn
                · have m0 : (0 : Int) ≤ (kk : Int) := by omega
                  have m1 : (kk : Int) < (tn : Int) := by omega
                  obtain ⟨y, hy⟩ : ∃ y, ts[kk]? = some y := ⟨_, List.getElem?_eq_getElem (by have h := RT.out.1; omega)⟩
                  have HY := hide hy
                  clear hy
                  obtain ⟨x_cls, x_lev, x_per, x_dl, x_bud, x_line, x_ua, x_un, x_uc, x_us, x_qa, x_qn, x_qc, x_qs⟩ := x
                  obtain ⟨y_cls, y_lev, y_per, y_dl, y_bud, y_line, y_ua, y_un, y_uc, y_us, y_qa, y_qn, y_qc, y_qs⟩ := y
                  have RG := hide (show ∀ Y : World, Below wr3.heap.size wr3 Y → Y.cell? ⟨w.heap.size, 0, none⟩ = some (.slice (some ⟨bt, ot, none⟩) tn tc) ∧ Y.cell? ⟨bt, ot + i * 8, none⟩ = some (.int .i64 x_cls) ∧ Y.cell? ⟨bt, ot + i * 8 + 1, none⟩ = some (.int .i64 x_lev) ∧ Y.cell? ⟨bt, ot + i * 8 + 2, none⟩ = some (.int .i64 x_per) ∧ Y.cell? ⟨bt, ot + i * 8 + 3, none⟩ = some (.int .i64 x_dl) ∧ Y.cell? ⟨bt, ot + i * 8 + 4, none⟩ = some (.int .i64 x_bud) ∧ Y.cell? ⟨bt, ot + i * 8 + 5, none⟩ = some (.int .i64 x_line) ∧ Y.cell? ⟨bt, ot + i * 8 + 6, none⟩ = some (.slice x_ua x_un x_uc) ∧ Y.cell? ⟨bt, ot + i * 8 + 7, none⟩ = some (.slice x_qa x_qn x_qc) ∧ Y.cell? ⟨bt, ot + kk * 8, none⟩ = some (.int .i64 y_cls) ∧ Y.cell? ⟨bt, ot + kk * 8 + 1, none⟩ = some (.int .i64 y_lev) ∧ Y.cell? ⟨bt, ot + kk * 8 + 2, none⟩ = some (.int .i64 y_per) ∧ Y.cell? ⟨bt, ot + kk * 8 + 3, none⟩ = some (.int .i64 y_dl) ∧ Y.cell? ⟨bt, ot + kk * 8 + 4, none⟩ = some (.int .i64 y_bud) ∧ Y.cell? ⟨bt, ot + kk * 8 + 5, none⟩ = some (.int .i64 y_line) ∧ Y.cell? ⟨bt, ot + kk * 8 + 6, none⟩ = some (.slice y_ua y_un y_uc) ∧ Y.cell? ⟨bt, ot + kk * 8 + 7, none⟩ = some (.slice y_qa y_qn y_qc) from fun Y b => by
                    have B := B0.out.trans ((H3.out.trans (b.mono H3.out.size)).mono B0.out.size)
                    have rx := (RT.out.below B).range HX.out
                    have ry := (RT.out.below B).range HY.out
                    exact ⟨(SC.out Y (H3.out.trans (b.mono H3.out.size))).1, rx 0 _ rfl, rx 1 _ rfl, rx 2 _ rfl, rx 3 _ rfl, rx 4 _ rfl, rx 5 _ rfl, rx 6 _ rfl, rx 7 _ rfl, ry 0 _ rfl, ry 1 _ rfl, ry 2 _ rfl, ry 3 _ rfl, ry 4 _ rfl, ry 5 _ rfl, ry 6 _ rfl, ry 7 _ rfl⟩)
                  go_upto_region 17 with fail
                  go_cut [8, 9] (fun p q wx => ∃ P Q : Nat, p = .pointer (some ⟨P, 0, none⟩) ∧ q = .pointer (some ⟨Q, 0, none⟩) ∧ Hid (wx.heap[P]? = some (.cells #[.int .i64 x_cls, .int .i64 x_lev, .int .i64 x_per, .int .i64 x_dl, .int .i64 x_bud, .int .i64 x_line, .slice x_ua x_un x_uc, .slice x_qa x_qn x_qc] 34 (0, 0)) ∧ wx.heap[Q]? = some (.cells #[.int .i64 y_cls, .int .i64 y_lev, .int .i64 y_per, .int .i64 y_dl, .int .i64 y_bud, .int .i64 y_line, .slice y_ua y_un y_uc, .slice y_qa y_qn y_qc] 34 (0, 0)) ∧ Below wr3.heap.size wr3 wx))
                  case first =>
                    go_region_held3 (fun W => W.cell? ⟨w.heap.size, 0, none⟩ = some (.slice (some ⟨bt, ot, none⟩) tn tc) ∧ W.cell? ⟨bt, ot + i * 8, none⟩ = some (.int .i64 x_cls) ∧ W.cell? ⟨bt, ot + i * 8 + 1, none⟩ = some (.int .i64 x_lev) ∧ W.cell? ⟨bt, ot + i * 8 + 2, none⟩ = some (.int .i64 x_per) ∧ W.cell? ⟨bt, ot + i * 8 + 3, none⟩ = some (.int .i64 x_dl) ∧ W.cell? ⟨bt, ot + i * 8 + 4, none⟩ = some (.int .i64 x_bud) ∧ W.cell? ⟨bt, ot + i * 8 + 5, none⟩ = some (.int .i64 x_line) ∧ W.cell? ⟨bt, ot + i * 8 + 6, none⟩ = some (.slice x_ua x_un x_uc) ∧ W.cell? ⟨bt, ot + i * 8 + 7, none⟩ = some (.slice x_qa x_qn x_qc) ∧ W.cell? ⟨bt, ot + kk * 8, none⟩ = some (.int .i64 y_cls) ∧ W.cell? ⟨bt, ot + kk * 8 + 1, none⟩ = some (.int .i64 y_lev) ∧ W.cell? ⟨bt, ot + kk * 8 + 2, none⟩ = some (.int .i64 y_per) ∧ W.cell? ⟨bt, ot + kk * 8 + 3, none⟩ = some (.int .i64 y_dl) ∧ W.cell? ⟨bt, ot + kk * 8 + 4, none⟩ = some (.int .i64 y_bud) ∧ W.cell? ⟨bt, ot + kk * 8 + 5, none⟩ = some (.int .i64 y_line) ∧ W.cell? ⟨bt, ot + kk * 8 + 6, none⟩ = some (.slice y_ua y_un y_uc) ∧ W.cell? ⟨bt, ot + kk * 8 + 7, none⟩ = some (.slice y_qa y_qn y_qc)) (first | exact RG.out _ (below_drewN (Below.refl _ wr3) 1) | exact RG.out _ ((below_drewN (Below.refl _ wr3) 1).alloc (Nat.le_refl _) _) | exact RG.out _ (((below_drewN (Below.refl _ wr3) 1).alloc (Nat.le_refl _) _).alloc (by simp) _)) (fail)
                    · go_wp2_with fail
                      go_meet
                      exact ⟨_, _, rfl, rfl, (heap_alloc_old _ _ (by simp)).trans (heap_alloc_new wr3 _), (alloc_second wr3 _ _), below_drewN (((Below.refl _ wr3).alloc (Nat.le_refl _) _).alloc (by simp) _) 1⟩
                    · go_wp2_with fail
                      go_meet
                      exact ⟨_, _, rfl, rfl, (alloc_second wr3 _ _), (heap_alloc_old _ _ (by simp)).trans (heap_alloc_new wr3 _), below_drewN (((Below.refl _ wr3).alloc (Nat.le_refl _) _).alloc (by simp) _) 1⟩
                  case rest =>
                    obtain ⟨P, Q, rfl, rfl, hX⟩ := hcut
                    rename World => w4
                    have X4 := hide hX
                    clear hX k0 k1 k2 k3 k4 k5
                    have B4 := hide (H3.out.trans (X4.out.2.2.mono H3.out.size))
                    obtain ⟨k0, k1, k2, k3, k4, k5⟩ := SC.out _ B4.out
                    have x0 : w4.cell? ⟨P, 0, none⟩ = some (.int .i64 x_cls) := by rw [cell_of_row _ _ _ _ _ _ X4.out.1]; rfl
                    have x1 : w4.cell? ⟨P, 1, none⟩ = some (.int .i64 x_lev) := by rw [cell_of_row _ _ _ _ _ _ X4.out.1]; rfl
                    have y0 : w4.cell? ⟨Q, 0, none⟩ = some (.int .i64 y_cls) := by rw [cell_of_row _ _ _ _ _ _ X4.out.2.1]; rfl
                    have y1 : w4.cell? ⟨Q, 1, none⟩ = some (.int .i64 y_lev) := by rw [cell_of_row _ _ _ _ _ _ X4.out.2.1]; rfl
                    by_cases a0 : x_cls = 2
                    · by_cases a1 : y_cls = 1 ∨ y_lev ≤ x_lev
                      · obtain ⟨bk, hbk⟩ : ∃ bk, bk = blkC (cpOf cc) (kk : Int) := ⟨_, rfl⟩
                        have NB := hide (show ¬ bk < bi from by
                          rw [hbk, (TA.out kk _ HY.out).1, HBI.out]
                          have hm := mayT_facts (mayC_task HM.out (show (cpOf cc).ts[kk]? = some (tpOf ⟨y_cls, y_lev, y_per, y_dl, y_bud, y_line, y_ua, y_un, y_uc, y_us, y_qa, y_qn, y_qc, y_qs⟩) from by rw [HC.out]; show (ts.map tpOf)[kk]? = _; rw [List.getElem?_map, HY.out]; rfl))
                          have hk : y_cls = 2 ∨ y_cls = 1 := hm.1
                          have := blkT_higher (c := cpOf cc) (x := tpOf ⟨x_cls, x_lev, x_per, x_dl, x_bud, x_line, x_ua, x_un, x_uc, x_us, x_qa, x_qn, x_qc, x_qs⟩) (y := tpOf ⟨y_cls, y_lev, y_per, y_dl, y_bud, y_line, y_ua, y_un, y_uc, y_us, y_qa, y_qn, y_qc, y_qs⟩) a0 (by
                            rcases a1 with e | e
                            · exact .inl e
                            · rcases hk with e2 | e2
                              · exact .inr ⟨e2, e⟩
                              · exact .inl e2)
                          omega)
                        have BQ := hide (show Calls Try.prog 13 #[.agg #[.slice (some ⟨bt, ot, none⟩) tn tc, .slice ea en ec, .slice ma k mc, .slice ga gn gc, .int .i64 frames, .int .i64 dog], .int .i64 (kk : Nat)] w4 fun e w' => e = .returned (.int .i64 bk) ∧ Below w4.heap.size w4 w' from by rw [hbk]; exact BKF.out _ B4.out _ (by simp [Lit.wf, IntKind.min, IntKind.max, IntKind.bits, IntKind.signed]; omega))
                        clear hbk
                        have nb := NB.out
                        by_cases a2 : y_cls = 1
                        · clear a1
                          go_wp2_with (go_at_call 13; refine BQ.out.mono ?_; rintro e w5 ⟨rfl, b5⟩; have B5' := hide (B4.out.trans (b5.mono B4.out.size)); clear b5)
                          go_roundw
                          case rel => exact ⟨kk + 1, by omega, by go_num, B5'.out⟩
                          case measure => simp [intOf]; omega
                        · have a3 : y_lev ≤ x_lev := by rcases a1 with e | e; exact absurd e a2; exact e
                          clear a1
                          go_wp2_with (go_at_call 13; refine BQ.out.mono ?_; rintro e w5 ⟨rfl, b5⟩; have B5' := hide (B4.out.trans (b5.mono B4.out.size)); clear b5)
                          go_roundw
                          case rel => exact ⟨kk + 1, by omega, by go_num, B5'.out⟩
                          case measure => simp [intOf]; omega
                      · have a2 : ¬ y_cls = 1 := fun e => a1 (.inl e)
                        have a3 : ¬ y_lev ≤ x_lev := fun e => a1 (.inr e)
                        clear a1
                        go_wp2_with fail
                        go_roundw
                        case rel => exact ⟨kk + 1, by omega, by go_num, B4.out⟩
                        case measure => simp [intOf]; omega
                    · go_wp2_with fail
                      go_roundw
                      case rel => exact ⟨kk + 1, by omega, by go_num, B4.out⟩
                      case measure => simp [intOf]; omega
                · obtain rfl : kk = tn := by omega
                  go_wp2_with fail
                  go_roundw
                  case rel => exact ⟨i + 1, by omega, by go_num, H3.out⟩
                  case measure => simp [intOf]; omega
            · obtain rfl : i = tn := by omega
              go_wp2_with (go_at_call 8; refine (AW.out _).mono ?_; rintro e w3 ⟨rfl, b3⟩; have B3 := hide (B0.out.trans ((hZ.out.trans (b3.mono hZ.out.size)).mono B0.out.size)); clear b3)
              go_ret
              exact ⟨rfl, B3.out⟩
end Go.Proofs.Ytcmgkjjkhfcedaa
/-
  Priorities: plain words and facts (stage 7).
-/
namespace Go.Proofs.Ytcmgkjjkhfcedaa
open Go.ChangeShapes Go.WideShapes Go.ChangeAt Go.RowKit
set_option linter.unusedVariables false
/-- A priority: class, level, due. -/
structure Pr where
  c : Int
  l : Int
  d : Int
def mayP (p : Pr) : Bool :=
  if p.c = 0 then decide (0 ≤ p.l ∧ p.l ≤ 15 ∧ p.d = 0) else if p.c = 1 then decide (p.l = 0 ∧ 0 ≤ p.d ∧ p.d ≤ 1099511627776) else if p.c = 2 then decide (0 ≤ p.l ∧ p.l ≤ 63 ∧ p.d = 0) else false
/-- Is a greater than b? -/
def gtP (a b : Pr) : Bool := if a.c ≠ b.c then decide (b.c < a.c) else if a.c = 1 then decide (a.d < b.d) else decide (b.l < a.l)
def cmpP (a b : Pr) : Int := if gtP a b = true then 1 else if gtP b a = true then -1 else 0
def eqP (a b : Pr) : Bool := a.c == b.c && a.l == b.l && a.d == b.d
def maxP (x : Pr) (ys : List Pr) : Pr := ys.foldl (fun b y => if gtP y b = true then y else b) x
theorem eqP_refl (a : Pr) : eqP a a = true := by simp [eqP]
theorem gtP_irrefl (a : Pr) : gtP a a = false := by simp [gtP]
theorem gtP_asymm {a b : Pr} (h : gtP a b = true) : gtP b a = false := by
  unfold gtP at *
  by_cases e : a.c = b.c
  · rw [if_neg (by simpa using e)] at h
    rw [if_neg (by simpa using e.symm)]
    by_cases e1 : a.c = 1
    · rw [if_pos e1] at h; rw [if_pos (by omega)]; simp at h ⊢; omega
    · rw [if_neg e1] at h; rw [if_neg (by omega)]; simp at h ⊢; omega
  · rw [if_pos e] at h
    rw [if_pos (fun e2 => e e2.symm)]
    simp at h ⊢; omega
theorem cmpP_self (a : Pr) : cmpP a a = 0 := by simp [cmpP, gtP_irrefl]
theorem cmpP_swap (a b : Pr) : cmpP b a = -cmpP a b := by
  unfold cmpP
  cases h1 : gtP a b with
  | true => simp [gtP_asymm h1]
  | false =>
    cases h2 : gtP b a with
    | true => simp
    | false => simp
theorem cmpP_vals (a b : Pr) : cmpP a b = 1 ∨ cmpP a b = -1 ∨ cmpP a b = 0 := by
  unfold cmpP
  split
  · exact .inl rfl
  · split
    · exact .inr (.inl rfl)
    · exact .inr (.inr rfl)
/-- What the order compares, as one number's sign along each part. -/
theorem cmpP_ge {a b : Pr} : 0 ≤ cmpP a b ↔ b.c < a.c ∨ a.c = b.c ∧ (a.c = 1 ∧ a.d ≤ b.d ∨ a.c ≠ 1 ∧ b.l ≤ a.l) := by
  have h : 0 ≤ cmpP a b ↔ gtP b a = false := by
    unfold cmpP
    cases h1 : gtP a b with
    | true => simp [gtP_asymm h1]
    | false => cases h2 : gtP b a <;> simp
  rw [h]
  unfold gtP
  by_cases e : a.c = b.c
  · rw [if_neg (by simpa using e.symm)]
    by_cases e1 : b.c = 1
    · rw [if_pos e1]; simp; omega
    · rw [if_neg e1]; simp; omega
  · rw [if_pos (fun e2 => e e2.symm)]; simp; omega
theorem cmpP_gt {a b : Pr} : 0 < cmpP a b ↔ b.c < a.c ∨ a.c = b.c ∧ (a.c = 1 ∧ a.d < b.d ∨ a.c ≠ 1 ∧ b.l < a.l) := by
  have h : 0 < cmpP a b ↔ gtP a b = true := by
    unfold cmpP
    cases h1 : gtP a b with
    | true => simp
    | false => cases h2 : gtP b a <;> simp
  rw [h]
  unfold gtP
  by_cases e : a.c = b.c
  · rw [if_neg (by simpa using e)]
    by_cases e1 : a.c = 1
    · rw [if_pos e1]; simp; omega
    · rw [if_neg e1]; simp; omega
  · rw [if_pos e]; simp; omega
/-- Along three. -/
theorem cmpP_trans {a b c : Pr} (h1 : 0 ≤ cmpP a b) (h2 : 0 ≤ cmpP b c) : 0 ≤ cmpP a c ∧ (0 < cmpP a b ∨ 0 < cmpP b c → 0 < cmpP a c) := by
  rw [cmpP_ge] at *
  rw [cmpP_gt, cmpP_gt, cmpP_gt]
  omega
theorem cmpP_zero {a b : Pr} : cmpP a b = 0 ↔ 0 ≤ cmpP a b ∧ ¬ 0 < cmpP a b := by omega
/-- Of those that may be, unlike ones are never the same. -/
theorem cmpP_may {a b : Pr} (ha : mayP a = true) (hb : mayP b = true) : (cmpP a b == 0) = eqP a b := by
  rw [Bool.eq_iff_iff]
  rw [show ((cmpP a b == 0) = true ↔ cmpP a b = 0) from by simp, cmpP_zero, cmpP_ge, cmpP_gt]
  unfold eqP mayP at *
  simp only [Bool.and_eq_true, beq_iff_eq]
  by_cases a0 : a.c = 0
  · rw [if_pos a0] at ha
    by_cases b0 : b.c = 0
    · rw [if_pos b0] at hb; simp at ha hb; omega
    · constructor <;> intro h <;> omega
  · rw [if_neg a0] at ha
    by_cases a1 : a.c = 1
    · rw [if_pos a1] at ha
      by_cases b1 : b.c = 1
      · rw [if_neg (by omega), if_pos b1] at hb; simp at ha hb; omega
      · constructor <;> intro h <;> omega
    · rw [if_neg a1] at ha
      by_cases a2 : a.c = 2
      · rw [if_pos a2] at ha
        by_cases b2 : b.c = 2
        · rw [if_neg (by omega), if_neg (by omega), if_pos b2] at hb; simp at ha hb; omega
        · constructor <;> intro h <;> omega
      · rw [if_neg a2] at ha; cases ha
theorem prio_eql (w : World) (a0 a1 a2 b0 b1 b2 : Int) : (binOp .eql 98 (.agg #[.int .i64 a0, .int .i64 a1, .int .i64 a2]) (.agg #[.int .i64 b0, .int .i64 b1, .int .i64 b2])).run Try.prog w = .ok (.bool (a0 == b0 && a1 == b1 && a2 == b2)) w := by
  rw [run_eql_struct, run_equalIn_agg w 9999 _ _ _ (by kernel_rfl) (by kernel_rfl)]
  simp only [Program.fieldsOf, Try.underlying98]
  simp [Op.eqFields, go_sem, Try.underlying3]
  by_cases e0 : a0 = b0 <;> by_cases e1 : a1 = b1 <;> by_cases e2 : a2 = b2 <;> simp [e0, e1, e2]
theorem prio_neq (w : World) (a0 a1 a2 b0 b1 b2 : Int) : (binOp .neq 98 (.agg #[.int .i64 a0, .int .i64 a1, .int .i64 a2]) (.agg #[.int .i64 b0, .int .i64 b1, .int .i64 b2])).run Try.prog w = .ok (.bool (!(a0 == b0 && a1 == b1 && a2 == b2))) w := by
  rw [run_neq_struct, run_equalIn_agg w 9999 _ _ _ (by kernel_rfl) (by kernel_rfl)]
  simp only [Program.fieldsOf, Try.underlying98]
  simp [Op.eqFields, go_sem, Try.underlying3]
  by_cases e0 : a0 = b0 <;> by_cases e1 : a1 = b1 <;> by_cases e2 : a2 = b2 <;> simp [e0, e1, e2]
end Go.Proofs.Ytcmgkjjkhfcedaa
/-
  The contract of Low (coxswainlaw0): some number below n.
-/
namespace Go.Proofs.Ytcmgkjjkhfcedaa
open Go.ChangeShapes Go.WideShapes Go.ChangeAt Go.RowKit
set_option linter.unusedVariables false
theorem low_wrapN (x : Int) (n : Nat) (hn : 0 < n) (hb : n ≤ 1000000) : ∃ r : Nat, r < n ∧ wrap64 ((IntKind.u64.wrap x).tmod (n : Int)) = r := by
  have h : IntKind.u64.wrap x = x % 18446744073709551616 := by simp [IntKind.wrap, IntKind.bits, IntKind.signed]
  rw [h, Int.tmod_eq_emod_of_nonneg (by omega)]
  have h0 : 0 ≤ (x % 18446744073709551616) % (n : Int) := Int.emod_nonneg _ (by omega)
  have h1 : (x % 18446744073709551616) % (n : Int) < n := Int.emod_lt_of_pos _ (by omega)
  generalize (x % 18446744073709551616) % (n : Int) = y at *
  obtain ⟨r, rfl⟩ := Int.eq_ofNat_of_zero_le h0
  refine ⟨r, by omega, ?_⟩
  unfold wrap64
  omega
theorem low_any (x : Int) (n : Nat) (w : World) (hn : 0 < n) (hb : n ≤ 1000000) :
    Calls Try.prog 10 #[.int .i64 x, .int .i64 (n : Int)] w fun e w' => (∃ r : Nat, r < n ∧ e = .returned (.int .i64 (r : Int))) ∧ w = w' := by
  obtain ⟨r, hr, he⟩ := low_wrapN x n hn hb
  have HE := hide he
  have n0 : ¬ ((n : Int) = 0) := by omega
  have n1 : (0 : Int) ≤ (n : Int) := by omega
  have n2 : (n : Int) ≤ 1000000 := by omega
  have hu : IntKind.u64.wrap (n : Int) = (n : Int) := by simp [IntKind.wrap, IntKind.bits, IntKind.signed]; omega
  clear he
  go_enter Try.func10, Try.ntmps10
  go_wp2_with fail
  go_ret
  exact ⟨⟨r, hr, ret_int HE.out⟩, rfl⟩
end Go.Proofs.Ytcmgkjjkhfcedaa
