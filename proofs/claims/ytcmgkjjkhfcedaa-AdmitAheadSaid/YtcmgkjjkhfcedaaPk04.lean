/-
  What the walks lean on, part 4: AdHas GStep RkRefs RtRef AdRefA AdRefB AdRefC PrRefs RowsIn PrRefsB PrMax PrLend PrSame PrBoth CmpInt PpCmp PpMay RkBoth SeqKit.
-/
import Derived.Deep.RegionLaw
import Derived.Deep.DeepCutAuto
import Derived.Deep.CutBlock
import Derived.Deep.RegionHeld3
import Derived.Deep.QuietTactic
import Derived.BigQuiet
import Derived.Deep.Slices
import Derived.Deep.Fields
import Derived.ChangeSame
import Derived.Deep.AppendLies
import Derived.RangeFuncNested
import Derived.RangeFuncBound
import Derived.RangeFuncCalls
import Derived.RangeFuncLeaves
import Derived.Shelf.Abstract
import Derived.Shelf.RegionOpen
import Derived.WalkKit
import Derived.OwnWalkIn
import Derived.TacticsInMore
import Derived.LoopNIn
import Derived.LoopIn
import Derived.Test.YtcmgkjjkhfcedaaPk03
/-
  Whether a list of parts has one, from a place on (the law's own has), and what it finds of a list that comes along another one.
-/
namespace Go.Proofs.Ytcmgkjjkhfcedaa
open Go.ChangeShapes Go.WideShapes Go.ChangeAt Go.RowKit
set_option linter.unusedVariables false
set_option linter.unusedSimpArgs false
theorem quiet_hs {P : Program} {f : FuncId} {args : Array Value} {w : World} {n : Nat} {v : Value} (h : Calls P f args (w.drewN n) fun e w' => e = .returned v ∧ w.drewN n = w') : Calls P f args (w.drewN n) fun e w' => e = .returned v ∧ ∃ m, w' = w.drewN m :=
  h.mono fun e w' ⟨he, hw⟩ => ⟨he, n, hw.symm⟩
/-- Low answers one number, whatever the world. -/
theorem low_det (x : Int) (n : Nat) (hn : 0 < n) (hb : n ≤ 1000000) : ∃ r : Nat, r < n ∧ ∀ w, Calls Try.prog 10 #[.int .i64 x, .int .i64 (n : Int)] w fun e w' => e = .returned (.int .i64 (r : Int)) ∧ w = w' := by
  obtain ⟨r, hr, he⟩ := low_wrapN x n hn hb
  refine ⟨r, hr, fun w => ?_⟩
  have HE := hide he
  have n0 : ¬ ((n : Int) = 0) := by omega
  have n1 : (0 : Int) ≤ (n : Int) := by omega
  have n2 : (n : Int) ≤ 1000000 := by omega
  have hu : IntKind.u64.wrap (n : Int) = (n : Int) := by simp [IntKind.wrap, IntKind.bits, IntKind.signed]; omega
  clear he
  go_enter Try.func10, Try.ntmps10
  go_wp2_with fail
  go_ret
  exact ⟨ret_int HE.out, rfl⟩
theorem pt_eql (w : World) (a b c d : Int) : (binOp .eql 51 (.agg #[.int .i64 a, .int .i64 b]) (.agg #[.int .i64 c, .int .i64 d])).run Try.prog w = .ok (.bool (decide (a = c) && decide (b = d))) w := by
  rw [run_eql_struct, run_equalIn_agg w 9999 _ _ _ (by kernel_rfl) (by kernel_rfl)]
  simp only [Program.fieldsOf, Try.underlying51]
  simp [Op.eqFields, go_sem, Try.underlying3]
  by_cases e0 : a = c <;> by_cases e1 : b = d <;> simp [e0, e1]
/-- The first place from k on at which a part stands: the place behind it. -/
def HasP (l : List Pt) (k : Nat) (p : Pt) (x : Int) (ok : Bool) : Prop :=
  (∃ i : Nat, k ≤ i ∧ l[i]? = some p ∧ (∀ j, k ≤ j → j < i → l[j]? ≠ some p) ∧ x = (i : Int) + 1 ∧ ok = true) ∨ ((∀ j, k ≤ j → l[j]? ≠ some p) ∧ x = 0 ∧ ok = false)
/-- One behind the other. -/
theorem sub_first {p : Pt} {r : List Pt} : ∀ {l : List Pt}, (p :: r).Sublist l → ∃ i, l[i]? = some p ∧ (∀ j, j < i → l[j]? ≠ some p) ∧ r.Sublist (l.drop (i + 1)) := by
  intro l
  induction l with
  | nil => intro h; cases h
  | cons x l ih =>
    intro h
    by_cases e : x = p
    · subst e
      exact ⟨0, rfl, fun j hj => absurd hj (by omega), by simpa using List.cons_sublist_cons.1 h⟩
    · have h2 : (p :: r).Sublist l := by
        cases h with
        | cons _ h => exact h
        | cons_cons _ h => exact absurd rfl e
      obtain ⟨i, h3, h4, h5⟩ := ih h2
      refine ⟨i + 1, by simpa using h3, fun j hj => ?_, by simpa using h5⟩
      cases j with
      | zero => simpa using e
      | succ j => simpa using h4 j (by omega)
theorem HasP.next {a b : List Pt} {k j : Nat} {p : Pt} {x : Int} {ok : Bool} (h : HasP a k p x ok) (hs : (b.drop j).Sublist (a.drop k)) (hp : b[j]? = some p) : ok = true ∧ ∃ k' : Nat, x = (k' : Int) ∧ k' ≤ a.length ∧ (b.drop (j + 1)).Sublist (a.drop k') := by
  have hj := (List.getElem?_eq_some_iff.1 hp)
  have hd : b.drop j = p :: b.drop (j + 1) := by rw [List.drop_eq_getElem_cons hj.1, hj.2]
  rw [hd] at hs
  obtain ⟨i, h1, h2, h3⟩ := sub_first hs
  rw [List.getElem?_drop] at h1
  rcases h with ⟨q, q1, q2, q3, q4, q5⟩ | ⟨q1, _, _⟩
  · have e : q = k + i := by
      rcases Nat.lt_trichotomy q (k + i) with e | e | e
      · have := h2 (q - k) (by omega)
        rw [List.getElem?_drop, show k + (q - k) = q by omega] at this
        exact absurd q2 this
      · exact e
      · exact absurd h1 (q3 (k + i) (by omega) e)
    subst e
    refine ⟨q5, k + i + 1, by rw [q4]; omega, (List.getElem?_eq_some_iff.1 q2).1, ?_⟩
    rw [List.drop_drop] at h3
    exact h3
  · exact absurd h1 (q1 (k + i) (by omega))
theorem HasP.mem {a g : List Pt} {f : List Pt} {p : Pt} {x : Int} {ok : Bool} (h : HasP a g.length p x ok) (ha : a = g ++ f) (hp : p ∈ f) : ok = true := by
  rcases h with ⟨_, _, _, _, _, e⟩ | ⟨q1, _, _⟩
  · exact e
  · obtain ⟨i, hi⟩ := List.getElem?_of_mem hp
    exact absurd (by rw [ha, List.getElem?_append_right (by omega)]; rw [show g.length + i - g.length = i by omega]; exact hi) (q1 (g.length + i) (by omega))
set_option maxRecDepth 10000 in
set_option maxHeartbeats 4000000 in
theorem has_walk (w : World) (a : Option Addr) (n c k : Nat) (l : List Pt) (p : Pt) (hr : Reads 2 ptVals w a n l) (hn : n ≤ 100000) (hk : k ≤ n) :
    Calls Try.prog 15 #[.slice a n c, .int .i64 (k : Int), .agg #[.int .i64 p.per, .int .i64 p.cost]] w fun e w' => (∃ x ok, e = .returned (.tuple #[.int .i64 x, .bool ok]) ∧ HasP l k p x ok) ∧ Below w.heap.size w w' := by
  obtain ⟨pp, pc⟩ := p
  obtain ⟨W0, hW⟩ : ∃ W0, W0 = w.alloc (.cells #[.int .i64 pp, .int .i64 pc] 51) := ⟨_, rfl⟩
  have hb := heap_alloc_new w (.cells #[.int .i64 pp, .int .i64 pc] 51)
  have B0 := hide ((Below.refl w.heap.size w).alloc (Nat.le_refl _) (.cells #[.int .i64 pp, .int .i64 pc] 51))
  rw [← hW] at hb B0
  have SC := hide (show ∀ Y : World, Below W0.heap.size W0 Y → Y.cell? ⟨w.heap.size, 0, none⟩ = some (.int .i64 pp) ∧ Y.cell? ⟨w.heap.size, 1, none⟩ = some (.int .i64 pc) from fun Y b => by
    have e := (b.block _ (lt_of_heap hb)).trans hb
    refine ⟨?_, ?_⟩ <;> (rw [cell_of_row _ _ _ _ _ _ e]; rfl))
  have RR := hide hr
  have HW := hide hW
  have n0 : (0 : Int) ≤ (n : Int) := by omega
  clear hr hb hW
  go_enter Try.func15, Try.ntmps15
  go_wp2_with fail
  rw [← HW.out]
  go_loopw [8] (fun iv wr => ∃ i : Nat, k ≤ i ∧ i ≤ n ∧ iv = .int .i64 (i : Int) ∧ Hid (Below W0.heap.size W0 wr ∧ ∀ j, k ≤ j → j < i → l[j]? ≠ some ⟨pp, pc⟩)) (fun iv _ => n - (intOf iv).toNat)
  case atStart => exact ⟨k, Nat.le_refl _, hk, rfl, Below.refl _ _, fun j h1 h2 => absurd h1 (by omega)⟩
  case round =>
    obtain ⟨i, hki, hin, rfl, hZ⟩ := hrel
    have B1 := hide hZ.out.1
    have NO := hide hZ.out.2
    clear hZ
    by_cases hlt : i < n
    · have i0 : (0 : Int) ≤ (i : Int) := by omega
      have i1 : (i : Int) < (n : Int) := by omega
      obtain ⟨x, b, off, hx, rfl, hc⟩ := RR.out.at_ hlt
      obtain ⟨xp, xc⟩ := x
      have BW := B0.out.trans (B1.out.mono B0.out.size)
      have c0 : wr.cell? ⟨b, off + i * 2, none⟩ = some (.int .i64 xp) := (BW.cell (lt_of_cell? (hc 0 _ rfl))).trans (hc 0 _ rfl)
      have c1 : wr.cell? ⟨b, off + i * 2 + 1, none⟩ = some (.int .i64 xc) := (BW.cell (lt_of_cell? (hc 1 _ rfl))).trans (hc 1 _ rfl)
      obtain ⟨s0, s1⟩ := SC.out _ B1.out
      have HX := hide hx
      obtain ⟨q, hq⟩ : ∃ q, q = (decide (xp = pp) && decide (xc = pc)) := ⟨_, rfl⟩
      have EQ := fun (W : World) => show (binOp .eql 51 (.agg #[.int .i64 xp, .int .i64 xc]) (.agg #[.int .i64 pp, .int .i64 pc])).run Try.prog W = .ok (.bool q) W from by rw [hq]; exact pt_eql W xp xc pp pc
      have HQ := hide hq
      have BB := hide BW
      clear hc hx hq BW
      cases q with
      | true =>
        have FOUND := hide (show HasP l k ⟨pp, pc⟩ ((i : Int) + 1) true from .inl ⟨i, hki, by
          have h := HQ.out.symm
          simp at h
          rw [HX.out, h.1, h.2], NO.out, rfl, rfl⟩)
        have wI : IntKind.i64.wrap ((i : Int) + 1) = (i : Int) + 1 := IntWalk.i64_in _ (by omega)
        go_upto_region 4 with fail
        go_region_held3 (fun W => W.cell? ⟨b, off + i * 2, none⟩ = some (.int .i64 xp) ∧ W.cell? ⟨b, off + i * 2 + 1, none⟩ = some (.int .i64 xc) ∧ W.cell? ⟨w.heap.size, 0, none⟩ = some (.int .i64 pp) ∧ W.cell? ⟨w.heap.size, 1, none⟩ = some (.int .i64 pc)) (exact ⟨c0, c1, s0, s1⟩) (fail)
        go_wp2_with fail
        go_ret2
        exact ⟨⟨_, _, rfl, FOUND.out⟩, below_drewN BB.out 1⟩
      | false =>
        go_upto_region 4 with fail
        go_region_held3 (fun W => W.cell? ⟨b, off + i * 2, none⟩ = some (.int .i64 xp) ∧ W.cell? ⟨b, off + i * 2 + 1, none⟩ = some (.int .i64 xc) ∧ W.cell? ⟨w.heap.size, 0, none⟩ = some (.int .i64 pp) ∧ W.cell? ⟨w.heap.size, 1, none⟩ = some (.int .i64 pc)) (exact ⟨c0, c1, s0, s1⟩) (fail)
        go_wp2_with fail
        go_roundw
        case rel =>
          refine ⟨i + 1, by omega, by omega, by go_num, below_drewN B1.out 1, fun j h1 h2 e => ?_⟩
          by_cases hj : j < i
          · exact NO.out j h1 hj e
          · obtain rfl : j = i := by omega
            rw [HX.out] at e
            injection e with e
            injection e with e1 e2
            have h := HQ.out
            simp [e1, e2] at h
        case measure => simp [intOf]; omega
    · obtain rfl : i = n := by omega
      have NONE := hide (show HasP l k ⟨pp, pc⟩ 0 false from .inr ⟨fun j h1 e => by
        by_cases hj : j < i
        · exact NO.out j h1 hj e
        · have := (List.getElem?_eq_some_iff.1 e).1
          have := RR.out.1
          omega, rfl, rfl⟩)
      go_wp2_with fail
      go_ret2
      exact ⟨⟨_, _, rfl, NONE.out⟩, B0.out.trans (B1.out.mono B0.out.size)⟩
end Go.Proofs.Ytcmgkjjkhfcedaa
/-
  An append of elements of several cells in a region that draws; a row of one's own as one that came in.
-/
namespace Go.Proofs.Ytcmgkjjkhfcedaa
open Go.ChangeShapes Go.WideShapes Go.ChangeAt Go.RowKit
set_option linter.unusedVariables false
theorem step_append_reads {α : Type} {zz : Nat} {vals : α → List Value} {P : Program} {ops : Array Oper} {o : Oper} {a : Act} {w : World} {K : Act → World → Prop} {Q : Exit → Act → World → Prop} {E : Prop} (hgd : o.guard = none) (s x : Operand) (ty : TypeId)
    (ho : o.op = .call { callee := .builtin .append, args := #[s, x], argTypes := #[ty, ty] }) (base : Nat) (e : TypeId) (i : TypeInfo) (zv : Value) (bytes : Nat) (ht : P.underlying ty = some (.slice e)) (hi : P.info? e = some i) (hz : i.zero = some zv)
    (hsize : i.size = zz) (hby : i.bytes = bytes) (hzs : zv.cells.size = zz) (hsz : 0 < zz) (v : Value) (n : Nat) (xs : List Value) (hs : a.eval s = v) (hown : w.ownsRow base e zz v n xs)
    (A : Option Addr) (m c : Nat) (ys : List α) (hx : a.eval x = .slice A m c) (hv : ∀ x, (vals x).length = zz) (h1 : ∀ x, ∀ v ∈ vals x, v.oneCell' = true) (hr : Reads zz vals w A m ys) (hnil : A = none → c = 0)
    (h63 : n + m ≤ maxLen) (hbytes : (n + m) * bytes ≤ 140737488355328) (hbase : base ≤ w.heap.size)
    (h : ∀ v' w', w'.ownsRow base e zz v' (n + m) (xs ++ ys.flatMap vals) → w.grownBy w' v.ownBlock → K (a.put o.dst v') w') :
    if Region.wanted o (yielded ops a.tmps) = true then Oper.wp P o a w K Q else E := by
  have hw : Region.wanted o (yielded ops a.tmps) = true := by simp [Region.wanted, hgd]
  rw [if_pos hw]
  cases A with
  | none =>
    obtain rfl := hr.isNil rfl
    obtain rfl : ys = [] := List.eq_nil_of_length_eq_zero hr.1
    obtain rfl := hnil rfl
    have hrun := run_append_owned_none (P := P) (w := w) base ty o.type e i zz ht hi v n xs hown
    unfold Oper.wp execOp
    simp only [ho, resolve, invoke, builtin, Sem.run_bind, Sem.run_pure, Result.andThen_ok, List.map_toArray, List.map_cons, List.map_nil, hs, hx, hrun]
    exact h v w (by simpa using hown) (World.grownBy.refl w _)
  | some ad =>
    obtain ⟨v', w', hrun, h2, h3, _, _⟩ := run_append_own_at (P := P) w base ty o.type e i zv zz bytes ht hi hz hsize hby hzs hsz v n xs hown ad m c (ys.flatMap vals) (by rw [flat_length hv, hr.1]) (hr.cells hv ad rfl) (flat_cell h1 ys) h63 hbytes hbase
    unfold Oper.wp execOp
    simp only [ho, resolve, invoke, builtin, Sem.run_bind, Sem.run_pure, Result.andThen_ok, List.map_toArray, List.map_cons, List.map_nil, hs, hx, hrun]
    exact h v' w' h2 h3
theorem came_own {α : Type} {z : Nat} {vals : α → List Value} {fits : World → α → Prop} (hv : ∀ x, (vals x).length = z) (hz : 0 < z) {w : World} {B n : Nat} {e : TypeId} {v : Value} {xs : List α} (h : w.ownsRow B e z v n (xs.flatMap vals)) (hf : ∀ x ∈ xs, fits w x) : ∃ a c, v = .slice a n c ∧ Came z vals fits w a n c xs := by
  obtain ⟨a, c, rfl, h1, h2, h3, h4⟩ := own_reads hv hz h
  refine ⟨a, c, rfl, h1.1, h2, h3, h4, hf, fun hn => ?_⟩
  obtain ⟨b, off, e, hc⟩ := h1.2 hn
  refine ⟨b, off, e, ?_, hc⟩
  have hx : xs[0]? = some (xs[0]'(by rw [h1.1]; exact hn)) := List.getElem?_eq_getElem _
  have hj : 0 < (vals (xs[0]'(by rw [h1.1]; exact hn))).length := by rw [hv]; exact hz
  exact lt_of_cell? (hc 0 _ hx 0 _ (List.getElem?_eq_getElem hj))
end Go.Proofs.Ytcmgkjjkhfcedaa
/-
  The document's own May, Least, Sum (coxswainref10).
-/
namespace Go.Proofs.Ytcmgkjjkhfcedaa
open Go.ChangeShapes Go.WideShapes Go.ChangeAt Go.RowKit
set_option linter.unusedVariables false
theorem quietI {P : Program} {f : FuncId} {args : Array Value} {w : World} {n : Nat} {v : Value} (h : Calls P f args (w.drewN n) fun e w' => e = .returned v ∧ w.drewN n = w') : Calls P f args (w.drewN n) fun e w' => e = .returned v ∧ ∃ m, w' = w.drewN m := by
  refine h.mono ?_
  rintro e w' ⟨rfl, rfl⟩
  exact ⟨rfl, n, rfl⟩
theorem drew_more {w wr : World} {nq : Nat} (h : ∃ q, wr = w.drewN q) : ∃ q, wr.drewN nq = w.drewN q := by
  obtain ⟨q, rfl⟩ := h
  exact ⟨q + nq, by simp [World.drewN, Nat.add_assoc]⟩
theorem any_take_succ {hs : List Int} {k : Nat} {h : Int} {p : Int → Bool} (he : hs[k]? = some h) (hn : (hs.take k).any p = false) : (hs.take (k + 1)).any p = p h := by
  have hk : k < hs.length := (List.getElem?_eq_some_iff.1 he).1
  rw [List.take_succ_eq_append_getElem hk, List.any_append, hn]
  rw [List.getElem?_eq_getElem hk] at he
  injection he with he
  simp [he]
theorem fold_take_succ {β : Type} {us : List Int} {k : Nat} {u : Int} {f : β → Int → β} {s : β} (he : us[k]? = some u) : (us.take (k + 1)).foldl f s = f ((us.take k).foldl f s) u := by
  have hk : k < us.length := (List.getElem?_eq_some_iff.1 he).1
  rw [List.take_succ_eq_append_getElem hk, List.foldl_append]
  rw [List.getElem?_eq_getElem hk] at he
  injection he with he
  simp [he]
end Go.Proofs.Ytcmgkjjkhfcedaa
/-
  The document's work and response (coxswainref16); the law's parts turned into the document's.
-/
namespace Go.Proofs.Ytcmgkjjkhfcedaa
open Go.ChangeShapes Go.WideShapes Go.ChangeAt Go.RowKit
set_option linter.unusedVariables false
theorem quiet_rt {P : Program} {f : FuncId} {args : Array Value} {w : World} {n : Nat} {v : Value} (h : Calls P f args (w.drewN n) fun e w' => e = .returned v ∧ w.drewN n = w') : Calls P f args (w.drewN n) fun e w' => e = .returned v ∧ ∃ m, w' = w.drewN m :=
  h.mono fun e w' hh => ⟨hh.1, n, hh.2.symm⟩
/-- What a response is told as. -/
def RespIs (own block : Int) (ps : List Pt) (most : Int) (v : Value) : Prop := ∃ r ok, v = .tuple #[.int .i64 r, .bool ok] ∧ IsResp own block ps most r ok
theorem own_slicePt {w : World} {B : Nat} {e : TypeId} {z n : Nat} {v : Value} {xs : List Value} (h : w.ownsRow B e z v n xs) : ∃ a c, v = .slice a n c := by
  rcases h.2 with ⟨rfl, rfl⟩ | ⟨g, cap, cur, rfl, _⟩
  · exact ⟨none, 0, rfl⟩
  · exact ⟨_, _, rfl⟩
end Go.Proofs.Ytcmgkjjkhfcedaa
/-
  The document's own admit (coxswainref18): May (written by tools/gen/adrefb.py).
-/
namespace Go.Proofs.Ytcmgkjjkhfcedaa
open Go.ChangeShapes Go.WideShapes Go.ChangeAt Go.RowKit
set_option linter.unusedVariables false
set_option linter.unusedSimpArgs false
theorem apart_all : ∀ {ts : List Tp}, (∀ (k i : Nat) (a b : Tp), k < i → ts[k]? = some a → ts[i]? = some b → ¬ (0 ≤ b.line ∧ a.line = b.line)) → apartT ts = true := by
  intro ts
  induction ts with
  | nil => intro _; rfl
  | cons t ts ih =>
    intro h
    simp only [apartT, Bool.and_eq_true]
    refine ⟨List.all_eq_true.2 fun x hx => ?_, ih fun k i a b hk h1 h2 => h (k + 1) (i + 1) a b (by omega) (by simpa using h1) (by simpa using h2)⟩
    obtain ⟨i, hi⟩ := List.getElem?_of_mem hx
    exact decide_eq_true (h 0 (i + 1) t x (by omega) rfl (by simpa using hi))
theorem apart_at {ts : List Tp} : apartT ts = true → ∀ (k i : Nat) (a b : Tp), k < i → ts[k]? = some a → ts[i]? = some b → ¬ (0 ≤ b.line ∧ a.line = b.line) := by
  induction ts with
  | nil => intro _ k i a b _ h _; cases h
  | cons t ts ih =>
    intro h k i a b hk h1 h2
    simp only [apartT, Bool.and_eq_true] at h
    cases i with
    | zero => omega
    | succ i =>
      cases k with
      | zero =>
        injection h1 with h1
        subst h1
        exact of_decide_eq_true ((List.all_eq_true.1 h.1) b (List.mem_of_getElem? (by simpa using h2)))
      | succ k => exact ih h.2 k i a b (by omega) (by simpa using h1) (by simpa using h2)
theorem all_false {α : Type} {f : α → Bool} {l : List α} {i : Nat} {x : α} (h : l[i]? = some x) (hf : f x = false) : l.all f = false := by
  cases e : l.all f
  · rfl
  · have := List.all_eq_true.1 e x (List.mem_of_getElem? h)
    rw [hf] at this; cases this
end Go.Proofs.Ytcmgkjjkhfcedaa
/-
  The document's own admit (coxswainref18): is, counts.
-/
namespace Go.Proofs.Ytcmgkjjkhfcedaa
open Go.ChangeShapes Go.WideShapes Go.ChangeAt Go.RowKit
set_option linter.unusedVariables false
set_option linter.unusedSimpArgs false
/-- Whether there is such a task, and the configuration may be. -/
def isC (c : Cp) (task : Int) : Bool := mayC c && decide (0 ≤ task ∧ task < (c.ts.length : Int))
theorem tk_range {w : World} {b off n : Nat} {ts : List Tk} (h : Reads 8 tkVals w (some ⟨b, off, none⟩) n ts) {i : Nat} {t : Tk} (ht : ts[i]? = some t) : ∀ (j : Nat) (u : Value), (tkVals t)[j]? = some u → w.cell? ⟨b, off + i * 8 + j, none⟩ = some u := by
  have hi : i < n := by rw [← h.1]; exact (List.getElem?_eq_some_iff.1 ht).1
  obtain ⟨x, b', off', hx, e, hc⟩ := h.at_ hi
  injection e with e
  injection e with e1 e2
  subst e1 e2
  rw [ht] at hx
  injection hx with hx
  subst hx
  exact hc
theorem alloc_two (w : World) (a b : Obj) : ((w.alloc a).alloc b).heap[w.heap.size + 1]? = some b := by
  have := heap_alloc_new (w.alloc a) b
  simpa using this
end Go.Proofs.Ytcmgkjjkhfcedaa
/-
  What comes in: a slice of structs of integers, read row by row.
-/
namespace Go.Proofs.Ytcmgkjjkhfcedaa
open Go.ChangeShapes Go.WideShapes Go.ChangeAt Go.RowKit
open Go.Deep (oneCellFields hone_of)
set_option linter.unusedVariables false
/-- A slice of n structs of k integers each, that reads as 'zs'. -/
def CameRows (k : Nat) (w : World) (a : Option Addr) (n c : Nat) (zs : List (List Int)) : Prop :=
  zs.length = n ∧ n ≤ c ∧ c ≤ maxLen ∧ (∀ i, i < n → (zs.getD i []).length = k ∧ ∀ j, j < k → (Lit.int .i64 ((zs.getD i []).getD j 0)).wf = true) ∧
    (0 < n → ∃ b off, a = some ⟨b, off, none⟩ ∧ b < w.heap.size ∧ ∀ i j, i < n → j < k → w.cell? ⟨b, off + (i * k + j), none⟩ = some (.int .i64 ((zs.getD i []).getD j 0)))
theorem list_of {α : Type} (d : α) (n : Nat) (p : Nat → α → Prop) (h : ∀ i, i < n → ∃ z, p i z) : ∃ zs : List α, zs.length = n ∧ ∀ i, i < n → p i (zs.getD i d) := by
  refine ⟨(List.range n).map fun i => if hi : i < n then Classical.choose (h i hi) else d, by simp, fun i hi => ?_⟩
  have e : ((List.range n).map fun i => if hi : i < n then Classical.choose (h i hi) else d).getD i d = Classical.choose (h i hi) := by
    simp [List.getD, hi]
  rw [e]
  exact Classical.choose_spec (h i hi)
section
variable {H : Type} {enc : TypeId × Value → H} {P : Program} {w : World} {base : Nat} {spare : Nat → Bool} {held : Bool}
theorem ints_of_struct {e : TypeId} {fs : Array Field} {n : Nat} {cs : List Value} {x : DataW H × List MemPlace} (he : P.underlying e = some (.struct fs)) (hone : oneCellFields P fs = true)
    (hint : ∀ (j : Nat) (f : Field), fs[j]? = some f → P.underlying f.type = some (.int .i64)) (hl : cs.length = fs.size) (h : DataW.trod enc P w base spare held n e cs = some x) :
    ∃ z : List Int, z.length = fs.size ∧ ∀ j, j < fs.size → cs[j]? = some (.int .i64 (z.getD j 0)) ∧ (Lit.int .i64 (z.getD j 0)).wf = true := by
  obtain ⟨xs, m, _, _, _, _, hf⟩ := DataW.trod_struct he h
  obtain ⟨z, hz, hp⟩ := list_of (0 : Int) fs.size (fun j y => cs[j]? = some (.int .i64 y) ∧ (Lit.int .i64 y).wf = true) (fun j hj => by
    have hfj : fs[j]? = some fs[j] := Array.getElem?_eq_getElem hj
    obtain ⟨ho, hk⟩ := hone_of hone j _ hfj
    have h1 := hf j _ hfj
    have hx : xs[j]? = some (xs[j]'(by omega)) := List.getElem?_eq_getElem (by omega)
    rw [ho, hk, hx] at h1
    obtain ⟨y, hy, _, hw⟩ := DataW.trod_int (hint j _ hfj) h1
    refine ⟨y, ?_, hw⟩
    have hd : (cs.drop j).take 1 = [cs[j]'(by omega)] := by
      rw [List.drop_eq_getElem_cons (by omega)]; rfl
    rw [hd] at hy
    injection hy with hy _
    rw [List.getElem?_eq_getElem (by omega), hy])
  exact ⟨z, hz, hp⟩
theorem cameRows_open (k : Nat) {t e : TypeId} {fs : Array Field} {a : Option Addr} {l c : Nat} {d : DataW H} {ps : List MemPlace} (ht : P.underlying t = some (.slice e)) (he : P.underlying e = some (.struct fs)) (hk : fs.size = k) (hk0 : 0 < k)
    (hone : oneCellFields P fs = true) (hC : P.cellsOf e = k) (hint : ∀ (j : Nat) (f : Field), fs[j]? = some f → P.underlying f.type = some (.int .i64))
    (h : DataW.Trod enc P w base spare held t (.slice a l c) d ps) : ∃ zs, CameRows k w a l c zs := by
  obtain ⟨fuel, hf⟩ := h
  rcases Go.Deep.open_slice ht hf with ⟨h0, _⟩ | ⟨ad, len, cap, m, n, D, Pl, hcs, hb, hl, hm, hmm, hx, hi⟩
  · simp [Value.cells] at h0
    obtain ⟨rfl, rfl, rfl⟩ := h0
    exact ⟨[], rfl, Nat.le_refl _, by unfold maxLen; omega, fun i hi => by omega, fun hn => by omega⟩
  · simp [Value.cells] at hcs
    obtain ⟨rfl, rfl, rfl⟩ := hcs
    have hlm : l ≤ m := by rw [hmm]; split <;> omega
    obtain ⟨zs, hz, hp⟩ := list_of ([] : List Int) l (fun i z => z.length = k ∧ ∀ j, j < k → w.cell? (ad.add (i * k + j)) = some (.int .i64 (z.getD j 0)) ∧ (Lit.int .i64 (z.getD j 0)).wf = true) (fun i hil => by
      obtain ⟨cs', hc, ht'⟩ := hi i (by omega)
      rw [hC] at hc
      obtain ⟨_, hcl, hat⟩ := World.cells?_some hc
      obtain ⟨z, hz, hp⟩ := ints_of_struct he hone hint (by omega) ht'
      refine ⟨z, by omega, fun j hj => ?_⟩
      obtain ⟨h1, h2⟩ := hp j (by omega)
      rw [← Go.Deep.add_add, hat j hj]
      exact ⟨h1, h2⟩)
    refine ⟨zs, hz, hl, hm, fun i hil => ⟨(hp i hil).1, fun j hj => ((hp i hil).2 j hj).2⟩, fun hn => ?_⟩
    obtain ⟨b, off, spot⟩ := ad
    have h00 := ((hp 0 hn).2 0 hk0).1
    have hspot : spot = none := by simpa [Addr.add] using World.cell?_spot h00
    subst hspot
    refine ⟨b, off, rfl, ?_, fun i j hil hj => ?_⟩
    · have := lt_of_cell? h00
      simpa [Addr.add] using this
    · have := ((hp i hil).2 j hj).1
      rw [Go.WideShapes.add_plain] at this
      exact this
/-- The same, and what a nil one's room is. -/
def CameRowsN (k : Nat) (w : World) (a : Option Addr) (n c : Nat) (zs : List (List Int)) : Prop := CameRows k w a n c zs ∧ (a = none → c = 0)
theorem cameRowsN_open (k : Nat) {t e : TypeId} {fs : Array Field} {a : Option Addr} {l c : Nat} {d : DataW H} {ps : List MemPlace} (ht : P.underlying t = some (.slice e)) (he : P.underlying e = some (.struct fs)) (hk : fs.size = k) (hk0 : 0 < k)
    (hone : oneCellFields P fs = true) (hC : P.cellsOf e = k) (hint : ∀ (j : Nat) (f : Field), fs[j]? = some f → P.underlying f.type = some (.int .i64))
    (h : DataW.Trod enc P w base spare held t (.slice a l c) d ps) : ∃ zs, CameRowsN k w a l c zs := by
  obtain ⟨zs, hz⟩ := cameRows_open k ht he hk hk0 hone hC hint h
  refine ⟨zs, hz, fun hn => ?_⟩
  obtain ⟨fuel, hf⟩ := h
  rcases Go.Deep.open_slice ht hf with ⟨h0, _⟩ | ⟨ad, len, cap, m, n, D, Pl, hcs, _⟩
  · simp [Value.cells] at h0
    exact h0.2.2
  · simp [Value.cells] at hcs
    rw [hn] at hcs
    cases hcs.1
end
end Go.Proofs.Ytcmgkjjkhfcedaa
/-
  The document's own Compare, Max (coxswainref7).
-/
namespace Go.Proofs.Ytcmgkjjkhfcedaa
open Go.ChangeShapes Go.WideShapes Go.ChangeAt Go.RowKit
set_option linter.unusedVariables false
/-- A priority's block. -/
def PrAt (w : World) (X : Nat) (c l d : Int) : Prop := w.heap[X]? = some (.cells #[.int .i64 c, .int .i64 l, .int .i64 d] 98 (0, 0))
theorem PrAt.cells {w : World} {X : Nat} {c l d : Int} (h : PrAt w X c l d) : w.cell? ⟨X, 0, none⟩ = some (.int .i64 c) ∧ w.cell? ⟨X, 1, none⟩ = some (.int .i64 l) ∧ w.cell? ⟨X, 2, none⟩ = some (.int .i64 d) := by
  refine ⟨?_, ?_, ?_⟩ <;> (rw [cell_of_row _ _ _ _ _ _ h]; rfl)
theorem PrAt.frozen {w : World} {X : Nat} {c l d : Int} (h : PrAt w X c l d) (j : Nat) : w.frozen? ⟨X, j, none⟩ = false := frozen_of_row _ _ _ _ _ h
theorem PrAt.below {w w' : World} {X : Nat} {c l d : Int} (h : PrAt w X c l d) (b : Below w.heap.size w w') : PrAt w' X c l d := (b.block X (lt_of_heap h)).trans h
theorem prAt_new (w : World) (c l d : Int) : PrAt (w.alloc (.cells #[.int .i64 c, .int .i64 l, .int .i64 d] 98)) w.heap.size c l d := heap_alloc_new w _
end Go.Proofs.Ytcmgkjjkhfcedaa
/-
  The document's own Max (coxswainref7).
-/
namespace Go.Proofs.Ytcmgkjjkhfcedaa
open Go.ChangeShapes Go.WideShapes Go.ChangeAt Go.RowKit
set_option linter.unusedVariables false
def prD : Pr := ⟨0, 0, 0⟩
/-- A slice of n priorities that reads as zs. -/
def PrRow (w : World) (a : Option Addr) (n : Nat) (zs : List Pr) : Prop :=
  zs.length = n ∧ (0 < n → ∃ b off, a = some ⟨b, off, none⟩ ∧ ∀ i, i < n → w.cell? ⟨b, off + i * 3, none⟩ = some (.int .i64 (zs.getD i prD).c) ∧ w.cell? ⟨b, off + i * 3 + 1, none⟩ = some (.int .i64 (zs.getD i prD).l) ∧ w.cell? ⟨b, off + i * 3 + 2, none⟩ = some (.int .i64 (zs.getD i prD).d))
theorem PrRow.below {w w' : World} {a : Option Addr} {n : Nat} {zs : List Pr} (h : PrRow w a n zs) (b : Below w.heap.size w w') : PrRow w' a n zs := by
  refine ⟨h.1, fun hn => ?_⟩
  obtain ⟨g, off, e, hc⟩ := h.2 hn
  refine ⟨g, off, e, fun i hi => ?_⟩
  obtain ⟨h0, h1, h2⟩ := hc i hi
  have hg : g < w.heap.size := lt_of_cell? h0
  exact ⟨(b.cell (p := ⟨g, _, none⟩) hg).trans h0, (b.cell (p := ⟨g, _, none⟩) hg).trans h1, (b.cell (p := ⟨g, _, none⟩) hg).trans h2⟩
theorem PrRow.of_came {w : World} {a : Option Addr} {n c : Nat} {zs : List (List Int)} (h : CameRows 3 w a n c zs) : ∃ ps, PrRow w a n ps ∧ n ≤ c ∧ c ≤ maxLen ∧ ∀ i, i < n → (Lit.int .i64 (ps.getD i prD).c).wf = true ∧ (Lit.int .i64 (ps.getD i prD).l).wf = true ∧ (Lit.int .i64 (ps.getD i prD).d).wf = true := by
  obtain ⟨h1, h2, h3, h4, h5⟩ := h
  have hget : ∀ i, i < n → (zs.map (fun z => (⟨z.getD 0 0, z.getD 1 0, z.getD 2 0⟩ : Pr))).getD i prD = ⟨(zs.getD i []).getD 0 0, (zs.getD i []).getD 1 0, (zs.getD i []).getD 2 0⟩ := fun i hi => by
    simp [List.getD, List.getElem?_map, List.getElem?_eq_getElem (show i < zs.length by omega)]
  refine ⟨zs.map (fun z => ⟨z.getD 0 0, z.getD 1 0, z.getD 2 0⟩), ⟨by simpa using h1, fun hn => ?_⟩, h2, h3, fun i hi => ?_⟩
  · obtain ⟨b, off, e, hb, hc⟩ := h5 hn
    refine ⟨b, off, e, fun i hi => ?_⟩
    rw [hget i hi]
    exact ⟨by have := hc i 0 hi (by omega); simpa using this, by have := hc i 1 hi (by omega); rw [← Nat.add_assoc] at this; exact this, by have := hc i 2 hi (by omega); rw [← Nat.add_assoc] at this; exact this⟩
  · rw [hget i hi]
    obtain ⟨_, hw⟩ := h4 i hi
    exact ⟨hw 0 (by omega), hw 1 (by omega), hw 2 (by omega)⟩
theorem PrAt.set {w : World} {X : Nat} {c l d : Int} (h : PrAt w X c l d) (x y z : Int) : PrAt (((w.setCell ⟨X, 0, none⟩ (.int .i64 x)).setCell ⟨X, 1, none⟩ (.int .i64 y)).setCell ⟨X, 2, none⟩ (.int .i64 z)) X x y z := by
  have h1 : (w.setCell ⟨X, 0, none⟩ (.int .i64 x)).heap[X]? = some (.cells #[.int .i64 x, .int .i64 l, .int .i64 d] 98 (0, 0)) := by rw [heap_setCell_same _ _ _ _ _ _ h]; rfl
  have h2 : ((w.setCell ⟨X, 0, none⟩ (.int .i64 x)).setCell ⟨X, 1, none⟩ (.int .i64 y)).heap[X]? = some (.cells #[.int .i64 x, .int .i64 y, .int .i64 d] 98 (0, 0)) := by rw [heap_setCell_same _ _ _ _ _ _ h1]; rfl
  unfold PrAt
  rw [heap_setCell_same _ _ _ _ _ _ h2]; rfl
theorem maxP_snoc (x : Pr) (ys : List Pr) (y : Pr) : maxP x (ys ++ [y]) = if gtP y (maxP x ys) = true then y else maxP x ys := by unfold maxP; rw [List.foldl_append]; rfl
end Go.Proofs.Ytcmgkjjkhfcedaa
/-
  Priorities lent out with marked room behind them; whether they are as they were; whether two lists are the same.
-/
namespace Go.Proofs.Ytcmgkjjkhfcedaa
open Go.ChangeShapes Go.WideShapes Go.ChangeAt Go.RowKit
set_option linter.unusedVariables false
def cellsPr (p : Pr) : List Value := [.int .i64 p.c, .int .i64 p.l, .int .i64 p.d]
def cellsPrs (l : List Pr) : List Value := l.flatMap cellsPr
theorem cellsPrs_append (a b : List Pr) : cellsPrs (a ++ b) = cellsPrs a ++ cellsPrs b := by unfold cellsPrs; simp
theorem cellsPrs_length (l : List Pr) : (cellsPrs l).length = l.length * 3 := by
  induction l with
  | nil => rfl
  | cons x l ih => show (cellsPr x ++ cellsPrs l).length = _; rw [List.length_append, ih, List.length_cons]; show 3 + _ = _; omega
theorem cellsPrs_cell (l : List Pr) : ∀ v ∈ cellsPrs l, v.oneCell' = true := by
  intro v hv
  obtain ⟨x, _, h⟩ := List.mem_flatMap.mp hv
  simp [cellsPr] at h
  rcases h with rfl | rfl | rfl <;> rfl
theorem cellsPrs_at {l : List Pr} {i : Nat} (j : Nat) (h : i < l.length) (hj : j < 3) : (cellsPrs l)[i * 3 + j]? = (cellsPr (l.getD i prD))[j]? := by
  induction l generalizing i with
  | nil => cases h
  | cons x l ih =>
    show (cellsPr x ++ cellsPrs l)[i * 3 + j]? = _
    cases i with
    | zero =>
      rw [Nat.zero_mul, Nat.zero_add, List.getElem?_append_left (by show j < 3; exact hj)]
      rfl
    | succ i =>
      rw [List.getElem?_append_right (by show 3 ≤ (i + 1) * 3 + j; omega)]
      have : (i + 1) * 3 + j - (cellsPr x).length = i * 3 + j := by show (i + 1) * 3 + j - 3 = _; omega
      rw [this, ih (by simpa using h)]
      rfl
theorem PrRow.cells {w : World} {a : Option Addr} {n : Nat} {zs : List Pr} (h : PrRow w a n zs) : ∀ ad, a = some ad → ∀ j u, (cellsPrs zs)[j]? = some u → w.cell? (ad.add j) = some u := by
  intro ad ha j u hu
  have hj : j < (cellsPrs zs).length := (List.getElem?_eq_some_iff.mp hu).1
  rw [cellsPrs_length, h.1] at hj
  obtain ⟨b, off, e, hc⟩ := h.2 (by omega)
  rw [ha] at e
  injection e with e
  subst e
  obtain ⟨h0, h1, h2⟩ := hc (j / 3) (by omega)
  have hz := h.1
  rw [show j = j / 3 * 3 + j % 3 by omega, cellsPrs_at (j % 3) (by omega) (Nat.mod_lt _ (by omega))] at hu
  rw [addr_add]
  have hm : j % 3 = 0 ∨ j % 3 = 1 ∨ j % 3 = 2 := by omega
  rcases hm with e | e | e
  · rw [e] at hu
    rw [show off + j = off + j / 3 * 3 by omega, h0, ← Option.some.inj hu]
  · rw [e] at hu
    rw [show off + j = off + j / 3 * 3 + 1 by omega, h1, ← Option.some.inj hu]
  · rw [e] at hu
    rw [show off + j = off + j / 3 * 3 + 2 by omega, h2, ← Option.some.inj hu]
theorem prio_info : (Try.prog.info? 98).map (fun i => (i.zero, i.size, i.bytes)) = some (some (.agg #[.int .i64 0, .int .i64 0, .int .i64 0]), 3, 24) := by kernel_rfl
def markP : Pr := ⟨-7, 0, 0⟩
/-- Block g is a row: n priorities, k marks, and what is left of three. -/
def RoomP (w : World) (g n k : Nat) (ys : List Pr) : Prop :=
  ∃ cur : Array Value, w.heap[g]? = some (.cells cur 98 (0, 0)) ∧ cur.size = (n + 3) * 3 ∧ cur.toList.take ((n + k) * 3) = cellsPrs (ys ++ List.replicate k markP)
theorem RoomP.spot {w : World} {g n k : Nat} {ys : List Pr} (h : RoomP w g n k ys) (hk : k < 3) :
    (∃ u, w.cell? ⟨g, (n + k) * 3, none⟩ = some u) ∧ (∃ u, w.cell? ⟨g, (n + k) * 3 + 1, none⟩ = some u) ∧ (∃ u, w.cell? ⟨g, (n + k) * 3 + 2, none⟩ = some u) ∧ ∀ j, w.frozen? ⟨g, j, none⟩ = false := by
  obtain ⟨cur, hh, hs, ht⟩ := h
  refine ⟨⟨cur[(n + k) * 3], ?_⟩, ⟨cur[(n + k) * 3 + 1], ?_⟩, ⟨cur[(n + k) * 3 + 2], ?_⟩, fun j => frozen_of_row _ _ _ _ _ hh⟩ <;> (rw [cell_of_row _ _ _ _ _ _ hh]; exact Array.getElem?_eq_getElem (by omega))
theorem take_set3 {α : Type} (l : List α) (m : Nat) (a b c : α) (h : m + 3 ≤ l.length) : (((l.set m a).set (m + 1) b).set (m + 2) c).take (m + 3) = l.take m ++ [a, b, c] := by
  apply List.ext_getElem?
  intro j
  by_cases hj : j < m
  · rw [List.getElem?_take_of_lt (by omega), List.getElem?_append_left (by rw [List.length_take]; omega), List.getElem?_take_of_lt hj, List.getElem?_set_ne (by omega), List.getElem?_set_ne (by omega), List.getElem?_set_ne (by omega)]
  · by_cases hj3 : j < m + 3
    · rw [List.getElem?_take_of_lt hj3, List.getElem?_append_right (by rw [List.length_take]; omega), List.length_take, Nat.min_eq_left (by omega)]
      rcases (show j = m ∨ j = m + 1 ∨ j = m + 2 by omega) with rfl | rfl | rfl
      · rw [List.getElem?_set_ne (by omega), List.getElem?_set_ne (by omega), List.getElem?_set_self (by omega)]; simp
      · rw [List.getElem?_set_ne (by omega), List.getElem?_set_self (by rw [List.length_set]; omega)]; simp
      · rw [List.getElem?_set_self (by rw [List.length_set, List.length_set]; omega)]; simp
    · rw [List.getElem?_take_eq_none (by omega), List.getElem?_eq_none (by rw [List.length_append, List.length_take]; simp; omega)]
theorem RoomP.set {w : World} {g n k : Nat} {ys : List Pr} (h : RoomP w g n k ys) (hk : k < 3) :
    RoomP (((w.setCell ⟨g, (n + k) * 3, none⟩ (.int .i64 (-7))).setCell ⟨g, (n + k) * 3 + 1, none⟩ (.int .i64 0)).setCell ⟨g, (n + k) * 3 + 2, none⟩ (.int .i64 0)) g n (k + 1) ys := by
  obtain ⟨cur, hh, hs, ht⟩ := h
  have h1 := heap_setCell_same w g ((n + k) * 3) cur _ (.int .i64 (-7)) hh
  have h2 := heap_setCell_same _ g ((n + k) * 3 + 1) _ _ (.int .i64 0) h1
  have h3 := heap_setCell_same _ g ((n + k) * 3 + 2) _ _ (.int .i64 0) h2
  refine ⟨_, h3, by simpa using hs, ?_⟩
  rw [Array.toList_setIfInBounds, Array.toList_setIfInBounds, Array.toList_setIfInBounds, show (n + (k + 1)) * 3 = (n + k) * 3 + 3 by omega, take_set3 _ _ _ _ _ (by simp; omega), ht, List.replicate_succ', ← List.append_assoc, cellsPrs_append (ys ++ List.replicate k markP) [markP]]
  rfl
theorem RoomP.at_ {w : World} {g n : Nat} {ys : List Pr} (h : RoomP w g n 3 ys) (hl : ys.length = n) {i : Nat} (hi : i < n + 3) : w.cell? ⟨g, i * 3, none⟩ = some (.int .i64 ((ys ++ List.replicate 3 markP).getD i prD).c) ∧ w.cell? ⟨g, i * 3 + 1, none⟩ = some (.int .i64 ((ys ++ List.replicate 3 markP).getD i prD).l) ∧ w.cell? ⟨g, i * 3 + 2, none⟩ = some (.int .i64 ((ys ++ List.replicate 3 markP).getD i prD).d) := by
  obtain ⟨cur, hh, hs, ht⟩ := h
  have h1 : cur.toList.take ((n + 3) * 3) = cur.toList := List.take_of_length_le (by simp; omega)
  rw [h1] at ht
  have hc : ∀ j, j < 3 → cur[i * 3 + j]? = (cellsPr ((ys ++ List.replicate 3 markP).getD i prD))[j]? := fun j hj => by
    rw [← Array.getElem?_toList, ht]
    exact cellsPrs_at j (by simp; omega) hj
  refine ⟨?_, ?_, ?_⟩
  · rw [cell_of_row _ _ _ _ _ _ hh]; exact hc 0 (by omega)
  · rw [cell_of_row _ _ _ _ _ _ hh]; exact hc 1 (by omega)
  · rw [cell_of_row _ _ _ _ _ _ hh]; exact hc 2 (by omega)
theorem RoomP.row {w : World} {g n : Nat} {ys : List Pr} (h : RoomP w g n 3 ys) (hl : ys.length = n) : PrRow w (some ⟨g, 0, none⟩) n ys := by
  refine ⟨hl, fun hn => ⟨g, 0, rfl, fun i hi => ?_⟩⟩
  have := h.at_ hl (show i < n + 3 by omega)
  rw [show (ys ++ List.replicate 3 markP).getD i prD = ys.getD i prD from by simp [List.getD, List.getElem?_append_left (show i < ys.length by omega)]] at this
  simpa using this
theorem RoomP.mark {w : World} {g n : Nat} {ys : List Pr} (h : RoomP w g n 3 ys) (hl : ys.length = n) {k : Nat} (hk : k < 3) : w.cell? ⟨g, (n + k) * 3, none⟩ = some (.int .i64 (-7)) ∧ w.cell? ⟨g, (n + k) * 3 + 1, none⟩ = some (.int .i64 0) ∧ w.cell? ⟨g, (n + k) * 3 + 2, none⟩ = some (.int .i64 0) := by
  have := h.at_ hl (show n + k < n + 3 by omega)
  rw [show (ys ++ List.replicate 3 markP).getD (n + k) prD = markP from by
    rw [List.getD_eq_getElem?_getD, List.getElem?_append_right (by omega), List.getElem?_replicate, if_pos (by omega)]; rfl] at this
  exact this
theorem RoomP.below {w w' : World} {g n k : Nat} {ys : List Pr} (h : RoomP w g n k ys) (b : Below w.heap.size w w') : RoomP w' g n k ys := by
  obtain ⟨cur, hh, r⟩ := h
  exact ⟨cur, (b.block g (lt_of_heap hh)).trans hh, r⟩
end Go.Proofs.Ytcmgkjjkhfcedaa
/-
  Two lists of priorities that are the same; what was lent is as it was.
-/
namespace Go.Proofs.Ytcmgkjjkhfcedaa
open Go.ChangeShapes Go.WideShapes Go.ChangeAt Go.RowKit
set_option linter.unusedVariables false
theorem prio_same (w : World) (x y z : Int) : (binOp .neq 98 (.agg #[.int .i64 x, .int .i64 y, .int .i64 z]) (.agg #[.int .i64 x, .int .i64 y, .int .i64 z])).run Try.prog w = .ok (.bool false) w := by
  rw [prio_neq]; simp
theorem PrRow.at_ {w : World} {a : Option Addr} {n : Nat} {ys : List Pr} (h : PrRow w a n ys) {i : Nat} (hi : i < n) : ∃ b off, a = some ⟨b, off, none⟩ ∧ w.cell? ⟨b, off + i * 3, none⟩ = some (.int .i64 (ys.getD i prD).c) ∧ w.cell? ⟨b, off + i * 3 + 1, none⟩ = some (.int .i64 (ys.getD i prD).l) ∧ w.cell? ⟨b, off + i * 3 + 2, none⟩ = some (.int .i64 (ys.getD i prD).d) := by
  obtain ⟨b, off, e, hc⟩ := h.2 (by omega)
  exact ⟨b, off, e, hc i hi⟩
end Go.Proofs.Ytcmgkjjkhfcedaa
/-
  Contracts of the program's prio (PPrio); awake of stage 7; the law PrioCompares.
-/
namespace Go.Proofs.Ytcmgkjjkhfcedaa
open Go.ChangeShapes Go.WideShapes Go.ChangeAt Go.RowKit
set_option linter.unusedVariables false
def PrWf (p : Pr) : Prop := (Lit.int .i64 p.c).wf = true ∧ (Lit.int .i64 p.l).wf = true ∧ (Lit.int .i64 p.d).wf = true
/-- What the queue's laws ask of the program's prio. -/
structure PPrio2 : Prop where
  may : ∀ (w : World) (c l d : Int), PrWf ⟨c, l, d⟩ → Calls Try.prog 51 #[.agg #[.int .i64 c, .int .i64 l, .int .i64 d]] w fun e w' => e = .returned (.bool (mayP ⟨c, l, d⟩)) ∧ Below w.heap.size w w'
  cmp : ∀ (w : World) (c l d x y z : Int), PrWf ⟨c, l, d⟩ → PrWf ⟨x, y, z⟩ → Calls Try.prog 57 #[.agg #[.int .i64 c, .int .i64 l, .int .i64 d], .agg #[.int .i64 x, .int .i64 y, .int .i64 z]] w fun e w' => e = .returned (.int .i64 (cmpP ⟨c, l, d⟩ ⟨x, y, z⟩)) ∧ Below w.heap.size w w'
end Go.Proofs.Ytcmgkjjkhfcedaa
/-
  Contracts of cmp.Compare at two whole numbers.
-/
namespace Go.Proofs.Ytcmgkjjkhfcedaa
open Go.ChangeShapes Go.WideShapes Go.ChangeAt Go.RowKit
set_option linter.unusedVariables false
theorem isNaNI_any (x : Int) (w : World) : Calls Try.prog 92 #[.int .i64 x] w fun e w' => e = .returned (.bool false) ∧ w = w' := by
  have h : (x != x) = false := by simp
  go_enter Try.func92, Try.ntmps92
  go_wp2_with fail
  go_ret
  exact ⟨rfl, rfl⟩
def sgnI (x y : Int) : Int := if x < y then -1 else if y < x then 1 else 0
theorem sgnI_any (x y : Int) (w : World) : Calls Try.prog 90 #[.int .i64 x, .int .i64 y] w fun e w' => e = .returned (.int .i64 (sgnI x y)) ∧ w = w' := by
  by_cases h1 : x < y
  · go_enter Try.func90, Try.ntmps90
    go_wp2_with (go_at_call 92; refine (isNaNI_any _ _).mono ?_; rintro e w' ⟨rfl, rfl⟩)
    go_ret
    exact ⟨by simp [sgnI, h1], rfl⟩
  · by_cases h2 : y < x
    · go_enter Try.func90, Try.ntmps90
      go_wp2_with (go_at_call 92; refine (isNaNI_any _ _).mono ?_; rintro e w' ⟨rfl, rfl⟩)
      go_ret
      exact ⟨ret_int (by unfold sgnI; split <;> (try split) <;> omega), rfl⟩
    · go_enter Try.func90, Try.ntmps90
      go_wp2_with (go_at_call 92; refine (isNaNI_any _ _).mono ?_; rintro e w' ⟨rfl, rfl⟩)
      go_ret
      exact ⟨ret_int (by unfold sgnI; split <;> (try split) <;> omega), rfl⟩
end Go.Proofs.Ytcmgkjjkhfcedaa
/-
  The program's prio: by class, in a class, the turns, Compare.
-/
namespace Go.Proofs.Ytcmgkjjkhfcedaa
open Go.ChangeShapes Go.WideShapes Go.ChangeAt Go.RowKit
set_option linter.unusedVariables false
/-- What tells two of one class apart. -/
def inI (c l d y z : Int) : Int := if c = 1 then sgnI z d else sgnI l y
theorem cmpP_turn1 {c l d x y z : Int} (h : c ≠ x) : cmpP ⟨c, l, d⟩ ⟨x, y, z⟩ = sgnI c x := by
  unfold cmpP gtP sgnI
  rw [if_pos h, if_pos (Ne.symm h)]
  simp only [decide_eq_true_eq]
  split <;> (try split) <;> (try split) <;> omega
theorem cmpP_turn2 (c l d y z : Int) : cmpP ⟨c, l, d⟩ ⟨c, y, z⟩ = inI c l d y z := by
  unfold cmpP gtP inI sgnI
  by_cases h : c = 1
  · simp only [h, ne_eq, not_true_eq_false, if_false, if_true, decide_eq_true_eq]
    split <;> (try split) <;> (try split) <;> omega
  · simp only [h, ne_eq, not_true_eq_false, if_false, decide_eq_true_eq]
    split <;> (try split) <;> (try split) <;> omega
theorem sgnI_ne {x y : Int} (h : x ≠ y) : sgnI x y ≠ 0 := by unfold sgnI; split <;> (try split) <;> omega
theorem sgnI_self (x : Int) : sgnI x x = 0 := by simp [sgnI]
set_option maxHeartbeats 2000000 in
theorem pbyClass_any (w : World) (c l d x y z : Int) : Calls Try.prog 82 #[.agg #[.int .i64 c, .int .i64 l, .int .i64 d], .agg #[.int .i64 x, .int .i64 y, .int .i64 z]] w fun e w' => e = .returned (.int .i64 (sgnI c x)) ∧ Below w.heap.size w w' := by
  have B := hide (((Below.refl w.heap.size w).alloc (Nat.le_refl _) (.cells #[.int .i64 c, .int .i64 l, .int .i64 d] 120)).alloc (by simp) (.cells #[.int .i64 x, .int .i64 y, .int .i64 z] 120))
  go_enter Try.func82, Try.ntmps82
  go_wp2_with (go_at_call 90; refine (sgnI_any _ _ _).mono ?_; rintro e w' ⟨rfl, rfl⟩)
  go_ret
  exact ⟨rfl, B.out⟩
set_option maxHeartbeats 2000000 in
theorem pinClass_any (w : World) (c l d x y z : Int) : Calls Try.prog 83 #[.agg #[.int .i64 c, .int .i64 l, .int .i64 d], .agg #[.int .i64 x, .int .i64 y, .int .i64 z]] w fun e w' => e = .returned (.int .i64 (inI c l d y z)) ∧ Below w.heap.size w w' := by
  have B := hide (((Below.refl w.heap.size w).alloc (Nat.le_refl _) (.cells #[.int .i64 c, .int .i64 l, .int .i64 d] 120)).alloc (by simp) (.cells #[.int .i64 x, .int .i64 y, .int .i64 z] 120))
  by_cases h : c = 1
  · subst h
    have e : inI 1 l d y z = sgnI z d := by simp [inI]
    rw [e]
    clear e
    go_enter Try.func83, Try.ntmps83
    go_wp2_with (go_at_call 90; refine (sgnI_any _ _ _).mono ?_; rintro e w' ⟨rfl, rfl⟩)
    go_ret
    exact ⟨rfl, B.out⟩
  · have e : inI c l d y z = sgnI l y := by simp [inI, h]
    have h' : (c == 1) = false := by simpa using h
    rw [e]
    clear e h
    go_enter Try.func83, Try.ntmps83
    go_wp2_with (go_at_call 90; refine (sgnI_any _ _ _).mono ?_; rintro e w' ⟨rfl, rfl⟩)
    go_ret
    exact ⟨rfl, B.out⟩
def turnsV : Array Value := #[.func (.func 82) #[] #[], .func (.func 83) #[] #[]]
theorem prstore_func (w : World) (a : Addr) (m : Mode) (fn : Fn) (first captured : Array Value) : (store a (.func fn first captured) m).run Try.prog w = stored Try.prog w a (.func fn first captured) m := run_store Try.prog w a _ m rfl
attribute [local go_sem] prstore_func
theorem built_turns : Try.prog.built 118 [(0, .func (.func 82) #[] #[]), (1, .func (.func 83) #[] #[])] = some turnsV := by kernel_rfl
set_option maxHeartbeats 2000000 in
theorem pturns_any (w : World) : Calls Try.prog 72 #[] w fun e w' => e = .returned (.agg turnsV) ∧ Below w.heap.size w w' := by
  go_enter Try.func72, Try.ntmps72
  go_wp2_with fail
  first
  | (go_ret; exact ⟨rfl, (Below.refl _ _).alloc (Nat.le_refl _) _⟩)
  | exact bodyPost_ret (v := .agg turnsV) (by simp [results, Try.results72, go_sem]; rfl) rfl ⟨rfl, (Below.refl _ _).alloc (Nat.le_refl _) _⟩
end Go.Proofs.Ytcmgkjjkhfcedaa
/-
  The program's prio: within, May.
-/
namespace Go.Proofs.Ytcmgkjjkhfcedaa
open Go.ChangeShapes Go.WideShapes Go.ChangeAt Go.RowKit
set_option linter.unusedVariables false
theorem pwithin_any (w : World) (x h : Int) : Calls Try.prog 71 #[.int .i64 x, .int .i64 h] w fun e w' => e = .returned (.bool (decide (0 ≤ x ∧ x ≤ h))) ∧ w = w' := by
  by_cases l0 : 0 ≤ x
  · go_enter Try.func71, Try.ntmps71
    go_wp2_with fail
    go_ret
    exact ⟨ret_bool (by rw [Bool.eq_iff_iff]; simp; omega), rfl⟩
  · go_enter Try.func71, Try.ntmps71
    go_wp2_with fail
    go_ret
    exact ⟨ret_bool (by rw [Bool.eq_iff_iff]; simp; omega), rfl⟩
set_option maxHeartbeats 4000000 in
theorem pmay_any (w : World) (c l d : Int) : Calls Try.prog 51 #[.agg #[.int .i64 c, .int .i64 l, .int .i64 d]] w fun e w' => e = .returned (.bool (mayP ⟨c, l, d⟩)) ∧ Below w.heap.size w w' := by
  have B := hide ((Below.refl w.heap.size w).alloc (Nat.le_refl _) (.cells #[.int .i64 c, .int .i64 l, .int .i64 d] 98))
  by_cases c0 : c = 0
  · subst c0
    obtain ⟨b, hb⟩ : ∃ b, b = decide (0 ≤ l ∧ l ≤ 15) := ⟨_, rfl⟩
    have K := hide (show ∀ W, Calls Try.prog 71 #[.int .i64 l, .int .i64 15] W fun e w' => e = .returned (.bool b) ∧ W = w' from fun W => by rw [hb]; exact pwithin_any W l 15)
    have hm : mayP ⟨0, l, d⟩ = (b && decide (d = 0)) := by
      rw [hb, Bool.eq_iff_iff]; simp [mayP]; omega
    rw [hm]
    clear hm hb
    cases b with
    | true =>
      go_enter Try.func51, Try.ntmps51
      go_wp2_with (go_at_call 71; refine (K.out _).mono ?_; rintro e w' ⟨rfl, rfl⟩)
      go_ret
      exact ⟨ret_bool (by rw [Bool.eq_iff_iff]; simp), B.out⟩
    | false =>
      go_enter Try.func51, Try.ntmps51
      go_wp2_with (go_at_call 71; refine (K.out _).mono ?_; rintro e w' ⟨rfl, rfl⟩)
      go_ret
      exact ⟨ret_bool (by simp), B.out⟩
  by_cases c1 : c = 1
  · subst c1
    clear c0
    obtain ⟨b, hb⟩ : ∃ b, b = decide (0 ≤ d ∧ d ≤ 1099511627776) := ⟨_, rfl⟩
    have K := hide (show ∀ W, Calls Try.prog 71 #[.int .i64 d, .int .i64 1099511627776] W fun e w' => e = .returned (.bool b) ∧ W = w' from fun W => by rw [hb]; exact pwithin_any W d 1099511627776)
    have hm : mayP ⟨1, l, d⟩ = (decide (l = 0) && b) := by
      rw [hb, Bool.eq_iff_iff]; simp [mayP]
    rw [hm]
    clear hm hb
    by_cases l0 : l = 0
    · subst l0
      go_enter Try.func51, Try.ntmps51
      go_wp2_with (go_at_call 71; refine (K.out _).mono ?_; rintro e w' ⟨rfl, rfl⟩)
      go_ret
      exact ⟨ret_bool (by simp), B.out⟩
    · have l0' : (l == 0) = false := by simpa using l0
      go_enter Try.func51, Try.ntmps51
      go_wp2_with (go_at_call 71; refine (K.out _).mono ?_; rintro e w' ⟨rfl, rfl⟩)
      go_ret
      exact ⟨ret_bool (by simp [l0]), B.out⟩
  have c0' : (c == 0) = false := by simpa using c0
  have c1' : (c == 1) = false := by simpa using c1
  by_cases c2 : c = 2
  · subst c2
    clear c0 c1 c0' c1'
    obtain ⟨b, hb⟩ : ∃ b, b = decide (0 ≤ l ∧ l ≤ 63) := ⟨_, rfl⟩
    have K := hide (show ∀ W, Calls Try.prog 71 #[.int .i64 l, .int .i64 63] W fun e w' => e = .returned (.bool b) ∧ W = w' from fun W => by rw [hb]; exact pwithin_any W l 63)
    have hm : mayP ⟨2, l, d⟩ = (b && decide (d = 0)) := by
      rw [hb, Bool.eq_iff_iff]; simp [mayP]; omega
    rw [hm]
    clear hm hb
    cases b with
    | true =>
      go_enter Try.func51, Try.ntmps51
      go_wp2_with (go_at_call 71; refine (K.out _).mono ?_; rintro e w' ⟨rfl, rfl⟩)
      go_ret
      exact ⟨ret_bool (by rw [Bool.eq_iff_iff]; simp), B.out⟩
    | false =>
      go_enter Try.func51, Try.ntmps51
      go_wp2_with (go_at_call 71; refine (K.out _).mono ?_; rintro e w' ⟨rfl, rfl⟩)
      go_ret
      exact ⟨ret_bool (by simp), B.out⟩
  · have c2' : (c == 2) = false := by simpa using c2
    have hm : mayP ⟨c, l, d⟩ = false := by unfold mayP; rw [if_neg c0, if_neg c1, if_neg c2]
    rw [hm]
    clear c0 c1 c2
    go_enter Try.func51, Try.ntmps51
    go_wp2_with fail
    go_ret
    exact ⟨rfl, B.out⟩
end Go.Proofs.Ytcmgkjjkhfcedaa
/-
  Contracts of the program's rank (PRank, NilRank), its memory left open; awake of stage 10; the law RankNone.
-/
namespace Go.Proofs.Ytcmgkjjkhfcedaa
open Go.ChangeShapes Go.WideShapes Go.ChangeAt Go.RowKit
set_option linter.unusedVariables false
/-- A list of numbers that is handed in. -/
structure NumsIn (w : World) (b : Option Addr) (p d : Nat) (hs : List Int) : Prop where
  ints : Ints .i64 w b p hs
  le : p ≤ d
  max : d ≤ maxLen
  nil : b = none → d = 0
  few : p ≤ 30
  wf : ∀ h ∈ hs, (Lit.int .i64 h).wf = true
theorem NumsIn.below {w w' : World} {b : Option Addr} {p d : Nat} {hs : List Int} (h : NumsIn w b p d hs) (bw : Below w.heap.size w w') : NumsIn w' b p d hs := ⟨h.ints.below bw, h.le, h.max, h.nil, h.few, h.wf⟩
def three : List Mu := [⟨1, 5⟩, ⟨2, 7⟩, ⟨2, 9⟩]
theorem built_m1 : Try.prog.built 44 [(0, .int .i64 1), (1, .int .i64 5)] = some #[.int .i64 1, .int .i64 5] := by kernel_rfl
theorem built_m2 : Try.prog.built 44 [(0, .int .i64 2), (1, .int .i64 7)] = some #[.int .i64 2, .int .i64 7] := by kernel_rfl
theorem built_m3 : Try.prog.built 44 [(0, .int .i64 2), (1, .int .i64 9)] = some #[.int .i64 2, .int .i64 9] := by kernel_rfl
attribute [local go_sem] built_m1 built_m2 built_m3
section
variable {PT : World → Nat → List Mu → Prop}
theorem nums_one (w : World) (x : Int) (hx : (Lit.int .i64 x).wf = true) (n : Nat) (hn : n = w.heap.size) : NumsIn (w.alloc (.cells #[.int .i64 x] 3)) (some ⟨n, 0, none⟩) 1 1 [x] :=
  ⟨ints_cell1 _ _ _ _ _ hn, Nat.le_refl _, by unfold maxLen; omega, (fun e => by cases e), by omega, fun h hh => by rw [List.mem_singleton] at hh; rw [hh]; exact hx⟩
end
end Go.Proofs.Ytcmgkjjkhfcedaa
/-
  Ranges over functions, for texts of this project: what turns under Touch; a region that draws, within a round, op by op.
-/
namespace Go.Proofs.Ytcmgkjjkhfcedaa
open Go.ChangeShapes Go.WideShapes Go.ChangeAt Go.RowKit Go.Shelf
set_option linter.unusedVariables false
/-- What a call that only makes new blocks leaves. -/
theorem Touch.of_below' {S : Nat → Prop} {w w' : World} {B : Nat} (hB : w.heap.size ≤ B) (h : Below w.heap.size w w') : Touch S w w' := Touch.of_below h
theorem touchK_t {V : Nat → Prop} {A B C : World} (h : Touch V A B) (k : Touch V B C) : Touch V A C := h.trans k (fun _ hi => .inl hi)
theorem touchK_b {V : Nat → Prop} {w : World} (hV : ∀ i, w.heap.size ≤ i → V i) (W : World) (l : Nat) (o o' : Obj) (hl : w.heap.size ≤ l) (_ : W.heap[l]? = some o) (_ : o.isCells = false) (_ : o.isWalk = false) : Touch V W (W.putObj l o') :=
  Touch.of_grown (grownBy_putObj' W l o') (fun k e => by cases e; exact hV _ hl)
theorem ownFrom_touch {β : Type} {V : Nat → Prop} {B : Nat} {w₀ : World} (hB : ∀ i, B ≤ i → V i) : OwnFrom B (fun (_ : β) W => Touch V w₀ W) :=
  fun _ X Y row hs hg hr => hs.trans (S' := V) (Touch.of_grown hg (fun k e => hB _ (hr k e).1)) (fun _ hi => .inl hi)
/-- A step of the iterator's own that only makes new blocks. -/
theorem grown_of_below {w w' : World} (h : Below w.heap.size w w') : w.grownBy w' none := ⟨h.os, h.tape, h.output, h.size, fun k hk _ => h.block k hk⟩
theorem abides_below {β : Type} {B : Nat} {J : β → World → Prop} (h : AbidesFrom B J) {s : β} {w w' : World} (hj : J s w) (b : Below w.heap.size w w') : J s w' := h s w w' none hj (grown_of_below b) (fun _ e => by cases e)
/-- A step that only makes new blocks keeps whatever lay. -/
theorem keepsFrom_below {B : Nat} {W W' : World} (h : Below W.heap.size W W') : KeepsFrom B W W' := ⟨h.size, fun k o _ hk _ => (h.block k (lt_of_heap hk)).trans hk⟩
theorem boxed_below {W W' : World} {B : Nat} {t : TypeId} {v : Value} (h : Boxed W B t v) (b : Below W.heap.size W W') : Boxed W' B t v := (b.block B h.lt).trans h
theorem boxed_touch {V : Nat → Prop} {W W' : World} {B : Nat} {t : TypeId} {v : Value} (h : Boxed W B t v) (b : Touch V W W') (d : ¬ V B) : Boxed W' B t v := (b.block B h.lt d).trans h
section
variable {P : Program} {ops : Array Oper} {Q : Exit → Act → World → Prop} {md : Region.Mode} {l n : Nat}
/-- No operation of the region is a defer statement. -/
def noDefer (ops : Array Oper) : Bool := ops.all fun o => match o.op with | .defer _ => false | _ => true
theorem noDefer_at {o : Oper} {i : Nat} (h : noDefer ops = true) (ho : ops[i]? = some o) : ∀ c, o.op ≠ .defer c := by
  intro c hc
  have hi := (Array.getElem?_eq_some_iff.1 ho)
  obtain ⟨hlt, e⟩ := hi
  have := (Array.all_eq_true.1 h) i hlt
  rw [e, hc] at this
  cases this
theorem operIn_round {o : Oper} {a : Act} {w : World} {K : Act → World → Prop} (hd : ∀ c, o.op ≠ .defer c) (h : o.wp P a w K Q) : o.wpIn (Fence.wide.inRound l) n P a w K Q := by
  refine ⟨fun _ _ => trivial, ?_⟩
  rw [Oper.semAt_eq _ _ _ hd]
  unfold Oper.wp at h
  generalize (execOp a.eval o).run P w = r at *
  have hdep : (Fence.wide.inRound l).depth.isSome = true → 1 ≤ n := fun e => by cases e
  cases r with
  | ok x w' =>
    cases x <;> simp only [Oper.upon, Oper.uponIn] at h ⊢ <;>
      first
        | exact h
        | exact ⟨hdep, CallsIn.inRound l (callsIn_wide.2 h)⟩
        | exact ⟨hdep, fun c cs _ => let ⟨v, w', r, s⟩ := h c cs; ⟨v, w', r, stepsIn_wide.2 s⟩⟩
  | halt x w' => cases x <;> simp only [Oper.upon, Oper.uponIn] at h ⊢ <;> exact h
theorem wpOpIn_round {i : Nat} {a : Act} {w : World} {K : Act → World → Prop} (hd : noDefer ops = true) (hQ : ¬ LetsOut Q) (h : wpOp P ops Q i K a w) : wpOpIn (Fence.wide.inRound l) n P ops Q i K a w := by
  unfold wpOp at h
  unfold wpOpIn
  split
  · rename_i ho; simpa [ho] using h
  · rename_i o ho
    simp only [ho] at h
    split
    · rename_i hw
      simp only [hw, if_true] at h
      rcases h with h | h
      · exact operIn_round (noDefer_at hd ho) h
      · exact absurd h.2 hQ
    · rename_i hw
      simp only [hw] at h
      exact ⟨fun _ _ => trivial, h⟩
theorem wpAnyIn_round (hd : noDefer ops = true) (hQ : ¬ LetsOut Q) : ∀ (fuel : Nat) (listed : Array Bool) (a : Act) (w : World), wpAny P md ops Q fuel listed a w → wpAnyIn (Fence.wide.inRound l) n P md ops Q fuel listed a w
  | 0, _, _, _, h => h
  | fuel + 1, _, _, _, h => ⟨h.1, fun i hi => wpOpIn_round hd hQ (wpOp_mono (fun a' w' h' => wpAnyIn_round hd hQ fuel _ a' w' h') (h.2 i hi))⟩
/-- A region that draws, within a round: by its orders, as everywhere. -/
theorem region_round {id : Nat} {a : Act} {w : World} {S : World → Prop} (hd : noDefer ops = true) (hQ : ∀ e a w, NoPanic Q e a w → e ≠ .outgrown) (hm : P.follows .mixedOrders = true) (hS : S w.drew)
    (h : S w.drew → wpAnyH P .any ops (NoPanic Q) S ops.size (Array.replicate ops.size false) a w.drew) : (Code.region id ops true).wpIn (Fence.wide.inRound l) n P Q a w :=
  wpIn_mono (wpIn_region_any hm (wpAnyIn_round hd (fun ⟨a, w, hq⟩ => hQ _ _ _ hq rfl) _ _ _ _ (wpAny_of_held _ _ _ _ (h hS)))) NoPanic.imp
end
end Go.Proofs.Ytcmgkjjkhfcedaa
