/-
  What the walks lean on, part 9: RdPlain RqMem RqDrop RqAhead RqAdd RqChg RdBoth RdNone RdFirst RdPair RdOver AdTellsW CmpInt PpCmp.
-/
import Derived.Deep.RegionLaw
import Derived.Deep.RegionHeld3
import Derived.Deep.QuietTactic
import Derived.BigQuiet
import Derived.Test.YtcmgkjjkhfcedaaGreatPk08
/-
  Numbers by priorities, as a list in order: plain words and facts (stage 8).
-/
namespace Go.Proofs.YtcmgkjjkhfcedaaGreat
open Go.ChangeShapes Go.WideShapes Go.ChangeAt Go.RowKit
set_option linter.unusedVariables false
/-- A number, its priority. -/
structure Rt where
  id : Nat
  p : Pr
/-- Does a stand ahead of b? -/
def aheadR (a b : Rt) : Bool := decide (0 < cmpP a.p b.p ∨ cmpP a.p b.p = 0 ∧ a.id < b.id)
theorem aheadR_trans {a b c : Rt} (h1 : aheadR a b = true) (h2 : aheadR b c = true) : aheadR a c = true := by
  unfold aheadR at *
  simp only [decide_eq_true_eq] at *
  have h3 := cmpP_trans (a := a.p) (b := b.p) (c := c.p) (by omega) (by omega)
  rcases h1 with h1 | ⟨h1, h1'⟩
  · exact .inl (h3.2 (.inl h1))
  · rcases h2 with h2 | ⟨h2, h2'⟩
    · exact .inl (h3.2 (.inr h2))
    · by_cases e : 0 < cmpP a.p c.p
      · exact .inl e
      · exact .inr ⟨by omega, by omega⟩
theorem aheadR_irrefl (a : Rt) : aheadR a a = false := by unfold aheadR; rw [cmpP_self]; simp
theorem aheadR_asymm {a b : Rt} (h : aheadR a b = true) : aheadR b a = false := by
  cases e : aheadR b a with
  | false => rfl
  | true => have := aheadR_trans h e; rw [aheadR_irrefl] at this; cases this
theorem aheadR_total {a b : Rt} (h : a.id ≠ b.id) (e : aheadR a b = false) : aheadR b a = true := by
  unfold aheadR at *
  simp only [decide_eq_true_eq, decide_eq_false_iff_not] at *
  rw [cmpP_swap a.p b.p]
  omega
/-- The list is in order, each number once; all may be. -/
structure GoodR (l : List Rt) : Prop where
  up : l.Pairwise (fun a b => aheadR a b = true)
  one : l.Pairwise (fun a b => a.id ≠ b.id)
  wf : ∀ x ∈ l, (Lit.int .i64 (x.id : Int)).wf = true ∧ PrWf x.p
  may : ∀ x ∈ l, mayP x.p = true
def hasR (l : List Rt) (id : Int) : Bool := l.any (fun x => (x.id : Int) == id)
def posR (l : List Rt) (id : Int) : Int := match l.findIdx? (fun x => (x.id : Int) == id) with | some i => (i : Int) | none => -1
theorem posR_cases (l : List Rt) (id : Int) : (∃ i, ∃ (hi : i < l.length), (l[i].id : Int) = id ∧ (∀ j (hj : j < i), ((l[j]'(by omega)).id : Int) ≠ id) ∧ posR l id = (i : Int) ∧ hasR l id = true) ∨ ((∀ x ∈ l, (x.id : Int) ≠ id) ∧ posR l id = -1 ∧ hasR l id = false) := by
  unfold posR hasR
  cases h : l.findIdx? (fun x => (x.id : Int) == id) with
  | none =>
    rw [List.findIdx?_eq_none_iff] at h
    refine .inr ⟨fun x hx => by simpa using h x hx, rfl, ?_⟩
    rw [List.any_eq_false]
    intro x hx
    simpa using h x hx
  | some i =>
    rw [List.findIdx?_eq_some_iff_getElem] at h
    obtain ⟨hi, h1, h2⟩ := h
    refine .inl ⟨i, hi, by simpa using h1, fun j hj => by simpa using h2 j hj, rfl, ?_⟩
    rw [List.any_eq_true]
    exact ⟨l[i], List.getElem_mem hi, h1⟩
theorem hasR_iff (l : List Rt) (id : Int) : hasR l id = true ↔ ∃ x ∈ l, (x.id : Int) = id := by unfold hasR; rw [List.any_eq_true]; simp
/-- Where x belongs. -/
def plcR (l : List Rt) (x : Rt) : Nat := l.findIdx (fun y => aheadR x y)
def insR (l : List Rt) (x : Rt) : List Rt := l.take (plcR l x) ++ x :: l.drop (plcR l x)
theorem plcR_le (l : List Rt) (x : Rt) : plcR l x ≤ l.length := List.findIdx_le_length
theorem plcR_lo {l : List Rt} {x : Rt} {j : Nat} (hj : j < l.length) (h : j < plcR l x) : aheadR x l[j] = false := by
  have := List.not_of_lt_findIdx (p := fun y => aheadR x y) (xs := l) h
  simpa using this
theorem plcR_at {l : List Rt} {x : Rt} (h : plcR l x < l.length) : aheadR x l[plcR l x] = true :=
  List.findIdx_getElem (p := fun y => aheadR x y) (w := h)
theorem mem_insR (l : List Rt) (x y : Rt) : y ∈ insR l x ↔ y ∈ l ∨ y = x := by
  unfold insR
  rw [List.mem_append, List.mem_cons]
  constructor
  · rintro (h | rfl | h)
    · exact .inl (List.mem_of_mem_take h)
    · exact .inr rfl
    · exact .inl (List.mem_of_mem_drop h)
  · rintro (h | rfl)
    · rw [← List.take_append_drop (plcR l x) l, List.mem_append] at h
      rcases h with h | h
      · exact .inl h
      · exact .inr (.inr h)
    · exact .inr (.inl rfl)
theorem insR_len (l : List Rt) (x : Rt) : (insR l x).length = l.length + 1 := by
  unfold insR
  have := plcR_le l x
  rw [List.length_append, List.length_cons, List.length_take, List.length_drop]; omega
theorem insR_perm (l : List Rt) (x : Rt) : (insR l x).Perm (x :: l) := by
  unfold insR
  refine List.perm_middle.trans ?_
  rw [List.take_append_drop]
theorem good_ins {l : List Rt} (h : GoodR l) {x : Rt} (hx : ∀ y ∈ l, y.id ≠ x.id) (hw : (Lit.int .i64 (x.id : Int)).wf = true ∧ PrWf x.p) (hm : mayP x.p = true) : GoodR (insR l x) := by
  refine ⟨?_, ?_, fun y hy => ?_, fun y hy => ?_⟩
  · unfold insR
    rw [List.pairwise_append]
    have hlo : ∀ a ∈ l.take (plcR l x), aheadR a x = true := fun a ha => by
      obtain ⟨i, hi, rfl⟩ := List.mem_iff_getElem.mp ha
      rw [List.length_take] at hi
      rw [List.getElem_take]
      exact aheadR_total (hx _ (List.getElem_mem (by omega))).symm (plcR_lo (by omega) (by omega))
    have hhi : ∀ b ∈ l.drop (plcR l x), aheadR x b = true := fun b hb => by
      obtain ⟨j, hj, rfl⟩ := List.mem_iff_getElem.mp hb
      rw [List.length_drop] at hj
      rw [List.getElem_drop]
      have h1 := plcR_at (l := l) (x := x) (by omega)
      by_cases e : j = 0
      · subst e; exact h1
      · exact aheadR_trans h1 (List.pairwise_iff_getElem.mp h.up _ _ (by omega) (by omega) (by omega))
    refine ⟨h.up.sublist (List.take_sublist _ _), List.pairwise_cons.mpr ⟨hhi, h.up.sublist (List.drop_sublist _ _)⟩, fun a ha b hb => ?_⟩
    rcases List.mem_cons.mp hb with rfl | hb
    · exact hlo a ha
    · exact aheadR_trans (hlo a ha) (hhi b hb)
  · refine (insR_perm l x).symm.pairwise ?_ (fun h e => h e.symm)
    exact List.pairwise_cons.mpr ⟨fun y hy e => hx y hy e.symm, h.one⟩
  · rcases (mem_insR _ _ _).mp hy with hy | rfl
    · exact h.wf y hy
    · exact hw
  · rcases (mem_insR _ _ _).mp hy with hy | rfl
    · exact h.may y hy
    · exact hm
def dropR (l : List Rt) (id : Int) : List Rt := l.filter (fun x => !((x.id : Int) == id))
theorem good_drop {l : List Rt} (h : GoodR l) (id : Int) : GoodR (dropR l id) :=
  ⟨h.up.sublist List.filter_sublist, h.one.sublist List.filter_sublist, fun x hx => h.wf x (List.mem_filter.mp hx).1, fun x hx => h.may x (List.mem_filter.mp hx).1⟩
theorem good_nil : GoodR [] := ⟨List.Pairwise.nil, List.Pairwise.nil, (fun x hx => by cases hx), (fun x hx => by cases hx)⟩
theorem dropR_none {l : List Rt} {id : Int} (h : ∀ x ∈ l, (x.id : Int) ≠ id) : dropR l id = l := by
  unfold dropR
  rw [List.filter_eq_self]
  intro x hx
  have := h x hx
  simpa using this
theorem dropR_at {l : List Rt} {id : Int} {i : Nat} (hi : i < l.length) (e : (l[i].id : Int) = id) (hu : l.Pairwise (fun a b => a.id ≠ b.id)) : dropR l id = l.take i ++ l.drop (i + 1) := by
  unfold dropR
  have h1 : l = l.take i ++ l[i] :: l.drop (i + 1) := by rw [← List.drop_eq_getElem_cons hi, List.take_append_drop]
  conv => lhs; rw [h1]
  rw [List.filter_append, List.filter_cons_of_neg (by simp [e])]
  congr 1
  · rw [List.filter_eq_self]
    intro x hx
    obtain ⟨j, hj, rfl⟩ := List.mem_iff_getElem.mp hx
    rw [List.getElem_take]
    rw [List.length_take] at hj
    have := List.pairwise_iff_getElem.mp hu j i (by omega) hi (by omega)
    simp; omega
  · rw [List.filter_eq_self]
    intro x hx
    obtain ⟨j, hj, rfl⟩ := List.mem_iff_getElem.mp hx
    rw [List.getElem_drop]
    rw [List.length_drop] at hj
    have := List.pairwise_iff_getElem.mp hu i (i + 1 + j) hi (by omega) (by omega)
    simp; omega
/-- What Add and Change answer, what is then. -/
def addE (l : List Rt) (id : Int) (p : Pr) : Nat := if id < 0 ∨ mayP p = false then 2 else if hasR l id = true then 5 else 0
def addR (l : List Rt) (id : Int) (p : Pr) : List Rt := if addE l id p = 0 then insR l ⟨id.toNat, p⟩ else l
def chgE (l : List Rt) (id : Int) (p : Pr) : Nat := if mayP p = false then 2 else if hasR l id = true then 0 else 4
def chgR (l : List Rt) (id : Int) (p : Pr) : List Rt := if chgE l id p = 0 then insR (dropR l id) ⟨id.toNat, p⟩ else l
theorem addE_zero {l : List Rt} {id : Int} {p : Pr} (h : addE l id p = 0) : 0 ≤ id ∧ mayP p = true ∧ hasR l id = false := by
  unfold addE at h
  split at h
  · cases h
  · rename_i h1
    split at h
    · cases h
    · rename_i h2
      exact ⟨by omega, by simpa using fun e => h1 (.inr e), by simpa using h2⟩
theorem good_add {l : List Rt} (h : GoodR l) {id : Int} {p : Pr} (hid : (Lit.int .i64 id).wf = true) (hp : PrWf p) : GoodR (addR l id p) := by
  unfold addR
  split
  · rename_i e
    obtain ⟨h1, h2, h3⟩ := addE_zero e
    have e1 : ((id.toNat : Nat) : Int) = id := by omega
    refine good_ins h (fun y hy e2 => ?_) ⟨by show (Lit.int .i64 ((id.toNat : Nat) : Int)).wf = true; rw [e1]; exact hid, hp⟩ h2
    have : hasR l id = true := (hasR_iff _ _).mpr ⟨y, hy, by have e2 : y.id = id.toNat := e2; omega⟩
    rw [h3] at this; cases this
  · exact h
theorem hasR_drop (l : List Rt) (id : Int) : hasR (dropR l id) id = false := by
  cases e : hasR (dropR l id) id with
  | false => rfl
  | true =>
    obtain ⟨x, hx, h⟩ := (hasR_iff _ _).mp e
    have := (List.mem_filter.mp hx).2
    simp [h] at this
theorem hasR_nonneg {l : List Rt} {id : Int} (h : hasR l id = true) : 0 ≤ id := by
  obtain ⟨x, _, e⟩ := (hasR_iff _ _).mp h
  omega
theorem chg_add {l : List Rt} {id : Int} {p : Pr} (h : chgE l id p = 0) : addE (dropR l id) id p = 0 ∧ chgR l id p = addR (dropR l id) id p := by
  have h2 : mayP p = true ∧ hasR l id = true := by
    unfold chgE at h
    split at h
    · cases h
    · rename_i h1
      split at h
      · rename_i h2; exact ⟨by simpa using h1, h2⟩
      · cases h
  have e : addE (dropR l id) id p = 0 := by
    unfold addE
    have := hasR_nonneg h2.2
    rw [if_neg (by rw [h2.1]; simp; omega), hasR_drop]; rfl
  exact ⟨e, by unfold chgR addR; rw [if_pos h, if_pos e]⟩
theorem good_chg {l : List Rt} (h : GoodR l) {id : Int} {p : Pr} (hid : (Lit.int .i64 id).wf = true) (hp : PrWf p) : GoodR (chgR l id p) := by
  by_cases e : chgE l id p = 0
  · rw [(chg_add e).2]; exact good_add (good_drop h id) hid hp
  · unfold chgR; rw [if_neg e]; exact h
def firstR (l : List Rt) : Int × Bool := match l with | [] => (0, false) | x :: _ => ((x.id : Int), true)
def allR (l : List Rt) : List Int := l.map (fun x => (x.id : Int))
end Go.Proofs.YtcmgkjjkhfcedaaGreat
/-
  The document's own queue (coxswainref8) in memory; at, Has.
-/
namespace Go.Proofs.YtcmgkjjkhfcedaaGreat
open Go.ChangeShapes Go.WideShapes Go.ChangeAt Go.RowKit
set_option linter.unusedVariables false
def rtD : Rt := ⟨0, prD⟩
def cellsRt (x : Rt) : List Value := [.int .i64 (x.id : Int), .int .i64 x.p.c, .int .i64 x.p.l, .int .i64 x.p.d]
def cellsRts (l : List Rt) : List Value := l.flatMap cellsRt
theorem cellsRts_append (a b : List Rt) : cellsRts (a ++ b) = cellsRts a ++ cellsRts b := by unfold cellsRts; simp
theorem cellsRts_one (x : Rt) : cellsRts [x] = cellsRt x := by unfold cellsRts; simp
theorem cellsRts_length (l : List Rt) : (cellsRts l).length = l.length * 4 := by
  induction l with
  | nil => rfl
  | cons x l ih => show (cellsRt x ++ cellsRts l).length = _; rw [List.length_append, ih, List.length_cons]; show 4 + _ = _; omega
theorem cellsRt_cell (x : Rt) : ∀ v ∈ cellsRt x, v.oneCell' = true := by
  intro v hv
  simp [cellsRt] at hv
  rcases hv with rfl | rfl | rfl | rfl <;> rfl
theorem cellsRts_cell (l : List Rt) : ∀ v ∈ cellsRts l, v.oneCell' = true := by
  intro v hv
  obtain ⟨x, _, h⟩ := List.mem_flatMap.mp hv
  exact cellsRt_cell x v h
theorem cellsRts_at {l : List Rt} {i : Nat} (j : Nat) (h : i < l.length) (hj : j < 4) : (cellsRts l)[i * 4 + j]? = (cellsRt l[i])[j]? := by
  induction l generalizing i with
  | nil => cases h
  | cons x l ih =>
    show (cellsRt x ++ cellsRts l)[i * 4 + j]? = _
    cases i with
    | zero =>
      rw [Nat.zero_mul, Nat.zero_add, List.getElem?_append_left (by show j < 4; exact hj)]
      rfl
    | succ i =>
      rw [List.getElem?_append_right (by show 4 ≤ (i + 1) * 4 + j; omega)]
      have : (i + 1) * 4 + j - (cellsRt x).length = i * 4 + j := by show (i + 1) * 4 + j - 4 = _; omega
      rw [this, ih (by simpa using h)]
      rfl
theorem own_sliceQ {w : World} {B : Nat} {e : TypeId} {z n : Nat} {v : Value} {xs : List Value} (h : w.ownsRow B e z v n xs) : ∃ a c, v = .slice a n c ∧ (a = none → c = 0) ∧ n ≤ c ∧ c ≤ maxLen ∧ (∀ x, a = some x → x.off = 0 ∧ x.spot = none) := by
  rcases h.2 with ⟨rfl, rfl⟩ | ⟨g, cap, cur, rfl, _, _, h1, h2, _⟩
  · exact ⟨none, 0, rfl, fun _ => rfl, Nat.le_refl _, by unfold maxLen; omega, (fun x e => by cases e)⟩
  · exact ⟨_, _, rfl, (fun e => by cases e), h1, h2, (fun x e => by injection e with e; subst e; exact ⟨rfl, rfl⟩)⟩
end Go.Proofs.YtcmgkjjkhfcedaaGreat
/-
  The document's own queue: Drop.
-/
namespace Go.Proofs.YtcmgkjjkhfcedaaGreat
open Go.ChangeShapes Go.WideShapes Go.ChangeAt Go.RowKit
set_option linter.unusedVariables false
/-- An append as a step of a region that draws: the row is a slice, so is what comes of it. -/
theorem step_append_rowsQ {P : Program} {w : World} {ops : Array Oper} {o : Oper} {a : Act} {K : Act → World → Prop} {Q : Exit → Act → World → Prop} {E : Prop} (hgd : o.guard = none) (s x : Operand) (t : TypeId)
    (ho : o.op = .call { callee := .builtin .append, args := #[s, x], argTypes := #[t, t] })
    (base : Nat) (e : TypeId) (i : TypeInfo) (z : Value) (size bytes : Nat) (ht : P.underlying t = some (.slice e)) (hi : P.info? e = some i) (hz : i.zero = some z)
    (hsize : i.size = size) (hby : i.bytes = bytes) (hzs : z.cells.size = size) (hsz : 0 < size)
    (v : Value) (n : Nat) (xs : List Value) (hs : a.eval s = v) (hown : w.ownsRow base e size v n xs)
    (ad : Addr) (m c : Nat) (news : List Value) (hx : a.eval x = .slice (some ad) m c) (hl : news.length = m * size) (hnews : ∀ j u, news[j]? = some u → w.cell? (ad.add j) = some u) (h1 : ∀ u ∈ news, u.oneCell' = true)
    (h63 : n + m ≤ maxLen) (hbytes : (n + m) * bytes ≤ 140737488355328) (hbase : base ≤ w.heap.size) (N : Nat) (hN : n + m = N)
    (h : ∀ A' c' w', w'.ownsRow base e size (.slice A' N c') N (xs ++ news) → w.grownBy w' v.ownBlock → ((Value.slice A' N c').ownBlock = v.ownBlock ∨ (Value.slice A' N c').ownBlock = some w.heap.size) → K (a.put o.dst (.slice A' N c')) w') :
    if Region.wanted o (yielded ops a.tmps) = true then Oper.wp P o a w K Q else E := by
  have hw : Region.wanted o (yielded ops a.tmps) = true := by simp [Region.wanted, hgd]
  rw [if_pos hw]
  subst hN
  obtain ⟨v', w', hr, h2, h3, _, h5⟩ := run_append_own_at (P := P) w base t o.type e i z size bytes ht hi hz hsize hby hzs hsz v n xs hown ad m c news hl hnews h1 h63 hbytes hbase
  obtain ⟨A', c', rfl⟩ : ∃ A' c', v' = .slice A' (n + m) c' := by
    rcases h2.2 with ⟨rfl, h0⟩ | ⟨g, cap, cur, rfl, _⟩
    · exact ⟨none, 0, by rw [h0]⟩
    · exact ⟨_, _, rfl⟩
  unfold Oper.wp execOp
  simp only [ho, resolve, invoke, builtin, Sem.run_bind, Sem.run_pure, Result.andThen_ok, List.map_toArray, List.map_cons, List.map_nil, hs, hx, hr]
  exact h A' c' w' h2 h3 h5
theorem drop_oneQ {w w1 : World} {row : Option Nat} (h : w.drew.grownBy w1 row) (hr : row = none := by rfl) : Below w.heap.size w w1 := by
  subst hr
  exact ⟨h.os, h.tape, h.output, h.size, fun k hk => h.block k hk (fun e => by cases e)⟩
theorem cellsRts_split (xs : List Rt) (p : Nat) : cellsRts xs = cellsRts (xs.take p) ++ cellsRts (xs.drop p) := by rw [← cellsRts_append, List.take_append_drop]
end Go.Proofs.YtcmgkjjkhfcedaaGreat
/-
  The document's own queue: Add of a number that may be there, Change.
-/
namespace Go.Proofs.YtcmgkjjkhfcedaaGreat
open Go.ChangeShapes Go.WideShapes Go.ChangeAt Go.RowKit
set_option linter.unusedVariables false
/-- What has been put together behind k rounds. -/
def prq (l : List Rt) (p k : Nat) (u : Rt) : List Rt := if p < k then l.take p ++ u :: (l.take k).drop p else l.take k
theorem prq_lo {l : List Rt} {p k : Nat} (u : Rt) (h : k < p) (hl : k < l.length) : prq l p (k + 1) u = prq l p k u ++ [l[k]] := by
  unfold prq
  rw [if_neg (by omega), if_neg (by omega), List.take_succ_eq_append_getElem hl]
theorem prq_at {l : List Rt} {p : Nat} (u : Rt) (hl : p < l.length) : prq l p (p + 1) u = (prq l p p u ++ [u]) ++ [l[p]] := by
  unfold prq
  rw [if_pos (by omega), if_neg (by omega), List.take_succ_eq_append_getElem hl, List.drop_append, List.drop_eq_nil_of_le (by simp; omega)]
  have : p - (l.take p).length = 0 := by simp; omega
  rw [this]
  simp
theorem prq_hi {l : List Rt} {p k : Nat} (u : Rt) (h : p < k) (hl : k < l.length) : prq l p (k + 1) u = prq l p k u ++ [l[k]] := by
  unfold prq
  rw [if_pos (by omega), if_pos h, List.take_succ_eq_append_getElem hl, List.drop_append]
  have : p - (l.take k).length = 0 := by simp; omega
  rw [this]
  simp
theorem prq_end {l : List Rt} {p : Nat} (u : Rt) (h : p < l.length) : prq l p l.length u = l.take p ++ u :: l.drop p := by
  unfold prq
  rw [if_pos h, List.take_length]
theorem prq_last {l : List Rt} (u : Rt) : prq l l.length l.length u ++ [u] = l.take l.length ++ u :: l.drop l.length := by
  unfold prq
  rw [if_neg (by omega)]
  simp
theorem cells_rt (w : World) (a b c d : Value) (t : TypeId) (X : Nat) (hX : X = w.heap.size) : ∀ j v, [a, b, c, d][j]? = some v → (w.alloc (.cells #[a, b, c, d] t)).cell? ((⟨X, 0, none⟩ : Addr).add j) = some v := by
  intro j v hv
  subst hX
  rw [addr_add, Nat.zero_add, World.cell?_alloc_at _ _ _ _ rfl, ← hv]
  show [a, b, c, d].toArray[j]? = _
  simp
end Go.Proofs.YtcmgkjjkhfcedaaGreat
/-
  The document's own queue: Change; Add as one; a queue that is none yet.
-/
namespace Go.Proofs.YtcmgkjjkhfcedaaGreat
open Go.ChangeShapes Go.WideShapes Go.ChangeAt Go.RowKit
set_option linter.unusedVariables false
/-- A call of one side: what it answers, what is then. -/
def SideR (P : World → (Nat → Prop) → Prop) (U : Nat → Prop) (w : World) (v : Value) (e : Ending) (w' : World) : Prop :=
  e = .returned v ∧ ∃ U', P w' U' ∧ Touch U w w' ∧ ∀ i, U' i → U i ∨ w.heap.size ≤ i
end Go.Proofs.YtcmgkjjkhfcedaaGreat
/-
  Contracts of the program's ready (PReady), its memory left open; awake of stage 8.
-/
namespace Go.Proofs.YtcmgkjjkhfcedaaGreat
open Go.ChangeShapes Go.WideShapes Go.ChangeAt Go.RowKit
set_option linter.unusedVariables false
/-- What All leaves: its row is nobody's. -/
def AllP (P : World → (Nat → Prop) → Prop) (U : Nat → Prop) (l : List Rt) (w : World) (e : Ending) (w' : World) : Prop :=
  ∃ A c, e = .returned (.slice A l.length c) ∧ w'.ownsRow w.heap.size 3 1 (.slice A l.length c) l.length ((allR l).map (Value.int .i64)) ∧
    ∃ U', P w' U' ∧ Touch U w w' ∧ (∀ i, U' i → U i ∨ w.heap.size ≤ i) ∧ ∀ i, (Value.slice A l.length c).ownBlock = some i → ¬ U' i
/-- One queue of the program's, and the world ahead of it. -/
structure OneR (PQ : World → (Nat → Prop) → Nat → List Rt → Prop) (w wr : World) (U : Nat → Prop) (S : Nat) (l : List Rt) : Prop where
  ps : PQ wr U S l
  bel : Below w.heap.size w wr
  lo : ∀ i, U i → w.heap.size ≤ i
section
variable {PQ : World → (Nat → Prop) → Nat → List Rt → Prop}
theorem OneR.move {w wr w' : World} {U U' : Nat → Prop} {S : Nat} {l l' : List Rt} (h : OneR PQ w wr U S l) (p : PQ w' U' S l') (t : Touch U wr w') (hU : ∀ i, U' i → U i ∨ wr.heap.size ≤ i) : OneR PQ w w' U' S l' :=
  ⟨p, h.bel.trans (t.below h.bel.size h.lo), fun i hi => (hU i hi).elim (h.lo i) (fun e => Nat.le_trans h.bel.size e)⟩
theorem OneR.side {w wr w' : World} {U : Nat → Prop} {S : Nat} {l l' : List Rt} (h : OneR PQ w wr U S l) {x : Value} {e : Ending} (hs : SideR (fun w' U' => PQ w' U' S l') U wr x e w') : e = .returned x ∧ ∃ U', OneR PQ w w' U' S l' := by
  obtain ⟨rfl, U', p, t, hU⟩ := hs
  exact ⟨rfl, U', h.move p t hU⟩
theorem OneR.first {w w' : World} {U : Nat → Prop} {S : Nat} {l : List Rt} (p : PQ w' U S l) (b : Below w.heap.size w w') (lo : ∀ i, U i → w.heap.size ≤ i) : OneR PQ w w' U S l := ⟨p, b, lo⟩
end
end Go.Proofs.YtcmgkjjkhfcedaaGreat
/-
  The walk of ReadyFirst, over the contracts of the program's ready and prio.
-/
namespace Go.Proofs.YtcmgkjjkhfcedaaGreat
open Go.ChangeShapes Go.WideShapes Go.ChangeAt Go.RowKit
set_option linter.unusedVariables false
/-- The queue behind k rounds. -/
def bldR (ps : List Pr) : Nat → List Rt
  | 0 => []
  | k + 1 => addR (bldR ps k) (k : Int) (ps.getD k prD)
theorem addR_mem {l : List Rt} {id : Int} {p : Pr} {x : Rt} (h : x ∈ addR l id p) : x ∈ l ∨ x = ⟨id.toNat, p⟩ := by
  unfold addR at h
  split at h
  · exact (mem_insR _ _ _).mp h
  · exact .inl h
theorem mem_bld {ps : List Pr} {k : Nat} {x : Rt} (h : x ∈ bldR ps k) : x.id < k ∧ x.p = ps.getD x.id prD := by
  induction k with
  | zero => cases h
  | succ k ih =>
    rcases addR_mem h with h | rfl
    · obtain ⟨h1, h2⟩ := ih h; exact ⟨by omega, h2⟩
    · exact ⟨by show (k : Int).toNat < k + 1; omega, by show _ = ps.getD (k : Int).toNat prD; rw [Int.toNat_natCast]⟩
theorem bld_has (ps : List Pr) (k : Nat) : hasR (bldR ps k) (k : Int) = false := by
  cases e : hasR (bldR ps k) (k : Int) with
  | false => rfl
  | true =>
    obtain ⟨x, hx, e2⟩ := (hasR_iff _ _).mp e
    have := (mem_bld hx).1
    omega
theorem bld_addE (ps : List Pr) (k : Nat) (p : Pr) : addE (bldR ps k) (k : Int) p = if mayP p = true then 0 else 2 := by
  unfold addE
  cases h : mayP p with
  | true => rw [if_neg (by simp), bld_has]; rfl
  | false => rw [if_pos (.inr rfl)]; rfl
theorem bld_len (ps : List Pr) (k : Nat) : (bldR ps (k + 1)).length = (bldR ps k).length + if mayP (ps.getD k prD) = true then 1 else 0 := by
  show (addR _ _ _).length = _
  unfold addR
  rw [bld_addE]
  cases h : mayP (ps.getD k prD) with
  | true => rw [if_pos (by rfl), insR_len]; rfl
  | false => rw [if_neg (by simp)]; rfl
theorem bld_le (ps : List Pr) (k : Nat) : (bldR ps k).length ≤ k := by
  induction k with
  | zero => exact Nat.le_refl _
  | succ k ih => rw [bld_len]; split <;> omega
theorem drop_head {x : Rt} {t : List Rt} (h : GoodR (x :: t)) : dropR (x :: t) (x.id : Int) = t ∧ hasR (x :: t) (x.id : Int) = true ∧ hasR t (x.id : Int) = false := by
  refine ⟨?_, (hasR_iff _ _).mpr ⟨x, List.mem_cons_self, rfl⟩, ?_⟩
  · have := dropR_at (l := x :: t) (id := (x.id : Int)) (i := 0) (by simp) rfl h.one
    simpa using this
  · cases e : hasR t (x.id : Int) with
    | false => rfl
    | true =>
      obtain ⟨y, hy, e2⟩ := (hasR_iff _ _).mp e
      have := (List.pairwise_cons.mp h.one).1 y hy
      omega
section
variable {PQ : World → (Nat → Prop) → Nat → List Rt → Prop}
end
end Go.Proofs.YtcmgkjjkhfcedaaGreat
/-
  Two queues of the program's beside one another; what order they were filled in does not show.
-/
namespace Go.Proofs.YtcmgkjjkhfcedaaGreat
open Go.ChangeShapes Go.WideShapes Go.ChangeAt Go.RowKit
set_option linter.unusedVariables false
theorem sorted_ext {l m : List Rt} (hl : l.Pairwise (fun a b => aheadR a b = true)) (hm : m.Pairwise (fun a b => aheadR a b = true)) (h : ∀ x, x ∈ l ↔ x ∈ m) : l = m := by
  induction l generalizing m with
  | nil =>
    cases m with
    | nil => rfl
    | cons b m => exact absurd ((h b).mpr List.mem_cons_self) List.not_mem_nil
  | cons a l ih =>
    cases m with
    | nil => exact absurd ((h a).mp List.mem_cons_self) List.not_mem_nil
    | cons b m =>
      obtain ⟨a1, a2⟩ := List.pairwise_cons.mp hl
      obtain ⟨b1, b2⟩ := List.pairwise_cons.mp hm
      have hab : a = b := by
        rcases List.mem_cons.mp ((h a).mp List.mem_cons_self) with e | e
        · exact e
        · rcases List.mem_cons.mp ((h b).mpr List.mem_cons_self) with e2 | e2
          · exact e2.symm
          · have h1 := a1 b e2
            have h2 := b1 a e
            rw [aheadR_asymm h1] at h2; cases h2
      subst hab
      rw [ih a2 b2 (fun x => ?_)]
      constructor
      · intro hx
        rcases List.mem_cons.mp ((h x).mp (List.mem_cons_of_mem _ hx)) with e | e
        · subst e; have := a1 x hx; rw [aheadR_irrefl] at this; cases this
        · exact e
      · intro hx
        rcases List.mem_cons.mp ((h x).mpr (List.mem_cons_of_mem _ hx)) with e | e
        · subst e; have := b1 x hx; rw [aheadR_irrefl] at this; cases this
        · exact e
theorem mem_addR {l : List Rt} {id : Int} {p : Pr} {x : Rt} : x ∈ addR l id p ↔ x ∈ l ∨ addE l id p = 0 ∧ x = ⟨id.toNat, p⟩ := by
  unfold addR
  by_cases e : addE l id p = 0
  · rw [if_pos e, mem_insR]; simp [e]
  · rw [if_neg e]; simp [e]
theorem mem_bld_iff {ps : List Pr} {k : Nat} {x : Rt} : x ∈ bldR ps k ↔ x.id < k ∧ x.p = ps.getD x.id prD ∧ mayP x.p = true := by
  induction k with
  | zero => constructor
            · intro h; cases h
            · intro h; omega
  | succ k ih =>
    show x ∈ addR _ _ _ ↔ _
    rw [mem_addR, ih, bld_addE]
    constructor
    · rintro (⟨h1, h2, h3⟩ | ⟨h1, rfl⟩)
      · exact ⟨by omega, h2, h3⟩
      · have e : ((k : Int)).toNat = k := by omega
        refine ⟨by show (k : Int).toNat < k + 1; omega, by show _ = ps.getD (k : Int).toNat prD; rw [e], ?_⟩
        show mayP (ps.getD k prD) = true
        cases h : mayP (ps.getD k prD) with
        | true => rfl
        | false => rw [h] at h1; simp at h1
    · rintro ⟨h1, h2, h3⟩
      by_cases e : x.id < k
      · exact .inl ⟨e, h2, h3⟩
      · have e2 : x.id = k := by omega
        refine .inr ⟨?_, ?_⟩
        · rw [h2, e2] at h3; rw [h3]; rfl
        · obtain ⟨i, p⟩ := x
          have e2 : i = k := e2
          have h2 : p = ps.getD i prD := h2
          subst e2 h2
          simp
/-- The other queue behind k rounds. -/
def bldB (ps : List Pr) (n : Nat) : Nat → List Rt
  | 0 => []
  | k + 1 => addR (bldB ps n k) ((n - 1 - k : Nat) : Int) (ps.getD (n - 1 - k) prD)
theorem mem_bldB {ps : List Pr} {n k : Nat} (hk : k ≤ n) {x : Rt} : (x ∈ bldB ps n k ↔ n - k ≤ x.id ∧ x.id < n ∧ x.p = ps.getD x.id prD ∧ mayP x.p = true) := by
  induction k generalizing x with
  | zero => constructor
            · intro h; cases h
            · intro h; omega
  | succ k ih =>
    have ih := fun x => ih (x := x) (by omega)
    have hno : hasR (bldB ps n k) ((n - 1 - k : Nat) : Int) = false := by
      cases e : hasR (bldB ps n k) ((n - 1 - k : Nat) : Int) with
      | false => rfl
      | true =>
        obtain ⟨y, hy, e2⟩ := (hasR_iff _ _).mp e
        have := ((ih y).mp hy).1
        omega
    have hE : ∀ p, addE (bldB ps n k) ((n - 1 - k : Nat) : Int) p = if mayP p = true then 0 else 2 := fun p => by
      unfold addE
      cases h : mayP p with
      | true => rw [if_neg (by simp), hno]; rfl
      | false => rw [if_pos (.inr rfl)]; rfl
    show x ∈ addR _ _ _ ↔ _
    rw [mem_addR, ih, hE]
    constructor
    · rintro (⟨h0, h1, h2, h3⟩ | ⟨h1, rfl⟩)
      · exact ⟨by omega, h1, h2, h3⟩
      · have e : (((n - 1 - k : Nat) : Int)).toNat = n - 1 - k := by omega
        refine ⟨by show n - (k + 1) ≤ ((n - 1 - k : Nat) : Int).toNat; omega, by show ((n - 1 - k : Nat) : Int).toNat < n; omega, by show _ = ps.getD ((n - 1 - k : Nat) : Int).toNat prD; rw [e], ?_⟩
        show mayP (ps.getD (n - 1 - k) prD) = true
        cases h : mayP (ps.getD (n - 1 - k) prD) with
        | true => rfl
        | false => rw [h] at h1; simp at h1
    · rintro ⟨h0, h1, h2, h3⟩
      by_cases e : n - k ≤ x.id
      · exact .inl ⟨e, h1, h2, h3⟩
      · have e2 : x.id = n - 1 - k := by omega
        refine .inr ⟨?_, ?_⟩
        · rw [h2, e2] at h3; rw [h3]; rfl
        · obtain ⟨i, p⟩ := x
          have e2 : i = n - 1 - k := e2
          have h2 : p = ps.getD i prD := h2
          subst e2 h2
          simp
theorem bldB_le (ps : List Pr) (n k : Nat) : (bldB ps n k).length ≤ k := by
  induction k with
  | zero => exact Nat.le_refl _
  | succ k ih =>
    show (addR _ _ _).length ≤ _
    unfold addR
    split
    · rw [insR_len]; omega
    · omega
theorem bld_same {ps : List Pr} {n : Nat} (h1 : GoodR (bldR ps n)) (h2 : GoodR (bldB ps n n)) : bldB ps n n = bldR ps n :=
  sorted_ext h2.up h1.up (fun x => by rw [mem_bldB (Nat.le_refl _), mem_bld_iff]; exact ⟨fun h => h.2, fun h => ⟨by omega, h⟩⟩)
/-- Two queues of the program's. -/
structure PairR (PQ : World → (Nat → Prop) → Nat → List Rt → Prop) (w wr : World) (U V : Nat → Prop) (S T : Nat) (l m : List Rt) : Prop where
  ps : PQ wr U S l
  qs : PQ wr V T m
  bel : Below w.heap.size w wr
  dis : ∀ i, U i → ¬ V i
  lo : ∀ i, U i → w.heap.size ≤ i
  lo2 : ∀ i, V i → w.heap.size ≤ i
section
variable {PQ : World → (Nat → Prop) → Nat → List Rt → Prop}
theorem PairR.swap {w wr : World} {U V : Nat → Prop} {S T : Nat} {l m : List Rt} (h : PairR PQ w wr U V S T l m) : PairR PQ w wr V U T S m l := ⟨h.qs, h.ps, h.bel, fun i hi e => h.dis i e hi, h.lo2, h.lo⟩
end
end Go.Proofs.YtcmgkjjkhfcedaaGreat
/-
  OverInts over an own row, Num (coxswainlaw0), for stage 8.
-/
namespace Go.Proofs.YtcmgkjjkhfcedaaGreat
open Go.ChangeShapes Go.WideShapes Go.ChangeAt Go.RowKit
set_option linter.unusedVariables false
set_option maxHeartbeats 800000 in
theorem over_touch (v : Value) (n : Nat) (xs : List Value) (w : World) {B : Nat} (hv : w.ownsRow B 3 1 v n xs) (hn : n ≤ 1000000) :
    Calls Tryz.prog 17 #[v] w fun e w' => e = .returned (.tuple #[]) ∧ Touch (fun i => v.ownBlock = some i) w w' := by
  obtain ⟨i0, hi0, hz0, hz1, hz2⟩ := info_parts int_info
  obtain ⟨a, c, rfl, _⟩ := own_sliceQ hv
  go_enter Tryz.func17, Tryz.ntmps17
  go_wp2_with fail
  go_loopw [2] (fun i wr => ∃ (k : Nat) (ys : List Value), k ≤ n ∧ i = .int .i64 k ∧ wr.ownsRow B 3 1 (.slice a n c) n ys ∧ Hid (Touch (fun i => (Value.slice a n c).ownBlock = some i) w wr)) (fun i _ => n - (intOf i).toNat)
  case atStart => exact ⟨0, xs, Nat.zero_le _, rfl, hv, Touch.refl _ _⟩
  case round =>
    obtain ⟨k, ys, hk, rfl, ho, hb⟩ := hrel
    by_cases hlt : k < n
    · obtain ⟨g, cap, e⟩ : ∃ g cap, (Value.slice a n c) = .slice (some ⟨g, 0, none⟩) n cap := by
        rcases ho.2 with ⟨_, h⟩ | ⟨g, cap, cur, e, _⟩
        · omega
        · exact ⟨_, _, e⟩
      injection e with e1 _ e2
      subst e1 e2
      have hl : ys.length = n := by have := ho.1; omega
      have hc := ho.cellAt k (by omega)
      rw [List.getElem?_eq_getElem (by omega)] at hc
      have hf := ho.frozenAt k
      have S := (ho.stored k (.int .i64 (-999))).1
      have B1 := hide (hb.out.setCell (p := ⟨g, k, none⟩) rfl (.int .i64 (-999)))
      clear ho hb hv
      go_wp2_with fail
      go_roundw
      case rel => exact ⟨k + 1, _, by omega, by go_num, S, B1⟩
      case measure => simp [intOf]; omega
    · have HO := hide ho
      clear hv ho
      go_wp2_with (at_builtin; refine wpList_append_src rfl (.tmp 12) (.tmp 13) _ rfl 0 3 i0 _ 8 Tryz.underlying25 hi0 hz0 hz1 hz2 rfl _ _ _ rfl (own_base (HO.out.alloc _) (Nat.zero_le _)) .i64 _ 1 _ [-999] rfl (ints_cell1 _ _ _ _ _ rfl) (fun h => by cases h) (by unfold maxLen; omega) (by omega) (Nat.zero_le _) ?_; intro v' w' o' g' t'; have hr' := hide ((hb.out.alloc _).trans (Touch.of_grown (S := fun i => (Value.slice a n c).ownBlock = some i) g' (fun g e => e)) (fun i e => .inl e)); clear g' t')
      go_end0
      exact ⟨rfl, hr'.out⟩
end Go.Proofs.YtcmgkjjkhfcedaaGreat
/-
  The walk of AdmitTells, over the contracts of the program's admit (written by tools/gen/adtells.py).
-/
namespace Go.Proofs.YtcmgkjjkhfcedaaGreat
open Go.ChangeShapes Go.WideShapes Go.ChangeAt Go.RowKit
set_option linter.unusedVariables false
set_option linter.unusedSimpArgs false
theorem RespC.same {c : Cp} {task r r' : Int} {ok ok' : Bool} (h : RespC c task r ok) (h' : RespC c task r' ok') : r = r' ∧ ok = ok' := by
  unfold RespC at h h'
  by_cases hc : mayC c = true ∧ 0 ≤ task
  · rw [if_pos hc] at h h'
    cases e : c.ts[task.toNat]? with
    | none => rw [e] at h h'; exact ⟨h.1.trans h'.1.symm, h.2.trans h'.2.symm⟩
    | some a =>
      rw [e] at h h'
      obtain ⟨r0, h1, h2⟩ := h
      obtain ⟨r0', h1', h2'⟩ := h'
      obtain ⟨e1, e2⟩ := h1.same h1'
      subst e1 e2
      exact ⟨h2.trans h2'.symm, rfl⟩
  · rw [if_neg hc] at h h'
    exact ⟨h.1.trans h'.1.symm, h.2.trans h'.2.symm⟩
theorem AdmT.same {c : Cp} {ok ok' : Bool} {rs rs' : List Int} (h : AdmT c ok rs) (h' : AdmT c ok' rs') : ok = ok' ∧ rs = rs' := by
  have key : ∀ {rs : List Int}, AdmT c true rs → mayC c = true ∧ ∀ i a, c.ts[i]? = some a → (∃ r, RespT c i a r true) ∧ okT c a = true := fun {rs} q => by
    refine ⟨?_, fun i a ha => ?_⟩
    · rcases q with ⟨_, hm, _⟩ | ⟨e, _⟩
      · exact hm
      · cases e
    · obtain ⟨r, _, h1, h2⟩ := q.at_ ha
      exact ⟨⟨r, h1⟩, h2⟩
  cases ok with
  | true =>
    have e := h'.yes (key h).1 (key h).2
    subst e
    refine ⟨rfl, List.ext_getElem? fun i => ?_⟩
    have l1 : rs.length = c.ts.length := by rcases h with ⟨_, _, hl, _⟩ | ⟨e, _⟩; exact hl; cases e
    have l2 : rs'.length = c.ts.length := by rcases h' with ⟨_, _, hl, _⟩ | ⟨e, _⟩; exact hl; cases e
    cases e : c.ts[i]? with
    | none =>
      have := List.getElem?_eq_none_iff.1 e
      rw [List.getElem?_eq_none_iff.2 (by omega), List.getElem?_eq_none_iff.2 (by omega)]
    | some a =>
      obtain ⟨r, h1, h2, _⟩ := h.at_ e
      obtain ⟨r', h1', h2', _⟩ := h'.at_ e
      rw [h1, h1', (h2.same h2').1]
  | false =>
    cases ok' with
    | true => have e := h.yes (key h').1 (key h').2; cases e
    | false =>
      rcases h with ⟨e, _⟩ | ⟨_, e, _⟩
      · cases e
      · rcases h' with ⟨e', _⟩ | ⟨_, e', _⟩
        · cases e'
        · exact ⟨rfl, by rw [e, e']⟩
theorem AdmT.len {c : Cp} {ok : Bool} {rs : List Int} (h : AdmT c ok rs) : rs.length ≤ c.ts.length := by
  rcases h with ⟨_, _, e, _⟩ | ⟨_, e, _⟩
  · omega
  · rw [e]; exact Nat.zero_le _
set_option maxRecDepth 20000 in
set_option maxHeartbeats 8000000 in
theorem walk_admitTellsC (C : PAdmit) (w : World) (c : Cf) (hc : CfFit w c) (task : Int) (ht : (Lit.int .i64 task).wf = true) :
    Calls Tryz.prog 3 #[.agg (cfVals c).toArray, .int .i64 task] w fun e w' => e = .returned (.bool true) ∧ Below w.heap.size w w' := by
  obtain ⟨cc, hcc⟩ : ∃ cc, cc = c := ⟨_, rfl⟩
  have HC := hide hcc
  obtain ⟨ta, tn, tc, ts, ea, en, ec, es, ma, mn, mc, ms, ga, gn, gc, gs, frames, dog⟩ := c
  show Calls Tryz.prog 3 #[.agg #[.slice ta tn tc, .slice ea en ec, .slice ma mn mc, .slice ga gn gc, .int .i64 frames, .int .i64 dog], .int .i64 task] w _
  have F := hide hc
  obtain ⟨W0, hW⟩ : ∃ W0, W0 = w.alloc (.cells #[.slice ta tn tc, .slice ea en ec, .slice ma mn mc, .slice ga gn gc, .int .i64 frames, .int .i64 dog] 27) := ⟨_, rfl⟩
  have hb := heap_alloc_new w (.cells #[.slice ta tn tc, .slice ea en ec, .slice ma mn mc, .slice ga gn gc, .int .i64 frames, .int .i64 dog] 27)
  have B0 := hide ((Below.refl w.heap.size w).alloc (Nat.le_refl _) (.cells #[.slice ta tn tc, .slice ea en ec, .slice ma mn mc, .slice ga gn gc, .int .i64 frames, .int .i64 dog] 27))
  rw [← hW] at hb B0
  have SC := hide (show ∀ Y : World, Below W0.heap.size W0 Y → Y.cell? ⟨w.heap.size, 0, none⟩ = some (.slice ta tn tc) ∧ Y.cell? ⟨w.heap.size, 1, none⟩ = some (.slice ea en ec) ∧ Y.cell? ⟨w.heap.size, 2, none⟩ = some (.slice ma mn mc) ∧ Y.cell? ⟨w.heap.size, 3, none⟩ = some (.slice ga gn gc) ∧ Y.cell? ⟨w.heap.size, 4, none⟩ = some (.int .i64 frames) ∧ Y.cell? ⟨w.heap.size, 5, none⟩ = some (.int .i64 dog) from fun Y b => by
    have e := (b.block _ (lt_of_heap hb)).trans hb
    refine ⟨?_, ?_, ?_, ?_, ?_, ?_⟩ <;> (rw [cell_of_row _ _ _ _ _ _ e]; rfl))
  obtain ⟨G, hG⟩ : ∃ G, G = greatCf cc := ⟨_, rfl⟩
  obtain ⟨P, hP⟩ : ∃ P, P = mayC (cpOf cc) := ⟨_, rfl⟩
  have GR := hide (show Calls Tryz.prog 4 #[.agg #[.slice ta tn tc, .slice ea en ec, .slice ma mn mc, .slice ga gn gc, .int .i64 frames, .int .i64 dog]] W0 fun e w' => e = .returned (.bool G) ∧ Below W0.heap.size W0 w' from by
    have := greatCf_any W0 cc (by rw [hcc]; exact hc.below B0.out)
    rw [← hG, hcc] at this
    exact this)
  have MY := hide (show G = false → ∀ Y : World, Below W0.heap.size W0 Y → Calls Tryz.prog 6 #[.agg #[.slice ta tn tc, .slice ea en ec, .slice ma mn mc, .slice ga gn gc, .int .i64 frames, .int .i64 dog]] Y fun e w' => e = .returned (.bool P) ∧ Below Y.heap.size Y w' from fun hg Y b => by
    have := C.may Y cc (by rw [hcc]; exact (hc.below B0.out).below b) (by rw [← hG]; exact hg)
    rw [← hP, hcc] at this
    exact this)
  have BK := hide (show G = false → ∀ Y : World, Below W0.heap.size W0 Y → ∀ task : Int, (Lit.int .i64 task).wf = true → Calls Tryz.prog 8 #[.agg #[.slice ta tn tc, .slice ea en ec, .slice ma mn mc, .slice ga gn gc, .int .i64 frames, .int .i64 dog], .int .i64 task] Y fun e w' => e = .returned (.int .i64 (blkC (cpOf cc) task)) ∧ Below Y.heap.size Y w' from fun hg Y b task ht => by
    have := C.blk Y cc (by rw [hcc]; exact (hc.below B0.out).below b) (by rw [← hG]; exact hg) task ht
    rw [hcc] at this ⊢
    exact this)
  have AW := hide (fun (Y : World) => adawake_any C Y)
  have HP := hide hP
  have HW := hide hW
  obtain ⟨k0, k1, k2, k3, k4, k5⟩ := SC.out W0 (Below.refl _ _)
  have CC := hide C
  have GG := hide hG
  clear hc hW hb C hG hP hcc
  cases G with
  | true =>
    clear MY BK
    go_enter Tryz.func3, Tryz.ntmps3
    go_upto_region 1 with fail
    rw [← HW.out]
    go_wp2_with (first
      | (go_at_call 4; refine GR.out.mono ?_; rintro e w1 ⟨rfl, b1⟩; have B1 := hide (B0.out.trans (b1.mono B0.out.size)); clear b1 k0 k1 k2 k3 k4 k5)
      | (go_at_call 5; refine (AW.out _).mono ?_; rintro e w2 ⟨rfl, b2⟩; have B2 := hide (B1.out.trans (b2.mono B1.out.size)); clear b2))
    go_ret
    exact ⟨rfl, B2.out⟩
  | false =>
    have TN12 := hide (show tn ≤ 12 ∧ gn ≤ 12 from by
      have h := GG.out
      rw [HC.out] at h
      unfold greatCf at h
      have h := h.symm
      simp only [Bool.or_eq_false_iff, decide_eq_false_iff_not] at h
      exact ⟨by omega, by omega⟩)
    have CI := hide (show ∀ Y : World, Below W0.heap.size W0 Y → CfFit Y cc from fun Y b => by rw [HC.out]; exact (F.out.below B0.out).below b)
    have GF := hide (show greatCf cc = false from GG.out.symm)
    have MA := hide (show ∀ Y : World, Below W0.heap.size W0 Y → Calls Tryz.prog 6 #[.agg #[.slice ta tn tc, .slice ea en ec, .slice ma mn mc, .slice ga gn gc, .int .i64 frames, .int .i64 dog]] Y fun e w' => e = .returned (.bool P) ∧ Below Y.heap.size Y w' from fun Y b => MY.out rfl Y b)
    have MR := hide (show ∀ Y : World, Below W0.heap.size W0 Y → Calls Tryz.prog 7 #[.agg #[.slice ta tn tc, .slice ea en ec, .slice ma mn mc, .slice ga gn gc, .int .i64 frames, .int .i64 dog]] Y fun e w' => e = .returned (.bool P) ∧ Below Y.heap.size Y w' from fun Y b => by
      have h := rmayC_any Y cc (CI.out Y b) GF.out
      rw [← HP.out, HC.out] at h
      exact h)
    obtain ⟨BL, hBL⟩ : ∃ z, z = blkC (cpOf cc) task := ⟨_, rfl⟩
    have BA := hide (show ∀ Y : World, Below W0.heap.size W0 Y → Calls Tryz.prog 8 #[.agg #[.slice ta tn tc, .slice ea en ec, .slice ma mn mc, .slice ga gn gc, .int .i64 frames, .int .i64 dog], .int .i64 task] Y fun e w' => e = .returned (.int .i64 BL) ∧ Below Y.heap.size Y w' from fun Y b => by rw [hBL]; exact BK.out rfl Y b task ht)
    have BR := hide (show ∀ Y : World, Below W0.heap.size W0 Y → Calls Tryz.prog 9 #[.agg #[.slice ta tn tc, .slice ea en ec, .slice ma mn mc, .slice ga gn gc, .int .i64 frames, .int .i64 dog], .int .i64 task] Y fun e w' => e = .returned (.int .i64 BL) ∧ Below Y.heap.size Y w' from fun Y b => by
      have h := rblk18_any Y cc (CI.out Y b) GF.out task
      rw [← hBL, HC.out] at h
      exact h)
    obtain ⟨PS, hPS⟩ : ∃ z, z = partsC (cpOf cc) task := ⟨_, rfl⟩
    obtain ⟨pn, hpn⟩ : ∃ z, z = PS.length := ⟨_, rfl⟩
    have PN := hide (show pn ≤ 24 from by
      have h0 : (cpOf cc).gs.length ≤ 12 := by rw [HC.out]; have h0 : gs.length = gn := F.out.gaps.reads.1; have := TN12.out; show gs.length ≤ 12; omega
      have h1 : (cpOf cc).ts.length ≤ 12 := by rw [HC.out]; have h1 : ts.length = tn := F.out.tasks.reads.1; show (ts.map tpOf).length ≤ 12; rw [List.length_map]; have := TN12.out; omega
      rw [hpn, hPS]
      unfold partsC
      split
      · split
        · rename_i a e
          have h := partsT_len18 (cpOf cc) task.toNat a
          omega
        · simp
      · simp)
    have PA := hide (show ∀ Y : World, Below W0.heap.size W0 Y → Calls Tryz.prog 10 #[.agg #[.slice ta tn tc, .slice ea en ec, .slice ma mn mc, .slice ga gn gc, .int .i64 frames, .int .i64 dog], .int .i64 task] Y fun e w' => ∃ A D, e = .returned (.slice A pn D) ∧ Reads 2 ptVals w' A pn PS ∧ Below Y.heap.size Y w' from fun Y b => by
      have h := CC.out.parts Y cc (CI.out Y b) GF.out task ht
      rw [← hPS, ← hpn] at h
      rw [HC.out] at h
      refine Calls.mono h ?_
      rintro e w' ⟨v, rfl, o, b'⟩
      obtain ⟨A, D, rfl, hr, _⟩ := own_reads ptVals_len (by omega) o
      exact ⟨A, D, rfl, hr, b'⟩)
    have PR := hide (show ∀ Y : World, Below W0.heap.size W0 Y → Calls Tryz.prog 11 #[.agg #[.slice ta tn tc, .slice ea en ec, .slice ma mn mc, .slice ga gn gc, .int .i64 frames, .int .i64 dog], .int .i64 task] Y fun e w' => ∃ A D, e = .returned (.slice A pn D) ∧ Reads 2 ptVals w' A pn PS ∧ Below Y.heap.size Y w' from fun Y b => by
      have h := rparts18_any Y cc (CI.out Y b) GF.out task
      rw [← hPS, ← hpn] at h
      rw [HC.out] at h
      refine Calls.mono h ?_
      rintro e w' ⟨v, rfl, o, b'⟩
      obtain ⟨A, D, rfl, hr, _⟩ := own_reads ptVals_len (by omega) o
      exact ⟨A, D, rfl, hr, b'⟩)
    have RA := hide (show ∀ Y : World, Below W0.heap.size W0 Y → Calls Tryz.prog 12 #[.agg #[.slice ta tn tc, .slice ea en ec, .slice ma mn mc, .slice ga gn gc, .int .i64 frames, .int .i64 dog], .int .i64 task] Y fun e w' => ∃ r ok, e = .returned (.tuple #[.int .i64 r, .bool ok]) ∧ RespC (cpOf cc) task r ok ∧ Below Y.heap.size Y w' from fun Y b => by
      have h := CC.out.resp Y cc (CI.out Y b) GF.out task ht
      rw [HC.out] at h ⊢
      exact h)
    have RR := hide (show ∀ Y : World, Below W0.heap.size W0 Y → Calls Tryz.prog 13 #[.agg #[.slice ta tn tc, .slice ea en ec, .slice ma mn mc, .slice ga gn gc, .int .i64 frames, .int .i64 dog], .int .i64 task] Y fun e w' => RespOk (cpOf cc) task Y e w' from fun Y b => by
      have h := rresp18_any Y cc (CI.out Y b) GF.out task
      rw [HC.out] at h ⊢
      exact h)
    have AA := hide (show ∀ Y : World, Below W0.heap.size W0 Y → Calls Tryz.prog 14 #[.agg #[.slice ta tn tc, .slice ea en ec, .slice ma mn mc, .slice ga gn gc, .int .i64 frames, .int .i64 dog]] Y fun e w' => AdmOk (cpOf cc) Y e w' from fun Y b => by
      have h := CC.out.adm Y cc (CI.out Y b) GF.out
      rw [HC.out] at h ⊢
      refine Calls.mono h ?_
      intro e w' q
      unfold AdmOk
      exact q)
    have AR := hide (show ∀ Y : World, Below W0.heap.size W0 Y → Calls Tryz.prog 15 #[.agg #[.slice ta tn tc, .slice ea en ec, .slice ma mn mc, .slice ga gn gc, .int .i64 frames, .int .i64 dog]] Y fun e w' => AdmOk (cpOf cc) Y e w' from fun Y b => by
      have h := radm18_any Y cc (CI.out Y b) GF.out
      rw [HC.out] at h ⊢
      exact h)
    have LN := hide (show ∀ (ok : Bool) (rs : List Int), AdmT (cpOf cc) ok rs → rs.length ≤ 12 from fun ok rs h => by
      have h1 := h.len
      have h2 : (cpOf cc).ts.length ≤ 12 := by rw [HC.out]; have h1 : ts.length = tn := F.out.tasks.reads.1; show (ts.map tpOf).length ≤ 12; rw [List.length_map]; have := TN12.out; omega
      omega)
    clear MY BK hBL hPS hpn
    have PP : (P != P) = false := by simp
    go_enter Tryz.func3, Tryz.ntmps3
    go_upto_region 1 with fail
    rw [← HW.out]
    go_upto_region 3 with (go_at_call 4; refine GR.out.mono ?_; rintro e w1 ⟨rfl, b1⟩; have B1 := hide b1; clear b1 k0 k1 k2 k3 k4 k5)
    have D1 := hide (show Below W0.heap.size W0 w1.drew from below_drewN B1.out 1)
    go_region_held3 (fun W => W.cell? ⟨w.heap.size, 0, none⟩ = some (.slice ta tn tc) ∧ W.cell? ⟨w.heap.size, 1, none⟩ = some (.slice ea en ec) ∧ W.cell? ⟨w.heap.size, 2, none⟩ = some (.slice ma mn mc) ∧ W.cell? ⟨w.heap.size, 3, none⟩ = some (.slice ga gn gc) ∧ W.cell? ⟨w.heap.size, 4, none⟩ = some (.int .i64 frames) ∧ W.cell? ⟨w.heap.size, 5, none⟩ = some (.int .i64 dog)) (first | exact SC.out _ D1.out | exact SC.out _ C2.out | exact SC.out _ C3.out | exact SC.out _ C4.out | exact SC.out _ C5.out) (first
      | (go_at_call 6; with_reducible refine (MA.out _ D1.out).mono ?_; rintro e w2 ⟨rfl, b2⟩; have C2 := hide (D1.out.trans (b2.mono D1.out.size)); clear b2)
      | (go_at_call 7; with_reducible refine (MR.out _ C2.out).mono ?_; rintro e w3 ⟨rfl, b3⟩; have C3 := hide (C2.out.trans (b3.mono C2.out.size)); clear b3)
      | (go_at_call 8; with_reducible refine (BA.out _ C3.out).mono ?_; rintro e w4 ⟨rfl, b4⟩; have C4 := hide (C3.out.trans (b4.mono C3.out.size)); clear b4)
      | (go_at_call 9; with_reducible refine (BR.out _ C4.out).mono ?_; rintro e w5 ⟨rfl, b5⟩; have C5 := hide (C4.out.trans (b5.mono C4.out.size)); clear b5))
    go_upto_region 5 with fail
    clear PP
    have D5 := hide (show Below W0.heap.size W0 w5.drew from below_drewN C5.out 1)
    go_region_held3 (fun W => W.cell? ⟨w.heap.size, 0, none⟩ = some (.slice ta tn tc) ∧ W.cell? ⟨w.heap.size, 1, none⟩ = some (.slice ea en ec) ∧ W.cell? ⟨w.heap.size, 2, none⟩ = some (.slice ma mn mc) ∧ W.cell? ⟨w.heap.size, 3, none⟩ = some (.slice ga gn gc) ∧ W.cell? ⟨w.heap.size, 4, none⟩ = some (.int .i64 frames) ∧ W.cell? ⟨w.heap.size, 5, none⟩ = some (.int .i64 dog)) (first | exact SC.out _ D5.out | exact SC.out _ C6.out | exact SC.out _ C7.out) (first
      | (go_at_call 10; with_reducible refine (PA.out _ D5.out).mono ?_; rintro e w6 ⟨A6, E6, rfl, r6, b6⟩; have R6 := hide r6; have C6 := hide (D5.out.trans (b6.mono D5.out.size)); clear b6 r6)
      | (go_at_call 11; with_reducible refine (PR.out _ C6.out).mono ?_; rintro e w7 ⟨A7, E7, rfl, r7, b7⟩; have R7 := hide r7; have Q7 := hide (R6.out.below b7); have C7 := hide (C6.out.trans (b7.mono C6.out.size)); clear b7 r7))
    have pn24 : (pn : Int) ≤ 24 := by have := PN.out; omega
    go_wp2_with fail
    go_loopw [7] (fun kv wr => ∃ k m : Nat, k ≤ pn ∧ kv = .int .i64 (k : Int) ∧ wr = w7.drewN m) (fun kv _ => pn - (intOf kv).toNat)
    case atStart => exact ⟨0, 0, Nat.zero_le _, rfl, rfl⟩
    case round =>
      obtain ⟨k, m, hk, rfl, rfl⟩ := hrel
      by_cases hlt : k < pn
      · have i0 : (0 : Int) ≤ (k : Int) := by omega
        have i1 : (k : Int) < (pn : Int) := by omega
        obtain ⟨b1, o1, rfl, y0, y1⟩ := reads_pt (Q7.out.below (below_drewN (Below.refl _ w7) m)) hlt
        obtain ⟨b2, o2, rfl, z0, z1⟩ := reads_pt (R7.out.below (below_drewN (Below.refl _ w7) m)) hlt
        obtain ⟨x, hx⟩ : ∃ x, x = PS.getD k ptD := ⟨_, rfl⟩
        rw [← hx] at y0 y1 z0 z1
        obtain ⟨xp, xc⟩ := x
        clear hx
        dsimp only at y0 y1 z0 z1
        obtain ⟨W1, hW1⟩ : ∃ W1, W1 = w7.drewN m := ⟨_, rfl⟩
        rw [← hW1] at y0 y1 z0 z1 ⊢
        have HW1 := hide hW1
        clear hW1
        go_upto_region 11 with fail
        go_region_held3 (fun W => W.cell? ⟨b1, o1 + k * 2, none⟩ = some (.int .i64 xp) ∧ W.cell? ⟨b1, o1 + k * 2 + 1, none⟩ = some (.int .i64 xc) ∧ W.cell? ⟨b2, o2 + k * 2, none⟩ = some (.int .i64 xp) ∧ W.cell? ⟨b2, o2 + k * 2 + 1, none⟩ = some (.int .i64 xc)) (exact ⟨y0, y1, z0, z1⟩) (fail)
        go_wp2_with fail
        go_roundw
        case rel => exact ⟨k + 1, _, by omega, by go_num, by rw [HW1.out]; exact World.drewN_drewN w7 m 1⟩
        case measure => simp [intOf]; omega
      · obtain rfl : k = pn := by omega
        have C8 := hide (below_drewN C7.out m)
        obtain ⟨k0, k1, k2, k3, k4, k5⟩ := SC.out _ C8.out
        obtain ⟨w8, hw8⟩ : ∃ w8, w8 = w7.drewN m := ⟨_, rfl⟩
        rw [← hw8] at C8 k0 k1 k2 k3 k4 k5 ⊢
        clear hw8
        go_upto_region 17 with (first
          | (go_at_call 12; refine (RA.out _ C8.out).mono ?_; rintro e w9 ⟨r, ok, rfl, h9, b9⟩; have T9 := hide h9; have C9 := hide (C8.out.trans (b9.mono C8.out.size)); clear b9 h9; clear k0 k1 k2 k3 k4 k5; obtain ⟨k0, k1, k2, k3, k4, k5⟩ := SC.out _ C9.out)
          | (go_at_call 13; refine (RR.out _ C9.out).mono ?_; intro e w10 hs; unfold RespOk at hs; obtain ⟨r', ok', rfl, h10, b10⟩ := hs; obtain ⟨rfl, rfl⟩ := T9.out.same h10; have C10 := hide (C9.out.trans (b10.mono C9.out.size)); clear b10 h10; clear k0 k1 k2 k3 k4 k5; obtain ⟨k0, k1, k2, k3, k4, k5⟩ := SC.out _ C10.out)
          | (go_at_call 14; refine (AA.out _ C10.out).mono ?_; intro e w11 hs; unfold AdmOk at hs; obtain ⟨v1, x1, rs, rfl, h11, o11, b11⟩ := hs; have T11 := hide h11; have O11 := hide o11; have C11 := hide (C10.out.trans (b11.mono C10.out.size)); clear b11 h11 o11; clear k0 k1 k2 k3 k4 k5; obtain ⟨k0, k1, k2, k3, k4, k5⟩ := SC.out _ C11.out)
          | (go_at_call 15; refine (AR.out _ C11.out).mono ?_; intro e w12 hs; unfold AdmOk at hs; obtain ⟨v2, x2, ss, rfl, h12, o12, b12⟩ := hs; obtain ⟨rfl, rfl⟩ := T11.out.same h12; have O12 := hide o12; have P12 := hide ((Touch.of_below (S := fun _ => False) b12).own O11.out (fun _ _ e => e)); have C12 := hide (C11.out.trans (b12.mono C11.out.size)); clear b12 h12 o12 k0 k1 k2 k3 k4 k5))
        have LR := hide (LN.out _ _ T11.out)
        go_wp2_with (first
          | (go_at_call 16; refine (same_own _ _ _ _ _ P12.out O12.out (by have := LR.out; omega)).mono ?_; rintro e w13 ⟨rfl, b13⟩; have O13 := hide ((Touch.of_below (S := fun _ => False) b13).own O12.out (fun _ _ e => e)); have P13 := hide ((Touch.of_below (S := fun _ => False) b13).own P12.out (fun _ _ e => e)); have C13 := hide (C12.out.trans (b13.mono C12.out.size)); clear b13 P12)
          | (go_at_call 17; go_loud (refine (over_touch _ _ _ _ P13.out (by have := LR.out; omega)).mono ?_; rintro e w14 ⟨rfl, t14⟩; have O14 := hide (t14.own O13.out (fun g hg hs => by have h1 := (O11.out.lt g hs).2; have h2 := (O12.out.lt g hg).1; omega)); have C14 := hide (C13.out.trans (t14.below C13.out.size (fun g hg => by have h1 := (O11.out.lt g hg).1; have h2 := C10.out.size; omega))); clear t14; obtain ⟨k0, k1, k2, k3, k4, k5⟩ := SC.out _ C14.out))
          | (go_at_call 14; refine (AA.out _ C14.out).mono ?_; intro e w15 hs; unfold AdmOk at hs; obtain ⟨v3, x3, rs3, rfl, h15, o15, b15⟩ := hs; obtain ⟨rfl, rfl⟩ := T11.out.same h15; have O15 := hide o15; have P15 := hide ((Touch.of_below (S := fun _ => False) b15).own O14.out (fun _ _ e => e)); have C15 := hide (C14.out.trans (b15.mono C14.out.size)); clear b15 h15 o15 k0 k1 k2 k3 k4 k5)
          | (go_at_call 16; refine (same_own _ _ _ _ _ O15.out P15.out (by have := LR.out; omega)).mono ?_; rintro e w16 ⟨rfl, b16⟩; have C16 := hide (C15.out.trans (b16.mono C15.out.size)); clear b16)
          | (go_at_call 5; refine (AW.out _).mono ?_; rintro e w17 ⟨rfl, b17⟩; have C17 := hide (C16.out.trans (b17.mono C16.out.size)); clear b17))
        go_ret
        exact ⟨rfl, B0.out.trans (C17.out.mono B0.out.size)⟩
end Go.Proofs.YtcmgkjjkhfcedaaGreat
/-
  Contracts of cmp.Compare at two whole numbers.
-/
namespace Go.Proofs.YtcmgkjjkhfcedaaGreat
open Go.ChangeShapes Go.WideShapes Go.ChangeAt Go.RowKit
set_option linter.unusedVariables false
theorem isNaNI_any (x : Int) (w : World) : Calls Tryz.prog 112 #[.int .i64 x] w fun e w' => e = .returned (.bool false) ∧ w = w' := by
  have h : (x != x) = false := by simp
  go_enter Tryz.func112, Tryz.ntmps112
  go_wp2_with fail
  go_ret
  exact ⟨rfl, rfl⟩
def sgnI (x y : Int) : Int := if x < y then -1 else if y < x then 1 else 0
theorem sgnI_any (x y : Int) (w : World) : Calls Tryz.prog 110 #[.int .i64 x, .int .i64 y] w fun e w' => e = .returned (.int .i64 (sgnI x y)) ∧ w = w' := by
  by_cases h1 : x < y
  · go_enter Tryz.func110, Tryz.ntmps110
    go_wp2_with (go_at_call 112; refine (isNaNI_any _ _).mono ?_; rintro e w' ⟨rfl, rfl⟩)
    go_ret
    exact ⟨by simp [sgnI, h1], rfl⟩
  · by_cases h2 : y < x
    · go_enter Tryz.func110, Tryz.ntmps110
      go_wp2_with (go_at_call 112; refine (isNaNI_any _ _).mono ?_; rintro e w' ⟨rfl, rfl⟩)
      go_ret
      exact ⟨ret_int (by unfold sgnI; split <;> (try split) <;> omega), rfl⟩
    · go_enter Tryz.func110, Tryz.ntmps110
      go_wp2_with (go_at_call 112; refine (isNaNI_any _ _).mono ?_; rintro e w' ⟨rfl, rfl⟩)
      go_ret
      exact ⟨ret_int (by unfold sgnI; split <;> (try split) <;> omega), rfl⟩
end Go.Proofs.YtcmgkjjkhfcedaaGreat
/-
  The program's prio: by class, in a class, the turns, Compare.
-/
namespace Go.Proofs.YtcmgkjjkhfcedaaGreat
open Go.ChangeShapes Go.WideShapes Go.ChangeAt Go.RowKit
set_option linter.unusedVariables false
/-- What tells two of one class apart. -/
def inI (c l d y z : Int) : Int := if c = 1 then sgnI z d else sgnI l y
theorem cmpP_turn1 {c l d x y z : Int} (h : c ≠ x) : cmpP ⟨c, l, d⟩ ⟨x, y, z⟩ = sgnI c x := by
  unfold cmpP gtP sgnI
  rw [if_pos h, if_pos (Ne.symm h)]
  simp only [decide_eq_true_eq]
  split <;> (try split) <;> (try split) <;> omega
theorem cmpP_turn2 (c l d y z : Int) : cmpP ⟨c, l, d⟩ ⟨c, y, z⟩ = inI c l d y z := by
  unfold cmpP gtP inI sgnI
  by_cases h : c = 1
  · simp only [h, ne_eq, not_true_eq_false, if_false, if_true, decide_eq_true_eq]
    split <;> (try split) <;> (try split) <;> omega
  · simp only [h, ne_eq, not_true_eq_false, if_false, decide_eq_true_eq]
    split <;> (try split) <;> (try split) <;> omega
theorem sgnI_ne {x y : Int} (h : x ≠ y) : sgnI x y ≠ 0 := by unfold sgnI; split <;> (try split) <;> omega
theorem sgnI_self (x : Int) : sgnI x x = 0 := by simp [sgnI]
set_option maxHeartbeats 2000000 in
theorem pbyClass_any (w : World) (c l d x y z : Int) : Calls Tryz.prog 102 #[.agg #[.int .i64 c, .int .i64 l, .int .i64 d], .agg #[.int .i64 x, .int .i64 y, .int .i64 z]] w fun e w' => e = .returned (.int .i64 (sgnI c x)) ∧ Below w.heap.size w w' := by
  have B := hide (((Below.refl w.heap.size w).alloc (Nat.le_refl _) (.cells #[.int .i64 c, .int .i64 l, .int .i64 d] 134)).alloc (by simp) (.cells #[.int .i64 x, .int .i64 y, .int .i64 z] 134))
  go_enter Tryz.func102, Tryz.ntmps102
  go_wp2_with (go_at_call 110; refine (sgnI_any _ _ _).mono ?_; rintro e w' ⟨rfl, rfl⟩)
  go_ret
  exact ⟨rfl, B.out⟩
set_option maxHeartbeats 2000000 in
theorem pinClass_any (w : World) (c l d x y z : Int) : Calls Tryz.prog 103 #[.agg #[.int .i64 c, .int .i64 l, .int .i64 d], .agg #[.int .i64 x, .int .i64 y, .int .i64 z]] w fun e w' => e = .returned (.int .i64 (inI c l d y z)) ∧ Below w.heap.size w w' := by
  have B := hide (((Below.refl w.heap.size w).alloc (Nat.le_refl _) (.cells #[.int .i64 c, .int .i64 l, .int .i64 d] 134)).alloc (by simp) (.cells #[.int .i64 x, .int .i64 y, .int .i64 z] 134))
  by_cases h : c = 1
  · subst h
    have e : inI 1 l d y z = sgnI z d := by simp [inI]
    rw [e]
    clear e
    go_enter Tryz.func103, Tryz.ntmps103
    go_wp2_with (go_at_call 110; refine (sgnI_any _ _ _).mono ?_; rintro e w' ⟨rfl, rfl⟩)
    go_ret
    exact ⟨rfl, B.out⟩
  · have e : inI c l d y z = sgnI l y := by simp [inI, h]
    have h' : (c == 1) = false := by simpa using h
    rw [e]
    clear e h
    go_enter Tryz.func103, Tryz.ntmps103
    go_wp2_with (go_at_call 110; refine (sgnI_any _ _ _).mono ?_; rintro e w' ⟨rfl, rfl⟩)
    go_ret
    exact ⟨rfl, B.out⟩
def turnsV : Array Value := #[.func (.func 102) #[] #[], .func (.func 103) #[] #[]]
theorem prstore_func (w : World) (a : Addr) (m : Mode) (fn : Fn) (first captured : Array Value) : (store a (.func fn first captured) m).run Tryz.prog w = stored Tryz.prog w a (.func fn first captured) m := run_store Tryz.prog w a _ m rfl
attribute [local go_sem] prstore_func
theorem built_turns : Tryz.prog.built 132 [(0, .func (.func 102) #[] #[]), (1, .func (.func 103) #[] #[])] = some turnsV := by kernel_rfl
set_option maxHeartbeats 2000000 in
theorem pturns_any (w : World) : Calls Tryz.prog 89 #[] w fun e w' => e = .returned (.agg turnsV) ∧ Below w.heap.size w w' := by
  go_enter Tryz.func89, Tryz.ntmps89
  go_wp2_with fail
  first
  | (go_ret; exact ⟨rfl, (Below.refl _ _).alloc (Nat.le_refl _) _⟩)
  | exact bodyPost_ret (v := .agg turnsV) (by simp [results, Tryz.results89, go_sem]; rfl) rfl ⟨rfl, (Below.refl _ _).alloc (Nat.le_refl _) _⟩
end Go.Proofs.YtcmgkjjkhfcedaaGreat
