/-
  What the walks lean on, part 3: AdAhead Low RtIn AdBoth RkRefs RtRef AdRefA.
-/
import Derived.Deep.RegionHeld3
import Derived.Deep.QuietTactic
import Derived.BigQuiet
import Derived.Deep.DeepCutAuto
import Derived.Deep.CutBlock
import Derived.Deep.RegionLaw
import Derived.Test.YtcmgkjjkhfcedaaGreatPk02
/-
  One that asks for budget 1; other threads of best effort; what comes ahead of two tasks (stage 18), in plain words.
-/
namespace Go.Proofs.YtcmgkjjkhfcedaaGreat
open Go.ChangeShapes Go.WideShapes Go.ChangeAt Go.RowKit
set_option linter.unusedVariables false
theorem apart_less : ∀ {l r : List Tp}, LessL l r → apartT l = apartT r
  | [], [], _ => rfl
  | a :: l, b :: r, h => by
    unfold apartT
    rw [apart_less h.2]
    congr 1
    have : ∀ {l r : List Tp}, LessL l r → (l.all fun u => decide (¬ (0 ≤ u.line ∧ a.line = u.line))) = (r.all fun u => decide (¬ (0 ≤ u.line ∧ b.line = u.line))) := by
      intro l
      induction l with
      | nil => intro r h; cases r with
        | nil => rfl
        | cons y r => exact h.elim
      | cons x l ih => intro r h2; cases r with
        | nil => exact h2.elim
        | cons y r =>
          rw [List.all_cons, List.all_cons, ih h2.2, h2.1.2.2.2.2.1, h.1.2.2.2.2.1]
    exact this h.2
  | [], _ :: _, h => h.elim
  | _ :: _, [], h => h.elim
def one1 (t : Tp) : Tp := ⟨t.cls, t.lev, t.per, t.dl, 1, t.line, t.us, t.pn⟩
theorem LessL.modify : ∀ (l : List Tp) (k : Nat), (∀ t ∈ l, 1 ≤ t.bud) → LessL (l.modify k one1) l
  | [], k, _ => by cases k <;> trivial
  | a :: l, 0, h => ⟨⟨rfl, rfl, rfl, rfl, rfl, rfl, h a (List.mem_cons_self ..)⟩, LessL.refl l⟩
  | a :: l, k + 1, h => ⟨Le1.refl a, LessL.modify l k fun t ht => h t (List.mem_cons_of_mem _ ht)⟩
/-- A configuration with other tasks' lists, and other threads of best effort. -/
def withC (c : Cp) (ts : List Tp) (es : List (Int × Nat)) : Cp := ⟨ts, es, c.ms, c.gs, c.frames, c.dog⟩
theorem mayC_all {c : Cp} (h : mayC c = true) : ∀ t ∈ c.ts, mayT c.ms.length c.gs.length t = true := fun t ht => by
  obtain ⟨i, hi⟩ := List.getElem?_of_mem ht
  exact mayC_task h hi
theorem mayT_one {m l : Nat} {t : Tp} (h : mayT m l t = true) : mayT m l (one1 t) = true := by
  unfold mayT one1 at *
  simp only [Bool.and_eq_true, decide_eq_true_eq] at h ⊢
  obtain ⟨⟨⟨⟨⟨⟨⟨h1, h2⟩, h3⟩, h4⟩, h5⟩, h6⟩, h7⟩, h8⟩ := h
  exact ⟨⟨⟨⟨⟨⟨⟨h1, h2⟩, h3⟩, by omega⟩, h5⟩, h6⟩, h7⟩, h8⟩
theorem mem_modify {α : Type} {f : α → α} : ∀ {l : List α} {k : Nat} {x : α}, x ∈ l.modify k f → x ∈ l ∨ ∃ y ∈ l, x = f y
  | [], k, x, h => by cases k <;> cases h
  | a :: l, 0, x, h => by
    rcases List.mem_cons.1 (show x ∈ f a :: l from h) with h | h
    · exact .inr ⟨a, List.mem_cons_self .., h⟩
    · exact .inl (List.mem_cons_of_mem _ h)
  | a :: l, k + 1, x, h => by
    rcases List.mem_cons.1 (show x ∈ a :: l.modify k f from h) with h | h
    · exact .inl (by rw [h]; exact List.mem_cons_self ..)
    · rcases mem_modify h with h | ⟨y, hy, e⟩
      · exact .inl (List.mem_cons_of_mem _ h)
      · exact .inr ⟨y, List.mem_cons_of_mem _ hy, e⟩
theorem mayC_one {c : Cp} (h : mayC c = true) (k : Nat) : mayC (withC c (c.ts.modify k one1) c.es) = true := by
  have hb : ∀ t ∈ c.ts, 1 ≤ t.bud := fun t ht => (mayT_facts (mayC_all h t ht)).2.2.2.1.1
  have hl := LessL.modify c.ts k hb
  have ha := mayC_all h
  unfold mayC withC at *
  simp only [Bool.and_eq_true, decide_eq_true_eq] at h ⊢
  obtain ⟨⟨⟨⟨⟨⟨⟨⟨⟨h1, h2⟩, h3⟩, h4⟩, h5⟩, h6⟩, h7⟩, h8⟩, h9⟩, h10⟩ := h
  refine ⟨⟨⟨⟨⟨⟨⟨⟨⟨by rw [LessC.len hl]; exact h1, h2⟩, h3⟩, h4⟩, h5⟩, h6⟩, h7⟩, List.all_eq_true.2 fun x hx => ?_⟩, by rw [apart_less hl]; exact h9⟩, h10⟩
  rcases mem_modify hx with hx | ⟨y, hy, rfl⟩
  · exact ha x hx
  · exact mayT_one (ha y hy)
/-- AdmitLess, the second half. -/
theorem admit_one {c : Cp} {rs ss : List Int} {ok : Bool} (h : AdmT c true rs) (k : Nat) (h' : AdmT (withC c (c.ts.modify k one1) c.es) ok ss) : ok = true ∧ ss.length = rs.length ∧ ∀ (i : Nat) (r s : Int), rs[i]? = some r → ss[i]? = some s → s ≤ r := by
  have hm : mayC c = true := by rcases h with ⟨_, hm, _⟩ | ⟨e, _⟩; exact hm; cases e
  exact admit_less (mayC_one hm k) ⟨LessL.modify c.ts k fun t ht => (mayT_facts (mayC_all hm t ht)).2.2.2.1.1, rfl, rfl, rfl⟩ h h'
/-- AdmitBest: two that ask for the same are answered the same. -/
theorem admit_same {c c' : Cp} (h1 : LessC c' c) (h2 : LessC c c') (hm : mayC c = true) (hm' : mayC c' = true) {rs ss : List Int} {ok ok' : Bool} (h : AdmT c ok rs) (h' : AdmT c' ok' ss) : ok = ok' ∧ rs = ss := by
  have no : ∀ {c : Cp} {rs : List Int}, AdmT c false rs → rs = [] := fun h => by rcases h with ⟨e, _⟩ | ⟨_, e, _⟩; cases e; exact e
  cases ok with
  | true =>
    obtain ⟨e, hl, hle⟩ := admit_less hm' h1 h h'
    subst e
    obtain ⟨_, _, hge⟩ := admit_less hm h2 h' h
    refine ⟨rfl, List.ext_getElem? fun i => ?_⟩
    by_cases hi : i < rs.length
    · have a := List.getElem?_eq_getElem hi
      have b := List.getElem?_eq_getElem (show i < ss.length by omega)
      rw [a, b]
      have := hle i _ _ a b
      have := hge i _ _ b a
      congr 1
      omega
    · rw [List.getElem?_eq_none (by omega), List.getElem?_eq_none (by omega)]
  | false =>
    cases ok' with
    | true =>
      obtain ⟨e, _⟩ := admit_less hm h2 h' h
      cases e
    | false => exact ⟨rfl, by rw [no h, no h']⟩
/-! AdmitAhead. -/
theorem filter_erase_out {α : Type} {p : α → Bool} : ∀ {l : List α} {i : Nat} {x : α}, l[i]? = some x → p x = false → (l.eraseIdx i).filter p = l.filter p
  | [], i, x, h, _ => by cases h
  | a :: l, 0, x, h, hp => by injection h with h; subst h; show l.filter p = (a :: l).filter p; rw [List.filter_cons, hp]; rfl
  | a :: l, i + 1, x, h, hp => by
    show (a :: l.eraseIdx i).filter p = (a :: l).filter p
    rw [List.filter_cons, List.filter_cons, filter_erase_out (l := l) (i := i) (by simpa using h) hp]
theorem filter_erase_in {α : Type} {p : α → Bool} : ∀ {l : List α} {i : Nat} {x : α}, l[i]? = some x → p x = true → ((l.eraseIdx i).filter p).length + 1 = (l.filter p).length
  | [], i, x, h, _ => by cases h
  | a :: l, 0, x, h, hp => by injection h with h; subst h; show (l.filter p).length + 1 = ((a :: l).filter p).length; rw [List.filter_cons, hp]; rfl
  | a :: l, i + 1, x, h, hp => by
    show ((a :: l.eraseIdx i).filter p).length + 1 = ((a :: l).filter p).length
    rw [List.filter_cons, List.filter_cons]
    have := filter_erase_in (l := l) (i := i) (x := x) (by simpa using h) hp
    split
    · simp only [List.length_cons]; omega
    · exact this
theorem filter_imp {α : Type} {p q : α → Bool} (h : ∀ x, p x = true → q x = true) : ∀ l : List α, (l.filter p).Sublist (l.filter q)
  | [] => List.Sublist.refl _
  | a :: l => by
    rw [List.filter_cons, List.filter_cons]
    by_cases hp : p a = true
    · rw [if_pos hp, if_pos (h a hp)]; exact (filter_imp h l).cons_cons a
    · rw [if_neg hp]
      split
      · exact (filter_imp h l).cons a
      · exact filter_imp h l
/-- What comes ahead of y comes ahead of x, which is below it; so does y itself. -/
theorem ahead {c : Cp} {i k : Nat} {x y : Tp} (hx : c.ts[i]? = some x) (hy : c.ts[k]? = some y) (hf : y.cls = 2) (hb : ¬ (x.cls = 2 ∧ y.lev ≤ x.lev)) (hcx : x.cls = 2 ∨ x.cls = 1) :
    (partsT c k y).Sublist (partsT c i x) ∧ (partsT c k y).length < (partsT c i x).length ∧ partT y ∈ ((c.ts.eraseIdx i).filter fun b => decide (b.cls = 2) && countsT x b).map partT := by
  obtain ⟨p, hp⟩ : ∃ p : Tp → Bool, p = fun b => decide (b.cls = 2) && countsT y b := ⟨_, rfl⟩
  obtain ⟨q, hq⟩ : ∃ q : Tp → Bool, q = fun b => decide (b.cls = 2) && countsT x b := ⟨_, rfl⟩
  have px : p x = false := by
    rw [hp]; unfold countsT; simp
    intro e
    have : ¬ y.cls = 1 := by omega
    refine ⟨by omega, fun _ => ?_⟩
    have := fun h => hb ⟨e, h⟩
    omega
  have py : p y = true := by rw [hp]; unfold countsT; simp [hf]
  have pq : ∀ b, p b = true → q b = true := fun b h => by
    rw [hp] at h
    rw [hq]
    unfold countsT at *
    simp at h ⊢
    refine ⟨h.1, ?_⟩
    rcases hcx with e | e
    · right
      have h3 : y.lev ≤ b.lev := by
        rcases h.2 with h2 | h2
        · omega
        · exact h2.2
      have : ¬ y.lev ≤ x.lev := fun h => hb ⟨e, h⟩
      exact ⟨h.1, by omega⟩
    · exact .inl e
  have s1 : ((c.ts.eraseIdx k).filter p).Sublist (c.ts.filter p) := (List.eraseIdx_sublist _ _).filter _
  have s2 : (c.ts.filter p).Sublist ((c.ts.eraseIdx i).filter q) := by rw [← filter_erase_out hx px]; exact filter_imp pq _
  have l1 := filter_erase_in hy py
  unfold partsT
  rw [← hp, ← hq]
  refine ⟨((s1.trans s2).map _).append_left _, ?_, ?_⟩
  · have := s2.length_le
    simp only [List.length_append, List.length_map]
    omega
  · exact List.mem_map.2 ⟨y, s2.subset (List.mem_filter.2 ⟨List.mem_of_getElem? hy, py⟩), rfl⟩
end Go.Proofs.YtcmgkjjkhfcedaaGreat
/-
  Low (coxswainlaw0) for bounds up to 2^40, by integers; small numbers are well.
-/
namespace Go.Proofs.YtcmgkjjkhfcedaaGreat
open Go.ChangeShapes Go.WideShapes Go.ChangeAt Go.RowKit
set_option linter.unusedVariables false
theorem wf_i {x : Int} (h0 : -4000000000000 ≤ x) (h : x ≤ 4000000000000) : (Lit.int .i64 x).wf = true := by
  simp [Lit.wf, IntKind.min, IntKind.max, IntKind.bits, IntKind.signed]; omega
end Go.Proofs.YtcmgkjjkhfcedaaGreat
/-
  Parts: slices of them that come in; the document's own, turned; what it answers of them (coxswainref16).
-/
namespace Go.Proofs.YtcmgkjjkhfcedaaGreat
open Go.ChangeShapes Go.WideShapes Go.ChangeAt Go.RowKit
set_option linter.unusedVariables false
def ptVals (p : Pt) : List Value := [.int .i64 p.per, .int .i64 p.cost]
def PtFit (_ : World) (p : Pt) : Prop := (Lit.int .i64 p.per).wf = true ∧ (Lit.int .i64 p.cost).wf = true
theorem ptVals_len (p : Pt) : (ptVals p).length = 2 := rfl
theorem ptVals_cell (p : Pt) : ∀ v ∈ ptVals p, v.oneCell' = true := by
  intro v hv
  simp [ptVals] at hv
  rcases hv with rfl | rfl <;> rfl
section
variable {H : Type} {enc : TypeId × Value → H} {w : World} {base : Nat} {spare : Nat → Bool} {held : Bool}
theorem pt_open (m : Nat) (cs : List Value) (x : DataW H × List MemPlace) (hl : cs.length = 2) (h : DataW.trod enc Tryz.prog w base spare held m 36 cs = some x) : ∃ o, cs = ptVals o ∧ PtFit w o := by
  obtain ⟨c, e0, w0⟩ := field_int Tryz.underlying36 h 0 0 3 rfl Tryz.underlying3 (by kernel_rfl)
  obtain ⟨l, e1, w1⟩ := field_int Tryz.underlying36 h 1 1 3 rfl Tryz.underlying3 (by kernel_rfl)
  refine ⟨⟨c, l⟩, ?_, w0, w1⟩
  match cs, hl with
  | [v0, v1], _ =>
    simp at e0 e1
    simp [ptVals, e0, e1]
end
def ptD : Pt := ⟨0, 0⟩
theorem reads_pt {w : World} {a : Option Addr} {n : Nat} {xs : List Pt} (h : Reads 2 ptVals w a n xs) {i : Nat} (hi : i < n) : ∃ b off, a = some ⟨b, off, none⟩ ∧ w.cell? ⟨b, off + i * 2, none⟩ = some (.int .i64 (xs.getD i ptD).per) ∧ w.cell? ⟨b, off + i * 2 + 1, none⟩ = some (.int .i64 (xs.getD i ptD).cost) := by
  obtain ⟨x, b, off, hx, rfl, hc⟩ := h.at_ hi
  have e : xs.getD i ptD = x := by rw [List.getD_eq_getElem?_getD, hx]; rfl
  rw [e]
  exact ⟨b, off, rfl, hc 0 _ rfl, hc 1 _ rfl⟩
theorem take_pt {xs : List Pt} {i : Nat} (h : i < xs.length) : xs.take (i + 1) = xs.take i ++ [xs.getD i ptD] := by
  rw [List.take_succ_eq_append_getElem h]
  simp [List.getD, h]
end Go.Proofs.YtcmgkjjkhfcedaaGreat
/-
  Contracts of the program's admit (PAdmit), over a configuration that came in; what it is in plain words.
-/
namespace Go.Proofs.YtcmgkjjkhfcedaaGreat
open Go.ChangeShapes Go.WideShapes Go.ChangeAt Go.RowKit
set_option linter.unusedVariables false
def tpOf (t : Tk) : Tp := ⟨t.cls, t.lev, t.per, t.dl, t.bud, t.line, t.us, t.qn⟩
def cpOf (c : Cf) : Cp := ⟨c.ts.map tpOf, c.es.map fun e => (e.lev, e.qn), c.ms, c.gs, c.frames, c.dog⟩
theorem Came.below {α : Type} {size : Nat} {vals : α → List Value} {fits : World → α → Prop} {w w' : World} {a : Option Addr} {n c : Nat} {zs : List α} (h : Came size vals fits w a n c zs) (b : Below w.heap.size w w') (hf : ∀ z, fits w z → fits w' z) : Came size vals fits w' a n c zs := by
  obtain ⟨h1, h2, h3, h4, h5, h6⟩ := h
  refine ⟨h1, h2, h3, h4, fun z hz => hf z (h5 z hz), fun hn => ?_⟩
  obtain ⟨bl, off, e, hlt, hc⟩ := h6 hn
  exact ⟨bl, off, e, Nat.lt_of_lt_of_le hlt b.size, fun i z hz j u hu => (b.cell (p := ⟨bl, off + i * size + j, none⟩) hlt).trans (hc i z hz j u hu)⟩
theorem TkFit.below {w w' : World} {t : Tk} (h : TkFit w t) (b : Below w.heap.size w w') : TkFit w' t := ⟨h.cls, h.lev, h.per, h.dl, h.bud, h.line, h.uses.below b (fun _ h => h), h.prog.below b (fun _ h => h)⟩
theorem EfFit.below {w w' : World} {e : Ef} (h : EfFit w e) (b : Below w.heap.size w w') : EfFit w' e := ⟨h.lev, h.prog.below b (fun _ h => h)⟩
theorem CfFit.below {w w' : World} {c : Cf} (h : CfFit w c) (b : Below w.heap.size w w') : CfFit w' c := ⟨h.tasks.below b (fun _ h => h.below b), h.best.below b (fun _ h => h.below b), h.mutexes.below b (fun _ h => h), h.gaps.below b (fun _ h => h), h.frames, h.dog⟩
/-- What Blocking answers. -/
def blkC (c : Cp) (task : Int) : Int := if mayC c = true ∧ 0 ≤ task then match c.ts[task.toNat]? with | some a => blkT c a | none => 0 else 0
def partsC (c : Cp) (task : Int) : List Pt := if mayC c = true ∧ 0 ≤ task then match c.ts[task.toNat]? with | some a => partsT c task.toNat a | none => [] else []
def RespC (c : Cp) (task r : Int) (ok : Bool) : Prop := if mayC c = true ∧ 0 ≤ task then match c.ts[task.toNat]? with | some a => ∃ r0, RespT c task.toNat a r0 ok ∧ r = (if ok then r0 else 0) | none => r = 0 ∧ ok = false else r = 0 ∧ ok = false
theorem blkC_at {c : Cp} (hm : mayC c = true) {i : Nat} {a : Tp} (ha : c.ts[i]? = some a) : blkC c (i : Int) = blkT c a := by
  unfold blkC
  rw [if_pos ⟨hm, by omega⟩, Int.toNat_natCast, ha]
structure PAdmit : Prop where
  may : ∀ (w : World) (c : Cf), CfFit w c → greatCf c = false → Calls Tryz.prog 6 #[.agg (cfVals c).toArray] w fun e w' => e = .returned (.bool (mayC (cpOf c))) ∧ Below w.heap.size w w'
  blk : ∀ (w : World) (c : Cf), CfFit w c → greatCf c = false → ∀ task : Int, (Lit.int .i64 task).wf = true → Calls Tryz.prog 8 #[.agg (cfVals c).toArray, .int .i64 task] w fun e w' => e = .returned (.int .i64 (blkC (cpOf c) task)) ∧ Below w.heap.size w w'
  parts : ∀ (w : World) (c : Cf), CfFit w c → greatCf c = false → ∀ task : Int, (Lit.int .i64 task).wf = true → Calls Tryz.prog 10 #[.agg (cfVals c).toArray, .int .i64 task] w fun e w' => ∃ v, e = .returned v ∧ w'.ownsRow w.heap.size 36 2 v (partsC (cpOf c) task).length ((partsC (cpOf c) task).flatMap ptVals) ∧ Below w.heap.size w w'
  resp : ∀ (w : World) (c : Cf), CfFit w c → greatCf c = false → ∀ task : Int, (Lit.int .i64 task).wf = true → Calls Tryz.prog 12 #[.agg (cfVals c).toArray, .int .i64 task] w fun e w' => ∃ r ok, e = .returned (.tuple #[.int .i64 r, .bool ok]) ∧ RespC (cpOf c) task r ok ∧ Below w.heap.size w w'
  adm : ∀ (w : World) (c : Cf), CfFit w c → greatCf c = false → Calls Tryz.prog 14 #[.agg (cfVals c).toArray] w fun e w' => ∃ v ok rs, e = .returned (.tuple #[.bool ok, v]) ∧ AdmT (cpOf c) ok rs ∧ w'.ownsRow w.heap.size 3 1 v rs.length (rs.map (Value.int .i64)) ∧ Below w.heap.size w w'
end Go.Proofs.YtcmgkjjkhfcedaaGreat
/-
  The document's own May, Least, Sum (coxswainref10).
-/
namespace Go.Proofs.YtcmgkjjkhfcedaaGreat
open Go.ChangeShapes Go.WideShapes Go.ChangeAt Go.RowKit
set_option linter.unusedVariables false
theorem quietI {P : Program} {f : FuncId} {args : Array Value} {w : World} {n : Nat} {v : Value} (h : Calls P f args (w.drewN n) fun e w' => e = .returned v ∧ w.drewN n = w') : Calls P f args (w.drewN n) fun e w' => e = .returned v ∧ ∃ m, w' = w.drewN m := by
  refine h.mono ?_
  rintro e w' ⟨rfl, rfl⟩
  exact ⟨rfl, n, rfl⟩
theorem drew_more {w wr : World} {nq : Nat} (h : ∃ q, wr = w.drewN q) : ∃ q, wr.drewN nq = w.drewN q := by
  obtain ⟨q, rfl⟩ := h
  exact ⟨q + nq, by simp [World.drewN, Nat.add_assoc]⟩
theorem any_take_succ {hs : List Int} {k : Nat} {h : Int} {p : Int → Bool} (he : hs[k]? = some h) (hn : (hs.take k).any p = false) : (hs.take (k + 1)).any p = p h := by
  have hk : k < hs.length := (List.getElem?_eq_some_iff.1 he).1
  rw [List.take_succ_eq_append_getElem hk, List.any_append, hn]
  rw [List.getElem?_eq_getElem hk] at he
  injection he with he
  simp [he]
theorem fold_take_succ {β : Type} {us : List Int} {k : Nat} {u : Int} {f : β → Int → β} {s : β} (he : us[k]? = some u) : (us.take (k + 1)).foldl f s = f ((us.take k).foldl f s) u := by
  have hk : k < us.length := (List.getElem?_eq_some_iff.1 he).1
  rw [List.take_succ_eq_append_getElem hk, List.foldl_append]
  rw [List.getElem?_eq_getElem hk] at he
  injection he with he
  simp [he]
set_option maxHeartbeats 8000000 in
theorem rleast_any (a : Option Addr) (n c : Nat) (ms : List Mu) (b : Option Addr) (p d : Nat) (us : List Int) (w : World) (ha : Reads 2 muVals w a n ms) (hb : Ints .i64 w b p us) (hn : n ≤ maxLen) (hp : p ≤ maxLen) :
    Calls Tryz.prog 40 #[.slice a n c, .slice b p d] w fun e w' => e = .returned (.tuple #[.int .i64 (leastMu ms us).1, .bool (leastMu ms us).2]) ∧ ∃ q, w' = w.drewN q := by
  have hl := ha.1
  have n63 : (n : Int) ≤ 9223372036854775807 := by unfold maxLen at hn; omega
  have p63 : (p : Int) ≤ 9223372036854775807 := by unfold maxLen at hp; omega
  obtain ⟨G, hG⟩ : ∃ G, G = leastMu ms us := ⟨_, rfl⟩
  rw [← hG]
  have HG := hide hG
  have HN := hide hn
  have HA := hide ha
  have HB := hide hb
  have HL := hide hl
  clear hG ha hb hl hn hp
  go_enter Tryz.func40, Tryz.ntmps40
  go_wp2_with fail
  go_loopw [6, 7, 8] (fun bv iv i wr => ∃ (k : Nat) (s : Int) (t : Bool), k ≤ p ∧ bv = .int .i64 s ∧ iv = .bool t ∧ i = .int .i64 k ∧ Hid ((∃ q, wr = w.drewN q) ∧ (us.take k).foldl (leastS ms) (0, false) = (s, t))) (fun _ _ i _ => p - (intOf i).toNat)
  case atStart => exact ⟨0, 0, false, Nat.zero_le _, rfl, rfl, rfl, ⟨0, rfl⟩, by simp⟩
  case round =>
    obtain ⟨k, s, t, hk, rfl, rfl, rfl, hZ⟩ := hrel
    have hcell : ∀ q : Addr, wr.cell? q = w.cell? q := fun q => by obtain ⟨_, rfl⟩ := hZ.out.1; rfl
    by_cases hlt : k < p
    · have k0 : (0 : Int) ≤ (k : Int) := by omega
      have k1 : (k : Int) < (p : Int) := by omega
      have KM1 := hide (show k + 1 ≤ p from by omega)
      obtain ⟨bb, bo, rfl, hcb⟩ := HB.out.2 (by omega)
      have hk2 : k < us.length := by rw [HB.out.1]; exact hlt
      obtain ⟨u, hu⟩ : ∃ u, u = us.getD k 0 := ⟨_, rfl⟩
      have hu2 : us[k]? = some u := by rw [hu]; simp [List.getD, hk2]
      have ch : wr.cell? ⟨bb, bo + k, none⟩ = some (.int .i64 u) := by rw [hcell, hu]; exact hcb k hlt
      have SU := hide (show (us.take (k + 1)).foldl (leastS ms) (0, false) = leastS ms (s, t) u from by rw [fold_take_succ hu2, hZ.out.2])
      have DR := hide (hZ.out.1)
      by_cases hb : isMu n u = true
      · obtain ⟨un, rfl, hun⟩ := isMu_iff.1 hb
        have q1 : ∀ W, Calls Tryz.prog 71 #[.slice a n c, .int .i64 (un : Int)] W fun e w' => e = .returned (.bool true) ∧ W = w' := fun W => (by have := ris_any a n c (un : Int) W HN.out; rw [hb] at this; exact this)
        obtain ⟨x, ab, ao, hx, rfl, hcx⟩ := HA.out.at_ hun
        have cx : wr.cell? ⟨ab, ao + un * 2, none⟩ = some (.int .i64 x.r) := by rw [hcell]; exact hcx 0 _ rfl
        have h0 : (0 : Int) ≤ (un : Int) := by omega
        have h1 : (un : Int) < (n : Int) := by omega
        have IW := hide (show leastS ms (s, t) (un : Int) = if (!t || decide (x.r < s)) = true then (x.r, true) else (s, t) from by unfold leastS; rw [muAt_nat hx, HL.out, hb]; simp)
        clear hcell hZ hu hu2 hcb hx hcx hb
        cases t with
        | false =>
          have N2 := hide (show (us.take (k + 1)).foldl (leastS ms) (0, false) = (x.r, true) from by rw [SU.out, IW.out]; simp)
          go_wp2_with (go_at_call 71; refine (q1 _).mono ?_; rintro e w' ⟨rfl, rfl⟩)
          go_roundw
          case rel => exact ⟨k + 1, x.r, true, KM1.out, rfl, rfl, by go_num, DR.out, N2.out⟩
          case measure => have h9 := KM1.out; simp [intOf]; omega
        | true =>
          by_cases hle : x.r < s
          · have N2 := hide (show (us.take (k + 1)).foldl (leastS ms) (0, false) = (x.r, true) from by rw [SU.out, IW.out]; simp [hle])
            go_wp2_with (go_at_call 71; refine (q1 _).mono ?_; rintro e w' ⟨rfl, rfl⟩)
            go_roundw
            case rel => exact ⟨k + 1, x.r, true, KM1.out, rfl, rfl, by go_num, DR.out, N2.out⟩
            case measure => have h9 := KM1.out; simp [intOf]; omega
          · have N2 := hide (show (us.take (k + 1)).foldl (leastS ms) (0, false) = (s, true) from by rw [SU.out, IW.out]; simp; omega)
            go_wp2_with (go_at_call 71; refine (q1 _).mono ?_; rintro e w' ⟨rfl, rfl⟩)
            go_roundw
            case rel => exact ⟨k + 1, s, true, KM1.out, rfl, rfl, by go_num, DR.out, N2.out⟩
            case measure => have h9 := KM1.out; simp [intOf]; omega
      · have hb' : isMu n u = false := by simpa using hb
        have q1 : ∀ W, Calls Tryz.prog 71 #[.slice a n c, .int .i64 u] W fun e w' => e = .returned (.bool false) ∧ W = w' := fun W => (by have := ris_any a n c u W HN.out; rw [hb'] at this; exact this)
        have N2 := hide (show (us.take (k + 1)).foldl (leastS ms) (0, false) = (s, t) from by rw [SU.out]; unfold leastS; rw [HL.out, hb']; simp)
        clear hcell hZ hu hu2 hcb hb hb'
        go_wp2_with (go_at_call 71; refine (q1 _).mono ?_; rintro e w' ⟨rfl, rfl⟩)
        go_roundw
        case rel => exact ⟨k + 1, s, t, KM1.out, rfl, rfl, by go_num, DR.out, N2.out⟩
        case measure => have h9 := KM1.out; simp [intOf]; omega
    · obtain rfl : k = p := by omega
      have G2 := hide (show G = (s, t) from by
        have h1 := hZ.out.2
        rw [List.take_of_length_le (by rw [HB.out.1]; omega)] at h1
        rw [HG.out]; exact h1)
      have D2 := hide hZ.out.1
      clear hZ hcell
      go_wp2_with fail
      go_ret2
      have g2 := G2.out
      subst g2
      exact ⟨rfl, D2.out⟩
set_option maxHeartbeats 8000000 in
theorem rsum10_any (a : Option Addr) (n c : Nat) (ms : List Mu) (r : Int) (w : World) (ha : Reads 2 muVals w a n ms) (hn : n ≤ maxLen) :
    Calls Tryz.prog 41 #[.slice a n c, .int .i64 r] w fun e w' => e = .returned (.int .i64 (sumMu ms r)) ∧ w = w' := by
  have n63 : (n : Int) ≤ 9223372036854775807 := by unfold maxLen at hn; omega
  obtain ⟨G, hG⟩ : ∃ G, G = sumMu ms r := ⟨_, rfl⟩
  rw [← hG]
  have HG := hide hG
  have HA := hide ha
  have HL := hide ha.1
  clear hG ha hn
  go_enter Tryz.func41, Tryz.ntmps41
  go_wp2_with fail
  go_loop [5, 6] (fun sv i => ∃ (k : Nat) (s : Int), k ≤ n ∧ sv = .int .i64 s ∧ i = .int .i64 k ∧ Hid ((ms.take k).foldl (sumS r) 0 = s)) (fun _ i => n - (intOf i).toNat)
  case atStart => exact ⟨0, 0, Nat.zero_le _, rfl, rfl, rfl⟩
  case round =>
    obtain ⟨k, s, hk, rfl, rfl, hZ⟩ := hrel
    by_cases hlt : k < n
    · have k0 : (0 : Int) ≤ (k : Int) := by omega
      have k1 : (k : Int) < (n : Int) := by omega
      have KM1 := hide (show k + 1 ≤ n from by omega)
      obtain ⟨x, b, off, hx, rfl, hc⟩ := HA.out.at_ hlt
      have c0 : w.cell? ⟨b, off + k * 2, none⟩ = some (.int .i64 x.r) := hc 0 _ rfl
      have c1 : w.cell? ⟨b, off + k * 2 + 1, none⟩ = some (.int .i64 x.l) := hc 1 _ rfl
      have SU := hide (show (ms.take (k + 1)).foldl (sumS r) 0 = sumS r s x from by
        have hk2 : k < ms.length := (List.getElem?_eq_some_iff.1 hx).1
        rw [List.take_succ_eq_append_getElem hk2, List.foldl_append, hZ.out]
        rw [List.getElem?_eq_getElem hk2] at hx
        injection hx with hx
        simp [hx])
      clear hx hc
      by_cases hr : r ≤ x.r
      · have N2 := hide (show (ms.take (k + 1)).foldl (sumS r) 0 = cl (cl s + cl x.l) from by rw [SU.out]; unfold sumS; rw [if_pos hr])
        go_wp2_with (go_at_call 72; refine (radd_any _ _ _).mono ?_; rintro e w' ⟨rfl, rfl⟩)
        go_round
        case rel => exact ⟨k + 1, _, KM1.out, rfl, by go_num, N2.out⟩
        case measure => have h9 := KM1.out; simp [intOf]; omega
      · have N2 := hide (show (ms.take (k + 1)).foldl (sumS r) 0 = s from by rw [SU.out]; unfold sumS; rw [if_neg hr])
        go_wp2_with fail
        go_round
        case rel => exact ⟨k + 1, s, KM1.out, rfl, by go_num, N2.out⟩
        case measure => have h9 := KM1.out; simp [intOf]; omega
    · obtain rfl : k = n := by omega
      have G2 := hide (show G = s from by
        have h1 := hZ.out
        rw [List.take_of_length_le (by rw [HL.out]; omega)] at h1
        rw [HG.out]; exact h1)
      go_wp2_with fail
      go_ret
      exact ⟨ret_int G2.out.symm, rfl⟩
end Go.Proofs.YtcmgkjjkhfcedaaGreat
/-
  The document's work and response (coxswainref16); the law's parts turned into the document's.
-/
namespace Go.Proofs.YtcmgkjjkhfcedaaGreat
open Go.ChangeShapes Go.WideShapes Go.ChangeAt Go.RowKit
set_option linter.unusedVariables false
theorem quiet_rt {P : Program} {f : FuncId} {args : Array Value} {w : World} {n : Nat} {v : Value} (h : Calls P f args (w.drewN n) fun e w' => e = .returned v ∧ w.drewN n = w') : Calls P f args (w.drewN n) fun e w' => e = .returned v ∧ ∃ m, w' = w.drewN m :=
  h.mono fun e w' hh => ⟨hh.1, n, hh.2.symm⟩
set_option maxHeartbeats 4000000 in
theorem rwork_any (w : World) (span : Int) (a : Option Addr) (n c : Nat) (ps : List Pt) (hr : Reads 2 ptVals w a n ps) (hn : n ≤ 1000) :
    Calls Tryz.prog 83 #[.int .i64 span, .slice a n c] w fun e w' => e = .returned (.int .i64 (workP span ps)) ∧ ∃ m, w' = w.drewN m := by
  have HR := hide (show ∀ m, Reads 2 ptVals (w.drewN m) a n ps from fun m => hr.below (below_drewN (Below.refl _ w) m))
  have HL := hide hr.1
  have HN := hide hn
  have n2 : (n : Int) ≤ 1000 := by omega
  have UP := hide (fun (W : World) (b : Int) => rup_any span b W)
  have MU := hide (fun (W : World) (a b : Int) => rmul_any a b W)
  have AD := hide (fun (W : World) (a b : Int) => radd_any a b W)
  clear hr hn
  go_enter Tryz.func83, Tryz.ntmps83
  go_wp2_with fail
  go_loopw [5, 6] (fun sv iv wr => ∃ i m : Nat, i ≤ n ∧ iv = .int .i64 (i : Int) ∧ sv = .int .i64 (workP span (ps.take i)) ∧ wr = w.drewN m) (fun _ iv _ => n - (intOf iv).toNat)
  case atStart => exact ⟨0, 0, Nat.zero_le _, rfl, rfl, rfl⟩
  case round =>
    obtain ⟨i, m, hi, rfl, rfl, rfl⟩ := hrel
    by_cases hlt : i < n
    · have i0 : (0 : Int) ≤ (i : Int) := by omega
      have i1 : (i : Int) < (n : Int) := by omega
      obtain ⟨pb, po, rfl, y0, y1⟩ := reads_pt (HR.out m) hlt
      have NX := hide (show workP span (ps.take (i + 1)) = cl (cl (workP span (ps.take i)) + cl (mul (up span (ps.getD i ptD).per) (ps.getD i ptD).cost)) from by
        rw [take_pt (by rw [HL.out]; exact hlt), ← workP_step]; rfl)
      obtain ⟨x, hx⟩ : ∃ x, x = ps.getD i ptD := ⟨_, rfl⟩
      rw [← hx] at y0 y1 NX
      obtain ⟨s, hs⟩ : ∃ s, s = workP span (ps.take i) := ⟨_, rfl⟩
      rw [← hs] at NX ⊢
      obtain ⟨W1, hW1⟩ : ∃ W1, W1 = w.drewN m := ⟨_, rfl⟩
      rw [← hW1] at y0 y1 ⊢
      have HW := hide hW1
      clear hx hs hW1
      go_upto_region 5 with fail
      go_quiet ((first
        | (go_at_call 100; exact quiet_rt (UP.out _ _))
        | (go_at_call 99; exact quiet_rt (MU.out _ _ _))
        | (go_at_call 72; exact quiet_rt (AD.out _ _ _))))
      go_wp2_with fail
      go_roundw
      case rel => exact ⟨i + 1, _, by omega, by go_num, by rw [NX.out], by rw [HW.out]; exact World.drewN_drewN w m _⟩
      case measure => simp [intOf]; omega
    · obtain rfl : i = n := by omega
      go_wp2_with fail
      go_ret
      exact ⟨ret_int (by rw [List.take_of_length_le (by rw [HL.out]; exact Nat.le_refl _)]), m, rfl⟩
/-- What a response is told as. -/
def RespIs (own block : Int) (ps : List Pt) (most : Int) (v : Value) : Prop := ∃ r ok, v = .tuple #[.int .i64 r, .bool ok] ∧ IsResp own block ps most r ok
set_option maxHeartbeats 4000000 in
theorem rresp_any (w : World) (own block : Int) (a : Option Addr) (n c : Nat) (ps : List Pt) (most : Int) (hr : Reads 2 ptVals w a n ps) (hn : n ≤ 1000) :
    Calls Tryz.prog 54 #[.int .i64 own, .int .i64 block, .slice a n c, .int .i64 most] w fun e w' => ∃ v, e = .returned v ∧ RespIs own block ps most v ∧ ∃ m, w' = w.drewN m := by
  have WK := hide (fun (m : Nat) (s : Int) => rwork_any (w.drewN m) s a n c ps (hr.below (below_drewN (Below.refl _ w) m)) hn)
  have CL := hide (fun (W : World) => rclip_any most W)
  have AD := hide (fun (W : World) (a b : Int) => radd_any a b W)
  clear hr hn
  obtain ⟨L, hL⟩ : ∃ L, L = cl most := ⟨_, rfl⟩
  have L0 : 0 ≤ L := by rw [hL]; exact cl_lo _
  have HL := hide hL
  rw [← hL] at CL
  clear hL
  go_enter Tryz.func54, Tryz.ntmps54
  go_wp2_with fail
  go_loopw [10] (fun iv wr => ∃ (i : Nat) (m : Nat), 1 ≤ i ∧ i ≤ 4097 ∧ iv = .int .i64 (i : Int) ∧ wr = w.drewN m ∧ Hid (∀ s : Int, 1 ≤ s → s < (i : Int) → s < needP own block ps s)) (fun iv _ => 4097 - (intOf iv).toNat)
  case atStart => exact ⟨1, 0, by omega, by omega, rfl, rfl, fun s h1 h2 => by omega⟩
  case round =>
    obtain ⟨i, m, h1, h2, rfl, rfl, hZ⟩ := hrel
    by_cases c1 : (i : Int) ≤ L
    · by_cases c2 : (i : Int) ≤ 4096
      · obtain ⟨u, hu⟩ : ∃ u, u = workP (i : Int) ps := ⟨_, rfl⟩
        obtain ⟨v, hv⟩ : ∃ v, v = cl (cl (cl (cl own + cl block)) + cl u) := ⟨_, rfl⟩
        have NV := hide (show v = needP own block ps i from by rw [hv, hu]; unfold needP; rw [sum_three, cl_cl])
        have AD2 := hide (fun (W : World) => (by rw [hv]; exact radd_any (cl (cl own + cl block)) u W : Calls Tryz.prog 72 #[.int .i64 (cl (cl own + cl block)), .int .i64 u] W fun e w' => e = .returned (.int .i64 v) ∧ W = w'))
        have AD1 := hide (fun (W : World) => radd_any own block W)
        have WI := hide (fun m => WK.out m (i : Int))
        rw [← hu] at WI
        obtain ⟨t, ht⟩ : ∃ t, t = cl (cl own + cl block) := ⟨_, rfl⟩
        rw [← ht] at AD1 AD2
        have i2 : (i : Int) ≤ 5000 := by omega
        clear hu hv ht AD WK
        by_cases c3 : v ≤ (i : Int)
        · have FIN := hide (show IsResp own block ps most i true from .inl ⟨rfl, by omega, by rw [← HL.out]; exact c1, c2, by rw [← NV.out]; exact c3, fun s s1 s2 => by have := hZ.out s s1 s2; omega⟩)
          go_wp2_with (first
            | (go_at_call 82; refine (CL.out _).mono ?_; rintro e w' ⟨rfl, rfl⟩)
            | (go_at_call 72; refine (AD1.out _).mono ?_; rintro e w' ⟨rfl, rfl⟩; clear AD1)
            | (go_at_call 83; refine (WI.out _).mono ?_; rintro e w' ⟨rfl, m2, hw2⟩; have HW2 := hide hw2; clear hw2)
            | (go_at_call 72; refine (AD2.out _).mono ?_; rintro e w' ⟨rfl, rfl⟩))
          exact bodyPost_ret (v := .tuple #[.int .i64 (i : Int), .bool true]) (by simp [results, Tryz.results54, go_sem]) rfl ⟨_, rfl, ⟨_, _, rfl, FIN.out⟩, _, by rw [HW2.out]; exact World.drewN_drewN w m m2⟩
        · have NX := hide (show ∀ s : Int, 1 ≤ s → s < ((i + 1 : Nat) : Int) → s < needP own block ps s from fun s s1 s2 => by
            by_cases e : s = (i : Int)
            · rw [e, ← NV.out]; omega
            · exact hZ.out s s1 (by omega))
          go_wp2_with (first
            | (go_at_call 82; refine (CL.out _).mono ?_; rintro e w' ⟨rfl, rfl⟩)
            | (go_at_call 72; refine (AD1.out _).mono ?_; rintro e w' ⟨rfl, rfl⟩; clear AD1)
            | (go_at_call 83; refine (WI.out _).mono ?_; rintro e w' ⟨rfl, m2, hw2⟩; have HW2 := hide hw2; clear hw2)
            | (go_at_call 72; refine (AD2.out _).mono ?_; rintro e w' ⟨rfl, rfl⟩))
          go_roundw
          case rel => exact ⟨i + 1, _, by omega, by omega, by go_num, by rw [HW2.out]; exact World.drewN_drewN w m m2, NX.out⟩
          case measure => simp [intOf]; omega
      · have FIN := hide (show IsResp own block ps most 0 false from .inr ⟨rfl, rfl, fun s s1 _ s3 => by have := hZ.out s s1 (by omega); omega⟩)
        go_wp2_with (go_at_call 82; refine (CL.out _).mono ?_; rintro e w' ⟨rfl, rfl⟩)
        exact bodyPost_ret (v := .tuple #[.int .i64 0, .bool false]) (by simp [results, Tryz.results54, go_sem]) rfl ⟨_, rfl, ⟨_, _, rfl, FIN.out⟩, _, rfl⟩
    · have FIN := hide (show IsResp own block ps most 0 false from .inr ⟨rfl, rfl, fun s s1 s2 _ => by have := hZ.out s s1 (by have := HL.out; omega); omega⟩)
      go_wp2_with (go_at_call 82; refine (CL.out _).mono ?_; rintro e w' ⟨rfl, rfl⟩)
      exact bodyPost_ret (v := .tuple #[.int .i64 0, .bool false]) (by simp [results, Tryz.results54, go_sem]) rfl ⟨_, rfl, ⟨_, _, rfl, FIN.out⟩, _, rfl⟩
theorem rpart_info : (Tryz.prog.info? 37).map (fun i => (i.zero, i.size, i.bytes)) = some (some (.agg #[.int .i64 0, .int .i64 0]), 2, 16) := by kernel_rfl
theorem own_slicePt {w : World} {B : Nat} {e : TypeId} {z n : Nat} {v : Value} {xs : List Value} (h : w.ownsRow B e z v n xs) : ∃ a c, v = .slice a n c := by
  rcases h.2 with ⟨rfl, rfl⟩ | ⟨g, cap, cur, rfl, _⟩
  · exact ⟨none, 0, rfl⟩
  · exact ⟨_, _, rfl⟩
end Go.Proofs.YtcmgkjjkhfcedaaGreat
/-
  The document's own admit (coxswainref18): in, Good, MayTask (written by tools/gen/adrefa.py).
-/
namespace Go.Proofs.YtcmgkjjkhfcedaaGreat
open Go.ChangeShapes Go.WideShapes Go.ChangeAt Go.RowKit
set_option linter.unusedVariables false
set_option linter.unusedSimpArgs false
theorem rin_any (n lo hi : Int) (w : World) : Calls Tryz.prog 29 #[.int .i64 n, .int .i64 lo, .int .i64 hi] w fun e w' => e = .returned (.bool (decide (lo ≤ n ∧ n ≤ hi))) ∧ w = w' := by
  by_cases h1 : lo ≤ n
  · by_cases h2 : n ≤ hi
    · rw [decide_eq_true ⟨h1, h2⟩]
      go_enter Tryz.func29, Tryz.ntmps29
      go_wp2_with fail
      go_ret
      exact ⟨rfl, rfl⟩
    · rw [decide_eq_false (fun e => h2 e.2)]
      go_enter Tryz.func29, Tryz.ntmps29
      go_wp2_with fail
      go_ret
      exact ⟨rfl, rfl⟩
  · rw [decide_eq_false (fun e => h1 e.1)]
    go_enter Tryz.func29, Tryz.ntmps29
    go_wp2_with fail
    go_ret
    exact ⟨rfl, rfl⟩
theorem rin_is (n lo hi : Int) (b : Bool) (h : b = decide (lo ≤ n ∧ n ≤ hi)) (w : World) : Calls Tryz.prog 29 #[.int .i64 n, .int .i64 lo, .int .i64 hi] w fun e w' => e = .returned (.bool b) ∧ w = w' := by
  rw [h]; exact rin_any n lo hi w
set_option maxRecDepth 10000 in
set_option maxHeartbeats 4000000 in
theorem rmaytask_any (w : World) (t : Tk) (ht : TkFit w t) (hun : t.un ≤ 1000) (m l : Nat) (hm : m ≤ 1000) (hl : l ≤ 1000) :
    Calls Tryz.prog 30 #[.agg (tkVals t).toArray, .int .i64 (m : Int), .int .i64 (l : Int)] w fun e w' => e = .returned (.bool (mayT m l (tpOf t))) ∧ Below w.heap.size w w' := by
  obtain ⟨cls, lev, per, dl, bud, line, ua, un, uc, us, qa, qn, qc, qs⟩ := t
  show Calls Tryz.prog 30 #[.agg #[.int .i64 cls, .int .i64 lev, .int .i64 per, .int .i64 dl, .int .i64 bud, .int .i64 line, .slice ua un uc, .slice qa qn qc], .int .i64 (m : Int), .int .i64 (l : Int)] w _
  obtain ⟨b1, h1⟩ : ∃ b, b = decide ((cls = 2 ∧ 0 ≤ lev ∧ lev ≤ 63) ∨ (cls = 1 ∧ lev = 0)) := ⟨_, rfl⟩
  obtain ⟨b2, h2⟩ : ∃ b, b = decide (1 ≤ per ∧ per ≤ 1000000) := ⟨_, rfl⟩
  obtain ⟨b3, h3⟩ : ∃ b, b = decide (1 ≤ dl ∧ dl ≤ per) := ⟨_, rfl⟩
  obtain ⟨b4, h4⟩ : ∃ b, b = decide (1 ≤ bud ∧ bud ≤ dl) := ⟨_, rfl⟩
  obtain ⟨b5, h5⟩ : ∃ b, b = decide (-1 ≤ line ∧ line ≤ (l : Int) - 1) := ⟨_, rfl⟩
  obtain ⟨L1, hL1⟩ : ∃ L1, L1 = (l : Int) - 1 := ⟨_, rfl⟩
  obtain ⟨M1, hM1⟩ : ∃ M1, M1 = (m : Int) - 1 := ⟨_, rfl⟩
  have wl : IntKind.i64.wrap ((l : Int) - 1) = L1 := by rw [hL1]; exact IntWalk.i64_in _ (by omega)
  have wm : IntKind.i64.wrap ((m : Int) - 1) = M1 := by rw [hM1]; exact IntWalk.i64_in _ (by omega)
  rw [← hL1] at h5
  obtain ⟨R, hR⟩ : ∃ R, R = mayT m l (tpOf ⟨cls, lev, per, dl, bud, line, ua, un, uc, us, qa, qn, qc, qs⟩) := ⟨_, rfl⟩
  have HRR := hide (show R = (b1 && b2 && b3 && b4 && b5 && decide (us.length ≤ 6) && decide (qn ≤ 40) && us.all (isMu m)) from by
    rw [hR, h1, h2, h3, h4, h5, hL1]
    unfold mayT tpOf
    dsimp only
    have e : decide (-1 ≤ line ∧ line ≤ (l : Int) - 1) = decide (-1 ≤ line ∧ line < (l : Int)) := by
      by_cases h : -1 ≤ line ∧ line < (l : Int)
      · rw [decide_eq_true h, decide_eq_true (by omega)]
      · rw [decide_eq_false h, decide_eq_false (by omega)]
    rw [e])
  rw [← hR]
  have I2 := hide (fun W => rin_is per 1 1000000 b2 h2 W)
  have I3 := hide (fun W => rin_is dl 1 per b3 h3 W)
  have I4 := hide (fun W => rin_is bud 1 dl b4 h4 W)
  have I5 := hide (fun W => rin_is line (-1) L1 b5 h5 W)
  have I1 := hide (fun (W : World) => rin_any lev 0 63 W)
  have H1 := hide h1
  have HM1 := hide hM1
  have UR := hide ht.uses.reads
  have UL : us.length = un := UR.out.1
  have HUL := hide UL
  obtain ⟨W0, hW⟩ : ∃ W0, W0 = w.alloc (.cells #[.int .i64 cls, .int .i64 lev, .int .i64 per, .int .i64 dl, .int .i64 bud, .int .i64 line, .slice ua un uc, .slice qa qn qc] 47) := ⟨_, rfl⟩
  have hb := heap_alloc_new w (.cells #[.int .i64 cls, .int .i64 lev, .int .i64 per, .int .i64 dl, .int .i64 bud, .int .i64 line, .slice ua un uc, .slice qa qn qc] 47)
  have B0 := hide ((Below.refl w.heap.size w).alloc (Nat.le_refl _) (.cells #[.int .i64 cls, .int .i64 lev, .int .i64 per, .int .i64 dl, .int .i64 bud, .int .i64 line, .slice ua un uc, .slice qa qn qc] 47))
  rw [← hW] at hb B0
  have k0 : W0.cell? ⟨w.heap.size, 0, none⟩ = some (.int .i64 cls) := by rw [cell_of_row _ _ _ _ _ _ hb]; rfl
  have k1 : W0.cell? ⟨w.heap.size, 1, none⟩ = some (.int .i64 lev) := by rw [cell_of_row _ _ _ _ _ _ hb]; rfl
  have k2 : W0.cell? ⟨w.heap.size, 2, none⟩ = some (.int .i64 per) := by rw [cell_of_row _ _ _ _ _ _ hb]; rfl
  have k3 : W0.cell? ⟨w.heap.size, 3, none⟩ = some (.int .i64 dl) := by rw [cell_of_row _ _ _ _ _ _ hb]; rfl
  have k4 : W0.cell? ⟨w.heap.size, 4, none⟩ = some (.int .i64 bud) := by rw [cell_of_row _ _ _ _ _ _ hb]; rfl
  have k5 : W0.cell? ⟨w.heap.size, 5, none⟩ = some (.int .i64 line) := by rw [cell_of_row _ _ _ _ _ _ hb]; rfl
  have k6 : W0.cell? ⟨w.heap.size, 6, none⟩ = some (.slice ua un uc) := by rw [cell_of_row _ _ _ _ _ _ hb]; rfl
  have k7 : W0.cell? ⟨w.heap.size, 7, none⟩ = some (.slice qa qn qc) := by rw [cell_of_row _ _ _ _ _ _ hb]; rfl
  have HW := hide hW
  clear h1 h2 h3 h4 h5 hL1 hM1 hR ht hb hW UL
  go_enter Tryz.func30, Tryz.ntmps30
  go_upto_region 1 with fail
  rw [← HW.out]
  go_cut [7] (fun v wx => v = .bool b1 ∧ W0 = wx)
  case first =>
    by_cases e2 : cls = 2
    · have f2 : (cls = 2) = True := eq_true e2
      by_cases e3 : 0 ≤ lev ∧ lev ≤ 63
      · have J1 := hide (fun (W : World) => rin_is lev 0 63 true (by rw [decide_eq_true e3]) W)
        have V1 := hide (show b1 = true from by rw [H1.out]; exact decide_eq_true (.inl ⟨e2, e3⟩))
        clear e2
        go_wp2_with (go_at_call 29; refine (J1.out _).mono ?_; rintro e w' ⟨rfl, rfl⟩)
        go_meet
        exact ⟨by rw [V1.out], rfl⟩
      · have J1 := hide (fun (W : World) => rin_is lev 0 63 false (by rw [decide_eq_false e3]) W)
        have V1 := hide (show b1 = false from by rw [H1.out]; exact decide_eq_false (by rintro (h | h); exact e3 h.2; omega))
        have n3 : ¬ cls = 1 := by omega
        clear e2
        go_wp2_with (go_at_call 29; refine (J1.out _).mono ?_; rintro e w' ⟨rfl, rfl⟩)
        go_meet
        exact ⟨by rw [V1.out], rfl⟩
    · by_cases e3 : cls = 1
      · have f3 : (cls = 1) = True := eq_true e3
        by_cases e4 : lev = 0
        · have f4 : (lev = 0) = True := eq_true e4
          have V1 := hide (show b1 = true from by rw [H1.out]; exact decide_eq_true (.inr ⟨e3, e4⟩))
          have E3 := hide e3
          have E4 := hide e4
          clear e3 e4
          go_wp2_with fail
          go_meet
          exact ⟨by rw [V1.out]; simp [E3.out, E4.out], rfl⟩
        · have V1 := hide (show b1 = false from by rw [H1.out]; exact decide_eq_false (by rintro (h | h); exact e2 h.1; exact e4 h.2))
          have E4 := hide e4
          clear e3
          go_wp2_with fail
          go_meet
          exact ⟨by rw [V1.out]; simp [E4.out], rfl⟩
      · have V1 := hide (show b1 = false from by rw [H1.out]; exact decide_eq_false (by rintro (h | h); exact e2 h.1; exact e3 h.1))
        go_wp2_with fail
        go_meet
        exact ⟨by rw [V1.out], rfl⟩
  case rest =>
    obtain ⟨rfl, rfl⟩ := hcut
    clear H1 I1
    cases b1 with
    | false =>
      go_wp2_with (first | (go_at_call 29; with_reducible refine (I2.out _).mono ?_; rintro e w' ⟨rfl, rfl⟩) | (go_at_call 29; with_reducible refine (I3.out _).mono ?_; rintro e w' ⟨rfl, rfl⟩) | (go_at_call 29; with_reducible refine (I4.out _).mono ?_; rintro e w' ⟨rfl, rfl⟩) | (go_at_call 29; with_reducible refine (I5.out _).mono ?_; rintro e w' ⟨rfl, rfl⟩))
      go_ret
      exact ⟨by rw [HRR.out]; simp, B0.out⟩
    | true =>
      cases b2 with
      | false =>
        go_wp2_with (first | (go_at_call 29; with_reducible refine (I2.out _).mono ?_; rintro e w' ⟨rfl, rfl⟩) | (go_at_call 29; with_reducible refine (I3.out _).mono ?_; rintro e w' ⟨rfl, rfl⟩) | (go_at_call 29; with_reducible refine (I4.out _).mono ?_; rintro e w' ⟨rfl, rfl⟩) | (go_at_call 29; with_reducible refine (I5.out _).mono ?_; rintro e w' ⟨rfl, rfl⟩))
        go_ret
        exact ⟨by rw [HRR.out]; simp, B0.out⟩
      | true =>
        cases b3 with
        | false =>
          go_wp2_with (first | (go_at_call 29; with_reducible refine (I2.out _).mono ?_; rintro e w' ⟨rfl, rfl⟩) | (go_at_call 29; with_reducible refine (I3.out _).mono ?_; rintro e w' ⟨rfl, rfl⟩) | (go_at_call 29; with_reducible refine (I4.out _).mono ?_; rintro e w' ⟨rfl, rfl⟩) | (go_at_call 29; with_reducible refine (I5.out _).mono ?_; rintro e w' ⟨rfl, rfl⟩))
          go_ret
          exact ⟨by rw [HRR.out]; simp, B0.out⟩
        | true =>
          cases b4 with
          | false =>
            go_wp2_with (first | (go_at_call 29; with_reducible refine (I2.out _).mono ?_; rintro e w' ⟨rfl, rfl⟩) | (go_at_call 29; with_reducible refine (I3.out _).mono ?_; rintro e w' ⟨rfl, rfl⟩) | (go_at_call 29; with_reducible refine (I4.out _).mono ?_; rintro e w' ⟨rfl, rfl⟩) | (go_at_call 29; with_reducible refine (I5.out _).mono ?_; rintro e w' ⟨rfl, rfl⟩))
            go_ret
            exact ⟨by rw [HRR.out]; simp, B0.out⟩
          | true =>
            cases b5 with
            | false =>
              go_wp2_with (first | (go_at_call 29; with_reducible refine (I2.out _).mono ?_; rintro e w' ⟨rfl, rfl⟩) | (go_at_call 29; with_reducible refine (I3.out _).mono ?_; rintro e w' ⟨rfl, rfl⟩) | (go_at_call 29; with_reducible refine (I4.out _).mono ?_; rintro e w' ⟨rfl, rfl⟩) | (go_at_call 29; with_reducible refine (I5.out _).mono ?_; rintro e w' ⟨rfl, rfl⟩))
              go_ret
              exact ⟨by rw [HRR.out]; simp, B0.out⟩
            | true =>
              by_cases h6 : un ≤ 6
              · have q6 : ¬ (6 : Int) < (un : Int) := by omega
                by_cases h7 : qn ≤ 40
                · have q7 : ¬ (40 : Int) < (qn : Int) := by omega
                  have HA := hide (show R = us.all (isMu m) from by rw [HRR.out, HUL.out, decide_eq_true h6, decide_eq_true h7]; simp)
                  have hu2 : un ≤ 1000 := hun
                  go_wp2_with (first | (go_at_call 29; with_reducible refine (I2.out _).mono ?_; rintro e w' ⟨rfl, rfl⟩) | (go_at_call 29; with_reducible refine (I3.out _).mono ?_; rintro e w' ⟨rfl, rfl⟩) | (go_at_call 29; with_reducible refine (I4.out _).mono ?_; rintro e w' ⟨rfl, rfl⟩) | (go_at_call 29; with_reducible refine (I5.out _).mono ?_; rintro e w' ⟨rfl, rfl⟩))
                  go_loopw [8] (fun iv wr => ∃ i : Nat, i ≤ un ∧ iv = .int .i64 (i : Int) ∧ Hid (∀ j u, j < i → us[j]? = some u → isMu m u = true) ∧ W0 = wr) (fun iv _ => un - (intOf iv).toNat)
                  case atStart => exact ⟨0, Nat.zero_le _, rfl, (fun j u hj => absurd hj (by omega)), rfl⟩
                  case round =>
                    obtain ⟨i, hi, rfl, hZ, rfl⟩ := hrel
                    by_cases hlt : i < un
                    · have i0 : (0 : Int) ≤ (i : Int) := by omega
                      have i1 : (i : Int) < (un : Int) := by omega
                      obtain ⟨u, b, off, hx, rfl, hcu⟩ := UR.out.at_ hlt
                      have cu : W0.cell? ⟨b, off + i, none⟩ = some (.int .i64 u) := by
                        have h := hcu 0 _ rfl
                        rw [Nat.mul_one, Nat.add_zero] at h
                        exact (B0.out.cell (lt_of_cell? h)).trans h
                      have HX := hide hx
                      obtain ⟨bu, hbu⟩ : ∃ b, b = decide (0 ≤ u ∧ u ≤ M1) := ⟨_, rfl⟩
                      have IU := hide (fun W => rin_is u 0 M1 bu hbu W)
                      have EU := hide (show isMu m u = bu from by
                        rw [hbu, HM1.out]
                        unfold isMu
                        rw [Bool.eq_iff_iff]
                        simp only [decide_eq_true_eq]
                        omega)
                      clear hcu hx hbu
                      cases bu with
                      | false =>
                        have NO := hide (show us.all (isMu m) = false from by
                          cases e : us.all (isMu m)
                          · rfl
                          · have := List.all_eq_true.1 e u (List.mem_of_getElem? HX.out)
                            rw [EU.out] at this; cases this)
                        go_wp2_with (go_at_call 29; refine (IU.out _).mono ?_; rintro e w' ⟨rfl, rfl⟩)
                        go_ret
                        exact ⟨by rw [HA.out, NO.out]; rfl, B0.out⟩
                      | true =>
                        go_wp2_with (go_at_call 29; refine (IU.out _).mono ?_; rintro e w' ⟨rfl, rfl⟩)
                        go_roundw
                        case rel =>
                          refine ⟨i + 1, by omega, by go_num, fun j x hj hx => ?_, trivial⟩
                          by_cases hji : j < i
                          · exact hZ.out j x hji hx
                          · obtain rfl : j = i := by omega
                            rw [HX.out] at hx; injection hx with hx; subst hx; exact EU.out
                        case measure => simp [intOf]; omega
                    · obtain rfl : un = i := by omega
                      have YES := hide (show us.all (isMu m) = true from List.all_eq_true.2 fun x hx => by
                        obtain ⟨j, hj⟩ := List.getElem?_of_mem hx
                        exact hZ.out j x (by have := (List.getElem?_eq_some_iff.1 hj).1; have := HUL.out; omega) hj)
                      go_wp2_with fail
                      go_ret
                      exact ⟨by rw [HA.out, YES.out]; rfl, B0.out⟩
                · have q7 : (40 : Int) < (qn : Int) := by omega
                  go_wp2_with (first | (go_at_call 29; with_reducible refine (I2.out _).mono ?_; rintro e w' ⟨rfl, rfl⟩) | (go_at_call 29; with_reducible refine (I3.out _).mono ?_; rintro e w' ⟨rfl, rfl⟩) | (go_at_call 29; with_reducible refine (I4.out _).mono ?_; rintro e w' ⟨rfl, rfl⟩) | (go_at_call 29; with_reducible refine (I5.out _).mono ?_; rintro e w' ⟨rfl, rfl⟩))
                  go_ret
                  exact ⟨by rw [HRR.out, decide_eq_false h7]; simp, B0.out⟩
              · have q6 : (6 : Int) < (un : Int) := by omega
                go_wp2_with (first | (go_at_call 29; with_reducible refine (I2.out _).mono ?_; rintro e w' ⟨rfl, rfl⟩) | (go_at_call 29; with_reducible refine (I3.out _).mono ?_; rintro e w' ⟨rfl, rfl⟩) | (go_at_call 29; with_reducible refine (I4.out _).mono ?_; rintro e w' ⟨rfl, rfl⟩) | (go_at_call 29; with_reducible refine (I5.out _).mono ?_; rintro e w' ⟨rfl, rfl⟩))
                go_ret
                exact ⟨by rw [HRR.out, HUL.out, decide_eq_false h6]; simp, B0.out⟩
end Go.Proofs.YtcmgkjjkhfcedaaGreat
