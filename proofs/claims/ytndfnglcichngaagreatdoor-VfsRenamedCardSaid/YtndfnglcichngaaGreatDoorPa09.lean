/-
  Several texts as one: FrOnce RfMem RfOpsA RfNew.
-/
import Derived.Deep.RegionHeld3
import Derived.Deep.CutBlock
import Derived.Test.YtndfnglcichngaaGreatDoorActsPb
import Derived.Test.YtndfnglcichngaaGreatDoorPa04
import Derived.Deep.RegionLaw
import Derived.Deep.QuietTactic
import Derived.BigQuiet
namespace Go.Proofs.YtndfnglcichngaaGreatDoor
open Go.ChangeShapes Go.WideShapes Go.ChangeAt Go.RowKit
set_option linter.unusedVariables false
/-- The row of marks: which are taken. -/
def Marks (w : World) (T : Nat) (tk : Nat → Bool) : Prop := ∃ (cur : Array Value) (t : TypeId), w.heap[T]? = some (.cells cur t (0, 0)) ∧ cur.size = 8 ∧ ∀ j, j < 8 → cur[j]? = some (.bool (tk j))
theorem Marks.lt {w : World} {T : Nat} {tk : Nat → Bool} (h : Marks w T tk) : T < w.heap.size := by obtain ⟨cur, t, e, _⟩ := h; exact lt_of_heap e
theorem Marks.cell {w : World} {T : Nat} {tk : Nat → Bool} (h : Marks w T tk) (j : Nat) (hj : j < 8) : w.cell? ⟨T, j, none⟩ = some (.bool (tk j)) := by
  obtain ⟨cur, t, e, _, hc⟩ := h
  rw [cell_of_row _ _ _ _ _ _ e]; exact hc j hj
theorem Marks.frozen {w : World} {T : Nat} {tk : Nat → Bool} (h : Marks w T tk) (j : Nat) : w.frozen? ⟨T, j, none⟩ = false := by
  obtain ⟨cur, t, e, _⟩ := h
  exact frozen_of_row _ _ _ _ _ e
theorem Marks.touch {S : Nat → Prop} {w w' : World} {T : Nat} {tk : Nat → Bool} (h : Marks w T tk) (t : Touch S w w') (d : ¬ S T) : Marks w' T tk := by
  have hl := h.lt
  obtain ⟨cur, t', e, hr⟩ := h
  exact ⟨cur, t', (t.block T hl d).trans e, hr⟩
theorem Marks.set {w : World} {T : Nat} {tk : Nat → Bool} (h : Marks w T tk) (k : Nat) (hk : k < 8) (v : Bool) : Marks (w.setCell ⟨T, k, none⟩ (.bool v)) T (upd tk k v) := by
  obtain ⟨cur, t, e, hs, hc⟩ := h
  refine ⟨_, t, heap_setCell_same w T k cur t _ e, by simpa using hs, fun j hj => ?_⟩
  by_cases hjk : j = k
  · subst hjk; rw [upd_same, Array.getElem?_setIfInBounds_self_of_lt (by omega)]
  · rw [upd_other _ _ hjk, Array.getElem?_setIfInBounds_ne (by omega)]; exact hc j hj
theorem Marks.same {w : World} {T : Nat} {tk tk' : Nat → Bool} (h : Marks w T tk) (e : ∀ j, j < 8 → tk' j = tk j) : Marks w T tk' := by
  obtain ⟨cur, t, e1, hs, hc⟩ := h
  exact ⟨cur, t, e1, hs, fun j hj => by rw [e j hj]; exact hc j hj⟩
theorem write_any {w : World} {H A Q : Nat} {s : St} (f : Fr w H A Q s) (k off : Nat) (hk : k < s.n) (ho : off < 64) (a : Option Addr) (m c : Nat) (ys : List Int) (hb : Ints .u8 w a m ys) (hy : Bytes ys) :
    Calls Tryz.prog 69 #[.pointer (some ⟨H, 0, none⟩), .int .i64 (k : Nat), .int .i64 (off : Nat), .slice a m c] w fun e w' => ∃ r, e = .returned (.int .i64 r) ∧ ∃ s', Fr w' H A Q s' ∧ s'.n = s.n ∧ s'.tk = s.tk ∧ s'.fr = s.fr ∧ Touch (fun i => i = A) w w' := by
  cases hf : fit (off : Int) (m : Int) with
  | false =>
    have hc := code_arg (s := s) (i := (k : Int)) (off := (off : Int)) (n := (m : Int)) (fun e => by rw [hf] at e; cases e.2.2)
    refine (write_err f (k : Int) (off : Int) (wf_nat (by omega)) a m c (by rw [hc]; decide)).mono ?_
    rintro e w' ⟨rfl, rfl⟩
    exact ⟨_, rfl, s, f, rfl, rfl, rfl, Touch.refl _ _⟩
  | true =>
    cases ht : s.tk k with
    | false =>
      have hc := code_none hk hf ht
      refine (write_err f (k : Int) (off : Int) (wf_nat (by omega)) a m c (by rw [hc]; decide)).mono ?_
      rintro e w' ⟨rfl, rfl⟩
      exact ⟨_, rfl, s, f, rfl, rfl, rfl, Touch.refl _ _⟩
    | true =>
      have hm : off + m ≤ 64 := by simp [fit] at hf; omega
      refine (write_ok f k off hk ht a m c ys hb hy hm).mono ?_
      rintro e w' ⟨rfl, f2, t2⟩
      exact ⟨_, rfl, _, f2, rfl, rfl, rfl, t2⟩
/-- What is held at each round's beginning. -/
structure Onc (w wr : World) (H A Q T : Nat) (s : St) : Prop where
  fr : Fr wr H A Q s
  n8 : s.n = 8
  marks : Marks wr T s.tk
  bel : Below w.heap.size w wr
  blk : ∀ i, Blk H A Q i → w.heap.size ≤ i
  tT : w.heap.size ≤ T
  nT : ¬ Blk H A Q T
theorem Fr.drewN {w : World} {H A Q : Nat} {s : St} (h : Fr w H A Q s) (n : Nat) : Fr (w.drewN n) H A Q s := h.keep fun _ _ => rfl
theorem Onc.len {w wr : World} {H A Q T : Nat} {s : St} (h : Onc w wr H A Q T s) : s.fr.length ≤ 8 := by have := h.fr.good.len; rw [h.n8] at this; exact this
theorem Onc.turn {w wr w' : World} {H A Q T : Nat} {s s' : St} (h : Onc w wr H A Q T s) (f : Fr w' H A Q s') (e : s'.n = s.n) (t : Touch (Blk H A Q) wr w') (hm : Marks w' T s'.tk) : Onc w w' H A Q T s' :=
  ⟨f, by rw [e]; exact h.n8, hm, h.bel.trans (t.below h.bel.size h.blk), h.blk, h.tT, h.nT⟩
theorem Onc.below {w wr w' : World} {H A Q T : Nat} {s : St} (h : Onc w wr H A Q T s) (t : Below wr.heap.size wr w') : Onc w w' H A Q T s :=
  ⟨h.fr.below t, h.n8, h.marks.touch (S := fun _ => False) (Touch.of_below t) (fun e => e), h.bel.trans (t.mono h.bel.size), h.blk, h.tT, h.nT⟩
theorem Onc.set {w wr : World} {H A Q T : Nat} {s s' : St} (f : Fr wr H A Q s') (n8 : s'.n = 8) (hm : Marks wr T s.tk) (hb : Below w.heap.size w wr) (blk : ∀ i, Blk H A Q i → w.heap.size ≤ i) (tT : w.heap.size ≤ T) (nT : ¬ Blk H A Q T) (k : Nat) (hk : k < 8) (v : Bool) (e : ∀ j, j < 8 → s'.tk j = upd s.tk k v j) :
    Onc w (wr.setCell ⟨T, k, none⟩ (.bool v)) H A Q T s' := by
  have t : Touch (fun i => i = T) wr (wr.setCell ⟨T, k, none⟩ (.bool v)) := (Touch.refl (fun i => i = T) wr).setCell (p := ⟨T, k, none⟩) rfl _
  exact ⟨f.touch t (fun i hi e => nT (e ▸ hi)), n8, (hm.set k hk v).same e, hb.trans (t.below hb.size (fun i e => by rw [e]; exact tT)), blk, tT, nT⟩
def zero64 : Array Value := Array.replicate 64 (.int .u8 0)
theorem run_make64 (w : World) : (Instr.makeSlice 30 (.int .i64 64) (.int .i64 64)).run Tryz.prog w = .ok (.slice (some ⟨w.heap.size, 0, none⟩) 64 64) (w.alloc (.cells zero64 5)) := by
  obtain ⟨i0, hi0, hz0, hz1, hz2⟩ := info_parts u8_info
  have := run_make (P := Tryz.prog) w 30 5 i0 _ Tryz.underlying30 hi0 hz0 .i64 .i64 64 64 (by omega) (by omega) (by rw [hz2]; omega) (by omega)
  rw [hz1] at this
  have e : madeCells (Value.int .u8 0).cells ((64 : Int).toNat * 1) = zero64 := by kernel_rfl
  rw [e] at this
  exact this
theorem own_zero64 (w : World) : (w.alloc (.cells zero64 5)).ownsRow 0 5 1 (.slice (some ⟨w.heap.size, 0, none⟩) 64 64) 64 ((List.replicate 64 (0 : Int)).map (Value.int .u8)) := by
  refine own_of_full ?_ (by simp) (Nat.zero_le _) (by unfold maxLen; omega)
  rw [heap_alloc_new]
  have e : zero64 = ((List.replicate 64 (0 : Int)).map (Value.int .u8)).toArray := by rw [List.map_replicate, List.toArray_replicate]; rfl
  rw [e]
theorem part_zero {s : St} (g : Good s) {x : Nat} (hx : x < s.n) (ht : s.tk x = false) (l : List Nat) : (s.take l x).part x 0 64 = List.replicate 64 0 := by
  unfold St.part
  apply List.ext_getElem
  · simp
  · intro j h1 h2
    simp at h1
    simp only [List.getElem_map, List.getElem_range, List.getElem_replicate, Nat.zero_add]
    exact g.zero x j hx h1 ht
end Go.Proofs.YtndfnglcichngaaGreatDoor
namespace Go.Proofs.YtndfnglcichngaaGreatDoor
open Go.ChangeShapes Go.WideShapes Go.ChangeAt Go.RowKit
set_option linter.unusedVariables false
/-- An append as a step of a region that draws: the row is a slice, so is what comes of it. -/
theorem step_append_rows {P : Program} {w : World} {ops : Array Oper} {o : Oper} {a : Act} {K : Act → World → Prop} {Q : Exit → Act → World → Prop} {E : Prop} (hgd : o.guard = none) (s x : Operand) (t : TypeId)
    (ho : o.op = .call { callee := .builtin .append, args := #[s, x], argTypes := #[t, t] })
    (base : Nat) (e : TypeId) (i : TypeInfo) (z : Value) (size bytes : Nat) (ht : P.underlying t = some (.slice e)) (hi : P.info? e = some i) (hz : i.zero = some z)
    (hsize : i.size = size) (hby : i.bytes = bytes) (hzs : z.cells.size = size) (hsz : 0 < size)
    (v : Value) (n : Nat) (xs : List Value) (hs : a.eval s = v) (hown : w.ownsRow base e size v n xs)
    (ad : Addr) (m c : Nat) (news : List Value) (hx : a.eval x = .slice (some ad) m c) (hl : news.length = m * size) (hnews : ∀ j u, news[j]? = some u → w.cell? (ad.add j) = some u) (h1 : ∀ u ∈ news, u.oneCell' = true)
    (h63 : n + m ≤ maxLen) (hbytes : (n + m) * bytes ≤ 140737488355328) (hbase : base ≤ w.heap.size) (N : Nat) (hN : n + m = N)
    (h : ∀ A' c' w', w'.ownsRow base e size (.slice A' N c') N (xs ++ news) → w.grownBy w' v.ownBlock → ((Value.slice A' N c').ownBlock = v.ownBlock ∨ (Value.slice A' N c').ownBlock = some w.heap.size) → K (a.put o.dst (.slice A' N c')) w') :
    if Region.wanted o (yielded ops a.tmps) = true then Oper.wp P o a w K Q else E := by
  have hw : Region.wanted o (yielded ops a.tmps) = true := by simp [Region.wanted, hgd]
  rw [if_pos hw]
  subst hN
  obtain ⟨v', w', hr, h2, h3, _, h5⟩ := run_append_own_at (P := P) w base t o.type e i z size bytes ht hi hz hsize hby hzs hsz v n xs hown ad m c news hl hnews h1 h63 hbytes hbase
  obtain ⟨A', c', rfl⟩ : ∃ A' c', v' = .slice A' (n + m) c' := by
    rcases h2.2 with ⟨rfl, h0⟩ | ⟨g, cap, cur, rfl, _⟩
    · exact ⟨none, 0, by rw [h0]⟩
    · exact ⟨_, _, rfl⟩
  unfold Oper.wp execOp
  simp only [ho, resolve, invoke, builtin, Sem.run_bind, Sem.run_pure, Result.andThen_ok, List.map_toArray, List.map_cons, List.map_nil, hs, hx, hr]
  exact h A' c' w' h2 h3 h5
theorem own_sliceR {w : World} {B : Nat} {e : TypeId} {z n : Nat} {v : Value} {xs : List Value} (h : w.ownsRow B e z v n xs) : ∃ a c, v = .slice a n c ∧ (a = none → c = 0) ∧ n ≤ c ∧ c ≤ maxLen ∧ (∀ x, a = some x → x.off = 0 ∧ x.spot = none) := by
  rcases h.2 with ⟨rfl, rfl⟩ | ⟨g, cap, cur, rfl, _, _, h1, h2, _⟩
  · exact ⟨none, 0, rfl, fun _ => rfl, Nat.le_refl _, by unfold maxLen; omega, (fun x e => by cases e)⟩
  · exact ⟨_, _, rfl, (fun e => by cases e), h1, h2, (fun x e => by injection e with e; subst e; exact ⟨rfl, rfl⟩)⟩
/-- The document's three blocks. -/
def RS (R t b i : Nat) : Prop := i = R ∨ i = t ∨ i = b
/-- A block of its own that is none of those: neither the program's (P) nor the three. -/
def Far (P : Nat → Prop) (R t b g : Nat) : Prop := ¬ P g ∧ ¬ RS R t b g
/-- The struct, and those that came back. -/
def Hd (w : World) (P : Nat → Prop) (R t b n fresh : Nat) (back : List Nat) : Prop :=
  ∃ v, w.heap[R]? = some (.cells #[.slice (some ⟨t, 0, none⟩) n n, .slice (some ⟨b, 0, none⟩) n n, v, .int .i64 (fresh : Int)] 140 (0, 0)) ∧
    w.ownsRow 0 3 1 v back.length ((nums back).map (Value.int .i64)) ∧ ∀ g, v.ownBlock = some g → Far P R t b g
/-- Which are taken. -/
def TkRow (w : World) (t n : Nat) (tk : Nat → Bool) : Prop :=
  ∃ (cur : Array Value) (ty : TypeId), w.heap[t]? = some (.cells cur ty (0, 0)) ∧ cur.size = n ∧ ∀ i, i < n → cur[i]? = some (.bool (tk i))
/-- The rows of bytes of those that are taken. -/
def ByRow (w : World) (P : Nat → Prop) (R t b n : Nat) (tk : Nat → Bool) (bt : Nat → Nat → Int) : Prop :=
  ∃ (cur : Array Value) (ty : TypeId), w.heap[b]? = some (.cells cur ty (0, 0)) ∧ cur.size = n ∧
    ∀ i, i < n → tk i = true → ∃ g c, cur[i]? = some (.slice (some ⟨g, 0, none⟩) 64 c) ∧ 64 ≤ c ∧ c ≤ maxLen ∧ Ints .u8 w (some ⟨g, 0, none⟩) 64 ((List.range 64).map (bt i)) ∧ Far P R t b g
theorem Hd.lt {w : World} {P : Nat → Prop} {R t b n fresh : Nat} {back : List Nat} (h : Hd w P R t b n fresh back) : R < w.heap.size := by obtain ⟨v, e, _⟩ := h; exact lt_of_heap e
theorem TkRow.lt {w : World} {t n : Nat} {tk : Nat → Bool} (h : TkRow w t n tk) : t < w.heap.size := by obtain ⟨cur, ty, e, _⟩ := h; exact lt_of_heap e
theorem ByRow.lt {w : World} {P : Nat → Prop} {R t b n : Nat} {tk : Nat → Bool} {bt : Nat → Nat → Int} (h : ByRow w P R t b n tk bt) : b < w.heap.size := by obtain ⟨cur, ty, e, _⟩ := h; exact lt_of_heap e
theorem Hd.touch {S P : Nat → Prop} {w w' : World} {R t b n fresh : Nat} {back : List Nat} (h : Hd w P R t b n fresh back) (u : Touch S w w') (hR : ¬ S R) (hS : ∀ g, Far P R t b g → ¬ S g) : Hd w' P R t b n fresh back := by
  obtain ⟨v, e, ho, hv⟩ := h
  exact ⟨v, (u.block R (lt_of_heap e) hR).trans e, u.own ho (fun g hg => hS g (hv g hg)), hv⟩
theorem TkRow.touch {S : Nat → Prop} {w w' : World} {t n : Nat} {tk : Nat → Bool} (h : TkRow w t n tk) (u : Touch S w w') (ht : ¬ S t) : TkRow w' t n tk := by
  obtain ⟨cur, ty, e, r⟩ := h
  exact ⟨cur, ty, (u.block t (lt_of_heap e) ht).trans e, r⟩
theorem ByRow.touch {S P : Nat → Prop} {w w' : World} {R t b n : Nat} {tk : Nat → Bool} {bt : Nat → Nat → Int} (h : ByRow w P R t b n tk bt) (u : Touch S w w') (hb : ¬ S b) (hS : ∀ g, Far P R t b g → ¬ S g) : ByRow w' P R t b n tk bt := by
  obtain ⟨cur, ty, e, hs, r⟩ := h
  refine ⟨cur, ty, (u.block b (lt_of_heap e) hb).trans e, hs, fun i hi ht => ?_⟩
  obtain ⟨g, c, h1, h2, h3, h4, h5⟩ := r i hi ht
  exact ⟨g, c, h1, h2, h3, u.ints h4 (fun b o e => by injection e with e; injection e with e _ _; rw [← e]; exact hS g h5), h5⟩
theorem TkRow.cell {w : World} {t n : Nat} {tk : Nat → Bool} (h : TkRow w t n tk) (i : Nat) (hi : i < n) : w.cell? ⟨t, i, none⟩ = some (.bool (tk i)) := by
  obtain ⟨cur, ty, e, _, hc⟩ := h
  rw [cell_of_row _ _ _ _ _ _ e]; exact hc i hi
theorem TkRow.frozen {w : World} {t n : Nat} {tk : Nat → Bool} (h : TkRow w t n tk) (i : Nat) : w.frozen? ⟨t, i, none⟩ = false := by
  obtain ⟨cur, ty, e, _⟩ := h
  exact frozen_of_row _ _ _ _ _ e
theorem ByRow.has {w : World} {P : Nat → Prop} {R t b n : Nat} {tk : Nat → Bool} {bt : Nat → Nat → Int} (h : ByRow w P R t b n tk bt) (i : Nat) (hi : i < n) : ∃ v, w.cell? ⟨b, i, none⟩ = some v := by
  obtain ⟨cur, ty, e, hs, hc⟩ := h
  exact ⟨cur[i], by rw [cell_of_row _ _ _ _ _ _ e]; exact Array.getElem?_eq_getElem (by omega)⟩
theorem ByRow.frozen {w : World} {P : Nat → Prop} {R t b n : Nat} {tk : Nat → Bool} {bt : Nat → Nat → Int} (h : ByRow w P R t b n tk bt) (i : Nat) : w.frozen? ⟨b, i, none⟩ = false := by
  obtain ⟨cur, ty, e, _⟩ := h
  exact frozen_of_row _ _ _ _ _ e
theorem ByRow.at {w : World} {P : Nat → Prop} {R t b n : Nat} {tk : Nat → Bool} {bt : Nat → Nat → Int} (h : ByRow w P R t b n tk bt) (i : Nat) (hi : i < n) (ht : tk i = true) : ∃ g c, w.cell? ⟨b, i, none⟩ = some (.slice (some ⟨g, 0, none⟩) 64 c) ∧ 64 ≤ c ∧ c ≤ maxLen ∧ Ints .u8 w (some ⟨g, 0, none⟩) 64 ((List.range 64).map (bt i)) := by
  obtain ⟨cur, ty, e, hs, hc⟩ := h
  obtain ⟨g, c, h1, h2, h3, h4, _⟩ := hc i hi ht
  exact ⟨g, c, by rw [cell_of_row _ _ _ _ _ _ e]; exact h1, h2, h3, h4⟩
theorem TkRow.set {w : World} {t n : Nat} {tk : Nat → Bool} (h : TkRow w t n tk) (k : Nat) (hk : k < n) (v : Bool) : TkRow (w.setCell ⟨t, k, none⟩ (.bool v)) t n (upd tk k v) := by
  obtain ⟨cur, ty, e, hs, hc⟩ := h
  refine ⟨_, ty, heap_setCell_same w t k cur ty _ e, by simpa using hs, fun j hj => ?_⟩
  by_cases hjk : j = k
  · subst hjk; rw [upd_same, Array.getElem?_setIfInBounds_self_of_lt (by omega)]
  · rw [upd_other _ _ hjk, Array.getElem?_setIfInBounds_ne (by omega)]; exact hc j hj
theorem touch_one {w : World} {g j : Nat} {v : Value} : Touch (fun i => i = g) w (w.setCell ⟨g, j, none⟩ v) := (Touch.refl (fun i => i = g) w).setCell (p := ⟨g, j, none⟩) rfl _
theorem ByRow.set {w : World} {P : Nat → Prop} {R t b n : Nat} {tk tk' : Nat → Bool} {bt bt' : Nat → Nat → Int} (h : ByRow w P R t b n tk bt) (k : Nat) (hk : k < n) {g c : Nat} (h1 : 64 ≤ c) (h2 : c ≤ maxLen) (h3 : Ints .u8 w (some ⟨g, 0, none⟩) 64 ((List.range 64).map (bt' k))) (h4 : Far P R t b g)
    (e1 : ∀ j, j < n → j ≠ k → tk' j = true → tk j = true) (e2 : ∀ j, j < n → j ≠ k → bt' j = bt j) : ByRow (w.setCell ⟨b, k, none⟩ (.slice (some ⟨g, 0, none⟩) 64 c)) P R t b n tk' bt' := by
  obtain ⟨cur, ty, e, hs, hc⟩ := h
  have hb : ∀ g', Far P R t b g' → g' ≠ b := fun g' hg e => hg.2 (.inr (.inr e))
  refine ⟨_, ty, heap_setCell_same w b k cur ty _ e, by simpa using hs, fun j hj hjt => ?_⟩
  by_cases hjk : j = k
  · subst hjk
    exact ⟨g, c, by rw [Array.getElem?_setIfInBounds_self_of_lt (by omega)], h1, h2, touch_one.ints h3 (fun b' o e e2 => by injection e with e; injection e with e _ _; exact hb g h4 (e.trans e2)), h4⟩
  · obtain ⟨g', c', a1, a2, a3, a4, a5⟩ := hc j hj (e1 j hj hjk hjt)
    refine ⟨g', c', by rw [Array.getElem?_setIfInBounds_ne (by omega)]; exact a1, a2, a3, ?_, a5⟩
    rw [e2 j hj hjk]
    exact touch_one.ints a4 (fun b' o e e2 => by injection e with e; injection e with e _ _; exact hb g' a5 (e.trans e2))
theorem ByRow.less {w : World} {P : Nat → Prop} {R t b n : Nat} {tk tk' : Nat → Bool} {bt bt' : Nat → Nat → Int} (h : ByRow w P R t b n tk bt) (e1 : ∀ j, j < n → tk' j = true → tk j = true) (e2 : ∀ j, j < n → tk' j = true → bt' j = bt j) : ByRow w P R t b n tk' bt' := by
  obtain ⟨cur, ty, e, hs, hc⟩ := h
  refine ⟨cur, ty, e, hs, fun j hj hjt => ?_⟩
  rw [e2 j hj hjt]
  exact hc j hj (e1 j hj hjt)
/-- The document's own frames. -/
structure Rf (w : World) (P : Nat → Prop) (R t b : Nat) (s : St) (fresh : Nat) (back : List Nat) : Prop where
  good : Good s
  fr : s.fr = fallen s.n (s.n - fresh) ++ back
  le : fresh ≤ s.n
  hd : Hd w P R t b s.n fresh back
  tk : TkRow w t s.n s.tk
  by_ : ByRow w P R t b s.n s.tk s.bt
  plt : ∀ i, P i → i < w.heap.size
  nP : ∀ i, RS R t b i → ¬ P i
  dRt : R ≠ t
  dRb : R ≠ b
  dtb : t ≠ b
theorem Rf.lt {w : World} {P : Nat → Prop} {R t b : Nat} {s : St} {fresh : Nat} {back : List Nat} (h : Rf w P R t b s fresh back) : ∀ i, RS R t b i → i < w.heap.size := by
  rintro i (rfl | rfl | rfl)
  · exact h.hd.lt
  · exact h.tk.lt
  · exact h.by_.lt
/-- What is new is far. -/
theorem Rf.far {w : World} {P : Nat → Prop} {R t b : Nat} {s : St} {fresh : Nat} {back : List Nat} (h : Rf w P R t b s fresh back) {g : Nat} (hg : w.heap.size ≤ g) : Far P R t b g :=
  ⟨fun e => by have := h.plt g e; omega, fun e => by have := h.lt g e; omega⟩
/-- What turns none of its blocks. -/
theorem Rf.touch {S : Nat → Prop} {w w' : World} {P : Nat → Prop} {R t b : Nat} {s : St} {fresh : Nat} {back : List Nat} (h : Rf w P R t b s fresh back) (u : Touch S w w') (hS : ∀ i, S i → P i) : Rf w' P R t b s fresh back :=
  ⟨h.good, h.fr, h.le, h.hd.touch u (fun e => h.nP R (.inl rfl) (hS _ e)) (fun g hg e => hg.1 (hS _ e)), h.tk.touch u (fun e => h.nP t (.inr (.inl rfl)) (hS _ e)), h.by_.touch u (fun e => h.nP b (.inr (.inr rfl)) (hS _ e)) (fun g hg e => hg.1 (hS _ e)),
    fun i hi => Nat.lt_of_lt_of_le (h.plt i hi) u.size, h.nP, h.dRt, h.dRb, h.dtb⟩
theorem Rf.below {w w' : World} {P : Nat → Prop} {R t b : Nat} {s : St} {fresh : Nat} {back : List Nat} (h : Rf w P R t b s fresh back) (u : Below w.heap.size w w') : Rf w' P R t b s fresh back := h.touch (S := fun _ => False) (Touch.of_below u) (fun _ e => e.elim)
theorem Rf.r0 {w : World} {P : Nat → Prop} {R t b : Nat} {s : St} {fresh : Nat} {back : List Nat} (h : Rf w P R t b s fresh back) : w.cell? ⟨R, 0, none⟩ = some (.slice (some ⟨t, 0, none⟩) s.n s.n) := by obtain ⟨v, e, _⟩ := h.hd; rw [cell_of_row _ _ _ _ _ _ e]; rfl
theorem Rf.r1 {w : World} {P : Nat → Prop} {R t b : Nat} {s : St} {fresh : Nat} {back : List Nat} (h : Rf w P R t b s fresh back) : w.cell? ⟨R, 1, none⟩ = some (.slice (some ⟨b, 0, none⟩) s.n s.n) := by obtain ⟨v, e, _⟩ := h.hd; rw [cell_of_row _ _ _ _ _ _ e]; rfl
theorem Rf.r3 {w : World} {P : Nat → Prop} {R t b : Nat} {s : St} {fresh : Nat} {back : List Nat} (h : Rf w P R t b s fresh back) : w.cell? ⟨R, 3, none⟩ = some (.int .i64 (fresh : Int)) := by obtain ⟨v, e, _⟩ := h.hd; rw [cell_of_row _ _ _ _ _ _ e]; rfl
theorem Rf.rf {w : World} {P : Nat → Prop} {R t b : Nat} {s : St} {fresh : Nat} {back : List Nat} (h : Rf w P R t b s fresh back) (j : Nat) : w.frozen? ⟨R, j, none⟩ = false := by obtain ⟨v, e, _⟩ := h.hd; exact frozen_of_row _ _ _ _ _ e
end Go.Proofs.YtndfnglcichngaaGreatDoor
namespace Go.Proofs.YtndfnglcichngaaGreatDoor
open Go.ChangeShapes Go.WideShapes Go.ChangeAt Go.RowKit
set_option linter.unusedVariables false
theorem ris_any {w : World} {P : Nat → Prop} {R t b : Nat} {s : St} {fresh : Nat} {back : List Nat} (h : Rf w P R t b s fresh back) (i : Int) :
    Calls Tryz.prog 132 #[.pointer (some ⟨R, 0, none⟩), .int .i64 i] w fun e w' => e = .returned (.int .i64 (code s i 0 0)) ∧ w = w' := by
  have h0 := h.r0
  have HH := hide h
  clear h
  by_cases i0 : 0 ≤ i
  · by_cases i1 : i < s.n
    · obtain ⟨k, rfl⟩ := Int.eq_ofNat_of_zero_le i0
      have hk : k < s.n := by omega
      have ht := HH.out.tk.cell k hk
      cases hb : s.tk k with
      | true =>
        rw [hb] at ht
        rw [code_ok hk fit00 hb]
        go_enter Tryz.func132, Tryz.ntmps132
        go_wp2_with fail
        go_ret
        exact ⟨rfl, rfl⟩
      | false =>
        rw [hb] at ht
        rw [code_none hk fit00 hb]
        go_enter Tryz.func132, Tryz.ntmps132
        go_wp2_with fail
        go_ret
        exact ⟨rfl, rfl⟩
    · rw [code_arg (fun e => i1 e.2.1)]
      go_enter Tryz.func132, Tryz.ntmps132
      go_wp2_with fail
      go_ret
      exact ⟨rfl, rfl⟩
  · rw [code_arg (fun e => i0 e.1)]
    go_enter Tryz.func132, Tryz.ntmps132
    go_wp2_with fail
    go_ret
    exact ⟨rfl, rfl⟩
theorem Rf.r2 {w : World} {P : Nat → Prop} {R t b : Nat} {s : St} {fresh : Nat} {back : List Nat} (h : Rf w P R t b s fresh back) : ∃ a c, w.cell? ⟨R, 2, none⟩ = some (.slice a back.length c) ∧ w.ownsRow 0 3 1 (.slice a back.length c) back.length ((nums back).map (Value.int .i64)) ∧ ∀ g, (Value.slice a back.length c).ownBlock = some g → Far P R t b g := by
  obtain ⟨v, e, ho, hv⟩ := h.hd
  obtain ⟨a, c, rfl, _⟩ := own_sliceR ho
  exact ⟨a, c, by rw [cell_of_row _ _ _ _ _ _ e]; rfl, ho, hv⟩
theorem Rf.len {w : World} {P : Nat → Prop} {R t b : Nat} {s : St} {fresh : Nat} {back : List Nat} (h : Rf w P R t b s fresh back) : s.fr.length + fresh = back.length + s.n := by
  rw [h.fr, List.length_append, fallen_len]; have := h.le; omega
theorem rfree_any {w : World} {P : Nat → Prop} {R t b : Nat} {s : St} {fresh : Nat} {back : List Nat} (h : Rf w P R t b s fresh back) :
    Calls Tryz.prog 89 #[.pointer (some ⟨R, 0, none⟩)] w fun e w' => e = .returned (.int .i64 (s.fr.length : Nat)) ∧ ∃ m, w' = w.drewN m := by
  have h0 := h.r0
  have h3 := h.r3
  obtain ⟨a, c, h2, _⟩ := h.r2
  have hl := h.len
  have hn := h.good.n64
  have hg := h.good.len
  have hle := h.le
  have e0 : IntKind.i64.wrap ((back.length : Int) + (s.n : Int)) = (back.length : Int) + (s.n : Int) := by rw [IntKind.wrap_i64]; omega
  have e1 : (back.length : Int) + (s.n : Int) - (fresh : Int) = (s.fr.length : Int) := by omega
  have e2 : IntKind.i64.wrap ((back.length : Int) + (s.n : Int) - (fresh : Int)) = (s.fr.length : Int) := by rw [IntKind.wrap_i64]; omega
  have E2 := hide (show (back.length : Int) + (s.n : Int) - (fresh : Int) = (s.fr.length : Int) by omega)
  have hb : (back.length : Int) ≤ 64 := by omega
  have hf : (fresh : Int) ≤ 64 := by omega
  have hn' : (s.n : Int) ≤ 64 := by omega
  clear h hl hg hle e1 e2
  go_enter Tryz.func89, Tryz.ntmps89
  go_wp2_with fail
  go_quiet (fail)
  go_wp2_with fail
  go_ret
  exact ⟨ret_int E2.out, _, rfl⟩
theorem rnew_arg (w : World) (n : Int) (h : n < 1 ∨ 64 < n) : Calls Tryz.prog 38 #[.int .i64 n] w fun e w' => e = .returned (.tuple #[.pointer none, .int .i64 2]) ∧ w = w' := by
  by_cases h1 : n < 1
  · go_enter Tryz.func38, Tryz.ntmps38
    go_wp2_with fail
    go_ret2
    exact ⟨rfl, rfl⟩
  · have h2 : 64 < n := by omega
    go_enter Tryz.func38, Tryz.ntmps38
    go_wp2_with fail
    go_ret2
    exact ⟨rfl, rfl⟩
end Go.Proofs.YtndfnglcichngaaGreatDoor
namespace Go.Proofs.YtndfnglcichngaaGreatDoor
open Go.ChangeShapes Go.WideShapes Go.ChangeAt Go.RowKit
set_option linter.unusedVariables false
theorem bool_info : (Tryz.prog.info? 4).map (fun i => (i.zero, i.size, i.bytes)) = some (some (.bool false), 1, 1) := by kernel_rfl
theorem rows_info : (Tryz.prog.info? 30).map (fun i => (i.zero, i.size, i.bytes)) = some (some (.slice none 0 0), 1, 24) := by kernel_rfl
theorem run_make_bools (w : World) (n : Nat) (h : n ≤ 64) : (Instr.makeSlice 137 (.int .i64 (n : Int)) (.int .i64 (n : Int))).run Tryz.prog w = .ok (.slice (some ⟨w.heap.size, 0, none⟩) n n) (w.alloc (.cells (madeCells #[.bool false] n) 4)) := by
  obtain ⟨i0, hi0, hz0, hz1, hz2⟩ := info_parts bool_info
  have := run_make (P := Tryz.prog) w 137 4 i0 _ Tryz.underlying137 hi0 hz0 .i64 .i64 (n : Int) (n : Int) (by omega) (by omega) (by rw [hz2]; omega) (by omega)
  rw [hz1] at this
  simpa [Value.cells] using this
theorem run_make_rows (w : World) (n : Nat) (h : n ≤ 64) : (Instr.makeSlice 138 (.int .i64 (n : Int)) (.int .i64 (n : Int))).run Tryz.prog w = .ok (.slice (some ⟨w.heap.size, 0, none⟩) n n) (w.alloc (.cells (madeCells #[.slice none 0 0] n) 30)) := by
  obtain ⟨i0, hi0, hz0, hz1, hz2⟩ := info_parts rows_info
  have := run_make (P := Tryz.prog) w 138 30 i0 _ Tryz.underlying138 hi0 hz0 .i64 .i64 (n : Int) (n : Int) (by omega) (by omega) (by rw [hz2]; omega) (by omega)
  rw [hz1] at this
  simpa [Value.cells] using this
theorem tkRow_new {w : World} {t n : Nat} {ty : TypeId} (e : w.heap[t]? = some (.cells (madeCells #[.bool false] n) ty (0, 0))) : TkRow w t n (fun _ => false) := by
  refine ⟨_, ty, e, size_madeCells _ _, fun i hi => ?_⟩
  rw [← Array.getElem?_toList, toList_madeCells_one]
  simp [hi]
theorem byRow_new {w : World} {P : Nat → Prop} {R t b n : Nat} {bt : Nat → Nat → Int} {ty : TypeId} {z : Array Value} (e : w.heap[b]? = some (.cells (madeCells z n) ty (0, 0))) : ByRow w P R t b n (fun _ => false) bt :=
  ⟨_, ty, e, size_madeCells _ _, fun i hi h => by cases h⟩
theorem rf_new {w w0 : World} {P : Nat → Prop} {R t b n : Nat} (hP : ∀ i, P i → i < w.heap.size) (h1 : 1 ≤ n) (h2 : n ≤ 64) (hz : w.heap.size ≤ w0.heap.size) (hR : w.heap.size ≤ R) (ht : w.heap.size ≤ t) (hb : w.heap.size ≤ b) (d1 : R ≠ t) (d2 : R ≠ b) (d3 : t ≠ b)
    (eR : w0.heap[R]? = some (.cells #[.slice (some ⟨t, 0, none⟩) n n, .slice (some ⟨b, 0, none⟩) n n, .slice none 0 0, .int .i64 0] 140 (0, 0))) {z : Array Value} {ty ty' : TypeId}
    (et : w0.heap[t]? = some (.cells (madeCells #[.bool false] n) ty (0, 0))) (eb : w0.heap[b]? = some (.cells (madeCells z n) ty' (0, 0))) : Rf w0 P R t b (St.new n) 0 [] :=
  ⟨good_new h1 h2, by rw [List.append_nil]; rfl, Nat.zero_le _, ⟨_, eR, World.ownsRow_nil _ _ _ _, fun g hg => by cases hg⟩, tkRow_new et, byRow_new eb, fun i hi => Nat.lt_of_lt_of_le (hP i hi) hz,
    (by rintro i (rfl | rfl | rfl) h <;> (have := hP _ h; omega)), d1, d2, d3⟩
theorem rf_firstA (w : World) {n : Nat} (P : Nat → Prop) (hP : ∀ i, P i → i < w.heap.size) (h1 : 1 ≤ n) (h2 : n ≤ 64) : ∃ w0 R t b, w0 = (((w.alloc (.cells (madeCells #[.bool false] n) 4)).alloc (.cells (madeCells #[.slice none 0 0] n) 30)).alloc (.cells #[.slice (some ⟨w.heap.size, 0, none⟩) n n, .slice (some ⟨w.heap.size + 1, 0, none⟩) n n, .slice none 0 0, .int .i64 0] 140)).drew ∧
    R = w.heap.size + 1 + 1 ∧ t = w.heap.size ∧ b = w.heap.size + 1 ∧ Hid (Rf w0 P R t b (St.new n) 0 [] ∧ Below w.heap.size w w0 ∧ ∀ i, RS R t b i → w.heap.size ≤ i) := by
  have z1 : (w.alloc (.cells (madeCells #[.bool false] n) 4)).heap.size = w.heap.size + 1 := by simp
  have z2 : ((w.alloc (.cells (madeCells #[.bool false] n) 4)).alloc (.cells (madeCells #[.slice none 0 0] n) 30)).heap.size = w.heap.size + 1 + 1 := by simp
  have B := below_drewN ((((Below.refl w.heap.size w).alloc (Nat.le_refl _) (.cells (madeCells #[.bool false] n) 4)).alloc (by rw [z1]; omega) (.cells (madeCells #[.slice none 0 0] n) 30)).alloc (by rw [z2]; omega) (.cells #[.slice (some ⟨w.heap.size, 0, none⟩) n n, .slice (some ⟨w.heap.size + 1, 0, none⟩) n n, .slice none 0 0, .int .i64 0] 140)) 1
  refine ⟨_, _, _, _, rfl, rfl, rfl, rfl, rf_new hP h1 h2 B.size (by omega) (by omega) (by omega) (by omega) (by omega) (by omega) ?_ (ty := 4) ?_ (ty' := 30) (z := #[.slice none 0 0]) ?_, B, by rintro i (e | e | e) <;> omega⟩
  · rw [← z2]; exact heap_alloc_new _ _
  · show (World.alloc _ _).heap[_]? = _
    rw [RowKit.Below.heap_alloc _ _ _ (by rw [z2]; omega), RowKit.Below.heap_alloc _ _ _ (by rw [z1]; omega)]
    exact heap_alloc_new _ _
  · show (World.alloc _ _).heap[_]? = _
    rw [RowKit.Below.heap_alloc _ _ _ (by rw [z2]; omega), ← z1]
    exact heap_alloc_new _ _
theorem rf_firstB (w : World) {n : Nat} (P : Nat → Prop) (hP : ∀ i, P i → i < w.heap.size) (h1 : 1 ≤ n) (h2 : n ≤ 64) : ∃ w0 R t b, w0 = (((w.alloc (.cells (madeCells #[.slice none 0 0] n) 30)).alloc (.cells (madeCells #[.bool false] n) 4)).alloc (.cells #[.slice (some ⟨w.heap.size + 1, 0, none⟩) n n, .slice (some ⟨w.heap.size, 0, none⟩) n n, .slice none 0 0, .int .i64 0] 140)).drew ∧
    R = w.heap.size + 1 + 1 ∧ t = w.heap.size + 1 ∧ b = w.heap.size ∧ Hid (Rf w0 P R t b (St.new n) 0 [] ∧ Below w.heap.size w w0 ∧ ∀ i, RS R t b i → w.heap.size ≤ i) := by
  have z1 : (w.alloc (.cells (madeCells #[.slice none 0 0] n) 30)).heap.size = w.heap.size + 1 := by simp
  have z2 : ((w.alloc (.cells (madeCells #[.slice none 0 0] n) 30)).alloc (.cells (madeCells #[.bool false] n) 4)).heap.size = w.heap.size + 1 + 1 := by simp
  have B := below_drewN ((((Below.refl w.heap.size w).alloc (Nat.le_refl _) (.cells (madeCells #[.slice none 0 0] n) 30)).alloc (by rw [z1]; omega) (.cells (madeCells #[.bool false] n) 4)).alloc (by rw [z2]; omega) (.cells #[.slice (some ⟨w.heap.size + 1, 0, none⟩) n n, .slice (some ⟨w.heap.size, 0, none⟩) n n, .slice none 0 0, .int .i64 0] 140)) 1
  refine ⟨_, _, _, _, rfl, rfl, rfl, rfl, rf_new hP h1 h2 B.size (by omega) (by omega) (by omega) (by omega) (by omega) (by omega) ?_ (ty := 4) ?_ (ty' := 30) (z := #[.slice none 0 0]) ?_, B, by rintro i (e | e | e) <;> omega⟩
  · rw [← z2]; exact heap_alloc_new _ _
  · show (World.alloc _ _).heap[_]? = _
    rw [RowKit.Below.heap_alloc _ _ _ (by rw [z2]; omega), ← z1]
    exact heap_alloc_new _ _
  · show (World.alloc _ _).heap[_]? = _
    rw [RowKit.Below.heap_alloc _ _ _ (by rw [z2]; omega), RowKit.Below.heap_alloc _ _ _ (by rw [z1]; omega)]
    exact heap_alloc_new _ _
set_option maxHeartbeats 2000000 in
theorem rnew_ok (w : World) (n : Nat) (h1 : 1 ≤ n) (h2 : n ≤ 64) (P : Nat → Prop) (hP : ∀ i, P i → i < w.heap.size) : Calls Tryz.prog 38 #[.int .i64 (n : Int)] w fun e w' => ∃ R, e = .returned (.tuple #[.pointer (some ⟨R, 0, none⟩), .int .i64 0]) ∧ ∃ t b, Rf w' P R t b (St.new n) 0 [] ∧ Below w.heap.size w w' ∧ ∀ i, RS R t b i → w.heap.size ≤ i := by
  have x1 : (1 : Int) ≤ (n : Int) := by omega
  have x2 : (n : Int) ≤ 64 := by omega
  have m1 := fun w => run_make_bools w n h2
  have m2 := fun w => run_make_rows w n h2
  have MA := hide (rf_firstA w P hP h1 h2)
  have MB := hide (rf_firstB w P hP h1 h2)
  generalize madeCells #[.bool false] n = ZF at *
  generalize madeCells #[.slice none 0 0] n = ZI at *
  go_enter Tryz.func38, Tryz.ntmps38
  go_wp2_with fail
  go_region
  go_wp2_with fail
  all_goals
    go_ret2
    clear m1 m2
    first
      | (obtain ⟨w0, R, t, b, e0, eR, et, eb, M0⟩ := MA.out; rw [← e0]; exact ⟨_, rfl, t, b, eR ▸ M0.out⟩)
      | (obtain ⟨w0, R, t, b, e0, eR, et, eb, M0⟩ := MB.out; rw [← e0]; exact ⟨_, rfl, t, b, eR ▸ M0.out⟩)
end Go.Proofs.YtndfnglcichngaaGreatDoor
