/-
  The document's own frames in memory (coxswainref4): the struct, which are taken, the rows of bytes, those that came back.
-/
import Derived.Test.YtipepklobpnbpaaFrOnce
import Derived.Deep.RegionLaw
namespace Go.Proofs.Ytipepklobpnbpaa
open Go.ChangeShapes Go.WideShapes Go.ChangeAt Go.RowKit
set_option linter.unusedVariables false
/-- An append as a step of a region that draws: the row is a slice, so is what comes of it. -/
theorem step_append_rows {P : Program} {w : World} {ops : Array Oper} {o : Oper} {a : Act} {K : Act → World → Prop} {Q : Exit → Act → World → Prop} {E : Prop} (hgd : o.guard = none) (s x : Operand) (t : TypeId)
    (ho : o.op = .call { callee := .builtin .append, args := #[s, x], argTypes := #[t, t] })
    (base : Nat) (e : TypeId) (i : TypeInfo) (z : Value) (size bytes : Nat) (ht : P.underlying t = some (.slice e)) (hi : P.info? e = some i) (hz : i.zero = some z)
    (hsize : i.size = size) (hby : i.bytes = bytes) (hzs : z.cells.size = size) (hsz : 0 < size)
    (v : Value) (n : Nat) (xs : List Value) (hs : a.eval s = v) (hown : w.ownsRow base e size v n xs)
    (ad : Addr) (m c : Nat) (news : List Value) (hx : a.eval x = .slice (some ad) m c) (hl : news.length = m * size) (hnews : ∀ j u, news[j]? = some u → w.cell? (ad.add j) = some u) (h1 : ∀ u ∈ news, u.oneCell' = true)
    (h63 : n + m ≤ maxLen) (hbytes : (n + m) * bytes ≤ 140737488355328) (hbase : base ≤ w.heap.size) (N : Nat) (hN : n + m = N)
    (h : ∀ A' c' w', w'.ownsRow base e size (.slice A' N c') N (xs ++ news) → w.grownBy w' v.ownBlock → ((Value.slice A' N c').ownBlock = v.ownBlock ∨ (Value.slice A' N c').ownBlock = some w.heap.size) → K (a.put o.dst (.slice A' N c')) w') :
    if Region.wanted o (yielded ops a.tmps) = true then Oper.wp P o a w K Q else E := by
  have hw : Region.wanted o (yielded ops a.tmps) = true := by simp [Region.wanted, hgd]
  rw [if_pos hw]
  subst hN
  obtain ⟨v', w', hr, h2, h3, _, h5⟩ := run_append_own_at (P := P) w base t o.type e i z size bytes ht hi hz hsize hby hzs hsz v n xs hown ad m c news hl hnews h1 h63 hbytes hbase
  obtain ⟨A', c', rfl⟩ : ∃ A' c', v' = .slice A' (n + m) c' := by
    rcases h2.2 with ⟨rfl, h0⟩ | ⟨g, cap, cur, rfl, _⟩
    · exact ⟨none, 0, by rw [h0]⟩
    · exact ⟨_, _, rfl⟩
  unfold Oper.wp execOp
  simp only [ho, resolve, invoke, builtin, Sem.run_bind, Sem.run_pure, Result.andThen_ok, List.map_toArray, List.map_cons, List.map_nil, hs, hx, hr]
  exact h A' c' w' h2 h3 h5
theorem own_sliceR {w : World} {B : Nat} {e : TypeId} {z n : Nat} {v : Value} {xs : List Value} (h : w.ownsRow B e z v n xs) : ∃ a c, v = .slice a n c ∧ (a = none → c = 0) ∧ n ≤ c ∧ c ≤ maxLen ∧ (∀ x, a = some x → x.off = 0 ∧ x.spot = none) := by
  rcases h.2 with ⟨rfl, rfl⟩ | ⟨g, cap, cur, rfl, _, _, h1, h2, _⟩
  · exact ⟨none, 0, rfl, fun _ => rfl, Nat.le_refl _, by unfold maxLen; omega, (fun x e => by cases e)⟩
  · exact ⟨_, _, rfl, (fun e => by cases e), h1, h2, (fun x e => by injection e with e; subst e; exact ⟨rfl, rfl⟩)⟩
/-- The document's three blocks. -/
def RS (R t b i : Nat) : Prop := i = R ∨ i = t ∨ i = b
/-- A block of its own that is none of those: neither the program's (P) nor the three. -/
def Far (P : Nat → Prop) (R t b g : Nat) : Prop := ¬ P g ∧ ¬ RS R t b g
/-- The struct, and those that came back. -/
def Hd (w : World) (P : Nat → Prop) (R t b n fresh : Nat) (back : List Nat) : Prop :=
  ∃ v, w.heap[R]? = some (.cells #[.slice (some ⟨t, 0, none⟩) n n, .slice (some ⟨b, 0, none⟩) n n, v, .int .i64 (fresh : Int)] 73 (0, 0)) ∧
    w.ownsRow 0 3 1 v back.length ((nums back).map (Value.int .i64)) ∧ ∀ g, v.ownBlock = some g → Far P R t b g
/-- Which are taken. -/
def TkRow (w : World) (t n : Nat) (tk : Nat → Bool) : Prop :=
  ∃ (cur : Array Value) (ty : TypeId), w.heap[t]? = some (.cells cur ty (0, 0)) ∧ cur.size = n ∧ ∀ i, i < n → cur[i]? = some (.bool (tk i))
/-- The rows of bytes of those that are taken. -/
def ByRow (w : World) (P : Nat → Prop) (R t b n : Nat) (tk : Nat → Bool) (bt : Nat → Nat → Int) : Prop :=
  ∃ (cur : Array Value) (ty : TypeId), w.heap[b]? = some (.cells cur ty (0, 0)) ∧ cur.size = n ∧
    ∀ i, i < n → tk i = true → ∃ g c, cur[i]? = some (.slice (some ⟨g, 0, none⟩) 64 c) ∧ 64 ≤ c ∧ c ≤ maxLen ∧ Ints .u8 w (some ⟨g, 0, none⟩) 64 ((List.range 64).map (bt i)) ∧ Far P R t b g
theorem Hd.lt {w : World} {P : Nat → Prop} {R t b n fresh : Nat} {back : List Nat} (h : Hd w P R t b n fresh back) : R < w.heap.size := by obtain ⟨v, e, _⟩ := h; exact lt_of_heap e
theorem TkRow.lt {w : World} {t n : Nat} {tk : Nat → Bool} (h : TkRow w t n tk) : t < w.heap.size := by obtain ⟨cur, ty, e, _⟩ := h; exact lt_of_heap e
theorem ByRow.lt {w : World} {P : Nat → Prop} {R t b n : Nat} {tk : Nat → Bool} {bt : Nat → Nat → Int} (h : ByRow w P R t b n tk bt) : b < w.heap.size := by obtain ⟨cur, ty, e, _⟩ := h; exact lt_of_heap e
theorem Hd.touch {S P : Nat → Prop} {w w' : World} {R t b n fresh : Nat} {back : List Nat} (h : Hd w P R t b n fresh back) (u : Touch S w w') (hR : ¬ S R) (hS : ∀ g, Far P R t b g → ¬ S g) : Hd w' P R t b n fresh back := by
  obtain ⟨v, e, ho, hv⟩ := h
  exact ⟨v, (u.block R (lt_of_heap e) hR).trans e, u.own ho (fun g hg => hS g (hv g hg)), hv⟩
theorem TkRow.touch {S : Nat → Prop} {w w' : World} {t n : Nat} {tk : Nat → Bool} (h : TkRow w t n tk) (u : Touch S w w') (ht : ¬ S t) : TkRow w' t n tk := by
  obtain ⟨cur, ty, e, r⟩ := h
  exact ⟨cur, ty, (u.block t (lt_of_heap e) ht).trans e, r⟩
theorem ByRow.touch {S P : Nat → Prop} {w w' : World} {R t b n : Nat} {tk : Nat → Bool} {bt : Nat → Nat → Int} (h : ByRow w P R t b n tk bt) (u : Touch S w w') (hb : ¬ S b) (hS : ∀ g, Far P R t b g → ¬ S g) : ByRow w' P R t b n tk bt := by
  obtain ⟨cur, ty, e, hs, r⟩ := h
  refine ⟨cur, ty, (u.block b (lt_of_heap e) hb).trans e, hs, fun i hi ht => ?_⟩
  obtain ⟨g, c, h1, h2, h3, h4, h5⟩ := r i hi ht
  exact ⟨g, c, h1, h2, h3, u.ints h4 (fun b o e => by injection e with e; injection e with e _ _; rw [← e]; exact hS g h5), h5⟩
theorem TkRow.cell {w : World} {t n : Nat} {tk : Nat → Bool} (h : TkRow w t n tk) (i : Nat) (hi : i < n) : w.cell? ⟨t, i, none⟩ = some (.bool (tk i)) := by
  obtain ⟨cur, ty, e, _, hc⟩ := h
  rw [cell_of_row _ _ _ _ _ _ e]; exact hc i hi
theorem TkRow.frozen {w : World} {t n : Nat} {tk : Nat → Bool} (h : TkRow w t n tk) (i : Nat) : w.frozen? ⟨t, i, none⟩ = false := by
  obtain ⟨cur, ty, e, _⟩ := h
  exact frozen_of_row _ _ _ _ _ e
theorem ByRow.has {w : World} {P : Nat → Prop} {R t b n : Nat} {tk : Nat → Bool} {bt : Nat → Nat → Int} (h : ByRow w P R t b n tk bt) (i : Nat) (hi : i < n) : ∃ v, w.cell? ⟨b, i, none⟩ = some v := by
  obtain ⟨cur, ty, e, hs, hc⟩ := h
  exact ⟨cur[i], by rw [cell_of_row _ _ _ _ _ _ e]; exact Array.getElem?_eq_getElem (by omega)⟩
theorem ByRow.frozen {w : World} {P : Nat → Prop} {R t b n : Nat} {tk : Nat → Bool} {bt : Nat → Nat → Int} (h : ByRow w P R t b n tk bt) (i : Nat) : w.frozen? ⟨b, i, none⟩ = false := by
  obtain ⟨cur, ty, e, _⟩ := h
  exact frozen_of_row _ _ _ _ _ e
theorem ByRow.at {w : World} {P : Nat → Prop} {R t b n : Nat} {tk : Nat → Bool} {bt : Nat → Nat → Int} (h : ByRow w P R t b n tk bt) (i : Nat) (hi : i < n) (ht : tk i = true) : ∃ g c, w.cell? ⟨b, i, none⟩ = some (.slice (some ⟨g, 0, none⟩) 64 c) ∧ 64 ≤ c ∧ c ≤ maxLen ∧ Ints .u8 w (some ⟨g, 0, none⟩) 64 ((List.range 64).map (bt i)) := by
  obtain ⟨cur, ty, e, hs, hc⟩ := h
  obtain ⟨g, c, h1, h2, h3, h4, _⟩ := hc i hi ht
  exact ⟨g, c, by rw [cell_of_row _ _ _ _ _ _ e]; exact h1, h2, h3, h4⟩
theorem TkRow.set {w : World} {t n : Nat} {tk : Nat → Bool} (h : TkRow w t n tk) (k : Nat) (hk : k < n) (v : Bool) : TkRow (w.setCell ⟨t, k, none⟩ (.bool v)) t n (upd tk k v) := by
  obtain ⟨cur, ty, e, hs, hc⟩ := h
  refine ⟨_, ty, heap_setCell_same w t k cur ty _ e, by simpa using hs, fun j hj => ?_⟩
  by_cases hjk : j = k
  · subst hjk; rw [upd_same, Array.getElem?_setIfInBounds_self_of_lt (by omega)]
  · rw [upd_other _ _ hjk, Array.getElem?_setIfInBounds_ne (by omega)]; exact hc j hj
theorem touch_one {w : World} {g j : Nat} {v : Value} : Touch (fun i => i = g) w (w.setCell ⟨g, j, none⟩ v) := (Touch.refl (fun i => i = g) w).setCell (p := ⟨g, j, none⟩) rfl _
theorem ByRow.set {w : World} {P : Nat → Prop} {R t b n : Nat} {tk tk' : Nat → Bool} {bt bt' : Nat → Nat → Int} (h : ByRow w P R t b n tk bt) (k : Nat) (hk : k < n) {g c : Nat} (h1 : 64 ≤ c) (h2 : c ≤ maxLen) (h3 : Ints .u8 w (some ⟨g, 0, none⟩) 64 ((List.range 64).map (bt' k))) (h4 : Far P R t b g)
    (e1 : ∀ j, j < n → j ≠ k → tk' j = true → tk j = true) (e2 : ∀ j, j < n → j ≠ k → bt' j = bt j) : ByRow (w.setCell ⟨b, k, none⟩ (.slice (some ⟨g, 0, none⟩) 64 c)) P R t b n tk' bt' := by
  obtain ⟨cur, ty, e, hs, hc⟩ := h
  have hb : ∀ g', Far P R t b g' → g' ≠ b := fun g' hg e => hg.2 (.inr (.inr e))
  refine ⟨_, ty, heap_setCell_same w b k cur ty _ e, by simpa using hs, fun j hj hjt => ?_⟩
  by_cases hjk : j = k
  · subst hjk
    exact ⟨g, c, by rw [Array.getElem?_setIfInBounds_self_of_lt (by omega)], h1, h2, touch_one.ints h3 (fun b' o e e2 => by injection e with e; injection e with e _ _; exact hb g h4 (e.trans e2)), h4⟩
  · obtain ⟨g', c', a1, a2, a3, a4, a5⟩ := hc j hj (e1 j hj hjk hjt)
    refine ⟨g', c', by rw [Array.getElem?_setIfInBounds_ne (by omega)]; exact a1, a2, a3, ?_, a5⟩
    rw [e2 j hj hjk]
    exact touch_one.ints a4 (fun b' o e e2 => by injection e with e; injection e with e _ _; exact hb g' a5 (e.trans e2))
theorem ByRow.less {w : World} {P : Nat → Prop} {R t b n : Nat} {tk tk' : Nat → Bool} {bt bt' : Nat → Nat → Int} (h : ByRow w P R t b n tk bt) (e1 : ∀ j, j < n → tk' j = true → tk j = true) (e2 : ∀ j, j < n → tk' j = true → bt' j = bt j) : ByRow w P R t b n tk' bt' := by
  obtain ⟨cur, ty, e, hs, hc⟩ := h
  refine ⟨cur, ty, e, hs, fun j hj hjt => ?_⟩
  rw [e2 j hj hjt]
  exact hc j hj (e1 j hj hjt)
/-- The document's own frames. -/
structure Rf (w : World) (P : Nat → Prop) (R t b : Nat) (s : St) (fresh : Nat) (back : List Nat) : Prop where
  good : Good s
  fr : s.fr = fallen s.n (s.n - fresh) ++ back
  le : fresh ≤ s.n
  hd : Hd w P R t b s.n fresh back
  tk : TkRow w t s.n s.tk
  by_ : ByRow w P R t b s.n s.tk s.bt
  plt : ∀ i, P i → i < w.heap.size
  nP : ∀ i, RS R t b i → ¬ P i
  dRt : R ≠ t
  dRb : R ≠ b
  dtb : t ≠ b
theorem Rf.lt {w : World} {P : Nat → Prop} {R t b : Nat} {s : St} {fresh : Nat} {back : List Nat} (h : Rf w P R t b s fresh back) : ∀ i, RS R t b i → i < w.heap.size := by
  rintro i (rfl | rfl | rfl)
  · exact h.hd.lt
  · exact h.tk.lt
  · exact h.by_.lt
/-- What is new is far. -/
theorem Rf.far {w : World} {P : Nat → Prop} {R t b : Nat} {s : St} {fresh : Nat} {back : List Nat} (h : Rf w P R t b s fresh back) {g : Nat} (hg : w.heap.size ≤ g) : Far P R t b g :=
  ⟨fun e => by have := h.plt g e; omega, fun e => by have := h.lt g e; omega⟩
/-- What turns none of its blocks. -/
theorem Rf.touch {S : Nat → Prop} {w w' : World} {P : Nat → Prop} {R t b : Nat} {s : St} {fresh : Nat} {back : List Nat} (h : Rf w P R t b s fresh back) (u : Touch S w w') (hS : ∀ i, S i → P i) : Rf w' P R t b s fresh back :=
  ⟨h.good, h.fr, h.le, h.hd.touch u (fun e => h.nP R (.inl rfl) (hS _ e)) (fun g hg e => hg.1 (hS _ e)), h.tk.touch u (fun e => h.nP t (.inr (.inl rfl)) (hS _ e)), h.by_.touch u (fun e => h.nP b (.inr (.inr rfl)) (hS _ e)) (fun g hg e => hg.1 (hS _ e)),
    fun i hi => Nat.lt_of_lt_of_le (h.plt i hi) u.size, h.nP, h.dRt, h.dRb, h.dtb⟩
theorem Rf.below {w w' : World} {P : Nat → Prop} {R t b : Nat} {s : St} {fresh : Nat} {back : List Nat} (h : Rf w P R t b s fresh back) (u : Below w.heap.size w w') : Rf w' P R t b s fresh back := h.touch (S := fun _ => False) (Touch.of_below u) (fun _ e => e.elim)
theorem Rf.r0 {w : World} {P : Nat → Prop} {R t b : Nat} {s : St} {fresh : Nat} {back : List Nat} (h : Rf w P R t b s fresh back) : w.cell? ⟨R, 0, none⟩ = some (.slice (some ⟨t, 0, none⟩) s.n s.n) := by obtain ⟨v, e, _⟩ := h.hd; rw [cell_of_row _ _ _ _ _ _ e]; rfl
theorem Rf.r1 {w : World} {P : Nat → Prop} {R t b : Nat} {s : St} {fresh : Nat} {back : List Nat} (h : Rf w P R t b s fresh back) : w.cell? ⟨R, 1, none⟩ = some (.slice (some ⟨b, 0, none⟩) s.n s.n) := by obtain ⟨v, e, _⟩ := h.hd; rw [cell_of_row _ _ _ _ _ _ e]; rfl
theorem Rf.r3 {w : World} {P : Nat → Prop} {R t b : Nat} {s : St} {fresh : Nat} {back : List Nat} (h : Rf w P R t b s fresh back) : w.cell? ⟨R, 3, none⟩ = some (.int .i64 (fresh : Int)) := by obtain ⟨v, e, _⟩ := h.hd; rw [cell_of_row _ _ _ _ _ _ e]; rfl
theorem Rf.rf {w : World} {P : Nat → Prop} {R t b : Nat} {s : St} {fresh : Nat} {back : List Nat} (h : Rf w P R t b s fresh back) (j : Nat) : w.frozen? ⟨R, j, none⟩ = false := by obtain ⟨v, e, _⟩ := h.hd; exact frozen_of_row _ _ _ _ _ e
end Go.Proofs.Ytipepklobpnbpaa
