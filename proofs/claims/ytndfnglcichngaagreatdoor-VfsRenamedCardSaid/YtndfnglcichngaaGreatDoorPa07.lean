/-
  Several texts as one: GRow GStep KMap KMapW.
-/
import Derived.Test.YtndfnglcichngaaGreatDoorPa06
import Derived.Test.YtndfnglcichngaaGreatDoorPa02
import Derived.Deep.RegionLaw
import Derived.Maps.OwnSet
namespace Go.Proofs.YtndfnglcichngaaGreatDoor
open Go.ChangeShapes Go.WideShapes Go.ChangeAt Go.RowKit
set_option linter.unusedVariables false
/-- A slice of n elements that reads as 'xs', nil let in. -/
def Reads {α : Type} (z : Nat) (vals : α → List Value) (w : World) (a : Option Addr) (n : Nat) (xs : List α) : Prop :=
  xs.length = n ∧ (0 < n → ∃ b off, a = some ⟨b, off, none⟩ ∧ ∀ (i : Nat) (x : α), xs[i]? = some x → ∀ (j : Nat) (u : Value), (vals x)[j]? = some u → w.cell? ⟨b, off + i * z + j, none⟩ = some u)
section
variable {α : Type} {z : Nat} {vals : α → List Value}
theorem Came.reads {fits : World → α → Prop} {w : World} {a : Option Addr} {n c : Nat} {xs : List α} (h : Came z vals fits w a n c xs) : Reads z vals w a n xs := by
  obtain ⟨h1, _, _, _, _, h2⟩ := h
  exact ⟨h1, fun hn => by obtain ⟨b, off, e, _, hc⟩ := h2 hn; exact ⟨b, off, e, hc⟩⟩
theorem Reads.below {w w' : World} {a : Option Addr} {n : Nat} {xs : List α} (h : Reads z vals w a n xs) (b : Below w.heap.size w w') : Reads z vals w' a n xs := by
  refine ⟨h.1, fun hn => ?_⟩
  obtain ⟨g, off, e, hc⟩ := h.2 hn
  exact ⟨g, off, e, fun i x hx j u hu => (b.cell (p := ⟨g, _, none⟩) (lt_of_cell? (hc i x hx j u hu))).trans (hc i x hx j u hu)⟩
theorem Reads.touch {S : Nat → Prop} {w w' : World} {a : Option Addr} {n : Nat} {xs : List α} (h : Reads z vals w a n xs) (t : Touch S w w') (d : ∀ b o, a = some ⟨b, o, none⟩ → ¬ S b) : Reads z vals w' a n xs := by
  refine ⟨h.1, fun hn => ?_⟩
  obtain ⟨g, off, e, hc⟩ := h.2 hn
  exact ⟨g, off, e, fun i x hx j u hu => t.cell (hc i x hx j u hu) (d g off e)⟩
theorem Reads.at_ {w : World} {a : Option Addr} {n : Nat} {xs : List α} (h : Reads z vals w a n xs) {i : Nat} (hi : i < n) : ∃ x b off, xs[i]? = some x ∧ a = some ⟨b, off, none⟩ ∧ ∀ (j : Nat) (u : Value), (vals x)[j]? = some u → w.cell? ⟨b, off + i * z + j, none⟩ = some u := by
  obtain ⟨b, off, e, hc⟩ := h.2 (by omega)
  have hx : xs[i]? = some (xs[i]'(by rw [h.1]; exact hi)) := List.getElem?_eq_getElem _
  exact ⟨_, b, off, hx, e, hc i _ hx⟩
theorem reads_nil {w : World} {a : Option Addr} : Reads z vals w a 0 [] := ⟨rfl, fun h => absurd h (by omega)⟩
theorem Reads.isNil {w : World} {a : Option Addr} {n : Nat} {xs : List α} (h : Reads z vals w a n xs) (e : a = none) : n = 0 := by
  rcases Nat.eq_zero_or_pos n with h0 | h0
  · exact h0
  · obtain ⟨b, off, e', _⟩ := h.2 h0; rw [e] at e'; cases e'
/-- A part of it. -/
theorem Reads.part {w : World} {b off n : Nat} {xs : List α} (h : Reads z vals w (some ⟨b, off, none⟩) n xs) (i k : Nat) (hk : i + k ≤ n) : Reads z vals w (some ⟨b, off + i * z, none⟩) k ((xs.drop i).take k) := by
  refine ⟨by rw [List.length_take, List.length_drop, h.1]; omega, fun hn => ⟨b, off + i * z, rfl, fun q x hx j u hu => ?_⟩⟩
  have hq : q < k := by
    have := (List.getElem?_eq_some_iff.1 hx).1
    rw [List.length_take] at this
    omega
  rw [List.getElem?_take_of_lt hq, List.getElem?_drop] at hx
  obtain ⟨b', off', e, hc⟩ := h.2 (by omega)
  injection e with e
  injection e with e1 e2
  subst e1 e2
  have := hc (i + q) x hx j u hu
  rwa [Nat.add_mul, ← Nat.add_assoc] at this
theorem Reads.front {w : World} {a : Option Addr} {n : Nat} {xs : List α} (h : Reads z vals w a n xs) {k : Nat} (hk : k ≤ n) : Reads z vals w a k (xs.take k) := by
  refine ⟨by rw [List.length_take, h.1]; omega, fun hn => ?_⟩
  obtain ⟨g, off, e, hc⟩ := h.2 (by omega)
  refine ⟨g, off, e, fun i x hx j u hu => hc i x ?_ j u hu⟩
  have hi : i < k := by
    have := (List.getElem?_eq_some_iff.1 hx).1
    rw [List.length_take] at this
    omega
  rwa [List.getElem?_take_of_lt hi] at hx
theorem flat_length (hv : ∀ x, (vals x).length = z) (l : List α) : (l.flatMap vals).length = l.length * z := by
  induction l with
  | nil => simp
  | cons x l ih => rw [List.flatMap_cons, List.length_append, ih, hv, List.length_cons, Nat.add_mul]; omega
theorem flat_at (hv : ∀ x, (vals x).length = z) {l : List α} {i j : Nat} {x : α} (h : l[i]? = some x) (hj : j < z) : (l.flatMap vals)[i * z + j]? = (vals x)[j]? := by
  induction l generalizing i with
  | nil => simp at h
  | cons y l ih =>
    rw [List.flatMap_cons]
    cases i with
    | zero =>
      simp at h
      subst h
      rw [Nat.zero_mul, Nat.zero_add, List.getElem?_append_left (by rw [hv]; exact hj)]
    | succ i =>
      rw [List.getElem?_append_right (by rw [hv, Nat.add_mul]; omega), hv]
      have : (i + 1) * z + j - z = i * z + j := by rw [Nat.add_mul]; omega
      rw [this]
      exact ih (by simpa using h)
theorem flat_cell (h1 : ∀ x, ∀ v ∈ vals x, v.oneCell' = true) (l : List α) : ∀ v ∈ l.flatMap vals, v.oneCell' = true := by
  intro v hv
  obtain ⟨x, _, h⟩ := List.mem_flatMap.mp hv
  exact h1 x v h
theorem Reads.cells (hv : ∀ x, (vals x).length = z) {w : World} {a : Option Addr} {n : Nat} {xs : List α} (h : Reads z vals w a n xs) : ∀ ad, a = some ad → ∀ j u, (xs.flatMap vals)[j]? = some u → w.cell? (ad.add j) = some u := by
  intro ad ha j u hu
  have hj : j < (xs.flatMap vals).length := (List.getElem?_eq_some_iff.mp hu).1
  rw [flat_length hv, h.1] at hj
  have hz : 0 < z := by
    rcases Nat.eq_zero_or_pos z with e | e
    · rw [e] at hj; omega
    · exact e
  have hi : j / z < n := Nat.div_lt_of_lt_mul (by rw [Nat.mul_comm]; exact hj)
  obtain ⟨x, b, off, hx, e, hc⟩ := h.at_ hi
  rw [ha] at e
  injection e with e
  subst e
  have hm : j % z < z := Nat.mod_lt _ hz
  have hd : j / z * z + j % z = j := by rw [Nat.mul_comm]; exact Nat.div_add_mod j z
  rw [← hd, flat_at hv hx hm] at hu
  have := hc _ _ hu
  rw [addr_add]
  rw [show off + j = off + j / z * z + j % z by omega]
  exact this
/-- An own row reads as what lies in it. -/
theorem own_reads (hv : ∀ x, (vals x).length = z) {w : World} {B n : Nat} {e : TypeId} {v : Value} {xs : List α} (hz : 0 < z) (h : w.ownsRow B e z v n (xs.flatMap vals)) : ∃ a c, v = .slice a n c ∧ Reads z vals w a n xs ∧ n ≤ c ∧ c ≤ maxLen ∧ (a = none → c = 0) := by
  have hl : xs.length = n := by
    have := h.1
    rw [flat_length hv] at this
    exact Nat.eq_of_mul_eq_mul_right hz this
  rcases h.2 with ⟨rfl, rfl⟩ | ⟨g, cap, cur, rfl, _, _, h1, h2, _⟩
  · obtain rfl : xs = [] := List.eq_nil_of_length_eq_zero hl
    exact ⟨none, 0, rfl, reads_nil, Nat.le_refl _, by unfold maxLen; omega, fun _ => rfl⟩
  · refine ⟨_, _, rfl, ⟨hl, fun hn => ⟨g, 0, rfl, fun i x hx j u hu => ?_⟩⟩, h1, h2, (fun e => by cases e)⟩
    have hi : i < n := by have := (List.getElem?_eq_some_iff.1 hx).1; omega
    have hj : j < z := by have := (List.getElem?_eq_some_iff.1 hu).1; rw [hv] at this; exact this
    have hlt : i * z + j < n * z := by
      have : (i + 1) * z ≤ n * z := Nat.mul_le_mul_right z hi
      rw [Nat.add_mul] at this; omega
    rw [Nat.zero_add]
    exact (h.cellAt (i * z + j) hlt).trans ((flat_at hv hx hj).trans hu)
/-- 'append' of a slice that may be nil onto a row of one's own. -/
theorem wpList_append_reads {P : Program} {ops : Array Oper} {rest : List Oper} {o : Oper} {a : Act} {w : World} {Q : Exit → Act → World → Prop} (hgd : o.guard = none) (s x : Operand) (ty : TypeId)
    (ho : o.op = .call { callee := .builtin .append, args := #[s, x], argTypes := #[ty, ty] }) (base : Nat) (e : TypeId) (i : TypeInfo) (zv : Value) (bytes : Nat) (ht : P.underlying ty = some (.slice e)) (hi : P.info? e = some i) (hz : i.zero = some zv)
    (hsize : i.size = z) (hby : i.bytes = bytes) (hzs : zv.cells.size = z) (hsz : 0 < z) (v : Value) (n : Nat) (xs : List Value) (hs : a.eval s = v) (hown : w.ownsRow base e z v n xs)
    (A : Option Addr) (m c : Nat) (ys : List α) (hx : a.eval x = .slice A m c) (hv : ∀ x, (vals x).length = z) (h1 : ∀ x, ∀ v ∈ vals x, v.oneCell' = true) (hr : Reads z vals w A m ys) (hnil : A = none → c = 0)
    (h63 : n + m ≤ maxLen) (hbytes : (n + m) * bytes ≤ 140737488355328) (hbase : base ≤ w.heap.size)
    (h : ∀ v' w', w'.ownsRow base e z v' (n + m) (xs ++ ys.flatMap vals) → w.grownBy w' v.ownBlock → wpList P ops Q rest (a.put o.dst v') w') : wpList P ops Q (o :: rest) a w := by
  cases A with
  | none =>
    obtain rfl := hr.isNil rfl
    obtain rfl : ys = [] := List.eq_nil_of_length_eq_zero hr.1
    obtain rfl := hnil rfl
    refine wpList_plain hgd fun K hK => ?_
    have hrun := run_append_owned_none (P := P) (w := w) base ty o.type e i z ht hi v n xs hown
    unfold Oper.wp execOp
    simp only [ho, resolve, invoke, builtin, Sem.run_bind, Sem.run_pure, Result.andThen_ok, List.map_toArray, List.map_cons, List.map_nil, hs, hx, hrun]
    exact hK _ _ (h v w (by simpa using hown) (World.grownBy.refl w _))
  | some ad => exact wpList_append_own_at w hgd s x ty ho base e i zv z bytes ht hi hz hsize hby hzs hsz v n xs hs hown ad m c (ys.flatMap vals) hx (by rw [flat_length hv, hr.1]) (hr.cells hv ad rfl) (flat_cell h1 ys) h63 hbytes hbase (fun v' w' h1 h2 _ _ => h v' w' h1 h2)
/-- A new block's cells. -/
theorem cells_new (w : World) (cs : List Value) (t : TypeId) (n : Nat) (hn : n = w.heap.size) : ∀ (j : Nat) (u : Value), cs[j]? = some u → (w.alloc (.cells cs.toArray t)).cell? ((⟨n, 0, none⟩ : Addr).add j) = some u := by
  intro j u hu
  subst hn
  rw [addr_add, Nat.zero_add, cell_of_row _ _ _ _ t (0, 0) (heap_alloc_new w _)]
  simpa using hu
/-- Cells set one behind the other. -/
def setSeg (w : World) (g m : Nat) : List Value → World
  | [] => w
  | v :: vs => setSeg (w.setCell ⟨g, m, none⟩ v) g (m + 1) vs
theorem setSeg_heap (vs : List Value) : ∀ (w : World) (g m : Nat) (cur : Array Value) (t : TypeId), w.heap[g]? = some (.cells cur t (0, 0)) → m + vs.length ≤ cur.size → ∃ cur', (setSeg w g m vs).heap[g]? = some (.cells cur' t (0, 0)) ∧ cur'.size = cur.size ∧ cur'.toList = splice cur.toList m vs := by
  induction vs with
  | nil => intro w g m cur t h hl; exact ⟨cur, h, rfl, by unfold splice; simp⟩
  | cons v vs ih =>
    intro w g m cur t h hl
    have h1 := heap_setCell_same w g m cur t v h
    obtain ⟨cur', h2, h3, h4⟩ := ih (w.setCell ⟨g, m, none⟩ v) g (m + 1) _ t h1 (by simp at hl ⊢; omega)
    refine ⟨cur', h2, by simpa using h3, ?_⟩
    rw [h4, Array.toList_setIfInBounds]
    simp at hl
    apply List.ext_getElem?
    intro j
    rw [getElem?_splice _ _ _ (by simp; omega), getElem?_splice _ _ _ (by simp; omega)]
    by_cases hj : j = m
    · subst hj
      rw [if_neg (by omega), if_pos (by simp), List.getElem?_set_self (by simp; omega)]
      simp
    · rw [List.getElem?_set_ne (by omega)]
      by_cases hj2 : m + 1 ≤ j ∧ j < m + 1 + vs.length
      · rw [if_pos hj2, if_pos (by simp; omega)]
        rw [show j - m = (j - (m + 1)) + 1 by omega, List.getElem?_cons_succ]
      · rw [if_neg hj2, if_neg (by simp; omega)]
theorem setSeg_touch {S : Nat → Prop} {w : World} {g : Nat} (hg : S g) (vs : List Value) : ∀ (w' : World) (m : Nat), Touch S w w' → Touch S w (setSeg w' g m vs) := by
  induction vs with
  | nil => intro w' m h; exact h
  | cons v vs ih => intro w' m h; exact ih _ _ (h.setCell (p := ⟨g, m, none⟩) hg v)
/-- Block g is a row: n elements, k marks, and what is left of three. -/
def RoomG (z : Nat) (vals : α → List Value) (mk : α) (t : TypeId) (w : World) (g n k : Nat) (ys : List α) : Prop :=
  ∃ cur : Array Value, w.heap[g]? = some (.cells cur t (0, 0)) ∧ cur.size = (n + 3) * z ∧ cur.toList.take ((n + k) * z) = (ys ++ List.replicate k mk).flatMap vals
variable {mk : α} {t : TypeId}
theorem RoomG.below {w w' : World} {g n k : Nat} {ys : List α} (h : RoomG z vals mk t w g n k ys) (b : Below w.heap.size w w') : RoomG z vals mk t w' g n k ys := by
  obtain ⟨cur, hh, r⟩ := h
  exact ⟨cur, (b.block g (lt_of_heap hh)).trans hh, r⟩
theorem RoomG.touch {S : Nat → Prop} {w w' : World} {g n k : Nat} {ys : List α} (h : RoomG z vals mk t w g n k ys) (b : Touch S w w') (d : ¬ S g) : RoomG z vals mk t w' g n k ys := by
  obtain ⟨cur, hh, r⟩ := h
  exact ⟨cur, (b.block g (lt_of_heap hh) d).trans hh, r⟩
theorem RoomG.spot {w : World} {g n k : Nat} {ys : List α} (h : RoomG z vals mk t w g n k ys) (hk : k < 3) : (∀ j, j < z → ∃ u, w.cell? ⟨g, (n + k) * z + j, none⟩ = some u) ∧ ∀ j, w.frozen? ⟨g, j, none⟩ = false := by
  obtain ⟨cur, hh, hs, ht⟩ := h
  refine ⟨fun j hj => ?_, fun j => frozen_of_row _ _ _ _ _ hh⟩
  have : (n + k) * z + j < cur.size := by
    have h1 : (n + k + 1) * z ≤ (n + 3) * z := Nat.mul_le_mul_right z (by omega)
    rw [Nat.add_mul (n + k)] at h1
    omega
  exact ⟨cur[(n + k) * z + j], by rw [cell_of_row _ _ _ _ _ _ hh]; exact Array.getElem?_eq_getElem this⟩
theorem RoomG.set {w : World} {g n k : Nat} {ys : List α} (h : RoomG z vals mk t w g n k ys) (hv : ∀ x, (vals x).length = z) (hk : k < 3) : RoomG z vals mk t (setSeg w g ((n + k) * z) (vals mk)) g n (k + 1) ys := by
  obtain ⟨cur, hh, hs, ht⟩ := h
  have h1 : (n + k) * z + z ≤ (n + 3) * z := by
    have h1 : (n + k + 1) * z ≤ (n + 3) * z := Nat.mul_le_mul_right z (by omega)
    rw [Nat.add_mul (n + k)] at h1
    omega
  obtain ⟨cur', h2, h3, h4⟩ := setSeg_heap (vals mk) w g ((n + k) * z) cur t hh (by rw [hv]; omega)
  refine ⟨cur', h2, by omega, ?_⟩
  rw [h4, List.replicate_succ', ← List.append_assoc, List.flatMap_append, ← ht]
  have e1 : (n + (k + 1)) * z = (n + k) * z + z := by rw [← Nat.add_assoc, Nat.add_mul (n + k)]; omega
  rw [e1]
  unfold splice
  have hl : (cur.toList.take ((n + k) * z)).length = (n + k) * z := by rw [List.length_take]; simp; omega
  have e2 : (List.take ((n + k) * z) cur.toList ++ (vals mk ++ List.drop ((n + k) * z + (vals mk).length) cur.toList)) = ((List.take ((n + k) * z) cur.toList ++ vals mk) ++ List.drop ((n + k) * z + (vals mk).length) cur.toList) := (List.append_assoc _ _ _).symm
  have e3 : (List.take ((n + k) * z) cur.toList ++ vals mk).length = (n + k) * z + z := by rw [List.length_append, hl, hv]
  first
  | rw [e2, ← e3, List.take_left]
  | rw [← e3, List.take_left]
  simp
theorem RoomG.at_ {w : World} {g n : Nat} {ys : List α} (h : RoomG z vals mk t w g n 3 ys) (hv : ∀ x, (vals x).length = z) {i : Nat} {x : α} (hx : (ys ++ List.replicate 3 mk)[i]? = some x) {j : Nat} {u : Value} (hu : (vals x)[j]? = some u) : w.cell? ⟨g, i * z + j, none⟩ = some u := by
  obtain ⟨cur, hh, hs, ht⟩ := h
  have h1 : cur.toList.take ((n + 3) * z) = cur.toList := List.take_of_length_le (by simp; omega)
  rw [h1] at ht
  have hj : j < z := by have := (List.getElem?_eq_some_iff.1 hu).1; rw [hv] at this; exact this
  rw [cell_of_row _ _ _ _ _ _ hh, ← Array.getElem?_toList, ht, flat_at hv hx hj, hu]
theorem RoomG.row {w : World} {g n : Nat} {ys : List α} (h : RoomG z vals mk t w g n 3 ys) (hv : ∀ x, (vals x).length = z) (hl : ys.length = n) : Reads z vals w (some ⟨g, 0, none⟩) n ys := by
  refine ⟨hl, fun hn => ⟨g, 0, rfl, fun i x hx j u hu => ?_⟩⟩
  rw [Nat.zero_add]
  exact h.at_ hv (by rw [List.getElem?_append_left (List.getElem?_eq_some_iff.1 hx).1]; exact hx) hu
theorem RoomG.mark {w : World} {g n : Nat} {ys : List α} (h : RoomG z vals mk t w g n 3 ys) (hv : ∀ x, (vals x).length = z) (hl : ys.length = n) {k : Nat} (hk : k < 3) {j : Nat} {u : Value} (hu : (vals mk)[j]? = some u) : w.cell? ⟨g, (n + k) * z + j, none⟩ = some u :=
  h.at_ hv (by rw [List.getElem?_append_right (by omega), List.getElem?_replicate, if_pos (by omega)]) hu
end
end Go.Proofs.YtndfnglcichngaaGreatDoor
namespace Go.Proofs.YtndfnglcichngaaGreatDoor
open Go.ChangeShapes Go.WideShapes Go.ChangeAt Go.RowKit
set_option linter.unusedVariables false
theorem step_append_reads {α : Type} {zz : Nat} {vals : α → List Value} {P : Program} {ops : Array Oper} {o : Oper} {a : Act} {w : World} {K : Act → World → Prop} {Q : Exit → Act → World → Prop} {E : Prop} (hgd : o.guard = none) (s x : Operand) (ty : TypeId)
    (ho : o.op = .call { callee := .builtin .append, args := #[s, x], argTypes := #[ty, ty] }) (base : Nat) (e : TypeId) (i : TypeInfo) (zv : Value) (bytes : Nat) (ht : P.underlying ty = some (.slice e)) (hi : P.info? e = some i) (hz : i.zero = some zv)
    (hsize : i.size = zz) (hby : i.bytes = bytes) (hzs : zv.cells.size = zz) (hsz : 0 < zz) (v : Value) (n : Nat) (xs : List Value) (hs : a.eval s = v) (hown : w.ownsRow base e zz v n xs)
    (A : Option Addr) (m c : Nat) (ys : List α) (hx : a.eval x = .slice A m c) (hv : ∀ x, (vals x).length = zz) (h1 : ∀ x, ∀ v ∈ vals x, v.oneCell' = true) (hr : Reads zz vals w A m ys) (hnil : A = none → c = 0)
    (h63 : n + m ≤ maxLen) (hbytes : (n + m) * bytes ≤ 140737488355328) (hbase : base ≤ w.heap.size)
    (h : ∀ v' w', w'.ownsRow base e zz v' (n + m) (xs ++ ys.flatMap vals) → w.grownBy w' v.ownBlock → K (a.put o.dst v') w') :
    if Region.wanted o (yielded ops a.tmps) = true then Oper.wp P o a w K Q else E := by
  have hw : Region.wanted o (yielded ops a.tmps) = true := by simp [Region.wanted, hgd]
  rw [if_pos hw]
  cases A with
  | none =>
    obtain rfl := hr.isNil rfl
    obtain rfl : ys = [] := List.eq_nil_of_length_eq_zero hr.1
    obtain rfl := hnil rfl
    have hrun := run_append_owned_none (P := P) (w := w) base ty o.type e i zz ht hi v n xs hown
    unfold Oper.wp execOp
    simp only [ho, resolve, invoke, builtin, Sem.run_bind, Sem.run_pure, Result.andThen_ok, List.map_toArray, List.map_cons, List.map_nil, hs, hx, hrun]
    exact h v w (by simpa using hown) (World.grownBy.refl w _)
  | some ad =>
    obtain ⟨v', w', hrun, h2, h3, _, _⟩ := run_append_own_at (P := P) w base ty o.type e i zv zz bytes ht hi hz hsize hby hzs hsz v n xs hown ad m c (ys.flatMap vals) (by rw [flat_length hv, hr.1]) (hr.cells hv ad rfl) (flat_cell h1 ys) h63 hbytes hbase
    unfold Oper.wp execOp
    simp only [ho, resolve, invoke, builtin, Sem.run_bind, Sem.run_pure, Result.andThen_ok, List.map_toArray, List.map_cons, List.map_nil, hs, hx, hrun]
    exact h v' w' h2 h3
theorem came_own {α : Type} {z : Nat} {vals : α → List Value} {fits : World → α → Prop} (hv : ∀ x, (vals x).length = z) (hz : 0 < z) {w : World} {B n : Nat} {e : TypeId} {v : Value} {xs : List α} (h : w.ownsRow B e z v n (xs.flatMap vals)) (hf : ∀ x ∈ xs, fits w x) : ∃ a c, v = .slice a n c ∧ Came z vals fits w a n c xs := by
  obtain ⟨a, c, rfl, h1, h2, h3, h4⟩ := own_reads hv hz h
  refine ⟨a, c, rfl, h1.1, h2, h3, h4, hf, fun hn => ?_⟩
  obtain ⟨b, off, e, hc⟩ := h1.2 hn
  refine ⟨b, off, e, ?_, hc⟩
  have hx : xs[0]? = some (xs[0]'(by rw [h1.1]; exact hn)) := List.getElem?_eq_getElem _
  have hj : 0 < (vals (xs[0]'(by rw [h1.1]; exact hn))).length := by rw [hv]; exact hz
  exact lt_of_cell? (hc 0 _ hx 0 _ (List.getElem?_eq_getElem hj))
end Go.Proofs.YtndfnglcichngaaGreatDoor
namespace Go.Proofs.YtndfnglcichngaaGreatDoor
open Go.ChangeShapes Go.WideShapes Go.ChangeAt Go.RowKit Go.Maps
set_option linter.unusedVariables false
theorem keyI : Keyed Tryz.prog 3 := int_keyed Tryz.underlying3
/-- How the values of one kind stand, and what reads them. -/
structure Kind {α : Type} (val : α → Value) (enc : α → DataW Unit) (R : Value → Option (DataW Unit × List MemPlace)) : Prop where
  puts : ∀ x, R (val x) = some (enc x, [])
  inv : ∀ {v : Value} {z : DataW Unit × List MemPlace}, R v = some z → ∃ x, v = val x ∧ z = (enc x, [])
  inj : ∀ {x y : α}, enc x = enc y → x = y
def updF {α : Type} (f : Int → Option α) (k : Int) (v : Option α) : Int → Option α := fun x => if x = k then v else f x
/-- Block M is a map that reads as f. -/
def IM {α : Type} (enc : α → DataW Unit) (R : Value → Option (DataW Unit × List MemPlace)) (w : World) (M : Nat) (f : Int → Option α) : Prop :=
  ∃ (n : Nat) (D : DataW Unit) (ks : List Int), w.ownsMap Tryz.prog 3 R M n D ∧ Maps.size D = n ∧ ks.Nodup ∧ ks.length = n ∧
    (∀ k, k ∈ ks ↔ (f k).isSome = true) ∧ (∀ k ∈ ks, 0 ≤ k ∧ k < 1000000) ∧ ∀ k, Maps.has D (.int .i64 k) = (f k).isSome ∧ ∀ v, f k = some v → ∀ z, D.atKey (.int .i64 k) z = enc v
theorem few_keys : ∀ (N : Nat) (ks : List Int), ks.Nodup → (∀ k ∈ ks, 0 ≤ k ∧ k < (N : Int)) → ks.length ≤ N := by
  intro N
  induction N with
  | zero =>
    intro ks _ h
    cases ks with
    | nil => simp
    | cons a l => have := h a (List.mem_cons_self ..); omega
  | succ N ih =>
    intro ks hn h
    have h1 := ih (ks.filter fun k => k != (N : Int)) (hn.filter _) (fun k hk => by
      rw [List.mem_filter] at hk
      have := h k hk.1
      have h2 : k ≠ (N : Int) := by simpa using hk.2
      omega)
    have h2 : ks.length ≤ (ks.filter fun k => k != (N : Int)).length + 1 := by
      clear ih h h1
      induction ks with
      | nil => simp
      | cons a l ih =>
        rw [List.nodup_cons] at hn
        by_cases e : a = (N : Int)
        · subst e
          have : (l.filter fun k => k != (N : Int)) = l := List.filter_eq_self.2 fun x hx => by
            have : x ≠ (N : Int) := fun e => hn.1 (e ▸ hx)
            simpa using this
          simp [this]
        · have h3 := ih hn.2
          have : (a != (N : Int)) = true := by simpa using e
          simp [this]
          omega
    omega
section
variable {α : Type} {val : α → Value} {enc : α → DataW Unit} {R : Value → Option (DataW Unit × List MemPlace)} (K : Kind val enc R) {w : World} {M : Nat} {f : Int → Option α} {t e : TypeId}
theorem IM.lt (h : IM enc R w M f) : M < w.heap.size := by obtain ⟨n, D, ks, hD, _⟩ := h; exact hD.lt
theorem IM.few (h : IM enc R w M f) {k : Int} {v : α} (hf : f k = some v) : 0 ≤ k ∧ k < 1000000 := by
  obtain ⟨n, D, ks, _, _, _, _, h5, h6, _⟩ := h
  exact h6 k ((h5 k).2 (by rw [hf]; rfl))
theorem wf_few {k : Int} (h : 0 ≤ k ∧ k < 1000000) : (Lit.int .i64 k).wf = true := by simp [Lit.wf, IntKind.min, IntKind.max, IntKind.bits, IntKind.signed]; omega
theorem IM.keep {w' : World} (h : IM enc R w M f) (e : w'.heap[M]? = w.heap[M]?) : IM enc R w' M f := by
  obtain ⟨n, D, ks, ⟨es, clock, hb, r⟩, rest⟩ := h
  exact ⟨n, D, ks, ⟨es, clock, e.trans hb, r⟩, rest⟩
theorem IM.touch {S : Nat → Prop} {w' : World} (h : IM enc R w M f) (b : Touch S w w') (d : ¬ S M) : IM enc R w' M f := h.keep (b.block M h.lt d)
theorem IM.made {enc : α → DataW Unit} {R : Value → Option (DataW Unit × List MemPlace)} (w : World) {n : Nat} (hn : n = w.heap.size) : IM enc R (w.alloc (.map #[] 0)) n (fun _ => none) := by
  rw [hn]
  exact ⟨0, .map [], [], World.ownsMap_made _ _ _ _, rfl, List.nodup_nil, rfl, (fun k => by simp), (fun k hk => by cases hk), fun k => ⟨rfl, fun v h => by cases h⟩⟩
include K
theorem IM.store (h : IM enc R w M f) (ht : Tryz.prog.underlying t = some (.map 3 e)) {k : Int} (hk : 0 ≤ k ∧ k < 1000000) (v : α) :
    ∃ w', (Instr.mapUpdate t (.map (some M)) (.int .i64 k) (val v)).run Tryz.prog w = .ok () w' ∧ IM enc R w' M (updF f k (some v)) ∧ w.grownBy w' (some M) := by
  obtain ⟨n, D, ks, hD, hs, h3, h4, h5, h6, hf⟩ := h
  have hn : n ≤ 1000000 := by rw [← h4]; exact few_keys 1000000 ks h3 h6
  have hkey : keyOf Tryz.prog 3 (.int .i64 k) = some (.int .i64 k) := keyOf_int_mk Tryz.underlying3 (wf_few hk)
  have hI : WideAt.IsKeyLit (Lit.int .i64 k) := trivial
  obtain ⟨w', hrun, ho, hg⟩ := hD.update keyI ht (by unfold maxLen; omega) hkey (K.puts v)
  have hT := hD.tidy keyI
  refine ⟨w', hrun, ⟨Maps.size (D.put (.int .i64 k) (enc v)), _, if k ∈ ks then ks else ks ++ [k], ?_, rfl, ?_, ?_, ?_, ?_, fun x => ?_⟩, hg⟩
  · obtain ⟨es, clock, hb, F, hle, hd⟩ := ho
    refine ⟨es, clock, hb, F, ?_, hd⟩
    rw [hd]
    simp [Maps.size, length_sorted]
  · split
    · exact h3
    · rename_i hnk
      rw [List.nodup_append]
      exact ⟨h3, by simp, fun a ha b hb e => hnk (by simp at hb; rw [← hb, ← e]; exact ha)⟩
  · rw [size_put hT, (hf k).1, hs]
    by_cases hm : k ∈ ks
    · rw [if_pos hm, if_pos ((h5 k).1 hm), h4]
    · rw [if_neg hm, if_neg (fun e => hm ((h5 k).2 e)), List.length_append, h4]; rfl
  · intro x
    unfold updF
    by_cases e : x = k
    · subst e
      rw [if_pos rfl]
      by_cases hm : x ∈ ks <;> simp [hm]
    · rw [if_neg e, ← h5 x]
      by_cases hm : k ∈ ks <;> simp [hm, e]
  · intro x hx
    by_cases hm : k ∈ ks
    · rw [if_pos hm] at hx; exact h6 x hx
    · rw [if_neg hm] at hx
      rcases List.mem_append.1 hx with hx | hx
      · exact h6 x hx
      · simp at hx; subst hx; exact hk
  · unfold updF
    by_cases e : x = k
    · subst e
      rw [has_put_same hD.isMap hI, if_pos rfl]
      refine ⟨rfl, fun u hu z => ?_⟩
      rw [← Option.some.inj hu]
      exact atKey_put_same hD.isMap hI _ _
    · have hne : (Lit.int .i64 x) ≠ (Lit.int .i64 k) := fun e' => by injection e' with _ e'; exact e e'
      rw [has_put_other hne, if_neg e]
      refine ⟨(hf x).1, fun u hu z => ?_⟩
      rw [atKey_put_other hne]
      exact (hf x).2 u hu z
omit K in
theorem IM.drop (h : IM enc R w M f) (ht : Tryz.prog.underlying t = some (.map 3 e)) {k : Int} (hk : (Lit.int .i64 k).wf = true) (ty : TypeId) :
    ∃ w', (Builtin.delete_ #[t, 3] ty #[.map (some M), .int .i64 k]).run Tryz.prog w = .ok (.tuple #[]) w' ∧ IM enc R w' M (updF f k none) ∧ w.grownBy w' (some M) := by
  obtain ⟨n, D, ks, hD, hs, h3, h4, h5, h6, hf⟩ := h
  have hkey : keyOf Tryz.prog 3 (.int .i64 k) = some (.int .i64 k) := keyOf_int_mk Tryz.underlying3 hk
  obtain ⟨w', hrun, ho, hg⟩ := hD.drop keyI ht hkey ty
  have hT := hD.tidy keyI
  refine ⟨w', hrun, ⟨Maps.size (D.del (.int .i64 k)), _, ks.filter fun x => x != k, ?_, rfl, h3.filter _, ?_, ?_, ?_, fun x => ?_⟩, hg.grown⟩
  · obtain ⟨es, clock, hb, F, hle, hd⟩ := ho
    refine ⟨es, clock, hb, F, ?_, hd⟩
    rw [hd]
    simp [Maps.size, length_sorted]
  · have h7 := size_del (k := .int .i64 k) hT
    rw [(hf k).1, hs] at h7
    have h8 : (ks.filter fun x => x != k).length + (if k ∈ ks then 1 else 0) = ks.length := by
      clear h4 h5 h6 hf h7 hs hD ho
      induction ks with
      | nil => simp
      | cons a l ih =>
        rw [List.nodup_cons] at h3
        have h9 := ih h3.2
        by_cases ea : a = k
        · subst ea
          rw [if_neg h3.1] at h9
          simp
          simpa using h9
        · have h1 : (a != k) = true := by simpa using ea
          have h2 : k ≠ a := fun e => ea e.symm
          by_cases hm : k ∈ l
          · rw [if_pos hm] at h9; rw [if_pos (List.mem_cons_of_mem _ hm), List.filter_cons, if_pos h1]; simp only [List.length_cons]; omega
          · rw [if_neg hm] at h9; rw [if_neg (by simp [hm, h2]), List.filter_cons, if_pos h1]; simp only [List.length_cons]; omega
    by_cases hm : k ∈ ks
    · rw [if_pos hm] at h8; rw [if_pos ((h5 k).1 hm)] at h7; omega
    · rw [if_neg hm] at h8; rw [if_neg (fun e => hm ((h5 k).2 e))] at h7; omega
  · intro x
    unfold updF
    rw [List.mem_filter]
    by_cases e : x = k
    · subst e; simp
    · rw [if_neg e, ← h5 x]; simp [e]
  · intro x hx; exact h6 x (List.mem_filter.1 hx).1
  · unfold updF
    by_cases e : x = k
    · subst e
      rw [has_del_same, if_pos rfl]
      exact ⟨rfl, fun u hu => by cases hu⟩
    · have hne : (Lit.int .i64 x) ≠ (Lit.int .i64 k) := fun e' => by injection e' with _ e'; exact e e'
      rw [has_del_other hne, if_neg e]
      refine ⟨(hf x).1, fun u hu z => ?_⟩
      rw [atKey_del_other hne]
      exact (hf x).2 u hu z
theorem IM.look (h : IM enc R w M f) (ht : Tryz.prog.underlying t = some (.map 3 e)) {z : α} (hz : (zeroValue e).run Tryz.prog w = .ok (val z) w) {k : Int} (hk : (Lit.int .i64 k).wf = true) :
    (Instr.lookup t (.map (some M)) (.int .i64 k) true).run Tryz.prog w = .ok (.tuple #[val ((f k).getD z), .bool (f k).isSome]) w := by
  obtain ⟨n, D, ks, hD, hs, h3, h4, h5, h6, hf⟩ := h
  have hkey : keyOf Tryz.prog 3 (.int .i64 k) = some (.int .i64 k) := keyOf_int_mk Tryz.underlying3 hk
  obtain ⟨v, ps, hrun, hv⟩ := hD.look_ok keyI ht hz (K.puts z) hkey
  obtain ⟨c, rfl, hc⟩ := K.inv hv
  simp only [Prod.mk.injEq] at hc
  rw [hrun, (hf k).1]
  cases e : f k with
  | none =>
    have hh : Maps.has D (.int .i64 k) = false := by rw [(hf k).1, e]; rfl
    rw [atKey_of_not_has hh] at hc
    rw [← K.inj hc.1]; rfl
  | some u =>
    have := (hf k).2 u e
    rw [this] at hc
    rw [← K.inj hc.1]; rfl
theorem IM.look1 (h : IM enc R w M f) (ht : Tryz.prog.underlying t = some (.map 3 e)) {z : α} (hz : (zeroValue e).run Tryz.prog w = .ok (val z) w) {k : Int} (hk : (Lit.int .i64 k).wf = true) :
    (Instr.lookup t (.map (some M)) (.int .i64 k) false).run Tryz.prog w = .ok (val ((f k).getD z)) w := by
  obtain ⟨n, D, ks, ⟨es, clock, hb, F, _, hd⟩, hs, h3, h4, h5, h6, hf⟩ := h
  have hkey : keyOf Tryz.prog 3 (.int .i64 k) = some (.int .i64 k) := keyOf_int_mk Tryz.underlying3 hk
  have h1 := hf k
  rw [hd] at h1
  rcases Maps.fit_look false keyI ht hz hb F hkey with ⟨hr, _, hat⟩ | ⟨e0, y, _, _, hr, hRv, hat, _⟩
  · rw [Maps.has_false_of_atKey hat] at h1
    rw [hr]
    cases e : f k with
    | none => rfl
    | some u => rw [e] at h1; cases h1.1
  · rw [Maps.has_true_of_atKey hat] at h1
    obtain ⟨c, e1, e2⟩ := K.inv hRv
    rw [hr]
    cases e : f k with
    | none => rw [e] at h1; cases h1.1
    | some u =>
      have := h1.2 u e y.1
      rw [hat] at this
      rw [e1]
      rw [e2] at this
      rw [K.inj this]; rfl
end
/-- The three kinds of values. -/
def readI (v : Value) : Option (DataW Unit × List MemPlace) := match v with
  | .int .i64 x => some (.lit (.int .i64 x), [])
  | _ => none
theorem kindI : Kind (fun x : Int => Value.int .i64 x) (fun x : Int => (DataW.lit (.int .i64 x) : DataW Unit)) readI where
  puts := fun x => rfl
  inv := by
    intro v z h
    unfold readI at h
    split at h
    · rename_i x; injection h with h; exact ⟨x, rfl, h.symm⟩
    · cases h
  inj := by intro x y h; simpa using h
theorem kindU : Kind (fun _ : Unit => Value.agg #[]) (fun _ : Unit => (DataW.agg [] : DataW Unit)) unitElem where
  puts := fun _ => unitElem_mk
  inv := by intro v z h; obtain ⟨h1, h2⟩ := unitElem_inv h; exact ⟨(), h1, h2⟩
  inj := by intro x y _; rfl
/-- A slice, as it stands in a map. -/
structure Sl where
  a : Option Nat
  n : Nat
  c : Nat
def slV (x : Sl) : Value := .slice (x.a.map fun b => ⟨b, 0, none⟩) x.n x.c
def slE (x : Sl) : DataW Unit := .map [(.int .i64 0, .lit (.int .i64 (match x.a with | none => -1 | some b => (b : Int)))), (.int .i64 1, .lit (.int .i64 x.n)), (.int .i64 2, .lit (.int .i64 x.c))]
def readS (v : Value) : Option (DataW Unit × List MemPlace) := match v with
  | .slice none n c => some (slE ⟨none, n, c⟩, [])
  | .slice (some ⟨b, 0, none⟩) n c => some (slE ⟨some b, n, c⟩, [])
  | _ => none
theorem kindS : Kind slV slE readS where
  puts := by intro x; obtain ⟨a, n, c⟩ := x; cases a <;> rfl
  inv := by
    intro v z h
    unfold readS at h
    split at h
    · rename_i n c; injection h with h; exact ⟨⟨none, n, c⟩, rfl, h.symm⟩
    · rename_i b n c; injection h with h; exact ⟨⟨some b, n, c⟩, rfl, h.symm⟩
    · cases h
  inj := by
    intro x y h
    obtain ⟨a, n, c⟩ := x
    obtain ⟨a', n', c'⟩ := y
    unfold slE at h
    simp at h
    obtain ⟨h1, h2, h3⟩ := h
    obtain rfl : n = n' := by omega
    obtain rfl : c = c' := by omega
    cases a <;> cases a' <;> simp at h1 ⊢ <;> omega
end Go.Proofs.YtndfnglcichngaaGreatDoor
namespace Go.Proofs.YtndfnglcichngaaGreatDoor
open Go.ChangeShapes Go.WideShapes Go.ChangeAt Go.RowKit Go.Maps
set_option linter.unusedVariables false
/-- Block M is a map that reads as f. -/
def IW {α : Type} (enc : α → DataW Unit) (R : Value → Option (DataW Unit × List MemPlace)) (w : World) (M : Nat) (f : Int → Option α) : Prop :=
  ∃ (n : Nat) (D : DataW Unit) (ks : List Int), w.ownsMap Tryz.prog 3 R M n D ∧ Maps.size D = n ∧ ks.Nodup ∧ ks.length = n ∧
    (∀ k, k ∈ ks ↔ (f k).isSome = true) ∧ (∀ k ∈ ks, (Lit.int .i64 k).wf = true) ∧ ∀ k, Maps.has D (.int .i64 k) = (f k).isSome ∧ ∀ v, f k = some v → ∀ z, D.atKey (.int .i64 k) z = enc v
section
variable {α : Type} {val : α → Value} {enc : α → DataW Unit} {R : Value → Option (DataW Unit × List MemPlace)} (K : Kind val enc R) {w : World} {M : Nat} {f : Int → Option α} {t e : TypeId}
theorem IW.lt (h : IW enc R w M f) : M < w.heap.size := by obtain ⟨n, D, ks, hD, _⟩ := h; exact hD.lt
theorem IW.fits (h : IW enc R w M f) {k : Int} {v : α} (hf : f k = some v) : (Lit.int .i64 k).wf = true := by
  obtain ⟨n, D, ks, _, _, _, _, h5, h6, _⟩ := h
  exact h6 k ((h5 k).2 (by rw [hf]; rfl))
theorem IW.keep {w' : World} (h : IW enc R w M f) (e : w'.heap[M]? = w.heap[M]?) : IW enc R w' M f := by
  obtain ⟨n, D, ks, ⟨es, clock, hb, r⟩, rest⟩ := h
  exact ⟨n, D, ks, ⟨es, clock, e.trans hb, r⟩, rest⟩
theorem IW.touch {S : Nat → Prop} {w' : World} (h : IW enc R w M f) (b : Touch S w w') (d : ¬ S M) : IW enc R w' M f := h.keep (b.block M h.lt d)
theorem IW.made {enc : α → DataW Unit} {R : Value → Option (DataW Unit × List MemPlace)} (w : World) {n : Nat} (hn : n = w.heap.size) : IW enc R (w.alloc (.map #[] 0)) n (fun _ => none) := by
  rw [hn]
  exact ⟨0, .map [], [], World.ownsMap_made _ _ _ _, rfl, List.nodup_nil, rfl, (fun k => by simp), (fun k hk => by cases hk), fun k => ⟨rfl, fun v h => by cases h⟩⟩
include K
theorem IW.store (h : IW enc R w M f) (ht : Tryz.prog.underlying t = some (.map 3 e)) {k : Int} (hk : (Lit.int .i64 k).wf = true) (hb : ∀ ks : List Int, ks.Nodup → (∀ k ∈ ks, (f k).isSome = true) → ks.length ≤ 10000000) (v : α) :
    ∃ w', (Instr.mapUpdate t (.map (some M)) (.int .i64 k) (val v)).run Tryz.prog w = .ok () w' ∧ IW enc R w' M (updF f k (some v)) ∧ w.grownBy w' (some M) := by
  obtain ⟨n, D, ks, hD, hs, h3, h4, h5, h6, hf⟩ := h
  have hn : n ≤ 10000000 := by rw [← h4]; exact hb ks h3 (fun k hk => (h5 k).1 hk)
  have hkey : keyOf Tryz.prog 3 (.int .i64 k) = some (.int .i64 k) := keyOf_int_mk Tryz.underlying3 hk
  have hI : WideAt.IsKeyLit (Lit.int .i64 k) := trivial
  obtain ⟨w', hrun, ho, hg⟩ := hD.update keyI ht (by unfold maxLen; omega) hkey (K.puts v)
  have hT := hD.tidy keyI
  refine ⟨w', hrun, ⟨Maps.size (D.put (.int .i64 k) (enc v)), _, if k ∈ ks then ks else ks ++ [k], ?_, rfl, ?_, ?_, ?_, ?_, fun x => ?_⟩, hg⟩
  · obtain ⟨es, clock, hb, F, hle, hd⟩ := ho
    refine ⟨es, clock, hb, F, ?_, hd⟩
    rw [hd]
    simp [Maps.size, length_sorted]
  · split
    · exact h3
    · rename_i hnk
      rw [List.nodup_append]
      exact ⟨h3, by simp, fun a ha b hb e => hnk (by simp at hb; rw [← hb, ← e]; exact ha)⟩
  · rw [size_put hT, (hf k).1, hs]
    by_cases hm : k ∈ ks
    · rw [if_pos hm, if_pos ((h5 k).1 hm), h4]
    · rw [if_neg hm, if_neg (fun e => hm ((h5 k).2 e)), List.length_append, h4]; rfl
  · intro x
    unfold updF
    by_cases e : x = k
    · subst e
      rw [if_pos rfl]
      by_cases hm : x ∈ ks <;> simp [hm]
    · rw [if_neg e, ← h5 x]
      by_cases hm : k ∈ ks <;> simp [hm, e]
  · intro x hx
    by_cases hm : k ∈ ks
    · rw [if_pos hm] at hx; exact h6 x hx
    · rw [if_neg hm] at hx
      rcases List.mem_append.1 hx with hx | hx
      · exact h6 x hx
      · simp at hx; subst hx; exact hk
  · unfold updF
    by_cases e : x = k
    · subst e
      rw [has_put_same hD.isMap hI, if_pos rfl]
      refine ⟨rfl, fun u hu z => ?_⟩
      rw [← Option.some.inj hu]
      exact atKey_put_same hD.isMap hI _ _
    · have hne : (Lit.int .i64 x) ≠ (Lit.int .i64 k) := fun e' => by injection e' with _ e'; exact e e'
      rw [has_put_other hne, if_neg e]
      refine ⟨(hf x).1, fun u hu z => ?_⟩
      rw [atKey_put_other hne]
      exact (hf x).2 u hu z
omit K in
theorem IW.drop (h : IW enc R w M f) (ht : Tryz.prog.underlying t = some (.map 3 e)) {k : Int} (hk : (Lit.int .i64 k).wf = true) (ty : TypeId) :
    ∃ w', (Builtin.delete_ #[t, 3] ty #[.map (some M), .int .i64 k]).run Tryz.prog w = .ok (.tuple #[]) w' ∧ IW enc R w' M (updF f k none) ∧ w.grownBy w' (some M) := by
  obtain ⟨n, D, ks, hD, hs, h3, h4, h5, h6, hf⟩ := h
  have hkey : keyOf Tryz.prog 3 (.int .i64 k) = some (.int .i64 k) := keyOf_int_mk Tryz.underlying3 hk
  obtain ⟨w', hrun, ho, hg⟩ := hD.drop keyI ht hkey ty
  have hT := hD.tidy keyI
  refine ⟨w', hrun, ⟨Maps.size (D.del (.int .i64 k)), _, ks.filter fun x => x != k, ?_, rfl, h3.filter _, ?_, ?_, ?_, fun x => ?_⟩, hg.grown⟩
  · obtain ⟨es, clock, hb, F, hle, hd⟩ := ho
    refine ⟨es, clock, hb, F, ?_, hd⟩
    rw [hd]
    simp [Maps.size, length_sorted]
  · have h7 := size_del (k := .int .i64 k) hT
    rw [(hf k).1, hs] at h7
    have h8 : (ks.filter fun x => x != k).length + (if k ∈ ks then 1 else 0) = ks.length := by
      clear h4 h5 h6 hf h7 hs hD ho
      induction ks with
      | nil => simp
      | cons a l ih =>
        rw [List.nodup_cons] at h3
        have h9 := ih h3.2
        by_cases ea : a = k
        · subst ea
          rw [if_neg h3.1] at h9
          simp
          simpa using h9
        · have h1 : (a != k) = true := by simpa using ea
          have h2 : k ≠ a := fun e => ea e.symm
          by_cases hm : k ∈ l
          · rw [if_pos hm] at h9; rw [if_pos (List.mem_cons_of_mem _ hm), List.filter_cons, if_pos h1]; simp only [List.length_cons]; omega
          · rw [if_neg hm] at h9; rw [if_neg (by simp [hm, h2]), List.filter_cons, if_pos h1]; simp only [List.length_cons]; omega
    by_cases hm : k ∈ ks
    · rw [if_pos hm] at h8; rw [if_pos ((h5 k).1 hm)] at h7; omega
    · rw [if_neg hm] at h8; rw [if_neg (fun e => hm ((h5 k).2 e))] at h7; omega
  · intro x
    unfold updF
    rw [List.mem_filter]
    by_cases e : x = k
    · subst e; simp
    · rw [if_neg e, ← h5 x]; simp [e]
  · intro x hx; exact h6 x (List.mem_filter.1 hx).1
  · unfold updF
    by_cases e : x = k
    · subst e
      rw [has_del_same, if_pos rfl]
      exact ⟨rfl, fun u hu => by cases hu⟩
    · have hne : (Lit.int .i64 x) ≠ (Lit.int .i64 k) := fun e' => by injection e' with _ e'; exact e e'
      rw [has_del_other hne, if_neg e]
      refine ⟨(hf x).1, fun u hu z => ?_⟩
      rw [atKey_del_other hne]
      exact (hf x).2 u hu z
theorem IW.look (h : IW enc R w M f) (ht : Tryz.prog.underlying t = some (.map 3 e)) {z : α} (hz : (zeroValue e).run Tryz.prog w = .ok (val z) w) {k : Int} (hk : (Lit.int .i64 k).wf = true) :
    (Instr.lookup t (.map (some M)) (.int .i64 k) true).run Tryz.prog w = .ok (.tuple #[val ((f k).getD z), .bool (f k).isSome]) w := by
  obtain ⟨n, D, ks, hD, hs, h3, h4, h5, h6, hf⟩ := h
  have hkey : keyOf Tryz.prog 3 (.int .i64 k) = some (.int .i64 k) := keyOf_int_mk Tryz.underlying3 hk
  obtain ⟨v, ps, hrun, hv⟩ := hD.look_ok keyI ht hz (K.puts z) hkey
  obtain ⟨c, rfl, hc⟩ := K.inv hv
  simp only [Prod.mk.injEq] at hc
  rw [hrun, (hf k).1]
  cases e : f k with
  | none =>
    have hh : Maps.has D (.int .i64 k) = false := by rw [(hf k).1, e]; rfl
    rw [atKey_of_not_has hh] at hc
    rw [← K.inj hc.1]; rfl
  | some u =>
    have := (hf k).2 u e
    rw [this] at hc
    rw [← K.inj hc.1]; rfl
theorem IW.look1 (h : IW enc R w M f) (ht : Tryz.prog.underlying t = some (.map 3 e)) {z : α} (hz : (zeroValue e).run Tryz.prog w = .ok (val z) w) {k : Int} (hk : (Lit.int .i64 k).wf = true) :
    (Instr.lookup t (.map (some M)) (.int .i64 k) false).run Tryz.prog w = .ok (val ((f k).getD z)) w := by
  obtain ⟨n, D, ks, ⟨es, clock, hb, F, _, hd⟩, hs, h3, h4, h5, h6, hf⟩ := h
  have hkey : keyOf Tryz.prog 3 (.int .i64 k) = some (.int .i64 k) := keyOf_int_mk Tryz.underlying3 hk
  have h1 := hf k
  rw [hd] at h1
  rcases Maps.fit_look false keyI ht hz hb F hkey with ⟨hr, _, hat⟩ | ⟨e0, y, _, _, hr, hRv, hat, _⟩
  · rw [Maps.has_false_of_atKey hat] at h1
    rw [hr]
    cases e : f k with
    | none => rfl
    | some u => rw [e] at h1; cases h1.1
  · rw [Maps.has_true_of_atKey hat] at h1
    obtain ⟨c, e1, e2⟩ := K.inv hRv
    rw [hr]
    cases e : f k with
    | none => rw [e] at h1; cases h1.1
    | some u =>
      have := h1.2 u e y.1
      rw [hat] at this
      rw [e1]
      rw [e2] at this
      rw [K.inj this]; rfl
end
/-- Its keys, however they come. -/
theorem IW.keys {α : Type} {enc : α → DataW Unit} {R : Value → Option (DataW Unit × List MemPlace)} {w : World} {M : Nat} {f : Int → Option α} (h : IW enc R w M f) : ∃ nn D, w.ownsMap Tryz.prog 3 R M nn D ∧ (∀ k, Maps.has D (.int .i64 k) = (f k).isSome) ∧ ∃ ks : List Int, ks.Nodup ∧ Maps.size D = ks.length ∧ (∀ k, k ∈ ks ↔ (f k).isSome = true) ∧ ∀ k ∈ ks, (Lit.int .i64 k).wf = true := by
  obtain ⟨n, D, ks, hD, hs, h3, h4, h5, h6, hf⟩ := h
  exact ⟨n, D, hD, fun k => (hf k).1, ks, h3, by rw [hs, h4], h5, h6⟩
end Go.Proofs.YtndfnglcichngaaGreatDoor
