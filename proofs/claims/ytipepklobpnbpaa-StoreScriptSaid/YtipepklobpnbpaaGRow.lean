/-
  Slices of whatever elements, each of z cells: what they read as; such a row with marked room behind it; cells set one behind the other.
-/
import Derived.Test.YtipepklobpnbpaaCame
import Derived.Test.YtipepklobpnbpaaTouch
namespace Go.Proofs.Ytipepklobpnbpaa
open Go.ChangeShapes Go.WideShapes Go.ChangeAt Go.RowKit
set_option linter.unusedVariables false
/-- A slice of n elements that reads as 'xs', nil let in. -/
def Reads {α : Type} (z : Nat) (vals : α → List Value) (w : World) (a : Option Addr) (n : Nat) (xs : List α) : Prop :=
  xs.length = n ∧ (0 < n → ∃ b off, a = some ⟨b, off, none⟩ ∧ ∀ (i : Nat) (x : α), xs[i]? = some x → ∀ (j : Nat) (u : Value), (vals x)[j]? = some u → w.cell? ⟨b, off + i * z + j, none⟩ = some u)
section
variable {α : Type} {z : Nat} {vals : α → List Value}
theorem Came.reads {fits : World → α → Prop} {w : World} {a : Option Addr} {n c : Nat} {xs : List α} (h : Came z vals fits w a n c xs) : Reads z vals w a n xs := by
  obtain ⟨h1, _, _, _, _, h2⟩ := h
  exact ⟨h1, fun hn => by obtain ⟨b, off, e, _, hc⟩ := h2 hn; exact ⟨b, off, e, hc⟩⟩
theorem Reads.below {w w' : World} {a : Option Addr} {n : Nat} {xs : List α} (h : Reads z vals w a n xs) (b : Below w.heap.size w w') : Reads z vals w' a n xs := by
  refine ⟨h.1, fun hn => ?_⟩
  obtain ⟨g, off, e, hc⟩ := h.2 hn
  exact ⟨g, off, e, fun i x hx j u hu => (b.cell (p := ⟨g, _, none⟩) (lt_of_cell? (hc i x hx j u hu))).trans (hc i x hx j u hu)⟩
theorem Reads.touch {S : Nat → Prop} {w w' : World} {a : Option Addr} {n : Nat} {xs : List α} (h : Reads z vals w a n xs) (t : Touch S w w') (d : ∀ b o, a = some ⟨b, o, none⟩ → ¬ S b) : Reads z vals w' a n xs := by
  refine ⟨h.1, fun hn => ?_⟩
  obtain ⟨g, off, e, hc⟩ := h.2 hn
  exact ⟨g, off, e, fun i x hx j u hu => t.cell (hc i x hx j u hu) (d g off e)⟩
theorem Reads.at_ {w : World} {a : Option Addr} {n : Nat} {xs : List α} (h : Reads z vals w a n xs) {i : Nat} (hi : i < n) : ∃ x b off, xs[i]? = some x ∧ a = some ⟨b, off, none⟩ ∧ ∀ (j : Nat) (u : Value), (vals x)[j]? = some u → w.cell? ⟨b, off + i * z + j, none⟩ = some u := by
  obtain ⟨b, off, e, hc⟩ := h.2 (by omega)
  have hx : xs[i]? = some (xs[i]'(by rw [h.1]; exact hi)) := List.getElem?_eq_getElem _
  exact ⟨_, b, off, hx, e, hc i _ hx⟩
theorem reads_nil {w : World} {a : Option Addr} : Reads z vals w a 0 [] := ⟨rfl, fun h => absurd h (by omega)⟩
theorem Reads.isNil {w : World} {a : Option Addr} {n : Nat} {xs : List α} (h : Reads z vals w a n xs) (e : a = none) : n = 0 := by
  rcases Nat.eq_zero_or_pos n with h0 | h0
  · exact h0
  · obtain ⟨b, off, e', _⟩ := h.2 h0; rw [e] at e'; cases e'
/-- A part of it. -/
theorem Reads.part {w : World} {b off n : Nat} {xs : List α} (h : Reads z vals w (some ⟨b, off, none⟩) n xs) (i k : Nat) (hk : i + k ≤ n) : Reads z vals w (some ⟨b, off + i * z, none⟩) k ((xs.drop i).take k) := by
  refine ⟨by rw [List.length_take, List.length_drop, h.1]; omega, fun hn => ⟨b, off + i * z, rfl, fun q x hx j u hu => ?_⟩⟩
  have hq : q < k := by
    have := (List.getElem?_eq_some_iff.1 hx).1
    rw [List.length_take] at this
    omega
  rw [List.getElem?_take_of_lt hq, List.getElem?_drop] at hx
  obtain ⟨b', off', e, hc⟩ := h.2 (by omega)
  injection e with e
  injection e with e1 e2
  subst e1 e2
  have := hc (i + q) x hx j u hu
  rwa [Nat.add_mul, ← Nat.add_assoc] at this
theorem Reads.front {w : World} {a : Option Addr} {n : Nat} {xs : List α} (h : Reads z vals w a n xs) {k : Nat} (hk : k ≤ n) : Reads z vals w a k (xs.take k) := by
  refine ⟨by rw [List.length_take, h.1]; omega, fun hn => ?_⟩
  obtain ⟨g, off, e, hc⟩ := h.2 (by omega)
  refine ⟨g, off, e, fun i x hx j u hu => hc i x ?_ j u hu⟩
  have hi : i < k := by
    have := (List.getElem?_eq_some_iff.1 hx).1
    rw [List.length_take] at this
    omega
  rwa [List.getElem?_take_of_lt hi] at hx
theorem flat_length (hv : ∀ x, (vals x).length = z) (l : List α) : (l.flatMap vals).length = l.length * z := by
  induction l with
  | nil => simp
  | cons x l ih => rw [List.flatMap_cons, List.length_append, ih, hv, List.length_cons, Nat.add_mul]; omega
theorem flat_at (hv : ∀ x, (vals x).length = z) {l : List α} {i j : Nat} {x : α} (h : l[i]? = some x) (hj : j < z) : (l.flatMap vals)[i * z + j]? = (vals x)[j]? := by
  induction l generalizing i with
  | nil => simp at h
  | cons y l ih =>
    rw [List.flatMap_cons]
    cases i with
    | zero =>
      simp at h
      subst h
      rw [Nat.zero_mul, Nat.zero_add, List.getElem?_append_left (by rw [hv]; exact hj)]
    | succ i =>
      rw [List.getElem?_append_right (by rw [hv, Nat.add_mul]; omega), hv]
      have : (i + 1) * z + j - z = i * z + j := by rw [Nat.add_mul]; omega
      rw [this]
      exact ih (by simpa using h)
theorem flat_cell (h1 : ∀ x, ∀ v ∈ vals x, v.oneCell' = true) (l : List α) : ∀ v ∈ l.flatMap vals, v.oneCell' = true := by
  intro v hv
  obtain ⟨x, _, h⟩ := List.mem_flatMap.mp hv
  exact h1 x v h
theorem Reads.cells (hv : ∀ x, (vals x).length = z) {w : World} {a : Option Addr} {n : Nat} {xs : List α} (h : Reads z vals w a n xs) : ∀ ad, a = some ad → ∀ j u, (xs.flatMap vals)[j]? = some u → w.cell? (ad.add j) = some u := by
  intro ad ha j u hu
  have hj : j < (xs.flatMap vals).length := (List.getElem?_eq_some_iff.mp hu).1
  rw [flat_length hv, h.1] at hj
  have hz : 0 < z := by
    rcases Nat.eq_zero_or_pos z with e | e
    · rw [e] at hj; omega
    · exact e
  have hi : j / z < n := Nat.div_lt_of_lt_mul (by rw [Nat.mul_comm]; exact hj)
  obtain ⟨x, b, off, hx, e, hc⟩ := h.at_ hi
  rw [ha] at e
  injection e with e
  subst e
  have hm : j % z < z := Nat.mod_lt _ hz
  have hd : j / z * z + j % z = j := by rw [Nat.mul_comm]; exact Nat.div_add_mod j z
  rw [← hd, flat_at hv hx hm] at hu
  have := hc _ _ hu
  rw [addr_add]
  rw [show off + j = off + j / z * z + j % z by omega]
  exact this
/-- An own row reads as what lies in it. -/
theorem own_reads (hv : ∀ x, (vals x).length = z) {w : World} {B n : Nat} {e : TypeId} {v : Value} {xs : List α} (hz : 0 < z) (h : w.ownsRow B e z v n (xs.flatMap vals)) : ∃ a c, v = .slice a n c ∧ Reads z vals w a n xs ∧ n ≤ c ∧ c ≤ maxLen ∧ (a = none → c = 0) := by
  have hl : xs.length = n := by
    have := h.1
    rw [flat_length hv] at this
    exact Nat.eq_of_mul_eq_mul_right hz this
  rcases h.2 with ⟨rfl, rfl⟩ | ⟨g, cap, cur, rfl, _, _, h1, h2, _⟩
  · obtain rfl : xs = [] := List.eq_nil_of_length_eq_zero hl
    exact ⟨none, 0, rfl, reads_nil, Nat.le_refl _, by unfold maxLen; omega, fun _ => rfl⟩
  · refine ⟨_, _, rfl, ⟨hl, fun hn => ⟨g, 0, rfl, fun i x hx j u hu => ?_⟩⟩, h1, h2, (fun e => by cases e)⟩
    have hi : i < n := by have := (List.getElem?_eq_some_iff.1 hx).1; omega
    have hj : j < z := by have := (List.getElem?_eq_some_iff.1 hu).1; rw [hv] at this; exact this
    have hlt : i * z + j < n * z := by
      have : (i + 1) * z ≤ n * z := Nat.mul_le_mul_right z hi
      rw [Nat.add_mul] at this; omega
    rw [Nat.zero_add]
    exact (h.cellAt (i * z + j) hlt).trans ((flat_at hv hx hj).trans hu)
/-- 'append' of a slice that may be nil onto a row of one's own. -/
theorem wpList_append_reads {P : Program} {ops : Array Oper} {rest : List Oper} {o : Oper} {a : Act} {w : World} {Q : Exit → Act → World → Prop} (hgd : o.guard = none) (s x : Operand) (ty : TypeId)
    (ho : o.op = .call { callee := .builtin .append, args := #[s, x], argTypes := #[ty, ty] }) (base : Nat) (e : TypeId) (i : TypeInfo) (zv : Value) (bytes : Nat) (ht : P.underlying ty = some (.slice e)) (hi : P.info? e = some i) (hz : i.zero = some zv)
    (hsize : i.size = z) (hby : i.bytes = bytes) (hzs : zv.cells.size = z) (hsz : 0 < z) (v : Value) (n : Nat) (xs : List Value) (hs : a.eval s = v) (hown : w.ownsRow base e z v n xs)
    (A : Option Addr) (m c : Nat) (ys : List α) (hx : a.eval x = .slice A m c) (hv : ∀ x, (vals x).length = z) (h1 : ∀ x, ∀ v ∈ vals x, v.oneCell' = true) (hr : Reads z vals w A m ys) (hnil : A = none → c = 0)
    (h63 : n + m ≤ maxLen) (hbytes : (n + m) * bytes ≤ 140737488355328) (hbase : base ≤ w.heap.size)
    (h : ∀ v' w', w'.ownsRow base e z v' (n + m) (xs ++ ys.flatMap vals) → w.grownBy w' v.ownBlock → wpList P ops Q rest (a.put o.dst v') w') : wpList P ops Q (o :: rest) a w := by
  cases A with
  | none =>
    obtain rfl := hr.isNil rfl
    obtain rfl : ys = [] := List.eq_nil_of_length_eq_zero hr.1
    obtain rfl := hnil rfl
    refine wpList_plain hgd fun K hK => ?_
    have hrun := run_append_owned_none (P := P) (w := w) base ty o.type e i z ht hi v n xs hown
    unfold Oper.wp execOp
    simp only [ho, resolve, invoke, builtin, Sem.run_bind, Sem.run_pure, Result.andThen_ok, List.map_toArray, List.map_cons, List.map_nil, hs, hx, hrun]
    exact hK _ _ (h v w (by simpa using hown) (World.grownBy.refl w _))
  | some ad => exact wpList_append_own_at w hgd s x ty ho base e i zv z bytes ht hi hz hsize hby hzs hsz v n xs hs hown ad m c (ys.flatMap vals) hx (by rw [flat_length hv, hr.1]) (hr.cells hv ad rfl) (flat_cell h1 ys) h63 hbytes hbase (fun v' w' h1 h2 _ _ => h v' w' h1 h2)
/-- A new block's cells. -/
theorem cells_new (w : World) (cs : List Value) (t : TypeId) (n : Nat) (hn : n = w.heap.size) : ∀ (j : Nat) (u : Value), cs[j]? = some u → (w.alloc (.cells cs.toArray t)).cell? ((⟨n, 0, none⟩ : Addr).add j) = some u := by
  intro j u hu
  subst hn
  rw [addr_add, Nat.zero_add, cell_of_row _ _ _ _ t (0, 0) (heap_alloc_new w _)]
  simpa using hu
/-- Cells set one behind the other. -/
def setSeg (w : World) (g m : Nat) : List Value → World
  | [] => w
  | v :: vs => setSeg (w.setCell ⟨g, m, none⟩ v) g (m + 1) vs
theorem setSeg_heap (vs : List Value) : ∀ (w : World) (g m : Nat) (cur : Array Value) (t : TypeId), w.heap[g]? = some (.cells cur t (0, 0)) → m + vs.length ≤ cur.size → ∃ cur', (setSeg w g m vs).heap[g]? = some (.cells cur' t (0, 0)) ∧ cur'.size = cur.size ∧ cur'.toList = splice cur.toList m vs := by
  induction vs with
  | nil => intro w g m cur t h hl; exact ⟨cur, h, rfl, by unfold splice; simp⟩
  | cons v vs ih =>
    intro w g m cur t h hl
    have h1 := heap_setCell_same w g m cur t v h
    obtain ⟨cur', h2, h3, h4⟩ := ih (w.setCell ⟨g, m, none⟩ v) g (m + 1) _ t h1 (by simp at hl ⊢; omega)
    refine ⟨cur', h2, by simpa using h3, ?_⟩
    rw [h4, Array.toList_setIfInBounds]
    simp at hl
    apply List.ext_getElem?
    intro j
    rw [getElem?_splice _ _ _ (by simp; omega), getElem?_splice _ _ _ (by simp; omega)]
    by_cases hj : j = m
    · subst hj
      rw [if_neg (by omega), if_pos (by simp), List.getElem?_set_self (by simp; omega)]
      simp
    · rw [List.getElem?_set_ne (by omega)]
      by_cases hj2 : m + 1 ≤ j ∧ j < m + 1 + vs.length
      · rw [if_pos hj2, if_pos (by simp; omega)]
        rw [show j - m = (j - (m + 1)) + 1 by omega, List.getElem?_cons_succ]
      · rw [if_neg hj2, if_neg (by simp; omega)]
theorem setSeg_touch {S : Nat → Prop} {w : World} {g : Nat} (hg : S g) (vs : List Value) : ∀ (w' : World) (m : Nat), Touch S w w' → Touch S w (setSeg w' g m vs) := by
  induction vs with
  | nil => intro w' m h; exact h
  | cons v vs ih => intro w' m h; exact ih _ _ (h.setCell (p := ⟨g, m, none⟩) hg v)
/-- Block g is a row: n elements, k marks, and what is left of three. -/
def RoomG (z : Nat) (vals : α → List Value) (mk : α) (t : TypeId) (w : World) (g n k : Nat) (ys : List α) : Prop :=
  ∃ cur : Array Value, w.heap[g]? = some (.cells cur t (0, 0)) ∧ cur.size = (n + 3) * z ∧ cur.toList.take ((n + k) * z) = (ys ++ List.replicate k mk).flatMap vals
variable {mk : α} {t : TypeId}
theorem RoomG.below {w w' : World} {g n k : Nat} {ys : List α} (h : RoomG z vals mk t w g n k ys) (b : Below w.heap.size w w') : RoomG z vals mk t w' g n k ys := by
  obtain ⟨cur, hh, r⟩ := h
  exact ⟨cur, (b.block g (lt_of_heap hh)).trans hh, r⟩
theorem RoomG.touch {S : Nat → Prop} {w w' : World} {g n k : Nat} {ys : List α} (h : RoomG z vals mk t w g n k ys) (b : Touch S w w') (d : ¬ S g) : RoomG z vals mk t w' g n k ys := by
  obtain ⟨cur, hh, r⟩ := h
  exact ⟨cur, (b.block g (lt_of_heap hh) d).trans hh, r⟩
theorem RoomG.spot {w : World} {g n k : Nat} {ys : List α} (h : RoomG z vals mk t w g n k ys) (hk : k < 3) : (∀ j, j < z → ∃ u, w.cell? ⟨g, (n + k) * z + j, none⟩ = some u) ∧ ∀ j, w.frozen? ⟨g, j, none⟩ = false := by
  obtain ⟨cur, hh, hs, ht⟩ := h
  refine ⟨fun j hj => ?_, fun j => frozen_of_row _ _ _ _ _ hh⟩
  have : (n + k) * z + j < cur.size := by
    have h1 : (n + k + 1) * z ≤ (n + 3) * z := Nat.mul_le_mul_right z (by omega)
    rw [Nat.add_mul (n + k)] at h1
    omega
  exact ⟨cur[(n + k) * z + j], by rw [cell_of_row _ _ _ _ _ _ hh]; exact Array.getElem?_eq_getElem this⟩
theorem RoomG.set {w : World} {g n k : Nat} {ys : List α} (h : RoomG z vals mk t w g n k ys) (hv : ∀ x, (vals x).length = z) (hk : k < 3) : RoomG z vals mk t (setSeg w g ((n + k) * z) (vals mk)) g n (k + 1) ys := by
  obtain ⟨cur, hh, hs, ht⟩ := h
  have h1 : (n + k) * z + z ≤ (n + 3) * z := by
    have h1 : (n + k + 1) * z ≤ (n + 3) * z := Nat.mul_le_mul_right z (by omega)
    rw [Nat.add_mul (n + k)] at h1
    omega
  obtain ⟨cur', h2, h3, h4⟩ := setSeg_heap (vals mk) w g ((n + k) * z) cur t hh (by rw [hv]; omega)
  refine ⟨cur', h2, by omega, ?_⟩
  rw [h4, List.replicate_succ', ← List.append_assoc, List.flatMap_append, ← ht]
  have e1 : (n + (k + 1)) * z = (n + k) * z + z := by rw [← Nat.add_assoc, Nat.add_mul (n + k)]; omega
  rw [e1]
  unfold splice
  have hl : (cur.toList.take ((n + k) * z)).length = (n + k) * z := by rw [List.length_take]; simp; omega
  have e2 : (List.take ((n + k) * z) cur.toList ++ (vals mk ++ List.drop ((n + k) * z + (vals mk).length) cur.toList)) = ((List.take ((n + k) * z) cur.toList ++ vals mk) ++ List.drop ((n + k) * z + (vals mk).length) cur.toList) := (List.append_assoc _ _ _).symm
  have e3 : (List.take ((n + k) * z) cur.toList ++ vals mk).length = (n + k) * z + z := by rw [List.length_append, hl, hv]
  first
  | rw [e2, ← e3, List.take_left]
  | rw [← e3, List.take_left]
  simp
theorem RoomG.at_ {w : World} {g n : Nat} {ys : List α} (h : RoomG z vals mk t w g n 3 ys) (hv : ∀ x, (vals x).length = z) {i : Nat} {x : α} (hx : (ys ++ List.replicate 3 mk)[i]? = some x) {j : Nat} {u : Value} (hu : (vals x)[j]? = some u) : w.cell? ⟨g, i * z + j, none⟩ = some u := by
  obtain ⟨cur, hh, hs, ht⟩ := h
  have h1 : cur.toList.take ((n + 3) * z) = cur.toList := List.take_of_length_le (by simp; omega)
  rw [h1] at ht
  have hj : j < z := by have := (List.getElem?_eq_some_iff.1 hu).1; rw [hv] at this; exact this
  rw [cell_of_row _ _ _ _ _ _ hh, ← Array.getElem?_toList, ht, flat_at hv hx hj, hu]
theorem RoomG.row {w : World} {g n : Nat} {ys : List α} (h : RoomG z vals mk t w g n 3 ys) (hv : ∀ x, (vals x).length = z) (hl : ys.length = n) : Reads z vals w (some ⟨g, 0, none⟩) n ys := by
  refine ⟨hl, fun hn => ⟨g, 0, rfl, fun i x hx j u hu => ?_⟩⟩
  rw [Nat.zero_add]
  exact h.at_ hv (by rw [List.getElem?_append_left (List.getElem?_eq_some_iff.1 hx).1]; exact hx) hu
theorem RoomG.mark {w : World} {g n : Nat} {ys : List α} (h : RoomG z vals mk t w g n 3 ys) (hv : ∀ x, (vals x).length = z) (hl : ys.length = n) {k : Nat} (hk : k < 3) {j : Nat} {u : Value} (hu : (vals mk)[j]? = some u) : w.cell? ⟨g, (n + k) * z + j, none⟩ = some u :=
  h.at_ hv (by rw [List.getElem?_append_right (by omega), List.getElem?_replicate, if_pos (by omega)]) hu
end
end Go.Proofs.Ytipepklobpnbpaa
