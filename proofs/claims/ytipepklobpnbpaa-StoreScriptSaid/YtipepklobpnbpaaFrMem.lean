/-
  The frames in memory: the struct, the row of frames, the row of the free ones.
-/
import Derived.Test.YtipepklobpnbpaaTouch
namespace Go.Proofs.Ytipepklobpnbpaa
open Go.ChangeShapes Go.WideShapes Go.ChangeAt Go.RowKit
set_option linter.unusedVariables false
/-- What frames are: how many, which are taken, what each byte is, the free ones (the last one goes first). -/
structure St where
  n : Nat
  tk : Nat → Bool
  bt : Nat → Nat → Int
  fr : List Nat
structure Good (s : St) : Prop where
  n0 : 1 ≤ s.n
  n64 : s.n ≤ 64
  nodup : s.fr.Nodup
  free : ∀ i, i < s.n → (i ∈ s.fr ↔ s.tk i = false)
  lt : ∀ i ∈ s.fr, i < s.n
  zero : ∀ i j, i < s.n → j < 64 → s.tk i = false → s.bt i j = 0
  byte : ∀ i j, i < s.n → j < 64 → 0 ≤ s.bt i j ∧ s.bt i j ≤ 255
theorem nodup_len {n : Nat} {l : List Nat} (h : l.Nodup) (hl : ∀ i ∈ l, i < n) : l.length ≤ n := by
  induction n generalizing l with
  | zero =>
    cases l with
    | nil => simp
    | cons x l => have := hl x (by simp); omega
  | succ n ih =>
    by_cases hm : n ∈ l
    · have h1 := ih (h.erase n) (fun i hi => by
        have h2 := (h.mem_erase_iff).1 hi
        have h3 := hl i h2.2
        have h4 := h2.1
        omega)
      rw [List.length_erase_of_mem hm] at h1
      omega
    · have := ih h (fun i hi => by
        have h3 := hl i hi
        have h4 : i ≠ n := fun e => hm (e ▸ hi)
        omega)
      omega
theorem Good.len {s : St} (h : Good s) : s.fr.length ≤ s.n := nodup_len h.nodup h.lt
theorem Good.room {s : St} (h : Good s) {i : Nat} (hi : i < s.n) (ht : s.tk i = true) : s.fr.length < s.n := by
  have hn : i ∉ s.fr := fun e => by rw [(h.free i hi).1 e] at ht; cases ht
  have := nodup_len (n := s.n) (l := i :: s.fr) (List.nodup_cons.2 ⟨hn, h.nodup⟩) (fun j hj => by
    rcases List.mem_cons.1 hj with e | e
    · rw [e]; exact hi
    · exact h.lt j e)
  rw [List.length_cons] at this
  omega
/-- The row of frames. -/
def RowF (w : World) (A : Nat) (s : St) : Prop :=
  ∃ cur : List Value, w.heap[A]? = some (.cells cur.toArray 94 (0, 0)) ∧ cur.length = s.n * 65 ∧ ∀ i, i < s.n → cur[i * 65]? = some (.bool (s.tk i)) ∧ ∀ j, j < 64 → cur[i * 65 + (1 + j)]? = some (.int .u8 (s.bt i j))
/-- The numbers of the free ones. -/
def nums (l : List Nat) : List Int := l.map Int.ofNat
/-- The frames at block H. -/
structure Fr (w : World) (H A Q : Nat) (s : St) : Prop where
  good : Good s
  head : w.heap[H]? = some (.cells #[.slice (some ⟨A, 0, none⟩) s.n s.n, .slice (some ⟨Q, 0, none⟩) s.fr.length s.n] 69 (0, 0))
  row : RowF w A s
  free : w.ownsRow 0 3 1 (.slice (some ⟨Q, 0, none⟩) s.fr.length s.n) s.fr.length ((nums s.fr).map (Value.int .i64))
  ha : H ≠ A
  hq : H ≠ Q
  aq : A ≠ Q
theorem Fr.ltH {w : World} {H A Q : Nat} {s : St} (h : Fr w H A Q s) : H < w.heap.size := lt_of_heap h.head
theorem Fr.ltA {w : World} {H A Q : Nat} {s : St} (h : Fr w H A Q s) : A < w.heap.size := by obtain ⟨cur, e, _⟩ := h.row; exact lt_of_heap e
theorem Fr.ltQ {w : World} {H A Q : Nat} {s : St} (h : Fr w H A Q s) : Q < w.heap.size := (h.free.lt Q rfl).2
/-- The three blocks. -/
def Blk (H A Q : Nat) (i : Nat) : Prop := i = H ∨ i = A ∨ i = Q
theorem RowF.keep {w w' : World} {A : Nat} {s : St} (h : RowF w A s) (e : w'.heap[A]? = w.heap[A]?) : RowF w' A s := by
  obtain ⟨cur, h1, h2⟩ := h
  exact ⟨cur, e.trans h1, h2⟩
theorem Fr.keep {w w' : World} {H A Q : Nat} {s : St} (h : Fr w H A Q s) (e : ∀ i, Blk H A Q i → w'.heap[i]? = w.heap[i]?) : Fr w' H A Q s := by
  refine ⟨h.good, (e H (.inl rfl)).trans h.head, h.row.keep (e A (.inr (.inl rfl))), ⟨h.free.1, ?_⟩, h.ha, h.hq, h.aq⟩
  rcases h.free.2 with hn | ⟨g, cap, cur, e1, e2, e3, rest⟩
  · exact .inl hn
  · injection e1 with e4 _ e5
    injection e4 with e4
    injection e4 with e4 _ _
    subst e4
    exact .inr ⟨Q, cap, cur, by rw [← e5], e2, (e Q (.inr (.inr rfl))).trans e3, rest⟩
theorem Fr.touch {S : Nat → Prop} {w w' : World} {H A Q : Nat} {s : St} (h : Fr w H A Q s) (t : Touch S w w') (d : ∀ i, Blk H A Q i → ¬ S i) : Fr w' H A Q s :=
  h.keep fun i hi => t.block i (by rcases hi with rfl | rfl | rfl; exact h.ltH; exact h.ltA; exact h.ltQ) (d i hi)
theorem Fr.below {w w' : World} {H A Q : Nat} {s : St} (h : Fr w H A Q s) (t : Below w.heap.size w w') : Fr w' H A Q s := h.touch (S := fun _ => False) (Touch.of_below t) (fun _ _ e => e)
theorem Fr.h0 {w : World} {H A Q : Nat} {s : St} (h : Fr w H A Q s) : w.cell? ⟨H, 0, none⟩ = some (.slice (some ⟨A, 0, none⟩) s.n s.n) := by rw [cell_of_row _ _ _ _ _ _ h.head]; rfl
theorem Fr.h1 {w : World} {H A Q : Nat} {s : St} (h : Fr w H A Q s) : w.cell? ⟨H, 1, none⟩ = some (.slice (some ⟨Q, 0, none⟩) s.fr.length s.n) := by rw [cell_of_row _ _ _ _ _ _ h.head]; rfl
theorem Fr.f0 {w : World} {H A Q : Nat} {s : St} (h : Fr w H A Q s) (j : Nat) : w.frozen? ⟨H, j, none⟩ = false := frozen_of_row _ _ _ _ _ h.head
theorem Fr.fa {w : World} {H A Q : Nat} {s : St} (h : Fr w H A Q s) (j : Nat) : w.frozen? ⟨A, j, none⟩ = false := by obtain ⟨cur, e, _⟩ := h.row; exact frozen_of_row _ _ _ _ _ e
theorem Fr.tk {w : World} {H A Q : Nat} {s : St} (h : Fr w H A Q s) (i : Nat) (hi : i < s.n) : w.cell? ⟨A, i * 65, none⟩ = some (.bool (s.tk i)) := by
  obtain ⟨cur, e, _, hc⟩ := h.row
  rw [cell_of_row _ _ _ _ _ _ e]
  simpa using (hc i hi).1
theorem Fr.bt {w : World} {H A Q : Nat} {s : St} (h : Fr w H A Q s) (i j : Nat) (hi : i < s.n) (hj : j < 64) : w.cell? ⟨A, i * 65 + (1 + j), none⟩ = some (.int .u8 (s.bt i j)) := by
  obtain ⟨cur, e, _, hc⟩ := h.row
  rw [cell_of_row _ _ _ _ _ _ e]
  simpa using (hc i hi).2 j hj
theorem Fr.fq {w : World} {H A Q : Nat} {s : St} (h : Fr w H A Q s) (k : Nat) (hk : k < s.fr.length) : w.cell? ⟨Q, k, none⟩ = some (.int .i64 (s.fr.getD k 0 : Nat)) := by
  rw [h.free.cellAt k (by omega)]
  simp [nums, hk, List.getD]
end Go.Proofs.Ytipepklobpnbpaa
