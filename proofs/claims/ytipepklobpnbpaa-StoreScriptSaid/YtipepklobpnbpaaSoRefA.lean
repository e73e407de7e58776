/-
  The document's own store (coxswainref20) in memory; at, Size, Blocks, Read.
-/
import Derived.Test.YtipepklobpnbpaaSoBoth
import Derived.Test.YtipepklobpnbpaaGRow
import Derived.Test.YtipepklobpnbpaaRfOwn
namespace Go.Proofs.Ytipepklobpnbpaa
open Go.ChangeShapes Go.WideShapes Go.ChangeAt Go.RowKit
set_option linter.unusedVariables false
set_option linter.unusedSimpArgs false
/-- A file of the document's: its number, its bytes and where they lie, its frames and where their numbers lie. -/
structure Rfl where
  id : Int
  b : List Int
  ba : Option Addr
  bc : Nat
  F : List Nat
  fa : Option Addr
  fc : Nat
def Rfl.bv (x : Rfl) : Value := .slice x.ba x.b.length x.bc
def Rfl.fv (x : Rfl) : Value := .slice x.fa x.F.length x.fc
def Rfl.fi (x : Rfl) : Fi := ⟨x.id, x.b⟩
def Rfl.im (x : Rfl) (i : Nat) : Prop := x.bv.ownBlock = some i ∨ x.fv.ownBlock = some i
def rflV (x : Rfl) : List Value := [.int .i64 x.id, x.bv, x.fv]
theorem rflV_cell (x : Rfl) : ∀ v ∈ rflV x, v.oneCell' = true := by
  intro v hv
  simp [rflV, Rfl.bv, Rfl.fv] at hv
  rcases hv with rfl | rfl | rfl <;> rfl
theorem rflV_len (x : Rfl) : (rflV x).length = 3 := rfl
theorem file_info : (Try.prog.info? 81).map (fun i => (i.zero, i.size, i.bytes)) = some (some (.agg #[.int .i64 0, .slice none 0 0, .slice none 0 0]), 3, 56) := by kernel_rfl
/-- Its slices in memory. -/
structure RflOk (w : World) (x : Rfl) : Prop where
  bs : w.ownsRow 0 5 1 x.bv x.b.length (x.b.map (Value.int .u8))
  fs : w.ownsRow 0 3 1 x.fv x.F.length ((nums x.F).map (Value.int .i64))
theorem RflOk.touch {S : Nat → Prop} {w w' : World} {x : Rfl} (h : RflOk w x) (u : Touch S w w') (d : ∀ i, x.im i → ¬ S i) : RflOk w' x :=
  ⟨u.own h.bs (fun g hg => d g (.inl hg)), u.own h.fs (fun g hg => d g (.inr hg))⟩
theorem RflOk.below {w w' : World} {x : Rfl} (h : RflOk w x) (u : Below w.heap.size w w') : RflOk w' x := h.touch (S := fun _ => False) (Touch.of_below u) (fun _ _ e => e)
theorem RflOk.lt {w : World} {x : Rfl} (h : RflOk w x) : ∀ i, x.im i → i < w.heap.size := by
  rintro i (e | e)
  · exact (h.bs.lt i e).2
  · exact (h.fs.lt i e).2
def fss (xs : List Rfl) : List Nat := xs.flatMap Rfl.F
/-- The document's store at G over its frames at R: its memory. -/
structure DsoM (w : World) (D : Nat → Prop) (G R : Nat) (xs : List Rfl) (vL : Value) (t b : Nat) (st : St) (fresh : Nat) (back : List Nat) (K : Nat → Prop) : Prop where
  hd : w.heap[G]? = some (.cells #[.pointer (some ⟨R, 0, none⟩), vL] 38 (0, 0))
  row : w.ownsRow 0 81 3 vL xs.length (xs.flatMap rflV)
  ok : ∀ x ∈ xs, RflOk w x
  rf : RfG w K R t b st fresh back
  nod : (fss xs).Nodup
  tkn : ∀ f ∈ fss xs, f < st.n ∧ st.tk f = true
  sep : ∀ x ∈ xs, ∀ i, x.im i → i ≠ G ∧ vL.ownBlock ≠ some i ∧ ¬ K i
  sG : vL.ownBlock ≠ some G ∧ ¬ K G
  sL : ∀ i, vL.ownBlock = some i → ¬ K i
  un : ∀ i, D i ↔ i = G ∨ vL.ownBlock = some i ∨ K i ∨ ∃ x ∈ xs, x.im i
/-- What it means. -/
structure DsoP (s : So) (xs : List Rfl) (st : St) : Prop where
  l : s.l = xs.map Rfl.fi
  fr : s.fr = st.fr.length
  good : GoodSo s
  few : s.l.length ≤ 100000
  blk : ∀ x ∈ xs, x.F.length = blkN x.b.length
structure DsoAt (w : World) (D : Nat → Prop) (G R : Nat) (s : So) (xs : List Rfl) (vL : Value) (t b : Nat) (st : St) (fresh : Nat) (back : List Nat) (K : Nat → Prop) : Prop where
  m : DsoM w D G R xs vL t b st fresh back K
  p : DsoP s xs st
def Dso (R : Nat) : Rel So := fun w D G s => ∃ xs vL t b st fresh back K, DsoAt w D G R s xs vL t b st fresh back K
section
variable {w : World} {D : Nat → Prop} {G R : Nat} {s : So} {xs : List Rfl} {vL : Value} {t b : Nat} {st : St} {fresh : Nat} {back : List Nat} {K : Nat → Prop}
theorem DsoM.lt (h : DsoM w D G R xs vL t b st fresh back K) : ∀ i, D i → i < w.heap.size := by
  intro i hi
  rcases (h.un i).1 hi with rfl | e | e | ⟨x, hx, e⟩
  · exact lt_of_heap h.hd
  · exact (h.row.lt i e).2
  · exact h.rf.2 i e
  · exact (h.ok x hx).lt i e
theorem DsoM.keep {V : Nat → Prop} {w' : World} (h : DsoM w D G R xs vL t b st fresh back K) (u : Touch V w w') (d : ∀ i, D i → ¬ V i) : DsoM w' D G R xs vL t b st fresh back K :=
  ⟨(u.block G (lt_of_heap h.hd) (d G ((h.un G).2 (.inl rfl)))).trans h.hd, u.own h.row (fun g hg => d g ((h.un g).2 (.inr (.inl hg)))), fun x hx => (h.ok x hx).touch u (fun i e => d i ((h.un i).2 (.inr (.inr (.inr ⟨x, hx, e⟩))))), h.rf.keep u (fun i e => d i ((h.un i).2 (.inr (.inr (.inl e))))), h.nod, h.tkn, h.sep, h.sG, h.sL, h.un⟩
theorem DsoM.below {w' : World} (h : DsoM w D G R xs vL t b st fresh back K) (u : Below w.heap.size w w') : DsoM w' D G R xs vL t b st fresh back K := h.keep (V := fun _ => False) (Touch.of_below u) (fun _ _ e => e)
theorem DsoAt.below {w' : World} (h : DsoAt w D G R s xs vL t b st fresh back K) (u : Below w.heap.size w w') : DsoAt w' D G R s xs vL t b st fresh back K := ⟨h.m.below u, h.p⟩
end
theorem keepsDso (R : Nat) : Keeps (Dso R) where
  keep := by
    rintro V U w w' S s ⟨xs, vL, t, b, st, fresh, back, K, h⟩ u d
    exact ⟨xs, vL, t, b, st, fresh, back, K, h.m.keep u d, h.p⟩
  lt := by
    rintro U w S s ⟨xs, vL, t, b, st, fresh, back, K, h⟩ i hi
    exact h.m.lt i hi
section
variable {w : World} {D : Nat → Prop} {G R : Nat} {s : So} {xs : List Rfl} {vL : Value} {t b : Nat} {st : St} {fresh : Nat} {back : List Nat} {K : Nat → Prop}
theorem fi_none {l : List Rfl} {id : Int} : getFi (l.map Rfl.fi) id = none ↔ ∀ x ∈ l, x.id ≠ id := by
  rw [getFi_none]
  constructor
  · intro h x hx e
    exact h (by unfold idsFi; rw [List.map_map, List.mem_map]; exact ⟨x, hx, e⟩)
  · intro h hm
    unfold idsFi at hm
    rw [List.map_map, List.mem_map] at hm
    obtain ⟨x, hx, e⟩ := hm
    exact h x hx e
theorem fi_split : ∀ {l : List Rfl} {id : Int} {o : List Int}, getFi (l.map Rfl.fi) id = some o → ∃ p x q, l = p ++ x :: q ∧ x.id = id ∧ x.b = o ∧ ∀ y ∈ p, y.id ≠ id := by
  intro l
  induction l with
  | nil => intro id o h; cases h
  | cons x l ih =>
    intro id o h
    have h0 : (if x.id = id then some x.b else getFi (l.map Rfl.fi) id) = some o := h
    by_cases e : x.id = id
    · rw [if_pos e] at h0
      injection h0 with h0
      exact ⟨[], x, l, rfl, e, h0, fun y hy => absurd hy List.not_mem_nil⟩
    · rw [if_neg e] at h0
      obtain ⟨p, y, q, h1, h2, h3, h4⟩ := ih h0
      refine ⟨x :: p, y, q, by rw [h1]; rfl, h2, h3, fun z hz => ?_⟩
      rcases List.mem_cons.1 hz with rfl | hz
      · exact e
      · exact h4 z hz
theorem put_split {p q : List Rfl} {x : Rfl} {id : Int} (hx : x.id = id) (hp : ∀ y ∈ p, y.id ≠ id) (o : List Int) : putFi ((p ++ x :: q).map Rfl.fi) id o = p.map Rfl.fi ++ ⟨id, o⟩ :: q.map Rfl.fi := by
  induction p with
  | nil =>
    show (if x.id = id then _ else _) = _
    rw [if_pos hx]; rfl
  | cons y p ih =>
    show (if y.id = id then _ else _) = _
    rw [if_neg (hp y (List.mem_cons_self ..))]
    show y.fi :: putFi ((p ++ x :: q).map Rfl.fi) id o = _
    rw [ih (fun z hz => hp z (List.mem_cons_of_mem _ hz))]; rfl
theorem del_split {p q : List Rfl} {x : Rfl} {id : Int} (hx : x.id = id) (hp : ∀ y ∈ p, y.id ≠ id) : delFi ((p ++ x :: q).map Rfl.fi) id = (p ++ q).map Rfl.fi := by
  induction p with
  | nil =>
    show (if x.id = id then _ else _) = _
    rw [if_pos hx]; rfl
  | cons y p ih =>
    show (if y.id = id then _ else _) = _
    rw [if_neg (hp y (List.mem_cons_self ..))]
    show y.fi :: delFi ((p ++ x :: q).map Rfl.fi) id = _
    rw [ih (fun z hz => hp z (List.mem_cons_of_mem _ hz))]; rfl
/-- The struct's cells; the row's cells. -/
theorem DsoM.c0 (h : DsoM w D G R xs vL t b st fresh back K) : w.cell? ⟨G, 0, none⟩ = some (.pointer (some ⟨R, 0, none⟩)) := by rw [cell_of_row _ _ _ _ _ _ h.hd]; rfl
theorem DsoM.c1 (h : DsoM w D G R xs vL t b st fresh back K) : w.cell? ⟨G, 1, none⟩ = some vL := by rw [cell_of_row _ _ _ _ _ _ h.hd]; rfl
theorem DsoM.f0 (h : DsoM w D G R xs vL t b st fresh back K) (j : Nat) : w.frozen? ⟨G, j, none⟩ = false := frozen_of_row _ _ _ _ _ h.hd
theorem DsoM.slice (h : DsoM w D G R xs vL t b st fresh back K) : ∃ a c, vL = .slice a xs.length c ∧ (a = none → c = 0) ∧ xs.length ≤ c ∧ c ≤ maxLen := by
  obtain ⟨a, c, e, h1, h2, h3, _⟩ := own_sliceR h.row
  exact ⟨a, c, e, h1, h2, h3⟩
theorem DsoM.at_ (h : DsoM w D G R xs vL t b st fresh back K) {i : Nat} {x : Rfl} (hx : xs[i]? = some x) : ∃ g c, vL = .slice (some ⟨g, 0, none⟩) xs.length c ∧ w.cell? ⟨g, i * 3, none⟩ = some (.int .i64 x.id) ∧ w.cell? ⟨g, i * 3 + 1, none⟩ = some x.bv ∧ w.cell? ⟨g, i * 3 + 2, none⟩ = some x.fv ∧ w.frozen? ⟨g, i * 3 + 1, none⟩ = false ∧ w.frozen? ⟨g, i * 3 + 2, none⟩ = false := by
  have hi : i < xs.length := (List.getElem?_eq_some_iff.1 hx).1
  have hr := h.row
  obtain ⟨g, c, rfl⟩ : ∃ g c, vL = .slice (some ⟨g, 0, none⟩) xs.length c := by
    rcases hr.2 with ⟨e, h0⟩ | ⟨g, cap, cur, e, _⟩
    · omega
    · exact ⟨g, cap, e⟩
  have hc := fun j (hj : j < 3) => (hr.cellAt (i * 3 + j) (by omega)).trans (flat_at rflV_len hx hj)
  exact ⟨g, c, rfl, hc 0 (by omega), hc 1 (by omega), hc 2 (by omega), hr.frozenAt _, hr.frozenAt _⟩
set_option maxRecDepth 10000 in
set_option maxHeartbeats 2000000 in
theorem rat_none (h : DsoAt w D G R s xs vL t b st fresh back K) {id : Int} (e : getFi s.l id = none) :
    Calls Try.prog 36 #[.pointer (some ⟨G, 0, none⟩), .int .i64 id] w fun e w' => e = .returned (.int .i64 (-1)) ∧ w = w' := by
  have c1 := h.m.c1
  obtain ⟨a, c, rfl, _⟩ := h.m.slice
  have NE := hide (show ∀ x ∈ xs, x.id ≠ id from fi_none.1 (by rw [← h.p.l]; exact e))
  have n5 : (xs.length : Int) ≤ 100000 := by have := h.p.few; rw [h.p.l] at this; simp at this; omega
  have HH := hide h
  clear h e
  obtain ⟨n, hn⟩ : ∃ n, n = xs.length := ⟨_, rfl⟩
  rw [← hn] at c1 n5
  have HN := hide hn
  clear hn
  go_enter Try.func36, Try.ntmps36
  go_wp2_with fail
  go_loop [5] (fun v => ∃ k : Nat, k ≤ n ∧ v = .int .i64 (k : Int)) (fun v => n - (intOf v).toNat)
  case atStart => exact ⟨0, Nat.zero_le _, rfl⟩
  case round =>
    obtain ⟨k, hk, rfl⟩ := hrel
    by_cases hki : k < n
    · have hx : xs[k]? = some (xs[k]'(by have := HN.out; omega)) := List.getElem?_eq_getElem _
      obtain ⟨g, c', e', d0, _⟩ := HH.out.m.at_ hx
      injection e' with e1 _ e2
      subst e1 e2
      have hne := NE.out _ (List.getElem_mem (show k < xs.length by have := HN.out; omega))
      generalize (xs[k]'(by have := HN.out; omega)).id = y at *
      have hne' : (y == id) = false := by simpa using hne
      have k0 : (0 : Int) ≤ (k : Int) := by omega
      have k1 : (k : Int) < (n : Int) := by omega
      clear hne hx
      go_wp2_with fail
      go_round
      case rel => exact ⟨k + 1, by omega, by go_num⟩
      case measure => simp [intOf]; omega
    · obtain rfl : k = n := by omega
      go_wp2_with fail
      go_ret
      exact ⟨rfl, rfl⟩
set_option maxRecDepth 10000 in
set_option maxHeartbeats 2000000 in
theorem rat_some {p q : List Rfl} {x : Rfl} (h : DsoAt w D G R s (p ++ x :: q) vL t b st fresh back K) {id : Int} (ex : x.id = id) (ep : ∀ y ∈ p, y.id ≠ id) :
    Calls Try.prog 36 #[.pointer (some ⟨G, 0, none⟩), .int .i64 id] w fun e w' => e = .returned (.int .i64 (p.length : Nat)) ∧ w = w' := by
  have c1 := h.m.c1
  obtain ⟨a, c, rfl, _⟩ := h.m.slice
  have n5 : ((p ++ x :: q).length : Int) ≤ 100000 := by have := h.p.few; rw [h.p.l] at this; rw [List.length_map] at this; omega
  have HP := hide ep
  have EX := hide ex
  have HH := hide h
  obtain ⟨n, hn⟩ : ∃ n, n = (p ++ x :: q).length := ⟨_, rfl⟩
  obtain ⟨m, hm⟩ : ∃ m, m = p.length := ⟨_, rfl⟩
  have mn : m < n := by rw [hm, hn, List.length_append, List.length_cons]; omega
  rw [← hn] at c1 n5
  rw [← hm]
  have HM := hide hm
  clear h ex ep hn hm
  go_enter Try.func36, Try.ntmps36
  go_wp2_with fail
  go_loop [5] (fun v => ∃ k : Nat, k ≤ m ∧ v = .int .i64 (k : Int)) (fun v => m - (intOf v).toNat)
  case atStart => exact ⟨0, Nat.zero_le _, rfl⟩
  case round =>
    obtain ⟨k, hk, rfl⟩ := hrel
    have k0 : (0 : Int) ≤ (k : Int) := by omega
    have k1 : (k : Int) < (n : Int) := by omega
    by_cases hki : k < m
    · have hx : (p ++ x :: q)[k]? = some (p[k]'(by have := HM.out; omega)) := by
        rw [List.getElem?_append_left (by have := HM.out; omega)]; exact List.getElem?_eq_getElem _
      obtain ⟨g, c', e', d0, _⟩ := HH.out.m.at_ hx
      injection e' with e1 _ e2
      subst e1 e2
      have hne := HP.out _ (List.getElem_mem (show k < p.length by have := HM.out; omega))
      generalize (p[k]'(by have := HM.out; omega)).id = y at *
      have hne' : (y == id) = false := by simpa using hne
      clear hne hx
      go_wp2_with fail
      go_round
      case rel => exact ⟨k + 1, by omega, by go_num⟩
      case measure => simp [intOf]; omega
    · obtain rfl : k = m := by omega
      have hx : (p ++ x :: q)[k]? = some x := by
        rw [List.getElem?_append_right (by have := HM.out; omega), HM.out, Nat.sub_self]; rfl
      obtain ⟨g, c', e', d0, _⟩ := HH.out.m.at_ hx
      injection e' with e1 _ e2
      subst e1 e2
      have hy := EX.out
      generalize x.id = y at *
      subst hy
      have hne' : (y == y) = true := by simp
      clear hx
      go_wp2_with fail
      go_ret
      exact ⟨rfl, rfl⟩
end
end Go.Proofs.Ytipepklobpnbpaa
