/-
  Several texts as one: SoRefA SoRefB SoRefC SoRefD SoRefF.
-/
import Derived.Test.YtndfnglcichngaaGreatDoorSoBothPb
import Derived.Test.YtndfnglcichngaaGreatDoorPa07
import Derived.Test.YtndfnglcichngaaGreatDoorPa10
namespace Go.Proofs.YtndfnglcichngaaGreatDoor
open Go.ChangeShapes Go.WideShapes Go.ChangeAt Go.RowKit
set_option linter.unusedVariables false
set_option linter.unusedSimpArgs false
/-- A file of the document's: its number, its bytes and where they lie, its frames and where their numbers lie. -/
structure Rfl where
  id : Int
  b : List Int
  ba : Option Addr
  bc : Nat
  F : List Nat
  fa : Option Addr
  fc : Nat
def Rfl.bv (x : Rfl) : Value := .slice x.ba x.b.length x.bc
def Rfl.fv (x : Rfl) : Value := .slice x.fa x.F.length x.fc
def Rfl.fi (x : Rfl) : Fi := ⟨x.id, x.b⟩
def Rfl.im (x : Rfl) (i : Nat) : Prop := x.bv.ownBlock = some i ∨ x.fv.ownBlock = some i
def rflV (x : Rfl) : List Value := [.int .i64 x.id, x.bv, x.fv]
theorem rflV_cell (x : Rfl) : ∀ v ∈ rflV x, v.oneCell' = true := by
  intro v hv
  simp [rflV, Rfl.bv, Rfl.fv] at hv
  rcases hv with rfl | rfl | rfl <;> rfl
theorem rflV_len (x : Rfl) : (rflV x).length = 3 := rfl
theorem file_info : (Tryz.prog.info? 158).map (fun i => (i.zero, i.size, i.bytes)) = some (some (.agg #[.int .i64 0, .slice none 0 0, .slice none 0 0]), 3, 56) := by kernel_rfl
/-- Its slices in memory. -/
structure RflOk (w : World) (x : Rfl) : Prop where
  bs : w.ownsRow 0 5 1 x.bv x.b.length (x.b.map (Value.int .u8))
  fs : w.ownsRow 0 3 1 x.fv x.F.length ((nums x.F).map (Value.int .i64))
theorem RflOk.touch {S : Nat → Prop} {w w' : World} {x : Rfl} (h : RflOk w x) (u : Touch S w w') (d : ∀ i, x.im i → ¬ S i) : RflOk w' x :=
  ⟨u.own h.bs (fun g hg => d g (.inl hg)), u.own h.fs (fun g hg => d g (.inr hg))⟩
theorem RflOk.below {w w' : World} {x : Rfl} (h : RflOk w x) (u : Below w.heap.size w w') : RflOk w' x := h.touch (S := fun _ => False) (Touch.of_below u) (fun _ _ e => e)
theorem RflOk.lt {w : World} {x : Rfl} (h : RflOk w x) : ∀ i, x.im i → i < w.heap.size := by
  rintro i (e | e)
  · exact (h.bs.lt i e).2
  · exact (h.fs.lt i e).2
def fss (xs : List Rfl) : List Nat := xs.flatMap Rfl.F
/-- The document's store at G over its frames at R: its memory. -/
structure DsoM (w : World) (D : Nat → Prop) (G R : Nat) (xs : List Rfl) (vL : Value) (t b : Nat) (st : St) (fresh : Nat) (back : List Nat) (K : Nat → Prop) : Prop where
  hd : w.heap[G]? = some (.cells #[.pointer (some ⟨R, 0, none⟩), vL] 143 (0, 0))
  row : w.ownsRow 0 158 3 vL xs.length (xs.flatMap rflV)
  ok : ∀ x ∈ xs, RflOk w x
  rf : RfG w K R t b st fresh back
  nod : (fss xs).Nodup
  tkn : ∀ f ∈ fss xs, f < st.n ∧ st.tk f = true
  sep : ∀ x ∈ xs, ∀ i, x.im i → i ≠ G ∧ vL.ownBlock ≠ some i ∧ ¬ K i
  sG : vL.ownBlock ≠ some G ∧ ¬ K G
  sL : ∀ i, vL.ownBlock = some i → ¬ K i
  un : ∀ i, D i ↔ i = G ∨ vL.ownBlock = some i ∨ K i ∨ ∃ x ∈ xs, x.im i
/-- What it means. -/
structure DsoP (s : So) (xs : List Rfl) (st : St) : Prop where
  l : s.l = xs.map Rfl.fi
  fr : s.fr = st.fr.length
  good : GoodSo s
  few : s.l.length ≤ 100000
  blk : ∀ x ∈ xs, x.F.length = blkN x.b.length
structure DsoAt (w : World) (D : Nat → Prop) (G R : Nat) (s : So) (xs : List Rfl) (vL : Value) (t b : Nat) (st : St) (fresh : Nat) (back : List Nat) (K : Nat → Prop) : Prop where
  m : DsoM w D G R xs vL t b st fresh back K
  p : DsoP s xs st
def Dso (R : Nat) : Rel So := fun w D G s => ∃ xs vL t b st fresh back K, DsoAt w D G R s xs vL t b st fresh back K
section
variable {w : World} {D : Nat → Prop} {G R : Nat} {s : So} {xs : List Rfl} {vL : Value} {t b : Nat} {st : St} {fresh : Nat} {back : List Nat} {K : Nat → Prop}
theorem DsoM.lt (h : DsoM w D G R xs vL t b st fresh back K) : ∀ i, D i → i < w.heap.size := by
  intro i hi
  rcases (h.un i).1 hi with rfl | e | e | ⟨x, hx, e⟩
  · exact lt_of_heap h.hd
  · exact (h.row.lt i e).2
  · exact h.rf.2 i e
  · exact (h.ok x hx).lt i e
theorem DsoM.keep {V : Nat → Prop} {w' : World} (h : DsoM w D G R xs vL t b st fresh back K) (u : Touch V w w') (d : ∀ i, D i → ¬ V i) : DsoM w' D G R xs vL t b st fresh back K :=
  ⟨(u.block G (lt_of_heap h.hd) (d G ((h.un G).2 (.inl rfl)))).trans h.hd, u.own h.row (fun g hg => d g ((h.un g).2 (.inr (.inl hg)))), fun x hx => (h.ok x hx).touch u (fun i e => d i ((h.un i).2 (.inr (.inr (.inr ⟨x, hx, e⟩))))), h.rf.keep u (fun i e => d i ((h.un i).2 (.inr (.inr (.inl e))))), h.nod, h.tkn, h.sep, h.sG, h.sL, h.un⟩
theorem DsoM.below {w' : World} (h : DsoM w D G R xs vL t b st fresh back K) (u : Below w.heap.size w w') : DsoM w' D G R xs vL t b st fresh back K := h.keep (V := fun _ => False) (Touch.of_below u) (fun _ _ e => e)
theorem DsoAt.below {w' : World} (h : DsoAt w D G R s xs vL t b st fresh back K) (u : Below w.heap.size w w') : DsoAt w' D G R s xs vL t b st fresh back K := ⟨h.m.below u, h.p⟩
end
theorem keepsDso (R : Nat) : Keeps (Dso R) where
  keep := by
    rintro V U w w' S s ⟨xs, vL, t, b, st, fresh, back, K, h⟩ u d
    exact ⟨xs, vL, t, b, st, fresh, back, K, h.m.keep u d, h.p⟩
  lt := by
    rintro U w S s ⟨xs, vL, t, b, st, fresh, back, K, h⟩ i hi
    exact h.m.lt i hi
section
variable {w : World} {D : Nat → Prop} {G R : Nat} {s : So} {xs : List Rfl} {vL : Value} {t b : Nat} {st : St} {fresh : Nat} {back : List Nat} {K : Nat → Prop}
theorem fi_none {l : List Rfl} {id : Int} : getFi (l.map Rfl.fi) id = none ↔ ∀ x ∈ l, x.id ≠ id := by
  rw [getFi_none]
  constructor
  · intro h x hx e
    exact h (by unfold idsFi; rw [List.map_map, List.mem_map]; exact ⟨x, hx, e⟩)
  · intro h hm
    unfold idsFi at hm
    rw [List.map_map, List.mem_map] at hm
    obtain ⟨x, hx, e⟩ := hm
    exact h x hx e
theorem fi_split : ∀ {l : List Rfl} {id : Int} {o : List Int}, getFi (l.map Rfl.fi) id = some o → ∃ p x q, l = p ++ x :: q ∧ x.id = id ∧ x.b = o ∧ ∀ y ∈ p, y.id ≠ id := by
  intro l
  induction l with
  | nil => intro id o h; cases h
  | cons x l ih =>
    intro id o h
    have h0 : (if x.id = id then some x.b else getFi (l.map Rfl.fi) id) = some o := h
    by_cases e : x.id = id
    · rw [if_pos e] at h0
      injection h0 with h0
      exact ⟨[], x, l, rfl, e, h0, fun y hy => absurd hy List.not_mem_nil⟩
    · rw [if_neg e] at h0
      obtain ⟨p, y, q, h1, h2, h3, h4⟩ := ih h0
      refine ⟨x :: p, y, q, by rw [h1]; rfl, h2, h3, fun z hz => ?_⟩
      rcases List.mem_cons.1 hz with rfl | hz
      · exact e
      · exact h4 z hz
theorem put_split {p q : List Rfl} {x : Rfl} {id : Int} (hx : x.id = id) (hp : ∀ y ∈ p, y.id ≠ id) (o : List Int) : putFi ((p ++ x :: q).map Rfl.fi) id o = p.map Rfl.fi ++ ⟨id, o⟩ :: q.map Rfl.fi := by
  induction p with
  | nil =>
    show (if x.id = id then _ else _) = _
    rw [if_pos hx]; rfl
  | cons y p ih =>
    show (if y.id = id then _ else _) = _
    rw [if_neg (hp y (List.mem_cons_self ..))]
    show y.fi :: putFi ((p ++ x :: q).map Rfl.fi) id o = _
    rw [ih (fun z hz => hp z (List.mem_cons_of_mem _ hz))]; rfl
theorem del_split {p q : List Rfl} {x : Rfl} {id : Int} (hx : x.id = id) (hp : ∀ y ∈ p, y.id ≠ id) : delFi ((p ++ x :: q).map Rfl.fi) id = (p ++ q).map Rfl.fi := by
  induction p with
  | nil =>
    show (if x.id = id then _ else _) = _
    rw [if_pos hx]; rfl
  | cons y p ih =>
    show (if y.id = id then _ else _) = _
    rw [if_neg (hp y (List.mem_cons_self ..))]
    show y.fi :: delFi ((p ++ x :: q).map Rfl.fi) id = _
    rw [ih (fun z hz => hp z (List.mem_cons_of_mem _ hz))]; rfl
/-- The struct's cells; the row's cells. -/
theorem DsoM.c0 (h : DsoM w D G R xs vL t b st fresh back K) : w.cell? ⟨G, 0, none⟩ = some (.pointer (some ⟨R, 0, none⟩)) := by rw [cell_of_row _ _ _ _ _ _ h.hd]; rfl
theorem DsoM.c1 (h : DsoM w D G R xs vL t b st fresh back K) : w.cell? ⟨G, 1, none⟩ = some vL := by rw [cell_of_row _ _ _ _ _ _ h.hd]; rfl
theorem DsoM.f0 (h : DsoM w D G R xs vL t b st fresh back K) (j : Nat) : w.frozen? ⟨G, j, none⟩ = false := frozen_of_row _ _ _ _ _ h.hd
theorem DsoM.slice (h : DsoM w D G R xs vL t b st fresh back K) : ∃ a c, vL = .slice a xs.length c ∧ (a = none → c = 0) ∧ xs.length ≤ c ∧ c ≤ maxLen := by
  obtain ⟨a, c, e, h1, h2, h3, _⟩ := own_sliceR h.row
  exact ⟨a, c, e, h1, h2, h3⟩
theorem DsoM.at_ (h : DsoM w D G R xs vL t b st fresh back K) {i : Nat} {x : Rfl} (hx : xs[i]? = some x) : ∃ g c, vL = .slice (some ⟨g, 0, none⟩) xs.length c ∧ w.cell? ⟨g, i * 3, none⟩ = some (.int .i64 x.id) ∧ w.cell? ⟨g, i * 3 + 1, none⟩ = some x.bv ∧ w.cell? ⟨g, i * 3 + 2, none⟩ = some x.fv ∧ w.frozen? ⟨g, i * 3 + 1, none⟩ = false ∧ w.frozen? ⟨g, i * 3 + 2, none⟩ = false := by
  have hi : i < xs.length := (List.getElem?_eq_some_iff.1 hx).1
  have hr := h.row
  obtain ⟨g, c, rfl⟩ : ∃ g c, vL = .slice (some ⟨g, 0, none⟩) xs.length c := by
    rcases hr.2 with ⟨e, h0⟩ | ⟨g, cap, cur, e, _⟩
    · omega
    · exact ⟨g, cap, e⟩
  have hc := fun j (hj : j < 3) => (hr.cellAt (i * 3 + j) (by omega)).trans (flat_at rflV_len hx hj)
  exact ⟨g, c, rfl, hc 0 (by omega), hc 1 (by omega), hc 2 (by omega), hr.frozenAt _, hr.frozenAt _⟩
set_option maxRecDepth 10000 in
set_option maxHeartbeats 2000000 in
theorem rat_none (h : DsoAt w D G R s xs vL t b st fresh back K) {id : Int} (e : getFi s.l id = none) :
    Calls Tryz.prog 88 #[.pointer (some ⟨G, 0, none⟩), .int .i64 id] w fun e w' => e = .returned (.int .i64 (-1)) ∧ w = w' := by
  have c1 := h.m.c1
  obtain ⟨a, c, rfl, _⟩ := h.m.slice
  have NE := hide (show ∀ x ∈ xs, x.id ≠ id from fi_none.1 (by rw [← h.p.l]; exact e))
  have n5 : (xs.length : Int) ≤ 100000 := by have := h.p.few; rw [h.p.l] at this; simp at this; omega
  have HH := hide h
  clear h e
  obtain ⟨n, hn⟩ : ∃ n, n = xs.length := ⟨_, rfl⟩
  rw [← hn] at c1 n5
  have HN := hide hn
  clear hn
  go_enter Tryz.func88, Tryz.ntmps88
  go_wp2_with fail
  go_loop [5] (fun v => ∃ k : Nat, k ≤ n ∧ v = .int .i64 (k : Int)) (fun v => n - (intOf v).toNat)
  case atStart => exact ⟨0, Nat.zero_le _, rfl⟩
  case round =>
    obtain ⟨k, hk, rfl⟩ := hrel
    by_cases hki : k < n
    · have hx : xs[k]? = some (xs[k]'(by have := HN.out; omega)) := List.getElem?_eq_getElem _
      obtain ⟨g, c', e', d0, _⟩ := HH.out.m.at_ hx
      injection e' with e1 _ e2
      subst e1 e2
      have hne := NE.out _ (List.getElem_mem (show k < xs.length by have := HN.out; omega))
      generalize (xs[k]'(by have := HN.out; omega)).id = y at *
      have hne' : (y == id) = false := by simpa using hne
      have k0 : (0 : Int) ≤ (k : Int) := by omega
      have k1 : (k : Int) < (n : Int) := by omega
      clear hne hx
      go_wp2_with fail
      go_round
      case rel => exact ⟨k + 1, by omega, by go_num⟩
      case measure => simp [intOf]; omega
    · obtain rfl : k = n := by omega
      go_wp2_with fail
      go_ret
      exact ⟨rfl, rfl⟩
set_option maxRecDepth 10000 in
set_option maxHeartbeats 2000000 in
theorem rat_some {p q : List Rfl} {x : Rfl} (h : DsoAt w D G R s (p ++ x :: q) vL t b st fresh back K) {id : Int} (ex : x.id = id) (ep : ∀ y ∈ p, y.id ≠ id) :
    Calls Tryz.prog 88 #[.pointer (some ⟨G, 0, none⟩), .int .i64 id] w fun e w' => e = .returned (.int .i64 (p.length : Nat)) ∧ w = w' := by
  have c1 := h.m.c1
  obtain ⟨a, c, rfl, _⟩ := h.m.slice
  have n5 : ((p ++ x :: q).length : Int) ≤ 100000 := by have := h.p.few; rw [h.p.l] at this; rw [List.length_map] at this; omega
  have HP := hide ep
  have EX := hide ex
  have HH := hide h
  obtain ⟨n, hn⟩ : ∃ n, n = (p ++ x :: q).length := ⟨_, rfl⟩
  obtain ⟨m, hm⟩ : ∃ m, m = p.length := ⟨_, rfl⟩
  have mn : m < n := by rw [hm, hn, List.length_append, List.length_cons]; omega
  rw [← hn] at c1 n5
  rw [← hm]
  have HM := hide hm
  clear h ex ep hn hm
  go_enter Tryz.func88, Tryz.ntmps88
  go_wp2_with fail
  go_loop [5] (fun v => ∃ k : Nat, k ≤ m ∧ v = .int .i64 (k : Int)) (fun v => m - (intOf v).toNat)
  case atStart => exact ⟨0, Nat.zero_le _, rfl⟩
  case round =>
    obtain ⟨k, hk, rfl⟩ := hrel
    have k0 : (0 : Int) ≤ (k : Int) := by omega
    have k1 : (k : Int) < (n : Int) := by omega
    by_cases hki : k < m
    · have hx : (p ++ x :: q)[k]? = some (p[k]'(by have := HM.out; omega)) := by
        rw [List.getElem?_append_left (by have := HM.out; omega)]; exact List.getElem?_eq_getElem _
      obtain ⟨g, c', e', d0, _⟩ := HH.out.m.at_ hx
      injection e' with e1 _ e2
      subst e1 e2
      have hne := HP.out _ (List.getElem_mem (show k < p.length by have := HM.out; omega))
      generalize (p[k]'(by have := HM.out; omega)).id = y at *
      have hne' : (y == id) = false := by simpa using hne
      clear hne hx
      go_wp2_with fail
      go_round
      case rel => exact ⟨k + 1, by omega, by go_num⟩
      case measure => simp [intOf]; omega
    · obtain rfl : k = m := by omega
      have hx : (p ++ x :: q)[k]? = some x := by
        rw [List.getElem?_append_right (by have := HM.out; omega), HM.out, Nat.sub_self]; rfl
      obtain ⟨g, c', e', d0, _⟩ := HH.out.m.at_ hx
      injection e' with e1 _ e2
      subst e1 e2
      have hy := EX.out
      generalize x.id = y at *
      subst hy
      have hne' : (y == y) = true := by simp
      clear hx
      go_wp2_with fail
      go_ret
      exact ⟨rfl, rfl⟩
end
end Go.Proofs.YtndfnglcichngaaGreatDoor
namespace Go.Proofs.YtndfnglcichngaaGreatDoor
open Go.ChangeShapes Go.WideShapes Go.ChangeAt Go.RowKit
set_option linter.unusedVariables false
set_option linter.unusedSimpArgs false
section
variable {w : World} {D : Nat → Prop} {G R : Nat} {s : So}
/-- Of a file that is there: what at answers, its cells, its bytes. -/
theorem Dso.file (h : Dso R w D G s) {id : Int} {o : List Int} (e : getFi s.l id = some o) : ∃ (m n c g : Nat) (bv : Value), m < n ∧ n ≤ 100000 ∧ w.cell? ⟨G, 1, none⟩ = some (.slice (some ⟨g, 0, none⟩) n c) ∧ w.cell? ⟨g, m * 3 + 1, none⟩ = some bv ∧ w.ownsRow 0 5 1 bv o.length (o.map (Value.int .u8)) ∧
    Calls Tryz.prog 88 #[.pointer (some ⟨G, 0, none⟩), .int .i64 id] w fun e w' => e = .returned (.int .i64 (m : Nat)) ∧ w = w' := by
  obtain ⟨xs, vL, t, b, st, fresh, back, K, h⟩ := h
  have e1 := e
  rw [h.p.l] at e1
  obtain ⟨p, x, q, rfl, h2, h3, h4⟩ := fi_split e1
  have hx : (p ++ x :: q)[p.length]? = some x := by rw [List.getElem?_append_right (Nat.le_refl _), Nat.sub_self]; rfl
  obtain ⟨g, c, rfl, d0, d1, d2, _⟩ := h.m.at_ hx
  have hm : x ∈ p ++ x :: q := List.mem_append_right _ (List.mem_cons_self ..)
  refine ⟨p.length, _, c, g, x.bv, by rw [List.length_append, List.length_cons]; omega, by have := h.p.few; rw [h.p.l, List.length_map] at this; exact this, h.m.c1, d1, h3 ▸ (h.m.ok x hm).bs, rat_some h h2 h4⟩
theorem Dso.good (h : Dso R w D G s) : GoodSo s := by
  obtain ⟨xs, vL, t, b, st, fresh, back, K, h⟩ := h
  exact h.p.good
theorem Dso.gone (h : Dso R w D G s) {id : Int} (e : getFi s.l id = none) : Calls Tryz.prog 88 #[.pointer (some ⟨G, 0, none⟩), .int .i64 id] w fun e w' => e = .returned (.int .i64 (-1)) ∧ w = w' := by
  obtain ⟨xs, vL, t, b, st, fresh, back, K, h⟩ := h
  exact rat_none h e
set_option maxRecDepth 10000 in
set_option maxHeartbeats 2000000 in
theorem rsz_any (h : Dso R w D G s) (id : Int) :
    Calls Tryz.prog 120 #[.pointer (some ⟨G, 0, none⟩), .int .i64 id] w fun e w' => e = .returned (.tuple #[.int .i64 (lenO (getFi s.l id) : Nat), .int .i64 (thE s id : Nat)]) ∧ w = w' := by
  unfold thE
  cases e : getFi s.l id with
  | none =>
    have AT := hide (h.gone e)
    clear h e
    show Calls _ _ _ _ fun e w' => e = .returned (.tuple #[.int .i64 0, .int .i64 4]) ∧ w = w'
    go_enter Tryz.func120, Tryz.ntmps120
    go_wp2_with (go_at_call 88; refine AT.out.mono ?_; rintro e w' ⟨rfl, rfl⟩)
    go_ret2
    exact ⟨rfl, rfl⟩
  | some o =>
    obtain ⟨m, n, c, g, bv, hm, hn, c1, d1, ob, at_⟩ := h.file e
    obtain ⟨a, c2, rfl, _⟩ := own_sliceR ob
    have AT := hide at_
    have m0 : (0 : Int) ≤ (m : Int) := by omega
    have m1 : (m : Int) < (n : Int) := by omega
    have n5 : (n : Int) ≤ 100000 := by omega
    have m2 : ¬ (m : Int) < 0 := by omega
    clear h e at_ ob
    show Calls _ _ _ _ fun e w' => e = .returned (.tuple #[.int .i64 (o.length : Nat), .int .i64 0]) ∧ w = w'
    go_enter Tryz.func120, Tryz.ntmps120
    go_wp2_with (go_at_call 88; refine AT.out.mono ?_; rintro e w' ⟨rfl, rfl⟩)
    go_ret2
    exact ⟨rfl, rfl⟩
theorem blkN_le8 (n : Nat) (h : n ≤ 512) : blkN n ≤ 8 := by unfold blkN; omega
theorem blk_div2 (z : Nat) (h : z ≤ 512) : ((z : Int) + 63).tdiv 64 = ((blkN z : Nat) : Int) := by
  rw [Int.tdiv_eq_ediv_of_nonneg (by omega)]
  unfold blkN
  omega
end
end Go.Proofs.YtndfnglcichngaaGreatDoor
namespace Go.Proofs.YtndfnglcichngaaGreatDoor
open Go.ChangeShapes Go.WideShapes Go.ChangeAt Go.RowKit
set_option linter.unusedVariables false
set_option linter.unusedSimpArgs false
theorem ints_of_piece {w : World} {g k m n : Nat} {o : List Int} (h : Ints .u8 w (some ⟨g, 0, none⟩) n o) (hk : k + m ≤ n) : Ints .u8 w (some ⟨g, k, none⟩) m ((o.drop k).take m) := by
  refine ⟨by rw [List.length_take, List.length_drop, h.1]; omega, fun hm => ⟨g, k, rfl, fun j hj => ?_⟩⟩
  obtain ⟨b, off, e, hc⟩ := h.2 (by omega)
  injection e with e
  injection e with e1 e2 _
  subst e1 e2
  have := hc (k + j) (by omega)
  rw [Nat.zero_add] at this
  rw [this, List.getD_eq_getElem?_getD, List.getD_eq_getElem?_getD, List.getElem?_take_of_lt hj, List.getElem?_drop]
theorem own_pos {q : IntKind} {e : TypeId} {w : World} {B n : Nat} {v : Value} {xs : List Int} (h : w.ownsRow B e 1 v n (xs.map (Value.int q))) (hn : 0 < n) : ∃ g c, v = .slice (some ⟨g, 0, none⟩) n c ∧ n ≤ c ∧ c ≤ maxLen ∧ Ints q w (some ⟨g, 0, none⟩) n xs := by
  obtain ⟨a, c, rfl, i, _⟩ := own_ints h
  rcases h.2 with ⟨_, h0⟩ | ⟨g, cap, cur, e, _, _, h1, h2, _⟩
  · omega
  · injection e with e1 _ e2
    subst e1 e2
    exact ⟨g, _, rfl, h1, h2, i⟩
section
variable {w : World} {D : Nat → Prop} {G R : Nat} {s : So}
theorem readIs_nil {s : So} {id off n : Int} {w : World} {v : Nat} (hv : rdE s id off n = v) (hb : rdB s id off n = []) : ReadIs s id off n w (.returned (.tuple #[.slice none 0 0, .int .i64 (v : Int)])) w := by
  refine ⟨.slice none 0 0, by rw [hv], ?_, Below.refl _ _⟩
  rw [hb]
  exact World.ownsRow_nil _ _ _ _
end
end Go.Proofs.YtndfnglcichngaaGreatDoor
namespace Go.Proofs.YtndfnglcichngaaGreatDoor
open Go.ChangeShapes Go.WideShapes Go.ChangeAt Go.RowKit
set_option linter.unusedVariables false
set_option linter.unusedSimpArgs false
section
variable {w : World} {D : Nat → Prop} {G R : Nat} {s : So} {xs : List Rfl} {vL : Value} {t b : Nat} {st : St} {fresh : Nat} {back : List Nat} {K : Nat → Prop}
theorem fss_new (xs : List Rfl) (id : Int) (u v : Option Addr) : fss (xs ++ [⟨id, [], u, 0, [], v, 0⟩]) = fss xs := by unfold fss; simp
/-- Another row of files stands in the struct, of whatever files of the same frames. -/
theorem DsoAt.renew {w' : World} {ys : List Rfl} {vN : Value} {s' : So} (h : DsoAt w D G R s xs vL t b st fresh back K) (hl : s'.l = ys.map Rfl.fi) (hfr : s'.fr = s.fr) (hg : GoodSo s') (hfew : s'.l.length ≤ 100000)
    (u : Touch (fun i => i = G) w w') (hd : w'.heap[G]? = some (.cells #[.pointer (some ⟨R, 0, none⟩), vN] 143 (0, 0))) (row : w'.ownsRow w.heap.size 158 3 vN ys.length (ys.flatMap rflV))
    (hys : ∀ y ∈ ys, y ∈ xs ∨ (y.bv = .slice none 0 0 ∧ y.fv = .slice none 0 0 ∧ y.b = [] ∧ y.F = [])) (hn : (fss ys).Nodup) (ht : ∀ f ∈ fss ys, f ∈ fss xs) :
    ∃ D', DsoAt w' D' G R s' ys vN t b st fresh back K ∧ Touch D w w' ∧ ∀ i, D' i → D i ∨ w.heap.size ≤ i := by
  have hG : G < w.heap.size := lt_of_heap h.m.hd
  have im0 : ∀ y ∈ ys, ∀ i, y.im i → y ∈ xs := by
    intro y hy i hi
    rcases hys y hy with e | ⟨e1, e2, _⟩
    · exact e
    · rcases hi with hi | hi
      · rw [e1] at hi; cases hi
      · rw [e2] at hi; cases hi
  have rlo : ∀ i, vN.ownBlock = some i → w.heap.size ≤ i := fun i e => (row.lt i e).1
  have dG : ∀ i, i = G → D i := fun i e => (h.m.un i).2 (.inl e)
  refine ⟨fun i => i = G ∨ vN.ownBlock = some i ∨ K i ∨ ∃ y ∈ ys, y.im i, ⟨⟨hd, own_base row (Nat.zero_le _), fun y hy => ?_, h.m.rf.keep u (fun i hi e => h.m.sG.2 (e ▸ hi)), hn, fun f hf => h.m.tkn f (ht f hf), fun y hy i hi => ?_, ⟨fun e => ?_, h.m.sG.2⟩, fun i e hk => ?_, fun i => Iff.rfl⟩, ⟨hl, hfr.trans h.p.fr, hg, hfew, fun y hy => ?_⟩⟩, u.mono dG, fun i hi => ?_⟩
  · rcases hys y hy with e | ⟨e1, e2, e3, e4⟩
    · exact (h.m.ok y e).touch u (fun i hi e2 => (h.m.sep y e i hi).1 e2)
    · refine ⟨?_, ?_⟩
      · rw [e1, e3]; exact World.ownsRow_nil _ _ _ _
      · rw [e2, e4]; exact World.ownsRow_nil _ _ _ _
  · have hx := im0 y hy i hi
    have hs := h.m.sep y hx i hi
    exact ⟨hs.1, fun e => by have := rlo i e; have := (h.m.ok y hx).lt i hi; omega, hs.2.2⟩
  · have := rlo G e; omega
  · have := rlo i e; have := h.m.rf.2 i hk; omega
  · rcases hys y hy with e | ⟨_, _, e3, e4⟩
    · exact h.p.blk y e
    · rw [e3, e4]; show 0 = blkN 0; decide
  · rcases hi with e | e | e | ⟨y, hy, e⟩
    · exact .inl (dG i e)
    · exact .inr (rlo i e)
    · exact .inl ((h.m.un i).2 (.inr (.inr (.inl e))))
    · exact .inl ((h.m.un i).2 (.inr (.inr (.inr ⟨y, im0 y hy i e, e⟩))))
set_option maxRecDepth 10000 in
set_option maxHeartbeats 4000000 in
theorem rmk_new (h : DsoAt w D G R s xs vL t b st fresh back K) {id : Int} (wi : (Lit.int .i64 id).wf = true) (h0 : ¬ id < 0) (e : getFi s.l id = none) (hfew : s.l.length < 100000) :
    Calls Tryz.prog 116 #[.pointer (some ⟨G, 0, none⟩), .int .i64 id] w (SideO (fun w' D' => Dso R w' D' G (mkS s id)) D w (.int .i64 0)) := by
  have hE : mkE s id = 0 := by unfold mkE; rw [if_neg h0, e]; rfl
  have hS : mkS s id = ⟨s.l ++ [⟨id, []⟩], s.fr⟩ := by unfold mkS; rw [if_pos hE]
  have hgood := h.p.good.mk_ wi
  rw [hS] at hgood ⊢
  have AT := hide (rat_none h e)
  obtain ⟨i0, hi0, hz0, hz1, hz2⟩ := info_parts file_info
  have c1 := h.m.c1
  have f1 := h.m.f0 1
  have n5 : xs.length < 100000 := by have := hfew; rw [h.p.l, List.length_map] at this; exact this
  have HH := hide h
  have hG := hide (lt_of_heap h.m.hd)
  have GS := hide hgood
  have FEW := hide hfew
  clear h e hgood hE hS hfew
  obtain ⟨a, c, rfl, hr, -, -, hnil⟩ := own_reads rflV_len (by omega) HH.out.m.row
  have HR := hide (fun (W : World) (b : Below w.heap.size w W) => hr.below b)
  have NIL := hide hnil
  obtain ⟨n, hn⟩ : ∃ n, n = xs.length := ⟨_, rfl⟩
  rw [← hn] at c1 n5 HR
  have HN := hide hn
  have FL := hide (show (xs ++ [(⟨id, [], none, 0, [], none, 0⟩ : Rfl)]).flatMap rflV = xs.flatMap rflV ++ rflV ⟨id, [], none, 0, [], none, 0⟩ from by simp)
  clear hn hr hnil
  go_enter Tryz.func116, Tryz.ntmps116
  go_wp2_with (first
    | (go_at_call 88; refine AT.out.mono ?_; rintro e w' ⟨rfl, rfl⟩)
    | (at_builtin; refine wpList_append_reads rfl (.const (.slice none 0 0)) (.tmp 15) _ rfl w.heap.size 158 i0 _ 56 Tryz.underlying141 hi0 hz0 hz1 hz2 rfl (by omega) _ 0 [] rfl (World.ownsRow_nil _ _ _ _) _ _ _ xs rfl rflV_len rflV_cell (HR.out _ (Below.refl _ _)) NIL.out (by unfold maxLen; omega) (by omega) (Nat.le_refl _) ?_; intro v1 w1 o1 g1; have B1 := hide ((Below.refl _ _).grown g1 (Nat.le_refl _) (fun k hk => by cases hk)); rw [Nat.zero_add, List.nil_append] at o1; have O1 := hide o1; obtain ⟨a1, k1, rfl, -, -, -, -⟩ := own_reads rflV_len (by omega) o1; clear o1 g1)
    | (at_builtin; (refine wpList_append_own_at _ rfl (.tmp 16) (.tmp 19) _ rfl w.heap.size 158 i0 _ 3 56 Tryz.underlying141 hi0 hz0 hz1 hz2 rfl (by omega) _ _ _ rfl (O1.out.alloc _) _ 1 1 (rflV ⟨id, [], none, 0, [], none, 0⟩) rfl rfl (cells_new w1 _ _ _ rfl) (rflV_cell _) (show n + 1 ≤ maxLen from by unfold maxLen; omega) (show (n + 1) * 56 ≤ 140737488355328 from by omega) (show w.heap.size ≤ (w1.alloc _).heap.size from Nat.le_trans B1.out.size (by simp)) ?_); intro v2 w2 o2 g2 t2 l2; rw [← FL.out] at o2; have O2 := hide o2; obtain ⟨a2, k2, rfl, -, -, -, -⟩ := own_reads rflV_len (by omega) o2; have B2 := hide ((B1.out.alloc B1.out.size _).grown g2 (show w.heap.size ≤ (w1.alloc _).heap.size from Nat.le_trans B1.out.size (by simp)) (own_lo O1.out)); have q2 := (HH.out.m.below B2.out).c1; have f2 := (HH.out.m.below B2.out).f0 1; have H2 := hide (HH.out.m.below B2.out).hd; clear o2 g2 t2 l2))
  go_ret
  have u2 : Touch (fun i => i = G) w2 (w2.setCell ⟨G, 1, none⟩ (.slice a2 (n + 1) k2)) := (Touch.refl (fun i => i = G) w2).setCell (p := ⟨G, 1, none⟩) rfl _
  have u : Touch (fun i => i = G) w (w2.setCell ⟨G, 1, none⟩ (.slice a2 (n + 1) k2)) := (Touch.of_below B2.out).trans u2 (fun i e => .inl e)
  have row := u2.own O2.out (fun g hg e => by have := (O2.out.lt g hg).1; have := hG.out; omega)
  rw [show n + 1 = (xs ++ [(⟨id, [], none, 0, [], none, 0⟩ : Rfl)]).length from by rw [List.length_append, HN.out]; rfl] at row u ⊢
  obtain ⟨D', hD, t, v⟩ := HH.out.renew (s' := ⟨s.l ++ [⟨id, []⟩], s.fr⟩) (ys := xs ++ [(⟨id, [], none, 0, [], none, 0⟩ : Rfl)]) (by rw [HH.out.p.l, List.map_append]; rfl) rfl GS.out (by have := FEW.out; rw [List.length_append]; show s.l.length + 1 ≤ 100000; omega) u
    (by rw [heap_setCell_same _ _ _ _ _ _ H2.out]; rfl) row
    (fun y hy => by
      rcases List.mem_append.1 hy with hy | hy
      · exact .inl hy
      · simp at hy; subst hy; exact .inr ⟨rfl, rfl, rfl, rfl⟩)
    (by rw [fss_new]; exact HH.out.m.nod) (fun f hf => by rw [fss_new] at hf; exact hf)
  exact ⟨rfl, D', ⟨_, _, _, _, _, _, _, _, hD⟩, t, v⟩
theorem rmk_any (h : Dso R w D G s) {id : Int} (wi : (Lit.int .i64 id).wf = true) (hfew : s.l.length < 100000) :
    Calls Tryz.prog 116 #[.pointer (some ⟨G, 0, none⟩), .int .i64 id] w (SideO (fun w' D' => Dso R w' D' G (mkS s id)) D w (.int .i64 (mkE s id : Nat))) := by
  by_cases h0 : id < 0
  · have hE : mkE s id = 2 := by unfold mkE; rw [if_pos h0]
    have hS : mkS s id = s := by unfold mkS; rw [if_neg (by omega)]
    rw [hE, hS]
    have HH := hide h
    clear h hE hS wi
    go_enter Tryz.func116, Tryz.ntmps116
    go_wp2_with fail
    go_ret
    exact SideO.of_below (P := fun w' D' => Dso R w' D' G s) HH.out (Below.refl _ _)
  · cases e : getFi s.l id with
    | none =>
      have hE : mkE s id = 0 := by unfold mkE; rw [if_neg h0, e]; rfl
      rw [hE]
      obtain ⟨xs, vL, t, b, st, fresh, back, K, h⟩ := h
      exact rmk_new h wi h0 e hfew
    | some o =>
      have hE : mkE s id = 5 := by unfold mkE; rw [if_neg h0, e]; rfl
      have hS : mkS s id = s := by unfold mkS; rw [if_neg (by omega)]
      rw [hE, hS]
      obtain ⟨m, n, c, g, bv, hm, hn, c1, d1, ob, at_⟩ := h.file e
      have AT := hide at_
      have m0 : (0 : Int) ≤ (m : Int) := by omega
      have HH := hide h
      clear h hE hS wi e at_ ob c1 d1 hm hn
      go_enter Tryz.func116, Tryz.ntmps116
      go_wp2_with (go_at_call 88; refine AT.out.mono ?_; rintro e w' ⟨rfl, rfl⟩)
      go_ret
      exact SideO.of_below (P := fun w' D' => Dso R w' D' G s) HH.out (Below.refl _ _)
end
end Go.Proofs.YtndfnglcichngaaGreatDoor
namespace Go.Proofs.YtndfnglcichngaaGreatDoor
open Go.ChangeShapes Go.WideShapes Go.ChangeAt Go.RowKit
set_option linter.unusedVariables false
set_option linter.unusedSimpArgs false
section
variable {w : World} {D : Nat → Prop} {G R : Nat} {s : So} {p q : List Rfl} {x : Rfl} {vL : Value} {t b : Nat} {st : St} {fresh : Nat} {back : List Nat} {K : Nat → Prop}
theorem fss_mid (p q : List Rfl) (x : Rfl) : fss (p ++ x :: q) = fss p ++ (x.F ++ fss q) := by unfold fss; simp
/-- File x is x' now; its frames, and which are taken, too. -/
theorem DsoM.turn {w' : World} {x' : Rfl} {st' : St} {fresh' : Nat} {back' : List Nat} {K' : Nat → Prop} (h : DsoM w D G R (p ++ x :: q) vL t b st fresh back K)
    (u : Touch (fun i => K i ∨ vL.ownBlock = some i) w w') (rf : RfG w' K' R t b st' fresh' back') (hK : ∀ i, K' i → K i ∨ w.heap.size ≤ i)
    (row : w'.ownsRow 0 158 3 vL (p ++ x' :: q).length ((p ++ x' :: q).flatMap rflV)) (ok : RflOk w' x') (im : ∀ i, x'.im i → x.im i ∨ (w.heap.size ≤ i ∧ ¬ K' i))
    (nod : (fss (p ++ x' :: q)).Nodup) (tkn : ∀ f ∈ fss (p ++ x' :: q), f < st'.n ∧ st'.tk f = true) :
    ∃ D', DsoM w' D' G R (p ++ x' :: q) vL t b st' fresh' back' K' ∧ Touch D w w' ∧ ∀ i, D' i → D i ∨ w.heap.size ≤ i := by
  have hG : G < w.heap.size := lt_of_heap h.hd
  have hx : x ∈ p ++ x :: q := List.mem_append_right _ (List.mem_cons_self ..)
  have old : ∀ y, y ∈ p ++ x' :: q → y = x' ∨ y ∈ p ++ x :: q := by
    intro y hy
    rcases List.mem_append.1 hy with hy | hy
    · exact .inr (List.mem_append_left _ hy)
    · rcases List.mem_cons.1 hy with hy | hy
      · exact .inl hy
      · exact .inr (List.mem_append_right _ (List.mem_cons_of_mem _ hy))
  have sep0 : ∀ y ∈ p ++ x :: q, ∀ i, y.im i → i ≠ G ∧ vL.ownBlock ≠ some i ∧ ¬ K' i := by
    intro y hy i hi
    have hs := h.sep y hy i hi
    exact ⟨hs.1, hs.2.1, fun e => by rcases hK i e with e | e; exact hs.2.2 e; have := (h.ok y hy).lt i hi; omega⟩
  have dD : ∀ i, (K i ∨ vL.ownBlock = some i) → D i := fun i e => (h.un i).2 (e.elim (fun e => .inr (.inr (.inl e))) (fun e => .inr (.inl e)))
  have vlt : ∀ i, vL.ownBlock = some i → i < w.heap.size := fun i e => (h.row.lt i e).2
  refine ⟨fun i => i = G ∨ vL.ownBlock = some i ∨ K' i ∨ ∃ y ∈ p ++ x' :: q, y.im i, ⟨?_, row, fun y hy => ?_, rf, nod, tkn, fun y hy i hi => ?_, ⟨h.sG.1, fun e => ?_⟩, fun i e hk => ?_, fun i => Iff.rfl⟩, u.mono dD, fun i hi => ?_⟩
  · exact (u.block G hG (fun e => e.elim h.sG.2 h.sG.1)).trans h.hd
  · rcases old y hy with rfl | e
    · exact ok
    · exact (h.ok y e).touch u (fun i hi e2 => by have hs := h.sep y e i hi; exact e2.elim hs.2.2 hs.2.1)
  · rcases old y hy with rfl | e
    · rcases im i hi with e | ⟨e, e2⟩
      · exact sep0 x hx i e
      · exact ⟨by omega, fun e3 => by have := vlt i e3; omega, e2⟩
    · exact sep0 y e i hi
  · rcases hK G e with e | e
    · exact h.sG.2 e
    · omega
  · rcases hK i hk with e2 | e2
    · exact h.sL i e e2
    · have := vlt i e; omega
  · rcases hi with e | e | e | ⟨y, hy, e⟩
    · exact .inl ((h.un i).2 (.inl e))
    · exact .inl (dD i (.inr e))
    · exact (hK i e).imp (fun e => dD i (.inl e)) id
    · rcases old y hy with rfl | e2
      · rcases im i e with e | ⟨e, _⟩
        · exact .inl ((h.un i).2 (.inr (.inr (.inr ⟨x, hx, e⟩))))
        · exact .inr e
      · exact .inl ((h.un i).2 (.inr (.inr (.inr ⟨y, e2, e⟩))))
theorem flat_mid (p q : List Rfl) (x : Rfl) : (p ++ x :: q).flatMap rflV = p.flatMap rflV ++ (.int .i64 x.id :: x.bv :: x.fv :: q.flatMap rflV) := by simp [rflV]
theorem flat_set1 (p q : List Rfl) (x x' : Rfl) {v : Value} (hv : x'.bv = v) (hi : x'.id = x.id) (hf : x'.fv = x.fv) : ((p ++ x :: q).flatMap rflV).set (p.length * 3 + 1) v = (p ++ x' :: q).flatMap rflV := by
  subst hv
  have hl : (p.flatMap rflV).length = p.length * 3 := flat_length rflV_len p
  rw [flat_mid, flat_mid, List.set_append_right _ _ (by omega), hl, show p.length * 3 + 1 - p.length * 3 = 1 by omega, hi, hf]
  rfl
theorem flat_set2 (p q : List Rfl) (x x' : Rfl) {v : Value} (hv : x'.fv = v) (hi : x'.id = x.id) (hb : x'.bv = x.bv) : ((p ++ x :: q).flatMap rflV).set (p.length * 3 + 2) v = (p ++ x' :: q).flatMap rflV := by
  subst hv
  have hl : (p.flatMap rflV).length = p.length * 3 := flat_length rflV_len p
  rw [flat_mid, flat_mid, List.set_append_right _ _ (by omega), hl, show p.length * 3 + 2 - p.length * 3 = 2 by omega, hi, hb]
  rfl
theorem get_split {p q : List Rfl} {x : Rfl} {id : Int} (hx : x.id = id) (hp : ∀ y ∈ p, y.id ≠ id) : getFi (p.map Rfl.fi ++ (x :: q).map Rfl.fi) id = some x.b := by
  induction p with
  | nil =>
    show (if x.id = id then _ else _) = _
    rw [if_pos hx]; rfl
  | cons y p ih =>
    show (if y.id = id then _ else _) = _
    rw [if_neg (hp y (List.mem_cons_self ..))]
    exact ih (fun z hz => hp z (List.mem_cons_of_mem _ hz))
/-- What stays where frames turn alone. -/
theorem DsoM.held (h : DsoM w D G R (p ++ x :: q) vL t b st fresh back K) : ∃ g c, vL = .slice (some ⟨g, 0, none⟩) (p ++ x :: q).length c ∧ ∀ W, Touch K w W → W.cell? ⟨G, 0, none⟩ = some (.pointer (some ⟨R, 0, none⟩)) ∧ W.cell? ⟨G, 1, none⟩ = some vL ∧ W.cell? ⟨g, p.length * 3 + 1, none⟩ = some x.bv ∧ W.cell? ⟨g, p.length * 3 + 2, none⟩ = some x.fv ∧ W.frozen? ⟨g, p.length * 3 + 1, none⟩ = false ∧ W.frozen? ⟨g, p.length * 3 + 2, none⟩ = false ∧
    W.ownsRow 0 158 3 vL (p ++ x :: q).length ((p ++ x :: q).flatMap rflV) ∧ RflOk W x := by
  have hx : (p ++ x :: q)[p.length]? = some x := by rw [List.getElem?_append_right (Nat.le_refl _), Nat.sub_self]; rfl
  have hm : x ∈ p ++ x :: q := List.mem_append_right _ (List.mem_cons_self ..)
  obtain ⟨g, c, rfl, d0, d1, d2, _⟩ := h.at_ hx
  refine ⟨g, c, rfl, fun W u => ?_⟩
  have rw_ := u.own h.row (fun i e hk => h.sL i e hk)
  have fz := fun j => rw_.frozenAt j
  exact ⟨u.cell h.c0 h.sG.2, u.cell h.c1 h.sG.2, u.cell d1 (fun e => h.sL g rfl e), u.cell d2 (fun e => h.sL g rfl e), fz _, fz _, rw_, (h.ok x hm).touch u (fun i hi => (h.sep x hm i hi).2.2)⟩
/-- Frames under way back: k of F are given. -/
structure Gvn (w W : World) (K : Nat → Prop) (R t b : Nat) (st : St) (fresh : Nat) (F : List Nat) (k : Nat) (K' : Nat → Prop) (st' : St) (back' : List Nat) : Prop where
  rf : RfG W K' R t b st' fresh back'
  tch : Touch K w W
  sub : ∀ i, K' i → K i ∨ w.heap.size ≤ i
  n : st'.n = st.n
  len : st'.fr.length = st.fr.length + k
  tk : ∀ f, f ∉ F.take k → st'.tk f = st.tk f
theorem Gvn.next {w W W' : World} {K K' K2 : Nat → Prop} {R t b : Nat} {st st' : St} {fresh : Nat} {F : List Nat} {k f : Nat} {back' : List Nat} (h : Gvn w W K R t b st fresh F k K' st' back') (hf : F[k]? = some f)
    (r : RfG W' K2 R t b (st'.give f) fresh (back' ++ [f])) (u : Touch K' W W') (hs : ∀ i, K2 i → K' i ∨ W.heap.size ≤ i) : Gvn w W' K R t b st fresh F (k + 1) K2 (st'.give f) (back' ++ [f]) := by
  refine ⟨r, h.tch.trans u h.sub, fun i hi => ?_, h.n, ?_, fun g hg => ?_⟩
  · rcases hs i hi with e | e
    · exact h.sub i e
    · exact .inr (Nat.le_trans h.tch.size e)
  · show (st'.fr ++ [f]).length = _
    rw [List.length_append, h.len]; rfl
  · have hlt := (List.getElem?_eq_some_iff.1 hf).1
    rw [List.take_succ_eq_append_getElem hlt, List.mem_append] at hg
    have hv : F[k] = f := (List.getElem?_eq_some_iff.1 hf).2
    rw [hv] at hg
    have h1 : g ∉ F.take k := fun e => hg (.inl e)
    have h2 : g ≠ f := fun e => hg (.inr (by simp [e]))
    show upd st'.tk f false g = _
    rw [upd_other _ _ h2]
    exact h.tk g h1
theorem take_not {l : List Nat} (h : l.Nodup) {k f : Nat} (hk : l[k]? = some f) : f ∉ l.take k := by
  intro e
  obtain ⟨j, hj, e2⟩ := List.getElem_of_mem e
  have hlt := (List.getElem?_eq_some_iff.1 hk).1
  rw [List.length_take] at hj
  have h3 : l[j]'(by omega) = l[k] := by
    rw [(List.getElem?_eq_some_iff.1 hk).2, ← e2, List.getElem_take]
  exact List.pairwise_iff_getElem.1 h j k (by omega) hlt (by omega) h3
/-- What Cut leaves. -/
def CutTo (R : Nat) (w : World) (D : Nat → Prop) (G : Nat) (s : So) (id : Int) (p q : List Rfl) (w' : World) : Prop :=
  ∃ D' x' vL t b st fresh back K, x'.id = id ∧ x'.b = [] ∧ DsoAt w' D' G R (ctS s id) (p ++ x' :: q) vL t b st fresh back K ∧ Touch D w w' ∧ ∀ i, D' i → D i ∨ w.heap.size ≤ i
set_option maxRecDepth 10000 in
set_option maxHeartbeats 8000000 in
theorem rct_some {id : Int} (h : DsoAt w D G R s (p ++ x :: q) vL t b st fresh back K) (ex : x.id = id) (ep : ∀ y ∈ p, y.id ≠ id) :
    Calls Tryz.prog 79 #[.pointer (some ⟨G, 0, none⟩), .int .i64 id] w fun e w' => e = .returned (.int .i64 0) ∧ CutTo R w D G s id p q w' := by
  have AT := hide (rat_some h ex ep)
  obtain ⟨g, c, rfl, held⟩ := h.m.held
  have HD := hide held
  have HH := hide h
  have EX := hide ex
  have EP := hide ep
  have N5 := hide (show (p ++ x :: q).length ≤ 100000 from by have := h.p.few; rw [h.p.l, List.length_map] at this; exact this)
  have ML := hide (show p.length < (p ++ x :: q).length from by rw [List.length_append, List.length_cons]; omega)
  have hm : x ∈ p ++ x :: q := List.mem_append_right _ (List.mem_cons_self ..)
  have FL := hide (show x.F.length ≤ 8 from by rw [h.p.blk x hm]; exact blkN_le8 _ (h.p.good.le x.fi (by rw [h.p.l]; exact List.mem_map_of_mem hm)))
  have FN := hide (show x.F.Nodup from by have := h.m.nod; rw [fss_mid, List.nodup_append] at this; exact (List.nodup_append.1 this.2.1).1)
  have FT := hide (show ∀ f ∈ x.F, f < st.n ∧ st.tk f = true from fun f hf => h.m.tkn f (by rw [fss_mid]; exact List.mem_append_right _ (List.mem_append_left _ hf)))
  obtain ⟨n, hn⟩ : ∃ n, n = (p ++ x :: q).length := ⟨_, rfl⟩
  obtain ⟨m, hm2⟩ : ∃ m, m = p.length := ⟨_, rfl⟩
  obtain ⟨L, hL⟩ : ∃ L, L = x.F.length := ⟨_, rfl⟩
  rw [← hn] at N5 ML
  rw [← hm2] at ML AT
  rw [← hL] at FL
  have G0 := hide (show Gvn w w K R t b st fresh x.F 0 K st back from ⟨h.m.rf, Touch.refl _ _, fun i e => .inl e, rfl, rfl, fun _ _ => rfl⟩)
  have CC := hide (show ∀ W, Touch K w W → W.cell? ⟨G, 0, none⟩ = some (.pointer (some ⟨R, 0, none⟩)) ∧ W.cell? ⟨G, 1, none⟩ = some (.slice (some ⟨g, 0, none⟩) n c) ∧ W.cell? ⟨g, m * 3 + 1, none⟩ = some x.bv ∧ W.cell? ⟨g, m * 3 + 2, none⟩ = some (.slice x.fa L x.fc) ∧ W.frozen? ⟨g, m * 3 + 1, none⟩ = false ∧ W.frozen? ⟨g, m * 3 + 2, none⟩ = false ∧ Ints .i64 W x.fa L (nums x.F) from fun W u => by
    obtain ⟨a1, a2, a3, a4, a5, a6, _, a8⟩ := HD.out W u
    rw [← hn] at a2
    rw [← hm2] at a3 a4 a5 a6
    rw [show x.fv = .slice x.fa L x.fc from by rw [hL]; rfl] at a4
    obtain ⟨A, C, e, i, _⟩ := own_ints a8.fs
    have e' : Value.slice x.fa x.F.length x.fc = Value.slice A x.F.length C := e
    injection e' with e1 _ e2
    subst e1 e2
    exact ⟨a1, a2, a3, a4, a5, a6, by rw [hL]; exact i⟩)
  have HN := hide hn
  have HM := hide hm2
  have HL := hide hL
  have m0 : (0 : Int) ≤ (m : Int) := by omega
  have m1 : (m : Int) < (n : Int) := by have := ML.out; omega
  have n5 : (n : Int) ≤ 100000 := by have := N5.out; omega
  have l8 : (L : Int) ≤ 8 := by have := FL.out; omega
  have XB := hide (show ∃ xb, xb = x.bv from ⟨_, rfl⟩)
  clear h ex ep hn hm2 hL held hm
  generalize x.fa = fa at *
  generalize x.fc = fc at *
  go_enter Tryz.func79, Tryz.ntmps79
  go_wp2_with (go_at_call 88; refine AT.out.mono ?_; rintro e w' ⟨rfl, rfl⟩)
  go_loopw [6] (fun v wr => ∃ (k : Nat) (K' : Nat → Prop) (st' : St) (back' : List Nat), k ≤ L ∧ v = .int .i64 (k : Int) ∧ Hid (Gvn w wr K R t b st fresh x.F k K' st' back')) (fun v _ => L - (intOf v).toNat)
  case atStart => exact ⟨0, _, _, _, Nat.zero_le _, rfl, G0⟩
  case round =>
    clear G0
    obtain ⟨k, K', st', back', hk, rfl, hG⟩ := hrel
    obtain ⟨a1, a2, a3, a4, a5, a6, a7⟩ := CC.out wr hG.out.tch
    have k0 : (0 : Int) ≤ (k : Int) := by omega
    by_cases hkl : k < L
    · have k1 : (k : Int) < (L : Int) := by omega
      obtain ⟨gf, go, rfl, hc⟩ := a7.2 (by omega)
      have hfk : x.F[k]? = some (x.F[k]'(by have := HL.out; omega)) := List.getElem?_eq_getElem _
      have c7 := hc k hkl
      rw [show (nums x.F).getD k 0 = ((x.F[k]'(by have := HL.out; omega) : Nat) : Int) from by simp [nums, List.getD, hfk]] at c7
      generalize (x.F[k]'(by have := HL.out; omega)) = f at *
      have ff := FT.out f (List.mem_of_getElem? hfk)
      have tk' : st'.tk f = true := by rw [hG.out.tk f (take_not FN.out hfk)]; exact ff.2
      have GV := hide (rgive_own (hG.out.rf.below (Below.refl wr.heap.size wr).drew) f (by rw [hG.out.n]; exact ff.1) tk')
      have HF := hide hfk
      clear hc a3 a5 a6 a7 ff tk' hfk
      go_wp2_with fail
      go_region_held3 (fun w' => w'.cell? ⟨G, 0, none⟩ = some (.pointer (some ⟨R, 0, none⟩)) ∧ w'.cell? ⟨G, 1, none⟩ = some (.slice (some ⟨g, 0, none⟩) n c) ∧ w'.cell? ⟨g, m * 3 + 2, none⟩ = some (.slice (some ⟨gf, go, none⟩) L fc) ∧ w'.cell? ⟨gf, go + k, none⟩ = some (.int .i64 (f : Int))) (first | exact ⟨a1, a2, a4, c7⟩ | exact qq) (first
        | (go_at_call 114; refine GV.out.mono ?_; rintro e w2 ⟨rfl, K2, r2, u2, s2⟩; have G2 := hide (hG.out.next HF.out r2 (((Touch.refl K' wr).drewN 1).trans u2 (fun i e => .inl e)) s2); have qq := (show w2.cell? ⟨G, 0, none⟩ = some (.pointer (some ⟨R, 0, none⟩)) ∧ w2.cell? ⟨G, 1, none⟩ = some (.slice (some ⟨g, 0, none⟩) n c) ∧ w2.cell? ⟨g, m * 3 + 2, none⟩ = some (.slice (some ⟨gf, go, none⟩) L fc) ∧ w2.cell? ⟨gf, go + k, none⟩ = some (.int .i64 (f : Int)) from (by
            obtain ⟨b1, b2, _, b4, _, _, b7⟩ := CC.out w2 G2.out.tch
            obtain ⟨gf', go', e', hc'⟩ := b7.2 (by omega)
            injection e' with e'
            injection e' with e1 e2 _
            subst e1 e2
            refine ⟨b1, b2, b4, ?_⟩
            have := hc' k hkl
            rw [this]
            simp [nums, List.getD, HF.out])); clear r2 u2 s2))
      go_wp2_with fail
      go_roundw
      case rel => exact ⟨k + 1, _, _, _, by omega, by go_num, G2.out⟩
      case measure => simp [intOf]; omega
    · obtain rfl : k = L := by omega
      have hgG := hide (show g ≠ G from fun e => HH.out.m.sG.1 (by rw [e]; rfl))
      have k1 : ¬ (k : Int) < (k : Int) := by omega
      have lg := hide (lt_of_cell? a4)
      clear hkl hk a7
      go_upto_region 8 with fail
      go_region
      go_wp2_with fail
      go_ret
      have ex := EX.out
      have rw0 := (HD.out wr hG.out.tch).2.2.2.2.2.2.1
      have rw1 := (rw0.stored (p.length * 3 + 1) (.slice none 0 0)).1
      rw [flat_set1 p q x ⟨x.id, [], none, 0, x.F, x.fa, x.fc⟩ (v := .slice none 0 0) rfl rfl rfl] at rw1
      have rw2 := (rw1.stored (p.length * 3 + 2) (.slice none 0 0)).1
      rw [flat_set2 p q ⟨x.id, [], none, 0, x.F, x.fa, x.fc⟩ ⟨x.id, [], none, 0, [], none, 0⟩ (v := .slice none 0 0) rfl rfl rfl] at rw2
      have uT : Touch (fun i => i = g) wr ((wr.setCell ⟨g, m * 3 + 1, none⟩ (.slice none 0 0)).setCell ⟨g, m * 3 + 2, none⟩ (.slice none 0 0)).drew :=
        (((Touch.refl (fun i => i = g) wr).setCell (p := ⟨g, m * 3 + 1, none⟩) rfl _).setCell (p := ⟨g, m * 3 + 2, none⟩) rfl _).drewN 1
      have own_g : (Value.slice (some ⟨g, 0, none⟩) (p ++ x :: q).length c).ownBlock = some g := rfl
      rw [← HM.out] at rw2
      generalize ((wr.setCell ⟨g, m * 3 + 1, none⟩ (.slice none 0 0)).setCell ⟨g, m * 3 + 2, none⟩ (.slice none 0 0)) = W at *
      have hsub : ∀ f, f ∈ fss (p ++ (⟨x.id, [], none, 0, [], none, 0⟩ : Rfl) :: q) → f ∈ fss (p ++ x :: q) ∧ f ∉ x.F := by
        intro f hf
        rw [fss_mid] at hf
        have nd := HH.out.m.nod
        rw [fss_mid, List.nodup_append] at nd
        rcases List.mem_append.1 hf with hf | hf
        · exact ⟨by rw [fss_mid]; exact List.mem_append_left _ hf, fun e => nd.2.2 f hf f (List.mem_append_left _ e) rfl⟩
        · have hf : f ∈ fss q := by simpa using hf
          exact ⟨by rw [fss_mid]; exact List.mem_append_right _ (List.mem_append_right _ hf), fun e => (List.nodup_append.1 nd.2.1).2.2 f e f hf rfl⟩
      obtain ⟨D', hM, u', sD⟩ := HH.out.m.turn (x' := ⟨x.id, [], none, 0, [], none, 0⟩) (w' := W.drew)
        ((hG.out.tch.mono (fun i e => .inl e)).trans uT (fun i e => .inl (.inr (by rw [e]; exact own_g)))) (hG.out.rf.keep uT (fun i hi e => by
          rcases hG.out.sub i hi with e2 | e2
          · exact HH.out.m.sL g own_g (e ▸ e2)
          · have := (HH.out.m.row.lt g own_g).2; omega)) hG.out.sub (by rw [show (p ++ (⟨x.id, [], none, 0, [], none, 0⟩ : Rfl) :: q).length = (p ++ x :: q).length from by simp]; exact rw2.drew)
        ⟨World.ownsRow_nil _ _ _ _, World.ownsRow_nil _ _ _ _⟩ (fun i hi => by rcases hi with hi | hi <;> cases hi)
        (by
          have nd := HH.out.m.nod
          rw [fss_mid] at nd ⊢
          exact nd.sublist (List.Sublist.append (List.Sublist.refl _) (List.sublist_append_right _ _)))
        (fun f hf => by
          obtain ⟨h1, h2⟩ := hsub f hf
          rw [hG.out.n, hG.out.tk f (fun e => h2 (List.mem_of_mem_take e))]
          exact HH.out.m.tkn f h1)
      refine ⟨rfl, D', ⟨x.id, [], none, 0, [], none, 0⟩, _, t, b, st', fresh, back', K', ex, rfl, ⟨hM, ⟨?_, ?_, HH.out.p.good.ct id, ?_, fun y hy => ?_⟩⟩, u', sD⟩
      · show putFi s.l id [] = _
        rw [HH.out.p.l, put_split ex EP.out, ← ex, List.map_append]; rfl
      · show s.fr + blkO (getFi s.l id) = _
        have hg : getFi s.l id = some x.b := by
          rw [HH.out.p.l, List.map_append]
          exact get_split ex EP.out
        rw [hg, hG.out.len, HH.out.p.fr, HL.out, HH.out.p.blk x (List.mem_append_right _ (List.mem_cons_self ..))]
        rfl
      · rw [ctS_len]; exact HH.out.p.few
      · rcases List.mem_append.1 hy with hy | hy
        · exact HH.out.p.blk y (List.mem_append_left _ hy)
        · rcases List.mem_cons.1 hy with rfl | hy
          · show 0 = blkN 0; decide
          · exact HH.out.p.blk y (List.mem_append_right _ (List.mem_cons_of_mem _ hy))
end
end Go.Proofs.YtndfnglcichngaaGreatDoor
namespace Go.Proofs.YtndfnglcichngaaGreatDoor
open Go.ChangeShapes Go.WideShapes Go.ChangeAt Go.RowKit
set_option linter.unusedVariables false
set_option linter.unusedSimpArgs false
section
variable {w : World} {D : Nat → Prop} {G R : Nat} {s : So} {p q : List Rfl} {x : Rfl} {vL : Value} {t b : Nat} {st : St} {fresh : Nat} {back : List Nat} {K : Nat → Prop}
theorem Dso.split (h : Dso R w D G s) {id : Int} {o : List Int} (e : getFi s.l id = some o) : ∃ p x q vL t b st fresh back K, x.id = id ∧ x.b = o ∧ (∀ y ∈ p, y.id ≠ id) ∧ DsoAt w D G R s (p ++ x :: q) vL t b st fresh back K := by
  obtain ⟨xs, vL, t, b, st, fresh, back, K, h⟩ := h
  have e1 := e
  rw [h.p.l] at e1
  obtain ⟨p, x, q, rfl, h2, h3, h4⟩ := fi_split e1
  exact ⟨p, x, q, vL, t, b, st, fresh, back, K, h2, h3, h4, h⟩
theorem rct_gone (h : Dso R w D G s) {id : Int} (e : getFi s.l id = none) :
    Calls Tryz.prog 79 #[.pointer (some ⟨G, 0, none⟩), .int .i64 id] w fun e w' => e = .returned (.int .i64 4) ∧ w = w' := by
  have AT := hide (h.gone e)
  clear h e
  go_enter Tryz.func79, Tryz.ntmps79
  go_wp2_with (go_at_call 88; refine AT.out.mono ?_; rintro e w' ⟨rfl, rfl⟩)
  go_ret
  exact ⟨rfl, rfl⟩
theorem ctS_none {s : So} {id : Int} (e : getFi s.l id = none) : ctS s id = s := by
  unfold ctS
  rw [put_none e, e]
  rfl
theorem drS_none {s : So} {id : Int} (e : getFi s.l id = none) : drS s id = s := by
  unfold drS
  rw [del_none e, e]
  rfl
theorem rct_any (h : Dso R w D G s) (id : Int) :
    Calls Tryz.prog 79 #[.pointer (some ⟨G, 0, none⟩), .int .i64 id] w (SideO (fun w' D' => Dso R w' D' G (ctS s id)) D w (.int .i64 (thE s id : Nat))) := by
  cases e : getFi s.l id with
  | none =>
    rw [ctS_none e, show thE s id = 4 from by unfold thE; rw [e]; rfl]
    refine (rct_gone h e).mono ?_
    rintro en w' ⟨rfl, rfl⟩
    exact SideO.of_below (P := fun w' D' => Dso R w' D' G s) h (Below.refl _ _)
  | some o =>
    rw [show thE s id = 0 from by unfold thE; rw [e]; rfl]
    obtain ⟨p, x, q, vL, t, b, st, fresh, back, K, h2, h3, h4, h⟩ := h.split e
    refine (rct_some h h2 h4).mono ?_
    rintro en w' ⟨rfl, D', x', vL', t', b', st', fresh', back', K', e1, e2, hD, u, sD⟩
    exact ⟨rfl, D', ⟨_, _, _, _, _, _, _, _, hD⟩, u, sD⟩
set_option maxRecDepth 10000 in
set_option maxHeartbeats 8000000 in
theorem rdr_some {id : Int} (h : DsoAt w D G R s (p ++ x :: q) vL t b st fresh back K) (ex : x.id = id) (ep : ∀ y ∈ p, y.id ≠ id) :
    Calls Tryz.prog 119 #[.pointer (some ⟨G, 0, none⟩), .int .i64 id] w (SideO (fun w' D' => Dso R w' D' G (drS s id)) D w (.int .i64 0)) := by
  have CT := hide (rct_some h ex ep)
  have EP := hide ep
  have SL := hide (show s.l = (p ++ x :: q).map Rfl.fi from h.p.l)
  have EX := hide ex
  clear h ex ep
  obtain ⟨i0, hi0, hz0, hz1, hz2⟩ := info_parts file_info
  have I0 := hide (show Tryz.prog.info? 158 = some i0 ∧ i0.zero = some _ ∧ i0.size = 3 ∧ i0.bytes = 56 from ⟨hi0, hz0, hz1, hz2⟩)
  clear hi0 hz0 hz1 hz2
  go_enter Tryz.func119, Tryz.ntmps119
  go_wp2_with fail
  go_at_call 79
  refine CT.out.mono ?_
  rintro e w1 ⟨rfl, D1, x', vM, t1, b1, st1, fresh1, back1, K1, e1, e2, hD, u1, s1⟩
  have AT := hide (rat_some hD e1 EP.out)
  have HD := hide hD
  have U1 := hide u1
  have S1 := hide s1
  have E1 := hide e1
  have E2 := hide e2
  obtain ⟨a, c, rfl, hr, hnc, hcm, hnil⟩ := own_reads rflV_len (by omega) hD.m.row
  have hpos : 0 < (p ++ x' :: q).length := by rw [List.length_append, List.length_cons]; omega
  obtain ⟨g, go, rfl, -⟩ := hr.2 hpos
  obtain rfl : go = 0 := by
    obtain ⟨_, _, e, _, _, _, hz⟩ := own_sliceR hD.m.row
    injection e with e _ _
    exact (hz _ e.symm).1
  have c1 := hD.m.c1
  have f1 := hD.m.f0 1
  obtain ⟨m, hm⟩ : ∃ m, m = p.length := ⟨_, rfl⟩
  obtain ⟨n, hn⟩ : ∃ n, n = (p ++ x' :: q).length := ⟨_, rfl⟩
  have MN := hide (show m < n ∧ n ≤ 100000 ∧ n ≤ c ∧ c ≤ maxLen ∧ n - (m + 1) = q.length ∧ m = p.length from ⟨by rw [hm, hn, List.length_append, List.length_cons]; omega, by rw [hn]; have := hD.p.few; rw [hD.p.l, List.length_map] at this; exact this, by rw [hn]; exact hnc, hcm, by rw [hn, hm, List.length_append, List.length_cons]; omega, hm⟩)
  rw [← hm] at AT
  rw [← hn] at c1 hr
  have RP := hide (show Reads 3 rflV w1 (some ⟨g, 0, none⟩) m p from by have := hr.front (k := m) (by have := MN.out; omega); rw [hm, List.take_left] at this; rw [hm]; exact this)
  have RQ := hide (show Reads 3 rflV w1 (some ⟨g, (m + 1) * 3, none⟩) (n - (m + 1)) q from by
    have := hr.part (m + 1) (n - (m + 1)) (by have := MN.out; omega)
    rw [Nat.zero_add] at this
    have e : ((p ++ x' :: q).drop (m + 1)).take (n - (m + 1)) = q := by
      rw [hm, List.drop_append, List.drop_eq_nil_of_le (by omega), show p.length + 1 - p.length = 1 by omega, List.nil_append]
      show q.take (n - (p.length + 1)) = q
      rw [← hm, MN.out.2.2.2.2.1, List.take_length]
    rw [e] at this
    exact this)
  have p0 : (0 : Int) ≤ (m : Int) := by omega
  have p1 : (m : Int) < (n : Int) := by have := MN.out; omega
  have pn : ¬ (m : Int) < 0 := by omega
  have p2 : (m : Int) ≤ (c : Int) := by have := MN.out; omega
  have p3 : (m : Int) + 1 ≤ (n : Int) := by have := MN.out; omega
  have p4 : (n : Int) ≤ (c : Int) := by have := MN.out; omega
  have p5 : (0 : Int) ≤ (m : Int) + 1 := by omega
  have pw : IntKind.i64.wrap ((m : Int) + 1) = (m : Int) + 1 := by rw [IntKind.wrap_i64]; have := MN.out; omega
  obtain ⟨ad, had, hrq⟩ : ∃ ad : Addr, (if c = m + 1 then some (⟨g, 0, none⟩ : Addr) else some ⟨g, (m + 1) * 3, none⟩) = some ad ∧ Hid (Reads 3 rflV w1 (some ad) (n - (m + 1)) q) := by
    by_cases e : c = m + 1
    · have hq : q = [] := List.eq_nil_of_length_eq_zero (by have := MN.out; omega)
      refine ⟨⟨g, 0, none⟩, by rw [if_pos e], ?_⟩
      rw [show n - (m + 1) = 0 by have := MN.out; omega, hq]
      exact reads_nil
    · exact ⟨⟨g, (m + 1) * 3, none⟩, by rw [if_neg e], RQ.out⟩
  have PC := hide (show ∀ W, Below w1.heap.size w1 W → ∀ (j : Nat) (u : Value), (p.flatMap rflV)[j]? = some u → W.cell? ((⟨g, 0, none⟩ : Addr).add j) = some u from fun W bW => (RP.out.below bW).cells rflV_len _ rfl)
  have QC := hide (show ∀ W, Below w1.heap.size w1 W → ∀ (j : Nat) (u : Value), (q.flatMap rflV)[j]? = some u → W.cell? (ad.add j) = some u from fun W bW => (hrq.out.below bW).cells rflV_len _ rfl)
  have PL := hide (show (p.flatMap rflV).length = m * 3 from by rw [flat_length rflV_len, hm])
  have QL := hide (show (q.flatMap rflV).length = (n - (m + 1)) * 3 from by rw [flat_length rflV_len, MN.out.2.2.2.2.1])
  have OC := hide (show ∀ ys : List Rfl, ∀ v ∈ ys.flatMap rflV, v.oneCell' = true from fun ys => flat_cell rflV_cell ys)
  have HE := hide (show ∀ W, Below w1.heap.size w1 W → W.heap[G]? = some (.cells #[.pointer (some ⟨R, 0, none⟩), .slice (some ⟨g, 0, none⟩) n c] 143 (0, 0)) ∧ W.cell? ⟨G, 1, none⟩ = some (.slice (some ⟨g, 0, none⟩) n c) ∧ W.frozen? ⟨G, 1, none⟩ = false from fun W bW => by
    have h := hD.m.below bW
    rw [hn]
    exact ⟨h.hd, h.c1, h.f0 1⟩)
  have MX := hide (show n + 1 ≤ maxLen from by have := MN.out; unfold maxLen; omega)
  have MB := hide (show (n + 1) * 56 ≤ 140737488355328 from by have := MN.out; omega)
  have MM := hide (show m + (n - (m + 1)) = n - 1 ∧ m < n from by have := MN.out; omega)
  have SP := hide (show drS s id = ⟨(p ++ q).map Rfl.fi, (ctS s id).fr⟩ from by
    unfold drS
    rw [SL.out, del_split EX.out EP.out]
    unfold ctS
    rw [SL.out])
  have FIN := hide (show ∀ (w8 : World) (A : Option Addr) (c8 N : Nat) (ys : List Value), Below w1.heap.size w1 w8 → w8.ownsRow w1.heap.size 158 3 (.slice A N c8) N ys → ys = p.flatMap rflV ++ q.flatMap rflV → N = n - 1 →
      SideO (fun w' D' => Dso R w' D' G (drS s id)) D w (.int .i64 0) (.returned (.int .i64 0)) (w8.setCell ⟨G, 1, none⟩ (.slice A N c8)) from fun w8 A c8 N ys hb ho hy hN => by
    have hNl : N = (p ++ q).length := by rw [hN, hn]; simp
    clear hN
    subst hNl
    have u2 : Touch (fun i => i = G) w8 (w8.setCell ⟨G, 1, none⟩ (.slice A (p ++ q).length c8)) := (Touch.refl (fun i => i = G) w8).setCell (p := ⟨G, 1, none⟩) rfl _
    have u : Touch (fun i => i = G) w1 (w8.setCell ⟨G, 1, none⟩ (.slice A (p ++ q).length c8)) := (Touch.of_below hb).trans u2 (fun i e => .inl e)
    have row := u2.own ho (fun g hg e => by have := (ho.lt g hg).1; have := lt_of_heap hD.m.hd; omega)
    rw [hy, ← List.flatMap_append] at row
    have nd := hD.m.nod
    rw [fss_mid] at nd
    have fpq : fss (p ++ q) = fss p ++ fss q := by unfold fss; simp
    obtain ⟨D', hD', t, v⟩ := hD.renew (s' := drS s id) (ys := p ++ q) (by rw [SP.out]) (by rw [SP.out]) (by
        have hg := hD.p.good.dr id
        have e : drS (ctS s id) id = ⟨(p ++ q).map Rfl.fi, (drS (ctS s id) id).fr⟩ := by
          unfold drS
          rw [hD.p.l, del_split E1.out EP.out]
        rw [e] at hg
        rw [SP.out]
        exact ⟨hg.nodup, hg.ids, hg.byt, hg.le⟩) (by have := hD.p.few; rw [hD.p.l, List.length_map] at this; rw [SP.out]; show ((p ++ q).map Rfl.fi).length ≤ 100000; rw [List.length_map, List.length_append]; rw [List.length_append, List.length_cons] at this; omega) u
      (by rw [heap_setCell_same _ _ _ _ _ _ (HE.out w8 hb).1]; rfl) row
      (fun y hy => .inl (by rcases List.mem_append.1 hy with hy | hy; exact List.mem_append_left _ hy; exact List.mem_append_right _ (List.mem_cons_of_mem _ hy)))
      (by rw [fpq]; exact nd.sublist (List.Sublist.append (List.Sublist.refl _) (List.sublist_append_right _ _)))
      (fun f hf => by
        rw [fpq] at hf
        rw [fss_mid]
        rcases List.mem_append.1 hf with hf | hf
        · exact List.mem_append_left _ hf
        · exact List.mem_append_right _ (List.mem_append_right _ hf))
    refine ⟨rfl, D', ⟨_, _, _, _, _, _, _, _, hD'⟩, U1.out.trans t S1.out, fun i hi => ?_⟩
    rcases v i hi with e | e
    · exact S1.out i e
    · exact .inr (Nat.le_trans U1.out.size e))
  clear RQ RP hrq hr hm hn hpos hnc hcm hnil hD u1 s1 e1 e2
  obtain ⟨hi0, hz0, hz1, hz2⟩ := I0.out
  go_wp2_with fail
  go_at_call 88
  refine AT.out.mono ?_
  rintro e w' ⟨rfl, rfl⟩
  go_upto_region 4 with fail
  go_region_law ((first | (refine step_append_rows (by rfl) _ _ _ (by rfl) w1.heap.size 158 i0 _ 3 56 Tryz.underlying141 hi0 hz0 hz1 hz2 rfl (by omega) _ m ([] ++ p.flatMap rflV) (by rfl) O6.out ad (n - (m + 1)) (c - (m + 1)) (q.flatMap rflV) (by rfl) QL.out (QC.out w6 b6) (OC.out _) (by have := MX.out; have := MM.out; omega) (by have := MB.out; have := MM.out; omega) b6.size (n - 1) MM.out.1 ?_; intro A2 c2 w7 o7 g7 hl7; have b7 : Below w1.heap.size w1 w7 := b6.grown g7 b6.size (fun k hk => (O6.out.lt k hk).1); obtain ⟨_, r0, rf⟩ := HE.out w7 b7) | (refine step_append_rows (by rfl) _ _ _ (by rfl) w1.heap.size 158 i0 _ 3 56 Tryz.underlying141 hi0 hz0 hz1 hz2 rfl (by omega) (.slice none 0 0) 0 [] (by rfl) (World.ownsRow_nil _ _ _ _) ⟨g, 0, none⟩ m c (p.flatMap rflV) (by rfl) PL.out (PC.out w1.drew (below_drewN (Below.refl _ w1) 1)) (OC.out _) (by have := MX.out; have := MM.out; omega) (by have := MB.out; have := MM.out; omega) (Nat.le_refl _) m (by omega) ?_; intro A6 c6 w6 o6 g6 hl6; have b6 : Below w1.heap.size w1 w6 := (below_drewN (Below.refl _ w1) 1).grown g6 (Nat.le_refl _) (fun k hk => by cases hk); have r6 := (HE.out w6 b6).2.1; have O6 := hide o6; clear o6 g6 hl6)))
  all_goals go_wp2_with fail
  all_goals go_ret
  all_goals exact FIN.out _ _ _ _ _ b7 o7 (by simp) rfl
theorem rdr_any (h : Dso R w D G s) (id : Int) :
    Calls Tryz.prog 119 #[.pointer (some ⟨G, 0, none⟩), .int .i64 id] w (SideO (fun w' D' => Dso R w' D' G (drS s id)) D w (.int .i64 (thE s id : Nat))) := by
  cases e : getFi s.l id with
  | none =>
    rw [drS_none e, show thE s id = 4 from by unfold thE; rw [e]; rfl]
    have CT := hide (rct_gone h e)
    have HH := hide h
    clear h e
    go_enter Tryz.func119, Tryz.ntmps119
    go_wp2_with (go_at_call 79; refine CT.out.mono ?_; rintro e w' ⟨rfl, rfl⟩)
    go_ret
    exact SideO.of_below (P := fun w' D' => Dso R w' D' G s) HH.out (Below.refl _ _)
  | some o =>
    rw [show thE s id = 0 from by unfold thE; rw [e]; rfl]
    obtain ⟨p, x, q, vL, t, b, st, fresh, back, K, h2, h3, h4, h⟩ := h.split e
    exact rdr_some h h2 h4
end
theorem wrS_no {s : So} {id off : Int} {b : List Int} (h : wrE s id off b.length ≠ 0 ∨ b.length = 0) : wrS s id off b = s := by
  unfold wrS; rw [if_neg (by omega)]
end Go.Proofs.YtndfnglcichngaaGreatDoor
