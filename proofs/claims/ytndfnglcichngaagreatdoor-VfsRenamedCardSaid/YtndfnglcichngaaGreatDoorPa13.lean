/-
  Several texts as one: IdMem IdRefA IdRefC IdRefD IdRefB EnGo.
-/
import Derived.Test.YtndfnglcichngaaGreatDoorPa04
import Derived.Test.YtndfnglcichngaaGreatDoorPa11
import Derived.Test.YtndfnglcichngaaGreatDoorPa12
import Derived.Laws.ResultCell
namespace Go.Proofs.YtndfnglcichngaaGreatDoor
open Go.ChangeShapes Go.WideShapes Go.ChangeAt Go.RowKit
set_option linter.unusedVariables false
set_option linter.unusedSimpArgs false
/-- A block of N cells, as a function of the place. -/
def RowI (w : World) (g N : Nat) (t : TypeId) (f : Nat → Value) : Prop := w.heap[g]? = some (.cells ((List.range N).map f).toArray t (0, 0))
section
variable {w : World} {g N : Nat} {t : TypeId} {f : Nat → Value}
theorem RowI.cell (h : RowI w g N t f) {k : Nat} (hk : k < N) : w.cell? ⟨g, k, none⟩ = some (f k) := by
  rw [cell_of_row _ _ _ _ _ _ h]; simp [List.getElem?_range, hk]
theorem RowI.frz (h : RowI w g N t f) (k : Nat) : w.frozen? ⟨g, k, none⟩ = false := frozen_of_row _ _ _ _ _ h
theorem RowI.set (h : RowI w g N t f) (k : Nat) (v : Value) : RowI (w.setCell ⟨g, k, none⟩ v) g N t (upd f k v) := by
  unfold RowI
  rw [heap_setCell_same _ _ _ _ _ _ h]
  congr 2
  rw [List.setIfInBounds_toArray]
  congr 1
  refine List.ext_getElem? fun j => ?_
  rw [List.getElem?_set]
  by_cases hj : j < N
  · by_cases e : k = j
    · subst e; simp [hj, upd_same]
    · simp [hj, e, upd_other f v (fun h => e h.symm)]
  · simp [hj]; omega
theorem RowI.keep {w' : World} (h : RowI w g N t f) (e : w'.heap[g]? = w.heap[g]?) : RowI w' g N t f := e.trans h
end
/-- The cells of a node: its row at v. -/
def fld (y : Nd) (v : Value) : Nat → Value
  | 0 => .bool y.is
  | 1 => .bool y.dir
  | 2 => .int .i64 y.links
  | 3 => .int .i64 y.opens
  | _ => v
def tabF (S : Nat) (n : Nat → Nd) (V : Nat → Value) (k : Nat) : Value := if k = 0 then .pointer (some ⟨S, 0, none⟩) else fld (n ((k - 1) / 5)) (V ((k - 1) / 5)) ((k - 1) % 5)
section
variable {S : Nat} {n : Nat → Nd} {V : Nat → Value} {i : Nat}
theorem tabF_at (i j : Nat) (hj : j < 5) : tabF S n V (1 + i * 5 + j) = fld (n i) (V i) j := by
  unfold tabF
  rw [if_neg (by omega), show (1 + i * 5 + j - 1) / 5 = i from by omega, show (1 + i * 5 + j - 1) % 5 = j from by omega]
theorem tabF_upd (i j : Nat) (hj : j < 5) {y : Nd} {v u : Value} (hu : u = fld y v j) (hs : ∀ m, m < 5 → m ≠ j → fld y v m = fld (n i) (V i) m) : upd (tabF S n V) (1 + i * 5 + j) u = tabF S (upd n i y) (upd V i v) := by
  funext k
  by_cases e : k = 1 + i * 5 + j
  · subst e
    rw [upd_same, tabF_at _ _ hj, upd_same, upd_same, hu]
  · rw [upd_other _ _ e]
    unfold tabF
    by_cases h0 : k = 0
    · rw [if_pos h0, if_pos h0]
    · rw [if_neg h0, if_neg h0]
      by_cases h1 : (k - 1) / 5 = i
      · rw [h1, upd_same, upd_same]
        exact (hs _ (Nat.mod_lt _ (by omega)) (by omega)).symm
      · rw [upd_other _ _ h1, upd_other _ _ h1]
theorem upd_id {α : Type} (f : Nat → α) (i : Nat) : upd f i (f i) = f := by
  funext k; unfold upd; split
  · rename_i h; rw [h]
  · rfl
theorem upd_upd {α : Type} (f : Nat → α) (i : Nat) (a b : α) : upd (upd f i a) i b = upd f i b := by
  funext k; unfold upd; split <;> rfl
theorem tab_links (z : Int) : upd (tabF S n V) (1 + i * 5 + 2) (.int .i64 z) = tabF S (upd n i { n i with links := z }) V := by
  have := tabF_upd (S := S) (n := n) (V := V) i 2 (by omega) (y := { n i with links := z }) (v := V i) (u := .int .i64 z) rfl (fun m h1 h2 => by
    match m, h1, h2 with
    | 0, _, _ => rfl
    | 1, _, _ => rfl
    | 2, _, h => exact absurd rfl h
    | 3, _, _ => rfl
    | 4, _, _ => rfl)
  rwa [upd_id] at this
theorem tab_opens (z : Int) : upd (tabF S n V) (1 + i * 5 + 3) (.int .i64 z) = tabF S (upd n i { n i with opens := z }) V := by
  have := tabF_upd (S := S) (n := n) (V := V) i 3 (by omega) (y := { n i with opens := z }) (v := V i) (u := .int .i64 z) rfl (fun m h1 h2 => by
    match m, h1, h2 with
    | 0, _, _ => rfl
    | 1, _, _ => rfl
    | 2, _, _ => rfl
    | 3, _, h => exact absurd rfl h
    | 4, _, _ => rfl)
  rwa [upd_id] at this
theorem tab_list (l : List Ent) (v : Value) : upd (tabF S n V) (1 + i * 5 + 4) v = tabF S (upd n i { n i with l := l }) (upd V i v) :=
  tabF_upd (S := S) (n := n) (V := V) i 4 (by omega) (y := { n i with l := l }) (v := v) (u := v) rfl (fun m h1 h2 => by
    match m, h1, h2 with
    | 0, _, _ => rfl
    | 1, _, _ => rfl
    | 2, _, _ => rfl
    | 3, _, _ => rfl
    | 4, _, h => exact absurd rfl h)
/-- All five cells of a node. -/
theorem tab_all (y : Nd) (v : Value) : upd (upd (upd (upd (upd (tabF S n V) (1 + i * 5) (.bool y.is)) (1 + i * 5 + 1) (.bool y.dir)) (1 + i * 5 + 2) (.int .i64 y.links)) (1 + i * 5 + 3) (.int .i64 y.opens)) (1 + i * 5 + 4) v = tabF S (upd n i y) (upd V i v) := by
  funext k
  by_cases h : k = 0 ∨ (k - 1) / 5 ≠ i
  · rw [upd_other _ _ (by omega), upd_other _ _ (by omega), upd_other _ _ (by omega), upd_other _ _ (by omega), upd_other _ _ (by omega)]
    unfold tabF
    by_cases h0 : k = 0
    · rw [if_pos h0, if_pos h0]
    · rw [if_neg h0, if_neg h0, upd_other _ _ (h.resolve_left h0), upd_other _ _ (h.resolve_left h0)]
  · obtain ⟨j, rfl, hj⟩ : ∃ j, k = 1 + i * 5 + j ∧ j < 5 := ⟨(k - 1) % 5, by omega, by omega⟩
    rw [tabF_at _ _ hj, upd_same, upd_same]
    match j, hj with
    | 0, _ => rw [upd_other _ _ (by omega), upd_other _ _ (by omega), upd_other _ _ (by omega), upd_other _ _ (by omega)]; exact upd_same _ _ _
    | 1, _ => rw [upd_other _ _ (by omega), upd_other _ _ (by omega), upd_other _ _ (by omega)]; exact upd_same _ _ _
    | 2, _ => rw [upd_other _ _ (by omega), upd_other _ _ (by omega)]; exact upd_same _ _ _
    | 3, _ => rw [upd_other _ _ (by omega)]; exact upd_same _ _ _
    | 4, _ => exact upd_same _ _ _
end
/-- The cells of an entry. -/
def enV (e : Ent) : List Value := [.string (bt e.nm), .int .i64 (e.id : Int)]
theorem enV_len (e : Ent) : (enV e).length = 2 := rfl
theorem enV_cell (e : Ent) : ∀ v ∈ enV e, v.oneCell' = true := by
  intro v hv; simp [enV] at hv; rcases hv with rfl | rfl <;> rfl
theorem entry_info : (Tryz.prog.info? 105).map (fun i => (i.zero, i.size, i.bytes)) = some (some (.agg #[.string ByteArray.empty, .int .i64 0]), 2, 24) := by kernel_rfl
/-- The table at T over the store at S over the frames at R; E: the store's blocks; V: the rows of entries. -/
structure RtAt (w : World) (D : Nat → Prop) (T R S : Nat) (s : In) (E : Nat → Prop) (V : Nat → Value) : Prop where
  so : Dso R w E S s.so
  row : RowI w T 81 156 (tabF S s.n V)
  en : ∀ i, w.ownsRow 0 105 2 (V i) (s.n i).l.length ((s.n i).l.flatMap enV)
  own : ∀ i, ∀ g, (V i).ownBlock = some g → D g ∧ ¬ E g ∧ g ≠ T
  dt : D T ∧ ¬ E T
  sub : ∀ i, E i → D i
  lt : ∀ i, D i → i < w.heap.size
def Rin (R S : Nat) : Rel In := fun w D T s => ∃ E V, RtAt w D T R S s E V
section
variable {w : World} {D : Nat → Prop} {T R S : Nat} {s : In} {E : Nat → Prop} {V : Nat → Value}
theorem RtAt.keep {W : Nat → Prop} {w' : World} (h : RtAt w D T R S s E V) (u : Touch W w w') (d : ∀ i, D i → ¬ W i) : RtAt w' D T R S s E V :=
  ⟨(keepsDso R).keep h.so u (fun i e => d i (h.sub i e)), h.row.keep (u.block T (lt_of_heap h.row) (d T h.dt.1)), fun i => u.own (h.en i) (fun g hg => d g (h.own i g hg).1), h.own, h.dt, h.sub, fun i e => Nat.lt_of_lt_of_le (h.lt i e) u.size⟩
theorem RtAt.below {w' : World} (h : RtAt w D T R S s E V) (u : Below w.heap.size w w') : RtAt w' D T R S s E V := h.keep (W := fun _ => False) (Touch.of_below u) (fun _ _ e => e)
theorem keepsRin (R S : Nat) : Keeps (Rin R S) where
  keep := by rintro V U w w' T s ⟨E, W, h⟩ u d; exact ⟨E, W, h.keep u d⟩
  lt := by rintro U w T s ⟨E, W, h⟩ i hi; exact h.lt i hi
/-- What a call makes of the table: its block and the store's are touched, no row of entries. -/
def Rto (w w' : World) (D E : Nat → Prop) (T R S : Nat) (s' : In) : Prop :=
  ∃ D' E' V', RtAt w' D' T R S s' E' V' ∧ Touch (fun i => i = T ∨ E i) w w' ∧ (∀ i, E' i → E i ∨ w.heap.size ≤ i) ∧ ∀ i, D' i → D i ∨ w.heap.size ≤ i
theorem Rto.refl (h : RtAt w D T R S s E V) : Rto w w D E T R S s := ⟨D, E, V, h, Touch.refl _ _, fun i e => .inl e, fun i e => .inl e⟩
theorem Rto.of_below {w' : World} (h : RtAt w D T R S s E V) (b : Below w.heap.size w w') : Rto w w' D E T R S s := ⟨D, E, V, h.below b, Touch.of_below b, fun i e => .inl e, fun i e => .inl e⟩
theorem Rto.step {w1 w2 : World} {D1 E1 : Nat → Prop} {s2 : In} (t : Touch (fun i => i = T ∨ E i) w w1) (hE : ∀ i, E1 i → E i ∨ w.heap.size ≤ i) (hD : ∀ i, D1 i → D i ∨ w.heap.size ≤ i) (h : Rto w1 w2 D1 E1 T R S s2) : Rto w w2 D E T R S s2 := by
  obtain ⟨D2, E2, V2, h2, t2, e2, d2⟩ := h
  refine ⟨D2, E2, V2, h2, t.trans t2 (fun i e => ?_), fun i e => ?_, fun i e => ?_⟩
  · rcases e with e | e
    · exact .inl (.inl e)
    · exact (hE i e).imp .inr id
  · rcases e2 i e with e | e
    · exact hE i e
    · have := t.size; exact .inr (by omega)
  · rcases d2 i e with e | e
    · exact hD i e
    · have := t.size; exact .inr (by omega)
theorem Rto.after {w1 w2 : World} {s2 : In} (b : Below w.heap.size w w1) (h : Rto w1 w2 D E T R S s2) : Rto w w2 D E T R S s2 := Rto.step (Touch.of_below b) (fun i e => .inl e) (fun i e => .inl e) h
theorem Rto.then_below {w1 w2 : World} {s2 : In} (h : Rto w w1 D E T R S s2) (b : Below w1.heap.size w1 w2) : Rto w w2 D E T R S s2 := by
  obtain ⟨D2, E2, V2, h2, t2, e2, d2⟩ := h
  exact ⟨D2, E2, V2, h2.below b, t2.trans (Touch.of_below (S := fun _ => False) b) (fun i e => e.elim), e2, d2⟩
theorem RtAt.side {w' : World} {s' : In} {v : Value} (h : RtAt w D T R S s E V) (r : Rto w w' D E T R S s') : SideO (fun w' D' => Rin R S w' D' T s') D w v (.returned v) w' := by
  obtain ⟨D2, E2, V2, h2, t2, e2, d2⟩ := r
  refine ⟨rfl, D2, ⟨E2, V2, h2⟩, t2.mono (fun i e => ?_), d2⟩
  rcases e with rfl | e
  · exact h.dt.1
  · exact h.sub i e
/-- Cells of the table's block are others now. -/
theorem RtAt.cells {w' : World} {n' : Nat → Nd} {V' : Nat → Value} (h : RtAt w D T R S s E V) (u : Touch (fun i => i = T) w w') (r : RowI w' T 81 156 (tabF S n' V')) (he : ∀ i, V' i = V i ∧ (n' i).l = (s.n i).l ∨ V' i = .slice none 0 0 ∧ (n' i).l = []) : RtAt w' D T R S ⟨n', s.so⟩ E V' := by
  have nT : ∀ g, D g → E g → g ≠ T := fun g _ e h' => h.dt.2 (h' ▸ e)
  refine ⟨(keepsDso R).keep h.so u (fun i e e2 => h.dt.2 (e2 ▸ e)), r, fun i => ?_, fun i g hg => ?_, h.dt, h.sub, fun i e => Nat.lt_of_lt_of_le (h.lt i e) u.size⟩
  · rcases he i with ⟨e1, e2⟩ | ⟨e1, e2⟩
    · show w'.ownsRow 0 _ 2 (V' i) (n' i).l.length ((n' i).l.flatMap enV)
      rw [e1, e2]
      exact u.own (h.en i) (fun g hg => (h.own i g hg).2.2)
    · show w'.ownsRow 0 _ 2 (V' i) (n' i).l.length ((n' i).l.flatMap enV)
      rw [e1, e2]
      exact World.ownsRow_nil _ _ _ _
  · rcases he i with ⟨e1, e2⟩ | ⟨e1, e2⟩
    · rw [e1] at hg; exact h.own i g hg
    · rw [e1] at hg; cases hg
/-- The store is another one now. -/
theorem RtAt.store {w' : World} {E' : Nat → Prop} {so' : So} (h : RtAt w D T R S s E V) (p : Dso R w' E' S so') (u : Touch E w w') (hE : ∀ i, E' i → E i ∨ w.heap.size ≤ i) : RtAt w' (fun i => D i ∨ E' i) T R S ⟨s.n, so'⟩ E' V := by
  have old : ∀ g, D g → ¬ E g → ¬ E' g := fun g hd hn e => (hE g e).elim hn (fun e => by have := h.lt g hd; omega)
  refine ⟨p, h.row.keep (u.block T (lt_of_heap h.row) h.dt.2), fun i => u.own (h.en i) (fun g hg => (h.own i g hg).2.1), fun i g hg => ⟨.inl (h.own i g hg).1, old g (h.own i g hg).1 (h.own i g hg).2.1, (h.own i g hg).2.2⟩, ⟨.inl h.dt.1, old T h.dt.1 h.dt.2⟩, fun i e => .inr e, fun i e => ?_⟩
  rcases e with e | e
  · exact Nat.lt_of_lt_of_le (h.lt i e) u.size
  · exact (keepsDso R).lt p i e
theorem RtAt.stored {w' : World} {so' : So} {v : Value} {e : Ending} (h : RtAt w D T R S s E V) (p : SideO (fun w' D' => Dso R w' D' S so') E w v e w') : e = .returned v ∧ Rto w w' D E T R S ⟨s.n, so'⟩ := by
  obtain ⟨rfl, E', p, u, hE⟩ := p
  exact ⟨rfl, _, E', V, h.store p u hE, u.mono (fun i e => .inr e), hE, fun i e => e.elim .inl (fun e => (hE i e).imp (h.sub i) id)⟩
/-- One node has another row. -/
theorem RtAt.relist {w' : World} {i : Nat} {l : List Ent} {v : Value} (h : RtAt w D T R S s E V) (u : Touch (fun i => i = T) w w') (r : RowI w' T 81 156 (tabF S (upd s.n i { s.n i with l := l }) (upd V i v))) (hv : w'.ownsRow 0 105 2 v l.length (l.flatMap enV)) (hw : ∀ g, v.ownBlock = some g → w.heap.size ≤ g) : Rto w w' D E T R S (setL s i l) := by
  have new : ∀ g, v.ownBlock = some g → w.heap.size ≤ g ∧ g < w'.heap.size := fun g hg => ⟨hw g hg, (hv.lt g hg).2⟩
  refine ⟨fun g => D g ∨ v.ownBlock = some g, E, upd V i v, ⟨(keepsDso R).keep h.so u (fun k e e2 => h.dt.2 (e2 ▸ e)), r, fun k => ?_, fun k g hg => ?_, ⟨.inl h.dt.1, h.dt.2⟩, fun k e => .inl (h.sub k e), fun k e => ?_⟩, u.mono (fun k e => .inl e), fun k e => .inl e, fun k e => e.imp id (hw k)⟩
  · show w'.ownsRow 0 _ 2 (upd V i v k) (upd s.n i { s.n i with l := l } k).l.length ((upd s.n i { s.n i with l := l } k).l.flatMap enV)
    by_cases e : k = i
    · rw [e, upd_same, upd_same]; exact hv
    · rw [upd_other _ _ e, upd_other _ _ e]; exact u.own (h.en k) (fun g hg => (h.own k g hg).2.2)
  · by_cases e : k = i
    · rw [e, upd_same] at hg
      have l0 := new g hg
      have l1 : ∀ x, D x → x < w.heap.size := h.lt
      exact ⟨.inr hg, fun e2 => by have := l1 g (h.sub g e2); omega, fun e2 => by have := l1 T h.dt.1; omega⟩
    · rw [upd_other _ _ e] at hg
      exact ⟨.inl (h.own k g hg).1, (h.own k g hg).2⟩
  · rcases e with e | e
    · exact Nat.lt_of_lt_of_le (h.lt k e) u.size
    · exact (new k e).2
/-- The cells of a node. -/
theorem RtAt.cell (h : RtAt w D T R S s E V) {i : Nat} (hi : i < 16) (j : Nat) (hj : j < 5) : w.cell? ⟨T, 1 + i * 5 + j, none⟩ = some (fld (s.n i) (V i) j) := by rw [h.row.cell (by omega), tabF_at _ _ hj]
theorem RtAt.cIs (h : RtAt w D T R S s E V) {i : Nat} (hi : i < 16) : w.cell? ⟨T, 1 + i * 5, none⟩ = some (.bool (s.n i).is) := h.cell hi 0 (by omega)
theorem RtAt.cDir (h : RtAt w D T R S s E V) {i : Nat} (hi : i < 16) : w.cell? ⟨T, 1 + i * 5 + 1, none⟩ = some (.bool (s.n i).dir) := h.cell hi 1 (by omega)
theorem RtAt.cLinks (h : RtAt w D T R S s E V) {i : Nat} (hi : i < 16) : w.cell? ⟨T, 1 + i * 5 + 2, none⟩ = some (.int .i64 (s.n i).links) := h.cell hi 2 (by omega)
theorem RtAt.cOpens (h : RtAt w D T R S s E V) {i : Nat} (hi : i < 16) : w.cell? ⟨T, 1 + i * 5 + 3, none⟩ = some (.int .i64 (s.n i).opens) := h.cell hi 3 (by omega)
theorem RtAt.cList (h : RtAt w D T R S s E V) {i : Nat} (hi : i < 16) : w.cell? ⟨T, 1 + i * 5 + 4, none⟩ = some (V i) := h.cell hi 4 (by omega)
theorem RtAt.c0 (h : RtAt w D T R S s E V) : w.cell? ⟨T, 0, none⟩ = some (.pointer (some ⟨S, 0, none⟩)) := h.row.cell (by omega)
theorem RtAt.list (h : RtAt w D T R S s E V) (i : Nat) : ∃ a c, V i = .slice a (s.n i).l.length c ∧ Reads 2 enV w a (s.n i).l.length (s.n i).l ∧ (s.n i).l.length ≤ c ∧ c ≤ maxLen ∧ (a = none → c = 0) := own_reads enV_len (by omega) (h.en i)
theorem Reads.ent {a : Option Addr} {n : Nat} {l : List Ent} (h : Reads 2 enV w a n l) {k : Nat} (hk : k < n) : ∃ x b off, l[k]? = some x ∧ a = some ⟨b, off, none⟩ ∧ w.cell? ⟨b, off + k * 2, none⟩ = some (.string (bt x.nm)) ∧ w.cell? ⟨b, off + k * 2 + 1, none⟩ = some (.int .i64 (x.id : Int)) := by
  obtain ⟨x, b, off, h1, h2, h3⟩ := h.at_ hk
  exact ⟨x, b, off, h1, h2, h3 0 _ rfl, h3 1 _ rfl⟩
/-- Is, IsDir. -/
theorem tis_any (h : RtAt w D T R S s E V) (id : Int) : Calls Tryz.prog 86 #[.pointer (some ⟨T, 0, none⟩), .int .i64 id] w fun e w' => e = .returned (.bool (isI s id)) ∧ w = w' := by
  by_cases h0 : 0 ≤ id
  · by_cases h1 : id < 16
    · obtain ⟨i, rfl⟩ := Int.eq_ofNat_of_zero_le h0
      have hi : i < 16 := by omega
      have ci := h.cIs hi
      rw [isI_nat, show decide (i < 16) = true from decide_eq_true hi, Bool.true_and]
      generalize (s.n i).is = b at *
      clear h
      go_enter Tryz.func86, Tryz.ntmps86
      go_wp2_with fail
      go_ret
      exact ⟨rfl, rfl⟩
    · rw [show isI s id = false from by unfold isI; rw [decide_eq_false (by omega)]; rfl]
      clear h
      go_enter Tryz.func86, Tryz.ntmps86
      go_wp2_with fail
      go_ret
      exact ⟨rfl, rfl⟩
  · rw [show isI s id = false from by unfold isI; rw [decide_eq_false (by omega)]; rfl]
    clear h
    go_enter Tryz.func86, Tryz.ntmps86
    go_wp2_with fail
    go_ret
    exact ⟨rfl, rfl⟩
theorem tisdir_any (h : RtAt w D T R S s E V) (id : Int) : Calls Tryz.prog 78 #[.pointer (some ⟨T, 0, none⟩), .int .i64 id] w fun e w' => e = .returned (.bool (dirI s id)) ∧ w = w' := by
  have IS := hide (tis_any h id)
  cases e : isI s id with
  | false =>
    rw [show dirI s id = false from by unfold dirI; rw [e]; rfl]
    rw [e] at IS
    clear h
    go_enter Tryz.func78, Tryz.ntmps78
    go_wp2_with (go_at_call 86; refine IS.out.mono ?_; rintro e w' ⟨rfl, rfl⟩)
    go_ret
    exact ⟨rfl, rfl⟩
  | true =>
    obtain ⟨i, rfl, hi, his⟩ := isI_yes e
    rw [show dirI s (i : Int) = (s.n i).dir from by unfold dirI; rw [e, Int.toNat_natCast]; rfl]
    rw [e] at IS
    have ci := h.cDir hi
    generalize (s.n i).dir = b at *
    have i1 : (i : Int) < 16 := by omega
    clear h his e
    go_enter Tryz.func78, Tryz.ntmps78
    go_wp2_with (go_at_call 86; refine IS.out.mono ?_; rintro e w' ⟨rfl, rfl⟩)
    go_ret
    exact ⟨rfl, rfl⟩
end
end Go.Proofs.YtndfnglcichngaaGreatDoor
namespace Go.Proofs.YtndfnglcichngaaGreatDoor
open Go.ChangeShapes Go.WideShapes Go.ChangeAt Go.RowKit
set_option linter.unusedVariables false
set_option linter.unusedSimpArgs false
section
variable {w : World} {D : Nat → Prop} {T R S : Nat} {s : In} {E : Nat → Prop} {V : Nat → Value}
def isN (s : In) (i : Nat) : Nat := if (s.n i).is then 1 else 0
theorem cntI_is (s : In) : cntI s = sumN (isN s) 16 := rfl
theorem sumIs_le (s : In) (k : Nat) : sumN (isN s) k ≤ k := by
  have := sumN_le (f := isN s) (c := 1) (n := k) (fun i _ => by unfold isN; split <;> omega)
  omega
set_option maxHeartbeats 4000000 in
theorem tlen_any (h : RtAt w D T R S s E V) : Calls Tryz.prog 51 #[.pointer (some ⟨T, 0, none⟩)] w fun e w' => e = .returned (.int .i64 (cntI s : Nat)) ∧ w = w' := by
  have HH := hide h
  have CS := hide (cntI_is s)
  clear h
  go_enter Tryz.func51, Tryz.ntmps51
  go_wp2_with fail
  go_loopw [3, 4] (fun nv iv wr => ∃ (k q : Nat), k ≤ 16 ∧ q ≤ 16 ∧ iv = .int .i64 (k : Int) ∧ nv = .int .i64 (q : Int) ∧ Hid (q = sumN (isN s) k) ∧ w = wr) (fun _ iv _ => 16 - (intOf iv).toNat)
  case atStart => exact ⟨0, 0, Nat.zero_le _, Nat.zero_le _, rfl, rfl, rfl, rfl⟩
  case round =>
    obtain ⟨k, q, hk, hq, rfl, rfl, hQ, rfl⟩ := hrel
    have k0 : (0 : Int) ≤ (k : Int) := by omega
    by_cases hlt : k < 16
    · have k1 : (k : Int) < 16 := by omega
      have ci := HH.out.cIs hlt
      have NX := hide (show sumN (isN s) (k + 1) = q + isN s k from by rw [hQ.out]; rfl)
      have LE := hide (sumIs_le s (k + 1))
      cases hb : (s.n k).is with
      | true =>
        have N1 := hide (show isN s k = 1 from by unfold isN; rw [hb]; rfl)
        rw [hb] at ci
        have q1 : (q : Int) ≤ 16 := by omega
        clear hb
        go_wp2_with fail
        go_roundw
        case rel => exact ⟨k + 1, q + 1, by omega, by have := NX.out; have := LE.out; have := N1.out; omega, by go_num, by go_num, by have := NX.out; have := N1.out; rw [this] at NX; exact NX.out.symm, by trivial⟩
        case measure => simp [intOf]; omega
      | false =>
        have N1 := hide (show isN s k = 0 from by unfold isN; rw [hb]; rfl)
        rw [hb] at ci
        clear hb
        go_wp2_with fail
        go_roundw
        case rel => exact ⟨k + 1, q, by omega, hq, by go_num, rfl, by have := NX.out; have := N1.out; rw [this] at NX; exact NX.out.symm, by trivial⟩
        case measure => simp [intOf]; omega
    · obtain rfl : k = 16 := by omega
      go_wp2_with fail
      go_ret
      rw [CS.out, ← hQ.out]
      exact ⟨rfl, by trivial⟩
theorem findL_drop {l : List Ent} {t : Txt} {k : Nat} {x : Ent} (hx : l[k]? = some x) (hn : x.nm ≠ t) (h : findL l t = findL (l.drop k) t) : findL l t = findL (l.drop (k + 1)) t := by
  rw [h, List.drop_eq_getElem_cons (List.getElem?_eq_some_iff.1 hx).1, (List.getElem?_eq_some_iff.1 hx).2]
  show (if x.nm = t then _ else _) = _
  rw [if_neg hn]
theorem findL_hit {l : List Ent} {t : Txt} {k : Nat} {x : Ent} (hx : l[k]? = some x) (hn : x.nm = t) (h : findL l t = findL (l.drop k) t) : findL l t = some x.id := by
  rw [h, List.drop_eq_getElem_cons (List.getElem?_eq_some_iff.1 hx).1, (List.getElem?_eq_some_iff.1 hx).2]
  exact if_pos hn
set_option maxHeartbeats 4000000 in
theorem tfind_any (h : RtAt w D T R S s E V) (hf : ∀ i, (s.n i).l.length ≤ 8) (d : Int) (t : Txt) : Calls Tryz.prog 85 #[.pointer (some ⟨T, 0, none⟩), .int .i64 d, .string (bt t)] w fun e w' => e = .returned (.tuple #[.int .i64 (fiII s d t : Nat), .int .i64 (fiIE s d t : Nat)]) ∧ w = w' := by
  have IS := hide (tisdir_any h d)
  cases e : dirI s d with
  | false =>
    rw [show fiII s d t = 0 from by unfold fiII; rw [e]; rfl, show fiIE s d t = 11 from by unfold fiIE; rw [e]; rfl]
    rw [e] at IS
    clear h hf e
    go_enter Tryz.func85, Tryz.ntmps85
    go_wp2_with (go_at_call 78; refine IS.out.mono ?_; rintro e w' ⟨rfl, rfl⟩)
    go_ret2
    exact ⟨rfl, rfl⟩
  | true =>
    obtain ⟨i, rfl, hi, -, -⟩ := dirI_yes e
    have ANS := hide (show (∀ j, findL (s.n i).l t = some j → fiII s (i : Int) t = j ∧ fiIE s (i : Int) t = 0) ∧ (findL (s.n i).l t = none → fiII s (i : Int) t = 0 ∧ fiIE s (i : Int) t = 9) from by
      unfold fiII fiIE
      rw [e, Int.toNat_natCast]
      exact ⟨fun j hj => by rw [hj]; exact ⟨rfl, rfl⟩, fun hj => by rw [hj]; exact ⟨rfl, rfl⟩⟩)
    rw [e] at IS
    obtain ⟨a, c, hv, hr, -, -, -⟩ := h.list i
    have cl := h.cList hi
    rw [hv] at cl
    have HR := hide hr
    have FT := hide (hf i)
    obtain ⟨n, hn⟩ : ∃ n, n = (s.n i).l.length := ⟨_, rfl⟩
    obtain ⟨l, hl⟩ : ∃ l, l = (s.n i).l := ⟨_, rfl⟩
    rw [← hl] at ANS HR FT hn cl
    rw [← hn] at cl HR FT
    have i0 : (0 : Int) ≤ (i : Int) := by omega
    have i1 : (i : Int) < 16 := by omega
    have n8 : (n : Int) ≤ 8 := by have := FT.out; omega
    have NL := hide hn
    clear h hf e hv hr hn hl
    go_enter Tryz.func85, Tryz.ntmps85
    go_wp2_with (go_at_call 78; refine IS.out.mono ?_; rintro e w' ⟨rfl, rfl⟩)
    go_loopw [8] (fun kv wr => ∃ k : Nat, k ≤ n ∧ kv = .int .i64 (k : Int) ∧ Hid (findL l t = findL (l.drop k) t) ∧ w = wr) (fun kv _ => n - (intOf kv).toNat)
    case atStart => exact ⟨0, Nat.zero_le _, rfl, rfl, rfl⟩
    case round =>
      obtain ⟨k, hk, rfl, hF, rfl⟩ := hrel
      by_cases hlt : k < n
      · have k0 : (0 : Int) ≤ (k : Int) := by omega
        have k1 : (k : Int) < (n : Int) := by omega
        obtain ⟨x, b, off, hx, rfl, x0, x1⟩ := HR.out.ent hlt
        have HX := hide hx
        have ev := bt_eq x.nm t
        clear hx
        by_cases hnm : x.nm = t
        · have E1 := hide (ANS.out.1 _ (findL_hit HX.out hnm hF.out))
          rw [decide_eq_true hnm] at ev
          obtain ⟨j, hj⟩ : ∃ j, j = x.id := ⟨_, rfl⟩
          rw [← hj] at x1 E1
          obtain ⟨y, hy⟩ : ∃ y, y = x.nm := ⟨_, rfl⟩
          rw [← hy] at x0 ev
          clear hnm hj hy
          go_wp2_with fail
          go_ret2
          rw [E1.out.1, E1.out.2]
          exact ⟨rfl, by trivial⟩
        · rw [decide_eq_false hnm] at ev
          have FD := hide (findL_drop HX.out hnm hF.out)
          obtain ⟨y, hy⟩ : ∃ y, y = x.nm := ⟨_, rfl⟩
          rw [← hy] at x0 ev
          clear hnm hy x1
          go_wp2_with fail
          go_roundw
          case rel => exact ⟨k + 1, by omega, by go_num, FD.out, by trivial⟩
          case measure => simp [intOf]; omega
      · obtain rfl : k = n := by omega
        have E1 := hide (ANS.out.2 (by rw [hF.out, List.drop_of_length_le (by rw [NL.out]; exact Nat.le_refl _)]; rfl))
        go_wp2_with fail
        go_ret2
        rw [E1.out.1, E1.out.2]
        exact ⟨rfl, by trivial⟩
/-- What Get answers. -/
def gotI (s : In) (id : Int) : Value := if isI s id then .tuple #[.agg #[.int .i64 id, .int .i64 (s.n id.toNat).links, .bool (s.n id.toNat).dir, .int .i64 (gtSz s id.toNat : Nat)], .bool true] else .tuple #[.agg #[.int .i64 0, .int .i64 0, .bool false, .int .i64 0], .bool false]
set_option maxHeartbeats 4000000 in
theorem topen_any (h : RtAt w D T R S s E V) (id : Int) (ho : ∀ i, 0 ≤ (s.n i).opens ∧ (s.n i).opens ≤ 1000000) : Calls Tryz.prog 80 #[.pointer (some ⟨T, 0, none⟩), .int .i64 id] w fun e w' => e = .returned (.int .i64 (opIE s id : Nat)) ∧ Rto w w' D E T R S (opI s id) := by
  have IS := hide (tis_any h id)
  cases e : isI s id with
  | false =>
    rw [show opIE s id = 4 from by unfold opIE; rw [e]; rfl, show opI s id = s from by unfold opI; rw [e]; rfl]
    rw [e] at IS
    have FIN := hide (Rto.refl h)
    clear h ho e
    go_enter Tryz.func80, Tryz.ntmps80
    go_wp2_with (go_at_call 86; refine IS.out.mono ?_; rintro e w' ⟨rfl, rfl⟩)
    go_ret
    exact ⟨rfl, FIN.out⟩
  | true =>
    obtain ⟨i, rfl, hi, -⟩ := isI_yes e
    rw [show opIE s (i : Int) = 0 from by unfold opIE; rw [e]; rfl, show opI s (i : Int) = s.put i { s.n i with opens := (s.n i).opens + 1 } from by unfold opI; rw [e, Int.toNat_natCast]; rfl]
    rw [e] at IS
    have co := h.cOpens hi
    have fz := h.row.frz (1 + i * 5 + 3)
    obtain ⟨o, hoo⟩ : ∃ o, o = (s.n i).opens := ⟨_, rfl⟩
    have o1 := (ho i).1
    have o2 := (ho i).2
    rw [← hoo] at co o1 o2 ⊢
    have FIN := hide (fun (u : World) (e : u = w) (q : Nat) => show Rto w ((w.setCell ⟨T, 1 + i * 5 + 3, none⟩ (.int .i64 (o + 1))).drewN q) D E T R S (s.put i { s.n i with opens := o + 1 }) from by
      have r := h.row.set (1 + i * 5 + 3) (.int .i64 (o + 1))
      rw [tab_opens] at r
      have u := ((Touch.refl (fun k => k = T) w).setCell (p := ⟨T, 1 + i * 5 + 3, none⟩) rfl (.int .i64 (o + 1))).drewN q
      exact ⟨D, E, V, h.cells u r (fun k => .inl ⟨rfl, by show (upd s.n i { s.n i with opens := o + 1 } k).l = _; by_cases e : k = i; (rw [e, upd_same]); (rw [upd_other _ _ e])⟩), u.mono (fun k e => .inl e), fun k e => .inl e, fun k e => .inl e⟩)
    have i0 : (0 : Int) ≤ (i : Int) := by omega
    have i1 : (i : Int) < 16 := by omega
    clear h ho e hoo
    go_enter Tryz.func80, Tryz.ntmps80
    go_upto_region 3 with (go_at_call 86; refine IS.out.mono ?_; rintro e w' ⟨rfl, rfl⟩)
    go_region
    all_goals (go_wp2_with fail)
    all_goals go_ret
    all_goals exact ⟨rfl, FIN.out _ rfl _⟩
end
end Go.Proofs.YtndfnglcichngaaGreatDoor
namespace Go.Proofs.YtndfnglcichngaaGreatDoor
open Go.ChangeShapes Go.WideShapes Go.ChangeAt Go.RowKit
set_option linter.unusedVariables false
set_option linter.unusedSimpArgs false
section
variable {w : World} {D : Nat → Prop} {T R S : Nat} {s : In} {E : Nat → Prop} {V : Nat → Value}
/-- One entry after another. -/
def foldG (f : Nat) (l : List Ent) (s : In) : In := l.foldl (fun s e => goneI f (decL s e.id) e.id) s
theorem foldG_take {f : Nat} {l : List Ent} {s : In} {k : Nat} {e : Ent} (h : l[k]? = some e) : foldG f (l.take (k + 1)) s = goneI f (decL (foldG f (l.take k) s) e.id) e.id := by
  unfold foldG
  rw [List.take_add_one, h, List.foldl_append]
  rfl
/-- What holds as the loop goes on. -/
theorem foldG_good {f : Nat} {pend l : List Ent} {B : Int} {s : In} (h : GoodP s (l ++ pend) B) (hc : l ≠ [] → cntI s < f) : ∀ k, k ≤ l.length → GoodP (foldG f (l.take k) s) (l.drop k ++ pend) B ∧ (l ≠ [] → cntI (foldG f (l.take k) s) < f) := by
  intro k
  induction k with
  | zero => intro _; exact ⟨h, hc⟩
  | succ k ih =>
    intro hk
    obtain ⟨g, c⟩ := ih (by omega)
    have hx : l[k]? = some l[k] := List.getElem?_eq_getElem (by omega)
    rw [List.drop_eq_getElem_cons (by omega), List.cons_append] at g
    rw [foldG_take hx]
    have hn : l ≠ [] := fun e => by rw [e] at hk; simp at hk
    have e16 := (g.pnd l[k] (List.mem_cons_self ..)).1
    have g2 := g.dec.gone (f := f) e16 (by rw [cntI_dec _ e16]; exact c hn)
    refine ⟨g2.1, fun _ => ?_⟩
    have := g2.2.1
    rw [cntI_dec _ e16] at this
    have := c hn
    omega
/-- The node is cleared: five cells. -/
theorem RtAt.clear (h : RtAt w D T R S s E V) (i : Nat) : RtAt (((((w.setCell ⟨T, 1 + i * 5, none⟩ (.bool false)).setCell ⟨T, 1 + i * 5 + 1, none⟩ (.bool false)).setCell ⟨T, 1 + i * 5 + 2, none⟩ (.int .i64 0)).setCell ⟨T, 1 + i * 5 + 3, none⟩ (.int .i64 0)).setCell ⟨T, 1 + i * 5 + 4, none⟩ (.slice none 0 0)) D T R S ⟨upd s.n i Nd.zero, s.so⟩ E (upd V i (.slice none 0 0)) ∧
    Touch (fun k => k = T) w (((((w.setCell ⟨T, 1 + i * 5, none⟩ (.bool false)).setCell ⟨T, 1 + i * 5 + 1, none⟩ (.bool false)).setCell ⟨T, 1 + i * 5 + 2, none⟩ (.int .i64 0)).setCell ⟨T, 1 + i * 5 + 3, none⟩ (.int .i64 0)).setCell ⟨T, 1 + i * 5 + 4, none⟩ (.slice none 0 0)) := by
  have r := ((((h.row.set (1 + i * 5) (.bool false)).set (1 + i * 5 + 1) (.bool false)).set (1 + i * 5 + 2) (.int .i64 0)).set (1 + i * 5 + 3) (.int .i64 0)).set (1 + i * 5 + 4) (.slice none 0 0)
  rw [show upd (upd (upd (upd (upd (tabF S s.n V) (1 + i * 5) (.bool false)) (1 + i * 5 + 1) (.bool false)) (1 + i * 5 + 2) (.int .i64 0)) (1 + i * 5 + 3) (.int .i64 0)) (1 + i * 5 + 4) (.slice none 0 0) = tabF S (upd s.n i Nd.zero) (upd V i (.slice none 0 0)) from tab_all Nd.zero _] at r
  have u : Touch (fun k => k = T) w (((((w.setCell ⟨T, 1 + i * 5, none⟩ (.bool false)).setCell ⟨T, 1 + i * 5 + 1, none⟩ (.bool false)).setCell ⟨T, 1 + i * 5 + 2, none⟩ (.int .i64 0)).setCell ⟨T, 1 + i * 5 + 3, none⟩ (.int .i64 0)).setCell ⟨T, 1 + i * 5 + 4, none⟩ (.slice none 0 0)) :=
    (((((Touch.refl (fun k => k = T) w).setCell (p := ⟨T, 1 + i * 5, none⟩) rfl _).setCell (p := ⟨T, 1 + i * 5 + 1, none⟩) rfl _).setCell (p := ⟨T, 1 + i * 5 + 2, none⟩) rfl _).setCell (p := ⟨T, 1 + i * 5 + 3, none⟩) rfl _).setCell (p := ⟨T, 1 + i * 5 + 4, none⟩) rfl _
  refine ⟨h.cells u r (fun k => ?_), u⟩
  by_cases e : k = i
  · rw [e, upd_same, upd_same]; exact .inr ⟨rfl, rfl⟩
  · rw [upd_other _ _ e, upd_other _ _ e]; exact .inl ⟨rfl, rfl⟩
/-- Links: one cell. -/
theorem RtAt.linked (h : RtAt w D T R S s E V) (i : Nat) (z : Int) (q : Nat) : Rto w ((w.setCell ⟨T, 1 + i * 5 + 2, none⟩ (.int .i64 z)).drewN q) D E T R S (s.put i { s.n i with links := z }) := by
  have r := h.row.set (1 + i * 5 + 2) (.int .i64 z)
  rw [tab_links] at r
  have u := ((Touch.refl (fun k => k = T) w).setCell (p := ⟨T, 1 + i * 5 + 2, none⟩) rfl (.int .i64 z)).drewN q
  exact ⟨D, E, V, h.cells u r (fun k => .inl ⟨rfl, by show (upd s.n i { s.n i with links := z } k).l = _; by_cases e : k = i; (rw [e, upd_same]); (rw [upd_other _ _ e])⟩), u.mono (fun k e => .inl e), fun k e => .inl e, fun k e => .inl e⟩
theorem RtAt.opened (h : RtAt w D T R S s E V) (i : Nat) (z : Int) (q : Nat) : Rto w ((w.setCell ⟨T, 1 + i * 5 + 3, none⟩ (.int .i64 z)).drewN q) D E T R S (s.put i { s.n i with opens := z }) := by
  have r := h.row.set (1 + i * 5 + 3) (.int .i64 z)
  rw [tab_opens] at r
  have u := ((Touch.refl (fun k => k = T) w).setCell (p := ⟨T, 1 + i * 5 + 3, none⟩) rfl (.int .i64 z)).drewN q
  exact ⟨D, E, V, h.cells u r (fun k => .inl ⟨rfl, by show (upd s.n i { s.n i with opens := z } k).l = _; by_cases e : k = i; (rw [e, upd_same]); (rw [upd_other _ _ e])⟩), u.mono (fun k e => .inl e), fun k e => .inl e, fun k e => .inl e⟩
/-- A row of entries stays while the table and the store turn. -/
theorem Rto.reads {w1 : World} {a : Option Addr} {n : Nat} {l : List Ent} (t : Touch (fun i => i = T ∨ E i) w w1) (hr : Reads 2 enV w a n l) (hd : ∀ b o, a = some ⟨b, o, none⟩ → ¬ E b ∧ b ≠ T) : Reads 2 enV w1 a n l :=
  hr.touch t (fun b o e h => by rcases h with h | h; exact (hd b o e).2 h; exact (hd b o e).1 h)
/-- What gone does, for tables of less than f nodes. -/
def GoneOk (f T R S : Nat) : Prop := ∀ (w : World) (D : Nat → Prop) (s : In) (E : Nat → Prop) (V : Nat → Value) (pend : List Ent) (B : Int) (i : Nat), RtAt w D T R S s E V → GoodP s pend B → i < 16 → cntI s < f →
    Calls Tryz.prog 87 #[.pointer (some ⟨T, 0, none⟩), .int .i64 (i : Int)] w fun e w' => e = .returned (.tuple #[]) ∧ Rto w w' D E T R S (goneI f s i)
set_option maxRecDepth 10000 in
set_option maxHeartbeats 8000000 in
theorem tgone_step {f : Nat} (IH : GoneOk f T R S) : GoneOk (f + 1) T R S := by
    intro w D s E V pend B i h g hi hc
    have IHH := hide IH
    clear IH
    have i0 : (0 : Int) ≤ (i : Int) := by omega
    have i1 : (i : Int) < 16 := by omega
    have cl := h.cLinks hi
    have co := h.cOpens hi
    have cd := h.cDir hi
    have c0 := h.c0
    have l0 : 0 ≤ (s.n i).links := by rw [g.lnk i]; omega
    have o0 := (g.opn i).1
    have HH := hide h
    have GG := hide g
    by_cases hg : i = 0 ∨ 0 < (s.n i).links ∨ 0 < (s.n i).opens
    · rw [show goneI (f + 1) s i = s from if_pos hg]
      have FIN := hide (Rto.refl h)
      obtain ⟨lk, hlk⟩ : ∃ z, z = (s.n i).links := ⟨_, rfl⟩
      obtain ⟨op, hop⟩ : ∃ z, z = (s.n i).opens := ⟨_, rfl⟩
      rw [← hlk] at cl hg l0
      rw [← hop] at co hg o0
      clear hlk hop cd c0 g
      by_cases z0 : i = 0
      · subst z0
        clear hg h
        go_enter Tryz.func87, Tryz.ntmps87
        go_wp2_with fail
        refine bodyPost_ret (results_none rfl _ _ _) rfl ?_
        exact ⟨rfl, FIN.out⟩
      · have z1 : ¬ (i : Int) = 0 := by omega
        by_cases z2 : 0 < lk
        · clear hg h
          go_enter Tryz.func87, Tryz.ntmps87
          go_wp2_with fail
          refine bodyPost_ret (results_none rfl _ _ _) rfl ?_
          exact ⟨rfl, FIN.out⟩
        · have z3 : 0 < op := (hg.resolve_left z0).resolve_left z2
          clear hg h
          go_enter Tryz.func87, Tryz.ntmps87
          go_wp2_with fail
          refine bodyPost_ret (results_none rfl _ _ _) rfl ?_
          exact ⟨rfl, FIN.out⟩
    · have hgone : goneI (f + 1) s i = foldG f (s.n i).l (clrI s i) := if_neg hg
      have z1 : ¬ (i : Int) = 0 := fun e => hg (.inl (by omega))
      have z2 : (s.n i).links = 0 := by have : ¬ 0 < (s.n i).links := fun e => hg (.inr (.inl e)); omega
      have z3 : (s.n i).opens = 0 := by have : ¬ 0 < (s.n i).opens := fun e => hg (.inr (.inr e)); omega
      rw [z2] at cl
      rw [z3] at co
      have GC := hide (g.clr hi (fun e => hg (.inl e)) (by omega))
      have CC := hide (cntI_clr g hi)
      have N8 := hide (g.few i)
      have DR := hide (rdr_any h.so (i : Int))
      rw [hgone]
      obtain ⟨l, hl⟩ : ∃ l, l = (s.n i).l := ⟨_, rfl⟩
      have HC := hide hc
      have HL := hide hl
      rw [← hl] at GC CC N8 ⊢
      -- behind the drop: at w1, the store being so1
      have REST := hide (show ∀ (w1 : World) (so1 : So), so1 = (if (s.n i).dir then s.so else drS s.so i) → Rto w w1 D E T R S ⟨s.n, so1⟩ → ∃ D1 E1 V1, RtAt w1 D1 T R S ⟨s.n, so1⟩ E1 V1 ∧ clrI s i = ⟨upd s.n i Nd.zero, so1⟩ ∧ (∃ a c, V1 i = .slice a l.length c ∧ Reads 2 enV w1 a l.length l ∧ ∀ b o, a = some ⟨b, o, none⟩ → ¬ E1 b ∧ b ≠ T) ∧ ∀ w2 s2, Rto w1 w2 D1 E1 T R S s2 → Rto w w2 D E T R S s2 from by
        rintro w1 so1 rfl ⟨D1, E1, V1, h1, t1, e1, d1⟩
        obtain ⟨a, c, hv, hr, -, -, -⟩ := h1.list i
        refine ⟨D1, E1, V1, h1, rfl, ⟨a, c, by rw [hv, hl], by rw [hl]; exact hr, fun b o e => ?_⟩, fun w2 s2 r => Rto.step t1 e1 d1 r⟩
        have := h1.own i b (by rw [hv, e]; rfl)
        exact ⟨this.2.1, this.2.2⟩)
      obtain ⟨n, hn⟩ : ∃ n, n = l.length := ⟨_, rfl⟩
      have NL := hide hn
      rw [← hn] at REST N8
      have n8 : (n : Int) ≤ 8 := by have := N8.out; omega
      have STO := hide (fun (so' : So) (v : Value) (e : Ending) (w' : World) (p : SideO (fun w' D' => Dso R w' D' S so') E w v e w') => h.stored p)
      have RF := hide (Rto.refl h)
      clear hg hgone z2 z3 hl hc g h hn l0 o0 HL
      cases hd : (s.n i).dir with
      | true =>
        rw [hd] at cd REST
        clear DR STO
        obtain ⟨D1, E1, V1, h1, hcl, ⟨a, c, hv, hr, hsep⟩, back⟩ := REST.out w s.so rfl RF.out
        go_enter Tryz.func87, Tryz.ntmps87
        go_upto_region 3 with fail
        clear cl co cd c0 REST
        have x0 := h1.cIs hi
        have x1 := h1.cDir hi
        have x2 := h1.cLinks hi
        have x3 := h1.cOpens hi
        have x4 := h1.cList hi
        rw [hv] at x4
        have y0 := h1.row.frz (1 + i * 5)
        have y1 := h1.row.frz (1 + i * 5 + 1)
        have y2 := h1.row.frz (1 + i * 5 + 2)
        have y3 := h1.row.frz (1 + i * 5 + 3)
        have y4 := h1.row.frz (1 + i * 5 + 4)
        obtain ⟨r2, t2⟩ := h1.clear i
        have e2 := hcl
        have R2 := hide (And.intro r2 t2)
        have R1 := hide (And.intro h1 (And.intro hr hsep))
        have BACK := hide back
        have HCL := hide hcl
        clear r2 t2 h1 hr hsep back e2 hcl
        go_upto_region 5 with fail
        generalize hw2 : ((((w.setCell ⟨T, 1 + i * 5, none⟩ (.bool false)).setCell ⟨T, 1 + i * 5 + 1, none⟩ (.bool false)).setCell ⟨T, 1 + i * 5 + 2, none⟩ (.int .i64 0)).setCell ⟨T, 1 + i * 5 + 3, none⟩ (.int .i64 0)).setCell ⟨T, 1 + i * 5 + 4, none⟩ (.slice none 0 0) = w2 at *
        have G0 := hide (show Rto w w2 D1 E1 T R S (clrI s i) from by
          rw [HCL.out]
          exact ⟨D1, E1, _, R2.out.1, R2.out.2.mono (fun k e => .inl e), fun k e => .inl e, fun k e => .inl e⟩)
        clear x0 x1 x2 x3 x4 y0 y1 y2 y3 y4 R2 hw2
        go_wp2_with fail
        try simp only [show ((i : Int) == 0) = false from by simpa using z1]
        go_loopw [5] (fun kv wr => ∃ k : Nat, k ≤ n ∧ kv = .int .i64 (k : Int) ∧ Hid (Rto w wr D1 E1 T R S (foldG f (l.take k) (clrI s i)))) (fun kv _ => n - (intOf kv).toNat)
        case atStart => exact ⟨0, Nat.zero_le _, rfl, G0⟩
        case round =>
          clear G0
          obtain ⟨k, hk, rfl, hR⟩ := hrel
          by_cases hlt : k < n
          · have k0 : (0 : Int) ≤ (k : Int) := by omega
            have k1 : (k : Int) < (n : Int) := by omega
            obtain ⟨D2, E2, V2, h2, t2, e2, d2⟩ := hR.out
            have hr2 := Rto.reads t2 R1.out.2.1 R1.out.2.2
            obtain ⟨x, b, off, hx, rfl, -, x1⟩ := hr2.ent hlt
            obtain ⟨gg, gc⟩ := foldG_good (f := f) GC.out (fun hne => by have := CC.out.2 hne; have := HC.out; omega) k (by have := NL.out; omega)
            rw [List.drop_eq_getElem_cons (by have := NL.out; omega), show l[k]'(by have := NL.out; omega) = x from (List.getElem?_eq_some_iff.1 hx).2, List.cons_append] at gg
            have j16 := (gg.pnd x (List.mem_cons_self ..)).1
            have TK := hide (foldG_take (f := f) (s := clrI s i) hx)
            have GD := hide gg.dec
            have CD := hide (show cntI (decL (foldG f (l.take k) (clrI s i)) x.id) < f from by rw [cntI_dec _ j16]; exact gc (fun e => by rw [e] at hx; cases hx))
            obtain ⟨st, hst⟩ : ∃ st, st = foldG f (l.take k) (clrI s i) := ⟨_, rfl⟩
            have lb := gg.lb x.id
            have ll : 0 ≤ ((foldG f (l.take k) (clrI s i)).n x.id).links := by rw [gg.lnk]; omega
            rw [← hst] at TK GD CD lb ll h2
            have cx := h2.cLinks j16
            have fx := h2.row.frz (1 + x.id * 5 + 2)
            obtain ⟨j, hj⟩ : ∃ j, j = x.id := ⟨_, rfl⟩
            obtain ⟨lk, hlk⟩ : ∃ z, z = (st.n x.id).links := ⟨_, rfl⟩
            have LK := hide (fun q => h2.linked x.id (lk - 1) q)
            have DE := hide (show st.put x.id { st.n x.id with links := lk - 1 } = decL st x.id from by rw [hlk]; rfl)
            rw [← hlk] at cx lb ll
            rw [← hj] at cx fx x1 j16 LK DE TK GD CD
            have HJ := hide hj
            have RDS := hide (And.intro hr2 hx)
            have PREV := hide (And.intro t2 (And.intro e2 d2))
            have J16 := hide j16
            have j0 : (0 : Int) ≤ (j : Int) := by omega
            have j1 : (j : Int) < 16 := by omega
            clear hr2 hx gg gc hst hj hlk h2 t2 e2 d2 j16 hR
            go_upto_region 8 with fail
            go_region
            generalize hw4 : (wr.setCell ⟨T, 1 + j * 5 + 2, none⟩ (.int .i64 (lk - 1))).drew = w4 at *
            obtain ⟨D4, E4, V4, h4, t4, e4, d4⟩ : Rto w w4 D1 E1 T R S (decL st j) := by
              rw [← hw4, ← DE.out]
              exact Rto.step PREV.out.1 PREV.out.2.1 PREV.out.2.2 (LK.out 1)
            have hr4 := Rto.reads t4 R1.out.2.1 R1.out.2.2
            obtain ⟨x', b', off', hx', e', -, x1'⟩ := hr4.ent hlt
            obtain rfl : x = x' := by have h := RDS.out.2; rw [hx'] at h; injection h with h; exact h.symm
            injection e' with e'
            injection e' with e'1 e'2 _
            subst e'1 e'2
            rw [← HJ.out] at x1'
            have GN := hide (IHH.out w4 D4 (decL st j) E4 V4 _ B j h4 GD.out J16.out CD.out)
            have P4 := hide (And.intro t4 (And.intro e4 d4))
            clear hw4 h4 t4 e4 d4 hr4 hx' x1 cx fx LK PREV
            go_wp2_with (go_at_call 87; refine GN.out.mono ?_; rintro e w5 ⟨rfl, r5⟩; have R5 := hide (Rto.step P4.out.1 P4.out.2.1 P4.out.2.2 r5); clear r5)
            go_roundw
            case rel => exact ⟨k + 1, by omega, by go_num, by rw [TK.out]; exact R5.out⟩
            case measure => simp [intOf]; omega
          · obtain rfl : k = n := by omega
            go_wp2_with fail
            refine bodyPost_end (results_none rfl _ _ _) rfl ?_
            refine ⟨rfl, BACK.out _ _ ?_⟩
            have h9 := hR.out
            rw [List.take_of_length_le (by rw [NL.out]; exact Nat.le_refl _)] at h9
            exact h9
      | false =>
        rw [hd] at cd REST
        go_enter Tryz.func87, Tryz.ntmps87
        go_upto_region 3 with (go_at_call 119; refine DR.out.mono ?_; intro e w1 p1; obtain ⟨rfl, ro⟩ := STO.out _ _ _ _ p1; have RO := hide ro; clear p1 ro)
        obtain ⟨D1, E1, V1, h1, hcl, ⟨a, c, hv, hr, hsep⟩, back⟩ := REST.out w1 (drS s.so i) rfl RO.out
        clear cl co cd c0 REST
        have x0 := h1.cIs hi
        have x1 := h1.cDir hi
        have x2 := h1.cLinks hi
        have x3 := h1.cOpens hi
        have x4 := h1.cList hi
        rw [hv] at x4
        have y0 := h1.row.frz (1 + i * 5)
        have y1 := h1.row.frz (1 + i * 5 + 1)
        have y2 := h1.row.frz (1 + i * 5 + 2)
        have y3 := h1.row.frz (1 + i * 5 + 3)
        have y4 := h1.row.frz (1 + i * 5 + 4)
        obtain ⟨r2, t2⟩ := h1.clear i
        have e2 := hcl
        have R2 := hide (And.intro r2 t2)
        have R1 := hide (And.intro h1 (And.intro hr hsep))
        have BACK := hide back
        have HCL := hide hcl
        clear r2 t2 h1 hr hsep back e2 hcl
        go_upto_region 5 with fail
        generalize hw2 : ((((w1.setCell ⟨T, 1 + i * 5, none⟩ (.bool false)).setCell ⟨T, 1 + i * 5 + 1, none⟩ (.bool false)).setCell ⟨T, 1 + i * 5 + 2, none⟩ (.int .i64 0)).setCell ⟨T, 1 + i * 5 + 3, none⟩ (.int .i64 0)).setCell ⟨T, 1 + i * 5 + 4, none⟩ (.slice none 0 0) = w2 at *
        have G0 := hide (show Rto w1 w2 D1 E1 T R S (clrI s i) from by
          rw [HCL.out]
          exact ⟨D1, E1, _, R2.out.1, R2.out.2.mono (fun k e => .inl e), fun k e => .inl e, fun k e => .inl e⟩)
        clear x0 x1 x2 x3 x4 y0 y1 y2 y3 y4 R2 hw2
        go_wp2_with fail
        try simp only [show ((i : Int) == 0) = false from by simpa using z1]
        go_loopw [5] (fun kv wr => ∃ k : Nat, k ≤ n ∧ kv = .int .i64 (k : Int) ∧ Hid (Rto w1 wr D1 E1 T R S (foldG f (l.take k) (clrI s i)))) (fun kv _ => n - (intOf kv).toNat)
        case atStart => exact ⟨0, Nat.zero_le _, rfl, G0⟩
        case round =>
          clear G0
          obtain ⟨k, hk, rfl, hR⟩ := hrel
          by_cases hlt : k < n
          · have k0 : (0 : Int) ≤ (k : Int) := by omega
            have k1 : (k : Int) < (n : Int) := by omega
            obtain ⟨D2, E2, V2, h2, t2, e2, d2⟩ := hR.out
            have hr2 := Rto.reads t2 R1.out.2.1 R1.out.2.2
            obtain ⟨x, b, off, hx, rfl, -, x1⟩ := hr2.ent hlt
            obtain ⟨gg, gc⟩ := foldG_good (f := f) GC.out (fun hne => by have := CC.out.2 hne; have := HC.out; omega) k (by have := NL.out; omega)
            rw [List.drop_eq_getElem_cons (by have := NL.out; omega), show l[k]'(by have := NL.out; omega) = x from (List.getElem?_eq_some_iff.1 hx).2, List.cons_append] at gg
            have j16 := (gg.pnd x (List.mem_cons_self ..)).1
            have TK := hide (foldG_take (f := f) (s := clrI s i) hx)
            have GD := hide gg.dec
            have CD := hide (show cntI (decL (foldG f (l.take k) (clrI s i)) x.id) < f from by rw [cntI_dec _ j16]; exact gc (fun e => by rw [e] at hx; cases hx))
            obtain ⟨st, hst⟩ : ∃ st, st = foldG f (l.take k) (clrI s i) := ⟨_, rfl⟩
            have lb := gg.lb x.id
            have ll : 0 ≤ ((foldG f (l.take k) (clrI s i)).n x.id).links := by rw [gg.lnk]; omega
            rw [← hst] at TK GD CD lb ll h2
            have cx := h2.cLinks j16
            have fx := h2.row.frz (1 + x.id * 5 + 2)
            obtain ⟨j, hj⟩ : ∃ j, j = x.id := ⟨_, rfl⟩
            obtain ⟨lk, hlk⟩ : ∃ z, z = (st.n x.id).links := ⟨_, rfl⟩
            have LK := hide (fun q => h2.linked x.id (lk - 1) q)
            have DE := hide (show st.put x.id { st.n x.id with links := lk - 1 } = decL st x.id from by rw [hlk]; rfl)
            rw [← hlk] at cx lb ll
            rw [← hj] at cx fx x1 j16 LK DE TK GD CD
            have HJ := hide hj
            have RDS := hide (And.intro hr2 hx)
            have PREV := hide (And.intro t2 (And.intro e2 d2))
            have J16 := hide j16
            have j0 : (0 : Int) ≤ (j : Int) := by omega
            have j1 : (j : Int) < 16 := by omega
            clear hr2 hx gg gc hst hj hlk h2 t2 e2 d2 j16 hR
            go_upto_region 8 with fail
            go_region
            generalize hw4 : (wr.setCell ⟨T, 1 + j * 5 + 2, none⟩ (.int .i64 (lk - 1))).drew = w4 at *
            obtain ⟨D4, E4, V4, h4, t4, e4, d4⟩ : Rto w1 w4 D1 E1 T R S (decL st j) := by
              rw [← hw4, ← DE.out]
              exact Rto.step PREV.out.1 PREV.out.2.1 PREV.out.2.2 (LK.out 1)
            have hr4 := Rto.reads t4 R1.out.2.1 R1.out.2.2
            obtain ⟨x', b', off', hx', e', -, x1'⟩ := hr4.ent hlt
            obtain rfl : x = x' := by have h := RDS.out.2; rw [hx'] at h; injection h with h; exact h.symm
            injection e' with e'
            injection e' with e'1 e'2 _
            subst e'1 e'2
            rw [← HJ.out] at x1'
            have GN := hide (IHH.out w4 D4 (decL st j) E4 V4 _ B j h4 GD.out J16.out CD.out)
            have P4 := hide (And.intro t4 (And.intro e4 d4))
            clear hw4 h4 t4 e4 d4 hr4 hx' x1 cx fx LK PREV
            go_wp2_with (go_at_call 87; refine GN.out.mono ?_; rintro e w5 ⟨rfl, r5⟩; have R5 := hide (Rto.step P4.out.1 P4.out.2.1 P4.out.2.2 r5); clear r5)
            go_roundw
            case rel => exact ⟨k + 1, by omega, by go_num, by rw [TK.out]; exact R5.out⟩
            case measure => simp [intOf]; omega
          · obtain rfl : k = n := by omega
            go_wp2_with fail
            refine bodyPost_end (results_none rfl _ _ _) rfl ?_
            refine ⟨rfl, BACK.out _ _ ?_⟩
            have h9 := hR.out
            rw [List.take_of_length_le (by rw [NL.out]; exact Nat.le_refl _)] at h9
            exact h9
theorem tgone_any : ∀ f, GoneOk f T R S
  | 0 => fun _ _ _ _ _ _ _ _ _ _ _ hc => by omega
  | f + 1 => tgone_step (tgone_any f)
set_option maxHeartbeats 4000000 in
theorem tclose_any (h : RtAt w D T R S s E V) {B : Int} (g : GoodP s [] B) (hB : B ≤ 1000000) (id : Int) : Calls Tryz.prog 46 #[.pointer (some ⟨T, 0, none⟩), .int .i64 id] w fun e w' => e = .returned (.int .i64 (clIE s id : Nat)) ∧ Rto w w' D E T R S (clI s id) := by
  have IS := hide (tis_any h id)
  have FIN := hide (Rto.refl h)
  cases e : isI s id with
  | false =>
    have hE : clIE s id = 4 := by unfold clIE; rw [e]; simp
    rw [hE, show clI s id = s from by unfold clI; rw [hE]; rfl]
    rw [e] at IS
    clear h g e hE
    go_enter Tryz.func46, Tryz.ntmps46
    go_wp2_with (go_at_call 86; refine IS.out.mono ?_; rintro e w' ⟨rfl, rfl⟩)
    go_ret
    exact ⟨rfl, FIN.out⟩
  | true =>
    obtain ⟨i, rfl, hi, his⟩ := isI_yes e
    rw [e] at IS
    have co := h.cOpens hi
    have fz := h.row.frz (1 + i * 5 + 3)
    have i0 : (0 : Int) ≤ (i : Int) := by omega
    have i1 : (i : Int) < 16 := by omega
    by_cases z : (s.n i).opens = 0
    · have hE : clIE s (i : Int) = 4 := by unfold clIE; rw [Int.toNat_natCast, if_neg (by simp [z])]
      rw [hE, show clI s (i : Int) = s from by unfold clI; rw [hE]; rfl]
      rw [z] at co
      clear h g e hE z his
      go_enter Tryz.func46, Tryz.ntmps46
      go_wp2_with (go_at_call 86; refine IS.out.mono ?_; rintro e w' ⟨rfl, rfl⟩)
      go_ret
      exact ⟨rfl, FIN.out⟩
    · have hE : clIE s (i : Int) = 0 := by unfold clIE; rw [Int.toNat_natCast, if_pos ⟨e, z⟩]
      rw [hE, show clI s (i : Int) = goneI 17 (s.put i { s.n i with opens := (s.n i).opens - 1 }) i from by unfold clI; rw [if_pos hE, Int.toNat_natCast]]
      have hn := g.opn i
      have hg : GoodP (s.put i { s.n i with opens := (s.n i).opens - 1 }) [] B := by
        refine g.node (i := i) (x := { s.n i with opens := (s.n i).opens - 1 }) rfl hi (Int.le_refl _) (fun e => by subst e; exact g.root.2) his (g.file i) (g.ent i) (g.srt i) (g.few i) (fun e he => by cases he) (fun j => ?_) ⟨by show 0 ≤ (s.n i).opens - 1; omega, by show (s.n i).opens - 1 ≤ B; omega⟩ (g.lb i) (fun k => ?_) g.so
        · by_cases e2 : j = i
          · subst e2; rw [upd_same]
          · rw [upd_other _ _ e2]
        · show (getFi s.so.l k).isSome = true ↔ _
          rw [g.fil k]
          by_cases e2 : k = i
          · subst e2; rw [upd_same]
          · rw [upd_other _ _ e2]
      obtain ⟨o, hoo⟩ : ∃ o, o = (s.n i).opens := ⟨_, rfl⟩
      rw [← hoo] at co z hn hg ⊢
      have o1 : 1 ≤ o := by omega
      have o2 : o ≤ 1000000 := by omega
      have z1 : ¬ o = 0 := z
      have GG := hide hg
      have OP := hide (h.opened i (o - 1) 1)
      have CN := hide (show cntI (s.put i { s.n i with opens := o - 1 }) < 17 from by have := cntI_le (s.put i { s.n i with opens := o - 1 }); omega)
      have HI := hide hi
      clear h g e hE z his hoo hg hn FIN
      go_enter Tryz.func46, Tryz.ntmps46
      go_upto_region 3 with (go_at_call 86; refine IS.out.mono ?_; rintro e w' ⟨rfl, rfl⟩)
      go_region
      generalize hw4 : (w.setCell ⟨T, 1 + i * 5 + 3, none⟩ (.int .i64 (o - 1))).drew = w4 at *
      obtain ⟨D4, E4, V4, h4, t4, e4, d4⟩ : Rto w w4 D E T R S (s.put i { s.n i with opens := o - 1 }) := by rw [← hw4]; exact OP.out
      have GN := hide (tgone_any 17 w4 D4 _ E4 V4 _ B i h4 GG.out HI.out CN.out)
      have P4 := hide (And.intro t4 (And.intro e4 d4))
      clear hw4 h4 t4 e4 d4 OP co fz IS
      go_wp2_with (go_at_call 87; refine GN.out.mono ?_; rintro e w5 ⟨rfl, r5⟩; have R5 := hide (Rto.step P4.out.1 P4.out.2.1 P4.out.2.2 r5); clear r5)
      go_ret
      exact ⟨rfl, R5.out⟩
end
end Go.Proofs.YtndfnglcichngaaGreatDoor
namespace Go.Proofs.YtndfnglcichngaaGreatDoor
open Go.ChangeShapes Go.WideShapes Go.ChangeAt Go.RowKit
set_option linter.unusedVariables false
set_option linter.unusedSimpArgs false
section
variable {w : World} {D : Nat → Prop} {T R S : Nat} {s : In} {E : Nat → Prop} {V : Nat → Value}
/-- A node is made: five cells. -/
theorem RtAt.made (h : RtAt w D T R S s E V) (i : Nat) (d : Bool) : RtAt (((((w.setCell ⟨T, 1 + i * 5, none⟩ (.bool true)).setCell ⟨T, 1 + i * 5 + 1, none⟩ (.bool d)).setCell ⟨T, 1 + i * 5 + 2, none⟩ (.int .i64 0)).setCell ⟨T, 1 + i * 5 + 3, none⟩ (.int .i64 1)).setCell ⟨T, 1 + i * 5 + 4, none⟩ (.slice none 0 0)) D T R S ⟨upd s.n i ⟨true, d, 0, 1, []⟩, s.so⟩ E (upd V i (.slice none 0 0)) ∧
    Touch (fun k => k = T) w (((((w.setCell ⟨T, 1 + i * 5, none⟩ (.bool true)).setCell ⟨T, 1 + i * 5 + 1, none⟩ (.bool d)).setCell ⟨T, 1 + i * 5 + 2, none⟩ (.int .i64 0)).setCell ⟨T, 1 + i * 5 + 3, none⟩ (.int .i64 1)).setCell ⟨T, 1 + i * 5 + 4, none⟩ (.slice none 0 0)) := by
  have r := ((((h.row.set (1 + i * 5) (.bool true)).set (1 + i * 5 + 1) (.bool d)).set (1 + i * 5 + 2) (.int .i64 0)).set (1 + i * 5 + 3) (.int .i64 1)).set (1 + i * 5 + 4) (.slice none 0 0)
  rw [show upd (upd (upd (upd (upd (tabF S s.n V) (1 + i * 5) (.bool true)) (1 + i * 5 + 1) (.bool d)) (1 + i * 5 + 2) (.int .i64 0)) (1 + i * 5 + 3) (.int .i64 1)) (1 + i * 5 + 4) (.slice none 0 0) = tabF S (upd s.n i ⟨true, d, 0, 1, []⟩) (upd V i (.slice none 0 0)) from tab_all ⟨true, d, 0, 1, []⟩ _] at r
  have u : Touch (fun k => k = T) w (((((w.setCell ⟨T, 1 + i * 5, none⟩ (.bool true)).setCell ⟨T, 1 + i * 5 + 1, none⟩ (.bool d)).setCell ⟨T, 1 + i * 5 + 2, none⟩ (.int .i64 0)).setCell ⟨T, 1 + i * 5 + 3, none⟩ (.int .i64 1)).setCell ⟨T, 1 + i * 5 + 4, none⟩ (.slice none 0 0)) :=
    (((((Touch.refl (fun k => k = T) w).setCell (p := ⟨T, 1 + i * 5, none⟩) rfl _).setCell (p := ⟨T, 1 + i * 5 + 1, none⟩) rfl _).setCell (p := ⟨T, 1 + i * 5 + 2, none⟩) rfl _).setCell (p := ⟨T, 1 + i * 5 + 3, none⟩) rfl _).setCell (p := ⟨T, 1 + i * 5 + 4, none⟩) rfl _
  refine ⟨h.cells u r (fun k => ?_), u⟩
  by_cases e : k = i
  · rw [e, upd_same, upd_same]; exact .inr ⟨rfl, rfl⟩
  · rw [upd_other _ _ e, upd_other _ _ e]; exact .inl ⟨rfl, rfl⟩
theorem wf_16 {i : Nat} (h : i < 16) : (Lit.int .i64 (i : Int)).wf = true := wf_nat (by omega)
set_option maxRecDepth 10000 in
set_option maxHeartbeats 4000000 in
theorem tmake_any (h : RtAt w D T R S s E V) (hl : s.so.l.length ≤ 16) (d : Bool) : Calls Tryz.prog 82 #[.pointer (some ⟨T, 0, none⟩), .bool d] w fun e w' => e = .returned (.tuple #[.int .i64 (mkII s : Nat), .int .i64 (mkIE s : Nat)]) ∧ Rto w w' D E T R S (mkI s d) := by
  have HH := hide h
  have HL := hide hl
  have FIN := hide (Rto.refl h)
  have ANS := hide (show (∀ k, freeI s = some k → mkII s = k ∧ mkIE s = 0 ∧ mkI s d = mkAt s d k) ∧ (freeI s = none → mkII s = 0 ∧ mkIE s = 15 ∧ mkI s d = s) from by
    unfold mkII mkIE mkI
    exact ⟨fun k e => by rw [e]; exact ⟨rfl, rfl, rfl⟩, fun e => by rw [e]; exact ⟨rfl, rfl, rfl⟩⟩)
  clear h hl
  go_enter Tryz.func82, Tryz.ntmps82
  go_wp2_with fail
  go_loopw [6] (fun kv wr => ∃ k : Nat, 1 ≤ k ∧ k ≤ 16 ∧ kv = .int .i64 (k : Int) ∧ Hid (freeI s = freeA s (16 - k) k) ∧ w = wr) (fun kv _ => 16 - (intOf kv).toNat)
  case atStart => exact ⟨1, Nat.le_refl _, by omega, rfl, rfl, rfl⟩
  case round =>
    obtain ⟨k, hk1, hk, rfl, hF, rfl⟩ := hrel
    have k0 : (0 : Int) ≤ (k : Int) := by omega
    by_cases hlt : k < 16
    · have k1 : (k : Int) < 16 := by omega
      have c0 := HH.out.cIs hlt
      have hs : freeA s (16 - k) k = if (s.n k).is then freeA s (16 - (k + 1)) (k + 1) else some k := by
        rw [show 16 - k = (16 - (k + 1)) + 1 from by omega]; rfl
      cases hb : (s.n k).is with
      | true =>
        rw [hb] at hs c0
        have HS := hide (hF.out.trans hs)
        clear hs hb hF
        go_wp2_with fail
        go_roundw
        case rel => exact ⟨k + 1, by omega, by omega, by go_num, HS.out, by trivial⟩
        case measure => simp [intOf]; omega
      | false =>
        rw [hb] at hs c0
        obtain ⟨a1, a2, a3⟩ := ANS.out.1 k (hF.out.trans hs)
        have A1 := hide a1
        have A2 := hide a2
        have A3 := hide a3
        have c1 := HH.out.cDir hlt
        have c2 := HH.out.cLinks hlt
        have c3 := HH.out.cOpens hlt
        have c4 := HH.out.cList hlt
        obtain ⟨a, c, hv, -⟩ := HH.out.list k
        rw [hv] at c4
        have y0 := HH.out.row.frz (1 + k * 5)
        have y1 := HH.out.row.frz (1 + k * 5 + 1)
        have y2 := HH.out.row.frz (1 + k * 5 + 2)
        have y3 := HH.out.row.frz (1 + k * 5 + 3)
        have y4 := HH.out.row.frz (1 + k * 5 + 4)
        have MD := hide (HH.out.made k d)
        have K16 := hide (wf_16 hlt)
        clear hs hb hF a1 a2 a3 hv
        go_upto_region 6 with fail
        generalize hw2 : ((((w.setCell ⟨T, 1 + k * 5, none⟩ (.bool true)).setCell ⟨T, 1 + k * 5 + 1, none⟩ (.bool d)).setCell ⟨T, 1 + k * 5 + 2, none⟩ (.int .i64 0)).setCell ⟨T, 1 + k * 5 + 3, none⟩ (.int .i64 1)).setCell ⟨T, 1 + k * 5 + 4, none⟩ (.slice none 0 0) = w2 at *
        obtain ⟨h2, t2⟩ := MD.out
        have x0 := h2.c0
        have MK := hide (rmk_any h2.so (id := (k : Int)) K16.out (by have := HL.out; show s.so.l.length < 100000; omega))
        have ST := hide (fun (so' : So) (v : Value) (e : Ending) (w' : World) (p : SideO (fun w' D' => Dso R w' D' S so') E w2 v e w') => h2.stored p)
        have H2 := hide (And.intro h2 t2)
        clear c0 c1 c2 c3 c4 y0 y1 y2 y3 y4 MD hw2 h2 t2
        cases d with
        | true =>
          go_wp2_with fail
          go_ret2
          rw [A1.out, A2.out, A3.out]
          exact ⟨rfl, D, E, _, H2.out.1, H2.out.2.mono (fun i e => .inl e), fun i e => .inl e, fun i e => .inl e⟩
        | false =>
          go_wp2_with (go_at_call 116; refine MK.out.mono ?_; intro e w3 p3; obtain ⟨rfl, r3⟩ := ST.out _ _ _ _ p3; have R3 := hide r3; clear p3 r3)
          go_ret2
          rw [A1.out, A2.out, A3.out]
          exact ⟨rfl, Rto.step (H2.out.2.mono (fun i e => .inl e)) (fun i e => .inl e) (fun i e => .inl e) R3.out⟩
    · obtain rfl : k = 16 := by omega
      obtain ⟨a1, a2, a3⟩ := ANS.out.2 hF.out
      have A1 := hide a1
      have A2 := hide a2
      have A3 := hide a3
      clear a1 a2 a3 hF
      go_wp2_with fail
      go_ret2
      rw [A1.out, A2.out, A3.out]
      exact ⟨rfl, FIN.out⟩
theorem reads_ent (w : World) (x : Ent) (n : Nat) (hn : n = w.heap.size) (t : TypeId) : Reads 2 enV (w.alloc (.cells #[.string (bt x.nm), .int .i64 (x.id : Int)] t)) (some ⟨n, 0, none⟩) 1 [x] := by
  subst hn
  refine ⟨rfl, fun _ => ⟨_, _, rfl, fun i p hx j u hu => ?_⟩⟩
  have hi : i = 0 := by have := (List.getElem?_eq_some_iff.1 hx).1; simp at this; exact this
  subst hi
  injection hx with hx; subst hx
  rw [cell_of_row _ _ _ _ _ _ (heap_alloc_new _ _)]
  match j, hu with
  | 0, hu => injection hu with hu; subst hu; rfl
  | 1, hu => injection hu with hu; subst hu; rfl
theorem delL_take {l : List Ent} {t : Txt} {k : Nat} {x : Ent} (h : l[k]? = some x) : delL (l.take (k + 1)) t = delL (l.take k) t ++ if x.nm ≠ t then [x] else [] := by
  unfold delL
  rw [List.take_add_one, h, List.filter_append]
  by_cases e : x.nm = t <;> simp [e]
theorem delL_le (l : List Ent) (t : Txt) : (delL l t).length ≤ l.length := List.length_filter_le ..
/-- A node has another row: one cell. -/
theorem RtAt.listed (h : RtAt w D T R S s E V) {w1 : World} (b : Below w.heap.size w w1) (i : Nat) {l : List Ent} {v : Value} (ho : w1.ownsRow w.heap.size 105 2 v l.length (l.flatMap enV)) : Rto w (w1.setCell ⟨T, 1 + i * 5 + 4, none⟩ v) D E T R S (setL s i l) := by
  have h1 := h.below b
  have r := h1.row.set (1 + i * 5 + 4) v
  rw [tab_list l v] at r
  have u1 := (Touch.refl (fun k => k = T) w1).setCell (p := ⟨T, 1 + i * 5 + 4, none⟩) rfl v
  have hT : T < w.heap.size := h.lt T h.dt.1
  refine h.relist ((Touch.of_below b).trans u1 (fun k e => .inl e)) r (own_base (u1.own ho (fun g hg e => ?_)) (Nat.zero_le _)) (fun g hg => (ho.lt g hg).1)
  have := (ho.lt g hg).1
  have e : g = T := e
  omega
set_option maxRecDepth 10000 in
set_option maxHeartbeats 8000000 in
theorem tremove_any (h : RtAt w D T R S s E V) {B : Int} (g : GoodP s [] B) (hB : B ≤ 1000000) (d : Int) (t : Txt) : Calls Tryz.prog 118 #[.pointer (some ⟨T, 0, none⟩), .int .i64 d, .string (bt t)] w fun e w' => e = .returned (.int .i64 (rmIE s d t : Nat)) ∧ Rto w w' D E T R S (rmI s d t) := by
  have FD := hide (tfind_any h g.few d t)
  have FIN := hide (Rto.refl h)
  by_cases e0 : fiIE s d t = 0
  · obtain ⟨i, j, rfl, i16, iis, idir, hf, hj⟩ : ∃ i j : Nat, d = (i : Int) ∧ i < 16 ∧ (s.n i).is = true ∧ (s.n i).dir = true ∧ findL (s.n i).l t = some j ∧ fiII s d t = j := by
      unfold fiIE at e0
      split at e0
      · rename_i e3
        obtain ⟨i, rfl, h1, h2, h3⟩ := dirI_yes e3
        rw [Int.toNat_natCast] at e0
        split at e0
        · rename_i e4
          obtain ⟨j, hj⟩ := Option.isSome_iff_exists.1 e4
          exact ⟨i, j, rfl, h1, h2, h3, hj, by unfold fiII; rw [if_pos e3, Int.toNat_natCast, hj]; rfl⟩
        · cases e0
      · cases e0
    rw [e0, hj] at FD
    obtain ⟨p, en, q, hl, hen, hid, hp⟩ := findL_some hf
    have hmem : en ∈ (s.n i).l := by rw [hl]; simp
    have j16 : j < 16 := by rw [← hid]; exact (g.ent i en hmem).1
    obtain ⟨aj, cj, hvj, -, -, -, -⟩ := h.list j
    have cdj := h.cDir j16
    have clj := h.cList j16
    rw [hvj] at clj
    have i0 : (0 : Int) ≤ (i : Int) := by omega
    have i1 : (i : Int) < 16 := by omega
    have j0 : (0 : Int) ≤ (j : Int) := by omega
    have j1 : (j : Int) < 16 := by omega
    have rE : rmIE s (i : Int) t = if (s.n j).dir = true ∧ (s.n j).l ≠ [] then 13 else 0 := by unfold rmIE; rw [if_neg (by simp [e0]), hj]
    obtain ⟨nj, hnj⟩ : ∃ z, z = (s.n j).l.length := ⟨_, rfl⟩
    have nj8 : (nj : Int) ≤ 8 := by have := g.few j; omega
    rw [← hnj] at clj
    by_cases hb : (s.n j).dir = true ∧ (s.n j).l ≠ []
    · rw [if_pos hb] at rE
      rw [rE, show rmI s (i : Int) t = s from by unfold rmI; rw [if_neg (by rw [rE]; decide)]]
      have p1 : 0 < nj := by rw [hnj]; exact List.length_pos_iff.2 hb.2
      have p2 : (0 : Int) < (nj : Int) := by omega
      rw [hb.1] at cdj
      clear hb rE g hl hf hmem hvj hnj hen hid hp iis idir e0 hj h
      go_enter Tryz.func118, Tryz.ntmps118
      go_wp2_with (go_at_call 85; refine FD.out.mono ?_; rintro e w' ⟨rfl, rfl⟩)
      go_ret
      exact ⟨rfl, FIN.out⟩
    · rw [if_neg hb] at rE
      rw [rE, show rmI s (i : Int) t = goneI 17 (decL (setL s i (delL (s.n i).l t)) j) j from by unfold rmI; rw [if_pos rE, hj, Int.toNat_natCast]]
      obtain ⟨e', he', g1⟩ := g.del i16 iis idir hf
      have he2 := he'
      have g2 := hide (he' ▸ g1.dec : GoodP (decL (setL s i (delL (s.n i).l t)) j) [] B)
      have CN := hide (show cntI (decL (setL s i (delL (s.n i).l t)) j) < 17 from by have := cntI_le (decL (setL s i (delL (s.n i).l t)) j); omega)
      have LB := hide (show 0 ≤ ((setL s i (delL (s.n i).l t)).n j).links ∧ ((setL s i (delL (s.n i).l t)).n j).links ≤ 1000 from ⟨by rw [g1.lnk]; omega, g1.lb _⟩)
      obtain ⟨a, c, hv, hr, -, -, -⟩ := h.list i
      have cl := h.cList i16
      rw [hv] at cl
      have HR := hide hr
      have n8 : ((s.n i).l.length : Int) ≤ 8 := by have := g.few i; omega
      obtain ⟨l, hll⟩ : ∃ l, l = (s.n i).l := ⟨_, rfl⟩
      rw [← hll] at HR g2 CN LB n8 cl ⊢
      obtain ⟨n, hn⟩ : ∃ n, n = l.length := ⟨_, rfl⟩
      rw [← hn] at cl HR n8
      have NL := hide hn
      have HH := hide h
      have J16 := hide j16
      obtain ⟨i0', hi0, hz0, hz1, hz2⟩ := info_parts entry_info
      have INFO := hide (And.intro hi0 (And.intro hz0 (And.intro hz1 hz2)))
      have CB := hide (fun (W : World) (b : Below w.heap.size w W) => show W.cell? ⟨T, 1 + i * 5 + 4, none⟩ = some (.slice a n c) ∧ W.frozen? ⟨T, 1 + i * 5 + 4, none⟩ = false from ⟨(b.cell (lt_of_cell? cl)).trans cl, ((h.below b).row.frz _)⟩)
      have COND := hide (show (s.n j).dir = false ∨ nj = 0 from by
        cases hd : (s.n j).dir with
        | false => exact .inl rfl
        | true => exact .inr (by rw [hnj]; exact List.length_eq_zero_iff.2 (Classical.not_not.1 (fun h => hb ⟨hd, h⟩))))
      obtain ⟨bd, hbd⟩ : ∃ z, z = (s.n j).dir := ⟨_, rfl⟩
      rw [← hbd] at COND cdj
      clear hb rE g hl hf hmem hvj hnj hen hid hp iis idir e0 hj h hv hr hll hn hi0 hz0 hz1 hz2 g1 hbd FIN j16 he' he2
      have gt0 : bd = true → nj = 0 := fun hb => by have := COND.out; rcases this with h | h; (rw [hb] at h; cases h); exact h
      cases hbd : bd with
      | true =>
        obtain rfl := gt0 hbd
        rw [hbd] at cdj
        clear gt0 COND hbd
        go_enter Tryz.func118, Tryz.ntmps118
        go_upto_region 4 with (go_at_call 85; refine FD.out.mono ?_; rintro e w' ⟨rfl, rfl⟩)
        go_wp2_with fail
        go_loopw [9, 10] (fun lv kv wr => ∃ k : Nat, k ≤ n ∧ kv = .int .i64 (k : Int) ∧ Hid (Below w.heap.size w wr) ∧ Hid (wr.ownsRow w.heap.size 105 2 lv (delL (l.take k) t).length ((delL (l.take k) t).flatMap enV))) (fun _ kv _ => n - (intOf kv).toNat)
        case atStart => exact ⟨0, Nat.zero_le _, rfl, Below.refl _ _, World.ownsRow_nil _ _ _ _⟩
        case round =>
          obtain ⟨k, hk, rfl, hBl, hO⟩ := hrel
          rename World => wr
          obtain ⟨cw, fw⟩ := CB.out wr hBl.out
          by_cases hlt : k < n
          · have k0 : (0 : Int) ≤ (k : Int) := by omega
            have k1 : (k : Int) < (n : Int) := by omega
            obtain ⟨x, b, off, hx, rfl, x0, x1⟩ := (HR.out.below hBl.out).ent hlt
            have TK := hide (delL_take (t := t) hx)
            have ev := bt_eq x.nm t
            by_cases hnm : x.nm = t
            · rw [decide_eq_true hnm] at ev
              have TK2 := hide (show delL (l.take (k + 1)) t = delL (l.take k) t from by rw [TK.out, if_neg (by simpa using hnm), List.append_nil])
              obtain ⟨y, hy⟩ : ∃ y, y = x.nm := ⟨_, rfl⟩
              rw [← hy] at x0 ev
              clear hnm hy x1 hx TK
              go_wp2_with fail
              go_roundw
              case rel => exact ⟨k + 1, by omega, by go_num, hBl, by rw [TK2.out]; exact hO⟩
              case measure => simp [intOf]; omega
            · rw [decide_eq_false hnm] at ev
              have TK2 := hide (show delL (l.take (k + 1)) t = delL (l.take k) t ++ [x] from by rw [TK.out, if_pos hnm])
              have RD := hide (reads_ent wr x wr.heap.size rfl 105)
              have OW := hide (hO.out.alloc (.cells #[.string (bt x.nm), .int .i64 (x.id : Int)] 105))
              have B1 := hide (hBl.out.alloc (by have := hBl.out.size; omega) (.cells #[.string (bt x.nm), .int .i64 (x.id : Int)] 105))
              have LE := hide (show (delL (l.take k) t).length ≤ 8 from by have := delL_le (l.take k) t; rw [List.length_take] at this; omega)
              obtain ⟨M, hM⟩ : ∃ M, M = delL (l.take k) t := ⟨_, rfl⟩
              rw [← hM] at TK2 OW LE
              obtain ⟨y, hy⟩ : ∃ y, y = x.nm := ⟨_, rfl⟩
              obtain ⟨z, hz⟩ : ∃ z, z = x.id := ⟨_, rfl⟩
              rw [← hy] at x0 ev RD OW B1
              rw [← hz] at x1 RD OW B1
              clear hnm hy hz hx TK hM
              go_wp2_with (at_builtin; refine wpList_append_reads rfl (.tmp 64) (.tmp 75) 36 rfl w.heap.size 105 i0' _ 24 (Tryz.underlying36) INFO.out.1 INFO.out.2.1 INFO.out.2.2.1 INFO.out.2.2.2 rfl (by omega) _ M.length _ rfl OW.out (some ⟨wr.heap.size, 0, none⟩) 1 1 [x] rfl enV_len enV_cell RD.out (fun e => by cases e) (by have := LE.out; unfold maxLen; omega) (by have := LE.out; omega) B1.out.size ?_; intro v3 w3 o3 g3; have O3 := hide o3; have B3 := hide (B1.out.grown g3 B1.out.size (own_lo OW.out)); clear o3 g3)
              go_roundw
              case rel => exact ⟨k + 1, by omega, by go_num, B3.out, by rw [TK2.out, List.length_append, List.flatMap_append]; exact O3.out⟩
              case measure => simp [intOf]; omega
          · obtain rfl : k = n := by omega
            have OL := hide (show wr.ownsRow w.heap.size 105 2 _ (delL l t).length ((delL l t).flatMap enV) from by have h := hO.out; rw [List.take_of_length_le (by rw [NL.out]; exact Nat.le_refl _)] at h; exact h)
            obtain ⟨av, cv, rfl, -⟩ := own_sliceR OL.out
            have LS := hide (HH.out.listed hBl.out i OL.out)
            clear hO hlt
            go_upto_region 13 with fail
            generalize hw3 : wr.setCell ⟨T, 1 + i * 5 + 4, none⟩ (.slice av (delL l t).length cv) = w3 at *
            obtain ⟨D3, E3, V3, h3, t3, e3, d3⟩ := LS.out
            have cx := h3.cLinks J16.out
            have fx := h3.row.frz (1 + j * 5 + 2)
            obtain ⟨lk, hlk⟩ : ∃ z, z = ((setL s i (delL l t)).n j).links := ⟨_, rfl⟩
            have LK := hide (h3.linked j (lk - 1) 1)
            have DE := hide (show (setL s i (delL l t)).put j { (setL s i (delL l t)).n j with links := lk - 1 } = decL (setL s i (delL l t)) j from by rw [hlk]; rfl)
            rw [← hlk] at cx LB
            have ll := LB.out.1
            have lb := LB.out.2
            have P3 := hide (And.intro t3 (And.intro e3 d3))
            clear hw3 h3 t3 e3 d3 hlk cw fw LS OL
            go_region
            generalize hw4 : (w3.setCell ⟨T, 1 + j * 5 + 2, none⟩ (.int .i64 (lk - 1))).drew = w4 at *
            obtain ⟨D4, E4, V4, h4, t4, e4, d4⟩ : Rto w w4 D E T R S (decL (setL s i (delL l t)) j) := by
              rw [← hw4, ← DE.out]
              exact Rto.step P3.out.1 P3.out.2.1 P3.out.2.2 LK.out
            have GN := hide (tgone_any 17 w4 D4 _ E4 V4 _ B j h4 g2.out J16.out CN.out)
            have P4 := hide (And.intro t4 (And.intro e4 d4))
            clear hw4 h4 t4 e4 d4 cx fx LK
            go_wp2_with (go_at_call 87; refine GN.out.mono ?_; rintro e w5 ⟨rfl, r5⟩; have R5 := hide (Rto.step P4.out.1 P4.out.2.1 P4.out.2.2 r5); clear r5)
            go_ret
            exact ⟨rfl, R5.out⟩
      | false =>
        rw [hbd] at cdj
        clear gt0 COND hbd
        go_enter Tryz.func118, Tryz.ntmps118
        go_upto_region 4 with (go_at_call 85; refine FD.out.mono ?_; rintro e w' ⟨rfl, rfl⟩)
        go_wp2_with fail
        go_loopw [9, 10] (fun lv kv wr => ∃ k : Nat, k ≤ n ∧ kv = .int .i64 (k : Int) ∧ Hid (Below w.heap.size w wr) ∧ Hid (wr.ownsRow w.heap.size 105 2 lv (delL (l.take k) t).length ((delL (l.take k) t).flatMap enV))) (fun _ kv _ => n - (intOf kv).toNat)
        case atStart => exact ⟨0, Nat.zero_le _, rfl, Below.refl _ _, World.ownsRow_nil _ _ _ _⟩
        case round =>
          obtain ⟨k, hk, rfl, hBl, hO⟩ := hrel
          rename World => wr
          obtain ⟨cw, fw⟩ := CB.out wr hBl.out
          by_cases hlt : k < n
          · have k0 : (0 : Int) ≤ (k : Int) := by omega
            have k1 : (k : Int) < (n : Int) := by omega
            obtain ⟨x, b, off, hx, rfl, x0, x1⟩ := (HR.out.below hBl.out).ent hlt
            have TK := hide (delL_take (t := t) hx)
            have ev := bt_eq x.nm t
            by_cases hnm : x.nm = t
            · rw [decide_eq_true hnm] at ev
              have TK2 := hide (show delL (l.take (k + 1)) t = delL (l.take k) t from by rw [TK.out, if_neg (by simpa using hnm), List.append_nil])
              obtain ⟨y, hy⟩ : ∃ y, y = x.nm := ⟨_, rfl⟩
              rw [← hy] at x0 ev
              clear hnm hy x1 hx TK
              go_wp2_with fail
              go_roundw
              case rel => exact ⟨k + 1, by omega, by go_num, hBl, by rw [TK2.out]; exact hO⟩
              case measure => simp [intOf]; omega
            · rw [decide_eq_false hnm] at ev
              have TK2 := hide (show delL (l.take (k + 1)) t = delL (l.take k) t ++ [x] from by rw [TK.out, if_pos hnm])
              have RD := hide (reads_ent wr x wr.heap.size rfl 105)
              have OW := hide (hO.out.alloc (.cells #[.string (bt x.nm), .int .i64 (x.id : Int)] 105))
              have B1 := hide (hBl.out.alloc (by have := hBl.out.size; omega) (.cells #[.string (bt x.nm), .int .i64 (x.id : Int)] 105))
              have LE := hide (show (delL (l.take k) t).length ≤ 8 from by have := delL_le (l.take k) t; rw [List.length_take] at this; omega)
              obtain ⟨M, hM⟩ : ∃ M, M = delL (l.take k) t := ⟨_, rfl⟩
              rw [← hM] at TK2 OW LE
              obtain ⟨y, hy⟩ : ∃ y, y = x.nm := ⟨_, rfl⟩
              obtain ⟨z, hz⟩ : ∃ z, z = x.id := ⟨_, rfl⟩
              rw [← hy] at x0 ev RD OW B1
              rw [← hz] at x1 RD OW B1
              clear hnm hy hz hx TK hM
              go_wp2_with (at_builtin; refine wpList_append_reads rfl (.tmp 64) (.tmp 75) 36 rfl w.heap.size 105 i0' _ 24 (Tryz.underlying36) INFO.out.1 INFO.out.2.1 INFO.out.2.2.1 INFO.out.2.2.2 rfl (by omega) _ M.length _ rfl OW.out (some ⟨wr.heap.size, 0, none⟩) 1 1 [x] rfl enV_len enV_cell RD.out (fun e => by cases e) (by have := LE.out; unfold maxLen; omega) (by have := LE.out; omega) B1.out.size ?_; intro v3 w3 o3 g3; have O3 := hide o3; have B3 := hide (B1.out.grown g3 B1.out.size (own_lo OW.out)); clear o3 g3)
              go_roundw
              case rel => exact ⟨k + 1, by omega, by go_num, B3.out, by rw [TK2.out, List.length_append, List.flatMap_append]; exact O3.out⟩
              case measure => simp [intOf]; omega
          · obtain rfl : k = n := by omega
            have OL := hide (show wr.ownsRow w.heap.size 105 2 _ (delL l t).length ((delL l t).flatMap enV) from by have h := hO.out; rw [List.take_of_length_le (by rw [NL.out]; exact Nat.le_refl _)] at h; exact h)
            obtain ⟨av, cv, rfl, -⟩ := own_sliceR OL.out
            have LS := hide (HH.out.listed hBl.out i OL.out)
            clear hO hlt
            go_upto_region 13 with fail
            generalize hw3 : wr.setCell ⟨T, 1 + i * 5 + 4, none⟩ (.slice av (delL l t).length cv) = w3 at *
            obtain ⟨D3, E3, V3, h3, t3, e3, d3⟩ := LS.out
            have cx := h3.cLinks J16.out
            have fx := h3.row.frz (1 + j * 5 + 2)
            obtain ⟨lk, hlk⟩ : ∃ z, z = ((setL s i (delL l t)).n j).links := ⟨_, rfl⟩
            have LK := hide (h3.linked j (lk - 1) 1)
            have DE := hide (show (setL s i (delL l t)).put j { (setL s i (delL l t)).n j with links := lk - 1 } = decL (setL s i (delL l t)) j from by rw [hlk]; rfl)
            rw [← hlk] at cx LB
            have ll := LB.out.1
            have lb := LB.out.2
            have P3 := hide (And.intro t3 (And.intro e3 d3))
            clear hw3 h3 t3 e3 d3 hlk cw fw LS OL
            go_region
            generalize hw4 : (w3.setCell ⟨T, 1 + j * 5 + 2, none⟩ (.int .i64 (lk - 1))).drew = w4 at *
            obtain ⟨D4, E4, V4, h4, t4, e4, d4⟩ : Rto w w4 D E T R S (decL (setL s i (delL l t)) j) := by
              rw [← hw4, ← DE.out]
              exact Rto.step P3.out.1 P3.out.2.1 P3.out.2.2 LK.out
            have GN := hide (tgone_any 17 w4 D4 _ E4 V4 _ B j h4 g2.out J16.out CN.out)
            have P4 := hide (And.intro t4 (And.intro e4 d4))
            clear hw4 h4 t4 e4 d4 cx fx LK
            go_wp2_with (go_at_call 87; refine GN.out.mono ?_; rintro e w5 ⟨rfl, r5⟩; have R5 := hide (Rto.step P4.out.1 P4.out.2.1 P4.out.2.2 r5); clear r5)
            go_ret
            exact ⟨rfl, R5.out⟩
  · rw [show rmIE s d t = fiIE s d t from by unfold rmIE; rw [if_pos e0], show rmI s d t = s from by unfold rmI; rw [if_neg (by unfold rmIE; rw [if_pos e0]; exact e0)]]
    obtain ⟨f1, hf1⟩ : ∃ z, z = fiII s d t := ⟨_, rfl⟩
    obtain ⟨f2, hf2⟩ : ∃ z, z = fiIE s d t := ⟨_, rfl⟩
    rw [← hf1, ← hf2] at FD
    rw [← hf2] at e0 ⊢
    have e1 : ¬ (f2 : Int) = 0 := by omega
    clear h g e0 hf1 hf2
    go_enter Tryz.func118, Tryz.ntmps118
    go_wp2_with (go_at_call 85; refine FD.out.mono ?_; rintro e w' ⟨rfl, rfl⟩)
    go_ret
    exact ⟨rfl, FIN.out⟩
end
end Go.Proofs.YtndfnglcichngaaGreatDoor
namespace Go.Proofs.YtndfnglcichngaaGreatDoor
open Go.ChangeShapes Go.WideShapes Go.ChangeAt Go.RowKit
set_option linter.unusedVariables false
set_option linter.unusedSimpArgs false
section
variable {w : World} {D : Nat → Prop} {T R S : Nat} {s : In} {E : Nat → Prop} {V : Nat → Value}
set_option maxHeartbeats 4000000 in
theorem tget_any (h : RtAt w D T R S s E V) (hf : ∀ i, (s.n i).l.length ≤ 8) (id : Int) : Calls Tryz.prog 91 #[.pointer (some ⟨T, 0, none⟩), .int .i64 id] w fun e w' => e = .returned (gotI s id) ∧ Below w.heap.size w w' := by
  have IS := hide (fun (W : World) (b : Below w.heap.size w W) => tis_any (h.below b) id)
  have HH := hide (fun (W : World) (b : Below w.heap.size w W) => h.below b)
  have A1 := hide (show ∀ o : Obj, Below w.heap.size w (w.alloc o) from fun o => (Below.refl _ _).alloc (Nat.le_refl _) o)
  cases e : isI s id with
  | false =>
    rw [show gotI s id = .tuple #[.agg #[.int .i64 0, .int .i64 0, .bool false, .int .i64 0], .bool false] from by unfold gotI; rw [e]; rfl]
    rw [e] at IS
    clear h hf e
    go_enter Tryz.func91, Tryz.ntmps91
    go_wp2_with (go_at_call 86; refine (IS.out _ (A1.out _)).mono ?_; rintro e w' ⟨rfl, rfl⟩)
    refine bodyPost_ret (v := .tuple #[.agg #[.int .i64 0, .int .i64 0, .bool false, .int .i64 0], .bool false]) ?_ rfl ⟨rfl, ?_⟩
    · rw [results_cell_tmp rfl]
      go_simp
    · exact A1.out _
  | true =>
    obtain ⟨i, rfl, hi, -⟩ := isI_yes e
    rw [e] at IS
    obtain ⟨a, c, hv, hr, -, -, -⟩ := h.list i
    obtain ⟨n, hn⟩ : ∃ n, n = (s.n i).l.length := ⟨_, rfl⟩
    obtain ⟨y, hy⟩ : ∃ y, y = s.n i := ⟨_, rfl⟩
    have N8 := hide (hf i)
    rw [← hn] at hv N8
    have GOT := hide (show gotI s (i : Int) = .tuple #[.agg #[.int .i64 (i : Int), .int .i64 y.links, .bool y.dir, .int .i64 (if y.dir then (n : Int) else ((lenO (getFi s.so.l i) : Nat) : Int))], .bool true] from by
      unfold gotI gtSz
      rw [e, if_pos rfl, Int.toNat_natCast, ← hy]
      rw [hn, ← hy]
      cases y.dir <;> rfl)
    rw [← hy] at hn
    have cells := hide (fun (W : World) (b : Below w.heap.size w W) => show W.cell? ⟨T, 1 + i * 5, none⟩ = some (.bool y.is) ∧ W.cell? ⟨T, 1 + i * 5 + 1, none⟩ = some (.bool y.dir) ∧ W.cell? ⟨T, 1 + i * 5 + 2, none⟩ = some (.int .i64 y.links) ∧ W.cell? ⟨T, 1 + i * 5 + 3, none⟩ = some (.int .i64 y.opens) ∧ W.cell? ⟨T, 1 + i * 5 + 4, none⟩ = some (.slice a n c) ∧ W.cell? ⟨T, 0, none⟩ = some (.pointer (some ⟨S, 0, none⟩)) from
      hy ▸ hv ▸ ⟨(h.below b).cIs hi, (h.below b).cDir hi, (h.below b).cLinks hi, (h.below b).cOpens hi, (h.below b).cList hi, (h.below b).c0⟩)
    have i0 : (0 : Int) ≤ (i : Int) := by omega
    have i1 : (i : Int) < 16 := by omega
    clear h hf hv hr hn hy e
    go_enter Tryz.func91, Tryz.ntmps91
    go_upto_region 3 with (go_at_call 86; refine (IS.out _ (A1.out _)).mono ?_; rintro e w' ⟨rfl, rfl⟩)
    obtain ⟨d1, d2, d3, d4, d5, d0⟩ := cells.out _ (A1.out (.cells #[.int .i64 0, .int .i64 0, .bool false, .int .i64 0] 54))
    go_upto_region 4 with fail
    have bb := hide (show Below w.heap.size w ((w.alloc (.cells #[.int .i64 0, .int .i64 0, .bool false, .int .i64 0] 54)).alloc (.cells #[.bool y.is, .bool y.dir, .int .i64 y.links, .int .i64 y.opens, .slice a n c] 153)) from ((Below.refl _ _).alloc (Nat.le_refl _) _).alloc (by simp) _)
    have SZ := hide (rsz_any (HH.out _ bb.out).so (i : Int))
    have f0 := (cells.out _ bb.out).2.2.2.2.2
    have A2 := hide (show ∀ k v, Below w.heap.size w ((((w.alloc (.cells #[.int .i64 (i : Int), .int .i64 y.links, .bool y.dir, .int .i64 k] 54)).alloc (.cells #[.bool y.is, .bool y.dir, .int .i64 y.links, .int .i64 y.opens, .slice a n c] 153))).drewN v) from fun k v => below_drewN (((Below.refl _ _).alloc (Nat.le_refl _) _).alloc (by simp) _) v)
    obtain ⟨z, hz⟩ : ∃ z, z = lenO (getFi s.so.l i) := ⟨_, rfl⟩
    rw [← hz] at SZ GOT
    clear d1 d2 d3 d4 d5 d0 cells hz HH IS
    cases hd : y.dir with
    | true =>
      rw [hd] at GOT f0 A2
      go_wp2_with fail
      refine bodyPost_ret (v := .tuple #[.agg #[.int .i64 (i : Int), .int .i64 y.links, .bool true, .int .i64 (n : Int)], .bool true]) ?_ rfl ⟨by rw [GOT.out]; rfl, ?_⟩
      · rw [results_cell_tmp rfl]
        go_simp
      · exact A2.out _ 0
    | false =>
      rw [hd] at GOT f0 A2 SZ
      go_wp2_with (go_at_call 120; refine SZ.out.mono ?_; rintro e w' ⟨rfl, rfl⟩)
      refine bodyPost_ret (v := .tuple #[.agg #[.int .i64 (i : Int), .int .i64 y.links, .bool false, .int .i64 (z : Int)], .bool true]) ?_ rfl ⟨by rw [GOT.out]; rfl, ?_⟩
      · rw [results_cell_tmp rfl]
        go_simp
      · exact A2.out _ 0
end
end Go.Proofs.YtndfnglcichngaaGreatDoor
namespace Go.Proofs.YtndfnglcichngaaGreatDoor
open Go.ChangeShapes Go.WideShapes Go.ChangeAt Go.RowKit
set_option linter.unusedVariables false
set_option linter.unusedSimpArgs false
structure En where
  nm : ByteArray
  id : Int
def en2V (x : En) : List Value := [.string x.nm, .int .i64 x.id]
def eqEn (x y : En) : Bool := decide (x.nm = y.nm) && decide (x.id = y.id)
theorem en_text_inj (a b : ByteArray) : (a.toList == b.toList) = decide (a = b) := by
  have := bt_eq a.data.toList b.data.toList
  rw [bt_data, bt_data] at this
  rw [this]
  refine decide_eq_decide.2 ⟨fun h => ?_, fun h => by rw [h]⟩
  have h := congrArg bt h
  rwa [bt_data, bt_data] at h
theorem en_neq (w : World) (x y : En) : (binOp .neq 105 (.agg (en2V x).toArray) (.agg (en2V y).toArray)).run Tryz.prog w = .ok (.bool (!eqEn x y)) w := by
  rw [run_neq_struct, run_equalIn_agg w 9999 _ _ _ (by kernel_rfl) (by kernel_rfl)]
  simp only [Program.fieldsOf, Tryz.underlying105]
  simp [Op.eqFields, go_sem, Tryz.underlying3, Tryz.underlying9, en2V, en_text_inj]
  unfold eqEn
  by_cases e0 : x.nm = y.nm <;> by_cases e1 : x.id = y.id <;> simp [e0, e1]
theorem en_refl (x : En) : eqEn x x = true := by simp [eqEn]
def toEn (e : Ent) : En := ⟨bt e.nm, (e.id : Int)⟩
theorem en2V_to (e : Ent) : en2V (toEn e) = enV e := rfl
theorem reads_to {w : World} {a : Option Addr} {n : Nat} {l : List Ent} (h : Reads 2 enV w a n l) : Reads 2 en2V w a n (l.map toEn) := by
  refine ⟨by rw [List.length_map]; exact h.1, fun hn => ?_⟩
  obtain ⟨b, off, e, hc⟩ := h.2 hn
  refine ⟨b, off, e, fun i x hx j u hu => ?_⟩
  rw [List.getElem?_map] at hx
  cases hy : l[i]? with
  | none => rw [hy] at hx; cases hx
  | some y =>
    rw [hy] at hx
    injection hx with hx
    exact hc i y hy j u (by rw [← hx, en2V_to] at hu; exact hu)
end Go.Proofs.YtndfnglcichngaaGreatDoor
