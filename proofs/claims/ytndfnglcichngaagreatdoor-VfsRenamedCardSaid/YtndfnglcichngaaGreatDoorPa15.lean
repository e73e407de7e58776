/-
  Several texts as one: GEntries IpMem.
-/
import Derived.Deep.QuietTactic
import Derived.BigQuiet
import Derived.Deep.AppendLies
import Derived.Deep.DeepCutAuto
import Derived.Deep.CutBlock
import Derived.Deep.RegionHeld3
import Derived.Test.YtndfnglcichngaaGreatDoorPa13
import Derived.Test.YtndfnglcichngaaGreatDoorPa07
import Derived.Test.YtndfnglcichngaaGreatDoorPa17
namespace Go.Proofs.YtndfnglcichngaaGreatDoor
open Go.ChangeShapes Go.WideShapes Go.ChangeAt Go.RowKit
set_option linter.unusedVariables false
theorem en2V_len (x : En) : (en2V x).length = 2 := rfl
theorem en2V_cell (x : En) : ∀ v ∈ en2V x, v.oneCell' = true := by
  intro v hv
  simp [en2V] at hv
  rcases hv with rfl | rfl <;> rfl
theorem entries_info : (Tryz.prog.info? 105).map (fun i => (i.zero, i.size, i.bytes)) = some (some (.agg #[.string ByteArray.empty, .int .i64 0]), 2, 24) := by kernel_rfl
theorem built_entries_mark : Tryz.prog.built 105 [(1, .int .i64 (-7))] = some #[.string ByteArray.empty, .int .i64 (-7)] := by kernel_rfl
attribute [local go_sem] built_entries_mark
theorem built_entries_over : Tryz.prog.built 105 [(1, .int .i64 (-9))] = some #[.string ByteArray.empty, .int .i64 (-9)] := by kernel_rfl
attribute [local go_sem] built_entries_over
def mkEntries : En := ⟨ByteArray.empty, -7⟩
def ovEntries : En := ⟨ByteArray.empty, -9⟩
theorem en_same (w : World) (x : En) : (binOp .neq 105 (.agg #[.string x.nm, .int .i64 x.id]) (.agg #[.string x.nm, .int .i64 x.id])).run Tryz.prog w = .ok (.bool false) w := by
  have := en_neq w x x
  rw [en_refl] at this
  exact this
set_option maxHeartbeats 4000000 in
theorem sameEntries_any (a b : Option Addr) (n c d : Nat) (ys : List En) (w : World) (ha : Reads 2 en2V w a n ys) (hb : Reads 2 en2V w b n ys) (hn : n ≤ 1000000) :
    Calls Tryz.prog 24 #[.slice a n c, .slice b n d] w fun e w' => e = .returned (.bool true) ∧ Below w.heap.size w w' := by
  have HA := hide ha
  have HB := hide hb
  have g0 : ((n : Int) != (n : Int)) = false := by simp
  clear ha hb
  go_enter Tryz.func24, Tryz.ntmps24
  go_wp2_with fail
  go_loopw [5] (fun i wr => ∃ k : Nat, k ≤ n ∧ i = .int .i64 k ∧ Hid (∃ q, wr = w.drewN q)) (fun i _ => n - (intOf i).toNat)
  case atStart => exact ⟨0, Nat.zero_le _, rfl, 0, rfl⟩
  case round =>
    obtain ⟨k, hk, rfl, hZ⟩ := hrel
    by_cases hlt : k < n
    · have k0 : (0 : Int) ≤ (k : Int) := by omega
      have k1 : (k : Int) < (n : Int) := by omega
      obtain ⟨x, b1, o1, hx, rfl, hp⟩ := HA.out.at_ hlt
      obtain ⟨x', b2, o2, hx', rfl, hq⟩ := HB.out.at_ hlt
      rw [hx] at hx'
      injection hx' with hx'
      subst hx'
      have DR := hide (show ∃ q, wr = w.drewN q from hZ.out)
      have hcell : ∀ p : Addr, wr.cell? p = w.cell? p := fun p => by obtain ⟨q, rfl⟩ := hZ.out; rfl
      have p0 : wr.cell? ⟨b1, o1 + k * 2, none⟩ = some (.string x.nm) := (hcell _).trans (hp 0 _ rfl)
      have p1 : wr.cell? ⟨b1, o1 + k * 2 + 1, none⟩ = some (.int .i64 x.id) := (hcell _).trans (hp 1 _ rfl)
      have q0 : wr.cell? ⟨b2, o2 + k * 2, none⟩ = some (.string x.nm) := (hcell _).trans (hq 0 _ rfl)
      have q1 : wr.cell? ⟨b2, o2 + k * 2 + 1, none⟩ = some (.int .i64 x.id) := (hcell _).trans (hq 1 _ rfl)
      have ne := fun W => en_same W x
      clear hp hq hx hcell hZ
      go_upto_region 6 with fail
      go_quiet (fail)
      have DR2 : Hid (∃ q, wr.drewN nq = w.drewN q) := (show ∃ q, wr.drewN nq = w.drewN q from by
        obtain ⟨q, rfl⟩ := DR.out
        exact ⟨q + nq, by simp [World.drewN, Nat.add_assoc]⟩)
      clear p0 q0 p1 q1 DR
      generalize wr.drewN nq = w2 at *
      go_wp2_with fail
      go_roundw
      case rel => exact ⟨k + 1, by omega, by go_num, DR2.out⟩
      case measure => simp [intOf]; omega
    · obtain rfl : k = n := by omega
      go_wp2_with fail
      go_ret
      obtain ⟨q, rfl⟩ := hZ.out
      exact ⟨rfl, below_drewN (Below.refl _ _) q⟩
theorem own_sliceEntries {w : World} {B : Nat} {e : TypeId} {z n : Nat} {v : Value} {xs : List Value} (h : w.ownsRow B e z v n xs) : ∃ a c, v = .slice a n c ∧ (a = none → c = 0) := by
  rcases h.2 with ⟨rfl, rfl⟩ | ⟨g, cap, cur, rfl, _⟩
  · exact ⟨none, 0, rfl, fun _ => rfl⟩
  · exact ⟨_, _, rfl, (fun e => by cases e)⟩
set_option maxRecDepth 10000 in
set_option maxHeartbeats 4000000 in
theorem overEntries_any (v : Value) (n : Nat) (xs : List Value) (w : World) {B : Nat} (hv : w.ownsRow B 105 2 v n xs) (hn : n ≤ 1000000) :
    Calls Tryz.prog 52 #[v] w fun e w' => e = .returned (.tuple #[]) ∧ Touch (fun i => v.ownBlock = some i) w w' := by
  obtain ⟨i0, hi0, hz0, hz1, hz2⟩ := info_parts entries_info
  obtain ⟨a, c, rfl, _⟩ := own_sliceEntries hv
  have HZ := hide hz2
  go_enter Tryz.func52, Tryz.ntmps52
  go_wp2_with fail
  go_loopw [2] (fun i wr => ∃ (k : Nat) (ys : List Value), k ≤ n ∧ i = .int .i64 k ∧ Hid (wr.ownsRow B 105 2 (.slice a n c) n ys ∧ Touch (fun i => (Value.slice a n c).ownBlock = some i) w wr)) (fun i _ => n - (intOf i).toNat)
  case atStart => exact ⟨0, xs, Nat.zero_le _, rfl, hv, Touch.refl _ _⟩
  case round =>
    obtain ⟨k, ys, hk, rfl, hZ⟩ := hrel
    have ho := hZ.out.1
    have hb := hZ.out.2
    by_cases hlt : k < n
    · obtain ⟨g, cap, e⟩ : ∃ g cap, (Value.slice a n c) = .slice (some ⟨g, 0, none⟩) n cap := by
        rcases ho.2 with ⟨_, h⟩ | ⟨g, cap, cur, e, _⟩
        · omega
        · exact ⟨_, _, e⟩
      injection e with e1 _ e2
      subst e1 e2
      have hl : ys.length = n * 2 := ho.1
      have k0 : (0 : Int) ≤ (k : Int) := by omega
      have k1 : (k : Int) < (n : Int) := by omega
      have hc : ∀ j, j < 2 → ∃ u, wr.cell? ⟨g, k * 2 + j, none⟩ = some u := fun j hj => ⟨_, (ho.cellAt (k * 2 + j) (by omega)).trans (List.getElem?_eq_getElem (by omega))⟩
      obtain ⟨u0, c0⟩ : ∃ u, wr.cell? ⟨g, k * 2, none⟩ = some u := hc 0 (by omega)
      obtain ⟨u1, c1⟩ : ∃ u, wr.cell? ⟨g, k * 2 + 1, none⟩ = some u := hc 1 (by omega)
      have f0 := ho.frozenAt (k * 2)
      have f1 := ho.frozenAt (k * 2 + 1)
      have S := hide (((ho.stored (k * 2) (.string ByteArray.empty)).1.stored (k * 2 + 1) (.int .i64 (-9))).1)
      have B1 := hide ((hb.setCell (p := ⟨g, k * 2, none⟩) rfl (.string ByteArray.empty)).setCell (p := ⟨g, k * 2 + 1, none⟩) rfl (.int .i64 (-9)))
      clear ho hb hv hc hZ
      go_wp2_with (refine wpList_build rfl 105 _ rfl (by kernel_rfl) ?_)
      go_roundw
      case rel => exact ⟨k + 1, _, by omega, by go_num, S.out, B1.out⟩
      case measure => simp [intOf]; omega
    · have HO := hide ho
      have HB := hide hb
      clear hv ho hb hZ
      have hby : (n + 1) * 24 ≤ 140737488355328 := by omega
      go_wp2_with (first
        | (at_builtin; refine wpList_append_own_at _ rfl (.tmp 13) (.tmp 15) _ rfl 0 105 i0 _ 2 24 Tryz.underlying36 hi0 hz0 hz1 HZ.out rfl (by omega) _ _ _ rfl (own_base (HO.out.alloc _) (Nat.zero_le _)) ⟨wr.heap.size, 0, none⟩ 1 1 (en2V ovEntries) rfl rfl (cells_new wr (en2V ovEntries) _ _ rfl) (en2V_cell ovEntries) (by unfold maxLen; omega) hby (Nat.zero_le _) ?_; intro v9 w9 o9 g9 _ t9; have hr' := hide ((HB.out.alloc _).trans (Touch.of_grown (S := fun i => (Value.slice a n c).ownBlock = some i) g9 (fun g e => e)) (fun i e => .inl e)); clear g9 t9)
        | (refine wpList_build rfl 105 _ rfl (by kernel_rfl) ?_))
      go_end0
      exact ⟨rfl, hr'.out⟩
end Go.Proofs.YtndfnglcichngaaGreatDoor
namespace Go.Proofs.YtndfnglcichngaaGreatDoor
open Go.ChangeShapes Go.WideShapes Go.ChangeAt Go.RowKit
set_option linter.unusedVariables false
set_option linter.unusedSimpArgs false
/-- The cells of the table. -/
def ptF (S : Nat) (N : Nat → Option Nat) (k : Nat) : Value := if k = 0 then .pointer (some ⟨S, 0, none⟩) else ptrV (N (k - 1))
theorem ptF_upd (S : Nat) (N : Nat → Option Nat) (i : Nat) (x : Option Nat) : upd (ptF S N) (1 + i) (ptrV x) = ptF S (upd N i x) := by
  funext k
  by_cases e : k = 1 + i
  · subst e
    rw [upd_same]; unfold ptF
    rw [if_neg (by omega), show 1 + i - 1 = i from by omega, upd_same]
  · rw [upd_other _ _ e]; unfold ptF
    by_cases h0 : k = 0
    · rw [if_pos h0, if_pos h0]
    · rw [if_neg h0, if_neg h0, upd_other _ _ (by omega)]
/-- The cells of a node, its row at v. -/
def ndF (y : Nd) (v : Value) : Nat → Value
  | 0 => .bool y.dir
  | 1 => .int .i64 y.links
  | 2 => .int .i64 y.opens
  | _ => v
/-- The program's table at T over the store at S over the frames at H. E: the store's blocks; N: the nodes' blocks; V: their rows of entries; each kind of block has a tag of its own. -/
structure IpM (w : World) (U : Nat → Prop) (H T S : Nat) (s : In) (E : Nat → Prop) (N : Nat → Option Nat) (V : Nat → Value) (tag : Nat → Int) : Prop where
  so : PSo H w E S s.so
  row : RowI w T 17 99 (ptF S N)
  is : ∀ i, (N i).isSome = (s.n i).is
  nd : ∀ i b, N i = some b → RowI w b 4 134 (ndF (s.n i) (V i))
  en : ∀ i, w.ownsRow 0 105 2 (V i) (s.n i).l.length ((s.n i).l.flatMap enV)
  tt : tag T = -1
  te : ∀ i, E i → tag i = -2
  tn : ∀ i b, N i = some b → tag b = 2 * i
  tv : ∀ i g, (V i).ownBlock = some g → tag g = 2 * i + 1
  ut : U T
  ue : ∀ i, E i → U i
  un : ∀ i b, N i = some b → U b
  uv : ∀ i g, (V i).ownBlock = some g → U g
  lt : ∀ i, U i → i < w.heap.size
def PIn (H S : Nat) : Rel In := fun w U T s => ∃ E N V tag, IpM w U H T S s E N V tag
section
variable {w : World} {U : Nat → Prop} {H T S : Nat} {s : In} {E : Nat → Prop} {N : Nat → Option Nat} {V : Nat → Value} {tag : Nat → Int}
theorem IpM.keep {W : Nat → Prop} {w' : World} (h : IpM w U H T S s E N V tag) (u : Touch W w w') (d : ∀ i, U i → ¬ W i) : IpM w' U H T S s E N V tag :=
  ⟨(keepsPSo H).keep h.so u (fun i e => d i (h.ue i e)), h.row.keep (u.block T (lt_of_heap h.row) (d T h.ut)), h.is, fun i b e => (h.nd i b e).keep (u.block b (lt_of_heap (h.nd i b e)) (d b (h.un i b e))), fun i => u.own (h.en i) (fun g hg => d g (h.uv i g hg)), h.tt, h.te, h.tn, h.tv, h.ut, h.ue, h.un, h.uv, fun i e => Nat.lt_of_lt_of_le (h.lt i e) u.size⟩
theorem IpM.below {w' : World} (h : IpM w U H T S s E N V tag) (u : Below w.heap.size w w') : IpM w' U H T S s E N V tag := h.keep (W := fun _ => False) (Touch.of_below u) (fun _ _ e => e)
theorem keepsPIn (H S : Nat) : Keeps (PIn H S) where
  keep := by rintro V U w w' T s ⟨E, N, V', tag, h⟩ u d; exact ⟨E, N, V', tag, h.keep u d⟩
  lt := by rintro U w T s ⟨E, N, V', tag, h⟩ i hi; exact h.lt i hi
/-- More blocks may be counted as its own. -/
theorem IpM.wider {U' : Nat → Prop} (h : IpM w U H T S s E N V tag) (hu : ∀ i, U i → U' i) (hl : ∀ i, U' i → i < w.heap.size) : IpM w U' H T S s E N V tag :=
  ⟨h.so, h.row, h.is, h.nd, h.en, h.tt, h.te, h.tn, h.tv, hu _ h.ut, fun i e => hu _ (h.ue i e), fun i b e => hu _ (h.un i b e), fun i g e => hu _ (h.uv i g e), hl⟩
theorem IpM.c0 (h : IpM w U H T S s E N V tag) : w.cell? ⟨T, 0, none⟩ = some (.pointer (some ⟨S, 0, none⟩)) := h.row.cell (by omega)
theorem IpM.cN (h : IpM w U H T S s E N V tag) {i : Nat} (hi : i < 16) : w.cell? ⟨T, 1 + i, none⟩ = some (ptrV (N i)) := by
  rw [h.row.cell (by omega)]; unfold ptF; rw [if_neg (by omega), show 1 + i - 1 = i from by omega]
theorem IpM.cS (h : IpM w U H T S s E N V tag) {i b : Nat} (hi : i < 16) (e : N i = some b) : w.cell? ⟨T, 1 + i, none⟩ = some (.pointer (some ⟨b, 0, none⟩)) := by rw [h.cN hi, e]; rfl
theorem IpM.cZ (h : IpM w U H T S s E N V tag) {i : Nat} (hi : i < 16) (e : N i = none) : w.cell? ⟨T, 1 + i, none⟩ = some (.pointer none) := by rw [h.cN hi, e]; rfl
theorem IpM.there (h : IpM w U H T S s E N V tag) {i : Nat} (e : (s.n i).is = true) : ∃ b, N i = some b := by
  have := h.is i
  rw [e] at this
  exact Option.isSome_iff_exists.1 this
theorem IpM.gone (h : IpM w U H T S s E N V tag) {i : Nat} (e : (s.n i).is = false) : N i = none := by
  have := h.is i
  rw [e] at this
  exact Option.not_isSome_iff_eq_none.1 (by rw [this]; decide)
theorem IpM.is_of (h : IpM w U H T S s E N V tag) {i b : Nat} (e : N i = some b) : (s.n i).is = true := by rw [← h.is i, e]; rfl
theorem IpM.cDir (h : IpM w U H T S s E N V tag) {i b : Nat} (e : N i = some b) : w.cell? ⟨b, 0, none⟩ = some (.bool (s.n i).dir) := (h.nd i b e).cell (by omega)
theorem IpM.cLinks (h : IpM w U H T S s E N V tag) {i b : Nat} (e : N i = some b) : w.cell? ⟨b, 1, none⟩ = some (.int .i64 (s.n i).links) := (h.nd i b e).cell (by omega)
theorem IpM.cOpens (h : IpM w U H T S s E N V tag) {i b : Nat} (e : N i = some b) : w.cell? ⟨b, 2, none⟩ = some (.int .i64 (s.n i).opens) := (h.nd i b e).cell (by omega)
theorem IpM.cList (h : IpM w U H T S s E N V tag) {i b : Nat} (e : N i = some b) : w.cell? ⟨b, 3, none⟩ = some (V i) := (h.nd i b e).cell (by omega)
theorem IpM.list (h : IpM w U H T S s E N V tag) (i : Nat) : ∃ a c, V i = .slice a (s.n i).l.length c ∧ Reads 2 enV w a (s.n i).l.length (s.n i).l ∧ (s.n i).l.length ≤ c ∧ c ≤ maxLen ∧ (a = none → c = 0) := own_reads enV_len (by omega) (h.en i)
theorem IpM.tagS (h : IpM w U H T S s E N V tag) {i b : Nat} (e : N i = some b) : b ≠ T ∧ ¬ E b := by
  have h1 := h.tn i b e
  have h2 := h.tt
  refine ⟨fun e2 => by rw [e2] at h1; omega, fun e2 => by have := h.te b e2; omega⟩
/-- One node's block is written: its number and its row stay. -/
theorem IpM.node {w' : World} {i b : Nat} {y : Nd} (h : IpM w U H T S s E N V tag) (e : N i = some b) (u : Touch (fun k => k = b) w w') (r : RowI w' b 4 134 (ndF y (V i))) (hl : y.l = (s.n i).l) (his : y.is = true) : IpM w' U H T S (s.put i y) E N V tag := by
  have tb := h.tn i b e
  have tT := h.tt
  refine ⟨(keepsPSo H).keep h.so u (fun k hk e2 => (h.tagS e).2 (by rw [← e2]; exact hk)), h.row.keep (u.block T (lt_of_heap h.row) (fun e2 => (h.tagS e).1 e2.symm)), fun k => ?_, fun k c hk => ?_, fun k => ?_, h.tt, h.te, h.tn, h.tv, h.ut, h.ue, h.un, h.uv, fun k hk => Nat.lt_of_lt_of_le (h.lt k hk) u.size⟩
  · show _ = (upd s.n i y k).is
    by_cases ek : k = i
    · rw [ek, upd_same, his, e]; rfl
    · rw [upd_other _ _ ek]; exact h.is k
  · show RowI w' c 4 _ (ndF (upd s.n i y k) (V k))
    by_cases ek : k = i
    · subst ek
      rw [e] at hk; injection hk with hk; subst hk
      rw [upd_same]; exact r
    · rw [upd_other _ _ ek]
      refine (h.nd k c hk).keep (u.block c (lt_of_heap (h.nd k c hk)) (fun e2 => ?_))
      have := h.tn k c hk
      rw [e2] at this; omega
  · show w'.ownsRow 0 _ 2 (V k) (upd s.n i y k).l.length ((upd s.n i y k).l.flatMap enV)
    have hk : (upd s.n i y k).l = (s.n k).l := by
      by_cases ek : k = i
      · rw [ek, upd_same, hl]
      · rw [upd_other _ _ ek]
    rw [hk]
    refine u.own (h.en k) (fun g hg e2 => ?_)
    have := h.tv k g hg
    rw [e2] at this; omega
/-- A cell of a node. -/
theorem ndF_links (y : Nd) (v : Value) (z : Int) : upd (ndF y v) 1 (.int .i64 z) = ndF { y with links := z } v := by
  funext k; match k with
  | 0 => rfl
  | 1 => rfl
  | 2 => rfl
  | k + 3 => rw [upd_other _ _ (by omega)]; rfl
theorem ndF_opens (y : Nd) (v : Value) (z : Int) : upd (ndF y v) 2 (.int .i64 z) = ndF { y with opens := z } v := by
  funext k; match k with
  | 0 => rfl
  | 1 => rfl
  | 2 => rfl
  | k + 3 => rw [upd_other _ _ (by omega)]; rfl
theorem IpM.linked {i b : Nat} (h : IpM w U H T S s E N V tag) (e : N i = some b) (z : Int) (q : Nat) : IpM ((w.setCell ⟨b, 1, none⟩ (.int .i64 z)).drewN q) U H T S (s.put i { s.n i with links := z }) E N V tag ∧ Touch (fun k => k = b) w ((w.setCell ⟨b, 1, none⟩ (.int .i64 z)).drewN q) := by
  have u := ((Touch.refl (fun k => k = b) w).setCell (p := ⟨b, 1, none⟩) rfl (.int .i64 z)).drewN q
  have r := (h.nd i b e).set 1 (.int .i64 z)
  rw [ndF_links] at r
  exact ⟨h.node e u r rfl (h.is_of e), u⟩
theorem IpM.opened {i b : Nat} (h : IpM w U H T S s E N V tag) (e : N i = some b) (z : Int) (q : Nat) : IpM ((w.setCell ⟨b, 2, none⟩ (.int .i64 z)).drewN q) U H T S (s.put i { s.n i with opens := z }) E N V tag ∧ Touch (fun k => k = b) w ((w.setCell ⟨b, 2, none⟩ (.int .i64 z)).drewN q) := by
  have u := ((Touch.refl (fun k => k = b) w).setCell (p := ⟨b, 2, none⟩) rfl (.int .i64 z)).drewN q
  have r := (h.nd i b e).set 2 (.int .i64 z)
  rw [ndF_opens] at r
  exact ⟨h.node e u r rfl (h.is_of e), u⟩
/-- A node is taken out: its block and its row are the table's no more. -/
theorem IpM.out {i b : Nat} (h : IpM w U H T S s E N V tag) (hi : i < 16) (e : N i = some b) : IpM (w.setCell ⟨T, 1 + i, none⟩ (.pointer none)) (fun k => U k ∧ k ≠ b ∧ (V i).ownBlock ≠ some k) H T S ⟨upd s.n i Nd.zero, s.so⟩ E (upd N i none) (upd V i (.slice none 0 0)) tag ∧ Touch (fun k => k = T) w (w.setCell ⟨T, 1 + i, none⟩ (.pointer none)) := by
  have u := (Touch.refl (fun k => k = T) w).setCell (p := ⟨T, 1 + i, none⟩) rfl (.pointer none)
  have r := h.row.set (1 + i) (ptrV none)
  rw [ptF_upd] at r
  have tT := h.tt
  have tb := h.tn i b e
  have vb : ∀ g, (V i).ownBlock = some g → tag g = 2 * i + 1 := h.tv i
  refine ⟨⟨(keepsPSo H).keep h.so u (fun k hk e2 => ?_), r, fun k => ?_, fun k c hk => ?_, fun k => ?_, h.tt, h.te, fun k c hk => ?_, fun k g hg => ?_, ⟨h.ut, fun e2 => by rw [e2] at tT; omega, fun e2 => by have := vb T e2; omega⟩, fun k hk => ⟨h.ue k hk, fun e2 => by have := h.te k hk; rw [e2] at this; omega, fun e2 => by have := h.te k hk; have := vb k e2; omega⟩, fun k c hk => ?_, fun k g hg => ?_, fun k hk => Nat.lt_of_lt_of_le (h.lt k hk.1) u.size⟩, u⟩
  · have := h.te k hk; rw [e2] at this; omega
  · show _ = (upd s.n i Nd.zero k).is
    by_cases ek : k = i
    · rw [ek, upd_same, upd_same]; rfl
    · rw [upd_other _ _ ek, upd_other _ _ ek]; exact h.is k
  · show RowI _ c 4 _ (ndF (upd s.n i Nd.zero k) (upd V i (.slice none 0 0) k))
    by_cases ek : k = i
    · rw [ek, upd_same] at hk; cases hk
    · rw [upd_other _ _ ek] at hk
      rw [upd_other _ _ ek, upd_other _ _ ek]
      exact (h.nd k c hk).keep (u.block c (lt_of_heap (h.nd k c hk)) (fun e2 => (h.tagS hk).1 e2))
  · show World.ownsRow _ 0 _ 2 (upd V i (.slice none 0 0) k) (upd s.n i Nd.zero k).l.length ((upd s.n i Nd.zero k).l.flatMap enV)
    by_cases ek : k = i
    · rw [ek, upd_same, upd_same]; exact World.ownsRow_nil _ _ _ _
    · rw [upd_other _ _ ek, upd_other _ _ ek]
      exact u.own (h.en k) (fun g hg e2 => by have := h.tv k g hg; rw [e2] at this; omega)
  · by_cases ek : k = i
    · rw [ek, upd_same] at hk; cases hk
    · rw [upd_other _ _ ek] at hk; exact h.tn k c hk
  · by_cases ek : k = i
    · rw [ek, upd_same] at hg; cases hg
    · rw [upd_other _ _ ek] at hg; exact h.tv k g hg
  · by_cases ek : k = i
    · rw [ek, upd_same] at hk; cases hk
    · rw [upd_other _ _ ek] at hk
      have := h.tn k c hk
      exact ⟨h.un k c hk, fun e2 => by rw [e2] at this; omega, fun e2 => by have := vb c e2; omega⟩
  · by_cases ek : k = i
    · rw [ek, upd_same] at hg; cases hg
    · rw [upd_other _ _ ek] at hg
      have := h.tv k g hg
      exact ⟨h.uv k g hg, fun e2 => by rw [e2] at this; omega, fun e2 => by have := vb g e2; omega⟩
/-- A node that was just boxed is put in. -/
theorem IpM.put_in {i b : Nat} {y : Nd} (h : IpM w U H T S s E N V tag) (hi : i < 16) (hn : N i = none) (hb : w.heap.size ≤ b) {w1 : World} (b1 : Below w.heap.size w w1) (lb : b < w1.heap.size) (r1 : RowI w1 b 4 134 (ndF y (.slice none 0 0))) (hl : y.l = []) (his : y.is = true) :
    IpM (w1.setCell ⟨T, 1 + i, none⟩ (.pointer (some ⟨b, 0, none⟩))) (fun k => U k ∨ k = b) H T S ⟨upd s.n i y, s.so⟩ E (upd N i (some b)) (upd V i (.slice none 0 0)) (upd tag b (2 * i)) ∧ Touch (fun k => k = T) w (w1.setCell ⟨T, 1 + i, none⟩ (.pointer (some ⟨b, 0, none⟩))) := by
  have u0 : Touch (fun k => k = T) w1 (w1.setCell ⟨T, 1 + i, none⟩ (.pointer (some ⟨b, 0, none⟩))) := (Touch.refl (fun k => k = T) w1).setCell (p := ⟨T, 1 + i, none⟩) rfl _
  have u : Touch (fun k => k = T) w (w1.setCell ⟨T, 1 + i, none⟩ (.pointer (some ⟨b, 0, none⟩))) := (Touch.of_below b1).trans u0 (fun k e => .inl e)
  have h1 := h.below b1
  have r := h1.row.set (1 + i) (ptrV (some b))
  rw [ptF_upd] at r
  have old : ∀ k, U k → upd tag b (2 * i) k = tag k := fun k hk => upd_other _ _ (by have := h.lt k hk; omega)
  have tT := h.tt
  have bT : b ≠ T := by have := h.lt T h.ut; omega
  refine ⟨⟨(keepsPSo H).keep h1.so u0 (fun k hk e2 => ?_), r, fun k => ?_, fun k c hk => ?_, fun k => ?_, (old T h.ut).trans h.tt, fun k hk => (old k (h.ue k hk)).trans (h.te k hk), fun k c hk => ?_, fun k g hg => ?_, .inl h.ut, fun k hk => .inl (h.ue k hk), fun k c hk => ?_, fun k g hg => ?_, fun k hk => ?_⟩, u⟩
  · have := h.te k hk; rw [e2] at this; omega
  · show _ = (upd s.n i y k).is
    by_cases ek : k = i
    · rw [ek, upd_same, upd_same, his]; rfl
    · rw [upd_other _ _ ek, upd_other _ _ ek]; exact h.is k
  · show RowI _ c 4 _ (ndF (upd s.n i y k) (upd V i (.slice none 0 0) k))
    by_cases ek : k = i
    · subst ek
      rw [upd_same] at hk; injection hk with hk; subst hk
      rw [upd_same, upd_same]
      exact r1.keep (u0.block b lb bT)
    · rw [upd_other _ _ ek] at hk
      rw [upd_other _ _ ek, upd_other _ _ ek]
      exact (h1.nd k c hk).keep (u0.block c (lt_of_heap (h1.nd k c hk)) (fun e2 => (h.tagS hk).1 e2))
  · show World.ownsRow _ 0 _ 2 (upd V i (.slice none 0 0) k) (upd s.n i y k).l.length ((upd s.n i y k).l.flatMap enV)
    by_cases ek : k = i
    · rw [ek, upd_same, upd_same, hl]; exact World.ownsRow_nil _ _ _ _
    · rw [upd_other _ _ ek, upd_other _ _ ek]
      exact u0.own (h1.en k) (fun g hg e2 => by have := h.tv k g hg; rw [e2] at this; omega)
  · by_cases ek : k = i
    · subst ek
      rw [upd_same] at hk; injection hk with hk; subst hk
      exact upd_same _ _ _
    · rw [upd_other _ _ ek] at hk
      exact (old c (h.un k c hk)).trans (h.tn k c hk)
  · by_cases ek : k = i
    · rw [ek, upd_same] at hg; cases hg
    · rw [upd_other _ _ ek] at hg; exact (old g (h.uv k g hg)).trans (h.tv k g hg)
  · by_cases ek : k = i
    · subst ek
      rw [upd_same] at hk; injection hk with hk
      exact .inr hk.symm
    · rw [upd_other _ _ ek] at hk; exact .inl (h.un k c hk)
  · by_cases ek : k = i
    · rw [ek, upd_same] at hg; cases hg
    · rw [upd_other _ _ ek] at hg; exact .inl (h.uv k g hg)
  · have s1 := b1.size
    have s2 := u0.size
    rcases hk with hk | rfl
    · have := h.lt k hk; omega
    · omega
/-- One node has another row: its own old one, or a new one. -/
theorem IpM.relist {w' : World} {i b : Nat} {l : List Ent} {v : Value} (h : IpM w U H T S s E N V tag) (e : N i = some b) (u : Touch (fun k => k = b ∨ (V i).ownBlock = some k) w w') (r : RowI w' b 4 134 (ndF { s.n i with l := l } v)) (hv : w'.ownsRow 0 105 2 v l.length (l.flatMap enV)) (hw : ∀ g, v.ownBlock = some g → (V i).ownBlock = some g ∨ w.heap.size ≤ g) :
    ∃ U' tag', IpM w' U' H T S (setL s i l) E N (upd V i v) tag' ∧ Touch U w w' ∧ ∀ k, U' k → U k ∨ w.heap.size ≤ k := by
  have tb := h.tn i b e
  have tT := h.tt
  have vi := h.tv i
  have old : ∀ k, U k → (if w.heap.size ≤ k then 2 * (i : Int) + 1 else tag k) = tag k := fun k hk => if_neg (by have := h.lt k hk; omega)
  have off : ∀ k, U k → tag k ≠ 2 * i → tag k ≠ 2 * i + 1 → ¬ (k = b ∨ (V i).ownBlock = some k) := fun k hk h1 h2 => by
    rintro (e2 | e2)
    · rw [e2] at h1; exact h1 tb
    · exact h2 (vi k e2)
  refine ⟨fun k => U k ∨ v.ownBlock = some k, fun k => if w.heap.size ≤ k then 2 * i + 1 else tag k, ⟨(keepsPSo H).keep h.so u (fun k hk => off k (h.ue k hk) (by have := h.te k hk; omega) (by have := h.te k hk; omega)), h.row.keep (u.block T (lt_of_heap h.row) (off T h.ut (by omega) (by omega))), fun k => ?_, fun k c hk => ?_, fun k => ?_, (old T h.ut).trans h.tt, fun k hk => (old k (h.ue k hk)).trans (h.te k hk), fun k c hk => (old c (h.un k c hk)).trans (h.tn k c hk), fun k g hg => ?_, .inl h.ut, fun k hk => .inl (h.ue k hk), fun k c hk => .inl (h.un k c hk), fun k g hg => ?_, fun k hk => ?_⟩, u.mono (fun k hk => ?_), fun k hk => ?_⟩
  · show _ = (upd s.n i { s.n i with l := l } k).is
    by_cases ek : k = i
    · rw [ek, upd_same]; exact h.is i
    · rw [upd_other _ _ ek]; exact h.is k
  · show RowI w' c 4 _ (ndF (upd s.n i { s.n i with l := l } k) (upd V i v k))
    by_cases ek : k = i
    · subst ek
      rw [e] at hk; injection hk with hk; subst hk
      rw [upd_same, upd_same]; exact r
    · rw [upd_other _ _ ek, upd_other _ _ ek]
      exact (h.nd k c hk).keep (u.block c (lt_of_heap (h.nd k c hk)) (off c (h.un k c hk) (by have := h.tn k c hk; omega) (by have := h.tn k c hk; omega)))
  · show w'.ownsRow 0 _ 2 (upd V i v k) (upd s.n i { s.n i with l := l } k).l.length ((upd s.n i { s.n i with l := l } k).l.flatMap enV)
    by_cases ek : k = i
    · rw [ek, upd_same, upd_same]; exact hv
    · rw [upd_other _ _ ek, upd_other _ _ ek]
      exact u.own (h.en k) (fun g hg => off g (h.uv k g hg) (by have := h.tv k g hg; omega) (by have := h.tv k g hg; omega))
  · by_cases ek : k = i
    · rw [ek, upd_same] at hg
      rw [ek]
      rcases hw g hg with h2 | h2
      · exact (old g (h.uv i g h2)).trans (vi g h2)
      · exact if_pos h2
    · rw [upd_other _ _ ek] at hg
      exact (old g (h.uv k g hg)).trans (h.tv k g hg)
  · by_cases ek : k = i
    · rw [ek, upd_same] at hg; exact .inr hg
    · rw [upd_other _ _ ek] at hg; exact .inl (h.uv k g hg)
  · rcases hk with hk | hk
    · exact Nat.lt_of_lt_of_le (h.lt k hk) u.size
    · exact (hv.lt k hk).2
  · rcases hk with rfl | hk
    · exact h.un i _ e
    · exact h.uv i k hk
  · rcases hk with hk | hk
    · exact .inl hk
    · exact (hw k hk).imp (h.uv i k) id
/-- The store is another one now. -/
theorem IpM.store {w' : World} {E' : Nat → Prop} {so' : So} (h : IpM w U H T S s E N V tag) (p : PSo H w' E' S so') (u : Touch E w w') (hE : ∀ i, E' i → E i ∨ w.heap.size ≤ i) :
    IpM w' (fun i => U i ∨ E' i) H T S ⟨s.n, so'⟩ E' N V (fun k => if w.heap.size ≤ k then -2 else tag k) := by
  have old : ∀ k, U k → (if w.heap.size ≤ k then (-2 : Int) else tag k) = tag k := fun k hk => if_neg (by have := h.lt k hk; omega)
  have tT := h.tt
  have off : ∀ k, tag k ≠ -2 → ¬ E k := fun k hk e => hk (h.te k e)
  refine ⟨p, h.row.keep (u.block T (lt_of_heap h.row) (off T (by omega))), h.is, fun k c hk => (h.nd k c hk).keep (u.block c (lt_of_heap (h.nd k c hk)) (h.tagS hk).2), fun k => u.own (h.en k) (fun g hg => off g (by have := h.tv k g hg; omega)), (old T h.ut).trans h.tt, fun k hk => ?_, fun k c hk => (old c (h.un k c hk)).trans (h.tn k c hk), fun k g hg => (old g (h.uv k g hg)).trans (h.tv k g hg), .inl h.ut, fun k hk => .inr hk, fun k c hk => .inl (h.un k c hk), fun k g hg => .inl (h.uv k g hg), fun k hk => ?_⟩
  · rcases hE k hk with h2 | h2
    · exact (old k (h.ue k h2)).trans (h.te k h2)
    · exact if_pos h2
  · rcases hk with hk | hk
    · exact Nat.lt_of_lt_of_le (h.lt k hk) u.size
    · exact (keepsPSo H).lt p k hk
theorem IpM.stored {w' : World} {so' : So} {v : Value} {e : Ending} (h : IpM w U H T S s E N V tag) (p : SideO (fun w' D' => PSo H w' D' S so') E w v e w') :
    e = .returned v ∧ ∃ U' E' tag', IpM w' U' H T S ⟨s.n, so'⟩ E' N V tag' ∧ Touch E w w' ∧ (∀ k, U' k → U k ∨ w.heap.size ≤ k) := by
  obtain ⟨rfl, E', p, u, hE⟩ := p
  exact ⟨rfl, _, E', _, h.store p u hE, u, fun i e => e.elim .inl (fun e => (hE i e).imp (h.ue i) id)⟩
end
end Go.Proofs.YtndfnglcichngaaGreatDoor
