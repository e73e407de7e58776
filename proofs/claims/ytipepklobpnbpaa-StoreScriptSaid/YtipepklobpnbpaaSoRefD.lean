/-
  The document's own store: Make.
-/
import Derived.Test.YtipepklobpnbpaaSoRefC
namespace Go.Proofs.Ytipepklobpnbpaa
open Go.ChangeShapes Go.WideShapes Go.ChangeAt Go.RowKit
set_option linter.unusedVariables false
set_option linter.unusedSimpArgs false
section
variable {w : World} {D : Nat → Prop} {G R : Nat} {s : So} {xs : List Rfl} {vL : Value} {t b : Nat} {st : St} {fresh : Nat} {back : List Nat} {K : Nat → Prop}
theorem fss_new (xs : List Rfl) (id : Int) (u v : Option Addr) : fss (xs ++ [⟨id, [], u, 0, [], v, 0⟩]) = fss xs := by unfold fss; simp
/-- Another row of files stands in the struct, of whatever files of the same frames. -/
theorem DsoAt.renew {w' : World} {ys : List Rfl} {vN : Value} {s' : So} (h : DsoAt w D G R s xs vL t b st fresh back K) (hl : s'.l = ys.map Rfl.fi) (hfr : s'.fr = s.fr) (hg : GoodSo s') (hfew : s'.l.length ≤ 100000)
    (u : Touch (fun i => i = G) w w') (hd : w'.heap[G]? = some (.cells #[.pointer (some ⟨R, 0, none⟩), vN] 38 (0, 0))) (row : w'.ownsRow w.heap.size 81 3 vN ys.length (ys.flatMap rflV))
    (hys : ∀ y ∈ ys, y ∈ xs ∨ (y.bv = .slice none 0 0 ∧ y.fv = .slice none 0 0 ∧ y.b = [] ∧ y.F = [])) (hn : (fss ys).Nodup) (ht : ∀ f ∈ fss ys, f ∈ fss xs) :
    ∃ D', DsoAt w' D' G R s' ys vN t b st fresh back K ∧ Touch D w w' ∧ ∀ i, D' i → D i ∨ w.heap.size ≤ i := by
  have hG : G < w.heap.size := lt_of_heap h.m.hd
  have im0 : ∀ y ∈ ys, ∀ i, y.im i → y ∈ xs := by
    intro y hy i hi
    rcases hys y hy with e | ⟨e1, e2, _⟩
    · exact e
    · rcases hi with hi | hi
      · rw [e1] at hi; cases hi
      · rw [e2] at hi; cases hi
  have rlo : ∀ i, vN.ownBlock = some i → w.heap.size ≤ i := fun i e => (row.lt i e).1
  have dG : ∀ i, i = G → D i := fun i e => (h.m.un i).2 (.inl e)
  refine ⟨fun i => i = G ∨ vN.ownBlock = some i ∨ K i ∨ ∃ y ∈ ys, y.im i, ⟨⟨hd, own_base row (Nat.zero_le _), fun y hy => ?_, h.m.rf.keep u (fun i hi e => h.m.sG.2 (e ▸ hi)), hn, fun f hf => h.m.tkn f (ht f hf), fun y hy i hi => ?_, ⟨fun e => ?_, h.m.sG.2⟩, fun i e hk => ?_, fun i => Iff.rfl⟩, ⟨hl, hfr.trans h.p.fr, hg, hfew, fun y hy => ?_⟩⟩, u.mono dG, fun i hi => ?_⟩
  · rcases hys y hy with e | ⟨e1, e2, e3, e4⟩
    · exact (h.m.ok y e).touch u (fun i hi e2 => (h.m.sep y e i hi).1 e2)
    · refine ⟨?_, ?_⟩
      · rw [e1, e3]; exact World.ownsRow_nil _ _ _ _
      · rw [e2, e4]; exact World.ownsRow_nil _ _ _ _
  · have hx := im0 y hy i hi
    have hs := h.m.sep y hx i hi
    exact ⟨hs.1, fun e => by have := rlo i e; have := (h.m.ok y hx).lt i hi; omega, hs.2.2⟩
  · have := rlo G e; omega
  · have := rlo i e; have := h.m.rf.2 i hk; omega
  · rcases hys y hy with e | ⟨_, _, e3, e4⟩
    · exact h.p.blk y e
    · rw [e3, e4]; show 0 = blkN 0; decide
  · rcases hi with e | e | e | ⟨y, hy, e⟩
    · exact .inl (dG i e)
    · exact .inr (rlo i e)
    · exact .inl ((h.m.un i).2 (.inr (.inr (.inl e))))
    · exact .inl ((h.m.un i).2 (.inr (.inr (.inr ⟨y, im0 y hy i e, e⟩))))
set_option maxRecDepth 10000 in
set_option maxHeartbeats 4000000 in
theorem rmk_new (h : DsoAt w D G R s xs vL t b st fresh back K) {id : Int} (wi : (Lit.int .i64 id).wf = true) (h0 : ¬ id < 0) (e : getFi s.l id = none) (hfew : s.l.length < 100000) :
    Calls Try.prog 17 #[.pointer (some ⟨G, 0, none⟩), .int .i64 id] w (SideO (fun w' D' => Dso R w' D' G (mkS s id)) D w (.int .i64 0)) := by
  have hE : mkE s id = 0 := by unfold mkE; rw [if_neg h0, e]; rfl
  have hS : mkS s id = ⟨s.l ++ [⟨id, []⟩], s.fr⟩ := by unfold mkS; rw [if_pos hE]
  have hgood := h.p.good.mk_ wi
  rw [hS] at hgood ⊢
  have AT := hide (rat_none h e)
  obtain ⟨i0, hi0, hz0, hz1, hz2⟩ := info_parts file_info
  have c1 := h.m.c1
  have f1 := h.m.f0 1
  have n5 : xs.length < 100000 := by have := hfew; rw [h.p.l, List.length_map] at this; exact this
  have HH := hide h
  have hG := hide (lt_of_heap h.m.hd)
  have GS := hide hgood
  have FEW := hide hfew
  clear h e hgood hE hS hfew
  obtain ⟨a, c, rfl, hr, -, -, hnil⟩ := own_reads rflV_len (by omega) HH.out.m.row
  have HR := hide (fun (W : World) (b : Below w.heap.size w W) => hr.below b)
  have NIL := hide hnil
  obtain ⟨n, hn⟩ : ∃ n, n = xs.length := ⟨_, rfl⟩
  rw [← hn] at c1 n5 HR
  have HN := hide hn
  have FL := hide (show (xs ++ [(⟨id, [], none, 0, [], none, 0⟩ : Rfl)]).flatMap rflV = xs.flatMap rflV ++ rflV ⟨id, [], none, 0, [], none, 0⟩ from by simp)
  clear hn hr hnil
  go_enter Try.func17, Try.ntmps17
  go_wp2_with (first
    | (go_at_call 36; refine AT.out.mono ?_; rintro e w' ⟨rfl, rfl⟩)
    | (at_builtin; refine wpList_append_reads rfl (.const (.slice none 0 0)) (.tmp 15) _ rfl w.heap.size 81 i0 _ 56 Try.underlying36 hi0 hz0 hz1 hz2 rfl (by omega) _ 0 [] rfl (World.ownsRow_nil _ _ _ _) _ _ _ xs rfl rflV_len rflV_cell (HR.out _ (Below.refl _ _)) NIL.out (by unfold maxLen; omega) (by omega) (Nat.le_refl _) ?_; intro v1 w1 o1 g1; have B1 := hide ((Below.refl _ _).grown g1 (Nat.le_refl _) (fun k hk => by cases hk)); rw [Nat.zero_add, List.nil_append] at o1; have O1 := hide o1; obtain ⟨a1, k1, rfl, -, -, -, -⟩ := own_reads rflV_len (by omega) o1; clear o1 g1)
    | (at_builtin; (refine wpList_append_own_at _ rfl (.tmp 16) (.tmp 19) _ rfl w.heap.size 81 i0 _ 3 56 Try.underlying36 hi0 hz0 hz1 hz2 rfl (by omega) _ _ _ rfl (O1.out.alloc _) _ 1 1 (rflV ⟨id, [], none, 0, [], none, 0⟩) rfl rfl (cells_new w1 _ _ _ rfl) (rflV_cell _) (show n + 1 ≤ maxLen from by unfold maxLen; omega) (show (n + 1) * 56 ≤ 140737488355328 from by omega) (show w.heap.size ≤ (w1.alloc _).heap.size from Nat.le_trans B1.out.size (by simp)) ?_); intro v2 w2 o2 g2 t2 l2; rw [← FL.out] at o2; have O2 := hide o2; obtain ⟨a2, k2, rfl, -, -, -, -⟩ := own_reads rflV_len (by omega) o2; have B2 := hide ((B1.out.alloc B1.out.size _).grown g2 (show w.heap.size ≤ (w1.alloc _).heap.size from Nat.le_trans B1.out.size (by simp)) (own_lo O1.out)); have q2 := (HH.out.m.below B2.out).c1; have f2 := (HH.out.m.below B2.out).f0 1; have H2 := hide (HH.out.m.below B2.out).hd; clear o2 g2 t2 l2))
  go_ret
  have u2 : Touch (fun i => i = G) w2 (w2.setCell ⟨G, 1, none⟩ (.slice a2 (n + 1) k2)) := (Touch.refl (fun i => i = G) w2).setCell (p := ⟨G, 1, none⟩) rfl _
  have u : Touch (fun i => i = G) w (w2.setCell ⟨G, 1, none⟩ (.slice a2 (n + 1) k2)) := (Touch.of_below B2.out).trans u2 (fun i e => .inl e)
  have row := u2.own O2.out (fun g hg e => by have := (O2.out.lt g hg).1; have := hG.out; omega)
  rw [show n + 1 = (xs ++ [(⟨id, [], none, 0, [], none, 0⟩ : Rfl)]).length from by rw [List.length_append, HN.out]; rfl] at row u ⊢
  obtain ⟨D', hD, t, v⟩ := HH.out.renew (s' := ⟨s.l ++ [⟨id, []⟩], s.fr⟩) (ys := xs ++ [(⟨id, [], none, 0, [], none, 0⟩ : Rfl)]) (by rw [HH.out.p.l, List.map_append]; rfl) rfl GS.out (by have := FEW.out; rw [List.length_append]; show s.l.length + 1 ≤ 100000; omega) u
    (by rw [heap_setCell_same _ _ _ _ _ _ H2.out]; rfl) row
    (fun y hy => by
      rcases List.mem_append.1 hy with hy | hy
      · exact .inl hy
      · simp at hy; subst hy; exact .inr ⟨rfl, rfl, rfl, rfl⟩)
    (by rw [fss_new]; exact HH.out.m.nod) (fun f hf => by rw [fss_new] at hf; exact hf)
  exact ⟨rfl, D', ⟨_, _, _, _, _, _, _, _, hD⟩, t, v⟩
theorem rmk_any (h : Dso R w D G s) {id : Int} (wi : (Lit.int .i64 id).wf = true) (hfew : s.l.length < 100000) :
    Calls Try.prog 17 #[.pointer (some ⟨G, 0, none⟩), .int .i64 id] w (SideO (fun w' D' => Dso R w' D' G (mkS s id)) D w (.int .i64 (mkE s id : Nat))) := by
  by_cases h0 : id < 0
  · have hE : mkE s id = 2 := by unfold mkE; rw [if_pos h0]
    have hS : mkS s id = s := by unfold mkS; rw [if_neg (by omega)]
    rw [hE, hS]
    have HH := hide h
    clear h hE hS wi
    go_enter Try.func17, Try.ntmps17
    go_wp2_with fail
    go_ret
    exact SideO.of_below (P := fun w' D' => Dso R w' D' G s) HH.out (Below.refl _ _)
  · cases e : getFi s.l id with
    | none =>
      have hE : mkE s id = 0 := by unfold mkE; rw [if_neg h0, e]; rfl
      rw [hE]
      obtain ⟨xs, vL, t, b, st, fresh, back, K, h⟩ := h
      exact rmk_new h wi h0 e hfew
    | some o =>
      have hE : mkE s id = 5 := by unfold mkE; rw [if_neg h0, e]; rfl
      have hS : mkS s id = s := by unfold mkS; rw [if_neg (by omega)]
      rw [hE, hS]
      obtain ⟨m, n, c, g, bv, hm, hn, c1, d1, ob, at_⟩ := h.file e
      have AT := hide at_
      have m0 : (0 : Int) ≤ (m : Int) := by omega
      have HH := hide h
      clear h hE hS wi e at_ ob c1 d1 hm hn
      go_enter Try.func17, Try.ntmps17
      go_wp2_with (go_at_call 36; refine AT.out.mono ?_; rintro e w' ⟨rfl, rfl⟩)
      go_ret
      exact SideO.of_below (P := fun w' D' => Dso R w' D' G s) HH.out (Below.refl _ _)
end
end Go.Proofs.Ytipepklobpnbpaa
