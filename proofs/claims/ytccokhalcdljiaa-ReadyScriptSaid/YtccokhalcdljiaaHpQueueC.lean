/-
  Contracts of the queue's Push and Pop.
-/
import Derived.Test.YtccokhalcdljiaaHpQueueB
import Derived.Deep.AppendLies
import Derived.Deep.RegionLaw
namespace Go.Proofs.Ytccokhalcdljiaa.Hp
open Go.ChangeShapes Go.WideShapes Go.ChangeAt Go.RowKit Go.Sort
set_option linter.unusedVariables false
theorem item_info : (Try.prog.info? 113).map (fun i => (i.zero, i.size, i.bytes)) = some (some (.agg #[.int .i64 0, .int .i64 0]), 2, 16) := by kernel_rfl
theorem own_keep {w w' : World} {base : Nat} {e : TypeId} {z n : Nat} {v : Value} {xs : List Value} (h : w.ownsRow base e z v n xs) (eg : ∀ g, v.ownBlock = some g → w'.heap[g]? = w.heap[g]?) : w'.ownsRow base e z v n xs := by
  refine ⟨h.1, ?_⟩
  rcases h.2 with hn | ⟨g, cap, cur, e1, e2, e3, rest⟩
  · exact .inl hn
  · exact .inr ⟨g, cap, cur, e1, e2, (eg g (by rw [e1]; rfl)).trans e3, rest⟩
theorem Parts.neV {w : World} {H : Nat} {v : Value} {M : Nat} {l : List (Int × Int)} {f : Int → Option Nat} (h : Parts w H v M l f) : v.ownBlock ≠ some H ∧ v.ownBlock ≠ some M := by
  obtain ⟨h1, h2, ⟨D, ⟨es, clock, hb, _⟩, _⟩⟩ := h
  rcases h2.2 with ⟨rfl, _⟩ | ⟨g, cap, cur, rfl, _, e3, _⟩
  · exact ⟨fun e => (by cases e), fun e => (by cases e)⟩
  · refine ⟨fun e => ?_, fun e => ?_⟩
    · have e : g = H := by injection e
      subst e
      rw [e3] at h1; injection h1 with h1; injection h1 with _ h1; revert h1; decide
    · have e : g = M := by injection e
      subst e
      rw [e3] at hb; cases hb
theorem push_end {w w2 w3 : World} {F : Nat → Prop} {H M gg cap : Nat} {v : Value} {id key : Int} {l : List (Int × Int)} {f : Int → Option Nat} (o : Obj)
    (hH : w2.heap[H]? = some (.cells #[v, .map (some M)] 90 (0, 0))) (hP : Places w2 M (l.length + 1) (upd f id l.length)) (hT : Touch F w w2) (hS : Synced (upd f id l.length) (l ++ [(id, key)])) (hW : Wf (l ++ [(id, key)]))
    (fl : ∀ i, F i → i < w.heap.size) (fg : ∀ g, v.ownBlock = some g → F g) (nvH : v.ownBlock ≠ some H) (nvM : v.ownBlock ≠ some M) (fH : F H) (fM : F M)
    (hown : w3.ownsRow 0 113 2 (.slice (some ⟨gg, 0, none⟩) (l.length + 1) cap) (l.length + 1) (cellsIt l ++ [.int .i64 id, .int .i64 key])) (hgrow : (w2.alloc o).drew.grownBy w3 v.ownBlock) (hat : v.ownBlock = some gg ∨ gg = w2.heap.size + 1) (hlt : gg < w3.heap.size) :
    ∃ F', Q (w3.setCell ⟨H, 0, none⟩ (.slice (some ⟨gg, 0, none⟩) (l.length + 1) cap)) F' H (l ++ [(id, key)]) ∧ Touch F w (w3.setCell ⟨H, 0, none⟩ (.slice (some ⟨gg, 0, none⟩) (l.length + 1) cap)) ∧ ∀ i, F' i → F i ∨ w.heap.size ≤ i := by
  have hs2 := hT.size
  have hHlt := fl H fH
  have hMlt := fl M fM
  have hsz : (w2.alloc o).drew.heap.size = w2.heap.size + 1 := by show (w2.alloc o).heap.size = _; simp
  have hs3 : w2.heap.size + 1 ≤ w3.heap.size := by have := hgrow.size; omega
  have e3 : ∀ k, k < w2.heap.size → v.ownBlock ≠ some k → w3.heap[k]? = w2.heap[k]? := fun k hk hne =>
    (hgrow.block k (by omega) (Ne.symm hne)).trans (RowKit.Below.heap_alloc w2 o k hk)
  have hH3 := (e3 H (by omega) nvH).trans hH
  have ngH : gg ≠ H := by
    rcases hat with h | h
    · rintro rfl; exact nvH h
    · omega
  have t3 : Touch F w w3 := hT.trans (S' := fun i => F i) ⟨hgrow.os, hgrow.tape, hgrow.output, by omega, fun i hi hn => e3 i hi (fun e => hn (fg i e))⟩ (fun _ h => .inl h)
  have t4 := t3.setCell (p := ⟨H, 0, none⟩) fH (.slice (some ⟨gg, 0, none⟩) (l.length + 1) cap)
  have hl : (l ++ [(id, key)]).length = l.length + 1 := by simp
  refine ⟨fun i => F i ∨ (w.heap.size ≤ i ∧ i < w3.heap.size), ⟨.slice (some ⟨gg, 0, none⟩) (l.length + 1) cap, M, upd f id l.length, ⟨?_, ?_, ?_⟩, hS, hW, .inl fH, .inl fM, ?_, ?_⟩, t4, fun i h => h.elim .inl (fun h => .inr h.1)⟩
  · rw [heap_setCell_same _ _ _ _ _ _ hH3]; rfl
  · rw [hl, cellsIt_append]
    exact own_keep hown (fun g hg => by injection hg with hg; subst hg; exact heap_setCell_other _ _ _ _ ngH)
  · rw [hl]
    refine hP.keep ((heap_setCell_other _ _ _ _ (fun e => ?_)).trans (e3 M (by omega) nvM))
    obtain ⟨D, ⟨es, clock, hb, _⟩, _⟩ := hP
    have e : M = H := e
    subst e
    rw [hH] at hb; cases hb
  · intro g hg
    injection hg with hg
    subst hg
    rcases hat with h | h
    · exact .inl (fg _ h)
    · exact .inr ⟨Nat.le_trans hs2 (by rw [h]; exact Nat.le_succ _), hlt⟩
  · intro i hi
    have : i < w3.heap.size := by
      rcases hi with hi | hi
      · have := fl i hi; omega
      · exact hi.2
    simpa [World.setCell] using this
theorem as_item (v : Value) (w : World) : (Instr.typeAssert (.iface 113 v) 20 113 false).run Try.prog w = .ok v w := by kernel_rfl
attribute [local go_sem] as_item
set_option maxHeartbeats 1600000 in
theorem qpush_any (w : World) (F : Nat → Prop) (H : Nat) (id key : Int) (l : List (Int × Int)) (h : Q w F H l) (hid : (Lit.int .i64 id).wf = true) (hnew : ∀ k, k < l.length → (it l k).1 ≠ id) (hn : l.length < 900000) :
    Calls Try.prog 115 #[.pointer (some ⟨H, 0, none⟩), .iface 113 (.agg #[.int .i64 id, .int .i64 key])] w fun e w' => e = .returned (.tuple #[]) ∧ ∃ F', Q w' F' H (l ++ [(id, key)]) ∧ Touch F w w' ∧ ∀ i, F' i → F i ∨ w.heap.size ≤ i := by
  obtain ⟨i0, hi0, hz0, hz1, hz2⟩ := info_parts item_info
  obtain ⟨v, M, f, hp, hs, hw, fH, fM, fg, fl⟩ := h
  have hH := hp.ltH
  have nHM := hp.neHM
  obtain ⟨nvH, nvM⟩ := hp.neV
  have fid : f id = none := by
    cases e : f id with
    | none => rfl
    | some k => exact absurd (hs.2 id k e).2 (hnew k (hs.2 id k e).1)
  have hs2 := synced_push hs (id, key) fid
  have hw2 : Wf (l ++ [(id, key)]) := fun z hz => by
    rcases List.mem_append.1 hz with hz | hz
    · exact hw z hz
    · rw [List.mem_singleton.1 hz]; exact hid
  obtain ⟨w1, hw1⟩ : ∃ w1, w1 = w.alloc (.cells #[.int .i64 id, .int .i64 key] 113) := ⟨_, rfl⟩
  have q1 : ∀ i, i < w.heap.size → w1.heap[i]? = w.heap[i]? := fun i hi => by rw [hw1]; exact RowKit.Below.heap_alloc w _ i hi
  have t1 : Touch F w w1 := by rw [hw1]; exact (Touch.refl F w).alloc _
  have hB1 : w1.heap[w.heap.size]? = some (.cells #[.int .i64 id, .int .i64 key] 113 (0, 0)) := by rw [hw1]; exact heap_alloc_new w _
  have hp1 : Parts w1 H v M l f := hp.keep (q1 H hH) (q1 M hp.2.2.lt) (fun g hg => q1 g (fl g (fg g hg)))
  obtain ⟨w2, r2, p2, g2⟩ := Places.store (w := w1.drew) hp1.2.2 (by omega) id hid l.length (by omega)
  rw [fid] at p2
  have t2 : Touch F w w2 := (t1.drewN 1).trans (S' := F) (Touch.of_grown g2 (fun k e => by injection e with e; rw [← e]; exact fM)) (fun _ h => .inl h)
  have hsz1 : w1.heap.size = w.heap.size + 1 := by rw [hw1]; simp
  have hH2 : w2.heap[H]? = some (.cells #[v, .map (some M)] 90 (0, 0)) := (g2.block H (show H < w1.heap.size by omega) (fun e => nHM (by injection e))).trans hp1.1
  have hB2 : w2.heap[w.heap.size]? = some (.cells #[.int .i64 id, .int .i64 key] 113 (0, 0)) := (g2.block _ (show w.heap.size < w1.heap.size by omega) (fun e => by injection e with e; have := hp.2.2.lt; omega)).trans hB1
  have ho2 : w2.ownsRow 0 113 2 v l.length (cellsIt l) := hp1.drew.2.1.kept g2 (.inr nvM)
  have a0 := hp1.cell0
  have a1 := hp1.cell1
  have a2 : w1.cell? ⟨w.heap.size, 0, none⟩ = some (.int .i64 id) := by rw [cell_of_row _ _ _ _ _ _ hB1]; rfl
  have b0 : w2.cell? ⟨H, 0, none⟩ = some v := by rw [cell_of_row _ _ _ _ _ _ hH2]; rfl
  have b1 : w2.cell? ⟨H, 1, none⟩ = some (.map (some M)) := by rw [cell_of_row _ _ _ _ _ _ hH2]; rfl
  have b2 : w2.cell? ⟨w.heap.size, 0, none⟩ = some (.int .i64 id) := by rw [cell_of_row _ _ _ _ _ _ hB2]; rfl
  have b3 : w2.cell? ⟨w.heap.size, 1, none⟩ = some (.int .i64 key) := by rw [cell_of_row _ _ _ _ _ _ hB2]; rfl
  have bf : w2.frozen? ⟨H, 0, none⟩ = false := frozen_of_row _ _ _ _ _ hH2
  have HW := hide hw1
  have hHw : (⟨H, 0, none⟩ : Addr).block < (w2.alloc (.cells #[.int .i64 id, .int .i64 key] 113)).drew.heap.size := by
    show H < (w2.alloc _).heap.size
    have := t2.size
    simp; omega
  have hH2' : H < w2.heap.size := by have := t2.size; omega
  have c0d : (w2.alloc (.cells #[.int .i64 id, .int .i64 key] 113)).drew.cell? ⟨H, 0, none⟩ = some v := (World.cell?_alloc_lt w2 _ ⟨H, 0, none⟩ hH2').trans b0
  have f0d : (w2.alloc (.cells #[.int .i64 id, .int .i64 key] 113)).drew.frozen? ⟨H, 0, none⟩ = false := (World.frozen?_of_block (RowKit.Below.heap_alloc w2 _ H hH2')).trans bf
  obtain ⟨A, c, hv, hnc, hcm, hA⟩ := own_slice hp.2.1
  have i1 : (0 : Int) ≤ (l.length : Int) := by omega
  subst hv
  have KH := hide hH2
  have KB := hide hB2
  have KO := hide ho2
  have KP := hide p2
  have KT := hide t2
  have KS := hide hs2
  have KW := hide hw2
  have KL := hide fl
  have KG := hide fg
  have KN := hide nvH
  have KM := hide nvM
  have KFH := hide fH
  have KFM := hide fM
  clear hw1 hH2 hB2 ho2 p2 t2 hs2 hw2 fl fg nvH nvM nHM hsz1 hB1 hp1 q1 t1 hp hs hw fid hnew g2 hA fH fM hid hcm hnc
  go_enter Try.func115, Try.ntmps115
  go_wp2_with fail
  rw [← HW.out]
  go_region_held3 (fun w' => w'.cell? ⟨H, 0, none⟩ = some (.slice A l.length c) ∧ w'.cell? ⟨H, 1, none⟩ = some (.map (some M)) ∧ w'.cell? ⟨w.heap.size, 0, none⟩ = some (.int .i64 id)) (first | exact ⟨a0, a1, a2⟩ | exact ⟨b0, b1, b2⟩) (fail)
  clear a0 a1 a2 r2
  go_wp2_with fail
  go_region_law ((refine step_append_lies _ (by rfl) _ _ _ (by rfl) 0 113 i0 _ 2 16 Try.underlying86 hi0 hz0 hz1 hz2 rfl (by omega) (.slice A l.length c) l.length (cellsIt l) (by rfl) ((KO.out.alloc _).drew) ⟨w2.heap.size, 0, none⟩ 1 1 [.int .i64 id, .int .i64 key] (by rfl) (by rfl) (World.news_of_block (cs := #[.int .i64 id, .int .i64 key]) (t := 113) (fr := (0, 0)) (heap_alloc_new w2 _)) (by simp [Value.oneCell']) (by omega) (by unfold maxLen; omega) (by omega) (by omega) (w2.heap.size + 1) (by simp) ?_; intro gg cap w3 hown1 hgrow hat hlt; have hc0 := (hgrow.cell_far ⟨H, 0, none⟩ hHw (Ne.symm KN.out)).trans c0d; have hf0 := (hgrow.frozen_far ⟨H, 0, none⟩ hHw (Ne.symm KN.out)).trans f0d))
  all_goals go_end0
  all_goals exact ⟨rfl, push_end _ KH.out KP.out KT.out KS.out KW.out KL.out KG.out KN.out KM.out KFH.out KFM.out hown1 hgrow hat hlt⟩
end Go.Proofs.Ytccokhalcdljiaa.Hp
