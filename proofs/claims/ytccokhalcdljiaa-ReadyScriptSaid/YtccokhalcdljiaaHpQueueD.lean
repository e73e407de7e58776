/-
  Contract of the queue's Pop.
-/
import Derived.Test.YtccokhalcdljiaaHpQueueC
namespace Go.Proofs.Ytccokhalcdljiaa.Hp
open Go.ChangeShapes Go.WideShapes Go.ChangeAt Go.RowKit Go.Sort
set_option linter.unusedVariables false
theorem own_cut {w : World} {base g n c m : Nat} {e : TypeId} {z : Nat} {xs : List Value} (h : w.ownsRow base e z (.slice (some ⟨g, 0, none⟩) n c) n xs) (hm : m ≤ n) : w.ownsRow base e z (.slice (some ⟨g, 0, none⟩) m c) m (xs.take (m * z)) := by
  refine ⟨?_, ?_⟩
  · rw [List.length_take, h.1]; exact Nat.min_eq_left (Nat.mul_le_mul_right z hm)
  · rcases h.2 with ⟨hn, _⟩ | ⟨g', cap, cur, e1, e2, e3, e4, e5, e6, e7⟩
    · cases hn
    · injection e1 with e1 _ ec
      injection e1 with e1
      injection e1 with e1
      subst e1 ec
      refine .inr ⟨g, c, cur, rfl, e2, e3, by omega, e5, e6, ?_⟩
      rw [← e7, List.take_take, Nat.min_eq_left (Nat.mul_le_mul_right z hm)]
theorem slice_block {g n c k : Nat} (h : (Value.slice (some ⟨g, 0, none⟩) n c).ownBlock = some k) : g = k := Option.some.inj h
/-- 'delete' as a step of a region that draws, by its run. -/
theorem step_delete {P : Program} {w w' : World} {ops : Array Oper} {o : Oper} {a : Act} {K : Act → World → Prop} {Q : Exit → Act → World → Prop} {E : Prop} {r : Value} (hgd : o.guard = none) (s x : Operand) (t k : TypeId)
    (ho : o.op = .call { callee := .builtin .delete, args := #[s, x], argTypes := #[t, k] }) (sv xv : Value) (hs : a.eval s = sv) (hx : a.eval x = xv) (hrun : (Builtin.delete_ #[t, k] o.type #[sv, xv]).run P w = .ok r w')
    (h : K (a.put o.dst r) w') : if Region.wanted o (yielded ops a.tmps) = true then Oper.wp P o a w K Q else E := by
  have hw : Region.wanted o (yielded ops a.tmps) = true := by simp [Region.wanted, hgd]
  rw [if_pos hw]
  unfold Oper.wp execOp
  simp only [ho, resolve, invoke, builtin, Sem.run_bind, Sem.run_pure, Result.andThen_ok, List.map_toArray, List.map_cons, List.map_nil, hs, hx, hrun]
  exact h
set_option maxHeartbeats 1600000 in
theorem qpop_any (w : World) (F : Nat → Prop) (H : Nat) (l : List (Int × Int)) (m : Nat) (h : Q w F H l) (hm : l.length = m + 1) (hn : m < 900000) :
    Calls Try.prog 114 #[.pointer (some ⟨H, 0, none⟩)] w fun e w' => (∃ v, e = .returned v) ∧ Q w' F H l.dropLast ∧ Touch F w w' := by
  obtain ⟨v, M, f, hp, hs, hw, fH, fM, fg, fl⟩ := h
  have hH := hp.ltH
  have nHM := hp.neHM
  obtain ⟨nvH, nvM⟩ := hp.neV
  obtain ⟨g, c, rfl, hc, hg, hcell, hfr, ngH, ngM, _⟩ := hp.row (by omega)
  have c0 := hp.cell0
  have f0 := hp.free 0
  obtain ⟨ci, ck⟩ := hcell m (by omega)
  have wi := hw.at_ (k := m) (by omega)
  have hs2 := synced_pop hs (by omega)
  have fi := hs.1 m (by omega)
  have hw2 : Wf l.dropLast := fun z hz => hw z ((List.dropLast_sublist l).subset hz)
  rw [show l.length - 1 = m by omega] at hs2
  generalize hx : it l m = x at *
  obtain ⟨wa, hwa⟩ : ∃ wa, wa = w.setCell ⟨H, 0, none⟩ (.slice (some ⟨g, 0, none⟩) m c) := ⟨_, rfl⟩
  obtain ⟨w1, hw1⟩ : ∃ w1, w1 = wa.alloc (.cells #[.int .i64 x.1, .int .i64 x.2] 113) := ⟨_, rfl⟩
  have sa : wa.heap.size = w.heap.size := by rw [hwa]; simp [World.setCell]
  have qa : ∀ i, i ≠ H → wa.heap[i]? = w.heap[i]? := fun i hi => by rw [hwa]; exact heap_setCell_other _ _ _ _ hi
  have qHa : wa.heap[H]? = some (.cells #[.slice (some ⟨g, 0, none⟩) m c, .map (some M)] 90 (0, 0)) := by rw [hwa, heap_setCell_same _ _ _ _ _ _ hp.1]; rfl
  have q1 : ∀ i, i < w.heap.size → i ≠ H → w1.heap[i]? = w.heap[i]? := fun i hi hne => by rw [hw1, RowKit.Below.heap_alloc wa _ i (by omega)]; exact qa i hne
  have qB : w1.heap[w.heap.size]? = some (.cells #[.int .i64 x.1, .int .i64 x.2] 113 (0, 0)) := by
    rw [hw1, ← sa]; exact heap_alloc_new wa _
  have qH : w1.heap[H]? = some (.cells #[.slice (some ⟨g, 0, none⟩) m c, .map (some M)] 90 (0, 0)) := by rw [hw1, RowKit.Below.heap_alloc wa _ H (by omega)]; exact qHa
  have t1 : Touch F w w1 := by rw [hw1, hwa]; exact ((Touch.refl F w).setCell (p := ⟨H, 0, none⟩) fH _).alloc _
  have o1 : w1.ownsRow 0 113 2 (.slice (some ⟨g, 0, none⟩) m c) m (cellsIt l.dropLast) := by
    have h1 := own_keep hp.2.1 (w' := w1) (fun k hk => by rw [← slice_block hk]; exact q1 g hg ngH)
    rw [hm] at h1
    have h2 := own_cut h1 (Nat.le_succ m)
    have h3 := cellsIt_dropLast l
    rw [show l.length - 1 = m by omega] at h3
    rw [h3] at h2; exact h2
  have p1 : Places w1 M (m + 1) f := by have := hp.2.2; rw [hm] at this; exact this.keep (q1 M hp.2.2.lt (Ne.symm nHM))
  obtain ⟨w2, r2, p2, g2⟩ := Places.drop (w := w1.drew) p1 x.1 wi (by rw [fi]; exact Option.isSome_some) 0
  have hs1 : w1.heap.size = w.heap.size + 1 := by rw [hw1]; simp; exact sa
  have t2 : Touch F w w2 := (t1.drewN 1).trans (S' := F) (Touch.of_grown g2 (fun k e => by injection e with e; rw [← e]; exact fM)) (fun _ h => .inl h)
  have qH2 : w2.heap[H]? = some (.cells #[.slice (some ⟨g, 0, none⟩) m c, .map (some M)] 90 (0, 0)) := (g2.block H (show H < w1.heap.size by omega) (fun e => nHM (by injection e))).trans qH
  have qB2 : w2.heap[w.heap.size]? = some (.cells #[.int .i64 x.1, .int .i64 x.2] 113 (0, 0)) := (g2.block _ (show w.heap.size < w1.heap.size by omega) (fun e => by injection e with e; have := hp.2.2.lt; omega)).trans qB
  have o2 : w2.ownsRow 0 113 2 (.slice (some ⟨g, 0, none⟩) m c) m (cellsIt l.dropLast) := own_keep o1 (fun k hk => by rw [← slice_block hk]; exact g2.block g (show g < w1.heap.size by omega) (fun e => ngM (by injection e)))
  have hd : l.dropLast.length = m := by rw [List.length_dropLast]; omega
  have hfin : Q w2 F H l.dropLast := ⟨.slice (some ⟨g, 0, none⟩) m c, M, _, ⟨qH2, by rw [hd]; exact o2, by rw [hd]; exact p2⟩, hs2, hw2, fH, fM, fun k hk => fg k hk, fun k hk => Nat.lt_of_lt_of_le (fl k hk) t2.size⟩
  have a1 : w1.cell? ⟨H, 1, none⟩ = some (.map (some M)) := by rw [cell_of_row _ _ _ _ _ _ qH]; rfl
  have a2 : w1.cell? ⟨w.heap.size, 0, none⟩ = some (.int .i64 x.1) := by rw [cell_of_row _ _ _ _ _ _ qB]; rfl
  have b1 : w2.cell? ⟨H, 1, none⟩ = some (.map (some M)) := by rw [cell_of_row _ _ _ _ _ _ qH2]; rfl
  have b2 : w2.cell? ⟨w.heap.size, 0, none⟩ = some (.int .i64 x.1) := by rw [cell_of_row _ _ _ _ _ _ qB2]; rfl
  have b3 : w2.cell? ⟨w.heap.size, 1, none⟩ = some (.int .i64 x.2) := by rw [cell_of_row _ _ _ _ _ _ qB2]; rfl
  have HF := hide hfin
  have HT := hide t2
  subst hwa
  have HW := hide hw1
  rw [hm] at c0
  have m0 : (0 : Int) ≤ (m : Int) := by omega
  have hc' : m + 1 ≤ c := by omega
  clear sa hfin t2 o2 qB2 qH2 hs1 g2 p2 p1 o1 t1 qH qB q1 qHa qa hw1 hs2 hw2 fi hcell hfr nvH nvM nHM fg fl hp hs hw ngH ngM hx wi hd hc
  go_enter Try.func114, Try.ntmps114
  go_wp2_with fail
  rw [← HW.out]
  go_region_held3 (fun w' => w'.cell? ⟨H, 1, none⟩ = some (.map (some M)) ∧ w'.cell? ⟨w.heap.size, 0, none⟩ = some (.int .i64 x.1)) (first | exact ⟨a1, a2⟩ | exact ⟨b1, b2⟩) ((refine step_delete (by rfl) _ _ _ _ (by rfl) _ _ (by rfl) (by rfl) r2 ?_))
  clear r2 a1 a2
  go_wp2_with fail
  go_ret
  exact ⟨⟨_, rfl⟩, HF.out, HT.out⟩
end Go.Proofs.Ytccokhalcdljiaa.Hp
