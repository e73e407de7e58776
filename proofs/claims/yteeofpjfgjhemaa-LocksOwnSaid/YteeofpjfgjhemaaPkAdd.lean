/-
  The numbers of what is held, gathered (the program's numbers); written by tools/gen/pkadd.py.
-/
import Derived.Test.YteeofpjfgjhemaaPkMem
import Derived.Test.YteeofpjfgjhemaaSeqKit
import Derived.Deep.DeepCutAuto
namespace Go.Proofs.Yteeofpjfgjhemaa
open Go.ChangeShapes Go.WideShapes Go.ChangeAt Go.RowKit Go.Maps
set_option linter.unusedVariables false
set_option linter.unusedSimpArgs false
/-- An append of what reads as a list, within a region that draws its order. -/
theorem step_append_reads {α : Type} {zz : Nat} {vals : α → List Value} {P : Program} {ops : Array Oper} {o : Oper} {a : Act} {w : World} {K : Act → World → Prop} {Q : Exit → Act → World → Prop} {E : Prop} (hgd : o.guard = none) (s x : Operand) (ty : TypeId)
    (ho : o.op = .call { callee := .builtin .append, args := #[s, x], argTypes := #[ty, ty] }) (base : Nat) (e : TypeId) (i : TypeInfo) (zv : Value) (bytes : Nat) (ht : P.underlying ty = some (.slice e)) (hi : P.info? e = some i) (hz : i.zero = some zv)
    (hsize : i.size = zz) (hby : i.bytes = bytes) (hzs : zv.cells.size = zz) (hsz : 0 < zz) (v : Value) (n : Nat) (xs : List Value) (hs : a.eval s = v) (hown : w.ownsRow base e zz v n xs)
    (A : Option Addr) (m c : Nat) (ys : List α) (hx : a.eval x = .slice A m c) (hv : ∀ x, (vals x).length = zz) (h1 : ∀ x, ∀ v ∈ vals x, v.oneCell' = true) (hr : Reads zz vals w A m ys) (hnil : A = none → c = 0)
    (h63 : n + m ≤ maxLen) (hbytes : (n + m) * bytes ≤ 140737488355328) (hbase : base ≤ w.heap.size)
    (h : ∀ v' w', w'.ownsRow base e zz v' (n + m) (xs ++ ys.flatMap vals) → w.grownBy w' v.ownBlock → K (a.put o.dst v') w') :
    if Region.wanted o (yielded ops a.tmps) = true then Oper.wp P o a w K Q else E := by
  have hw : Region.wanted o (yielded ops a.tmps) = true := by simp [Region.wanted, hgd]
  rw [if_pos hw]
  cases A with
  | none =>
    obtain rfl := hr.isNil rfl
    obtain rfl : ys = [] := List.eq_nil_of_length_eq_zero hr.1
    obtain rfl := hnil rfl
    have hrun := run_append_owned_none (P := P) (w := w) base ty o.type e i zz ht hi v n xs hown
    unfold Oper.wp execOp
    simp only [ho, resolve, invoke, builtin, Sem.run_bind, Sem.run_pure, Result.andThen_ok, List.map_toArray, List.map_cons, List.map_nil, hs, hx, hrun]
    exact h v w (by simpa using hown) (World.grownBy.refl w _)
  | some ad =>
    obtain ⟨v', w', hrun, h2, h3, _, _⟩ := run_append_own_at (P := P) w base ty o.type e i zv zz bytes ht hi hz hsize hby hzs hsz v n xs hown ad m c (ys.flatMap vals) (by rw [flat_length hv, hr.1]) (hr.cells hv ad rfl) (flat_cell h1 ys) h63 hbytes hbase
    unfold Oper.wp execOp
    simp only [ho, resolve, invoke, builtin, Sem.run_bind, Sem.run_pure, Result.andThen_ok, List.map_toArray, List.map_cons, List.map_nil, hs, hx, hrun]
    exact h v' w' h2 h3
theorem int_infoA : (Try.prog.info? 3).map (fun i => (i.zero, i.size, i.bytes)) = some (some (.int .i64 0), 1, 8) := by kernel_rfl
def oneInt (x : Int) : List Value := [.int .i64 x]
theorem oneInt_len (x : Int) : (oneInt x).length = 1 := rfl
theorem oneInt_cell (x : Int) : ∀ v ∈ oneInt x, v.oneCell' = true := by intro v hv; simp [oneInt] at hv; subst hv; rfl
theorem oneInt_map (l : List Int) : l.flatMap oneInt = l.map (Value.int .i64) := by induction l with
  | nil => rfl
  | cons x l ih => rw [List.flatMap_cons, ih]; rfl
theorem one_read (w : World) (m : Int) (t : TypeId) {n : Nat} (hn : n = w.heap.size) {X : World} (hX : X.heap[n]? = (w.alloc (.cells #[.int .i64 m] t)).heap[n]?) : Reads 1 oneInt X (some ⟨n, 0, none⟩) 1 [m] := by
  subst hn
  have h1 := hX.trans (heap_alloc_new w _)
  refine ⟨rfl, fun _ => ⟨_, 0, rfl, fun i x hx j u hu => ?_⟩⟩
  match i, hx with
  | 0, hx =>
    injection hx with hx
    subst hx
    match j, hu with
    | 0, hu => rw [cell_of_row _ _ _ _ _ _ h1]; simpa [oneInt] using hu
set_option maxRecDepth 20000 in
set_option maxHeartbeats 4000000 in
theorem addn_any {w : World} {N B0 g o : Nat} {a : Option Addr} {c : Nat} {L : List Int} {m : Int} (hN : Boxed w N 90 (.slice a L.length c)) (hB : B0 ≤ w.heap.size) (hBN : B0 ≤ N) (hr : w.ownsRow B0 3 1 (.slice a L.length c) L.length (L.map (Value.int .i64))) (hm : w.cell? ⟨g, o, none⟩ = some (.int .i64 m)) (hg : g < B0) (hL : L.length ≤ 1000) :
    Calls Try.prog 40 #[.pointer (some ⟨N, 0, none⟩), .pointer (some ⟨g, o, none⟩)] w fun e w' => e = .returned (.tuple #[]) ∧ ∃ a' c', Boxed w' N 90 (.slice a' (L ++ [m]).length c') ∧ w'.ownsRow B0 3 1 (.slice a' (L ++ [m]).length c') (L ++ [m]).length ((L ++ [m]).map (Value.int .i64)) ∧ Below B0 w w' := by
  obtain ⟨i0, hi0, hz0, hz1, hz2⟩ := info_parts int_infoA
  have I0 := hide (show Try.prog.info? 3 = some i0 ∧ i0.zero = some (.int .i64 0) ∧ i0.size = 1 ∧ i0.bytes = 8 from ⟨hi0, hz0, hz1, hz2⟩)
  obtain ⟨w0, hw0⟩ : ∃ w0, w0 = w.drew := ⟨_, rfl⟩
  have sz0 : w0.heap.size = w.heap.size := by rw [hw0]; rfl
  have HN := hide (show Boxed w0 N 90 (.slice a L.length c) from by rw [hw0]; exact hN)
  have HB := hide (show B0 ≤ w.heap.size ∧ B0 ≤ N ∧ g < B0 ∧ L.length ≤ 1000 from ⟨hB, hBN, hg, hL⟩)
  have HR := hide (show w0.ownsRow B0 3 1 (.slice a L.length c) L.length (L.map (Value.int .i64)) from by rw [hw0]; exact (Touch.of_below (S := fun _ => False) (below_drewN (Below.refl _ w) 1)).own hr (fun _ _ e => e))
  have SF := hide (show ∀ X : World, Below B0 w X → X.cell? ⟨g, o, none⟩ = some (.int .i64 m) from fun X b => (b.cell (p := ⟨g, o, none⟩) hg).trans hm)
  have D1 := hide (show Below B0 w w0 from by rw [hw0]; exact below_drewN ((Below.refl _ w)) 1)
  have D2 := hide (show Below B0 w (w0.alloc (.cells #[.int .i64 m] 3)) ∧ B0 ≤ (w0.alloc (.cells #[.int .i64 m] 3)).heap.size ∧ B0 ≤ w0.heap.size from ⟨D1.out.alloc (by omega) _, by simp; omega, by omega⟩)
  have HW := hide hw0
  obtain ⟨k, hk⟩ : ∃ k, k = L.length := ⟨_, rfl⟩
  have HK := hide hk
  rw [← hk] at HN HR
  clear hN hB hBN hr hm hg hL hi0 hz0 hz1 hz2 hk hw0 sz0
  go_enter Try.func40, Try.ntmps40
  go_upto_region 0 with fail
  refine wp_region_noPanic ?_
  refine wp_region_held_drew (S := (fun X => X.cell? ⟨g, o, none⟩ = some (.int .i64 m))) (by kernel_rfl) (SF.out _ (by rw [← HW.out]; exact D1.out)) (fun hHeld => ?_)
  rw [← HW.out]
  rw [← HW.out] at hHeld
  refine wpAnyH_take (i := 0) (v := ?_) rfl (by kernel_rfl) (by kernel_rfl) (by kernel_rfl) (fun _ _ _ h => h) (Or.inl ⟨by kernel_rfl, ?_⟩) (by assumption) ?_
  rotate_left
  · intro w hSw
    (try dsimp only at hSw)
    go_simp
    try with_reducible rfl
  try simp only [Act.put, List.setIfInBounds_toArray, List.set_cons_zero, List.set_cons_succ]
  refine wpAnyH_take (i := 1) (v := ?_) rfl (by kernel_rfl) (by kernel_rfl) (by kernel_rfl) (fun _ _ _ h => h) (Or.inl ⟨by kernel_rfl, ?_⟩) (by assumption) ?_
  rotate_left
  · intro w hSw
    (try dsimp only at hSw)
    go_simp
    try with_reducible rfl
  try simp only [Act.put, List.setIfInBounds_toArray, List.set_cons_zero, List.set_cons_succ]
  refine wpAnyH_take (i := 2) (v := ?_) rfl (by kernel_rfl) (by kernel_rfl) (by kernel_rfl) (fun _ _ _ h => h) (Or.inl ⟨by kernel_rfl, ?_⟩) (by assumption) ?_
  rotate_left
  · intro w hSw
    (try dsimp only at hSw)
    go_simp
    try with_reducible rfl
  try simp only [Act.put, List.setIfInBounds_toArray, List.set_cons_zero, List.set_cons_succ]
  refine wpAnyH_take (i := 4) (v := ?_) rfl (by kernel_rfl) (by kernel_rfl) (by kernel_rfl) (fun _ _ _ h => h) (Or.inl ⟨by kernel_rfl, ?_⟩) (by assumption) ?_
  rotate_left
  · intro w hSw
    (try dsimp only at hSw)
    go_simp
    try with_reducible rfl
  try simp only [Act.put, List.setIfInBounds_toArray, List.set_cons_zero, List.set_cons_succ]
  refine wpAnyH_take (i := 5) (v := ?_) rfl (by kernel_rfl) (by kernel_rfl) (by kernel_rfl) (fun _ _ _ h => h) (Or.inl ⟨by kernel_rfl, ?_⟩) (by assumption) ?_
  rotate_left
  · intro w hSw
    (try dsimp only at hSw)
    go_simp
    try with_reducible rfl
  try simp only [Act.put, List.setIfInBounds_toArray, List.set_cons_zero, List.set_cons_succ]
  refine wpAnyH_take (i := 6) (v := ?_) rfl (by kernel_rfl) (by kernel_rfl) (by kernel_rfl) (fun _ _ _ h => h) (Or.inl ⟨by kernel_rfl, ?_⟩) (by assumption) ?_
  rotate_left
  · intro w hSw
    (try dsimp only at hSw)
    go_simp
    try with_reducible rfl
  try simp only [Act.put, List.setIfInBounds_toArray, List.set_cons_zero, List.set_cons_succ]
  refine wpAnyH_take (i := 7) (v := ?_) rfl (by kernel_rfl) (by kernel_rfl) (by kernel_rfl) (fun _ _ _ h => h) (Or.inl ⟨by kernel_rfl, ?_⟩) (by assumption) ?_
  rotate_left
  · intro w hSw
    (try dsimp only at hSw)
    go_simp
    try with_reducible rfl
  try simp only [Act.put, List.setIfInBounds_toArray, List.set_cons_zero, List.set_cons_succ]
  refine wpAnyH_ready (rs := [3, 8]) (by kernel_rfl) (by simp) ?_
  refine AllReadyH.cons rfl (fun K hK => ?_) (AllReadyH.cons rfl (fun K hK => ?_) AllReadyH.nil)
  · have z1 : w0.cell? ⟨N, 0, none⟩ = some (.slice a k c) := HN.out.cell
    go_simp
    go_wp2_with fail
    refine hK _ _ (SF.out _ D1.out) (fun hHeld => ?_)
    clear hK K
    try simp only [Act.put, List.setIfInBounds_toArray, List.set_cons_zero, List.set_cons_succ]
    refine wpAnyH_ready (rs := [8]) (by kernel_rfl) (by simp) ?_
    refine AllReadyH.cons rfl (fun K hK => ?_) AllReadyH.nil
    go_simp
    go_wp2_with fail
    refine hK _ _ (SF.out _ D2.out.1) (fun hHeld => ?_)
    clear hK K
    try simp only [Act.put, List.setIfInBounds_toArray, List.set_cons_zero, List.set_cons_succ]
    refine wpAnyH_ready (rs := [9]) (by kernel_rfl) (by simp) ?_
    refine AllReadyH.cons rfl (fun K hK => ?_) AllReadyH.nil
    refine step_append_reads rfl (.tmp 7) (.tmp 12) _ rfl B0 3 i0 _ 8 Try.underlying90 I0.out.1 I0.out.2.1 I0.out.2.2.1 I0.out.2.2.2 rfl (by omega) _ k _ rfl (HR.out.alloc _) (some ⟨w0.heap.size, 0, none⟩) 1 1 [m] rfl oneInt_len oneInt_cell (one_read w0 m 3 rfl rfl) (fun e => by cases e) (by have := HB.out; have := HK.out; unfold maxLen; omega) (by have := HB.out; have := HK.out; omega) D2.out.2.1 ?_
    intro v2 w2 o2 g2
    obtain ⟨g', cap', rfl⟩ := ownsRow_succ o2
    have AP := hide (HN.out.appended (by decide) HR.out D2.out.2.2 HB.out.2.1 o2 g2)
    have B2 := hide (show Below B0 w w2 from D2.out.1.grown g2 D2.out.2.1 (fun k hk => (HR.out.lt k hk).1))
    clear o2 g2
    have hc1 := AP.out.1.cell
    have hf1 := AP.out.1.frozen
    refine hK _ _ (SF.out _ B2.out) (fun hHeld => ?_)
    clear hK K
    try simp only [Act.put, List.setIfInBounds_toArray, List.set_cons_zero, List.set_cons_succ]
    refine wpAnyH_take (i := 10) (v := ?_) rfl (by kernel_rfl) (by kernel_rfl) (by kernel_rfl) (fun _ _ _ h => h) (Or.inl ⟨by kernel_rfl, ?_⟩) (by assumption) ?_
    rotate_left
    · intro w hSw
      (try dsimp only at hSw)
      go_simp
      try with_reducible rfl
    try simp only [Act.put, List.setIfInBounds_toArray, List.set_cons_zero, List.set_cons_succ]
    refine wpAnyH_ready (rs := [11]) (by kernel_rfl) (by simp) ?_
    refine AllReadyH.cons rfl (fun K hK => ?_) AllReadyH.nil
    go_simp
    go_wp2_with fail
    refine hK _ _ (SF.out _ (D1.out.trans AP.out.2.2.2.2)) (fun hHeld => ?_)
    clear hK K
    try simp only [Act.put, List.setIfInBounds_toArray, List.set_cons_zero, List.set_cons_succ]
    refine wpAnyH_done (by kernel_rfl) ?_ _
    go_simp
    refine NoPanic.normal ?_
    clear hHeld hc1 hf1
    go_end0
    refine ⟨rfl, _, cap', by rw [← HK.out]; exact AP.out.2.1, by rw [← HK.out]; exact AP.out.2.2.1, D1.out.trans AP.out.2.2.2.2⟩
  · go_simp
    go_wp2_with fail
    refine hK _ _ (SF.out _ D2.out.1) (fun hHeld => ?_)
    clear hK K
    try simp only [Act.put, List.setIfInBounds_toArray, List.set_cons_zero, List.set_cons_succ]
    refine wpAnyH_ready (rs := [3]) (by kernel_rfl) (by simp) ?_
    refine AllReadyH.cons rfl (fun K hK => ?_) AllReadyH.nil
    have z1 : (w0.alloc (.cells #[.int .i64 m] 3)).cell? ⟨N, 0, none⟩ = some (.slice a k c) := (HN.out.alloc _).cell
    go_simp
    go_wp2_with fail
    refine hK _ _ (SF.out _ D2.out.1) (fun hHeld => ?_)
    clear hK K
    try simp only [Act.put, List.setIfInBounds_toArray, List.set_cons_zero, List.set_cons_succ]
    refine wpAnyH_ready (rs := [9]) (by kernel_rfl) (by simp) ?_
    refine AllReadyH.cons rfl (fun K hK => ?_) AllReadyH.nil
    refine step_append_reads rfl (.tmp 7) (.tmp 12) _ rfl B0 3 i0 _ 8 Try.underlying90 I0.out.1 I0.out.2.1 I0.out.2.2.1 I0.out.2.2.2 rfl (by omega) _ k _ rfl (HR.out.alloc _) (some ⟨w0.heap.size, 0, none⟩) 1 1 [m] rfl oneInt_len oneInt_cell (one_read w0 m 3 rfl rfl) (fun e => by cases e) (by have := HB.out; have := HK.out; unfold maxLen; omega) (by have := HB.out; have := HK.out; omega) D2.out.2.1 ?_
    intro v2 w2 o2 g2
    obtain ⟨g', cap', rfl⟩ := ownsRow_succ o2
    have AP := hide (HN.out.appended (by decide) HR.out D2.out.2.2 HB.out.2.1 o2 g2)
    have B2 := hide (show Below B0 w w2 from D2.out.1.grown g2 D2.out.2.1 (fun k hk => (HR.out.lt k hk).1))
    clear o2 g2
    have hc1 := AP.out.1.cell
    have hf1 := AP.out.1.frozen
    refine hK _ _ (SF.out _ B2.out) (fun hHeld => ?_)
    clear hK K
    try simp only [Act.put, List.setIfInBounds_toArray, List.set_cons_zero, List.set_cons_succ]
    refine wpAnyH_take (i := 10) (v := ?_) rfl (by kernel_rfl) (by kernel_rfl) (by kernel_rfl) (fun _ _ _ h => h) (Or.inl ⟨by kernel_rfl, ?_⟩) (by assumption) ?_
    rotate_left
    · intro w hSw
      (try dsimp only at hSw)
      go_simp
      try with_reducible rfl
    try simp only [Act.put, List.setIfInBounds_toArray, List.set_cons_zero, List.set_cons_succ]
    refine wpAnyH_ready (rs := [11]) (by kernel_rfl) (by simp) ?_
    refine AllReadyH.cons rfl (fun K hK => ?_) AllReadyH.nil
    go_simp
    go_wp2_with fail
    refine hK _ _ (SF.out _ (D1.out.trans AP.out.2.2.2.2)) (fun hHeld => ?_)
    clear hK K
    try simp only [Act.put, List.setIfInBounds_toArray, List.set_cons_zero, List.set_cons_succ]
    refine wpAnyH_done (by kernel_rfl) ?_ _
    go_simp
    refine NoPanic.normal ?_
    clear hHeld hc1 hf1
    go_end0
    refine ⟨rfl, _, cap', by rw [← HK.out]; exact AP.out.2.1, by rw [← HK.out]; exact AP.out.2.2.1, D1.out.trans AP.out.2.2.2.2⟩
end Go.Proofs.Yteeofpjfgjhemaa
