/-
  Contracts of the document's own Drop and Move on heaps (coxswainref3), and of 'same' (coxswainlaw3).
-/
import Derived.Test.YtllfpfgboeabnaaHeapRefB
import Derived.Deep.RegionLaw
namespace Go.Proofs.Ytllfpfgboeabnaa
open Go.ChangeShapes Go.WideShapes Go.ChangeAt Go.RowKit
set_option linter.unusedVariables false
/-- An append as a step of a region that draws: the row is a slice, so is what comes of it. -/
theorem step_append_rows {P : Program} {w : World} {ops : Array Oper} {o : Oper} {a : Act} {K : Act → World → Prop} {Q : Exit → Act → World → Prop} {E : Prop} (hgd : o.guard = none) (s x : Operand) (t : TypeId)
    (ho : o.op = .call { callee := .builtin .append, args := #[s, x], argTypes := #[t, t] })
    (base : Nat) (e : TypeId) (i : TypeInfo) (z : Value) (size bytes : Nat) (ht : P.underlying t = some (.slice e)) (hi : P.info? e = some i) (hz : i.zero = some z)
    (hsize : i.size = size) (hby : i.bytes = bytes) (hzs : z.cells.size = size) (hsz : 0 < size)
    (v : Value) (n : Nat) (xs : List Value) (hs : a.eval s = v) (hown : w.ownsRow base e size v n xs)
    (ad : Addr) (m c : Nat) (news : List Value) (hx : a.eval x = .slice (some ad) m c) (hl : news.length = m * size) (hnews : ∀ j u, news[j]? = some u → w.cell? (ad.add j) = some u) (h1 : ∀ u ∈ news, u.oneCell' = true)
    (h63 : n + m ≤ maxLen) (hbytes : (n + m) * bytes ≤ 140737488355328) (hbase : base ≤ w.heap.size) (N : Nat) (hN : n + m = N)
    (h : ∀ A' c' w', w'.ownsRow base e size (.slice A' N c') N (xs ++ news) → w.grownBy w' v.ownBlock → ((Value.slice A' N c').ownBlock = v.ownBlock ∨ (Value.slice A' N c').ownBlock = some w.heap.size) → K (a.put o.dst (.slice A' N c')) w') :
    if Region.wanted o (yielded ops a.tmps) = true then Oper.wp P o a w K Q else E := by
  have hw : Region.wanted o (yielded ops a.tmps) = true := by simp [Region.wanted, hgd]
  rw [if_pos hw]
  subst hN
  obtain ⟨v', w', hr, h2, h3, _, h5⟩ := run_append_own_at (P := P) w base t o.type e i z size bytes ht hi hz hsize hby hzs hsz v n xs hown ad m c news hl hnews h1 h63 hbytes hbase
  obtain ⟨A', c', rfl, _⟩ := own_slice h2
  unfold Oper.wp execOp
  simp only [ho, resolve, invoke, builtin, Sem.run_bind, Sem.run_pure, Result.andThen_ok, List.map_toArray, List.map_cons, List.map_nil, hs, hx, hr]
  exact h A' c' w' h2 h3 h5
theorem cells_one (L : List (Int × Int)) : ∀ u ∈ cellsIt L, u.oneCell' = true := by
  intro u hu
  unfold cellsIt at hu
  simp only [List.mem_flatMap] at hu
  obtain ⟨x, _, hx⟩ := hu
  simp at hx
  rcases hx with rfl | rfl <;> rfl
theorem cellsIt_take (L : List (Int × Int)) (p : Nat) : cellsIt (L.take p) = (cellsIt L).take (p * 2) := by
  induction L generalizing p with
  | nil => simp [cellsIt]
  | cons x L ih =>
    cases p with
    | zero => rfl
    | succ p =>
      rw [show (p + 1) * 2 = p * 2 + 1 + 1 by omega]
      exact congrArg (fun t => Value.int .i64 x.1 :: Value.int .i64 x.2 :: t) (ih p)
theorem cellsIt_drop (L : List (Int × Int)) (p : Nat) : cellsIt (L.drop p) = (cellsIt L).drop (p * 2) := by
  induction L generalizing p with
  | nil => simp [cellsIt]
  | cons x L ih =>
    cases p with
    | zero => rfl
    | succ p =>
      rw [show (p + 1) * 2 = p * 2 + 1 + 1 by omega]
      exact ih p
theorem rdrop_no {w : World} {G : Nat → Prop} {R : Nat} {L : List (Int × Int)} (h : Lst w G R L) (id : Int) (hno : ∀ k, k < L.length → (it L k).1 ≠ id) (hn : L.length ≤ 1000000) :
    Calls Try.prog 14 #[.pointer (some ⟨R, 0, none⟩), .int .i64 id] w fun e w' => e = .returned (.bool false) ∧ w = w' := by
  have HC := hide (at_no h id hno hn)
  clear h hno
  go_enter Try.func14, Try.ntmps14
  go_wp2_with (go_at_call 27; refine HC.out.mono ?_; rintro e w' ⟨rfl, rfl⟩)
  go_ret
  exact ⟨rfl, rfl⟩
/-- Behind a drop. -/
def cut (L : List (Int × Int)) (p : Nat) : List (Int × Int) := L.take p ++ L.drop (p + 1)
theorem drop_one {w w1 : World} {row : Option Nat} (h : w.drew.grownBy w1 row) (hr : row = none := by rfl) : Below w.heap.size w w1 := by
  subst hr
  exact ⟨h.os, h.tape, h.output, h.size, fun k hk => h.block k hk (fun e => by cases e)⟩
theorem cut_length (L : List (Int × Int)) (p : Nat) (hp : p < L.length) : (cut L p).length = L.length - 1 := by
  unfold cut; rw [List.length_append, List.length_take, List.length_drop]; omega
theorem rdrop_end {w w2 : World} {G : Nat → Prop} {R : Nat} {L : List (Int × Int)} {p : Nat} {A : Option Addr} {c : Nat} {xs : List Value} (h : Lst w G R L) (hp : p < L.length) (hb : Below w.heap.size w w2)
    {N : Nat} (ho : w2.ownsRow w.heap.size 40 2 (.slice A N c) N xs) (hx : xs = cellsIt (L.take p) ++ cellsIt (L.drop (p + 1))) (hN : N = L.length - 1) :
    ∃ G', Lst (w2.setCell ⟨R, 0, none⟩ (.slice A N c)) G' R (cut L p) ∧ Touch G w (w2.setCell ⟨R, 0, none⟩ (.slice A N c)) ∧ ∀ i, G' i → G i ∨ w.heap.size ≤ i := by
  subst hx hN
  obtain ⟨u, h1, h2, gR, gv, gl⟩ := h
  have hR := gl R gR
  have r1 := (hb.block R hR).trans h1
  have ne : (Value.slice A (L.length - 1) c).ownBlock ≠ some R := fun e => by have := (ho.lt R e).1; omega
  refine ⟨fun i => G i ∨ (w.heap.size ≤ i ∧ i < w2.heap.size), ⟨.slice A (L.length - 1) c, ?_, ?_, .inl gR, fun g hg => .inr (ho.lt g hg), fun i hi => ?_⟩, (Touch.of_below hb).setCell (p := ⟨R, 0, none⟩) gR _, fun i hi => hi.elim .inl (fun e => .inr e.1)⟩
  · rw [heap_setCell_same _ _ _ _ _ _ r1]; rfl
  · rw [cut_length L p hp]
    unfold cut
    rw [cellsIt_append]
    exact own_base (own_keep ho (fun g hg => heap_setCell_other _ _ _ _ (fun e => ne (by rw [hg]; exact congrArg some e)))) (Nat.zero_le _)
  · have : i < w2.heap.size := by
      rcases hi with hi | hi
      · exact Nat.lt_of_lt_of_le (gl i hi) hb.size
      · exact hi.2
    simpa [World.setCell] using this
set_option maxHeartbeats 4000000 in
theorem rdrop_yes {w : World} {G : Nat → Prop} {R : Nat} {L : List (Int × Int)} (h : Lst w G R L) (id : Int) (p : Nat) (hp : p < L.length) (e : (it L p).1 = id) (hfirst : ∀ k, k < p → (it L k).1 ≠ id) (hn : L.length ≤ 800000) :
    Calls Try.prog 14 #[.pointer (some ⟨R, 0, none⟩), .int .i64 id] w fun e w' => e = .returned (.bool true) ∧
      ∃ G', Lst w' G' R (cut L p) ∧ Touch G w w' ∧ ∀ i, G' i → G i ∨ w.heap.size ≤ i := by
  obtain ⟨i0, hi0, hz0, hz1, hz2⟩ := info_parts ritem_info
  have HL := hide h
  have HA := hide (at_yes h id p hp e hfirst (by omega))
  obtain ⟨A, c, c0, ho, fr, hR, hnc, hcm, hA, hcell, hoR⟩ := h.open_
  obtain ⟨g, rfl, hg, hgR, _⟩ := hcell p hp
  have HO := hide ho
  have p0 : (0 : Int) ≤ (p : Int) := by omega
  have p1 : (p : Int) ≤ (c : Int) := by omega
  have p2 : (p : Int) + 1 ≤ (L.length : Int) := by omega
  have p3 : (L.length : Int) ≤ (c : Int) := by omega
  have pw : IntKind.i64.wrap ((p : Int) + 1) = (p : Int) + 1 := IntWalk.i64_in _ (by omega)
  have p4 : (0 : Int) ≤ (p : Int) + 1 := by omega
  have HZ := hide hz2
  have nd : decide ((p : Int) < 0) = false := by simp
  clear h e hfirst hcell hA hcm hz2 ho hoR
  go_enter Try.func14, Try.ntmps14
  go_wp2_with (go_at_call 27; refine HA.out.mono ?_; rintro e w' ⟨rfl, rfl⟩)
  have l1 := hide (show (cellsIt (L.take p)).length = p * 2 by rw [cellsIt_length, List.length_take]; omega)
  have l2 := hide (show (cellsIt (L.drop (p + 1))).length = (L.length - (p + 1)) * 2 by rw [cellsIt_length, List.length_drop])
  have n1 := hide (show ∀ W : World, W.heap = w.heap → ∀ j u, (cellsIt (L.take p))[j]? = some u → W.cell? ((⟨g, 0, none⟩ : Addr).add j) = some u from fun W hW j u hu => by
    have e1 : W.cell? ((⟨g, 0, none⟩ : Addr).add j) = w.cell? ((⟨g, 0, none⟩ : Addr).add j) := World.cell?_of_block (by rw [hW])
    rw [e1]
    rw [cellsIt_take] at hu
    exact HO.out.cells rfl j u (by rw [List.getElem?_take] at hu; split at hu; exact hu; cases hu))
  have n2 := hide (show ∀ W : World, Below w.heap.size w W → ∀ j u, (cellsIt (L.drop (p + 1)))[j]? = some u → W.cell? ((⟨g, (p + 1) * 2, none⟩ : Addr).add j) = some u from fun W hW j u hu => by
    rw [addr_add, hW.cell (p := ⟨g, (p + 1) * 2 + j, none⟩) hg]
    rw [cellsIt_drop, List.getElem?_drop] at hu
    have := HO.out.cells rfl _ u hu
    rw [addr_add] at this
    rw [Nat.zero_add] at this; exact this)
  by_cases hcp : c = p + 1
  · subst hcp
    have hLp : L.length = p + 1 := by omega
    have hnil : L.drop (p + 1) = [] := List.drop_eq_nil_of_le (by omega)
    have HN := hide hnil
    have HLp := hide hLp
    rw [hLp] at c0
    have q3 : (p : Int) + 1 ≤ (p : Int) + 1 := by omega
    have q4 : (p : Int) ≤ (p : Int) + 1 := by omega
    clear hnil hLp l2 n2 p1 p2 p3
    go_region_law ((first | (refine step_append_rows (by rfl) _ _ _ (by rfl) w.heap.size 40 i0 _ 2 16 Try.underlying27 hi0 hz0 hz1 HZ.out rfl (by omega) (.slice none 0 0) 0 [] (by rfl) (World.ownsRow_nil _ _ _ _) ⟨g, 0, none⟩ p (p + 1) (cellsIt (L.take p)) (by rfl) l1.out (n1.out w.drew rfl) (cells_one _) (by unfold maxLen; omega) (by omega) (Nat.le_refl _) p (by omega) ?_; intro A1 c1 w1 o1 g1 hl1; have b1 : Below w.heap.size w w1 := drop_one g1; have r0 := (b1.cell (p := ⟨R, 0, none⟩) hR).trans c0; have O1 := hide o1; clear o1 g1 hl1) | (refine step_append_rows (by rfl) _ _ _ (by rfl) w.heap.size 40 i0 _ 2 16 Try.underlying27 hi0 hz0 hz1 HZ.out rfl (by omega) _ p ([] ++ cellsIt (L.take p)) (by rfl) O1.out ⟨g, 0, none⟩ 0 0 [] (by rfl) rfl (fun j u hu => by cases hu) (fun u hu => by cases hu) (by unfold maxLen; omega) (by omega) b1.size p (by omega) ?_; intro A2 c2 w2 o2 g2 hl2; have b2 : Below w.heap.size w w2 := b1.grown g2 b1.size (fun k hk => (O1.out.lt k hk).1); have r0 := (b2.cell (p := ⟨R, 0, none⟩) hR).trans c0; have rf := (b2.frozen (p := ⟨R, 0, none⟩) hR).trans fr)))
    all_goals go_wp2_with fail
    all_goals go_ret
    all_goals exact ⟨rfl, rdrop_end HL.out hp b2 o2 (by rw [HN.out]; simp [cellsIt]) (by rw [HLp.out]; rfl)⟩
  · have hcp' : ¬ (c - (p + 1) = 0) := by omega
    go_region_law ((first | (refine step_append_rows (by rfl) _ _ _ (by rfl) w.heap.size 40 i0 _ 2 16 Try.underlying27 hi0 hz0 hz1 HZ.out rfl (by omega) (.slice none 0 0) 0 [] (by rfl) (World.ownsRow_nil _ _ _ _) ⟨g, 0, none⟩ p c (cellsIt (L.take p)) (by rfl) l1.out (n1.out w.drew rfl) (cells_one _) (by unfold maxLen; omega) (by omega) (Nat.le_refl _) p (by omega) ?_; intro A1 c1 w1 o1 g1 hl1; have b1 : Below w.heap.size w w1 := drop_one g1; have r0 := (b1.cell (p := ⟨R, 0, none⟩) hR).trans c0; have O1 := hide o1; clear o1 g1 hl1) | (refine step_append_rows (by rfl) _ _ _ (by rfl) w.heap.size 40 i0 _ 2 16 Try.underlying27 hi0 hz0 hz1 HZ.out rfl (by omega) _ p ([] ++ cellsIt (L.take p)) (by rfl) O1.out ⟨g, (p + 1) * 2, none⟩ (L.length - (p + 1)) (c - (p + 1)) (cellsIt (L.drop (p + 1))) (by rfl) l2.out (n2.out w1 b1) (cells_one _) (by unfold maxLen; omega) (by omega) b1.size (L.length - 1) (by omega) ?_; intro A2 c2 w2 o2 g2 hl2; have b2 : Below w.heap.size w w2 := b1.grown g2 b1.size (fun k hk => (O1.out.lt k hk).1); have r0 := (b2.cell (p := ⟨R, 0, none⟩) hR).trans c0; have rf := (b2.frozen (p := ⟨R, 0, none⟩) hR).trans fr)))
    all_goals go_wp2_with fail
    all_goals go_ret
    all_goals exact ⟨rfl, rdrop_end HL.out hp b2 o2 (by simp) rfl⟩
theorem rmove_no {w : World} {G : Nat → Prop} {R : Nat} {L : List (Int × Int)} (h : Lst w G R L) (id key : Int) (hno : ∀ k, k < L.length → (it L k).1 ≠ id) (hn : L.length ≤ 1000000) :
    Calls Try.prog 17 #[.pointer (some ⟨R, 0, none⟩), .int .i64 id, .int .i64 key] w fun e w' => e = .returned (.bool false) ∧ w = w' := by
  have HC := hide (rdrop_no h id hno hn)
  clear h hno
  go_enter Try.func17, Try.ntmps17
  go_wp2_with (go_at_call 14; refine HC.out.mono ?_; rintro e w' ⟨rfl, rfl⟩)
  go_ret
  exact ⟨rfl, rfl⟩
theorem cut_srt {L : List (Int × Int)} (h : Srt L) (p : Nat) : Srt (cut L p) := by
  unfold cut
  have e : L = L.take p ++ L.drop p := (List.take_append_drop p L).symm
  have h1 : Srt (L.take p ++ L.drop p) := by rw [← e]; exact h
  obtain ⟨s1, s2, s3⟩ := List.pairwise_append.1 h1
  have hs : (L.drop (p + 1)).Sublist (L.drop p) := by rw [← List.drop_drop]; exact List.drop_sublist 1 _
  exact List.pairwise_append.2 ⟨s1, s2.sublist hs, fun a ha b hb => s3 a ha b (hs.subset hb)⟩
theorem cut_perm {L : List (Int × Int)} {p : Nat} (hp : p < L.length) : (it L p :: cut L p).Perm L := by
  have e : L = L.take p ++ it L p :: L.drop (p + 1) := by rw [it_get hp]; simp
  exact (List.perm_middle.symm).trans (List.Perm.of_eq e.symm)
theorem rmove_yes {w : World} {G : Nat → Prop} {R : Nat} {L : List (Int × Int)} (h : Lst w G R L) (hs : Srt L) (id key : Int) (h0 : 0 ≤ id) (p : Nat) (hp : p < L.length) (e : (it L p).1 = id) (hfirst : ∀ k, k < p → (it L k).1 ≠ id) (hrest : ∀ k, k < (cut L p).length → (it (cut L p) k).1 ≠ id) (hn : L.length ≤ 800000) :
    Calls Try.prog 17 #[.pointer (some ⟨R, 0, none⟩), .int .i64 id, .int .i64 key] w fun e w' => e = .returned (.bool true) ∧
      ∃ G' L', Lst w' G' R L' ∧ L'.Perm (cut L p ++ [(id, key)]) ∧ Srt L' ∧ Touch G w w' ∧ ∀ i, G' i → G i ∨ w.heap.size ≤ i := by
  have HC := hide (rdrop_yes h id p hp e hfirst hn)
  have HS := hide (cut_srt hs p)
  have HR := hide hrest
  have hl : (cut L p).length ≤ 800000 := by rw [cut_length L p hp]; omega
  clear h hs e hfirst hrest hp
  go_enter Try.func17, Try.ntmps17
  go_wp2_with fail
  go_at_call 14
  refine HC.out.mono ?_
  rintro e w1 ⟨rfl, G1, l1, t1, s1⟩
  have L1 := hide l1
  have T1 := hide t1
  have S1 := hide s1
  clear l1 t1 s1
  go_wp2_with fail
  go_at_call 11
  refine (rpush_ok L1.out HS.out id key h0 HR.out hl).mono ?_
  rintro e w2 ⟨rfl, G2, L2, l2, p2, s2, t2, g2⟩
  have HH := hide (show ∃ G' L', Lst w2 G' R L' ∧ L'.Perm (cut L p ++ [(id, key)]) ∧ Srt L' ∧ Touch G w w2 ∧ ∀ i, G' i → G i ∨ w.heap.size ≤ i from
    ⟨G2, L2, l2, p2, s2, T1.out.trans t2 S1.out, fun i hi => by
      rcases g2 i hi with hh | hh
      · exact S1.out i hh
      · exact .inr (Nat.le_trans T1.out.size hh)⟩)
  clear l2 p2 s2 t2 g2
  go_wp2_with fail
  go_ret
  exact ⟨rfl, HH.out⟩
theorem rpush_arg (w : World) (R : Nat) (id key : Int) (h : id < 0) : Calls Try.prog 11 #[.pointer (some ⟨R, 0, none⟩), .int .i64 id, .int .i64 key] w fun e w' => e = .returned (.int .i64 2) ∧ w = w' := by
  go_enter Try.func11, Try.ntmps11
  go_wp2_with fail
  go_ret
  exact ⟨rfl, rfl⟩
theorem rpush_busy {w : World} {G : Nat → Prop} {R : Nat} {L : List (Int × Int)} (h : Lst w G R L) (id key : Int) (h0 : 0 ≤ id) (p : Nat) (hp : p < L.length) (e : (it L p).1 = id) (hfirst : ∀ k, k < p → (it L k).1 ≠ id) (hn : L.length ≤ 1000000) :
    Calls Try.prog 11 #[.pointer (some ⟨R, 0, none⟩), .int .i64 id, .int .i64 key] w fun e w' => e = .returned (.int .i64 5) ∧ w = w' := by
  have HC := hide (at_yes h id p hp e hfirst hn)
  have h0' : ¬ id < 0 := by omega
  have d : decide ((0 : Int) ≤ (p : Int)) = true := by simp
  clear h e hfirst
  go_enter Try.func11, Try.ntmps11
  go_wp2_with (go_at_call 27; refine HC.out.mono ?_; rintro e w' ⟨rfl, rfl⟩)
  go_ret
  exact ⟨rfl, rfl⟩
set_option maxHeartbeats 800000 in
/-- Two lists of the same items, the one of the program's, the other of the document's own answer. -/
theorem same_own (u v : Value) (l : List (Int × Int)) (n : Nat) (w : World) {B1 B2 : Nat} (hu : w.ownsRow B1 37 2 u n (cellsIt l)) (hv : w.ownsRow B2 40 2 v n (cellsIt l)) (hl : l.length = n) (hn : n ≤ 1000000) :
    Calls Try.prog 23 #[u, v] w fun e w' => e = .returned (.bool true) ∧ ∃ m, w' = w.drewN m := by
  obtain ⟨A, c, rfl, _⟩ := own_slice hu
  obtain ⟨A2, d, rfl, _⟩ := own_slice hv
  have HU := hide hu
  have HV := hide hv
  have HL := hide hl
  have e1 : ((n : Int) != (n : Int)) = false := by simp
  clear hu hv hl
  go_enter Try.func23, Try.ntmps23
  go_wp2_with fail
  go_loopw [5] (fun i wr => ∃ k : Nat, k ≤ n ∧ i = .int .i64 k ∧ ∃ m, wr = w.drewN m) (fun i _ => n - (intOf i).toNat)
  case atStart => exact ⟨0, Nat.zero_le _, rfl, 0, rfl⟩
  case round =>
    obtain ⟨k, hk, rfl, m, rfl⟩ := hrel
    by_cases hlt : k < n
    · obtain ⟨g, c1, ev, _, _⟩ := HU.out.form (by omega)
      obtain ⟨g2, c2, ev2, _, _⟩ := HV.out.form (by omega)
      injection ev with ev _ ec
      injection ev2 with ev2 _ ec2
      subst ev ec ev2 ec2
      have h0 := (HU.out.cellAt (k * 2) (by omega)).trans (cellsIt_id l k (by rw [HL.out]; exact hlt))
      have h1 := (HU.out.cellAt (k * 2 + 1) (by omega)).trans (cellsIt_key l k (by rw [HL.out]; exact hlt))
      have h2 := (HV.out.cellAt (k * 2) (by omega)).trans (cellsIt_id l k (by rw [HL.out]; exact hlt))
      have h3 := (HV.out.cellAt (k * 2 + 1) (by omega)).trans (cellsIt_key l k (by rw [HL.out]; exact hlt))
      generalize it l k = x at *
      have f1 : (x.1 != x.1) = false := by simp
      have f2 : (x.2 != x.2) = false := by simp
      have k0 : (0 : Int) ≤ (k : Int) := by omega
      have k1 : (k : Int) < (n : Int) := by omega
      go_wp2_with fail
      go_quiet (fail)
      go_wp2_with fail
      go_roundw
      case rel => exact ⟨k + 1, by omega, by go_num, _, rfl⟩
      case measure => simp [intOf]; omega
    · go_wp2_with fail
      go_ret
      exact ⟨rfl, _, rfl⟩
end Go.Proofs.Ytllfpfgboeabnaa
