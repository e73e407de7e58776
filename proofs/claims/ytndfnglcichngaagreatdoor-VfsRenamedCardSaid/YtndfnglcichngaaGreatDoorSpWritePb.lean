/-
  The program's store: Write.
-/
import Derived.Test.YtndfnglcichngaaGreatDoorPa32
import Derived.Test.YtndfnglcichngaaGreatDoorPa17
import Derived.Test.YtndfnglcichngaaGreatDoorSpReadPb
import Derived.Test.YtndfnglcichngaaGreatDoorSpCatPb
namespace Go.Proofs.YtndfnglcichngaaGreatDoor
open Go.ChangeShapes Go.WideShapes Go.ChangeAt Go.RowKit Go.Maps
set_option linter.unusedVariables false
set_option linter.unusedSimpArgs false
theorem getD_lft {α : Type} (l r : List α) (i : Nat) (d : α) (h : i < l.length) : (l ++ r).getD i d = l.getD i d := by
  rw [List.getD_eq_getElem?_getD, List.getElem?_append_left h, ← List.getD_eq_getElem?_getD]
theorem getD_rgt {α : Type} (l r : List α) (i : Nat) (d : α) (h : l.length ≤ i) : (l ++ r).getD i d = r.getD (i - l.length) d := by
  rw [List.getD_eq_getElem?_getD, List.getElem?_append_right h, ← List.getD_eq_getElem?_getD]
section
variable {w : World} {U : Nat → Prop} {H S A Q M : Nat} {s : So} {xs p q : List Rfl} {x : Rfl} {st : St} {tag : Nat → Int}
theorem run_make_bytes (w : World) (n : Nat) (h : n ≤ 512) : (Instr.makeSlice 30 (.int .i64 (n : Int)) (.int .i64 (n : Int))).run Tryz.prog w = .ok (.slice (some ⟨w.heap.size, 0, none⟩) n n) (w.alloc (.cells (madeCells #[.int .u8 0] n) 5)) := by
  obtain ⟨i0, hi0, hz0, hz1, hz2⟩ := info_parts byte_info
  have := run_make (P := Tryz.prog) w 30 5 i0 _ Tryz.underlying30 hi0 hz0 .i64 .i64 (n : Int) (n : Int) (by omega) (by omega) (by rw [hz2]; omega) (by omega)
  rw [hz1] at this
  simpa [Value.cells] using this
theorem reads_of_ints {w : World} {a : Option Addr} {n : Nat} {xs : List Int} (h : Ints .u8 w a n xs) : Reads 1 byVals w a n xs := by
  refine ⟨h.1, fun hn => ?_⟩
  obtain ⟨g, o, e, hc⟩ := h.2 hn
  refine ⟨g, o, e, fun i y hy j u hu => ?_⟩
  have hi : i < xs.length := (List.getElem?_eq_some_iff.1 hy).1
  have hj : j < 1 := (List.getElem?_eq_some_iff.1 hu).1
  obtain rfl : j = 0 := by omega
  have h1 := hc i (by rw [← h.1]; exact hi)
  rw [Nat.mul_one, Nat.add_zero, h1, List.getD_eq_getElem?_getD, hy]
  simp [byVals] at hu
  rw [← hu]; rfl
/-- The zeros and the bytes behind the old ones. -/
theorem gap_bytes {old ys : List Int} {O m g o : Nat} (hm : ys.length = m) (hg : g = O - old.length) (hm0 : 0 < m) {F E : List Nat} {st st1 st2 : St} (hF : F.length = blkN old.length) (hold : ∀ j, j < old.length → old.getD j 0 = byF st F j) (hb1 : st1.bt = st.bt)
    (hby : byF st2 (F ++ E) o = if O - g ≤ o ∧ o < O - g + (g + m) then (List.replicate g 0 ++ ys).getD (o - (O - g)) 0 else byF st1 (F ++ E) o) (ho : o < max old.length (O + m)) : wrAt old O ys o = byF st2 (F ++ E) o := by
  have hst : o < old.length → byF st1 (F ++ E) o = old.getD o 0 := fun h => by
    rw [hold o h]
    unfold byF
    rw [hb1, getD_lft _ _ _ _ (by rw [hF]; unfold blkN; omega)]
  rw [hby]
  unfold wrAt
  rw [hm]
  by_cases h1 : O ≤ o ∧ o < O + m
  · rw [if_pos h1, if_pos (by omega), getD_rgt _ _ _ _ (by simp; omega)]
    rw [List.length_replicate, show o - (O - g) - g = o - O from by omega]
  · rw [if_neg h1]
    by_cases h2 : O - g ≤ o ∧ o < O - g + (g + m)
    · rw [if_pos h2, getD_lft _ _ _ _ (by simp; omega)]
      rw [getD_past (by omega)]
      simp [List.getD_eq_getElem?_getD, List.getElem?_replicate]
      split <;> rfl
    · rw [if_neg h2, hst (by omega)]
set_option maxRecDepth 10000 in
set_option maxHeartbeats 4000000 in
theorem pwr_no (h : PSo H w U S s) {id off : Int} (wi : (Lit.int .i64 id).wf = true) (wo : (Lit.int .i64 off).wf = true) {a : Option Addr} {m c : Nat} {ys : List Int} (hyl : ys.length = m) (hm : m ≤ 1000000) (hE : wrE s id off m ≠ 0 ∨ m = 0) :
    Calls Tryz.prog 27 #[.pointer (some ⟨S, 0, none⟩), .int .i64 id, .int .i64 off, .slice a m c] w (SideO (fun w' U' => PSo H w' U' S (wrS s id off ys)) U w (.int .i64 (wrE s id off m : Nat))) := by
  have hwo := wf_i64 wo
  clear wo
  rw [wrS_no (show wrE s id off ys.length ≠ 0 ∨ ys.length = 0 from by rw [hyl]; exact hE)]
  have FIN := hide (fun (n k : Nat) => SideO.of_below (v := .int .i64 (n : Int)) (P := fun w' U' => PSo H w' U' S s) ((keepsPSo H).below h (below_drewN (Below.refl _ _) k)) (below_drewN (Below.refl w.heap.size w) k))
  cases e : getFi s.l id with
  | none =>
    have hE : wrE s id off m = 4 := by unfold wrE; rw [e]; rfl
    have FD := hide (find_none h wi e)
    rw [hE]
    clear h e hE wi hyl
    go_enter Tryz.func27, Tryz.ntmps27
    go_wp2_with (go_at_call 64; refine FD.out.mono ?_; rintro e w' ⟨rfl, rfl⟩)
    go_ret
    exact FIN.out 4 0
  | some o =>
    obtain ⟨A, Q, M, p, x, q, st, tag, ex, rfl, ep, hd⟩ := h.split e
    have FD := hide (find_some hd wi ex ep)
    have wE : wrE s id off m = if off < 0 then 19 else if m = 0 then 0 else if 512 < off + m then 15 else if s.fr < needN x.b.length off.toNat m then 15 else 0 := by
      unfold wrE; rw [e]; rfl
    by_cases h0 : off < 0
    · rw [if_pos h0] at wE
      rw [wE]
      clear h e wE hyl ex ep hd wi hE
      go_enter Tryz.func27, Tryz.ntmps27
      go_wp2_with (go_at_call 64; refine FD.out.mono ?_; rintro e w' ⟨rfl, rfl⟩)
      go_ret
      exact FIN.out 19 0
    rw [if_neg h0] at wE
    obtain ⟨O, rfl⟩ := Int.eq_ofNat_of_zero_le (show 0 ≤ off by omega)
    by_cases h1 : m = 0
    · subst h1
      rw [if_pos rfl] at wE
      rw [wE]
      clear h e wE hyl ex ep hd wi hE
      go_enter Tryz.func27, Tryz.ntmps27
      go_wp2_with (go_at_call 64; refine FD.out.mono ?_; rintro e w' ⟨rfl, rfl⟩)
      go_ret
      exact FIN.out 0 0
    rw [if_neg h1] at wE
    have m1 : ¬ (m : Int) = 0 := by omega
    by_cases h2 : 512 < (O : Int) + m
    · rw [if_pos h2] at wE
      rw [wE]
      have h4 : (512 : Int) - (O : Int) < (m : Int) := by omega
      clear h e wE hyl ex ep hd wi hE h2
      go_enter Tryz.func27, Tryz.ntmps27
      go_wp2_with (go_at_call 64; refine FD.out.mono ?_; rintro e w' ⟨rfl, rfl⟩)
      go_ret
      exact FIN.out 15 0
    rw [if_neg h2, Int.toNat_natCast] at wE
    by_cases h3 : s.fr < needN x.b.length O m
    · rw [if_pos h3] at wE
      rw [wE]
      have h4 : ¬ (512 : Int) - (O : Int) < (m : Int) := by omega
      obtain ⟨z, hz⟩ : ∃ z, z = O + m := ⟨_, rfl⟩
      have hz2 : (O : Int) + (m : Int) = (z : Int) := by omega
      have RM := hide (room_any hd z (by omega))
      have hno : decide (blkN z ≤ blkN x.b.length + s.fr) = false := decide_eq_false (by rw [hz]; unfold needN at h3; omega)
      rw [hno] at RM
      have i1 : (z : Int) ≤ 512 := by omega
      clear h e wE hyl ex ep hd wi hE h2 h3 hno hz
      go_enter Tryz.func27, Tryz.ntmps27
      go_wp2_with (first
        | (go_at_call 64; refine FD.out.mono ?_; rintro e w' ⟨rfl, rfl⟩)
        | (go_at_call 65; refine RM.out.mono ?_; rintro e w' ⟨rfl, k9, rfl⟩))
      go_ret
      exact FIN.out 15 _
    · rw [if_neg h3] at wE
      rcases hE with h9 | h9
      · exact absurd wE h9
      · exact absurd h9 h1
theorem SpM.ints (h : SpM w U H S A Q M (p ++ x :: q) st tag) : Ints .i64 w x.fa x.F.length (nums x.F) := by
  obtain ⟨A', C', e, i, _⟩ := own_ints (h.ok x mid_of).fs
  have e' : Value.slice x.fa x.F.length x.fc = Value.slice A' x.F.length C' := e
  injection e' with e1 _ e2
  subst e1 e2
  exact i
theorem SpM.fnd (h : SpM w U H S A Q M (p ++ x :: q) st tag) : x.F.Nodup := by
  have := h.nod; rw [fss_mid, List.nodup_append] at this; exact (List.nodup_append.1 this.2.1).1
theorem SpM.ftk (h : SpM w U H S A Q M (p ++ x :: q) st tag) : ∀ f ∈ x.F, f < st.n ∧ st.tk f = true := fun f hf => h.tkn f (by rw [fss_mid]; exact List.mem_append_right _ (List.mem_append_left _ hf))
theorem ints_made (w : World) (g : Nat) (t : TypeId) : Ints .u8 (w.alloc (.cells (madeCells #[.int .u8 0] g) t)) (some ⟨w.heap.size, 0, none⟩) g (List.replicate g 0) := by
  refine ⟨List.length_replicate, fun _ => ⟨_, _, rfl, fun j hj => ?_⟩⟩
  have e : madeCells #[Value.int .u8 0] g = (List.replicate g (Value.int .u8 0)).toArray := by rw [← toList_madeCells_one]
  rw [e, cell_of_row _ _ _ _ _ _ (heap_alloc_new _ _)]
  simp [hj, List.getElem?_replicate]
theorem cat_two {W : World} {b : Option Addr} {r1 r2 : Rw Int} {B : Nat} (hr : Reads 1 rwV W b 2 [r1, r2]) (h1 : RwOk 1 byVals W r1) (h2 : RwOk 1 byVals W r2) (hB : B ≤ W.heap.size) {w1 : World} (bw : Below B w1 W) : Calls Tryz.prog 68 #[.slice b 2 2] W fun e w' => ∃ av cv, e = .returned (.slice av (r1.n + r2.n) cv) ∧ Below B w1 w' ∧ w'.ownsRow B 5 1 (.slice av (r1.n + r2.n) cv) (r1.n + r2.n) ((r1.xs ++ r2.xs).map (Value.int .u8)) := by
  refine (cat_by W b 2 2 _ hr (by omega) (fun r h => by simp at h; rcases h with rfl | rfl; exact h1; exact h2)).mono ?_
  rintro e w' ⟨v, rfl, o, b'⟩
  have el : (flatR [r1, r2]).length = r1.n + r2.n := by rw [← h1.reads.1, ← h2.reads.1]; simp [flatR]
  have ef : (flatR [r1, r2]).flatMap byVals = (r1.xs ++ r2.xs).map (Value.int .u8) := by
    have : ∀ l : List Int, l.flatMap byVals = l.map (Value.int .u8) := fun l => by induction l with
      | nil => rfl
      | cons y l ih => simp [byVals, ih]
    rw [this]; simp [flatR]
  rw [el, ef] at o
  obtain ⟨av, cv, rfl, -⟩ := own_sliceR o
  exact ⟨av, cv, rfl, bw.trans (b'.mono hB), own_mono o hB⟩
/-- What is written lies there; the file has it. -/
theorem SpAt.wrote (hd : SpAt w U H S A Q M s (p ++ x :: q) st tag) {id : Int} (ex : x.id = id) (ep : ∀ y ∈ p, y.id ≠ id) {O m : Nat} {ys : List Int} (hyl : ys.length = m) (hb : Bytes ys) (hm0 : 0 < m) (hO : O + m ≤ 512) (hneed : needN x.b.length O m ≤ s.fr)
    {k : Nat} {w1 w2 w3 : World} {U1 : Nat → Prop} {x1 : Rfl} {st1 st3 : St} {tag1 : Nat → Int} (m1 : SpM w1 U1 H S A Q M (p ++ x1 :: q) st1 tag1) (t1 : Touch U (w.drewN k) w1) (s1 : ∀ i, U1 i → U i ∨ w.heap.size ≤ i) (q1 : x1.id = x.id) (q3 : x1.b = wrB x.b O ys) (q4 : x1.F.length = blkN x1.b.length) (q5 : st1.bt = st.bt) (q6 : ∃ E, x1.F = x.F ++ E) (q7 : st1.fr.length + (blkN x1.b.length - blkN x.b.length) = st.fr.length)
    (W2 : Below w1.heap.size w1 w2) {g : Nat} (hg : g = O - x.b.length) (K3 : Wrk w2 w3 H A Q st1 x1.F x1.F.length (O - g) (List.replicate g 0 ++ ys) (g + m) st3) :
    SideO (fun w' U' => PSo H w' U' S (wrS s id O ys)) U w (.int .i64 0) (.returned (.int .i64 0)) w3 := by
  have m2 := m1.below W2
  obtain ⟨apB, apS, apM, ap4, ap5⟩ := m2.apart
  have hl1 : x1.b.length = max x.b.length (O + m) := by rw [q3, wrB_len, hyl]
  have blk := hd.p.blk x mid_of
  obtain ⟨E, q6⟩ := q6
  obtain ⟨U3, tag3, m3, t3, s3⟩ := m2.turn (x' := x1) (K3.tch.mono fun i e => .inl (.inr (.inl e))) K3.fr ((m2.ok x1 mid_of).touch K3.tch (fun e => (apB A (.inr (.inl rfl))).2.2.1 e.symm) (fun g hg e => (apB A (.inr (.inl rfl))).2.2.2 (by rw [← e]; exact hg))) rfl rfl (fun g hg => .inl hg) m2.nod (fun f hf => by rw [K3.n, K3.tk]; exact m2.tkn f hf)
  have tw : Touch U w w1 := ((Touch.refl U w).drewN k).trans t1 (fun i e => .inl e)
  have hget : getFi s.l id = some x.b := by rw [hd.p.l, List.map_append]; exact get_split ex ep
  have hwE : wrE s id (O : Int) m = 0 := by
    unfold wrE; rw [hget]
    show (if (O : Int) < 0 then 19 else if m = 0 then 0 else if 512 < (O : Int) + m then 15 else if s.fr < needN x.b.length ((O : Int).toNat) m then 15 else 0) = 0
    rw [if_neg (by omega), if_neg (by omega), if_neg (by omega), Int.toNat_natCast, if_neg (by omega)]
  have hwS : wrS s id (O : Int) ys = ⟨putFi s.l id (wrB x.b O ys), s.fr - needN x.b.length O m⟩ := by
    unfold wrS
    rw [hyl, if_pos ⟨hwE, by omega⟩, hget, Int.toNat_natCast]; rfl
  have sz1 : w.heap.size ≤ w1.heap.size := tw.size
  have sz2 := W2.size
  refine ⟨rfl, U3, ⟨A, Q, M, p ++ x1 :: q, st3, tag3, m3, ⟨?_, ?_, hd.p.good.wr hb, fun y hy => ?_, fun y hy => ?_⟩⟩, tw.trans ((Touch.of_below (S := U1) W2).trans t3 (fun i e => .inl e)) s1, fun i hi => ?_⟩
  · rw [hwS]
    show putFi s.l id (wrB x.b O ys) = _
    rw [hd.p.l, put_split ex ep, ← q3, List.map_append, ← ex, ← q1]; rfl
  · rw [hwS]
    show s.fr - needN x.b.length O m = _
    rw [K3.fs]
    have := hd.p.fr
    rw [hl1] at q7
    unfold needN at hneed ⊢
    unfold blkN at *
    omega
  · rcases mid_mem hy with rfl | hy
    · exact q4
    · exact hd.p.blk y (by rcases hy with hy | hy; exact List.mem_append_left _ hy; exact List.mem_append_right _ (List.mem_cons_of_mem _ hy))
  · rcases mid_mem hy with rfl | hy
    · intro j hj
      rw [hl1] at hj
      rw [q3, wrB_getD]
      have hb3 := K3.byt
      rw [q6] at hb3
      have hlE : j < (x.F ++ E).length * 64 := by rw [← q6, q4, hl1]; unfold blkN; omega
      have := gap_bytes (st2 := st3) hyl hg hm0 blk (fun j hj => hd.p.byt x mid_of j hj) q5 (hb3 j hlE) hj
      rw [this, q6]; rfl
    · intro j hj
      have hy' : y ∈ p ++ x :: q := by rcases hy with hy | hy; exact List.mem_append_left _ hy; exact List.mem_append_right _ (List.mem_cons_of_mem _ hy)
      have hjF : j / 64 < y.F.length := by rw [hd.p.blk y hy']; unfold blkN; omega
      have hin : y.F.getD (j / 64) 0 ∈ y.F := by
        rw [List.getD_eq_getElem?_getD, List.getElem?_eq_getElem hjF]; exact List.getElem_mem _
      rw [K3.oth _ (fss_other m1.nod hy hin), q5]
      exact hd.p.byt y hy' j hj
  · rcases s3 i hi with e | e
    · exact s1 i e
    · exact .inr (by omega)
set_option maxRecDepth 10000 in
set_option maxHeartbeats 4000000 in
theorem pwr_some (hd : SpAt w U H S A Q M s (p ++ x :: q) st tag) {id : Int} (wi : (Lit.int .i64 id).wf = true) (ex : x.id = id) (ep : ∀ y ∈ p, y.id ≠ id) {O : Nat} {a : Option Addr} {m c : Nat} {ys : List Int} (hi : Ints .u8 w a m ys) (hc : a = none → c = 0) (hb : Bytes ys) (hm0 : 0 < m) (hO : O + m ≤ 512) (hneed : needN x.b.length O m ≤ s.fr) (ha : ∀ b o, a = some ⟨b, o, none⟩ → ¬ U b) :
    Calls Tryz.prog 27 #[.pointer (some ⟨S, 0, none⟩), .int .i64 id, .int .i64 (O : Int), .slice a m c] w (SideO (fun w' U' => PSo H w' U' S (wrS s id O ys)) U w (.int .i64 0)) := by
  have FD := hide (find_some hd wi ex ep)
  have HD := hide hd
  have EX := hide ex
  have EP := hide ep
  have HI := hide hi
  have HC := hide hc
  have HB := hide hb
  have HA := hide ha
  have NE := hide hneed
  have hyl : ys.length = m := hi.1
  have blk := hd.p.blk x mid_of
  have ol5 : x.b.length ≤ 512 := hd.p.good.le x.fi (by rw [hd.p.l]; exact List.mem_map_of_mem mid_of)
  obtain ⟨z, hz⟩ : ∃ z, z = O + m := ⟨_, rfl⟩
  obtain ⟨ol, hol⟩ : ∃ ol, ol = x.b.length := ⟨_, rfl⟩
  obtain ⟨g, hg⟩ : ∃ g, g = O - ol := ⟨_, rfl⟩
  obtain ⟨nb, hnb⟩ : ∃ nb, nb = wrB x.b O ys := ⟨_, rfl⟩
  have NB := hide hnb
  have hnl : nb.length = max x.b.length z := by rw [hnb, wrB_len, hyl, hz]
  have hroom : blkN z ≤ blkN x.b.length + s.fr := by rw [hz]; unfold needN at hneed; omega
  have RM := hide (room_any hd z (by omega))
  rw [decide_eq_true hroom] at RM
  have GW := hide (fun k => grow_any (hd.m.below (below_drewN (Below.refl w.heap.size w) k)) blk ol5 (show z ≤ 512 by omega) (by rw [blk, ← hd.p.fr]; exact hroom) hnl)
  have FA := hide (show z = O + m ∧ ol = x.b.length ∧ g = O - ol ∧ ys.length = m ∧ 0 < m ∧ z ≤ 512 ∧ ol ≤ 512 ∧ nb.length = max ol z from ⟨hz, hol, hg, hyl, hm0, by omega, by omega, by rw [hol]; exact hnl⟩)
  have e1 : max ((O : Int) - (ol : Int)) 0 = (g : Int) := by omega
  have e2 : (O : Int) + (m : Int) = (z : Int) := by omega
  have e3 : (O : Int) - (g : Int) = ((O - g : Nat) : Int) := by omega
  have c0 := (hd.m.ok x mid_of).c0
  rw [← hol] at c0
  have n1 : ¬ (O : Int) < 0 := by omega
  have n2 : ¬ (m : Int) = 0 := by omega
  have n3 : ¬ (512 : Int) - (O : Int) < (m : Int) := by omega
  have n4 : (z : Int) ≤ 512 := by omega
  have n5 : (ol : Int) ≤ 512 := by omega
  have n6 : (g : Int) ≤ 512 := by omega
  have n7 : (0 : Int) ≤ (g : Int) := by omega
  have n8 : (O : Int) ≤ 512 := by omega
  have hmf : ∀ fn first cap w, (Instr.makeFunc fn first cap).run Tryz.prog w = .ok (.func fn first cap) w := fun _ _ _ _ => rfl
  clear hd ex ep hi hc hb ha hyl blk ol5 hz hol hg hnb hnl hroom hneed wi hO hm0
  go_enter Tryz.func27, Tryz.ntmps27
  go_upto_region 12 with (first
    | (go_at_call 64; refine FD.out.mono ?_; rintro e w' ⟨rfl, rfl⟩)
    | (go_at_call 65; refine RM.out.mono ?_; rintro e w' ⟨rfl, k9, rfl⟩)
    | (go_at_call 66; refine (GW.out k9).mono ?_; rintro e w1 ⟨rfl, hG⟩; have HG := hide hG; clear hG))
  obtain ⟨U1, x1, st1, tag1, m1, t1, s1, q1, q2, q3, q4, q5, ⟨E, q6⟩, q7⟩ := HG.out
  have x0 := m1.c0
  have M1 := hide m1
  have T1 := hide t1
  have S1 := hide s1
  have QQ := hide (show x1.id = x.id ∧ x1.bc = x.bc ∧ x1.b = nb ∧ x1.F.length = blkN nb.length ∧ st1.bt = st.bt ∧ x1.F = x.F ++ E ∧ st1.fr.length + (blkN nb.length - blkN x.b.length) = st.fr.length from ⟨q1, q2, q3, q4, q5, q6, q7⟩)
  clear m1 t1 s1 q1 q2 q3 q4 q5 q6 q7 HG c0 RM FD GW e1
  have hwr : IntKind.i64.wrap (((O - g : Nat) : Int)) = ((O - g : Nat) : Int) := by rw [IntKind.wrap_i64]; omega
  have hmk := fun W => run_make_bytes W g (by have := FA.out; omega)
  have B2 := hide (show ∀ W, W = ((w1.alloc (.cells (madeCells #[.int .u8 0] g) 5)).alloc (.cells #[.slice (some ⟨w1.heap.size, 0, none⟩) g g, .slice a m c] 30)).drew → Below w1.heap.size w1 W ∧ W.heap.size = w1.heap.size + 2 from by
    rintro W rfl
    exact ⟨(((Below.refl w1.heap.size w1).alloc (Nat.le_refl _) _).alloc (by simp) _).drew, by show ((w1.alloc _).alloc _).heap.size = _; simp⟩)
  have y1 : (w1.alloc (.cells (madeCells #[.int .u8 0] g) 5)).drew.cell? ⟨S, 0, none⟩ = some (.pointer (some ⟨H, 0, none⟩)) := (((Below.refl w1.heap.size w1).alloc (Nat.le_refl _) _).drew.cell (lt_of_cell? x0)).trans x0
  have y2 : ((w1.alloc (.cells (madeCells #[.int .u8 0] g) 5)).alloc (.cells #[.slice (some ⟨w1.heap.size, 0, none⟩) g g, .slice a m c] 30)).drew.cell? ⟨S, 0, none⟩ = some (.pointer (some ⟨H, 0, none⟩)) := ((B2.out _ rfl).1.cell (lt_of_cell? x0)).trans x0
  have CT := hide (show ∀ W, W = ((w1.alloc (.cells (madeCells #[.int .u8 0] g) 5)).alloc (.cells #[.slice (some ⟨w1.heap.size, 0, none⟩) g g, .slice a m c] 30)).drew → Calls Tryz.prog 68 #[.slice (some ⟨w1.heap.size + 1, 0, none⟩) 2 2] W fun e w' => ∃ av cv, e = .returned (.slice av (g + m) cv) ∧ Hid (Below w1.heap.size w1 w') ∧ Hid (w'.ownsRow w1.heap.size 5 1 (.slice av (g + m) cv) (g + m) ((List.replicate g 0 ++ ys).map (Value.int .u8))) ∧ w'.cell? ⟨S, 0, none⟩ = some (.pointer (some ⟨H, 0, none⟩)) from by
    intro W hW
    obtain ⟨bW, zW⟩ := B2.out W hW
    obtain ⟨-, -, -, hyl, -, hz5, -, -⟩ := FA.out
    have hm5 : m ≤ 512 := by omega
    have tw : Touch U w w1 := ((Touch.refl U w).drewN _).trans T1.out (fun i e => .inl e)
    have r2 : RwOk 1 byVals W (⟨a, m, c, ys⟩ : Rw Int) := ⟨reads_of_ints ((tw.ints HI.out HA.out).below bW), HC.out, by show m ≤ 1000; omega⟩
    have r1 : RwOk 1 byVals W (⟨some ⟨w1.heap.size, 0, none⟩, g, g, List.replicate g 0⟩ : Rw Int) := ⟨reads_of_ints (by
      rw [hW]
      refine (ints_made w1 g 5).below ?_
      exact ((Below.refl _ _).alloc (Nat.le_refl _) _).drew), (fun e => by cases e), by show g ≤ 1000; omega⟩
    have rr : Reads 1 rwV W (some ⟨w1.heap.size + 1, 0, none⟩) 2 [(⟨some ⟨w1.heap.size, 0, none⟩, g, g, List.replicate g 0⟩ : Rw Int), ⟨a, m, c, ys⟩] := by
      refine ⟨rfl, fun _ => ⟨_, _, rfl, fun i y hy j u hu => ?_⟩⟩
      have hj : j < 1 := (List.getElem?_eq_some_iff.1 hu).1
      obtain rfl : j = 0 := by omega
      have hrow : W.heap[w1.heap.size + 1]? = some (.cells #[.slice (some ⟨w1.heap.size, 0, none⟩) g g, .slice a m c] 30 (0, 0)) := by
        rw [hW]
        have := heap_alloc_new (w1.alloc (.cells (madeCells #[.int .u8 0] g) 5)) (.cells #[.slice (some ⟨w1.heap.size, 0, none⟩) g g, .slice a m c] 30)
        rw [show (w1.alloc (.cells (madeCells #[.int .u8 0] g) 5)).heap.size = w1.heap.size + 1 from by simp] at this
        exact this
      rw [cell_of_row _ _ _ _ _ _ hrow]
      match i, hy with
      | 0, hy => injection hy with hy; subst hy; injection hu with hu; rw [← hu]; rfl
      | 1, hy => injection hy with hy; subst hy; injection hu with hu; rw [← hu]; rfl
    refine (cat_two rr r1 r2 (by omega) bW).mono ?_
    rintro e w' ⟨av, cv, rfl, b', o'⟩
    exact ⟨av, cv, rfl, b', o', (b'.cell (lt_of_cell? x0)).trans x0⟩)
  have OV := hide (show ∀ (w2 : World) (av : Option Addr) (cv : Nat), Below w1.heap.size w1 w2 → w2.ownsRow w1.heap.size 5 1 (.slice av (g + m) cv) (g + m) ((List.replicate g 0 ++ ys).map (Value.int .u8)) → w2.cell? ⟨S, 0, none⟩ = some (.pointer (some ⟨H, 0, none⟩)) → Calls Tryz.prog 67 #[.pointer (some ⟨x.bc, 0, none⟩), .int .i64 ((O - g : Nat) : Int), .slice av (g + m) cv, .func (.func 69) #[.pointer (some ⟨H, 0, none⟩)] #[]] w2 fun e w' => e = .returned (.int .i64 0) ∧ (∃ st', Hid (Wrk w2 w' H A Q st1 x1.F x1.F.length (O - g) (List.replicate g 0 ++ ys) (g + m) st')) ∧ w'.cell? ⟨S, 0, none⟩ = some (.pointer (some ⟨H, 0, none⟩)) from by
    intro w2 av cv b2 o2 c2
    obtain ⟨hz, hol, hg, hyl, hm0, hz5, hol5, hnl⟩ := FA.out
    obtain ⟨q1, q2, q3, q4, q5, q6, q7⟩ := QQ.out
    have m2 := M1.out.below b2
    obtain ⟨apB, apS, apM, ap4, ap5⟩ := m2.apart
    have hA := M1.out.lt A (M1.out.us.2.2 A (.inr (.inl rfl)))
    obtain ⟨av', cv', ev, hcc, hle, hml, -⟩ := own_sliceR o2
    injection ev with ev1 _ ev2
    subst ev1 ev2
    obtain ⟨A', C', e, i2, _⟩ := own_ints o2
    injection e with e1 _ e2
    subst e1 e2
    have hL : x1.F.length = blkN (max ol z) := by rw [q4, hnl]
    have c1 := (m2.ok x1 mid_of).c1
    unfold Rfl.fv at c1
    rw [q2] at c1
    refine (over_write (B := x.bc) (L := x1.F.length) (fc := x1.fc) (off := O - g) m2.fr c1 m2.ints (by rw [hL]; exact blkN_le8 _ (by omega)) m2.fnd m2.ftk i2 ?_ (fun _ => by rw [hL]; unfold blkN; omega) (by omega) hle hml ?_ ?_ ?_).mono ?_
    · intro y hy
      rcases List.mem_append.1 hy with hy | hy
      · rw [List.eq_of_mem_replicate hy]; omega
      · exact HB.out y hy
    · rw [← q2]; exact fun e => (apB A (.inr (.inl rfl))).2.2.1 e.symm
    · intro b o e e2
      refine (apB A (.inr (.inl rfl))).2.2.2 ?_
      unfold Rfl.fv; rw [e, e2]; rfl
    · intro b o e e2
      have := (o2.lt b (by rw [e]; rfl)).1
      omega
    · rintro e w' ⟨rfl, st', K⟩
      exact ⟨rfl, ⟨st', K⟩, K.tch.cell c2 (fun e => (apB A (.inr (.inl rfl))).1 e.symm)⟩)
  have FIN := hide (fun (w2 w3 : World) (st3 : St) (b2 : Below w1.heap.size w1 w2) (k3 : Wrk w2 w3 H A Q st1 x1.F x1.F.length (O - g) (List.replicate g 0 ++ ys) (g + m) st3) => show SideO (fun w' U' => PSo H w' U' S (wrS s id (O : Int) ys)) U w (.int .i64 0) (.returned (.int .i64 0)) w3 from by
    obtain ⟨hz, hol, hg, hyl, hm0, hz5, hol5, hnl⟩ := FA.out
    obtain ⟨q1, q2, q3, q4, q5, q6, q7⟩ := QQ.out
    exact SpAt.wrote HD.out EX.out EP.out hyl HB.out hm0 (by omega) NE.out M1.out T1.out S1.out q1 (by rw [q3, NB.out]) (by rw [q3]; exact q4) q5 ⟨_, q6⟩ (by rw [q3]; exact q7) b2 (by rw [hg, hol]) k3)
  go_region_held3 (fun w' => w'.cell? ⟨S, 0, none⟩ = some (.pointer (some ⟨H, 0, none⟩))) (first | with_reducible exact qq2 | with_reducible exact qq | with_reducible exact y2 | with_reducible exact y1 | exact x0) (first
    | (go_at_call 68; with_reducible refine (CT.out _ rfl).mono ?_; rintro e w2 ⟨av, cv, rfl, W2, O2, qq⟩)
    | (go_at_call 67; with_reducible refine (OV.out _ _ _ W2.out O2.out qq).mono ?_; rintro e w3 ⟨rfl, ⟨st3, K3⟩, qq2⟩))
  all_goals (go_wp2_with fail)
  all_goals go_ret
  all_goals exact FIN.out _ _ _ W2.out K3.out
theorem pwr_any (h : PSo H w U S s) {id off : Int} (wi : (Lit.int .i64 id).wf = true) (wo : (Lit.int .i64 off).wf = true) {a : Option Addr} {m c : Nat} {ys : List Int} (hi : Ints .u8 w a m ys) (hc : a = none → c = 0) (hb : Bytes ys) (hm : m ≤ 1000000) (ha : 0 < m → ∀ b o, a = some ⟨b, o, none⟩ → ¬ U b) :
    Calls Tryz.prog 27 #[.pointer (some ⟨S, 0, none⟩), .int .i64 id, .int .i64 off, .slice a m c] w (SideO (fun w' U' => PSo H w' U' S (wrS s id off ys)) U w (.int .i64 (wrE s id off m : Nat))) := by
  by_cases hE : wrE s id off m ≠ 0 ∨ m = 0
  · exact pwr_no h wi wo hi.1 hm hE
  have h0 : wrE s id off m = 0 := by omega
  have hm0 : 0 < m := by omega
  cases e : getFi s.l id with
  | none => have : wrE s id off m = 4 := by unfold wrE; rw [e]; rfl
            omega
  | some o =>
    obtain ⟨A, Q, M, p, x, q, st, tag, ex, rfl, ep, hd⟩ := h.split e
    have wE : wrE s id off m = if off < 0 then 19 else if m = 0 then 0 else if 512 < off + m then 15 else if s.fr < needN x.b.length off.toNat m then 15 else 0 := by
      unfold wrE; rw [e]; rfl
    rw [h0] at wE
    have h1 : ¬ off < 0 := fun h => by rw [if_pos h] at wE; omega
    rw [if_neg h1, if_neg (by omega)] at wE
    have h2 : ¬ 512 < off + m := fun h => by rw [if_pos h] at wE; omega
    rw [if_neg h2] at wE
    have h3 : ¬ s.fr < needN x.b.length off.toNat m := fun h => by rw [if_pos h] at wE; omega
    obtain ⟨O, rfl⟩ := Int.eq_ofNat_of_zero_le (show 0 ≤ off by omega)
    rw [Int.toNat_natCast] at h3
    rw [h0]
    exact pwr_some hd wi ex ep hi hc hb hm0 (by omega) (by omega) (ha hm0)
end
end Go.Proofs.YtndfnglcichngaaGreatDoor
