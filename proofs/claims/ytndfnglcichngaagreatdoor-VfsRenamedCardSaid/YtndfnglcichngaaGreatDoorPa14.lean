/-
  Several texts as one: IdRefE IdRefF IdBoth IdAct IdDone IdSame IdScript IdNames VfFacts VfRefA.
-/
import Derived.Laws.Cover1
import Derived.Test.YtndfnglcichngaaGreatDoorPa13
import Derived.Test.YtndfnglcichngaaGreatDoorSoBothPb
import Derived.Test.YtndfnglcichngaaGreatDoorPa09
import Derived.Test.YtndfnglcichngaaGreatDoorPa10
import Derived.Deep.RegionHeld3
import Derived.Test.YtndfnglcichngaaGreatDoorPa15
import Derived.Test.YtndfnglcichngaaGreatDoorPa04
namespace Go.Proofs.YtndfnglcichngaaGreatDoor
open Go.ChangeShapes Go.WideShapes Go.ChangeAt Go.RowKit
set_option linter.unusedVariables false
set_option linter.unusedSimpArgs false
section
variable {w : World} {D : Nat → Prop} {T R S : Nat} {s : In} {E : Nat → Prop} {V : Nat → Value}
/-- What is gone through, with the new one in (b), or not yet. -/
def InsAt (l : List Ent) (e : Ent) (k : Nat) (b : Bool) (M : List Ent) : Prop := if b then M ++ l.drop k = insL l e else M = l.take k ∧ M ++ insL (l.drop k) e = insL l e
theorem InsAt.first (l : List Ent) (e : Ent) : InsAt l e 0 false [] := ⟨rfl, rfl⟩
theorem insL_cons (x : Ent) (l : List Ent) (e : Ent) : insL (x :: l) e = if ltT e.nm x.nm then e :: x :: l else x :: insL l e := rfl
theorem drop_at {l : List Ent} {k : Nat} {x : Ent} (hx : l[k]? = some x) : l.drop k = x :: l.drop (k + 1) := by
  rw [List.drop_eq_getElem_cons (List.getElem?_eq_some_iff.1 hx).1, (List.getElem?_eq_some_iff.1 hx).2]
theorem InsAt.next {l : List Ent} {e x : Ent} {k : Nat} {M : List Ent} (h : InsAt l e k true M) (hx : l[k]? = some x) : InsAt l e (k + 1) true (M ++ [x]) := by
  have h : M ++ l.drop k = insL l e := h
  show (M ++ [x]) ++ l.drop (k + 1) = insL l e
  rw [← h, drop_at hx, List.append_assoc, List.singleton_append]
theorem InsAt.pass {l : List Ent} {e x : Ent} {k : Nat} {M : List Ent} (h : InsAt l e k false M) (hx : l[k]? = some x) (hn : ltT e.nm x.nm = false) : InsAt l e (k + 1) false (M ++ [x]) := by
  have h : M = l.take k ∧ M ++ insL (l.drop k) e = insL l e := h
  refine (show M ++ [x] = l.take (k + 1) ∧ (M ++ [x]) ++ insL (l.drop (k + 1)) e = insL l e from ⟨by rw [List.take_add_one, hx, h.1]; rfl, ?_⟩)
  rw [← h.2, drop_at hx, insL_cons, hn, List.append_assoc, List.singleton_append]; rfl
theorem InsAt.turn {l : List Ent} {e x : Ent} {k : Nat} {M : List Ent} (h : InsAt l e k false M) (hx : l[k]? = some x) (hn : ltT e.nm x.nm = true) : InsAt l e (k + 1) true (M ++ [e] ++ [x]) := by
  have h : M = l.take k ∧ M ++ insL (l.drop k) e = insL l e := h
  show ((M ++ [e]) ++ [x]) ++ l.drop (k + 1) = insL l e
  rw [← h.2, drop_at hx, insL_cons, hn]
  simp
theorem InsAt.end_ {l : List Ent} {e : Ent} {k : Nat} {M : List Ent} (hk : l.length ≤ k) : (InsAt l e k true M → M = insL l e) ∧ (InsAt l e k false M → M ++ [e] = insL l e) := by
  refine ⟨fun h => ?_, fun h => ?_⟩
  · have h : M ++ l.drop k = insL l e := h
    rw [← h, List.drop_of_length_le hk, List.append_nil]
  · have h : M = l.take k ∧ M ++ insL (l.drop k) e = insL l e := h
    rw [← h.2, List.drop_of_length_le hk]; rfl
theorem InsAt.len {l : List Ent} {e : Ent} {k : Nat} {b : Bool} {M : List Ent} (h : InsAt l e k b M) : M.length ≤ l.length + 1 := by
  cases b with
  | true => have h : M ++ l.drop k = insL l e := h
            have := congrArg List.length h
            rw [List.length_append, insL_len] at this; omega
  | false => have h : M = l.take k ∧ M ++ insL (l.drop k) e = insL l e := h
             rw [h.1, List.length_take]; omega
theorem gt_facts {x t : Txt} (hne : x ≠ t) : Op.bytesLess (bt x).toList (bt t).toList = !ltT t x ∧ ((bt x).toList == (bt t).toList) = false := by
  rw [bt_eq, decide_eq_false hne, bt_list, bt_list]
  refine ⟨?_, rfl⟩
  have := gtT_iff x t
  rw [decide_eq_false hne, Bool.or_false] at this
  show ltT x t = _
  rw [← this]; simp
set_option maxRecDepth 10000 in
set_option maxHeartbeats 8000000 in
theorem tenter_any (h : RtAt w D T R S s E V) {B : Int} (g : GoodP s [] B) (hB : B ≤ 1000000) (d : Int) (t : Txt) (ht : t.length ≤ 1000000) (id : Int) : Calls Tryz.prog 83 #[.pointer (some ⟨T, 0, none⟩), .int .i64 d, .string (bt t), .int .i64 id] w fun e w' => e = .returned (.int .i64 (enIE s d t id : Nat)) ∧ Rto w w' D E T R S (enI s d t id) := by
  have IS := hide (tis_any h id)
  have ID := hide (tisdir_any h d)
  have FD := hide (tfind_any h g.few d t)
  have NM := hide (rname_any w t ht)
  have FIN := hide (Rto.refl h)
  cases e1 : dirI s d with
  | false =>
    have hE : enIE s d t id = 11 := by unfold enIE; rw [e1]; rfl
    rw [hE, show enI s d t id = s from by unfold enI; rw [if_neg (by rw [hE]; decide)]]
    rw [e1] at ID
    clear h g e1 hE
    go_enter Tryz.func83, Tryz.ntmps83
    go_wp2_with (go_at_call 78; refine ID.out.mono ?_; rintro e w' ⟨rfl, rfl⟩)
    go_ret
    exact ⟨rfl, FIN.out⟩
  | true =>
  rw [e1] at ID
  by_cases e2 : ¬ nameE t = 0
  · have hE : (enIE s d t id : Int) = nameE t := by unfold enIE; rw [e1, if_neg (by simp), if_pos e2]; have := nameE_range t; omega
    have hE0 : enIE s d t id ≠ 0 := by omega
    rw [show enI s d t id = s from by unfold enI; rw [if_neg hE0], hE]
    obtain ⟨z, hz⟩ : ∃ z, z = nameE t := ⟨_, rfl⟩
    rw [← hz] at NM e2 ⊢
    clear h g e1 hE hE0 hz
    go_enter Tryz.func83, Tryz.ntmps83
    go_wp2_with (first
      | (go_at_call 78; refine ID.out.mono ?_; rintro e w' ⟨rfl, rfl⟩)
      | (go_at_call 117; refine NM.out.mono ?_; rintro e w' ⟨rfl, rfl⟩))
    go_ret
    exact ⟨rfl, FIN.out⟩
  replace e2 : nameE t = 0 := Classical.not_not.1 e2
  rw [e2] at NM
  have wE : enIE s d t id = if isI s id = false ∨ id = 0 then 4 else if (findL (s.n d.toNat).l t).isSome = true then 10 else if (s.n d.toNat).l.length = 8 then 15 else 0 := by
    unfold enIE; rw [e1, if_neg (by simp), if_neg (by simp [e2])]
  cases e3 : isI s id with
  | false =>
    rw [e3, if_pos (.inl rfl)] at wE
    rw [show enI s d t id = s from by unfold enI; rw [if_neg (by rw [wE]; decide)], wE]
    rw [e3] at IS
    clear h g e1 e2 e3 wE
    go_enter Tryz.func83, Tryz.ntmps83
    go_wp2_with (first
      | (go_at_call 78; refine ID.out.mono ?_; rintro e w' ⟨rfl, rfl⟩)
      | (go_at_call 86; refine IS.out.mono ?_; rintro e w' ⟨rfl, rfl⟩)
      | (go_at_call 117; refine NM.out.mono ?_; rintro e w' ⟨rfl, rfl⟩))
    go_ret
    exact ⟨rfl, FIN.out⟩
  | true =>
  rw [e3] at IS
  by_cases e4 : id = 0
  · rw [if_pos (.inr e4)] at wE
    rw [show enI s d t id = s from by unfold enI; rw [if_neg (by rw [wE]; decide)], wE]
    subst e4
    clear h g e1 e2 e3 wE
    go_enter Tryz.func83, Tryz.ntmps83
    go_wp2_with (first
      | (go_at_call 78; refine ID.out.mono ?_; rintro e w' ⟨rfl, rfl⟩)
      | (go_at_call 86; refine IS.out.mono ?_; rintro e w' ⟨rfl, rfl⟩)
      | (go_at_call 117; refine NM.out.mono ?_; rintro e w' ⟨rfl, rfl⟩))
    go_ret
    exact ⟨rfl, FIN.out⟩
  rw [e3, if_neg (by simp [e4])] at wE
  obtain ⟨i, rfl, i16, iis, idir⟩ := dirI_yes e1
  obtain ⟨j, rfl, j16, jis⟩ := isI_yes e3
  rw [Int.toNat_natCast] at wE
  have hfE : fiIE s (i : Int) t = if (findL (s.n i).l t).isSome then 0 else 9 := by unfold fiIE; rw [e1, Int.toNat_natCast]; rfl
  have j0n : j ≠ 0 := by omega
  have z4 : ¬ (j : Int) = 0 := e4
  obtain ⟨fi, hfi⟩ : ∃ z, z = fiII s (i : Int) t := ⟨_, rfl⟩
  rw [← hfi] at FD
  by_cases e5 : (findL (s.n i).l t).isSome = true
  · rw [if_pos e5] at wE hfE
    rw [hfE] at FD
    rw [show enI s (i : Int) t (j : Int) = s from by unfold enI; rw [if_neg (by rw [wE]; decide)], wE]
    clear h g e1 e2 e3 wE e5 hfE hfi
    go_enter Tryz.func83, Tryz.ntmps83
    go_wp2_with (first
      | (go_at_call 78; refine ID.out.mono ?_; rintro e w' ⟨rfl, rfl⟩)
      | (go_at_call 86; refine IS.out.mono ?_; rintro e w' ⟨rfl, rfl⟩)
      | (go_at_call 85; refine FD.out.mono ?_; rintro e w' ⟨rfl, rfl⟩)
      | (go_at_call 117; refine NM.out.mono ?_; rintro e w' ⟨rfl, rfl⟩))
    go_ret
    exact ⟨rfl, FIN.out⟩
  rw [if_neg e5] at wE hfE
  rw [hfE] at FD
  obtain ⟨a, c, hv, hr, -, -, -⟩ := h.list i
  have cl := h.cList i16
  rw [hv] at cl
  have i0 : (0 : Int) ≤ (i : Int) := by omega
  have i1 : (i : Int) < 16 := by omega
  by_cases e6 : (s.n i).l.length = 8
  · rw [if_pos e6] at wE
    rw [show enI s (i : Int) t (j : Int) = s from by unfold enI; rw [if_neg (by rw [wE]; decide)], wE]
    rw [e6] at cl
    clear h g e1 e2 e3 wE e5 hfE hfi hv hr
    go_enter Tryz.func83, Tryz.ntmps83
    go_wp2_with (first
      | (go_at_call 78; refine ID.out.mono ?_; rintro e w' ⟨rfl, rfl⟩)
      | (go_at_call 86; refine IS.out.mono ?_; rintro e w' ⟨rfl, rfl⟩)
      | (go_at_call 85; refine FD.out.mono ?_; rintro e w' ⟨rfl, rfl⟩)
      | (go_at_call 117; refine NM.out.mono ?_; rintro e w' ⟨rfl, rfl⟩))
    go_ret
    exact ⟨rfl, FIN.out⟩
  rw [if_neg e6] at wE
  rw [wE, show enI s (i : Int) t (j : Int) = incL (setL s i (insL (s.n i).l ⟨t, j⟩)) j from by unfold enI; rw [if_pos wE, Int.toNat_natCast, Int.toNat_natCast]]
  have hLB := g.links j
  have HR := hide hr
  have n8 : ((s.n i).l.length : Int) < 8 := by have := g.few i; omega
  have z8 : ¬ ((s.n i).l.length : Int) = 8 := by omega
  have HNE := hide (show ∀ x ∈ (s.n i).l, x.nm ≠ t from findL_none.1 (by simpa using e5))
  have LB := hide (show 0 ≤ ((setL s i (insL (s.n i).l ⟨t, j⟩)).n j).links ∧ ((setL s i (insL (s.n i).l ⟨t, j⟩)).n j).links ≤ 128 from by
    have : ((setL s i (insL (s.n i).l ⟨t, j⟩)).n j).links = (s.n j).links := by
      unfold setL In.put upd
      by_cases e : j = i
      · subst e; simp
      · simp [e]
    rw [this]; exact hLB)
  obtain ⟨l, hll⟩ : ∃ l, l = (s.n i).l := ⟨_, rfl⟩
  rw [← hll] at HR n8 cl HNE z8 LB ⊢
  obtain ⟨n, hn⟩ : ∃ n, n = l.length := ⟨_, rfl⟩
  rw [← hn] at cl HR n8 z8
  have NL := hide hn
  have HH := hide h
  have J16 := hide j16
  obtain ⟨i0', hi0, hz0, hz1, hz2⟩ := info_parts entry_info
  have INFO := hide (And.intro hi0 (And.intro hz0 (And.intro hz1 hz2)))
  have CB := hide (fun (W : World) (b : Below w.heap.size w W) => show W.cell? ⟨T, 1 + i * 5 + 4, none⟩ = some (.slice a n c) ∧ W.frozen? ⟨T, 1 + i * 5 + 4, none⟩ = false from ⟨(b.cell (lt_of_cell? cl)).trans cl, ((h.below b).row.frz _)⟩)
  have j0 : (0 : Int) ≤ (j : Int) := by omega
  have j1 : (j : Int) < 16 := by omega
  clear h g e1 e2 e3 wE e5 hfE hfi hv hr e6 hll hn hi0 hz0 hz1 hz2 hLB e4 iis idir jis FIN j16
  go_enter Tryz.func83, Tryz.ntmps83
  go_wp2_with (first
    | (go_at_call 78; refine ID.out.mono ?_; rintro e w' ⟨rfl, rfl⟩)
    | (go_at_call 86; refine IS.out.mono ?_; rintro e w' ⟨rfl, rfl⟩)
    | (go_at_call 85; refine FD.out.mono ?_; rintro e w' ⟨rfl, rfl⟩)
    | (go_at_call 117; refine NM.out.mono ?_; rintro e w' ⟨rfl, rfl⟩))
  try simp only [show ((j : Int) == 0) = false from by simpa using z4, show ((n : Int) == 8) = false from by simpa using z8]
  go_loopw [12, 13, 14] (fun lv bv kv wr => ∃ (k : Nat) (b : Bool), k ≤ n ∧ kv = .int .i64 (k : Int) ∧ bv = .bool b ∧ Hid (Below w.heap.size w wr) ∧ Hid (∃ M, InsAt l ⟨t, j⟩ k b M ∧ wr.ownsRow w.heap.size 105 2 lv M.length (M.flatMap enV))) (fun _ _ kv _ => n - (intOf kv).toNat)
  case atStart => exact ⟨0, false, Nat.zero_le _, rfl, rfl, Below.refl _ _, [], InsAt.first _ _, World.ownsRow_nil _ _ _ _⟩
  case round =>
    obtain ⟨k, bb, hk, rfl, rfl, hBl, hO⟩ := hrel
    rename World => wr
    obtain ⟨cw, fw⟩ := CB.out wr hBl.out
    obtain ⟨M, hM, oM⟩ := hO.out
    have HM := hide hM
    have OM := hide oM
    have ML := hide (show M.length ≤ 8 from by have := hM.len; have := NL.out; omega)
    clear hM oM hO
    by_cases hlt : k < n
    · have k0 : (0 : Int) ≤ (k : Int) := by omega
      have k1 : (k : Int) < (n : Int) := by omega
      obtain ⟨x, b, off, hx, rfl, x0, x1⟩ := (HR.out.below hBl.out).ent hlt
      obtain ⟨g1, g2⟩ := gt_facts (HNE.out x (List.mem_of_getElem? hx))
      have HX := hide hx
      obtain ⟨y, hy⟩ : ∃ y, y = x.nm := ⟨_, rfl⟩
      obtain ⟨z, hz⟩ : ∃ z, z = x.id := ⟨_, rfl⟩
      have HY := hide (show enV x = [.string (bt y), .int .i64 (z : Int)] from by rw [hy, hz]; rfl)
      have HYX := hide hy
      have HZX := hide hz
      rw [← hy] at x0 g1 g2
      rw [← hz] at x1
      clear hx hy hz
      cases bb with
      | true =>
        have NX := hide (HM.out.next HX.out)
        have RD := hide (show Reads 2 enV (wr.alloc (.cells #[.string (bt y), .int .i64 (z : Int)] 105)) (some ⟨wr.heap.size, 0, none⟩) 1 [x] from by have h := reads_ent wr x wr.heap.size rfl 105; rw [← HYX.out, ← HZX.out] at h; exact h)
        have OW1 := hide (OM.out.alloc (.cells #[.string (bt y), .int .i64 (z : Int)] 105))
        have B1 := hide (hBl.out.alloc (by have := hBl.out.size; omega) (.cells #[.string (bt y), .int .i64 (z : Int)] 105))
        go_wp2_with (at_builtin; refine wpList_append_reads rfl (.tmp 85) (.tmp 96) 36 rfl w.heap.size 105 i0' _ 24 (Tryz.underlying36) INFO.out.1 INFO.out.2.1 INFO.out.2.2.1 INFO.out.2.2.2 rfl (by omega) _ M.length _ rfl OW1.out (some ⟨wr.heap.size, 0, none⟩) 1 1 [x] rfl enV_len enV_cell RD.out (fun e => by cases e) (by have := ML.out; unfold maxLen; omega) (by have := ML.out; omega) B1.out.size ?_; intro v3 w3 o3 g3; have O3 := hide o3; have B3 := hide (B1.out.grown g3 B1.out.size (own_lo OW1.out)); clear o3 g3)
        go_roundw
        case rel => exact ⟨k + 1, true, by omega, by go_num, rfl, B3.out, M ++ [x], NX.out, by rw [List.length_append, List.flatMap_append]; exact O3.out⟩
        case measure => simp [intOf]; omega
      | false =>
        cases hl : ltT t y with
        | false =>
          rw [hl] at g1
          have NX := hide (HM.out.pass HX.out (by show ltT t x.nm = false; rw [← HYX.out]; exact hl))
          clear hl
          have RD := hide (show Reads 2 enV (wr.alloc (.cells #[.string (bt y), .int .i64 (z : Int)] 105)) (some ⟨wr.heap.size, 0, none⟩) 1 [x] from by have h := reads_ent wr x wr.heap.size rfl 105; rw [← HYX.out, ← HZX.out] at h; exact h)
          have OW1 := hide (OM.out.alloc (.cells #[.string (bt y), .int .i64 (z : Int)] 105))
          have B1 := hide (hBl.out.alloc (by have := hBl.out.size; omega) (.cells #[.string (bt y), .int .i64 (z : Int)] 105))
          go_wp2_with (at_builtin; refine wpList_append_reads rfl (.tmp 85) (.tmp 96) 36 rfl w.heap.size 105 i0' _ 24 (Tryz.underlying36) INFO.out.1 INFO.out.2.1 INFO.out.2.2.1 INFO.out.2.2.2 rfl (by omega) _ M.length _ rfl OW1.out (some ⟨wr.heap.size, 0, none⟩) 1 1 [x] rfl enV_len enV_cell RD.out (fun e => by cases e) (by have := ML.out; unfold maxLen; omega) (by have := ML.out; omega) B1.out.size ?_; intro v3 w3 o3 g3; have O3 := hide o3; have B3 := hide (B1.out.grown g3 B1.out.size (own_lo OW1.out)); clear o3 g3)
          go_roundw
          case rel => exact ⟨k + 1, false, by omega, by go_num, rfl, B3.out, M ++ [x], NX.out, by rw [List.length_append, List.flatMap_append]; exact O3.out⟩
          case measure => simp [intOf]; omega
        | true =>
          rw [hl] at g1
          have NX := hide (HM.out.turn HX.out (by show ltT t x.nm = true; rw [← HYX.out]; exact hl))
          clear hl
          have RD := hide (reads_ent wr ⟨t, j⟩ wr.heap.size rfl 105)
          have OW1 := hide (OM.out.alloc (.cells #[.string (bt t), .int .i64 (j : Int)] 105))
          have B1 := hide (hBl.out.alloc (by have := hBl.out.size; omega) (.cells #[.string (bt t), .int .i64 (j : Int)] 105))
          go_upto_region 21 with (at_builtin; refine wpList_append_reads rfl (.tmp 79) (.tmp 83) 36 rfl w.heap.size 105 i0' _ 24 (Tryz.underlying36) INFO.out.1 INFO.out.2.1 INFO.out.2.2.1 INFO.out.2.2.2 rfl (by omega) _ M.length _ rfl OW1.out (some ⟨wr.heap.size, 0, none⟩) 1 1 [⟨t, j⟩] rfl enV_len enV_cell RD.out (fun e => by cases e) (by have := ML.out; unfold maxLen; omega) (by have := ML.out; omega) B1.out.size ?_; intro v3 w3 o3 g3; have O3 := hide o3; have B3 := hide (B1.out.grown g3 B1.out.size (own_lo OW1.out)); clear o3 g3)
          obtain ⟨cw3, fw3⟩ := CB.out w3 B3.out
          obtain ⟨x', b', off', hx', e', x0', x1'⟩ := (HR.out.below B3.out).ent hlt
          obtain rfl : x = x' := by have h := HX.out; rw [hx'] at h; injection h with h; exact h.symm
          injection e' with e'
          injection e' with e'1 e'2 _
          subst e'1 e'2
          rw [← HYX.out] at x0'
          rw [← HZX.out] at x1'
          obtain ⟨av3, cv3, rfl, -⟩ := own_sliceR O3.out
          have O5 := O3
          have B5 := B3
          clear O3 B3 RD OW1 B1 cw fw x0 x1 hx'
          have RD := hide (show Reads 2 enV (w3.alloc (.cells #[.string (bt y), .int .i64 (z : Int)] 105)) (some ⟨w3.heap.size, 0, none⟩) 1 [x] from by have h := reads_ent w3 x w3.heap.size rfl 105; rw [← HYX.out, ← HZX.out] at h; exact h)
          have OW1 := hide (O5.out.alloc (.cells #[.string (bt y), .int .i64 (z : Int)] 105))
          have B1 := hide (B5.out.alloc (by have := B5.out.size; omega) (.cells #[.string (bt y), .int .i64 (z : Int)] 105))
          go_wp2_with (at_builtin; refine wpList_append_reads rfl (.tmp 85) (.tmp 96) 36 rfl w.heap.size 105 i0' _ 24 (Tryz.underlying36) INFO.out.1 INFO.out.2.1 INFO.out.2.2.1 INFO.out.2.2.2 rfl (by omega) _ (M.length + 1) _ rfl OW1.out (some ⟨w3.heap.size, 0, none⟩) 1 1 [x] rfl enV_len enV_cell RD.out (fun e => by cases e) (by have := ML.out; unfold maxLen; omega) (by have := ML.out; omega) B1.out.size ?_; intro v3 w6 o3 g3; have O3 := hide o3; have B3 := hide (B1.out.grown g3 B1.out.size (own_lo OW1.out)); clear o3 g3)
          go_roundw
          case rel => exact ⟨k + 1, true, by omega, by go_num, rfl, B3.out, M ++ [⟨t, j⟩] ++ [x], NX.out, by rw [List.length_append, List.flatMap_append, List.length_append, List.flatMap_append]; exact O3.out⟩
          case measure => simp [intOf]; omega
    · obtain rfl : k = n := by omega
      have EN := hide (InsAt.end_ (l := l) (e := ⟨t, j⟩) (M := M) (Nat.le_of_eq NL.out.symm))
      clear hlt
      cases bb with
      | true =>
        have OL := hide (show wr.ownsRow w.heap.size 105 2 _ (insL l ⟨t, j⟩).length ((insL l ⟨t, j⟩).flatMap enV) from by have h := OM.out; rw [EN.out.1 HM.out] at h; exact h)
        have BL := hBl
        obtain ⟨av, cv, rfl, -⟩ := own_sliceR OL.out
        have ec : M.length = (insL l ⟨t, j⟩).length := by rw [EN.out.1 HM.out]
        clear OM HM EN
        have LS := hide (HH.out.listed BL.out i OL.out)
        go_upto_region 25 with fail
        try rw [ec] at *
        generalize hw3 : wr.setCell ⟨T, 1 + i * 5 + 4, none⟩ (.slice av (insL l ⟨t, j⟩).length cv) = w7 at *
        obtain ⟨D3, E3, V3, h3, t3, e3, d3⟩ := LS.out
        have cx := h3.cLinks J16.out
        have fx := h3.row.frz (1 + j * 5 + 2)
        obtain ⟨lk, hlk⟩ : ∃ z, z = ((setL s i (insL l ⟨t, j⟩)).n j).links := ⟨_, rfl⟩
        have LK := hide (fun q => h3.linked j (lk + 1) q)
        have DE := hide (show (setL s i (insL l ⟨t, j⟩)).put j { (setL s i (insL l ⟨t, j⟩)).n j with links := lk + 1 } = incL (setL s i (insL l ⟨t, j⟩)) j from by rw [hlk]; rfl)
        rw [← hlk] at cx LB
        have ll := LB.out.1
        have lb := LB.out.2
        have P3 := hide (And.intro t3 (And.intro e3 d3))
        clear hw3 h3 t3 e3 d3 hlk LS OL BL
        go_region
        all_goals (go_wp2_with fail)
        all_goals go_ret
        all_goals exact ⟨rfl, by rw [← DE.out]; exact Rto.step P3.out.1 P3.out.2.1 P3.out.2.2 (LK.out 1)⟩
      | false =>
        have RD := hide (reads_ent wr ⟨t, j⟩ wr.heap.size rfl 105)
        have OW1 := hide (OM.out.alloc (.cells #[.string (bt t), .int .i64 (j : Int)] 105))
        have B1 := hide (hBl.out.alloc (by have := hBl.out.size; omega) (.cells #[.string (bt t), .int .i64 (j : Int)] 105))
        go_upto_region 24 with (at_builtin; refine wpList_append_reads rfl (.tmp 100) (.tmp 104) 36 rfl w.heap.size 105 i0' _ 24 (Tryz.underlying36) INFO.out.1 INFO.out.2.1 INFO.out.2.2.1 INFO.out.2.2.2 rfl (by omega) _ M.length _ rfl OW1.out (some ⟨wr.heap.size, 0, none⟩) 1 1 [⟨t, j⟩] rfl enV_len enV_cell RD.out (fun e => by cases e) (by have := ML.out; unfold maxLen; omega) (by have := ML.out; omega) B1.out.size ?_; intro v3 w3 o3 g3; have O3 := hide o3; have B3 := hide (B1.out.grown g3 B1.out.size (own_lo OW1.out)); clear o3 g3)
        have OL := hide (show w3.ownsRow w.heap.size 105 2 v3 (insL l ⟨t, j⟩).length ((insL l ⟨t, j⟩).flatMap enV) from by have h := O3.out; rw [← List.flatMap_append, EN.out.2 HM.out, show M.length + 1 = (insL l ⟨t, j⟩).length from by rw [← EN.out.2 HM.out, List.length_append]; rfl] at h; exact h)
        have BL := B3
        obtain ⟨cw3, fw3⟩ := CB.out w3 B3.out
        obtain ⟨av, cv, rfl, -⟩ := own_sliceR OL.out
        clear OM HM EN O3 B3 cw fw
        have LS := hide (HH.out.listed BL.out i OL.out)
        go_upto_region 25 with fail
        generalize hw3 : w3.setCell ⟨T, 1 + i * 5 + 4, none⟩ (.slice av (insL l ⟨t, j⟩).length cv) = w7 at *
        obtain ⟨D3, E3, V3, h3, t3, e3, d3⟩ := LS.out
        have cx := h3.cLinks J16.out
        have fx := h3.row.frz (1 + j * 5 + 2)
        obtain ⟨lk, hlk⟩ : ∃ z, z = ((setL s i (insL l ⟨t, j⟩)).n j).links := ⟨_, rfl⟩
        have LK := hide (fun q => h3.linked j (lk + 1) q)
        have DE := hide (show (setL s i (insL l ⟨t, j⟩)).put j { (setL s i (insL l ⟨t, j⟩)).n j with links := lk + 1 } = incL (setL s i (insL l ⟨t, j⟩)) j from by rw [hlk]; rfl)
        rw [← hlk] at cx LB
        have ll := LB.out.1
        have lb := LB.out.2
        have P3 := hide (And.intro t3 (And.intro e3 d3))
        clear hw3 h3 t3 e3 d3 hlk LS OL BL
        go_region
        all_goals (go_wp2_with fail)
        all_goals go_ret
        all_goals exact ⟨rfl, by rw [← DE.out]; exact Rto.step P3.out.1 P3.out.2.1 P3.out.2.2 (LK.out 1)⟩
end
end Go.Proofs.YtndfnglcichngaaGreatDoor
namespace Go.Proofs.YtndfnglcichngaaGreatDoor
open Go.ChangeShapes Go.WideShapes Go.ChangeAt Go.RowKit
set_option linter.unusedVariables false
set_option linter.unusedSimpArgs false
theorem tab_zero : Tryz.zeroCells156 = ((List.range 81).map fun k => if k = 0 then Value.pointer none else fld Nd.zero (.slice none 0 0) ((k - 1) % 5)).toArray := by kernel_rfl
theorem tab_first (w : World) (S : Nat) : RowI (w.alloc (.cells (Tryz.zeroCells156.setIfInBounds 0 (.pointer (some ⟨S, 0, none⟩))) 156)) w.heap.size 81 156 (tabF S (fun _ => Nd.zero) fun _ => .slice none 0 0) := by
  unfold RowI
  rw [heap_alloc_new, tab_zero, List.setIfInBounds_toArray]
  congr 3
section
variable {w : World} {D : Nat → Prop} {T R S : Nat} {s : In} {E : Nat → Prop} {V : Nat → Value}
set_option maxRecDepth 20000 in
set_option maxHeartbeats 4000000 in
theorem tnew_any {so : So} (h : Dso R w E S so) : Calls Tryz.prog 77 #[.pointer (some ⟨S, 0, none⟩)] w fun e w' => ∃ T D, e = .returned (.pointer (some ⟨T, 0, none⟩)) ∧ Rin R S w' D T ⟨(newI 0).n, so⟩ ∧ Below w.heap.size w w' ∧ ∀ i, D i → E i ∨ w.heap.size ≤ i := by
  go_enter Tryz.func77, Tryz.ntmps77
  go_upto_region 2 with fail
  have R0 := tab_first w S
  have bA := (Below.refl w.heap.size w).alloc (Nat.le_refl _) (.cells (Tryz.zeroCells156.setIfInBounds 0 (.pointer (some ⟨S, 0, none⟩))) 156)
  have sz : (w.alloc (.cells (Tryz.zeroCells156.setIfInBounds 0 (.pointer (some ⟨S, 0, none⟩))) 156)).heap.size = w.heap.size + 1 := by simp
  generalize w.alloc (.cells (Tryz.zeroCells156.setIfInBounds 0 (.pointer (some ⟨S, 0, none⟩))) 156) = w1 at *
  obtain ⟨T, hT⟩ : ∃ T, T = w.heap.size := ⟨_, rfl⟩
  have ET := hide hT
  rw [← hT] at R0 sz ⊢
  have FIN := hide (show Rin R S (((((w1.setCell ⟨T, 1, none⟩ (.bool true)).setCell ⟨T, 2, none⟩ (.bool true)).setCell ⟨T, 3, none⟩ (.int .i64 0)).setCell ⟨T, 4, none⟩ (.int .i64 0)).setCell ⟨T, 5, none⟩ (.slice none 0 0)) (fun i => E i ∨ i = T) T ⟨(newI 0).n, so⟩ ∧ Below T w (((((w1.setCell ⟨T, 1, none⟩ (.bool true)).setCell ⟨T, 2, none⟩ (.bool true)).setCell ⟨T, 3, none⟩ (.int .i64 0)).setCell ⟨T, 4, none⟩ (.int .i64 0)).setCell ⟨T, 5, none⟩ (.slice none 0 0)) from by
    have r := ((((R0.set (1 + 0 * 5) (.bool true)).set (1 + 0 * 5 + 1) (.bool true)).set (1 + 0 * 5 + 2) (.int .i64 0)).set (1 + 0 * 5 + 3) (.int .i64 0)).set (1 + 0 * 5 + 4) (.slice none 0 0)
    rw [tab_all (n := fun _ => Nd.zero) (V := fun _ => .slice none 0 0) (i := 0) ⟨true, true, 0, 0, []⟩ (.slice none 0 0)] at r
    have u : Touch (fun k => k = T) w1 (((((w1.setCell ⟨T, 1, none⟩ (.bool true)).setCell ⟨T, 2, none⟩ (.bool true)).setCell ⟨T, 3, none⟩ (.int .i64 0)).setCell ⟨T, 4, none⟩ (.int .i64 0)).setCell ⟨T, 5, none⟩ (.slice none 0 0)) :=
      (((((Touch.refl (fun k => k = T) w1).setCell (p := ⟨T, 1, none⟩) rfl _).setCell (p := ⟨T, 2, none⟩) rfl _).setCell (p := ⟨T, 3, none⟩) rfl _).setCell (p := ⟨T, 4, none⟩) rfl _).setCell (p := ⟨T, 5, none⟩) rfl _
    have eE : ∀ i, E i → i < T := fun i e => by rw [hT]; exact (keepsDso R).lt h i e
    have v := (Touch.of_below (S := fun k => k = T) bA).trans u (fun i e => .inl e)
    have hV : upd (fun _ => Value.slice none 0 0) 0 (Value.slice none 0 0) = fun _ => Value.slice none 0 0 := upd_id (fun _ => Value.slice none 0 0) 0
    rw [hV] at r
    refine ⟨⟨E, fun _ => .slice none 0 0, ⟨(keepsDso R).keep h v (fun i e e2 => by have := eE i e; have e2 : i = T := e2; omega), r, fun i => ?_, (fun i g hg => by cases hg), ⟨.inr rfl, fun e => by have := eE T e; omega⟩, fun i e => .inl e, fun i e => ?_⟩⟩, v.below (by omega) (fun i e => by have e : i = T := e; omega)⟩
    · have : ((newI 0).n i).l = [] := by
        show (upd (fun _ => Nd.zero) 0 ⟨true, true, 0, 0, []⟩ i).l = []
        by_cases e : i = 0
        · rw [e, upd_same]
        · rw [upd_other _ _ e]; rfl
      rw [this]; exact World.ownsRow_nil _ _ _ _
    · have := u.size
      rcases e with e | e
      · have := eE i e; omega
      · omega)
  have x1 := R0.cell (k := 1) (by omega)
  have x2 := R0.cell (k := 2) (by omega)
  have x3 := R0.cell (k := 3) (by omega)
  have x4 := R0.cell (k := 4) (by omega)
  have x5 := R0.cell (k := 5) (by omega)
  have y1 := R0.frz 1
  have y2 := R0.frz 2
  have y3 := R0.frz 3
  have y4 := R0.frz 4
  have y5 := R0.frz 5
  clear R0 bA sz h hT
  go_wp2_with fail
  go_ret
  exact ⟨T, _, rfl, FIN.out.1, ET.out ▸ FIN.out.2, fun i e => e.imp id (fun e => by rw [e, ET.out]; exact Nat.le_refl _)⟩
end
end Go.Proofs.YtndfnglcichngaaGreatDoor
namespace Go.Proofs.YtndfnglcichngaaGreatDoor
open Go.ChangeShapes Go.WideShapes Go.ChangeAt Go.RowKit
set_option linter.unusedVariables false
set_option linter.unusedSimpArgs false
def opsI (s : In) (id : Int) : Int := if isI s id then (s.n id.toNat).opens else 0
def lsI (s : In) (id : Int) : List Ent := if dirI s id then (s.n id.toNat).l else []
def lsIE (s : In) (id : Int) : Nat := if dirI s id then 0 else 11
/-- The program's store, new. -/
structure NewStore (PS : Nat → Rel So) : Prop where
  keeps : ∀ H, Keeps (PS H)
  new : ∀ {w : World} {H A Q N : Nat}, Fr w H A Q (St.new N) → Calls Tryz.prog 71 #[.pointer (some ⟨H, 0, none⟩)] w fun e w' => ∃ S U, e = .returned (.pointer (some ⟨S, 0, none⟩)) ∧ PS H w' U S ⟨[], N⟩ ∧ Below w.heap.size w w' ∧ ∀ i, U i → Blk H A Q i ∨ w.heap.size ≤ i
section
variable {PS : Nat → Rel So} {PI : Nat → Nat → Rel In}
/-- The document's store, new. -/
theorem dso_first {w1 w2 w4 : World} {R t b N : Nat} (r2 : Rf w2 (fun i => i < w1.heap.size) R t b (St.new N) 0 []) (b4 : Below w2.heap.size w2 w4) : Dso R (w4.alloc (.cells #[.pointer (some ⟨R, 0, none⟩), .slice none 0 0] 143)) (fun i => i = w4.heap.size ∨ (w1.heap.size ≤ i ∧ i < w2.heap.size)) w4.heap.size ⟨[], N⟩ := by
  have s4 := b4.size
  have k2 : RfG w2 (fun i => w1.heap.size ≤ i ∧ i < w2.heap.size) R t b (St.new N) 0 [] := by
    refine ⟨r2.mono (fun i hi => hi.1) (fun i hi h => ?_), fun i hi => hi.2⟩
    have := h.2
    show i < w1.heap.size
    have h3 : ¬ (w1.heap.size ≤ i ∧ i < w2.heap.size) := this
    omega
  have bA := (Below.refl w4.heap.size w4).alloc (Nat.le_refl _) (.cells #[.pointer (some ⟨R, 0, none⟩), .slice none 0 0] 143)
  have k4 := (k2.below b4).below bA
  have hfr : N = (St.new N).fr.length := (fallen_len N N).symm
  refine ⟨[], .slice none 0 0, t, b, St.new N, 0, [], fun i => w1.heap.size ≤ i ∧ i < w2.heap.size, ⟨heap_alloc_new _ _, World.ownsRow_nil _ _ _ _, fun x hx => absurd hx List.not_mem_nil, k4, List.nodup_nil, fun f hf => absurd hf List.not_mem_nil, fun x hx => absurd hx List.not_mem_nil, ⟨fun e => by (cases e), fun e => by omega⟩, fun i e => by (cases e), fun i => ⟨fun e => ?_, fun e => ?_⟩⟩, ⟨rfl, hfr, GoodSo.new N, Nat.zero_le _, fun x hx => absurd hx List.not_mem_nil⟩⟩
  · rcases e with e | e
    · exact .inl e
    · exact .inr (.inr (.inl e))
  · rcases e with e | e | e | ⟨x, hx, _⟩
    · exact .inl e
    · cases e
    · exact .inr e
    · exact absurd hx List.not_mem_nil
/-- Two tables beside one another: the program's and the document's. -/
def Twin (PI : Nat → Nat → Rel In) (w wr : World) (U D : Nat → Prop) (X : List Nat) (H S R G T T2 : Nat) (s : In) : Prop := TwoO (PI H S) (Rin R G) w wr U D X T T2 s s
end
end Go.Proofs.YtndfnglcichngaaGreatDoor
namespace Go.Proofs.YtndfnglcichngaaGreatDoor
open Go.ChangeShapes Go.WideShapes Go.ChangeAt Go.RowKit
set_option linter.unusedVariables false
set_option linter.unusedSimpArgs false
structure Ac where
  d : Int
  i : Int
  r : Int
  nm : Txt
  b : Bool
def acV (x : Ac) : List Value := [.int .i64 x.d, .int .i64 x.i, .int .i64 x.r, .string (bt x.nm), .bool x.b]
theorem acV_len (x : Ac) : (acV x).length = 5 := rfl
def AcWf (_ : World) (x : Ac) : Prop := (Lit.int .i64 x.d).wf = true ∧ (Lit.int .i64 x.i).wf = true ∧ (Lit.int .i64 x.r).wf = true ∧ x.nm.length ≤ maxLen
section
variable {H : Type} {enc : TypeId × Value → H} {w : World} {base : Nat} {spare : Nat → Bool} {held : Bool}
end
theorem Reads.act {w : World} {a : Option Addr} {n : Nat} {zs : List Ac} (h : Reads 5 acV w a n zs) {k : Nat} (hk : k < n) : ∃ x b off, zs[k]? = some x ∧ a = some ⟨b, off, none⟩ ∧ w.cell? ⟨b, off + k * 5, none⟩ = some (.int .i64 x.d) ∧ w.cell? ⟨b, off + k * 5 + 1, none⟩ = some (.int .i64 x.i) ∧ w.cell? ⟨b, off + k * 5 + 2, none⟩ = some (.int .i64 x.r) ∧ w.cell? ⟨b, off + k * 5 + 3, none⟩ = some (.string (bt x.nm)) ∧ w.cell? ⟨b, off + k * 5 + 4, none⟩ = some (.bool x.b) := by
  obtain ⟨x, b, off, h1, h2, h3⟩ := h.at_ hk
  exact ⟨x, b, off, h1, h2, h3 0 _ rfl, h3 1 _ rfl, h3 2 _ rfl, h3 3 _ rfl, h3 4 _ rfl⟩
/-- What 'great' tells. -/
def GreatTells21 (zs : List Ac) (n most : Nat) (e : Ending) : Prop := ∃ r : Bool, e = .returned (.bool r) ∧ (r = false → n ≤ most ∧ ∀ x ∈ zs, x.nm.length ≤ 100)
end Go.Proofs.YtndfnglcichngaaGreatDoor
namespace Go.Proofs.YtndfnglcichngaaGreatDoor
open Go.ChangeShapes Go.WideShapes Go.ChangeAt Go.RowKit
set_option linter.unusedVariables false
set_option linter.unusedSimpArgs false
section
variable {w : World} {D : Nat → Prop} {T R S : Nat} {s : In} {B : Int}
theorem rin_mk (h : Rin R S w D T s) (g : GoodP s [] B) (d : Bool) : Calls Tryz.prog 82 #[.pointer (some ⟨T, 0, none⟩), .bool d] w (SideO (fun w' D' => Rin R S w' D' T (mkI s d)) D w (.tuple #[.int .i64 (mkII s : Nat), .int .i64 (mkIE s : Nat)])) := by
  obtain ⟨E, V, h⟩ := h
  exact (tmake_any h g.sofew d).mono fun e w' ⟨he, r⟩ => he ▸ h.side r
theorem rin_op (h : Rin R S w D T s) (g : GoodP s [] B) (hB : B ≤ 1000000) (id : Int) : Calls Tryz.prog 80 #[.pointer (some ⟨T, 0, none⟩), .int .i64 id] w (SideO (fun w' D' => Rin R S w' D' T (opI s id)) D w (.int .i64 (opIE s id : Nat))) := by
  obtain ⟨E, V, h⟩ := h
  exact (topen_any h id (fun i => ⟨(g.opn i).1, by have := (g.opn i).2; omega⟩)).mono fun e w' ⟨he, r⟩ => he ▸ h.side r
theorem rin_cl (h : Rin R S w D T s) (g : GoodP s [] B) (hB : B ≤ 1000000) (id : Int) : Calls Tryz.prog 46 #[.pointer (some ⟨T, 0, none⟩), .int .i64 id] w (SideO (fun w' D' => Rin R S w' D' T (clI s id)) D w (.int .i64 (clIE s id : Nat))) := by
  obtain ⟨E, V, h⟩ := h
  exact (tclose_any h g hB id).mono fun e w' ⟨he, r⟩ => he ▸ h.side r
theorem rin_en (h : Rin R S w D T s) (g : GoodP s [] B) (hB : B ≤ 1000000) (d : Int) (t : Txt) (ht : t.length ≤ 1000) (id : Int) : Calls Tryz.prog 83 #[.pointer (some ⟨T, 0, none⟩), .int .i64 d, .string (bt t), .int .i64 id] w (SideO (fun w' D' => Rin R S w' D' T (enI s d t id)) D w (.int .i64 (enIE s d t id : Nat))) := by
  obtain ⟨E, V, h⟩ := h
  exact (tenter_any h g hB d t (by omega) id).mono fun e w' ⟨he, r⟩ => he ▸ h.side r
theorem rin_rm (h : Rin R S w D T s) (g : GoodP s [] B) (hB : B ≤ 1000000) (d : Int) (t : Txt) : Calls Tryz.prog 118 #[.pointer (some ⟨T, 0, none⟩), .int .i64 d, .string (bt t)] w (SideO (fun w' D' => Rin R S w' D' T (rmI s d t)) D w (.int .i64 (rmIE s d t : Nat))) := by
  obtain ⟨E, V, h⟩ := h
  exact (tremove_any h g hB d t).mono fun e w' ⟨he, r⟩ => he ▸ h.side r
theorem rin_fi (h : Rin R S w D T s) (g : GoodP s [] B) (d : Int) (t : Txt) : Calls Tryz.prog 85 #[.pointer (some ⟨T, 0, none⟩), .int .i64 d, .string (bt t)] w fun e w' => e = .returned (.tuple #[.int .i64 (fiII s d t : Nat), .int .i64 (fiIE s d t : Nat)]) ∧ Below w.heap.size w w' := by
  obtain ⟨E, V, h⟩ := h
  exact (tfind_any h g.few d t).mono fun e w' ⟨he, r⟩ => ⟨he, r ▸ Below.refl _ _⟩
end
/-- What an act makes of a table. -/
def stepI (s : In) (x : Ac) : In := if x.d = 0 then mkI s x.b else if x.d = 1 then opI s x.i else if x.d = 2 then clI s x.i else if x.d = 3 then enI s x.r x.nm x.i else if x.d = 4 then rmI s x.r x.nm else s
theorem GoodP.more {s : In} {B B' : Int} (h : GoodP s [] B) (hB : B ≤ B') : GoodP s [] B' :=
  ⟨by have := h.b1; omega, h.root, h.no, h.big, h.file, h.ent, h.srt, h.few, h.pnd, h.lnk, fun i => ⟨(h.opn i).1, by have := (h.opn i).2; omega⟩, h.lb, h.fil, h.so⟩
theorem GoodP.step {s : In} {B : Int} (h : GoodP s [] B) (x : Ac) : GoodP (stepI s x) [] (B + 1) := by
  unfold stepI
  split
  · exact (h.mk_ _).more (by omega)
  split
  · exact h.op _
  split
  · exact (h.cl _).1.more (by omega)
  split
  · exact (h.en _ _ _).1.more (by omega)
  split
  · exact (h.rm _ _).1.more (by omega)
  · exact h.more (by omega)
theorem NoOrph.step {s : In} {B : Int} (hn : NoOrph s 0) (h : GoodP s [] B) (x : Ac) : NoOrph (stepI s x) 0 := by
  unfold stepI
  split
  · exact hn.mk_ _
  split
  · exact hn.op h _
  split
  · exact (h.cl _).2 hn
  split
  · exact (h.en _ _ _).2 hn
  split
  · exact (h.rm _ _).2 hn
  · exact hn
section
variable {PS : Nat → Rel So} {PI : Nat → Nat → Rel In} {w wr : World} {U D : Nat → Prop} {X : List Nat} {H S R G T T2 : Nat} {s : In} {B : Int}
end
end Go.Proofs.YtndfnglcichngaaGreatDoor
namespace Go.Proofs.YtndfnglcichngaaGreatDoor
open Go.ChangeShapes Go.WideShapes Go.ChangeAt Go.RowKit
set_option linter.unusedVariables false
set_option linter.unusedSimpArgs false
theorem inode_same (w : World) (a b d : Int) (c : Bool) : (binOp .eql 54 (.agg #[.int .i64 a, .int .i64 b, .bool c, .int .i64 d]) (.agg #[.int .i64 a, .int .i64 b, .bool c, .int .i64 d])).run Tryz.prog w = .ok (.bool true) w := by
  rw [run_eql_struct, run_equalIn_agg w 9999 _ _ _ (by kernel_rfl) (by kernel_rfl)]
  simp only [Program.fieldsOf, Tryz.underlying54]
  simp [Op.eqFields, go_sem, Tryz.underlying3, Tryz.underlying4]
theorem got_form (s : In) (id : Int) : ∃ g0 g1 g2 g3 gb, gotI s id = .tuple #[.agg #[.int .i64 g0, .int .i64 g1, .bool g2, .int .i64 g3], .bool gb] := by
  unfold gotI; split
  · exact ⟨_, _, _, _, _, rfl⟩
  · exact ⟨_, _, _, _, _, rfl⟩
section
variable {PS : Nat → Rel So} {PI : Nat → Nat → Rel In} {w wr : World} {U D : Nat → Prop} {X : List Nat} {H S R G T T2 : Nat} {s : In} {B : Int}
attribute [local go_sem] inode_same
end
end Go.Proofs.YtndfnglcichngaaGreatDoor
namespace Go.Proofs.YtndfnglcichngaaGreatDoor
open Go.ChangeShapes Go.WideShapes Go.ChangeAt Go.RowKit
set_option linter.unusedVariables false
set_option linter.unusedSimpArgs false
section
variable {PS : Nat → Rel So} {PI : Nat → Nat → Rel In}
def sA1 : In := mkI (newI 8) false
def sA2 : In := enI sA1 0 [97] 1
def sA3 : In := clI sA2 1
end
end Go.Proofs.YtndfnglcichngaaGreatDoor
namespace Go.Proofs.YtndfnglcichngaaGreatDoor
open Go.ChangeShapes Go.WideShapes Go.ChangeAt Go.RowKit
set_option linter.unusedVariables false
set_option linter.unusedSimpArgs false
theorem incL_at (s : In) (i : Nat) : (incL s i).n i = { s.n i with links := (s.n i).links + 1 } := by unfold incL In.put; exact upd_same _ _ _
theorem incL_ne (s : In) {i k : Nat} (h : k ≠ i) : (incL s i).n k = s.n k := by unfold incL In.put; exact upd_other _ _ h
theorem decL_at (s : In) (i : Nat) : (decL s i).n i = { s.n i with links := (s.n i).links - 1 } := by unfold decL In.put; exact upd_same _ _ _
theorem decL_ne (s : In) {i k : Nat} (h : k ≠ i) : (decL s i).n k = s.n k := by unfold decL In.put; exact upd_other _ _ h
theorem setL_at (s : In) (i : Nat) (l : List Ent) : (setL s i l).n i = { s.n i with l := l } := by unfold setL In.put; exact upd_same _ _ _
theorem setL_ne (s : In) {i k : Nat} (l : List Ent) (h : k ≠ i) : (setL s i l).n k = s.n k := by unfold setL In.put; exact upd_other _ _ h
/-- Two tables that have gone different ways. -/
def Twin2 (PI : Nat → Nat → Rel In) (w wr : World) (U D : Nat → Prop) (X : List Nat) (H S R G T T2 : Nat) (s t : In) : Prop := TwoO (PI H S) (Rin R G) w wr U D X T T2 s t
theorem Twin2.ps {PI : Nat → Nat → Rel In} {w wr : World} {U D : Nat → Prop} {X : List Nat} {H S R G T T2 : Nat} {s t : In} (h : Twin2 PI w wr U D X H S R G T T2 s t) : PI H S wr U T s := TwoO.ps h
theorem Twin2.bel {PI : Nat → Nat → Rel In} {w wr : World} {U D : Nat → Prop} {X : List Nat} {H S R G T T2 : Nat} {s t : In} (h : Twin2 PI w wr U D X H S R G T T2 s t) : Below w.heap.size w wr := TwoO.bel h
/-- The root and a file, whose names the root's entries are. -/
structure Nms (s : In) (n : Nat) : Prop where
  good : GoodP s [] 1
  orph : NoOrph s 0
  len : (s.n 0).l.length = n
  one : ∀ e ∈ (s.n 0).l, e.id = 1
  file : (s.n 1).is = true ∧ (s.n 1).dir = false ∧ (s.n 1).opens = 1
  rest : ∀ k, 2 ≤ k → s.n k = Nd.zero
theorem sA1_nms : Nms sA1 0 := by
  have h : sA1 = mkAt (newI 8) false 1 := rfl
  refine ⟨(newI_good 8).mk_ false, (newI_orph 8).mk_ false, rfl, fun e he => ?_, ⟨rfl, rfl, rfl⟩, fun k hk => ?_⟩
  · have : (sA1.n 0).l = [] := rfl
    rw [this] at he; cases he
  · rw [h]
    show upd (newI 8).n 1 _ k = _
    rw [upd_other _ _ (by omega)]
    show upd (fun _ => Nd.zero) 0 _ k = _
    rw [upd_other _ _ (by omega)]
theorem Nms.links {s : In} {n : Nat} (h : Nms s n) : (s.n 1).links = (n : Int) := by
  have h1 := h.good.lnk 1
  rw [cntL_nil] at h1
  have hc : ∀ l : List Ent, (∀ e ∈ l, e.id = 1) → cntL l 1 = l.length := fun l hl => by
    unfold cntL
    exact List.countP_eq_length.2 fun e he => by simp [hl e he]
  have h2 : cntE s 1 = n := by
    unfold cntE
    have e0 : cntL (s.n 0).l 1 = n := by rw [hc _ h.one, h.len]
    have e1 : cntL (s.n 1).l 1 = 0 := by rw [h.good.file 1 h.file.2.1]; rfl
    have ek : ∀ k, 2 ≤ k → cntL (s.n k).l 1 = 0 := fun k hk => by rw [h.rest k hk]; rfl
    simp only [sumN, e0, e1, ek 2 (by omega), ek 3 (by omega), ek 4 (by omega), ek 5 (by omega), ek 6 (by omega), ek 7 (by omega), ek 8 (by omega), ek 9 (by omega), ek 10 (by omega), ek 11 (by omega), ek 12 (by omega), ek 13 (by omega), ek 14 (by omega), ek 15 (by omega)]
    omega
  rw [h1, h2, Nat.add_zero]
theorem Nms.enter {s : In} {n : Nat} (h : Nms s n) (t : Txt) : Nms (enI s 0 t 1) (if enIE s 0 t 1 = 0 then n + 1 else n) := by
  by_cases e : enIE s 0 t 1 = 0
  · rw [if_pos e]
    have hs : enI s 0 t 1 = incL (setL s 0 (insL (s.n 0).l ⟨t, 1⟩)) 1 := by unfold enI; rw [if_pos e]; rfl
    have h0 : (enI s 0 t 1).n 0 = { s.n 0 with l := insL (s.n 0).l ⟨t, 1⟩ } := by rw [hs, incL_ne _ (by decide), setL_at]
    have h1 : (enI s 0 t 1).n 1 = { s.n 1 with links := (s.n 1).links + 1 } := by rw [hs, incL_at, setL_ne _ _ (by decide)]
    refine ⟨(h.good.en 0 t 1).1, (h.good.en 0 t 1).2 h.orph, by rw [h0]; show (insL _ _).length = _; rw [insL_len, h.len], fun x hx => ?_, by rw [h1]; exact h.file, fun k hk => ?_⟩
    · rw [h0] at hx
      rcases insL_mem.1 hx with rfl | hx
      · rfl
      · exact h.one x hx
    · rw [hs, incL_ne _ (by omega), setL_ne _ _ (by omega)]; exact h.rest k hk
  · rw [if_neg e, show enI s 0 t 1 = s from by unfold enI; rw [if_neg e]]
    exact h
theorem pw_at {l : List Ent} (h : l.Pairwise fun a b => ltT a.nm b.nm = true) {i j : Nat} {x y : Ent} (hi : l[i]? = some x) (hj : l[j]? = some y) (hij : i < j) : ltT x.nm y.nm = true := by
  obtain ⟨h1, rfl⟩ := List.getElem?_eq_some_iff.1 hi
  obtain ⟨h2, rfl⟩ := List.getElem?_eq_some_iff.1 hj
  exact List.pairwise_iff_getElem.1 h i j h1 h2 hij
theorem findL_of {l : List Ent} (h : l.Pairwise fun a b => ltT a.nm b.nm = true) {i : Nat} {x : Ent} (hi : l[i]? = some x) : findL l x.nm = some x.id := by
  have hs : (findL l x.nm).isSome = true := by
    cases e : findL l x.nm with
    | some _ => rfl
    | none => exact absurd rfl (findL_none.1 e x (List.mem_of_getElem? hi))
  obtain ⟨j, hj⟩ := Option.isSome_iff_exists.1 hs
  obtain ⟨p, e, q, rfl, hnm, hid, hp⟩ := findL_some hj
  rw [hj, ← hid]
  congr 1
  have he : (p ++ e :: q)[p.length]? = some e := by simp
  rcases Nat.lt_trichotomy i p.length with k | k | k
  · exact absurd hnm (fun h' => ltT_ne (pw_at h hi he k) h'.symm)
  · rw [k, he] at hi; injection hi with hi; rw [hi]
  · exact absurd hnm (ltT_ne (pw_at h he hi k))
theorem Nms.find {s : In} {n i : Nat} {x : Ent} (h : Nms s n) (hi : (s.n 0).l[i]? = some x) : fiII s 0 x.nm = 1 ∧ fiIE s 0 x.nm = 0 := by
  have hd : dirI s 0 = true := by
    have := dirI_of (s := s) (i := 0) (by omega) h.good.root.1 h.good.root.2
    exact this
  unfold fiII fiIE
  rw [hd, show (0 : Int).toNat = 0 from rfl, findL_of (h.good.srt 0) hi]
  exact ⟨h.one x (List.mem_of_getElem? hi), rfl⟩
theorem Nms.remove {s : In} {n i : Nat} {x : Ent} (h : Nms s n) (hi : (s.n 0).l[i]? = some x) : rmIE s 0 x.nm = 0 ∧ fiIE (rmI s 0 x.nm) 0 x.nm = 9 ∧ gotI (rmI s 0 x.nm) 1 = .tuple #[.agg #[.int .i64 1, .int .i64 ((n : Int) - 1), .bool false, .int .i64 (gtSz (rmI s 0 x.nm) 1 : Nat)], .bool true] := by
  obtain ⟨f1, f2⟩ := h.find hi
  have hE : rmIE s 0 x.nm = 0 := by unfold rmIE; rw [if_neg (by simp [f2]), f1, if_neg (by rw [h.file.2.1]; simp)]
  have hs : rmI s 0 x.nm = decL (setL s 0 (delL (s.n 0).l x.nm)) 1 := by
    unfold rmI
    rw [if_pos hE, f1]
    refine if_pos (.inr (.inr ?_))
    show 0 < ((decL (setL s 0 (delL (s.n 0).l x.nm)) 1).n 1).opens
    rw [decL_at, setL_ne _ _ (by decide)]
    show 0 < (s.n 1).opens
    rw [h.file.2.2]; decide
  have h0 : (rmI s 0 x.nm).n 0 = { s.n 0 with l := delL (s.n 0).l x.nm } := by rw [hs, decL_ne _ (by decide), setL_at]
  have h1 : (rmI s 0 x.nm).n 1 = { s.n 1 with links := (s.n 1).links - 1 } := by rw [hs, decL_at, setL_ne _ _ (by decide)]
  refine ⟨hE, ?_, ?_⟩
  · have hd : dirI (rmI s 0 x.nm) 0 = true := by
      have := dirI_of (s := rmI s 0 x.nm) (i := 0) (by omega) (by rw [h0]; exact h.good.root.1) (by rw [h0]; exact h.good.root.2)
      exact this
    have hf : findL ((rmI s 0 x.nm).n 0).l x.nm = none := by
      rw [h0]
      refine findL_none.2 fun y hy => ?_
      have := (List.mem_filter.1 hy).2
      simpa using this
    unfold fiIE
    rw [hd, show (0 : Int).toNat = 0 from rfl, hf]; rfl
  · unfold gotI
    have hi1 : isI (rmI s 0 x.nm) 1 = true := by
      have := isI_of (s := rmI s 0 x.nm) (i := 1) (by omega) (by rw [h1]; exact h.file.1)
      exact this
    rw [hi1, if_pos rfl, show (1 : Int).toNat = 1 from rfl, h1, h.links, h.file.2.1]
section
variable {PS : Nat → Rel So} {PI : Nat → Nat → Rel In}
end
end Go.Proofs.YtndfnglcichngaaGreatDoor
namespace Go.Proofs.YtndfnglcichngaaGreatDoor
set_option linter.unusedVariables false
set_option linter.unusedSimpArgs false
theorem upd_set2 {α : Type} (f : Nat → α) (i : Nat) (a b : α) : upd (upd f i a) i b = upd f i b := by
  funext k; unfold upd; split <;> rfl
theorem upd_self {α : Type} {f : Nat → α} {i : Nat} {a : α} (h : f i = a) : upd f i a = f := by
  funext k; unfold upd; split
  · rename_i e; rw [e, h]
  · rfl
/-- Made and closed again: nothing but, for a file, what the store says. -/
theorem mk_cl {s : In} {B : Int} (h : GoodP s [] B) (d : Bool) (he : mkIE s = 0) : (clI (mkI s d) (mkII s)).n = s.n := by
  unfold mkIE at he
  cases e : freeI s with
  | none => rw [e] at he; cases he
  | some i =>
    obtain ⟨h1, h2, h3⟩ := freeI_is e
    have hi : mkII s = i := by unfold mkII; rw [e]; rfl
    have hm : mkI s d = mkAt s d i := by unfold mkI; rw [e]
    rw [hi, hm]
    have hn : (mkAt s d i).n i = ⟨true, d, 0, 1, []⟩ := upd_same _ _ _
    have hc : clIE (mkAt s d i) (i : Int) = 0 := by
      unfold clIE
      rw [isI_of h2 (by rw [hn]), Int.toNat_natCast, hn]; rfl
    unfold clI
    rw [if_pos hc, Int.toNat_natCast, hn]
    have hp : ((mkAt s d i).put i { (⟨true, d, 0, 1, []⟩ : Nd) with opens := (1 : Int) - 1 }).n i = ⟨true, d, 0, 0, []⟩ := upd_same _ _ _
    show (goneI 17 _ i).n = s.n
    have hg : goneI 17 ((mkAt s d i).put i { (⟨true, d, 0, 1, []⟩ : Nd) with opens := (1 : Int) - 1 }) i = clrI ((mkAt s d i).put i { (⟨true, d, 0, 1, []⟩ : Nd) with opens := (1 : Int) - 1 }) i := by
      have : goneI 17 ((mkAt s d i).put i { (⟨true, d, 0, 1, []⟩ : Nd) with opens := (1 : Int) - 1 }) i = (((mkAt s d i).put i { (⟨true, d, 0, 1, []⟩ : Nd) with opens := (1 : Int) - 1 }).n i).l.foldl (fun s e => goneI 16 (decL s e.id) e.id) (clrI ((mkAt s d i).put i { (⟨true, d, 0, 1, []⟩ : Nd) with opens := (1 : Int) - 1 }) i) := by
        refine if_neg ?_
        rw [hp]
        rintro (h | h | h)
        · omega
        · exact absurd h (show ¬ (0 : Int) < 0 by decide)
        · exact absurd h (show ¬ (0 : Int) < 0 by decide)
      rw [this, hp]; rfl
    rw [hg]
    show upd (upd (upd s.n i _) i _) i Nd.zero = s.n
    rw [upd_set2, upd_set2]
    exact upd_self (h.no i h3)
theorem enI_no {s : In} {d : Int} {t : Txt} {id : Int} (h : enIE s d t id ≠ 0) : enI s d t id = s := by unfold enI; rw [if_neg h]
theorem rmI_no {s : In} {d : Int} {t : Txt} (h : rmIE s d t ≠ 0) : rmI s d t = s := by unfold rmI; rw [if_neg h]
/-- A refused call changes no node. -/
theorem newE_no {s : In} {B : Int} (h : GoodP s [] B) {t : Txt} (he : (newE s t).2.1 ≠ 0) : (newE s t).2.2.n = s.n := by
  unfold newE at he ⊢
  split at he
  · rename_i e; rw [if_pos e]
  rename_i e1; rw [if_neg e1]
  split at he
  · rename_i e; rw [if_pos e]
  rename_i e2; rw [if_neg e2]
  split at he
  · rename_i e; rw [if_pos e]
  rename_i e3; rw [if_neg e3]
  split at he
  · rename_i e; rw [if_pos e]
    exact mk_cl h false (Classical.not_not.1 e3)
  · exact absurd rfl he
theorem opnV_no {s : In} {B : Int} (h : GoodP s [] B) {t : Txt} {fl : Int} (he : (opnV s t fl).2.1 ≠ 0) : (opnV s t fl).2.2.n = s.n := by
  unfold opnV at he ⊢
  split at he
  · rename_i e; rw [if_pos e]
  rename_i e1; rw [if_neg e1]
  split at he
  · rename_i e2; rw [if_pos e2]
    split at he
    · rename_i e; rw [if_pos e]
    · exact absurd rfl he
  · rename_i e2; rw [if_neg e2]
    split at he
    · rename_i e; rw [if_pos e]
    · rename_i e; rw [if_neg e]; exact newE_no h he
theorem mkdV_no {s : In} {B : Int} (h : GoodP s [] B) {t : Txt} (he : (mkdV s t).1 ≠ 0) : (mkdV s t).2.n = s.n := by
  unfold mkdV at he ⊢
  split at he
  · rename_i e; rw [if_pos e]
  rename_i e1; rw [if_neg e1]
  split at he
  · rename_i e; rw [if_pos e]
  rename_i e2; rw [if_neg e2]
  split at he
  · rename_i e; rw [if_pos e]
  rename_i e3; rw [if_neg e3]
  split at he
  · rename_i e; rw [if_pos e]
  rename_i e4; rw [if_neg e4]
  show (clI (enI _ _ _ _) _).n = s.n
  rw [enI_no he]
  exact mk_cl h true (Classical.not_not.1 e4)
theorem lnkV_no {s : In} {a t : Txt} (he : (lnkV s a t).1 ≠ 0) : (lnkV s a t).2 = s := by
  unfold lnkV at he ⊢
  split at he
  · rename_i e; rw [if_pos e]
  rename_i e1; rw [if_neg e1]
  split at he
  · rename_i e; rw [if_pos e]
  rename_i e2; rw [if_neg e2]
  split at he
  · rename_i e; rw [if_pos e]
  rename_i e3; rw [if_neg e3]
  exact enI_no he
theorem remV_no {s : In} {t : Txt} {d : Bool} (he : (remV s t d).1 ≠ 0) : (remV s t d).2 = s := by
  unfold remV at he ⊢
  split at he
  · rename_i e; rw [if_pos e]
  rename_i e1; rw [if_neg e1]
  split at he
  · rename_i e; rw [if_pos e]
  rename_i e2; rw [if_neg e2]
  split at he
  · rename_i e; rw [if_pos e]
  rename_i e3; rw [if_neg e3]
  split at he
  · rename_i e; rw [if_pos e]
  rename_i e4; rw [if_neg e4]
  exact rmI_no he
/-- What is told of nodes hangs on the nodes alone. -/
theorem same_n {s s' : In} (h : s'.n = s.n) : (∀ id, isI s' id = isI s id) ∧ (∀ id, dirI s' id = dirI s id) ∧ cntI s' = cntI s ∧ (∀ d t, fiIE s' d t = fiIE s d t) ∧ (∀ d t, fiII s' d t = fiII s d t) := by
  refine ⟨fun id => by unfold isI; rw [h], fun id => by unfold dirI isI; rw [h], by unfold cntI; rw [h], fun d t => by unfold fiIE dirI isI; rw [h], fun d t => by unfold fiII dirI isI; rw [h]⟩
/-- Steps that are found in both alike. -/
theorem walkL_same {s s' : In} : ∀ {l : List Txt} {id : Nat}, (∀ (d : Nat) (t : Txt), t ∈ l → fiIE s' d t = fiIE s d t ∧ fiII s' d t = fiII s d t) → walkL s' id l = walkL s id l
  | [], id, _ => rfl
  | x :: l, id, h => by
    obtain ⟨h1, h2⟩ := h id x (List.mem_cons_self ..)
    show (if fiIE s' id x = 0 then walkL s' (fiII s' id x) l else (0, fiIE s' id x)) = (if fiIE s id x = 0 then walkL s (fiII s id x) l else (0, fiIE s id x))
    rw [h1, h2, walkL_same (fun d t ht => h d t (List.mem_cons_of_mem _ ht))]
/-- What was found is found. -/
theorem walkL_more {s s' : In} (h : ∀ (d : Nat) (t : Txt), fiIE s d t = 0 → fiIE s' d t = 0 ∧ fiII s' d t = fiII s d t) : ∀ {l : List Txt} {id : Nat}, (walkL s id l).2 = 0 → walkL s' id l = walkL s id l
  | [], id, _ => rfl
  | x :: l, id, hw => by
    by_cases e : fiIE s id x = 0
    · have e1 : walkL s id (x :: l) = walkL s (fiII s id x) l := if_pos e
      obtain ⟨h1, h2⟩ := h id x e
      rw [e1] at hw ⊢
      rw [show walkL s' id (x :: l) = walkL s' (fiII s' id x) l from if_pos h1, h2]
      exact walkL_more h hw
    · rw [show walkL s id (x :: l) = (0, fiIE s id x) from if_neg e] at hw
      exact absurd hw e
theorem fi_dir {s : In} {d : Int} {t : Txt} (h : fiIE s d t = 0) : ∃ i j : Nat, d = (i : Int) ∧ i < 16 ∧ (s.n i).is = true ∧ (s.n i).dir = true ∧ findL (s.n i).l t = some j ∧ fiII s d t = j := by
  unfold fiIE at h
  split at h
  · rename_i e3
    obtain ⟨i, rfl, h1, h2, h3⟩ := dirI_yes e3
    rw [Int.toNat_natCast] at h
    split at h
    · rename_i e4
      obtain ⟨j, hj⟩ := Option.isSome_iff_exists.1 e4
      exact ⟨i, j, rfl, h1, h2, h3, hj, by unfold fiII; rw [if_pos e3, Int.toNat_natCast, hj]; rfl⟩
    · cases h
  · cases h
theorem fi_of {s : In} {i j : Nat} {t : Txt} (hi : i < 16) (his : (s.n i).is = true) (hd : (s.n i).dir = true) (hf : findL (s.n i).l t = some j) : fiIE s (i : Int) t = 0 ∧ fiII s (i : Int) t = j := by
  unfold fiIE fiII
  rw [dirI_of hi his hd, Int.toNat_natCast, hf]
  exact ⟨rfl, rfl⟩
theorem fi_absent {s : In} {i : Nat} {t : Txt} (hi : i < 16) (his : (s.n i).is = true) (hd : (s.n i).dir = true) (hf : findL (s.n i).l t = none) : fiIE s (i : Int) t = 9 := by
  unfold fiIE
  rw [dirI_of hi his hd, Int.toNat_natCast, hf]; rfl
theorem findL_ins {l : List Ent} {e : Ent} (h : findL l e.nm = none) (t : Txt) : findL (insL l e) t = if e.nm = t then some e.id else findL l t := by
  induction l with
  | nil => rfl
  | cons x l ih =>
    have hx : ¬ x.nm = e.nm := findL_none.1 h x (List.mem_cons_self ..)
    have hl : findL l e.nm = none := findL_none.2 fun y hy => findL_none.1 h y (List.mem_cons_of_mem _ hy)
    unfold insL
    split
    · rfl
    · show (if x.nm = t then some x.id else findL (insL l e) t) = _
      rw [ih hl]
      show _ = if e.nm = t then some e.id else if x.nm = t then some x.id else findL l t
      by_cases e1 : x.nm = t
      · have e2 : ¬ e.nm = t := fun h => hx (e1.trans h.symm)
        rw [if_pos e1, if_neg e2, if_pos e1]
      · rw [if_neg e1, if_neg e1]
theorem findL_del (l : List Ent) (t u : Txt) : findL (delL l t) u = if u = t then none else findL l u := by
  induction l with
  | nil => unfold delL findL; simp
  | cons x l ih =>
    unfold delL at ih ⊢
    rw [List.filter_cons]
    by_cases e : x.nm = t
    · rw [if_neg (by simp [e]), ih]
      by_cases e2 : u = t
      · rw [if_pos e2, if_pos e2]
      · rw [if_neg e2, if_neg e2]
        show _ = if x.nm = u then _ else _
        rw [if_neg (fun h => e2 (h.symm.trans e))]
    · rw [if_pos (by simp [e])]
      show (if x.nm = u then some x.id else findL _ u) = _
      rw [ih]
      by_cases e2 : u = t
      · have : ¬ x.nm = u := fun h => e (h.trans e2)
        rw [if_neg this, if_pos e2, if_pos e2]
      · rw [if_neg e2, if_neg e2]; rfl
/-- A name that is entered: what was found is found, it is found, and links are one more. -/
theorem en_facts {s : In} {d : Int} {t : Txt} {id : Int} (h : enIE s d t id = 0) : ∃ i j : Nat, d = (i : Int) ∧ id = (j : Int) ∧ i < 16 ∧ j < 16 ∧ (s.n i).is = true ∧ (s.n i).dir = true ∧ (s.n j).is = true ∧ j ≠ 0 ∧ findL (s.n i).l t = none ∧ enI s d t id = incL (setL s i (insL (s.n i).l ⟨t, j⟩)) j ∧ nameE t = 0 := by
  have hE := h
  unfold enIE at h
  split at h
  · cases h
  rename_i e1
  obtain ⟨i, rfl, i16, iis, idir⟩ := dirI_yes (by simpa using e1)
  split at h
  · rename_i e2; have := nameE_range t; omega
  rename_i e2
  split at h
  · cases h
  rename_i e3
  have e4 : isI s id = true := by
    cases h : isI s id with
    | true => rfl
    | false => exact absurd (.inl h) e3
  obtain ⟨j, rfl, j16, jis⟩ := isI_yes e4
  have j0 : j ≠ 0 := fun h => e3 (.inr (by omega))
  rw [Int.toNat_natCast] at h
  split at h
  · cases h
  rename_i e5
  split at h
  · cases h
  refine ⟨i, j, rfl, rfl, i16, j16, iis, idir, jis, j0, by simpa using e5, ?_, by simpa using e2⟩
  unfold enI
  rw [if_pos hE, Int.toNat_natCast, Int.toNat_natCast]
theorem inc_set_n (s : In) (i j k : Nat) (l : List Ent) : ((incL (setL s i l) j).n k).is = (s.n k).is ∧ ((incL (setL s i l) j).n k).dir = (s.n k).dir ∧ ((incL (setL s i l) j).n k).l = (if k = i then l else (s.n k).l) ∧ ((incL (setL s i l) j).n k).links = (s.n k).links + (if k = j then 1 else 0) ∧ ((incL (setL s i l) j).n k).opens = (s.n k).opens := by
  by_cases e1 : k = j
  · subst e1
    rw [incL_at]
    by_cases e2 : k = i
    · subst e2; rw [setL_at]; simp
    · rw [setL_ne _ _ e2]; simp [e2]
  · rw [incL_ne _ e1]
    by_cases e2 : k = i
    · subst e2; rw [setL_at]; simp [e1]
    · rw [setL_ne _ _ e2]; simp [e1, e2]
theorem dec_set_n (s : In) (i j k : Nat) (l : List Ent) : ((decL (setL s i l) j).n k).is = (s.n k).is ∧ ((decL (setL s i l) j).n k).dir = (s.n k).dir ∧ ((decL (setL s i l) j).n k).l = (if k = i then l else (s.n k).l) ∧ ((decL (setL s i l) j).n k).links = (s.n k).links - (if k = j then 1 else 0) ∧ ((decL (setL s i l) j).n k).opens = (s.n k).opens := by
  by_cases e1 : k = j
  · subst e1
    rw [decL_at]
    by_cases e2 : k = i
    · subst e2; rw [setL_at]; simp
    · rw [setL_ne _ _ e2]; simp [e2]
  · rw [decL_ne _ e1]
    by_cases e2 : k = i
    · subst e2; rw [setL_at]; simp [e1]
    · rw [setL_ne _ _ e2]; simp [e1, e2]
theorem en_more {s : In} {d : Int} {t : Txt} {id : Int} (h : enIE s d t id = 0) (d' : Nat) (t' : Txt) (hf : fiIE s d' t' = 0) : fiIE (enI s d t id) d' t' = 0 ∧ fiII (enI s d t id) d' t' = fiII s d' t' := by
  obtain ⟨i, j, rfl, rfl, i16, j16, iis, idir, jis, j0, hn, hs, -⟩ := en_facts h
  obtain ⟨i', k, e, i'16, i'is, i'dir, hk, hk2⟩ := fi_dir hf
  have e : d' = i' := by omega
  subst e
  rw [hs, hk2]
  have q := inc_set_n s i j d' (insL (s.n i).l ⟨t, j⟩)
  refine fi_of i'16 (by rw [q.1]; exact i'is) (by rw [q.2.1]; exact i'dir) ?_
  rw [q.2.2.1]
  split
  · rename_i e; subst e
    rw [findL_ins (e := ⟨t, j⟩) hn]
    have : ¬ t = t' := fun h => by rw [h, hk] at hn; cases hn
    rw [if_neg this]; exact hk
  · exact hk
theorem en_find {s : In} {d : Int} {t : Txt} {id : Int} (h : enIE s d t id = 0) : fiIE (enI s d t id) d t = 0 ∧ (fiII (enI s d t id) d t : Int) = id := by
  obtain ⟨i, j, rfl, rfl, i16, j16, iis, idir, jis, j0, hn, hs, -⟩ := en_facts h
  rw [hs]
  have q := inc_set_n s i j i (insL (s.n i).l ⟨t, j⟩)
  have := fi_of (s := incL (setL s i (insL (s.n i).l ⟨t, j⟩)) j) (j := j) (t := t) i16 (by rw [q.1]; exact iis) (by rw [q.2.1]; exact idir) (by rw [q.2.2.1, if_pos rfl, findL_ins (e := ⟨t, j⟩) hn, if_pos rfl])
  exact ⟨this.1, by rw [this.2]⟩
/-- Parent and Split: one walk. -/
theorem par_walk {t : Txt} (h : (parT t).2.2 = 0) : ∃ (i : List Txt) (x : Txt), splitT t = (i ++ [x], 0) ∧ (parT t).2.1 = x ∧ ∀ s : In, walkI s (parT t).1 = walkL s 0 i := by
  unfold parT at h ⊢
  split at h
  · rename_i e; exact absurd h e
  rename_i e
  rw [if_neg e]
  split at h
  · cases h
  rename_i e2
  rw [if_neg e2]
  have hs : (splitT t).2 = 0 := Classical.not_not.1 e
  have hn := firstE_zero.1 (splitT_names hs)
  have h6 := splitT_few6 t
  refine ⟨(splitT t).1.dropLast, (splitT t).1.getLast e2, ?_, ?_, fun s => ?_⟩
  · rw [List.dropLast_concat_getLast, ← hs]
  · show (splitT t).1.getLast?.getD [] = _
    rw [List.getLast?_eq_some_getLast e2]; rfl
  · have hd : firstE (splitT t).1.dropLast = 0 := firstE_zero.2 fun p hp => hn p (List.dropLast_subset _ hp)
    have hj := join_split hd (by simp; omega)
    unfold walkI
    show (if (splitT (joinT (splitT t).1.dropLast).1).2 = 0 then _ else _) = _
    rw [hj]; rfl
/-- A file's entry is taken away while it has others: only that name is not found any more, links are one less. -/
theorem rm_file {s : In} {B : Int} (h : GoodP s [] B) {d : Int} {t : Txt} {x : Nat} (hf : fiIE s d t = 0) (hx : fiII s d t = x) (hfile : (s.n x).dir = false) (hl : 1 < (s.n x).links ∨ 0 < (s.n x).opens) :
    rmIE s d t = 0 ∧ (∀ k, ((rmI s d t).n k).is = (s.n k).is ∧ ((rmI s d t).n k).dir = (s.n k).dir ∧ ((rmI s d t).n k).links = (s.n k).links - (if k = x then 1 else 0) ∧ ((rmI s d t).n k).opens = (s.n k).opens) ∧ (rmI s d t).so = s.so ∧
      fiIE (rmI s d t) d t = 9 ∧ ∀ (d' : Nat) (t' : Txt), ¬ ((d' : Int) = d ∧ t' = t) → fiIE (rmI s d t) d' t' = fiIE s d' t' ∧ fiII (rmI s d t) d' t' = fiII s d' t' := by
  obtain ⟨i, j, rfl, i16, iis, idir, hk, hk2⟩ := fi_dir hf
  have hxj : x = j := by rw [← hx, hk2]
  subst hxj
  have hE : rmIE s (i : Int) t = 0 := by unfold rmIE; rw [if_neg (by simp [hf]), hx, if_neg (by rw [hfile]; simp)]
  have q := fun k => dec_set_n s i x k (delL (s.n i).l t)
  have hs : rmI s (i : Int) t = decL (setL s i (delL (s.n i).l t)) x := by
    unfold rmI
    rw [if_pos hE, hx, Int.toNat_natCast]
    refine if_pos (.inr ?_)
    rw [(q x).2.2.2.1, (q x).2.2.2.2, if_pos rfl]
    rcases hl with hl | hl
    · exact .inl (by omega)
    · exact .inr hl
  refine ⟨hE, fun k => by rw [hs]; exact ⟨(q k).1, (q k).2.1, (q k).2.2.2.1, (q k).2.2.2.2⟩, by rw [hs]; rfl, ?_, fun d' t' hne => ?_⟩
  · rw [hs]
    refine fi_absent i16 (by rw [(q i).1]; exact iis) (by rw [(q i).2.1]; exact idir) ?_
    rw [(q i).2.2.1, if_pos rfl, findL_del, if_pos rfl]
  · rw [hs]
    have hI : ∀ id : Nat, dirI (decL (setL s i (delL (s.n i).l t)) x) (id : Int) = dirI s (id : Int) := fun id => by
      unfold dirI
      rw [isI_nat, isI_nat, Int.toNat_natCast, (q id).1, (q id).2.1]
    have hL : findL ((decL (setL s i (delL (s.n i).l t)) x).n d').l t' = findL (s.n d').l t' := by
      rw [(q d').2.2.1]
      split
      · rename_i e; subst e
        rw [findL_del, if_neg (fun e => hne ⟨rfl, e⟩)]
      · rfl
    unfold fiIE fiII
    rw [hI d', Int.toNat_natCast, hL]
    exact ⟨rfl, rfl⟩
/-- A walk that ends at a directory goes by directories. -/
theorem walkL_dirs {s s' : In} {d0 : Int} {t0 : Txt} {x : Nat} (hx : fiII s d0 t0 = x) (hfile : (s.n x).dir = false) (h : ∀ (d : Nat) (t : Txt), ¬ ((d : Int) = d0 ∧ t = t0) → fiIE s' d t = fiIE s d t ∧ fiII s' d t = fiII s d t) : ∀ {l : List Txt} {id : Nat}, (walkL s id l).2 = 0 → (s.n (walkL s id l).1).dir = true → walkL s' id l = walkL s id l
  | [], id, _, _ => rfl
  | y :: l, id, hw, hd => by
    by_cases e : fiIE s id y = 0
    · have e1 : walkL s id (y :: l) = walkL s (fiII s id y) l := if_pos e
      rw [e1] at hw hd ⊢
      have hne : ¬ ((id : Int) = d0 ∧ y = t0) := by
        rintro ⟨h1, h2⟩
        rw [h1, h2, hx] at hw hd
        match l, hw, hd with
        | [], hw, hd => rw [show (walkL s x []).1 = x from rfl, hfile] at hd; cases hd
        | z :: l, hw, hd =>
          have : fiIE s (x : Int) z = 11 := by
            unfold fiIE
            rw [show dirI s (x : Int) = false from by unfold dirI; rw [Int.toNat_natCast, hfile]; simp]; rfl
          rw [show walkL s x (z :: l) = (0, fiIE s x z) from if_neg (by rw [this]; decide)] at hw
          rw [show ((0, fiIE s (x : Int) z) : Nat × Nat).2 = 11 from this] at hw
          cases hw
      obtain ⟨h1, h2⟩ := h id y hne
      rw [show walkL s' id (y :: l) = walkL s' (fiII s' id y) l from if_pos (by rw [h1]; exact e), h2]
      exact walkL_dirs hx hfile h hw hd
    · rw [show walkL s id (y :: l) = (0, fiIE s id y) from if_neg e] at hw
      exact absurd hw e
theorem walkI_n {s s' : In} (h : s'.n = s.n) (t : Txt) : walkI s' t = walkI s t := by
  unfold walkI
  rw [walkL_same (fun d x _ => ⟨(same_n h).2.2.2.1 d x, (same_n h).2.2.2.2 d x⟩)]
theorem walkI_split {s : In} {t : Txt} {i : List Txt} {x : Txt} (h : splitT t = (i ++ [x], 0)) {d y : Nat} (hd : walkL s 0 i = (d, 0)) (h1 : fiIE s d x = 0) (h2 : fiII s d x = y) : walkI s t = (y, 0) := by
  unfold walkI
  rw [h, if_pos rfl]
  show walkL s 0 (i ++ [x]) = _
  rw [walkL_snoc, hd, if_pos rfl]
  show (if fiIE s d x = 0 then (fiII s d x, 0) else (0, fiIE s d x)) = _
  rw [if_pos h1, h2]
theorem par_of {t : Txt} {i : List Txt} {x : Txt} (h : splitT t = (i ++ [x], 0)) : (parT t).2.2 = 0 ∧ (parT t).2.1 = x ∧ ∀ s : In, walkI s (parT t).1 = walkL s 0 i := by
  have h0 : (parT t).2.2 = 0 := by
    unfold parT
    rw [h, if_neg (by simp), if_neg (by simp)]
  obtain ⟨i', x', h1, h2, h3⟩ := par_walk h0
  rw [h] at h1
  have e := congrArg Prod.fst h1
  have e2 := List.append_inj' e rfl
  obtain ⟨rfl, e3⟩ := e2
  injection e3 with e3
  exact ⟨h0, by rw [h2, e3], h3⟩
/-- A path that names a file: its directory, its last name. -/
theorem walk_file {s : In} {B : Int} (h : GoodP s [] B) {t : Txt} {y : Nat} (hw : walkI s t = (y, 0)) (hf : dirI s (y : Int) = false) : ∃ (i : List Txt) (x : Txt) (d : Nat), splitT t = (i ++ [x], 0) ∧ walkL s 0 i = (d, 0) ∧ fiIE s d x = 0 ∧ fiII s d x = y := by
  unfold walkI at hw
  split at hw
  · rename_i e
    rcases List.eq_nil_or_concat (splitT t).1 with e1 | ⟨i, x, e1⟩
    · rw [e1] at hw
      have : y = 0 := (congrArg Prod.fst hw).symm
      subst this
      have := dirI_of (s := s) (i := 0) (by omega) h.root.1 h.root.2
      rw [hf] at this; cases this
    · rw [List.concat_eq_append] at e1
      rw [e1, walkL_snoc] at hw
      split at hw
      · rename_i e2
        have hw : (if fiIE s (walkL s 0 i).1 x = 0 then (fiII s (walkL s 0 i).1 x, 0) else (0, fiIE s (walkL s 0 i).1 x)) = (y, 0) := hw
        split at hw
        · rename_i e3
          exact ⟨i, x, (walkL s 0 i).1, by rw [← e1, ← e], Prod.ext rfl e2, e3, congrArg Prod.fst hw⟩
        · rename_i e3; exact absurd (congrArg Prod.snd hw) e3
      · rename_i e2; exact absurd (congrArg Prod.snd hw) e2
  · rename_i e
    have h1 : (splitT t).2.toNat = 0 := congrArg Prod.snd hw
    have := (splitT_range t).1
    exact absurd (show (splitT t).2 = 0 by omega) e
theorem named_is {s : In} {B : Int} (h : GoodP s [] B) {d : Int} {t : Txt} {x : Nat} (hf : fiIE s d t = 0) (hx : fiII s d t = x) : x < 16 ∧ x ≠ 0 ∧ (s.n x).is = true ∧ 1 ≤ (s.n x).links := by
  obtain ⟨i, j, rfl, i16, iis, idir, hk, hk2⟩ := fi_dir hf
  have : x = j := by rw [← hx, hk2]
  subst this
  obtain ⟨p, e, q, hl, hnm, hid, -⟩ := findL_some hk
  have hm : e ∈ (s.n i).l := by rw [hl]; simp
  have he := h.ent i e hm
  have hp := cntL_pos hm
  rw [hid] at hp he
  have hc : 0 < cntE s x := Nat.lt_of_lt_of_le hp (sumN_pos (f := fun i => cntL (s.n i).l x) i16)
  have hl := h.lnk x
  rw [cntL_nil] at hl
  have h1 : 1 ≤ (s.n x).links := by omega
  refine ⟨he.1, he.2.1, ?_, h1⟩
  cases e : (s.n x).is with
  | true => rfl
  | false => rw [h.no x e] at h1; exact absurd h1 (by decide)
/-- Linked: what is then, of both names; and when the first one is taken away. -/
theorem linked {s : In} {B : Int} (h : GoodP s [] B) {a t : Txt} (he : (lnkV s a t).1 = 0) : ∃ x : Nat, x < 16 ∧ walkI (lnkV s a t).2 a = (x, 0) ∧ walkI (lnkV s a t).2 t = (x, 0) ∧ ((lnkV s a t).2.n x).is = true ∧ ((lnkV s a t).2.n x).dir = false ∧ 2 ≤ ((lnkV s a t).2.n x).links ∧
    ∀ (s2 : In) (B2 : Int), s2.n = (lnkV s a t).2.n → GoodP s2 [] B2 → (remV s2 a false).1 = 0 ∧ walkI (remV s2 a false).2 t = (x, 0) ∧ (walkI (remV s2 a false).2 a).2 = 9 ∧ ((remV s2 a false).2.n x).is = true ∧ ((remV s2 a false).2.n x).dir = false ∧ ((remV s2 a false).2.n x).links = (s2.n x).links - 1 ∧ (remV s2 a false).2.so = s2.so := by
  have hs := he
  unfold lnkV at hs
  split at hs
  · rename_i e; exact absurd hs e
  rename_i e1
  split at hs
  · cases hs
  rename_i e2
  split at hs
  · rename_i e; exact absurd hs e
  rename_i e3
  have hS : (lnkV s a t).2 = enI s (parI s t).1 (parI s t).2.1 (walkI s a).1 := by
    unfold lnkV; rw [if_neg e1, if_neg e2, if_neg e3]
  have hs : enIE s (parI s t).1 (parI s t).2.1 (walkI s a).1 = 0 := hs
  obtain ⟨x, hx⟩ : ∃ x, x = (walkI s a).1 := ⟨_, rfl⟩
  have hwa : walkI s a = (x, 0) := by rw [hx]; have : (walkI s a).2 = 0 := Classical.not_not.1 e1; rw [← this]
  have hfd : dirI s (x : Int) = false := by rw [hx]; simpa using e2
  obtain ⟨ia, na, da, ha1, ha2, ha3, ha4⟩ := walk_file h hwa hfd
  -- where t goes
  have e3' : (parI s t).2.2 = 0 := Classical.not_not.1 e3
  have hp0 : (parT t).2.2 = 0 := by
    unfold parI at e3'
    split at e3'
    · assumption
    · rename_i e; have := (parT_range t).1; have : (parT t).2.2.toNat = 0 := e3'; omega
  obtain ⟨it, nt, ht1, ht2, ht3⟩ := par_walk hp0
  have hpp : (parI s t) = ((walkL s 0 it).1, nt, 0) ∧ (walkL s 0 it).2 = 0 := by
    unfold parI at e3' ⊢
    rw [if_pos hp0] at e3' ⊢
    rw [ht3 s] at e3' ⊢
    split at e3'
    · rename_i e; rw [if_pos e, ht2]; exact ⟨rfl, e⟩
    · rename_i e; exact absurd e3' e
  obtain ⟨d, hd⟩ : ∃ d, d = (walkL s 0 it).1 := ⟨_, rfl⟩
  have hwt : walkL s 0 it = (d, 0) := by rw [hd]; exact Prod.ext rfl hpp.2
  rw [hpp.1, ← hx, ← hd] at hs hS
  have hs : enIE s (d : Int) nt (x : Int) = 0 := hs
  have hS : (lnkV s a t).2 = enI s (d : Int) nt (x : Int) := hS
  rw [hS]
  have more := en_more hs
  have fnd := en_find hs
  have fx : fiII (enI s d nt x) d nt = x := by have := fnd.2; omega
  obtain ⟨d', x', hd', hx', d16, x16, dis, ddir, xis, x0, hnone, hen, -⟩ := en_facts hs
  have hdd : d = d' := by omega
  have hxx : x = x' := by omega
  subst hdd
  subst hxx
  have xdir : (s.n x).dir = false := by
    unfold dirI at hfd
    rw [isI_of x16 xis, Int.toNat_natCast] at hfd
    simpa using hfd
  have q := inc_set_n s d x x (insL (s.n d).l ⟨nt, x⟩)
  have nm := named_is h ha3 ha4
  have wa1 : walkL (enI s d nt x) 0 ia = (da, 0) := by rw [walkL_more more (by rw [ha2]), ha2]
  have wt1 : walkL (enI s d nt x) 0 it = (d, 0) := by rw [walkL_more more (by rw [hwt]), hwt]
  have ma := more da na ha3
  refine ⟨x, x16, walkI_split ha1 wa1 ma.1 (by rw [ma.2, ha4]), walkI_split ht1 wt1 fnd.1 fx, by rw [hen, q.1]; exact xis, by rw [hen, q.2.1]; exact xdir, by rw [hen, q.2.2.2.1, if_pos rfl]; omega, fun s2 B2 hn2 g2 => ?_⟩
  have sm := same_n hn2
  have ws : ∀ l, walkL s2 0 l = walkL (enI s d nt x) 0 l := fun l => walkL_same (fun d x _ => ⟨sm.2.2.2.1 d x, sm.2.2.2.2 d x⟩)
  have wa2 : walkL s2 0 ia = (da, 0) := by rw [ws, wa1]
  have wt2 : walkL s2 0 it = (d, 0) := by rw [ws, wt1]
  have fa : fiIE s2 da na = 0 ∧ fiII s2 da na = x := ⟨by rw [sm.2.2.2.1, ma.1], by rw [sm.2.2.2.2, ma.2, ha4]⟩
  have ft : fiIE s2 d nt = 0 ∧ fiII s2 d nt = x := ⟨by rw [sm.2.2.2.1, fnd.1], by rw [sm.2.2.2.2, fx]⟩
  have x2 : (s2.n x).is = true ∧ (s2.n x).dir = false ∧ 2 ≤ (s2.n x).links := by
    rw [hn2, hen]
    exact ⟨by rw [q.1]; exact xis, by rw [q.2.1]; exact xdir, by rw [q.2.2.2.1, if_pos rfl]; omega⟩
  have dx2 : dirI s2 (x : Int) = false := by
    unfold dirI; rw [isI_of x16 x2.1, Int.toNat_natCast, x2.2.1]; rfl
  obtain ⟨pa0, pa1, pa2⟩ := par_of ha1
  have pI : parI s2 a = (da, na, 0) := by
    unfold parI
    rw [if_pos pa0, pa2 s2, wa2, if_pos rfl, pa1]
  have rv : remV s2 a false = (rmIE s2 da na, rmI s2 da na) := by
    unfold remV
    rw [pI, if_neg (by simp), if_neg (by simp [fa.1])]
    show (if dirI s2 (fiII s2 da na) = true ∧ false = false then _ else _) = _
    rw [fa.2, if_neg (by rw [dx2]; simp), if_neg (by simp)]
  obtain ⟨r1, r2, r3, r4, r5⟩ := rm_file g2 fa.1 fa.2 x2.2.1 (.inl (by omega))
  rw [rv]
  have ddir2 : (s2.n (walkL s2 0 it).1).dir = true := by
    rw [wt2, hn2, hen]
    show ((incL (setL s d _) x).n d).dir = true
    rw [(inc_set_n s d x d _).2.1]; exact ddir
  have dadir2 : (s2.n (walkL s2 0 ia).1).dir = true := by
    rw [wa2]
    obtain ⟨k, _, hk1, _, _, hk2, _⟩ := fi_dir fa.1
    have : k = da := by omega
    subst this; exact hk2
  have wt3 : walkL (rmI s2 da na) 0 it = (d, 0) := by rw [walkL_dirs fa.2 x2.2.1 r5 (by rw [wt2]) ddir2, wt2]
  have wa3 : walkL (rmI s2 da na) 0 ia = (da, 0) := by rw [walkL_dirs fa.2 x2.2.1 r5 (by rw [wa2]) dadir2, wa2]
  have ne : ¬ ((d : Int) = da ∧ nt = na) := by
    rintro ⟨h1, h2⟩
    have h1 : d = da := by omega
    subst h1 h2
    obtain ⟨k, y, hk1, _, _, _, hk2, _⟩ := fi_dir ha3
    have : k = d := by omega
    subst this
    rw [hnone] at hk2; cases hk2
  have f3 := r5 d nt ne
  refine ⟨r1, walkI_split ht1 wt3 (by rw [f3.1, ft.1]) (by rw [f3.2, ft.2]), ?_, by rw [(r2 x).1]; exact x2.1, by rw [(r2 x).2.1]; exact x2.2.1, by rw [(r2 x).2.2.1, if_pos rfl], r3⟩
  unfold walkI
  rw [ha1, if_pos rfl]
  show (walkL (rmI s2 da na) 0 (ia ++ [na])).2 = 9
  rw [walkL_snoc, wa3, if_pos rfl]
  show (if fiIE (rmI s2 da na) da na = 0 then (fiII (rmI s2 da na) da na, 0) else (0, fiIE (rmI s2 da na) da na)).2 = 9
  rw [r4]; rfl
end Go.Proofs.YtndfnglcichngaaGreatDoor
namespace Go.Proofs.YtndfnglcichngaaGreatDoor
open Go.ChangeShapes Go.WideShapes Go.ChangeAt Go.RowKit
set_option linter.unusedVariables false
set_option linter.unusedSimpArgs false
/-- The two pointers. -/
def Hd22 (w : World) (Vb T G : Nat) : Prop := w.heap[Vb]? = some (.cells #[.pointer (some ⟨T, 0, none⟩), .pointer (some ⟨G, 0, none⟩)] 84 (0, 0))
theorem Hd22.below {w w' : World} {Vb T G : Nat} (h : Hd22 w Vb T G) (b : Below w.heap.size w w') : Hd22 w' Vb T G := (b.block Vb (lt_of_heap h)).trans h
theorem Hd22.c0 {w : World} {Vb T G : Nat} (h : Hd22 w Vb T G) : w.cell? ⟨Vb, 0, none⟩ = some (.pointer (some ⟨T, 0, none⟩)) := by rw [cell_of_row _ _ _ _ _ _ h]; rfl
theorem Hd22.c1 {w : World} {Vb T G : Nat} (h : Hd22 w Vb T G) : w.cell? ⟨Vb, 1, none⟩ = some (.pointer (some ⟨G, 0, none⟩)) := by rw [cell_of_row _ _ _ _ _ _ h]; rfl
section
variable {w : World} {D : Nat → Prop} {T R G Vb : Nat} {s : In} {E : Nat → Prop} {V : Nat → Value}
set_option maxRecDepth 10000 in
set_option maxHeartbeats 4000000 in
theorem vwalk_any (h : RtAt w D T R G s E V) (hd : Hd22 w Vb T G) (hf : ∀ i, (s.n i).l.length ≤ 8) (t : Txt) (ht : t.length ≤ 1000) : Calls Tryz.prog 49 #[.pointer (some ⟨Vb, 0, none⟩), .string (bt t)] w fun e w' => e = .returned (.tuple #[.int .i64 ((walkI s t).1 : Nat), .int .i64 ((walkI s t).2 : Nat)]) ∧ Below w.heap.size w w' := by
  have SP := hide (rsplit_any w t (by omega))
  have SR := hide (splitT_range t)
  have S6 := hide (splitT_few6 t)
  have HW := hide (show walkI s t = if (splitT t).2 = 0 then walkL s 0 (splitT t).1 else (0, (splitT t).2.toNat) from rfl)
  obtain ⟨l, hl⟩ : ∃ l, l = (splitT t).1 := ⟨_, rfl⟩
  obtain ⟨ev, hev⟩ : ∃ ev, ev = (splitT t).2 := ⟨_, rfl⟩
  have SPL := hide (show Calls Tryz.prog 92 #[.string (bt t)] w (fun e w' => ∃ v, e = .returned (.tuple #[v, .int .i64 ev]) ∧ w'.ownsRow w.heap.size 9 1 v l.length (l.flatMap txVals) ∧ Below w.heap.size w w') from by rw [hl, hev]; exact SP.out)
  rw [← hl] at S6 HW
  rw [← hev] at SR HW
  obtain ⟨n, hn⟩ : ∃ n, n = l.length := ⟨_, rfl⟩
  have NL := hide hn
  rw [← hn] at SPL S6
  have n6 : (n : Int) ≤ 6 := by have := S6.out; omega
  clear SP hl hev hn
  by_cases e0 : ev = 0
  · have HH := hide (fun (W : World) (b : Below w.heap.size w W) => h.below b)
    have HD := hide (fun (W : World) (b : Below w.heap.size w W) => hd.below b)
    have FD := hide (fun (W : World) (b : Below w.heap.size w W) (d : Nat) (x : Txt) => tfind_any (h.below b) hf (d : Int) x)
    rw [e0] at SPL
    rw [if_pos e0] at HW
    clear h hd hf e0 SR
    go_enter Tryz.func49, Tryz.ntmps49
    go_upto_region 2 with (go_at_call 92; refine SPL.out.mono ?_; rintro e w1 ⟨v1, rfl, o1, b1⟩; have O1 := hide o1; have B1 := hide b1; clear o1 b1)
    obtain ⟨a1, c1, rfl, r1, -, -, -⟩ := own_reads txVals_len (by omega) O1.out
    have R1 := hide r1
    clear r1
    go_wp2_with fail
    go_loopw [8, 9] (fun dv kv wr => ∃ (k d : Nat), k ≤ n ∧ kv = .int .i64 (k : Int) ∧ dv = .int .i64 (d : Int) ∧ Hid (walkL s 0 (l.take k) = (d, 0)) ∧ Hid (Below w1.heap.size w1 wr)) (fun _ kv _ => n - (intOf kv).toNat)
    case atStart => exact ⟨0, 0, Nat.zero_le _, rfl, rfl, rfl, Below.refl _ _⟩
    case round =>
      obtain ⟨k, d, hk, rfl, rfl, hW, hB⟩ := hrel
      rename World => wr
      have k0 : (0 : Int) ≤ (k : Int) := by omega
      have BW := hide (B1.out.trans (hB.out.mono B1.out.size))
      by_cases hlt : k < n
      · have k1 : (k : Int) < (n : Int) := by omega
        obtain ⟨x, b, off, hx, rfl, c0⟩ := (R1.out.below hB.out).text hlt
        have q0 := (HD.out _ BW.out).c0
        have TK := hide (walkL_take hx (show (walkL s 0 (l.take k)).2 = 0 by rw [hW.out]))
        have ST := hide (show (walkL s 0 (l.take (k + 1))).2 ≠ 0 → walkL s 0 l = walkL s 0 (l.take (k + 1)) from walkL_stop)
        obtain ⟨fi, hfi⟩ : ∃ z, z = fiII s d x := ⟨_, rfl⟩
        obtain ⟨fe, hfe⟩ : ∃ z, z = fiIE s d x := ⟨_, rfl⟩
        have FX := hide (show ∀ m, Calls Tryz.prog 85 #[.pointer (some ⟨T, 0, none⟩), .int .i64 (d : Int), .string (bt x)] (wr.drewN m) fun e w' => e = .returned (.tuple #[.int .i64 (fi : Int), .int .i64 (fe : Int)]) ∧ ∃ n, w' = wr.drewN n from fun m => (FD.out (wr.drewN m) (below_drewN BW.out m) d x).mono fun e w' ⟨a, b⟩ => ⟨by rw [hfi, hfe]; exact a, m, b.symm⟩)
        rw [hW.out] at TK
        have TK : Hid (walkL s 0 (l.take (k + 1)) = if fe = 0 then (fi, 0) else (0, fe)) := hide (by rw [hfi, hfe]; exact TK.out)
        clear hx hfi hfe
        have FIN := hide (fun (nq : Nat) => show Below w1.heap.size w1 (wr.drewN nq) from below_drewN hB.out nq)
        go_upto_region 8 with fail
        go_quiet ((go_at_call 85; exact FX.out _))
        by_cases z0 : fe = 0
        · rw [if_pos z0] at TK
          have z1 : (fe : Int) = 0 := by omega
          rw [z1]
          go_wp2_with fail
          go_roundw
          case rel => exact ⟨k + 1, fi, by omega, by go_num, rfl, TK, FIN.out _⟩
          case measure => simp [intOf]; omega
        · rw [if_neg z0] at TK
          have z1 : ¬ (fe : Int) = 0 := by omega
          have WI := hide (show walkI s t = (0, fe) from by rw [HW.out, ST.out (by rw [TK.out]; exact z0), TK.out])
          go_wp2_with fail
          go_ret2
          rw [WI.out]
          exact ⟨rfl, B1.out.trans ((FIN.out _).mono B1.out.size)⟩
      · obtain rfl : k = n := by omega
        have WI := hide (show walkI s t = (d, 0) from by rw [HW.out]; have h := hW.out; rw [List.take_of_length_le (by rw [NL.out]; exact Nat.le_refl _)] at h; exact h)
        go_wp2_with fail
        go_ret2
        rw [WI.out]
        exact ⟨rfl, BW.out⟩
  · rw [if_neg e0] at HW
    obtain ⟨z, hz⟩ := Int.eq_ofNat_of_zero_le SR.out.1
    subst hz
    rw [Int.toNat_natCast] at HW
    rw [HW.out]
    clear h hd hf SR
    go_enter Tryz.func49, Tryz.ntmps49
    go_wp2_with (go_at_call 92; refine SPL.out.mono ?_; rintro e w1 ⟨v1, rfl, o1, b1⟩; have B1 := hide b1; clear o1 b1)
    go_ret2
    exact ⟨rfl, B1.out⟩
/-- parent: the directory above, the last name. -/
theorem vparent_any (h : RtAt w D T R G s E V) (hd : Hd22 w Vb T G) (hf : ∀ i, (s.n i).l.length ≤ 8) (t : Txt) (ht : t.length ≤ 1000) : Calls Tryz.prog 81 #[.pointer (some ⟨Vb, 0, none⟩), .string (bt t)] w fun e w' => e = .returned (.tuple #[.int .i64 ((parI s t).1 : Nat), .string (bt (parI s t).2.1), .int .i64 ((parI s t).2.2 : Nat)]) ∧ Below w.heap.size w w' := by
  have PR := hide (rpar_any w t (by omega))
  have SR := hide (parT_range t)
  have HP := hide (show parI s t = if (parT t).2.2 = 0 then (if (walkI s (parT t).1).2 = 0 then ((walkI s (parT t).1).1, (parT t).2.1, 0) else (0, [], (walkI s (parT t).1).2)) else (0, [], (parT t).2.2.toNat) from rfl)
  have PS := hide (show (parT t).2.2 = 0 → (parT t).1.length ≤ 54 from fun e => (parT_short e).1)
  obtain ⟨u, hu⟩ : ∃ z, z = (parT t).1 := ⟨_, rfl⟩
  obtain ⟨x, hx⟩ : ∃ z, z = (parT t).2.1 := ⟨_, rfl⟩
  obtain ⟨ev, hev⟩ : ∃ z, z = (parT t).2.2 := ⟨_, rfl⟩
  have PRT := hide (show Calls Tryz.prog 115 #[.string (bt t)] w (fun e w' => e = .returned (.tuple #[.string (bt u), .string (bt x), .int .i64 ev]) ∧ Below w.heap.size w w') from by rw [hu, hx, hev]; exact PR.out)
  rw [← hev] at SR HP PS
  rw [← hu] at HP PS
  rw [← hx] at HP
  clear PR hu hx hev
  by_cases e0 : ev = 0
  · rw [if_pos e0] at HP
    have U54 := hide (PS.out e0)
    rw [e0] at PRT
    obtain ⟨wd, hwd⟩ : ∃ z, z = (walkI s u).1 := ⟨_, rfl⟩
    obtain ⟨we, hwe⟩ : ∃ z, z = (walkI s u).2 := ⟨_, rfl⟩
    have WK := hide (fun (W : World) (b : Below w.heap.size w W) => show Calls Tryz.prog 49 #[.pointer (some ⟨Vb, 0, none⟩), .string (bt u)] W (fun e w' => e = .returned (.tuple #[.int .i64 (wd : Int), .int .i64 (we : Int)]) ∧ Below W.heap.size W w') from by rw [hwd, hwe]; exact vwalk_any (h.below b) (hd.below b) hf u (by have := U54.out; omega))
    rw [← hwd, ← hwe] at HP
    clear h hd hf SR PS e0 hwd hwe
    by_cases z0 : we = 0
    · rw [if_pos z0] at HP
      rw [HP.out]
      have z1 : (we : Int) = 0 := by omega
      rw [z1] at WK
      go_enter Tryz.func81, Tryz.ntmps81
      go_wp2_with (first
        | (go_at_call 115; refine PRT.out.mono ?_; rintro e w1 ⟨rfl, b1⟩; have B1 := hide b1; clear b1)
        | (go_at_call 49; refine (WK.out _ B1.out).mono ?_; rintro e w2 ⟨rfl, b2⟩; have B2 := hide (B1.out.trans (b2.mono B1.out.size)); clear b2))
      go_ret3
      exact ⟨rfl, B2.out⟩
    · rw [if_neg z0] at HP
      rw [HP.out]
      have z1 : ¬ (we : Int) = 0 := by omega
      go_enter Tryz.func81, Tryz.ntmps81
      go_wp2_with (first
        | (go_at_call 115; refine PRT.out.mono ?_; rintro e w1 ⟨rfl, b1⟩; have B1 := hide b1; clear b1)
        | (go_at_call 49; refine (WK.out _ B1.out).mono ?_; rintro e w2 ⟨rfl, b2⟩; have B2 := hide (B1.out.trans (b2.mono B1.out.size)); clear b2))
      go_ret3
      exact ⟨rfl, B2.out⟩
  · rw [if_neg e0] at HP
    obtain ⟨z, hz⟩ := Int.eq_ofNat_of_zero_le SR.out.1
    subst hz
    rw [Int.toNat_natCast] at HP
    rw [HP.out]
    clear h hd hf SR PS
    go_enter Tryz.func81, Tryz.ntmps81
    go_wp2_with (go_at_call 115; refine PRT.out.mono ?_; rintro e w1 ⟨rfl, b1⟩; have B1 := hide b1; clear b1)
    go_ret3
    exact ⟨rfl, B1.out⟩
end
end Go.Proofs.YtndfnglcichngaaGreatDoor
