/-
  Several texts as one: IdRefE IdRefF IdBoth IpFind IpCmp IpPlace IpTell IpGone.
-/
import Derived.Laws.Cover1
import Derived.Test.YtpghnhcjgjgglaaPa14
import Derived.Test.YtpghnhcjgjgglaaSoBothPb
import Derived.Test.YtpghnhcjgjgglaaPa09
import Derived.Test.YtpghnhcjgjgglaaPa10
import Derived.Test.YtpghnhcjgjgglaaPa13
import Derived.Deep.RegionHeld3
import Derived.Deep.QuietTactic
import Derived.BigQuiet
import Derived.Laws.ResultCell
import Derived.Deep.MidRow
import Derived.Test.YtpghnhcjgjgglaaSpCutPb
namespace Go.Proofs.Ytpghnhcjgjgglaa
open Go.ChangeShapes Go.WideShapes Go.ChangeAt Go.RowKit
set_option linter.unusedVariables false
set_option linter.unusedSimpArgs false
section
variable {w : World} {D : Nat → Prop} {T R S : Nat} {s : In} {E : Nat → Prop} {V : Nat → Value}
/-- What is gone through, with the new one in (b), or not yet. -/
def InsAt (l : List Ent) (e : Ent) (k : Nat) (b : Bool) (M : List Ent) : Prop := if b then M ++ l.drop k = insL l e else M = l.take k ∧ M ++ insL (l.drop k) e = insL l e
theorem InsAt.first (l : List Ent) (e : Ent) : InsAt l e 0 false [] := ⟨rfl, rfl⟩
theorem insL_cons (x : Ent) (l : List Ent) (e : Ent) : insL (x :: l) e = if ltT e.nm x.nm then e :: x :: l else x :: insL l e := rfl
theorem drop_at {l : List Ent} {k : Nat} {x : Ent} (hx : l[k]? = some x) : l.drop k = x :: l.drop (k + 1) := by
  rw [List.drop_eq_getElem_cons (List.getElem?_eq_some_iff.1 hx).1, (List.getElem?_eq_some_iff.1 hx).2]
theorem InsAt.next {l : List Ent} {e x : Ent} {k : Nat} {M : List Ent} (h : InsAt l e k true M) (hx : l[k]? = some x) : InsAt l e (k + 1) true (M ++ [x]) := by
  have h : M ++ l.drop k = insL l e := h
  show (M ++ [x]) ++ l.drop (k + 1) = insL l e
  rw [← h, drop_at hx, List.append_assoc, List.singleton_append]
theorem InsAt.pass {l : List Ent} {e x : Ent} {k : Nat} {M : List Ent} (h : InsAt l e k false M) (hx : l[k]? = some x) (hn : ltT e.nm x.nm = false) : InsAt l e (k + 1) false (M ++ [x]) := by
  have h : M = l.take k ∧ M ++ insL (l.drop k) e = insL l e := h
  refine (show M ++ [x] = l.take (k + 1) ∧ (M ++ [x]) ++ insL (l.drop (k + 1)) e = insL l e from ⟨by rw [List.take_add_one, hx, h.1]; rfl, ?_⟩)
  rw [← h.2, drop_at hx, insL_cons, hn, List.append_assoc, List.singleton_append]; rfl
theorem InsAt.turn {l : List Ent} {e x : Ent} {k : Nat} {M : List Ent} (h : InsAt l e k false M) (hx : l[k]? = some x) (hn : ltT e.nm x.nm = true) : InsAt l e (k + 1) true (M ++ [e] ++ [x]) := by
  have h : M = l.take k ∧ M ++ insL (l.drop k) e = insL l e := h
  show ((M ++ [e]) ++ [x]) ++ l.drop (k + 1) = insL l e
  rw [← h.2, drop_at hx, insL_cons, hn]
  simp
theorem InsAt.end_ {l : List Ent} {e : Ent} {k : Nat} {M : List Ent} (hk : l.length ≤ k) : (InsAt l e k true M → M = insL l e) ∧ (InsAt l e k false M → M ++ [e] = insL l e) := by
  refine ⟨fun h => ?_, fun h => ?_⟩
  · have h : M ++ l.drop k = insL l e := h
    rw [← h, List.drop_of_length_le hk, List.append_nil]
  · have h : M = l.take k ∧ M ++ insL (l.drop k) e = insL l e := h
    rw [← h.2, List.drop_of_length_le hk]; rfl
theorem InsAt.len {l : List Ent} {e : Ent} {k : Nat} {b : Bool} {M : List Ent} (h : InsAt l e k b M) : M.length ≤ l.length + 1 := by
  cases b with
  | true => have h : M ++ l.drop k = insL l e := h
            have := congrArg List.length h
            rw [List.length_append, insL_len] at this; omega
  | false => have h : M = l.take k ∧ M ++ insL (l.drop k) e = insL l e := h
             rw [h.1, List.length_take]; omega
theorem gt_facts {x t : Txt} (hne : x ≠ t) : Op.bytesLess (bt x).toList (bt t).toList = !ltT t x ∧ ((bt x).toList == (bt t).toList) = false := by
  rw [bt_eq, decide_eq_false hne, bt_list, bt_list]
  refine ⟨?_, rfl⟩
  have := gtT_iff x t
  rw [decide_eq_false hne, Bool.or_false] at this
  show ltT x t = _
  rw [← this]; simp
set_option maxRecDepth 10000 in
set_option maxHeartbeats 8000000 in
theorem tenter_any (h : RtAt w D T R S s E V) {B : Int} (g : GoodP s [] B) (hB : B ≤ 1000000) (d : Int) (t : Txt) (ht : t.length ≤ 1000000) (id : Int) : Calls Try.prog 32 #[.pointer (some ⟨T, 0, none⟩), .int .i64 d, .string (bt t), .int .i64 id] w fun e w' => e = .returned (.int .i64 (enIE s d t id : Nat)) ∧ Rto w w' D E T R S (enI s d t id) := by
  have IS := hide (tis_any h id)
  have ID := hide (tisdir_any h d)
  have FD := hide (tfind_any h g.few d t)
  have NM := hide (rname_any w t ht)
  have FIN := hide (Rto.refl h)
  cases e1 : dirI s d with
  | false =>
    have hE : enIE s d t id = 11 := by unfold enIE; rw [e1]; rfl
    rw [hE, show enI s d t id = s from by unfold enI; rw [if_neg (by rw [hE]; decide)]]
    rw [e1] at ID
    clear h g e1 hE
    go_enter Try.func32, Try.ntmps32
    go_wp2_with (go_at_call 37; refine ID.out.mono ?_; rintro e w' ⟨rfl, rfl⟩)
    go_ret
    exact ⟨rfl, FIN.out⟩
  | true =>
  rw [e1] at ID
  by_cases e2 : ¬ nameE t = 0
  · have hE : (enIE s d t id : Int) = nameE t := by unfold enIE; rw [e1, if_neg (by simp), if_pos e2]; have := nameE_range t; omega
    have hE0 : enIE s d t id ≠ 0 := by omega
    rw [show enI s d t id = s from by unfold enI; rw [if_neg hE0], hE]
    obtain ⟨z, hz⟩ : ∃ z, z = nameE t := ⟨_, rfl⟩
    rw [← hz] at NM e2 ⊢
    clear h g e1 hE hE0 hz
    go_enter Try.func32, Try.ntmps32
    go_wp2_with (first
      | (go_at_call 37; refine ID.out.mono ?_; rintro e w' ⟨rfl, rfl⟩)
      | (go_at_call 58; refine NM.out.mono ?_; rintro e w' ⟨rfl, rfl⟩))
    go_ret
    exact ⟨rfl, FIN.out⟩
  replace e2 : nameE t = 0 := Classical.not_not.1 e2
  rw [e2] at NM
  have wE : enIE s d t id = if isI s id = false ∨ id = 0 then 4 else if (findL (s.n d.toNat).l t).isSome = true then 10 else if (s.n d.toNat).l.length = 8 then 15 else 0 := by
    unfold enIE; rw [e1, if_neg (by simp), if_neg (by simp [e2])]
  cases e3 : isI s id with
  | false =>
    rw [e3, if_pos (.inl rfl)] at wE
    rw [show enI s d t id = s from by unfold enI; rw [if_neg (by rw [wE]; decide)], wE]
    rw [e3] at IS
    clear h g e1 e2 e3 wE
    go_enter Try.func32, Try.ntmps32
    go_wp2_with (first
      | (go_at_call 37; refine ID.out.mono ?_; rintro e w' ⟨rfl, rfl⟩)
      | (go_at_call 36; refine IS.out.mono ?_; rintro e w' ⟨rfl, rfl⟩)
      | (go_at_call 58; refine NM.out.mono ?_; rintro e w' ⟨rfl, rfl⟩))
    go_ret
    exact ⟨rfl, FIN.out⟩
  | true =>
  rw [e3] at IS
  by_cases e4 : id = 0
  · rw [if_pos (.inr e4)] at wE
    rw [show enI s d t id = s from by unfold enI; rw [if_neg (by rw [wE]; decide)], wE]
    subst e4
    clear h g e1 e2 e3 wE
    go_enter Try.func32, Try.ntmps32
    go_wp2_with (first
      | (go_at_call 37; refine ID.out.mono ?_; rintro e w' ⟨rfl, rfl⟩)
      | (go_at_call 36; refine IS.out.mono ?_; rintro e w' ⟨rfl, rfl⟩)
      | (go_at_call 58; refine NM.out.mono ?_; rintro e w' ⟨rfl, rfl⟩))
    go_ret
    exact ⟨rfl, FIN.out⟩
  rw [e3, if_neg (by simp [e4])] at wE
  obtain ⟨i, rfl, i16, iis, idir⟩ := dirI_yes e1
  obtain ⟨j, rfl, j16, jis⟩ := isI_yes e3
  rw [Int.toNat_natCast] at wE
  have hfE : fiIE s (i : Int) t = if (findL (s.n i).l t).isSome then 0 else 9 := by unfold fiIE; rw [e1, Int.toNat_natCast]; rfl
  have j0n : j ≠ 0 := by omega
  have z4 : ¬ (j : Int) = 0 := e4
  obtain ⟨fi, hfi⟩ : ∃ z, z = fiII s (i : Int) t := ⟨_, rfl⟩
  rw [← hfi] at FD
  by_cases e5 : (findL (s.n i).l t).isSome = true
  · rw [if_pos e5] at wE hfE
    rw [hfE] at FD
    rw [show enI s (i : Int) t (j : Int) = s from by unfold enI; rw [if_neg (by rw [wE]; decide)], wE]
    clear h g e1 e2 e3 wE e5 hfE hfi
    go_enter Try.func32, Try.ntmps32
    go_wp2_with (first
      | (go_at_call 37; refine ID.out.mono ?_; rintro e w' ⟨rfl, rfl⟩)
      | (go_at_call 36; refine IS.out.mono ?_; rintro e w' ⟨rfl, rfl⟩)
      | (go_at_call 34; refine FD.out.mono ?_; rintro e w' ⟨rfl, rfl⟩)
      | (go_at_call 58; refine NM.out.mono ?_; rintro e w' ⟨rfl, rfl⟩))
    go_ret
    exact ⟨rfl, FIN.out⟩
  rw [if_neg e5] at wE hfE
  rw [hfE] at FD
  obtain ⟨a, c, hv, hr, -, -, -⟩ := h.list i
  have cl := h.cList i16
  rw [hv] at cl
  have i0 : (0 : Int) ≤ (i : Int) := by omega
  have i1 : (i : Int) < 16 := by omega
  by_cases e6 : (s.n i).l.length = 8
  · rw [if_pos e6] at wE
    rw [show enI s (i : Int) t (j : Int) = s from by unfold enI; rw [if_neg (by rw [wE]; decide)], wE]
    rw [e6] at cl
    clear h g e1 e2 e3 wE e5 hfE hfi hv hr
    go_enter Try.func32, Try.ntmps32
    go_wp2_with (first
      | (go_at_call 37; refine ID.out.mono ?_; rintro e w' ⟨rfl, rfl⟩)
      | (go_at_call 36; refine IS.out.mono ?_; rintro e w' ⟨rfl, rfl⟩)
      | (go_at_call 34; refine FD.out.mono ?_; rintro e w' ⟨rfl, rfl⟩)
      | (go_at_call 58; refine NM.out.mono ?_; rintro e w' ⟨rfl, rfl⟩))
    go_ret
    exact ⟨rfl, FIN.out⟩
  rw [if_neg e6] at wE
  rw [wE, show enI s (i : Int) t (j : Int) = incL (setL s i (insL (s.n i).l ⟨t, j⟩)) j from by unfold enI; rw [if_pos wE, Int.toNat_natCast, Int.toNat_natCast]]
  have hLB := g.links j
  have HR := hide hr
  have n8 : ((s.n i).l.length : Int) < 8 := by have := g.few i; omega
  have z8 : ¬ ((s.n i).l.length : Int) = 8 := by omega
  have HNE := hide (show ∀ x ∈ (s.n i).l, x.nm ≠ t from findL_none.1 (by simpa using e5))
  have LB := hide (show 0 ≤ ((setL s i (insL (s.n i).l ⟨t, j⟩)).n j).links ∧ ((setL s i (insL (s.n i).l ⟨t, j⟩)).n j).links ≤ 128 from by
    have : ((setL s i (insL (s.n i).l ⟨t, j⟩)).n j).links = (s.n j).links := by
      unfold setL In.put upd
      by_cases e : j = i
      · subst e; simp
      · simp [e]
    rw [this]; exact hLB)
  obtain ⟨l, hll⟩ : ∃ l, l = (s.n i).l := ⟨_, rfl⟩
  rw [← hll] at HR n8 cl HNE z8 LB ⊢
  obtain ⟨n, hn⟩ : ∃ n, n = l.length := ⟨_, rfl⟩
  rw [← hn] at cl HR n8 z8
  have NL := hide hn
  have HH := hide h
  have J16 := hide j16
  obtain ⟨i0', hi0, hz0, hz1, hz2⟩ := info_parts entry_info
  have INFO := hide (And.intro hi0 (And.intro hz0 (And.intro hz1 hz2)))
  have CB := hide (fun (W : World) (b : Below w.heap.size w W) => show W.cell? ⟨T, 1 + i * 5 + 4, none⟩ = some (.slice a n c) ∧ W.frozen? ⟨T, 1 + i * 5 + 4, none⟩ = false from ⟨(b.cell (lt_of_cell? cl)).trans cl, ((h.below b).row.frz _)⟩)
  have j0 : (0 : Int) ≤ (j : Int) := by omega
  have j1 : (j : Int) < 16 := by omega
  clear h g e1 e2 e3 wE e5 hfE hfi hv hr e6 hll hn hi0 hz0 hz1 hz2 hLB e4 iis idir jis FIN j16
  go_enter Try.func32, Try.ntmps32
  go_wp2_with (first
    | (go_at_call 37; refine ID.out.mono ?_; rintro e w' ⟨rfl, rfl⟩)
    | (go_at_call 36; refine IS.out.mono ?_; rintro e w' ⟨rfl, rfl⟩)
    | (go_at_call 34; refine FD.out.mono ?_; rintro e w' ⟨rfl, rfl⟩)
    | (go_at_call 58; refine NM.out.mono ?_; rintro e w' ⟨rfl, rfl⟩))
  try simp only [show ((j : Int) == 0) = false from by simpa using z4, show ((n : Int) == 8) = false from by simpa using z8]
  go_loopw [12, 13, 14] (fun lv bv kv wr => ∃ (k : Nat) (b : Bool), k ≤ n ∧ kv = .int .i64 (k : Int) ∧ bv = .bool b ∧ Hid (Below w.heap.size w wr) ∧ Hid (∃ M, InsAt l ⟨t, j⟩ k b M ∧ wr.ownsRow w.heap.size 44 2 lv M.length (M.flatMap enV))) (fun _ _ kv _ => n - (intOf kv).toNat)
  case atStart => exact ⟨0, false, Nat.zero_le _, rfl, rfl, Below.refl _ _, [], InsAt.first _ _, World.ownsRow_nil _ _ _ _⟩
  case round =>
    obtain ⟨k, bb, hk, rfl, rfl, hBl, hO⟩ := hrel
    rename World => wr
    obtain ⟨cw, fw⟩ := CB.out wr hBl.out
    obtain ⟨M, hM, oM⟩ := hO.out
    have HM := hide hM
    have OM := hide oM
    have ML := hide (show M.length ≤ 8 from by have := hM.len; have := NL.out; omega)
    clear hM oM hO
    by_cases hlt : k < n
    · have k0 : (0 : Int) ≤ (k : Int) := by omega
      have k1 : (k : Int) < (n : Int) := by omega
      obtain ⟨x, b, off, hx, rfl, x0, x1⟩ := (HR.out.below hBl.out).ent hlt
      obtain ⟨g1, g2⟩ := gt_facts (HNE.out x (List.mem_of_getElem? hx))
      have HX := hide hx
      obtain ⟨y, hy⟩ : ∃ y, y = x.nm := ⟨_, rfl⟩
      obtain ⟨z, hz⟩ : ∃ z, z = x.id := ⟨_, rfl⟩
      have HY := hide (show enV x = [.string (bt y), .int .i64 (z : Int)] from by rw [hy, hz]; rfl)
      have HYX := hide hy
      have HZX := hide hz
      rw [← hy] at x0 g1 g2
      rw [← hz] at x1
      clear hx hy hz
      cases bb with
      | true =>
        have NX := hide (HM.out.next HX.out)
        have RD := hide (show Reads 2 enV (wr.alloc (.cells #[.string (bt y), .int .i64 (z : Int)] 44)) (some ⟨wr.heap.size, 0, none⟩) 1 [x] from by have h := reads_ent wr x wr.heap.size rfl 44; rw [← HYX.out, ← HZX.out] at h; exact h)
        have OW1 := hide (OM.out.alloc (.cells #[.string (bt y), .int .i64 (z : Int)] 44))
        have B1 := hide (hBl.out.alloc (by have := hBl.out.size; omega) (.cells #[.string (bt y), .int .i64 (z : Int)] 44))
        go_wp2_with (at_builtin; refine wpList_append_reads rfl (.tmp 85) (.tmp 96) 39 rfl w.heap.size 44 i0' _ 24 (Try.underlying39) INFO.out.1 INFO.out.2.1 INFO.out.2.2.1 INFO.out.2.2.2 rfl (by omega) _ M.length _ rfl OW1.out (some ⟨wr.heap.size, 0, none⟩) 1 1 [x] rfl enV_len enV_cell RD.out (fun e => by cases e) (by have := ML.out; unfold maxLen; omega) (by have := ML.out; omega) B1.out.size ?_; intro v3 w3 o3 g3; have O3 := hide o3; have B3 := hide (B1.out.grown g3 B1.out.size (own_lo OW1.out)); clear o3 g3)
        go_roundw
        case rel => exact ⟨k + 1, true, by omega, by go_num, rfl, B3.out, M ++ [x], NX.out, by rw [List.length_append, List.flatMap_append]; exact O3.out⟩
        case measure => simp [intOf]; omega
      | false =>
        cases hl : ltT t y with
        | false =>
          rw [hl] at g1
          have NX := hide (HM.out.pass HX.out (by show ltT t x.nm = false; rw [← HYX.out]; exact hl))
          clear hl
          have RD := hide (show Reads 2 enV (wr.alloc (.cells #[.string (bt y), .int .i64 (z : Int)] 44)) (some ⟨wr.heap.size, 0, none⟩) 1 [x] from by have h := reads_ent wr x wr.heap.size rfl 44; rw [← HYX.out, ← HZX.out] at h; exact h)
          have OW1 := hide (OM.out.alloc (.cells #[.string (bt y), .int .i64 (z : Int)] 44))
          have B1 := hide (hBl.out.alloc (by have := hBl.out.size; omega) (.cells #[.string (bt y), .int .i64 (z : Int)] 44))
          go_wp2_with (at_builtin; refine wpList_append_reads rfl (.tmp 85) (.tmp 96) 39 rfl w.heap.size 44 i0' _ 24 (Try.underlying39) INFO.out.1 INFO.out.2.1 INFO.out.2.2.1 INFO.out.2.2.2 rfl (by omega) _ M.length _ rfl OW1.out (some ⟨wr.heap.size, 0, none⟩) 1 1 [x] rfl enV_len enV_cell RD.out (fun e => by cases e) (by have := ML.out; unfold maxLen; omega) (by have := ML.out; omega) B1.out.size ?_; intro v3 w3 o3 g3; have O3 := hide o3; have B3 := hide (B1.out.grown g3 B1.out.size (own_lo OW1.out)); clear o3 g3)
          go_roundw
          case rel => exact ⟨k + 1, false, by omega, by go_num, rfl, B3.out, M ++ [x], NX.out, by rw [List.length_append, List.flatMap_append]; exact O3.out⟩
          case measure => simp [intOf]; omega
        | true =>
          rw [hl] at g1
          have NX := hide (HM.out.turn HX.out (by show ltT t x.nm = true; rw [← HYX.out]; exact hl))
          clear hl
          have RD := hide (reads_ent wr ⟨t, j⟩ wr.heap.size rfl 44)
          have OW1 := hide (OM.out.alloc (.cells #[.string (bt t), .int .i64 (j : Int)] 44))
          have B1 := hide (hBl.out.alloc (by have := hBl.out.size; omega) (.cells #[.string (bt t), .int .i64 (j : Int)] 44))
          go_upto_region 21 with (at_builtin; refine wpList_append_reads rfl (.tmp 79) (.tmp 83) 39 rfl w.heap.size 44 i0' _ 24 (Try.underlying39) INFO.out.1 INFO.out.2.1 INFO.out.2.2.1 INFO.out.2.2.2 rfl (by omega) _ M.length _ rfl OW1.out (some ⟨wr.heap.size, 0, none⟩) 1 1 [⟨t, j⟩] rfl enV_len enV_cell RD.out (fun e => by cases e) (by have := ML.out; unfold maxLen; omega) (by have := ML.out; omega) B1.out.size ?_; intro v3 w3 o3 g3; have O3 := hide o3; have B3 := hide (B1.out.grown g3 B1.out.size (own_lo OW1.out)); clear o3 g3)
          obtain ⟨cw3, fw3⟩ := CB.out w3 B3.out
          obtain ⟨x', b', off', hx', e', x0', x1'⟩ := (HR.out.below B3.out).ent hlt
          obtain rfl : x = x' := by have h := HX.out; rw [hx'] at h; injection h with h; exact h.symm
          injection e' with e'
          injection e' with e'1 e'2 _
          subst e'1 e'2
          rw [← HYX.out] at x0'
          rw [← HZX.out] at x1'
          obtain ⟨av3, cv3, rfl, -⟩ := own_sliceR O3.out
          have O5 := O3
          have B5 := B3
          clear O3 B3 RD OW1 B1 cw fw x0 x1 hx'
          have RD := hide (show Reads 2 enV (w3.alloc (.cells #[.string (bt y), .int .i64 (z : Int)] 44)) (some ⟨w3.heap.size, 0, none⟩) 1 [x] from by have h := reads_ent w3 x w3.heap.size rfl 44; rw [← HYX.out, ← HZX.out] at h; exact h)
          have OW1 := hide (O5.out.alloc (.cells #[.string (bt y), .int .i64 (z : Int)] 44))
          have B1 := hide (B5.out.alloc (by have := B5.out.size; omega) (.cells #[.string (bt y), .int .i64 (z : Int)] 44))
          go_wp2_with (at_builtin; refine wpList_append_reads rfl (.tmp 85) (.tmp 96) 39 rfl w.heap.size 44 i0' _ 24 (Try.underlying39) INFO.out.1 INFO.out.2.1 INFO.out.2.2.1 INFO.out.2.2.2 rfl (by omega) _ (M.length + 1) _ rfl OW1.out (some ⟨w3.heap.size, 0, none⟩) 1 1 [x] rfl enV_len enV_cell RD.out (fun e => by cases e) (by have := ML.out; unfold maxLen; omega) (by have := ML.out; omega) B1.out.size ?_; intro v3 w6 o3 g3; have O3 := hide o3; have B3 := hide (B1.out.grown g3 B1.out.size (own_lo OW1.out)); clear o3 g3)
          go_roundw
          case rel => exact ⟨k + 1, true, by omega, by go_num, rfl, B3.out, M ++ [⟨t, j⟩] ++ [x], NX.out, by rw [List.length_append, List.flatMap_append, List.length_append, List.flatMap_append]; exact O3.out⟩
          case measure => simp [intOf]; omega
    · obtain rfl : k = n := by omega
      have EN := hide (InsAt.end_ (l := l) (e := ⟨t, j⟩) (M := M) (Nat.le_of_eq NL.out.symm))
      clear hlt
      cases bb with
      | true =>
        have OL := hide (show wr.ownsRow w.heap.size 44 2 _ (insL l ⟨t, j⟩).length ((insL l ⟨t, j⟩).flatMap enV) from by have h := OM.out; rw [EN.out.1 HM.out] at h; exact h)
        have BL := hBl
        obtain ⟨av, cv, rfl, -⟩ := own_sliceR OL.out
        have ec : M.length = (insL l ⟨t, j⟩).length := by rw [EN.out.1 HM.out]
        clear OM HM EN
        have LS := hide (HH.out.listed BL.out i OL.out)
        go_upto_region 25 with fail
        try rw [ec] at *
        generalize hw3 : wr.setCell ⟨T, 1 + i * 5 + 4, none⟩ (.slice av (insL l ⟨t, j⟩).length cv) = w7 at *
        obtain ⟨D3, E3, V3, h3, t3, e3, d3⟩ := LS.out
        have cx := h3.cLinks J16.out
        have fx := h3.row.frz (1 + j * 5 + 2)
        obtain ⟨lk, hlk⟩ : ∃ z, z = ((setL s i (insL l ⟨t, j⟩)).n j).links := ⟨_, rfl⟩
        have LK := hide (fun q => h3.linked j (lk + 1) q)
        have DE := hide (show (setL s i (insL l ⟨t, j⟩)).put j { (setL s i (insL l ⟨t, j⟩)).n j with links := lk + 1 } = incL (setL s i (insL l ⟨t, j⟩)) j from by rw [hlk]; rfl)
        rw [← hlk] at cx LB
        have ll := LB.out.1
        have lb := LB.out.2
        have P3 := hide (And.intro t3 (And.intro e3 d3))
        clear hw3 h3 t3 e3 d3 hlk LS OL BL
        go_region
        all_goals (go_wp2_with fail)
        all_goals go_ret
        all_goals exact ⟨rfl, by rw [← DE.out]; exact Rto.step P3.out.1 P3.out.2.1 P3.out.2.2 (LK.out 1)⟩
      | false =>
        have RD := hide (reads_ent wr ⟨t, j⟩ wr.heap.size rfl 44)
        have OW1 := hide (OM.out.alloc (.cells #[.string (bt t), .int .i64 (j : Int)] 44))
        have B1 := hide (hBl.out.alloc (by have := hBl.out.size; omega) (.cells #[.string (bt t), .int .i64 (j : Int)] 44))
        go_upto_region 24 with (at_builtin; refine wpList_append_reads rfl (.tmp 100) (.tmp 104) 39 rfl w.heap.size 44 i0' _ 24 (Try.underlying39) INFO.out.1 INFO.out.2.1 INFO.out.2.2.1 INFO.out.2.2.2 rfl (by omega) _ M.length _ rfl OW1.out (some ⟨wr.heap.size, 0, none⟩) 1 1 [⟨t, j⟩] rfl enV_len enV_cell RD.out (fun e => by cases e) (by have := ML.out; unfold maxLen; omega) (by have := ML.out; omega) B1.out.size ?_; intro v3 w3 o3 g3; have O3 := hide o3; have B3 := hide (B1.out.grown g3 B1.out.size (own_lo OW1.out)); clear o3 g3)
        have OL := hide (show w3.ownsRow w.heap.size 44 2 v3 (insL l ⟨t, j⟩).length ((insL l ⟨t, j⟩).flatMap enV) from by have h := O3.out; rw [← List.flatMap_append, EN.out.2 HM.out, show M.length + 1 = (insL l ⟨t, j⟩).length from by rw [← EN.out.2 HM.out, List.length_append]; rfl] at h; exact h)
        have BL := B3
        obtain ⟨cw3, fw3⟩ := CB.out w3 B3.out
        obtain ⟨av, cv, rfl, -⟩ := own_sliceR OL.out
        clear OM HM EN O3 B3 cw fw
        have LS := hide (HH.out.listed BL.out i OL.out)
        go_upto_region 25 with fail
        generalize hw3 : w3.setCell ⟨T, 1 + i * 5 + 4, none⟩ (.slice av (insL l ⟨t, j⟩).length cv) = w7 at *
        obtain ⟨D3, E3, V3, h3, t3, e3, d3⟩ := LS.out
        have cx := h3.cLinks J16.out
        have fx := h3.row.frz (1 + j * 5 + 2)
        obtain ⟨lk, hlk⟩ : ∃ z, z = ((setL s i (insL l ⟨t, j⟩)).n j).links := ⟨_, rfl⟩
        have LK := hide (fun q => h3.linked j (lk + 1) q)
        have DE := hide (show (setL s i (insL l ⟨t, j⟩)).put j { (setL s i (insL l ⟨t, j⟩)).n j with links := lk + 1 } = incL (setL s i (insL l ⟨t, j⟩)) j from by rw [hlk]; rfl)
        rw [← hlk] at cx LB
        have ll := LB.out.1
        have lb := LB.out.2
        have P3 := hide (And.intro t3 (And.intro e3 d3))
        clear hw3 h3 t3 e3 d3 hlk LS OL BL
        go_region
        all_goals (go_wp2_with fail)
        all_goals go_ret
        all_goals exact ⟨rfl, by rw [← DE.out]; exact Rto.step P3.out.1 P3.out.2.1 P3.out.2.2 (LK.out 1)⟩
end
end Go.Proofs.Ytpghnhcjgjgglaa
namespace Go.Proofs.Ytpghnhcjgjgglaa
open Go.ChangeShapes Go.WideShapes Go.ChangeAt Go.RowKit
set_option linter.unusedVariables false
set_option linter.unusedSimpArgs false
theorem tab_zero : Try.zeroCells82 = ((List.range 81).map fun k => if k = 0 then Value.pointer none else fld Nd.zero (.slice none 0 0) ((k - 1) % 5)).toArray := by kernel_rfl
theorem tab_first (w : World) (S : Nat) : RowI (w.alloc (.cells (Try.zeroCells82.setIfInBounds 0 (.pointer (some ⟨S, 0, none⟩))) 82)) w.heap.size 81 82 (tabF S (fun _ => Nd.zero) fun _ => .slice none 0 0) := by
  unfold RowI
  rw [heap_alloc_new, tab_zero, List.setIfInBounds_toArray]
  congr 3
section
variable {w : World} {D : Nat → Prop} {T R S : Nat} {s : In} {E : Nat → Prop} {V : Nat → Value}
set_option maxRecDepth 20000 in
set_option maxHeartbeats 4000000 in
theorem tnew_any {so : So} (h : Dso R w E S so) : Calls Try.prog 27 #[.pointer (some ⟨S, 0, none⟩)] w fun e w' => ∃ T D, e = .returned (.pointer (some ⟨T, 0, none⟩)) ∧ Rin R S w' D T ⟨(newI 0).n, so⟩ ∧ Below w.heap.size w w' ∧ ∀ i, D i → E i ∨ w.heap.size ≤ i := by
  go_enter Try.func27, Try.ntmps27
  go_upto_region 2 with fail
  have R0 := tab_first w S
  have bA := (Below.refl w.heap.size w).alloc (Nat.le_refl _) (.cells (Try.zeroCells82.setIfInBounds 0 (.pointer (some ⟨S, 0, none⟩))) 82)
  have sz : (w.alloc (.cells (Try.zeroCells82.setIfInBounds 0 (.pointer (some ⟨S, 0, none⟩))) 82)).heap.size = w.heap.size + 1 := by simp
  generalize w.alloc (.cells (Try.zeroCells82.setIfInBounds 0 (.pointer (some ⟨S, 0, none⟩))) 82) = w1 at *
  obtain ⟨T, hT⟩ : ∃ T, T = w.heap.size := ⟨_, rfl⟩
  have ET := hide hT
  rw [← hT] at R0 sz ⊢
  have FIN := hide (show Rin R S (((((w1.setCell ⟨T, 1, none⟩ (.bool true)).setCell ⟨T, 2, none⟩ (.bool true)).setCell ⟨T, 3, none⟩ (.int .i64 0)).setCell ⟨T, 4, none⟩ (.int .i64 0)).setCell ⟨T, 5, none⟩ (.slice none 0 0)) (fun i => E i ∨ i = T) T ⟨(newI 0).n, so⟩ ∧ Below T w (((((w1.setCell ⟨T, 1, none⟩ (.bool true)).setCell ⟨T, 2, none⟩ (.bool true)).setCell ⟨T, 3, none⟩ (.int .i64 0)).setCell ⟨T, 4, none⟩ (.int .i64 0)).setCell ⟨T, 5, none⟩ (.slice none 0 0)) from by
    have r := ((((R0.set (1 + 0 * 5) (.bool true)).set (1 + 0 * 5 + 1) (.bool true)).set (1 + 0 * 5 + 2) (.int .i64 0)).set (1 + 0 * 5 + 3) (.int .i64 0)).set (1 + 0 * 5 + 4) (.slice none 0 0)
    rw [tab_all (n := fun _ => Nd.zero) (V := fun _ => .slice none 0 0) (i := 0) ⟨true, true, 0, 0, []⟩ (.slice none 0 0)] at r
    have u : Touch (fun k => k = T) w1 (((((w1.setCell ⟨T, 1, none⟩ (.bool true)).setCell ⟨T, 2, none⟩ (.bool true)).setCell ⟨T, 3, none⟩ (.int .i64 0)).setCell ⟨T, 4, none⟩ (.int .i64 0)).setCell ⟨T, 5, none⟩ (.slice none 0 0)) :=
      (((((Touch.refl (fun k => k = T) w1).setCell (p := ⟨T, 1, none⟩) rfl _).setCell (p := ⟨T, 2, none⟩) rfl _).setCell (p := ⟨T, 3, none⟩) rfl _).setCell (p := ⟨T, 4, none⟩) rfl _).setCell (p := ⟨T, 5, none⟩) rfl _
    have eE : ∀ i, E i → i < T := fun i e => by rw [hT]; exact (keepsDso R).lt h i e
    have v := (Touch.of_below (S := fun k => k = T) bA).trans u (fun i e => .inl e)
    have hV : upd (fun _ => Value.slice none 0 0) 0 (Value.slice none 0 0) = fun _ => Value.slice none 0 0 := upd_id (fun _ => Value.slice none 0 0) 0
    rw [hV] at r
    refine ⟨⟨E, fun _ => .slice none 0 0, ⟨(keepsDso R).keep h v (fun i e e2 => by have := eE i e; have e2 : i = T := e2; omega), r, fun i => ?_, (fun i g hg => by cases hg), ⟨.inr rfl, fun e => by have := eE T e; omega⟩, fun i e => .inl e, fun i e => ?_⟩⟩, v.below (by omega) (fun i e => by have e : i = T := e; omega)⟩
    · have : ((newI 0).n i).l = [] := by
        show (upd (fun _ => Nd.zero) 0 ⟨true, true, 0, 0, []⟩ i).l = []
        by_cases e : i = 0
        · rw [e, upd_same]
        · rw [upd_other _ _ e]; rfl
      rw [this]; exact World.ownsRow_nil _ _ _ _
    · have := u.size
      rcases e with e | e
      · have := eE i e; omega
      · omega)
  have x1 := R0.cell (k := 1) (by omega)
  have x2 := R0.cell (k := 2) (by omega)
  have x3 := R0.cell (k := 3) (by omega)
  have x4 := R0.cell (k := 4) (by omega)
  have x5 := R0.cell (k := 5) (by omega)
  have y1 := R0.frz 1
  have y2 := R0.frz 2
  have y3 := R0.frz 3
  have y4 := R0.frz 4
  have y5 := R0.frz 5
  clear R0 bA sz h hT
  go_wp2_with fail
  go_ret
  exact ⟨T, _, rfl, FIN.out.1, ET.out ▸ FIN.out.2, fun i e => e.imp id (fun e => by rw [e, ET.out]; exact Nat.le_refl _)⟩
end
end Go.Proofs.Ytpghnhcjgjgglaa
namespace Go.Proofs.Ytpghnhcjgjgglaa
open Go.ChangeShapes Go.WideShapes Go.ChangeAt Go.RowKit
set_option linter.unusedVariables false
set_option linter.unusedSimpArgs false
def opsI (s : In) (id : Int) : Int := if isI s id then (s.n id.toNat).opens else 0
def lsI (s : In) (id : Int) : List Ent := if dirI s id then (s.n id.toNat).l else []
def lsIE (s : In) (id : Int) : Nat := if dirI s id then 0 else 11
/-- The program's store, new. -/
structure NewStore (PS : Nat → Rel So) : Prop where
  keeps : ∀ H, Keeps (PS H)
  new : ∀ {w : World} {H A Q N : Nat}, Fr w H A Q (St.new N) → Calls Try.prog 26 #[.pointer (some ⟨H, 0, none⟩)] w fun e w' => ∃ S U, e = .returned (.pointer (some ⟨S, 0, none⟩)) ∧ PS H w' U S ⟨[], N⟩ ∧ Below w.heap.size w w' ∧ ∀ i, U i → Blk H A Q i ∨ w.heap.size ≤ i
/-- The program's table of nodes at T over the store at S over the frames at H. -/
structure PInode (PS : Nat → Rel So) (PI : Nat → Nat → Rel In) : Prop where
  keeps : ∀ H S, Keeps (PI H S)
  new : ∀ {w : World} {H S N : Nat} {U : Nat → Prop}, PS H w U S ⟨[], N⟩ → Calls Try.prog 25 #[.pointer (some ⟨S, 0, none⟩)] w fun e w' => ∃ T U', e = .returned (.pointer (some ⟨T, 0, none⟩)) ∧ PI H S w' U' T (newI N) ∧ Below w.heap.size w w' ∧ ∀ i, U' i → U i ∨ w.heap.size ≤ i
  ma : ∀ {w : World} {H S T : Nat} {U : Nat → Prop} {s : In} {B : Int}, PI H S w U T s → GoodP s [] B → B ≤ 1000000 → NoOrph s 0 → ∀ d : Bool, Calls Try.prog 15 #[.pointer (some ⟨T, 0, none⟩), .bool d] w (SideO (fun w' U' => PI H S w' U' T (mkI s d)) U w (.tuple #[.int .i64 (mkII s : Nat), .int .i64 (mkIE s : Nat)]))
  op : ∀ {w : World} {H S T : Nat} {U : Nat → Prop} {s : In} {B : Int}, PI H S w U T s → GoodP s [] B → B ≤ 1000000 → NoOrph s 0 → ∀ id : Int, (Lit.int .i64 id).wf = true → Calls Try.prog 20 #[.pointer (some ⟨T, 0, none⟩), .int .i64 id] w (SideO (fun w' U' => PI H S w' U' T (opI s id)) U w (.int .i64 (opIE s id : Nat)))
  cl : ∀ {w : World} {H S T : Nat} {U : Nat → Prop} {s : In} {B : Int}, PI H S w U T s → GoodP s [] B → B ≤ 1000000 → NoOrph s 0 → ∀ id : Int, (Lit.int .i64 id).wf = true → Calls Try.prog 21 #[.pointer (some ⟨T, 0, none⟩), .int .i64 id] w (SideO (fun w' U' => PI H S w' U' T (clI s id)) U w (.int .i64 (clIE s id : Nat)))
  en : ∀ {w : World} {H S T : Nat} {U : Nat → Prop} {s : In} {B : Int}, PI H S w U T s → GoodP s [] B → B ≤ 1000000 → NoOrph s 0 → ∀ (d : Int) (t : Txt) (id : Int), (Lit.int .i64 d).wf = true → (Lit.int .i64 id).wf = true → t.length ≤ 1000 → Calls Try.prog 16 #[.pointer (some ⟨T, 0, none⟩), .int .i64 d, .string (bt t), .int .i64 id] w (SideO (fun w' U' => PI H S w' U' T (enI s d t id)) U w (.int .i64 (enIE s d t id : Nat)))
  rm : ∀ {w : World} {H S T : Nat} {U : Nat → Prop} {s : In} {B : Int}, PI H S w U T s → GoodP s [] B → B ≤ 1000000 → NoOrph s 0 → ∀ (d : Int) (t : Txt), (Lit.int .i64 d).wf = true → t.length ≤ 1000 → Calls Try.prog 19 #[.pointer (some ⟨T, 0, none⟩), .int .i64 d, .string (bt t)] w (SideO (fun w' U' => PI H S w' U' T (rmI s d t)) U w (.int .i64 (rmIE s d t : Nat)))
  fi : ∀ {w : World} {H S T : Nat} {U : Nat → Prop} {s : In} {B : Int}, PI H S w U T s → GoodP s [] B → ∀ (d : Int) (t : Txt), (Lit.int .i64 d).wf = true → t.length ≤ 1000 → Calls Try.prog 17 #[.pointer (some ⟨T, 0, none⟩), .int .i64 d, .string (bt t)] w fun e w' => e = .returned (.tuple #[.int .i64 (fiII s d t : Nat), .int .i64 (fiIE s d t : Nat)]) ∧ Below w.heap.size w w'
  gt : ∀ {w : World} {H S T : Nat} {U : Nat → Prop} {s : In} {B : Int}, PI H S w U T s → GoodP s [] B → ∀ id : Int, (Lit.int .i64 id).wf = true → Calls Try.prog 12 #[.pointer (some ⟨T, 0, none⟩), .int .i64 id] w fun e w' => e = .returned (gotI s id) ∧ Below w.heap.size w w'
  os : ∀ {w : World} {H S T : Nat} {U : Nat → Prop} {s : In} {B : Int}, PI H S w U T s → GoodP s [] B → ∀ id : Int, (Lit.int .i64 id).wf = true → Calls Try.prog 14 #[.pointer (some ⟨T, 0, none⟩), .int .i64 id] w fun e w' => e = .returned (.int .i64 (opsI s id)) ∧ Below w.heap.size w w'
  ls : ∀ {w : World} {H S T : Nat} {U : Nat → Prop} {s : In} {B : Int}, PI H S w U T s → GoodP s [] B → ∀ id : Int, (Lit.int .i64 id).wf = true → Calls Try.prog 13 #[.pointer (some ⟨T, 0, none⟩), .int .i64 id] w fun e w' => ∃ v, e = .returned (.tuple #[v, .int .i64 (lsIE s id : Nat)]) ∧ w'.ownsRow w.heap.size 44 2 v (lsI s id).length ((lsI s id).flatMap enV) ∧ Below w.heap.size w w'
  ln : ∀ {w : World} {H S T : Nat} {U : Nat → Prop} {s : In} {B : Int}, PI H S w U T s → GoodP s [] B → Calls Try.prog 22 #[.pointer (some ⟨T, 0, none⟩)] w fun e w' => e = .returned (.int .i64 (cntI s : Nat)) ∧ Below w.heap.size w w'
/-- No table. -/
structure NilInode : Prop where
  ma : ∀ (w : World) (d : Bool), Calls Try.prog 15 #[.pointer none, .bool d] w fun e w' => e = .returned (.tuple #[.int .i64 0, .int .i64 1]) ∧ Below w.heap.size w w'
  op : ∀ (w : World) (id : Int), Calls Try.prog 20 #[.pointer none, .int .i64 id] w fun e w' => e = .returned (.int .i64 1) ∧ Below w.heap.size w w'
  cl : ∀ (w : World) (id : Int), Calls Try.prog 21 #[.pointer none, .int .i64 id] w fun e w' => e = .returned (.int .i64 1) ∧ Below w.heap.size w w'
  en : ∀ (w : World) (d : Int) (t : Txt) (id : Int), t.length ≤ 1000 → Calls Try.prog 16 #[.pointer none, .int .i64 d, .string (bt t), .int .i64 id] w fun e w' => e = .returned (.int .i64 1) ∧ Below w.heap.size w w'
  rm : ∀ (w : World) (d : Int) (t : Txt), t.length ≤ 1000 → Calls Try.prog 19 #[.pointer none, .int .i64 d, .string (bt t)] w fun e w' => e = .returned (.int .i64 1) ∧ Below w.heap.size w w'
  fi : ∀ (w : World) (d : Int) (t : Txt), t.length ≤ 1000 → Calls Try.prog 17 #[.pointer none, .int .i64 d, .string (bt t)] w fun e w' => e = .returned (.tuple #[.int .i64 0, .int .i64 1]) ∧ Below w.heap.size w w'
  gt : ∀ (w : World) (id : Int), Calls Try.prog 12 #[.pointer none, .int .i64 id] w fun e w' => e = .returned (.tuple #[.agg #[.int .i64 0, .int .i64 0, .bool false, .int .i64 0], .bool false]) ∧ Below w.heap.size w w'
  os : ∀ (w : World) (id : Int), Calls Try.prog 14 #[.pointer none, .int .i64 id] w fun e w' => e = .returned (.int .i64 0) ∧ Below w.heap.size w w'
  ls : ∀ (w : World) (id : Int), Calls Try.prog 13 #[.pointer none, .int .i64 id] w fun e w' => ∃ c : Nat, ∃ a : Option Addr, e = .returned (.tuple #[.slice a 0 c, .int .i64 1]) ∧ Below w.heap.size w w'
  ln : ∀ (w : World), Calls Try.prog 22 #[.pointer none] w fun e w' => e = .returned (.int .i64 0) ∧ Below w.heap.size w w'
section
variable {PS : Nat → Rel So} {PI : Nat → Nat → Rel In}
/-- The document's store, new. -/
theorem dso_first {w1 w2 w4 : World} {R t b N : Nat} (r2 : Rf w2 (fun i => i < w1.heap.size) R t b (St.new N) 0 []) (b4 : Below w2.heap.size w2 w4) : Dso R (w4.alloc (.cells #[.pointer (some ⟨R, 0, none⟩), .slice none 0 0] 70)) (fun i => i = w4.heap.size ∨ (w1.heap.size ≤ i ∧ i < w2.heap.size)) w4.heap.size ⟨[], N⟩ := by
  have s4 := b4.size
  have k2 : RfG w2 (fun i => w1.heap.size ≤ i ∧ i < w2.heap.size) R t b (St.new N) 0 [] := by
    refine ⟨r2.mono (fun i hi => hi.1) (fun i hi h => ?_), fun i hi => hi.2⟩
    have := h.2
    show i < w1.heap.size
    have h3 : ¬ (w1.heap.size ≤ i ∧ i < w2.heap.size) := this
    omega
  have bA := (Below.refl w4.heap.size w4).alloc (Nat.le_refl _) (.cells #[.pointer (some ⟨R, 0, none⟩), .slice none 0 0] 70)
  have k4 := (k2.below b4).below bA
  have hfr : N = (St.new N).fr.length := (fallen_len N N).symm
  refine ⟨[], .slice none 0 0, t, b, St.new N, 0, [], fun i => w1.heap.size ≤ i ∧ i < w2.heap.size, ⟨heap_alloc_new _ _, World.ownsRow_nil _ _ _ _, fun x hx => absurd hx List.not_mem_nil, k4, List.nodup_nil, fun f hf => absurd hf List.not_mem_nil, fun x hx => absurd hx List.not_mem_nil, ⟨fun e => by (cases e), fun e => by omega⟩, fun i e => by (cases e), fun i => ⟨fun e => ?_, fun e => ?_⟩⟩, ⟨rfl, hfr, GoodSo.new N, Nat.zero_le _, fun x hx => absurd hx List.not_mem_nil⟩⟩
  · rcases e with e | e
    · exact .inl e
    · exact .inr (.inr (.inl e))
  · rcases e with e | e | e | ⟨x, hx, _⟩
    · exact .inl e
    · cases e
    · exact .inr e
    · exact absurd hx List.not_mem_nil
/-- Two tables beside one another: the program's and the document's. -/
def Twin (PI : Nat → Nat → Rel In) (w wr : World) (U D : Nat → Prop) (X : List Nat) (H S R G T T2 : Nat) (s : In) : Prop := TwoO (PI H S) (Rin R G) w wr U D X T T2 s s
set_option maxHeartbeats 4000000 in
theorem both21_any (C : NewStore PS) (I : PInode PS PI) (w : World) : Calls Try.prog 9 #[] w fun e w' => ∃ T T2 H S R G U D, e = .returned (.tuple #[.pointer (some ⟨T, 0, none⟩), .pointer (some ⟨T2, 0, none⟩)]) ∧ Twin PI w w' U D [] H S R G T T2 (newI 8) := by
  go_enter Try.func9, Try.ntmps9
  go_wp2_with fail
  go_at_call 23
  refine (new_ok _ 8 (by omega) (by omega)).mono ?_
  rintro e w1 ⟨H, A, Q, rfl, f1, b1, hb1⟩
  have F1 := hide f1
  have B1 := hide b1
  have HB1 := hide hb1
  clear f1 b1 hb1
  go_wp2_with fail
  go_at_call 24
  refine (rnew_ok _ 8 (by omega) (by omega) (fun i => i < w1.heap.size) (fun _ h => h)).mono ?_
  rintro e w2 ⟨R, rfl, t, b, r2, b2, hb2⟩
  have R2 := hide r2
  have B2 := hide b2
  clear r2 b2 hb2
  go_wp2_with fail
  go_at_call 26
  refine (C.new (F1.out.below B2.out)).mono ?_
  rintro e w3 ⟨S, U3, rfl, p3, b3, hU3⟩
  have P3 := hide p3
  have B3 := hide b3
  have HU3 := hide hU3
  clear p3 b3 hU3
  go_wp2_with fail
  go_at_call 25
  refine (I.new P3.out).mono ?_
  rintro e w4 ⟨T, U, rfl, p4, b4, hU4⟩
  have P4 := hide p4
  have B4 := hide b4
  have HU4 := hide hU4
  have D5 := hide (dso_first R2.out (B3.out.trans (b4.mono B3.out.size)))
  have bA := hide ((Below.refl w4.heap.size w4).alloc (Nat.le_refl _) (.cells #[.pointer (some ⟨R, 0, none⟩), .slice none 0 0] 70))
  have S5 := hide (show (w4.alloc (.cells #[.pointer (some ⟨R, 0, none⟩), .slice none 0 0] 70)).heap.size = w4.heap.size + 1 from by simp)
  clear p4 b4 hU4
  go_wp2_with fail
  -- HERE
  go_at_call 27
  refine (tnew_any D5.out).mono ?_
  rintro e w6 ⟨T2, D, rfl, p6, b6, hD⟩
  have P6 := hide p6
  have B6 := hide b6
  have HD := hide hD
  clear p6 b6 hD
  go_wp2_with fail
  go_ret2
  refine ⟨T, T2, H, S, R, w4.heap.size, U, D, rfl, ?_, P6.out, ?_, fun i hi hd => ?_, fun i hi => ?_, fun i hi => ?_, fun g hg => absurd hg List.not_mem_nil⟩
  · exact (I.keeps H S).below ((I.keeps H S).below P4.out bA.out) B6.out
  · have s1 := B1.out.size
    have s2 := B2.out.size
    have s3 := B3.out.size
    have s4 := B4.out.size
    exact (B1.out.trans (B2.out.mono s1)).trans ((B3.out.mono (Nat.le_trans s1 s2)).trans ((B4.out.mono (by omega)).trans ((bA.out.mono (by omega)).trans (B6.out.mono (by have := S5.out; omega)))))
  all_goals
    have s1 := B1.out.size
    have s2 := B2.out.size
    have s3 := B3.out.size
    have s4 := B4.out.size
    have s5 := S5.out
    have fl : ∀ i, Blk H A Q i → i < w1.heap.size := by
      rintro i (rfl | rfl | rfl)
      · exact F1.out.ltH
      · exact F1.out.ltA
      · exact F1.out.ltQ
    have hu : ∀ i, U i → Blk H A Q i ∨ w2.heap.size ≤ i := fun i hi => by
      rcases HU4.out i hi with h | h
      · exact HU3.out i h
      · exact .inr (by omega)
    have hd6 : ∀ i, D i → i = w4.heap.size ∨ (w1.heap.size ≤ i ∧ i < w2.heap.size) ∨ w4.heap.size + 1 ≤ i := fun i hi => by
      rcases HD.out i hi with (h | h) | h
      · exact .inl h
      · exact .inr (.inl h)
      · exact .inr (.inr (by omega))
  · have l4 := (I.keeps H S).lt P4.out i hi
    have h6 := hd6 i hd
    rcases hu i hi with h | h
    · have := fl i h; omega
    · omega
  · rcases hu i hi with h | h
    · exact HB1.out i h
    · omega
  · have := hd6 i hi; omega
end
end Go.Proofs.Ytpghnhcjgjgglaa
namespace Go.Proofs.Ytpghnhcjgjgglaa
open Go.ChangeShapes Go.WideShapes Go.ChangeAt Go.RowKit
set_option linter.unusedVariables false
set_option linter.unusedSimpArgs false
section
variable {w : World} {U : Nat → Prop} {H T S : Nat} {s : In} {E : Nat → Prop} {N : Nat → Option Nat} {V : Nat → Value} {tag : Nat → Int}
theorem find21_yes (h : IpM w U H T S s E N V tag) {i b : Nat} (hi : i < 16) (e : N i = some b) : Calls Try.prog 41 #[.pointer (some ⟨T, 0, none⟩), .int .i64 (i : Int)] w fun e w' => e = .returned (.tuple #[.pointer (some ⟨b, 0, none⟩), .int .i64 0]) ∧ w = w' := by
  have c := h.cS hi e
  have i0 : ¬ (i : Int) < 0 := by omega
  have i1 : (i : Int) < 16 := by omega
  clear h e hi
  go_enter Try.func41, Try.ntmps41
  go_wp2_with fail
  go_ret2
  exact ⟨rfl, rfl⟩
theorem find21_no (h : IpM w U H T S s E N V tag) {id : Int} (e : isI s id = false) : Calls Try.prog 41 #[.pointer (some ⟨T, 0, none⟩), .int .i64 id] w fun e w' => e = .returned (.tuple #[.pointer none, .int .i64 4]) ∧ w = w' := by
  by_cases h0 : id < 0
  · clear h e
    go_enter Try.func41, Try.ntmps41
    go_wp2_with fail
    go_ret2
    exact ⟨rfl, rfl⟩
  · by_cases h1 : id < 16
    · obtain ⟨i, rfl⟩ := Int.eq_ofNat_of_zero_le (show 0 ≤ id by omega)
      have hi : i < 16 := by omega
      have hz : N i = none := by
        rw [isI_nat, show decide (i < 16) = true from decide_eq_true hi, Bool.true_and] at e
        exact h.gone e
      have c := h.cZ hi hz
      clear h e hz hi
      go_enter Try.func41, Try.ntmps41
      go_wp2_with fail
      go_ret2
      exact ⟨rfl, rfl⟩
    · clear h e
      go_enter Try.func41, Try.ntmps41
      go_wp2_with fail
      go_ret2
      exact ⟨rfl, rfl⟩
theorem find21_nil (w : World) (id : Int) : Calls Try.prog 41 #[.pointer none, .int .i64 id] w fun e w' => e = .returned (.tuple #[.pointer none, .int .i64 1]) ∧ w = w' := by
  go_enter Try.func41, Try.ntmps41
  go_wp2_with fail
  go_ret2
  exact ⟨rfl, rfl⟩
theorem folder21_yes (h : IpM w U H T S s E N V tag) {i b : Nat} (hi : i < 16) (e : N i = some b) (hd : (s.n i).dir = true) : Calls Try.prog 43 #[.pointer (some ⟨T, 0, none⟩), .int .i64 (i : Int)] w fun e w' => e = .returned (.tuple #[.pointer (some ⟨b, 0, none⟩), .int .i64 0]) ∧ w = w' := by
  have F := hide (find21_yes h hi e)
  have c := h.cDir e
  rw [hd] at c
  clear h e hi hd
  go_enter Try.func43, Try.ntmps43
  go_wp2_with (go_at_call 41; refine F.out.mono ?_; rintro e w' ⟨rfl, rfl⟩)
  go_ret2
  exact ⟨rfl, rfl⟩
theorem folder21_no (h : IpM w U H T S s E N V tag) {id : Int} (e : dirI s id = false) : Calls Try.prog 43 #[.pointer (some ⟨T, 0, none⟩), .int .i64 id] w fun e w' => e = .returned (.tuple #[.pointer none, .int .i64 11]) ∧ w = w' := by
  cases hI : isI s id with
  | false =>
    have F := hide (find21_no h hI)
    clear h e
    go_enter Try.func43, Try.ntmps43
    go_wp2_with (go_at_call 41; refine F.out.mono ?_; rintro e w' ⟨rfl, rfl⟩)
    go_ret2
    exact ⟨rfl, rfl⟩
  | true =>
    obtain ⟨i, rfl, hi, his⟩ := isI_yes hI
    obtain ⟨b, hb⟩ := h.there his
    have F := hide (find21_yes h hi hb)
    have c := h.cDir hb
    have hd : (s.n i).dir = false := by unfold dirI at e; rw [hI, Int.toNat_natCast] at e; simpa using e
    rw [hd] at c
    clear h e hI hd his hb
    go_enter Try.func43, Try.ntmps43
    go_wp2_with (go_at_call 41; refine F.out.mono ?_; rintro e w' ⟨rfl, rfl⟩)
    go_ret2
    exact ⟨rfl, rfl⟩
theorem folder21_nil (w : World) (id : Int) : Calls Try.prog 43 #[.pointer none, .int .i64 id] w fun e w' => e = .returned (.tuple #[.pointer none, .int .i64 1]) ∧ w = w' := by
  have F := hide (find21_nil w id)
  go_enter Try.func43, Try.ntmps43
  go_wp2_with (go_at_call 41; refine F.out.mono ?_; rintro e w' ⟨rfl, rfl⟩)
  go_ret2
  exact ⟨rfl, rfl⟩
theorem popens_any (h : IpM w U H T S s E N V tag) (id : Int) : Calls Try.prog 14 #[.pointer (some ⟨T, 0, none⟩), .int .i64 id] w fun e w' => e = .returned (.int .i64 (opsI s id)) ∧ w = w' := by
  cases hI : isI s id with
  | false =>
    have F := hide (find21_no h hI)
    rw [show opsI s id = 0 from by unfold opsI; rw [if_neg (by rw [hI]; decide)]]
    clear h hI
    go_enter Try.func14, Try.ntmps14
    go_wp2_with (go_at_call 41; refine F.out.mono ?_; rintro e w' ⟨rfl, rfl⟩)
    go_ret
    exact ⟨rfl, rfl⟩
  | true =>
    obtain ⟨i, rfl, hi, his⟩ := isI_yes hI
    obtain ⟨b, hb⟩ := h.there his
    have F := hide (find21_yes h hi hb)
    have c := h.cOpens hb
    rw [show opsI s (i : Int) = (s.n i).opens from by unfold opsI; rw [if_pos hI, Int.toNat_natCast]]
    generalize (s.n i).opens = z at *
    clear h hI his hb
    go_enter Try.func14, Try.ntmps14
    go_wp2_with (go_at_call 41; refine F.out.mono ?_; rintro e w' ⟨rfl, rfl⟩)
    go_ret
    exact ⟨rfl, rfl⟩
theorem popen_any (h : IpM w U H T S s E N V tag) (id : Int) (ho : ∀ i, 0 ≤ (s.n i).opens ∧ (s.n i).opens ≤ 1000000) : Calls Try.prog 20 #[.pointer (some ⟨T, 0, none⟩), .int .i64 id] w (SideO (fun w' U' => PIn H S w' U' T (opI s id)) U w (.int .i64 (opIE s id : Nat))) := by
  cases hI : isI s id with
  | false =>
    have F := hide (find21_no h hI)
    have FIN := hide (SideO.of_below (v := .int .i64 4) (P := fun w' U' => PIn H S w' U' T s) (show PIn H S w U T s from ⟨_, _, _, _, h⟩) (Below.refl _ _))
    rw [show opI s id = s from by unfold opI; rw [if_neg (by rw [hI]; decide)], show opIE s id = 4 from by unfold opIE; rw [if_neg (by rw [hI]; decide)]]
    clear h hI
    go_enter Try.func20, Try.ntmps20
    go_wp2_with (go_at_call 41; refine F.out.mono ?_; rintro e w' ⟨rfl, rfl⟩)
    go_ret
    exact FIN.out
  | true =>
    obtain ⟨i, rfl, hi, his⟩ := isI_yes hI
    obtain ⟨b, hb⟩ := h.there his
    have F := hide (find21_yes h hi hb)
    have c := h.cOpens hb
    have fz := (h.nd i b hb).frz 2
    rw [show opI s (i : Int) = s.put i { s.n i with opens := (s.n i).opens + 1 } from by unfold opI; rw [if_pos hI, Int.toNat_natCast], show opIE s (i : Int) = 0 from by unfold opIE; rw [if_pos hI]]
    have o1 := (ho i).1
    have o2 := (ho i).2
    have FIN := hide (fun q => show SideO (fun w' U' => PIn H S w' U' T (s.put i { s.n i with opens := (s.n i).opens + 1 })) U w (.int .i64 0) (.returned (.int .i64 0)) ((w.setCell ⟨b, 2, none⟩ (.int .i64 ((s.n i).opens + 1))).drewN q) from ⟨rfl, U, ⟨_, _, _, _, (h.opened hb _ q).1⟩, (h.opened hb _ q).2.mono (fun k e => e ▸ h.un i b hb), fun k e => .inl e⟩)
    generalize (s.n i).opens = z at *
    clear h hI his hb ho
    go_enter Try.func20, Try.ntmps20
    go_wp2_with (go_at_call 41; refine F.out.mono ?_; rintro e w' ⟨rfl, rfl⟩)
    go_ret
    exact FIN.out 0
end
end Go.Proofs.Ytpghnhcjgjgglaa
namespace Go.Proofs.Ytpghnhcjgjgglaa
open Go.ChangeShapes Go.WideShapes Go.ChangeAt Go.RowKit
set_option linter.unusedVariables false
set_option linter.unusedSimpArgs false
theorem isNaNS_any (x : Txt) (w : World) : Calls Try.prog 83 #[.string (bt x)] w fun e w' => e = .returned (.bool false) ∧ w = w' := by
  have h : ((bt x).toList == (bt x).toList) = true := by simp
  have h2 : ((bt x).toList != (bt x).toList) = false := by simp
  go_enter Try.func83, Try.ntmps83
  go_wp2_with fail
  go_ret
  exact ⟨rfl, rfl⟩
def sgnT (a b : Txt) : Int := if ltT a b = true then -1 else if ltT b a = true then 1 else 0
theorem sgnT_neg (a b : Txt) : (sgnT a b < 0) ↔ ltT a b = true := by
  unfold sgnT; split
  · simp [*]
  · split <;> simp [*]
theorem sgnT_zero (a b : Txt) : (sgnT a b = 0) ↔ a = b := by
  unfold sgnT
  rcases ltT_tri a b with h | h | h
  · rw [if_pos h]; have := ltT_ne h; simp [this]
  · subst h; rw [ltT_irr]; simp
  · rw [if_neg (by rw [ltT_asym h]; decide), if_pos h]; have := ltT_ne h; simp; exact fun e => this e.symm
theorem sgnT_any (x y : Txt) (w : World) : Calls Try.prog 67 #[.string (bt x), .string (bt y)] w fun e w' => e = .returned (.int .i64 (sgnT x y)) ∧ w = w' := by
  have hx : Op.bytesLess (bt x).toList (bt y).toList = ltT x y := by rw [bt_list, bt_list]; rfl
  have hy : Op.bytesLess (bt y).toList (bt x).toList = ltT y x := by rw [bt_list, bt_list]; rfl
  have he : ((bt x).toList == (bt y).toList) = decide (x = y) := bt_eq x y
  by_cases h1 : ltT x y = true
  · have hr : sgnT x y = -1 := if_pos h1
    rw [hr]
    rw [h1] at hx
    clear hr hy he
    go_enter Try.func67, Try.ntmps67
    go_wp2_with (go_at_call 83; refine (isNaNS_any _ _).mono ?_; rintro e w' ⟨rfl, rfl⟩)
    go_ret
    exact ⟨rfl, rfl⟩
  · rw [show ltT x y = false from by simpa using h1] at hx
    by_cases h2 : ltT y x = true
    · have hr : sgnT x y = 1 := by unfold sgnT; rw [if_neg h1, if_pos h2]
      rw [hr]
      rw [h2] at hy
      rw [decide_eq_false (fun e => ltT_ne h2 e.symm)] at he
      clear hr
      go_enter Try.func67, Try.ntmps67
      go_wp2_with (go_at_call 83; refine (isNaNS_any _ _).mono ?_; rintro e w' ⟨rfl, rfl⟩)
      go_ret
      exact ⟨rfl, rfl⟩
    · have hr : sgnT x y = 0 := by unfold sgnT; rw [if_neg h1, if_neg h2]
      rw [hr]
      rw [show ltT y x = false from by simpa using h2] at hy
      rw [decide_eq_true ((ltT_tri x y).resolve_left h1 |>.resolve_right h2)] at he
      clear hr
      go_enter Try.func67, Try.ntmps67
      go_wp2_with (go_at_call 83; refine (isNaNS_any _ _).mono ?_; rintro e w' ⟨rfl, rfl⟩)
      go_ret
      exact ⟨rfl, rfl⟩
/-- An entry as a value. -/
def entV (t : Txt) (z : Int) : Value := .agg #[.string (bt t), .int .i64 z]
theorem byname_any (a b : Txt) (p q : Int) (w : World) : Calls Try.prog 52 #[.agg #[.string (bt a), .int .i64 p], .agg #[.string (bt b), .int .i64 q]] w fun e w' => e = .returned (.int .i64 (sgnT a b)) ∧ Below w.heap.size w w' := by
  go_enter Try.func52, Try.ntmps52
  go_wp2_with (go_at_call 67; refine (sgnT_any a b _).mono ?_; rintro e w' ⟨rfl, rfl⟩)
  go_ret
  exact ⟨rfl, ((Below.refl _ _).alloc (Nat.le_refl _) _).alloc (by simp) _⟩
/-- How many entries come ahead of a name. -/
def cntT (l : List Ent) (t : Txt) : Nat := l.countP fun x => ltT x.nm t
/-- Where a name stands. -/
def hitT (l : List Ent) (t : Txt) : Bool := match l[cntT l t]? with
  | some x => decide (x.nm = t)
  | none => false
theorem countP_here {α : Type} (p : α → Bool) : ∀ (l : List α) (i : Nat), i ≤ l.length → (∀ k x, k < i → l[k]? = some x → p x = true) → (∀ k x, i ≤ k → l[k]? = some x → p x = false) → l.countP p = i
  | [], i, hi, _, _ => by simp at hi; simp [hi]
  | a :: r, 0, _, _, h2 => by
    rw [List.countP_eq_zero]
    intro x hx
    obtain ⟨k, hk, rfl⟩ := List.getElem_of_mem hx
    rw [h2 k _ (Nat.zero_le _) (List.getElem?_eq_getElem hk)]; decide
  | a :: r, i + 1, hi, h1, h2 => by
    have ha : p a = true := h1 0 a (Nat.succ_pos _) rfl
    rw [List.countP_cons_of_pos ha, countP_here p r i (by simpa using hi) (fun k x h3 h4 => h1 (k + 1) x (by omega) (by simpa using h4)) (fun k x h3 h4 => h2 (k + 1) x (by omega) (by simpa using h4))]
theorem srt_at {l : List Ent} (hs : l.Pairwise fun a b => ltT a.nm b.nm = true) {i j : Nat} {x y : Ent} (hx : l[i]? = some x) (hy : l[j]? = some y) (h : i < j) : ltT x.nm y.nm = true := by
  obtain ⟨h1, e1⟩ := List.getElem?_eq_some_iff.1 hx
  obtain ⟨h2, e2⟩ := List.getElem?_eq_some_iff.1 hy
  have := List.pairwise_iff_getElem.1 hs i j h1 h2 h
  rwa [e1, e2] at this
theorem hitT_some {l : List Ent} {t : Txt} (h : hitT l t = true) : ∃ x, l[cntT l t]? = some x ∧ x.nm = t := by
  unfold hitT at h
  cases e : l[cntT l t]? with
  | none => rw [e] at h; cases h
  | some x => rw [e] at h; exact ⟨x, rfl, by simpa using h⟩
theorem hitT_of {l : List Ent} {t : Txt} {x : Ent} {i : Nat} (hs : l.Pairwise fun a b => ltT a.nm b.nm = true) (hx : l[i]? = some x) (hn : x.nm = t) : cntT l t = i ∧ hitT l t = true := by
  have e : cntT l t = i := countP_here _ l i (Nat.le_of_lt (List.getElem?_eq_some_iff.1 hx).1) (fun k y h1 h2 => by rw [← hn]; exact srt_at hs h2 hx h1) (fun k y h1 h2 => by
    rw [← hn]
    rcases Nat.lt_or_ge i k with h3 | h3
    · exact ltT_asym (srt_at hs hx h2 h3)
    · obtain rfl : k = i := by omega
      rw [hx] at h2; injection h2 with h2; subst h2; exact ltT_irr _)
  refine ⟨e, ?_⟩
  unfold hitT; rw [e, hx]; simpa using hn
theorem findL_hitT {l : List Ent} {t : Txt} (hs : l.Pairwise fun a b => ltT a.nm b.nm = true) : (findL l t).isSome = hitT l t := by
  cases e : findL l t with
  | none =>
    cases h : hitT l t with
    | false => rfl
    | true =>
      obtain ⟨x, hx, hn⟩ := hitT_some h
      exact absurd hn (findL_none.1 e x (List.mem_of_getElem? hx))
  | some i =>
    obtain ⟨p, x, q, hl, hn, _, _⟩ := findL_some e
    have hx : l[p.length]? = some x := by rw [hl]; simp
    rw [(hitT_of hs hx hn).2]; rfl
theorem findL_at {l : List Ent} {t : Txt} (hs : l.Pairwise fun a b => ltT a.nm b.nm = true) (h : hitT l t = true) : ∃ x, l[cntT l t]? = some x ∧ x.nm = t ∧ findL l t = some x.id := by
  obtain ⟨x, hx, hn⟩ := hitT_some h
  refine ⟨x, hx, hn, ?_⟩
  have h2 := findL_hitT (t := t) hs
  rw [h] at h2
  obtain ⟨i, hi⟩ := Option.isSome_iff_exists.1 h2
  obtain ⟨p, y, q, hl, hny, hyi, _⟩ := findL_some hi
  have hy : l[p.length]? = some y := by rw [hl]; simp
  rw [(hitT_of hs hy hny).1] at hx
  rw [hx] at hy; injection hy with hy
  rw [hi, hy, hyi]
end Go.Proofs.Ytpghnhcjgjgglaa
namespace Go.Proofs.Ytpghnhcjgjgglaa
open Go.ChangeShapes Go.WideShapes Go.ChangeAt Go.RowKit
set_option linter.unusedVariables false
set_option linter.unusedSimpArgs false
set_option maxHeartbeats 4000000 in
theorem bsf_any {w : World} {a : Option Addr} {n c : Nat} {l : List Ent} (hr : Reads 2 enV w a n l) (hs : l.Pairwise fun a b => ltT a.nm b.nm = true) (hn : n ≤ 8) (t : Txt) (z : Int) :
    Calls Try.prog 64 #[.slice a n c, .agg #[.string (bt t), .int .i64 z], .func (.func 52) #[] #[]] w fun e w' => e = .returned (.tuple #[.int .i64 (cntT l t : Nat), .bool (hitT l t)]) ∧ Below w.heap.size w w' := by
  have HR := hide hr
  have HS := hide hs
  have LN := hide hr.1
  obtain ⟨w1, hw1⟩ : ∃ w1, w1 = w.alloc (.cells #[.string (bt t), .int .i64 z] 44) := ⟨_, rfl⟩
  have b1 : Below w.heap.size w w1 := by rw [hw1]; exact (Below.refl _ _).alloc (Nat.le_refl _) _
  have B1 := hide b1
  have H1 := hide hw1
  have S1 := hide (show w1.heap.size = w.heap.size + 1 from by rw [hw1]; simp)
  have CB := hide (fun (W : World) (b : Below w1.heap.size w1 W) => show W.cell? ⟨w.heap.size, 0, none⟩ = some (.string (bt t)) ∧ W.cell? ⟨w.heap.size, 1, none⟩ = some (.int .i64 z) from by
    have h0 : w1.cell? ⟨w.heap.size, 0, none⟩ = some (.string (bt t)) := by rw [hw1]; exact cells_new w [.string (bt t), .int .i64 z] _ _ rfl 0 _ rfl
    have h1 : w1.cell? ⟨w.heap.size, 1, none⟩ = some (.int .i64 z) := by rw [hw1]; exact cells_new w [.string (bt t), .int .i64 z] _ _ rfl 1 _ rfl
    exact ⟨(b.cell (lt_of_cell? h0)).trans h0, (b.cell (lt_of_cell? h1)).trans h1⟩)
  have AC := hide (fun (lo : Nat) (h : lo ≤ n) (h1 : ∀ k x, k < lo → l[k]? = some x → ltT x.nm t = true) (h2 : ∀ k x, lo ≤ k → l[k]? = some x → ltT x.nm t = false) => show cntT l t = lo from countP_here _ l lo (by rw [hr.1]; exact h) h1 h2)
  have n8 : (n : Int) ≤ 8 := by omega
  clear hr hs b1
  go_enter Try.func64, Try.ntmps64
  go_upto_region 3 with fail
  rw [← hw1]
  clear hw1
  go_loopw [9, 10] (fun iv jv wr => ∃ lo hi : Nat, iv = .int .i64 (lo : Int) ∧ jv = .int .i64 (hi : Int) ∧ lo ≤ hi ∧ hi ≤ n ∧ Hid (Below w1.heap.size w1 wr) ∧ Hid ((∀ k x, k < lo → l[k]? = some x → ltT x.nm t = true) ∧ (∀ k x, hi ≤ k → l[k]? = some x → ltT x.nm t = false))) (fun iv jv _ => (intOf jv).toNat - (intOf iv).toNat)
  case atStart => exact ⟨0, n, rfl, rfl, Nat.zero_le _, Nat.le_refl _, Below.refl _ _, ⟨fun k x h => by omega, fun k x h e => by have := (List.getElem?_eq_some_iff.1 e).1; have := LN.out; omega⟩⟩
  case round =>
    obtain ⟨lo, hi, rfl, rfl, hlh, hin, hB, hI⟩ := hrel
    rename World => wr
    obtain ⟨x0, x1⟩ := CB.out wr hB.out
    have c2 := x0
    by_cases hlt : lo < hi
    · have L1 : (lo : Int) < (hi : Int) := by omega
      obtain ⟨m, hm⟩ : ∃ m, m = (lo + hi) / 2 := ⟨_, rfl⟩
      have mlo : lo ≤ m := by omega
      have mhi : m < hi := by omega
      have HM := hide hm
      have e1 : ((lo : Int) + (hi : Int)) / 2 = (m : Int) := by omega
      have l8 : (lo : Int) + (hi : Int) ≤ 16 := by omega
      obtain ⟨x, b, off, hx, rfl, y0, y1⟩ := ((HR.out.below B1.out).below hB.out).ent (show m < n by omega)
      have HX := hide hx
      have BN := hide (fun W => byname_any x.nm t (x.id : Int) z W)
      have sn := sgnT_neg x.nm t
      obtain ⟨sg, hsg⟩ : ∃ z, z = sgnT x.nm t := ⟨_, rfl⟩
      obtain ⟨nm, hnm⟩ : ∃ y, y = x.nm := ⟨_, rfl⟩
      obtain ⟨xi, hxi⟩ : ∃ y, y = x.id := ⟨_, rfl⟩
      rw [← hsg] at BN sn
      rw [← hnm] at BN sn y0
      rw [← hxi] at BN y1
      have HN := hide hnm
      have m0 : (0 : Int) ≤ (m : Int) := by omega
      have m1 : (m : Int) < (n : Int) := by omega
      have SC := hide (fun (W : World) (b2 : Below wr.heap.size wr W) => show W.cell? ⟨b, off + m * 2, none⟩ = some (.string (bt nm)) ∧ W.cell? ⟨b, off + m * 2 + 1, none⟩ = some (.int .i64 (xi : Int)) ∧ W.cell? ⟨w.heap.size, 0, none⟩ = some (.string (bt t)) ∧ W.cell? ⟨w.heap.size, 1, none⟩ = some (.int .i64 z) from
        ⟨(b2.cell (lt_of_cell? y0)).trans y0, (b2.cell (lt_of_cell? y1)).trans y1, (b2.cell (lt_of_cell? x0)).trans x0, (b2.cell (lt_of_cell? x1)).trans x1⟩)
      clear hsg hxi hnm hx hm
      by_cases hq : ltT nm t = true
      · have s0 : sg < 0 := sn.2 hq
        have HQ := hide hq
        clear hq sn
        go_upto_region 5 with fail
        go_region_held3 (fun W => W.cell? ⟨b, off + m * 2, none⟩ = some (.string (bt nm)) ∧ W.cell? ⟨b, off + m * 2 + 1, none⟩ = some (.int .i64 (xi : Int)) ∧ W.cell? ⟨w.heap.size, 0, none⟩ = some (.string (bt t)) ∧ W.cell? ⟨w.heap.size, 1, none⟩ = some (.int .i64 z)) (first | exact ⟨y0, y1, x0, x1⟩ | exact SC.out _ B2.out) (first | (go_at_call 52; refine (BN.out _).mono ?_; rintro e w2 ⟨rfl, b2⟩; have B2 := hide (show Below wr.heap.size wr w2 from (below_drewN (Below.refl _ _) 1).trans b2); clear b2))
        go_wp2_with fail
        go_roundw
        case rel => exact ⟨m + 1, hi, by go_num, rfl, by omega, hin, hB.out.trans (B2.out.mono hB.out.size), ⟨fun k y h e => by
          rcases Nat.lt_or_ge k m with h3 | h3
          · have := srt_at HS.out e HX.out h3
            rw [← HN.out] at this
            exact ltT_trans this HQ.out
          · obtain rfl : k = m := by omega
            rw [HX.out] at e; injection e with e; rw [← e, ← HN.out]; exact HQ.out, hI.out.2⟩⟩
        case measure => simp [intOf]; omega
      · have s0 : ¬ sg < 0 := fun e => hq (sn.1 e)
        have HQ := hide (show ltT nm t = false from by simpa using hq)
        clear hq sn
        go_upto_region 5 with fail
        go_region_held3 (fun W => W.cell? ⟨b, off + m * 2, none⟩ = some (.string (bt nm)) ∧ W.cell? ⟨b, off + m * 2 + 1, none⟩ = some (.int .i64 (xi : Int)) ∧ W.cell? ⟨w.heap.size, 0, none⟩ = some (.string (bt t)) ∧ W.cell? ⟨w.heap.size, 1, none⟩ = some (.int .i64 z)) (first | exact ⟨y0, y1, x0, x1⟩ | exact SC.out _ B2.out) (first | (go_at_call 52; refine (BN.out _).mono ?_; rintro e w2 ⟨rfl, b2⟩; have B2 := hide (show Below wr.heap.size wr w2 from (below_drewN (Below.refl _ _) 1).trans b2); clear b2))
        go_wp2_with fail
        go_roundw
        case rel => exact ⟨lo, m, rfl, rfl, mlo, by omega, hB.out.trans (B2.out.mono hB.out.size), ⟨hI.out.1, fun k y h e => by
          rcases Nat.lt_or_ge m k with h3 | h3
          · have := srt_at HS.out HX.out e h3
            rw [← HN.out] at this
            cases hc : ltT y.nm t with
            | false => rfl
            | true => exact absurd (ltT_trans this hc) (by rw [HQ.out]; decide)
          · obtain rfl : k = m := by omega
            rw [HX.out] at e; injection e with e; rw [← e, ← HN.out]; exact HQ.out⟩⟩
        case measure => simp [intOf]; omega
    · obtain rfl : lo = hi := by omega
      have EC := hide (AC.out lo hin hI.out.1 hI.out.2)
      by_cases hln : lo < n
      · obtain ⟨x, b, off, hx, rfl, y0, y1⟩ := ((HR.out.below B1.out).below hB.out).ent hln
        have HX := hide hx
        have BN := hide (fun W => byname_any x.nm t (x.id : Int) z W)
        have sn := sgnT_zero x.nm t
        obtain ⟨sg, hsg⟩ : ∃ z, z = sgnT x.nm t := ⟨_, rfl⟩
        have HT := hide (show hitT l t = decide (sg = 0) from by
          unfold hitT
          rw [EC.out, HX.out]
          show decide (x.nm = t) = _
          rw [hsg]; exact decide_eq_decide.2 sn.symm)
        obtain ⟨nm, hnm⟩ : ∃ y, y = x.nm := ⟨_, rfl⟩
        obtain ⟨xi, hxi⟩ : ∃ y, y = x.id := ⟨_, rfl⟩
        rw [← hsg] at BN
        rw [← hnm] at BN y0
        rw [← hxi] at BN y1
        have m0 : (0 : Int) ≤ (lo : Int) := by omega
        have m1 : (lo : Int) < (n : Int) := by omega
        have SC := hide (fun (W : World) (b2 : Below wr.heap.size wr W) => show W.cell? ⟨b, off + lo * 2, none⟩ = some (.string (bt nm)) ∧ W.cell? ⟨b, off + lo * 2 + 1, none⟩ = some (.int .i64 (xi : Int)) ∧ W.cell? ⟨w.heap.size, 0, none⟩ = some (.string (bt t)) ∧ W.cell? ⟨w.heap.size, 1, none⟩ = some (.int .i64 z) from
          ⟨(b2.cell (lt_of_cell? y0)).trans y0, (b2.cell (lt_of_cell? y1)).trans y1, (b2.cell (lt_of_cell? x0)).trans x0, (b2.cell (lt_of_cell? x1)).trans x1⟩)
        clear hsg hxi hnm hx sn
        have g0 : ((lo : Int) < (n : Int)) = True := by simpa using hln
        have eq0 : (sg == 0) = decide (sg = 0) := by by_cases e : sg = 0 <;> simp [e]
        go_upto_region 8 with fail
        go_region_held3 (fun W => W.cell? ⟨b, off + lo * 2, none⟩ = some (.string (bt nm)) ∧ W.cell? ⟨b, off + lo * 2 + 1, none⟩ = some (.int .i64 (xi : Int)) ∧ W.cell? ⟨w.heap.size, 0, none⟩ = some (.string (bt t)) ∧ W.cell? ⟨w.heap.size, 1, none⟩ = some (.int .i64 z)) (first | exact ⟨y0, y1, x0, x1⟩ | exact SC.out _ B2.out) (first | (go_at_call 52; refine (BN.out _).mono ?_; rintro e w2 ⟨rfl, b2⟩; have B2 := hide (show Below wr.heap.size wr w2 from (below_drewN (Below.refl _ _) 1).trans b2); clear b2))
        all_goals
          go_wp2_with fail
          go_ret2
          exact ⟨by rw [EC.out, HT.out]; rfl, B1.out.trans ((hB.out.trans (B2.out.mono hB.out.size)).mono B1.out.size)⟩
      · have HT := hide (show hitT l t = false from by
          unfold hitT
          rw [EC.out, List.getElem?_eq_none (by have := LN.out; omega)])
        obtain rfl : lo = n := by omega
        have g0 : ((lo : Int) < (lo : Int)) = False := by simp
        go_upto_region 8 with fail
        go_quiet (fail)
        go_wp2_with fail
        go_ret2
        exact ⟨by rw [EC.out, HT.out]; rfl, B1.out.trans ((below_drewN hB.out _).mono B1.out.size)⟩
end Go.Proofs.Ytpghnhcjgjgglaa
namespace Go.Proofs.Ytpghnhcjgjgglaa
open Go.ChangeShapes Go.WideShapes Go.ChangeAt Go.RowKit
set_option linter.unusedVariables false
set_option linter.unusedSimpArgs false
def plI (l : List Ent) (t : Txt) : Int := if hitT l t = true then (cntT l t : Int) else -1
theorem built_key (t : Txt) : Try.prog.built 44 [(0, .string (bt t))] = some #[.string (bt t), .int .i64 0] := by kernel_rfl
attribute [local go_sem] built_key
section
variable {w : World} {U : Nat → Prop} {H T S : Nat} {s : In} {E : Nat → Prop} {N : Nat → Option Nat} {V : Nat → Value} {tag : Nat → Int}
set_option maxHeartbeats 2000000 in
theorem place_any (h : IpM w U H T S s E N V tag) {i b : Nat} (e : N i = some b) (hs : (s.n i).l.Pairwise fun a b => ltT a.nm b.nm = true) (h8 : (s.n i).l.length ≤ 8) (t : Txt) : Calls Try.prog 50 #[.pointer (some ⟨b, 0, none⟩), .string (bt t)] w fun e w' => e = .returned (.int .i64 (plI (s.n i).l t)) ∧ Below w.heap.size w w' := by
  obtain ⟨a, c, hv, hr, -, -, -⟩ := h.list i
  have c3 := h.cList e
  rw [hv] at c3
  have BS := hide (bsf_any (c := c) hr hs h8 t 0)
  obtain ⟨l, hl⟩ : ∃ l, l = (s.n i).l := ⟨_, rfl⟩
  rw [← hl] at BS c3 ⊢
  unfold plI
  clear h e hs h8 hr hv hl
  cases hh : hitT l t with
  | true =>
    rw [hh] at BS
    rw [if_pos rfl]
    clear hh
    go_enter Try.func50, Try.ntmps50
    go_wp2_with (first | (refine wpList_build rfl 44 _ rfl (by kernel_rfl) ?_) | (go_at_call 64; refine BS.out.mono ?_; rintro e w' ⟨rfl, b1⟩; have B1 := hide b1; clear b1))
    go_ret
    exact ⟨rfl, B1.out⟩
  | false =>
    rw [hh] at BS
    rw [if_neg (by decide)]
    clear hh
    go_enter Try.func50, Try.ntmps50
    go_wp2_with (first | (refine wpList_build rfl 44 _ rfl (by kernel_rfl) ?_) | (go_at_call 64; refine BS.out.mono ?_; rintro e w' ⟨rfl, b1⟩; have B1 := hide b1; clear b1))
    go_ret
    exact ⟨rfl, B1.out⟩
set_option maxHeartbeats 2000000 in
theorem pfind_any (h : IpM w U H T S s E N V tag) {pend : List Ent} {B : Int} (g : GoodP s pend B) (d : Int) (t : Txt) : Calls Try.prog 17 #[.pointer (some ⟨T, 0, none⟩), .int .i64 d, .string (bt t)] w fun e w' => e = .returned (.tuple #[.int .i64 (fiII s d t : Nat), .int .i64 (fiIE s d t : Nat)]) ∧ Below w.heap.size w w' := by
  cases hD : dirI s d with
  | false =>
    have F := hide (folder21_no h hD)
    rw [show fiII s d t = 0 from by unfold fiII; rw [hD]; rfl, show fiIE s d t = 11 from by unfold fiIE; rw [hD]; rfl]
    clear h g hD
    go_enter Try.func17, Try.ntmps17
    go_wp2_with (go_at_call 43; refine F.out.mono ?_; rintro e w' ⟨rfl, rfl⟩)
    go_ret2
    exact ⟨rfl, Below.refl _ _⟩
  | true =>
    obtain ⟨i, rfl, hi, his, hdir⟩ := dirI_yes hD
    obtain ⟨b, hb⟩ := h.there his
    have F := hide (folder21_yes h hi hb hdir)
    have P := hide (place_any h hb (g.srt i) (g.few i) t)
    have fE : fiIE s (i : Int) t = if hitT (s.n i).l t = true then 0 else 9 := by unfold fiIE; rw [hD, Int.toNat_natCast, findL_hitT (g.srt i)]; rfl
    cases hh : hitT (s.n i).l t with
    | false =>
      have hn : findL (s.n i).l t = none := by
        have := findL_hitT (t := t) (g.srt i)
        rw [hh] at this
        exact Option.not_isSome_iff_eq_none.1 (by rw [this]; decide)
      rw [fE, hh, show fiII s (i : Int) t = 0 from by unfold fiII; rw [hD, Int.toNat_natCast, hn]; rfl]
      rw [show plI (s.n i).l t = -1 from by unfold plI; rw [hh]; rfl] at P
      clear h g hD his hdir hb fE hh hn
      go_enter Try.func17, Try.ntmps17
      go_wp2_with (first | (go_at_call 43; refine F.out.mono ?_; rintro e w' ⟨rfl, rfl⟩) | (go_at_call 50; refine P.out.mono ?_; rintro e w' ⟨rfl, b1⟩; have B1 := hide b1; clear b1))
      go_ret2
      exact ⟨rfl, B1.out⟩
    | true =>
      obtain ⟨x, hx, hn, hf⟩ := findL_at (g.srt i) hh
      rw [fE, hh, show fiII s (i : Int) t = x.id from by unfold fiII; rw [hD, Int.toNat_natCast, hf]; rfl]
      rw [show plI (s.n i).l t = (cntT (s.n i).l t : Int) from by unfold plI; rw [if_pos hh]] at P
      obtain ⟨a, c, hv, hr, -, -, -⟩ := h.list i
      have c3 := h.cList hb
      rw [hv] at c3
      obtain ⟨k, hk⟩ : ∃ k, k = cntT (s.n i).l t := ⟨_, rfl⟩
      rw [← hk] at P hx
      have hlt := (List.getElem?_eq_some_iff.1 hx).1
      obtain ⟨x', bb, off, hx', rfl, y0, y1⟩ := hr.ent hlt
      rw [hx] at hx'
      injection hx' with hx'
      subst hx'
      obtain ⟨n, hn2⟩ : ∃ n, n = (s.n i).l.length := ⟨_, rfl⟩
      rw [← hn2] at hlt c3
      obtain ⟨z, hz⟩ : ∃ z, z = x.id := ⟨_, rfl⟩
      rw [← hz] at y1 ⊢
      have k0 : (0 : Int) ≤ (k : Int) := by omega
      have k1 : (k : Int) < (n : Int) := by omega
      have CB := hide (fun (W : World) (bl : Below w.heap.size w W) => show W.cell? ⟨b, 3, none⟩ = some (.slice (some ⟨bb, off, none⟩) n c) ∧ W.cell? ⟨bb, off + k * 2 + 1, none⟩ = some (.int .i64 (z : Int)) from ⟨(bl.cell (lt_of_cell? c3)).trans c3, (bl.cell (lt_of_cell? y1)).trans y1⟩)
      clear h g hD his hdir hb fE hh hn hf hv hr hx hk y0 hn2 hz c3 y1 hlt
      go_enter Try.func17, Try.ntmps17
      go_wp2_with (first | (go_at_call 43; refine F.out.mono ?_; rintro e w' ⟨rfl, rfl⟩) | (go_at_call 50; refine P.out.mono ?_; rintro e w' ⟨rfl, b1⟩; have B1 := hide b1; clear b1; obtain ⟨q0, q1⟩ := CB.out _ B1.out))
      go_ret2
      exact ⟨rfl, B1.out⟩
end
end Go.Proofs.Ytpghnhcjgjgglaa
namespace Go.Proofs.Ytpghnhcjgjgglaa
open Go.ChangeShapes Go.WideShapes Go.ChangeAt Go.RowKit
set_option linter.unusedVariables false
set_option linter.unusedSimpArgs false
/-- What a call makes of the table. -/
def Pto (w w' : World) (U : Nat → Prop) (H T S : Nat) (s' : In) : Prop := ∃ U', PIn H S w' U' T s' ∧ Touch U w w' ∧ ∀ k, U' k → U k ∨ w.heap.size ≤ k
section
variable {w : World} {U : Nat → Prop} {H T S : Nat} {s : In} {E : Nat → Prop} {N : Nat → Option Nat} {V : Nat → Value} {tag : Nat → Int}
theorem Pto.refl (h : PIn H S w U T s) : Pto w w U H T S s := ⟨U, h, Touch.refl _ _, fun k e => .inl e⟩
theorem Pto.step {w1 w2 : World} {U1 : Nat → Prop} {s2 : In} (t : Touch U w w1) (hU : ∀ k, U1 k → U k ∨ w.heap.size ≤ k) (h : Pto w1 w2 U1 H T S s2) : Pto w w2 U H T S s2 := by
  obtain ⟨U2, h2, t2, u2⟩ := h
  refine ⟨U2, h2, t.trans t2 hU, fun k e => ?_⟩
  rcases u2 k e with e | e
  · exact hU k e
  · have := t.size; exact .inr (by omega)
theorem Pto.after {w1 w2 : World} {s2 : In} (b : Below w.heap.size w w1) (h : Pto w1 w2 U H T S s2) : Pto w w2 U H T S s2 := Pto.step (Touch.of_below b) (fun k e => .inl e) h
theorem Pto.then_below {w1 w2 : World} {s2 : In} (h : Pto w w1 U H T S s2) (b : Below w1.heap.size w1 w2) : Pto w w2 U H T S s2 := by
  obtain ⟨U2, h2, t2, u2⟩ := h
  exact ⟨U2, (keepsPIn H S).below h2 b, t2.trans (Touch.of_below (S := fun _ => False) b) (fun i e => e.elim), u2⟩
theorem Pto.side {w' : World} {s' : In} {v : Value} (h : Pto w w' U H T S s') : SideO (fun w' U' => PIn H S w' U' T s') U w v (.returned v) w' := by
  obtain ⟨U2, h2, t2, u2⟩ := h
  exact ⟨rfl, U2, h2, t2, u2⟩
theorem GoodP.here {s : In} {pend : List Ent} {e : Ent} {B : Int} (h : GoodP s (e :: pend) B) : (s.n e.id).is = true := by
  cases e2 : (s.n e.id).is with
  | true => rfl
  | false =>
    have h1 := h.lnk e.id
    rw [h.no _ e2, cntL_cons, if_pos rfl] at h1
    have : (Nd.zero).links = 0 := rfl
    omega
/-- What settle and unlink do, for tables of less than f nodes. -/
def SettleOk (f H T S : Nat) : Prop := ∀ (w : World) (U : Nat → Prop) (s : In) (pend : List Ent) (B : Int) (i : Nat), PIn H S w U T s → GoodP s pend B → i < 16 → (s.n i).is = true → cntI s < f →
    Calls Try.prog 55 #[.pointer (some ⟨T, 0, none⟩), .int .i64 (i : Int)] w fun e w' => e = .returned (.tuple #[]) ∧ Pto w w' U H T S (goneI f s i)
def UnlinkOk (f H T S : Nat) : Prop := ∀ (w : World) (U : Nat → Prop) (s : In) (pend : List Ent) (B : Int) (x : Ent), PIn H S w U T s → GoodP s (x :: pend) B → cntI s < f →
    Calls Try.prog 54 #[.pointer (some ⟨T, 0, none⟩), .int .i64 (x.id : Int)] w fun e w' => e = .returned (.tuple #[]) ∧ Pto w w' U H T S (goneI f (decL s x.id) x.id)
set_option maxHeartbeats 4000000 in
theorem unlink_of {f : Nat} (IH : SettleOk f H T S) : UnlinkOk f H T S := by
  rintro w U s pend B x ⟨E, N, V, tag, h⟩ g hc
  have e16 := (g.pnd x (List.mem_cons_self ..)).1
  have his := g.here
  obtain ⟨b, hb⟩ := h.there his
  have cS := h.cS e16 hb
  have cl := h.cLinks hb
  have fz := (h.nd _ b hb).frz 1
  have LK := hide (fun q => h.linked hb ((s.n x.id).links - 1) q)
  have UB := hide (h.un _ b hb)
  have GD := hide g.dec
  have CD := hide (show cntI (decL s x.id) < f from by rw [cntI_dec _ e16]; exact hc)
  have IS := hide (show ((decL s x.id).n x.id).is = true from by show (upd s.n x.id _ x.id).is = true; rw [upd_same]; exact his)
  have DE := hide (show s.put x.id { s.n x.id with links := (s.n x.id).links - 1 } = decL s x.id from rfl)
  have l0 : 0 ≤ (s.n x.id).links := by rw [g.lnk]; omega
  have lb := g.lb x.id
  generalize (s.n x.id).links = lk at *
  have E16 := hide e16
  have j0 : (0 : Int) ≤ (x.id : Int) := by omega
  have j1 : (x.id : Int) < 16 := by omega
  generalize x.id = j at *
  have IHH := hide IH
  clear IH h g hc his hb e16
  go_enter Try.func54, Try.ntmps54
  go_upto_region 1 with fail
  have ST := hide (IHH.out (w.setCell ⟨b, 1, none⟩ (.int .i64 (lk - 1))) U (decL s j) pend B j ⟨E, N, V, tag, DE.out ▸ (LK.out 0).1⟩ GD.out E16.out IS.out CD.out)
  have TC := hide (show Touch U w (w.setCell ⟨b, 1, none⟩ (.int .i64 (lk - 1))) from (LK.out 0).2.mono (fun k e => e ▸ UB.out))
  clear cS cl fz
  go_wp2_with (go_at_call 55; refine ST.out.mono ?_; rintro e w2 ⟨rfl, r2⟩; have R2 := hide (Pto.step TC.out (fun k e => .inl e) r2); clear r2)
  refine bodyPost_end (results_none rfl _ _ _) rfl ?_
  exact ⟨rfl, R2.out⟩
set_option maxRecDepth 10000 in
set_option maxHeartbeats 8000000 in
theorem settle_step {f : Nat} (IH : SettleOk f H T S) : SettleOk (f + 1) H T S := by
  rintro w U s pend B i ⟨E, N, V, tag, h⟩ g hi his hc
  have UL := hide (unlink_of IH)
  clear IH
  have i0 : (0 : Int) ≤ (i : Int) := by omega
  have i1 : (i : Int) < 16 := by omega
  obtain ⟨b, hb⟩ := h.there his
  have cS := h.cS hi hb
  have cl := h.cLinks hb
  have co := h.cOpens hb
  have l0 : 0 ≤ (s.n i).links := by rw [g.lnk i]; omega
  have o0 := (g.opn i).1
  by_cases hg : i = 0 ∨ 0 < (s.n i).links ∨ 0 < (s.n i).opens
  · rw [show goneI (f + 1) s i = s from if_pos hg]
    have FIN := hide (Pto.refl (show PIn H S w U T s from ⟨_, _, _, _, h⟩))
    obtain ⟨lk, hlk⟩ : ∃ z, z = (s.n i).links := ⟨_, rfl⟩
    obtain ⟨op, hop⟩ : ∃ z, z = (s.n i).opens := ⟨_, rfl⟩
    rw [← hlk] at cl hg l0
    rw [← hop] at co hg o0
    clear hlk hop g h hb his hc
    by_cases z0 : i = 0
    · subst z0
      clear hg
      go_enter Try.func55, Try.ntmps55
      go_wp2_with fail
      refine bodyPost_ret (results_none rfl _ _ _) rfl ?_
      exact ⟨rfl, FIN.out⟩
    · have z1 : ¬ (i : Int) = 0 := by omega
      by_cases z2 : 0 < lk
      · clear hg
        go_enter Try.func55, Try.ntmps55
        go_wp2_with fail
        refine bodyPost_ret (results_none rfl _ _ _) rfl ?_
        exact ⟨rfl, FIN.out⟩
      · have z3 : 0 < op := (hg.resolve_left z0).resolve_left z2
        clear hg
        go_enter Try.func55, Try.ntmps55
        go_wp2_with fail
        refine bodyPost_ret (results_none rfl _ _ _) rfl ?_
        exact ⟨rfl, FIN.out⟩
  · have hgone : goneI (f + 1) s i = foldG f (s.n i).l (clrI s i) := if_neg hg
    have z1 : ¬ (i : Int) = 0 := fun e => hg (.inl (by omega))
    have z2 : (s.n i).links = 0 := by have : ¬ 0 < (s.n i).links := fun e => hg (.inr (.inl e)); omega
    have z3 : (s.n i).opens = 0 := by have : ¬ 0 < (s.n i).opens := fun e => hg (.inr (.inr e)); omega
    rw [z2] at cl
    rw [z3] at co
    have GC := hide (g.clr hi (fun e => hg (.inl e)) (by omega))
    have CC := hide (cntI_clr g hi)
    have N8 := hide (g.few i)
    have fT := h.row.frz (1 + i)
    have cd := h.cDir hb
    have c0 := h.c0
    obtain ⟨a, c, hv, hr, -, -, -⟩ := h.list i
    have c3 := h.cList hb
    rw [hv] at c3
    have OUT := hide (h.out hi hb)
    have bT := (h.tagS hb).1
    have rT : ∀ q o, a = some ⟨q, o, none⟩ → q ≠ T := fun q o e e2 => by
      have h1 := h.tv i q (by rw [hv, e]; rfl)
      have h2 := h.tt
      rw [e2] at h1; omega
    have ro : ∀ q o, a = some ⟨q, o, none⟩ → (V i).ownBlock = some q := fun q o e => by rw [hv, e]; rfl
    rw [hgone]
    obtain ⟨l, hl⟩ : ∃ l, l = (s.n i).l := ⟨_, rfl⟩
    rw [← hl] at GC CC N8 c3 hr ⊢
    obtain ⟨n, hn⟩ : ∃ n, n = l.length := ⟨_, rfl⟩
    have NL := hide hn
    rw [← hn] at N8 hr c3
    have n8 : (n : Int) ≤ 8 := by have := N8.out; omega
    obtain ⟨w1, hw1⟩ : ∃ w1, w1 = w.setCell ⟨T, 1 + i, none⟩ (.pointer none) := ⟨_, rfl⟩
    rw [← hw1] at OUT
    -- the node's own cells and row, as long as nothing of the table's blocks is written
    have KEEP := hide (show ∀ (U2 : Nat → Prop) (w2 : World), (∀ k, U2 k → U k ∧ k ≠ b ∧ (V i).ownBlock ≠ some k) → Touch U2 w1 w2 → w2.cell? ⟨b, 0, none⟩ = some (.bool (s.n i).dir) ∧ w2.cell? ⟨b, 3, none⟩ = some (.slice a n c) ∧ Reads 2 enV w2 a n l from fun U2 w2 hU t => by
      have t1 := OUT.out.2
      refine ⟨t.cell (t1.cell cd bT) (fun e => (hU b e).2.1 rfl), t.cell (t1.cell c3 bT) (fun e => (hU b e).2.1 rfl), (hr.touch t1 (fun q o e e2 => rT q o e e2)).touch t (fun q o e e2 => (hU q e2).2.2 (ro q o e))⟩)
    have c0' := OUT.out.1.c0
    have K0 := KEEP.out (fun k => U k ∧ k ≠ b ∧ (V i).ownBlock ≠ some k) w1 (fun k e => e) (Touch.refl _ _)
    have DR := hide (pdr_any OUT.out.1.so (wf_16 hi))
    have HC := hide hc
    have LT := hide (h.lt)
    have UT := hide h.ut
    have BH := hide (h.un i b hb)
    have RO := hide (And.intro ro rT)
    have UQ := hide (fun q o e => h.uv i q (ro q o e))
    have HB := hide hb
    clear g h hg hgone z2 z3 hl hc l0 o0 his hn cd c3 hv hr rT ro hb
    have FIN2 := hide (fun (U3 : Nat → Prop) (w2 : World) (t : Touch (fun k => U k ∧ k ≠ b ∧ (V i).ownBlock ≠ some k) w1 w2) (hU : ∀ k, U3 k → (U k ∧ k ≠ b ∧ (V i).ownBlock ≠ some k) ∨ w1.heap.size ≤ k) => show (Touch U w w2 ∧ ∀ k, U3 k → U k ∨ w.heap.size ≤ k) ∧ (∀ q o, a = some ⟨q, o, none⟩ → q < w1.heap.size → ¬ U3 q) from
      ⟨⟨(OUT.out.2.mono (fun k e => e ▸ UT.out)).trans t (fun k e => .inl e.1), fun k e => by
        rcases hU k e with e | e
        · exact .inl e.1
        · have := OUT.out.2.size; exact .inr (by omega)⟩, fun q o e hq e2 => by
        rcases hU q e2 with e3 | e3
        · exact e3.2.2 (RO.out.1 q o e)
        · omega⟩)
    have LQ := hide (fun (q o : Nat) (e : a = some ⟨q, o, none⟩) => show q < w1.heap.size from Nat.lt_of_lt_of_le (LT.out q (UQ.out q o e)) OUT.out.2.size)
    cases hd : (s.n i).dir with
    | true =>
      rw [hd] at KEEP K0
      clear DR
      have hcl : clrI s i = ⟨upd s.n i Nd.zero, s.so⟩ := by unfold clrI; rw [if_pos hd]
      obtain ⟨U3, hU3⟩ : ∃ U3, U3 = (fun k => U k ∧ k ≠ b ∧ (V i).ownBlock ≠ some k) := ⟨_, rfl⟩
      have P2 := hide (show PIn H S w1 U3 T (clrI s i) from by rw [hU3, hcl]; exact ⟨_, _, _, _, OUT.out.1⟩)
      obtain ⟨bk, rr⟩ := FIN2.out U3 w1 (Touch.refl _ _) (fun k e => .inl (by rw [hU3] at e; exact e))
      have BACK := hide bk
      have RD := hide (show Reads 2 enV w1 a n l ∧ ∀ q o, a = some ⟨q, o, none⟩ → ¬ U3 q from ⟨K0.2.2, fun q o e => rr q o e (LQ.out q o e)⟩)
      obtain ⟨d0, d3, -⟩ := K0
      clear hd hcl hU3 bk rr KEEP FIN2 LQ
      go_enter Try.func55, Try.ntmps55
      go_upto_region 3 with fail
      rw [← hw1]
      clear hw1 cS cl co c0 fT OUT
      obtain ⟨w2, hw2⟩ : ∃ w2, w2 = w1 := ⟨_, rfl⟩
      rw [← hw2] at P2 RD BACK d0 d3 c0' ⊢
      clear hw2
      go_upto_region 6 with fail
      try simp only [show ((i : Int) == 0) = false from by simpa using z1]
      go_loopw [50] (fun kv wr => ∃ k : Nat, k ≤ n ∧ kv = .int .i64 (k : Int) ∧ Hid (Pto w2 wr U3 H T S (foldG f (l.take k) (clrI s i)))) (fun kv _ => n - (intOf kv).toNat)
      case atStart => exact ⟨0, Nat.zero_le _, rfl, Pto.refl P2.out⟩
      case round =>
        obtain ⟨k, hk, rfl, hR⟩ := hrel
        by_cases hlt : k < n
        · have k0 : (0 : Int) ≤ (k : Int) := by omega
          have k1 : (k : Int) < (n : Int) := by omega
          obtain ⟨U4, p4, t4, u4⟩ := hR.out
          have hr4 := RD.out.1.touch t4 RD.out.2
          obtain ⟨x, q, off, hx, rfl, x0, x1⟩ := hr4.ent hlt
          obtain ⟨gg, gc⟩ := foldG_good (f := f) GC.out (fun hne => by have := CC.out.2 hne; have := HC.out; omega) k (by have := NL.out; omega)
          rw [List.drop_eq_getElem_cons (by have := NL.out; omega), show l[k]'(by have := NL.out; omega) = x from (List.getElem?_eq_some_iff.1 hx).2, List.cons_append] at gg
          have TK := hide (foldG_take (f := f) (s := clrI s i) hx)
          have B4 := hide (show ∀ o : Obj, Below wr.heap.size wr (wr.alloc o) from fun o => (Below.refl _ _).alloc (Nat.le_refl _) o)
          have cf := gc (fun e => by rw [e] at hx; cases hx)
          have UN := hide (UL.out (wr.alloc (.cells #[.string (bt x.nm), .int .i64 (x.id : Int)] 44)) U4 _ _ B x ((keepsPIn H S).below p4 (B4.out _)) gg cf)
          have P4 := hide (And.intro t4 u4)
          obtain ⟨nm, hnm⟩ : ∃ y, y = x.nm := ⟨_, rfl⟩
          rw [← hnm] at x0 UN
          generalize goneI f (decL (foldG f (l.take k) (clrI s i)) x.id) x.id = s5 at *
          generalize x.id = xi at *
          clear hr4 hx gg gc cf hnm t4 u4 p4 hR
          go_wp2_with (go_at_call 54; refine UN.out.mono ?_; rintro e w5 ⟨rfl, r5⟩; have R5 := hide (Pto.step P4.out.1 P4.out.2 (Pto.after (B4.out _) r5)); clear r5)
          go_roundw
          case rel => exact ⟨k + 1, by omega, by go_num, by rw [TK.out]; exact R5.out⟩
          case measure => simp [intOf]; omega
        · obtain rfl : k = n := by omega
          go_wp2_with fail
          refine bodyPost_end (results_none rfl _ _ _) rfl ?_
          refine ⟨rfl, Pto.step BACK.out.1 BACK.out.2 ?_⟩
          have h5 := hR.out
          rw [List.take_of_length_le (by rw [NL.out]; exact Nat.le_refl _)] at h5
          exact h5
    | false =>
      rw [hd] at KEEP K0
      have hcl : clrI s i = ⟨upd s.n i Nd.zero, drS s.so i⟩ := by unfold clrI; rw [if_neg (by rw [hd]; decide)]
      obtain ⟨d0, d3, -⟩ := K0
      obtain ⟨te, hte⟩ : ∃ z, z = thE s.so i := ⟨_, rfl⟩
      have DR2 := hide (show Calls Try.prog 68 #[.pointer (some ⟨S, 0, none⟩), .int .i64 (i : Int)] w1 (fun e w2 => e = .returned (.int .i64 (te : Nat)) ∧ ∃ U3, PIn H S w2 U3 T (clrI s i) ∧ (Touch U w w2 ∧ ∀ k, U3 k → U k ∨ w.heap.size ≤ k) ∧ (Reads 2 enV w2 a n l ∧ ∀ q o, a = some ⟨q, o, none⟩ → ¬ U3 q) ∧ w2.cell? ⟨b, 3, none⟩ = some (.slice a n c)) from by
        refine DR.out.mono ?_
        intro e w2 hS
        obtain ⟨rfl, U3, E3, tag3, h3, t3, u3⟩ := OUT.out.1.stored hS
        have t4 := t3.mono (fun k e => OUT.out.1.ue k e)
        obtain ⟨bk, rr⟩ := FIN2.out U3 w2 t4 u3
        have kk := KEEP.out _ w2 (fun k e => e) t4
        exact ⟨by rw [hte], U3, by rw [hcl]; exact ⟨_, _, _, _, h3⟩, bk, ⟨kk.2.2, fun q o e => rr q o e (LQ.out q o e)⟩, kk.2.1⟩)
      clear hd hcl hte KEEP FIN2 LQ DR
      go_enter Try.func55, Try.ntmps55
      go_upto_region 3 with fail
      rw [← hw1]
      clear hw1 cS cl co c0 fT OUT
      go_upto_region 5 with (go_at_call 68; refine DR2.out.mono ?_; rintro e w2 ⟨rfl, U3, p2, bk, rd, d3'⟩; have P2 := hide p2; have BACK := hide bk; have RD := hide rd; clear p2 bk rd)
      clear d0 d3 c0' DR2
      go_upto_region 6 with fail
      try simp only [show ((i : Int) == 0) = false from by simpa using z1]
      go_loopw [50] (fun kv wr => ∃ k : Nat, k ≤ n ∧ kv = .int .i64 (k : Int) ∧ Hid (Pto w2 wr U3 H T S (foldG f (l.take k) (clrI s i)))) (fun kv _ => n - (intOf kv).toNat)
      case atStart => exact ⟨0, Nat.zero_le _, rfl, Pto.refl P2.out⟩
      case round =>
        obtain ⟨k, hk, rfl, hR⟩ := hrel
        by_cases hlt : k < n
        · have k0 : (0 : Int) ≤ (k : Int) := by omega
          have k1 : (k : Int) < (n : Int) := by omega
          obtain ⟨U4, p4, t4, u4⟩ := hR.out
          have hr4 := RD.out.1.touch t4 RD.out.2
          obtain ⟨x, q, off, hx, rfl, x0, x1⟩ := hr4.ent hlt
          obtain ⟨gg, gc⟩ := foldG_good (f := f) GC.out (fun hne => by have := CC.out.2 hne; have := HC.out; omega) k (by have := NL.out; omega)
          rw [List.drop_eq_getElem_cons (by have := NL.out; omega), show l[k]'(by have := NL.out; omega) = x from (List.getElem?_eq_some_iff.1 hx).2, List.cons_append] at gg
          have TK := hide (foldG_take (f := f) (s := clrI s i) hx)
          have B4 := hide (show ∀ o : Obj, Below wr.heap.size wr (wr.alloc o) from fun o => (Below.refl _ _).alloc (Nat.le_refl _) o)
          have cf := gc (fun e => by rw [e] at hx; cases hx)
          have UN := hide (UL.out (wr.alloc (.cells #[.string (bt x.nm), .int .i64 (x.id : Int)] 44)) U4 _ _ B x ((keepsPIn H S).below p4 (B4.out _)) gg cf)
          have P4 := hide (And.intro t4 u4)
          obtain ⟨nm, hnm⟩ : ∃ y, y = x.nm := ⟨_, rfl⟩
          rw [← hnm] at x0 UN
          generalize goneI f (decL (foldG f (l.take k) (clrI s i)) x.id) x.id = s5 at *
          generalize x.id = xi at *
          clear hr4 hx gg gc cf hnm t4 u4 p4 hR
          go_wp2_with (go_at_call 54; refine UN.out.mono ?_; rintro e w5 ⟨rfl, r5⟩; have R5 := hide (Pto.step P4.out.1 P4.out.2 (Pto.after (B4.out _) r5)); clear r5)
          go_roundw
          case rel => exact ⟨k + 1, by omega, by go_num, by rw [TK.out]; exact R5.out⟩
          case measure => simp [intOf]; omega
        · obtain rfl : k = n := by omega
          go_wp2_with fail
          refine bodyPost_end (results_none rfl _ _ _) rfl ?_
          refine ⟨rfl, Pto.step BACK.out.1 BACK.out.2 ?_⟩
          have h5 := hR.out
          rw [List.take_of_length_le (by rw [NL.out]; exact Nat.le_refl _)] at h5
          exact h5
theorem settle_any : ∀ f, SettleOk f H T S
  | 0 => fun w U s pend B i h g hi his hc => absurd hc (by omega)
  | f + 1 => settle_step (settle_any f)
set_option maxHeartbeats 4000000 in
theorem pclose_any {B : Int} (h : PIn H S w U T s) (g : GoodP s [] B) (hB : B ≤ 1000000) (id : Int) : Calls Try.prog 21 #[.pointer (some ⟨T, 0, none⟩), .int .i64 id] w (SideO (fun w' U' => PIn H S w' U' T (clI s id)) U w (.int .i64 (clIE s id : Nat))) := by
  obtain ⟨E, N, V, tag, h⟩ := h
  have FIN := hide (fun v : Value => Pto.side (v := v) (Pto.refl (show PIn H S w U T s from ⟨_, _, _, _, h⟩)))
  cases hI : isI s id with
  | false =>
    have F := hide (find21_no h hI)
    rw [show clIE s id = 4 from by unfold clIE; rw [if_neg (by rw [hI]; simp)], show clI s id = s from by unfold clI clIE; rw [if_neg (by rw [if_neg (by rw [hI]; simp)]; decide)]]
    clear h g hI
    go_enter Try.func21, Try.ntmps21
    go_wp2_with (go_at_call 41; refine F.out.mono ?_; rintro e w' ⟨rfl, rfl⟩)
    go_ret
    exact FIN.out _
  | true =>
    obtain ⟨i, rfl, hi, his⟩ := isI_yes hI
    obtain ⟨b, hb⟩ := h.there his
    have F := hide (find21_yes h hi hb)
    have co := h.cOpens hb
    by_cases h0 : (s.n i).opens = 0
    · rw [show clIE s (i : Int) = 4 from by unfold clIE; rw [Int.toNat_natCast, if_neg (by rw [h0]; simp)], show clI s (i : Int) = s from by unfold clI clIE; rw [if_neg (by rw [Int.toNat_natCast, if_neg (by rw [h0]; simp)]; decide)]]
      rw [h0] at co
      clear h g hI his hb h0
      go_enter Try.func21, Try.ntmps21
      go_wp2_with (go_at_call 41; refine F.out.mono ?_; rintro e w' ⟨rfl, rfl⟩)
      go_ret
      exact FIN.out _
    · have hE : clIE s (i : Int) = 0 := by unfold clIE; rw [Int.toNat_natCast, if_pos ⟨hI, h0⟩]
      rw [hE, show clI s (i : Int) = goneI 17 (s.put i { s.n i with opens := (s.n i).opens - 1 }) i from by unfold clI; rw [hE, Int.toNat_natCast]; rfl]
      have fz := (h.nd _ b hb).frz 2
      have hn := g.opn i
      have hg : GoodP (s.put i { s.n i with opens := (s.n i).opens - 1 }) [] B := by
        refine g.node (i := i) (x := { s.n i with opens := (s.n i).opens - 1 }) rfl hi (Int.le_refl _) (fun e => by subst e; exact g.root.2) his (g.file i) (g.ent i) (g.srt i) (g.few i) (fun e he => by cases he) (fun j => ?_) ⟨by show 0 ≤ (s.n i).opens - 1; omega, by show (s.n i).opens - 1 ≤ B; omega⟩ (g.lb i) (fun k => ?_) g.so
        · by_cases e2 : j = i
          · subst e2; rw [upd_same]
          · rw [upd_other _ _ e2]
        · show (getFi s.so.l k).isSome = true ↔ _
          rw [g.fil k]
          by_cases e2 : k = i
          · subst e2; rw [upd_same]
          · rw [upd_other _ _ e2]
      have IS := hide (show ((s.put i { s.n i with opens := (s.n i).opens - 1 }).n i).is = true from by show (upd s.n i _ i).is = true; rw [upd_same]; exact his)
      have OP := hide (h.opened hb ((s.n i).opens - 1) 0)
      obtain ⟨o, hoo⟩ : ∃ o, o = (s.n i).opens := ⟨_, rfl⟩
      rw [← hoo] at co h0 hn hg IS OP ⊢
      have o1 : 1 ≤ o := by omega
      have o2 : o ≤ 1000000 := by omega
      have ST := hide (settle_any 17 (w.setCell ⟨b, 2, none⟩ (.int .i64 (o - 1))) U _ [] B i ⟨E, N, V, tag, OP.out.1⟩ hg hi IS.out (show cntI (s.put i { s.n i with opens := o - 1 }) < 17 from by have := cntI_le (s.put i { s.n i with opens := o - 1 }); omega))
      have TC := hide (show Touch U w (w.setCell ⟨b, 2, none⟩ (.int .i64 (o - 1))) from OP.out.2.mono (fun k e => e ▸ h.un _ b hb))
      clear h g hE his hoo hg hn FIN IS OP hI hb
      go_enter Try.func21, Try.ntmps21
      go_wp2_with (first | (go_at_call 41; refine F.out.mono ?_; rintro e w' ⟨rfl, rfl⟩) | (go_at_call 55; refine ST.out.mono ?_; rintro e w2 ⟨rfl, r2⟩; have R2 := hide (Pto.step TC.out (fun k e => .inl e) r2); clear r2))
      go_ret
      exact Pto.side R2.out
end
end Go.Proofs.Ytpghnhcjgjgglaa
