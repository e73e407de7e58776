/-
  Several texts as one: IdRefD IdRefB EnGo GEntries.
-/
import Derived.Test.YtpghnhcjgjgglaaPa13
import Derived.Test.YtpghnhcjgjgglaaPa11
import Derived.Laws.ResultCell
import Derived.Deep.QuietTactic
import Derived.BigQuiet
import Derived.Deep.AppendLies
import Derived.Deep.DeepCutAuto
import Derived.Deep.CutBlock
import Derived.Deep.RegionHeld3
import Derived.Test.YtpghnhcjgjgglaaPa07
namespace Go.Proofs.Ytpghnhcjgjgglaa
open Go.ChangeShapes Go.WideShapes Go.ChangeAt Go.RowKit
set_option linter.unusedVariables false
set_option linter.unusedSimpArgs false
section
variable {w : World} {D : Nat → Prop} {T R S : Nat} {s : In} {E : Nat → Prop} {V : Nat → Value}
/-- A node is made: five cells. -/
theorem RtAt.made (h : RtAt w D T R S s E V) (i : Nat) (d : Bool) : RtAt (((((w.setCell ⟨T, 1 + i * 5, none⟩ (.bool true)).setCell ⟨T, 1 + i * 5 + 1, none⟩ (.bool d)).setCell ⟨T, 1 + i * 5 + 2, none⟩ (.int .i64 0)).setCell ⟨T, 1 + i * 5 + 3, none⟩ (.int .i64 1)).setCell ⟨T, 1 + i * 5 + 4, none⟩ (.slice none 0 0)) D T R S ⟨upd s.n i ⟨true, d, 0, 1, []⟩, s.so⟩ E (upd V i (.slice none 0 0)) ∧
    Touch (fun k => k = T) w (((((w.setCell ⟨T, 1 + i * 5, none⟩ (.bool true)).setCell ⟨T, 1 + i * 5 + 1, none⟩ (.bool d)).setCell ⟨T, 1 + i * 5 + 2, none⟩ (.int .i64 0)).setCell ⟨T, 1 + i * 5 + 3, none⟩ (.int .i64 1)).setCell ⟨T, 1 + i * 5 + 4, none⟩ (.slice none 0 0)) := by
  have r := ((((h.row.set (1 + i * 5) (.bool true)).set (1 + i * 5 + 1) (.bool d)).set (1 + i * 5 + 2) (.int .i64 0)).set (1 + i * 5 + 3) (.int .i64 1)).set (1 + i * 5 + 4) (.slice none 0 0)
  rw [show upd (upd (upd (upd (upd (tabF S s.n V) (1 + i * 5) (.bool true)) (1 + i * 5 + 1) (.bool d)) (1 + i * 5 + 2) (.int .i64 0)) (1 + i * 5 + 3) (.int .i64 1)) (1 + i * 5 + 4) (.slice none 0 0) = tabF S (upd s.n i ⟨true, d, 0, 1, []⟩) (upd V i (.slice none 0 0)) from tab_all ⟨true, d, 0, 1, []⟩ _] at r
  have u : Touch (fun k => k = T) w (((((w.setCell ⟨T, 1 + i * 5, none⟩ (.bool true)).setCell ⟨T, 1 + i * 5 + 1, none⟩ (.bool d)).setCell ⟨T, 1 + i * 5 + 2, none⟩ (.int .i64 0)).setCell ⟨T, 1 + i * 5 + 3, none⟩ (.int .i64 1)).setCell ⟨T, 1 + i * 5 + 4, none⟩ (.slice none 0 0)) :=
    (((((Touch.refl (fun k => k = T) w).setCell (p := ⟨T, 1 + i * 5, none⟩) rfl _).setCell (p := ⟨T, 1 + i * 5 + 1, none⟩) rfl _).setCell (p := ⟨T, 1 + i * 5 + 2, none⟩) rfl _).setCell (p := ⟨T, 1 + i * 5 + 3, none⟩) rfl _).setCell (p := ⟨T, 1 + i * 5 + 4, none⟩) rfl _
  refine ⟨h.cells u r (fun k => ?_), u⟩
  by_cases e : k = i
  · rw [e, upd_same, upd_same]; exact .inr ⟨rfl, rfl⟩
  · rw [upd_other _ _ e, upd_other _ _ e]; exact .inl ⟨rfl, rfl⟩
theorem wf_16 {i : Nat} (h : i < 16) : (Lit.int .i64 (i : Int)).wf = true := wf_nat (by omega)
set_option maxRecDepth 10000 in
set_option maxHeartbeats 4000000 in
theorem tmake_any (h : RtAt w D T R S s E V) (hl : s.so.l.length ≤ 16) (d : Bool) : Calls Try.prog 28 #[.pointer (some ⟨T, 0, none⟩), .bool d] w fun e w' => e = .returned (.tuple #[.int .i64 (mkII s : Nat), .int .i64 (mkIE s : Nat)]) ∧ Rto w w' D E T R S (mkI s d) := by
  have HH := hide h
  have HL := hide hl
  have FIN := hide (Rto.refl h)
  have ANS := hide (show (∀ k, freeI s = some k → mkII s = k ∧ mkIE s = 0 ∧ mkI s d = mkAt s d k) ∧ (freeI s = none → mkII s = 0 ∧ mkIE s = 15 ∧ mkI s d = s) from by
    unfold mkII mkIE mkI
    exact ⟨fun k e => by rw [e]; exact ⟨rfl, rfl, rfl⟩, fun e => by rw [e]; exact ⟨rfl, rfl, rfl⟩⟩)
  clear h hl
  go_enter Try.func28, Try.ntmps28
  go_wp2_with fail
  go_loopw [6] (fun kv wr => ∃ k : Nat, 1 ≤ k ∧ k ≤ 16 ∧ kv = .int .i64 (k : Int) ∧ Hid (freeI s = freeA s (16 - k) k) ∧ w = wr) (fun kv _ => 16 - (intOf kv).toNat)
  case atStart => exact ⟨1, Nat.le_refl _, by omega, rfl, rfl, rfl⟩
  case round =>
    obtain ⟨k, hk1, hk, rfl, hF, rfl⟩ := hrel
    have k0 : (0 : Int) ≤ (k : Int) := by omega
    by_cases hlt : k < 16
    · have k1 : (k : Int) < 16 := by omega
      have c0 := HH.out.cIs hlt
      have hs : freeA s (16 - k) k = if (s.n k).is then freeA s (16 - (k + 1)) (k + 1) else some k := by
        rw [show 16 - k = (16 - (k + 1)) + 1 from by omega]; rfl
      cases hb : (s.n k).is with
      | true =>
        rw [hb] at hs c0
        have HS := hide (hF.out.trans hs)
        clear hs hb hF
        go_wp2_with fail
        go_roundw
        case rel => exact ⟨k + 1, by omega, by omega, by go_num, HS.out, by trivial⟩
        case measure => simp [intOf]; omega
      | false =>
        rw [hb] at hs c0
        obtain ⟨a1, a2, a3⟩ := ANS.out.1 k (hF.out.trans hs)
        have A1 := hide a1
        have A2 := hide a2
        have A3 := hide a3
        have c1 := HH.out.cDir hlt
        have c2 := HH.out.cLinks hlt
        have c3 := HH.out.cOpens hlt
        have c4 := HH.out.cList hlt
        obtain ⟨a, c, hv, -⟩ := HH.out.list k
        rw [hv] at c4
        have y0 := HH.out.row.frz (1 + k * 5)
        have y1 := HH.out.row.frz (1 + k * 5 + 1)
        have y2 := HH.out.row.frz (1 + k * 5 + 2)
        have y3 := HH.out.row.frz (1 + k * 5 + 3)
        have y4 := HH.out.row.frz (1 + k * 5 + 4)
        have MD := hide (HH.out.made k d)
        have K16 := hide (wf_16 hlt)
        clear hs hb hF a1 a2 a3 hv
        go_upto_region 6 with fail
        generalize hw2 : ((((w.setCell ⟨T, 1 + k * 5, none⟩ (.bool true)).setCell ⟨T, 1 + k * 5 + 1, none⟩ (.bool d)).setCell ⟨T, 1 + k * 5 + 2, none⟩ (.int .i64 0)).setCell ⟨T, 1 + k * 5 + 3, none⟩ (.int .i64 1)).setCell ⟨T, 1 + k * 5 + 4, none⟩ (.slice none 0 0) = w2 at *
        obtain ⟨h2, t2⟩ := MD.out
        have x0 := h2.c0
        have MK := hide (rmk_any h2.so (id := (k : Int)) K16.out (by have := HL.out; show s.so.l.length < 100000; omega))
        have ST := hide (fun (so' : So) (v : Value) (e : Ending) (w' : World) (p : SideO (fun w' D' => Dso R w' D' S so') E w2 v e w') => h2.stored p)
        have H2 := hide (And.intro h2 t2)
        clear c0 c1 c2 c3 c4 y0 y1 y2 y3 y4 MD hw2 h2 t2
        cases d with
        | true =>
          go_wp2_with fail
          go_ret2
          rw [A1.out, A2.out, A3.out]
          exact ⟨rfl, D, E, _, H2.out.1, H2.out.2.mono (fun i e => .inl e), fun i e => .inl e, fun i e => .inl e⟩
        | false =>
          go_wp2_with (go_at_call 56; refine MK.out.mono ?_; intro e w3 p3; obtain ⟨rfl, r3⟩ := ST.out _ _ _ _ p3; have R3 := hide r3; clear p3 r3)
          go_ret2
          rw [A1.out, A2.out, A3.out]
          exact ⟨rfl, Rto.step (H2.out.2.mono (fun i e => .inl e)) (fun i e => .inl e) (fun i e => .inl e) R3.out⟩
    · obtain rfl : k = 16 := by omega
      obtain ⟨a1, a2, a3⟩ := ANS.out.2 hF.out
      have A1 := hide a1
      have A2 := hide a2
      have A3 := hide a3
      clear a1 a2 a3 hF
      go_wp2_with fail
      go_ret2
      rw [A1.out, A2.out, A3.out]
      exact ⟨rfl, FIN.out⟩
theorem reads_ent (w : World) (x : Ent) (n : Nat) (hn : n = w.heap.size) (t : TypeId) : Reads 2 enV (w.alloc (.cells #[.string (bt x.nm), .int .i64 (x.id : Int)] t)) (some ⟨n, 0, none⟩) 1 [x] := by
  subst hn
  refine ⟨rfl, fun _ => ⟨_, _, rfl, fun i p hx j u hu => ?_⟩⟩
  have hi : i = 0 := by have := (List.getElem?_eq_some_iff.1 hx).1; simp at this; exact this
  subst hi
  injection hx with hx; subst hx
  rw [cell_of_row _ _ _ _ _ _ (heap_alloc_new _ _)]
  match j, hu with
  | 0, hu => injection hu with hu; subst hu; rfl
  | 1, hu => injection hu with hu; subst hu; rfl
theorem delL_take {l : List Ent} {t : Txt} {k : Nat} {x : Ent} (h : l[k]? = some x) : delL (l.take (k + 1)) t = delL (l.take k) t ++ if x.nm ≠ t then [x] else [] := by
  unfold delL
  rw [List.take_add_one, h, List.filter_append]
  by_cases e : x.nm = t <;> simp [e]
theorem delL_le (l : List Ent) (t : Txt) : (delL l t).length ≤ l.length := List.length_filter_le ..
/-- A node has another row: one cell. -/
theorem RtAt.listed (h : RtAt w D T R S s E V) {w1 : World} (b : Below w.heap.size w w1) (i : Nat) {l : List Ent} {v : Value} (ho : w1.ownsRow w.heap.size 44 2 v l.length (l.flatMap enV)) : Rto w (w1.setCell ⟨T, 1 + i * 5 + 4, none⟩ v) D E T R S (setL s i l) := by
  have h1 := h.below b
  have r := h1.row.set (1 + i * 5 + 4) v
  rw [tab_list l v] at r
  have u1 := (Touch.refl (fun k => k = T) w1).setCell (p := ⟨T, 1 + i * 5 + 4, none⟩) rfl v
  have hT : T < w.heap.size := h.lt T h.dt.1
  refine h.relist ((Touch.of_below b).trans u1 (fun k e => .inl e)) r (own_base (u1.own ho (fun g hg e => ?_)) (Nat.zero_le _)) (fun g hg => (ho.lt g hg).1)
  have := (ho.lt g hg).1
  have e : g = T := e
  omega
set_option maxRecDepth 10000 in
set_option maxHeartbeats 8000000 in
theorem tremove_any (h : RtAt w D T R S s E V) {B : Int} (g : GoodP s [] B) (hB : B ≤ 1000000) (d : Int) (t : Txt) : Calls Try.prog 33 #[.pointer (some ⟨T, 0, none⟩), .int .i64 d, .string (bt t)] w fun e w' => e = .returned (.int .i64 (rmIE s d t : Nat)) ∧ Rto w w' D E T R S (rmI s d t) := by
  have FD := hide (tfind_any h g.few d t)
  have FIN := hide (Rto.refl h)
  by_cases e0 : fiIE s d t = 0
  · obtain ⟨i, j, rfl, i16, iis, idir, hf, hj⟩ : ∃ i j : Nat, d = (i : Int) ∧ i < 16 ∧ (s.n i).is = true ∧ (s.n i).dir = true ∧ findL (s.n i).l t = some j ∧ fiII s d t = j := by
      unfold fiIE at e0
      split at e0
      · rename_i e3
        obtain ⟨i, rfl, h1, h2, h3⟩ := dirI_yes e3
        rw [Int.toNat_natCast] at e0
        split at e0
        · rename_i e4
          obtain ⟨j, hj⟩ := Option.isSome_iff_exists.1 e4
          exact ⟨i, j, rfl, h1, h2, h3, hj, by unfold fiII; rw [if_pos e3, Int.toNat_natCast, hj]; rfl⟩
        · cases e0
      · cases e0
    rw [e0, hj] at FD
    obtain ⟨p, en, q, hl, hen, hid, hp⟩ := findL_some hf
    have hmem : en ∈ (s.n i).l := by rw [hl]; simp
    have j16 : j < 16 := by rw [← hid]; exact (g.ent i en hmem).1
    obtain ⟨aj, cj, hvj, -, -, -, -⟩ := h.list j
    have cdj := h.cDir j16
    have clj := h.cList j16
    rw [hvj] at clj
    have i0 : (0 : Int) ≤ (i : Int) := by omega
    have i1 : (i : Int) < 16 := by omega
    have j0 : (0 : Int) ≤ (j : Int) := by omega
    have j1 : (j : Int) < 16 := by omega
    have rE : rmIE s (i : Int) t = if (s.n j).dir = true ∧ (s.n j).l ≠ [] then 13 else 0 := by unfold rmIE; rw [if_neg (by simp [e0]), hj]
    obtain ⟨nj, hnj⟩ : ∃ z, z = (s.n j).l.length := ⟨_, rfl⟩
    have nj8 : (nj : Int) ≤ 8 := by have := g.few j; omega
    rw [← hnj] at clj
    by_cases hb : (s.n j).dir = true ∧ (s.n j).l ≠ []
    · rw [if_pos hb] at rE
      rw [rE, show rmI s (i : Int) t = s from by unfold rmI; rw [if_neg (by rw [rE]; decide)]]
      have p1 : 0 < nj := by rw [hnj]; exact List.length_pos_iff.2 hb.2
      have p2 : (0 : Int) < (nj : Int) := by omega
      rw [hb.1] at cdj
      clear hb rE g hl hf hmem hvj hnj hen hid hp iis idir e0 hj h
      go_enter Try.func33, Try.ntmps33
      go_wp2_with (go_at_call 34; refine FD.out.mono ?_; rintro e w' ⟨rfl, rfl⟩)
      go_ret
      exact ⟨rfl, FIN.out⟩
    · rw [if_neg hb] at rE
      rw [rE, show rmI s (i : Int) t = goneI 17 (decL (setL s i (delL (s.n i).l t)) j) j from by unfold rmI; rw [if_pos rE, hj, Int.toNat_natCast]]
      obtain ⟨e', he', g1⟩ := g.del i16 iis idir hf
      have he2 := he'
      have g2 := hide (he' ▸ g1.dec : GoodP (decL (setL s i (delL (s.n i).l t)) j) [] B)
      have CN := hide (show cntI (decL (setL s i (delL (s.n i).l t)) j) < 17 from by have := cntI_le (decL (setL s i (delL (s.n i).l t)) j); omega)
      have LB := hide (show 0 ≤ ((setL s i (delL (s.n i).l t)).n j).links ∧ ((setL s i (delL (s.n i).l t)).n j).links ≤ 1000 from ⟨by rw [g1.lnk]; omega, g1.lb _⟩)
      obtain ⟨a, c, hv, hr, -, -, -⟩ := h.list i
      have cl := h.cList i16
      rw [hv] at cl
      have HR := hide hr
      have n8 : ((s.n i).l.length : Int) ≤ 8 := by have := g.few i; omega
      obtain ⟨l, hll⟩ : ∃ l, l = (s.n i).l := ⟨_, rfl⟩
      rw [← hll] at HR g2 CN LB n8 cl ⊢
      obtain ⟨n, hn⟩ : ∃ n, n = l.length := ⟨_, rfl⟩
      rw [← hn] at cl HR n8
      have NL := hide hn
      have HH := hide h
      have J16 := hide j16
      obtain ⟨i0', hi0, hz0, hz1, hz2⟩ := info_parts entry_info
      have INFO := hide (And.intro hi0 (And.intro hz0 (And.intro hz1 hz2)))
      have CB := hide (fun (W : World) (b : Below w.heap.size w W) => show W.cell? ⟨T, 1 + i * 5 + 4, none⟩ = some (.slice a n c) ∧ W.frozen? ⟨T, 1 + i * 5 + 4, none⟩ = false from ⟨(b.cell (lt_of_cell? cl)).trans cl, ((h.below b).row.frz _)⟩)
      have COND := hide (show (s.n j).dir = false ∨ nj = 0 from by
        cases hd : (s.n j).dir with
        | false => exact .inl rfl
        | true => exact .inr (by rw [hnj]; exact List.length_eq_zero_iff.2 (Classical.not_not.1 (fun h => hb ⟨hd, h⟩))))
      obtain ⟨bd, hbd⟩ : ∃ z, z = (s.n j).dir := ⟨_, rfl⟩
      rw [← hbd] at COND cdj
      clear hb rE g hl hf hmem hvj hnj hen hid hp iis idir e0 hj h hv hr hll hn hi0 hz0 hz1 hz2 g1 hbd FIN j16 he' he2
      have gt0 : bd = true → nj = 0 := fun hb => by have := COND.out; rcases this with h | h; (rw [hb] at h; cases h); exact h
      cases hbd : bd with
      | true =>
        obtain rfl := gt0 hbd
        rw [hbd] at cdj
        clear gt0 COND hbd
        go_enter Try.func33, Try.ntmps33
        go_upto_region 4 with (go_at_call 34; refine FD.out.mono ?_; rintro e w' ⟨rfl, rfl⟩)
        go_wp2_with fail
        go_loopw [9, 10] (fun lv kv wr => ∃ k : Nat, k ≤ n ∧ kv = .int .i64 (k : Int) ∧ Hid (Below w.heap.size w wr) ∧ Hid (wr.ownsRow w.heap.size 44 2 lv (delL (l.take k) t).length ((delL (l.take k) t).flatMap enV))) (fun _ kv _ => n - (intOf kv).toNat)
        case atStart => exact ⟨0, Nat.zero_le _, rfl, Below.refl _ _, World.ownsRow_nil _ _ _ _⟩
        case round =>
          obtain ⟨k, hk, rfl, hBl, hO⟩ := hrel
          rename World => wr
          obtain ⟨cw, fw⟩ := CB.out wr hBl.out
          by_cases hlt : k < n
          · have k0 : (0 : Int) ≤ (k : Int) := by omega
            have k1 : (k : Int) < (n : Int) := by omega
            obtain ⟨x, b, off, hx, rfl, x0, x1⟩ := (HR.out.below hBl.out).ent hlt
            have TK := hide (delL_take (t := t) hx)
            have ev := bt_eq x.nm t
            by_cases hnm : x.nm = t
            · rw [decide_eq_true hnm] at ev
              have TK2 := hide (show delL (l.take (k + 1)) t = delL (l.take k) t from by rw [TK.out, if_neg (by simpa using hnm), List.append_nil])
              obtain ⟨y, hy⟩ : ∃ y, y = x.nm := ⟨_, rfl⟩
              rw [← hy] at x0 ev
              clear hnm hy x1 hx TK
              go_wp2_with fail
              go_roundw
              case rel => exact ⟨k + 1, by omega, by go_num, hBl, by rw [TK2.out]; exact hO⟩
              case measure => simp [intOf]; omega
            · rw [decide_eq_false hnm] at ev
              have TK2 := hide (show delL (l.take (k + 1)) t = delL (l.take k) t ++ [x] from by rw [TK.out, if_pos hnm])
              have RD := hide (reads_ent wr x wr.heap.size rfl 44)
              have OW := hide (hO.out.alloc (.cells #[.string (bt x.nm), .int .i64 (x.id : Int)] 44))
              have B1 := hide (hBl.out.alloc (by have := hBl.out.size; omega) (.cells #[.string (bt x.nm), .int .i64 (x.id : Int)] 44))
              have LE := hide (show (delL (l.take k) t).length ≤ 8 from by have := delL_le (l.take k) t; rw [List.length_take] at this; omega)
              obtain ⟨M, hM⟩ : ∃ M, M = delL (l.take k) t := ⟨_, rfl⟩
              rw [← hM] at TK2 OW LE
              obtain ⟨y, hy⟩ : ∃ y, y = x.nm := ⟨_, rfl⟩
              obtain ⟨z, hz⟩ : ∃ z, z = x.id := ⟨_, rfl⟩
              rw [← hy] at x0 ev RD OW B1
              rw [← hz] at x1 RD OW B1
              clear hnm hy hz hx TK hM
              go_wp2_with (at_builtin; refine wpList_append_reads rfl (.tmp 64) (.tmp 75) 39 rfl w.heap.size 44 i0' _ 24 (Try.underlying39) INFO.out.1 INFO.out.2.1 INFO.out.2.2.1 INFO.out.2.2.2 rfl (by omega) _ M.length _ rfl OW.out (some ⟨wr.heap.size, 0, none⟩) 1 1 [x] rfl enV_len enV_cell RD.out (fun e => by cases e) (by have := LE.out; unfold maxLen; omega) (by have := LE.out; omega) B1.out.size ?_; intro v3 w3 o3 g3; have O3 := hide o3; have B3 := hide (B1.out.grown g3 B1.out.size (own_lo OW.out)); clear o3 g3)
              go_roundw
              case rel => exact ⟨k + 1, by omega, by go_num, B3.out, by rw [TK2.out, List.length_append, List.flatMap_append]; exact O3.out⟩
              case measure => simp [intOf]; omega
          · obtain rfl : k = n := by omega
            have OL := hide (show wr.ownsRow w.heap.size 44 2 _ (delL l t).length ((delL l t).flatMap enV) from by have h := hO.out; rw [List.take_of_length_le (by rw [NL.out]; exact Nat.le_refl _)] at h; exact h)
            obtain ⟨av, cv, rfl, -⟩ := own_sliceR OL.out
            have LS := hide (HH.out.listed hBl.out i OL.out)
            clear hO hlt
            go_upto_region 13 with fail
            generalize hw3 : wr.setCell ⟨T, 1 + i * 5 + 4, none⟩ (.slice av (delL l t).length cv) = w3 at *
            obtain ⟨D3, E3, V3, h3, t3, e3, d3⟩ := LS.out
            have cx := h3.cLinks J16.out
            have fx := h3.row.frz (1 + j * 5 + 2)
            obtain ⟨lk, hlk⟩ : ∃ z, z = ((setL s i (delL l t)).n j).links := ⟨_, rfl⟩
            have LK := hide (h3.linked j (lk - 1) 1)
            have DE := hide (show (setL s i (delL l t)).put j { (setL s i (delL l t)).n j with links := lk - 1 } = decL (setL s i (delL l t)) j from by rw [hlk]; rfl)
            rw [← hlk] at cx LB
            have ll := LB.out.1
            have lb := LB.out.2
            have P3 := hide (And.intro t3 (And.intro e3 d3))
            clear hw3 h3 t3 e3 d3 hlk cw fw LS OL
            go_region
            generalize hw4 : (w3.setCell ⟨T, 1 + j * 5 + 2, none⟩ (.int .i64 (lk - 1))).drew = w4 at *
            obtain ⟨D4, E4, V4, h4, t4, e4, d4⟩ : Rto w w4 D E T R S (decL (setL s i (delL l t)) j) := by
              rw [← hw4, ← DE.out]
              exact Rto.step P3.out.1 P3.out.2.1 P3.out.2.2 LK.out
            have GN := hide (tgone_any 17 w4 D4 _ E4 V4 _ B j h4 g2.out J16.out CN.out)
            have P4 := hide (And.intro t4 (And.intro e4 d4))
            clear hw4 h4 t4 e4 d4 cx fx LK
            go_wp2_with (go_at_call 57; refine GN.out.mono ?_; rintro e w5 ⟨rfl, r5⟩; have R5 := hide (Rto.step P4.out.1 P4.out.2.1 P4.out.2.2 r5); clear r5)
            go_ret
            exact ⟨rfl, R5.out⟩
      | false =>
        rw [hbd] at cdj
        clear gt0 COND hbd
        go_enter Try.func33, Try.ntmps33
        go_upto_region 4 with (go_at_call 34; refine FD.out.mono ?_; rintro e w' ⟨rfl, rfl⟩)
        go_wp2_with fail
        go_loopw [9, 10] (fun lv kv wr => ∃ k : Nat, k ≤ n ∧ kv = .int .i64 (k : Int) ∧ Hid (Below w.heap.size w wr) ∧ Hid (wr.ownsRow w.heap.size 44 2 lv (delL (l.take k) t).length ((delL (l.take k) t).flatMap enV))) (fun _ kv _ => n - (intOf kv).toNat)
        case atStart => exact ⟨0, Nat.zero_le _, rfl, Below.refl _ _, World.ownsRow_nil _ _ _ _⟩
        case round =>
          obtain ⟨k, hk, rfl, hBl, hO⟩ := hrel
          rename World => wr
          obtain ⟨cw, fw⟩ := CB.out wr hBl.out
          by_cases hlt : k < n
          · have k0 : (0 : Int) ≤ (k : Int) := by omega
            have k1 : (k : Int) < (n : Int) := by omega
            obtain ⟨x, b, off, hx, rfl, x0, x1⟩ := (HR.out.below hBl.out).ent hlt
            have TK := hide (delL_take (t := t) hx)
            have ev := bt_eq x.nm t
            by_cases hnm : x.nm = t
            · rw [decide_eq_true hnm] at ev
              have TK2 := hide (show delL (l.take (k + 1)) t = delL (l.take k) t from by rw [TK.out, if_neg (by simpa using hnm), List.append_nil])
              obtain ⟨y, hy⟩ : ∃ y, y = x.nm := ⟨_, rfl⟩
              rw [← hy] at x0 ev
              clear hnm hy x1 hx TK
              go_wp2_with fail
              go_roundw
              case rel => exact ⟨k + 1, by omega, by go_num, hBl, by rw [TK2.out]; exact hO⟩
              case measure => simp [intOf]; omega
            · rw [decide_eq_false hnm] at ev
              have TK2 := hide (show delL (l.take (k + 1)) t = delL (l.take k) t ++ [x] from by rw [TK.out, if_pos hnm])
              have RD := hide (reads_ent wr x wr.heap.size rfl 44)
              have OW := hide (hO.out.alloc (.cells #[.string (bt x.nm), .int .i64 (x.id : Int)] 44))
              have B1 := hide (hBl.out.alloc (by have := hBl.out.size; omega) (.cells #[.string (bt x.nm), .int .i64 (x.id : Int)] 44))
              have LE := hide (show (delL (l.take k) t).length ≤ 8 from by have := delL_le (l.take k) t; rw [List.length_take] at this; omega)
              obtain ⟨M, hM⟩ : ∃ M, M = delL (l.take k) t := ⟨_, rfl⟩
              rw [← hM] at TK2 OW LE
              obtain ⟨y, hy⟩ : ∃ y, y = x.nm := ⟨_, rfl⟩
              obtain ⟨z, hz⟩ : ∃ z, z = x.id := ⟨_, rfl⟩
              rw [← hy] at x0 ev RD OW B1
              rw [← hz] at x1 RD OW B1
              clear hnm hy hz hx TK hM
              go_wp2_with (at_builtin; refine wpList_append_reads rfl (.tmp 64) (.tmp 75) 39 rfl w.heap.size 44 i0' _ 24 (Try.underlying39) INFO.out.1 INFO.out.2.1 INFO.out.2.2.1 INFO.out.2.2.2 rfl (by omega) _ M.length _ rfl OW.out (some ⟨wr.heap.size, 0, none⟩) 1 1 [x] rfl enV_len enV_cell RD.out (fun e => by cases e) (by have := LE.out; unfold maxLen; omega) (by have := LE.out; omega) B1.out.size ?_; intro v3 w3 o3 g3; have O3 := hide o3; have B3 := hide (B1.out.grown g3 B1.out.size (own_lo OW.out)); clear o3 g3)
              go_roundw
              case rel => exact ⟨k + 1, by omega, by go_num, B3.out, by rw [TK2.out, List.length_append, List.flatMap_append]; exact O3.out⟩
              case measure => simp [intOf]; omega
          · obtain rfl : k = n := by omega
            have OL := hide (show wr.ownsRow w.heap.size 44 2 _ (delL l t).length ((delL l t).flatMap enV) from by have h := hO.out; rw [List.take_of_length_le (by rw [NL.out]; exact Nat.le_refl _)] at h; exact h)
            obtain ⟨av, cv, rfl, -⟩ := own_sliceR OL.out
            have LS := hide (HH.out.listed hBl.out i OL.out)
            clear hO hlt
            go_upto_region 13 with fail
            generalize hw3 : wr.setCell ⟨T, 1 + i * 5 + 4, none⟩ (.slice av (delL l t).length cv) = w3 at *
            obtain ⟨D3, E3, V3, h3, t3, e3, d3⟩ := LS.out
            have cx := h3.cLinks J16.out
            have fx := h3.row.frz (1 + j * 5 + 2)
            obtain ⟨lk, hlk⟩ : ∃ z, z = ((setL s i (delL l t)).n j).links := ⟨_, rfl⟩
            have LK := hide (h3.linked j (lk - 1) 1)
            have DE := hide (show (setL s i (delL l t)).put j { (setL s i (delL l t)).n j with links := lk - 1 } = decL (setL s i (delL l t)) j from by rw [hlk]; rfl)
            rw [← hlk] at cx LB
            have ll := LB.out.1
            have lb := LB.out.2
            have P3 := hide (And.intro t3 (And.intro e3 d3))
            clear hw3 h3 t3 e3 d3 hlk cw fw LS OL
            go_region
            generalize hw4 : (w3.setCell ⟨T, 1 + j * 5 + 2, none⟩ (.int .i64 (lk - 1))).drew = w4 at *
            obtain ⟨D4, E4, V4, h4, t4, e4, d4⟩ : Rto w w4 D E T R S (decL (setL s i (delL l t)) j) := by
              rw [← hw4, ← DE.out]
              exact Rto.step P3.out.1 P3.out.2.1 P3.out.2.2 LK.out
            have GN := hide (tgone_any 17 w4 D4 _ E4 V4 _ B j h4 g2.out J16.out CN.out)
            have P4 := hide (And.intro t4 (And.intro e4 d4))
            clear hw4 h4 t4 e4 d4 cx fx LK
            go_wp2_with (go_at_call 57; refine GN.out.mono ?_; rintro e w5 ⟨rfl, r5⟩; have R5 := hide (Rto.step P4.out.1 P4.out.2.1 P4.out.2.2 r5); clear r5)
            go_ret
            exact ⟨rfl, R5.out⟩
  · rw [show rmIE s d t = fiIE s d t from by unfold rmIE; rw [if_pos e0], show rmI s d t = s from by unfold rmI; rw [if_neg (by unfold rmIE; rw [if_pos e0]; exact e0)]]
    obtain ⟨f1, hf1⟩ : ∃ z, z = fiII s d t := ⟨_, rfl⟩
    obtain ⟨f2, hf2⟩ : ∃ z, z = fiIE s d t := ⟨_, rfl⟩
    rw [← hf1, ← hf2] at FD
    rw [← hf2] at e0 ⊢
    have e1 : ¬ (f2 : Int) = 0 := by omega
    clear h g e0 hf1 hf2
    go_enter Try.func33, Try.ntmps33
    go_wp2_with (go_at_call 34; refine FD.out.mono ?_; rintro e w' ⟨rfl, rfl⟩)
    go_ret
    exact ⟨rfl, FIN.out⟩
end
end Go.Proofs.Ytpghnhcjgjgglaa
namespace Go.Proofs.Ytpghnhcjgjgglaa
open Go.ChangeShapes Go.WideShapes Go.ChangeAt Go.RowKit
set_option linter.unusedVariables false
set_option linter.unusedSimpArgs false
section
variable {w : World} {D : Nat → Prop} {T R S : Nat} {s : In} {E : Nat → Prop} {V : Nat → Value}
set_option maxHeartbeats 4000000 in
theorem tget_any (h : RtAt w D T R S s E V) (hf : ∀ i, (s.n i).l.length ≤ 8) (id : Int) : Calls Try.prog 35 #[.pointer (some ⟨T, 0, none⟩), .int .i64 id] w fun e w' => e = .returned (gotI s id) ∧ Below w.heap.size w w' := by
  have IS := hide (fun (W : World) (b : Below w.heap.size w W) => tis_any (h.below b) id)
  have HH := hide (fun (W : World) (b : Below w.heap.size w W) => h.below b)
  have A1 := hide (show ∀ o : Obj, Below w.heap.size w (w.alloc o) from fun o => (Below.refl _ _).alloc (Nat.le_refl _) o)
  cases e : isI s id with
  | false =>
    rw [show gotI s id = .tuple #[.agg #[.int .i64 0, .int .i64 0, .bool false, .int .i64 0], .bool false] from by unfold gotI; rw [e]; rfl]
    rw [e] at IS
    clear h hf e
    go_enter Try.func35, Try.ntmps35
    go_wp2_with (go_at_call 36; refine (IS.out _ (A1.out _)).mono ?_; rintro e w' ⟨rfl, rfl⟩)
    refine bodyPost_ret (v := .tuple #[.agg #[.int .i64 0, .int .i64 0, .bool false, .int .i64 0], .bool false]) ?_ rfl ⟨rfl, ?_⟩
    · rw [results_cell_tmp rfl]
      go_simp
    · exact A1.out _
  | true =>
    obtain ⟨i, rfl, hi, -⟩ := isI_yes e
    rw [e] at IS
    obtain ⟨a, c, hv, hr, -, -, -⟩ := h.list i
    obtain ⟨n, hn⟩ : ∃ n, n = (s.n i).l.length := ⟨_, rfl⟩
    obtain ⟨y, hy⟩ : ∃ y, y = s.n i := ⟨_, rfl⟩
    have N8 := hide (hf i)
    rw [← hn] at hv N8
    have GOT := hide (show gotI s (i : Int) = .tuple #[.agg #[.int .i64 (i : Int), .int .i64 y.links, .bool y.dir, .int .i64 (if y.dir then (n : Int) else ((lenO (getFi s.so.l i) : Nat) : Int))], .bool true] from by
      unfold gotI gtSz
      rw [e, if_pos rfl, Int.toNat_natCast, ← hy]
      rw [hn, ← hy]
      cases y.dir <;> rfl)
    rw [← hy] at hn
    have cells := hide (fun (W : World) (b : Below w.heap.size w W) => show W.cell? ⟨T, 1 + i * 5, none⟩ = some (.bool y.is) ∧ W.cell? ⟨T, 1 + i * 5 + 1, none⟩ = some (.bool y.dir) ∧ W.cell? ⟨T, 1 + i * 5 + 2, none⟩ = some (.int .i64 y.links) ∧ W.cell? ⟨T, 1 + i * 5 + 3, none⟩ = some (.int .i64 y.opens) ∧ W.cell? ⟨T, 1 + i * 5 + 4, none⟩ = some (.slice a n c) ∧ W.cell? ⟨T, 0, none⟩ = some (.pointer (some ⟨S, 0, none⟩)) from
      hy ▸ hv ▸ ⟨(h.below b).cIs hi, (h.below b).cDir hi, (h.below b).cLinks hi, (h.below b).cOpens hi, (h.below b).cList hi, (h.below b).c0⟩)
    have i0 : (0 : Int) ≤ (i : Int) := by omega
    have i1 : (i : Int) < 16 := by omega
    clear h hf hv hr hn hy e
    go_enter Try.func35, Try.ntmps35
    go_upto_region 3 with (go_at_call 36; refine (IS.out _ (A1.out _)).mono ?_; rintro e w' ⟨rfl, rfl⟩)
    obtain ⟨d1, d2, d3, d4, d5, d0⟩ := cells.out _ (A1.out (.cells #[.int .i64 0, .int .i64 0, .bool false, .int .i64 0] 35))
    go_upto_region 4 with fail
    have bb := hide (show Below w.heap.size w ((w.alloc (.cells #[.int .i64 0, .int .i64 0, .bool false, .int .i64 0] 35)).alloc (.cells #[.bool y.is, .bool y.dir, .int .i64 y.links, .int .i64 y.opens, .slice a n c] 79)) from ((Below.refl _ _).alloc (Nat.le_refl _) _).alloc (by simp) _)
    have SZ := hide (rsz_any (HH.out _ bb.out).so (i : Int))
    have f0 := (cells.out _ bb.out).2.2.2.2.2
    have A2 := hide (show ∀ k v, Below w.heap.size w ((((w.alloc (.cells #[.int .i64 (i : Int), .int .i64 y.links, .bool y.dir, .int .i64 k] 35)).alloc (.cells #[.bool y.is, .bool y.dir, .int .i64 y.links, .int .i64 y.opens, .slice a n c] 79))).drewN v) from fun k v => below_drewN (((Below.refl _ _).alloc (Nat.le_refl _) _).alloc (by simp) _) v)
    obtain ⟨z, hz⟩ : ∃ z, z = lenO (getFi s.so.l i) := ⟨_, rfl⟩
    rw [← hz] at SZ GOT
    clear d1 d2 d3 d4 d5 d0 cells hz HH IS
    cases hd : y.dir with
    | true =>
      rw [hd] at GOT f0 A2
      go_wp2_with fail
      refine bodyPost_ret (v := .tuple #[.agg #[.int .i64 (i : Int), .int .i64 y.links, .bool true, .int .i64 (n : Int)], .bool true]) ?_ rfl ⟨by rw [GOT.out]; rfl, ?_⟩
      · rw [results_cell_tmp rfl]
        go_simp
      · exact A2.out _ 0
    | false =>
      rw [hd] at GOT f0 A2 SZ
      go_wp2_with (go_at_call 59; refine SZ.out.mono ?_; rintro e w' ⟨rfl, rfl⟩)
      refine bodyPost_ret (v := .tuple #[.agg #[.int .i64 (i : Int), .int .i64 y.links, .bool false, .int .i64 (z : Int)], .bool true]) ?_ rfl ⟨by rw [GOT.out]; rfl, ?_⟩
      · rw [results_cell_tmp rfl]
        go_simp
      · exact A2.out _ 0
end
end Go.Proofs.Ytpghnhcjgjgglaa
namespace Go.Proofs.Ytpghnhcjgjgglaa
open Go.ChangeShapes Go.WideShapes Go.ChangeAt Go.RowKit
set_option linter.unusedVariables false
set_option linter.unusedSimpArgs false
structure En where
  nm : ByteArray
  id : Int
def en2V (x : En) : List Value := [.string x.nm, .int .i64 x.id]
def eqEn (x y : En) : Bool := decide (x.nm = y.nm) && decide (x.id = y.id)
theorem en_text_inj (a b : ByteArray) : (a.toList == b.toList) = decide (a = b) := by
  have := bt_eq a.data.toList b.data.toList
  rw [bt_data, bt_data] at this
  rw [this]
  refine decide_eq_decide.2 ⟨fun h => ?_, fun h => by rw [h]⟩
  have h := congrArg bt h
  rwa [bt_data, bt_data] at h
theorem en_neq (w : World) (x y : En) : (binOp .neq 44 (.agg (en2V x).toArray) (.agg (en2V y).toArray)).run Try.prog w = .ok (.bool (!eqEn x y)) w := by
  rw [run_neq_struct, run_equalIn_agg w 9999 _ _ _ (by kernel_rfl) (by kernel_rfl)]
  simp only [Program.fieldsOf, Try.underlying44]
  simp [Op.eqFields, go_sem, Try.underlying3, Try.underlying9, en2V, en_text_inj]
  unfold eqEn
  by_cases e0 : x.nm = y.nm <;> by_cases e1 : x.id = y.id <;> simp [e0, e1]
theorem en_refl (x : En) : eqEn x x = true := by simp [eqEn]
def toEn (e : Ent) : En := ⟨bt e.nm, (e.id : Int)⟩
theorem en2V_to (e : Ent) : en2V (toEn e) = enV e := rfl
theorem reads_to {w : World} {a : Option Addr} {n : Nat} {l : List Ent} (h : Reads 2 enV w a n l) : Reads 2 en2V w a n (l.map toEn) := by
  refine ⟨by rw [List.length_map]; exact h.1, fun hn => ?_⟩
  obtain ⟨b, off, e, hc⟩ := h.2 hn
  refine ⟨b, off, e, fun i x hx j u hu => ?_⟩
  rw [List.getElem?_map] at hx
  cases hy : l[i]? with
  | none => rw [hy] at hx; cases hx
  | some y =>
    rw [hy] at hx
    injection hx with hx
    exact hc i y hy j u (by rw [← hx, en2V_to] at hu; exact hu)
end Go.Proofs.Ytpghnhcjgjgglaa
namespace Go.Proofs.Ytpghnhcjgjgglaa
open Go.ChangeShapes Go.WideShapes Go.ChangeAt Go.RowKit
set_option linter.unusedVariables false
theorem en2V_len (x : En) : (en2V x).length = 2 := rfl
theorem en2V_cell (x : En) : ∀ v ∈ en2V x, v.oneCell' = true := by
  intro v hv
  simp [en2V] at hv
  rcases hv with rfl | rfl <;> rfl
theorem entries_info : (Try.prog.info? 44).map (fun i => (i.zero, i.size, i.bytes)) = some (some (.agg #[.string ByteArray.empty, .int .i64 0]), 2, 24) := by kernel_rfl
theorem built_entries_mark : Try.prog.built 44 [(1, .int .i64 (-7))] = some #[.string ByteArray.empty, .int .i64 (-7)] := by kernel_rfl
attribute [local go_sem] built_entries_mark
theorem built_entries_over : Try.prog.built 44 [(1, .int .i64 (-9))] = some #[.string ByteArray.empty, .int .i64 (-9)] := by kernel_rfl
attribute [local go_sem] built_entries_over
def mkEntries : En := ⟨ByteArray.empty, -7⟩
def ovEntries : En := ⟨ByteArray.empty, -9⟩
theorem en_same (w : World) (x : En) : (binOp .neq 44 (.agg #[.string x.nm, .int .i64 x.id]) (.agg #[.string x.nm, .int .i64 x.id])).run Try.prog w = .ok (.bool false) w := by
  have := en_neq w x x
  rw [en_refl] at this
  exact this
set_option maxHeartbeats 4000000 in
theorem sameEntries_any (a b : Option Addr) (n c d : Nat) (ys : List En) (w : World) (ha : Reads 2 en2V w a n ys) (hb : Reads 2 en2V w b n ys) (hn : n ≤ 1000000) :
    Calls Try.prog 38 #[.slice a n c, .slice b n d] w fun e w' => e = .returned (.bool true) ∧ Below w.heap.size w w' := by
  have HA := hide ha
  have HB := hide hb
  have g0 : ((n : Int) != (n : Int)) = false := by simp
  clear ha hb
  go_enter Try.func38, Try.ntmps38
  go_wp2_with fail
  go_loopw [5] (fun i wr => ∃ k : Nat, k ≤ n ∧ i = .int .i64 k ∧ Hid (∃ q, wr = w.drewN q)) (fun i _ => n - (intOf i).toNat)
  case atStart => exact ⟨0, Nat.zero_le _, rfl, 0, rfl⟩
  case round =>
    obtain ⟨k, hk, rfl, hZ⟩ := hrel
    by_cases hlt : k < n
    · have k0 : (0 : Int) ≤ (k : Int) := by omega
      have k1 : (k : Int) < (n : Int) := by omega
      obtain ⟨x, b1, o1, hx, rfl, hp⟩ := HA.out.at_ hlt
      obtain ⟨x', b2, o2, hx', rfl, hq⟩ := HB.out.at_ hlt
      rw [hx] at hx'
      injection hx' with hx'
      subst hx'
      have DR := hide (show ∃ q, wr = w.drewN q from hZ.out)
      have hcell : ∀ p : Addr, wr.cell? p = w.cell? p := fun p => by obtain ⟨q, rfl⟩ := hZ.out; rfl
      have p0 : wr.cell? ⟨b1, o1 + k * 2, none⟩ = some (.string x.nm) := (hcell _).trans (hp 0 _ rfl)
      have p1 : wr.cell? ⟨b1, o1 + k * 2 + 1, none⟩ = some (.int .i64 x.id) := (hcell _).trans (hp 1 _ rfl)
      have q0 : wr.cell? ⟨b2, o2 + k * 2, none⟩ = some (.string x.nm) := (hcell _).trans (hq 0 _ rfl)
      have q1 : wr.cell? ⟨b2, o2 + k * 2 + 1, none⟩ = some (.int .i64 x.id) := (hcell _).trans (hq 1 _ rfl)
      have ne := fun W => en_same W x
      clear hp hq hx hcell hZ
      go_upto_region 6 with fail
      go_quiet (fail)
      have DR2 : Hid (∃ q, wr.drewN nq = w.drewN q) := (show ∃ q, wr.drewN nq = w.drewN q from by
        obtain ⟨q, rfl⟩ := DR.out
        exact ⟨q + nq, by simp [World.drewN, Nat.add_assoc]⟩)
      clear p0 q0 p1 q1 DR
      generalize wr.drewN nq = w2 at *
      go_wp2_with fail
      go_roundw
      case rel => exact ⟨k + 1, by omega, by go_num, DR2.out⟩
      case measure => simp [intOf]; omega
    · obtain rfl : k = n := by omega
      go_wp2_with fail
      go_ret
      obtain ⟨q, rfl⟩ := hZ.out
      exact ⟨rfl, below_drewN (Below.refl _ _) q⟩
theorem own_sliceEntries {w : World} {B : Nat} {e : TypeId} {z n : Nat} {v : Value} {xs : List Value} (h : w.ownsRow B e z v n xs) : ∃ a c, v = .slice a n c ∧ (a = none → c = 0) := by
  rcases h.2 with ⟨rfl, rfl⟩ | ⟨g, cap, cur, rfl, _⟩
  · exact ⟨none, 0, rfl, fun _ => rfl⟩
  · exact ⟨_, _, rfl, (fun e => by cases e)⟩
set_option maxRecDepth 10000 in
set_option maxHeartbeats 4000000 in
theorem overEntries_any (v : Value) (n : Nat) (xs : List Value) (w : World) {B : Nat} (hv : w.ownsRow B 44 2 v n xs) (hn : n ≤ 1000000) :
    Calls Try.prog 40 #[v] w fun e w' => e = .returned (.tuple #[]) ∧ Touch (fun i => v.ownBlock = some i) w w' := by
  obtain ⟨i0, hi0, hz0, hz1, hz2⟩ := info_parts entries_info
  obtain ⟨a, c, rfl, _⟩ := own_sliceEntries hv
  have HZ := hide hz2
  go_enter Try.func40, Try.ntmps40
  go_wp2_with fail
  go_loopw [2] (fun i wr => ∃ (k : Nat) (ys : List Value), k ≤ n ∧ i = .int .i64 k ∧ Hid (wr.ownsRow B 44 2 (.slice a n c) n ys ∧ Touch (fun i => (Value.slice a n c).ownBlock = some i) w wr)) (fun i _ => n - (intOf i).toNat)
  case atStart => exact ⟨0, xs, Nat.zero_le _, rfl, hv, Touch.refl _ _⟩
  case round =>
    obtain ⟨k, ys, hk, rfl, hZ⟩ := hrel
    have ho := hZ.out.1
    have hb := hZ.out.2
    by_cases hlt : k < n
    · obtain ⟨g, cap, e⟩ : ∃ g cap, (Value.slice a n c) = .slice (some ⟨g, 0, none⟩) n cap := by
        rcases ho.2 with ⟨_, h⟩ | ⟨g, cap, cur, e, _⟩
        · omega
        · exact ⟨_, _, e⟩
      injection e with e1 _ e2
      subst e1 e2
      have hl : ys.length = n * 2 := ho.1
      have k0 : (0 : Int) ≤ (k : Int) := by omega
      have k1 : (k : Int) < (n : Int) := by omega
      have hc : ∀ j, j < 2 → ∃ u, wr.cell? ⟨g, k * 2 + j, none⟩ = some u := fun j hj => ⟨_, (ho.cellAt (k * 2 + j) (by omega)).trans (List.getElem?_eq_getElem (by omega))⟩
      obtain ⟨u0, c0⟩ : ∃ u, wr.cell? ⟨g, k * 2, none⟩ = some u := hc 0 (by omega)
      obtain ⟨u1, c1⟩ : ∃ u, wr.cell? ⟨g, k * 2 + 1, none⟩ = some u := hc 1 (by omega)
      have f0 := ho.frozenAt (k * 2)
      have f1 := ho.frozenAt (k * 2 + 1)
      have S := hide (((ho.stored (k * 2) (.string ByteArray.empty)).1.stored (k * 2 + 1) (.int .i64 (-9))).1)
      have B1 := hide ((hb.setCell (p := ⟨g, k * 2, none⟩) rfl (.string ByteArray.empty)).setCell (p := ⟨g, k * 2 + 1, none⟩) rfl (.int .i64 (-9)))
      clear ho hb hv hc hZ
      go_wp2_with (refine wpList_build rfl 44 _ rfl (by kernel_rfl) ?_)
      go_roundw
      case rel => exact ⟨k + 1, _, by omega, by go_num, S.out, B1.out⟩
      case measure => simp [intOf]; omega
    · have HO := hide ho
      have HB := hide hb
      clear hv ho hb hZ
      have hby : (n + 1) * 24 ≤ 140737488355328 := by omega
      go_wp2_with (first
        | (at_builtin; refine wpList_append_own_at _ rfl (.tmp 13) (.tmp 15) _ rfl 0 44 i0 _ 2 24 Try.underlying39 hi0 hz0 hz1 HZ.out rfl (by omega) _ _ _ rfl (own_base (HO.out.alloc _) (Nat.zero_le _)) ⟨wr.heap.size, 0, none⟩ 1 1 (en2V ovEntries) rfl rfl (cells_new wr (en2V ovEntries) _ _ rfl) (en2V_cell ovEntries) (by unfold maxLen; omega) hby (Nat.zero_le _) ?_; intro v9 w9 o9 g9 _ t9; have hr' := hide ((HB.out.alloc _).trans (Touch.of_grown (S := fun i => (Value.slice a n c).ownBlock = some i) g9 (fun g e => e)) (fun i e => .inl e)); clear g9 t9)
        | (refine wpList_build rfl 44 _ rfl (by kernel_rfl) ?_))
      go_end0
      exact ⟨rfl, hr'.out⟩
end Go.Proofs.Ytpghnhcjgjgglaa
