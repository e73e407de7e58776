/-
  The walk of FramesOnce.
-/
import Derived.Test.YtbahhdocjnmncaaActs
import Derived.Test.YtbahhdocjnmncaaBytes
import Derived.Deep.RegionHeld3
import Derived.Deep.CutBlock
namespace Go.Proofs.Ytbahhdocjnmncaa
open Go.ChangeShapes Go.WideShapes Go.ChangeAt Go.RowKit
set_option linter.unusedVariables false
/-- The row of marks: which are taken. -/
def Marks (w : World) (T : Nat) (tk : Nat → Bool) : Prop := ∃ (cur : Array Value) (t : TypeId), w.heap[T]? = some (.cells cur t (0, 0)) ∧ cur.size = 8 ∧ ∀ j, j < 8 → cur[j]? = some (.bool (tk j))
theorem Marks.lt {w : World} {T : Nat} {tk : Nat → Bool} (h : Marks w T tk) : T < w.heap.size := by obtain ⟨cur, t, e, _⟩ := h; exact lt_of_heap e
theorem Marks.cell {w : World} {T : Nat} {tk : Nat → Bool} (h : Marks w T tk) (j : Nat) (hj : j < 8) : w.cell? ⟨T, j, none⟩ = some (.bool (tk j)) := by
  obtain ⟨cur, t, e, _, hc⟩ := h
  rw [cell_of_row _ _ _ _ _ _ e]; exact hc j hj
theorem Marks.frozen {w : World} {T : Nat} {tk : Nat → Bool} (h : Marks w T tk) (j : Nat) : w.frozen? ⟨T, j, none⟩ = false := by
  obtain ⟨cur, t, e, _⟩ := h
  exact frozen_of_row _ _ _ _ _ e
theorem Marks.touch {S : Nat → Prop} {w w' : World} {T : Nat} {tk : Nat → Bool} (h : Marks w T tk) (t : Touch S w w') (d : ¬ S T) : Marks w' T tk := by
  have hl := h.lt
  obtain ⟨cur, t', e, hr⟩ := h
  exact ⟨cur, t', (t.block T hl d).trans e, hr⟩
theorem Marks.set {w : World} {T : Nat} {tk : Nat → Bool} (h : Marks w T tk) (k : Nat) (hk : k < 8) (v : Bool) : Marks (w.setCell ⟨T, k, none⟩ (.bool v)) T (upd tk k v) := by
  obtain ⟨cur, t, e, hs, hc⟩ := h
  refine ⟨_, t, heap_setCell_same w T k cur t _ e, by simpa using hs, fun j hj => ?_⟩
  by_cases hjk : j = k
  · subst hjk; rw [upd_same, Array.getElem?_setIfInBounds_self_of_lt (by omega)]
  · rw [upd_other _ _ hjk, Array.getElem?_setIfInBounds_ne (by omega)]; exact hc j hj
theorem Marks.same {w : World} {T : Nat} {tk tk' : Nat → Bool} (h : Marks w T tk) (e : ∀ j, j < 8 → tk' j = tk j) : Marks w T tk' := by
  obtain ⟨cur, t, e1, hs, hc⟩ := h
  exact ⟨cur, t, e1, hs, fun j hj => by rw [e j hj]; exact hc j hj⟩
theorem write_any {w : World} {H A Q : Nat} {s : St} (f : Fr w H A Q s) (k off : Nat) (hk : k < s.n) (ho : off < 64) (a : Option Addr) (m c : Nat) (ys : List Int) (hb : Ints .u8 w a m ys) (hy : Bytes ys) :
    Calls Try.prog 22 #[.pointer (some ⟨H, 0, none⟩), .int .i64 (k : Nat), .int .i64 (off : Nat), .slice a m c] w fun e w' => ∃ r, e = .returned (.int .i64 r) ∧ ∃ s', Fr w' H A Q s' ∧ s'.n = s.n ∧ s'.tk = s.tk ∧ s'.fr = s.fr ∧ Touch (fun i => i = A) w w' := by
  cases hf : fit (off : Int) (m : Int) with
  | false =>
    have hc := code_arg (s := s) (i := (k : Int)) (off := (off : Int)) (n := (m : Int)) (fun e => by rw [hf] at e; cases e.2.2)
    refine (write_err f (k : Int) (off : Int) (wf_nat (by omega)) a m c (by rw [hc]; decide)).mono ?_
    rintro e w' ⟨rfl, rfl⟩
    exact ⟨_, rfl, s, f, rfl, rfl, rfl, Touch.refl _ _⟩
  | true =>
    cases ht : s.tk k with
    | false =>
      have hc := code_none hk hf ht
      refine (write_err f (k : Int) (off : Int) (wf_nat (by omega)) a m c (by rw [hc]; decide)).mono ?_
      rintro e w' ⟨rfl, rfl⟩
      exact ⟨_, rfl, s, f, rfl, rfl, rfl, Touch.refl _ _⟩
    | true =>
      have hm : off + m ≤ 64 := by simp [fit] at hf; omega
      refine (write_ok f k off hk ht a m c ys hb hy hm).mono ?_
      rintro e w' ⟨rfl, f2, t2⟩
      exact ⟨_, rfl, _, f2, rfl, rfl, rfl, t2⟩
/-- What is held at each round's beginning. -/
structure Onc (w wr : World) (H A Q T : Nat) (s : St) : Prop where
  fr : Fr wr H A Q s
  n8 : s.n = 8
  marks : Marks wr T s.tk
  bel : Below w.heap.size w wr
  blk : ∀ i, Blk H A Q i → w.heap.size ≤ i
  tT : w.heap.size ≤ T
  nT : ¬ Blk H A Q T
theorem Fr.drewN {w : World} {H A Q : Nat} {s : St} (h : Fr w H A Q s) (n : Nat) : Fr (w.drewN n) H A Q s := h.keep fun _ _ => rfl
theorem Onc.len {w wr : World} {H A Q T : Nat} {s : St} (h : Onc w wr H A Q T s) : s.fr.length ≤ 8 := by have := h.fr.good.len; rw [h.n8] at this; exact this
theorem Onc.turn {w wr w' : World} {H A Q T : Nat} {s s' : St} (h : Onc w wr H A Q T s) (f : Fr w' H A Q s') (e : s'.n = s.n) (t : Touch (Blk H A Q) wr w') (hm : Marks w' T s'.tk) : Onc w w' H A Q T s' :=
  ⟨f, by rw [e]; exact h.n8, hm, h.bel.trans (t.below h.bel.size h.blk), h.blk, h.tT, h.nT⟩
theorem Onc.below {w wr w' : World} {H A Q T : Nat} {s : St} (h : Onc w wr H A Q T s) (t : Below wr.heap.size wr w') : Onc w w' H A Q T s :=
  ⟨h.fr.below t, h.n8, h.marks.touch (S := fun _ => False) (Touch.of_below t) (fun e => e), h.bel.trans (t.mono h.bel.size), h.blk, h.tT, h.nT⟩
theorem Onc.set {w wr : World} {H A Q T : Nat} {s s' : St} (f : Fr wr H A Q s') (n8 : s'.n = 8) (hm : Marks wr T s.tk) (hb : Below w.heap.size w wr) (blk : ∀ i, Blk H A Q i → w.heap.size ≤ i) (tT : w.heap.size ≤ T) (nT : ¬ Blk H A Q T) (k : Nat) (hk : k < 8) (v : Bool) (e : ∀ j, j < 8 → s'.tk j = upd s.tk k v j) :
    Onc w (wr.setCell ⟨T, k, none⟩ (.bool v)) H A Q T s' := by
  have t : Touch (fun i => i = T) wr (wr.setCell ⟨T, k, none⟩ (.bool v)) := (Touch.refl (fun i => i = T) wr).setCell (p := ⟨T, k, none⟩) rfl _
  exact ⟨f.touch t (fun i hi e => nT (e ▸ hi)), n8, (hm.set k hk v).same e, hb.trans (t.below hb.size (fun i e => by rw [e]; exact tT)), blk, tT, nT⟩
def zero64 : Array Value := Array.replicate 64 (.int .u8 0)
theorem run_make64 (w : World) : (Instr.makeSlice 33 (.int .i64 64) (.int .i64 64)).run Try.prog w = .ok (.slice (some ⟨w.heap.size, 0, none⟩) 64 64) (w.alloc (.cells zero64 5)) := by
  obtain ⟨i0, hi0, hz0, hz1, hz2⟩ := info_parts u8_info
  have := run_make (P := Try.prog) w 33 5 i0 _ Try.underlying33 hi0 hz0 .i64 .i64 64 64 (by omega) (by omega) (by rw [hz2]; omega) (by omega)
  rw [hz1] at this
  have e : madeCells (Value.int .u8 0).cells ((64 : Int).toNat * 1) = zero64 := by kernel_rfl
  rw [e] at this
  exact this
theorem own_zero64 (w : World) : (w.alloc (.cells zero64 5)).ownsRow 0 5 1 (.slice (some ⟨w.heap.size, 0, none⟩) 64 64) 64 ((List.replicate 64 (0 : Int)).map (Value.int .u8)) := by
  refine own_of_full ?_ (by simp) (Nat.zero_le _) (by unfold maxLen; omega)
  rw [heap_alloc_new]
  have e : zero64 = ((List.replicate 64 (0 : Int)).map (Value.int .u8)).toArray := by rw [List.map_replicate, List.toArray_replicate]; rfl
  rw [e]
theorem part_zero {s : St} (g : Good s) {x : Nat} (hx : x < s.n) (ht : s.tk x = false) (l : List Nat) : (s.take l x).part x 0 64 = List.replicate 64 0 := by
  unfold St.part
  apply List.ext_getElem
  · simp
  · intro j h1 h2
    simp at h1
    simp only [List.getElem_map, List.getElem_range, List.getElem_replicate, Nat.zero_add]
    exact g.zero x j hx h1 ht
set_option maxRecDepth 10000 in
set_option maxHeartbeats 4000000 in
theorem walk_framesOnce (w : World) (a : Option Addr) (n c : Nat) (zs : List (List FV)) (hin : CameMix AK w a n c zs) : Calls Try.prog 4 #[.slice a n c] w fun e w' => e = .returned (.bool true) ∧ Below w.heap.size w w' := by
  obtain ⟨i0, hi0, hz0, hz1, hz2⟩ := info_parts u8_info
  have hn : n ≤ maxLen := Nat.le_trans hin.2.1 hin.2.2.1
  have HA := hide (acts_open hin)
  clear hin
  go_enter Try.func4, Try.ntmps4
  go_wp2_with fail
  go_at_call 8
  refine (great_any HA.out hn 100 (by omega)).mono ?_
  rintro e w' ⟨⟨r, rfl, hr⟩, rfl⟩
  cases r with
  | true =>
    clear hr
    go_wp2_with (go_at_call 9; with_reducible refine (awake_any _).mono ?_; rintro e w' ⟨rfl, hb⟩)
    go_ret
    exact ⟨rfl, hb⟩
  | false =>
    have h100 := (hr rfl).1
    have HA2 := hide (hr rfl).2
    clear hr HA hn
    go_wp2_with fail
    go_at_call 10
    refine (new_ok _ 8 (by omega) (by omega)).mono ?_
    rintro e w1 ⟨H, A, Q, rfl, f1, b1, hb⟩
    have F1 := hide f1
    have B1 := hide b1
    have HB := hide hb
    clear f1 b1 hb
    go_wp2_with fail
    have hT : Hid (Onc w (w1.alloc (Obj.cells #[Value.bool false, Value.bool false, Value.bool false, Value.bool false, Value.bool false, Value.bool false, Value.bool false, Value.bool false] 54)) H A Q w1.heap.size (St.new 8)) := by
      refine (show Onc _ _ _ _ _ _ _ from ⟨F1.out.below ((Below.refl _ _).alloc (Nat.le_refl _) _), rfl, ⟨_, _, heap_alloc_new _ _, rfl, fun j hj => ?_⟩, B1.out.alloc B1.out.size _, HB.out, B1.out.size, fun e => ?_⟩)
      · match j, hj with
        | 0, _ => rfl
        | 1, _ => rfl
        | 2, _ => rfl
        | 3, _ => rfl
        | 4, _ => rfl
        | 5, _ => rfl
        | 6, _ => rfl
        | 7, _ => rfl
      · have h1 := F1.out.ltH
        have h2 := F1.out.ltA
        have h3 := F1.out.ltQ
        rcases e with e | e | e <;> omega
    clear F1 B1 HB
    generalize w1.heap.size = T at *
    generalize w1.alloc _ = w2 at *
    go_loopw [7, 6] (fun i v wr => ∃ (k q : Nat) (s : St), k ≤ n ∧ i = .int .i64 (k : Int) ∧ v = .int .i64 (q : Int) ∧ Hid (q + s.fr.length = 8 ∧ Onc w wr H A Q T s)) (fun i _ _ => n - (intOf i).toNat)
    case atStart => exact ⟨0, 0, St.new 8, Nat.zero_le _, rfl, rfl, rfl, hT.out⟩
    case round =>
      clear hT
      obtain ⟨k, q, s, hk, rfl, rfl, hR⟩ := hrel
      by_cases hlt : k < n
      · obtain ⟨b, off, rfl, hall⟩ := HA2.out (by omega)
        obtain ⟨d, x, o, m, aa, l, c', ys, hact0, hl200⟩ := hall k hlt
        have hact := hide (hact0.below hR.out.2.bel)
        have HACT := hide hact0
        have k0 : (0 : Int) ≤ (k : Int) := by omega
        have k1 : (k : Int) < (n : Int) := by omega
        have c0 := hact.out.c0
        have c1 := hact.out.c1
        have q8 : q ≤ 8 := by have := hR.out.1; omega
        clear hall hact0
        go_upto_block 2 with (go_at_call 29; refine (low_any x 8 _ (by omega) (by omega)).mono ?_; rintro e w' ⟨⟨r, hr, rfl⟩, rfl⟩)
        have r0 : (0 : Int) ≤ (r : Int) := by omega
        have r1 : (r : Int) < 8 := by omega
        by_cases d0 : d = 0
        · subst d0
          rcases List.eq_nil_or_concat s.fr with hfr | ⟨l0, x0, hfr⟩
          · obtain rfl : q = 8 := by have := hR.out.1; rw [hfr] at this; simpa using this
            go_wp2_with (go_at_call 13; refine (take_full hR.out.2.fr hfr).mono ?_; rintro e w3 ⟨rfl, rfl⟩)
            go_roundw
            case rel => exact ⟨k + 1, 8, s, by omega, by go_num, rfl, hR.out⟩
            case measure => simp [intOf]; omega
          · rw [List.concat_eq_append] at hfr
            have hx8 : x0 < s.n := hR.out.2.fr.good.lt x0 (by rw [hfr]; simp)
            have n8 := hR.out.2.n8
            have htx : s.tk x0 = false := (hR.out.2.fr.good.free x0 hx8).1 (by rw [hfr]; simp)
            have hq : q < 8 := by have h := hR.out.1; rw [hfr] at h; simp at h; omega
            have q1 : (q : Int) < 8 := by omega
            have q2 : q + 1 + l0.length = 8 := by have h := hR.out.1; rw [hfr] at h; simp at h; omega
            have y0 : (0 : Int) ≤ (x0 : Int) := by omega
            have y1 : (x0 : Int) < 8 := by omega
            have y2 : ¬ (7 : Int) < (x0 : Int) := by omega
            have hmk := run_make64
            have hfree : ((l0.length : Int) != 8 - ((q : Int) + 1)) = false := by simp; omega
            generalize hzz : zero64 = ZZ at hmk
            have HZZ := hide hzz
            clear hzz
            go_wp2_with (first
              | (go_at_call 13; refine (take_ok hR.out.2.fr hfr).mono ?_; rintro e w3 ⟨rfl, f3, t3⟩; have F3 := hide f3; have M3 := hide (hR.out.2.marks.touch t3 hR.out.2.nT); have B3 := hide (hR.out.2.bel.trans (t3.below hR.out.2.bel.size hR.out.2.blk)); have mc := (M3.out.cell x0 (by omega)).trans (by rw [htx]); clear f3 t3)
              | (go_at_call 17; refine (read_ok F3.out x0 0 64 hx8 (upd_same _ _ _) (by omega)).mono ?_; rintro e w4 ⟨rfl, o4, b4⟩; rw [part_zero hR.out.2.fr.good hx8 htx] at o4; have O4 := hide o4; have B4 := hide b4; clear o4 b4)
              | (go_at_call 19; refine (same_own _ _ 64 (List.replicate 64 0) _ (O4.out.alloc _) (by rw [← HZZ.out]; exact own_zero64 _) (by omega)).mono ?_; rintro e w' ⟨rfl, m5, rfl⟩; have B5 := B4.out.alloc B4.out.size (Obj.cells ZZ 5); have B6 := hide (below_drewN B5 m5); have M6 := hide (M3.out.touch (S := fun _ => False) (Touch.of_below B6.out) (fun e => e)); have F6 := hide (F3.out.below B6.out); have mc6 := M6.out.cell x0 (by omega); have mf6 := M6.out.frozen x0; have ON := hide (Onc.set (s' := s.take l0 x0) F6.out n8 M6.out (B3.out.trans (B6.out.mono B3.out.size)) hR.out.2.blk hR.out.2.tT hR.out.2.nT x0 (by omega) true (fun j hj => rfl)); clear B5)
              | (go_at_call 25; refine (free_any ON.out.fr).mono ?_; rintro e w7 ⟨rfl, rfl⟩; rw [show (s.take l0 x0).fr = l0 by rfl]))
            go_roundw
            case rel => exact ⟨k + 1, q + 1, s.take l0 x0, by omega, by go_num, by go_num, q2, ON.out⟩
            case measure => simp [intOf]; omega
        by_cases d1 : d = 1
        · subst d1
          have n8 := hR.out.2.n8
          cases htr : s.tk r with
          | true =>
            have mc := (hR.out.2.marks.cell r (by omega)).trans (by rw [htr])
            have hl := hR.out.2.fr.good.room (by omega) htr
            have q1 : 1 ≤ q := by have := hR.out.1; omega
            have q2 : q - 1 + (s.fr.length + 1) = 8 := by have := hR.out.1; omega
            have hfree : (((s.fr.length + 1 : Nat) : Int) != 8 - ((q : Int) - 1)) = false := by simp; omega
            go_wp2_with fail
            go_region_held3 (fun w' => w'.cell? ⟨T, r, none⟩ = some (.bool true)) (first | exact mc | exact mc3) ((go_at_call 15; refine (give_ok (hR.out.2.fr.drewN 1) r (by omega) htr).mono ?_; rintro e w3 ⟨rfl, f3, t3⟩; have F3 := hide f3; have T3 := Touch.trans (Touch.drewN (Touch.refl (Blk H A Q) wr) 1) t3 (fun i e => .inl e); have M3 := hide (hR.out.2.marks.touch T3 hR.out.2.nT); have B3 := hide (hR.out.2.bel.trans (T3.below hR.out.2.bel.size hR.out.2.blk)); have mc3 := (M3.out.cell r (by omega)).trans (by rw [htr]); have mf3 := M3.out.frozen r; have ON := hide (Onc.set (s' := s.give r) F3.out n8 M3.out B3.out hR.out.2.blk hR.out.2.tT hR.out.2.nT r (by omega) false (fun j hj => rfl)); clear f3 t3 T3))
            go_wp2_with (go_at_call 25; refine (free_any ON.out.fr).mono ?_; rintro e w7 ⟨rfl, rfl⟩; rw [show (s.give r).fr.length = s.fr.length + 1 by simp [St.give]])
            go_roundw
            case rel => exact ⟨k + 1, q - 1, s.give r, by omega, by go_num, by congr 1; omega, by simp [St.give]; omega, ON.out⟩
            case measure => simp [intOf]; omega
          | false =>
            have mc := (hR.out.2.marks.cell r (by omega)).trans (by rw [htr])
            have hcode := code_none (s := s) (off := 0) (n := 0) (by omega) fit00 htr
            have hfree : ((s.fr.length : Int) != 8 - (q : Int)) = false := by have := hR.out.1; simp; omega
            go_wp2_with fail
            go_region_held3 (fun w' => w'.cell? ⟨T, r, none⟩ = some (.bool false)) (first | exact mc) ((go_at_call 15; refine (give_err (hR.out.2.fr.drewN 1) (r : Nat) (by rw [hcode]; decide)).mono ?_; rw [hcode]; rintro e w3 ⟨rfl, rfl⟩; have B3 := below_drewN (Below.refl wr.heap.size wr) 1; have ON0 := hide (hR.out.2.below B3); have M3 := ON0.out.marks; have mf3 := M3.frozen r; have ON := hide (Onc.set (s' := s) ON0.out.fr n8 M3 ON0.out.bel hR.out.2.blk hR.out.2.tT hR.out.2.nT r (by omega) false (fun j hj => by by_cases e : j = r; (subst e; rw [upd_same, htr]); (rw [upd_other _ _ e]))); clear B3 M3))
            go_wp2_with (go_at_call 25; refine (free_any ON.out.fr).mono ?_; rintro e w7 ⟨rfl, rfl⟩)
            go_roundw
            case rel => exact ⟨k + 1, q, s, by omega, by go_num, rfl, hR.out.1, ON.out⟩
            case measure => simp [intOf]; omega
        have f0 : (d == 0) = false := by simpa using d0
        have f1 : (d == 1) = false := by simpa using d1
        have n8 := hR.out.2.n8
        have c2 := hact.out.c2
        have c4 := hact.out.c4
        have hfree : ((s.fr.length : Int) != 8 - (q : Int)) = false := by have := hR.out.1; simp; omega
        go_wp2_with fail
        go_region_held3 (fun w' => w'.cell? ⟨b, off + k * 5 + 2, none⟩ = some (.int .i64 o) ∧ w'.cell? ⟨b, off + k * 5 + 4, none⟩ = some (.slice aa l c')) (first | exact ⟨c2, c4⟩ | exact ⟨e2, e4⟩) (first
          | (go_at_call 29; refine (low_any o 64 _ (by omega) (by omega)).mono ?_; rintro e w' ⟨⟨ro, hro, rfl⟩, rfl⟩)
          | (go_at_call 22; refine (write_any (hR.out.2.fr.drewN 1) r ro (by omega) hro aa l c' ys hact.out.came.1 (bytes_of_came hact.out.came)).mono ?_; rintro e w3 ⟨rr, rfl, s', f3, e1, e2', e3, t3⟩; have T3 := Touch.trans (Touch.drewN (Touch.refl (Blk H A Q) wr) 1) t3 (fun i e => .inl (.inr (.inl e))); have ON := hide (hR.out.2.turn f3 e1 T3 (by rw [e2']; exact hR.out.2.marks.touch T3 hR.out.2.nT)); have A3 := HACT.out.below ON.out.bel; have e2 := A3.c2; have e4 := A3.c4; have E3 := hide e3; clear f3 t3 T3 A3 e1 e2' e3))
        have hfree : ((s'.fr.length : Int) != 8 - (q : Int)) = false := by rw [E3.out]; exact hfree
        go_wp2_with (go_at_call 25; refine (free_any ON.out.fr).mono ?_; rintro e w7 ⟨rfl, rfl⟩)
        go_roundw
        case rel => exact ⟨k + 1, q, s', by omega, by go_num, rfl, by rw [E3.out]; exact hR.out.1, ON.out⟩
        case measure => simp [intOf]; omega
      · obtain rfl : k = n := by omega
        go_wp2_with (go_at_call 9; with_reducible refine (awake_any _).mono ?_; rintro e w' ⟨rfl, hb⟩)
        go_ret
        exact ⟨rfl, hR.out.2.bel.trans (hb.mono hR.out.2.bel.size)⟩
end Go.Proofs.Ytbahhdocjnmncaa
