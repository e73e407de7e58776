/-
  The walk of FramesKeep.
-/
import Derived.Test.YtbahhdocjnmncaaFrOnce
namespace Go.Proofs.Ytbahhdocjnmncaa
open Go.ChangeShapes Go.WideShapes Go.ChangeAt Go.RowKit
set_option linter.unusedVariables false
/-- Four frames, of which k were taken, the first ones. -/
structure Four (w wr : World) (H A Q k : Nat) (s : St) : Prop where
  fr : Fr wr H A Q s
  n4 : s.n = 4
  free : s.fr = fallen 4 (4 - k)
  bel : Below w.heap.size w wr
  blk : ∀ i, Blk H A Q i → w.heap.size ≤ i
theorem Four.tk {w wr : World} {H A Q : Nat} {s : St} (h : Four w wr H A Q 4 s) {i : Nat} (hi : i < 4) : s.tk i = true := by
  cases e : s.tk i with
  | true => rfl
  | false =>
    have := (h.fr.good.free i (by rw [h.n4]; exact hi)).2 e
    rw [h.free] at this
    cases this
theorem Four.take {w wr : World} {H A Q k : Nat} {s : St} (h : Four w wr H A Q k s) (hk : k < 4) :
    Calls Try.prog 13 #[.pointer (some ⟨H, 0, none⟩)] wr fun e w' => e = .returned (.tuple #[.int .i64 (k : Nat), .int .i64 0]) ∧ ∃ s', Four w w' H A Q (k + 1) s' := by
  have hf : s.fr = fallen 4 (3 - k) ++ [k] := by
    rw [h.free, show 4 - k = 3 - k + 1 by omega, fallen_succ]
    congr 2; omega
  refine (take_ok h.fr hf).mono ?_
  rintro e w' ⟨rfl, f2, t2⟩
  exact ⟨rfl, _, f2, h.n4, by rw [show 4 - (k + 1) = 3 - k by omega]; rfl, h.bel.trans (t2.below h.bel.size h.blk), h.blk⟩
theorem Four.turn {w wr w' : World} {H A Q : Nat} {s s' : St} (h : Four w wr H A Q 4 s) (f : Fr w' H A Q s') (en : s'.n = s.n) (ef : s'.fr = s.fr) (t : Touch (Blk H A Q) wr w') : Four w w' H A Q 4 s' :=
  ⟨f, en.trans h.n4, ef.trans h.free, h.bel.trans (t.below h.bel.size h.blk), h.blk⟩
theorem Four.below {w wr w' : World} {H A Q k : Nat} {s : St} (h : Four w wr H A Q k s) (t : Below wr.heap.size wr w') : Four w w' H A Q k s := ⟨h.fr.below t, h.n4, h.free, h.bel.trans (t.mono h.bel.size), h.blk⟩
/-- What was read: k rows of 64 bytes each. -/
structure Was (w : World) (H A Q T k : Nat) (s : St) : Prop where
  cells : ∃ (cur : Array Value) (t : TypeId), w.heap[T]? = some (.cells cur t (0, 0)) ∧ cur.size = 4 ∧ ∀ j, j < k → ∃ g, cur[j]? = some (.slice (some ⟨g, 0, none⟩) 64 64) ∧ Ints .u8 w (some ⟨g, 0, none⟩) 64 (s.part j 0 64) ∧ ¬ Blk H A Q g ∧ g ≠ T
  nT : ¬ Blk H A Q T
theorem Was.lt {w : World} {H A Q T k : Nat} {s : St} (h : Was w H A Q T k s) : T < w.heap.size := by obtain ⟨⟨cur, t, e, _⟩, _⟩ := h; exact lt_of_heap e
theorem Was.frozen {w : World} {H A Q T k : Nat} {s : St} (h : Was w H A Q T k s) (j : Nat) : w.frozen? ⟨T, j, none⟩ = false := by
  obtain ⟨⟨cur, t, e, _⟩, _⟩ := h
  exact frozen_of_row _ _ _ _ _ e
theorem Was.has {w : World} {H A Q T k : Nat} {s : St} (h : Was w H A Q T k s) (j : Nat) (hj : j < 4) : ∃ v, w.cell? ⟨T, j, none⟩ = some v := by
  obtain ⟨⟨cur, t, e, hs, _⟩, _⟩ := h
  exact ⟨cur[j], by rw [cell_of_row _ _ _ _ _ _ e]; exact Array.getElem?_eq_getElem (by omega)⟩
theorem Was.at {w : World} {H A Q T k : Nat} {s : St} (h : Was w H A Q T k s) (j : Nat) (hj : j < k) : ∃ g, w.cell? ⟨T, j, none⟩ = some (.slice (some ⟨g, 0, none⟩) 64 64) ∧ Ints .u8 w (some ⟨g, 0, none⟩) 64 (s.part j 0 64) := by
  obtain ⟨⟨cur, t, e, hs, hc⟩, _⟩ := h
  obtain ⟨g, h1, h2, _⟩ := hc j hj
  exact ⟨g, by rw [cell_of_row _ _ _ _ _ _ e]; exact h1, h2⟩
theorem Was.touch {S : Nat → Prop} {w w' : World} {H A Q T k : Nat} {s : St} (h : Was w H A Q T k s) (t : Touch S w w') (d : ∀ i, S i → Blk H A Q i) : Was w' H A Q T k s := by
  have hl := h.lt
  have hn := h.nT
  obtain ⟨⟨cur, t', e, hs, hc⟩, _⟩ := h
  refine ⟨⟨cur, t', (t.block T hl (fun e => hn (d _ e))).trans e, hs, fun j hj => ?_⟩, hn⟩
  obtain ⟨g, h1, h2, h3, h4⟩ := hc j hj
  exact ⟨g, h1, t.ints h2 (fun b o e e2 => by injection e with e; injection e with e _ _; exact h3 (e ▸ d _ e2)), h3, h4⟩
theorem Was.below {w w' : World} {H A Q T k : Nat} {s : St} (h : Was w H A Q T k s) (t : Below w.heap.size w w') : Was w' H A Q T k s := h.touch (S := fun _ => False) (Touch.of_below t) (fun _ e => e.elim)
theorem Was.set {w : World} {H A Q T k g : Nat} {s : St} (h : Was w H A Q T k s) (hk : k < 4) (hg : Ints .u8 w (some ⟨g, 0, none⟩) 64 (s.part k 0 64)) (hB : ¬ Blk H A Q g) (hT : g ≠ T) :
    Was (w.setCell ⟨T, k, none⟩ (.slice (some ⟨g, 0, none⟩) 64 64)) H A Q T (k + 1) s := by
  have hn := h.nT
  obtain ⟨⟨cur, t', e, hs, hc⟩, _⟩ := h
  have t : Touch (fun i => i = T) w (w.setCell ⟨T, k, none⟩ (.slice (some ⟨g, 0, none⟩) 64 64)) := (Touch.refl (fun i => i = T) w).setCell (p := ⟨T, k, none⟩) rfl _
  refine ⟨⟨_, t', heap_setCell_same w T k cur t' _ e, by simpa using hs, fun j hj => ?_⟩, hn⟩
  by_cases hjk : j = k
  · subst hjk
    exact ⟨g, by rw [Array.getElem?_setIfInBounds_self_of_lt (by omega)], t.ints hg (fun b o e e2 => by injection e with e; injection e with e _ _; exact hT (e.trans e2)), hB, hT⟩
  · obtain ⟨g', h1, h2, h3, h4⟩ := hc j (by omega)
    exact ⟨g', by rw [Array.getElem?_setIfInBounds_ne (by omega)]; exact h1, t.ints h2 (fun b o e e2 => by injection e with e; injection e with e _ _; exact h4 (e.trans e2)), h3, h4⟩
theorem Four.other {w wr : World} {H A Q T k : Nat} {s : St} (h : Four w wr H A Q k s) (hT : w.heap.size ≤ T) (nT : ¬ Blk H A Q T) (j : Nat) (v : Value) : Four w (wr.setCell ⟨T, j, none⟩ v) H A Q k s := by
  have t : Touch (fun i => i = T) wr (wr.setCell ⟨T, j, none⟩ v) := (Touch.refl (fun i => i = T) wr).setCell (p := ⟨T, j, none⟩) rfl _
  exact ⟨h.fr.touch t (fun i hi e => nT (e ▸ hi)), h.n4, h.free, h.bel.trans (t.below h.bel.size (fun i e => by rw [e]; exact hT)), h.blk⟩
theorem ints_of_own {q : IntKind} {w : World} {base : Nat} {e : TypeId} {a : Option Addr} {c n : Nat} {xs : List Int} (h : w.ownsRow base e 1 (.slice a n c) n (xs.map (Value.int q))) : Ints q w a n xs := by
  obtain ⟨A, c', e1, hi, _⟩ := own_ints h
  injection e1 with e1 _ _
  rw [e1]; exact hi
theorem low_anyI (x z : Int) (n : Nat) (w : World) (hz : z = (n : Int)) (hn : 0 < n) (hb : n ≤ 1000000) :
    Calls Try.prog 29 #[.int .i64 x, .int .i64 z] w fun e w' => (∃ r : Nat, r < n ∧ e = .returned (.int .i64 (r : Int))) ∧ w = w' := by subst hz; exact low_any x n w hn hb
theorem part_at (s : St) (k j : Nat) (hj : j < 64) : (s.part k 0 64).getD j 0 = s.bt k j := by simp [St.part, hj, List.getD]
theorem put_in {s : St} {r o : Nat} {ys : List Int} {j : Nat} (h0 : o ≤ j) (h1 : j < o + ys.length) : (s.put r o ys).bt r j = ys.getD (j - o) 0 := by
  show upd s.bt r (over (s.bt r) o ys) r j = _
  rw [upd_same]; unfold over; rw [if_pos ⟨h0, h1⟩]
theorem put_out {s : St} {r o : Nat} {ys : List Int} {k j : Nat} (h : ¬ (k = r ∧ o ≤ j ∧ j < o + ys.length)) : (s.put r o ys).bt k j = s.bt k j := by
  show upd s.bt r (over (s.bt r) o ys) k j = _
  by_cases e : k = r
  · subst e; rw [upd_same]; unfold over; rw [if_neg (fun e => h ⟨rfl, e⟩)]
  · rw [upd_other _ _ e]
set_option maxRecDepth 10000 in
set_option maxHeartbeats 4000000 in
theorem walk_framesKeep (w : World) (a : Option Addr) (n c : Nat) (zs : List (List FV)) (hin : CameMix AK w a n c zs) (x : Int) (wx : (Lit.int .i64 x).wf = true) (y : Int) (wy : (Lit.int .i64 y).wf = true)
    (ba : Option Addr) (m bc : Nat) (ys : List Int) (hb : CameIn .u8 w ba m bc ys) : Calls Try.prog 5 #[.slice a n c, .int .i64 x, .int .i64 y, .slice ba m bc] w fun e w' => e = .returned (.bool true) ∧ Below w.heap.size w w' := by
  clear wx wy
  have hn : n ≤ maxLen := Nat.le_trans hin.2.1 hin.2.2.1
  have HA := hide (acts_open hin)
  have HBY := hide hb
  clear hin hb
  go_enter Try.func5, Try.ntmps5
  go_wp2_with fail
  go_at_call 8
  refine (great_any HA.out hn 60 (by omega)).mono ?_
  rintro e w' ⟨⟨r, rfl, hr⟩, rfl⟩
  cases r with
  | true =>
    clear hr
    go_wp2_with (go_at_call 9; with_reducible refine (awake_any _).mono ?_; rintro e w' ⟨rfl, hb⟩)
    go_ret
    exact ⟨rfl, hb⟩
  | false =>
  by_cases hm : 64 < m
  · have hm' : (64 : Int) < (m : Int) := by omega
    clear hr
    go_wp2_with (go_at_call 9; with_reducible refine (awake_any _).mono ?_; rintro e w' ⟨rfl, hb⟩)
    go_ret
    exact ⟨rfl, hb⟩
  · have h60 := (hr rfl).1
    have HA2 := hide (hr rfl).2
    have hm' : ¬ (64 : Int) < (m : Int) := by omega
    have m64 : (m : Int) ≤ 64 := by omega
    have m0 : (0 : Int) ≤ (m : Int) := by omega
    clear hr HA hn
    go_wp2_with fail
    go_at_call 10
    refine (new_ok _ 4 (by omega) (by omega)).mono ?_
    rintro e w1 ⟨H, A, Q, rfl, f1, b1, hb⟩
    have F0 : Hid (Four w w1 H A Q 0 (St.new 4)) := (show Four w w1 H A Q 0 (St.new 4) from ⟨f1, rfl, rfl, b1, hb⟩)
    clear f1 b1 hb
    go_wp2_with fail
    go_loopw [11] (fun i wr => ∃ (k : Nat) (z : Int) (s : St), k ≤ 4 ∧ z = (k : Int) ∧ i = .int .i64 z ∧ Hid (Four w wr H A Q k s)) (fun i _ => 4 - (intOf i).toNat)
    case atStart => exact ⟨0, 0, St.new 4, Nat.zero_le _, rfl, rfl, F0.out⟩
    case round =>
      clear F0
      obtain ⟨k, z, s, hk, hz, rfl, hR⟩ := hrel
      by_cases hlt : k < 4
      · have hlt' : z < 4 := by omega
        have z0 : 0 ≤ z := by omega
        have HZ := hide hz
        clear hz
        go_wp2_with (go_at_call 13; refine (hR.out.take hlt).mono ?_; rintro e w2 ⟨rfl, s', f2⟩; have F2 := hide f2; clear f2)
        go_roundw
        case rel => exact ⟨k + 1, z + 1, s', by omega, by have := HZ.out; omega, by go_num, F2.out⟩
        case measure => have := HZ.out; simp [intOf]; omega
      · obtain rfl : k = 4 := by omega
        obtain rfl : z = 4 := by omega
        clear hz
        go_wp2_with fail
        go_loopw [12] (fun i wr => ∃ (k : Nat) (s : St), k ≤ n ∧ i = .int .i64 (k : Int) ∧ Hid (Four w wr H A Q 4 s)) (fun i _ => n - (intOf i).toNat)
        case atStart => exact ⟨0, s, Nat.zero_le _, rfl, hR.out⟩
        case round =>
          clear hR
          obtain ⟨k, s, hk, rfl, hR⟩ := hrel
          by_cases hlt : k < n
          · obtain ⟨b, off, rfl, hall⟩ := HA2.out (by omega)
            obtain ⟨d, x1, o, m1, aa, l, c', ys1, hact0, hl200⟩ := hall k hlt
            have HACT := hide hact0
            have hact := hide (hact0.below hR.out.bel)
            have k0 : (0 : Int) ≤ (k : Int) := by omega
            have k1 : (k : Int) < (n : Int) := by omega
            have c1 := hact.out.c1
            have c2 := hact.out.c2
            have c4 := hact.out.c4
            clear hall hact0
            go_wp2_with fail
            go_region_held3 (fun w' => w'.cell? ⟨b, off + k * 5 + 1, none⟩ = some (.int .i64 x1) ∧ w'.cell? ⟨b, off + k * 5 + 2, none⟩ = some (.int .i64 o) ∧ w'.cell? ⟨b, off + k * 5 + 4, none⟩ = some (.slice aa l c')) (first | exact ⟨c1, c2, c4⟩ | exact ⟨e1, e2, e4⟩) (first
              | (go_at_call 22; refine (write_any (hR.out.fr.drewN 1) r1 r2 (by rw [hR.out.n4]; exact hr1) hr2 aa l c' ys1 hact.out.came.1 (bytes_of_came hact.out.came)).mono ?_; rintro e w3 ⟨rr, rfl, s', f3, en, et, ef, t3⟩; have T3 := Touch.trans (Touch.drewN (Touch.refl (Blk H A Q) wr) 1) t3 (fun i e => .inl (.inr (.inl e))); have ON := hide (hR.out.turn f3 en ef T3); have A3 := HACT.out.below ON.out.bel; have e1 := A3.c1; have e2 := A3.c2; have e4 := A3.c4; clear f3 t3 T3 A3 en et ef)
              | (go_at_call 29; refine (low_any x1 4 _ (by omega) (by omega)).mono ?_; rintro e w' ⟨⟨r1, hr1, rfl⟩, rfl⟩)
              | (go_at_call 29; refine (low_any o 64 _ (by omega) (by omega)).mono ?_; rintro e w' ⟨⟨r2, hr2, rfl⟩, rfl⟩))
            go_wp2_with fail
            go_roundw
            case rel => exact ⟨k + 1, s', by omega, by go_num, ON.out⟩
            case measure => simp [intOf]; omega
          · obtain rfl : k = n := by omega
            have h65 : 0 < 65 - m := by omega
            have z65 : (65 : Int) - (m : Int) = ((65 - m : Nat) : Int) := by omega
            go_wp2_with (first
              | (go_at_call 29; with_reducible refine (low_anyI x _ 4 _ (by omega) (by omega) (by omega)).mono ?_; rintro e w' ⟨⟨r1, hr1, rfl⟩, rfl⟩)
              | (go_at_call 29; with_reducible refine (low_anyI y _ (65 - m) _ (by omega) h65 (by omega)).mono ?_; rintro e w' ⟨⟨r2, hr2, rfl⟩, rfl⟩))
            have hT0 : w.heap.size ≤ wr.heap.size := hR.out.bel.size
            have nT : ¬ Blk H A Q wr.heap.size := by
              have h1 := hR.out.fr.ltH
              have h2 := hR.out.fr.ltA
              have h3 := hR.out.fr.ltQ
              rintro (e | e | e) <;> omega
            have B2 := (Below.refl wr.heap.size wr).alloc (Nat.le_refl _) (Obj.cells #[Value.slice none 0 0, Value.slice none 0 0, Value.slice none 0 0, Value.slice none 0 0] 57)
            have F5 := hide (hR.out.below B2)
            have W5 := hide (show Was (wr.alloc (Obj.cells #[Value.slice none 0 0, Value.slice none 0 0, Value.slice none 0 0, Value.slice none 0 0] 57)) H A Q wr.heap.size 0 s from ⟨⟨_, _, heap_alloc_new _ _, rfl, fun j hj => absurd hj (by omega)⟩, nT⟩)
            clear B2 hR nT
            generalize wr.alloc _ = w5 at *
            generalize wr.heap.size = T at *
            go_loopw [14] (fun i wr => ∃ (k : Nat) (z : Int), k ≤ 4 ∧ z = (k : Int) ∧ i = .int .i64 z ∧ Hid (Four w wr H A Q 4 s ∧ Was wr H A Q T k s)) (fun i _ => 4 - (intOf i).toNat)
            case atStart => exact ⟨0, 0, Nat.zero_le _, rfl, rfl, F5.out, W5.out⟩
            case round =>
              clear F5 W5
              obtain ⟨j, z, hj, hz, rfl, hR⟩ := hrel
              by_cases hlt : j < 4
              · have hlt' : z < 4 := by omega
                have z0 : 0 ≤ z := by omega
                have zn : z.toNat = j := by omega
                subst hz
                go_wp2_with (go_at_call 17; refine (read_ok hR.out.1.fr j 0 64 (by rw [hR.out.1.n4]; exact hlt) (hR.out.1.tk hlt) (by omega)).mono ?_; rintro e w4 ⟨rfl, o4, b4⟩; have F4 := hide (hR.out.1.below b4); have W4 := hide (hR.out.2.below b4); have O4 := hide o4; obtain ⟨v4, hv4⟩ := W4.out.has j hlt; have fz4 := W4.out.frozen j; have g1 := hR.out.1.fr.ltH; have g2 := hR.out.1.fr.ltA; have g3 := hR.out.1.fr.ltQ; have g4 := hR.out.2.lt; clear o4 b4)
                go_roundw
                case rel => exact ⟨j + 1, (j : Int) + 1, by omega, by omega, rfl, F4.out.other hT0 W4.out.nT j _, W4.out.set hlt (ints_of_own O4.out) (by rintro (e | e | e) <;> omega) (by omega)⟩
                case measure => simp [intOf]; omega
              · obtain rfl : j = 4 := by omega
                obtain rfl : z = 4 := by omega
                clear hz
                have hm2 : r2 + m ≤ 64 := by omega
                have hlen : ys.length = m := HBY.out.1.1
                go_wp2_with (go_at_call 22; refine (write_ok hR.out.1.fr r1 r2 (by rw [hR.out.1.n4]; exact hr1) (hR.out.1.tk hr1) ba m bc ys (HBY.out.1.below hR.out.1.bel) (bytes_of_came HBY.out) hm2).mono ?_; rintro e w6 ⟨rfl, f6, t6⟩; have T6 := t6.mono (S' := Blk H A Q) (fun i e => .inr (.inl e)); have F6 := hide (hR.out.1.turn f6 rfl rfl T6); have W6 := hide (hR.out.2.touch T6 (fun i e => e)); clear f6 t6 T6)
                go_loopw [15] (fun i wr => ∃ (k : Nat) (z : Int), k ≤ 4 ∧ z = (k : Int) ∧ i = .int .i64 z ∧ Hid (Four w wr H A Q 4 (s.put r1 r2 ys) ∧ Was wr H A Q T 4 s)) (fun i _ => 4 - (intOf i).toNat)
                case atStart => exact ⟨0, 0, Nat.zero_le _, rfl, rfl, F6.out, W6.out⟩
                case round =>
                  clear F6 W6 hR
                  obtain ⟨j, z, hj, hz, rfl, hR⟩ := hrel
                  by_cases hlt : j < 4
                  · have hlt' : z < 4 := by omega
                    have z0 : 0 ≤ z := by omega
                    have zn : z.toNat = j := by omega
                    subst hz
                    go_wp2_with (go_at_call 17; refine (read_ok hR.out.1.fr j 0 64 (by rw [hR.out.1.n4]; exact hlt) (hR.out.1.tk hlt) (by omega)).mono ?_; rintro e w4 ⟨rfl, o4, b4⟩; have F4 := hide (hR.out.1.below b4); have W4 := hide (hR.out.2.below b4); have I4 := hide (ints_of_own o4); obtain ⟨g, hv4, hi4⟩ := W4.out.at j hlt; have IW := hide hi4; clear o4 b4 hi4)
                    go_loopw [18] (fun i wx => ∃ (t q : Nat), t ≤ 64 ∧ i = .int .i64 (t : Int) ∧ wx = w4.drewN q) (fun i _ => 64 - (intOf i).toNat)
                    case atStart => exact ⟨0, 0, Nat.zero_le _, rfl, rfl⟩
                    case round =>
                      obtain ⟨t, q, ht, rfl, rfl⟩ := hrel
                      by_cases htl : t < 64
                      · have htl' : (t : Int) < 64 := by omega
                        have t0 : (0 : Int) ≤ (t : Int) := by omega
                        obtain ⟨gb, go, ge, hcn⟩ := I4.out.2 (by omega)
                        injection ge with ge
                        injection ge with ge1 ge2 _
                        subst ge1 ge2
                        have cn := hcn t htl
                        rw [part_at _ _ _ htl, Nat.zero_add] at cn
                        obtain ⟨gb, go, ge, hcw⟩ := IW.out.2 (by omega)
                        injection ge with ge
                        injection ge with ge1 ge2 _
                        subst ge1 ge2
                        have cw := hcw t htl
                        rw [part_at _ _ _ htl, Nat.zero_add] at cw
                        clear hcn hcw
                        have cT := hv4
                        by_cases hmine : j = r1 ∧ r2 ≤ t ∧ t < r2 + m
                        · obtain ⟨rfl, h1, h2⟩ := hmine
                          rw [put_in h1 (by omega)] at cn
                          obtain ⟨bb, bo, rfl, hcb⟩ := (HBY.out.1.below F4.out.bel).2 (by omega)
                          have cb := hcb (t - r2) (by omega)
                          clear hcb cw
                          have ej : ((j : Int) == (j : Int)) = true := by simp
                          have h1' : (r2 : Int) ≤ (t : Int) := by omega
                          have h2' : (t : Int) < (r2 : Int) + (m : Int) := by omega
                          have hs0 : (0 : Int) ≤ (t : Int) - (r2 : Int) := by omega
                          have hs1 : (t : Int) - (r2 : Int) < (m : Int) := by omega
                          have hs2 : ((t : Int) - (r2 : Int)).toNat = t - r2 := by omega
                          have hs3 : IntKind.i64.wrap ((t : Int) - (r2 : Int)) = (t : Int) - (r2 : Int) := by rw [IntKind.wrap_i64]; omega
                          have hs4 : IntKind.i64.wrap ((r2 : Int) + (m : Int)) = (r2 : Int) + (m : Int) := by rw [IntKind.wrap_i64]; omega
                          generalize ys.getD (t - r2) 0 = v at *
                          have ev : (v != v) = false := by simp
                          go_wp2_with fail
                          go_quiet (fail)
                          go_wp2_with fail
                          go_roundw
                          case rel => exact ⟨t + 1, _, by omega, by go_num, rfl⟩
                          case measure => simp [intOf]; omega
                        · rw [put_out (by rw [hlen]; exact hmine)] at cn
                          generalize s.bt j t = v at *
                          have ev : (v != v) = false := by simp
                          by_cases hjr : j = r1
                          · subst hjr
                            have ej : ((j : Int) == (j : Int)) = true := by simp
                            by_cases h1 : r2 ≤ t
                            · have h1' : (r2 : Int) ≤ (t : Int) := by omega
                              have h2' : ¬ (t : Int) < (r2 : Int) + (m : Int) := by omega
                              have hs4 : IntKind.i64.wrap ((r2 : Int) + (m : Int)) = (r2 : Int) + (m : Int) := by rw [IntKind.wrap_i64]; omega
                              go_wp2_with fail
                              go_quiet (fail)
                              go_wp2_with fail
                              go_roundw
                              case rel => exact ⟨t + 1, _, by omega, by go_num, rfl⟩
                              case measure => simp [intOf]; omega
                            · have h1' : ¬ (r2 : Int) ≤ (t : Int) := by omega
                              go_wp2_with fail
                              go_quiet (fail)
                              go_wp2_with fail
                              go_roundw
                              case rel => exact ⟨t + 1, _, by omega, by go_num, rfl⟩
                              case measure => simp [intOf]; omega
                          · have ej : ((j : Int) == (r1 : Int)) = false := by simp; omega
                            go_wp2_with fail
                            go_quiet (fail)
                            go_wp2_with fail
                            go_roundw
                            case rel => exact ⟨t + 1, _, by omega, by go_num, rfl⟩
                            case measure => simp [intOf]; omega
                      · obtain rfl : t = 64 := by omega
                        have htl' : ¬ ((64 : Nat) : Int) < 64 := by omega
                        go_wp2_with fail
                        go_roundw
                        case rel => exact ⟨j + 1, (j : Int) + 1, by omega, by omega, by go_num, F4.out.below (below_drewN (Below.refl _ _) _), W4.out.below (below_drewN (Below.refl _ _) _)⟩
                        case measure => simp [intOf]; omega
                  · have hlt' : ¬ z < 4 := by omega
                    go_wp2_with (go_at_call 9; with_reducible refine (awake_any _).mono ?_; rintro e w' ⟨rfl, hb⟩)
                    go_ret
                    exact ⟨rfl, hR.out.1.bel.trans (hb.mono hR.out.1.bel.size)⟩
end Go.Proofs.Ytbahhdocjnmncaa
