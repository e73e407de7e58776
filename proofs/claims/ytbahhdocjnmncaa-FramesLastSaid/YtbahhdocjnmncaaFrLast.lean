/-
  The walk of FramesLast.
-/
import Derived.Test.YtbahhdocjnmncaaFrAwake
import Derived.Test.YtbahhdocjnmncaaFrLow
namespace Go.Proofs.Ytbahhdocjnmncaa
open Go.ChangeShapes Go.WideShapes Go.ChangeAt Go.RowKit
set_option linter.unusedVariables false
/-- Frames of thirty, of which f are free that were never taken, and G that came back. -/
def Lst (w : World) (H A Q : Nat) (f : Nat) (G : List Nat) : Prop := ∃ s, Fr w H A Q s ∧ s.n = 30 ∧ s.fr = fallen 30 f ++ G
theorem Lst.take {w : World} {H A Q f : Nat} (h : Lst w H A Q (f + 1) []) :
    Calls Try.prog 13 #[.pointer (some ⟨H, 0, none⟩)] w fun e w' => e = .returned (.tuple #[.int .i64 ((29 - f : Nat) : Int), .int .i64 0]) ∧ Lst w' H A Q f [] ∧ Touch (Blk H A Q) w w' := by
  obtain ⟨s, h1, h2, h3⟩ := h
  rw [List.append_nil, fallen_succ] at h3
  refine (take_ok h1 h3).mono ?_
  rintro e w' ⟨rfl, f2, t2⟩
  exact ⟨rfl, ⟨_, f2, h2, (List.append_nil _).symm⟩, t2⟩
theorem Lst.back {w : World} {H A Q f : Nat} {G : List Nat} {x : Nat} (h : Lst w H A Q f (G ++ [x])) :
    Calls Try.prog 13 #[.pointer (some ⟨H, 0, none⟩)] w fun e w' => e = .returned (.tuple #[.int .i64 (x : Nat), .int .i64 0]) ∧ Lst w' H A Q f G ∧ Touch (Blk H A Q) w w' := by
  obtain ⟨s, h1, h2, h3⟩ := h
  rw [← List.append_assoc] at h3
  refine (take_ok h1 h3).mono ?_
  rintro e w' ⟨rfl, f2, t2⟩
  exact ⟨rfl, ⟨_, f2, h2, rfl⟩, t2⟩
theorem Lst.give {w : World} {H A Q f : Nat} {G : List Nat} {i : Nat} (h : Lst w H A Q f G) (hf : f ≤ 30) (hi : i < 30 - f) (hG : ∀ g ∈ G, g ≠ i) :
    Calls Try.prog 15 #[.pointer (some ⟨H, 0, none⟩), .int .i64 (i : Nat)] w fun e w' => e = .returned (.int .i64 0) ∧ Lst w' H A Q f (G ++ [i]) ∧ Touch (Blk H A Q) w w' := by
  obtain ⟨s, h1, h2, h3⟩ := h
  have hi2 : i < s.n := by omega
  have ht : s.tk i = true := by
    cases e : s.tk i with
    | true => rfl
    | false =>
      have hm := (h1.good.free i hi2).2 e
      rw [h3] at hm
      rcases List.mem_append.1 hm with hm | hm
      · have := (fallen_mem hf).1 hm; omega
      · exact absurd rfl (hG i hm)
  refine (give_ok h1 i hi2 ht).mono ?_
  rintro e w' ⟨rfl, f2, t2⟩
  exact ⟨rfl, ⟨_, f2, h2, by show s.fr ++ [i] = _; rw [h3, List.append_assoc]⟩, t2⟩
theorem Lst.twice {w : World} {H A Q f : Nat} {G : List Nat} {i : Nat} (h : Lst w H A Q f (G ++ [i])) (hi : i < 30) :
    Calls Try.prog 15 #[.pointer (some ⟨H, 0, none⟩), .int .i64 (i : Nat)] w fun e w' => e = .returned (.int .i64 4) ∧ w = w' := by
  obtain ⟨s, h1, h2, h3⟩ := h
  have hi2 : i < s.n := by omega
  have ht : s.tk i = false := (h1.good.free i hi2).1 (by rw [h3]; simp)
  have c := code_none (off := 0) (n := 0) hi2 fit00 ht
  have := give_err h1 (i : Nat) (by rw [c]; decide)
  rw [c] at this
  exact this
theorem Lst.keep {S : Nat → Prop} {w w' : World} {H A Q f : Nat} {G : List Nat} (h : Lst w H A Q f G) (t : Touch S w w') (d : ∀ i, Blk H A Q i → ¬ S i) : Lst w' H A Q f G := by
  obtain ⟨s, h1, h2⟩ := h
  exact ⟨s, h1.touch t d, h2⟩
theorem Lst.lt {w : World} {H A Q f : Nat} {G : List Nat} (h : Lst w H A Q f G) : ∀ i, Blk H A Q i → i < w.heap.size := by
  obtain ⟨s, h1, _⟩ := h
  rintro i (rfl | rfl | rfl)
  · exact h1.ltH
  · exact h1.ltA
  · exact h1.ltQ
theorem own_slice {w : World} {B : Nat} {e : TypeId} {z n : Nat} {v : Value} {xs : List Value} (h : w.ownsRow B e z v n xs) : ∃ a c, v = .slice a n c := by
  rcases h.2 with ⟨rfl, rfl⟩ | ⟨g, cap, cur, rfl, _⟩
  · exact ⟨none, 0, rfl⟩
  · exact ⟨_, _, rfl⟩
theorem take_last {α : Type} {G : List α} {m : Nat} (h : m ≤ G.length) (h0 : 0 < m) : ∃ y, G.take m = G.take (m - 1) ++ [y] ∧ G[m - 1]? = some y := by
  obtain ⟨k, rfl⟩ : ∃ k, m = k + 1 := ⟨m - 1, by omega⟩
  refine ⟨G[k], ?_, ?_⟩
  · rw [List.take_succ_eq_append_getElem (by omega)]; rfl
  · exact List.getElem?_eq_getElem (by omega)
theorem last_next {w wr w2 w' : World} {H A Q f j : Nat} {G : List Nat} {v v' : Value} {o : Obj} (hb : Below w.heap.size w wr) (ho : wr.ownsRow w.heap.size 3 1 v G.length ((nums G).map (Value.int .i64))) (hv : ∀ g, v.ownBlock = some g → ¬ Blk H A Q g)
    (l2 : Lst w2 H A Q f (G ++ [j])) (t2 : Touch (Blk H A Q) wr w2) (HB : ∀ i, Blk H A Q i → w.heap.size ≤ i) (o' : w'.ownsRow w.heap.size 3 1 v' (G.length + 1) ((nums G).map (Value.int .i64) ++ [(j : Int)].map (Value.int .i64))) (g' : (w2.alloc o).grownBy w' v.ownBlock) (t' : v'.ownBlock = v.ownBlock ∨ v'.ownBlock = some (w2.alloc o).heap.size) :
    Lst w' H A Q f (G ++ [j]) ∧ Below w.heap.size w w' ∧ w'.ownsRow w.heap.size 3 1 v' (G ++ [j]).length ((nums (G ++ [j])).map (Value.int .i64)) ∧ ∀ g, v'.ownBlock = some g → ¬ Blk H A Q g := by
  have tw : Touch (fun g => v.ownBlock = some g) w2 w' := ((Touch.refl (fun g => v.ownBlock = some g) w2).alloc o).trans (Touch.of_grown (S := fun g => v.ownBlock = some g) g' (fun g e => e)) (fun _ e => .inl e)
  have hb2 : Below w.heap.size w w2 := hb.trans (t2.below hb.size HB)
  refine ⟨l2.keep tw (fun i hi e => hv i e hi), hb2.trans (tw.below hb2.size (fun i e => (ho.lt i e).1)), ?_, fun g hg hB => ?_⟩
  · have e4 : (nums (G ++ [j])).map (Value.int .i64) = (nums G).map (Value.int .i64) ++ [(j : Int)].map (Value.int .i64) := by simp [nums]
    rw [e4, List.length_append]; exact o'
  · rcases t' with e | e
    · exact hv g (e ▸ hg) hB
    · rw [e] at hg
      injection hg with hg
      have := l2.lt g hB
      have z : (w2.alloc o).heap.size = w2.heap.size + 1 := by simp
      omega
set_option maxRecDepth 10000 in
set_option maxHeartbeats 2000000 in
theorem walk_framesLast (w : World) (x : Int) (wx : (Lit.int .i64 x).wf = true) (back : Int) (wb : (Lit.int .u32 back).wf = true) : Calls Try.prog 7 #[.int .i64 x, .int .u32 back] w fun e w' => e = .returned (.bool true) ∧ Below w.heap.size w w' := by
  obtain ⟨i0, hi0, hz0, hz1, hz2⟩ := info_parts int_info
  clear wx
  have WB := hide wb
  clear wb
  go_enter Try.func7, Try.ntmps7
  go_wp2_with (go_at_call 29; refine (low_any x 20 _ (by omega) (by omega)).mono ?_; rintro e w' ⟨⟨r, hr, rfl⟩, rfl⟩; have r0 : (0 : Int) ≤ (r : Int) := (by omega); have r1 : (r : Int) ≤ 19 := (by omega))
  go_at_call 10
  refine (new_ok _ 30 (by omega) (by omega)).mono ?_
  rintro e w1 ⟨H, A, Q, rfl, f1, b1, hb⟩
  have L1 : Hid (Lst w1 H A Q 30 []) := (show Lst w1 H A Q 30 [] from ⟨_, f1, rfl, (List.append_nil _).symm⟩)
  have B1 := hide b1
  have HB := hide hb
  clear f1 b1 hb
  obtain ⟨n, hn⟩ : ∃ n : Nat, n = r + 1 := ⟨_, rfl⟩
  go_wp2_with fail
  first | rw [show (r : Int) + 1 = (n : Int) by omega] | rw [show 1 + (r : Int) = (n : Int) by omega]
  have n0 : 1 ≤ n := by omega
  have n1 : n ≤ 20 := by omega
  clear r0 r1 hr hn
  go_loopw [7] (fun i wr => ∃ k : Nat, k ≤ n ∧ i = .int .i64 (k : Int) ∧ Hid (Lst wr H A Q (30 - k) [] ∧ Below w.heap.size w wr)) (fun i _ => n - (intOf i).toNat)
  case atStart => exact ⟨0, Nat.zero_le _, rfl, L1.out, B1.out⟩
  case round =>
    clear L1 B1
    obtain ⟨k, hk, rfl, hR⟩ := hrel
    by_cases hlt : k < n
    · have hL : Hid (Lst wr H A Q (29 - k + 1) []) := (show Lst wr H A Q (29 - k + 1) [] by rw [show 29 - k + 1 = 30 - k by omega]; exact hR.out.1)
      have ek : ((29 - (29 - k) : Nat) : Int) = (k : Int) := by omega
      have eb : ((k : Int) != (k : Int)) = false := by simp
      go_wp2_with (go_at_call 13; refine hL.out.take.mono ?_; rw [ek]; rintro e w2 ⟨rfl, l2, t2⟩; have L2 := hide l2; have T2 := hide t2; clear l2 t2)
      go_roundw
      case rel => exact ⟨k + 1, by omega, by go_num, by rw [show 30 - (k + 1) = 29 - k by omega]; exact L2.out, hR.out.2.trans (T2.out.below hR.out.2.size HB.out)⟩
      case measure => simp [intOf]; omega
    · obtain rfl : k = n := by omega
      have f0 : (wr.ownsRow w.heap.size 3 1 (.slice none 0 0) 0 []) := World.ownsRow_nil _ _ _ _
      have R0 := hide f0
      clear f0
      go_wp2_with fail
      go_loopw [11, 10] (fun i v wr => ∃ (j : Nat) (G : List Nat), j ≤ k ∧ i = .int .i64 (j : Int) ∧ Hid (Lst wr H A Q (30 - k) G ∧ Below w.heap.size w wr ∧ wr.ownsRow w.heap.size 3 1 v G.length ((nums G).map (Value.int .i64)) ∧ (∀ g, v.ownBlock = some g → ¬ Blk H A Q g) ∧ (∀ g ∈ G, g < j) ∧ G.length ≤ j)) (fun i _ _ => k - (intOf i).toNat)
      case atStart => exact ⟨0, [], Nat.zero_le _, rfl, hR.out.1, hR.out.2, R0.out, (fun g hg => by cases hg), (fun g hg => by cases hg), Nat.le_refl _⟩
      case round =>
        clear R0 hR
        obtain ⟨j, G, hj, rfl, hR⟩ := hrel
        by_cases hlt : j < k
        · go_wp2_with (first
            | (go_at_call 15; refine (hR.out.1.give (i := j) (by omega) (by omega) (fun g hg e => by have := hR.out.2.2.2.2.1 g hg; omega)).mono ?_; rintro e w2 ⟨rfl, l2, t2⟩; have L2 := hide l2; have T2 := hide t2; clear l2 t2)
            | (go_at_call 15; refine (L2.out.twice (by omega)).mono ?_; rintro e w3 ⟨rfl, rfl⟩; have O2 := hide (T2.out.own hR.out.2.2.1 hR.out.2.2.2.1); have len1 := hR.out.2.2.2.2.2)
            | (at_builtin; refine wpList_append_src rfl (.tmp 67) (.tmp 69) _ rfl w.heap.size 3 i0 _ 8 Try.underlying61 hi0 hz0 hz1 hz2 rfl _ _ _ rfl (O2.out.alloc _) .i64 _ 1 _ [(j : Int)] rfl (ints_cell1 _ _ _ _ _ rfl) (fun h => by cases h) (by unfold maxLen; omega) (by omega) (by have := hR.out.2.1.size; have := T2.out.size; simp; omega) ?_; intro v' w' o' g' t'; have NX := hide (last_next hR.out.2.1 hR.out.2.2.1 hR.out.2.2.2.1 L2.out T2.out HB.out o' g' t'); clear o' g' t'))
          · go_roundw
            case rel => exact ⟨j + 1, G ++ [j], by omega, by go_num, NX.out.1, NX.out.2.1, NX.out.2.2.1, NX.out.2.2.2, (fun g hg => by rcases List.mem_append.1 hg with h | h; (have := hR.out.2.2.2.2.1 g h; omega); (rw [List.mem_singleton] at h; omega)), (by have := hR.out.2.2.2.2.2; simp; omega)⟩
            case measure => simp [intOf]; omega
          · go_roundw
            case rel => exact ⟨j + 1, G, by omega, by go_num, hR.out.1, hR.out.2.1, hR.out.2.2.1, hR.out.2.2.2.1, (fun g hg => by have := hR.out.2.2.2.2.1 g hg; omega), (by have := hR.out.2.2.2.2.2; omega)⟩
            case measure => simp [intOf]; omega
        · obtain rfl : j = k := by omega
          obtain ⟨a, c, rfl⟩ := own_slice hR.out.2.2.1
          have len1 := hR.out.2.2.2.2.2
          have LG : Hid (Lst wr H A Q (30 - j) (G.take G.length)) := (show Lst wr H A Q (30 - j) (G.take G.length) by rw [List.take_length]; exact hR.out.1)
          have z0 : IntKind.i64.wrap ((G.length : Int) - 1) = (G.length : Int) - 1 := by rw [IntKind.wrap_i64]; omega
          go_wp2_with fail
          go_loopw [12] (fun i wx => ∃ (m : Nat) (z : Int), m ≤ G.length ∧ z = (m : Int) - 1 ∧ i = .int .i64 z ∧ Hid (Lst wx H A Q (30 - j) (G.take m) ∧ Below w.heap.size w wx ∧ wx.ownsRow w.heap.size 3 1 (.slice a G.length c) G.length ((nums G).map (Value.int .i64)))) (fun i _ => (intOf i + 1).toNat)
          case atStart => exact ⟨G.length, _, Nat.le_refl _, rfl, rfl, LG.out, hR.out.2.1, hR.out.2.2.1⟩
          case round =>
            clear LG z0
            obtain ⟨m, z, hm, hz, rfl, hX⟩ := hrel
            by_cases hm0 : 0 < m
            · obtain ⟨y, hy⟩ : ∃ y, G.take m = G.take (m - 1) ++ [y] ∧ G[m - 1]? = some y := take_last hm hm0
              have LY : Hid (Lst wr H A Q (30 - j) (G.take (m - 1) ++ [y])) := (show Lst wr H A Q (30 - j) (G.take (m - 1) ++ [y]) by rw [← hy.1]; exact hX.out.1)
              obtain ⟨g, hg⟩ : ∃ g, a = some ⟨g, 0, none⟩ := by
                rcases hX.out.2.2.2 with ⟨_, h⟩ | ⟨g, cap, cur, e, _⟩
                · omega
                · injection e with e _ _; exact ⟨g, e⟩
              subst hg
              have hv := hR.out.2.2.2.1
              have z1 : (0 : Int) ≤ z := by omega
              have z2 : z < (G.length : Int) := by omega
              have z3 : z.toNat = m - 1 := by omega
              have z4 : z ≤ 30 := by omega
              have HZ := hide hz
              have ey : ((y : Int) != (y : Int)) = false := by simp
              clear hz
              go_wp2_with (go_at_call 13; refine LY.out.back.mono ?_; rintro e w2 ⟨rfl, l2, t2⟩; have O2 := t2.own hX.out.2.2 hv; have c2 : w2.cell? ⟨g, m - 1, none⟩ = some (.int .i64 (y : Int)) := (by rw [O2.cellAt (m - 1) (by omega)]; simp [nums, hy.2]); have L2 := hide l2; have T2 := hide t2; have O3 := hide O2; clear l2 t2 O2)
              go_roundw
              case rel => exact ⟨m - 1, z - 1, by omega, by have := HZ.out; omega, by go_num, L2.out, hX.out.2.1.trans (T2.out.below hX.out.2.1.size HB.out), O3.out⟩
              case measure => have := HZ.out; simp [intOf]; omega
            · obtain rfl : m = 0 := by omega
              have z1 : ¬ (0 : Int) ≤ z := by omega
              have LE : Hid (Lst wr H A Q (29 - j + 1) []) := (show Lst wr H A Q (29 - j + 1) [] by rw [show 29 - j + 1 = 30 - j by omega]; exact hX.out.1)
              have ek : ((29 - (29 - j) : Nat) : Int) = (j : Int) := by omega
              have eb : ((j : Int) == (j : Int)) = true := by simp
              clear hz
              go_wp2_with (first
                | (go_at_call 13; refine LE.out.take.mono ?_; rw [ek]; rintro e w2 ⟨rfl, l2, t2⟩; have T2 := hide t2; clear l2 t2)
                | (go_at_call 9; with_reducible refine (awake_any _).mono ?_; rintro e w' ⟨rfl, hb⟩))
              go_ret
              exact ⟨rfl, hX.out.2.1.trans ((T2.out.below hX.out.2.1.size HB.out).trans (hb.mono (Nat.le_trans hX.out.2.1.size T2.out.size)))⟩
end Go.Proofs.Ytbahhdocjnmncaa
