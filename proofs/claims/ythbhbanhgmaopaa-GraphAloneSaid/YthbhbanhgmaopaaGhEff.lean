/-
  The document's own Effective (coxswainref11).
-/
import Derived.Test.YthbhbanhgmaopaaGhReg
import Derived.Test.YthbhbanhgmaopaaGPrios
namespace Go.Proofs.Ythbhbanhgmaopaa
open Go.ChangeShapes Go.WideShapes Go.ChangeAt Go.RowKit
set_option linter.unusedVariables false
/-- Whose priority counts of i, behind k rounds. -/
def bestG (ws os : List Int) (ps : List Pr) (i : Nat) : Nat → Pr
  | 0 => ps.getD i prD
  | k + 1 => if (i : Int) ∈ chainG ws os ps.length k ∧ 0 < cmpP (ps.getD k prD) (bestG ws os ps i k) then ps.getD k prD else bestG ws os ps i k
def effG (ws os : List Int) (ps : List Pr) : List Pr := (List.range ps.length).map fun i => bestG ws os ps i ps.length
theorem effG_length (ws os : List Int) (ps : List Pr) : (effG ws os ps).length = ps.length := by simp [effG]
theorem effG_at {ws os : List Int} {ps : List Pr} {i : Nat} (h : i < ps.length) : (effG ws os ps)[i]? = some (bestG ws os ps i ps.length) := by simp [effG, h]
theorem effG_take {ws os : List Int} {ps : List Pr} {i : Nat} (h : i < ps.length) : (effG ws os ps).take (i + 1) = (effG ws os ps).take i ++ [bestG ws os ps i ps.length] := by
  have hl : i < (effG ws os ps).length := by rw [effG_length]; exact h
  rw [List.take_succ_eq_append_getElem hl]
  have := effG_at (ws := ws) (os := os) h
  rw [List.getElem?_eq_getElem hl] at this
  injection this with this
  rw [this]
theorem reads_pr {w : World} {a : Option Addr} {n : Nat} {xs : List Pr} (h : Reads 3 prVals w a n xs) {i : Nat} (hi : i < n) : ∃ b off, a = some ⟨b, off, none⟩ ∧ w.cell? ⟨b, off + i * 3, none⟩ = some (.int .i64 (xs.getD i prD).c) ∧ w.cell? ⟨b, off + i * 3 + 1, none⟩ = some (.int .i64 (xs.getD i prD).l) ∧ w.cell? ⟨b, off + i * 3 + 2, none⟩ = some (.int .i64 (xs.getD i prD).d) := by
  obtain ⟨x, b, off, hx, rfl, hc⟩ := h.at_ hi
  have e : xs.getD i prD = x := by rw [List.getD_eq_getElem?_getD, hx]; rfl
  rw [e]
  exact ⟨b, off, rfl, hc 0 _ rfl, hc 1 _ rfl, hc 2 _ rfl⟩
set_option maxRecDepth 10000 in
set_option maxHeartbeats 8000000 in
theorem reff_any (pa : Option Addr) (n cn : Nat) (ps : List Pr) (a : Option Addr) (p ca : Nat) (ws : List Int) (b : Option Addr) (q cb : Nat) (os : List Int) (w : World) (hr : Reads 3 prVals w pa n ps) (ha : Ints .i64 w a p ws) (hb : Ints .i64 w b q os) (hp : p ≤ maxLen) (hq : q ≤ maxLen) (hn : n ≤ 1000) :
    Calls Try.prog 23 #[.slice pa n cn, .slice a p ca, .slice b q cb] w fun e w' => ∃ v, e = .returned v ∧ w'.ownsRow w.heap.size 39 3 v n ((effG ws os ps).flatMap prVals) ∧ Below w.heap.size w w' := by
  obtain ⟨i0, hi0, hz0, hz1, hz2⟩ := info_parts prio_info
  have HZ := hide hz2
  have HR := hide (fun (W : World) (bw : Below w.heap.size w W) => hr.below bw)
  have hl := hr.1
  have CH := hide (fun (W : World) (bw : Below w.heap.size w W) (k : Nat) => chain_form a p ca ws b q cb os n (k : Int) W (ha.below bw) (hb.below bw) hp hq hn)
  have INY := hide (fun (i k : Nat) (hm : (i : Int) ∈ chainG ws os n k) (W : World) (B : Nat) (a3 : Option Addr) (c3 : Nat) (h : W.ownsRow B 3 1 (.slice a3 (chainG ws os n k).length c3) (chainG ws os n k).length ((chainG ws os n k).map (Value.int .i64))) => show Calls Try.prog 33 #[.slice a3 (chainG ws os n k).length c3, .int .i64 (i : Int)] W fun e w' => e = .returned (.bool true) ∧ W = w' from by
    have := rin11_any a3 _ c3 (chainG ws os n k) (i : Int) W (own_intsI h rfl) (by have := chainG_few ws os n k; unfold maxLen; omega)
    rw [decide_eq_true hm] at this
    exact this)
  have INN := hide (fun (i k : Nat) (hm : (i : Int) ∉ chainG ws os n k) (W : World) (B : Nat) (a3 : Option Addr) (c3 : Nat) (h : W.ownsRow B 3 1 (.slice a3 (chainG ws os n k).length c3) (chainG ws os n k).length ((chainG ws os n k).map (Value.int .i64))) => show Calls Try.prog 33 #[.slice a3 (chainG ws os n k).length c3, .int .i64 (i : Int)] W fun e w' => e = .returned (.bool false) ∧ W = w' from by
    have := rin11_any a3 _ c3 (chainG ws os n k) (i : Int) W (own_intsI h rfl) (by have := chainG_few ws os n k; unfold maxLen; omega)
    rw [decide_eq_false hm] at this
    exact this)
  have HL := hide hl
  have n63 : (n : Int) ≤ 9223372036854775807 := by omega
  have HN := hide hn
  clear hr ha hb hp hq hz2 hl hn
  go_enter Try.func23, Try.ntmps23
  go_wp2_with fail
  go_loopw [7, 8] (fun v iv wr => ∃ i : Nat, i ≤ n ∧ iv = .int .i64 (i : Int) ∧ Hid (wr.ownsRow w.heap.size 39 3 v i (((effG ws os ps).take i).flatMap prVals) ∧ Below w.heap.size w wr)) (fun _ iv _ => n - (intOf iv).toNat)
  case atStart => exact ⟨0, Nat.zero_le _, rfl, World.ownsRow_nil _ _ _ _, Below.refl _ _⟩
  case round =>
    obtain ⟨i, hi, rfl, hZ⟩ := hrel
    rename World => w1
    have O1 := hide hZ.out.1
    have B1 := hide hZ.out.2
    clear hZ
    by_cases hlt : i < n
    · have j0 : (0 : Int) ≤ (i : Int) := by omega
      have j1 : (i : Int) < (n : Int) := by omega
      obtain ⟨pb, po, rfl, y0, y1, y2⟩ := reads_pr (HR.out w1 B1.out) hlt
      obtain ⟨g0, hg0⟩ : ∃ g0, g0 = ps.getD i prD := ⟨_, rfl⟩
      rw [← hg0] at y0 y1 y2
      have X1 := hide (show PrAt (w1.alloc (.cells #[.int .i64 g0.c, .int .i64 g0.l, .int .i64 g0.d] 39)) w1.heap.size g0.c g0.l g0.d from heap_alloc_new _ _)
      have B2 := hide ((Below.refl w1.heap.size w1).alloc (Nat.le_refl _) (.cells #[.int .i64 g0.c, .int .i64 g0.l, .int .i64 g0.d] 39))
      obtain ⟨X, hX⟩ : ∃ X, X = w1.heap.size := ⟨_, rfl⟩
      have G0 := hide (show bestG ws os ps i 0 = g0 from hg0.symm)
      clear hg0
      go_upto_region 6 with fail
      generalize w1.alloc (.cells #[.int .i64 g0.c, .int .i64 g0.l, .int .i64 g0.d] 39) = w2 at *
      rw [← hX] at X1 ⊢
      have HX := hide hX
      clear y0 y1 y2 hX
      go_wp2_with fail
      go_loopw [10] (fun kv wr => ∃ k : Nat, k ≤ n ∧ kv = .int .i64 (k : Int) ∧ Hid (PrAt wr X (bestG ws os ps i k).c (bestG ws os ps i k).l (bestG ws os ps i k).d ∧ Below w1.heap.size w1 wr)) (fun kv _ => n - (intOf kv).toNat)
      case atStart => exact ⟨0, Nat.zero_le _, rfl, by rw [G0.out]; exact ⟨X1.out, B2.out⟩⟩
      case round =>
        obtain ⟨k, hk, rfl, hY⟩ := hrel
        clear X1 B2
        obtain ⟨m, hm⟩ : ∃ m, m = bestG ws os ps i k := ⟨_, rfl⟩
        rw [← hm] at hY
        have XM := hide hY.out.1
        have B3 := hide hY.out.2
        have BW := hide (B1.out.trans (hY.out.2.mono B1.out.size))
        clear hY
        by_cases hkl : k < n
        · have k0 : (0 : Int) ≤ (k : Int) := by omega
          have k1 : (k : Int) < (n : Int) := by omega
          obtain ⟨pb', po', e9, c0, c1, c2⟩ := reads_pr (HR.out wr BW.out) hkl
          injection e9 with e9
          injection e9 with e9 e8
          subst e9 e8
          obtain ⟨y, hy⟩ : ∃ y, y = ps.getD k prD := ⟨_, rfl⟩
          rw [← hy] at c0 c1 c2
          have HB := hide (show bestG ws os ps i (k + 1) = if (i : Int) ∈ chainG ws os n k ∧ 0 < cmpP y m then y else m from by
            have hl := HL.out
            show (if (i : Int) ∈ chainG ws os ps.length k ∧ 0 < cmpP (ps.getD k prD) (bestG ws os ps i k) then ps.getD k prD else bestG ws os ps i k) = _
            rw [← hm, ← hy, hl])
          have CC := hide (fun (W : World) (bw : Below wr.heap.size wr W) => show (W.cell? ⟨pb, po + k * 3, none⟩ = some (.int .i64 y.c) ∧ W.cell? ⟨pb, po + k * 3 + 1, none⟩ = some (.int .i64 y.l) ∧ W.cell? ⟨pb, po + k * 3 + 2, none⟩ = some (.int .i64 y.d)) ∧ (W.cell? ⟨X, 0, none⟩ = some (.int .i64 m.c) ∧ W.cell? ⟨X, 1, none⟩ = some (.int .i64 m.l) ∧ W.cell? ⟨X, 2, none⟩ = some (.int .i64 m.d)) from by
            have hh := fun (a : Addr) (q : Value) (h : wr.cell? a = some q) => (bw.cell (p := a) (lt_of_cell? h)).trans h
            exact ⟨⟨hh _ _ c0, hh _ _ c1, hh _ _ c2⟩, (XM.out.below bw).cells⟩)
          have CHN := hide (fun (W : World) (bw : Below wr.heap.size wr W) => CH.out W (BW.out.trans (bw.mono BW.out.size)) k)
          clear c0 c1 c2 hy hm
          go_upto_region 9 with fail
          by_cases hm : (i : Int) ∈ chainG ws os n k
          · have IN := hide (INY.out i k hm)
            obtain ⟨z, hz⟩ : ∃ z, z = cmpP y m := ⟨_, rfl⟩
            have CMP := hide (fun (W : World) => show Calls Try.prog 37 #[.agg #[.int .i64 y.c, .int .i64 y.l, .int .i64 y.d], .agg #[.int .i64 m.c, .int .i64 m.l, .int .i64 m.d]] W fun e w' => e = .returned (.int .i64 z) ∧ Below W.heap.size W w' from by rw [hz]; exact rcmp_any W y.c y.l y.d m.c m.l m.d)
            rw [← hz] at HB
            refine ghreg_yes (y := y) (m := m) k0 k1 CC CHN IN CMP ?_
            show ∀ (a : Act) (w7 : World), _
            intro a7 w7 b7 u27 u28 u29 u30 u31 u32 u33 u34 u35 u36 u37 u38 u39 u40 u41 u42 ea
            subst ea
            have B7 := hide b7
            have C7 := hide (CC.out w7 b7)
            have X7 := hide (XM.out.below b7)
            clear b7
            by_cases hg : 0 < z
            · have HB2 := hide (show bestG ws os ps i (k + 1) = y from by rw [HB.out, if_pos ⟨hm, hg⟩])
              obtain ⟨⟨d0, d1, d2⟩, _⟩ := C7.out
              have fx := X7.out.frozen
              obtain ⟨f0, f1, f2⟩ : w7.frozen? ⟨X, 0, none⟩ = false ∧ w7.frozen? ⟨X, 1, none⟩ = false ∧ w7.frozen? ⟨X, 2, none⟩ = false := ⟨fx 0, fx 1, fx 2⟩
              obtain ⟨x0, x1, x2⟩ := X7.out.cells
              have T := hide ((((Touch.refl (fun i => i = X) w7).setCell (p := ⟨X, 0, none⟩) rfl (.int .i64 y.c)).setCell (p := ⟨X, 1, none⟩) rfl (.int .i64 y.l)).setCell (p := ⟨X, 2, none⟩) rfl (.int .i64 y.d))
              have X8 := hide (X7.out.set y.c y.l y.d)
              have KM := hide (show k + 1 ≤ n from by omega)
              clear fx hm hz
              go_wp2_with fail
              go_roundw
              case rel =>
                refine ⟨k + 1, KM.out, by go_num, ?_⟩
                rw [HB2.out]
                have b9 := B3.out.trans (B7.out.mono B3.out.size)
                exact ⟨X8.out, b9.trans (T.out.below b9.size (fun i e => by rw [e, HX.out]; exact Nat.le_refl _))⟩
              case measure => have h9 := KM.out; simp [intOf]; omega
            · have HB2 := hide (show bestG ws os ps i (k + 1) = m from by rw [HB.out, if_neg (fun h => hg h.2)])
              have KM := hide (show k + 1 ≤ n from by omega)
              clear hm hz
              go_wp2_with fail
              go_roundw
              case rel =>
                refine ⟨k + 1, KM.out, by go_num, ?_⟩
                rw [HB2.out]
                exact ⟨X7.out, B3.out.trans (B7.out.mono B3.out.size)⟩
              case measure => have h9 := KM.out; simp [intOf]; omega
          · have IN := hide (INN.out i k hm)
            have HB2 := hide (show bestG ws os ps i (k + 1) = m from by rw [HB.out, if_neg (fun h => hm h.1)])
            refine ghreg_no (y := y) (m := m) k0 k1 CC CHN IN ?_
            show ∀ (a : Act) (w7 : World), _
            intro a7 w7 b7 u27 u28 u29 u30 u31 u32 u33 u34 u35 u36 u37 u38 u39 u40 u41 u42 ea
            subst ea
            have B7 := hide b7
            have X7 := hide (XM.out.below b7)
            have KM := hide (show k + 1 ≤ n from by omega)
            clear b7 hm
            go_wp2_with fail
            go_roundw
            case rel =>
              refine ⟨k + 1, KM.out, by go_num, ?_⟩
              rw [HB2.out]
              exact ⟨X7.out, B3.out.trans (B7.out.mono B3.out.size)⟩
            case measure => have h9 := KM.out; simp [intOf]; omega
        · obtain rfl : k = n := by omega
          have k1 : ¬ (k : Int) < (k : Int) := by omega
          obtain ⟨x0, x1, x2⟩ := XM.out.cells
          have O9 := hide ((Touch.of_below (S := fun _ => False) B3.out).own O1.out (fun _ _ e => e))
          have RB := hide (show Reads 3 prVals (wr.alloc (.cells #[.int .i64 m.c, .int .i64 m.l, .int .i64 m.d] 39)) (some ⟨wr.heap.size, 0, none⟩) 1 [m] from by
            have hb := heap_alloc_new wr (.cells #[.int .i64 m.c, .int .i64 m.l, .int .i64 m.d] 39)
            refine ⟨rfl, fun _ => ⟨wr.heap.size, 0, rfl, fun i x hx j u hu => ?_⟩⟩
            have hi : i = 0 := by
              have := (List.getElem?_eq_some_iff.1 hx).1
              simp at this; omega
            subst hi
            injection hx with hx
            subst hx
            rw [Nat.zero_mul, Nat.zero_add, cell_of_row _ _ _ _ _ _ hb, List.getElem?_toArray]
            exact hu)
          have EF := hide (show (effG ws os ps).take (i + 1) = (effG ws os ps).take i ++ [m] from by
            have hl := HL.out
            rw [effG_take (by omega), hm, hl])
          have IL := hide (show i + 1 ≤ k from by omega)
          have SZ := hide (show w.heap.size ≤ wr.heap.size from BW.out.size)
          clear hm
          go_wp2_with (at_builtin; refine wpList_append_reads rfl (.tmp 48) (.tmp 50) _ rfl w.heap.size 39 i0 _ 24 Try.underlying31 hi0 hz0 hz1 HZ.out rfl (by omega) _ _ _ rfl (O9.out.alloc _) _ 1 1 [m] rfl prVals_len prVals_cell RB.out (fun h => by cases h) (by have := HN.out; have := IL.out; unfold maxLen; omega) (by have := HN.out; have := IL.out; omega) (by have := SZ.out; simp; omega) ?_; intro v' w' o' g'; have OO := hide o'; have BB := hide ((BW.out.alloc SZ.out _).grown g' (by have := SZ.out; simp; omega) (own_lo O9.out)); clear o' g')
          go_roundw
          case rel =>
            refine ⟨i + 1, IL.out, by go_num, ?_⟩
            rw [EF.out, List.flatMap_append]
            exact ⟨OO.out, BB.out⟩
          case measure => have h9 := IL.out; simp [intOf]; omega
    · obtain rfl : i = n := by omega
      have j1 : ¬ (i : Int) < (i : Int) := by omega
      go_wp2_with fail
      go_ret
      have o := O1.out
      rw [List.take_of_length_le (by rw [effG_length, HL.out]; exact Nat.le_refl _)] at o
      exact ⟨_, rfl, o, B1.out⟩
end Go.Proofs.Ythbhbanhgmaopaa
