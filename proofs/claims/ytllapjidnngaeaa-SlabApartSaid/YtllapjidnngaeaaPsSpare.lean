/-
  The program's slab's search for a free piece (spare).
-/
import Derived.Test.YtllapjidnngaeaaPsMem
import Derived.Deep.MidRow
namespace Go.Proofs.Ytllapjidnngaeaa
open Go.ChangeShapes Go.WideShapes Go.ChangeAt Go.RowKit
set_option linter.unusedVariables false
theorem run_index_agg {P : Program} (w : World) {t e : TypeId} {n z : Nat} {i : TypeInfo} {d : TypeDesc} (ht : P.underlying t = some (.array n e)) (hu : P.underlying e = some d) (hd : d.isRow = true) (hi : P.info? e = some i) (hz : i.size = z)
    {cs : Array Value} {j : Nat} (hj : j < n) (k : IntKind) : (Instr.index t (.agg cs) (.int k (j : Int))).run P w = .ok (.agg (cs.extract (j * z) (j * z + z))) w := by
  have hb : 0 ≤ (j : Int) ∧ (j : Int) < (n : Int) := by omega
  have hc : P.cellsOf e = z := by simp [Program.cellsOf, hi, hz]
  have hagg : (isAgg e).run P w = .ok true w := by
    unfold isAgg
    rw [Sem.run_bind, run_underlying hu w]
    cases d <;> simp_all
  simp only [Instr.index, asIntOf, Sem.run_bind, Sem.run_pure, run_underlying ht, Result.andThen_ok, hb, and_self, if_true, run_sizeOf w hi, hc, Int.toNat_natCast, part, hagg]
theorem tabN_extract {T : Nat → Cu} {n j : Nat} (h : j < n) : (tabN T n).toArray.extract (j * 5) (j * 5 + 5) = #[.int .i64 ((T j).c : Int), .bool ((T j).tk 0), .bool ((T j).tk 1), .bool ((T j).tk 2), .bool ((T j).tk 3)] := by
  apply Array.ext'
  rw [Array.toList_extract]
  show (tabN T n).extract (j * 5) (j * 5 + 5) = cellsE (T j)
  have hl := tabN_length T n
  refine List.ext_getElem? fun q => ?_
  rw [List.extract_eq_take_drop, List.getElem?_take, List.getElem?_drop]
  have e : j * 5 + 5 - j * 5 = 5 := by omega
  rw [e]
  by_cases hq : q < 5
  · rw [if_pos hq, tabN_at q h hq]
  · rw [if_neg hq, List.getElem?_eq_none (by show 5 ≤ q; omega)]
theorem tab_type : Try.prog.underlying 71 = some (.array 64 70) := Try.underlying71
theorem cut_desc : ∃ d, Try.prog.underlying 70 = some d ∧ d.isRow = true := ⟨_, Try.underlying70, rfl⟩
theorem scut_info : (Try.prog.info? 70).map (fun i => (i.zero, i.size, i.bytes)) = some (some (.agg #[.int .i64 0, .bool false, .bool false, .bool false, .bool false]), 5, 16) := by kernel_rfl
theorem tab_info : (Try.prog.info? 71).map (·.size) = some 320 := by kernel_rfl
theorem tab_index (T : Nat → Cu) (j : Nat) (hj : j < 64) (w : World) : (Instr.index 71 (.agg (tabN T 64).toArray) (.int .i64 (j : Int))).run Try.prog w =
    .ok (.agg #[.int .i64 ((T j).c : Int), .bool ((T j).tk 0), .bool ((T j).tk 1), .bool ((T j).tk 2), .bool ((T j).tk 3)]) w := by
  obtain ⟨d, hu, hd⟩ := cut_desc
  obtain ⟨i0, hi0, hz0, hz1, hz2⟩ := info_parts scut_info
  rw [run_index_agg w tab_type hu hd hi0 hz1 hj .i64, tabN_extract hj]
/-- The table is read at one go. -/
theorem RowS.range {w : World} {S H : Nat} {T : Nat → Cu} (h : RowS w S H T) : w.rangeAt S 2 (tabN T 64) := fun j v hv => by
  have hl := tabN_length T 64
  have hj : j < 320 := Nat.lt_of_lt_of_eq (List.getElem?_eq_some_iff.mp hv).1 hl
  rw [cell_of_row _ _ _ _ _ _ h, List.getElem?_toArray]
  unfold cellsS
  rw [List.getElem?_append_right (by show 2 ≤ 2 + j; omega)]
  have : 2 + j - (headS H).length = j := by show 2 + j - 2 = j; omega
  rw [this]; exact hv
theorem tab_size (T : Nat → Cu) : (Try.prog.info? 71).map (·.size) = some (tabN T 64).length := by rw [tab_info, tabN_length]
theorem row4 {w : World} {Y : Nat} {u : Cu} (h : w.heap[Y]? = some (.cells #[.int .i64 (u.c : Int), .bool (u.tk 0), .bool (u.tk 1), .bool (u.tk 2), .bool (u.tk 3)] 70 (0, 0))) : w.cell? ⟨Y, 0, none⟩ = some (.int .i64 (u.c : Int)) ∧ ∀ j, j < 4 → w.cell? ⟨Y, 1 + j, none⟩ = some (.bool (u.tk j)) := by
  refine ⟨by rw [cell_of_row _ _ _ _ _ _ h]; rfl, fun j hj => ?_⟩
  rw [cell_of_row _ _ _ _ _ _ h]
  have := cellsE_tk u j hj
  rw [← this, ← List.getElem?_toArray]; rfl
/-- The blocks of spare: its result's and the table. -/
structure Sp (w wr : World) (X : Nat) : Prop where
  bel : Below w.heap.size w wr
  res : wr.heap[X]? = some (.cells #[.int .i64 0, .int .i64 0, .int .i64 0] 39 (0, 0))
theorem Sp.cut {w wr : World} {X : Nat} (h : Sp w wr X) (o : Obj) : Sp w (wr.alloc o) X :=
  ⟨h.bel.alloc h.bel.size o, (RowKit.Below.heap_alloc _ _ _ (lt_of_heap h.res)).trans h.res⟩
set_option maxRecDepth 10000 in
set_option maxHeartbeats 4000000 in
theorem spare_some {w : World} {S H : Nat} {T : Nat → Cu} (h : RowS w S H T) (c i0 k0 : Nat) (hcc : c = 16 ∨ c = 32 ∨ c = 64) (hi : i0 < 64) (hk : k0 < 64 / c) (hcl : (T i0).c = c) (hfree : (T i0).tk k0 = false) (htk : ∀ j, j < k0 → (T i0).tk j = true) (hfull : ∀ j, j < i0 → Full (T j) c (64 / c)) :
    Calls Try.prog 27 #[.pointer (some ⟨S, 0, none⟩), .int .i64 (c : Int)] w fun e w' => e = .returned (.tuple #[refV i0 k0 c, .bool true]) ∧ Below w.heap.size w w' := by
  obtain ⟨nz, hnz⟩ : ∃ nz, nz = 64 / c := ⟨_, rfl⟩
  have htd : Int.tdiv 64 (c : Int) = (nz : Int) := by rw [hnz]; rcases hcc with rfl | rfl | rfl <;> decide
  have hn4 : nz ≤ 4 := by rw [hnz]; rcases hcc with rfl | rfl | rfl <;> decide
  have cne : ¬ (c : Int) = 0 := by omega
  have cne' : ((c : Int) == 0) = false := by simpa using cne
  rw [← hnz] at hk hfull
  have HF := hide hfull
  have HT := hide htk
  have b0 := (Below.refl w.heap.size w).alloc (Nat.le_refl _) (.cells #[.int .i64 0, .int .i64 0, .int .i64 0] 39)
  have HX := hide (heap_alloc_new w (.cells #[.int .i64 0, .int .i64 0, .int .i64 0] 39))
  have LD := hide (show RowS _ S H T from (b0.block S (lt_of_heap h)).trans h).range
  have IX := hide (tab_index T)
  have HL := hide (lt_of_heap h)
  clear h hfull htk hcc hnz
  unfold refV
  go_enter Try.func27, Try.ntmps27
  go_wp2_with (refine wpList_load_mid rfl 71 (.tmp 11) rfl S 2 rfl (tabN T 64) _ LD.out tab_type rfl (tab_size T) ?_)
  have S0 := hide (show Sp w (w.alloc (.cells #[.int .i64 0, .int .i64 0, .int .i64 0] 39)) w.heap.size from ⟨b0, HX.out⟩)
  clear LD b0 HX
  generalize (tabN T 64).toArray = TA at *
  generalize w.alloc (.cells #[.int .i64 0, .int .i64 0, .int .i64 0] 39) = w0 at *
  obtain ⟨X, eX⟩ : ∃ X, X = w.heap.size := ⟨_, rfl⟩
  rw [← eX] at S0 ⊢
  have EX := hide eX
  clear eX
  go_loopw [13] (fun i wr => ∃ k : Nat, k ≤ i0 ∧ i = .int .i64 (k : Int) ∧ Hid (Sp w wr X)) (fun i _ => i0 - (intOf i).toNat)
  case atStart => exact ⟨0, Nat.zero_le _, rfl, S0⟩
  case round =>
    obtain ⟨k, hk1, rfl, hS⟩ := hrel
    clear S0
    have ix := IX.out k (by omega)
    have k0' : (0 : Int) ≤ (k : Int) := by omega
    have k1' : (k : Int) < 64 := by omega
    obtain ⟨u, hu⟩ : ∃ u, u = T k := ⟨_, rfl⟩
    rw [← hu] at ix
    have HU := hide hu
    clear hu
    have SN := hide (hS.out.cut (.cells #[.int .i64 (u.c : Int), .bool (u.tk 0), .bool (u.tk 1), .bool (u.tk 2), .bool (u.tk 3)] 70))
    have RN := hide (heap_alloc_new wr (.cells #[.int .i64 (u.c : Int), .bool (u.tk 0), .bool (u.tk 1), .bool (u.tk 2), .bool (u.tk 3)] 70))
    by_cases huc : u.c = c
    · have huc' : ((u.c : Int) != (c : Int)) = false := by simp [huc]
      have HC := hide huc
      clear huc
      go_wp2_with fail
      generalize wr.alloc (.cells #[.int .i64 (u.c : Int), .bool (u.tk 0), .bool (u.tk 1), .bool (u.tk 2), .bool (u.tk 3)] 70) = W at *
      generalize wr.heap.size = Y at *
      have CK := hide (row4 RN.out).2
      by_cases hki : k < i0
      · have FU := hide (show ∀ j, j < nz → u.tk j = true from by have := HF.out k hki; rw [← HU.out] at this; exact this.resolve_left (fun e => e HC.out))
        go_loop [23] (fun i => ∃ j : Nat, j ≤ nz ∧ i = .int .i64 (j : Int)) (fun i => nz - (intOf i).toNat)
        case atStart => exact ⟨0, Nat.zero_le _, rfl⟩
        case round =>
          obtain ⟨j, hj, rfl⟩ := hrel
          by_cases hjn : j < nz
          · have jn : (j : Int) < (nz : Int) := by omega
            have j0 : (0 : Int) ≤ (j : Int) := by omega
            have j4 : (j : Int) < 4 := by omega
            have cj := CK.out j (by omega)
            rw [FU.out j hjn] at cj
            go_wp2_with fail
            go_round
            case rel => exact ⟨j + 1, by omega, by go_num⟩
            case measure => simp [intOf]; omega
          · have jn : ¬ (j : Int) < (nz : Int) := by omega
            go_wp2_with fail
            go_roundw
            case rel => exact ⟨k + 1, by omega, by go_num, SN.out⟩
            case measure => simp [intOf]; omega
      · obtain rfl : k = i0 := by omega
        have TT := hide (show ∀ j, j < k0 → u.tk j = true by rw [HU.out]; exact HT.out)
        have hut : u.tk k0 = false := by rw [HU.out]; exact hfree
        go_loop [23] (fun i => ∃ j : Nat, j ≤ k0 ∧ i = .int .i64 (j : Int)) (fun i => k0 - (intOf i).toNat)
        case atStart => exact ⟨0, Nat.zero_le _, rfl⟩
        case round =>
          obtain ⟨j, hj, rfl⟩ := hrel
          have jn : (j : Int) < (nz : Int) := by omega
          have j0 : (0 : Int) ≤ (j : Int) := by omega
          have j4 : (j : Int) < 4 := by omega
          have cj := CK.out j (by omega)
          by_cases hjk : j < k0
          · rw [TT.out j hjk] at cj
            go_wp2_with fail
            go_round
            case rel => exact ⟨j + 1, by omega, by go_num⟩
            case measure => simp [intOf]; omega
          · obtain rfl : j = k0 := by omega
            rw [hut] at cj
            have x0 : W.cell? ⟨X, 0, none⟩ = some (.int .i64 0) := by rw [cell_of_row _ _ _ _ _ _ SN.out.res]; rfl
            have x1 : W.cell? ⟨X, 1, none⟩ = some (.int .i64 0) := by rw [cell_of_row _ _ _ _ _ _ SN.out.res]; rfl
            have x2 : W.cell? ⟨X, 2, none⟩ = some (.int .i64 0) := by rw [cell_of_row _ _ _ _ _ _ SN.out.res]; rfl
            have xf0 : W.frozen? ⟨X, 0, none⟩ = false := frozen_of_row _ _ _ _ _ SN.out.res
            have xf1 : W.frozen? ⟨X, 1, none⟩ = false := frozen_of_row _ _ _ _ _ SN.out.res
            have xf2 : W.frozen? ⟨X, 2, none⟩ = false := frozen_of_row _ _ _ _ _ SN.out.res
            go_wp2_with fail
            have hx3 := three_set (x := .int .i64 (k : Int)) (y := .int .i64 (j : Int)) (z := .int .i64 (c : Int)) SN.out.res
            have bel := SN.out.bel.trans ((three_touch (w := W) (X := X) (x := .int .i64 (k : Int)) (y := .int .i64 (j : Int)) (z := .int .i64 (c : Int))).below SN.out.bel.size (fun i e => by rw [e, EX.out]; exact Nat.le_refl _))
            generalize ((W.setCell ⟨X, 0, none⟩ (.int .i64 (k : Int))).setCell ⟨X, 1, none⟩ (.int .i64 (j : Int))).setCell ⟨X, 2, none⟩ (.int .i64 (c : Int)) = W5 at *
            have y0 : W5.cell? ⟨X, 0, none⟩ = some (.int .i64 (k : Int)) := by rw [cell_of_row _ _ _ _ _ _ hx3]; rfl
            have y1 : W5.cell? ⟨X, 1, none⟩ = some (.int .i64 (j : Int)) := by rw [cell_of_row _ _ _ _ _ _ hx3]; rfl
            have y2 : W5.cell? ⟨X, 2, none⟩ = some (.int .i64 (c : Int)) := by rw [cell_of_row _ _ _ _ _ _ hx3]; rfl
            exact bodyPost_ret (v := .tuple #[.agg #[.int .i64 (k : Int), .int .i64 (j : Int), .int .i64 (c : Int)], .bool true]) (by simp [results, Try.results27, go_sem, y0, y1, y2]) rfl ⟨rfl, bel⟩
    · have huc' : ((u.c : Int) != (c : Int)) = true := by simp; omega
      have hki : k < i0 := by
        rcases Nat.lt_or_ge k i0 with h | h
        · exact h
        · obtain rfl : k = i0 := by omega
          exact absurd (by rw [HU.out]; exact hcl) huc
      go_wp2_with fail
      go_roundw
      case rel => exact ⟨k + 1, by omega, by go_num, SN.out⟩
      case measure => simp [intOf]; omega
set_option maxRecDepth 10000 in
set_option maxHeartbeats 4000000 in
theorem spare_none {w : World} {S H : Nat} {T : Nat → Cu} (h : RowS w S H T) (c : Nat) (hcc : c = 16 ∨ c = 32 ∨ c = 64) (hfull : ∀ j, j < 64 → Full (T j) c (64 / c)) :
    Calls Try.prog 27 #[.pointer (some ⟨S, 0, none⟩), .int .i64 (c : Int)] w fun e w' => e = .returned (.tuple #[refV 0 0 0, .bool false]) ∧ Below w.heap.size w w' := by
  obtain ⟨nz, hnz⟩ : ∃ nz, nz = 64 / c := ⟨_, rfl⟩
  have htd : Int.tdiv 64 (c : Int) = (nz : Int) := by rw [hnz]; rcases hcc with rfl | rfl | rfl <;> decide
  have hn4 : nz ≤ 4 := by rw [hnz]; rcases hcc with rfl | rfl | rfl <;> decide
  have cne : ¬ (c : Int) = 0 := by omega
  have cne' : ((c : Int) == 0) = false := by simpa using cne
  rw [← hnz] at hfull
  have HF := hide hfull
  have b0 := (Below.refl w.heap.size w).alloc (Nat.le_refl _) (.cells #[.int .i64 0, .int .i64 0, .int .i64 0] 39)
  have HX := hide (heap_alloc_new w (.cells #[.int .i64 0, .int .i64 0, .int .i64 0] 39))
  have LD := hide (show RowS _ S H T from (b0.block S (lt_of_heap h)).trans h).range
  have IX := hide (tab_index T)
  have HL := hide (lt_of_heap h)
  clear h hfull hcc hnz
  unfold refV
  go_enter Try.func27, Try.ntmps27
  go_wp2_with (refine wpList_load_mid rfl 71 (.tmp 11) rfl S 2 rfl (tabN T 64) _ LD.out tab_type rfl (tab_size T) ?_)
  have S0 := hide (show Sp w (w.alloc (.cells #[.int .i64 0, .int .i64 0, .int .i64 0] 39)) w.heap.size from ⟨b0, HX.out⟩)
  clear LD b0 HX
  generalize (tabN T 64).toArray = TA at *
  generalize w.alloc (.cells #[.int .i64 0, .int .i64 0, .int .i64 0] 39) = w0 at *
  obtain ⟨X, eX⟩ : ∃ X, X = w.heap.size := ⟨_, rfl⟩
  rw [← eX] at S0 ⊢
  have EX := hide eX
  clear eX
  go_loopw [13] (fun i wr => ∃ k : Nat, k ≤ 64 ∧ i = .int .i64 (k : Int) ∧ Hid (Sp w wr X)) (fun i _ => 64 - (intOf i).toNat)
  case atStart => exact ⟨0, Nat.zero_le _, rfl, S0⟩
  case round =>
    obtain ⟨k, hk1, rfl, hS⟩ := hrel
    clear S0
    by_cases hki : k < 64
    · have ix := IX.out k hki
      have k0' : (0 : Int) ≤ (k : Int) := by omega
      have k1' : (k : Int) < 64 := by omega
      obtain ⟨u, hu⟩ : ∃ u, u = T k := ⟨_, rfl⟩
      rw [← hu] at ix
      have HU := hide hu
      clear hu
      have SN := hide (hS.out.cut (.cells #[.int .i64 (u.c : Int), .bool (u.tk 0), .bool (u.tk 1), .bool (u.tk 2), .bool (u.tk 3)] 70))
      have RN := hide (heap_alloc_new wr (.cells #[.int .i64 (u.c : Int), .bool (u.tk 0), .bool (u.tk 1), .bool (u.tk 2), .bool (u.tk 3)] 70))
      by_cases huc : u.c = c
      · have huc' : ((u.c : Int) != (c : Int)) = false := by simp [huc]
        have HC := hide huc
        clear huc
        go_wp2_with fail
        generalize wr.alloc (.cells #[.int .i64 (u.c : Int), .bool (u.tk 0), .bool (u.tk 1), .bool (u.tk 2), .bool (u.tk 3)] 70) = W at *
        generalize wr.heap.size = Y at *
        have CK := hide (row4 RN.out).2
        · have FU := hide (show ∀ j, j < nz → u.tk j = true from by have := HF.out k hki; rw [← HU.out] at this; exact this.resolve_left (fun e => e HC.out))
          go_loop [23] (fun i => ∃ j : Nat, j ≤ nz ∧ i = .int .i64 (j : Int)) (fun i => nz - (intOf i).toNat)
          case atStart => exact ⟨0, Nat.zero_le _, rfl⟩
          case round =>
            obtain ⟨j, hj, rfl⟩ := hrel
            by_cases hjn : j < nz
            · have jn : (j : Int) < (nz : Int) := by omega
              have j0 : (0 : Int) ≤ (j : Int) := by omega
              have j4 : (j : Int) < 4 := by omega
              have cj := CK.out j (by omega)
              rw [FU.out j hjn] at cj
              go_wp2_with fail
              go_round
              case rel => exact ⟨j + 1, by omega, by go_num⟩
              case measure => simp [intOf]; omega
            · have jn : ¬ (j : Int) < (nz : Int) := by omega
              go_wp2_with fail
              go_roundw
              case rel => exact ⟨k + 1, by omega, by go_num, SN.out⟩
              case measure => simp [intOf]; omega
      · have huc' : ((u.c : Int) != (c : Int)) = true := by simp; omega
        go_wp2_with fail
        go_roundw
        case rel => exact ⟨k + 1, by omega, by go_num, SN.out⟩
        case measure => simp [intOf]; omega
    · obtain rfl : k = 64 := by omega
      have k1' : ¬ ((64 : Nat) : Int) < 64 := by omega
      have x0 : wr.cell? ⟨X, 0, none⟩ = some (.int .i64 0) := by rw [cell_of_row _ _ _ _ _ _ hS.out.res]; rfl
      have x1 : wr.cell? ⟨X, 1, none⟩ = some (.int .i64 0) := by rw [cell_of_row _ _ _ _ _ _ hS.out.res]; rfl
      have x2 : wr.cell? ⟨X, 2, none⟩ = some (.int .i64 0) := by rw [cell_of_row _ _ _ _ _ _ hS.out.res]; rfl
      have xf0 : wr.frozen? ⟨X, 0, none⟩ = false := frozen_of_row _ _ _ _ _ hS.out.res
      have xf1 : wr.frozen? ⟨X, 1, none⟩ = false := frozen_of_row _ _ _ _ _ hS.out.res
      have xf2 : wr.frozen? ⟨X, 2, none⟩ = false := frozen_of_row _ _ _ _ _ hS.out.res
      go_wp2_with fail
      have hx3 := three_set (x := .int .i64 0) (y := .int .i64 0) (z := .int .i64 0) hS.out.res
      have bel := hS.out.bel.trans ((three_touch (w := wr) (X := X) (x := .int .i64 0) (y := .int .i64 0) (z := .int .i64 0)).below hS.out.bel.size (fun i e => by rw [e, EX.out]; exact Nat.le_refl _))
      generalize ((wr.setCell ⟨X, 0, none⟩ (.int .i64 0)).setCell ⟨X, 1, none⟩ (.int .i64 0)).setCell ⟨X, 2, none⟩ (.int .i64 0) = W5 at *
      have y0 : W5.cell? ⟨X, 0, none⟩ = some (.int .i64 0) := by rw [cell_of_row _ _ _ _ _ _ hx3]; rfl
      have y1 : W5.cell? ⟨X, 1, none⟩ = some (.int .i64 0) := by rw [cell_of_row _ _ _ _ _ _ hx3]; rfl
      have y2 : W5.cell? ⟨X, 2, none⟩ = some (.int .i64 0) := by rw [cell_of_row _ _ _ _ _ _ hx3]; rfl
      exact bodyPost_ret (v := .tuple #[.agg #[.int .i64 0, .int .i64 0, .int .i64 0], .bool false]) (by simp [results, Try.results27, go_sem, y0, y1, y2]) rfl ⟨rfl, bel⟩
end Go.Proofs.Ytllapjidnngaeaa
