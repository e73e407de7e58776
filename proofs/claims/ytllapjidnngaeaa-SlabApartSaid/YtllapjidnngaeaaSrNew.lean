/-
  The contract of the document's own Take of pieces (coxswainref5): a frame that is cut anew.
-/
import Derived.Test.YtllapjidnngaeaaSrTake
namespace Go.Proofs.Ytllapjidnngaeaa
open Go.ChangeShapes Go.WideShapes Go.ChangeAt Go.RowKit
set_option linter.unusedVariables false
/-- The list as far as the copying has come. -/
def partly (l : List Cu) (p k : Nat) (u : Cu) : List Cu := if p < k then l.take p ++ u :: (l.take k).drop p else l.take k
theorem partly_lo {l : List Cu} {p k : Nat} (u : Cu) (h : k < p) (hl : k < l.length) : partly l p (k + 1) u = partly l p k u ++ [l[k]] := by
  unfold partly
  rw [if_neg (by omega), if_neg (by omega), List.take_succ_eq_append_getElem hl]
theorem partly_at {l : List Cu} {p : Nat} (u : Cu) (hl : p < l.length) : partly l p (p + 1) u = (partly l p p u ++ [u]) ++ [l[p]] := by
  unfold partly
  rw [if_pos (by omega), if_neg (by omega), List.take_succ_eq_append_getElem hl, List.drop_append, List.drop_eq_nil_of_le (by simp; omega)]
  have : p - (l.take p).length = 0 := by simp; omega
  rw [this]
  simp
theorem partly_hi {l : List Cu} {p k : Nat} (u : Cu) (h : p < k) (hl : k < l.length) : partly l p (k + 1) u = partly l p k u ++ [l[k]] := by
  unfold partly
  rw [if_pos (by omega), if_pos h, List.take_succ_eq_append_getElem hl, List.drop_append]
  have : p - (l.take k).length = 0 := by simp; omega
  rw [this]
  simp
theorem partly_end {l : List Cu} {p : Nat} (u : Cu) (h : p < l.length) : partly l p l.length u = comeIn l p u := by
  unfold partly comeIn
  rw [if_pos h, List.take_length]
theorem partly_last {l : List Cu} (u : Cu) : partly l l.length l.length u ++ [u] = comeIn l l.length u := by
  unfold partly comeIn
  rw [if_neg (by omega)]
  simp
theorem comeIn_len (l : List Cu) {p : Nat} (u : Cu) (h : p ≤ l.length) : (comeIn l p u).length = l.length + 1 := by unfold comeIn; simp; omega
theorem comeIn_cuts {l : List Cu} (h : Cuts l) {p : Nat} (hp : p ≤ l.length) (u : Cu) (hc : u.c = 16 ∨ u.c = 32 ∨ u.c = 64) (hf : u.f < 64) (hfew : l.length < 64) (hlo : ∀ j (hj : j < p), (l[j]'(by omega)).f < u.f) (hhi : ∀ j (hj : j < l.length), p ≤ j → u.f < l[j].f) : Cuts (comeIn l p u) := by
  have hm : ∀ v ∈ comeIn l p u, v = u ∨ v ∈ l := fun v hv => by
    unfold comeIn at hv
    rw [List.mem_append, List.mem_cons] at hv
    rcases hv with hv | hv | hv
    · exact .inr (List.mem_of_mem_take hv)
    · exact .inl hv
    · exact .inr (List.mem_of_mem_drop hv)
  refine ⟨fun v hv => ?_, ?_, by rw [comeIn_len l u hp]; omega, fun v hv => ?_⟩
  · rcases hm v hv with e | e
    · rw [e]; exact hc
    · exact h.cl v e
  · unfold comeIn
    rw [List.pairwise_append, List.pairwise_cons]
    have hl : ∀ a ∈ l.take p, a.f < u.f := fun a ha => by
      obtain ⟨j, hj, rfl⟩ := List.getElem_of_mem ha
      rw [List.length_take] at hj
      rw [List.getElem_take]
      exact hlo j (by omega)
    have hr : ∀ a ∈ l.drop p, u.f < a.f := fun a ha => by
      obtain ⟨j, hj, rfl⟩ := List.getElem_of_mem ha
      rw [List.length_drop] at hj
      rw [List.getElem_drop]
      exact hhi (p + j) (by omega) (by omega)
    refine ⟨h.up.sublist (List.take_sublist _ _), ⟨hr, h.up.sublist (List.drop_sublist _ _)⟩, fun a ha b hb => ?_⟩
    rw [List.mem_cons] at hb
    rcases hb with e | e
    · rw [e]; exact hl a ha
    · exact Nat.lt_trans (hl a ha) (hr b e)
  · rcases hm v hv with e | e
    · rw [e]; exact hf
    · exact h.fs v e
theorem cells_six (w : World) (u : Cu) (t : TypeId) (X : Nat) (hX : X = w.heap.size) : ∀ j v, (cellsCu u)[j]? = some v → (w.alloc (.cells #[.int .i64 (u.f : Int), .int .i64 (u.c : Int), .bool (u.tk 0), .bool (u.tk 1), .bool (u.tk 2), .bool (u.tk 3)] t)).cell? ((⟨X, 0, none⟩ : Addr).add j) = some v := by
  intro j v hv
  subst hX
  rw [addr_add, Nat.zero_add, World.cell?_alloc_at _ _ _ _ rfl]
  rw [← hv]
  show (cellsCu u).toArray[j]? = _
  simp
theorem cellsCu_one (u : Cu) : ∀ v ∈ cellsCu u, v.oneCell' = true := by
  have := cellsCus_cell [u]
  rw [cellsCus_one] at this
  exact this
/-- Another row stands in the slab. -/
theorem row_end {w w2 : World} {G : Nat → Prop} {S R N : Nat} {l l' : List Cu} {A : Option Addr} {c : Nat} (h : SrG w G S R l) (hc : Cuts l') (hb : Below w.heap.size w w2)
    (ho : w2.ownsRow w.heap.size 78 6 (.slice A N c) N (cellsCus l')) (hN : l'.length = N) :
    ∃ G', SrG (w2.setCell ⟨S, 1, none⟩ (.slice A N c)) G' S R l' ∧ Touch G w (w2.setCell ⟨S, 1, none⟩ (.slice A N c)) ∧ ∀ i, G' i → G i ∨ w.heap.size ≤ i := by
  subst hN
  obtain ⟨a, c0, e, _, _⟩ := h.mem
  have lS := h.lt S h.gS
  have e2 := (hb.block S lS).trans e
  have ne : ∀ g, (Value.slice A l'.length c).ownBlock = some g → g ≠ S := fun g hg e => by have := (ho.lt g hg).1; omega
  refine ⟨fun i => G i ∨ (w.heap.size ≤ i ∧ i < w2.heap.size), ⟨⟨A, c, ?_, ?_, ?_⟩, hc, .inl h.gS, fun i hi => ?_⟩, (Touch.of_below hb).setCell (p := ⟨S, 1, none⟩) h.gS _, fun i hi => hi.imp id (fun e => e.1)⟩
  · rw [heap_setCell_same _ _ _ _ _ _ e2]; rfl
  · exact own_base (touch_one.own ho (fun g hg => ne g hg)) (Nat.zero_le _)
  · intro g hg
    exact ⟨ne g hg, .inr (ho.lt g hg)⟩
  · have : i < w2.heap.size := by
      rcases hi with hi | hi
      · exact Nat.lt_of_lt_of_le (h.lt i hi) hb.size
      · exact hi.2
    simpa [World.setCell] using this
set_option maxRecDepth 10000 in
set_option maxHeartbeats 8000000 in
/-- No piece is free: a frame is cut anew. -/
theorem rtake_new {w : World} {G K : Nat → Prop} {S R t b : Nat} {l : List Cu} {s : St} {fresh : Nat} {back : List Nat} (h : SrG w G S R l) (r : RfG w K R t b s fresh back) (n : Int) (c : Nat) (hc : cls n = c) (hc0 : c ≠ 0) (hfull : ∀ j (hj : j < l.length), Full l[j] c (64 / c)) {l0 : List Nat} {x p : Nat} (hfr : s.fr = l0 ++ [x]) (hd : ∀ i, G i → ¬ K i) (hp : p ≤ l.length) (hlo : ∀ j (hj : j < p), (l[j]'(by omega)).f < x) (hhi : ∀ j (hj : j < l.length), p ≤ j → x < l[j].f) (hfew : l.length < 64) (hx64 : x < 64) :
    Calls Try.prog 11 #[.pointer (some ⟨S, 0, none⟩), .int .i64 n] w fun e w' => e = .returned (.tuple #[refV x 0 c, .int .i64 0]) ∧
      ∃ G' K' fresh' back', SrG w' G' S R (comeIn l p (fresh1 x c)) ∧ RfG w' K' R t b (s.take l0 x) fresh' back' ∧ (∀ i, G' i → ¬ K' i) ∧ Touch (fun i => G i ∨ K i) w w' ∧ (∀ i, G' i ∨ K' i → (G i ∨ K i) ∨ w.heap.size ≤ i) := by
  obtain ⟨nz, hnz⟩ : ∃ nz, nz = 64 / c := ⟨_, rfl⟩
  have hcz : ((cls n : Nat) : Int) = (c : Int) := by rw [hc]
  have hcc : c = 16 ∨ c = 32 ∨ c = 64 := by rcases cls_cases n with e | e | e | e <;> omega
  have htd : Int.tdiv 64 (c : Int) = (nz : Int) := by rw [hnz]; rcases hcc with rfl | rfl | rfl <;> decide
  have hn4 : nz ≤ 4 := by rw [hnz]; rcases hcc with rfl | rfl | rfl <;> decide
  have cne : ¬ (c : Int) = 0 := by omega
  have cne' : ((c : Int) == 0) = false := by simpa using cne
  rw [← hnz] at hfull
  have HF := hide hfull
  have few := h.cuts.few
  have b0 := (Below.refl w.heap.size w).alloc (Nat.le_refl _) (.cells #[.int .i64 0, .int .i64 0, .int .i64 0] 44)
  have HG := hide (h.below b0)
  have HK := hide (r.below b0)
  have HX := hide (heap_alloc_new w (.cells #[.int .i64 0, .int .i64 0, .int .i64 0] 44))
  have HG0 := hide h
  have HK0 := hide r
  have HD := hide hd
  have HLO := hide hlo
  have HHI := hide hhi
  have HCC := hide hcc
  clear h r hfull hcc hnz hc hd hlo hhi
  unfold refV
  go_enter Try.func11, Try.ntmps11
  go_wp2_with (go_at_call 23; with_reducible refine (rcls_any _ _).mono ?_; rintro e w' ⟨rfl, rfl⟩; rw [hcz])
  have B0 := hide b0
  clear b0
  obtain ⟨W, hW⟩ : ∃ W, W = w.alloc (.cells #[.int .i64 0, .int .i64 0, .int .i64 0] 44) := ⟨_, rfl⟩
  rw [← hW] at HG HK HX B0 ⊢
  clear hW
  obtain ⟨a, cc, s1, hrow⟩ := HG.out.sr.row
  have HR := hide hrow
  have s0 := HG.out.sr.s0
  clear hrow
  go_loop [7] (fun i => ∃ k : Nat, k ≤ l.length ∧ i = .int .i64 (k : Int)) (fun i => l.length - (intOf i).toNat)
  case atStart => exact ⟨0, Nat.zero_le _, rfl⟩
  case round =>
    obtain ⟨k, hk1, rfl⟩ := hrel
    by_cases hki : k < l.length
    · obtain ⟨g, rfl, c0, c1, ck⟩ := HR.out k hki
      have ki : (0 : Int) ≤ (k : Int) := by omega
      have kl : (k : Int) < (l.length : Int) := by omega
      obtain ⟨u, hu⟩ : ∃ u, u = l[k]'(by omega) := ⟨_, rfl⟩
      rw [← hu] at c0 c1
      replace ck : ∀ k', k' < 4 → W.cell? ⟨g, k * 6 + 2 + k', none⟩ = some (.bool (u.tk k')) := by rw [hu]; exact ck
      have CK := hide ck
      have FU := hide (show Full u c nz by rw [hu]; exact HF.out k hki)
      clear ck hu
      go_wp2_with fail
      go_loop [8] (fun i => ∃ j : Nat, j ≤ nz ∧ i = .int .i64 (j : Int)) (fun i => nz - (intOf i).toNat)
      case atStart => exact ⟨0, Nat.zero_le _, rfl⟩
      case round =>
        obtain ⟨j, hj, rfl⟩ := hrel
        by_cases hjn : j < nz
        · have jn : (j : Int) < (nz : Int) := by omega
          have j0 : (0 : Int) ≤ (j : Int) := by omega
          have j4 : (j : Int) < 4 := by omega
          by_cases huc : u.c = c
          · have huc' : ((u.c : Int) == (c : Int)) = true := by simp [huc]
            have cj := CK.out j (by omega)
            rw [(FU.out.resolve_left (fun e => e huc)) j hjn] at cj
            go_wp2_with fail
            go_round
            case rel => exact ⟨j + 1, by omega, by go_num⟩
            case measure => simp [intOf]; omega
          · have huc' : ((u.c : Int) == (c : Int)) = false := by simp; omega
            go_wp2_with fail
            go_round
            case rel => exact ⟨k + 1, by omega, by go_num⟩
            case measure => simp [intOf]; omega
        · have jn : ¬ (j : Int) < (nz : Int) := by omega
          go_wp2_with fail
          go_round
          case rel => exact ⟨k + 1, by omega, by go_num⟩
          case measure => simp [intOf]; omega
    · obtain rfl : k = l.length := by omega
      go_upto_region 16 with (go_at_call 28; refine (rtake_own HK.out hfr).mono ?_; rintro e w4 ⟨rfl, K4, fresh4, back4, k4, u4, n4⟩; have HK4 := hide k4; have U4 := hide u4; have N4 := hide n4; have S4 := hide (HG.out.keep u4 HD.out); clear k4 u4 n4)
      go_wp2_with fail
      obtain ⟨i0, hi0, hz0, hz1, hz2⟩ := info_parts cut_info
      have bA := (Below.refl w4.heap.size w4).alloc (Nat.le_refl _) (.cells #[.int .i64 (x : Int), .int .i64 (c : Int), .bool true, .bool false, .bool false, .bool false] 78)
      have S6 := hide (S4.out.below bA)
      have K6 := hide (HK4.out.below bA)
      have HY := hide (heap_alloc_new w4 (.cells #[.int .i64 (x : Int), .int .i64 (c : Int), .bool true, .bool false, .bool false, .bool false] 78))
      have BA := hide bA
      have HZ4 := hide (show w4.heap.size < (w4.alloc (.cells #[.int .i64 (x : Int), .int .i64 (c : Int), .bool true, .bool false, .bool false, .bool false] 78)).heap.size by simp)
      obtain ⟨w6, hw6⟩ : ∃ w6, w6 = w4.alloc (.cells #[.int .i64 (x : Int), .int .i64 (c : Int), .bool true, .bool false, .bool false, .bool false] 78) := ⟨_, rfl⟩
      rw [← hw6] at S6 K6 HY BA HZ4 ⊢
      clear hw6 bA s1 s0 HR
      generalize hYY : w4.heap.size = Y at *
      have HYE := hide hYY
      clear hYY
      obtain ⟨a6, cc6, s6, hrow6⟩ := S6.out.sr.row
      have HR6 := hide hrow6
      clear hrow6
      have HZ := hide hz2
      clear hz2
      have O0 := hide (show w6.ownsRow w6.heap.size 78 6 (.slice none 0 0) (partly l p 0 (fresh1 x c)).length (cellsCus (partly l p 0 (fresh1 x c))) by unfold partly; rw [if_neg (by omega)]; exact World.ownsRow_nil _ _ _ _)
      go_loopw [14, 13, 12] (fun i b v wr => ∃ (k : Nat), k ≤ l.length ∧ i = .int .i64 (k : Int) ∧ b = .bool (decide (p < k)) ∧ Hid (Below w6.heap.size w6 wr ∧ wr.ownsRow w6.heap.size 78 6 v (partly l p k (fresh1 x c)).length (cellsCus (partly l p k (fresh1 x c))))) (fun i _ _ _ => l.length - (intOf i).toNat)
      case atStart => exact ⟨0, Nat.zero_le _, rfl, by simp, Below.refl _ _, O0.out⟩
      case round =>
        clear O0
        obtain ⟨k, hk, rfl, rfl, hL⟩ := hrel
        have plen : (partly l p k (fresh1 x c)).length ≤ 70 := by unfold partly; split <;> simp <;> omega
        have r1 := (hL.out.1.cell (p := ⟨S, 1, none⟩) S6.out.sr.lt).trans s6
        by_cases hkl : k < l.length
        · obtain ⟨g, rfl, c0, c1, ck⟩ := HR6.out k hkl
          have lg := lt_of_cell? c0
          have k0 : (0 : Int) ≤ (k : Int) := by omega
          have k1 : (k : Int) < (l.length : Int) := by omega
          obtain ⟨u, hu⟩ : ∃ u, u = l[k]'(by omega) := ⟨_, rfl⟩
          rw [← hu] at c0 c1 ck
          have e0 := (hL.out.1.cell (p := ⟨g, k * 6, none⟩) lg).trans c0
          have e1 := (hL.out.1.cell (p := ⟨g, k * 6 + 1, none⟩) lg).trans c1
          have e2 := (hL.out.1.cell (p := ⟨g, k * 6 + 2, none⟩) lg).trans (ck 0 (by omega))
          have e3 := (hL.out.1.cell (p := ⟨g, k * 6 + 3, none⟩) lg).trans (ck 1 (by omega))
          have e4 := (hL.out.1.cell (p := ⟨g, k * 6 + 4, none⟩) lg).trans (ck 2 (by omega))
          have e5 := (hL.out.1.cell (p := ⟨g, k * 6 + 5, none⟩) lg).trans (ck 3 (by omega))
          have EE := hide (show ∀ W : World, Below w6.heap.size w6 W → W.cell? ⟨S, 1, none⟩ = some (.slice (some ⟨g, 0, none⟩) l.length cc6) ∧ W.cell? ⟨g, k * 6, none⟩ = some (.int .i64 (u.f : Int)) ∧ W.cell? ⟨g, k * 6 + 1, none⟩ = some (.int .i64 (u.c : Int)) ∧ W.cell? ⟨g, k * 6 + 2, none⟩ = some (.bool (u.tk 0)) ∧ W.cell? ⟨g, k * 6 + 3, none⟩ = some (.bool (u.tk 1)) ∧ W.cell? ⟨g, k * 6 + 4, none⟩ = some (.bool (u.tk 2)) ∧ W.cell? ⟨g, k * 6 + 5, none⟩ = some (.bool (u.tk 3)) from fun W hW =>
            ⟨(hW.cell (p := ⟨S, 1, none⟩) S6.out.sr.lt).trans s6, (hW.cell (p := ⟨g, k * 6, none⟩) lg).trans c0, (hW.cell (p := ⟨g, k * 6 + 1, none⟩) lg).trans c1, (hW.cell (p := ⟨g, k * 6 + 2, none⟩) lg).trans (ck 0 (by omega)), (hW.cell (p := ⟨g, k * 6 + 3, none⟩) lg).trans (ck 1 (by omega)), (hW.cell (p := ⟨g, k * 6 + 4, none⟩) lg).trans (ck 2 (by omega)), (hW.cell (p := ⟨g, k * 6 + 5, none⟩) lg).trans (ck 3 (by omega))⟩)
          clear ck c0 c1
          have PEH := hide (show p < k → partly l p (k + 1) (fresh1 x c) = partly l p k (fresh1 x c) ++ [u] from fun h => by rw [partly_hi _ h hkl, hu])
          have PEL := hide (show k < p → partly l p (k + 1) (fresh1 x c) = partly l p k (fresh1 x c) ++ [u] from fun h => by rw [partly_lo _ h hkl, hu])
          have PEA := hide (show p = k → partly l p (k + 1) (fresh1 x c) = (partly l p k (fresh1 x c) ++ [fresh1 x c]) ++ [u] from fun h => by subst h; rw [partly_at _ hkl, hu])
          have FL := hide (show k < p → u.f < x from fun h => by rw [hu]; exact HLO.out k h)
          have FH := hide (show p ≤ k → x < u.f from fun h => by rw [hu]; exact HHI.out k hkl h)
          clear hu
          by_cases hkp : p < k
          · have hdp : decide (p < k) = true := decide_eq_true hkp
            have hdp1 : decide (p < k + 1) = true := decide_eq_true (by omega)
            rw [hdp] at *
            have O := hide hL.out.2
            go_wp2_with (at_builtin; refine wpList_append_own_at _ rfl (.tmp 122) (.tmp 130) _ rfl w6.heap.size 78 i0 _ 6 24 Try.underlying34 hi0 hz0 hz1 HZ.out rfl (by omega) _ _ _ rfl (O.out.alloc _) ⟨wr.heap.size, 0, none⟩ 1 1 (cellsCu u) rfl rfl (cells_six wr u _ _ rfl) (cellsCu_one u) (by unfold maxLen; omega) (by omega) (by have := hL.out.1.size; simp; omega) ?_; intro v2 w8 o8 g8 _ t8; have O8 := hide o8; have B8 := hide ((hL.out.1.alloc hL.out.1.size _).grown g8 (by have := hL.out.1.size; simp; omega) (fun k hk => (O.out.lt k hk).1)); clear o8 g8 t8)
            go_roundw
            case rel => exact ⟨k + 1, by omega, by go_num, by rw [hdp1], B8.out, by rw [PEH.out hkp, cellsCus_append, cellsCus_one, List.length_append]; exact O8.out⟩
            case measure => simp [intOf]; omega
          · have hdp : decide (p < k) = false := decide_eq_false hkp
            rw [hdp] at *
            have O := hide hL.out.2
            by_cases hkp2 : p = k
            · have hdp1 : decide (p < k + 1) = true := decide_eq_true (by omega)
              have hgt : (x : Int) < (u.f : Int) := by have := FH.out (by omega); omega
              have y := (hL.out.1.block Y HZ4.out).trans HY.out
              have y0 : wr.cell? ⟨Y, 0, none⟩ = some (.int .i64 (x : Int)) := by rw [cell_of_row _ _ _ _ _ _ y]; rfl
              have y1 : wr.cell? ⟨Y, 1, none⟩ = some (.int .i64 (c : Int)) := by rw [cell_of_row _ _ _ _ _ _ y]; rfl
              have y2 : wr.cell? ⟨Y, 2, none⟩ = some (.bool true) := by rw [cell_of_row _ _ _ _ _ _ y]; rfl
              have y3 : wr.cell? ⟨Y, 3, none⟩ = some (.bool false) := by rw [cell_of_row _ _ _ _ _ _ y]; rfl
              have y4 : wr.cell? ⟨Y, 4, none⟩ = some (.bool false) := by rw [cell_of_row _ _ _ _ _ _ y]; rfl
              have y5 : wr.cell? ⟨Y, 5, none⟩ = some (.bool false) := by rw [cell_of_row _ _ _ _ _ _ y]; rfl
              clear y
              go_wp2_with (first
                | (at_builtin; refine wpList_append_own_at _ rfl (.tmp 118) (.tmp 120) _ rfl w6.heap.size 78 i0 _ 6 24 Try.underlying34 hi0 hz0 hz1 HZ.out rfl (by omega) _ _ _ rfl (O.out.alloc _) ⟨wr.heap.size, 0, none⟩ 1 1 (cellsCu (fresh1 x c)) rfl rfl (cells_six wr (fresh1 x c) _ _ rfl) (cellsCu_one _) (by unfold maxLen; omega) (by omega) (by have := hL.out.1.size; simp; omega) ?_; intro v7 w7 o7 g7 _ t7; have O7 := hide o7; have B7 := hide ((hL.out.1.alloc hL.out.1.size _).grown g7 (by have := hL.out.1.size; simp; omega) (fun k hk => (O.out.lt k hk).1)); obtain ⟨m0, m1, m2, m3, m4, m5, m6⟩ := EE.out w7 B7.out; have pl7 : (partly l p k (fresh1 x c)).length + 1 ≤ 71 := (by omega); clear o7 g7 t7)
                | (at_builtin; refine wpList_append_own_at _ rfl (.tmp 122) (.tmp 130) _ rfl w6.heap.size 78 i0 _ 6 24 Try.underlying34 hi0 hz0 hz1 HZ.out rfl (by omega) _ _ _ rfl (O7.out.alloc _) ⟨w7.heap.size, 0, none⟩ 1 1 (cellsCu u) rfl rfl (cells_six w7 u _ _ rfl) (cellsCu_one u) (by unfold maxLen; omega) (by omega) (by have := B7.out.size; simp; omega) ?_; intro v2 w8 o8 g8 _ t8; have O8 := hide o8; have B8 := hide ((B7.out.alloc B7.out.size _).grown g8 (by have := B7.out.size; simp; omega) (fun k hk => (O7.out.lt k hk).1)); clear o8 g8 t8))
              go_roundw
              case rel => exact ⟨k + 1, by omega, by go_num, by rw [hdp1], B8.out, by rw [PEA.out hkp2, cellsCus_append, cellsCus_append, cellsCus_one, cellsCus_one, List.length_append, List.length_append]; exact O8.out⟩
              case measure => simp [intOf]; omega
            · have hkp3 : k < p := by omega
              have hdp1 : decide (p < k + 1) = false := decide_eq_false (by omega)
              have hgt : ¬ (x : Int) < (u.f : Int) := by have := FL.out hkp3; omega
              go_wp2_with (at_builtin; refine wpList_append_own_at _ rfl (.tmp 122) (.tmp 130) _ rfl w6.heap.size 78 i0 _ 6 24 Try.underlying34 hi0 hz0 hz1 HZ.out rfl (by omega) _ _ _ rfl (O.out.alloc _) ⟨wr.heap.size, 0, none⟩ 1 1 (cellsCu u) rfl rfl (cells_six wr u _ _ rfl) (cellsCu_one u) (by unfold maxLen; omega) (by omega) (by have := hL.out.1.size; simp; omega) ?_; intro v2 w8 o8 g8 _ t8; have O8 := hide o8; have B8 := hide ((hL.out.1.alloc hL.out.1.size _).grown g8 (by have := hL.out.1.size; simp; omega) (fun k hk => (O.out.lt k hk).1)); clear o8 g8 t8)
              go_roundw
              case rel => exact ⟨k + 1, by omega, by go_num, by rw [hdp1], B8.out, by rw [PEL.out hkp3, cellsCus_append, cellsCus_one, List.length_append]; exact O8.out⟩
              case measure => simp [intOf]; omega
        · obtain rfl : k = l.length := by omega
          have hcl2 : c = 16 ∨ c = 32 ∨ c = 64 := HCC.out
          have CU := hide (comeIn_cuts S6.out.cuts hp (fresh1 x c) hcl2 hx64 hfew HLO.out (fun j hj h => HHI.out j hj h))
          have nX : w.heap.size < w6.heap.size := by
            have h1 := lt_of_heap HX.out
            have h2 := U4.out.size
            have h3 := HZ4.out
            have h4 := HYE.out
            omega
          have FIN := hide (show ∀ (w8 : World) (A : Option Addr) (c8 N : Nat), Below w6.heap.size w6 w8 → w8.ownsRow w6.heap.size 78 6 (.slice A N c8) N (cellsCus (comeIn l p (fresh1 x c))) → N = l.length + 1 →
              ((((w8.setCell ⟨S, 1, none⟩ (.slice A N c8)).setCell ⟨w.heap.size, 0, none⟩ (.int .i64 (x : Int))).setCell ⟨w.heap.size, 1, none⟩ (.int .i64 0)).setCell ⟨w.heap.size, 2, none⟩ (.int .i64 (c : Int))).heap[w.heap.size]? = some (.cells #[.int .i64 (x : Int), .int .i64 0, .int .i64 (c : Int)] 44 (0, 0)) ∧
              ∃ G' K' fresh' back', SrG ((((w8.setCell ⟨S, 1, none⟩ (.slice A N c8)).setCell ⟨w.heap.size, 0, none⟩ (.int .i64 (x : Int))).setCell ⟨w.heap.size, 1, none⟩ (.int .i64 0)).setCell ⟨w.heap.size, 2, none⟩ (.int .i64 (c : Int))) G' S R (comeIn l p (fresh1 x c)) ∧ RfG ((((w8.setCell ⟨S, 1, none⟩ (.slice A N c8)).setCell ⟨w.heap.size, 0, none⟩ (.int .i64 (x : Int))).setCell ⟨w.heap.size, 1, none⟩ (.int .i64 0)).setCell ⟨w.heap.size, 2, none⟩ (.int .i64 (c : Int))) K' R t b (s.take l0 x) fresh' back' ∧ (∀ i, G' i → ¬ K' i) ∧
                Touch (fun i => G i ∨ K i) w ((((w8.setCell ⟨S, 1, none⟩ (.slice A N c8)).setCell ⟨w.heap.size, 0, none⟩ (.int .i64 (x : Int))).setCell ⟨w.heap.size, 1, none⟩ (.int .i64 0)).setCell ⟨w.heap.size, 2, none⟩ (.int .i64 (c : Int))) ∧ (∀ i, G' i ∨ K' i → (G i ∨ K i) ∨ w.heap.size ≤ i) from fun w8 A c8 N hb ho hN => by
            obtain ⟨G', g1, g2, g3⟩ := row_end S6.out CU.out hb ho (by rw [comeIn_len l _ hp]; exact hN.symm)
            have nXG : ¬ G w.heap.size := fun e => by have := HG0.out.lt _ e; omega
            have nXK : ¬ K w.heap.size := fun e => by have := HK0.out.2 _ e; omega
            have nXK4 : ¬ K4 w.heap.size := fun e => by
              rcases N4.out _ e with h | h
              · exact nXK h
              · have h1 := lt_of_heap HX.out
                have h2 : W.heap.size ≤ w.heap.size := h
                omega
            have nXG' : ¬ G' w.heap.size := fun e => by
              rcases g3 _ e with h | h
              · exact nXG h
              · omega
            have dis : ∀ i, K4 i → ¬ G i := fun i hk hg => by
              rcases N4.out i hk with e | e
              · exact HD.out i hg e
              · have h1 := HG.out.lt i hg
                have h2 : W.heap.size ≤ i := e
                omega
            have hx6 : w6.heap[w.heap.size]? = some (.cells #[.int .i64 0, .int .i64 0, .int .i64 0] 44 (0, 0)) := by
              have h1 := U4.out.block _ (lt_of_heap HX.out) nXK
              exact (BA.out.block _ (by rw [← HYE.out]; exact Nat.lt_of_lt_of_le (lt_of_heap HX.out) U4.out.size)).trans (h1.trans HX.out)
            have hx8 := (g2.block _ nX nXG).trans hx6
            have tX := three_touch (w := w8.setCell ⟨S, 1, none⟩ (.slice A N c8)) (X := w.heap.size) (x := .int .i64 (x : Int)) (y := .int .i64 0) (z := .int .i64 (c : Int))
            refine ⟨three_set hx8, G', K4, fresh4, back4, g1.keep tX (fun i hg e => nXG' (e ▸ hg)), (K6.out.keep g2 dis).keep tX (fun i hk e => nXK4 (e ▸ hk)), fun i hg hk => ?_, ?_, fun i hi => ?_⟩
            · rcases g3 i hg with e | e
              · exact dis i hk e
              · have := K6.out.2 i hk; omega
            · have u1 : Touch (fun i => G i ∨ K i) w W := Touch.of_below B0.out
              have u2 := u1.trans U4.out (fun i e => .inl (.inr e))
              have u3 : Touch (fun i => G i ∨ K i) w w6 := u2.trans (Touch.of_below (S := fun _ => False) (by rw [HYE.out]; exact BA.out)) (fun _ e => e.elim)
              exact (u3.trans g2 (fun i e => .inl (.inl e))).trans tX (fun i e => .inr (by rw [e]; exact Nat.le_refl _))
            · have hw4 : w.heap.size ≤ W.heap.size := B0.out.size
              rcases hi with hi | hi
              · rcases g3 i hi with e | e
                · exact .inl (.inl e)
                · exact .inr (by omega)
              · rcases N4.out i hi with e | e
                · exact .inl (.inr e)
                · exact .inr (by have h2 : W.heap.size ≤ i := e; omega))
          have hXW := hide (show ∀ W2 : World, Below w6.heap.size w6 W2 → W2.heap[w.heap.size]? = some (.cells #[.int .i64 0, .int .i64 0, .int .i64 0] 44 (0, 0)) from fun W2 h2 => by
            have nXK : ¬ K w.heap.size := fun e => by have := HK0.out.2 _ e; omega
            have h1 := U4.out.block _ (lt_of_heap HX.out) nXK
            exact (h2.block _ nX).trans ((BA.out.block _ (by rw [← HYE.out]; exact Nat.lt_of_lt_of_le (lt_of_heap HX.out) U4.out.size)).trans (h1.trans HX.out)))
          have hSX : S ≠ w.heap.size := fun e => by
            have h1 := HG0.out.lt _ HG0.out.gS
            omega
          have hXS := Ne.symm hSX
          have SF := hide (show ∀ W2 : World, Below w6.heap.size w6 W2 → (∃ v, W2.cell? ⟨S, 1, none⟩ = some v) ∧ W2.frozen? ⟨S, 1, none⟩ = false from fun W2 h2 => by
            obtain ⟨a, c, e, _⟩ := S6.out.mem
            have e2 := (h2.block S S6.out.sr.lt).trans e
            exact ⟨⟨_, by rw [cell_of_row _ _ _ _ _ _ e2]; rfl⟩, frozen_of_row _ _ _ _ _ e2⟩)
          by_cases hpl : p < l.length
          · have hdp : decide (p < l.length) = true := decide_eq_true hpl
            rw [hdp] at *
            obtain ⟨A8, c8, rfl, _⟩ := own_sliceR hL.out.2
            have e8 := hL.out.2
            rw [partly_end _ hpl, comeIn_len l _ hp] at e8
            have hle : (partly l p l.length (fresh1 x c)).length = l.length + 1 := by rw [partly_end _ hpl, comeIn_len l _ hp]
            rw [hle] at *
            have E8 := hide (FIN.out wr A8 c8 (l.length + 1) hL.out.1 e8 rfl)
            have hx := hXW.out wr hL.out.1
            have hfs := (SF.out wr hL.out.1).2
            have x0 : wr.cell? ⟨w.heap.size, 0, none⟩ = some (.int .i64 0) := by rw [cell_of_row _ _ _ _ _ _ hx]; rfl
            have x1 : wr.cell? ⟨w.heap.size, 1, none⟩ = some (.int .i64 0) := by rw [cell_of_row _ _ _ _ _ _ hx]; rfl
            have x2 : wr.cell? ⟨w.heap.size, 2, none⟩ = some (.int .i64 0) := by rw [cell_of_row _ _ _ _ _ _ hx]; rfl
            have xf0 := frozen_of_row wr w.heap.size 0 _ _ hx
            have xf1 := frozen_of_row wr w.heap.size 1 _ _ hx
            have xf2 := frozen_of_row wr w.heap.size 2 _ _ hx
            clear hx e8
            go_wp2_with fail
            have hx3 := E8.out.1
            obtain ⟨G', K', fresh', back', f1, f2, f3, f4, f5⟩ := E8.out.2
            generalize ((((wr.setCell ⟨S, 1, none⟩ (.slice A8 (l.length + 1) c8)).setCell ⟨w.heap.size, 0, none⟩ (.int .i64 (x : Int))).setCell ⟨w.heap.size, 1, none⟩ (.int .i64 0)).setCell ⟨w.heap.size, 2, none⟩ (.int .i64 (c : Int))) = W9 at *
            have y0 : W9.cell? ⟨w.heap.size, 0, none⟩ = some (.int .i64 (x : Int)) := by rw [cell_of_row _ _ _ _ _ _ hx3]; rfl
            have y1 : W9.cell? ⟨w.heap.size, 1, none⟩ = some (.int .i64 0) := by rw [cell_of_row _ _ _ _ _ _ hx3]; rfl
            have y2 : W9.cell? ⟨w.heap.size, 2, none⟩ = some (.int .i64 (c : Int)) := by rw [cell_of_row _ _ _ _ _ _ hx3]; rfl
            exact bodyPost_ret (v := .tuple #[.agg #[.int .i64 (x : Int), .int .i64 0, .int .i64 (c : Int)], .int .i64 0]) (by simp [results, Try.results11, go_sem, y0, y1, y2]) rfl ⟨rfl, G', f1, K', ⟨fresh', back', f2⟩, f3, f4, f5⟩
          · obtain rfl : p = l.length := by omega
            have hdp : decide (l.length < l.length) = false := decide_eq_false (by omega)
            rw [hdp] at *
            have O := hide hL.out.2
            have y := (hL.out.1.block Y HZ4.out).trans HY.out
            have y0 : wr.cell? ⟨Y, 0, none⟩ = some (.int .i64 (x : Int)) := by rw [cell_of_row _ _ _ _ _ _ y]; rfl
            have y1 : wr.cell? ⟨Y, 1, none⟩ = some (.int .i64 (c : Int)) := by rw [cell_of_row _ _ _ _ _ _ y]; rfl
            have y2 : wr.cell? ⟨Y, 2, none⟩ = some (.bool true) := by rw [cell_of_row _ _ _ _ _ _ y]; rfl
            have y3 : wr.cell? ⟨Y, 3, none⟩ = some (.bool false) := by rw [cell_of_row _ _ _ _ _ _ y]; rfl
            have y4 : wr.cell? ⟨Y, 4, none⟩ = some (.bool false) := by rw [cell_of_row _ _ _ _ _ _ y]; rfl
            have y5 : wr.cell? ⟨Y, 5, none⟩ = some (.bool false) := by rw [cell_of_row _ _ _ _ _ _ y]; rfl
            have hle : (partly l l.length l.length (fresh1 x c)).length = l.length := by unfold partly; rw [if_neg (by omega), List.take_length]
            have PL := hide (partly_last (l := l) (fresh1 x c))
            clear y
            go_upto_region 29 with (at_builtin; refine wpList_append_own_at _ rfl (.tmp 134) (.tmp 136) _ rfl w6.heap.size 78 i0 _ 6 24 Try.underlying34 hi0 hz0 hz1 HZ.out rfl (by omega) _ _ _ rfl (O.out.alloc _) ⟨wr.heap.size, 0, none⟩ 1 1 (cellsCu (fresh1 x c)) rfl rfl (cells_six wr (fresh1 x c) _ _ rfl) (cellsCu_one _) (by unfold maxLen; omega) (by omega) (by have := hL.out.1.size; simp; omega) ?_; intro v7 w7 o7 g7 _ t7; have B7 := hide ((hL.out.1.alloc hL.out.1.size _).grown g7 (by have := hL.out.1.size; simp; omega) (fun k hk => (O.out.lt k hk).1)); rw [hle] at o7; obtain ⟨A8, c8, rfl, _⟩ := own_sliceR o7; have O7 := hide o7; clear o7 g7 t7)
            have e8 := O7.out
            rw [← cellsCus_one (fresh1 x c), ← cellsCus_append, PL.out] at e8
            have E8 := hide (FIN.out w7 A8 c8 (l.length + 1) B7.out e8 rfl)
            have hx := hXW.out w7 B7.out
            obtain ⟨⟨vs, hvs⟩, hfs⟩ := SF.out w7 B7.out
            have x0 : w7.cell? ⟨w.heap.size, 0, none⟩ = some (.int .i64 0) := by rw [cell_of_row _ _ _ _ _ _ hx]; rfl
            have x1 : w7.cell? ⟨w.heap.size, 1, none⟩ = some (.int .i64 0) := by rw [cell_of_row _ _ _ _ _ _ hx]; rfl
            have x2 : w7.cell? ⟨w.heap.size, 2, none⟩ = some (.int .i64 0) := by rw [cell_of_row _ _ _ _ _ _ hx]; rfl
            have xf0 := frozen_of_row w7 w.heap.size 0 _ _ hx
            have xf1 := frozen_of_row w7 w.heap.size 1 _ _ hx
            have xf2 := frozen_of_row w7 w.heap.size 2 _ _ hx
            clear hx e8 y0 y1 y2 y3 y4 y5
            go_wp2_with fail
            have hx3 := E8.out.1
            obtain ⟨G', K', fresh', back', f1, f2, f3, f4, f5⟩ := E8.out.2
            generalize ((((w7.setCell ⟨S, 1, none⟩ (.slice A8 (l.length + 1) c8)).setCell ⟨w.heap.size, 0, none⟩ (.int .i64 (x : Int))).setCell ⟨w.heap.size, 1, none⟩ (.int .i64 0)).setCell ⟨w.heap.size, 2, none⟩ (.int .i64 (c : Int))) = W9 at *
            have y0 : W9.cell? ⟨w.heap.size, 0, none⟩ = some (.int .i64 (x : Int)) := by rw [cell_of_row _ _ _ _ _ _ hx3]; rfl
            have y1 : W9.cell? ⟨w.heap.size, 1, none⟩ = some (.int .i64 0) := by rw [cell_of_row _ _ _ _ _ _ hx3]; rfl
            have y2 : W9.cell? ⟨w.heap.size, 2, none⟩ = some (.int .i64 (c : Int)) := by rw [cell_of_row _ _ _ _ _ _ hx3]; rfl
            exact bodyPost_ret (v := .tuple #[.agg #[.int .i64 (x : Int), .int .i64 0, .int .i64 (c : Int)], .int .i64 0]) (by simp [results, Try.results11, go_sem, y0, y1, y2]) rfl ⟨rfl, G', f1, K', ⟨fresh', back', f2⟩, f3, f4, f5⟩
end Go.Proofs.Ytllapjidnngaeaa
