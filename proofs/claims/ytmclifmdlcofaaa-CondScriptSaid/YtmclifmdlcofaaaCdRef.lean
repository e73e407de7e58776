/-
  The document's own conditions in memory; New, Of, List.
-/
import Derived.Test.YtmclifmdlcofaaaCdPlain
import Derived.Test.YtmclifmdlcofaaaPairs
import Derived.Test.YtmclifmdlcofaaaSame
import Derived.Test.YtmclifmdlcofaaaLow
import Derived.Deep.RegionHeld3
import Derived.Deep.QuietTactic
import Derived.BigQuiet
import Derived.Deep.DeepCutAuto
import Derived.Deep.CutBlock
import Derived.Deep.RegionLaw
namespace Go.Proofs.Ytmclifmdlcofaaa
open Go.ChangeShapes Go.WideShapes Go.ChangeAt Go.RowKit
set_option linter.unusedVariables false
set_option linter.unusedSimpArgs false
/-- The rows of conditions at block G, each in blocks of D. -/
structure RowsC (w : World) (D : Nat → Prop) (R G : Nat) (vs : List Value) (L : Cs) : Prop where
  dR : D R
  dG : D G
  ne : G ≠ R
  lt : ∀ i, D i → i < w.heap.size
  len : vs.length = L.length
  hR : w.heap[R]? = some (.cells #[.slice (some ⟨G, 0, none⟩) L.length L.length] 59 (0, 0))
  hG : w.heap[G]? = some (.cells vs.toArray 44 (0, 0))
  row : ∀ (i : Nat) (v : Value) (l : List Int), vs[i]? = some v → L[i]? = some l → w.ownsRow 0 3 1 v l.length (l.map (Value.int .i64)) ∧ ∀ b, v.ownBlock = some b → D b ∧ b ≠ R ∧ b ≠ G
/-- The document's conditions at R. -/
def Rcd : Rel Cs := fun w D R L => ∃ G vs, RowsC w D R G vs L
theorem keepsRcd : Keeps Rcd where
  keep := by
    rintro V D w w' R L ⟨G, vs, h⟩ u d
    exact ⟨G, vs, h.dR, h.dG, h.ne, fun i hi => Nat.lt_of_lt_of_le (h.lt i hi) u.size, h.len, (u.block _ (h.lt _ h.dR) (d _ h.dR)).trans h.hR, (u.block _ (h.lt _ h.dG) (d _ h.dG)).trans h.hG,
      fun i v l hv hl => ⟨u.own (h.row i v l hv hl).1 fun g hg => d g ((h.row i v l hv hl).2 g hg).1, (h.row i v l hv hl).2⟩⟩
  lt := by rintro D w R L ⟨G, vs, h⟩ i hi; exact h.lt i hi
/-- A row of integers, opened. -/
theorem row_open {w : World} {v : Value} {l : List Int} {B : Nat} (h : w.ownsRow B 3 1 v l.length (l.map (Value.int .i64))) : ∃ A c, v = .slice A l.length c ∧ (A = none → l.length = 0 ∧ c = 0) ∧ (∀ j, j < l.length → ∃ b off, A = some ⟨b, off, none⟩ ∧ w.cell? ⟨b, off + j, none⟩ = some (.int .i64 (l.getD j 0))) := by
  obtain ⟨A, c, e, hi, hn⟩ := own_ints h
  refine ⟨A, c, e, fun hA => ⟨?_, hn hA⟩, fun j hj => ?_⟩
  · rcases Nat.eq_zero_or_pos l.length with h0 | h0
    · exact h0
    · obtain ⟨b, off, e2, _⟩ := hi.2 h0; rw [hA] at e2; cases e2
  · obtain ⟨b, off, e2, hc⟩ := hi.2 (by omega)
    exact ⟨b, off, e2, hc j hj⟩
theorem RowsC.cell {w : World} {D : Nat → Prop} {R G : Nat} {vs : List Value} {L : Cs} (h : RowsC w D R G vs L) : w.cell? ⟨R, 0, none⟩ = some (.slice (some ⟨G, 0, none⟩) L.length L.length) := by
  rw [cell_of_row _ _ _ _ _ _ h.hR]; rfl
theorem RowsC.at_ {w : World} {D : Nat → Prop} {R G : Nat} {vs : List Value} {L : Cs} (h : RowsC w D R G vs L) {k : Nat} (hk : k < L.length) : ∃ v l, L[k]? = some l ∧ vs[k]? = some v ∧ w.cell? ⟨G, k, none⟩ = some v ∧ w.ownsRow 0 3 1 v l.length (l.map (Value.int .i64)) := by
  have hv : k < vs.length := by rw [h.len]; exact hk
  refine ⟨vs[k], L[k], List.getElem?_eq_getElem hk, List.getElem?_eq_getElem hv, ?_, (h.row k _ _ (List.getElem?_eq_getElem hv) (List.getElem?_eq_getElem hk)).1⟩
  rw [cell_of_row _ _ _ _ _ _ h.hG]
  simp [hv]
set_option maxHeartbeats 4000000 in
theorem rcof_any {w : World} {D : Nat → Prop} {R : Nat} {L : Cs} (h : Rcd w D R L) (hn : L.length ≤ 1000) (hl : ∀ l ∈ L, l.length ≤ 100000) (t : Int) :
    Calls Try.prog 22 #[.pointer (some ⟨R, 0, none⟩), .int .i64 t] w fun e w' => e = .returned (.int .i64 (ofC L t)) ∧ w = w' := by
  obtain ⟨G, vs, h⟩ := h
  have cR := h.cell
  have HL := hide hl
  have H := hide h
  obtain ⟨n, hN⟩ : ∃ n, n = L.length := ⟨_, rfl⟩
  have HN := hide hN
  rw [← hN] at cR hn
  clear h hl hN
  go_enter Try.func22, Try.ntmps22
  go_wp2_with fail
  go_loop [5] (fun i => ∃ k : Nat, k ≤ n ∧ i = .int .i64 (k : Int) ∧ Hid (∀ (j : Nat) (m : List Int), j < k → L[j]? = some m → t ∉ m)) (fun i => n - (intOf i).toNat)
  case atStart => exact ⟨0, Nat.zero_le _, rfl, fun j m hj => absurd hj (by omega)⟩
  case round =>
    obtain ⟨k, hk, rfl, hZ⟩ := hrel
    by_cases hlt : k < n
    · have k0 : (0 : Int) ≤ (k : Int) := by omega
      have k1 : (k : Int) < (n : Int) := by omega
      obtain ⟨v, l, hl1, hv1, cG, ho⟩ := H.out.at_ (k := k) (by rw [← HN.out]; exact hlt)
      obtain ⟨A, c, rfl, hA, hc⟩ := row_open ho
      have hlen := HL.out l (List.mem_of_getElem? hl1)
      have HL1 := hide hl1
      have HC := hide hc
      clear hl1 hv1 ho hA hc
      obtain ⟨p, hp⟩ : ∃ p, p = l.length := ⟨_, rfl⟩
      rw [← hp] at cG hlen HC
      have HP := hide hp
      clear hp
      go_wp2_with fail
      go_loop [6] (fun i => ∃ j : Nat, j ≤ p ∧ i = .int .i64 (j : Int) ∧ Hid (∀ q, q < j → l.getD q 0 ≠ t)) (fun i => p - (intOf i).toNat)
      case atStart => exact ⟨0, Nat.zero_le _, rfl, fun j hj => absurd hj (by omega)⟩
      case round =>
        obtain ⟨j, hj, rfl, hY⟩ := hrel
        by_cases hlt2 : j < p
        · have j0 : (0 : Int) ≤ (j : Int) := by omega
          have j1 : (j : Int) < (p : Int) := by omega
          obtain ⟨b, off, rfl, cx⟩ := HC.out j hlt2
          obtain ⟨x, hx⟩ : ∃ x, x = l.getD j 0 := ⟨_, rfl⟩
          rw [← hx] at cx
          have HX := hide hx
          clear hx
          by_cases e : x = t
          · have e' : (x == t) = true := by simpa using e
            have FIN := hide (show ofC L t = (k : Int) from ofC_some HL1.out (by
              rw [← e, HX.out, List.getD_eq_getElem?_getD, List.getElem?_eq_getElem (by rw [← HP.out]; exact hlt2)]
              exact List.getElem_mem _) hZ.out)
            clear e
            go_wp2_with fail
            go_ret
            exact ⟨ret_int FIN.out.symm, rfl⟩
          · have e' : (x == t) = false := by simpa using e
            have NX := hide (show ∀ q, q < j + 1 → l.getD q 0 ≠ t from fun q hq => by
              by_cases e2 : q = j
              · subst e2; rw [← HX.out]; exact e
              · exact hY.out q (by omega))
            clear e
            go_wp2_with fail
            go_round
            case rel => exact ⟨j + 1, by omega, by go_num, NX.out⟩
            case measure => simp [intOf]; omega
        · obtain rfl : j = p := by omega
          have NX := hide (show ∀ (i : Nat) (m : List Int), i < k + 1 → L[i]? = some m → t ∉ m from fun i m hi hm => by
            by_cases e2 : i = k
            · subst e2
              rw [HL1.out] at hm
              injection hm with hm
              subst hm
              intro ht
              obtain ⟨q, hq, e3⟩ := List.getElem_of_mem ht
              refine hY.out q (by rw [HP.out]; exact hq) ?_
              rw [List.getD_eq_getElem?_getD, List.getElem?_eq_getElem hq]
              exact e3
            · exact hZ.out i m (by omega) hm)
          go_wp2_with fail
          go_round
          case rel => exact ⟨k + 1, by omega, by go_num, NX.out⟩
          case measure => simp [intOf]; omega
    · obtain rfl : k = n := by omega
      have FIN := hide (show ofC L t = -1 from ofC_none fun l hl => by
        obtain ⟨i, hi, e⟩ := List.getElem_of_mem hl
        exact hZ.out i l (by rw [HN.out]; exact hi) (by rw [List.getElem?_eq_getElem hi, e]))
      go_wp2_with fail
      go_ret
      exact ⟨ret_int FIN.out.symm, rfl⟩
end Go.Proofs.Ytmclifmdlcofaaa
