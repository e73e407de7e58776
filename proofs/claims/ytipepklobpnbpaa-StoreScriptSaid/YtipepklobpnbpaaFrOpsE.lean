/-
  Contracts of the program's frames: Read.
-/
import Derived.Test.YtipepklobpnbpaaFrOpsD
namespace Go.Proofs.Ytipepklobpnbpaa
open Go.ChangeShapes Go.WideShapes Go.ChangeAt Go.RowKit
set_option linter.unusedVariables false
/-- n bytes of frame i from off on. -/
def St.part (s : St) (i off n : Nat) : List Int := (List.range n).map fun j => s.bt i (off + j)
theorem part_len (s : St) (i off n : Nat) : (s.part i off n).length = n := by simp [St.part]
theorem own_full {w : World} {B g n : Nat} {e : TypeId} {xs : List Value} (h : w.ownsRow B e 1 (.slice (some ⟨g, 0, none⟩) n n) n xs) : w.heap[g]? = some (.cells xs.toArray e (0, 0)) ∧ xs.length = n := by
  have hl : xs.length = n := by have := h.1; omega
  refine ⟨?_, hl⟩
  rcases h.2 with ⟨hn, _⟩ | ⟨g', cap, cur, e1, e2, e3, e4, e5, e6, e7⟩
  · cases hn
  · injection e1 with e8 _ e9
    injection e8 with e8
    injection e8 with e8 _ _
    subst e8 e9
    rw [e3, ← e7, List.take_of_length_le (by simp; omega)]
theorem own_of_full {w : World} {B g n : Nat} {e : TypeId} {xs : List Value} (h : w.heap[g]? = some (.cells xs.toArray e (0, 0))) (hl : xs.length = n) (hB : B ≤ g) (hm : n ≤ maxLen) : w.ownsRow B e 1 (.slice (some ⟨g, 0, none⟩) n n) n xs :=
  ⟨by omega, .inr ⟨g, n, xs.toArray, rfl, hB, h, Nat.le_refl _, hm, by simp [hl], by simp [← hl]⟩⟩
theorem splice_all {α : Type} {L cs : List α} (h : cs.length = L.length) : splice L 0 cs = cs := by simp [splice, h]
theorem fr_src {w : World} {H A Q : Nat} {s : St} (f : Fr w H A Q s) {i off n : Nat} (hi : i < s.n) (hf : off + n ≤ 64) : ∀ j v, ((s.part i off n).map (Value.int .u8))[j]? = some v → w.cell? ((⟨A, i * 65 + 1 + off, none⟩ : Addr).add j) = some v := by
  intro j v hv
  rw [List.getElem?_map] at hv
  rw [addr_add]
  by_cases hj : j < n
  · have e : (s.part i off n)[j]? = some (s.bt i (off + j)) := by simp [St.part, hj]
    rw [e] at hv
    injection hv with hv
    rw [← hv, show i * 65 + 1 + off + j = i * 65 + (1 + (off + j)) by omega]
    exact f.bt i (off + j) hi (by omega)
  · have e : (s.part i off n)[j]? = none := by rw [List.getElem?_eq_none]; rw [part_len]; omega
    rw [e] at hv; cases hv
theorem part_bytes {s : St} (g : Good s) {i off n : Nat} (hi : i < s.n) (hf : off + n ≤ 64) : Bytes (s.part i off n) := by
  intro y hy
  unfold St.part at hy
  obtain ⟨j, hj, rfl⟩ := List.mem_map.1 hy
  rw [List.mem_range] at hj
  exact g.byte i (off + j) hi (by omega)
theorem read_err {w : World} {H A Q : Nat} {s : St} (f : Fr w H A Q s) (i off n : Int) (ho : (Lit.int .i64 off).wf = true) (h : code s i off n ≠ 0) :
    Calls Try.prog 47 #[.pointer (some ⟨H, 0, none⟩), .int .i64 i, .int .i64 off, .int .i64 n] w fun e w' => e = .returned (.tuple #[.slice none 0 0, .int .i64 (code s i off n)]) ∧ w = w' := by
  have F := hide f
  have h' : (code s i off n == 0) = false := by simpa using h
  clear f
  generalize hc : code s i off n = c at *
  go_enter Try.func47, Try.ntmps47
  go_wp2_with (go_at_call 51; with_reducible refine (check_any F.out _ _ _ ho).mono ?_; rintro e w' ⟨rfl, rfl⟩; rw [hc])
  go_ret2
  exact ⟨rfl, rfl⟩
theorem read_nil (w : World) (i off n : Int) : Calls Try.prog 47 #[.pointer none, .int .i64 i, .int .i64 off, .int .i64 n] w fun e w' => e = .returned (.tuple #[.slice none 0 0, .int .i64 1]) ∧ w = w' := by
  go_enter Try.func47, Try.ntmps47
  go_wp2_with (go_at_call 51; with_reducible refine (check_nil _ _ _ _).mono ?_; rintro e w' ⟨rfl, rfl⟩)
  go_ret2
  exact ⟨rfl, rfl⟩
set_option maxHeartbeats 1000000 in
theorem read_ok {w : World} {H A Q : Nat} {s : St} (f : Fr w H A Q s) (i off n : Nat) (hi : i < s.n) (ht : s.tk i = true) (hf : off + n ≤ 64) :
    Calls Try.prog 47 #[.pointer (some ⟨H, 0, none⟩), .int .i64 (i : Nat), .int .i64 (off : Nat), .int .i64 (n : Nat)] w fun e w' =>
      e = .returned (.tuple #[.slice (some ⟨w.heap.size, 0, none⟩) n n, .int .i64 0]) ∧ w'.ownsRow w.heap.size 5 1 (.slice (some ⟨w.heap.size, 0, none⟩) n n) n ((s.part i off n).map (Value.int .u8)) ∧ Below w.heap.size w w' := by
  obtain ⟨i0, hi0, hz0, hz1, hz2⟩ := info_parts byte_info
  have F := hide f
  have c0 : code s (i : Nat) (off : Nat) (n : Int) = 0 := code_ok hi (fit_nat hf) ht
  have x1 : (i : Int) < (s.n : Int) := by omega
  have x0 : (0 : Int) ≤ (i : Int) := by omega
  have y0 : (0 : Int) ≤ (off : Int) := by omega
  have y1 : (off : Int) ≤ 64 := by omega
  have ho := wf_nat (off := off) (by omega)
  have hlp : ((s.part i off n).map (Value.int .u8)).length = n := by rw [List.length_map, part_len]
  have hmin : ((s.part i off n).map (Value.int .u8)).length = Nat.min (64 - off) n := by rw [hlp]; exact (Nat.min_eq_right (by omega)).symm
  have hm : n ≤ maxLen := by unfold maxLen; omega
  clear f
  by_cases h64 : 64 = off
  · subst h64
    obtain rfl : n = 0 := by omega
    have c00 : code s (i : Nat) 64 0 = 0 := c0
    have ho : (Lit.int .i64 64).wf = true := by decide
    go_enter Try.func47, Try.ntmps47
    go_wp2_with (first
      | (go_at_call 51; with_reducible refine (check_any F.out _ _ _ ho).mono ?_; rintro e w' ⟨rfl, rfl⟩; rw [c00])
      | (at_make; refine wpList_make_full _ rfl (.tmp 20) (.tmp 20) 39 rfl w.heap.size 5 i0 _ 1 Try.underlying39 hi0 hz0 hz1 .i64 .i64 0 0 0 rfl rfl rfl rfl (by omega) hm (Nat.le_refl _) ?_; intro w1 o1 g1; have O1 := hide o1; have B1 := hide ((Below.refl w.heap.size w).grown g1 (Nat.le_refl _) (by simp)); have F1 := hide (F.out.below B1.out); have h0 := F1.out.h0; clear o1 g1)
      | (refine wpList_copy_touch rfl (.tmp 22) (.tmp 31) 39 39 rfl 5 Try.underlying39 byte_size _ _ _ _ _ _ rfl rfl w.heap.size 0 _ 5 (own_full O1.out).1 ((s.part i 64 0).map (Value.int .u8)) (by rw [hlp]; rfl) (by intro hp; exfalso; rw [hlp] at hp; omega) (by rw [hlp]; omega) (ints_one _ _) ?_; intro w2 e2 t2))
    go_ret2
    rw [splice_all (by rw [hlp]; exact (own_full O1.out).2.symm)] at e2
    exact ⟨rfl, own_of_full e2.out hlp (Nat.le_refl _) hm, B1.out.trans (t2.below B1.out.size (fun i e => by rw [e]; exact Nat.le_refl _))⟩
  · go_enter Try.func47, Try.ntmps47
    go_wp2_with (first
      | (go_at_call 51; with_reducible refine (check_any F.out _ _ _ ho).mono ?_; rintro e w' ⟨rfl, rfl⟩; rw [c0])
      | (at_make; refine wpList_make_full _ rfl (.tmp 20) (.tmp 20) 39 rfl w.heap.size 5 i0 _ 1 Try.underlying39 hi0 hz0 hz1 .i64 .i64 (n : Int) (n : Int) n rfl rfl rfl rfl (by rw [hz2]; omega) hm (Nat.le_refl _) ?_; intro w1 o1 g1; have O1 := hide o1; have B1 := hide ((Below.refl w.heap.size w).grown g1 (Nat.le_refl _) (by simp)); have F1 := hide (F.out.below B1.out); have h0 := F1.out.h0; clear o1 g1)
      | (refine wpList_copy_touch rfl (.tmp 22) (.tmp 31) 39 39 rfl 5 Try.underlying39 byte_size _ _ _ _ _ _ rfl rfl w.heap.size 0 _ 5 (own_full O1.out).1 ((s.part i off n).map (Value.int .u8)) hmin (fun hp => ⟨rfl, _, rfl, fr_src F1.out hi hf⟩) (by rw [hlp, (own_full O1.out).2]; omega) (ints_one _ _) ?_; intro w2 e2 t2))
    go_ret2
    rw [splice_all (by rw [hlp]; exact (own_full O1.out).2.symm)] at e2
    exact ⟨rfl, own_of_full e2.out hlp (Nat.le_refl _) hm, B1.out.trans (t2.below B1.out.size (fun i e => by rw [e]; exact Nat.le_refl _))⟩
end Go.Proofs.Ytipepklobpnbpaa
