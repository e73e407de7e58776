/-
  Contracts of the program's frames: Write, Read.
-/
import Derived.Test.YtipepklobpnbpaaFrOpsC
namespace Go.Proofs.Ytipepklobpnbpaa
open Go.ChangeShapes Go.WideShapes Go.ChangeAt Go.RowKit
set_option linter.unusedVariables false
/-- Bytes written over a row's own, from a place on. -/
def over (f : Nat → Int) (off : Nat) (ys : List Int) : Nat → Int := fun j => if off ≤ j ∧ j < off + ys.length then ys.getD (j - off) 0 else f j
/-- These bytes stand in frame i. -/
def St.put (s : St) (i off : Nat) (ys : List Int) : St := ⟨s.n, s.tk, upd s.bt i (over (s.bt i) off ys), s.fr⟩
def Bytes (ys : List Int) : Prop := ∀ y ∈ ys, 0 ≤ y ∧ y ≤ 255
theorem Bytes.at {ys : List Int} (h : Bytes ys) {k : Nat} (hk : k < ys.length) : 0 ≤ ys.getD k 0 ∧ ys.getD k 0 ≤ 255 := by
  have := h (ys[k]) (List.getElem_mem hk)
  simpa [List.getD, hk] using this
theorem good_put {s : St} (g : Good s) {i off : Nat} {ys : List Int} (ht : s.tk i = true) (hy : Bytes ys) (hf : off + ys.length ≤ 64) : Good (s.put i off ys) := by
  refine ⟨g.n0, g.n64, g.nodup, g.free, g.lt, fun k j hk hj htk => ?_, fun k j hk hj => ?_⟩
  · show upd s.bt i _ k j = 0
    by_cases h : k = i
    · subst h; rw [show s.tk k = false from htk] at ht; cases ht
    · rw [upd_other _ _ h]; exact g.zero k j hk hj htk
  · show 0 ≤ upd s.bt i _ k j ∧ upd s.bt i _ k j ≤ 255
    by_cases h : k = i
    · subst h; rw [upd_same]; unfold over
      split
      · exact hy.at (by omega)
      · exact g.byte k j hk hj
    · rw [upd_other _ _ h]; exact g.byte k j hk hj
theorem rowF_put {w' : World} {A : Nat} {s : St} {i off : Nat} {ys : List Int} (hi : i < s.n) (hf : off + ys.length ≤ 64) {cur : List Value} (e : w'.heap[A]? = some (.cells (splice cur (i * 65 + 1 + off) (ys.map (Value.int .u8))).toArray 94 (0, 0)))
    (h2 : cur.length = s.n * 65) (h3 : ∀ i, i < s.n → cur[i * 65]? = some (.bool (s.tk i)) ∧ ∀ j, j < 64 → cur[i * 65 + (1 + j)]? = some (.int .u8 (s.bt i j))) : RowF w' A (s.put i off ys) := by
  have hz : (ys.map (Value.int .u8)).length = ys.length := by simp
  have hlen : i * 65 + 1 + off + (ys.map (Value.int .u8)).length ≤ cur.length := by rw [hz, h2]; omega
  refine ⟨_, e, by rw [length_splice _ _ _ hlen]; exact h2, fun k hk => ?_⟩
  have hk : k < s.n := hk
  constructor
  · rw [getElem?_splice _ _ _ hlen, hz, if_neg (by omega)]
    exact (h3 k hk).1
  · intro j hj
    show _ = some (Value.int .u8 (upd s.bt i (over (s.bt i) off ys) k j))
    rw [getElem?_splice _ _ _ hlen, hz]
    by_cases h : k = i
    · subst h
      rw [upd_same]; unfold over
      by_cases hr : off ≤ j ∧ j < off + ys.length
      · rw [if_pos (by omega), if_pos hr, show k * 65 + (1 + j) - (k * 65 + 1 + off) = j - off by omega]
        have : j - off < ys.length := by omega
        simp [List.getD, this]
      · rw [if_neg (by omega), if_neg hr]; exact (h3 k hk).2 j hj
    · rw [upd_other _ _ h, if_neg (by omega)]; exact (h3 k hk).2 j hj
theorem write_err {w : World} {H A Q : Nat} {s : St} (f : Fr w H A Q s) (i off : Int) (ho : (Lit.int .i64 off).wf = true) (a : Option Addr) (m c : Nat) (h : code s i off (m : Int) ≠ 0) :
    Calls Try.prog 43 #[.pointer (some ⟨H, 0, none⟩), .int .i64 i, .int .i64 off, .slice a m c] w fun e w' => e = .returned (.int .i64 (code s i off (m : Int))) ∧ w = w' := by
  have F := hide f
  have h' : (code s i off (m : Int) == 0) = false := by simpa using h
  clear f
  generalize hc : code s i off (m : Int) = c at *
  go_enter Try.func43, Try.ntmps43
  go_wp2_with (go_at_call 51; with_reducible refine (check_any F.out _ _ _ ho).mono ?_; rintro e w' ⟨rfl, rfl⟩; rw [hc])
  go_ret
  exact ⟨rfl, rfl⟩
theorem write_nil (w : World) (i off : Int) (a : Option Addr) (m c : Nat) : Calls Try.prog 43 #[.pointer none, .int .i64 i, .int .i64 off, .slice a m c] w fun e w' => e = .returned (.int .i64 1) ∧ w = w' := by
  go_enter Try.func43, Try.ntmps43
  go_wp2_with (go_at_call 51; with_reducible refine (check_nil _ _ _ _).mono ?_; rintro e w' ⟨rfl, rfl⟩)
  go_ret
  exact ⟨rfl, rfl⟩
theorem fit_nat {off m : Nat} (h : off + m ≤ 64) : fit (off : Int) (m : Int) = true := by simp [fit]; omega
theorem wf_nat {off : Nat} (h : off ≤ 64) : (Lit.int .i64 (off : Int)).wf = true := by simp [Lit.wf, IntKind.min, IntKind.max, IntKind.bits, IntKind.signed]; omega
theorem fr_put {w w' : World} {H A Q : Nat} {s : St} (f : Fr w H A Q s) {i off : Nat} {ys : List Int} (hi : i < s.n) (ht : s.tk i = true) (hy : Bytes ys) (hf : off + ys.length ≤ 64) {cur : List Value} (e : w'.heap[A]? = some (.cells (splice cur (i * 65 + 1 + off) (ys.map (Value.int .u8))).toArray 94 (0, 0)))
    (h2 : cur.length = s.n * 65) (h3 : ∀ i, i < s.n → cur[i * 65]? = some (.bool (s.tk i)) ∧ ∀ j, j < 64 → cur[i * 65 + (1 + j)]? = some (.int .u8 (s.bt i j))) (t : Touch (fun k => k = A) w w') : Fr w' H A Q (s.put i off ys) :=
  ⟨good_put f.good ht hy hf, (t.block H f.ltH f.ha).trans f.head, rowF_put hi hf e h2 h3, t.own f.free (fun g hg e => by injection hg with hg; exact f.aq (by rw [← e, ← hg])), f.ha, f.hq, f.aq⟩
theorem ints_src {q : IntKind} {w : World} {a : Option Addr} {m : Nat} {ys : List Int} (h : Ints q w a m ys) (hp : 0 < (ys.map (Value.int q)).length) : ∃ ad, a = some ad ∧ ∀ j v, (ys.map (Value.int q))[j]? = some v → w.cell? (ad.add j) = some v := by
  have hm : 0 < m := by rw [List.length_map, h.1] at hp; exact hp
  obtain ⟨b, o, e, _⟩ := h.2 hm
  subst e
  exact ⟨_, rfl, ints_cells h⟩
theorem byte_size : (Try.prog.info? 5).map (·.size) = some 1 := by kernel_rfl
set_option maxHeartbeats 1000000 in
theorem write_ok {w : World} {H A Q : Nat} {s : St} (f : Fr w H A Q s) (i off : Nat) (hi : i < s.n) (ht : s.tk i = true) (a : Option Addr) (m c : Nat) (ys : List Int) (hb : Ints .u8 w a m ys) (hy : Bytes ys) (hf : off + m ≤ 64) :
    Calls Try.prog 43 #[.pointer (some ⟨H, 0, none⟩), .int .i64 (i : Nat), .int .i64 (off : Nat), .slice a m c] w fun e w' => e = .returned (.int .i64 0) ∧ Fr w' H A Q (s.put i off ys) ∧ Touch (fun k => k = A) w w' := by
  have F := hide f
  have HB := hide hb
  have HY := hide hy
  obtain ⟨cur, r1, r2, r3⟩ := f.row
  have R1 := hide r1
  have R3 := hide r3
  have h0 := f.h0
  have hm : ys.length = m := hb.1
  have c0 : code s (i : Nat) (off : Nat) (m : Int) = 0 := code_ok hi (fit_nat hf) ht
  have x1 : (i : Int) < (s.n : Int) := by omega
  have x0 : (0 : Int) ≤ (i : Int) := by omega
  have y0 : (0 : Int) ≤ (off : Int) := by omega
  have y1 : (off : Int) ≤ 64 := by omega
  have hlen : i * 65 + 1 + off + (ys.map (Value.int .u8)).length ≤ cur.length := by rw [List.length_map, r2, hm]; omega
  have ho := wf_nat (off := off) (by omega)
  have hmin : (ys.map (Value.int .u8)).length = Nat.min m (64 - off) := by rw [List.length_map, hm]; exact (Nat.min_eq_left (by omega)).symm
  clear f r3 hb hy r1
  by_cases h64 : 64 = off
  · subst h64
    obtain rfl : m = 0 := by omega
    have hmin : (ys.map (Value.int .u8)).length = Nat.min 0 0 := by rw [List.length_map, hm]; rfl
    have c00 : code s (i : Nat) 64 0 = 0 := c0
    have ho : (Lit.int .i64 64).wf = true := by decide
    go_enter Try.func43, Try.ntmps43
    go_wp2_with (first
      | (go_at_call 51; with_reducible refine (check_any F.out _ _ _ ho).mono ?_; rintro e w' ⟨rfl, rfl⟩; rw [c00])
      | (refine wpList_copy_touch rfl (.tmp 27) (.tmp 28) 39 39 rfl 5 Try.underlying39 byte_size _ _ _ _ _ _ rfl rfl A (i * 65 + 1 + 64) cur 94 R1.out (ys.map (Value.int .u8)) hmin (by intro hp; exfalso; rw [List.length_map] at hp; omega) hlen (ints_one _ _) ?_; intro w2 e2 t2))
    go_ret
    exact ⟨rfl, fr_put F.out hi ht HY.out (by omega) e2.out r2 R3.out t2, t2⟩
  · go_enter Try.func43, Try.ntmps43
    go_wp2_with (first
      | (go_at_call 51; with_reducible refine (check_any F.out _ _ _ ho).mono ?_; rintro e w' ⟨rfl, rfl⟩; rw [c0])
      | (refine wpList_copy_touch rfl (.tmp 27) (.tmp 28) 39 39 rfl 5 Try.underlying39 byte_size _ _ _ _ _ _ rfl rfl A (i * 65 + 1 + off) cur 94 R1.out (ys.map (Value.int .u8)) hmin (fun hp => ⟨rfl, ints_src HB.out hp⟩) hlen (ints_one _ _) ?_; intro w2 e2 t2))
    go_ret
    exact ⟨rfl, fr_put F.out hi ht HY.out (by omega) e2.out r2 R3.out t2, t2⟩
end Go.Proofs.Ytipepklobpnbpaa
