/-
  Contracts of 'sameItems' (coxswainlaw3) and of Low (coxswainlaw0); three heaps beside one another.
-/
import Derived.Test.YtllfpfgboeabnaaHeapAll
import Derived.Deep.QuietTactic
import Derived.BigQuiet
import Derived.IntWalk
namespace Go.Proofs.Ytllfpfgboeabnaa
open Go.ChangeShapes Go.WideShapes Go.ChangeAt Go.RowKit
set_option linter.unusedVariables false
theorem low_wrapN (x : Int) (n : Nat) (hn : 0 < n) (hb : n ≤ 1000000) : ∃ r : Nat, r < n ∧ wrap64 ((IntKind.u64.wrap x).tmod (n : Int)) = r := by
  have h : IntKind.u64.wrap x = x % 18446744073709551616 := by simp [IntKind.wrap, IntKind.bits, IntKind.signed]
  rw [h, Int.tmod_eq_emod_of_nonneg (by omega)]
  have h0 : 0 ≤ (x % 18446744073709551616) % (n : Int) := Int.emod_nonneg _ (by omega)
  have h1 : (x % 18446744073709551616) % (n : Int) < n := Int.emod_lt_of_pos _ (by omega)
  generalize (x % 18446744073709551616) % (n : Int) = y at *
  obtain ⟨r, rfl⟩ := Int.eq_ofNat_of_zero_le h0
  refine ⟨r, by omega, ?_⟩
  unfold wrap64
  omega
theorem low_any (x : Int) (n : Nat) (w : World) (hn : 0 < n) (hb : n ≤ 1000000) :
    Calls Try.prog 24 #[.int .i64 x, .int .i64 (n : Int)] w fun e w' => (∃ r : Nat, r < n ∧ e = .returned (.int .i64 (r : Int))) ∧ w = w' := by
  obtain ⟨r, hr, he⟩ := low_wrapN x n hn hb
  have HE := hide he
  have n0 : ¬ ((n : Int) = 0) := by omega
  have n1 : (0 : Int) ≤ (n : Int) := by omega
  have n2 : (n : Int) ≤ 1000000 := by omega
  have hu : IntKind.u64.wrap (n : Int) = (n : Int) := by simp [IntKind.wrap, IntKind.bits, IntKind.signed]; omega
  clear he
  go_enter Try.func24, Try.ntmps24
  go_wp2_with fail
  go_ret
  exact ⟨⟨r, hr, ret_int HE.out⟩, rfl⟩
theorem neq_same_item (a b : Int) (w : World) : (binOp .neq 37 (.agg #[.int .i64 a, .int .i64 b]) (.agg #[.int .i64 a, .int .i64 b])).run Try.prog w = .ok (.bool false) w := by
  go_simp
set_option maxHeartbeats 800000 in
/-- Two slices of the same items. -/
theorem sameItems_own (u v : Value) (l : List (Int × Int)) (n : Nat) (w : World) {B1 B2 : Nat} (hu : w.ownsRow B1 37 2 u n (cellsIt l)) (hv : w.ownsRow B2 37 2 v n (cellsIt l)) (hl : l.length = n) (hn : n ≤ 1000000) :
    Calls Try.prog 25 #[u, v] w fun e w' => e = .returned (.bool true) ∧ Below w.heap.size w w' := by
  obtain ⟨A, c, rfl, _⟩ := own_slice hu
  obtain ⟨A2, d, rfl, _⟩ := own_slice hv
  have HU := hide hu
  have HV := hide hv
  have HL := hide hl
  have e1 : ((n : Int) != (n : Int)) = false := by simp
  clear hu hv hl
  go_enter Try.func25, Try.ntmps25
  go_wp2_with fail
  go_loopw [5] (fun i wr => ∃ k : Nat, k ≤ n ∧ i = .int .i64 k ∧ ∃ m, wr = w.drewN m) (fun i _ => n - (intOf i).toNat)
  case atStart => exact ⟨0, Nat.zero_le _, rfl, 0, rfl⟩
  case round =>
    obtain ⟨k, hk, rfl, m, rfl⟩ := hrel
    by_cases hlt : k < n
    · obtain ⟨g, c1, ev, _, _⟩ := HU.out.form (by omega)
      obtain ⟨g2, c2, ev2, _, _⟩ := HV.out.form (by omega)
      injection ev with ev _ ec
      injection ev2 with ev2 _ ec2
      subst ev ec ev2 ec2
      have h0 := (HU.out.cellAt (k * 2) (by omega)).trans (cellsIt_id l k (by rw [HL.out]; exact hlt))
      have h1 := (HU.out.cellAt (k * 2 + 1) (by omega)).trans (cellsIt_key l k (by rw [HL.out]; exact hlt))
      have h2 := (HV.out.cellAt (k * 2) (by omega)).trans (cellsIt_id l k (by rw [HL.out]; exact hlt))
      have h3 := (HV.out.cellAt (k * 2 + 1) (by omega)).trans (cellsIt_key l k (by rw [HL.out]; exact hlt))
      generalize it l k = x at *
      have hne := neq_same_item x.1 x.2
      have k0 : (0 : Int) ≤ (k : Int) := by omega
      have k1 : (k : Int) < (n : Int) := by omega
      go_wp2_with fail
      go_quiet (fail)
      go_wp2_with fail
      go_roundw
      case rel => exact ⟨k + 1, by omega, by go_num, _, rfl⟩
      case measure => simp [intOf]; omega
    · go_wp2_with fail
      go_ret
      exact ⟨rfl, below_drewN (Below.refl _ _) _⟩
/-- Three heaps beside one another. -/
def Trio (w wr : World) (Ha Hb Hc : Nat) (la lb lc : List (Int × Int)) : Prop :=
  ∃ Fa Fb Fc : Nat → Prop, Held wr Fa Ha la ∧ Held wr Fb Hb lb ∧ Held wr Fc Hc lc ∧ (∀ i, Fa i → ¬ Fb i) ∧ (∀ i, Fb i → ¬ Fc i) ∧ (∀ i, Fc i → ¬ Fa i) ∧ (∀ i, Fa i → w.heap.size ≤ i) ∧ (∀ i, Fb i → w.heap.size ≤ i) ∧ (∀ i, Fc i → w.heap.size ≤ i) ∧ Below w.heap.size w wr
theorem Trio.rot {w wr : World} {Ha Hb Hc : Nat} {la lb lc : List (Int × Int)} (h : Trio w wr Ha Hb Hc la lb lc) : Trio w wr Hb Hc Ha lb lc la := by
  obtain ⟨Fa, Fb, Fc, a, b, c, ab, bc, ca, ga, gb, gc, hb⟩ := h
  exact ⟨Fb, Fc, Fa, b, c, a, bc, ca, ab, gb, gc, ga, hb⟩
theorem Trio.bel {w wr : World} {Ha Hb Hc : Nat} {la lb lc : List (Int × Int)} (h : Trio w wr Ha Hb Hc la lb lc) : Below w.heap.size w wr := by
  obtain ⟨Fa, Fb, Fc, a, b, c, ab, bc, ca, ga, gb, gc, hb⟩ := h; exact hb
theorem Trio.below {w wr w' : World} {Ha Hb Hc : Nat} {la lb lc : List (Int × Int)} (h : Trio w wr Ha Hb Hc la lb lc) (t : Below wr.heap.size wr w') : Trio w w' Ha Hb Hc la lb lc := by
  obtain ⟨Fa, Fb, Fc, a, b, c, ab, bc, ca, ga, gb, gc, hb⟩ := h
  exact ⟨Fa, Fb, Fc, a.below t, b.below t, c.below t, ab, bc, ca, ga, gb, gc, hb.trans (t.mono hb.size)⟩
theorem Trio.step {w wr w' : World} {Ha Hb Hc : Nat} {la' lb lc : List (Int × Int)} {Fa Fb Fc Fa' : Nat → Prop} (a : Held w' Fa' Ha la') (b : Held wr Fb Hb lb) (c : Held wr Fc Hc lc) (ab : ∀ i, Fa i → ¬ Fb i) (bc : ∀ i, Fb i → ¬ Fc i) (ca : ∀ i, Fc i → ¬ Fa i)
    (ga : ∀ i, Fa i → w.heap.size ≤ i) (gb : ∀ i, Fb i → w.heap.size ≤ i) (gc : ∀ i, Fc i → w.heap.size ≤ i) (hb : Below w.heap.size w wr) (t : Touch Fa wr w') (s : ∀ i, Fa' i → Fa i ∨ wr.heap.size ≤ i) : Trio w w' Ha Hb Hc la' lb lc := by
  refine ⟨Fa', Fb, Fc, a, b.keep t (fun i hi e => ab i e hi), c.keep t (fun i hi e => ca i hi e), fun i hi e => ?_, bc, fun i hi e => ?_, fun i hi => ?_, gb, gc, hb.trans (t.below hb.size ga)⟩
  · rcases s i hi with h | h
    · exact ab i h e
    · have := b.lt i e; omega
  · rcases s i e with h | h
    · exact ca i hi h
    · have := c.lt i hi; omega
  · rcases s i hi with h | h
    · exact ga i h
    · have := hb.size; omega
theorem trio_push {w wr : World} {Ha Hb Hc : Nat} {la lb lc : List (Int × Int)} (h : Trio w wr Ha Hb Hc la lb lc) (id key : Int) (h0 : 0 ≤ id) (hid : (Lit.int .i64 id).wf = true) (hno : ∀ k, k < la.length → (it la k).1 ≠ id) (hn : la.length < 800000) :
    Calls Try.prog 10 #[.pointer (some ⟨Ha, 0, none⟩), .int .i64 id, .int .i64 key] wr fun e w' => e = .returned (.int .i64 0) ∧ ∃ la', Trio w w' Ha Hb Hc la' lb lc ∧ la'.Perm (la ++ [(id, key)]) := by
  obtain ⟨Fa, Fb, Fc, a, b, c, ab, bc, ca, ga, gb, gc, hb⟩ := h
  exact (hpush_ok a id key h0 hid hno hn).mono fun e w' ⟨he, F', l', q, p, t, s⟩ => ⟨he, l', Trio.step q b c ab bc ca ga gb gc hb t s, p⟩
theorem trio_drop {w wr : World} {Ha Hb Hc : Nat} {la lb lc : List (Int × Int)} (h : Trio w wr Ha Hb Hc la lb lc) (id : Int) (hid : (Lit.int .i64 id).wf = true) (k : Nat) (hk : k < la.length) (e : (it la k).1 = id) (hn : la.length < 800000) :
    Calls Try.prog 15 #[.pointer (some ⟨Ha, 0, none⟩), .int .i64 id] wr fun e w' => e = .returned (.bool true) ∧ ∃ la', Trio w w' Ha Hb Hc la' lb lc ∧ (it la k :: la').Perm la := by
  obtain ⟨Fa, Fb, Fc, a, b, c, ab, bc, ca, ga, gb, gc, hb⟩ := h
  exact (hdrop_yes a id hid k hk e hn).mono fun e w' ⟨he, l', q, p, t⟩ => ⟨he, l', Trio.step q b c ab bc ca ga gb gc hb t (fun _ h => .inl h), p⟩
theorem trio_drop_no {w wr : World} {Ha Hb Hc : Nat} {la lb lc : List (Int × Int)} (h : Trio w wr Ha Hb Hc la lb lc) (id : Int) (hid : (Lit.int .i64 id).wf = true) (hno : ∀ k, k < la.length → (it la k).1 ≠ id) :
    Calls Try.prog 15 #[.pointer (some ⟨Ha, 0, none⟩), .int .i64 id] wr fun e w' => e = .returned (.bool false) ∧ wr = w' := by
  obtain ⟨Fa, Fb, Fc, a, _⟩ := h
  exact hdrop_no (place_no a id hid hno)
theorem trio_move {w wr : World} {Ha Hb Hc : Nat} {la lb lc : List (Int × Int)} (h : Trio w wr Ha Hb Hc la lb lc) (id key : Int) (hid : (Lit.int .i64 id).wf = true) (k : Nat) (hk : k < la.length) (e : (it la k).1 = id) (hn : la.length < 800000) :
    Calls Try.prog 16 #[.pointer (some ⟨Ha, 0, none⟩), .int .i64 id, .int .i64 key] wr fun e w' => e = .returned (.bool true) ∧ ∃ la', Trio w w' Ha Hb Hc la' lb lc ∧ la'.Perm (la.set k (id, key)) := by
  obtain ⟨Fa, Fb, Fc, a, b, c, ab, bc, ca, ga, gb, gc, hb⟩ := h
  exact (hmove_yes a id key hid k hk e hn).mono fun e w' ⟨he, l', q, p, t⟩ => ⟨he, l', Trio.step q b c ab bc ca ga gb gc hb t (fun _ h => .inl h), p⟩
theorem trio_move_no {w wr : World} {Ha Hb Hc : Nat} {la lb lc : List (Int × Int)} (h : Trio w wr Ha Hb Hc la lb lc) (id key : Int) (hid : (Lit.int .i64 id).wf = true) (hno : ∀ k, k < la.length → (it la k).1 ≠ id) :
    Calls Try.prog 16 #[.pointer (some ⟨Ha, 0, none⟩), .int .i64 id, .int .i64 key] wr fun e w' => e = .returned (.bool false) ∧ wr = w' := by
  obtain ⟨Fa, Fb, Fc, a, _⟩ := h
  exact hmove_no (place_no a id hid hno)
theorem trio_all {w wr : World} {Ha Hb Hc : Nat} {la lb lc : List (Int × Int)} (h : Trio w wr Ha Hb Hc la lb lc) (hn : la.length ≤ 800000) :
    Calls Try.prog 19 #[.pointer (some ⟨Ha, 0, none⟩)] wr fun e w' => ∃ v, e = .returned v ∧ w'.ownsRow wr.heap.size 37 2 v la.length (cellsIt (ord la)) ∧ Below wr.heap.size wr w' := by
  obtain ⟨Fa, Fb, Fc, a, _⟩ := h
  exact all_any a hn
end Go.Proofs.Ytllfpfgboeabnaa
