/-
  Contract of container/heap's up over the queue.
-/
import Derived.Test.YtccokhalcdljiaaHpQueueD
namespace Go.Proofs.Ytccokhalcdljiaa.Hp
open Go.ChangeShapes Go.WideShapes Go.ChangeAt Go.RowKit Go.Sort
set_option linter.unusedVariables false
theorem m_less (n : Nat) (a : Addr) (w : World) : (method (n + 1) 117 (.pointer (some a)) "Less").run Try.prog w = .ok (113, .pointer (some a)) w := by kernel_rfl
theorem m_swap (n : Nat) (a : Addr) (w : World) : (method (n + 1) 117 (.pointer (some a)) "Swap").run Try.prog w = .ok (116, .pointer (some a)) w := by kernel_rfl
theorem m_len (n : Nat) (a : Addr) (w : World) : (method (n + 1) 117 (.pointer (some a)) "Len").run Try.prog w = .ok (78, .pointer (some a)) w := by kernel_rfl
theorem m_push (n : Nat) (a : Addr) (w : World) : (method (n + 1) 117 (.pointer (some a)) "Push").run Try.prog w = .ok (115, .pointer (some a)) w := by kernel_rfl
theorem m_pop (n : Nat) (a : Addr) (w : World) : (method (n + 1) 117 (.pointer (some a)) "Pop").run Try.prog w = .ok (114, .pointer (some a)) w := by kernel_rfl
theorem qless_at {w : World} {F : Nat → Prop} {H : Nat} {l : List (Int × Int)} (h : Q w F H l) (i j : Int) (a b : Nat) (ea : i = (a : Int)) (eb : j = (b : Int)) (ha : a < l.length) (hb : b < l.length) (hn : l.length ≤ 900000) (r : Bool) (hr : due (it l a) (it l b) = r) :
    Calls Try.prog 113 #[.pointer (some ⟨H, 0, none⟩), .int .i64 i, .int .i64 j] w fun e w' => e = .returned (.bool r) ∧ Below w.heap.size w w' := by
  obtain ⟨v, M, f, hp, _⟩ := h
  subst ea eb hr
  exact qless_any w H M a b v l f hp ha hb (by omega)
theorem qlen_at {w : World} {F : Nat → Prop} {H : Nat} {l : List (Int × Int)} (h : Q w F H l) :
    Calls Try.prog 78 #[.pointer (some ⟨H, 0, none⟩)] w fun e w' => e = .returned (.int .i64 (l.length : Int)) ∧ w = w' := by
  obtain ⟨v, M, f, hp, _⟩ := h
  exact qlen_any w H M v l f hp
theorem qswap_at {w : World} {F : Nat → Prop} {H : Nat} {l : List (Int × Int)} (h : Q w F H l) (i j : Int) (a b : Nat) (ea : i = (a : Int)) (eb : j = (b : Int)) (ha : a < l.length) (hb : b < l.length) (hn : l.length ≤ 900000) :
    Calls Try.prog 116 #[.pointer (some ⟨H, 0, none⟩), .int .i64 i, .int .i64 j] w fun e w' => e = .returned (.tuple #[]) ∧ Q w' F H (swp l a b) ∧ Touch F w w' := by
  subst ea eb
  exact qswap_any w F H a b l h ha hb hn
/-- What holds while an item is sifted: the same items, those from n on untouched. -/
def Sift (w : World) (F : Nat → Prop) (H n : Nat) (l : List (Int × Int)) (wr : World) (l' : List (Int × Int)) : Prop :=
  Q wr F H l' ∧ l'.Perm l ∧ (∀ k, n ≤ k → it l' k = it l k) ∧ Touch F w wr
theorem Sift.q {w wr : World} {F : Nat → Prop} {H n : Nat} {l l' : List (Int × Int)} (h : Sift w F H n l wr l') : Q wr F H l' := h.1
theorem Sift.below {w wr w' : World} {F : Nat → Prop} {H n : Nat} {l l' : List (Int × Int)} (h : Sift w F H n l wr l') (hb : Below wr.heap.size wr w') : Sift w F H n l w' l' :=
  ⟨h.1.below hb, h.2.1, h.2.2.1, h.2.2.2.trans (S' := fun _ => False) (Touch.of_below hb) (fun _ e => e.elim)⟩
theorem Sift.swap {w wr w' : World} {F : Nat → Prop} {H n i j : Nat} {l l' : List (Int × Int)} (h : Sift w F H n l wr l') (hi : i < n) (hj : j < n) (hn : n ≤ l.length) (hq : Q w' F H (swp l' i j)) (ht : Touch F wr w') : Sift w F H n l w' (swp l' i j) := by
  have hl : l'.length = l.length := h.2.1.length_eq
  refine ⟨hq, (swp_perm l' i j (by omega) (by omega)).trans h.2.1, fun k hk => ?_, h.2.2.2.trans ht (fun _ e => .inl e)⟩
  rw [it_swp l' i j k (by omega) (by omega), if_neg (by omega), if_neg (by omega)]
  exact h.2.2.1 k hk
attribute [local go_sem] m_less m_swap
set_option maxHeartbeats 1600000 in
theorem hup_any (w : World) (F : Nat → Prop) (H n : Nat) (j : Int) (b : Nat) (l : List (Int × Int)) (h : Q w F H l) (eb : j = (b : Int)) (hinv : UpInv l n b) (hb : b < n) (hn : n ≤ l.length) (hlen : l.length ≤ 900000) :
    Calls Try.prog 81 #[.iface 117 (.pointer (some ⟨H, 0, none⟩)), .int .i64 j] w fun e w' => e = .returned (.tuple #[]) ∧ ∃ l', Sift w F H n l w' l' ∧ HeapN l' n := by
  subst eb
  have H0 : Sift w F H n l w l := ⟨h, List.Perm.refl _, fun _ _ => rfl, Touch.refl _ _⟩
  have HI := hide hinv
  have HS := hide H0
  clear h hinv H0
  go_enter Try.func81, Try.ntmps81
  go_wp2_with fail
  go_loopw [1] (fun jj wr => ∃ (k : Nat) (l' : List (Int × Int)), jj = .int .i64 (k : Int) ∧ k < n ∧ Hid (Sift w F H n l wr l') ∧ Hid (UpInv l' n k)) (fun jj _ => (intOf jj).toNat)
  case atStart => exact ⟨b, l, rfl, hb, HS, HI⟩
  case round =>
    clear HS HI hb
    obtain ⟨k, l', rfl, hk, hS, hU⟩ := hrel
    have hlen' : l'.length = l.length := hS.out.2.1.length_eq
    have hl1 : n ≤ l'.length := by omega
    have hl2 : l'.length ≤ 900000 := by omega
    clear hlen'
    cases k with
    | zero =>
      rw [show ((0 : Nat) : Int) = 0 from rfl]
      go_wp2_with fail
      go_end0
      exact ⟨rfl, l', hS.out, up_done hU.out (.inl rfl)⟩
    | succ q =>
      have hne : (((q : Int) + 1 - 1) / 2 == (q : Int) + 1) = false := by simp; omega
      have hne2 : ((q : Int) / 2 == (q : Int) + 1) = false := by simp; omega
      cases hd : due (it l' (q + 1)) (it l' (q / 2)) with
      | false =>
        have hd := hide hd
        go_wp2_with fail
        go_at_call 113
        with_reducible refine (qless_at hS.out.q _ _ (q + 1) (q / 2) (by omega) (by omega) (by omega) (by omega) hl2 false hd.out).mono ?_
        rintro e w1 ⟨rfl, b1⟩
        have hS1 := hide (hS.out.below b1)
        go_wp2_with fail
        go_end0
        exact ⟨rfl, l', hS1.out, up_done hU.out (.inr hd.out)⟩
      | true =>
        have hd := hide hd
        go_wp2_with fail
        go_at_call 113
        with_reducible refine (qless_at hS.out.q _ _ (q + 1) (q / 2) (by omega) (by omega) (by omega) (by omega) hl2 true hd.out).mono ?_
        rintro e w1 ⟨rfl, b1⟩
        have hS1 := hide (hS.out.below b1)
        go_wp2_with fail
        go_at_call 116
        with_reducible refine (qswap_at hS1.out.q _ _ (q / 2) (q + 1) (by omega) (by omega) (by omega) (by omega) hl2).mono ?_
        rintro e w2 ⟨rfl, q2, t2⟩
        have hS2 := hide (hS1.out.swap (i := q / 2) (j := q + 1) (by omega) hk hn q2 t2)
        have hU2 := hide (up_step hU.out hk hl1 (by omega) hd.out)
        clear q2 t2 hS1 hS hU b1
        go_wp2_with fail
        go_roundw
        case rel => exact ⟨q / 2, _, by go_num, by omega, hS2, hU2⟩
        case measure => simp [intOf]; omega
end Go.Proofs.Ytccokhalcdljiaa.Hp
