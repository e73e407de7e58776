/-
  Contract of container/heap's down over the queue.
-/
import Derived.Test.YtccokhalcdljiaaHpUp
namespace Go.Proofs.Ytccokhalcdljiaa.Hp
open Go.ChangeShapes Go.WideShapes Go.ChangeAt Go.RowKit Go.Sort
set_option linter.unusedVariables false
/-- What 'down' says: b: something was moved. -/
def DownEnd (w : World) (F : Nat → Prop) (H n i0 : Nat) (l : List (Int × Int)) (e : Ending) (w' : World) : Prop :=
  ∃ (b : Bool) (l' : List (Int × Int)), e = .returned (.bool b) ∧ Sift w F H n l w' l' ∧ (b = true → HeapN l' n) ∧ (b = false → UpInv l' n i0)
theorem down_end {w wr : World} {F : Nat → Prop} {H n i i0 : Nat} {l l' : List (Int × Int)} (hS : Sift w F H n l wr l') (h : DownInv l' n i i0) (hl : ∀ c, 0 < c → c < n → (c - 1) / 2 = i → due (it l' c) (it l' i) = false) :
    DownEnd w F H n i0 l (.returned (.bool (decide (i0 < i)))) wr := by
  refine ⟨_, l', rfl, hS, fun hb => ?_, fun hb => ?_⟩
  · have : i0 < i := by simpa using hb
    exact down_done h (by omega) hl
  · have h1 : ¬ i0 < i := by simpa using hb
    have h2 := h.2.2
    have : i = i0 := by omega
    subst this
    exact down_same h hl
attribute [local go_sem] m_less m_swap
set_option maxHeartbeats 1600000 in
theorem hdown_any (w : World) (F : Nat → Prop) (H n a : Nat) (i0 nn : Int) (l : List (Int × Int)) (h : Q w F H l) (ea : i0 = (a : Int)) (en : nn = (n : Int)) (hinv : DownInv l n a a) (hn : n ≤ l.length) (hlen : l.length ≤ 900000) (ha : a ≤ n) :
    Calls Try.prog 87 #[.iface 117 (.pointer (some ⟨H, 0, none⟩)), .int .i64 i0, .int .i64 nn] w (DownEnd w F H n a l) := by
  subst ea en
  have H0 : Sift w F H n l w l := ⟨h, List.Perm.refl _, fun _ _ => rfl, Touch.refl _ _⟩
  have HI := hide hinv
  have HS := hide H0
  clear h hinv H0
  go_enter Try.func87, Try.ntmps87
  go_wp2_with fail
  go_loopw [7] (fun jj wr => ∃ (k : Nat) (l' : List (Int × Int)), jj = .int .i64 (k : Int) ∧ k ≤ n ∧ Hid (Sift w F H n l wr l') ∧ Hid (DownInv l' n k a)) (fun jj _ => n - (intOf jj).toNat)
  case atStart => exact ⟨a, l, rfl, ha, HS, HI⟩
  case round =>
    clear HS HI ha
    obtain ⟨k, l', rfl, hk, hS, hU⟩ := hrel
    have hlen' : l'.length = l.length := hS.out.2.1.length_eq
    have hl1 : n ≤ l'.length := by omega
    have hl2 : l'.length ≤ 900000 := by omega
    have hn2 : n ≤ 900000 := by omega
    clear hlen'
    by_cases h1 : 2 * k + 1 < n
    · have p0 : (0 : Int) ≤ 2 * (k : Int) + 1 := by omega
      have p1 : 2 * (k : Int) + 1 < (n : Int) := by omega
      have d1 : decide ((n : Int) ≤ 2 * (k : Int) + 1) = false := by simp; omega
      have d2 : decide (2 * (k : Int) + 1 < 0) = false := by simp; omega
      by_cases h2 : 2 * k + 2 < n
      · have d3 : decide (2 * (k : Int) + 1 + 1 < (n : Int)) = true := by simp; omega
        cases hc : due (it l' (2 * k + 2)) (it l' (2 * k + 1)) with
        | false =>
          have hc := hide hc
          have hm := hide (show ∀ c, 0 < c → c < n → (c - 1) / 2 = k → due (it l' c) (it l' (2 * k + 1)) = false from fun c c0 cn cp => by
            by_cases e : c = 2 * k + 1
            · rw [e]; exact due_irrefl _
            · rw [show c = 2 * k + 2 by omega]; exact hc.out)
          go_wp2_with fail
          go_at_call 113
          with_reducible refine (qless_at hS.out.q _ _ (2 * k + 2) (2 * k + 1) (by omega) (by omega) (by omega) (by omega) hl2 false hc.out).mono ?_
          rintro e w1 ⟨rfl, b1⟩
          have hS1 := hide (hS.out.below b1)
          clear b1 hS
          cases hd : due (it l' (2 * k + 1)) (it l' k) with
          | false =>
            have hd := hide hd
            have hL := hide (show ∀ c, 0 < c → c < n → (c - 1) / 2 = k → due (it l' c) (it l' k) = false from fun c c0 cn cp => due_le_trans hd.out (hm.out c c0 cn cp))
            go_wp2_with fail
            go_at_call 113
            with_reducible refine (qless_at hS1.out.q _ _ (2 * k + 1) k (by omega) (by omega) (by omega) (by omega) hl2 false hd.out).mono ?_
            rintro e w2 ⟨rfl, b2⟩
            have hSe := hide (hS1.out.below b2)
            go_wp2_with fail
            go_ret
            exact down_end hSe.out hU.out hL.out
          | true =>
            have hd := hide hd
            have hUe := hide (down_step hU.out hl1 (show 0 < 2 * k + 1 by omega) (show 2 * k + 1 < n by omega) (show (2 * k + 1 - 1) / 2 = k by omega) hd.out hm.out)
            go_wp2_with fail
            go_at_call 113
            with_reducible refine (qless_at hS1.out.q _ _ (2 * k + 1) k (by omega) (by omega) (by omega) (by omega) hl2 true hd.out).mono ?_
            rintro e w2 ⟨rfl, b2⟩
            have hSd := hide (hS1.out.below b2)
            go_wp2_with fail
            go_at_call 116
            with_reducible refine (qswap_at hSd.out.q _ _ k (2 * k + 1) (by omega) (by omega) (by omega) (by omega) hl2).mono ?_
            rintro e w3 ⟨rfl, q3, t3⟩
            have hSe := hide (hSd.out.swap (i := k) (j := 2 * k + 1) (by omega) (by omega) hn q3 t3)
            clear q3 t3 hSd b2 hm hd
            go_wp2_with fail
            go_roundw
            case rel => exact ⟨2 * k + 1, _, by go_num, by omega, hSe, hUe⟩
            case measure => simp [intOf]; omega
        | true =>
          have hc := hide hc
          have hm := hide (show ∀ c, 0 < c → c < n → (c - 1) / 2 = k → due (it l' c) (it l' (2 * k + 2)) = false from fun c c0 cn cp => by
            by_cases e : c = 2 * k + 2
            · rw [e]; exact due_irrefl _
            · rw [show c = 2 * k + 1 by omega]; exact due_asymm hc.out)
          go_wp2_with fail
          go_at_call 113
          with_reducible refine (qless_at hS.out.q _ _ (2 * k + 2) (2 * k + 1) (by omega) (by omega) (by omega) (by omega) hl2 true hc.out).mono ?_
          rintro e w1 ⟨rfl, b1⟩
          have hS1 := hide (hS.out.below b1)
          clear b1 hS
          cases hd : due (it l' (2 * k + 2)) (it l' k) with
          | false =>
            have hd := hide hd
            have hL := hide (show ∀ c, 0 < c → c < n → (c - 1) / 2 = k → due (it l' c) (it l' k) = false from fun c c0 cn cp => due_le_trans hd.out (hm.out c c0 cn cp))
            go_wp2_with fail
            go_at_call 113
            with_reducible refine (qless_at hS1.out.q _ _ (2 * k + 2) k (by omega) (by omega) (by omega) (by omega) hl2 false hd.out).mono ?_
            rintro e w2 ⟨rfl, b2⟩
            have hSe := hide (hS1.out.below b2)
            go_wp2_with fail
            go_ret
            exact down_end hSe.out hU.out hL.out
          | true =>
            have hd := hide hd
            have hUe := hide (down_step hU.out hl1 (show 0 < 2 * k + 2 by omega) (show 2 * k + 2 < n by omega) (show (2 * k + 2 - 1) / 2 = k by omega) hd.out hm.out)
            go_wp2_with fail
            go_at_call 113
            with_reducible refine (qless_at hS1.out.q _ _ (2 * k + 2) k (by omega) (by omega) (by omega) (by omega) hl2 true hd.out).mono ?_
            rintro e w2 ⟨rfl, b2⟩
            have hSd := hide (hS1.out.below b2)
            go_wp2_with fail
            go_at_call 116
            with_reducible refine (qswap_at hSd.out.q _ _ k (2 * k + 2) (by omega) (by omega) (by omega) (by omega) hl2).mono ?_
            rintro e w3 ⟨rfl, q3, t3⟩
            have hSe := hide (hSd.out.swap (i := k) (j := 2 * k + 2) (by omega) (by omega) hn q3 t3)
            clear q3 t3 hSd b2 hm hd
            go_wp2_with fail
            go_roundw
            case rel => exact ⟨2 * k + 2, _, by go_num, by omega, hSe, hUe⟩
            case measure => simp [intOf]; omega
      · have d3 : decide (2 * (k : Int) + 1 + 1 < (n : Int)) = false := by simp; omega
        have hm := hide (show ∀ c, 0 < c → c < n → (c - 1) / 2 = k → due (it l' c) (it l' (2 * k + 1)) = false from fun c c0 cn cp => by
          rw [show c = 2 * k + 1 by omega]; exact due_irrefl _)
        cases hd : due (it l' (2 * k + 1)) (it l' k) with
        | false =>
          have hd := hide hd
          have hL := hide (show ∀ c, 0 < c → c < n → (c - 1) / 2 = k → due (it l' c) (it l' k) = false from fun c c0 cn cp => due_le_trans hd.out (hm.out c c0 cn cp))
          go_wp2_with fail
          go_at_call 113
          with_reducible refine (qless_at hS.out.q _ _ (2 * k + 1) k (by omega) (by omega) (by omega) (by omega) hl2 false hd.out).mono ?_
          rintro e w2 ⟨rfl, b2⟩
          have hSe := hide (hS.out.below b2)
          go_wp2_with fail
          go_ret
          exact down_end hSe.out hU.out hL.out
        | true =>
          have hd := hide hd
          have hUe := hide (down_step hU.out hl1 (show 0 < 2 * k + 1 by omega) (show 2 * k + 1 < n by omega) (show (2 * k + 1 - 1) / 2 = k by omega) hd.out hm.out)
          go_wp2_with fail
          go_at_call 113
          with_reducible refine (qless_at hS.out.q _ _ (2 * k + 1) k (by omega) (by omega) (by omega) (by omega) hl2 true hd.out).mono ?_
          rintro e w2 ⟨rfl, b2⟩
          have hSd := hide (hS.out.below b2)
          go_wp2_with fail
          go_at_call 116
          with_reducible refine (qswap_at hSd.out.q _ _ k (2 * k + 1) (by omega) (by omega) (by omega) (by omega) hl2).mono ?_
          rintro e w3 ⟨rfl, q3, t3⟩
          have hSe := hide (hSd.out.swap (i := k) (j := 2 * k + 1) (by omega) (by omega) hn q3 t3)
          clear q3 t3 hSd b2 hm hd
          go_wp2_with fail
          go_roundw
          case rel => exact ⟨2 * k + 1, _, by go_num, by omega, hSe, hUe⟩
          case measure => simp [intOf]; omega
    · go_wp2_with fail
      go_ret
      exact down_end hS.out hU.out (fun c c0 cn cp => by omega)
end Go.Proofs.Ytccokhalcdljiaa.Hp
