/-
  Several texts as one: SsRow SsSwap SsRot SsPlain SsIns SsMergeP SsMergeA SsMergeB SsMergeC SsStable.
-/
import Derived.Test.YthbhbanhgmaopaaTouch
import Derived.Deep.RegionHeld3
import Derived.Deep.QuietTactic
import Derived.BigQuiet
import Derived.BigRegion
import Derived.Deep.Cut
import Derived.Deep.DeepCutAuto
namespace Go.Proofs.Ythbhbanhgmaopaa
open Go.ChangeShapes Go.WideShapes Go.ChangeAt Go.RowKit
set_option linter.unusedVariables false
def rowF (n : Nat) (F : Nat → Int) : List Value := (List.range n).map fun k => Value.int .i64 (F k)
/-- The row in block g holds F's first n numbers. -/
def RowF (w : World) (g n : Nat) (F : Nat → Int) : Prop := w.heap[g]? = some (.cells (rowF n F).toArray 3 (0, 0))
def putF (F : Nat → Int) (i : Nat) (x : Int) : Nat → Int := fun k => if k = i then x else F k
def swF (F : Nat → Int) (i j : Nat) : Nat → Int := putF (putF F i (F j)) j (F i)
def swR (F : Nat → Int) (a b c : Nat) : Nat → Int := fun k => if a ≤ k ∧ k < a + c then F (k - a + b) else if b ≤ k ∧ k < b + c then F (k - b + a) else F k
theorem rowF_length (n : Nat) (F : Nat → Int) : (rowF n F).length = n := by simp [rowF]
theorem rowF_at {n k : Nat} {F : Nat → Int} (h : k < n) : (rowF n F)[k]? = some (.int .i64 (F k)) := by simp [rowF, h]
theorem rowF_put {n i : Nat} {F : Nat → Int} (x : Int) : (rowF n F).set i (.int .i64 x) = rowF n (putF F i x) := by
  apply List.ext_getElem?
  intro k
  by_cases hk : k < n
  · rw [List.getElem?_set, rowF_length]
    unfold putF
    by_cases e : i = k
    · subst e; rw [if_pos rfl, if_pos hk, rowF_at hk, if_pos rfl]
    · rw [if_neg e, rowF_at hk, rowF_at hk, if_neg (fun e' => e e'.symm)]
  · rw [List.getElem?_eq_none (by simp [rowF_length]; omega), List.getElem?_eq_none (by rw [rowF_length]; omega)]
theorem RowF.lt {w : World} {g n : Nat} {F : Nat → Int} (h : RowF w g n F) : g < w.heap.size := lt_of_heap h
theorem RowF.cell {w : World} {g n : Nat} {F : Nat → Int} (h : RowF w g n F) {k : Nat} (hk : k < n) : w.cell? ⟨g, k, none⟩ = some (.int .i64 (F k)) := by
  rw [cell_of_row _ _ _ _ _ _ h, List.getElem?_toArray, rowF_at hk]
theorem RowF.frozen {w : World} {g n : Nat} {F : Nat → Int} (h : RowF w g n F) (k : Nat) : w.frozen? ⟨g, k, none⟩ = false := frozen_of_row _ _ _ _ _ h
theorem RowF.keep {w w' : World} {g n : Nat} {F : Nat → Int} (h : RowF w g n F) (e : w'.heap[g]? = w.heap[g]?) : RowF w' g n F := by unfold RowF; rw [e]; exact h
theorem RowF.below {w w' : World} {g n : Nat} {F : Nat → Int} (h : RowF w g n F) (b : Below w.heap.size w w') : RowF w' g n F := h.keep (b.block g h.lt)
theorem RowF.drew {w : World} {g n : Nat} {F : Nat → Int} (h : RowF w g n F) : RowF w.drew g n F := h
theorem RowF.set {w : World} {g n : Nat} {F : Nat → Int} (h : RowF w g n F) (i : Nat) (x : Int) : RowF (w.setCell ⟨g, i, none⟩ (.int .i64 x)) g n (putF F i x) := by
  unfold RowF
  rw [heap_setCell_same _ _ _ _ _ _ h]
  simp [rowF_put]
theorem RowF.swap {w : World} {g n : Nat} {F : Nat → Int} (h : RowF w g n F) (i j : Nat) : RowF ((w.setCell ⟨g, i, none⟩ (.int .i64 (F j))).setCell ⟨g, j, none⟩ (.int .i64 (F i))) g n (swF F i j) := (h.set i (F j)).set j (F i)
theorem rowF_ext {n : Nat} {F G : Nat → Int} (h : ∀ k, k < n → F k = G k) : rowF n F = rowF n G := by
  unfold rowF
  apply List.map_congr_left
  intro k hk
  rw [h k (List.mem_range.1 hk)]
theorem RowF.ext {w : World} {g n : Nat} {F G : Nat → Int} (h : RowF w g n F) (e : ∀ k, k < n → F k = G k) : RowF w g n G := by unfold RowF; rw [← rowF_ext e]; exact h
theorem swF_at (F : Nat → Int) (i j k : Nat) : swF F i j k = if k = j then F i else if k = i then F j else F k := rfl
theorem swR_zero (F : Nat → Int) (a b k : Nat) : swR F a b 0 k = F k := by
  unfold swR
  rw [if_neg (by omega), if_neg (by omega)]
theorem swR_succ (F : Nat → Int) (a b c : Nat) (h : a + c < b) (k : Nat) : swF (swR F a b c) (a + c) (b + c) k = swR F a b (c + 1) k := by
  rw [swF_at]
  unfold swR
  by_cases h1 : k = b + c
  · rw [if_pos h1, if_neg (by omega), if_neg (by omega), if_neg (by omega), if_pos (by omega)]
    congr 1; omega
  · rw [if_neg h1]
    by_cases h2 : k = a + c
    · rw [if_pos h2, if_neg (by omega), if_neg (by omega), if_pos (by omega)]
      congr 1; omega
    · rw [if_neg h2]
      by_cases h3 : a ≤ k ∧ k < a + c
      · rw [if_pos h3, if_pos (by omega)]
      · rw [if_neg h3, if_neg (show ¬(a ≤ k ∧ k < a + (c + 1)) by omega)]
        by_cases h4 : b ≤ k ∧ k < b + c
        · rw [if_pos h4, if_pos (by omega)]
        · rw [if_neg h4, if_neg (by omega)]
/-- What lies in the row's block turned; new blocks. -/
theorem touch_swap {S : Nat → Prop} {w w' : World} {g : Nat} (h : Touch S w w') (hg : S g) (i j : Nat) (x y : Value) : Touch S w ((w'.setCell ⟨g, i, none⟩ x).setCell ⟨g, j, none⟩ y) := (h.setCell (p := ⟨g, i, none⟩) hg x).setCell (p := ⟨g, j, none⟩) hg y
end Go.Proofs.Ythbhbanhgmaopaa
namespace Go.Proofs.Ythbhbanhgmaopaa
open Go.ChangeShapes Go.WideShapes Go.ChangeAt Go.RowKit
set_option linter.unusedVariables false
set_option maxHeartbeats 4000000 in
theorem swr_any (w : World) (g n cp : Nat) (F : Nat → Int) (a b c : Nat) (cv : Value) (h : RowF w g n F) (hab : a + c ≤ b) (hbn : b + c ≤ n) (hn : n ≤ 1000) :
    Calls Try.prog 53 #[.slice (some ⟨g, 0, none⟩) n cp, .int .i64 (a : Int), .int .i64 (b : Int), .int .i64 (c : Int), cv] w fun e w' => e = .returned (.tuple #[]) ∧ RowF w' g n (swR F a b c) ∧ Touch (fun i => i = g) w w' := by
  have H0 := hide h
  have HB := hide hab
  have HC := hide hbn
  have HN := hide hn
  clear h hab hbn hn
  go_enter Try.func53, Try.ntmps53
  go_wp2_with fail
  go_loopw [10] (fun iv wr => ∃ k : Nat, k ≤ c ∧ iv = .int .i64 (k : Int) ∧ Hid (RowF wr g n (swR F a b k) ∧ Touch (fun i => i = g) w wr)) (fun iv _ => c - (intOf iv).toNat)
  case atStart => exact ⟨0, Nat.zero_le _, rfl, H0.out.ext (fun k _ => (swR_zero F a b k).symm), Touch.refl _ _⟩
  case round =>
    obtain ⟨k, hk, rfl, hZ⟩ := hrel
    rename World => w1
    by_cases hlt : k < c
    · have R1 := hide hZ.out.1
      have T1 := hide hZ.out.2
      clear hZ
      have k1 : (k : Int) < (c : Int) := by omega
      obtain ⟨X, hX⟩ : ∃ X, X = a + k := ⟨_, rfl⟩
      obtain ⟨Y, hY⟩ : ∃ Y, Y = b + k := ⟨_, rfl⟩
      have eX : (a : Int) + (k : Int) = (X : Int) := by omega
      have eY : (b : Int) + (k : Int) = (Y : Int) := by omega
      have lX : X < n := by have := HB.out; have := HC.out; omega
      have lY : Y < n := by have := HB.out; have := HC.out; omega
      have x0 : (0 : Int) ≤ (X : Int) := by omega
      have y0 : (0 : Int) ≤ (Y : Int) := by omega
      have x1 : (X : Int) < (n : Int) := by omega
      have y1 : (Y : Int) < (n : Int) := by omega
      have x2 : (X : Int) ≤ 1000 := by have := HN.out; omega
      have y2 : (Y : Int) ≤ 1000 := by have := HN.out; omega
      have k2 : (k : Int) ≤ 1000 := by have := HN.out; have := HC.out; omega
      have k0 : (0 : Int) ≤ (k : Int) := by omega
      have cX := R1.out.cell lX
      have cY := R1.out.cell lY
      have fX := R1.out.frozen X
      have fY := R1.out.frozen Y
      have HX := hide hX
      have HY := hide hY
      obtain ⟨x, hx⟩ : ∃ x, x = swR F a b k X := ⟨_, rfl⟩
      obtain ⟨y, hy⟩ : ∃ y, y = swR F a b k Y := ⟨_, rfl⟩
      rw [← hx] at cX
      rw [← hy] at cY
      have N1 := hide (show RowF ((w1.setCell ⟨g, X, none⟩ (.int .i64 y)).setCell ⟨g, Y, none⟩ (.int .i64 x)) g n (swR F a b (k + 1)) from by
        rw [hx, hy]
        refine (R1.out.swap X Y).ext (fun q _ => ?_)
        rw [HX.out, HY.out]
        exact swR_succ F a b k (by have := HB.out; omega) q)
      have N2 := hide (show Touch (fun i => i = g) w ((w1.setCell ⟨g, X, none⟩ (.int .i64 y)).setCell ⟨g, Y, none⟩ (.int .i64 x)) from touch_swap T1.out rfl _ _ _ _)
      obtain ⟨u0, hu0⟩ := cell?_setCell_some (w := w1) (p := ⟨g, X, none⟩) (x := .int .i64 y) (q := ⟨g, Y, none⟩) (v := .int .i64 y) cY
      clear hX hY hx hy lX lY
      go_upto_region 3 with fail
      go_region
      clear hu0 cX cY fX fY
      have N3 := hide N1.out.drew
      have N4 := hide (N2.out.drewN 1)
      generalize ((w1.setCell ⟨g, X, none⟩ (.int .i64 y)).setCell ⟨g, Y, none⟩ (.int .i64 x)) = w2 at *
      go_wp2_with fail
      go_roundw
      case rel => exact ⟨k + 1, by omega, by go_num, N3.out, N4.out⟩
      case measure => simp [intOf]; omega
    · obtain rfl : k = c := by omega
      go_wp2_with fail
      go_end0
      exact ⟨rfl, hZ.out.1, hZ.out.2⟩
end Go.Proofs.Ythbhbanhgmaopaa
namespace Go.Proofs.Ythbhbanhgmaopaa
open Go.ChangeShapes Go.WideShapes Go.ChangeAt Go.RowKit
set_option linter.unusedVariables false
/-- What lay from a to below m and from m to below b, the second ahead of the first. -/
def rotG (F : Nat → Int) (a m b : Nat) : Nat → Int := fun k => if a ≤ k ∧ k < a + (b - m) then F (k - a + m) else if a + (b - m) ≤ k ∧ k < b then F (k - (b - m)) else F k
theorem rot_gt (F : Nat → Int) (p i j k : Nat) (h : j < i) (h0 : 0 < j) : rotG F p (p + i) (p + i + j) k = rotG (swR F p (p + i) j) (p + j) (p + i) (p + i + j) k := by
  simp only [rotG, swR]
  repeat' split
  all_goals first | omega | (congr 1; omega)
theorem rot_lt (F : Nat → Int) (p i j k : Nat) (h : i < j) (h0 : 0 < i) : rotG F p (p + i) (p + i + j) k = rotG (swR F p (p + i + j - i) i) p (p + i) (p + i + j - i) k := by
  simp only [rotG, swR]
  repeat' split
  all_goals first | omega | (congr 1; omega)
theorem rot_eq (F : Nat → Int) (p i k : Nat) : rotG F p (p + i) (p + i + i) k = swR F p (p + i) i k := by
  simp only [rotG, swR]
  repeat' split
  all_goals first | omega | (congr 1; omega)
set_option maxHeartbeats 4000000 in
theorem rot_any (w : World) (g n cp : Nat) (F : Nat → Int) (a m b : Nat) (cv : Value) (h : RowF w g n F) (ham : a < m) (hmb : m < b) (hbn : b ≤ n) (hn : n ≤ 1000) :
    Calls Try.prog 52 #[.slice (some ⟨g, 0, none⟩) n cp, .int .i64 (a : Int), .int .i64 (m : Int), .int .i64 (b : Int), cv] w fun e w' => e = .returned (.tuple #[]) ∧ RowF w' g n (rotG F a m b) ∧ Touch (fun i => i = g) w w' := by
  have SW := hide (fun (W : World) (G : Nat → Int) (x y c : Nat) (hr : RowF W g n G) (h1 : x + c ≤ y) (h2 : y + c ≤ n) => swr_any W g n cp G x y c cv hr h1 h2 hn)
  obtain ⟨I, hI⟩ : ∃ I : Nat, I = m - a := ⟨_, rfl⟩
  obtain ⟨J, hJ⟩ : ∃ J : Nat, J = b - m := ⟨_, rfl⟩
  have eI : (m : Int) - (a : Int) = (I : Int) := by omega
  have eJ : (b : Int) - (m : Int) = (J : Int) := by omega
  have m2 : (m : Int) ≤ 1000 := by omega
  have b2 : (b : Int) ≤ 1000 := by omega
  have S0 := hide (show (∃ p, m = p + I ∧ (∀ k, rotG F a m b k = rotG F p m (m + J) k)) ∧ 0 < I ∧ 0 < J ∧ m + J ≤ n from ⟨⟨a, by omega, fun k => by rw [show m + J = b by omega]⟩, by omega, by omega, by omega⟩)
  have H0 := hide h
  have HN := hide hn
  clear h ham hmb hbn hn hI hJ
  go_enter Try.func52, Try.ntmps52
  go_wp2_with fail
  clear eI eJ
  go_loopw [10, 11] (fun iv jv wr => ∃ (i j : Nat) (G : Nat → Int), iv = .int .i64 (i : Int) ∧ jv = .int .i64 (j : Int) ∧ Hid (RowF wr g n G ∧ Touch (fun i => i = g) w wr ∧ ((∃ p, m = p + i ∧ (∀ k, rotG F a m b k = rotG G p m (m + j) k)) ∧ 0 < i ∧ 0 < j ∧ m + j ≤ n))) (fun iv jv _ => (intOf iv).toNat + (intOf jv).toNat)
  case atStart => exact ⟨I, J, F, rfl, rfl, H0.out, Touch.refl _ _, S0.out⟩
  case round =>
    obtain ⟨i, j, G, rfl, rfl, hZ⟩ := hrel
    rename World => w1
    obtain ⟨hR, hT, ⟨p, hp, hrot⟩, hi0, hj0, hmn⟩ := hZ.out
    have R1 := hide hR
    have T1 := hide hT
    have ROT := hide hrot
    have HP := hide hp
    have ep : (m : Int) - (i : Int) = (p : Int) := by omega
    have p2 : (p : Int) ≤ 1000 := by omega
    have i2 : (i : Int) ≤ 1000 := by omega
    have j2 : (j : Int) ≤ 1000 := by have := HN.out; omega
    have i3 : (0 : Int) < (i : Int) := by omega
    have j3 : (0 : Int) < (j : Int) := by omega
    have J0 := hide hj0
    have I0 := hide hi0
    have MN := hide hmn
    clear hZ hR hT hrot hp hi0 hj0 hmn S0 H0
    by_cases he : i = j
    · subst he
      have C := hide (SW.out w1 G p m i R1.out (by have := HP.out; omega) MN.out)
      clear SW
      go_wp2_with (go_at_call 53; refine C.out.mono ?_; rintro e w' ⟨rfl, hr, ht⟩)
      go_end0
      refine ⟨rfl, hr.ext (fun k _ => ?_), T1.out.trans ht (fun _ e => .inl e)⟩
      rw [ROT.out k, HP.out]
      exact (rot_eq G p i k).symm
    · have e1 : ((i : Int) == (j : Int)) = false := by simp; omega
      have e2 : ¬ (i : Int) = (j : Int) := by omega
      by_cases hlt : j < i
      · have l1 : (j : Int) < (i : Int) := by omega
        have C := hide (SW.out w1 G p m j R1.out (by have := HP.out; omega) MN.out)
        have es : (i : Int) - (j : Int) = ((i - j : Nat) : Int) := by omega
        have N1 := hide (show (∃ p', m = p' + (i - j) ∧ (∀ k, rotG F a m b k = rotG (swR G p m j) p' m (m + j) k)) ∧ 0 < i - j ∧ 0 < j ∧ m + j ≤ n from ⟨⟨p + j, by have := HP.out; omega, fun k => by rw [ROT.out k, HP.out]; exact rot_gt G p i j k hlt J0.out⟩, by omega, J0.out, MN.out⟩)
        clear SW
        go_wp2_with (go_at_call 53; refine C.out.mono ?_; rintro e w' ⟨rfl, hr, ht⟩; have R2 := hide hr; have T2 := hide ht; clear hr ht)
        go_roundw
        case rel => exact ⟨i - j, j, swR G p m j, by go_num, rfl, R2.out, T1.out.trans T2.out (fun _ e => .inl e), N1.out⟩
        case measure => have := J0.out; simp [intOf]; omega
      · have l1 : ¬ (j : Int) < (i : Int) := by omega
        have C := hide (SW.out w1 G p (m + j - i) i R1.out (by have := HP.out; omega) (by have := MN.out; omega))
        have es : (j : Int) - (i : Int) = ((j - i : Nat) : Int) := by omega
        have et : (m : Int) + (j : Int) - (i : Int) = ((m + j - i : Nat) : Int) := by omega
        have N1 := hide (show (∃ p', m = p' + i ∧ (∀ k, rotG F a m b k = rotG (swR G p (m + j - i) i) p' m (m + (j - i)) k)) ∧ 0 < i ∧ 0 < j - i ∧ m + (j - i) ≤ n from ⟨⟨p, HP.out, fun k => by
          rw [ROT.out k, show m + (j - i) = m + j - i by omega, HP.out]; exact rot_lt G p i j k (by omega) I0.out⟩, I0.out, by omega, by have := MN.out; omega⟩)
        clear SW
        go_wp2_with (go_at_call 53; refine C.out.mono ?_; rintro e w' ⟨rfl, hr, ht⟩; have R2 := hide hr; have T2 := hide ht; clear hr ht)
        go_roundw
        case rel => exact ⟨i, j - i, swR G p (m + j - i) i, rfl, by go_num, R2.out, T1.out.trans T2.out (fun _ e => .inl e), N1.out⟩
        case measure => have := I0.out; simp [intOf]; omega
end Go.Proofs.Ythbhbanhgmaopaa
namespace Go.Proofs.Ythbhbanhgmaopaa
open Go.ChangeShapes Go.WideShapes Go.ChangeAt Go.RowKit
set_option linter.unusedVariables false
/-- From a to below b, each ahead of those behind it. -/
def Srt (S : Int → Int → Prop) (F : Nat → Int) (a b : Nat) : Prop := ∀ k l, a ≤ k → k < l → l < b → S (F k) (F l)
/-- The same numbers from a to below b, and all others where they were. -/
structure Sam (F G : Nat → Int) (a b : Nat) : Prop where
  out : ∀ k, k < a ∨ b ≤ k → G k = F k
  into : ∀ k, a ≤ k → k < b → ∃ l, a ≤ l ∧ l < b ∧ G l = F k
  of : ∀ l, a ≤ l → l < b → ∃ k, a ≤ k ∧ k < b ∧ G l = F k
theorem Sam.refl (F : Nat → Int) (a b : Nat) : Sam F F a b := ⟨fun _ _ => rfl, fun k h1 h2 => ⟨k, h1, h2, rfl⟩, fun k h1 h2 => ⟨k, h1, h2, rfl⟩⟩
theorem Sam.trans {F G H : Nat → Int} {a b : Nat} (h : Sam F G a b) (k : Sam G H a b) : Sam F H a b := by
  refine ⟨fun x hx => (k.out x hx).trans (h.out x hx), fun x h1 h2 => ?_, fun x h1 h2 => ?_⟩
  · obtain ⟨l, l1, l2, e⟩ := h.into x h1 h2
    obtain ⟨l', m1, m2, e'⟩ := k.into l l1 l2
    exact ⟨l', m1, m2, e'.trans e⟩
  · obtain ⟨l, l1, l2, e⟩ := k.of x h1 h2
    obtain ⟨l', m1, m2, e'⟩ := h.of l l1 l2
    exact ⟨l', m1, m2, e.trans e'⟩
theorem Sam.wide {F G : Nat → Int} {a b a' b' : Nat} (h : Sam F G a b) (ha : a' ≤ a) (hb : b ≤ b') : Sam F G a' b' := by
  refine ⟨fun x hx => h.out x (by omega), fun x h1 h2 => ?_, fun x h1 h2 => ?_⟩
  · by_cases hx : a ≤ x ∧ x < b
    · obtain ⟨l, l1, l2, e⟩ := h.into x hx.1 hx.2
      exact ⟨l, by omega, by omega, e⟩
    · exact ⟨x, h1, h2, h.out x (by omega)⟩
  · by_cases hx : a ≤ x ∧ x < b
    · obtain ⟨l, l1, l2, e⟩ := h.of x hx.1 hx.2
      exact ⟨l, by omega, by omega, e⟩
    · exact ⟨x, h1, h2, h.out x (by omega)⟩
theorem Sam.one {F G : Nat → Int} {a : Nat} (h : Sam F G a (a + 1)) : ∀ k, G k = F k := by
  intro k
  by_cases e : k = a
  · obtain ⟨l, h1, h2, h3⟩ := h.of k (by omega) (by omega)
    rw [h3, show l = k by omega]
  · exact h.out k (by omega)
theorem Sam.same {F G : Nat → Int} (h : ∀ k, G k = F k) (a b : Nat) : Sam F G a b := ⟨fun k _ => h k, fun k h1 h2 => ⟨k, h1, h2, h k⟩, fun k h1 h2 => ⟨k, h1, h2, h k⟩⟩
theorem swF_l (F : Nat → Int) (i j : Nat) : swF F i j j = F i := by rw [swF_at, if_pos rfl]
theorem swF_r (F : Nat → Int) (i j : Nat) : swF F i j i = F j := by
  rw [swF_at]
  by_cases e : i = j
  · rw [if_pos e, e]
  · rw [if_neg e, if_pos rfl]
theorem swF_o (F : Nat → Int) (i j k : Nat) (h1 : k ≠ i) (h2 : k ≠ j) : swF F i j k = F k := by rw [swF_at, if_neg h2, if_neg h1]
theorem Sam.swap (F : Nat → Int) {a b i j : Nat} (hi : a ≤ i ∧ i < b) (hj : a ≤ j ∧ j < b) : Sam F (swF F i j) a b := by
  refine ⟨fun x hx => swF_o F i j x (by omega) (by omega), fun x h1 h2 => ?_, fun x h1 h2 => ?_⟩
  · by_cases e1 : x = i
    · exact ⟨j, hj.1, hj.2, by rw [e1]; exact swF_l F i j⟩
    · by_cases e2 : x = j
      · exact ⟨i, hi.1, hi.2, by rw [e2]; exact swF_r F i j⟩
      · exact ⟨x, h1, h2, swF_o F i j x e1 e2⟩
  · by_cases e1 : x = i
    · exact ⟨j, hj.1, hj.2, by rw [e1]; exact swF_r F i j⟩
    · by_cases e2 : x = j
      · exact ⟨i, hi.1, hi.2, by rw [e2]; exact swF_l F i j⟩
      · exact ⟨x, h1, h2, swF_o F i j x e1 e2⟩
/-- What a comparison has to be: by it some come first; of others those of less numbers. -/
structure Ordr (c : Int → Int → Int) (S : Int → Int → Prop) : Prop where
  trans : ∀ x y z, S x y → S y z → S x z
  lt : ∀ x y, c y x < 0 → S y x
  ge : ∀ x y, ¬ c y x < 0 → x < y → S x y
/-- While what lay at i goes down, being at j. -/
structure InI (S : Int → Int → Prop) (F G : Nat → Int) (a i j : Nat) : Prop where
  sam : Sam F G a (i + 1)
  two : ∀ k l, a ≤ k → k < l → l ≤ i → k ≠ j → l ≠ j → S (G k) (G l)
  up : ∀ l, j < l → l ≤ i → S (G j) (G l)
  new : ∀ k, a ≤ k → k ≤ i → k ≠ j → G k < G j
theorem InI.start {S : Int → Int → Prop} {F G : Nat → Int} {a i : Nat} (ha : a ≤ i) (h : Sam F G a i) (hs : Srt S G a i) (asc : ∀ k, a ≤ k → k < i → F k < F i) : InI S F G a i i := by
  refine ⟨h.wide (Nat.le_refl _) (by omega), fun k l h1 h2 h3 h4 h5 => hs k l h1 h2 (by omega), fun l h1 h2 => by omega, fun k h1 h2 h3 => ?_⟩
  obtain ⟨k', m1, m2, e⟩ := h.of k h1 (by omega)
  rw [e, h.out i (.inr (Nat.le_refl _))]
  exact asc k' m1 m2
theorem InI.swap {S : Int → Int → Prop} {F G : Nat → Int} {a i j : Nat} (h : InI S F G a i (j + 1)) (ha : a ≤ j) (hi : j + 1 ≤ i) (hs : S (G (j + 1)) (G j)) : InI S F (swF G (j + 1) j) a i j := by
  have e0 : swF G (j + 1) j j = G (j + 1) := swF_l G _ _
  have e1 : swF G (j + 1) j (j + 1) = G j := swF_r G _ _
  have eo : ∀ k, k ≠ j → k ≠ j + 1 → swF G (j + 1) j k = G k := fun k h1 h2 => swF_o G _ _ k h2 h1
  refine ⟨h.sam.trans (Sam.swap G ⟨by omega, by omega⟩ ⟨by omega, by omega⟩), fun k l h1 h2 h3 h4 h5 => ?_, fun l h1 h2 => ?_, fun k h1 h2 h3 => ?_⟩
  · by_cases f1 : k = j + 1
    · rw [f1, e1, eo l h5 (by omega)]
      exact h.two j l ha (by omega) h3 (by omega) (by omega)
    · rw [eo k h4 f1]
      by_cases f2 : l = j + 1
      · rw [f2, e1]
        exact h.two k j h1 (by omega) (by omega) f1 (by omega)
      · rw [eo l h5 f2]
        exact h.two k l h1 h2 h3 f1 f2
  · rw [e0]
    by_cases f : l = j + 1
    · rw [f, e1]; exact hs
    · rw [eo l (by omega) f]; exact h.up l (by omega) h2
  · rw [e0]
    by_cases f : k = j + 1
    · rw [f, e1]; exact h.new j ha (by omega) (by omega)
    · rw [eo k h3 f]; exact h.new k h1 h2 f
theorem InI.stop {c : Int → Int → Int} {S : Int → Int → Prop} (O : Ordr c S) {F G : Nat → Int} {a i j : Nat} (h : InI S F G a i j) (ha : a ≤ j) (hi : j ≤ i) (hs : j = a ∨ ¬ c (G j) (G (j - 1)) < 0) : Srt S G a (i + 1) := by
  intro k l h1 h2 h3
  by_cases f1 : k = j
  · rw [f1]; exact h.up l (by omega) (by omega)
  · by_cases f2 : l = j
    · rw [f2]
      rcases hs with hs | hs
      · omega
      · have h4 : S (G (j - 1)) (G j) := O.ge _ _ hs (h.new (j - 1) (by omega) (by omega) (by omega))
        by_cases f3 : k = j - 1
        · rw [f3]; exact h4
        · exact O.trans _ _ _ (h.two k (j - 1) h1 (by omega) (by omega) f1 (by omega)) h4
    · exact h.two k l h1 h2 (by omega) f1 f2
end Go.Proofs.Ythbhbanhgmaopaa
namespace Go.Proofs.Ythbhbanhgmaopaa
open Go.ChangeShapes Go.WideShapes Go.ChangeAt Go.RowKit
set_option linter.unusedVariables false
/-- The closure that is handed to sorting: what it answers, wherever only the row in block g has turned. -/
structure CmpC (w0 : World) (g : Nat) (pv : Value) (c : Int → Int → Int) (ok : Int → Prop) : Prop where
  call : ∀ W x y, Touch (fun i => i = g) w0 W → ok x → ok y → Calls Try.prog 42 #[.int .i64 x, .int .i64 y, pv] W fun e w' => e = .returned (.int .i64 (c x y)) ∧ Below W.heap.size W w'
theorem touch_below {S : Nat → Prop} {a b c : World} (h : Touch S a b) (k : Below b.heap.size b c) : Touch S a c := h.trans (S' := S) (Touch.of_below k) (fun _ e => .inl e)
set_option maxHeartbeats 8000000 in
theorem ins_any (w0 w : World) (g n cp : Nat) (pv : Value) (c : Int → Int → Int) (ok : Int → Prop) (S : Int → Int → Prop) (hC : CmpC w0 g pv c ok) (O : Ordr c S) (F : Nat → Int) (a b : Nat) (h : RowF w g n F) (hT : Touch (fun i => i = g) w0 w)
    (hok : ∀ k, a ≤ k → k < b → ok (F k)) (hasc : ∀ k l, a ≤ k → k < l → l < b → F k < F l) (hbn : b ≤ n) (han : a ≤ n) (hn : n ≤ 1000) :
    Calls Try.prog 49 #[.slice (some ⟨g, 0, none⟩) n cp, .int .i64 (a : Int), .int .i64 (b : Int), .func (.func 42) #[] #[pv]] w fun e w' => e = .returned (.tuple #[]) ∧ ∃ G, RowF w' g n G ∧ Touch (fun i => i = g) w w' ∧ Sam F G a b ∧ Srt S G a b := by
  have CC := hide hC
  have OO := hide O
  have H0 := hide h
  have T0 := hide hT
  have OK := hide hok
  have ASC := hide hasc
  have BN := hide hbn
  have AN := hide han
  have HN := hide hn
  have a2 : (a : Int) ≤ 1000 := by omega
  clear hC O h hT hok hasc hbn han hn
  go_enter Try.func49, Try.ntmps49
  go_wp2_with fail
  clear a2
  go_loopw [8] (fun iv wr => ∃ (i : Nat) (G : Nat → Int), a + 1 ≤ i ∧ i ≤ n + 1 ∧ iv = .int .i64 (i : Int) ∧ Hid (RowF wr g n G ∧ Touch (fun i => i = g) w wr ∧ Sam F G a i ∧ Srt S G a i ∧ (i ≤ b ∨ i = a + 1))) (fun iv _ => n + 1 - (intOf iv).toNat)
  case atStart => exact ⟨a + 1, F, by omega, by have := AN.out; omega, by go_num, H0.out, Touch.refl _ _, Sam.refl _ _ _, fun k l h1 h2 h3 => by omega, .inr rfl⟩
  case round =>
    obtain ⟨i, G, hai, hin, rfl, hZ⟩ := hrel
    rename World => w1
    have R1 := hide hZ.out.1
    have T1 := hide hZ.out.2.1
    have SA := hide hZ.out.2.2.1
    have SO := hide hZ.out.2.2.2.1
    have hbai := hZ.out.2.2.2.2
    clear hZ H0
    by_cases hib : i < b
    · have i1 : (i : Int) < (b : Int) := by omega
      have i2 : (i : Int) ≤ 1001 := by have := HN.out; omega
      have I0 := hide (InI.start (S := S) (by omega : a ≤ i) SA.out SO.out (fun k h1 h2 => ASC.out k i h1 h2 hib))
      have AI := hide (show a ≤ i from by omega)
      have IB := hide hib
      clear SA SO hib hai hin hbai
      go_wp2_with fail
      go_loopw [9] (fun jv wr => ∃ (j : Nat) (G : Nat → Int), a ≤ j ∧ j ≤ i ∧ jv = .int .i64 (j : Int) ∧ Hid (RowF wr g n G ∧ Touch (fun i => i = g) w wr ∧ InI S F G a i j)) (fun jv _ => (intOf jv).toNat)
      case atStart => exact ⟨i, G, AI.out, Nat.le_refl _, rfl, R1.out, T1.out, I0.out⟩
      case round =>
        clear R1 T1 I0
        obtain ⟨j, G, haj, hji, rfl, hZ⟩ := hrel
        rename World => w2
        have R2 := hide hZ.out.1
        have T2 := hide hZ.out.2.1
        have I2 := hide hZ.out.2.2
        clear hZ
        have INx := hide (show Sam F G a (i + 1) → i + 1 ≤ b → i + 1 ≤ n + 1 from fun _ _ => by have := BN.out; omega)
        by_cases hja : a < j
        · have j1 : (a : Int) < (j : Int) := by omega
          have j2 : (j : Int) ≤ 1001 := by omega
          obtain ⟨P, hP⟩ : ∃ P, P = j - 1 := ⟨_, rfl⟩
          have eP : (j : Int) - 1 = (P : Int) := by omega
          have wP : IntKind.i64.wrap ((j : Int) - 1) = (P : Int) := by rw [eP]; exact IntWalk.i64_in _ (by omega)
          clear eP
          have p0 : (0 : Int) ≤ (P : Int) := by omega
          have j0 : (0 : Int) ≤ (j : Int) := by omega
          have lj : j < n := by have := IB.out; have := BN.out; omega
          have lP : P < n := by omega
          have p1 : (P : Int) < (n : Int) := by omega
          have j3 : (j : Int) < (n : Int) := by omega
          have okj : ok (G j) := by
            obtain ⟨k, k1, k2, e⟩ := I2.out.sam.of j haj (by omega)
            rw [e]; exact OK.out k k1 (by have := IB.out; omega)
          have okP : ok (G P) := by
            obtain ⟨k, k1, k2, e⟩ := I2.out.sam.of P (by omega) (by omega)
            rw [e]; exact OK.out k k1 (by have := IB.out; omega)
          have CR := hide (show ∀ W, Touch (fun i => i = g) w W → Calls Try.prog 42 #[.int .i64 (G j), .int .i64 (G P), pv] W fun e w' => e = .returned (.int .i64 (c (G j) (G P))) ∧ Below W.heap.size W w' from fun W hW => CC.out.call W _ _ (T0.out.trans hW (fun _ e => .inl e)) okj okP)
          have cj := R2.out.cell lj
          have cP := R2.out.cell lP
          obtain ⟨x, hx⟩ : ∃ x, x = G j := ⟨_, rfl⟩
          obtain ⟨y, hy⟩ : ∃ y, y = G P := ⟨_, rfl⟩
          obtain ⟨u, hu⟩ : ∃ u, u = c (G j) (G P) := ⟨_, rfl⟩
          have HU := hide hu
          have HX := hide hx
          have HY := hide hy
          rw [← hx] at cj
          rw [← hy] at cP
          rw [← hu, ← hx, ← hy] at CR
          have HP := hide hP
          have LJ := hide lj
          have LP := hide lP
          have HJ := hide hji
          clear hx hy hu okj okP hP lj lP hji haj INx
          go_upto_region 4 with fail
          go_region_held3 (fun w' => w'.cell? ⟨g, j, none⟩ = some (.int .i64 x) ∧ w'.cell? ⟨g, P, none⟩ = some (.int .i64 y)) (first | exact ⟨cj, cP⟩ | exact ⟨dj, dP⟩) ((go_at_call 42; refine (CR.out _ (T2.out.drewN 1)).mono ?_; rintro e w3 ⟨rfl, b3⟩; have T3 := hide (touch_below (T2.out.drewN 1) b3); have R3 := hide (R2.out.drew.below b3); have dj := R3.out.cell LJ.out; have dP := R3.out.cell LP.out; rw [← HX.out] at dj; rw [← HY.out] at dP; clear b3))
          by_cases hu0 : u < 0
          · have fj := R3.out.frozen j
            have fP := R3.out.frozen P
            have N1 := hide (show RowF ((w3.setCell ⟨g, j, none⟩ (.int .i64 y)).setCell ⟨g, P, none⟩ (.int .i64 x)) g n (swF G j P) from by rw [HX.out, HY.out]; exact R3.out.swap j P)
            have N2 := hide (show Touch (fun i => i = g) w ((w3.setCell ⟨g, j, none⟩ (.int .i64 y)).setCell ⟨g, P, none⟩ (.int .i64 x)) from touch_swap T3.out rfl _ _ _ _)
            have N3 := hide (show InI S F (swF G j P) a i P from by
              obtain rfl : j = P + 1 := by have := HP.out; omega
              exact I2.out.swap (by omega) HJ.out (OO.out.lt _ _ (by rw [← HU.out]; exact hu0)))
            obtain ⟨u0, hu0'⟩ := cell?_setCell_some (w := w3) (p := ⟨g, j, none⟩) (x := .int .i64 y) (q := ⟨g, P, none⟩) (v := .int .i64 y) dP
            clear cj cP
            go_upto_region 6 with fail
            go_region
            clear hu0' dj dP fj fP
            have N4 := hide N1.out.drew
            have N5 := hide (N2.out.drewN 1)
            generalize ((w3.setCell ⟨g, j, none⟩ (.int .i64 y)).setCell ⟨g, P, none⟩ (.int .i64 x)) = w4 at *
            go_wp2_with fail
            go_roundw
            case rel => exact ⟨P, swF G j P, by have := HP.out; omega, by have := HP.out; have := HJ.out; omega, by rw [← wP], N4.out, N5.out, N3.out⟩
            case measure => have := HP.out; simp [intOf]; omega
          · have N1 := hide (show Srt S G a (i + 1) from I2.out.stop OO.out (by omega) HJ.out (.inr (by rw [← HP.out, ← HU.out]; exact hu0)))
            have N2 := hide I2.out.sam
            clear cj cP dj dP I2 CR
            go_wp2_with fail
            go_roundw
            case rel => exact ⟨i + 1, G, by have := AI.out; omega, by have := IB.out; have := BN.out; omega, by go_num, R3.out, T3.out, N2.out, N1.out, .inl (by have := IB.out; omega)⟩
            case measure => have := IB.out; have := BN.out; simp [intOf]; omega
        · have eja : j = a := by omega
          have j1 : ¬ (a : Int) < (j : Int) := by omega
          have N1 := hide (show Srt S G a (i + 1) from I2.out.stop OO.out (by omega) hji (.inl eja))
          have N2 := hide I2.out.sam
          clear I2 INx haj hji eja
          go_upto_region 4 with fail
          go_quiet (fail)
          go_wp2_with fail
          go_roundw
          case rel => exact ⟨i + 1, G, by have := AI.out; omega, by have := IB.out; have := BN.out; omega, by go_num, R2.out, T2.out.drewN _, N2.out, N1.out, .inl (by have := IB.out; omega)⟩
          case measure => have := IB.out; have := BN.out; simp [intOf]; omega
    · have i1 : ¬ (i : Int) < (b : Int) := by omega
      go_wp2_with fail
      go_end0
      by_cases h : i ≤ b
      · obtain rfl : i = b := by omega
        exact ⟨rfl, G, R1.out, T1.out, SA.out, SO.out⟩
      · obtain rfl : i = a + 1 := by have := SA.out; have := hbai; omega
        exact ⟨rfl, G, R1.out, T1.out, Sam.same SA.out.one a b, fun k l h1 h2 h3 => by omega⟩
end Go.Proofs.Ythbhbanhgmaopaa
namespace Go.Proofs.Ythbhbanhgmaopaa
open Go.ChangeShapes Go.WideShapes Go.ChangeAt Go.RowKit
set_option linter.unusedVariables false
theorem rot_none (F : Nat → Int) (a b k : Nat) : rotG F a b b k = F k := by
  simp only [rotG]
  repeat' split
  all_goals first | omega | (congr 1; omega)
theorem rot_none2 (F : Nat → Int) (a b k : Nat) : rotG F a a b k = F k := by
  simp only [rotG]
  repeat' split
  all_goals first | omega | (congr 1; omega)
theorem rot_up (F : Nat → Int) (a k q : Nat) (h : a ≤ k) : swF (rotG F a (a + 1) (k + 1)) k (k + 1) q = rotG F a (a + 1) (k + 1 + 1) q := by
  rw [swF_at]
  simp only [rotG]
  repeat' split
  all_goals first | omega | (congr 1; omega)
theorem rot_down (F : Nat → Int) (m k q : Nat) (h : k + 1 ≤ m) : swF (rotG F (k + 1) m (m + 1)) (k + 1) k q = rotG F k m (m + 1) q := by
  rw [swF_at]
  simp only [rotG]
  repeat' split
  all_goals first | omega | (congr 1; omega)
theorem rot_1 {F : Nat → Int} {a m b k : Nat} (h : k < a ∨ b ≤ k) (hm : a ≤ m) (hb : m ≤ b) : rotG F a m b k = F k := by
  simp only [rotG]
  repeat' split
  all_goals first | rfl | omega
theorem rot_2 {F : Nat → Int} {a m b k : Nat} (h1 : a ≤ k) (h2 : k < a + (b - m)) : rotG F a m b k = F (k - a + m) := by
  simp only [rotG]
  rw [if_pos ⟨h1, h2⟩]
theorem rot_3 {F : Nat → Int} {a m b k : Nat} (h1 : a + (b - m) ≤ k) (h2 : k < b) : rotG F a m b k = F (k - (b - m)) := by
  simp only [rotG]
  rw [if_neg (by omega), if_pos ⟨h1, h2⟩]
theorem Sam.rot (F : Nat → Int) {a m b : Nat} (h1 : a ≤ m) (h2 : m ≤ b) : Sam F (rotG F a m b) a b := by
  refine ⟨fun k hk => rot_1 hk h1 h2, fun k k1 k2 => ?_, fun l l1 l2 => ?_⟩
  · by_cases h : k < m
    · exact ⟨k + (b - m), by omega, by omega, by rw [rot_3 (by omega) (by omega)]; congr 1; omega⟩
    · exact ⟨k - m + a, by omega, by omega, by rw [rot_2 (by omega) (by omega)]; congr 1; omega⟩
  · by_cases h : l < a + (b - m)
    · exact ⟨l - a + m, by omega, by omega, rot_2 l1 h⟩
    · exact ⟨l - (b - m), by omega, by omega, rot_3 (by omega) l2⟩
/-- One alone, put among those of the second part. -/
theorem srt_up {c : Int → Int → Int} {S : Int → Int → Prop} (O : Ordr c S) {F : Nat → Int} {a b i : Nat} (h : Srt S F (a + 1) b) (hi : a + 1 ≤ i) (hib : i ≤ b) (h1 : i = a + 1 ∨ S (F (i - 1)) (F a)) (h2 : i = b ∨ S (F a) (F i)) : Srt S (rotG F a (a + 1) i) a b := by
  have lo : ∀ k, a ≤ k → k < i - 1 → S (F (k + 1)) (F a) := fun k k1 k2 => by
    rcases h1 with h1 | h1
    · omega
    · by_cases e : k + 1 = i - 1
      · rw [e]; exact h1
      · exact O.trans _ _ _ (h (k + 1) (i - 1) (by omega) (by omega) (by omega)) h1
  have hiF : ∀ l, i ≤ l → l < b → S (F a) (F l) := fun l l1 l2 => by
    rcases h2 with h2 | h2
    · omega
    · by_cases e : l = i
      · rw [e]; exact h2
      · exact O.trans _ _ _ h2 (h i l (by omega) (by omega) l2)
  have v1 : ∀ k, a ≤ k → k < i - 1 → rotG F a (a + 1) i k = F (k + 1) := fun k k1 k2 => by rw [rot_2 k1 (by omega)]; congr 1; omega
  have v2 : rotG F a (a + 1) i (i - 1) = F a := by rw [rot_3 (by omega) (by omega)]; congr 1; omega
  have v3 : ∀ k, i ≤ k → rotG F a (a + 1) i k = F k := fun k hk => rot_1 (.inr hk) (by omega) hi
  intro k l k1 kl lb
  by_cases e1 : k < i - 1
  · rw [v1 k k1 e1]
    by_cases e2 : l < i - 1
    · rw [v1 l (by omega) e2]; exact h _ _ (by omega) (by omega) (by omega)
    · by_cases e3 : l = i - 1
      · rw [e3, v2]; exact lo k k1 e1
      · rw [v3 l (by omega)]; exact h _ _ (by omega) (by omega) lb
  · by_cases e3 : k = i - 1
    · rw [e3, v2, v3 l (by omega)]; exact hiF l (by omega) lb
    · rw [v3 k (by omega), v3 l (by omega)]; exact h _ _ (by omega) kl lb
theorem srt_down {c : Int → Int → Int} {S : Int → Int → Prop} (O : Ordr c S) {F : Nat → Int} {a m i : Nat} (h : Srt S F a m) (hi : a ≤ i) (him : i ≤ m) (h1 : i = a ∨ S (F (i - 1)) (F m)) (h2 : i = m ∨ S (F m) (F i)) : Srt S (rotG F i m (m + 1)) a (m + 1) := by
  have lo : ∀ k, a ≤ k → k < i → S (F k) (F m) := fun k k1 k2 => by
    rcases h1 with h1 | h1
    · omega
    · by_cases e : k = i - 1
      · rw [e]; exact h1
      · exact O.trans _ _ _ (h k (i - 1) k1 (by omega) (by omega)) h1
  have hiF : ∀ l, i ≤ l → l < m → S (F m) (F l) := fun l l1 l2 => by
    rcases h2 with h2 | h2
    · omega
    · by_cases e : l = i
      · rw [e]; exact h2
      · exact O.trans _ _ _ h2 (h i l hi (by omega) l2)
  have v1 : ∀ k, k < i → rotG F i m (m + 1) k = F k := fun k k1 => rot_1 (.inl k1) him (by omega)
  have v2 : rotG F i m (m + 1) i = F m := by rw [rot_2 (by omega) (by omega)]; congr 1; omega
  have v3 : ∀ k, i < k → k ≤ m → rotG F i m (m + 1) k = F (k - 1) := fun k hk h2 => by rw [rot_3 (by omega) (by omega)]; congr 1; omega
  intro k l k1 kl lb
  by_cases e1 : k < i
  · rw [v1 k e1]
    by_cases e2 : l < i
    · rw [v1 l e2]; exact h _ _ k1 kl (by omega)
    · by_cases e3 : l = i
      · rw [e3, v2]; exact lo k k1 e1
      · rw [v3 l (by omega) (by omega)]; exact h _ _ k1 (by omega) (by omega)
  · by_cases e3 : k = i
    · rw [e3, v2, v3 l (by omega) (by omega)]; exact hiF (l - 1) (by omega) (by omega)
    · rw [v3 k (by omega) (by omega), v3 l (by omega) (by omega)]; exact h _ _ (by omega) (by omega) (by omega)
/-- The two parts, turned at s and e: what is left of s + (e - m) comes first. -/
structure Cut (S : Int → Int → Prop) (F G : Nat → Int) (a s p e b : Nat) : Prop where
  sam : Sam F G a b
  low : Srt S G a s
  mid : Srt S G s p
  top : Srt S G p e
  end_ : Srt S G e b
  all : ∀ k l, a ≤ k → k < p → p ≤ l → l < b → S (G k) (G l)
  new1 : ∀ k l, a ≤ k → k < s → s ≤ l → l < p → G k < G l
  new2 : ∀ k l, p ≤ k → k < e → e ≤ l → l < b → G k < G l
theorem cut_mk {c : Int → Int → Int} {S : Int → Int → Prop} (O : Ordr c S) {F : Nat → Int} {a m b s e p : Nat} (h1 : Srt S F a m) (h2 : Srt S F m b) (hx : ∀ k l, a ≤ k → k < m → m ≤ l → l < b → F k < F l)
    (hs : a ≤ s) (hsm : s ≤ m) (hme : m ≤ e) (heb : e ≤ b) (hp : p = s + (e - m)) (X : s = a ∨ e = b ∨ S (F (s - 1)) (F e)) (Y : s = m ∨ e = m ∨ S (F (e - 1)) (F s)) : Cut S F (rotG F s m e) a s p e b := by
  have v1 : ∀ k, k < s → rotG F s m e k = F k := fun k k1 => rot_1 (.inl k1) hsm hme
  have v2 : ∀ k, s ≤ k → k < p → rotG F s m e k = F (k - s + m) := fun k k1 k2 => rot_2 k1 (by omega)
  have v3 : ∀ k, p ≤ k → k < e → rotG F s m e k = F (k - (e - m)) := fun k k1 k2 => rot_3 (by omega) k2
  have v4 : ∀ k, e ≤ k → rotG F s m e k = F k := fun k k1 => rot_1 (.inr k1) hsm hme
  have XX : ∀ k l, a ≤ k → k < s → e ≤ l → l < b → S (F k) (F l) := fun k l k1 k2 l1 l2 => by
    rcases X with X | X | X
    · omega
    · omega
    · have t1 : S (F k) (F e) := by
        by_cases q : k = s - 1
        · rw [q]; exact X
        · exact O.trans _ _ _ (h1 k (s - 1) k1 (by omega) (by omega)) X
      by_cases q : l = e
      · rw [q]; exact t1
      · exact O.trans _ _ _ t1 (h2 e l hme (by omega) l2)
  have YY : ∀ k l, m ≤ k → k < e → s ≤ l → l < m → S (F k) (F l) := fun k l k1 k2 l1 l2 => by
    rcases Y with Y | Y | Y
    · omega
    · omega
    · have t1 : S (F k) (F s) := by
        by_cases q : k = e - 1
        · rw [q]; exact Y
        · exact O.trans _ _ _ (h2 k (e - 1) k1 (by omega) (by omega)) Y
      by_cases q : l = s
      · rw [q]; exact t1
      · exact O.trans _ _ _ t1 (h1 s l hs (by omega) l2)
  refine ⟨(Sam.rot F hsm hme).wide hs heb, fun k l k1 kl l2 => ?_, fun k l k1 kl l2 => ?_, fun k l k1 kl l2 => ?_, fun k l k1 kl l2 => ?_, fun k l k1 k2 l1 l2 => ?_, fun k l k1 k2 l1 l2 => ?_, fun k l k1 k2 l1 l2 => ?_⟩
  · rw [v1 k (by omega), v1 l (by omega)]; exact h1 k l k1 kl (by omega)
  · rw [v2 k k1 (by omega), v2 l (by omega) l2]; exact h2 _ _ (by omega) (by omega) (by omega)
  · rw [v3 k k1 (by omega), v3 l (by omega) l2]; exact h1 _ _ (by omega) (by omega) (by omega)
  · rw [v4 k k1, v4 l (by omega)]; exact h2 k l (by omega) kl l2
  · by_cases q1 : k < s
    · rw [v1 k q1]
      by_cases q2 : l < e
      · rw [v3 l l1 q2]; exact h1 _ _ k1 (by omega) (by omega)
      · rw [v4 l (by omega)]; exact XX k l k1 q1 (by omega) l2
    · rw [v2 k (by omega) k2]
      by_cases q2 : l < e
      · rw [v3 l l1 q2]; exact YY _ _ (by omega) (by omega) (by omega) (by omega)
      · rw [v4 l (by omega)]; exact h2 _ _ (by omega) (by omega) l2
  · rw [v1 k k2, v2 l l1 l2]; exact hx _ _ k1 (by omega) (by omega) (by omega)
  · rw [v3 k k1 k2, v4 l l1]; exact hx _ _ (by omega) (by omega) (by omega) l2
/-- Both halves sorted, the first ahead of the second. -/
theorem Cut.sorted {S : Int → Int → Prop} {F G H K : Nat → Int} {a s p e b : Nat} (h : Cut S F G a s p e b) (hap : a ≤ p) (hpb : p ≤ b) (h1 : Sam G H a p) (s1 : Srt S H a p) (h2 : Sam H K p b) (s2 : Srt S K p b) : Sam F K a b ∧ Srt S K a b := by
  refine ⟨(h.sam.trans (h1.wide (Nat.le_refl _) hpb)).trans (h2.wide hap (Nat.le_refl _)), fun k l k1 kl l2 => ?_⟩
  by_cases q1 : k < p
  · by_cases q2 : l < p
    · rw [h2.out k (.inl q1), h2.out l (.inl q2)]; exact s1 k l k1 kl q2
    · obtain ⟨l', m1, m2, e1⟩ := h2.of l (by omega) l2
      obtain ⟨k', n1, n2, e2⟩ := h1.of k k1 q1
      rw [h2.out k (.inl q1), e1, h1.out l' (.inr m1), e2]
      exact h.all k' l' n1 n2 m1 m2
  · exact s2 k l (by omega) kl l2
end Go.Proofs.Ythbhbanhgmaopaa
namespace Go.Proofs.Ythbhbanhgmaopaa
open Go.ChangeShapes Go.WideShapes Go.ChangeAt Go.RowKit
set_option linter.unusedVariables false
set_option maxRecDepth 100000 in
set_option maxHeartbeats 8000000 in
theorem sma_any (w0 w : World) (g n cp : Nat) (pv : Value) (c : Int → Int → Int) (ok : Int → Prop) (S : Int → Int → Prop) (hC : CmpC w0 g pv c ok) (O : Ordr c S) (F : Nat → Int) (a m b : Nat) (h : RowF w g n F) (hT : Touch (fun i => i = g) w0 w)
    (hok : ∀ k, a ≤ k → k < b → ok (F k)) (h2 : Srt S F m b) (hx : ∀ l, m ≤ l → l < b → F a < F l) (hm : m = a + 1) (hmb : m < b) (hbn : b ≤ n) (hn : n ≤ 1000) :
    Calls Try.prog 50 #[.slice (some ⟨g, 0, none⟩) n cp, .int .i64 (a : Int), .int .i64 (m : Int), .int .i64 (b : Int), .func (.func 42) #[] #[pv]] w fun e w' => e = .returned (.tuple #[]) ∧ ∃ G, RowF w' g n G ∧ Touch (fun i => i = g) w w' ∧ Sam F G a b ∧ Srt S G a b := by
  have CC := hide hC
  have OO := hide O
  have H0 := hide h
  have T0 := hide hT
  have OK := hide hok
  have HX := hide hx
  have SB := hide h2
  have HM := hide hm
  have MB := hide hmb
  have BN := hide hbn
  have HN := hide hn
  have eM : (m : Int) - (a : Int) = 1 := by omega
  have b2 : (b : Int) ≤ 1000 := by omega
  have m2 : (m : Int) ≤ 1000 := by omega
  clear hC O h hT hok hx h2 hm hmb hbn hn
  go_enter Try.func50, Try.ntmps50
  go_wp2_with fail
  go_loopw [10, 11] (fun iv jv wr => ∃ i j : Nat, m ≤ i ∧ i ≤ j ∧ j ≤ b ∧ iv = .int .i64 (i : Int) ∧ jv = .int .i64 (j : Int) ∧ Hid (RowF wr g n F ∧ Touch (fun i => i = g) w wr ∧ (i = m ∨ c (F (i - 1)) (F a) < 0) ∧ (j = b ∨ 0 ≤ c (F j) (F a)))) (fun iv jv _ => (intOf jv).toNat - (intOf iv).toNat)
  case atStart => exact ⟨m, b, Nat.le_refl _, by have := MB.out; omega, Nat.le_refl _, rfl, rfl, H0.out, Touch.refl _ _, .inl rfl, .inl rfl⟩
  case round =>
    obtain ⟨i, j, hmi, hij, hjb, rfl, rfl, hZ⟩ := hrel
    rename World => w1
    have R1 := hide hZ.out.1
    have T1 := hide hZ.out.2.1
    have LO := hide hZ.out.2.2.1
    have HI := hide hZ.out.2.2.2
    clear hZ H0
    by_cases hlt : i < j
    · have l1 : (i : Int) < (j : Int) := by omega
      have i2 : (i : Int) ≤ 1000 := by omega
      have j2 : (j : Int) ≤ 1000 := by omega
      obtain ⟨H, hH⟩ : ∃ H, H = (i + j) / 2 := ⟨_, rfl⟩
      have eH : ((i : Int) + (j : Int)) / 2 = (H : Int) := by omega
      have h1 : i ≤ H := by omega
      have h2 : H < j := by omega
      have hb : H < b := by omega
      have hn : H < n := by have := BN.out; omega
      have an : a < n := by have := BN.out; have := MB.out; have := HM.out; omega
      have x0 : (0 : Int) ≤ (H : Int) := by omega
      have x1 : (H : Int) < (n : Int) := by omega
      have x2 : (H : Int) ≤ 1000 := by omega
      have y0 : (0 : Int) ≤ (a : Int) := by omega
      have y1 : (a : Int) < (n : Int) := by omega
      have cH := R1.out.cell hn
      have ca := R1.out.cell an
      have okH : ok (F H) := OK.out H (by have := HM.out; omega) hb
      have oka : ok (F a) := OK.out a (Nat.le_refl _) (by have := HM.out; have := MB.out; omega)
      have CR := hide (show ∀ W, Touch (fun i => i = g) w W → Calls Try.prog 42 #[.int .i64 (F H), .int .i64 (F a), pv] W fun e w' => e = .returned (.int .i64 (c (F H) (F a))) ∧ Below W.heap.size W w' from fun W hW => CC.out.call W _ _ (T0.out.trans hW (fun _ e => .inl e)) okH oka)
      obtain ⟨x, hx⟩ : ∃ x, x = F H := ⟨_, rfl⟩
      obtain ⟨y, hy⟩ : ∃ y, y = F a := ⟨_, rfl⟩
      obtain ⟨u, hu⟩ : ∃ u, u = c (F H) (F a) := ⟨_, rfl⟩
      have HU := hide hu
      have GX := hide hx
      have GY := hide hy
      rw [← hx] at cH
      rw [← hy] at ca
      rw [← hu, ← hx, ← hy] at CR
      have LH := hide hn
      have LA := hide an
      have K1 := hide (show m ≤ H ∧ H + 1 ≤ j ∧ i ≤ H from ⟨by omega, by omega, h1⟩)
      have JB := hide hjb
      have MI := hide hmi
      clear hx hy hu okH oka hH hn an hb h1 h2 hij hjb hmi
      go_upto_region 5 with fail
      go_region_held3 (fun w' => w'.cell? ⟨g, H, none⟩ = some (.int .i64 x) ∧ w'.cell? ⟨g, a, none⟩ = some (.int .i64 y)) (first | exact ⟨cH, ca⟩ | exact ⟨dH, da⟩) ((go_at_call 42; refine (CR.out _ (T1.out.drewN 1)).mono ?_; rintro e w3 ⟨rfl, b3⟩; have T3 := hide (touch_below (T1.out.drewN 1) b3); have R3 := hide (R1.out.drew.below b3); have dH := R3.out.cell LH.out; have da := R3.out.cell LA.out; rw [← GX.out] at dH; rw [← GY.out] at da; clear b3))
      by_cases hu0 : u < 0
      · have N1 := hide (show c (F (H + 1 - 1)) (F a) < 0 from by rw [show H + 1 - 1 = H by omega, ← HU.out]; exact hu0)
        clear cH ca dH da CR
        go_wp2_with fail
        go_roundw
        case rel => exact ⟨H + 1, j, by have := K1.out; omega, K1.out.2.1, JB.out, by go_num, rfl, R3.out, T3.out, .inr N1.out, HI.out⟩
        case measure => have := K1.out; simp [intOf]; omega
      · have N1 := hide (show 0 ≤ c (F H) (F a) from by rw [← HU.out]; omega)
        clear cH ca dH da CR
        go_wp2_with fail
        go_roundw
        case rel => exact ⟨i, H, MI.out, K1.out.2.2, by have := K1.out; have := JB.out; omega, rfl, rfl, R3.out, T3.out, LO.out, .inr N1.out⟩
        case measure => have := K1.out; simp [intOf]; omega
    · obtain rfl : i = j := by omega
      have l1 : ¬ (i : Int) < (i : Int) := by omega
      have i2 : (i : Int) ≤ 1000 := by omega
      obtain ⟨E, hE⟩ : ∃ E, E = i - 1 := ⟨_, rfl⟩
      have eE : (i : Int) - 1 = (E : Int) := by have := HM.out; omega
      have HE := hide hE
      have FIN := hide (show Sam F (rotG F a (a + 1) i) a b ∧ Srt S (rotG F a (a + 1) i) a b from by
        have hm := HM.out
        refine ⟨(Sam.rot F (by omega) (by omega)).wide (Nat.le_refl _) hjb, srt_up OO.out (by rw [← hm]; exact SB.out) (by omega) hjb ?_ ?_⟩
        · rcases LO.out with h | h
          · exact .inl (by omega)
          · exact .inr (OO.out.lt _ _ h)
        · rcases HI.out with h | h
          · exact .inl h
          · by_cases q : i = b
            · exact .inl q
            · exact .inr (OO.out.ge _ _ (by omega) (HX.out i (by omega) (by omega))))
      have EA := hide (show a ≤ E ∧ E + 1 = i ∧ i ≤ n from ⟨by have := HM.out; omega, by have := HM.out; omega, by have := BN.out; omega⟩)
      have a2 : (a : Int) ≤ 1000 := by omega
      have E2 : (E : Int) ≤ 1000 := by omega
      clear hij hmi hjb hE LO HI CC OK HX SB
      go_wp2_with fail
      go_loopw [13] (fun kv wr => ∃ k : Nat, a ≤ k ∧ k ≤ E ∧ kv = .int .i64 (k : Int) ∧ Hid (RowF wr g n (rotG F a (a + 1) (k + 1)) ∧ Touch (fun i => i = g) w wr)) (fun kv _ => E - (intOf kv).toNat)
      case atStart => exact ⟨a, Nat.le_refl _, EA.out.1, rfl, R1.out.ext (fun q _ => (rot_none F a (a + 1) q).symm), T1.out⟩
      case round =>
        clear R1 T1
        obtain ⟨k, hak, hkE, rfl, hZ⟩ := hrel
        rename World => w2
        have R2 := hide hZ.out.1
        have T2 := hide hZ.out.2
        clear hZ
        by_cases hlt : k < E
        · have k1 : (k : Int) < (E : Int) := by omega
          have k2 : (k : Int) ≤ 1000 := by omega
          obtain ⟨Y, hY⟩ : ∃ Y, Y = k + 1 := ⟨_, rfl⟩
          have eY : (k : Int) + 1 = (Y : Int) := by omega
          have lk : k < n := by have := EA.out; omega
          have lY : Y < n := by have := EA.out; omega
          have x0 : (0 : Int) ≤ (k : Int) := by omega
          have y0 : (0 : Int) ≤ (Y : Int) := by omega
          have x1 : (k : Int) < (n : Int) := by omega
          have y1 : (Y : Int) < (n : Int) := by omega
          have y2 : (Y : Int) ≤ 1000 := by omega
          have ck := R2.out.cell lk
          have cY := R2.out.cell lY
          have fk := R2.out.frozen k
          have fY := R2.out.frozen Y
          obtain ⟨x, hx⟩ : ∃ x, x = rotG F a (a + 1) (k + 1) k := ⟨_, rfl⟩
          obtain ⟨y, hy⟩ : ∃ y, y = rotG F a (a + 1) (k + 1) Y := ⟨_, rfl⟩
          rw [← hx] at ck
          rw [← hy] at cY
          have N1 := hide (show RowF ((w2.setCell ⟨g, k, none⟩ (.int .i64 y)).setCell ⟨g, Y, none⟩ (.int .i64 x)) g n (rotG F a (a + 1) (Y + 1)) from by
            rw [hx, hy]
            refine (R2.out.swap k Y).ext (fun q _ => ?_)
            rw [hY]
            exact rot_up F a k q hak)
          have N2 := hide (show Touch (fun i => i = g) w ((w2.setCell ⟨g, k, none⟩ (.int .i64 y)).setCell ⟨g, Y, none⟩ (.int .i64 x)) from touch_swap T2.out rfl _ _ _ _)
          obtain ⟨u0, hu0⟩ := cell?_setCell_some (w := w2) (p := ⟨g, k, none⟩) (x := .int .i64 y) (q := ⟨g, Y, none⟩) (v := .int .i64 y) cY
          have HY := hide hY
          have AK := hide hak
          clear hY hx hy lk lY hak
          go_upto_region 11 with fail
          go_region
          clear hu0 ck cY fk fY
          have N3 := hide N1.out.drew
          have N4 := hide (N2.out.drewN 1)
          generalize ((w2.setCell ⟨g, k, none⟩ (.int .i64 y)).setCell ⟨g, Y, none⟩ (.int .i64 x)) = w4 at *
          go_wp2_with fail
          go_roundw
          case rel => exact ⟨Y, by have := HY.out; have := AK.out; omega, by have := HY.out; omega, rfl, N3.out, N4.out⟩
          case measure => have := HY.out; simp [intOf]; omega
        · obtain rfl : k = E := by omega
          go_wp2_with fail
          refine bodyPost_ret (results_none rfl _ _ _) rfl ?_
          refine ⟨rfl, rotG F a (a + 1) i, ?_, T2.out, FIN.out⟩
          have := R2.out
          rw [EA.out.2.1] at this
          exact this
end Go.Proofs.Ythbhbanhgmaopaa
namespace Go.Proofs.Ythbhbanhgmaopaa
open Go.ChangeShapes Go.WideShapes Go.ChangeAt Go.RowKit
set_option linter.unusedVariables false
set_option maxRecDepth 100000 in
set_option maxHeartbeats 8000000 in
theorem smb_any (w0 w : World) (g n cp : Nat) (pv : Value) (c : Int → Int → Int) (ok : Int → Prop) (S : Int → Int → Prop) (hC : CmpC w0 g pv c ok) (O : Ordr c S) (F : Nat → Int) (a m b : Nat) (h : RowF w g n F) (hT : Touch (fun i => i = g) w0 w)
    (hok : ∀ k, a ≤ k → k < b → ok (F k)) (h2 : Srt S F a m) (hx : ∀ l, a ≤ l → l < m → F l < F m) (ham : a < m) (hm : m ≠ a + 1) (hmb : b = m + 1) (hbn : b ≤ n) (hn : n ≤ 1000) :
    Calls Try.prog 50 #[.slice (some ⟨g, 0, none⟩) n cp, .int .i64 (a : Int), .int .i64 (m : Int), .int .i64 (b : Int), .func (.func 42) #[] #[pv]] w fun e w' => e = .returned (.tuple #[]) ∧ ∃ G, RowF w' g n G ∧ Touch (fun i => i = g) w w' ∧ Sam F G a b ∧ Srt S G a b := by
  have CC := hide hC
  have OO := hide O
  have H0 := hide h
  have T0 := hide hT
  have OK := hide hok
  have HX := hide hx
  have SB := hide h2
  have AM := hide ham
  have MB := hide hmb
  have BN := hide hbn
  have HN := hide hn
  obtain ⟨D, hD⟩ : ∃ D, D = m - a := ⟨_, rfl⟩
  have eM : (m : Int) - (a : Int) = (D : Int) := by omega
  have eD : ((D : Int) == 1) = false := by simp; omega
  have eD2 : ¬ (D : Int) = 1 := by omega
  have eB : (b : Int) - (m : Int) = 1 := by omega
  have b2 : (b : Int) ≤ 1000 := by omega
  have m2 : (m : Int) ≤ 1000 := by omega
  clear hC O h hT hok hx h2 hm hmb hbn hn ham hD
  go_enter Try.func50, Try.ntmps50
  go_wp2_with fail
  go_loopw [14, 15] (fun iv jv wr => ∃ i j : Nat, a ≤ i ∧ i ≤ j ∧ j ≤ m ∧ iv = .int .i64 (i : Int) ∧ jv = .int .i64 (j : Int) ∧ Hid (RowF wr g n F ∧ Touch (fun i => i = g) w wr ∧ (i = a ∨ 0 ≤ c (F m) (F (i - 1))) ∧ (j = m ∨ c (F m) (F j) < 0))) (fun iv jv _ => (intOf jv).toNat - (intOf iv).toNat)
  case atStart => exact ⟨a, m, Nat.le_refl _, by have := AM.out; omega, Nat.le_refl _, rfl, rfl, H0.out, Touch.refl _ _, .inl rfl, .inl rfl⟩
  case round =>
    obtain ⟨i, j, hmi, hij, hjb, rfl, rfl, hZ⟩ := hrel
    rename World => w1
    have R1 := hide hZ.out.1
    have T1 := hide hZ.out.2.1
    have LO := hide hZ.out.2.2.1
    have HI := hide hZ.out.2.2.2
    clear hZ H0
    by_cases hlt : i < j
    · have l1 : (i : Int) < (j : Int) := by omega
      have i2 : (i : Int) ≤ 1000 := by omega
      have j2 : (j : Int) ≤ 1000 := by omega
      obtain ⟨H, hH⟩ : ∃ H, H = (i + j) / 2 := ⟨_, rfl⟩
      have eH : ((i : Int) + (j : Int)) / 2 = (H : Int) := by omega
      have h1 : i ≤ H := by omega
      have h2 : H < j := by omega
      have hb : H < m := by omega
      have hn : H < n := by have := BN.out; have := MB.out; omega
      have an : m < n := by have := BN.out; have := MB.out; omega
      have x0 : (0 : Int) ≤ (H : Int) := by omega
      have x1 : (H : Int) < (n : Int) := by omega
      have x2 : (H : Int) ≤ 1000 := by omega
      have y0 : (0 : Int) ≤ (m : Int) := by omega
      have y1 : (m : Int) < (n : Int) := by omega
      have cH := R1.out.cell hn
      have ca := R1.out.cell an
      have okH : ok (F H) := OK.out H (by omega) (by have := MB.out; omega)
      have oka : ok (F m) := OK.out m (by have := AM.out; omega) (by have := MB.out; omega)
      have CR := hide (show ∀ W, Touch (fun i => i = g) w W → Calls Try.prog 42 #[.int .i64 (F m), .int .i64 (F H), pv] W fun e w' => e = .returned (.int .i64 (c (F m) (F H))) ∧ Below W.heap.size W w' from fun W hW => CC.out.call W _ _ (T0.out.trans hW (fun _ e => .inl e)) oka okH)
      obtain ⟨x, hx⟩ : ∃ x, x = F H := ⟨_, rfl⟩
      obtain ⟨y, hy⟩ : ∃ y, y = F m := ⟨_, rfl⟩
      obtain ⟨u, hu⟩ : ∃ u, u = c (F m) (F H) := ⟨_, rfl⟩
      have HU := hide hu
      have GX := hide hx
      have GY := hide hy
      rw [← hx] at cH
      rw [← hy] at ca
      rw [← hu, ← hx, ← hy] at CR
      have LH := hide hn
      have LA := hide an
      have K1 := hide (show a ≤ H ∧ H + 1 ≤ j ∧ i ≤ H from ⟨by omega, by omega, h1⟩)
      have JB := hide hjb
      have MI := hide hmi
      clear hx hy hu okH oka hH hn an hb h1 h2 hij hjb hmi
      go_upto_region 17 with fail
      go_region_held3 (fun w' => w'.cell? ⟨g, H, none⟩ = some (.int .i64 x) ∧ w'.cell? ⟨g, m, none⟩ = some (.int .i64 y)) (first | exact ⟨cH, ca⟩ | exact ⟨dH, da⟩) ((go_at_call 42; refine (CR.out _ (T1.out.drewN 1)).mono ?_; rintro e w3 ⟨rfl, b3⟩; have T3 := hide (touch_below (T1.out.drewN 1) b3); have R3 := hide (R1.out.drew.below b3); have dH := R3.out.cell LH.out; have da := R3.out.cell LA.out; rw [← GX.out] at dH; rw [← GY.out] at da; clear b3))
      by_cases hu0 : u < 0
      · have N1 := hide (show c (F m) (F H) < 0 from by rw [← HU.out]; exact hu0)
        rw [show decide (u < 0) = true from decide_eq_true hu0, Bool.not_true]
        clear cH ca dH da CR
        go_wp2_with fail
        go_roundw
        case rel => exact ⟨i, H, MI.out, K1.out.2.2, by have := K1.out; have := JB.out; omega, rfl, rfl, R3.out, T3.out, LO.out, .inr N1.out⟩
        case measure => have := K1.out; simp [intOf]; omega
      · rw [show decide (u < 0) = false from decide_eq_false hu0, Bool.not_false]
        have hu1 : (0 : Int) ≤ u := by omega
        have N1 := hide (show 0 ≤ c (F m) (F (H + 1 - 1)) from by rw [show H + 1 - 1 = H by omega, ← HU.out]; omega)
        clear cH ca dH da CR
        go_wp2_with fail
        go_roundw
        case rel => exact ⟨H + 1, j, by have := K1.out; omega, K1.out.2.1, JB.out, by go_num, rfl, R3.out, T3.out, .inr N1.out, HI.out⟩
        case measure => have := K1.out; simp [intOf]; omega
    · obtain rfl : i = j := by omega
      have l1 : ¬ (i : Int) < (i : Int) := by omega
      have i2 : (i : Int) ≤ 1000 := by omega
      have FIN := hide (show Sam F (rotG F i m (m + 1)) a b ∧ Srt S (rotG F i m (m + 1)) a b from by
        rw [MB.out]
        refine ⟨(Sam.rot F hjb (by omega)).wide hmi (Nat.le_refl _), srt_down OO.out SB.out hmi hjb ?_ ?_⟩
        · rcases LO.out with h | h
          · exact .inl h
          · by_cases q : i = a
            · exact .inl q
            · exact .inr (OO.out.ge _ _ (by omega) (HX.out (i - 1) (by omega) (by omega)))
        · rcases HI.out with h | h
          · exact .inl h
          · exact .inr (OO.out.lt _ _ h))
      have IM := hide hjb
      clear hij hmi hjb LO HI CC OK HX SB
      go_wp2_with fail
      go_loopw [17] (fun kv wr => ∃ k : Nat, i ≤ k ∧ k ≤ m ∧ kv = .int .i64 (k : Int) ∧ Hid (RowF wr g n (rotG F k m (m + 1)) ∧ Touch (fun i => i = g) w wr)) (fun kv _ => (intOf kv).toNat)
      case atStart => exact ⟨m, IM.out, Nat.le_refl _, rfl, R1.out.ext (fun q _ => (rot_none2 F m (m + 1) q).symm), T1.out⟩
      case round =>
        clear R1 T1
        obtain ⟨k, hak, hkE, rfl, hZ⟩ := hrel
        rename World => w2
        have R2 := hide hZ.out.1
        have T2 := hide hZ.out.2
        clear hZ
        by_cases hlt : i < k
        · have k1 : (i : Int) < (k : Int) := by omega
          have k2 : (k : Int) ≤ 1000 := by omega
          obtain ⟨Y, hY⟩ : ∃ Y, k = Y + 1 := ⟨k - 1, by omega⟩
          have eY : (k : Int) - 1 = (Y : Int) := by omega
          have lk : k < n := by have := BN.out; have := MB.out; omega
          have lY : Y < n := by omega
          have x0 : (0 : Int) ≤ (k : Int) := by omega
          have y0 : (0 : Int) ≤ (Y : Int) := by omega
          have x1 : (k : Int) < (n : Int) := by omega
          have y1 : (Y : Int) < (n : Int) := by omega
          have y2 : (Y : Int) ≤ 1000 := by omega
          have ck := R2.out.cell lk
          have cY := R2.out.cell lY
          have fk := R2.out.frozen k
          have fY := R2.out.frozen Y
          obtain ⟨x, hx⟩ : ∃ x, x = rotG F k m (m + 1) k := ⟨_, rfl⟩
          obtain ⟨y, hy⟩ : ∃ y, y = rotG F k m (m + 1) Y := ⟨_, rfl⟩
          rw [← hx] at ck
          rw [← hy] at cY
          have N1 := hide (show RowF ((w2.setCell ⟨g, k, none⟩ (.int .i64 y)).setCell ⟨g, Y, none⟩ (.int .i64 x)) g n (rotG F Y m (m + 1)) from by
            rw [hx, hy]
            refine (R2.out.swap k Y).ext (fun q _ => ?_)
            rw [hY]
            exact rot_down F m Y q (by omega))
          have N2 := hide (show Touch (fun i => i = g) w ((w2.setCell ⟨g, k, none⟩ (.int .i64 y)).setCell ⟨g, Y, none⟩ (.int .i64 x)) from touch_swap T2.out rfl _ _ _ _)
          obtain ⟨u0, hu0⟩ := cell?_setCell_some (w := w2) (p := ⟨g, k, none⟩) (x := .int .i64 y) (q := ⟨g, Y, none⟩) (v := .int .i64 y) cY
          have HY := hide hY
          have AK := hide hak
          have KM := hide hkE
          clear hY hx hy lk lY hak hkE
          go_upto_region 23 with fail
          go_region
          clear hu0 ck cY fk fY
          have N3 := hide N1.out.drew
          have N4 := hide (N2.out.drewN 1)
          generalize ((w2.setCell ⟨g, k, none⟩ (.int .i64 y)).setCell ⟨g, Y, none⟩ (.int .i64 x)) = w4 at *
          go_wp2_with fail
          go_roundw
          case rel => exact ⟨Y, by have := HY.out; omega, by have := HY.out; have := KM.out; omega, rfl, N3.out, N4.out⟩
          case measure => have := HY.out; simp [intOf]; omega
        · obtain rfl : k = i := by omega
          go_wp2_with fail
          refine bodyPost_ret (results_none rfl _ _ _) rfl ?_
          exact ⟨rfl, rotG F k m (m + 1), R2.out, T2.out, FIN.out⟩
end Go.Proofs.Ythbhbanhgmaopaa
namespace Go.Proofs.Ythbhbanhgmaopaa
open Go.ChangeShapes Go.WideShapes Go.ChangeAt Go.RowKit
set_option linter.unusedVariables false
/-- Where the search begins and where it ends. -/
def loM (a m b M : Nat) : Nat := if M < m then M + m - b else a
def hiM (m M : Nat) : Nat := if M < m then M else m
theorem lohi {a m b M : Nat} (h1 : a + 1 < m) (h2 : m + 1 < b) (hM : M = (a + b) / 2) :
    a ≤ loM a m b M ∧ loM a m b M ≤ hiM m M ∧ hiM m M ≤ m ∧ hiM m M ≤ M ∧ M + m - loM a m b M ≤ b ∧ (loM a m b M = a ∨ M + m - loM a m b M = b) ∧ (hiM m M = m ∨ hiM m M = M) ∧ a < M ∧ M < b := by
  unfold loM hiM
  split <;> omega
set_option maxRecDepth 100000 in
set_option maxHeartbeats 8000000 in
theorem smc_any (w0 w : World) (g n cp : Nat) (pv : Value) (c : Int → Int → Int) (ok : Int → Prop) (S : Int → Int → Prop) (hC : CmpC w0 g pv c ok) (O : Ordr c S) (F : Nat → Int) (a m b : Nat) (h : RowF w g n F) (hT : Touch (fun i => i = g) w0 w)
    (hok : ∀ k, a ≤ k → k < b → ok (F k)) (h1 : Srt S F a m) (h2 : Srt S F m b) (hx : ∀ k l, a ≤ k → k < m → m ≤ l → l < b → F k < F l) (ham : a + 1 < m) (hmb : m + 1 < b) (hbn : b ≤ n) (hn : n ≤ 1000)
    (hrec : ∀ (a' m' b' : Nat) (G : Nat → Int) (W : World), RowF W g n G → Touch (fun i => i = g) w0 W → (∀ k, a' ≤ k → k < b' → ok (G k)) → Srt S G a' m' → Srt S G m' b' → (∀ k l, a' ≤ k → k < m' → m' ≤ l → l < b' → G k < G l) → a' < m' → m' < b' → b' ≤ n → b' - a' < b - a →
      Calls Try.prog 50 #[.slice (some ⟨g, 0, none⟩) n cp, .int .i64 (a' : Int), .int .i64 (m' : Int), .int .i64 (b' : Int), .func (.func 42) #[] #[pv]] W fun e w' => e = .returned (.tuple #[]) ∧ ∃ K, RowF w' g n K ∧ Touch (fun i => i = g) W w' ∧ Sam G K a' b' ∧ Srt S K a' b') :
    Calls Try.prog 50 #[.slice (some ⟨g, 0, none⟩) n cp, .int .i64 (a : Int), .int .i64 (m : Int), .int .i64 (b : Int), .func (.func 42) #[] #[pv]] w fun e w' => e = .returned (.tuple #[]) ∧ ∃ G, RowF w' g n G ∧ Touch (fun i => i = g) w w' ∧ Sam F G a b ∧ Srt S G a b := by
  have CC := hide hC
  have OO := hide O
  have H0 := hide h
  have T0 := hide hT
  have OK := hide hok
  have HX := hide hx
  have SA := hide h1
  have SB := hide h2
  have AM := hide ham
  have MB := hide hmb
  have BN := hide hbn
  have HN := hide hn
  have REC := hide hrec
  obtain ⟨D, hD⟩ : ∃ D, D = m - a := ⟨_, rfl⟩
  obtain ⟨E, hE⟩ : ∃ E, E = b - m := ⟨_, rfl⟩
  obtain ⟨M, hM⟩ : ∃ M, M = (a + b) / 2 := ⟨_, rfl⟩
  obtain ⟨N, hN⟩ : ∃ N, N = M + m := ⟨_, rfl⟩
  obtain ⟨P, hP⟩ : ∃ P, P = N - 1 := ⟨_, rfl⟩
  obtain ⟨L, hL⟩ : ∃ L, L = loM a m b M := ⟨_, rfl⟩
  obtain ⟨U, hU⟩ : ∃ U, U = hiM m M := ⟨_, rfl⟩
  have LH0 := lohi ham hmb hM
  rw [← hL, ← hU, ← hN] at LH0
  have LH := hide LH0
  clear LH0
  have eM : (m : Int) - (a : Int) = (D : Int) := by omega
  have eD : ((D : Int) == 1) = false := by simp; omega
  have eD2 : ¬ (D : Int) = 1 := by omega
  have eB : (b : Int) - (m : Int) = (E : Int) := by omega
  have eE : ((E : Int) == 1) = false := by simp; omega
  have eE2 : ¬ (E : Int) = 1 := by omega
  have eMid : ((a : Int) + (b : Int)) / 2 = (M : Int) := by omega
  have eN : (M : Int) + (m : Int) = (N : Int) := by omega
  have eP : (N : Int) - 1 = (P : Int) := by omega
  have b2 : (b : Int) ≤ 1000 := by omega
  have a2 : (a : Int) ≤ 1000 := by omega
  have m2 : (m : Int) ≤ 1000 := by omega
  have M2 : (M : Int) ≤ 1000 := by omega
  have N2 : (N : Int) ≤ 2000 := by omega
  have HNN := hide hN
  have HP := hide hP
  have HL := hide hL
  have HU := hide hU
  clear hC O h hT hok hx h1 h2 hmb hbn hn ham hD hE hM hN hP hL hU hrec
  go_enter Try.func50, Try.ntmps50
  go_upto_if 140 with fail
  go_cut [20, 21] (fun v u wx => v = .int .i64 (L : Int) ∧ u = .int .i64 (U : Int) ∧ wx = w)
  case first =>
    by_cases hgt : M < m
    · have g1 : (M : Int) < (m : Int) := by omega
      have eL : (N : Int) - (b : Int) = (L : Int) := by have := HL.out; have := HNN.out; unfold loM at *; have := AM.out; have := MB.out; have := LH.out; rw [if_pos hgt] at *; omega
      have eU : Hid (M = U) := show M = U from by have := HU.out; unfold hiM at *; rw [if_pos hgt] at *; omega
      go_wp2_with fail
      go_meet
      case rel => exact ⟨rfl, by rw [eU.out], rfl⟩
    · have g1 : ¬ (M : Int) < (m : Int) := by omega
      have eL : Hid (a = L) := show a = L from by have := HL.out; unfold loM at *; rw [if_neg hgt] at *; omega
      have eU : Hid (m = U) := show m = U from by have := HU.out; unfold hiM at *; rw [if_neg hgt] at *; omega
      go_wp2_with fail
      go_meet
      case rel => exact ⟨by rw [eL.out], by rw [eU.out], rfl⟩
  case rest =>
    obtain ⟨rfl, rfl, e⟩ := hcut
    have e := e.symm
    subst e
    go_wp2_with fail
    go_loopw [20, 21] (fun iv jv wr => ∃ i j : Nat, L ≤ i ∧ i ≤ j ∧ j ≤ U ∧ iv = .int .i64 (i : Int) ∧ jv = .int .i64 (j : Int) ∧ Hid (RowF wr g n F ∧ Touch (fun i => i = g) w wr ∧ (i = L ∨ 0 ≤ c (F (N - i)) (F (i - 1))) ∧ (j = U ∨ c (F (N - 1 - j)) (F j) < 0))) (fun iv jv _ => (intOf jv).toNat - (intOf iv).toNat)
    case atStart => exact ⟨L, U, Nat.le_refl _, LH.out.2.1, Nat.le_refl _, rfl, rfl, H0.out, Touch.refl _ _, .inl rfl, .inl rfl⟩
    case round =>
      obtain ⟨i, j, hmi, hij, hjb, rfl, rfl, hZ⟩ := hrel
      rename World => w1
      have R1 := hide hZ.out.1
      have T1 := hide hZ.out.2.1
      have LO := hide hZ.out.2.2.1
      have HI := hide hZ.out.2.2.2
      clear hZ H0
      by_cases hlt : i < j
      · have l1 : (i : Int) < (j : Int) := by omega
        have i2 : (i : Int) ≤ 1000 := by have := LH.out; omega
        have j2 : (j : Int) ≤ 1000 := by have := LH.out; omega
        obtain ⟨H, hH⟩ : ∃ H, H = (i + j) / 2 := ⟨_, rfl⟩
        obtain ⟨Q, hQ⟩ : ∃ Q, Q = P - H := ⟨_, rfl⟩
        have eH : ((i : Int) + (j : Int)) / 2 = (H : Int) := by omega
        have k1 : i ≤ H := by omega
        have k2 : H < j := by omega
        have hb : H < m := by have := LH.out; omega
        have hM : H < M := by have := LH.out; omega
        have hn : H < n := by have := BN.out; have := MB.out; omega
        have q1 : m ≤ Q := by have := HNN.out; have := HP.out; omega
        have q2 : Q < b := by have := HNN.out; have := HP.out; have := LH.out; omega
        have qn : Q < n := by have := BN.out; omega
        have wQ : IntKind.i64.wrap ((P : Int) - (H : Int)) = (Q : Int) := by
          have e : (P : Int) - (H : Int) = (Q : Int) := by have := HNN.out; have := HP.out; omega
          rw [e]; exact IntWalk.i64_in _ (by omega)
        have x0 : (0 : Int) ≤ (H : Int) := by omega
        have x1 : (H : Int) < (n : Int) := by omega
        have x2 : (H : Int) ≤ 1000 := by omega
        have y0 : (0 : Int) ≤ (Q : Int) := by omega
        have y1 : (Q : Int) < (n : Int) := by omega
        have cH := R1.out.cell hn
        have ca := R1.out.cell qn
        have okH : ok (F H) := OK.out H (by have := LH.out; omega) (by have := MB.out; omega)
        have oka : ok (F Q) := OK.out Q (by have := AM.out; omega) q2
        have CR := hide (show ∀ W, Touch (fun i => i = g) w W → Calls Try.prog 42 #[.int .i64 (F Q), .int .i64 (F H), pv] W fun e w' => e = .returned (.int .i64 (c (F Q) (F H))) ∧ Below W.heap.size W w' from fun W hW => CC.out.call W _ _ (T0.out.trans hW (fun _ e => .inl e)) oka okH)
        obtain ⟨x, hx⟩ : ∃ x, x = F H := ⟨_, rfl⟩
        obtain ⟨y, hy⟩ : ∃ y, y = F Q := ⟨_, rfl⟩
        obtain ⟨u, hu⟩ : ∃ u, u = c (F Q) (F H) := ⟨_, rfl⟩
        have GU := hide hu
        have GX := hide hx
        have GY := hide hy
        rw [← hx] at cH
        rw [← hy] at ca
        rw [← hu, ← hx, ← hy] at CR
        have LN := hide hn
        have LQ := hide qn
        have K1 := hide (show L ≤ H ∧ H + 1 ≤ j ∧ i ≤ H from ⟨by omega, by omega, k1⟩)
        have KQ := hide (show Q = N - 1 - H from by rw [hQ, HP.out])
        have JB := hide hjb
        have MI := hide hmi
        clear hx hy hu okH oka hH hn qn hb hM k1 k2 hij hjb hmi hQ q1 q2
        go_upto_region 35 with fail
        go_region_held3 (fun w' => w'.cell? ⟨g, H, none⟩ = some (.int .i64 x) ∧ w'.cell? ⟨g, Q, none⟩ = some (.int .i64 y)) (first | exact ⟨cH, ca⟩ | exact ⟨dH, da⟩) ((go_at_call 42; refine (CR.out _ (T1.out.drewN 1)).mono ?_; rintro e w3 ⟨rfl, b3⟩; have T3 := hide (touch_below (T1.out.drewN 1) b3); have R3 := hide (R1.out.drew.below b3); have dH := R3.out.cell LN.out; have da := R3.out.cell LQ.out; rw [← GX.out] at dH; rw [← GY.out] at da; clear b3))
        by_cases hu0 : u < 0
        · rw [show decide (u < 0) = true from decide_eq_true hu0, Bool.not_true]
          have N1 := hide (show c (F (N - 1 - H)) (F H) < 0 from by rw [← KQ.out, ← GU.out]; exact hu0)
          clear cH ca dH da CR
          go_wp2_with fail
          go_roundw
          case rel => exact ⟨i, H, MI.out, K1.out.2.2, by have := K1.out; have := JB.out; omega, rfl, rfl, R3.out, T3.out, LO.out, .inr N1.out⟩
          case measure => have := K1.out; simp [intOf]; omega
        · rw [show decide (u < 0) = false from decide_eq_false hu0, Bool.not_false]
          have N1 := hide (show 0 ≤ c (F (N - (H + 1))) (F (H + 1 - 1)) from by rw [show N - (H + 1) = Q by rw [KQ.out]; omega, show H + 1 - 1 = H by omega, ← GU.out]; omega)
          clear cH ca dH da CR
          go_wp2_with fail
          go_roundw
          case rel => exact ⟨H + 1, j, by have := K1.out; omega, K1.out.2.1, JB.out, by go_num, rfl, R3.out, T3.out, .inr N1.out, HI.out⟩
          case measure => have := K1.out; simp [intOf]; omega
      · obtain rfl : i = j := by omega
        have l1 : ¬ (i : Int) < (i : Int) := by omega
        have i2 : (i : Int) ≤ 1000 := by have := LH.out; omega
        obtain ⟨E', hE'⟩ : ∃ e, e = N - i := ⟨_, rfl⟩
        have eE' : (N : Int) - (i : Int) = (E' : Int) := by have := LH.out; have := HNN.out; omega
        have F1 := hide (show a ≤ i ∧ i ≤ m ∧ m ≤ E' ∧ E' ≤ b ∧ M = i + (E' - m) from by have := LH.out; have := HNN.out; omega)
        have CUT := hide (show Cut S F (rotG F i m E') a i M E' b from by
          refine cut_mk OO.out SA.out SB.out HX.out F1.out.1 F1.out.2.1 F1.out.2.2.1 F1.out.2.2.2.1 F1.out.2.2.2.2 ?_ ?_
          · rcases LO.out with h | h
            · have := LH.out
              rcases this.2.2.2.2.2.1 with q | q
              · exact .inl (by omega)
              · exact .inr (.inl (by omega))
            · by_cases q : i = a
              · exact .inl q
              · by_cases q2 : E' = b
                · exact .inr (.inl q2)
                · rw [← hE'] at h
                  exact .inr (.inr (OO.out.ge _ _ (by omega) (HX.out (i - 1) E' (by have := F1.out; omega) (by have := F1.out; omega) (by have := F1.out; omega) (by have := F1.out; omega))))
          · rcases HI.out with h | h
            · have := LH.out
              rcases this.2.2.2.2.2.2.1 with q | q
              · exact .inl (by omega)
              · exact .inr (.inl (by have := F1.out; omega))
            · rw [show N - 1 - i = E' - 1 by omega] at h
              exact .inr (.inr (OO.out.lt _ _ h)))
        clear hij hmi hjb LO HI hE'
        have OKG := hide (show ∀ (X : Nat → Int), Sam F X a b → ∀ k, a ≤ k → k < b → ok (X k) from fun X hX k k1 k2 => by
          obtain ⟨l, l1, l2, e⟩ := hX.of k k1 k2
          rw [e]; exact OK.out l l1 l2)
        have ME := hide (show m < E' → i < m → E' ≤ n from fun _ _ => by have := F1.out; have := BN.out; omega)
        have MLT := hide (show a < M from LH.out.2.2.2.2.2.2.2.1)
        clear OK HX SA SB LH CC
        have e2 : (E' : Int) ≤ 1000 := by have := F1.out; omega
        obtain ⟨q1, hq1⟩ : ∃ q, q = decide (i < m ∧ m < E') := ⟨_, rfl⟩
        obtain ⟨q2, hq2⟩ : ∃ q, q = decide (a < i ∧ i < M) := ⟨_, rfl⟩
        obtain ⟨q3, hq3⟩ : ∃ q, q = decide (M < E' ∧ E' < b) := ⟨_, rfl⟩
        have Q1 := hide hq1
        have Q2 := hide hq2
        have Q3 := hide hq3
        clear hq1 hq2 hq3
        go_upto_region 39 with fail
        go_cut [185] (fun v wx => v = .bool q1 ∧ wx = w1)
        case first =>
          by_cases c1 : i < m
          · have c2 : (i : Int) < (m : Int) := by omega
            by_cases c3 : m < E'
            · have c4 : (m : Int) < (E' : Int) := by omega
              have Z := hide (show true = q1 from by rw [Q1.out]; exact (decide_eq_true ⟨c1, c3⟩).symm)
              clear c1 c3
              go_wp2_with fail
              go_meet
              case rel => exact ⟨by rw [Z.out], rfl⟩
            · have c4 : ¬ (m : Int) < (E' : Int) := by omega
              have Z := hide (show false = q1 from by rw [Q1.out]; exact (decide_eq_false (fun h => c3 h.2)).symm)
              clear c1 c3
              go_wp2_with fail
              go_meet
              case rel => exact ⟨by rw [Z.out], rfl⟩
          · have c2 : ¬ (i : Int) < (m : Int) := by omega
            have Z := hide (show false = q1 from by rw [Q1.out]; exact (decide_eq_false (fun h => c1 h.1)).symm)
            clear c1
            go_wp2_with fail
            go_meet
            case rel => exact ⟨by rw [Z.out], rfl⟩
        case rest =>
          obtain ⟨rfl, e⟩ := hcut
          have e := e.symm
          subst e
          go_upto_if 185 with fail
          go_cut [20] (fun v wx => v = .int .i64 (i : Int) ∧ Hid (RowF wx g n (rotG F i m E') ∧ Touch (fun i => i = g) w wx))
          case first =>
            cases q1 with
            | true =>
              have Z := of_decide_eq_true (Q1.out).symm
              have C := hide (rot_any w1 g n cp F i m E' (.func (.func 42) #[] #[pv]) R1.out Z.1 Z.2 (ME.out Z.2 Z.1) HN.out)
              clear Z
              go_wp2_with (go_at_call 52; refine C.out.mono ?_; rintro e w' ⟨rfl, hr, ht⟩; have R2 := hide hr; have T2 := hide ht; clear hr ht)
              go_meet
              case rel => exact ⟨rfl, R2.out, T1.out.trans T2.out (fun _ e => .inl e)⟩
            | false =>
              have Z := of_decide_eq_false (Q1.out).symm
              have R2 := hide (show RowF w1 g n (rotG F i m E') from R1.out.ext (fun k _ => by
                have := F1.out
                by_cases q : i = m
                · rw [q]; exact (rot_none2 F m E' k).symm
                · rw [show E' = m by omega]; exact (rot_none F i m k).symm))
              clear Z
              go_wp2_with fail
              go_meet
              case rel => exact ⟨rfl, R2.out, T1.out⟩
          case rest =>
            obtain ⟨rfl, hZ⟩ := hcut
            clear R1 T1
            rename World => w2
            have R2 := hide hZ.out.1
            have T2 := hide hZ.out.2
            clear hZ
            obtain ⟨G, hG⟩ : ∃ G, G = rotG F i m E' := ⟨_, rfl⟩
            rw [← hG] at R2 CUT
            clear hG
            have LE := hide (show a ≤ M ∧ M ≤ b from by have := F1.out; omega)
            have C2 := hide (show a < i → i < M → Calls Try.prog 50 #[.slice (some ⟨g, 0, none⟩) n cp, .int .i64 (a : Int), .int .i64 (i : Int), .int .i64 (M : Int), .func (.func 42) #[] #[pv]] w2 fun e w' => e = .returned (.tuple #[]) ∧ ∃ K, RowF w' g n K ∧ Touch (fun i => i = g) w2 w' ∧ Sam G K a M ∧ Srt S K a M from fun h1 h2 =>
              REC.out a i M G w2 R2.out (T0.out.trans T2.out (fun _ e => .inl e)) (fun k k1 k2 => OKG.out G CUT.out.sam k k1 (by have := LE.out; omega)) CUT.out.low CUT.out.mid CUT.out.new1 h1 h2 (by have := LE.out; have := BN.out; omega) (by have := F1.out; have := MB.out; omega))
            have C3 := hide (show M < E' → E' < b → ∀ W K, RowF W g n K → Touch (fun i => i = g) w0 W → Sam G K a M → Calls Try.prog 50 #[.slice (some ⟨g, 0, none⟩) n cp, .int .i64 (M : Int), .int .i64 (E' : Int), .int .i64 (b : Int), .func (.func 42) #[] #[pv]] W fun e w' => e = .returned (.tuple #[]) ∧ ∃ J, RowF w' g n J ∧ Touch (fun i => i = g) W w' ∧ Sam K J M b ∧ Srt S J M b from fun h1 h2 W K hr ht hs => by
              have ek : ∀ k, M ≤ k → K k = G k := fun k hk => hs.out k (.inr hk)
              refine REC.out M E' b K W hr ht (fun k k1 k2 => by rw [ek k k1]; exact OKG.out G CUT.out.sam k (by have := LE.out; omega) k2) (fun k l k1 k2 l2 => ?_) (fun k l k1 k2 l2 => ?_) (fun k l k1 k2 l1 l2 => ?_) h1 h2 BN.out (by have := F1.out; have := LE.out; have := AM.out; have := MLT.out; omega)
              · rw [ek k k1, ek l (by omega)]; exact CUT.out.top k l k1 k2 l2
              · rw [ek k (by omega), ek l (by omega)]; exact CUT.out.end_ k l k1 k2 l2
              · rw [ek k k1, ek l (by omega)]; exact CUT.out.new2 k l k1 k2 l1 l2)
            have D2 := hide (show ¬ (a < i ∧ i < M) → Srt S G a M from fun h => by
              have := F1.out
              by_cases q : i = a
              · have := CUT.out.mid; rw [q] at this; exact this
              · rw [show M = i by omega]; exact CUT.out.low)
            have D3 := hide (show ¬ (M < E' ∧ E' < b) → ∀ K, Sam G K a M → Srt S K M b from fun h K hs => by
              have := F1.out
              have ek : ∀ k, M ≤ k → K k = G k := fun k hk => hs.out k (.inr hk)
              intro k l k1 kl l2
              rw [ek k k1, ek l (by omega)]
              by_cases q : E' = b
              · have := CUT.out.top; rw [q] at this; exact this k l k1 kl l2
              · have := CUT.out.end_; rw [show E' = M by omega] at this; exact this k l k1 kl l2)
            by_cases c1 : a < i
            · have c2 : (a : Int) < (i : Int) := by omega
              by_cases c3 : i < M
              · have c4 : (i : Int) < (M : Int) := by omega
                have C := hide (C2.out c1 c3)
                clear C2 D2 c1 c3
                go_upto_region 43 with (go_at_call 50; refine C.out.mono ?_; rintro e w' ⟨rfl, H, hr, ht, hs, hq⟩; have R3 := hide hr; have T3 := hide (T2.out.trans ht (S' := fun i => i = g) (fun _ e => .inl e)); have S3 := hide hs; have Q3 := hide hq; clear hr ht hs hq)
                clear C R2 T2
                by_cases c5 : M < E'
                · have c6 : (M : Int) < (E' : Int) := by omega
                  by_cases c7 : E' < b
                  · have c8 : (E' : Int) < (b : Int) := by omega
                    have C := hide (C3.out c5 c7 _ H R3.out (T0.out.trans T3.out (fun _ e => .inl e)) S3.out)
                    clear c5 c7 C3 REC
                    go_wp2_with (go_at_call 50; refine C.out.mono ?_; rintro e w' ⟨rfl, J, hr, ht, hs, hq⟩; have R4 := hide hr; have T4 := hide ht; have S4 := hide hs; have Q4 := hide hq; clear hr ht hs hq)
                    go_end0
                    exact ⟨rfl, J, R4.out, T3.out.trans T4.out (fun _ e => .inl e), CUT.out.sorted LE.out.1 LE.out.2 S3.out Q3.out S4.out Q4.out⟩
                  · have c8 : ¬ (E' : Int) < (b : Int) := by omega
                    have C := hide (D3.out (fun h => c7 h.2) _ S3.out)
                    clear C3 REC
                    go_wp2_with fail
                    go_end0
                    exact ⟨rfl, _, R3.out, T3.out, CUT.out.sorted LE.out.1 LE.out.2 S3.out Q3.out (Sam.refl _ _ _) C.out⟩
                · have c6 : ¬ (M : Int) < (E' : Int) := by omega
                  have C := hide (D3.out (fun h => c5 h.1) _ S3.out)
                  clear C3 REC
                  go_wp2_with fail
                  go_end0
                  exact ⟨rfl, _, R3.out, T3.out, CUT.out.sorted LE.out.1 LE.out.2 S3.out Q3.out (Sam.refl _ _ _) C.out⟩
              · have c4 : ¬ (i : Int) < (M : Int) := by omega
                have Q3 := hide (D2.out (fun h => c3 h.2))
                clear C2 D2 c1 c3
                by_cases c5 : M < E'
                · have c6 : (M : Int) < (E' : Int) := by omega
                  by_cases c7 : E' < b
                  · have c8 : (E' : Int) < (b : Int) := by omega
                    have C := hide (C3.out c5 c7 _ G R2.out (T0.out.trans T2.out (fun _ e => .inl e)) (Sam.refl _ _ _))
                    clear c5 c7 C3 REC
                    go_wp2_with (go_at_call 50; refine C.out.mono ?_; rintro e w' ⟨rfl, J, hr, ht, hs, hq⟩; have R4 := hide hr; have T4 := hide ht; have S4 := hide hs; have Q4 := hide hq; clear hr ht hs hq)
                    go_end0
                    exact ⟨rfl, J, R4.out, T2.out.trans T4.out (fun _ e => .inl e), CUT.out.sorted LE.out.1 LE.out.2 (Sam.refl _ _ _) Q3.out S4.out Q4.out⟩
                  · have c8 : ¬ (E' : Int) < (b : Int) := by omega
                    have C := hide (D3.out (fun h => c7 h.2) _ (Sam.refl _ _ _))
                    clear C3 REC
                    go_wp2_with fail
                    go_end0
                    exact ⟨rfl, _, R2.out, T2.out, CUT.out.sorted LE.out.1 LE.out.2 (Sam.refl _ _ _) Q3.out (Sam.refl _ _ _) C.out⟩
                · have c6 : ¬ (M : Int) < (E' : Int) := by omega
                  have C := hide (D3.out (fun h => c5 h.1) _ (Sam.refl _ _ _))
                  clear C3 REC
                  go_wp2_with fail
                  go_end0
                  exact ⟨rfl, _, R2.out, T2.out, CUT.out.sorted LE.out.1 LE.out.2 (Sam.refl _ _ _) Q3.out (Sam.refl _ _ _) C.out⟩
            · have c2 : ¬ (a : Int) < (i : Int) := by omega
              have Q3 := hide (D2.out (fun h => c1 h.1))
              clear C2 D2 c1
              by_cases c5 : M < E'
              · have c6 : (M : Int) < (E' : Int) := by omega
                by_cases c7 : E' < b
                · have c8 : (E' : Int) < (b : Int) := by omega
                  have C := hide (C3.out c5 c7 _ G R2.out (T0.out.trans T2.out (fun _ e => .inl e)) (Sam.refl _ _ _))
                  clear c5 c7 C3 REC
                  go_wp2_with (go_at_call 50; refine C.out.mono ?_; rintro e w' ⟨rfl, J, hr, ht, hs, hq⟩; have R4 := hide hr; have T4 := hide ht; have S4 := hide hs; have Q4 := hide hq; clear hr ht hs hq)
                  go_end0
                  exact ⟨rfl, J, R4.out, T2.out.trans T4.out (fun _ e => .inl e), CUT.out.sorted LE.out.1 LE.out.2 (Sam.refl _ _ _) Q3.out S4.out Q4.out⟩
                · have c8 : ¬ (E' : Int) < (b : Int) := by omega
                  have C := hide (D3.out (fun h => c7 h.2) _ (Sam.refl _ _ _))
                  clear C3 REC
                  go_wp2_with fail
                  go_end0
                  exact ⟨rfl, _, R2.out, T2.out, CUT.out.sorted LE.out.1 LE.out.2 (Sam.refl _ _ _) Q3.out (Sam.refl _ _ _) C.out⟩
              · have c6 : ¬ (M : Int) < (E' : Int) := by omega
                have C := hide (D3.out (fun h => c5 h.1) _ (Sam.refl _ _ _))
                clear C3 REC
                go_wp2_with fail
                go_end0
                exact ⟨rfl, _, R2.out, T2.out, CUT.out.sorted LE.out.1 LE.out.2 (Sam.refl _ _ _) Q3.out (Sam.refl _ _ _) C.out⟩
end Go.Proofs.Ythbhbanhgmaopaa
namespace Go.Proofs.Ythbhbanhgmaopaa
open Go.ChangeShapes Go.WideShapes Go.ChangeAt Go.RowKit
set_option linter.unusedVariables false
theorem sym_any (w0 : World) (g n cp : Nat) (pv : Value) (c : Int → Int → Int) (ok : Int → Prop) (S : Int → Int → Prop) (hC : CmpC w0 g pv c ok) (O : Ordr c S) (hn : n ≤ 1000) : ∀ (t a m b : Nat) (F : Nat → Int) (w : World), b - a ≤ t → RowF w g n F → Touch (fun i => i = g) w0 w →
    (∀ k, a ≤ k → k < b → ok (F k)) → Srt S F a m → Srt S F m b → (∀ k l, a ≤ k → k < m → m ≤ l → l < b → F k < F l) → a < m → m < b → b ≤ n →
    Calls Try.prog 50 #[.slice (some ⟨g, 0, none⟩) n cp, .int .i64 (a : Int), .int .i64 (m : Int), .int .i64 (b : Int), .func (.func 42) #[] #[pv]] w fun e w' => e = .returned (.tuple #[]) ∧ ∃ G, RowF w' g n G ∧ Touch (fun i => i = g) w w' ∧ Sam F G a b ∧ Srt S G a b := by
  intro t
  induction t with
  | zero => intro a m b F w ht h hT hok h1 h2 hx ham hmb hbn; omega
  | succ t ih =>
    intro a m b F w ht h hT hok h1 h2 hx ham hmb hbn
    by_cases e1 : m = a + 1
    · exact sma_any w0 w g n cp pv c ok S hC O F a m b h hT hok h2 (fun l l1 l2 => hx a l (Nat.le_refl _) ham l1 l2) e1 hmb hbn hn
    · by_cases e2 : b = m + 1
      · exact smb_any w0 w g n cp pv c ok S hC O F a m b h hT hok h1 (fun l l1 l2 => hx l m l1 l2 (Nat.le_refl _) hmb) ham e1 e2 hbn hn
      · exact smc_any w0 w g n cp pv c ok S hC O F a m b h hT hok h1 h2 hx (by omega) (by omega) hbn hn (fun a' m' b' G W r t k s1 s2 x p q u v => ih a' m' b' G W (by omega) r t k s1 s2 x p q u)
set_option maxRecDepth 100000 in
set_option maxHeartbeats 8000000 in
theorem stable_any (w0 w : World) (g n cp : Nat) (pv : Value) (c : Int → Int → Int) (ok : Int → Prop) (S : Int → Int → Prop) (hC : CmpC w0 g pv c ok) (O : Ordr c S) (F : Nat → Int) (h : RowF w g n F) (hT : Touch (fun i => i = g) w0 w)
    (hok : ∀ k, k < n → ok (F k)) (hasc : ∀ k l, k < l → l < n → F k < F l) (hn : n ≤ 39) :
    Calls Try.prog 47 #[.slice (some ⟨g, 0, none⟩) n cp, .int .i64 (n : Int), .func (.func 42) #[] #[pv]] w fun e w' => e = .returned (.tuple #[]) ∧ ∃ G, RowF w' g n G ∧ Touch (fun i => i = g) w w' ∧ Sam F G 0 n ∧ Srt S G 0 n := by
  have INS := hide (fun (W : World) (a b : Nat) (K : Nat → Int) (hr : RowF W g n K) (ht : Touch (fun i => i = g) w0 W) (h1 : ∀ k, a ≤ k → k < b → ok (K k)) (h2 : ∀ k l, a ≤ k → k < l → l < b → K k < K l) (h3 : b ≤ n) (h4 : a ≤ n) => ins_any w0 W g n cp pv c ok S hC O K a b hr ht h1 h2 h3 h4 (by omega))
  have SYM := hide (fun (W : World) (a m b : Nat) (K : Nat → Int) => sym_any w0 g n cp pv c ok S hC O (by omega) (b - a) a m b K W (Nat.le_refl _))
  have H0 := hide h
  have T0 := hide hT
  have OK := hide hok
  have ASC := hide hasc
  have HN := hide hn
  have n2 : (n : Int) ≤ 1000 := by omega
  clear hC O h hT hok hasc hn
  by_cases c1 : n < 20
  · have k1 : ¬ (20 : Int) ≤ (n : Int) := by omega
    have k2 : ¬ (20 : Int) < (n : Int) := by omega
    have C := hide (INS.out w 0 n F H0.out T0.out (fun k _ k2 => OK.out k k2) (fun k l _ k2 k3 => ASC.out k l k2 k3) (Nat.le_refl _) (Nat.zero_le _))
    clear INS SYM c1
    go_enter Try.func47, Try.ntmps47
    go_wp2_with fail
    go_loopw [7, 8] (fun av bv wr => av = .int .i64 0 ∧ bv = .int .i64 20 ∧ wr = w) (fun _ _ _ => 0)
    case atStart => exact ⟨rfl, rfl, rfl⟩
    case round =>
      obtain ⟨rfl, rfl, e⟩ := hrel
      have e := e.symm
      subst e
      go_wp2_with (go_at_call 49; refine C.out.mono ?_; rintro e w2 ⟨rfl, G, hr, ht, hs, hq⟩; have R := hide hr; have T := hide ht; have SS := hide hs; have SQ := hide hq; clear hr ht hs hq)
      go_loopw [6] (fun v wr => v = .int .i64 20 ∧ wr = w2) (fun _ _ => 0)
      case atStart => exact ⟨rfl, rfl⟩
      case round =>
        obtain ⟨rfl, e⟩ := hrel
        have e := e.symm
        subst e
        go_wp2_with fail
        go_end0
        exact ⟨rfl, G, R.out, T.out, SS.out, SQ.out⟩
  · have k1 : (20 : Int) ≤ (n : Int) := by omega
    have k3 : ¬ (40 : Int) ≤ (n : Int) := by have := HN.out; omega
    have k4 : ¬ (40 : Int) < (n : Int) := by have := HN.out; omega
    have C1 := hide (INS.out w 0 20 F H0.out T0.out (fun k _ k2 => OK.out k (by omega)) (fun k l _ k2 k3 => ASC.out k l k2 (by omega)) (by omega) (Nat.zero_le _))
    have C2 := hide (show ∀ W G, RowF W g n G → Touch (fun i => i = g) w W → Sam F G 0 20 → Calls Try.prog 49 #[.slice (some ⟨g, 0, none⟩) n cp, .int .i64 20, .int .i64 (n : Int), .func (.func 42) #[] #[pv]] W fun e w' => e = .returned (.tuple #[]) ∧ ∃ K, RowF w' g n K ∧ Touch (fun i => i = g) W w' ∧ Sam G K 20 n ∧ Srt S K 20 n from fun W G hr ht hs => by
      have ek : ∀ k, 20 ≤ k → G k = F k := fun k hk => hs.out k (.inr hk)
      exact INS.out W 20 n G hr (T0.out.trans ht (fun _ e => .inl e)) (fun k k1 k2 => by rw [ek k k1]; exact OK.out k k2) (fun k l k1 k2 k3 => by rw [ek k k1, ek l (by omega)]; exact ASC.out k l k2 k3) (Nat.le_refl _) (by omega))
    have C3 := hide (show 20 < n → ∀ W G K, RowF W g n K → Touch (fun i => i = g) w W → Sam F G 0 20 → Srt S G 0 20 → Sam G K 20 n → Srt S K 20 n → Calls Try.prog 50 #[.slice (some ⟨g, 0, none⟩) n cp, .int .i64 0, .int .i64 20, .int .i64 (n : Int), .func (.func 42) #[] #[pv]] W fun e w' => e = .returned (.tuple #[]) ∧ ∃ J, RowF w' g n J ∧ Touch (fun i => i = g) W w' ∧ Sam F J 0 n ∧ Srt S J 0 n from fun h20 W G K hr ht hs hq hs2 hq2 => by
      have ek : ∀ k, k < 20 → K k = G k := fun k hk => hs2.out k (.inl hk)
      have ef : ∀ k, 20 ≤ k → G k = F k := fun k hk => hs.out k (.inr hk)
      have SK : Sam F K 0 n := (hs.wide (Nat.le_refl _) (by omega)).trans (hs2.wide (Nat.zero_le _) (Nat.le_refl _))
      refine (SYM.out W 0 20 n K hr (T0.out.trans ht (fun _ e => .inl e)) (fun k _ k2 => ?_) (fun k l k1 kl l2 => ?_) hq2 (fun k l k1 k2 l1 l2 => ?_) (by omega) h20 (Nat.le_refl _)).mono ?_
      · obtain ⟨l, l1, l2, e⟩ := SK.of k (Nat.zero_le _) k2
        rw [e]; exact OK.out l l2
      · rw [ek k (by omega), ek l l2]; exact hq k l k1 kl l2
      · obtain ⟨l', m1, m2, e⟩ := hs2.of l l1 l2
        obtain ⟨k', n1, n2, e2⟩ := hs.of k k1 k2
        rw [e, ek k k2, e2, ef l' m1]
        exact ASC.out k' l' (by omega) m2
      · rintro e w' ⟨he, J, h1, h2, h3, h4⟩
        exact ⟨he, J, h1, h2, SK.trans h3, h4⟩)
    have D3 := hide (show ¬ 20 < n → ∀ G K, Sam F G 0 20 → Srt S G 0 20 → Sam G K 20 n → Sam F K 0 n ∧ Srt S K 0 n from fun h20 G K hs hq hs2 => by
      have ek : ∀ k, K k = G k := fun k => hs2.out k (by omega)
      obtain rfl : n = 20 := by omega
      exact ⟨hs.trans (Sam.same ek 0 20), fun k l k1 kl l2 => by rw [ek k, ek l]; exact hq k l k1 kl l2⟩)
    clear INS SYM
    go_enter Try.func47, Try.ntmps47
    go_wp2_with fail
    go_loopw [7, 8] (fun av bv wr => (av = .int .i64 0 ∧ bv = .int .i64 20 ∧ wr = w) ∨ (av = .int .i64 20 ∧ bv = .int .i64 40 ∧ ∃ G, Hid (RowF wr g n G ∧ Touch (fun i => i = g) w wr ∧ Sam F G 0 20 ∧ Srt S G 0 20))) (fun _ bv _ => 40 - (intOf bv).toNat)
    case atStart => exact .inl ⟨rfl, rfl, rfl⟩
    case round =>
      rcases hrel with ⟨rfl, rfl, e⟩ | ⟨rfl, rfl, G, hZ⟩
      · have e := e.symm
        subst e
        clear C2 C3 D3
        go_wp2_with (go_at_call 49; refine C1.out.mono ?_; rintro e w2 ⟨rfl, G, hr, ht, hs, hq⟩; have R := hide hr; have T := hide ht; have SS := hide hs; have SQ := hide hq; clear hr ht hs hq)
        go_roundw
        case rel => exact .inr ⟨rfl, rfl, G, R.out, T.out, SS.out, SQ.out⟩
        case measure => simp [intOf]
      · rename World => w1
        have C := hide (C2.out w1 G hZ.out.1 hZ.out.2.1 hZ.out.2.2.1)
        clear C1 C2
        go_wp2_with (go_at_call 49; refine C.out.mono ?_; rintro e w2 ⟨rfl, K, hr, ht, hs, hq⟩; have R := hide hr; have T := hide (hZ.out.2.1.trans ht (S' := fun i => i = g) (fun _ e => .inl e)); have SS := hide hs; have SQ := hide hq; clear hr ht hs hq)
        by_cases c2 : 20 < n
        · have k5 : (20 : Int) < (n : Int) := by omega
          have CM := hide (C3.out c2 w2 G K R.out T.out hZ.out.2.2.1 hZ.out.2.2.2 SS.out SQ.out)
          clear C3 D3 C hZ c2
          go_loopw [6] (fun v wr => (v = .int .i64 20 ∧ wr = w2) ∨ (v = .int .i64 40 ∧ ∃ J, Hid (RowF wr g n J ∧ Touch (fun i => i = g) w wr ∧ Sam F J 0 n ∧ Srt S J 0 n))) (fun v _ => 40 - (intOf v).toNat)
          case atStart => exact .inl ⟨rfl, rfl⟩
          case round =>
            rcases hrel with ⟨rfl, e⟩ | ⟨rfl, J, hZ⟩
            · have e := e.symm
              subst e
              go_wp2_with fail
              go_loopw [7, 8] (fun av bv wr => av = .int .i64 0 ∧ bv = .int .i64 40 ∧ wr = w2) (fun _ _ _ => 0)
              case atStart => exact ⟨rfl, rfl, rfl⟩
              case round =>
                obtain ⟨rfl, rfl, e⟩ := hrel
                have e := e.symm
                subst e
                go_wp2_with (go_at_call 50; refine CM.out.mono ?_; rintro e w4 ⟨rfl, J, hr, ht, hs, hq⟩; have R4 := hide hr; have T4 := hide (T.out.trans ht (S' := fun i => i = g) (fun _ e => .inl e)); have SS4 := hide hs; have SQ4 := hide hq; clear hr ht hs hq)
                go_roundw
                case rel => exact .inr ⟨rfl, J, R4.out, T4.out, SS4.out, SQ4.out⟩
                case measure => simp [intOf]
            · go_wp2_with fail
              go_end0
              exact ⟨rfl, J, hZ.out⟩
        · have k5 : ¬ (20 : Int) < (n : Int) := by omega
          have FIN := hide (D3.out c2 G K hZ.out.2.2.1 hZ.out.2.2.2 SS.out)
          clear C3 D3 C hZ c2
          go_loopw [6] (fun v wr => v = .int .i64 20 ∧ wr = w2) (fun _ _ => 0)
          case atStart => exact ⟨rfl, rfl⟩
          case round =>
            obtain ⟨rfl, e⟩ := hrel
            have e := e.symm
            subst e
            go_wp2_with fail
            go_end0
            exact ⟨rfl, K, R.out, T.out, FIN.out.1, FIN.out.2⟩
end Go.Proofs.Ythbhbanhgmaopaa
