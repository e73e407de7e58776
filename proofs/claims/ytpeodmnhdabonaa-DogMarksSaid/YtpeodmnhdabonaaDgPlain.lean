/-
  Plain facts of the watchdog (chapter 15): no Go in sight.
-/
import Derived.Test.YtpeodmnhdabonaaNumPlain
namespace Go.Proofs.Ytpeodmnhdabonaa
set_option linter.unusedVariables false
/-- A dog: how much may go by, the last mark, when it fired. -/
structure Dg where
  w : Int
  last : Int
  fired : List Int
def markS (s : Dg) (now : Int) : Dg := if s.last < cl now then { s with last := cl now } else s
def dtB (s : Dg) (now : Int) : Bool := decide (s.w ≤ cl now - s.last)
def dtS (s : Dg) (now : Int) : Dg := if dtB s now = true then { s with last := cl now, fired := s.fired ++ [cl now] } else s
def newD (w : Int) : Dg := ⟨w, 0, []⟩
structure GoodD (s : Dg) : Prop where
  w1 : 1 ≤ s.w
  w2 : s.w ≤ 1099511627776
  l1 : 0 ≤ s.last
  l2 : s.last ≤ 1099511627776
theorem good_newD {w : Int} (h1 : 1 ≤ w) (h2 : w ≤ 1099511627776) : GoodD (newD w) := ⟨h1, h2, by show (0 : Int) ≤ 0; omega, by show (0 : Int) ≤ 1099511627776; omega⟩
theorem GoodD.mark {s : Dg} (h : GoodD s) (now : Int) : GoodD (markS s now) := by
  unfold markS
  split
  · exact ⟨h.w1, h.w2, cl_lo now, cl_hi now⟩
  · exact h
theorem GoodD.tick {s : Dg} (h : GoodD s) (now : Int) : GoodD (dtS s now) := by
  unfold dtS
  split
  · exact ⟨h.w1, h.w2, cl_lo now, cl_hi now⟩
  · exact h
theorem dtS_len (s : Dg) (now : Int) : (dtS s now).fired.length ≤ s.fired.length + 1 := by unfold dtS; split <;> simp
theorem markS_fired (s : Dg) (now : Int) : (markS s now).fired = s.fired := by unfold markS; split <;> rfl
theorem markS_last {s : Dg} {m : Int} (h0 : 0 ≤ m) (h1 : m ≤ 1000000) : (markS s m).last = if s.last < m then m else s.last := by
  unfold markS
  rw [cl_in m h0 (by omega)]
  split <;> rfl
theorem markS_same {s : Dg} {m : Int} (h0 : 0 ≤ m) (h1 : m ≤ 1000000) (h : m ≤ s.last) : markS s m = s := by
  unfold markS
  rw [cl_in m h0 (by omega), if_neg (by omega)]
/-- DogExact: ahead of moment t. -/
structure ExactI (w t last : Int) (many : Nat) (s : Dg) : Prop where
  ww : s.w = w
  la : s.last = last
  fi : s.fired.length = many
  lo : 0 ≤ last
  hi : last ≤ t
  near : t - last ≤ w
def exLast (last t : Int) (mark : Bool) : Int := if mark = true then t else last
def exS (s : Dg) (t : Int) (mark : Bool) : Dg := if mark = true then markS s t else s
theorem ExactI.mark {w t last : Int} {many : Nat} {s : Dg} (h : ExactI w t last many s) (w1 : 1 ≤ w) (t0 : 0 ≤ t) (t1 : t ≤ 1000) (b : Bool) : ExactI w t (exLast last t b) many (exS s t b) := by
  cases b with
  | false => exact h
  | true =>
    have hl := h.hi
    refine ⟨?_, ?_, ?_, t0, Int.le_refl _, by show t - t ≤ w; omega⟩
    · show (markS s t).w = w
      unfold markS
      split
      · exact h.ww
      · exact h.ww
    · show (markS s t).last = t
      rw [markS_last t0 (by omega), h.la]
      split <;> omega
    · show (markS s t).fired.length = many
      rw [markS_fired]; exact h.fi
theorem ExactI.tickB {w t last : Int} {many : Nat} {s : Dg} (h : ExactI w t last many s) (t0 : 0 ≤ t) (t1 : t ≤ 1000) : dtB s t = (t - last == w) := by
  unfold dtB
  rw [cl_in t t0 (by omega), h.ww, h.la, Bool.eq_iff_iff]
  have := h.near
  simp
  omega
theorem ExactI.next {w t last : Int} {many : Nat} {s : Dg} (h : ExactI w t last many s) (w1 : 1 ≤ w) (t0 : 0 ≤ t) (t1 : t ≤ 1000) :
    ExactI w (t + 1) (if (t - last == w) = true then t else last) (if (t - last == w) = true then many + 1 else many) (dtS s t) := by
  have e := h.tickB t0 t1
  have hn := h.near
  have hh := h.hi
  have hlo := h.lo
  unfold dtS
  rw [e]
  by_cases k : (t - last == w) = true
  · rw [if_pos k, if_pos k, if_pos k]
    refine ⟨h.ww, ?_, ?_, t0, by omega, by omega⟩
    · show cl t = t
      exact cl_in t t0 (by omega)
    · show (s.fired ++ [cl t]).length = many + 1
      simp [h.fi]
  · rw [if_neg k, if_neg k, if_neg k]
    have : t - last ≠ w := by simpa using k
    exact ⟨h.ww, h.la, h.fi, hlo, by omega, by omega⟩
end Go.Proofs.Ytpeodmnhdabonaa
