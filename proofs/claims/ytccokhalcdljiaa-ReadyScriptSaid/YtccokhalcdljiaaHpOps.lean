/-
  Contracts of package heap's own functions: New, place, Has, Len, Min, Push, Pop, Drop, Move.
-/
import Derived.Test.YtccokhalcdljiaaHpLib
namespace Go.Proofs.Ytccokhalcdljiaa.Hp
open Go.ChangeShapes Go.WideShapes Go.ChangeAt Go.RowKit Go.Sort
set_option linter.unusedVariables false
/-- The heap at block H holds l, as a heap. -/
def Held (w : World) (F : Nat → Prop) (H : Nat) (l : List (Int × Int)) : Prop := Q w F H l ∧ HeapN l l.length
theorem Held.q {F : Nat → Prop} {w : World} {H : Nat} {l : List (Int × Int)} (h : Held w F H l) : Q w F H l := h.1
theorem Held.hp {F : Nat → Prop} {w : World} {H : Nat} {l : List (Int × Int)} (h : Held w F H l) : HeapN l l.length := h.2
theorem Held.below {F : Nat → Prop} {w w' : World} {H : Nat} {l : List (Int × Int)} (h : Held w F H l) (hb : Below w.heap.size w w') : Held w' F H l := ⟨h.1.below hb, h.2⟩
theorem Held.keep {S F : Nat → Prop} {w w' : World} {H : Nat} {l : List (Int × Int)} (h : Held w F H l) (t : Touch S w w') (d : ∀ i, F i → ¬ S i) : Held w' F H l := ⟨h.1.keep t d, h.2⟩
theorem Held.lt {F : Nat → Prop} {w : World} {H : Nat} {l : List (Int × Int)} (h : Held w F H l) : ∀ i, F i → i < w.heap.size := by
  obtain ⟨⟨v, M, f, hp, hs, hw, fH, fM, fg, fl⟩, _⟩ := h; exact fl
theorem Held.wf {F : Nat → Prop} {w : World} {H : Nat} {l : List (Int × Int)} (h : Held w F H l) : Wf l := by
  obtain ⟨⟨v, M, f, hp, hs, hw, fH, fM, fg, fl⟩, _⟩ := h; exact hw
/-- No ID stands twice. -/
theorem Held.inj {F : Nat → Prop} {w : World} {H : Nat} {l : List (Int × Int)} (h : Held w F H l) {a b : Nat} (ha : a < l.length) (hb : b < l.length) (e : (it l a).1 = (it l b).1) : a = b := by
  obtain ⟨⟨v, M, f, hp, hs, hw, fH, fM, fg, fl⟩, _⟩ := h
  have := hs.1 a ha
  rw [e, hs.1 b hb] at this
  exact (Option.some.inj this).symm
theorem new_held (w : World) : Held ((w.alloc (.map #[] 0)).alloc (.cells #[.slice none 0 0, .map (some w.heap.size)] 90)) (fun i => w.heap.size ≤ i ∧ i < w.heap.size + 2) (w.heap.size + 1) [] := by
  refine ⟨⟨.slice none 0 0, w.heap.size, fun _ => none, ⟨?_, ?_, ?_⟩, ?_, ?_, ?_, ?_, ?_, ?_⟩, fun c c0 cn => by cases cn⟩
  · have := heap_alloc_new (w.alloc (.map #[] 0)) (.cells #[.slice none 0 0, .map (some w.heap.size)] 90)
    rw [show (w.alloc (.map #[] 0)).heap.size = w.heap.size + 1 by simp] at this
    exact this
  · exact World.ownsRow_nil _ _ _ _
  · exact (Places.made w).keep (RowKit.Below.heap_alloc _ _ _ (by simp))
  · exact ⟨fun k hk => (by cases hk), fun id k h => (by cases h)⟩
  · exact fun x hx => by cases hx
  · omega
  · omega
  · exact fun g hg => by cases hg
  · intro i hi
    have : ((w.alloc (.map #[] 0)).alloc (.cells #[.slice none 0 0, .map (some w.heap.size)] 90)).heap.size = w.heap.size + 2 := by simp
    rw [this]; exact hi.2
theorem hnew_any (w : World) : Calls Try.prog 35 #[] w fun e w' => ∃ H F, e = .returned (.pointer (some ⟨H, 0, none⟩)) ∧ Held w' F H [] ∧ Below w.heap.size w w' ∧ ∀ i, F i → w.heap.size ≤ i := by
  have hmm := @run_makeMap Try.prog
  have HN := hide (new_held w)
  go_enter Try.func35, Try.ntmps35
  go_wp2_with fail
  go_ret
  exact ⟨_, _, rfl, HN.out, ((Below.refl _ _).alloc (Nat.le_refl _) _).alloc (by simp) _, fun i h => h.1⟩
theorem place_nil (id : Int) (w : World) : Calls Try.prog 76 #[.pointer none, .int .i64 id] w fun e w' => e = .returned (.tuple #[.int .i64 0, .bool false]) ∧ w = w' := by
  go_enter Try.func76, Try.ntmps76
  go_wp2_with fail
  go_ret2
  exact ⟨rfl, rfl⟩
theorem place_yes {w : World} {F : Nat → Prop} {H : Nat} {l : List (Int × Int)} (h : Held w F H l) (id : Int) (hid : (Lit.int .i64 id).wf = true) (k : Nat) (hk : k < l.length) (e : (it l k).1 = id) :
    Calls Try.prog 76 #[.pointer (some ⟨H, 0, none⟩), .int .i64 id] w fun e w' => e = .returned (.tuple #[.int .i64 (k : Int), .bool true]) ∧ w = w' := by
  obtain ⟨⟨v, M, f, hp, hs, hw, fH, fM, fg, fl⟩, _⟩ := h
  have hf := hs.1 k hk
  rw [e] at hf
  have c1 := hp.cell1
  have hr := hp.2.2.look id hid
  rw [hf] at hr
  have hr : (Instr.lookup 85 (.map (some M)) (.int .i64 id) true).run Try.prog w = .ok (.tuple #[.int .i64 (k : Int), .bool true]) w := hr
  clear hf e hp hs hw fl fg fH fM hid hk
  go_enter Try.func76, Try.ntmps76
  go_wp2_with fail
  go_ret2
  exact ⟨rfl, rfl⟩
theorem place_no {w : World} {F : Nat → Prop} {H : Nat} {l : List (Int × Int)} (h : Held w F H l) (id : Int) (hid : (Lit.int .i64 id).wf = true) (hno : ∀ k, k < l.length → (it l k).1 ≠ id) :
    Calls Try.prog 76 #[.pointer (some ⟨H, 0, none⟩), .int .i64 id] w fun e w' => e = .returned (.tuple #[.int .i64 0, .bool false]) ∧ w = w' := by
  obtain ⟨⟨v, M, f, hp, hs, hw, fH, fM, fg, fl⟩, _⟩ := h
  have hf : f id = none := by
    cases e : f id with
    | none => rfl
    | some k => exact absurd (hs.2 id k e).2 (hno k (hs.2 id k e).1)
  have c1 := hp.cell1
  have hr := hp.2.2.look id hid
  rw [hf] at hr
  have hr : (Instr.lookup 85 (.map (some M)) (.int .i64 id) true).run Try.prog w = .ok (.tuple #[.int .i64 0, .bool false]) w := hr
  clear hf hp hs hw fl fg fH fM hid hno
  go_enter Try.func76, Try.ntmps76
  go_wp2_with fail
  go_ret2
  exact ⟨rfl, rfl⟩
theorem has_of_place {w : World} {p : Option Addr} {id : Int} {n : Int} {b : Bool} (h : Calls Try.prog 76 #[.pointer p, .int .i64 id] w fun e w' => e = .returned (.tuple #[.int .i64 n, .bool b]) ∧ w = w') :
    Calls Try.prog 70 #[.pointer p, .int .i64 id] w fun e w' => e = .returned (.bool b) ∧ w = w' := by
  have HC := hide h
  clear h
  go_enter Try.func70, Try.ntmps70
  go_wp2_with (go_at_call 76; refine HC.out.mono ?_; rintro e w' ⟨rfl, rfl⟩)
  go_ret
  exact ⟨rfl, rfl⟩
theorem len_nil (w : World) : Calls Try.prog 66 #[.pointer none] w fun e w' => e = .returned (.int .i64 0) ∧ w = w' := by
  go_enter Try.func66, Try.ntmps66
  go_wp2_with fail
  go_ret
  exact ⟨rfl, rfl⟩
theorem len_any {w : World} {F : Nat → Prop} {H : Nat} {l : List (Int × Int)} (h : Held w F H l) : Calls Try.prog 66 #[.pointer (some ⟨H, 0, none⟩)] w fun e w' => e = .returned (.int .i64 (l.length : Int)) ∧ w = w' := by
  have HC := hide (qlen_at h.1)
  clear h
  go_enter Try.func66, Try.ntmps66
  go_wp2_with (go_at_call 78; refine HC.out.mono ?_; rintro e w' ⟨rfl, rfl⟩)
  go_ret
  exact ⟨rfl, rfl⟩
/-- An item and a bool, as answered. -/
def itemBool (x : Int × Int) (b : Bool) : Ending := .returned (.tuple #[.agg #[.int .i64 x.1, .int .i64 x.2], .bool b])
theorem min_none (w : World) (p : Option Addr) (h : Calls Try.prog 66 #[.pointer p] (w.alloc (.cells #[.int .i64 0, .int .i64 0] 113)) fun e w' => e = .returned (.int .i64 0) ∧ (w.alloc (.cells #[.int .i64 0, .int .i64 0] 113)) = w') :
    Calls Try.prog 69 #[.pointer p] w fun e w' => e = itemBool (0, 0) false ∧ Below w.heap.size w w' := by
  have HC := hide h
  clear h
  go_enter Try.func69, Try.ntmps69
  go_wp2_with (go_at_call 66; refine HC.out.mono ?_; rintro e w' ⟨rfl, rfl⟩)
  exact bodyPost_ret (v := .tuple #[.agg #[.int .i64 0, .int .i64 0], .bool false]) (by simp [results, Try.results69, go_sem]) rfl ⟨rfl, (Below.refl _ _).alloc (Nat.le_refl _) _⟩
theorem held_alloc {w : World} {F : Nat → Prop} {H : Nat} {l : List (Int × Int)} (h : Held w F H l) (o : Obj) : Held (w.alloc o) F H l := h.below ((Below.refl _ _).alloc (Nat.le_refl _) _)
theorem min_nil (w : World) : Calls Try.prog 69 #[.pointer none] w fun e w' => e = itemBool (0, 0) false ∧ Below w.heap.size w w' := min_none w none (len_nil _)
theorem min_empty {w : World} {F : Nat → Prop} {H : Nat} (h : Held w F H []) : Calls Try.prog 69 #[.pointer (some ⟨H, 0, none⟩)] w fun e w' => e = itemBool (0, 0) false ∧ Below w.heap.size w w' :=
  min_none w _ (len_any (held_alloc h _))
theorem min_some {w : World} {F : Nat → Prop} {H : Nat} {l : List (Int × Int)} (h : Held w F H l) (hl : 0 < l.length) : Calls Try.prog 69 #[.pointer (some ⟨H, 0, none⟩)] w fun e w' => e = itemBool (it l 0) true ∧ Below w.heap.size w w' := by
  have HC := hide (len_any (held_alloc h (.cells #[.int .i64 0, .int .i64 0] 113)))
  obtain ⟨⟨v, M, f, hp, hs, hw, fH, fM, fg, fl⟩, _⟩ := h
  have c0 := hp.cell0
  have hH := hp.ltH
  obtain ⟨g, c, rfl, _, hg, hc, _⟩ := hp.row hl
  obtain ⟨d0, d1⟩ := hc 0 hl
  rw [Nat.zero_mul] at d0 d1
  clear hc hp hs hw fl fg fH fM
  generalize it l 0 = x at *
  have hne : ((l.length : Int) == 0) = false := by simp; intro e; rw [e] at hl; cases hl
  have i1 : (0 : Int) < (l.length : Int) := by omega
  go_enter Try.func69, Try.ntmps69
  go_wp2_with (go_at_call 66; refine HC.out.mono ?_; rintro e w' ⟨rfl, rfl⟩)
  exact bodyPost_ret (v := .tuple #[.agg #[.int .i64 x.1, .int .i64 x.2], .bool true]) (by simp [results, Try.results69, go_sem]) rfl ⟨rfl, (Below.refl _ _).alloc (Nat.le_refl _) _⟩
theorem hpop_none (w : World) (p : Option Addr) (h : ∀ w' : World, Below w.heap.size w w' → Calls Try.prog 69 #[.pointer p] w' fun e w2 => e = itemBool (0, 0) false ∧ Below w'.heap.size w' w2) :
    Calls Try.prog 106 #[.pointer p] w fun e w' => e = itemBool (0, 0) false ∧ Below w.heap.size w w' := by
  have HC := hide (h (w.alloc (.cells #[.int .i64 0, .int .i64 0] 113)) ((Below.refl _ _).alloc (Nat.le_refl _) _))
  clear h
  go_enter Try.func106, Try.ntmps106
  go_wp2_with fail
  go_at_call 69
  refine HC.out.mono ?_
  rintro e w1 ⟨rfl, hb⟩
  have hA : w1.heap[w.heap.size]? = some (.cells #[.int .i64 0, .int .i64 0] 113 (0, 0)) := (hb.block w.heap.size (by simp)).trans (heap_alloc_new w _)
  have a0 : w1.cell? ⟨w.heap.size, 0, none⟩ = some (.int .i64 0) := by rw [cell_of_row _ _ _ _ _ _ hA]; rfl
  have a1 : w1.cell? ⟨w.heap.size, 1, none⟩ = some (.int .i64 0) := by rw [cell_of_row _ _ _ _ _ _ hA]; rfl
  have f0 : w1.frozen? ⟨w.heap.size, 0, none⟩ = false := frozen_of_row _ _ _ _ _ hA
  have f1 : w1.frozen? ⟨w.heap.size, 1, none⟩ = false := frozen_of_row _ _ _ _ _ hA
  have hz : w.heap.size < w1.heap.size := by have := hb.size; simp at this; omega
  have HB := hide (below_one hb (by simp))
  clear hA hb HC
  unfold itemBool
  go_wp2_with fail
  refine bodyPost_ret (v := .tuple #[.agg #[.int .i64 0, .int .i64 0], .bool false]) (by simp [results, Try.results106, go_sem, a0, a1, hz]) rfl ⟨rfl, ?_⟩
  refine ((HB.out.setCell (p := ⟨w.heap.size, 0, none⟩) (Nat.le_refl _) _).setCell (p := ⟨w.heap.size, 1, none⟩) (Nat.le_refl _) _).alloc ?_ _
  have := HB.out.size
  simpa [World.setCell] using this
theorem hpop_some {w : World} {F : Nat → Prop} {H n : Nat} {l : List (Int × Int)} (h : Held w F H l) (hl : l.length = n + 1) (hn : l.length < 800000) :
    Calls Try.prog 106 #[.pointer (some ⟨H, 0, none⟩)] w fun e w' => e = itemBool (it l 0) true ∧ ∃ l', Held w' F H l' ∧ (it l 0 :: l').Perm l ∧ Touch F w w' := by
  have HH := hide h
  have HC := hide (min_some (held_alloc h (.cells #[.int .i64 0, .int .i64 0] 113)) (by omega))
  have HL := hide hl
  have HN := hide hn
  have fl := h.lt
  have hnF : ¬ F w.heap.size := fun e => by have := fl _ e; omega
  have HF := hide hnF
  have HFl := hide fl
  generalize hx : it l 0 = x at *
  have HX := hide hx
  clear h hl hn fl hnF hx
  go_enter Try.func106, Try.ntmps106
  go_wp2_with fail
  go_at_call 69
  refine HC.out.mono ?_
  rintro e w1 ⟨rfl, hb⟩
  have hA : w1.heap[w.heap.size]? = some (.cells #[.int .i64 0, .int .i64 0] 113 (0, 0)) := (hb.block w.heap.size (by simp)).trans (heap_alloc_new w _)
  have hz : w.heap.size < w1.heap.size := by have := hb.size; simp at this; omega
  have B1 := below_one hb (by simp)
  obtain ⟨W2, hW2⟩ : ∃ W2, W2 = w1.alloc (.cells #[.int .i64 x.1, .int .i64 x.2] 113) := ⟨_, rfl⟩
  have B2 : Below w.heap.size w W2 := by rw [hW2]; exact B1.alloc B1.size _
  have hH2 := hide (HH.out.below B2)
  have hA2 : W2.heap[w.heap.size]? = some (.cells #[.int .i64 0, .int .i64 0] 113 (0, 0)) := by rw [hW2, RowKit.Below.heap_alloc w1 _ _ hz]; exact hA
  have hX2 : W2.heap[w1.heap.size]? = some (.cells #[.int .i64 x.1, .int .i64 x.2] 113 (0, 0)) := by rw [hW2]; exact heap_alloc_new w1 _
  have hs2 : W2.heap.size = w1.heap.size + 1 := by rw [hW2]; simp
  have HA2 := hide hA2
  have HX2 := hide hX2
  have HS2 := hide hs2
  have HB2 := hide B2
  have HW := hide hW2
  clear hA hb hA2 hX2 hs2 B2 B1 HC hW2
  unfold itemBool
  go_wp2_with fail
  rw [← HW.out]
  go_at_call 107
  with_reducible refine (cpop_any _ F H n l hH2.out.q hH2.out.hp HL.out HN.out).mono ?_
  rintro e w3 ⟨⟨v, rfl⟩, l', q3, p3, h3, t3⟩
  have hA3 : w3.heap[w.heap.size]? = some (.cells #[.int .i64 0, .int .i64 0] 113 (0, 0)) := (t3.block _ (by have := HS2.out; omega) HF.out).trans HA2.out
  have hX3 : w3.heap[w1.heap.size]? = some (.cells #[.int .i64 x.1, .int .i64 x.2] 113 (0, 0)) := (t3.block _ (by have := HS2.out; omega) (fun e => by have := HFl.out _ e; omega)).trans HX2.out
  have a0 : w3.cell? ⟨w.heap.size, 0, none⟩ = some (.int .i64 0) := by rw [cell_of_row _ _ _ _ _ _ hA3]; rfl
  have a1 : w3.cell? ⟨w.heap.size, 1, none⟩ = some (.int .i64 0) := by rw [cell_of_row _ _ _ _ _ _ hA3]; rfl
  have f0 : w3.frozen? ⟨w.heap.size, 0, none⟩ = false := frozen_of_row _ _ _ _ _ hA3
  have f1 : w3.frozen? ⟨w.heap.size, 1, none⟩ = false := frozen_of_row _ _ _ _ _ hA3
  have b0 : w3.cell? ⟨w1.heap.size, 0, none⟩ = some (.int .i64 x.1) := by rw [cell_of_row _ _ _ _ _ _ hX3]; rfl
  have b1 : w3.cell? ⟨w1.heap.size, 1, none⟩ = some (.int .i64 x.2) := by rw [cell_of_row _ _ _ _ _ _ hX3]; rfl
  rw [HX.out] at p3
  have T3 : Touch F w w3 := (Touch.of_below HB2.out).trans t3 (S := F) (fun _ e => .inl e)
  have HQ3 := hide (show Held w3 F H l' from ⟨q3, h3⟩)
  have HP3 := hide p3
  have HT3 := hide T3
  clear q3 p3 h3 t3 T3 hA3 hX3
  go_wp2_with fail
  refine bodyPost_ret (v := .tuple #[.agg #[.int .i64 x.1, .int .i64 x.2], .bool true]) (by simp [results, Try.results106, go_sem, a0, a1]) rfl ⟨rfl, ?_⟩
  have ts : Touch (fun i => i = w.heap.size) w3 ((w3.setCell ⟨w.heap.size, 0, none⟩ (.int .i64 x.1)).setCell ⟨w.heap.size, 1, none⟩ (.int .i64 x.2)) :=
    ((Touch.refl (fun i => i = w.heap.size) w3).setCell (p := ⟨w.heap.size, 0, none⟩) rfl _).setCell (p := ⟨w.heap.size, 1, none⟩) rfl _
  exact ⟨l', HQ3.out.keep ts (fun i hi e => HF.out (by rw [← e]; exact hi)), HP3.out, HT3.out.trans ts (fun i e => .inr (by rw [e]; exact Nat.le_refl _))⟩
theorem hpush_nil (w : World) (id key : Int) : Calls Try.prog 61 #[.pointer none, .int .i64 id, .int .i64 key] w fun e w' => e = .returned (.int .i64 1) ∧ w = w' := by
  go_enter Try.func61, Try.ntmps61
  go_wp2_with fail
  go_ret
  exact ⟨rfl, rfl⟩
theorem hpush_arg (w : World) (H : Nat) (id key : Int) (h : id < 0) : Calls Try.prog 61 #[.pointer (some ⟨H, 0, none⟩), .int .i64 id, .int .i64 key] w fun e w' => e = .returned (.int .i64 2) ∧ w = w' := by
  go_enter Try.func61, Try.ntmps61
  go_wp2_with fail
  go_ret
  exact ⟨rfl, rfl⟩
theorem hpush_busy {w : World} {F : Nat → Prop} {H : Nat} {l : List (Int × Int)} (h : Held w F H l) (id key : Int) (h0 : 0 ≤ id) (hid : (Lit.int .i64 id).wf = true) (k : Nat) (hk : k < l.length) (e : (it l k).1 = id) :
    Calls Try.prog 61 #[.pointer (some ⟨H, 0, none⟩), .int .i64 id, .int .i64 key] w fun e w' => e = .returned (.int .i64 5) ∧ w = w' := by
  have HC := hide (has_of_place (place_yes h id hid k hk e))
  have h0' : ¬ id < 0 := by omega
  clear h hid hk e
  go_enter Try.func61, Try.ntmps61
  go_wp2_with (go_at_call 70; refine HC.out.mono ?_; rintro e w' ⟨rfl, rfl⟩)
  go_ret
  exact ⟨rfl, rfl⟩
theorem hpush_ok {w : World} {F : Nat → Prop} {H : Nat} {l : List (Int × Int)} (h : Held w F H l) (id key : Int) (h0 : 0 ≤ id) (hid : (Lit.int .i64 id).wf = true) (hno : ∀ k, k < l.length → (it l k).1 ≠ id) (hn : l.length < 800000) :
    Calls Try.prog 61 #[.pointer (some ⟨H, 0, none⟩), .int .i64 id, .int .i64 key] w fun e w' => e = .returned (.int .i64 0) ∧ ∃ F' l', Held w' F' H l' ∧ l'.Perm (l ++ [(id, key)]) ∧ Touch F w w' ∧ ∀ i, F' i → F i ∨ w.heap.size ≤ i := by
  have HC := hide (has_of_place (place_no h id hid hno))
  have HP := hide (cpush_any w F H id key l h.1 h.2 hid hno hn)
  have h0' : ¬ id < 0 := by omega
  clear h hid hno hn
  go_enter Try.func61, Try.ntmps61
  go_wp2_with (first | (go_at_call 70; refine HC.out.mono ?_; rintro e w' ⟨rfl, rfl⟩) | (go_at_call 71; refine HP.out.mono ?_; rintro e w' ⟨rfl, F', l', q1, p1, h1, t1, f1⟩))
  have R := hide (show ∃ F' l', Held w' F' H l' ∧ l'.Perm (l ++ [(id, key)]) ∧ Touch F w w' ∧ ∀ i, F' i → F i ∨ w.heap.size ≤ i from ⟨F', l', ⟨q1, h1⟩, p1, t1, f1⟩)
  clear q1 p1 h1 t1 f1
  go_wp2_with fail
  go_ret
  exact ⟨rfl, R.out⟩
theorem hdrop_no {w : World} {p : Option Addr} {id : Int} (h : Calls Try.prog 76 #[.pointer p, .int .i64 id] w fun e w' => e = .returned (.tuple #[.int .i64 0, .bool false]) ∧ w = w') :
    Calls Try.prog 65 #[.pointer p, .int .i64 id] w fun e w' => e = .returned (.bool false) ∧ w = w' := by
  have HC := hide h
  clear h
  go_enter Try.func65, Try.ntmps65
  go_wp2_with (go_at_call 76; refine HC.out.mono ?_; rintro e w' ⟨rfl, rfl⟩)
  go_ret
  exact ⟨rfl, rfl⟩
theorem hdrop_yes {w : World} {F : Nat → Prop} {H : Nat} {l : List (Int × Int)} (h : Held w F H l) (id : Int) (hid : (Lit.int .i64 id).wf = true) (k : Nat) (hk : k < l.length) (e : (it l k).1 = id) (hn : l.length < 800000) :
    Calls Try.prog 65 #[.pointer (some ⟨H, 0, none⟩), .int .i64 id] w fun e w' => e = .returned (.bool true) ∧ ∃ l', Held w' F H l' ∧ (it l k :: l').Perm l ∧ Touch F w w' := by
  have HC := hide (place_yes h id hid k hk e)
  have HP := hide (cremove_any w F H (l.length - 1) k k l h.1 rfl h.2 (by omega) hk hn)
  clear h hid e hk hn
  go_enter Try.func65, Try.ntmps65
  go_wp2_with (first | (go_at_call 76; refine HC.out.mono ?_; rintro e w' ⟨rfl, rfl⟩) | (go_at_call 77; refine HP.out.mono ?_; rintro e w' ⟨⟨v, rfl⟩, l', q1, p1, h1, t1⟩))
  have R := hide (show ∃ l', Held w' F H l' ∧ (it l k :: l').Perm l ∧ Touch F w w' from ⟨l', ⟨q1, h1⟩, p1, t1⟩)
  clear q1 p1 h1 t1
  go_wp2_with fail
  go_ret
  exact ⟨rfl, R.out⟩
theorem key_stored {w : World} {F : Nat → Prop} {H g : Nat} {l : List (Int × Int)} (h : Q w F H l) {c : Nat} (hc : w.cell? ⟨H, 0, none⟩ = some (.slice (some ⟨g, 0, none⟩) l.length c)) {k : Nat} (hk : k < l.length) (key : Int) :
    Q (w.setCell ⟨g, k * 2 + 1, none⟩ (.int .i64 key)) F H (l.set k ((it l k).1, key)) ∧ F g := by
  obtain ⟨v, M, f, hp, hs, hw, fH, fM, fg, fl⟩ := h
  have c0 := hp.cell0
  rw [hc] at c0
  have c0 := Option.some.inj c0
  subst c0
  obtain ⟨g', c', e', _, _, _, _, ngH, ngM, _⟩ := hp.row (by omega)
  have hgg : g = g' := by injection e' with e' _ _; injection e' with e'; injection e'
  subst hgg
  have gF := fg g rfl
  obtain ⟨h1, h2, h3⟩ := hp
  refine ⟨⟨_, M, f, ⟨?_, ?_, ?_⟩, synced_key hs hk key, fun x hx => ?_, fH, fM, fg, fun i hi => ?_⟩, gF⟩
  · rw [heap_setCell_other _ _ _ _ (Ne.symm ngH)]; exact h1
  · have s2 := (h2.stored (k * 2 + 1) (.int .i64 key)).1
    rw [cellsIt_setKey l k key hk] at s2
    rw [List.length_set]; exact s2
  · rw [List.length_set]
    exact h3.keep (heap_setCell_other _ _ _ _ (Ne.symm ngM))
  · rcases List.mem_or_eq_of_mem_set hx with hx | hx
    · exact hw x hx
    · rw [hx]; exact hw.at_ hk
  · have := fl i hi
    simpa [World.setCell] using this
end Go.Proofs.Ytccokhalcdljiaa.Hp
