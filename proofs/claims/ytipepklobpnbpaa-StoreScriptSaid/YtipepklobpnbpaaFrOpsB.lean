/-
  Contracts of the program's frames: Take, Give.
-/
import Derived.Test.YtipepklobpnbpaaFrOpsA
namespace Go.Proofs.Ytipepklobpnbpaa
open Go.ChangeShapes Go.WideShapes Go.ChangeAt Go.RowKit
set_option linter.unusedVariables false
/-- A number's value is turned. -/
def upd {α : Type} (f : Nat → α) (k : Nat) (v : α) : Nat → α := fun i => if i = k then v else f i
theorem upd_same {α : Type} (f : Nat → α) (k : Nat) (v : α) : upd f k v k = v := if_pos rfl
theorem upd_other {α : Type} (f : Nat → α) {i k : Nat} (v : α) (h : i ≠ k) : upd f k v i = f i := if_neg h
/-- The frame x goes out. -/
def St.take (s : St) (l : List Nat) (x : Nat) : St := ⟨s.n, upd s.tk x true, s.bt, l⟩
/-- The frame i comes back. -/
def St.give (s : St) (i : Nat) : St := ⟨s.n, upd s.tk i false, upd s.bt i (fun _ => 0), s.fr ++ [i]⟩
theorem good_take {s : St} (g : Good s) {l : List Nat} {x : Nat} (e : s.fr = l ++ [x]) : Good (s.take l x) := by
  have hn : (l ++ [x]).Nodup := e ▸ g.nodup
  have hn2 := List.nodup_append.1 hn
  have hx : x ∉ l := fun h => hn2.2.2 x h x (by simp) rfl
  refine ⟨g.n0, g.n64, hn2.1, fun i hi => ?_, fun i hi => g.lt i (by rw [e]; exact List.mem_append_left _ hi), fun i j hi hj ht => ?_, g.byte⟩
  · have := g.free i hi
    rw [e, List.mem_append, List.mem_singleton] at this
    show i ∈ l ↔ upd s.tk x true i = false
    by_cases h : i = x
    · subst h; rw [upd_same]; exact ⟨fun h => absurd h hx, fun h => by cases h⟩
    · rw [upd_other _ _ h, ← this]; exact ⟨fun h => .inl h, fun k => k.resolve_right h⟩
  · have ht : upd s.tk x true i = false := ht
    by_cases h : i = x
    · subst h; rw [upd_same] at ht; cases ht
    · rw [upd_other _ _ h] at ht; exact g.zero i j hi hj ht
theorem good_give {s : St} (g : Good s) {i : Nat} (hi : i < s.n) (ht : s.tk i = true) : Good (s.give i) := by
  have hx : i ∉ s.fr := fun e => by rw [(g.free i hi).1 e] at ht; cases ht
  refine ⟨g.n0, g.n64, ?_, fun k hk => ?_, fun k hk => ?_, fun k j hk hj htk => ?_, fun k j hk hj => ?_⟩
  · show (s.fr ++ [i]).Nodup
    rw [List.nodup_append]
    exact ⟨g.nodup, by simp, fun a ha b hb e => by rw [List.mem_singleton] at hb; subst hb; subst e; exact hx ha⟩
  · show k ∈ s.fr ++ [i] ↔ upd s.tk i false k = false
    rw [List.mem_append, List.mem_singleton]
    by_cases h : k = i
    · subst h; rw [upd_same]; simp
    · rw [upd_other _ _ h, ← g.free k hk]; exact ⟨fun e => e.resolve_right h, .inl⟩
  · rcases List.mem_append.1 (show k ∈ s.fr ++ [i] from hk) with h | h
    · exact g.lt k h
    · rw [List.mem_singleton] at h; rw [h]; exact hi
  · show upd s.bt i (fun _ => 0) k j = 0
    have htk : upd s.tk i false k = false := htk
    by_cases h : k = i
    · subst h; rw [upd_same]
    · rw [upd_other _ _ h] at htk ⊢; exact g.zero k j hk hj htk
  · show 0 ≤ upd s.bt i (fun _ => 0) k j ∧ upd s.bt i (fun _ => 0) k j ≤ 255
    by_cases h : k = i
    · subst h; rw [upd_same]; omega
    · rw [upd_other _ _ h]; exact g.byte k j hk hj
/-- The free row, one shorter. -/
theorem own_cut {w : World} {Q n c : Nat} {e : TypeId} {base : Nat} {xs : List Value} {x : Value} (h : w.ownsRow base e 1 (.slice (some ⟨Q, 0, none⟩) (n + 1) c) (n + 1) (xs ++ [x])) : w.ownsRow base e 1 (.slice (some ⟨Q, 0, none⟩) n c) n xs := by
  have hl : xs.length = n := by have := h.1; simp at this; omega
  refine ⟨by omega, ?_⟩
  rcases h.2 with ⟨hn, _⟩ | ⟨g, cap, cur, e1, e2, e3, e4, e5, e6, e7⟩
  · cases hn
  · injection e1 with e8 _ e9
    injection e8 with e8
    injection e8 with e8 _ _
    subst e8 e9
    refine .inr ⟨Q, c, cur, rfl, e2, e3, by omega, e5, e6, ?_⟩
    have : (cur.toList.take ((n + 1) * 1)).take n = (xs ++ [x]).take n := by rw [e7]
    rw [List.take_take, List.take_append_of_le_length (by omega), List.take_of_length_le (l := xs) (by omega)] at this
    rw [← this]; congr 1; omega
theorem rowF_same {w : World} {A : Nat} {s s' : St} (h : RowF w A s) (e1 : s'.n = s.n) (e2 : s'.tk = s.tk) (e3 : s'.bt = s.bt) : RowF w A s' := by
  obtain ⟨cur, h1, h2, h3⟩ := h
  exact ⟨cur, h1, by rw [e1]; exact h2, fun i hi => by rw [e2, e3]; exact h3 i (by rw [← e1]; exact hi)⟩
theorem rowF_take {w : World} {A : Nat} {s : St} (h : RowF w A s) (l : List Nat) {x : Nat} (hx : x < s.n) : RowF (w.setCell ⟨A, x * 65, none⟩ (.bool true)) A (s.take l x) := by
  obtain ⟨cur, h1, h2, h3⟩ := h
  refine ⟨cur.set (x * 65) (.bool true), ?_, by rw [List.length_set]; exact h2, fun i hi => ?_⟩
  · rw [heap_setCell_same w A (x * 65) cur.toArray _ _ h1]; simp
  · have hi : i < s.n := hi
    constructor
    · show _ = some (Value.bool (upd s.tk x true i))
      by_cases e : i = x
      · subst e; rw [upd_same, List.getElem?_set_self (by omega)]
      · rw [upd_other _ _ e, List.getElem?_set_ne (by omega)]; exact (h3 i hi).1
    · intro j hj
      rw [List.getElem?_set_ne (by omega)]; exact (h3 i hi).2 j hj
theorem fr_take {w : World} {H A Q : Nat} {s : St} (f : Fr w H A Q s) {l : List Nat} {x : Nat} (e : s.fr = l ++ [x]) :
    Fr ((w.setCell ⟨H, 1, none⟩ (.slice (some ⟨Q, 0, none⟩) l.length s.n)).setCell ⟨A, x * 65, none⟩ (.bool true)) H A Q (s.take l x) := by
  have hx : x < s.n := f.good.lt x (by rw [e]; simp)
  refine ⟨good_take f.good e, ?_, ?_, ?_, f.ha, f.hq, f.aq⟩
  · rw [heap_setCell_other _ _ _ _ f.ha, heap_setCell_same _ _ _ _ _ _ f.head]; rfl
  · refine rowF_take (f.row.keep ?_) l hx
    exact heap_setCell_other _ _ _ _ (Ne.symm f.ha)
  · have h := f.free
    have e3 : s.fr.length = l.length + 1 := by rw [e]; simp
    have e4 : (nums s.fr).map (Value.int .i64) = (nums l).map (Value.int .i64) ++ [Value.int .i64 (x : Int)] := by rw [e]; simp [nums]
    rw [e3, e4] at h
    have t : Touch (Blk H A A) w ((w.setCell ⟨H, 1, none⟩ (.slice (some ⟨Q, 0, none⟩) l.length s.n)).setCell ⟨A, x * 65, none⟩ (.bool true)) :=
      (((Touch.refl (Blk H A A) w).setCell (p := ⟨H, 1, none⟩) (.inl rfl) _).setCell (p := ⟨A, x * 65, none⟩) (.inr (.inl rfl)) _)
    refine t.own (own_cut h) (fun g hg => ?_)
    injection hg with hg
    subst hg
    rintro (h | h | h)
    · exact f.hq h.symm
    · exact f.aq h.symm
    · exact f.aq h.symm
theorem take_nil (w : World) : Calls Try.prog 49 #[.pointer none] w fun e w' => e = .returned (.tuple #[.int .i64 0, .int .i64 1]) ∧ w = w' := by
  go_enter Try.func49, Try.ntmps49
  go_wp2_with fail
  go_ret2
  exact ⟨rfl, rfl⟩
theorem take_full {w : World} {H A Q : Nat} {s : St} (f : Fr w H A Q s) (e : s.fr = []) : Calls Try.prog 49 #[.pointer (some ⟨H, 0, none⟩)] w fun e w' => e = .returned (.tuple #[.int .i64 0, .int .i64 3]) ∧ w = w' := by
  have h1 := f.h1
  rw [e] at h1
  have h1 : w.cell? ⟨H, 1, none⟩ = some (.slice (some ⟨Q, 0, none⟩) 0 s.n) := h1
  clear f e
  go_enter Try.func49, Try.ntmps49
  go_wp2_with fail
  go_ret2
  exact ⟨rfl, rfl⟩
theorem take_ok {w : World} {H A Q : Nat} {s : St} (f : Fr w H A Q s) {l : List Nat} {x : Nat} (e : s.fr = l ++ [x]) :
    Calls Try.prog 49 #[.pointer (some ⟨H, 0, none⟩)] w fun e w' => e = .returned (.tuple #[.int .i64 (x : Nat), .int .i64 0]) ∧ Fr w' H A Q (s.take l x) ∧ Touch (Blk H A Q) w w' := by
  have F2 := hide (fr_take f e)
  have hx : x < s.n := f.good.lt x (by rw [e]; simp)
  have e3 : s.fr.length = l.length + 1 := by rw [e]; simp
  have h0 := f.h0
  have h1 := f.h1
  have hc : w.cell? ⟨Q, l.length, none⟩ = some (.int .i64 (x : Nat)) := by rw [f.fq l.length (by omega), e]; simp
  have ht := f.tk x hx
  have f0 := f.f0 1
  have fa := f.fa (x * 65)
  have ha := f.ha
  have hq := f.hq
  have hlen := f.good.len
  have hn64 := f.good.n64
  have ha' := Ne.symm ha
  rw [e3] at h1
  have i0 : (0 : Int) ≤ (l.length : Int) := by omega
  have i1 : (l.length : Int) < (l.length + 1 : Int) := by omega
  have i2 : wrap64 (l.length : Int) = (l.length : Int) := by unfold wrap64; omega
  have i3 : (((l.length : Int) + 1) == 0) = false := by simp; omega
  have i4 : (l.length : Int) ≤ (s.n : Int) := by omega
  have x1 : (x : Int) < (s.n : Int) := by omega
  clear f e e3 hlen hn64
  go_enter Try.func49, Try.ntmps49
  go_wp2_with fail
  go_ret2
  refine ⟨rfl, F2.out, ?_⟩
  exact (((Touch.refl (Blk H A Q) w).setCell (p := ⟨H, 1, none⟩) (.inl rfl) _).setCell (p := ⟨A, x * 65, none⟩) (.inr (.inl rfl)) _)
end Go.Proofs.Ytipepklobpnbpaa
