/-
  Several texts as one: FrOpsA FrOpsB FrOpsC FrOpsD FrOpsE SoPlain IdPlain.
-/
import Derived.Deep.QuietTactic
import Derived.BigQuiet
import Derived.Test.YtndfnglcichngaaGreatDoorPa02
import Derived.LoopTactic
import Derived.Test.YtndfnglcichngaaGreatDoorPa00
namespace Go.Proofs.YtndfnglcichngaaGreatDoor
open Go.ChangeShapes Go.WideShapes Go.ChangeAt Go.RowKit
set_option linter.unusedVariables false
/-- Whether a frame has n bytes from off on. -/
def fit (off n : Int) : Bool := decide (0 ≤ off) && (decide (0 ≤ n) && decide (n ≤ 64 - off))
theorem wf_i64 {x : Int} (h : (Lit.int .i64 x).wf = true) : -9223372036854775808 ≤ x ∧ x ≤ 9223372036854775807 := by
  simp [Lit.wf, IntKind.min, IntKind.max, IntKind.bits, IntKind.signed] at h
  omega
theorem fits_any (w : World) (off n : Int) (ho : (Lit.int .i64 off).wf = true) : Calls Tryz.prog 130 #[.int .i64 off, .int .i64 n] w fun e w' => e = .returned (.bool (fit off n)) ∧ w = w' := by
  have hw := wf_i64 ho
  clear ho
  by_cases h0 : 0 ≤ off
  · have hs : IntKind.i64.wrap (64 - off) = 64 - off := by rw [IntKind.wrap_i64]; omega
    by_cases h1 : 0 ≤ n
    · rw [show fit off n = decide (n ≤ 64 - off) by simp [fit, h0, h1]]
      go_enter Tryz.func130, Tryz.ntmps130
      go_wp2_with fail
      go_ret
      exact ⟨rfl, rfl⟩
    · rw [show fit off n = false by simp [fit]; omega]
      go_enter Tryz.func130, Tryz.ntmps130
      go_wp2_with fail
      go_ret
      exact ⟨rfl, rfl⟩
  · rw [show fit off n = false by simp [fit]; omega]
    go_enter Tryz.func130, Tryz.ntmps130
    go_wp2_with fail
    go_ret
    exact ⟨rfl, rfl⟩
/-- What is wrong with n bytes of i from off on. -/
def code (s : St) (i off n : Int) : Int := if 0 ≤ i ∧ i < s.n ∧ fit off n = true then (if s.tk i.toNat then 0 else 4) else 2
theorem check_nil (w : World) (i off n : Int) : Calls Tryz.prog 109 #[.pointer none, .int .i64 i, .int .i64 off, .int .i64 n] w fun e w' => e = .returned (.int .i64 1) ∧ w = w' := by
  go_enter Tryz.func109, Tryz.ntmps109
  go_wp2_with fail
  go_ret
  exact ⟨rfl, rfl⟩
theorem code_ok {s : St} {k : Nat} {off n : Int} (hk : k < s.n) (hf : fit off n = true) (ht : s.tk k = true) : code s k off n = 0 := by
  unfold code; rw [if_pos ⟨by omega, by omega, hf⟩, Int.toNat_natCast, if_pos ht]
theorem code_none {s : St} {k : Nat} {off n : Int} (hk : k < s.n) (hf : fit off n = true) (ht : s.tk k = false) : code s k off n = 4 := by
  unfold code; rw [if_pos ⟨by omega, by omega, hf⟩, Int.toNat_natCast, ht]; rfl
theorem code_arg {s : St} {i off n : Int} (h : ¬ (0 ≤ i ∧ i < s.n ∧ fit off n = true)) : code s i off n = 2 := by
  unfold code; rw [if_neg h]
theorem check_any {w : World} {H A Q : Nat} {s : St} (f : Fr w H A Q s) (i off n : Int) (ho : (Lit.int .i64 off).wf = true) :
    Calls Tryz.prog 109 #[.pointer (some ⟨H, 0, none⟩), .int .i64 i, .int .i64 off, .int .i64 n] w fun e w' => e = .returned (.int .i64 (code s i off n)) ∧ w = w' := by
  have h0 := f.h0
  have F := hide f
  clear f
  by_cases i0 : 0 ≤ i
  · by_cases i1 : i < s.n
    · obtain ⟨k, rfl⟩ := Int.eq_ofNat_of_zero_le i0
      have hk : k < s.n := by omega
      have ht := F.out.tk k hk
      cases hf : fit off n with
      | true =>
        cases hb : s.tk k with
        | true =>
          rw [hb] at ht
          rw [code_ok hk hf hb]
          go_enter Tryz.func109, Tryz.ntmps109
          go_wp2_with (go_at_call 130; with_reducible refine (fits_any _ _ _ ho).mono ?_; rintro e w' ⟨rfl, rfl⟩; rw [hf])
          go_ret
          exact ⟨rfl, rfl⟩
        | false =>
          rw [hb] at ht
          rw [code_none hk hf hb]
          go_enter Tryz.func109, Tryz.ntmps109
          go_wp2_with (go_at_call 130; with_reducible refine (fits_any _ _ _ ho).mono ?_; rintro e w' ⟨rfl, rfl⟩; rw [hf])
          go_ret
          exact ⟨rfl, rfl⟩
      | false =>
        rw [code_arg (fun e => by rw [hf] at e; cases e.2.2)]
        go_enter Tryz.func109, Tryz.ntmps109
        go_wp2_with (go_at_call 130; with_reducible refine (fits_any _ _ _ ho).mono ?_; rintro e w' ⟨rfl, rfl⟩; rw [hf])
        go_ret
        exact ⟨rfl, rfl⟩
    · rw [code_arg (fun e => i1 e.2.1)]
      go_enter Tryz.func109, Tryz.ntmps109
      go_wp2_with fail
      go_ret
      exact ⟨rfl, rfl⟩
  · rw [code_arg (fun e => i0 e.1)]
    go_enter Tryz.func109, Tryz.ntmps109
    go_wp2_with fail
    go_ret
    exact ⟨rfl, rfl⟩
theorem free_any {w : World} {H A Q : Nat} {s : St} (f : Fr w H A Q s) :
    Calls Tryz.prog 32 #[.pointer (some ⟨H, 0, none⟩)] w fun e w' => e = .returned (.int .i64 (s.fr.length : Nat)) ∧ w = w' := by
  have h1 := f.h1
  clear f
  go_enter Tryz.func32, Tryz.ntmps32
  go_wp2_with fail
  go_ret
  exact ⟨rfl, rfl⟩
theorem free_nil (w : World) : Calls Tryz.prog 32 #[.pointer none] w fun e w' => e = .returned (.int .i64 0) ∧ w = w' := by
  go_enter Tryz.func32, Tryz.ntmps32
  go_wp2_with fail
  go_ret
  exact ⟨rfl, rfl⟩
theorem wf_zero : (Lit.int .i64 0).wf = true := by decide
end Go.Proofs.YtndfnglcichngaaGreatDoor
namespace Go.Proofs.YtndfnglcichngaaGreatDoor
open Go.ChangeShapes Go.WideShapes Go.ChangeAt Go.RowKit
set_option linter.unusedVariables false
/-- A number's value is turned. -/
def upd {α : Type} (f : Nat → α) (k : Nat) (v : α) : Nat → α := fun i => if i = k then v else f i
theorem upd_same {α : Type} (f : Nat → α) (k : Nat) (v : α) : upd f k v k = v := if_pos rfl
theorem upd_other {α : Type} (f : Nat → α) {i k : Nat} (v : α) (h : i ≠ k) : upd f k v i = f i := if_neg h
/-- The frame x goes out. -/
def St.take (s : St) (l : List Nat) (x : Nat) : St := ⟨s.n, upd s.tk x true, s.bt, l⟩
/-- The frame i comes back. -/
def St.give (s : St) (i : Nat) : St := ⟨s.n, upd s.tk i false, upd s.bt i (fun _ => 0), s.fr ++ [i]⟩
theorem good_take {s : St} (g : Good s) {l : List Nat} {x : Nat} (e : s.fr = l ++ [x]) : Good (s.take l x) := by
  have hn : (l ++ [x]).Nodup := e ▸ g.nodup
  have hn2 := List.nodup_append.1 hn
  have hx : x ∉ l := fun h => hn2.2.2 x h x (by simp) rfl
  refine ⟨g.n0, g.n64, hn2.1, fun i hi => ?_, fun i hi => g.lt i (by rw [e]; exact List.mem_append_left _ hi), fun i j hi hj ht => ?_, g.byte⟩
  · have := g.free i hi
    rw [e, List.mem_append, List.mem_singleton] at this
    show i ∈ l ↔ upd s.tk x true i = false
    by_cases h : i = x
    · subst h; rw [upd_same]; exact ⟨fun h => absurd h hx, fun h => by cases h⟩
    · rw [upd_other _ _ h, ← this]; exact ⟨fun h => .inl h, fun k => k.resolve_right h⟩
  · have ht : upd s.tk x true i = false := ht
    by_cases h : i = x
    · subst h; rw [upd_same] at ht; cases ht
    · rw [upd_other _ _ h] at ht; exact g.zero i j hi hj ht
theorem good_give {s : St} (g : Good s) {i : Nat} (hi : i < s.n) (ht : s.tk i = true) : Good (s.give i) := by
  have hx : i ∉ s.fr := fun e => by rw [(g.free i hi).1 e] at ht; cases ht
  refine ⟨g.n0, g.n64, ?_, fun k hk => ?_, fun k hk => ?_, fun k j hk hj htk => ?_, fun k j hk hj => ?_⟩
  · show (s.fr ++ [i]).Nodup
    rw [List.nodup_append]
    exact ⟨g.nodup, by simp, fun a ha b hb e => by rw [List.mem_singleton] at hb; subst hb; subst e; exact hx ha⟩
  · show k ∈ s.fr ++ [i] ↔ upd s.tk i false k = false
    rw [List.mem_append, List.mem_singleton]
    by_cases h : k = i
    · subst h; rw [upd_same]; simp
    · rw [upd_other _ _ h, ← g.free k hk]; exact ⟨fun e => e.resolve_right h, .inl⟩
  · rcases List.mem_append.1 (show k ∈ s.fr ++ [i] from hk) with h | h
    · exact g.lt k h
    · rw [List.mem_singleton] at h; rw [h]; exact hi
  · show upd s.bt i (fun _ => 0) k j = 0
    have htk : upd s.tk i false k = false := htk
    by_cases h : k = i
    · subst h; rw [upd_same]
    · rw [upd_other _ _ h] at htk ⊢; exact g.zero k j hk hj htk
  · show 0 ≤ upd s.bt i (fun _ => 0) k j ∧ upd s.bt i (fun _ => 0) k j ≤ 255
    by_cases h : k = i
    · subst h; rw [upd_same]; omega
    · rw [upd_other _ _ h]; exact g.byte k j hk hj
/-- The free row, one shorter. -/
theorem own_cut {w : World} {Q n c : Nat} {e : TypeId} {base : Nat} {xs : List Value} {x : Value} (h : w.ownsRow base e 1 (.slice (some ⟨Q, 0, none⟩) (n + 1) c) (n + 1) (xs ++ [x])) : w.ownsRow base e 1 (.slice (some ⟨Q, 0, none⟩) n c) n xs := by
  have hl : xs.length = n := by have := h.1; simp at this; omega
  refine ⟨by omega, ?_⟩
  rcases h.2 with ⟨hn, _⟩ | ⟨g, cap, cur, e1, e2, e3, e4, e5, e6, e7⟩
  · cases hn
  · injection e1 with e8 _ e9
    injection e8 with e8
    injection e8 with e8 _ _
    subst e8 e9
    refine .inr ⟨Q, c, cur, rfl, e2, e3, by omega, e5, e6, ?_⟩
    have : (cur.toList.take ((n + 1) * 1)).take n = (xs ++ [x]).take n := by rw [e7]
    rw [List.take_take, List.take_append_of_le_length (by omega), List.take_of_length_le (l := xs) (by omega)] at this
    rw [← this]; congr 1; omega
theorem rowF_same {w : World} {A : Nat} {s s' : St} (h : RowF w A s) (e1 : s'.n = s.n) (e2 : s'.tk = s.tk) (e3 : s'.bt = s.bt) : RowF w A s' := by
  obtain ⟨cur, h1, h2, h3⟩ := h
  exact ⟨cur, h1, by rw [e1]; exact h2, fun i hi => by rw [e2, e3]; exact h3 i (by rw [← e1]; exact hi)⟩
theorem rowF_take {w : World} {A : Nat} {s : St} (h : RowF w A s) (l : List Nat) {x : Nat} (hx : x < s.n) : RowF (w.setCell ⟨A, x * 65, none⟩ (.bool true)) A (s.take l x) := by
  obtain ⟨cur, h1, h2, h3⟩ := h
  refine ⟨cur.set (x * 65) (.bool true), ?_, by rw [List.length_set]; exact h2, fun i hi => ?_⟩
  · rw [heap_setCell_same w A (x * 65) cur.toArray _ _ h1]; simp
  · have hi : i < s.n := hi
    constructor
    · show _ = some (Value.bool (upd s.tk x true i))
      by_cases e : i = x
      · subst e; rw [upd_same, List.getElem?_set_self (by omega)]
      · rw [upd_other _ _ e, List.getElem?_set_ne (by omega)]; exact (h3 i hi).1
    · intro j hj
      rw [List.getElem?_set_ne (by omega)]; exact (h3 i hi).2 j hj
theorem fr_take {w : World} {H A Q : Nat} {s : St} (f : Fr w H A Q s) {l : List Nat} {x : Nat} (e : s.fr = l ++ [x]) :
    Fr ((w.setCell ⟨H, 1, none⟩ (.slice (some ⟨Q, 0, none⟩) l.length s.n)).setCell ⟨A, x * 65, none⟩ (.bool true)) H A Q (s.take l x) := by
  have hx : x < s.n := f.good.lt x (by rw [e]; simp)
  refine ⟨good_take f.good e, ?_, ?_, ?_, f.ha, f.hq, f.aq⟩
  · rw [heap_setCell_other _ _ _ _ f.ha, heap_setCell_same _ _ _ _ _ _ f.head]; rfl
  · refine rowF_take (f.row.keep ?_) l hx
    exact heap_setCell_other _ _ _ _ (Ne.symm f.ha)
  · have h := f.free
    have e3 : s.fr.length = l.length + 1 := by rw [e]; simp
    have e4 : (nums s.fr).map (Value.int .i64) = (nums l).map (Value.int .i64) ++ [Value.int .i64 (x : Int)] := by rw [e]; simp [nums]
    rw [e3, e4] at h
    have t : Touch (Blk H A A) w ((w.setCell ⟨H, 1, none⟩ (.slice (some ⟨Q, 0, none⟩) l.length s.n)).setCell ⟨A, x * 65, none⟩ (.bool true)) :=
      (((Touch.refl (Blk H A A) w).setCell (p := ⟨H, 1, none⟩) (.inl rfl) _).setCell (p := ⟨A, x * 65, none⟩) (.inr (.inl rfl)) _)
    refine t.own (own_cut h) (fun g hg => ?_)
    injection hg with hg
    subst hg
    rintro (h | h | h)
    · exact f.hq h.symm
    · exact f.aq h.symm
    · exact f.aq h.symm
theorem take_nil (w : World) : Calls Tryz.prog 107 #[.pointer none] w fun e w' => e = .returned (.tuple #[.int .i64 0, .int .i64 1]) ∧ w = w' := by
  go_enter Tryz.func107, Tryz.ntmps107
  go_wp2_with fail
  go_ret2
  exact ⟨rfl, rfl⟩
theorem take_full {w : World} {H A Q : Nat} {s : St} (f : Fr w H A Q s) (e : s.fr = []) : Calls Tryz.prog 107 #[.pointer (some ⟨H, 0, none⟩)] w fun e w' => e = .returned (.tuple #[.int .i64 0, .int .i64 3]) ∧ w = w' := by
  have h1 := f.h1
  rw [e] at h1
  have h1 : w.cell? ⟨H, 1, none⟩ = some (.slice (some ⟨Q, 0, none⟩) 0 s.n) := h1
  clear f e
  go_enter Tryz.func107, Tryz.ntmps107
  go_wp2_with fail
  go_ret2
  exact ⟨rfl, rfl⟩
theorem take_ok {w : World} {H A Q : Nat} {s : St} (f : Fr w H A Q s) {l : List Nat} {x : Nat} (e : s.fr = l ++ [x]) :
    Calls Tryz.prog 107 #[.pointer (some ⟨H, 0, none⟩)] w fun e w' => e = .returned (.tuple #[.int .i64 (x : Nat), .int .i64 0]) ∧ Fr w' H A Q (s.take l x) ∧ Touch (Blk H A Q) w w' := by
  have F2 := hide (fr_take f e)
  have hx : x < s.n := f.good.lt x (by rw [e]; simp)
  have e3 : s.fr.length = l.length + 1 := by rw [e]; simp
  have h0 := f.h0
  have h1 := f.h1
  have hc : w.cell? ⟨Q, l.length, none⟩ = some (.int .i64 (x : Nat)) := by rw [f.fq l.length (by omega), e]; simp
  have ht := f.tk x hx
  have f0 := f.f0 1
  have fa := f.fa (x * 65)
  have ha := f.ha
  have hq := f.hq
  have hlen := f.good.len
  have hn64 := f.good.n64
  have ha' := Ne.symm ha
  rw [e3] at h1
  have i0 : (0 : Int) ≤ (l.length : Int) := by omega
  have i1 : (l.length : Int) < (l.length + 1 : Int) := by omega
  have i2 : wrap64 (l.length : Int) = (l.length : Int) := by unfold wrap64; omega
  have i3 : (((l.length : Int) + 1) == 0) = false := by simp; omega
  have i4 : (l.length : Int) ≤ (s.n : Int) := by omega
  have x1 : (x : Int) < (s.n : Int) := by omega
  clear f e e3 hlen hn64
  go_enter Tryz.func107, Tryz.ntmps107
  go_wp2_with fail
  go_ret2
  refine ⟨rfl, F2.out, ?_⟩
  exact (((Touch.refl (Blk H A Q) w).setCell (p := ⟨H, 1, none⟩) (.inl rfl) _).setCell (p := ⟨A, x * 65, none⟩) (.inr (.inl rfl)) _)
end Go.Proofs.YtndfnglcichngaaGreatDoor
namespace Go.Proofs.YtndfnglcichngaaGreatDoor
open Go.ChangeShapes Go.WideShapes Go.ChangeAt Go.RowKit
set_option linter.unusedVariables false
/-- An empty frame. -/
def zeroF : Array Value := #[.bool false] ++ Array.replicate 64 (.int .u8 0)
theorem builtF : Tryz.prog.built 179 [] = some zeroF := by kernel_rfl
theorem frame_info : (Tryz.prog.info? 179).map (fun i => (i.zero, i.size, i.bytes)) = some (some (.agg zeroF), 65, 65) := by kernel_rfl
theorem frame_size : (Tryz.prog.info? 179).map (·.size) = some zeroF.size := by kernel_rfl
theorem int_info : (Tryz.prog.info? 3).map (fun i => (i.zero, i.size, i.bytes)) = some (some (.int .i64 0), 1, 8) := by kernel_rfl
theorem byte_info : (Tryz.prog.info? 5).map (fun i => (i.zero, i.size, i.bytes)) = some (some (.int .u8 0), 1, 1) := by kernel_rfl
theorem zeroF_all : zeroF.all (·.oneCell') = true := by kernel_rfl
theorem zeroF_size : zeroF.size = 65 := by kernel_rfl
theorem zeroF_0 : zeroF.toList[0]? = some (.bool false) := by kernel_rfl
theorem zeroF_j (j : Nat) (h : j < 64) : zeroF.toList[1 + j]? = some (.int .u8 0) := by
  have e : zeroF.toList = [Value.bool false] ++ List.replicate 64 (Value.int .u8 0) := by simp [zeroF]
  rw [e, List.getElem?_append_right (by simp), List.getElem?_replicate]
  simp; omega
theorem rowF_give {w' : World} {A : Nat} {s : St} {i : Nat} (hi : i < s.n) {cur : List Value} (e : w'.heap[A]? = some (.cells (splice cur (i * 65) zeroF.toList).toArray 179 (0, 0)))
    (h2 : cur.length = s.n * 65) (h3 : ∀ i, i < s.n → cur[i * 65]? = some (.bool (s.tk i)) ∧ ∀ j, j < 64 → cur[i * 65 + (1 + j)]? = some (.int .u8 (s.bt i j))) : RowF w' A (s.give i) := by
  have hz : zeroF.toList.length = 65 := by rw [Array.length_toList]; exact zeroF_size
  have hf : i * 65 + zeroF.toList.length ≤ cur.length := by rw [hz, h2]; omega
  refine ⟨_, e, by rw [length_splice _ _ _ hf]; exact h2, fun k hk => ?_⟩
  have hk : k < s.n := hk
  constructor
  · show _ = some (Value.bool (upd s.tk i false k))
    rw [getElem?_splice _ _ _ hf, hz]
    by_cases h : k = i
    · subst h; rw [upd_same, if_pos (by omega), Nat.sub_self]; exact zeroF_0
    · rw [upd_other _ _ h, if_neg (by omega)]; exact (h3 k hk).1
  · intro j hj
    show _ = some (Value.int .u8 (upd s.bt i (fun _ => 0) k j))
    rw [getElem?_splice _ _ _ hf, hz]
    by_cases h : k = i
    · subst h; rw [upd_same, if_pos (by omega), show k * 65 + (1 + j) - k * 65 = 1 + j by omega]; exact zeroF_j j hj
    · rw [upd_other _ _ h, if_neg (by omega)]; exact (h3 k hk).2 j hj
theorem give_err {w : World} {H A Q : Nat} {s : St} (f : Fr w H A Q s) (i : Int) (h : code s i 0 0 ≠ 0) :
    Calls Tryz.prog 98 #[.pointer (some ⟨H, 0, none⟩), .int .i64 i] w fun e w' => e = .returned (.int .i64 (code s i 0 0)) ∧ w = w' := by
  have F := hide f
  have h' : (code s i 0 0 == 0) = false := by simpa using h
  clear f
  generalize hc : code s i 0 0 = c at *
  go_enter Tryz.func98, Tryz.ntmps98
  go_wp2_with (go_at_call 109; with_reducible refine (check_any F.out _ _ _ wf_zero).mono ?_; rintro e w' ⟨rfl, rfl⟩; rw [hc])
  go_ret
  exact ⟨rfl, rfl⟩
theorem give_nil (w : World) (i : Int) : Calls Tryz.prog 98 #[.pointer none, .int .i64 i] w fun e w' => e = .returned (.int .i64 1) ∧ w = w' := by
  go_enter Tryz.func98, Tryz.ntmps98
  go_wp2_with (go_at_call 109; with_reducible refine (check_nil _ _ _ _).mono ?_; rintro e w' ⟨rfl, rfl⟩)
  go_ret
  exact ⟨rfl, rfl⟩
theorem fit00 : fit 0 0 = true := by decide
theorem fr_give {w w1 w2 : World} {H A Q : Nat} {s : St} (f : Fr w H A Q s) {i : Nat} (hi : i < s.n) (ht : s.tk i = true) {cur : List Value} (r2 : cur.length = s.n * 65)
    (r3 : ∀ i, i < s.n → cur[i * 65]? = some (.bool (s.tk i)) ∧ ∀ j, j < 64 → cur[i * 65 + (1 + j)]? = some (.int .u8 (s.bt i j)))
    (e1 : w1.heap[A]? = some (.cells (splice cur (i * 65) zeroF.toList).toArray 179 (0, 0))) (t1 : Touch (fun k => k = A) w w1) {o : Obj}
    (o2 : w2.ownsRow 0 3 1 (.slice (some ⟨Q, 0, none⟩) (s.fr.length + 1) s.n) (s.fr.length + 1) ((nums s.fr).map (Value.int .i64) ++ [.int .i64 (i : Int)])) (g2 : (w1.alloc o).grownBy w2 (some Q)) :
    Fr (w2.setCell ⟨H, 1, none⟩ (.slice (some ⟨Q, 0, none⟩) (s.fr.length + 1) s.n)) H A Q (s.give i) ∧ Touch (Blk H A Q) w (w2.setCell ⟨H, 1, none⟩ (.slice (some ⟨Q, 0, none⟩) (s.fr.length + 1) s.n)) := by
  have tq : Touch (fun k => k = Q) w1 w2 := ((Touch.refl (fun k => k = Q) w1).alloc o).trans (Touch.of_grown (S := fun k => k = Q) g2 (fun g e => by injection e with e; exact e.symm)) (fun _ e => .inl e)
  have t2 : Touch (Blk H A Q) w w2 := (t1.mono (S' := Blk H A Q) (fun k e => .inr (.inl e))).trans tq (fun k e => .inl (.inr (.inr e)))
  have l1 : A < w1.heap.size := lt_of_heap e1
  have lH : H < w1.heap.size := Nat.lt_of_lt_of_le f.ltH t1.size
  have eA : w2.heap[A]? = w1.heap[A]? := tq.block A l1 f.aq
  have eH : w2.heap[H]? = w.heap[H]? := (tq.block H lH f.hq).trans (t1.block H f.ltH f.ha)
  have hl : (s.fr ++ [i]).length = s.fr.length + 1 := by simp
  refine ⟨⟨good_give f.good hi ht, ?_, ?_, ?_, f.ha, f.hq, f.aq⟩, t2.setCell (p := ⟨H, 1, none⟩) (.inl rfl) _⟩
  · rw [heap_setCell_same _ _ _ _ _ _ (eH.trans f.head)]
    show _ = some (Obj.cells #[_, Value.slice (some ⟨Q, 0, none⟩) (s.fr ++ [i]).length s.n] _ _)
    rw [hl]; rfl
  · refine (rowF_give hi (eA.trans e1) r2 r3).keep ?_
    exact heap_setCell_other _ _ _ _ (Ne.symm f.ha)
  · show World.ownsRow _ _ _ _ (.slice (some ⟨Q, 0, none⟩) (s.fr ++ [i]).length s.n) (s.fr ++ [i]).length ((nums (s.fr ++ [i])).map (Value.int .i64))
    have e4 : (nums (s.fr ++ [i])).map (Value.int .i64) = (nums s.fr).map (Value.int .i64) ++ [Value.int .i64 (i : Int)] := by simp [nums]
    rw [hl, e4]
    have t3 : Touch (fun k => k = H) w2 (w2.setCell ⟨H, 1, none⟩ (.slice (some ⟨Q, 0, none⟩) (s.fr.length + 1) s.n)) := (Touch.refl (fun k => k = H) w2).setCell (p := ⟨H, 1, none⟩) rfl _
    refine t3.own o2 (fun g hg e => ?_)
    injection hg with hg
    exact f.hq (by rw [← e, ← hg])
set_option maxRecDepth 100000 in
set_option maxHeartbeats 2000000 in
theorem give_ok {w : World} {H A Q : Nat} {s : St} (f : Fr w H A Q s) (i : Nat) (hi : i < s.n) (ht : s.tk i = true) :
    Calls Tryz.prog 98 #[.pointer (some ⟨H, 0, none⟩), .int .i64 (i : Nat)] w fun e w' => e = .returned (.int .i64 0) ∧ Fr w' H A Q (s.give i) ∧ Touch (Blk H A Q) w w' := by
  obtain ⟨i0, hi0, hz0, hz1, hz2⟩ := info_parts int_info
  have F := hide f
  obtain ⟨cur, r1, r2, r3⟩ := f.row
  have R3 := hide r3
  have h0 := f.h0
  have room := f.good.room hi ht
  have hfit : i * 65 + zeroF.size ≤ cur.length := by rw [zeroF_size, r2]; omega
  have c0 : code s (i : Nat) 0 0 = 0 := code_ok hi fit00 ht
  have x1 : (i : Int) < (s.n : Int) := by omega
  have x0 : (0 : Int) ≤ (i : Int) := by omega
  have hq := f.hq
  have ha := f.ha
  clear f r3
  go_enter Tryz.func98, Tryz.ntmps98
  go_wp2_with (first
    | (go_at_call 109; with_reducible refine (check_any F.out _ _ _ wf_zero).mono ?_; rintro e w' ⟨rfl, rfl⟩; rw [c0])
    | (refine wpList_build rfl 179 #[] rfl (by kernel_rfl) ?_)
    | (refine wpList_store_seg rfl 179 (.tmp 18) (.tmp 17) rfl A (i * 65) zeroF rfl rfl 179 cur r1 frame_size hfit zeroF_all ?_; intro w1 e1 t1; have k1 := t1.cell F.out.h1 ha; have O1 := hide (t1.own F.out.free (fun g hg e => by injection hg with hg; exact F.out.aq (by rw [← e, ← hg]))); have E1 := hide e1; have T1 := hide t1; have lH := Nat.lt_of_lt_of_le F.out.ltH t1.size; clear e1 t1 h0 r1)
    | (at_builtin; refine wpList_append_fits _ rfl (.tmp 23) (.tmp 25) _ rfl 0 3 i0 1 Tryz.underlying114 hi0 hz1 Q s.fr.length s.n _ rfl (O1.out.alloc _) _ 1 1 [.int .i64 (i : Int)] rfl rfl (cell_one_new _ _ _) (by intro u hu; rw [List.mem_singleton] at hu; rw [hu]; rfl) (by omega) ?_; intro w2 o2 g2; have k2 := g2.cell (a := ⟨H, 1, none⟩) (v := .slice (some ⟨Q, 0, none⟩) s.fr.length s.n) (by rw [World.cell?_alloc_past _ _ _ lH]; exact k1) (fun e => hq (by injection e)); have z2 : w2.frozen? ⟨H, 1, none⟩ = false := (World.frozen?_of_block ((g2.block H (by simp; omega) (fun e => hq (by injection e))).trans ((RowKit.Below.heap_alloc w1 _ _ lH).trans (T1.out.block H F.out.ltH ha)))).trans (F.out.f0 1); have FG := hide (fr_give F.out hi ht r2 R3.out E1.out T1.out o2 g2); clear o2 g2))
  go_ret
  exact ⟨rfl, FG.out.1, FG.out.2⟩
end Go.Proofs.YtndfnglcichngaaGreatDoor
namespace Go.Proofs.YtndfnglcichngaaGreatDoor
open Go.ChangeShapes Go.WideShapes Go.ChangeAt Go.RowKit
set_option linter.unusedVariables false
/-- Bytes written over a row's own, from a place on. -/
def over (f : Nat → Int) (off : Nat) (ys : List Int) : Nat → Int := fun j => if off ≤ j ∧ j < off + ys.length then ys.getD (j - off) 0 else f j
/-- These bytes stand in frame i. -/
def St.put (s : St) (i off : Nat) (ys : List Int) : St := ⟨s.n, s.tk, upd s.bt i (over (s.bt i) off ys), s.fr⟩
def Bytes (ys : List Int) : Prop := ∀ y ∈ ys, 0 ≤ y ∧ y ≤ 255
theorem Bytes.at {ys : List Int} (h : Bytes ys) {k : Nat} (hk : k < ys.length) : 0 ≤ ys.getD k 0 ∧ ys.getD k 0 ≤ 255 := by
  have := h (ys[k]) (List.getElem_mem hk)
  simpa [List.getD, hk] using this
theorem good_put {s : St} (g : Good s) {i off : Nat} {ys : List Int} (ht : s.tk i = true) (hy : Bytes ys) (hf : off + ys.length ≤ 64) : Good (s.put i off ys) := by
  refine ⟨g.n0, g.n64, g.nodup, g.free, g.lt, fun k j hk hj htk => ?_, fun k j hk hj => ?_⟩
  · show upd s.bt i _ k j = 0
    by_cases h : k = i
    · subst h; rw [show s.tk k = false from htk] at ht; cases ht
    · rw [upd_other _ _ h]; exact g.zero k j hk hj htk
  · show 0 ≤ upd s.bt i _ k j ∧ upd s.bt i _ k j ≤ 255
    by_cases h : k = i
    · subst h; rw [upd_same]; unfold over
      split
      · exact hy.at (by omega)
      · exact g.byte k j hk hj
    · rw [upd_other _ _ h]; exact g.byte k j hk hj
theorem rowF_put {w' : World} {A : Nat} {s : St} {i off : Nat} {ys : List Int} (hi : i < s.n) (hf : off + ys.length ≤ 64) {cur : List Value} (e : w'.heap[A]? = some (.cells (splice cur (i * 65 + 1 + off) (ys.map (Value.int .u8))).toArray 179 (0, 0)))
    (h2 : cur.length = s.n * 65) (h3 : ∀ i, i < s.n → cur[i * 65]? = some (.bool (s.tk i)) ∧ ∀ j, j < 64 → cur[i * 65 + (1 + j)]? = some (.int .u8 (s.bt i j))) : RowF w' A (s.put i off ys) := by
  have hz : (ys.map (Value.int .u8)).length = ys.length := by simp
  have hlen : i * 65 + 1 + off + (ys.map (Value.int .u8)).length ≤ cur.length := by rw [hz, h2]; omega
  refine ⟨_, e, by rw [length_splice _ _ _ hlen]; exact h2, fun k hk => ?_⟩
  have hk : k < s.n := hk
  constructor
  · rw [getElem?_splice _ _ _ hlen, hz, if_neg (by omega)]
    exact (h3 k hk).1
  · intro j hj
    show _ = some (Value.int .u8 (upd s.bt i (over (s.bt i) off ys) k j))
    rw [getElem?_splice _ _ _ hlen, hz]
    by_cases h : k = i
    · subst h
      rw [upd_same]; unfold over
      by_cases hr : off ≤ j ∧ j < off + ys.length
      · rw [if_pos (by omega), if_pos hr, show k * 65 + (1 + j) - (k * 65 + 1 + off) = j - off by omega]
        have : j - off < ys.length := by omega
        simp [List.getD, this]
      · rw [if_neg (by omega), if_neg hr]; exact (h3 k hk).2 j hj
    · rw [upd_other _ _ h, if_neg (by omega)]; exact (h3 k hk).2 j hj
theorem write_err {w : World} {H A Q : Nat} {s : St} (f : Fr w H A Q s) (i off : Int) (ho : (Lit.int .i64 off).wf = true) (a : Option Addr) (m c : Nat) (h : code s i off (m : Int) ≠ 0) :
    Calls Tryz.prog 69 #[.pointer (some ⟨H, 0, none⟩), .int .i64 i, .int .i64 off, .slice a m c] w fun e w' => e = .returned (.int .i64 (code s i off (m : Int))) ∧ w = w' := by
  have F := hide f
  have h' : (code s i off (m : Int) == 0) = false := by simpa using h
  clear f
  generalize hc : code s i off (m : Int) = c at *
  go_enter Tryz.func69, Tryz.ntmps69
  go_wp2_with (go_at_call 109; with_reducible refine (check_any F.out _ _ _ ho).mono ?_; rintro e w' ⟨rfl, rfl⟩; rw [hc])
  go_ret
  exact ⟨rfl, rfl⟩
theorem write_nil (w : World) (i off : Int) (a : Option Addr) (m c : Nat) : Calls Tryz.prog 69 #[.pointer none, .int .i64 i, .int .i64 off, .slice a m c] w fun e w' => e = .returned (.int .i64 1) ∧ w = w' := by
  go_enter Tryz.func69, Tryz.ntmps69
  go_wp2_with (go_at_call 109; with_reducible refine (check_nil _ _ _ _).mono ?_; rintro e w' ⟨rfl, rfl⟩)
  go_ret
  exact ⟨rfl, rfl⟩
theorem fit_nat {off m : Nat} (h : off + m ≤ 64) : fit (off : Int) (m : Int) = true := by simp [fit]; omega
theorem wf_nat {off : Nat} (h : off ≤ 64) : (Lit.int .i64 (off : Int)).wf = true := by simp [Lit.wf, IntKind.min, IntKind.max, IntKind.bits, IntKind.signed]; omega
theorem fr_put {w w' : World} {H A Q : Nat} {s : St} (f : Fr w H A Q s) {i off : Nat} {ys : List Int} (hi : i < s.n) (ht : s.tk i = true) (hy : Bytes ys) (hf : off + ys.length ≤ 64) {cur : List Value} (e : w'.heap[A]? = some (.cells (splice cur (i * 65 + 1 + off) (ys.map (Value.int .u8))).toArray 179 (0, 0)))
    (h2 : cur.length = s.n * 65) (h3 : ∀ i, i < s.n → cur[i * 65]? = some (.bool (s.tk i)) ∧ ∀ j, j < 64 → cur[i * 65 + (1 + j)]? = some (.int .u8 (s.bt i j))) (t : Touch (fun k => k = A) w w') : Fr w' H A Q (s.put i off ys) :=
  ⟨good_put f.good ht hy hf, (t.block H f.ltH f.ha).trans f.head, rowF_put hi hf e h2 h3, t.own f.free (fun g hg e => by injection hg with hg; exact f.aq (by rw [← e, ← hg])), f.ha, f.hq, f.aq⟩
theorem ints_src {q : IntKind} {w : World} {a : Option Addr} {m : Nat} {ys : List Int} (h : Ints q w a m ys) (hp : 0 < (ys.map (Value.int q)).length) : ∃ ad, a = some ad ∧ ∀ j v, (ys.map (Value.int q))[j]? = some v → w.cell? (ad.add j) = some v := by
  have hm : 0 < m := by rw [List.length_map, h.1] at hp; exact hp
  obtain ⟨b, o, e, _⟩ := h.2 hm
  subst e
  exact ⟨_, rfl, ints_cells h⟩
theorem byte_size : (Tryz.prog.info? 5).map (·.size) = some 1 := by kernel_rfl
set_option maxHeartbeats 1000000 in
theorem write_ok {w : World} {H A Q : Nat} {s : St} (f : Fr w H A Q s) (i off : Nat) (hi : i < s.n) (ht : s.tk i = true) (a : Option Addr) (m c : Nat) (ys : List Int) (hb : Ints .u8 w a m ys) (hy : Bytes ys) (hf : off + m ≤ 64) :
    Calls Tryz.prog 69 #[.pointer (some ⟨H, 0, none⟩), .int .i64 (i : Nat), .int .i64 (off : Nat), .slice a m c] w fun e w' => e = .returned (.int .i64 0) ∧ Fr w' H A Q (s.put i off ys) ∧ Touch (fun k => k = A) w w' := by
  have F := hide f
  have HB := hide hb
  have HY := hide hy
  obtain ⟨cur, r1, r2, r3⟩ := f.row
  have R1 := hide r1
  have R3 := hide r3
  have h0 := f.h0
  have hm : ys.length = m := hb.1
  have c0 : code s (i : Nat) (off : Nat) (m : Int) = 0 := code_ok hi (fit_nat hf) ht
  have x1 : (i : Int) < (s.n : Int) := by omega
  have x0 : (0 : Int) ≤ (i : Int) := by omega
  have y0 : (0 : Int) ≤ (off : Int) := by omega
  have y1 : (off : Int) ≤ 64 := by omega
  have hlen : i * 65 + 1 + off + (ys.map (Value.int .u8)).length ≤ cur.length := by rw [List.length_map, r2, hm]; omega
  have ho := wf_nat (off := off) (by omega)
  have hmin : (ys.map (Value.int .u8)).length = Nat.min m (64 - off) := by rw [List.length_map, hm]; exact (Nat.min_eq_left (by omega)).symm
  clear f r3 hb hy r1
  by_cases h64 : 64 = off
  · subst h64
    obtain rfl : m = 0 := by omega
    have hmin : (ys.map (Value.int .u8)).length = Nat.min 0 0 := by rw [List.length_map, hm]; rfl
    have c00 : code s (i : Nat) 64 0 = 0 := c0
    have ho : (Lit.int .i64 64).wf = true := by decide
    go_enter Tryz.func69, Tryz.ntmps69
    go_wp2_with (first
      | (go_at_call 109; with_reducible refine (check_any F.out _ _ _ ho).mono ?_; rintro e w' ⟨rfl, rfl⟩; rw [c00])
      | (refine wpList_copy_touch rfl (.tmp 27) (.tmp 28) 30 30 rfl 5 Tryz.underlying30 byte_size _ _ _ _ _ _ rfl rfl A (i * 65 + 1 + 64) cur 179 R1.out (ys.map (Value.int .u8)) hmin (by intro hp; exfalso; rw [List.length_map] at hp; omega) hlen (ints_one _ _) ?_; intro w2 e2 t2))
    go_ret
    exact ⟨rfl, fr_put F.out hi ht HY.out (by omega) e2.out r2 R3.out t2, t2⟩
  · go_enter Tryz.func69, Tryz.ntmps69
    go_wp2_with (first
      | (go_at_call 109; with_reducible refine (check_any F.out _ _ _ ho).mono ?_; rintro e w' ⟨rfl, rfl⟩; rw [c0])
      | (refine wpList_copy_touch rfl (.tmp 27) (.tmp 28) 30 30 rfl 5 Tryz.underlying30 byte_size _ _ _ _ _ _ rfl rfl A (i * 65 + 1 + off) cur 179 R1.out (ys.map (Value.int .u8)) hmin (fun hp => ⟨rfl, ints_src HB.out hp⟩) hlen (ints_one _ _) ?_; intro w2 e2 t2))
    go_ret
    exact ⟨rfl, fr_put F.out hi ht HY.out (by omega) e2.out r2 R3.out t2, t2⟩
end Go.Proofs.YtndfnglcichngaaGreatDoor
namespace Go.Proofs.YtndfnglcichngaaGreatDoor
open Go.ChangeShapes Go.WideShapes Go.ChangeAt Go.RowKit
set_option linter.unusedVariables false
/-- n bytes of frame i from off on. -/
def St.part (s : St) (i off n : Nat) : List Int := (List.range n).map fun j => s.bt i (off + j)
theorem part_len (s : St) (i off n : Nat) : (s.part i off n).length = n := by simp [St.part]
theorem own_full {w : World} {B g n : Nat} {e : TypeId} {xs : List Value} (h : w.ownsRow B e 1 (.slice (some ⟨g, 0, none⟩) n n) n xs) : w.heap[g]? = some (.cells xs.toArray e (0, 0)) ∧ xs.length = n := by
  have hl : xs.length = n := by have := h.1; omega
  refine ⟨?_, hl⟩
  rcases h.2 with ⟨hn, _⟩ | ⟨g', cap, cur, e1, e2, e3, e4, e5, e6, e7⟩
  · cases hn
  · injection e1 with e8 _ e9
    injection e8 with e8
    injection e8 with e8 _ _
    subst e8 e9
    rw [e3, ← e7, List.take_of_length_le (by simp; omega)]
theorem own_of_full {w : World} {B g n : Nat} {e : TypeId} {xs : List Value} (h : w.heap[g]? = some (.cells xs.toArray e (0, 0))) (hl : xs.length = n) (hB : B ≤ g) (hm : n ≤ maxLen) : w.ownsRow B e 1 (.slice (some ⟨g, 0, none⟩) n n) n xs :=
  ⟨by omega, .inr ⟨g, n, xs.toArray, rfl, hB, h, Nat.le_refl _, hm, by simp [hl], by simp [← hl]⟩⟩
theorem splice_all {α : Type} {L cs : List α} (h : cs.length = L.length) : splice L 0 cs = cs := by simp [splice, h]
theorem fr_src {w : World} {H A Q : Nat} {s : St} (f : Fr w H A Q s) {i off n : Nat} (hi : i < s.n) (hf : off + n ≤ 64) : ∀ j v, ((s.part i off n).map (Value.int .u8))[j]? = some v → w.cell? ((⟨A, i * 65 + 1 + off, none⟩ : Addr).add j) = some v := by
  intro j v hv
  rw [List.getElem?_map] at hv
  rw [addr_add]
  by_cases hj : j < n
  · have e : (s.part i off n)[j]? = some (s.bt i (off + j)) := by simp [St.part, hj]
    rw [e] at hv
    injection hv with hv
    rw [← hv, show i * 65 + 1 + off + j = i * 65 + (1 + (off + j)) by omega]
    exact f.bt i (off + j) hi (by omega)
  · have e : (s.part i off n)[j]? = none := by rw [List.getElem?_eq_none]; rw [part_len]; omega
    rw [e] at hv; cases hv
theorem part_bytes {s : St} (g : Good s) {i off n : Nat} (hi : i < s.n) (hf : off + n ≤ 64) : Bytes (s.part i off n) := by
  intro y hy
  unfold St.part at hy
  obtain ⟨j, hj, rfl⟩ := List.mem_map.1 hy
  rw [List.mem_range] at hj
  exact g.byte i (off + j) hi (by omega)
theorem read_err {w : World} {H A Q : Nat} {s : St} (f : Fr w H A Q s) (i off n : Int) (ho : (Lit.int .i64 off).wf = true) (h : code s i off n ≠ 0) :
    Calls Tryz.prog 110 #[.pointer (some ⟨H, 0, none⟩), .int .i64 i, .int .i64 off, .int .i64 n] w fun e w' => e = .returned (.tuple #[.slice none 0 0, .int .i64 (code s i off n)]) ∧ w = w' := by
  have F := hide f
  have h' : (code s i off n == 0) = false := by simpa using h
  clear f
  generalize hc : code s i off n = c at *
  go_enter Tryz.func110, Tryz.ntmps110
  go_wp2_with (go_at_call 109; with_reducible refine (check_any F.out _ _ _ ho).mono ?_; rintro e w' ⟨rfl, rfl⟩; rw [hc])
  go_ret2
  exact ⟨rfl, rfl⟩
theorem read_nil (w : World) (i off n : Int) : Calls Tryz.prog 110 #[.pointer none, .int .i64 i, .int .i64 off, .int .i64 n] w fun e w' => e = .returned (.tuple #[.slice none 0 0, .int .i64 1]) ∧ w = w' := by
  go_enter Tryz.func110, Tryz.ntmps110
  go_wp2_with (go_at_call 109; with_reducible refine (check_nil _ _ _ _).mono ?_; rintro e w' ⟨rfl, rfl⟩)
  go_ret2
  exact ⟨rfl, rfl⟩
set_option maxHeartbeats 1000000 in
theorem read_ok {w : World} {H A Q : Nat} {s : St} (f : Fr w H A Q s) (i off n : Nat) (hi : i < s.n) (ht : s.tk i = true) (hf : off + n ≤ 64) :
    Calls Tryz.prog 110 #[.pointer (some ⟨H, 0, none⟩), .int .i64 (i : Nat), .int .i64 (off : Nat), .int .i64 (n : Nat)] w fun e w' =>
      e = .returned (.tuple #[.slice (some ⟨w.heap.size, 0, none⟩) n n, .int .i64 0]) ∧ w'.ownsRow w.heap.size 5 1 (.slice (some ⟨w.heap.size, 0, none⟩) n n) n ((s.part i off n).map (Value.int .u8)) ∧ Below w.heap.size w w' := by
  obtain ⟨i0, hi0, hz0, hz1, hz2⟩ := info_parts byte_info
  have F := hide f
  have c0 : code s (i : Nat) (off : Nat) (n : Int) = 0 := code_ok hi (fit_nat hf) ht
  have x1 : (i : Int) < (s.n : Int) := by omega
  have x0 : (0 : Int) ≤ (i : Int) := by omega
  have y0 : (0 : Int) ≤ (off : Int) := by omega
  have y1 : (off : Int) ≤ 64 := by omega
  have ho := wf_nat (off := off) (by omega)
  have hlp : ((s.part i off n).map (Value.int .u8)).length = n := by rw [List.length_map, part_len]
  have hmin : ((s.part i off n).map (Value.int .u8)).length = Nat.min (64 - off) n := by rw [hlp]; exact (Nat.min_eq_right (by omega)).symm
  have hm : n ≤ maxLen := by unfold maxLen; omega
  clear f
  by_cases h64 : 64 = off
  · subst h64
    obtain rfl : n = 0 := by omega
    have c00 : code s (i : Nat) 64 0 = 0 := c0
    have ho : (Lit.int .i64 64).wf = true := by decide
    go_enter Tryz.func110, Tryz.ntmps110
    go_wp2_with (first
      | (go_at_call 109; with_reducible refine (check_any F.out _ _ _ ho).mono ?_; rintro e w' ⟨rfl, rfl⟩; rw [c00])
      | (at_make; refine wpList_make_full _ rfl (.tmp 20) (.tmp 20) 30 rfl w.heap.size 5 i0 _ 1 Tryz.underlying30 hi0 hz0 hz1 .i64 .i64 0 0 0 rfl rfl rfl rfl (by omega) hm (Nat.le_refl _) ?_; intro w1 o1 g1; have O1 := hide o1; have B1 := hide ((Below.refl w.heap.size w).grown g1 (Nat.le_refl _) (by simp)); have F1 := hide (F.out.below B1.out); have h0 := F1.out.h0; clear o1 g1)
      | (refine wpList_copy_touch rfl (.tmp 22) (.tmp 31) 30 30 rfl 5 Tryz.underlying30 byte_size _ _ _ _ _ _ rfl rfl w.heap.size 0 _ 5 (own_full O1.out).1 ((s.part i 64 0).map (Value.int .u8)) (by rw [hlp]; rfl) (by intro hp; exfalso; rw [hlp] at hp; omega) (by rw [hlp]; omega) (ints_one _ _) ?_; intro w2 e2 t2))
    go_ret2
    rw [splice_all (by rw [hlp]; exact (own_full O1.out).2.symm)] at e2
    exact ⟨rfl, own_of_full e2.out hlp (Nat.le_refl _) hm, B1.out.trans (t2.below B1.out.size (fun i e => by rw [e]; exact Nat.le_refl _))⟩
  · go_enter Tryz.func110, Tryz.ntmps110
    go_wp2_with (first
      | (go_at_call 109; with_reducible refine (check_any F.out _ _ _ ho).mono ?_; rintro e w' ⟨rfl, rfl⟩; rw [c0])
      | (at_make; refine wpList_make_full _ rfl (.tmp 20) (.tmp 20) 30 rfl w.heap.size 5 i0 _ 1 Tryz.underlying30 hi0 hz0 hz1 .i64 .i64 (n : Int) (n : Int) n rfl rfl rfl rfl (by rw [hz2]; omega) hm (Nat.le_refl _) ?_; intro w1 o1 g1; have O1 := hide o1; have B1 := hide ((Below.refl w.heap.size w).grown g1 (Nat.le_refl _) (by simp)); have F1 := hide (F.out.below B1.out); have h0 := F1.out.h0; clear o1 g1)
      | (refine wpList_copy_touch rfl (.tmp 22) (.tmp 31) 30 30 rfl 5 Tryz.underlying30 byte_size _ _ _ _ _ _ rfl rfl w.heap.size 0 _ 5 (own_full O1.out).1 ((s.part i off n).map (Value.int .u8)) hmin (fun hp => ⟨rfl, _, rfl, fr_src F1.out hi hf⟩) (by rw [hlp, (own_full O1.out).2]; omega) (ints_one _ _) ?_; intro w2 e2 t2))
    go_ret2
    rw [splice_all (by rw [hlp]; exact (own_full O1.out).2.symm)] at e2
    exact ⟨rfl, own_of_full e2.out hlp (Nat.le_refl _) hm, B1.out.trans (t2.below B1.out.size (fun i e => by rw [e]; exact Nat.le_refl _))⟩
end Go.Proofs.YtndfnglcichngaaGreatDoor
namespace Go.Proofs.YtndfnglcichngaaGreatDoor
open Go.ChangeShapes Go.WideShapes Go.ChangeAt Go.RowKit
set_option linter.unusedVariables false
/-- A file: its number, its bytes. -/
structure Fi where
  id : Int
  b : List Int
def getFi : List Fi → Int → Option (List Int)
  | [], _ => none
  | x :: l, i => if x.id = i then some x.b else getFi l i
def putFi : List Fi → Int → List Int → List Fi
  | [], _, _ => []
  | x :: l, i, b => if x.id = i then ⟨i, b⟩ :: l else x :: putFi l i b
def delFi : List Fi → Int → List Fi
  | [], _ => []
  | x :: l, i => if x.id = i then l else x :: delFi l i
def idsFi (l : List Fi) : List Int := l.map Fi.id
/-- How many frames so many bytes fill, up. -/
def blkN (n : Nat) : Nat := (n + 63) / 64
def blkO (o : Option (List Int)) : Nat := match o with
  | none => 0
  | some b => blkN b.length
def lenO (o : Option (List Int)) : Nat := match o with
  | none => 0
  | some b => b.length
def useFi : List Fi → Nat
  | [] => 0
  | x :: l => blkN x.b.length + useFi l
/-- A store: its files, how many frames are free. -/
structure So where
  l : List Fi
  fr : Nat
def thE (s : So) (id : Int) : Nat := if (getFi s.l id).isSome then 0 else 4
def mkE (s : So) (id : Int) : Nat := if id < 0 then 2 else if (getFi s.l id).isSome then 5 else 0
def mkS (s : So) (id : Int) : So := if mkE s id = 0 then ⟨s.l ++ [⟨id, []⟩], s.fr⟩ else s
def drS (s : So) (id : Int) : So := ⟨delFi s.l id, s.fr + blkO (getFi s.l id)⟩
def ctS (s : So) (id : Int) : So := ⟨putFi s.l id [], s.fr + blkO (getFi s.l id)⟩
def rdE (s : So) (id off n : Int) : Nat := if (getFi s.l id).isSome then (if off < 0 ∨ n < 0 then 19 else 0) else 4
def rdB (s : So) (id off n : Int) : List Int := if rdE s id off n = 0 then (((getFi s.l id).getD []).drop off.toNat).take n.toNat else []
def needN (old off m : Nat) : Nat := blkN (off + m) - blkN old
def wrE (s : So) (id off : Int) (m : Nat) : Nat :=
  if (getFi s.l id).isSome then (if off < 0 then 19 else if m = 0 then 0 else if 512 < off + m then 15 else if s.fr < needN (lenO (getFi s.l id)) off.toNat m then 15 else 0) else 4
def wrAt (old : List Int) (off : Nat) (b : List Int) (j : Nat) : Int := if off ≤ j ∧ j < off + b.length then b.getD (j - off) 0 else old.getD j 0
def wrB (old : List Int) (off : Nat) (b : List Int) : List Int := (List.range (max old.length (off + b.length))).map (wrAt old off b)
def wrS (s : So) (id off : Int) (b : List Int) : So :=
  if wrE s id off b.length = 0 ∧ b.length ≠ 0 then ⟨putFi s.l id (wrB ((getFi s.l id).getD []) off.toNat b), s.fr - needN (lenO (getFi s.l id)) off.toNat b.length⟩ else s
structure GoodSo (s : So) : Prop where
  nodup : (idsFi s.l).Nodup
  ids : ∀ x ∈ s.l, 0 ≤ x.id ∧ (Lit.int .i64 x.id).wf = true
  byt : ∀ x ∈ s.l, Bytes x.b
  le : ∀ x ∈ s.l, x.b.length ≤ 512
theorem getFi_mem {l : List Fi} {i : Int} {b : List Int} (h : getFi l i = some b) : ⟨i, b⟩ ∈ l := by
  induction l with
  | nil => cases h
  | cons x l ih =>
    unfold getFi at h
    split at h
    · rename_i e
      injection h with h
      subst e h
      exact List.mem_cons_self ..
    · exact List.mem_cons_of_mem _ (ih h)
theorem getFi_none {l : List Fi} {i : Int} : getFi l i = none ↔ i ∉ idsFi l := by
  induction l with
  | nil => simp [getFi, idsFi]
  | cons x l ih =>
    unfold getFi idsFi
    rw [List.map_cons, List.mem_cons]
    by_cases e : x.id = i
    · rw [if_pos e]; simp [e]
    · rw [if_neg e, ih]
      have : i ≠ x.id := fun h => e h.symm
      simp [this, idsFi]
theorem getFi_new {l : List Fi} {i : Int} (h : getFi l i = none) (b : List Int) (k : Int) : getFi (l ++ [⟨i, b⟩]) k = if k = i then some b else getFi l k := by
  induction l with
  | nil => by_cases e : k = i <;> simp [getFi, e]; exact fun h => absurd h.symm e
  | cons x l ih =>
    unfold getFi at h
    split at h
    · cases h
    · rename_i e
      rw [List.cons_append]
      unfold getFi
      rw [ih h]
      by_cases e2 : x.id = k
      · have : k ≠ i := fun h => e (e2.trans h)
        simp [e2, this]
      · simp [e2]
theorem getFi_put {l : List Fi} {i : Int} {o : List Int} (h : getFi l i = some o) (b : List Int) (k : Int) : getFi (putFi l i b) k = if k = i then some b else getFi l k := by
  induction l with
  | nil => cases h
  | cons x l ih =>
    unfold getFi at h
    unfold putFi
    by_cases e : x.id = i
    · rw [if_pos e]
      unfold getFi
      by_cases e2 : k = i
      · simp [e2]
      · have : i ≠ k := fun h => e2 h.symm
        have e3 : x.id ≠ k := fun h => this (e.symm.trans h)
        simp [e2, this, e3]
    · rw [if_neg e] at h ⊢
      unfold getFi
      rw [ih h]
      by_cases e2 : x.id = k
      · have : k ≠ i := fun h => e (e2.trans h)
        simp [e2, this]
      · simp [e2]
theorem getFi_del {l : List Fi} {i : Int} (hn : (idsFi l).Nodup) (k : Int) : getFi (delFi l i) k = if k = i then none else getFi l k := by
  induction l with
  | nil => simp [getFi, delFi]
  | cons x l ih =>
    have hn2 : x.id ∉ idsFi l ∧ (idsFi l).Nodup := by simpa [idsFi] using hn
    unfold delFi
    by_cases e : x.id = i
    · rw [if_pos e]
      by_cases e2 : k = i
      · rw [if_pos e2, e2, ← e]; exact getFi_none.2 hn2.1
      · rw [if_neg e2]
        conv => rhs; unfold getFi
        have e3 : x.id ≠ k := fun h => e2 (h.symm.trans e)
        rw [if_neg e3]
    · rw [if_neg e]
      unfold getFi
      rw [ih hn2.2]
      by_cases e2 : x.id = k
      · have : k ≠ i := fun h => e (e2.trans h)
        simp [e2, this]
      · simp [e2]
theorem put_ids (l : List Fi) (i : Int) (b : List Int) : idsFi (putFi l i b) = idsFi l := by
  induction l with
  | nil => rfl
  | cons x l ih =>
    unfold putFi
    by_cases e : x.id = i
    · rw [if_pos e]; simp [idsFi, e]
    · rw [if_neg e]
      show x.id :: idsFi (putFi l i b) = _
      rw [ih]; rfl
theorem put_len (l : List Fi) (i : Int) (b : List Int) : (putFi l i b).length = l.length := by
  have := congrArg List.length (put_ids l i b)
  simpa [idsFi] using this
theorem put_mem {l : List Fi} {i : Int} {b : List Int} {x : Fi} (h : x ∈ putFi l i b) : x ∈ l ∨ (x = ⟨i, b⟩ ∧ ∃ o, getFi l i = some o) := by
  induction l with
  | nil => cases h
  | cons y l ih =>
    unfold putFi at h
    by_cases e : y.id = i
    · rw [if_pos e] at h
      rcases List.mem_cons.1 h with h | h
      · exact .inr ⟨h, y.b, by unfold getFi; rw [if_pos e]⟩
      · exact .inl (List.mem_cons_of_mem _ h)
    · rw [if_neg e] at h
      rcases List.mem_cons.1 h with h | h
      · exact .inl (by rw [h]; exact List.mem_cons_self ..)
      · rcases ih h with h | ⟨h, o, ho⟩
        · exact .inl (List.mem_cons_of_mem _ h)
        · exact .inr ⟨h, o, by unfold getFi; rw [if_neg e]; exact ho⟩
theorem del_sub (l : List Fi) (i : Int) : (delFi l i).Sublist l := by
  induction l with
  | nil => exact List.Sublist.refl _
  | cons x l ih =>
    unfold delFi
    by_cases e : x.id = i
    · rw [if_pos e]; exact List.sublist_cons_self ..
    · rw [if_neg e]; exact ih.cons_cons x
theorem use_new (l : List Fi) (i : Int) : useFi (l ++ [⟨i, []⟩]) = useFi l := by
  induction l with
  | nil => show blkN 0 + 0 = 0; decide
  | cons x l ih => show blkN x.b.length + useFi (l ++ [⟨i, []⟩]) = _; rw [ih]; rfl
theorem use_put {l : List Fi} {i : Int} {o : List Int} (h : getFi l i = some o) (b : List Int) : useFi (putFi l i b) + blkN o.length = useFi l + blkN b.length := by
  induction l with
  | nil => cases h
  | cons x l ih =>
    unfold getFi at h
    unfold putFi
    by_cases e : x.id = i
    · rw [if_pos e] at h ⊢
      injection h with h
      show blkN b.length + useFi l + _ = blkN x.b.length + useFi l + _
      rw [h]; omega
    · rw [if_neg e] at h ⊢
      have := ih h
      show blkN x.b.length + useFi (putFi l i b) + _ = blkN x.b.length + useFi l + _
      omega
theorem use_del (l : List Fi) (i : Int) : useFi (delFi l i) + blkO (getFi l i) = useFi l := by
  induction l with
  | nil => rfl
  | cons x l ih =>
    unfold delFi getFi
    by_cases e : x.id = i
    · rw [if_pos e, if_pos e]
      show useFi l + blkN x.b.length = blkN x.b.length + useFi l
      omega
    · rw [if_neg e, if_neg e]
      show blkN x.b.length + useFi (delFi l i) + _ = blkN x.b.length + useFi l
      omega
theorem put_none {l : List Fi} {i : Int} (h : getFi l i = none) (b : List Int) : putFi l i b = l := by
  induction l with
  | nil => rfl
  | cons x l ih =>
    unfold getFi at h
    unfold putFi
    by_cases e : x.id = i
    · rw [if_pos e] at h; cases h
    · rw [if_neg e] at h ⊢; rw [ih h]
theorem del_none {l : List Fi} {i : Int} (h : getFi l i = none) : delFi l i = l := by
  induction l with
  | nil => rfl
  | cons x l ih =>
    unfold getFi at h
    unfold delFi
    by_cases e : x.id = i
    · rw [if_pos e] at h; cases h
    · rw [if_neg e] at h ⊢; rw [ih h]
theorem wrB_len (old : List Int) (off : Nat) (b : List Int) : (wrB old off b).length = max old.length (off + b.length) := by simp [wrB]
theorem wrB_at {old : List Int} {off : Nat} {b : List Int} {j : Nat} (h : j < max old.length (off + b.length)) : (wrB old off b)[j]? = some (wrAt old off b j) := by
  unfold wrB
  rw [List.getElem?_map, List.getElem?_range h]
  rfl
theorem wrB_get {old : List Int} {off : Nat} {b : List Int} {j : Nat} (h : j < max old.length (off + b.length)) : (wrB old off b).getD j 0 = wrAt old off b j := by
  rw [List.getD_eq_getElem?_getD, wrB_at h]; rfl
theorem getD_past {l : List Int} {j : Nat} (h : l.length ≤ j) : l.getD j 0 = 0 := by
  rw [List.getD_eq_getElem?_getD, List.getElem?_eq_none h]; rfl
theorem wrAt_past {old : List Int} {off : Nat} {b : List Int} {j : Nat} (h : max old.length (off + b.length) ≤ j) : wrAt old off b j = 0 := by
  unfold wrAt
  rw [if_neg (by omega), getD_past (by omega)]
theorem wrB_getD (old : List Int) (off : Nat) (b : List Int) (j : Nat) : (wrB old off b).getD j 0 = wrAt old off b j := by
  by_cases h : j < max old.length (off + b.length)
  · exact wrB_get h
  · rw [wrAt_past (by omega), getD_past (by rw [wrB_len]; omega)]
theorem Bytes.getD {l : List Int} (h : Bytes l) (j : Nat) : 0 ≤ l.getD j 0 ∧ l.getD j 0 ≤ 255 := by
  by_cases hj : j < l.length
  · exact h.at hj
  · rw [getD_past (by omega)]; omega
theorem wrB_bytes {old : List Int} {off : Nat} {b : List Int} (ho : Bytes old) (hb : Bytes b) : Bytes (wrB old off b) := by
  intro y hy
  unfold wrB at hy
  obtain ⟨j, _, rfl⟩ := List.mem_map.1 hy
  unfold wrAt
  split
  · exact hb.getD _
  · exact ho.getD _
theorem eq_of_getD {a b : List Int} (hl : a.length = b.length) (h : ∀ j, a.getD j 0 = b.getD j 0) : a = b := by
  apply List.ext_getElem hl
  intro j h1 h2
  have := h j
  rw [List.getD_eq_getElem?_getD, List.getD_eq_getElem?_getD, List.getElem?_eq_getElem h1, List.getElem?_eq_getElem h2] at this
  simpa using this
theorem getD_drop (l : List Int) (k j : Nat) : (l.drop k).getD j 0 = l.getD (k + j) 0 := by
  rw [List.getD_eq_getElem?_getD, List.getD_eq_getElem?_getD, List.getElem?_drop]
theorem getD_take {l : List Int} {k j : Nat} (h : j < k) : (l.take k).getD j 0 = l.getD j 0 := by
  rw [List.getD_eq_getElem?_getD, List.getD_eq_getElem?_getD, List.getElem?_take_of_lt h]
/-- Written in two pieces: the later one first. -/
theorem wrB_pieces {b : List Int} {k off : Nat} (hk : k ≤ b.length) (h1 : k ≠ b.length) (h0 : k ≠ 0) : wrB (wrB [] (off + k) (b.drop k)) off (b.take k) = wrB [] off b := by
  have e1 : (b.drop k).length = b.length - k := List.length_drop
  have e2 : (b.take k).length = k := by rw [List.length_take]; omega
  refine eq_of_getD ?_ fun j => ?_
  · rw [wrB_len, wrB_len, wrB_len, e1, e2]; simp; omega
  · rw [wrB_getD, wrB_getD]
    unfold wrAt
    rw [e2, wrB_getD]
    unfold wrAt
    rw [e1]
    by_cases a1 : off ≤ j ∧ j < off + k
    · rw [if_pos a1, if_pos (by omega), getD_take (by omega)]
    · rw [if_neg a1]
      by_cases a2 : off + k ≤ j ∧ j < off + k + (b.length - k)
      · rw [if_pos a2, if_pos (by omega), getD_drop]
        congr 1; omega
      · rw [if_neg a2, if_neg (by omega)]
/-- Two writes that do not meet. -/
theorem wrB_two {x y : List Int} {a b : Nat} (h : a + x.length ≤ b) (hx : x ≠ []) (hy : y ≠ []) : wrB (wrB [] a x) b y = wrB (wrB [] b y) a x := by
  refine eq_of_getD ?_ fun j => ?_
  · rw [wrB_len, wrB_len, wrB_len, wrB_len]; simp; omega
  · rw [wrB_getD, wrB_getD]
    unfold wrAt
    rw [wrB_getD, wrB_getD]
    unfold wrAt
    by_cases a1 : b ≤ j ∧ j < b + y.length
    · rw [if_pos a1, if_neg (by omega), if_pos a1]
    · rw [if_neg a1, if_neg a1]
theorem GoodSo.new (n : Nat) : GoodSo ⟨[], n⟩ := ⟨List.nodup_nil, fun x h => absurd h List.not_mem_nil, fun x h => absurd h List.not_mem_nil, fun x h => absurd h List.not_mem_nil⟩
theorem GoodSo.mk_ {s : So} (h : GoodSo s) {id : Int} (w : (Lit.int .i64 id).wf = true) : GoodSo (mkS s id) := by
  unfold mkS
  split
  · rename_i e
    have e0 : ¬ id < 0 := by intro e0; unfold mkE at e; rw [if_pos e0] at e; omega
    have e1 : getFi s.l id = none := by
      unfold mkE at e
      rw [if_neg e0] at e
      split at e
      · omega
      · rename_i e2; simpa using e2
    refine ⟨?_, ?_, ?_, ?_⟩
    · show (idsFi (s.l ++ [⟨id, []⟩])).Nodup
      unfold idsFi
      rw [List.map_append, List.nodup_append]
      exact ⟨h.nodup, by simp, fun a ha b hb e5 => by simp at hb; rw [e5, hb] at ha; exact getFi_none.1 e1 ha⟩
    · intro x hx
      rcases List.mem_append.1 hx with hx | hx
      · exact h.ids x hx
      · simp at hx; subst hx; exact ⟨by show 0 ≤ id; omega, w⟩
    · intro x hx
      rcases List.mem_append.1 hx with hx | hx
      · exact h.byt x hx
      · simp at hx; subst hx; intro y hy; cases hy
    · intro x hx
      rcases List.mem_append.1 hx with hx | hx
      · exact h.le x hx
      · simp at hx; subst hx; exact Nat.zero_le _
  · exact h
theorem GoodSo.dr {s : So} (h : GoodSo s) (id : Int) : GoodSo (drS s id) := by
  have hs := del_sub s.l id
  exact ⟨h.nodup.sublist (hs.map Fi.id), fun x hx => h.ids x (hs.subset hx), fun x hx => h.byt x (hs.subset hx), fun x hx => h.le x (hs.subset hx)⟩
theorem GoodSo.put {s : So} (h : GoodSo s) {id : Int} {b : List Int} (hb : Bytes b) (hl : b.length ≤ 512) (fr : Nat) : GoodSo ⟨putFi s.l id b, fr⟩ := by
  refine ⟨?_, fun x hx => ?_, fun x hx => ?_, fun x hx => ?_⟩
  · show (idsFi (putFi s.l id b)).Nodup
    rw [put_ids]; exact h.nodup
  · rcases put_mem hx with hx | ⟨rfl, o, ho⟩
    · exact h.ids x hx
    · have := h.ids _ (getFi_mem ho); exact this
  · rcases put_mem hx with hx | ⟨rfl, o, ho⟩
    · exact h.byt x hx
    · exact hb
  · rcases put_mem hx with hx | ⟨rfl, o, ho⟩
    · exact h.le x hx
    · exact hl
theorem GoodSo.ct {s : So} (h : GoodSo s) (id : Int) : GoodSo (ctS s id) := h.put (fun y hy => by cases hy) (by simp) _
theorem GoodSo.old {s : So} (h : GoodSo s) {id : Int} {b : List Int} (e : getFi s.l id = some b) : Bytes b ∧ b.length ≤ 512 ∧ 0 ≤ id ∧ (Lit.int .i64 id).wf = true :=
  ⟨h.byt _ (getFi_mem e), h.le _ (getFi_mem e), h.ids _ (getFi_mem e)⟩
theorem wrE_ok {s : So} {id off : Int} {m : Nat} (h : wrE s id off m = 0) : ∃ b, getFi s.l id = some b ∧ 0 ≤ off ∧ (m ≠ 0 → off + m ≤ 512 ∧ needN b.length off.toNat m ≤ s.fr) := by
  unfold wrE at h
  cases e : getFi s.l id with
  | none => rw [e] at h; simp at h
  | some b =>
    rw [e] at h
    simp only [Option.isSome_some, if_true] at h
    refine ⟨b, rfl, ?_, fun hm => ?_⟩
    · by_cases h0 : off < 0
      · rw [if_pos h0] at h; omega
      · omega
    · by_cases h0 : off < 0
      · rw [if_pos h0] at h; omega
      · rw [if_neg h0, if_neg hm] at h
        split at h
        · omega
        · split at h
          · omega
          · rename_i a2 a3
            have a4 : ¬ s.fr < needN b.length off.toNat m := a3
            exact ⟨by omega, by omega⟩
theorem GoodSo.wr {s : So} (h : GoodSo s) {id off : Int} {b : List Int} (hb : Bytes b) : GoodSo (wrS s id off b) := by
  unfold wrS
  split
  · rename_i e
    obtain ⟨o, ho, h0, h1⟩ := wrE_ok e.1
    obtain ⟨h2, h3⟩ := h1 e.2
    rw [ho]
    exact h.put (wrB_bytes (h.old ho).1 hb) (by rw [wrB_len]; have := (h.old ho).2.1; show max o.length _ ≤ 512; omega) _
  · exact h
theorem rdB_len {s : So} (h : GoodSo s) (id off n : Int) : (rdB s id off n).length ≤ 512 := by
  unfold rdB
  split
  · rw [List.length_take, List.length_drop]
    cases e : getFi s.l id with
    | none => simp
    | some b => have := (h.old e).2.1; simp; omega
  · simp
theorem rdB_bytes {s : So} (h : GoodSo s) (id off n : Int) : Bytes (rdB s id off n) := by
  unfold rdB
  split
  · cases e : getFi s.l id with
    | none => intro y hy; simp at hy
    | some b => intro y hy; exact (h.old e).1 y (List.mem_of_mem_drop (List.mem_of_mem_take hy))
  · intro y hy; cases hy
/-- All of a file. -/
theorem rdB_all {s : So} (h : GoodSo s) {id n : Int} {b : List Int} (e : getFi s.l id = some b) (hn : 512 ≤ n) : rdE s id 0 n = 0 ∧ rdB s id 0 n = b := by
  have h0 : rdE s id 0 n = 0 := by unfold rdE; rw [e]; simp; omega
  refine ⟨h0, ?_⟩
  unfold rdB
  rw [if_pos h0, e]
  show (b.drop 0).take n.toNat = b
  rw [List.drop_zero, List.take_of_length_le]
  have := (h.old e).2.1
  omega
theorem mkS_len (s : So) (id : Int) : (mkS s id).l.length ≤ s.l.length + 1 := by
  unfold mkS; split <;> simp
theorem drS_len (s : So) (id : Int) : (drS s id).l.length ≤ s.l.length := (del_sub s.l id).length_le
theorem ctS_len (s : So) (id : Int) : (ctS s id).l.length = s.l.length := put_len _ _ _
theorem wrS_len (s : So) (id off : Int) (b : List Int) : (wrS s id off b).l.length = s.l.length := by
  unfold wrS; split
  · exact put_len _ _ _
  · rfl
/-- All frames are somewhere. -/
def Held20 (N : Nat) (s : So) : Prop := s.fr + useFi s.l = N
theorem Held20.mk_ {N : Nat} {s : So} (h : Held20 N s) (id : Int) : Held20 N (mkS s id) := by
  unfold mkS
  split
  · show s.fr + useFi (s.l ++ [⟨id, []⟩]) = N
    rw [use_new]; exact h
  · exact h
theorem Held20.dr {N : Nat} {s : So} (h : Held20 N s) (id : Int) : Held20 N (drS s id) := by
  have := use_del s.l id
  have h2 : s.fr + useFi s.l = N := h
  show s.fr + blkO (getFi s.l id) + useFi (delFi s.l id) = N
  omega
theorem Held20.ct {N : Nat} {s : So} (h : Held20 N s) (id : Int) : Held20 N (ctS s id) := by
  have h2 : s.fr + useFi s.l = N := h
  show s.fr + blkO (getFi s.l id) + useFi (putFi s.l id []) = N
  cases e : getFi s.l id with
  | none => rw [put_none e]; exact h2
  | some b =>
    have := use_put e []
    have e0 : blkN ([] : List Int).length = 0 := by decide
    show s.fr + blkN b.length + _ = N
    omega
theorem blkN_mono {a b : Nat} (h : a ≤ b) : blkN a ≤ blkN b := by unfold blkN; omega
theorem needN_max (old off m : Nat) : blkN (max old (off + m)) = blkN old + needN old off m := by
  unfold needN
  rcases Nat.le_total old (off + m) with h | h
  · rw [Nat.max_eq_right h]; have := blkN_mono h; omega
  · rw [Nat.max_eq_left h]; have := blkN_mono h; omega
theorem Held20.wr {N : Nat} {s : So} (h : Held20 N s) (id off : Int) (b : List Int) : Held20 N (wrS s id off b) := by
  have h2 : s.fr + useFi s.l = N := h
  unfold wrS
  split
  · rename_i e
    obtain ⟨o, ho, h0, h1⟩ := wrE_ok e.1
    obtain ⟨h3, h4⟩ := h1 e.2
    have := use_put ho (wrB o off.toNat b)
    rw [wrB_len, needN_max] at this
    rw [ho]
    show s.fr - needN o.length off.toNat b.length + useFi (putFi s.l id (wrB o off.toNat b)) = N
    omega
  · exact h
end Go.Proofs.YtndfnglcichngaaGreatDoor
namespace Go.Proofs.YtndfnglcichngaaGreatDoor
set_option linter.unusedVariables false
set_option linter.unusedSimpArgs false
/-- The order of texts. -/
def ltT (a b : Txt) : Bool := Op.bytesLess a b
theorem ltT_irr : ∀ a : Txt, ltT a a = false
  | [] => rfl
  | c :: a => by
    show (decide (c < c) || (c == c && ltT a a)) = false
    rw [ltT_irr a]; simp
theorem u8_lt_trans {a b c : UInt8} (h : a < b) (k : b < c) : a < c := by rw [UInt8.lt_iff_toNat_lt] at *; omega
theorem u8_lt_irr {a b : UInt8} (h : a < b) : a ≠ b := fun e => by rw [e, UInt8.lt_iff_toNat_lt] at h; omega
theorem u8_tri (a b : UInt8) : a < b ∨ a = b ∨ b < a := by
  rcases Nat.lt_trichotomy a.toNat b.toNat with h | h | h
  · exact .inl (UInt8.lt_iff_toNat_lt.2 h)
  · exact .inr (.inl (UInt8.toNat_inj.1 h))
  · exact .inr (.inr (UInt8.lt_iff_toNat_lt.2 h))
theorem ltT_cons (c d : UInt8) (a b : Txt) : ltT (c :: a) (d :: b) = true ↔ c < d ∨ c = d ∧ ltT a b = true := by
  show (decide (c < d) || (c == d && ltT a b)) = true ↔ _
  simp
theorem ltT_nil (a : Txt) : ltT a [] = false := by cases a <;> rfl
theorem ltT_tri : ∀ a b : Txt, ltT a b = true ∨ a = b ∨ ltT b a = true
  | [], [] => .inr (.inl rfl)
  | [], _ :: _ => .inl rfl
  | _ :: _, [] => .inr (.inr rfl)
  | c :: a, d :: b => by
    rw [ltT_cons, ltT_cons]
    rcases u8_tri c d with h | h | h
    · exact .inl (.inl h)
    · subst h
      rcases ltT_tri a b with k | k | k
      · exact .inl (.inr ⟨rfl, k⟩)
      · exact .inr (.inl (by rw [k]))
      · exact .inr (.inr (.inr ⟨rfl, k⟩))
    · exact .inr (.inr (.inl h))
theorem ltT_trans : ∀ {a b c : Txt}, ltT a b = true → ltT b c = true → ltT a c = true
  | [], _, [], _, k => by rw [ltT_nil] at k; cases k
  | [], _, _ :: _, _, _ => rfl
  | _ :: _, [], _, h, _ => by rw [ltT_nil] at h; cases h
  | _ :: _, _ :: _, [], _, k => by rw [ltT_nil] at k; cases k
  | x :: a, y :: b, z :: c, h, k => by
    rw [ltT_cons] at *
    rcases h with h | ⟨rfl, h⟩ <;> rcases k with k | ⟨rfl, k⟩
    · exact .inl (u8_lt_trans h k)
    · exact .inl h
    · exact .inl k
    · exact .inr ⟨rfl, ltT_trans h k⟩
theorem ltT_ne {a b : Txt} (h : ltT a b = true) : a ≠ b := fun e => by rw [e, ltT_irr] at h; cases h
theorem ltT_asym {a b : Txt} (h : ltT a b = true) : ltT b a = false := by
  cases e : ltT b a with
  | false => rfl
  | true => exact absurd (ltT_trans h e) (by rw [ltT_irr]; simp)
/-- Greater, as the walk shows it. -/
theorem gtT_iff (a b : Txt) : (!(ltT a b || decide (a = b))) = ltT b a := by
  rcases ltT_tri a b with h | h | h
  · rw [h, ltT_asym h]; rfl
  · rw [h, ltT_irr]; simp
  · rw [h, ltT_asym h]; have := ltT_ne h; simp; exact fun e => this e.symm
/-- An entry. -/
structure Ent where
  nm : Txt
  id : Nat
/-- A node. -/
structure Nd where
  is : Bool
  dir : Bool
  links : Int
  opens : Int
  l : List Ent
def Nd.zero : Nd := ⟨false, false, 0, 0, []⟩
/-- Nodes by numbers, the store beneath. -/
structure In where
  n : Nat → Nd
  so : So
def In.put (s : In) (i : Nat) (x : Nd) : In := ⟨upd s.n i x, s.so⟩
def newI (n : Nat) : In := ⟨upd (fun _ => Nd.zero) 0 ⟨true, true, 0, 0, []⟩, ⟨[], n⟩⟩
def isI (s : In) (id : Int) : Bool := decide (0 ≤ id ∧ id < 16) && (s.n id.toNat).is
def dirI (s : In) (id : Int) : Bool := isI s id && (s.n id.toNat).dir
/-- The least free number from i on. -/
def freeA (s : In) : Nat → Nat → Option Nat
  | 0, _ => none
  | k + 1, i => if (s.n i).is then freeA s k (i + 1) else some i
def freeI (s : In) : Option Nat := freeA s 15 1
def mkIE (s : In) : Nat := if (freeI s).isSome then 0 else 15
def mkII (s : In) : Nat := (freeI s).getD 0
def mkAt (s : In) (d : Bool) (i : Nat) : In := ⟨upd s.n i ⟨true, d, 0, 1, []⟩, if d then s.so else mkS s.so i⟩
def mkI (s : In) (d : Bool) : In := match freeI s with
  | none => s
  | some i => mkAt s d i
def opIE (s : In) (id : Int) : Nat := if isI s id then 0 else 4
def opI (s : In) (id : Int) : In := if isI s id then s.put id.toNat { s.n id.toNat with opens := (s.n id.toNat).opens + 1 } else s
def decL (s : In) (i : Nat) : In := s.put i { s.n i with links := (s.n i).links - 1 }
def clrI (s : In) (i : Nat) : In := ⟨upd s.n i Nd.zero, if (s.n i).dir then s.so else drS s.so i⟩
/-- A node goes, if it is to. -/
def goneI : Nat → In → Nat → In
  | 0, s, _ => s
  | f + 1, s, i => if i = 0 ∨ 0 < (s.n i).links ∨ 0 < (s.n i).opens then s else (s.n i).l.foldl (fun s e => goneI f (decL s e.id) e.id) (clrI s i)
def clIE (s : In) (id : Int) : Nat := if isI s id = true ∧ (s.n id.toNat).opens ≠ 0 then 0 else 4
def clI (s : In) (id : Int) : In := if clIE s id = 0 then goneI 17 (s.put id.toNat { s.n id.toNat with opens := (s.n id.toNat).opens - 1 }) id.toNat else s
def findL : List Ent → Txt → Option Nat
  | [], _ => none
  | x :: l, t => if x.nm = t then some x.id else findL l t
def fiIE (s : In) (d : Int) (t : Txt) : Nat := if dirI s d then (if (findL (s.n d.toNat).l t).isSome then 0 else 9) else 11
def fiII (s : In) (d : Int) (t : Txt) : Nat := if dirI s d then (findL (s.n d.toNat).l t).getD 0 else 0
def insL : List Ent → Ent → List Ent
  | [], e => [e]
  | x :: l, e => if ltT e.nm x.nm then e :: x :: l else x :: insL l e
def delL (l : List Ent) (t : Txt) : List Ent := l.filter fun x => decide (x.nm ≠ t)
def enIE (s : In) (d : Int) (t : Txt) (id : Int) : Nat :=
  if dirI s d = false then 11 else if nameE t ≠ 0 then (nameE t).toNat else if isI s id = false ∨ id = 0 then 4 else if (findL (s.n d.toNat).l t).isSome = true then 10 else if (s.n d.toNat).l.length = 8 then 15 else 0
def incL (s : In) (i : Nat) : In := s.put i { s.n i with links := (s.n i).links + 1 }
def setL (s : In) (i : Nat) (l : List Ent) : In := s.put i { s.n i with l := l }
def enI (s : In) (d : Int) (t : Txt) (id : Int) : In := if enIE s d t id = 0 then incL (setL s d.toNat (insL (s.n d.toNat).l ⟨t, id.toNat⟩)) id.toNat else s
def rmIE (s : In) (d : Int) (t : Txt) : Nat := if fiIE s d t ≠ 0 then fiIE s d t else if (s.n (fiII s d t)).dir = true ∧ (s.n (fiII s d t)).l ≠ [] then 13 else 0
def rmI (s : In) (d : Int) (t : Txt) : In := if rmIE s d t = 0 then goneI 17 (decL (setL s d.toNat (delL (s.n d.toNat).l t)) (fiII s d t)) (fiII s d t) else s
def gtSz (s : In) (i : Nat) : Nat := if (s.n i).dir then (s.n i).l.length else lenO (getFi s.so.l i)
/-- Sums over all nodes. -/
def sumN (f : Nat → Nat) : Nat → Nat
  | 0 => 0
  | k + 1 => sumN f k + f k
theorem sumN_upd (f : Nat → Nat) (i v : Nat) : ∀ n, sumN (upd f i v) n + (if i < n then f i else 0) = sumN f n + (if i < n then v else 0)
  | 0 => by simp [sumN]
  | n + 1 => by
    have ih := sumN_upd f i v n
    unfold sumN
    by_cases e : i = n
    · subst e
      rw [upd_same]
      simp only [Nat.lt_irrefl, if_false, Nat.lt_succ_self, if_true] at ih ⊢
      omega
    · rw [upd_other f v (fun h => e h.symm)]
      by_cases h : i < n
      · rw [if_pos h] at ih
        rw [if_pos (by omega), if_pos (by omega)]
        rw [if_pos h] at ih
        omega
      · rw [if_neg h] at ih
        rw [if_neg (by omega), if_neg (by omega)]
        rw [if_neg h] at ih
        omega
theorem sumN_ext {f g : Nat → Nat} : ∀ {n}, (∀ i, i < n → f i = g i) → sumN f n = sumN g n
  | 0, _ => rfl
  | n + 1, h => by unfold sumN; rw [sumN_ext (fun i hi => h i (by omega)), h n (by omega)]
theorem sumN_le {f : Nat → Nat} {c : Nat} : ∀ {n}, (∀ i, i < n → f i ≤ c) → sumN f n ≤ c * n
  | 0, _ => Nat.zero_le _
  | n + 1, h => by
    have h1 := sumN_le (n := n) (fun i hi => h i (by omega))
    have h2 := h n (by omega)
    unfold sumN
    rw [Nat.mul_add]; omega
theorem sumN_pos {f : Nat → Nat} : ∀ {n i}, i < n → f i ≤ sumN f n
  | 0, _, h => by omega
  | n + 1, i, h => by
    unfold sumN
    by_cases e : i = n
    · subst e; omega
    · have := sumN_pos (f := f) (show i < n by omega); omega
theorem sumN_zero {f : Nat → Nat} {n : Nat} (h : sumN f n = 0) {i : Nat} (hi : i < n) : f i = 0 := by have := sumN_pos (f := f) hi; omega
/-- How often entries of a list name j. -/
def cntL (l : List Ent) (j : Nat) : Nat := l.countP fun e => decide (e.id = j)
theorem cntL_app (l r : List Ent) (j : Nat) : cntL (l ++ r) j = cntL l j + cntL r j := List.countP_append ..
theorem cntL_cons (e : Ent) (l : List Ent) (j : Nat) : cntL (e :: l) j = cntL l j + if e.id = j then 1 else 0 := by
  unfold cntL; rw [List.countP_cons]; simp
theorem cntL_pos {l : List Ent} {e : Ent} (h : e ∈ l) : 0 < cntL l e.id := List.countP_pos_iff.2 ⟨e, h, by simp⟩
theorem cntL_ins (l : List Ent) (e : Ent) (j : Nat) : cntL (insL l e) j = cntL l j + if e.id = j then 1 else 0 := by
  induction l with
  | nil => unfold insL; rw [cntL_cons]
  | cons x l ih =>
    unfold insL
    split
    · rw [cntL_cons]
    · rw [cntL_cons, ih, cntL_cons]; omega
def cntE (s : In) (j : Nat) : Nat := sumN (fun i => cntL (s.n i).l j) 16
def cntI (s : In) : Nat := sumN (fun i => if (s.n i).is then 1 else 0) 16
theorem fun_upd {α : Type} (g : Nd → α) (f : Nat → Nd) (i : Nat) (x : Nd) : (fun k => g (upd f i x k)) = upd (fun k => g (f k)) i (g x) := by
  funext k; unfold upd; split <;> rfl
theorem cntE_upd {s s' : In} {i : Nat} {x : Nd} (h : s'.n = upd s.n i x) (hi : i < 16) (j : Nat) : cntE s' j + cntL (s.n i).l j = cntE s j + cntL x.l j := by
  unfold cntE
  rw [h, fun_upd (fun y => cntL y.l j)]
  have := sumN_upd (fun k => cntL (s.n k).l j) i (cntL x.l j) 16
  rw [if_pos hi, if_pos hi] at this
  exact this
theorem cntI_upd {s s' : In} {i : Nat} {x : Nd} (h : s'.n = upd s.n i x) (hi : i < 16) : cntI s' + (if (s.n i).is then 1 else 0) = cntI s + if x.is then 1 else 0 := by
  unfold cntI
  rw [h, fun_upd (fun y => if y.is then 1 else 0)]
  have := sumN_upd (fun k => if (s.n k).is then 1 else 0) i (if x.is then 1 else 0) 16
  rw [if_pos hi, if_pos hi] at this
  exact this
theorem cntI_le (s : In) : cntI s ≤ 16 := by
  have := sumN_le (f := fun i => if (s.n i).is then 1 else 0) (c := 1) (n := 16) (fun i _ => by show (if (s.n i).is = true then 1 else 0) ≤ 1; split <;> omega)
  unfold cntI; omega
/-- What holds of nodes; pend: entries that are taken away, and still counted. -/
structure GoodP (s : In) (pend : List Ent) (B : Int) : Prop where
  b1 : 1 ≤ B
  root : (s.n 0).is = true ∧ (s.n 0).dir = true
  no : ∀ i, (s.n i).is = false → s.n i = Nd.zero
  big : ∀ i, 16 ≤ i → s.n i = Nd.zero
  file : ∀ i, (s.n i).dir = false → (s.n i).l = []
  ent : ∀ i, ∀ e ∈ (s.n i).l, e.id < 16 ∧ e.id ≠ 0 ∧ nameE e.nm = 0
  srt : ∀ i, (s.n i).l.Pairwise fun a b => ltT a.nm b.nm = true
  few : ∀ i, (s.n i).l.length ≤ 8
  pnd : ∀ e ∈ pend, e.id < 16 ∧ e.id ≠ 0
  lnk : ∀ j, (s.n j).links = ((cntE s j + cntL pend j : Nat) : Int)
  opn : ∀ i, 0 ≤ (s.n i).opens ∧ (s.n i).opens ≤ B
  lb : ∀ i, (s.n i).links ≤ 1000
  fil : ∀ i : Nat, (getFi s.so.l i).isSome = true ↔ (s.n i).is = true ∧ (s.n i).dir = false
  so : GoodSo s.so
/-- No node without links and opens, but the root, and x. -/
def NoOrph (s : In) (x : Nat) : Prop := ∀ i, i ≠ 0 → i ≠ x → (s.n i).is = true → 0 < (s.n i).links ∨ 0 < (s.n i).opens
theorem GoodP.clr {s : In} {pend : List Ent} {B : Int} (h : GoodP s pend B) {i : Nat} (hi : i < 16) (h0 : i ≠ 0) (hl : ¬ 0 < (s.n i).links) : GoodP (clrI s i) ((s.n i).l ++ pend) B := by
  have hc := fun j => cntE_upd (s := s) (s' := clrI s i) (i := i) (x := Nd.zero) rfl hi j
  have hz : ∀ j, cntL Nd.zero.l j = 0 := fun _ => rfl
  have li := h.lnk i
  have ci : cntE s i = 0 := by omega
  have pi : cntL pend i = 0 := by omega
  have other : ∀ {k}, k ≠ i → (clrI s i).n k = s.n k := fun hk => upd_other _ _ hk
  have same : (clrI s i).n i = Nd.zero := upd_same _ _ _
  have by2 : ∀ {P : Nd → Prop}, P Nd.zero → (∀ k, P (s.n k)) → ∀ k, P ((clrI s i).n k) := fun hz hk k => by
    by_cases e : k = i
    · rw [e, same]; exact hz
    · rw [other e]; exact hk k
  refine ⟨h.b1, by rw [other (fun e => h0 e.symm)]; exact h.root, by2 (P := fun y => y.is = false → y = Nd.zero) (fun _ => rfl) h.no, fun k hk => ?_, by2 (P := fun y => y.dir = false → y.l = []) (fun _ => rfl) h.file, by2 (P := fun y => ∀ e ∈ y.l, e.id < 16 ∧ e.id ≠ 0 ∧ nameE e.nm = 0) (fun e he => by cases he) h.ent, by2 (P := fun y => y.l.Pairwise fun a b => ltT a.nm b.nm = true) List.Pairwise.nil h.srt, by2 (P := fun y => y.l.length ≤ 8) (Nat.zero_le _) h.few, fun e he => ?_, fun j => ?_, by2 (P := fun y => 0 ≤ y.opens ∧ y.opens ≤ B) ⟨Int.le_refl _, show (0 : Int) ≤ B by have := h.b1; omega⟩ h.opn, by2 (P := fun y => y.links ≤ 1000) (show (0 : Int) ≤ 1000 by omega) h.lb, fun k => ?_, ?_⟩
  · rw [other (by omega)]; exact h.big k hk
  · rcases List.mem_append.1 he with he | he
    · exact ⟨(h.ent i e he).1, (h.ent i e he).2.1⟩
    · exact h.pnd e he
  · rw [cntL_app]
    have hj := hc j
    rw [hz] at hj
    by_cases e : j = i
    · subst e; rw [same]; show (0 : Int) = _; omega
    · rw [other e, h.lnk j]; omega
  · show (getFi (if (s.n i).dir then s.so else drS s.so i).l k).isSome = true ↔ _
    by_cases hd : (s.n i).dir = true
    · rw [if_pos hd]
      by_cases e : k = i
      · subst e
        rw [same, h.fil k, hd]; simp [Nd.zero]
      · rw [other e]; exact h.fil k
    · rw [if_neg hd]
      show (getFi (delFi s.so.l i) k).isSome = true ↔ _
      rw [getFi_del h.so.nodup]
      by_cases e : k = i
      · subst e
        rw [same]; simp [Nd.zero]
      · rw [other e, if_neg (by omega)]; exact h.fil k
  · show GoodSo (if (s.n i).dir then s.so else drS s.so i)
    split
    · exact h.so
    · exact h.so.dr _
theorem GoodP.dec {s : In} {pend : List Ent} {e : Ent} {B : Int} (h : GoodP s (e :: pend) B) : GoodP (decL s e.id) pend B := by
  have he := h.pnd e (List.mem_cons_self ..)
  have other : ∀ {k}, k ≠ e.id → (decL s e.id).n k = s.n k := fun hk => upd_other _ _ hk
  have same : (decL s e.id).n e.id = { s.n e.id with links := (s.n e.id).links - 1 } := upd_same _ _ _
  have hc := fun j => cntE_upd (s := s) (s' := decL s e.id) (i := e.id) (x := { s.n e.id with links := (s.n e.id).links - 1 }) rfl he.1 j
  have by2 : ∀ {P : Nd → Prop}, (∀ y : Nd, ∀ z, P y → P { y with links := z }) → (∀ k, P (s.n k)) → ∀ k, P ((decL s e.id).n k) := fun hz hk k => by
    by_cases e2 : k = e.id
    · rw [e2, same]; exact hz _ _ (hk _)
    · rw [other e2]; exact hk k
  have isE : (s.n e.id).is = true := by
    cases e2 : (s.n e.id).is with
    | true => rfl
    | false =>
      have h1 := h.lnk e.id
      rw [h.no _ e2, cntL_cons, if_pos rfl] at h1
      have : (Nd.zero).links = 0 := rfl
      omega
  refine ⟨h.b1, by rw [other (fun e2 => he.2 e2.symm)]; exact h.root, fun k hk => ?_, fun k hk => ?_, by2 (P := fun y => y.dir = false → y.l = []) (fun _ _ h => h) h.file, by2 (P := fun y => ∀ e ∈ y.l, e.id < 16 ∧ e.id ≠ 0 ∧ nameE e.nm = 0) (fun _ _ h => h) h.ent, by2 (P := fun y => y.l.Pairwise fun a b => ltT a.nm b.nm = true) (fun y z h => (show y.l.Pairwise fun a b => ltT a.nm b.nm = true from h)) h.srt, by2 (P := fun y => y.l.length ≤ 8) (fun _ _ h => h) h.few, fun x hx => h.pnd x (List.mem_cons_of_mem _ hx), fun j => ?_, by2 (P := fun y => 0 ≤ y.opens ∧ y.opens ≤ B) (fun _ _ h => h) h.opn, fun k => ?_, fun k => ?_, h.so⟩
  · by_cases e2 : k = e.id
    · rw [e2, same] at hk
      have hk : (s.n e.id).is = false := hk
      rw [isE] at hk; cases hk
    · rw [other e2] at hk ⊢; exact h.no k hk
  · rw [other (by omega)]; exact h.big k hk
  · have hj := hc j
    have hl := h.lnk j
    rw [cntL_cons] at hl
    have hj' : cntE (decL s e.id) j = cntE s j := by
      have : cntL ({ s.n e.id with links := (s.n e.id).links - 1 } : Nd).l j = cntL (s.n e.id).l j := rfl
      omega
    rw [hj']
    by_cases e2 : j = e.id
    · subst e2
      rw [same]
      show (s.n e.id).links - 1 = _
      rw [if_pos rfl] at hl
      omega
    · rw [other e2]
      rw [if_neg (fun h => e2 h.symm)] at hl
      omega
  · by_cases e2 : k = e.id
    · rw [e2, same]; have := h.lb e.id; show (s.n e.id).links - 1 ≤ 1000; omega
    · rw [other e2]; exact h.lb k
  · rw [show (decL s e.id).so = s.so from rfl, h.fil k]
    by_cases e2 : k = e.id
    · rw [e2, same]
    · rw [other e2]
theorem cntI_clr {s : In} {pend : List Ent} {B : Int} (h : GoodP s pend B) {i : Nat} (hi : i < 16) : cntI (clrI s i) ≤ cntI s ∧ ((s.n i).l ≠ [] → cntI (clrI s i) < cntI s) := by
  have := cntI_upd (s := s) (s' := clrI s i) (i := i) (x := Nd.zero) rfl hi
  rw [show (Nd.zero).is = false from rfl] at this
  refine ⟨by split at this <;> simp at this <;> omega, fun hl => ?_⟩
  have : (s.n i).is = true := by
    cases e : (s.n i).is with
    | true => rfl
    | false => exact absurd (by rw [h.no i e]; rfl) hl
  simp_all
  omega
theorem cntI_dec (s : In) {i : Nat} (hi : i < 16) : cntI (decL s i) = cntI s := by
  have := cntI_upd (s := s) (s' := decL s i) (i := i) (x := { s.n i with links := (s.n i).links - 1 }) rfl hi
  have e : ({ s.n i with links := (s.n i).links - 1 } : Nd).is = (s.n i).is := rfl
  rw [e] at this
  omega
theorem GoodP.gone : ∀ {f : Nat} {s : In} {pend : List Ent} {B : Int} {i : Nat}, GoodP s pend B → i < 16 → cntI s < f → GoodP (goneI f s i) pend B ∧ cntI (goneI f s i) ≤ cntI s ∧ (NoOrph s i → ∀ x, NoOrph (goneI f s i) x)
  | 0, s, pend, B, i, h, hi, hc => by omega
  | f + 1, s, pend, B, i, h, hi, hc => by
    unfold goneI
    by_cases hg : i = 0 ∨ 0 < (s.n i).links ∨ 0 < (s.n i).opens
    · rw [if_pos hg]
      refine ⟨h, Nat.le_refl _, fun ho x k hk _ his => ?_⟩
      by_cases e : k = i
      · subst e; exact hg.resolve_left hk
      · exact ho k hk e his
    · rw [if_neg hg]
      have h0 : i ≠ 0 := fun e => hg (.inl e)
      have hl : ¬ 0 < (s.n i).links := fun e => hg (.inr (.inl e))
      have fold : ∀ (l : List Ent) (t : In), GoodP t (l ++ pend) B → (l ≠ [] → cntI t < f) → GoodP (l.foldl (fun s e => goneI f (decL s e.id) e.id) t) pend B ∧ cntI (l.foldl (fun s e => goneI f (decL s e.id) e.id) t) ≤ cntI t ∧ ((∀ x, NoOrph t x) → ∀ x, NoOrph (l.foldl (fun s e => goneI f (decL s e.id) e.id) t) x) := by
        intro l
        induction l with
        | nil => intro t ht _; exact ⟨ht, Nat.le_refl _, fun h => h⟩
        | cons e l ih =>
          intro t ht hf
          have he := (ht.pnd e (List.mem_cons_self ..)).1
          have hd : GoodP (decL t e.id) (l ++ pend) B := GoodP.dec (e := e) ht
          have cd := cntI_dec t he
          have g := GoodP.gone (f := f) hd he (by rw [cd]; exact hf (List.cons_ne_nil _ _))
          have := ih (goneI f (decL t e.id) e.id) g.1 (fun _ => by have := hf (List.cons_ne_nil _ _); omega)
          refine ⟨this.1, by have := this.2.1; rw [List.foldl_cons]; omega, fun ho => ?_⟩
          rw [List.foldl_cons]
          refine this.2.2 (g.2.2 fun k hk hke his => ?_)
          have e3 : (decL t e.id).n k = t.n k := upd_other _ _ hke
          rw [e3] at his ⊢
          exact ho e.id k hk hke his
      have cc := cntI_clr h hi
      have := fold (s.n i).l (clrI s i) (h.clr hi h0 hl) (fun hne => by have := cc.2 hne; omega)
      refine ⟨this.1, Nat.le_trans this.2.1 cc.1, fun ho => this.2.2 fun x k hk _ his => ?_⟩
      by_cases e : k = i
      · have e3 : (clrI s i).n k = Nd.zero := by rw [e]; exact upd_same _ _ _
        rw [e3] at his; cases his
      · have e3 : (clrI s i).n k = s.n k := upd_other _ _ e
        rw [e3] at his ⊢
        exact ho k hk e his
end Go.Proofs.YtndfnglcichngaaGreatDoor
