/-
  The program's wheel's put.
-/
import Derived.Test.YtpmggiahhjllcaaPwSort
import Derived.Deep.AppendLies
import Derived.Deep.RegionLaw
namespace Go.Proofs.Ytpmggiahhjllcaa
open Go.ChangeShapes Go.WideShapes Go.ChangeAt Go.RowKit
set_option linter.unusedVariables false
theorem own_slice {w : World} {base : Nat} {e : TypeId} {z n : Nat} {v : Value} {xs : List Value} (h : w.ownsRow base e z v n xs) : ∃ A c, v = .slice A n c ∧ n ≤ c ∧ c ≤ maxLen ∧ (A = none → n = 0 ∧ c = 0) := by
  rcases h.2 with ⟨rfl, rfl⟩ | ⟨g, cap, cur, rfl, _, _, h1, h2, _⟩
  · exact ⟨none, 0, rfl, Nat.le_refl _, by unfold maxLen; omega, fun _ => ⟨rfl, rfl⟩⟩
  · exact ⟨_, _, rfl, h1, h2, fun e => by cases e⟩
theorem put_end {w w3 : World} {U : Nat → Prop} {S n m : Nat} {f : Int → Option Nat} {L : Nat → List Tm} {mv : Value} {T : Nat → Value} (h : Rw w U S n m f L mv T) {k gg cap len : Nat} (hk : k < 256) (o : Obj) (x : Tm) (hlen : len = (L k).length)
    (hown : w3.ownsRow 0 3 1 (.slice (some ⟨gg, 0, none⟩) (len + 1) cap) (len + 1) (idsV (L k) ++ [.int .i64 (x.id : Int)])) (hgrow : (w.alloc o).drew.grownBy w3 (T k).ownBlock) (hat : (T k).ownBlock = some gg ∨ gg = w.heap.size + 1) (hlt : gg < w3.heap.size) :
    ∃ U' T', Rw (w3.setCell ⟨S, 2 + k, none⟩ (.slice (some ⟨gg, 0, none⟩) (len + 1) cap)) U' S n m f (updV L k (L k ++ [x])) mv T' ∧ Touch U w (w3.setCell ⟨S, 2 + k, none⟩ (.slice (some ⟨gg, 0, none⟩) (len + 1) cap)) ∧ ∀ i, U' i → U i ∨ w.heap.size ≤ i := by
  have hsz : (w.alloc o).drew.heap.size = w.heap.size + 1 := by show (w.alloc o).heap.size = _; simp
  have hs3 : w.heap.size + 1 ≤ w3.heap.size := by have := hgrow.size; omega
  have e3 : ∀ i, i < w.heap.size → (T k).ownBlock ≠ some i → w3.heap[i]? = w.heap[i]? := fun i hi hne =>
    (hgrow.block i (by omega) (Ne.symm hne)).trans (RowKit.Below.heap_alloc w o i hi)
  have hSlt := h.lt S h.uS
  have nT : (T k).ownBlock ≠ some S := fun e => h.neTS hk e rfl
  have hrow3 := h.row.keep (e3 S hSlt nT)
  have ngS : gg ≠ S := by
    rcases hat with e | e
    · rintro rfl; exact nT e
    · omega
  have t3 : Touch U w w3 := ⟨hgrow.os, hgrow.tape, hgrow.output, by omega, fun i hi hn => e3 i hi (fun e => hn (h.uT k i hk e))⟩
  have t4 := t3.setCell (p := ⟨S, 2 + k, none⟩) h.uS (.slice (some ⟨gg, 0, none⟩) (len + 1) cap)
  refine ⟨fun i => U i ∨ (w.heap.size ≤ i ∧ i < w3.heap.size), updV T k (.slice (some ⟨gg, 0, none⟩) (len + 1) cap), ⟨hrow3.setSlot hk _, ?_, ?_, ?_, .inl h.uS, fun M e => .inl (h.uM M e), ?_, ?_⟩, t4, fun i hi => hi.elim .inl (fun e => .inr e.1)⟩
  · refine h.map.keep fun M e => ?_
    have hM := h.lt M (h.uM M e)
    rw [heap_setCell_other _ _ _ _ (h.neSM e)]
    exact e3 M hM (fun e2 => h.neTM hk e2 e rfl)
  · intro j hj
    by_cases e : j = k
    · subst e
      rw [updV_same, updV_same, List.length_append, ← hlen]
      have : idsV (L j ++ [x]) = idsV (L j) ++ [.int .i64 (x.id : Int)] := by simp [idsV]
      rw [this]
      exact (Touch.setCell (S := fun i => i = S) (Touch.refl _ w3) (p := ⟨S, 2 + j, none⟩) rfl _).own hown (fun g hg e2 => by
        have : gg = g := Option.some.inj hg
        omega)
    · rw [updV_other _ _ e, updV_other _ _ e]
      have t5 : Touch (fun i => i = S ∨ (T k).ownBlock = some i) w (w3.setCell ⟨S, 2 + k, none⟩ (.slice (some ⟨gg, 0, none⟩) (len + 1) cap)) :=
        (show Touch (fun i => i = S ∨ (T k).ownBlock = some i) w w3 from ⟨hgrow.os, hgrow.tape, hgrow.output, by omega, fun i hi hn => e3 i hi (fun e => hn (.inr e))⟩).setCell (p := ⟨S, 2 + k, none⟩) (.inl rfl) _
      exact t5.own (h.own j hj) (fun g hg e2 => e2.elim (h.neTS hj hg) (fun e2 => e (h.dis j k g hj hk hg e2)))
  · intro a b g ha hb h1 h2
    by_cases e1 : a = k
    · by_cases e2 : b = k
      · rw [e1, e2]
      · rw [e1, updV_same] at h1
        rw [updV_other _ _ e2] at h2
        have h1 : gg = g := Option.some.inj h1
        subst h1
        rcases hat with e | e
        · rw [e1]; exact h.dis k b gg hk hb e h2
        · have := h.lt gg (h.uT b gg hb h2); omega
    · rw [updV_other _ _ e1] at h1
      by_cases e2 : b = k
      · rw [e2, updV_same] at h2
        have h2 : gg = g := Option.some.inj h2
        subst h2
        rcases hat with e | e
        · rw [e2]; exact h.dis a k gg ha hk h1 e
        · have := h.lt gg (h.uT a gg ha h1); omega
      · rw [updV_other _ _ e2] at h2
        exact h.dis a b g ha hb h1 h2
  · intro j g hj hg
    by_cases e : j = k
    · rw [e, updV_same] at hg
      have hg : gg = g := Option.some.inj hg
      subst hg
      rcases hat with e2 | e2
      · exact .inl (h.uT k gg hk e2)
      · exact .inr ⟨by omega, hlt⟩
    · rw [updV_other _ _ e] at hg
      exact .inl (h.uT j g hj hg)
  · intro i hi
    have : i < w3.heap.size := by
      rcases hi with hi | hi
      · have := h.lt i hi; omega
      · exact hi.2
    simpa [World.setCell] using this
set_option maxRecDepth 10000 in
set_option maxHeartbeats 4000000 in
theorem pput_any {w : World} {U : Nat → Prop} {S n m : Nat} {f : Int → Option Nat} {L : Nat → List Tm} {mv : Value} {T : Nat → Value} (h : Rw w U S n m f L mv T) (hn : n < 16777217) {x : Tm} (hid : (Lit.int .i64 (x.id : Int)).wf = true) (hf : f (x.id : Int) = some x.due) (ha : x.due < 16777217) (hl : (L (pk n x.due)).length < 900000) :
    Calls Try.prog 27 #[.pointer (some ⟨S, 0, none⟩), .int .i64 (x.id : Int)] w fun e w' => e = .returned (.tuple #[]) ∧
      ∃ U' T', Rw w' U' S n m f (updV L (pk n x.due) (L (pk n x.due) ++ [x])) mv T' ∧ Touch U w w' ∧ ∀ i, U' i → U i ∨ w.heap.size ≤ i := by
  obtain ⟨i0, hi0, hz0, hz1, hz2⟩ := info_parts int_info
  have HP := hide (pplace_any h hn hid (fun a e => by rw [hf] at e; rw [← Option.some.inj e]; exact ha))
  rw [hf] at HP
  simp only [Option.map_some, Option.getD_some, Option.isSome_some] at HP
  have hk := pk_lt n x.due
  have r3 := ring_le n x.due
  have s3 := slot_le n x.due
  have r0 : (0 : Int) ≤ ((ring n x.due : Nat) : Int) := by omega
  have r1 : ((ring n x.due : Nat) : Int) < 4 := by omega
  have s0 : (0 : Int) ≤ ((slot n x.due : Nat) : Int) := by omega
  have s1 : ((slot n x.due : Nat) : Int) < 64 := by omega
  have c0 := h.row.slot hk
  have f0 := h.row.frozen (2 + pk n x.due)
  have ho := h.own _ hk
  have hSlt := h.lt S h.uS
  have hSw : S < (w.alloc (.cells #[.int .i64 (x.id : Int)] 3)).drew.heap.size := by show S < (w.alloc _).heap.size; simp; omega
  have KN := hide (show (T (pk n x.due)).ownBlock ≠ some S from fun e => h.neTS hk e rfl)
  have HH := hide h
  have HO := hide ho
  obtain ⟨A, c, hv, hnc, hcm, hA⟩ := own_slice ho
  have hl' := hl
  obtain ⟨len, hlen⟩ : ∃ len, len = (L (pk n x.due)).length := ⟨_, rfl⟩
  obtain ⟨K, hK⟩ : ∃ K, K = pk n x.due := ⟨_, rfl⟩
  have eK : ring n x.due * 64 + slot n x.due = K := by rw [hK]; rfl
  rw [← hlen] at hv hl' HO hnc
  rw [← hK] at hv HO KN c0 f0 hlen hk ⊢
  rw [hv] at c0 KN HO
  have c0d : (w.alloc (.cells #[.int .i64 (x.id : Int)] 3)).drew.cell? ⟨S, 2 + K, none⟩ = some (.slice A len c) := (World.cell?_alloc_lt w _ ⟨S, 2 + K, none⟩ hSlt).trans c0
  have f0d : (w.alloc (.cells #[.int .i64 (x.id : Int)] 3)).drew.frozen? ⟨S, 2 + K, none⟩ = false := (World.frozen?_of_block (RowKit.Below.heap_alloc w _ S hSlt)).trans f0
  have HK := hide hk
  have HL := hide hlen
  have HV := hide hv
  have EK := hide eK
  generalize ring n x.due = r at *
  generalize slot n x.due = sl at *
  rw [show 2 + K = 2 + r * 64 + sl by omega] at c0 f0 c0d f0d
  clear h hf hid ha hk ho hA hl hlen hv hK hcm hnc eK
  go_enter Try.func27, Try.ntmps27
  go_upto_region 1 with (go_at_call 24; refine HP.out.mono ?_; rintro e w' ⟨rfl, rfl⟩)
  -- HERE
  go_region_law ((refine step_append_lies _ (by rfl) _ _ _ (by rfl) 0 3 i0 _ 1 8 Try.underlying37 hi0 hz0 hz1 hz2 rfl (by omega) (.slice A len c) len (idsV (L K)) (by rfl) ((HO.out.alloc _).drew) ⟨w.heap.size, 0, none⟩ 1 1 [.int .i64 (x.id : Int)] (by rfl) (by rfl) (World.news_of_block (cs := #[.int .i64 (x.id : Int)]) (t := 3) (fr := (0, 0)) (heap_alloc_new w _)) (by simp [Value.oneCell']) (by omega) (by unfold maxLen; omega) (by omega) (by omega) (w.heap.size + 1) (by simp) ?_; intro gg cap w3 hown1 hgrow hat hlt; have hc0 := (hgrow.cell_far ⟨S, 2 + r * 64 + sl, none⟩ hSw (Ne.symm KN.out)).trans c0d; have hf0 := (hgrow.frozen_far ⟨S, 2 + r * 64 + sl, none⟩ hSw (Ne.symm KN.out)).trans f0d))
  all_goals go_end0
  all_goals (rw [show 2 + r * 64 + sl = 2 + K from by have := EK.out; omega]; exact ⟨rfl, put_end HH.out HK.out (.cells #[.int .i64 (x.id : Int)] 3) x HL.out hown1 (by rw [HV.out]; exact hgrow) (by rw [HV.out]; exact hat) hlt⟩)
end Go.Proofs.Ytpmggiahhjllcaa
