/-
  The contract of OverBytes (coxswainlaw0), by the one block that it turns; the program's frames beside the document's own.
-/
import Derived.Test.YtipepklobpnbpaaRfOpsD
import Derived.Deep.DeepCutAuto
import Derived.Deep.CutBlock
namespace Go.Proofs.Ytipepklobpnbpaa
open Go.ChangeShapes Go.WideShapes Go.ChangeAt Go.RowKit
set_option linter.unusedVariables false
set_option maxHeartbeats 800000 in
theorem over_touch (v : Value) (n : Nat) (xs : List Value) (w : World) {B : Nat} (hv : w.ownsRow B 5 1 v n xs) (hn : n ≤ 1000000) :
    Calls Try.prog 23 #[v] w fun e w' => e = .returned (.tuple #[]) ∧ Touch (fun i => v.ownBlock = some i) w w' := by
  obtain ⟨i0, hi0, hz0, hz1, hz2⟩ := info_parts u8_info
  obtain ⟨a, c, rfl, _⟩ := own_sliceR hv
  go_enter Try.func23, Try.ntmps23
  go_wp2_with fail
  go_loopw [2] (fun i wr => ∃ (k : Nat) (ys : List Value), k ≤ n ∧ i = .int .i64 k ∧ wr.ownsRow B 5 1 (.slice a n c) n ys ∧ Hid (Touch (fun i => (Value.slice a n c).ownBlock = some i) w wr)) (fun i _ => n - (intOf i).toNat)
  case atStart => exact ⟨0, xs, Nat.zero_le _, rfl, hv, Touch.refl _ _⟩
  case round =>
    obtain ⟨k, ys, hk, rfl, ho, hb⟩ := hrel
    by_cases hlt : k < n
    · obtain ⟨g, cap, e⟩ : ∃ g cap, (Value.slice a n c) = .slice (some ⟨g, 0, none⟩) n cap := by
        rcases ho.2 with ⟨_, h⟩ | ⟨g, cap, cur, e, _⟩
        · omega
        · exact ⟨_, _, e⟩
      injection e with e1 _ e2
      subst e1 e2
      have hl : ys.length = n := by have := ho.1; omega
      have hc := ho.cellAt k (by omega)
      rw [List.getElem?_eq_getElem (by omega)] at hc
      have hf := ho.frozenAt k
      have S := (ho.stored k (.int .u8 238)).1
      have B1 := hide (hb.out.setCell (p := ⟨g, k, none⟩) rfl (.int .u8 238))
      clear ho hb hv
      go_wp2_with fail
      go_roundw
      case rel => exact ⟨k + 1, _, by omega, by go_num, S, B1⟩
      case measure => simp [intOf]; omega
    · have HO := hide ho
      clear hv ho
      go_wp2_with (at_builtin; refine wpList_append_src rfl (.tmp 12) (.tmp 13) _ rfl 0 5 i0 _ 1 Try.underlying39 hi0 hz0 hz1 hz2 rfl _ _ _ rfl (own_base (HO.out.alloc _) (Nat.zero_le _)) .u8 _ 1 _ [238] rfl (ints_cell1 _ _ _ _ _ rfl) (fun h => by cases h) (by unfold maxLen; omega) (by omega) (Nat.zero_le _) ?_; intro v' w' o' g' t'; have hr' := hide ((hb.out.alloc _).trans (Touch.of_grown (S := fun i => (Value.slice a n c).ownBlock = some i) g' (fun g e => e)) (fun i e => .inl e)); clear g' t')
      go_end0
      exact ⟨rfl, hr'.out⟩
/-- The program's frames and the document's own, beside one another. -/
structure Tw (w wr : World) (H A Q R t b : Nat) (s s' : St) (fresh : Nat) (back : List Nat) : Prop where
  fr : Fr wr H A Q s
  rf : Rf wr (Blk H A Q) R t b s' fresh back
  bel : Below w.heap.size w wr
  blk : ∀ i, Blk H A Q i → w.heap.size ≤ i
  rs : ∀ i, RS R t b i → w.heap.size ≤ i
theorem Tw.left {w wr w' : World} {H A Q R t b : Nat} {s s' s2 : St} {fresh : Nat} {back : List Nat} (h : Tw w wr H A Q R t b s s' fresh back) (f : Fr w' H A Q s2) (u : Touch (Blk H A Q) wr w') : Tw w w' H A Q R t b s2 s' fresh back :=
  ⟨f, h.rf.touch u (fun _ e => e), h.bel.trans (u.below h.bel.size h.blk), h.blk, h.rs⟩
theorem Tw.right {w wr w' : World} {H A Q R t b : Nat} {s s' s2 : St} {fresh fresh2 : Nat} {back back2 : List Nat} (h : Tw w wr H A Q R t b s s' fresh back) (f : Rf w' (Blk H A Q) R t b s2 fresh2 back2) (u : Touch (RS R t b) wr w') : Tw w w' H A Q R t b s s2 fresh2 back2 :=
  ⟨h.fr.touch u (fun i hi e => h.rf.nP i e hi), f, h.bel.trans (u.below h.bel.size h.rs), h.blk, h.rs⟩
theorem Tw.below {w wr w' : World} {H A Q R t b : Nat} {s s' : St} {fresh : Nat} {back : List Nat} (h : Tw w wr H A Q R t b s s' fresh back) (u : Below wr.heap.size wr w') : Tw w w' H A Q R t b s s' fresh back :=
  ⟨h.fr.below u, h.rf.below u, h.bel.trans (u.mono h.bel.size), h.blk, h.rs⟩
theorem Tw.drewN {w wr : World} {H A Q R t b : Nat} {s s' : St} {fresh : Nat} {back : List Nat} (h : Tw w wr H A Q R t b s s' fresh back) (m : Nat) : Tw w (wr.drewN m) H A Q R t b s s' fresh back := h.below (below_drewN (Below.refl _ _) m)
/-- What turns one block that is neither's. -/
theorem Tw.other {w wr w' : World} {H A Q R t b g : Nat} {s s' : St} {fresh : Nat} {back : List Nat} (h : Tw w wr H A Q R t b s s' fresh back) (u : Touch (fun i => i = g) wr w') (hB : ¬ Blk H A Q g) (hR : ¬ RS R t b g) (hw : w.heap.size ≤ g)
    (hd : Rf w' (Blk H A Q) R t b s' fresh back) : Tw w w' H A Q R t b s s' fresh back :=
  ⟨h.fr.touch u (fun i hi e => hB (e ▸ hi)), hd, h.bel.trans (u.below h.bel.size (fun i e => by rw [e]; exact hw)), h.blk, h.rs⟩
theorem num_any (w : World) (x : Int) : Calls Try.prog 15 #[.int .i64 x] w fun e w' => e = .returned (.int .i64 x) ∧ w = w' := by
  go_enter Try.func15, Try.ntmps15
  go_wp2_with fail
  go_ret
  exact ⟨rfl, rfl⟩
end Go.Proofs.Ytipepklobpnbpaa
