/-
  The program's table of nodes: List.
-/
import Derived.Test.YtndfnglcichngaaGreatDoorPa18
import Derived.Test.YtndfnglcichngaaGreatDoorPtShelf
namespace Go.Proofs.YtndfnglcichngaaGreatDoor
open Go.ChangeShapes Go.WideShapes Go.ChangeAt Go.RowKit Go.Shelf
set_option linter.unusedVariables false
set_option linter.unusedSimpArgs false
set_option maxHeartbeats 2000000 in
theorem tclone_any (w : World) (s : Txt) (hs : s.length ≤ 1000000) : Calls Tryz.prog 95 #[.string (bt s)] w fun e w' => e = .returned (.string (bt s)) ∧ Below w.heap.size w w' := by
  have G := hide (Any.stringslite_Clone Tryz.clone (bt s) w (by rw [bt_size]; omega))
  clear hs
  go_enter Tryz.func95, Tryz.ntmps95
  go_wp2_with (go_at_call 121; refine G.out.mono ?_; rintro e w1 ⟨rfl, b1⟩; have N := hide b1; clear b1)
  go_ret
  exact ⟨rfl, N.out⟩
set_option maxRecDepth 20000 in
theorem run_ents_nil (w : World) : (binOp .eql 36 (.slice none 0 0) (.slice none 0 0)).run Tryz.prog w = .ok (.bool true) w := by rfl
set_option maxRecDepth 20000 in
theorem run_ents_some (w : World) (ad : Addr) (n c : Nat) : (binOp .eql 36 (.slice (some ad) n c) (.slice none 0 0)).run Tryz.prog w = .ok (.bool false) w := by rfl
attribute [local go_sem] run_ents_nil run_ents_some
set_option maxHeartbeats 4000000 in
theorem eclone_any {w : World} {a : Option Addr} {n c : Nat} {l : List Ent} (ha : Reads 2 enV w a n l) (hnil : a = none → c = 0) (hn : n ≤ 8) :
    Calls Tryz.prog 94 #[.slice a n c] w fun e w' => ∃ v, e = .returned v ∧ w'.ownsRow w.heap.size 105 2 v n (l.flatMap enV) ∧ Below w.heap.size w w' := by
  obtain ⟨i0, hi0, hz0, hz1, hz2⟩ := info_parts entry_info
  cases a with
  | none =>
    obtain rfl := ha.isNil rfl
    obtain rfl : l = [] := List.eq_nil_of_length_eq_zero ha.1
    obtain rfl := hnil rfl
    go_enter Tryz.func94, Tryz.ntmps94
    go_wp2_with fail
    go_ret
    exact ⟨_, rfl, World.ownsRow_nil _ _ _ _, Below.refl _ _⟩
  | some ad =>
    have HR := hide (ha.below ((Below.refl w.heap.size w).alloc (Nat.le_refl _) (.cells #[] 105)))
    have HO := hide (show (w.alloc (.cells #[] 105)).ownsRow w.heap.size 105 2 (.slice (some ⟨w.heap.size, 0, none⟩) 0 0) 0 [] from ⟨rfl, .inr ⟨w.heap.size, 0, #[], rfl, Nat.le_refl _, heap_alloc_new _ _, by simp, by simp, by simp⟩⟩)
    have HB := hide ((Below.refl w.heap.size w).alloc (Nat.le_refl _) (.cells #[] 105))
    clear ha hnil
    go_enter Tryz.func94, Tryz.ntmps94
    go_wp2_with (first
      | (at_builtin; refine wpList_append_reads rfl (.tmp 5) (.tmp 6) _ rfl w.heap.size 105 i0 _ 24 Tryz.underlying36 hi0 hz0 hz1 hz2 rfl (by omega) _ 0 [] rfl HO.out (some ad) n c l rfl enV_len enV_cell HR.out (fun e => by cases e) (by unfold maxLen; omega) (by omega) HB.out.size ?_; intro v1 w1 o1 g1; have O1 := hide o1; have B1 := hide (HB.out.grown g1 HB.out.size (fun k hk => (HO.out.lt k hk).1)); clear o1 g1))
    go_ret
    exact ⟨_, rfl, by rw [Nat.zero_add, List.nil_append] at O1; exact O1.out, B1.out⟩
/-- A cell of an owned row is written over by what it held. -/
theorem own_setSame {w : World} {B g n c z p : Nat} {e : TypeId} {xs : List Value} (h : w.ownsRow B e z (.slice (some ⟨g, 0, none⟩) n c) n xs) {u : Value} (hp : xs[p]? = some u) : (w.setCell ⟨g, p, none⟩ u).ownsRow B e z (.slice (some ⟨g, 0, none⟩) n c) n xs := by
  obtain ⟨h1, h2⟩ := h
  rcases h2 with ⟨e1, _⟩ | ⟨g', cap, cur, e1, e2, e3, e4, e5, e6, e7⟩
  · cases e1
  · injection e1 with e1 _ e8
    injection e1 with e1
    injection e1 with e1
    subst e1 e8
    refine ⟨h1, .inr ⟨g, c, _, rfl, e2, heap_setCell_same _ _ _ _ _ _ e3, e4, e5, by simp [e6], ?_⟩⟩
    rw [Array.toList_setIfInBounds, List.take_set, e7]
    refine List.ext_getElem? fun j => ?_
    rw [List.getElem?_set]
    by_cases hj : p = j
    · subst hj
      rw [if_pos rfl, if_pos (List.getElem?_eq_some_iff.1 hp).1, hp]
    · simp [hj]
section
variable {w : World} {U : Nat → Prop} {H T S : Nat} {s : In} {E : Nat → Prop} {N : Nat → Option Nat} {V : Nat → Value} {tag : Nat → Int}
set_option maxHeartbeats 4000000 in
theorem plist_any (h : IpM w U H T S s E N V tag) {B : Int} (g : GoodP s [] B) (id : Int) : Calls Tryz.prog 53 #[.pointer (some ⟨T, 0, none⟩), .int .i64 id] w fun e w' => ∃ v, e = .returned (.tuple #[v, .int .i64 (lsIE s id : Nat)]) ∧ w'.ownsRow w.heap.size 105 2 v (lsI s id).length ((lsI s id).flatMap enV) ∧ Below w.heap.size w w' := by
  cases hD : dirI s id with
  | false =>
    have F := hide (folder21_no h hD)
    rw [show lsIE s id = 11 from by unfold lsIE; rw [hD]; rfl, show lsI s id = [] from by unfold lsI; rw [hD]; rfl]
    clear h g hD
    go_enter Tryz.func53, Tryz.ntmps53
    go_wp2_with (go_at_call 93; refine F.out.mono ?_; rintro e w' ⟨rfl, rfl⟩)
    go_ret2
    exact ⟨_, rfl, World.ownsRow_nil _ _ _ _, Below.refl _ _⟩
  | true =>
    obtain ⟨i, rfl, hi, his, hdir⟩ := dirI_yes hD
    obtain ⟨b, hb⟩ := h.there his
    have F := hide (folder21_yes h hi hb hdir)
    rw [show lsIE s (i : Int) = 0 from by unfold lsIE; rw [hD]; rfl, show lsI s (i : Int) = (s.n i).l from by unfold lsI; rw [hD, Int.toNat_natCast]; rfl]
    obtain ⟨a, c, hv, hr, -, -, hnil⟩ := h.list i
    have c3 := h.cList hb
    rw [hv] at c3
    have EC := hide (eclone_any hr hnil (g.few i))
    have N8 := hide (g.few i)
    have NM := hide (fun x hx => (g.ent i x hx).2.2)
    obtain ⟨l, hl⟩ : ∃ l, l = (s.n i).l := ⟨_, rfl⟩
    rw [← hl] at EC c3 N8 NM ⊢
    obtain ⟨n, hn⟩ : ∃ n, n = l.length := ⟨_, rfl⟩
    have HN := hide hn
    rw [← hn] at EC c3 N8 ⊢
    have n8 : (n : Int) ≤ 8 := by have := N8.out; omega
    clear h g hD his hdir hb hv hr hnil hl hn
    go_enter Tryz.func53, Tryz.ntmps53
    go_upto_region 5 with (first | (go_at_call 93; refine F.out.mono ?_; rintro e w' ⟨rfl, rfl⟩) | (go_at_call 94; refine EC.out.mono ?_; rintro e w1 ⟨v, rfl, o1, b1⟩; have O1 := hide o1; have B1 := hide b1; clear o1 b1))
    obtain ⟨av, cv, rfl, -⟩ := own_sliceR O1.out
    clear c3 F EC
    go_wp2_with fail
    go_loopw [26] (fun kv wr => ∃ k : Nat, k ≤ n ∧ kv = .int .i64 (k : Int) ∧ Hid (wr.ownsRow w.heap.size 105 2 (.slice av n cv) n (l.flatMap enV) ∧ Below w.heap.size w wr)) (fun kv _ => n - (intOf kv).toNat)
    case atStart => exact ⟨0, Nat.zero_le _, rfl, O1.out, B1.out⟩
    case round =>
      clear O1 B1
      obtain ⟨k, hk, rfl, hO⟩ := hrel
      rename World => wr
      by_cases hlt : k < n
      · have k0 : (0 : Int) ≤ (k : Int) := by omega
        have k1 : (k : Int) < (n : Int) := by omega
        obtain ⟨av2, c2, e2, hnil, hnc, -, hof⟩ := own_sliceR hO.out.1
        injection e2 with e2 _ e3
        subst e2 e3
        obtain ⟨g, rfl⟩ : ∃ g, av = some ⟨g, 0, none⟩ := by
          cases av with
          | none => have := hnil rfl; omega
          | some ad =>
            obtain ⟨h1, h2⟩ := hof ad rfl
            obtain ⟨g, o, sp⟩ := ad
            simp only at h1 h2
            subst h1 h2
            exact ⟨g, rfl⟩
        have hk2 : k < l.length := by have := HN.out; omega
        have hx : l[k]? = some l[k] := List.getElem?_eq_getElem hk2
        have f0 : (l.flatMap enV)[k * 2]? = some (.string (bt l[k].nm)) := (flat_at enV_len (j := 0) hx (by omega)).trans rfl
        have y0 : wr.cell? ⟨g, k * 2, none⟩ = some (.string (bt l[k].nm)) := by
          rw [hO.out.1.cellAt (k * 2) (by omega), f0]
        have NL := hide (nameE_ok (NM.out l[k] (List.getElem_mem hk2))).2.1
        have GB := hide (show w.heap.size ≤ g from own_lo hO.out.1 g rfl)
        have F0 := hide f0
        obtain ⟨nm, hnm⟩ : ∃ y, y = l[k].nm := ⟨_, rfl⟩
        rw [← hnm] at y0 NL F0
        have CL := hide (tclone_any wr nm (by have := NL.out; omega))
        have AFT := hide (fun (W : World) (bl : Below wr.heap.size wr W) => show W.frozen? ⟨g, k * 2, none⟩ = false ∧ W.cell? ⟨g, k * 2, none⟩ = some (.string (bt nm)) ∧ ((W.setCell ⟨g, k * 2, none⟩ (.string (bt nm))).ownsRow w.heap.size 105 2 (.slice (some ⟨g, 0, none⟩) n cv) n (l.flatMap enV) ∧ Below w.heap.size w (W.setCell ⟨g, k * 2, none⟩ (.string (bt nm)))) from by
          have o2 := (Touch.of_below (S := fun _ => False) bl).own hO.out.1 (fun _ _ e => e)
          refine ⟨?_, (bl.cell (lt_of_cell? y0)).trans y0, own_setSame o2 F0.out, ?_⟩
          · obtain ⟨_, hh⟩ := id o2
            rcases hh with ⟨h1, _⟩ | ⟨g', cap, cur, e1, e2, e3, _⟩
            · cases h1
            · injection e1 with e1 _ _
              injection e1 with e1
              injection e1 with e1
              rw [e1]; exact frozen_of_row _ _ _ _ _ e3
          · have bb := hO.out.2.trans (bl.mono hO.out.2.size)
            exact ((Touch.of_below (S := fun q => q = g) (bb.mono (by omega))).setCell (p := ⟨g, k * 2, none⟩) rfl _).below (Nat.le_refl _) (fun q e => by rw [e]; exact GB.out))
        clear hnil hnc hof hk2 hx f0 hnm hO F0
        go_wp2_with (go_at_call 95; refine CL.out.mono ?_; rintro e w5 ⟨rfl, b5⟩; obtain ⟨q1, q2, q3⟩ := AFT.out _ b5; have R5 := hide q3; clear q3)
        go_roundw
        case rel => exact ⟨k + 1, by omega, by go_num, R5.out⟩
        case measure => simp [intOf]; omega
      · obtain rfl : k = n := by omega
        go_wp2_with fail
        go_ret2
        exact ⟨_, rfl, hO.out.1, hO.out.2⟩
end
end Go.Proofs.YtndfnglcichngaaGreatDoor
