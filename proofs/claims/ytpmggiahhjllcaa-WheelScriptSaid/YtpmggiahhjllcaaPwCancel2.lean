/-
  The program's wheel's Cancel, of a timer that is armed.
-/
import Derived.Test.YtpmggiahhjllcaaPwCancel
namespace Go.Proofs.Ytpmggiahhjllcaa
open Go.ChangeShapes Go.WideShapes Go.ChangeAt Go.RowKit
set_option linter.unusedVariables false
set_option maxRecDepth 10000 in
set_option maxHeartbeats 4000000 in
theorem pcan_some {w : World} {U : Nat → Prop} {S n m : Nat} {f : Int → Option Nat} {L : Nat → List Tm} {mv : Value} {T : Nat → Value} (h : Rw w U S n m f L mv T) (hn : n < 16777217) {id : Int} (hid : (Lit.int .i64 id).wf = true) {a : Nat} (e : f id = some a) (ha : a < 16777217) (hpos : 0 < (L (pk n a)).length) (hlen : (L (pk n a)).length ≤ 1000000) :
    Calls Try.prog 15 #[.pointer (some ⟨S, 0, none⟩), .int .i64 id] w fun en w' => en = .returned (.bool true) ∧
      ∃ T', Rw w' U S n (m - 1) (delM f id) (updV L (pk n a) ((L (pk n a)).filter (fun x => !((x.id : Int) == id)))) mv T' ∧ Touch U w w' := by
  have hmf : ∀ fn first cap w, (Instr.makeFunc fn first cap).run Try.prog w = .ok (.func fn first cap) w := fun _ _ _ _ => rfl
  obtain ⟨w1, hw1⟩ : ∃ w1, w1 = w.alloc (.cells #[.int .i64 id] 3) := ⟨_, rfl⟩
  have HB := hide (show Below w.heap.size w w1 from by rw [hw1]; exact (Below.refl _ _).alloc (Nat.le_refl _) _)
  have h1 := h.below HB.out
  have hX : w1.heap[w.heap.size]? = some (.cells #[.int .i64 id] 3 (0, 0)) := by rw [hw1]; exact heap_alloc_new w _
  have x0 : w1.cell? ⟨w.heap.size, 0, none⟩ = some (.int .i64 id) := by rw [cell_of_row _ _ _ _ _ _ hX]; rfl
  have XU := hide (show ¬ U w.heap.size from fun e2 => by have := h.lt _ e2; omega)
  have HP := hide (pplace_any h1 hn hid (fun a' e2 => by rw [e] at e2; rw [← Option.some.inj e2]; exact ha))
  rw [e] at HP
  simp only [Option.map_some, Option.getD_some, Option.isSome_some] at HP
  have hk := pk_lt n a
  have r3 := ring_le n a
  have s3 := slot_le n a
  have r0 : (0 : Int) ≤ ((ring n a : Nat) : Int) := by omega
  have r1 : ((ring n a : Nat) : Int) < 4 := by omega
  have s0 : (0 : Int) ≤ ((slot n a : Nat) : Int) := by omega
  have s1 : ((slot n a : Nat) : Int) < 64 := by omega
  obtain ⟨K, hK⟩ : ∃ K, K = pk n a := ⟨_, rfl⟩
  have eK : ring n a * 64 + slot n a = K := by rw [hK]; rfl
  rw [← hK] at hk hpos hlen ⊢
  have c0 := h1.row.slot hk
  have ho := h1.own K hk
  obtain ⟨g, c, hv, _, hglt⟩ := ho.form hpos
  have gU : U g := h1.uT K g hk (by rw [hv]; rfl)
  have gS : g ≠ S := h1.neTS hk (by rw [hv]; rfl)
  obtain ⟨l', hl'⟩ : ∃ l', l' = (L K).filter (fun x => !((x.id : Int) == id)) := ⟨_, rfl⟩
  have hd : Calls Try.prog 29 #[.slice (some ⟨g, 0, none⟩) (L K).length c, .func (.func 30) #[] #[.pointer (some ⟨w.heap.size, 0, none⟩)]] w1 fun e w' =>
      e = .returned (.slice (some ⟨g, 0, none⟩) l'.length c) ∧ w'.ownsRow 0 3 1 (.slice (some ⟨g, 0, none⟩) l'.length c) l'.length (idsV l') ∧ Touch (fun i => i = g) w1 w' := by
    have ho2 := ho
    rw [hv, ids_ints, show (L K).length = ((L K).map (fun x => (x.id : Int))).length by simp] at ho2
    have := idel_any w1 g c 0 _ id w.heap.size ho2 x0 (fun e2 => XU.out (e2 ▸ gU))
    rw [ids_filter, ← hl', ← ids_ints, List.length_map, List.length_map] at this
    exact this
  rw [← hl']
  rw [hv, show 2 + K = 2 + ring n a * 64 + slot n a by omega] at c0
  have hrow := h1.row
  have HD := hide hd
  have CD := hide (show ∀ w2, Touch (fun i => i = g) w1 w2 → w2.cell? ⟨S, 2 + ring n a * 64 + slot n a, none⟩ = some (.slice (some ⟨g, 0, none⟩) (L K).length c) ∧ w2.frozen? ⟨S, 2 + ring n a * 64 + slot n a, none⟩ = false from fun w2 t =>
    ⟨t.cell c0 (fun e2 => gS e2.symm), (hrow.keep (t.block S (h1.lt S h1.uS) (fun e2 => gS e2.symm))).frozen _⟩)
  have STEP := hide (show ∀ w2, w2.ownsRow 0 3 1 (.slice (some ⟨g, 0, none⟩) l'.length c) l'.length (idsV l') → Touch (fun i => i = g) w1 w2 →
      ∃ w4, (Builtin.delete_ #[54, 3] 0 #[mv, .int .i64 id]).run Try.prog (w2.setCell ⟨S, 2 + ring n a * 64 + slot n a, none⟩ (.slice (some ⟨g, 0, none⟩) l'.length c)).drew = .ok (.tuple #[]) w4 ∧
        (∃ T', Rw w4 U S n (m - 1) (delM f id) (updV L K l') mv T' ∧ Touch U w w4) ∧
        ((w2.setCell ⟨S, 2 + ring n a * 64 + slot n a, none⟩ (.slice (some ⟨g, 0, none⟩) l'.length c)).cell? ⟨S, 1, none⟩ = some mv ∧ (w2.setCell ⟨S, 2 + ring n a * 64 + slot n a, none⟩ (.slice (some ⟨g, 0, none⟩) l'.length c)).cell? ⟨w.heap.size, 0, none⟩ = some (.int .i64 id)) ∧
        (w4.cell? ⟨S, 1, none⟩ = some mv ∧ w4.cell? ⟨w.heap.size, 0, none⟩ = some (.int .i64 id)) from fun w2 o2 t2 => by
    obtain ⟨q1, q2⟩ := h1.setRow hk (t2.mono (fun i e2 => by rw [e2, hv]; rfl)) (.slice (some ⟨g, 0, none⟩) l'.length c) l' o2 (fun g' hg' => by rw [hv]; exact hg')
    rw [show 2 + K = 2 + ring n a * 64 + slot n a by omega] at q1 q2
    generalize w2.setCell ⟨S, 2 + ring n a * 64 + slot n a, none⟩ (.slice (some ⟨g, 0, none⟩) l'.length c) = w3 at q1 q2 ⊢
    obtain ⟨w4, p1, p2, p3⟩ := rw_drop q1.drew hid (by rw [e]; rfl) 0
    have p4 : Touch U w1 w4 := (q2.drewN 1).trans p3 (fun i e2 => .inl (q1.uM i e2))
    have p5 : Touch U w w4 := (Touch.of_below HB.out).trans p4 (fun i e2 => .inl e2)
    exact ⟨w4, p1, ⟨_, p2, p5⟩, ⟨q1.row.map, q2.cell x0 XU.out⟩, ⟨p2.row.map, p4.cell x0 XU.out⟩⟩)
  have EK := hide eK
  generalize ring n a = r at *
  generalize slot n a = sl at *
  generalize (L K).length = len at *
  clear h h1 hX hid e ha hpos hlen hk hK eK ho hv hglt gU gS hl' hd hrow
  have HW := hide hw1
  clear hw1
  go_enter Try.func15, Try.ntmps15
  go_upto_region 1 with fail
  rw [← HW.out]
  go_upto_region 5 with (first
    | (go_at_call 24; refine HP.out.mono ?_; rintro en w' ⟨rfl, rfl⟩)
    | (go_at_call 29; refine HD.out.mono ?_; rintro en w2 ⟨rfl, o2, t2⟩; have O2 := hide o2; have T2 := hide t2; obtain ⟨d0, d1⟩ := CD.out w2 t2; clear o2 t2))
  obtain ⟨w4, r4, q4, q3, q5⟩ := STEP.out _ O2.out T2.out
  have Q4 := hide q4
  clear q4 d0 d1
  generalize w2.setCell ⟨S, 2 + r * 64 + sl, none⟩ (.slice (some ⟨g, 0, none⟩) l'.length c) = w3 at *
  obtain ⟨q6, q7⟩ := q3
  go_region_held3 (fun w' => w'.cell? ⟨S, 1, none⟩ = some mv ∧ w'.cell? ⟨w.heap.size, 0, none⟩ = some (.int .i64 id)) (first | exact ⟨q6, q7⟩ | exact q5) ((refine step_delete (by rfl) _ _ _ _ (by rfl) _ _ (by rfl) (by rfl) r4 ?_))
  clear r4 q6 q7
  go_wp2_with fail
  go_ret
  exact ⟨rfl, Q4.out⟩
end Go.Proofs.Ytpmggiahhjllcaa
