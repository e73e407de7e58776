/-
  The program's wheel's spread, walked; fire in the same words.
-/
import Derived.Test.YtpmggiahhjllcaaPwSpread
namespace Go.Proofs.Ytpmggiahhjllcaa
open Go.ChangeShapes Go.WideShapes Go.ChangeAt Go.RowKit
set_option linter.unusedVariables false
/-- What is done to a slot's row. -/
def DeedP (w : World) (U : Nat → Prop) (S n m : Nat) (f : Int → Option Nat) (L : Nat → List Tm) (mv : Value) (K : List Tm) (v : Value) (e : Ending) (w' : World) : Prop :=
  ∃ A c U' T' f', e = .returned (.tuple #[.slice A (dueL n K).length c, .int .i64 ((K.length - (dueL n K).length : Nat) : Int)]) ∧ Rw w' U' S n (m - (dueL n K).length) f' (fun j => L j ++ toL n j K) mv T' ∧ (∀ q, f' q = if q ∈ (dueL n K).map idI then none else f q) ∧
    w'.ownsRow 0 3 1 (.slice A (dueL n K).length c) (dueL n K).length ((sortI ((dueL n K).map idI)).map (Value.int .i64)) ∧ (∀ g, (Value.slice A (dueL n K).length c).ownBlock = some g → ¬ U' g ∧ (v.ownBlock = some g ∨ w.heap.size ≤ g)) ∧
    Touch (fun i => U i ∨ v.ownBlock = some i) w w' ∧ ∀ i, U' i → U i ∨ w.heap.size ≤ i
theorem pfire_deed {w : World} {U : Nat → Prop} {S n m : Nat} {f : Int → Option Nat} {L : Nat → List Tm} {mv : Value} {T : Nat → Value} (h : Rw w U S n m f L mv T) {v : Value} {K : List Tm} (ho : w.ownsRow 0 3 1 v K.length (idsV K)) (hU : ∀ g, v.ownBlock = some g → ¬ U g)
    (hK : K.Pairwise (fun a b => a.id ≠ b.id)) (hf : ∀ x ∈ K, f (x.id : Int) = some x.due ∧ (Lit.int .i64 (x.id : Int)).wf = true ∧ x.due = n) (hn : K.length ≤ 1000000) :
    Calls Try.prog 38 #[.pointer (some ⟨S, 0, none⟩), v] w (DeedP w U S n m f L mv K v) := by
  have e1 : dueL n K = K := List.filter_eq_self.mpr (fun x hx => by simpa using (hf x hx).2.2)
  have e2 : ∀ j, toL n j K = [] := fun j => List.filter_eq_nil_iff.mpr (fun x hx => by simp [(hf x hx).2.2])
  obtain ⟨A, c, rfl, _⟩ := own_slice ho
  refine (pfire_any h ho hU hK (fun x hx => ⟨by rw [(hf x hx).1]; rfl, (hf x hx).2.1⟩) hn).mono fun e w' ⟨he, w1, ⟨f', p1, p2, p3⟩, o1, t1⟩ => ?_
  have e3 : (fun j => L j ++ toL n j K) = L := by funext j; rw [e2, List.append_nil]
  unfold DeedP
  rw [e1, e3]
  refine ⟨A, c, U, T, f', by rw [he, Nat.sub_self]; rfl, p1.keep t1 (fun i hi e => hU i e hi), p2, o1, fun g hg => ⟨hU g hg, .inl hg⟩, (p3.mono (fun i e => .inl e)).trans t1 (fun i e => .inl (.inr e)), fun i hi => .inl hi⟩
set_option maxRecDepth 10000 in
set_option maxHeartbeats 8000000 in
theorem pspread_any {w : World} {U : Nat → Prop} {S n m : Nat} {f : Int → Option Nat} {L : Nat → List Tm} {mv : Value} {T : Nat → Value} (h : Rw w U S n m f L mv T) (hn : n < 16777217) {v : Value} {K : List Tm} (ho : w.ownsRow 0 3 1 v K.length (idsV K)) (hU : ∀ g, v.ownBlock = some g → ¬ U g)
    (hK : K.Pairwise (fun a b => a.id ≠ b.id)) (hf : ∀ x ∈ K, f (x.id : Int) = some x.due ∧ (Lit.int .i64 (x.id : Int)).wf = true ∧ x.due < 16777217) (hl : ∀ j, j < 256 → (L j).length + K.length ≤ 100000) :
    Calls Try.prog 39 #[.pointer (some ⟨S, 0, none⟩), v] w (DeedP w U S n m f L mv K v) := by
  obtain ⟨j0, hj0, hy0, hy1, hy2⟩ := info_parts int_info
  obtain ⟨A, c, rfl, hnc, hcm, _⟩ := own_slice ho
  have h63 : (K.length : Int) ≤ 100000 := by have := hl 0 (by omega); omega
  have S0 : Spread w (w.alloc (.cells #[] 3)) U S n m f L mv [] (.slice (some ⟨w.heap.size, 0, none⟩) 0 0) U T :=
    ⟨by simpa [toL] using h.below ((Below.refl _ w).alloc (Nat.le_refl _) _), World.ownsRow_lit w #[] 0 (Nat.le_refl _) (by unfold maxLen; omega) rfl, fun g hg e => by
      have : w.heap.size = g := Option.some.inj hg
      have := h.lt g e
      omega, (Touch.refl _ w).alloc _, fun i hi => .inl hi⟩
  have HS := hide S0
  have HO := hide ho
  have HU := hide hU
  have HK := hide hK
  have HF := hide hf
  have HL := hide hl
  have HY := hide hy2
  clear h ho hU hK hf S0 hnc hcm hl hy2
  go_enter Try.func39, Try.ntmps39
  go_wp2_with fail
  go_loopw [14, 6] (fun i dv wr => ∃ (k : Nat), k ≤ K.length ∧ i = .int .i64 (k : Int) ∧ Hid (∃ Uk Tk, Spread w wr U S n m f L mv (K.take k) dv Uk Tk)) (fun i _ _ => K.length - (intOf i).toNat)
  case atStart => exact ⟨0, Nat.zero_le _, rfl, _, _, HS.out⟩
  case round =>
    clear HS
    obtain ⟨k, hk, rfl, hS⟩ := hrel
    obtain ⟨Uk, Tk, hS⟩ := hS.out
    obtain ⟨dA, dc, rfl, _⟩ := own_slice hS.own
    have dl : (dueL n (K.take k)).length ≤ K.length := Nat.le_trans (List.length_filter_le _ _) (by rw [List.length_take]; omega)
    by_cases hlt : k < K.length
    · have k0 : (0 : Int) ≤ (k : Int) := by omega
      have k1 : (k : Int) < (K.length : Int) := by omega
      obtain ⟨g, cg, ev, _, _⟩ := HO.out.form (by omega)
      injection ev with ev1 _ ev2
      subst ev1 ev2
      obtain ⟨x, hx⟩ : ∃ x, x = K[k] := ⟨_, rfl⟩
      have hc : wr.cell? ⟨g, k, none⟩ = some (.int .i64 (x.id : Int)) := by
        refine hS.tch.cell ?_ (HU.out g rfl)
        rw [HO.out.cellAt k (by omega)]
        unfold idsV
        rw [List.getElem?_map, List.getElem?_eq_getElem hlt, hx]; rfl
      have hm : wr.cell? ⟨S, 1, none⟩ = some mv := hS.rw_.row.map
      have h0 : wr.cell? ⟨S, 0, none⟩ = some (.int .i64 (n : Int)) := hS.rw_.row.now
      have hxK : x ∈ K := by rw [hx]; exact List.getElem_mem hlt
      obtain ⟨fx, wx, dx⟩ := HF.out x hxK
      have hlk : ∀ q, (Instr.lookup 54 mv (.int .i64 (x.id : Int)) false).run Try.prog (wr.drewN q) = .ok (.int .i64 (x.due : Int)) (wr.drewN q) := fun q => by
        have := (hS.rw_.keep (V := fun _ => False) ((Touch.refl _ wr).drewN q) (fun _ _ e => e)).map.look1 (x.id : Int) wx
        rw [fx] at this
        exact this
      have hlk0 := hlk 0
      have hlk1 := hlk 1
      have TK := hide (show K.take (k + 1) = K.take k ++ [x] from by rw [List.take_succ_eq_append_getElem hlt, ← hx])
      have SP := hide hS
      have FX := hide fx
      have WX := hide wx
      clear hx hxK hS fx wx
      go_upto_region 5 with fail
      by_cases hd : x.due = n
      · have hd' : ((x.due : Int) == (n : Int)) = true := by rw [hd]; simp
        have HD := hide hd
        clear hd
        go_quiet (fail)
        have SP3 := hide (SP.out.below (below_drewN (Below.refl _ wr) nq))
        clear hc hm h0 hlk hlk0 hlk1
        generalize wr.drewN nq = w3 at *
        go_wp2_with (at_builtin; refine wpList_append_own_at _ rfl (.tmp 29) (.tmp 31) _ rfl w.heap.size 3 j0 _ 1 8 Try.underlying37 hj0 hy0 hy1 HY.out rfl (by omega) _ _ _ rfl (SP3.out.own.alloc _) ⟨w3.heap.size, 0, none⟩ 1 1 [.int .i64 (x.id : Int)] rfl rfl (cell_one_new _ _ _) (by intro z hz; rw [List.mem_singleton] at hz; rw [hz]; rfl) (by unfold maxLen; omega) (by omega) (by have := SP3.out.tch.size; simp; omega) ?_; intro v9 w9 o9 g9 _ t9; have N9 := hide (SP3.out.hit HD.out _ o9 g9 t9); clear o9 g9 t9)
        go_roundw
        case rel => exact ⟨k + 1, by omega, by go_num, by rw [TK.out]; exact ⟨_, _, N9.out⟩⟩
        case measure => simp [intOf]; omega
      · have hd' : ((x.due : Int) == (n : Int)) = false := by simp; omega
        have HD := hide hd
        clear hd
        go_quiet (fail)
        have SP3 := hide (SP.out.below (below_drewN (Below.refl _ wr) nq))
        clear hc hm h0 hlk hlk0 hlk1
        generalize wr.drewN nq = w3 at *
        have tl : (toL n (pk n x.due) (K.take k)).length ≤ K.length := Nat.le_trans (List.length_filter_le _ _) (by rw [List.length_take]; omega)
        have PUT := hide (pput_any SP3.out.rw_ hn (x := x) WX.out FX.out dx (by have := HL.out _ (pk_lt n x.due); rw [List.length_append]; omega))
        go_wp2_with (go_at_call 27; refine PUT.out.mono ?_; rintro en w9 ⟨rfl, hP⟩; have HP := hide hP; clear hP)
        go_roundw
        case rel =>
          obtain ⟨U9, T9, p1, p2, p3⟩ := HP.out
          exact ⟨k + 1, by omega, by go_num, by rw [TK.out]; exact ⟨_, _, SP3.out.miss HD.out p1 p2 p3⟩⟩
        case measure => simp [intOf]; omega
    · obtain rfl : k = K.length := by omega
      rw [List.take_length] at hS dl
      have dl0 : ((dueL n K).length : Int) ≤ (K.length : Int) := by omega
      have FIRE := hide (pfire_any hS.rw_ (own_base hS.own (Nat.zero_le _)) hS.dis (HK.out.sublist List.filter_sublist) (fun x hx => by
        obtain ⟨fx, wx, _⟩ := HF.out x (List.mem_filter.mp hx).1
        exact ⟨by rw [fx]; rfl, wx⟩) (by omega))
      have SP := hide hS
      clear hS
      rw [List.take_length]
      obtain ⟨D, hD⟩ : ∃ D, D = (dueL n K).length := ⟨_, rfl⟩
      rw [← hD] at FIRE dl0 ⊢
      have HD := hide hD
      clear hD
      go_wp2_with (go_at_call 38; refine FIRE.out.mono ?_; rintro en w9 ⟨rfl, hP⟩; have HP := hide hP; clear hP)
      go_ret2
      obtain ⟨w1, ⟨f', p1, p2, p3⟩, o1, t1⟩ := HP.out
      unfold DeedP
      rw [← HD.out]
      have sdis := SP.out.dis
      have sown := fun g hg => (SP.out.own.lt g hg).1
      rw [← HD.out] at sdis sown p1
      refine ⟨dA, dc, Uk, Tk, f', by rw [show ((K.length - D : Nat) : Int) = (K.length : Int) - (D : Int) by omega]; rfl, p1.keep t1 (fun i hi e => sdis i e hi), p2, o1, fun g hg => ⟨sdis g hg, .inr (sown g hg)⟩, ?_, SP.out.grow⟩
      refine ((SP.out.tch.mono (fun i e => .inl e)).trans p3 (fun i e => (SP.out.grow i e).elim (fun e => .inl (.inl e)) .inr)).trans t1 (fun i e => .inr (sown i e))
end Go.Proofs.Ytpmggiahhjllcaa
