/-
  The program's wheel's fire.
-/
import Derived.Test.YtpmggiahhjllcaaPwCancel2
namespace Go.Proofs.Ytpmggiahhjllcaa
open Go.ChangeShapes Go.WideShapes Go.ChangeAt Go.RowKit
set_option linter.unusedVariables false
def idI (x : Tm) : Int := (x.id : Int)
/-- The wheel, those of ids struck from the moments. -/
def Struck (w : World) (U : Nat → Prop) (S n m : Nat) (f : Int → Option Nat) (L : Nat → List Tm) (mv : Value) (T : Nat → Value) (wr : World) (ids : List Tm) : Prop :=
  ∃ f', Rw wr U S n (m - ids.length) f' L mv T ∧ (∀ q, f' q = if q ∈ ids.map idI then none else f q) ∧ Touch U w wr
theorem struck_next {w wr : World} {U : Nat → Prop} {S n m : Nat} {f : Int → Option Nat} {L : Nat → List Tm} {mv : Value} {T : Nat → Value} {ids : List Tm} (h : Struck w U S n m f L mv T wr ids) {x : Tm} (hid : (Lit.int .i64 (x.id : Int)).wf = true) (hf : (f (x.id : Int)).isSome = true) (hx : ∀ y ∈ ids, y.id ≠ x.id) :
    ∃ w', (Builtin.delete_ #[54, 3] 0 #[mv, .int .i64 (x.id : Int)]).run Try.prog wr = .ok (.tuple #[]) w' ∧ Struck w U S n m f L mv T w' (ids ++ [x]) := by
  obtain ⟨f', h1, h2, h3⟩ := h
  have hni : (x.id : Int) ∉ ids.map idI := fun e => by
    obtain ⟨y, hy, e⟩ := List.mem_map.mp e
    exact hx y hy (by unfold idI at e; omega)
  obtain ⟨w', r, p, t⟩ := rw_drop h1 hid (by rw [h2, if_neg hni]; exact hf) 0
  refine ⟨w', r, delM f' (x.id : Int), ?_, fun q => ?_, h3.trans t (fun i e => .inl (h1.uM i e))⟩
  · rw [List.length_append, show m - (ids.length + [x].length) = m - ids.length - 1 from by simp; omega]
    exact p
  · unfold delM
    rw [h2]
    by_cases e : q = (x.id : Int)
    · rw [if_pos e, if_pos (by rw [e]; simp [idI])]
    · rw [if_neg e]
      by_cases e2 : q ∈ ids.map idI
      · rw [if_pos e2, if_pos (by rw [List.map_append]; exact List.mem_append_left _ e2)]
      · rw [if_neg e2, if_neg (fun e3 => by
          rw [List.map_append, List.mem_append] at e3
          rcases e3 with e3 | e3
          · exact e2 e3
          · simp [idI] at e3; exact e e3)]
set_option maxHeartbeats 4000000 in
theorem pfire_any {w : World} {U : Nat → Prop} {S n m : Nat} {f : Int → Option Nat} {L : Nat → List Tm} {mv : Value} {T : Nat → Value} (h : Rw w U S n m f L mv T) {v : Value} {K : List Tm} (ho : w.ownsRow 0 3 1 v K.length (idsV K)) (hU : ∀ g, v.ownBlock = some g → ¬ U g)
    (hK : K.Pairwise (fun a b => a.id ≠ b.id)) (hf : ∀ x ∈ K, (f (x.id : Int)).isSome = true ∧ (Lit.int .i64 (x.id : Int)).wf = true) (hn : K.length ≤ 1000000) :
    Calls Try.prog 38 #[.pointer (some ⟨S, 0, none⟩), v] w fun e w' => e = .returned (.tuple #[v, .int .i64 0]) ∧
      ∃ w1, Struck w U S n m f L mv T w1 K ∧ w'.ownsRow 0 3 1 v K.length ((sortI (K.map idI)).map (Value.int .i64)) ∧ Touch (fun i => v.ownBlock = some i) w1 w' := by
  obtain ⟨A, c, rfl, hnc, hcm, _⟩ := own_slice ho
  have S0 : Struck w U S n m f L mv T w [] := ⟨f, by simpa using h, fun q => by simp, Touch.refl _ _⟩
  have HS := hide S0
  have HO := hide ho
  have HU := hide hU
  have HK := hide hK
  have HF := hide hf
  have h63 : (K.length : Int) ≤ 1000000 := by omega
  clear h ho hU hK hf S0 hnc hcm
  go_enter Try.func38, Try.ntmps38
  go_wp2_with fail
  go_loopw [10] (fun i wr => ∃ (k : Nat), k ≤ K.length ∧ i = .int .i64 (k : Int) ∧ Hid (Struck w U S n m f L mv T wr (K.take k))) (fun i _ => K.length - (intOf i).toNat)
  case atStart => exact ⟨0, Nat.zero_le _, rfl, HS.out⟩
  case round =>
    clear HS
    obtain ⟨k, hk, rfl, hS⟩ := hrel
    by_cases hlt : k < K.length
    · have k0 : (0 : Int) ≤ (k : Int) := by omega
      have k1 : (k : Int) < (K.length : Int) := by omega
      obtain ⟨g, cg, ev, _, _⟩ := HO.out.form (by omega)
      injection ev with ev1 _ ev2
      subst ev1 ev2
      obtain ⟨x, hx⟩ : ∃ x, x = K[k] := ⟨_, rfl⟩
      have hc : wr.cell? ⟨g, k, none⟩ = some (.int .i64 (x.id : Int)) := by
        obtain ⟨f', p1, _, p3⟩ := hS.out
        refine p3.cell ?_ (HU.out g rfl)
        rw [HO.out.cellAt k (by omega)]
        unfold idsV
        rw [List.getElem?_map, List.getElem?_eq_getElem hlt, hx]; rfl
      have hm : wr.cell? ⟨S, 1, none⟩ = some mv := by obtain ⟨f', p1, _, _⟩ := hS.out; exact p1.row.map
      have hxK : x ∈ K := by rw [hx]; exact List.getElem_mem hlt
      obtain ⟨w', r, q⟩ := struck_next hS.out (HF.out x hxK).2 (HF.out x hxK).1 (fun y hy => by
        obtain ⟨j, hj, rfl⟩ := List.mem_iff_getElem.mp hy
        rw [List.getElem_take, hx]
        exact List.pairwise_iff_getElem.mp HK.out j k (by rw [List.length_take] at hj; omega) hlt (by rw [List.length_take] at hj; omega))
      have HQ : Hid (Struck w U S n m f L mv T w' (K.take (k + 1))) := (show Struck _ _ _ _ _ _ _ _ _ _ _ from by rw [List.take_succ_eq_append_getElem hlt, ← hx]; exact q)
      clear hx hxK q hS
      go_wp2_with fail
      go_roundw
      case rel => exact ⟨k + 1, by omega, by go_num, HQ⟩
      case measure => simp [intOf]; omega
    · obtain rfl : k = K.length := by omega
      have HS1 : Hid (Struck w U S n m f L mv T wr K) := (show Struck _ _ _ _ _ _ _ _ _ _ _ from by have := hS.out; rwa [List.take_length] at this)
      have ho2 : wr.ownsRow 0 3 1 (.slice A K.length c) (K.map idI).length ((K.map idI).map (Value.int .i64)) := by
        obtain ⟨f', _, _, t⟩ := HS1.out
        rw [List.length_map]
        have := t.own HO.out HU.out
        rw [ids_ints] at this
        exact this
      have SO := hide (isort_any wr _ 0 _ ho2 (by rw [List.length_map]; exact hn))
      clear hS ho2
      go_wp2_with (go_at_call 41; refine SO.out.mono ?_; rintro en w2 ⟨rfl, o2, t2⟩; have O2 := hide o2; have T2 := hide t2; clear o2 t2)
      go_ret2
      exact ⟨rfl, wr, HS1.out, by have := O2.out; rwa [List.length_map] at this, T2.out⟩
end Go.Proofs.Ytpmggiahhjllcaa
