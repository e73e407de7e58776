/-
  Contracts of the program's slab that change nothing: Class, Len, Has; of none each call.
-/
import Derived.Test.YtllapjidnngaeaaPsSpare
namespace Go.Proofs.Ytllapjidnngaeaa
open Go.ChangeShapes Go.WideShapes Go.ChangeAt Go.RowKit
set_option linter.unusedVariables false
theorem cls_if (n : Int) : cls n = if n < 1 ∨ 64 < n then 0 else if n ≤ 16 then 16 else if n ≤ 32 then 32 else 64 := rfl
theorem class_any (w : World) (n : Int) (hn : (Lit.int .i64 n).wf = true) : Calls Try.prog 22 #[.int .i64 n] w fun e w' => e = .returned (.int .i64 (cls n : Nat)) ∧ w = w' := by
  clear hn
  by_cases h1 : n < 1
  · have hc : cls n = 0 := by rw [cls_if, if_pos (.inl h1)]
    rw [hc]
    go_enter Try.func22, Try.ntmps22
    go_wp2_with fail
    go_ret
    exact ⟨rfl, rfl⟩
  · have hc : cls n = if n ≤ 16 then 16 else if n ≤ 32 then 32 else if n ≤ 64 then 64 else 0 := by
      rw [cls_if]
      by_cases h2 : 64 < n
      · rw [if_pos (.inr h2), if_neg (by omega), if_neg (by omega), if_neg (by omega)]
      · rw [if_neg (by omega)]
        split
        · rfl
        · split
          · rfl
          · rw [if_pos (by omega)]
    have HC := hide hc
    clear hc
    go_enter Try.func22, Try.ntmps22
    go_wp2_with fail
    go_loop [3] (fun i => ∃ z : Int, i = .int .i64 z ∧ Hid ((z = 16) ∨ (z = 32 ∧ 16 < n) ∨ (z = 64 ∧ 32 < n) ∨ (z = 128 ∧ 64 < n))) (fun i => (200 - intOf i).toNat)
    case atStart => exact ⟨16, rfl, .inl rfl⟩
    case round =>
      obtain ⟨z, rfl, hz⟩ := hrel
      rcases hz.out with h | ⟨h, h2⟩ | ⟨h, h2⟩ | ⟨h, h2⟩
      · subst h
        clear hz
        by_cases hn : n ≤ 16
        · have hc : cls n = 16 := by rw [HC.out, if_pos hn]
          have C2 := hide hc
          clear hc
          go_wp2_with fail
          go_ret
          exact ⟨ret_int (by rw [C2.out]; rfl), rfl⟩
        · go_wp2_with fail
          go_round
          case rel => exact ⟨32, rfl, .inr (.inl ⟨rfl, by omega⟩)⟩
          case measure => simp [intOf]
      · subst h
        clear hz
        by_cases hn : n ≤ 32
        · have hc : cls n = 32 := by rw [HC.out, if_neg (by omega), if_pos hn]
          have C2 := hide hc
          clear hc
          go_wp2_with fail
          go_ret
          exact ⟨ret_int (by rw [C2.out]; rfl), rfl⟩
        · go_wp2_with fail
          go_round
          case rel => exact ⟨64, rfl, .inr (.inr (.inl ⟨rfl, by omega⟩))⟩
          case measure => simp [intOf]
      · subst h
        clear hz
        by_cases hn : n ≤ 64
        · have hc : cls n = 64 := by rw [HC.out, if_neg (by omega), if_neg (by omega), if_pos hn]
          have C2 := hide hc
          clear hc
          go_wp2_with fail
          go_ret
          exact ⟨ret_int (by rw [C2.out]; rfl), rfl⟩
        · go_wp2_with fail
          go_round
          case rel => exact ⟨128, rfl, .inr (.inr (.inr ⟨rfl, by omega⟩))⟩
          case measure => simp [intOf]
      · subst h
        clear hz
        have hc : cls n = 0 := by rw [HC.out, if_neg (by omega), if_neg (by omega), if_neg (by omega)]
        have C2 := hide hc
        clear hc
        go_wp2_with fail
        go_ret
        exact ⟨ret_int (by rw [C2.out]; rfl), rfl⟩
/-- How many pieces the first n frames of a table have. -/
def cntT (T : Nat → Cu) : Nat → Nat
  | 0 => 0
  | n + 1 => cntT T n + cnt (T n).tk 4
theorem cntT_upd {T : Nat → Cu} {f : Nat} (u : Cu) (n : Nat) (h0 : cnt (T f).tk 4 = 0) : cntT (upd T f u) n = cntT T n + if f < n then cnt u.tk 4 else 0 := by
  induction n with
  | zero => rfl
  | succ n ih =>
    show cntT (upd T f u) n + cnt (upd T f u n).tk 4 = cntT T n + cnt (T n).tk 4 + _
    rw [ih]
    by_cases e : n = f
    · subst e
      rw [upd_same, h0, if_neg (Nat.lt_irrefl _), if_pos (Nat.lt_succ_self _)]
    · rw [upd_other _ _ e]
      by_cases e2 : f < n
      · rw [if_pos e2, if_pos (by omega)]; omega
      · rw [if_neg e2, if_neg (by omega)]; omega
theorem cnt_none (k : Nat) : cnt (fun _ => false) k = 0 := by unfold cnt; simp
theorem ent_nil (i : Nat) : ent [] i = bare i := rfl
theorem ent_cons (u : Cu) (l : List Cu) (i : Nat) : ent (u :: l) i = upd (ent l) u.f u i := by
  unfold ent upd
  rw [List.find?_cons]
  by_cases e : i = u.f
  · rw [if_pos e, show (u.f == i) = true by simp [e]]; rfl
  · rw [if_neg e, show (u.f == i) = false by simp; omega]
theorem cntT_le (T : Nat → Cu) (n : Nat) : cntT T n ≤ n * 4 := by
  induction n with
  | zero => exact Nat.le_refl 0
  | succ n ih => show cntT T n + cnt (T n).tk 4 ≤ _; have := cnt_le (T n).tk 4; omega
theorem cntT_ext {T T' : Nat → Cu} {n : Nat} (h : ∀ i, T i = T' i) : cntT T n = cntT T' n := by
  induction n with
  | zero => rfl
  | succ n ih => show cntT T n + _ = cntT T' n + _; rw [ih, h n]
theorem Cuts.tail {u : Cu} {l : List Cu} (h : Cuts (u :: l)) : Cuts l :=
  ⟨fun v hv => h.cl v (List.mem_cons_of_mem _ hv), (List.pairwise_cons.mp h.up).2, by have := h.few; rw [List.length_cons] at this; omega, fun v hv => h.fs v (List.mem_cons_of_mem _ hv)⟩
theorem cntT_all {l : List Cu} (h : Cuts l) : cntT (ent l) 64 = pieces l := by
  induction l with
  | nil => rw [cntT_ext (T' := fun i => bare i) ent_nil]; rfl
  | cons u l ih =>
    have h1 : ent l u.f = bare u.f := ent_out fun v hv e => by have := (List.pairwise_cons.mp h.up).1 v hv; omega
    rw [cntT_ext (ent_cons u l), cntT_upd u 64 (by rw [h1]; exact cnt_none 4), ih h.tail, if_pos (h.fs u List.mem_cons_self), pieces_cons]
    omega
theorem bool4_type : Try.prog.underlying 68 = some (.array 4 4) := Try.underlying68
theorem bool_type_info : ∃ i, Try.prog.info? 4 = some i := by
  have h : (Try.prog.info? 4).isSome = true := by kernel_rfl
  exact Option.isSome_iff_exists.1 h
theorem run_index_plain {P : Program} (w : World) {t e : TypeId} {n : Nat} {i : TypeInfo} (ht : P.underlying t = some (.array n e)) (hk : P.plainKey e = true) (hi : P.info? e = some i) (h1 : P.cellsOf e = 1)
    {cs : Array Value} {j : Nat} (hj : j < n) {v : Value} (hv : cs[j]? = some v) (k : IntKind) : (Instr.index t (.agg cs) (.int k (j : Int))).run P w = .ok v w := by
  have hb : 0 ≤ (j : Int) ∧ (j : Int) < (n : Int) := by omega
  simp only [Instr.index, asIntOf, Sem.run_bind, Sem.run_pure, run_underlying ht, Result.andThen_ok, hb, and_self, if_true, run_sizeOf w hi, h1, Nat.mul_one, Int.toNat_natCast]
  exact run_part_plain w hk hv
theorem bool4_index (f : Nat → Bool) (j : Nat) (hj : j < 4) : ∀ w, (Instr.index 68 (.agg #[.bool (f 0), .bool (f 1), .bool (f 2), .bool (f 3)]) (.int .i64 (j : Int))).run Try.prog w = .ok (.bool (f j)) w := by
  intro w
  obtain ⟨i, hi⟩ := bool_type_info
  refine run_index_plain w bool4_type (by kernel_rfl) hi (by kernel_rfl) hj ?_ .i64
  match j, hj with
  | 0, _ => rfl
  | 1, _ => rfl
  | 2, _ => rfl
  | 3, _ => rfl
set_option maxRecDepth 10000 in
set_option maxHeartbeats 4000000 in
theorem slen_any {w : World} {S H : Nat} {T : Nat → Cu} (h : RowS w S H T) :
    Calls Try.prog 18 #[.pointer (some ⟨S, 0, none⟩)] w fun e w' => e = .returned (.int .i64 (cntT T 64 : Nat)) ∧ Below w.heap.size w w' := by
  have IX := hide (tab_index T)
  have LD := hide h.range
  clear h
  go_enter Try.func18, Try.ntmps18
  go_wp2_with (refine wpList_load_mid rfl 71 (.tmp 12) rfl S 2 rfl (tabN T 64) _ LD.out tab_type rfl (tab_size T) ?_)
  clear LD
  generalize (tabN T 64).toArray = TA at *
  go_loopw [14, 3] (fun i n wr => ∃ (k m : Nat), k ≤ 64 ∧ i = .int .i64 (k : Int) ∧ n = .int .i64 (m : Int) ∧ Hid (m = cntT T k ∧ Below w.heap.size w wr)) (fun i _ _ => 64 - (intOf i).toNat)
  case atStart => exact ⟨0, 0, Nat.zero_le _, rfl, rfl, rfl, Below.refl _ _⟩
  case round =>
    obtain ⟨k, m, hk, rfl, rfl, hM⟩ := hrel
    by_cases hlt : k < 64
    · have ix := IX.out k hlt
      have k0 : (0 : Int) ≤ (k : Int) := by omega
      have k1 : (k : Int) < 64 := by omega
      have ML := hide (show m ≤ 256 by have := hM.out.1; have h2 := cntT_le T k; omega)
      have PS := hide (show cntT T (k + 1) = m + cnt (T k).tk 4 by rw [hM.out.1]; rfl)
      obtain ⟨u, hu⟩ : ∃ u, u = T k := ⟨_, rfl⟩
      rw [← hu] at ix PS
      clear hu
      have ib := bool4_index u.tk
      have IB := hide ib
      clear ib
      have BN := hide (hM.out.2.alloc hM.out.2.size (.cells #[.int .i64 (u.c : Int), .bool (u.tk 0), .bool (u.tk 1), .bool (u.tk 2), .bool (u.tk 3)] 70))
      go_wp2_with fail
      generalize (wr.alloc (.cells #[.int .i64 (u.c : Int), .bool (u.tk 0), .bool (u.tk 1), .bool (u.tk 2), .bool (u.tk 3)] 70)) = W at *
      go_loop [19, 3] (fun i n => ∃ (j p : Nat), j ≤ 4 ∧ i = .int .i64 (j : Int) ∧ n = .int .i64 (p : Int) ∧ Hid (p = m + cnt u.tk j)) (fun i _ => 4 - (intOf i).toNat)
      case atStart => exact ⟨0, m, Nat.zero_le _, rfl, rfl, rfl⟩
      case round =>
        obtain ⟨j, p, hj, rfl, rfl, hP⟩ := hrel
        by_cases hj4 : j < 4
        · have ij := IB.out j hj4
          have j0 : (0 : Int) ≤ (j : Int) := by omega
          have j1 : (j : Int) < 4 := by omega
          have pl : (p : Int) ≤ 300 := by have h1 := ML.out; have h2 := hP.out; have h3 := cnt_le u.tk j; omega
          cases ht : u.tk j with
          | true =>
            rw [ht] at ij
            have NX : Hid (p + 1 = m + cnt u.tk (j + 1)) := (show p + 1 = m + cnt u.tk (j + 1) by rw [cnt_succ, ht, hP.out]; simp; omega)
            go_wp2_with fail
            go_round
            case rel => exact ⟨j + 1, p + 1, by omega, by go_num, by go_num, NX⟩
            case measure => simp [intOf]; omega
          | false =>
            rw [ht] at ij
            have NX : Hid (p = m + cnt u.tk (j + 1)) := (show p = m + cnt u.tk (j + 1) by rw [cnt_succ, ht, hP.out]; simp)
            go_wp2_with fail
            go_round
            case rel => exact ⟨j + 1, p, by omega, by go_num, rfl, NX⟩
            case measure => simp [intOf]; omega
        · obtain rfl : j = 4 := by omega
          have j1 : ¬ ((4 : Nat) : Int) < 4 := by omega
          go_wp2_with fail
          go_roundw
          case rel => exact ⟨k + 1, p, by omega, by go_num, rfl, by rw [PS.out]; exact hP.out, BN.out⟩
          case measure => simp [intOf]; omega
    · obtain rfl : k = 64 := by omega
      have k1 : ¬ ((64 : Nat) : Int) < 64 := by omega
      go_wp2_with fail
      go_ret
      exact ⟨ret_int (by rw [hM.out.1]), hM.out.2⟩
end Go.Proofs.Ytllapjidnngaeaa
