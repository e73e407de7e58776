/-
  Contracts of the document's own slab that change nothing: Class, at, Has, Len.
-/
import Derived.Test.YtllapjidnngaeaaSlMem
import Derived.Deep.QuietTactic
import Derived.BigQuiet
namespace Go.Proofs.Ytllapjidnngaeaa
open Go.ChangeShapes Go.WideShapes Go.ChangeAt Go.RowKit
set_option linter.unusedVariables false
theorem cls_16 {n : Int} (h0 : 1 ≤ n) (h1 : n ≤ 16) : cls n = 16 := by unfold cls; rw [if_neg (by omega), if_pos h1]
theorem cls_32 {n : Int} (h0 : 16 < n) (h1 : n ≤ 32) : cls n = 32 := by unfold cls; rw [if_neg (by omega), if_neg (by omega), if_pos h1]
theorem cls_64 {n : Int} (h0 : 32 < n) (h1 : n ≤ 64) : cls n = 64 := by unfold cls; rw [if_neg (by omega), if_neg (by omega), if_neg (by omega)]
theorem cls_0 {n : Int} (h : n < 1 ∨ 64 < n) : cls n = 0 := by unfold cls; rw [if_pos h]
theorem rcls_any (w : World) (n : Int) : Calls Try.prog 23 #[.int .i64 n] w fun e w' => e = .returned (.int .i64 (cls n : Nat)) ∧ w = w' := by
  by_cases h1 : n < 1
  · rw [cls_0 (.inl h1)]
    go_enter Try.func23, Try.ntmps23
    go_wp2_with fail
    go_ret
    exact ⟨rfl, rfl⟩
  by_cases h2 : 64 < n
  · rw [cls_0 (.inr h2)]
    go_enter Try.func23, Try.ntmps23
    go_wp2_with fail
    go_ret
    exact ⟨rfl, rfl⟩
  by_cases h3 : n ≤ 16
  · rw [cls_16 (by omega) h3]
    go_enter Try.func23, Try.ntmps23
    go_wp2_with fail
    go_ret
    exact ⟨rfl, rfl⟩
  by_cases h4 : n ≤ 32
  · rw [cls_32 (by omega) h4]
    go_enter Try.func23, Try.ntmps23
    go_wp2_with fail
    go_ret
    exact ⟨rfl, rfl⟩
  · rw [cls_64 (by omega) (by omega)]
    go_enter Try.func23, Try.ntmps23
    go_wp2_with fail
    go_ret
    exact ⟨rfl, rfl⟩
/-- How many pieces a class has. -/
theorem quo_cl {c : Nat} (h : c = 16 ∨ c = 32 ∨ c = 64) : IntKind.i64.wrap ((64 : Int).tdiv (c : Int)) = ((64 / c : Nat) : Int) ∧ (c : Int) ≠ 0 ∧ 64 / c ≤ 4 := by
  rcases h with rfl | rfl | rfl <;> decide
/-- The least place where the piece is; -1 if there is none. -/
def place (l : List Cu) (fr sl sz : Int) : Int := match l.findIdx? (fun u => hit u fr sl sz) with
  | some p => (p : Int)
  | none => -1
theorem place_some {l : List Cu} {fr sl sz : Int} {p : Nat} (hp : p < l.length) (h : hit l[p] fr sl sz = true) (hf : ∀ k (hk : k < p), hit (l[k]'(by omega)) fr sl sz = false) : place l fr sl sz = (p : Int) := by
  unfold place
  have : l.findIdx? (fun u => hit u fr sl sz) = some p := by
    rw [List.findIdx?_eq_some_iff_getElem]
    exact ⟨hp, h, fun j hj => by rw [hf j hj]; simp⟩
  rw [this]
theorem place_none {l : List Cu} {fr sl sz : Int} (h : ∀ k (hk : k < l.length), hit l[k] fr sl sz = false) : place l fr sl sz = -1 := by
  unfold place
  have : l.findIdx? (fun u => hit u fr sl sz) = none := by
    rw [List.findIdx?_eq_none_iff]
    intro x hx
    obtain ⟨k, hk, rfl⟩ := List.getElem_of_mem hx
    exact h k hk
  rw [this]
set_option maxRecDepth 10000 in
set_option maxHeartbeats 4000000 in
theorem rat_any {w : World} {S R : Nat} {l : List Cu} (h : Sr w S R l) (fr sl sz : Int) (hsl : (Lit.int .i64 sl).wf = true) :
    Calls Try.prog 29 #[.pointer (some ⟨S, 0, none⟩), .agg #[.int .i64 fr, .int .i64 sl, .int .i64 sz]] w fun e w' => e = .returned (.int .i64 (place l fr sl sz)) ∧ Below w.heap.size w w' := by
  obtain ⟨a, c, h1, hrow⟩ := h.row
  have HR := hide hrow
  have HC := hide h.cuts
  have lS := h.lt
  have few := h.cuts.few
  clear h hrow
  have h1' : (w.alloc (.cells #[.int .i64 fr, .int .i64 sl, .int .i64 sz] 44)).cell? ⟨S, 1, none⟩ = some (.slice a l.length c) := by rw [World.cell?_alloc_past _ _ _ lS]; exact h1
  have b0 := (Below.refl w.heap.size w).alloc (Nat.le_refl _) (.cells #[.int .i64 fr, .int .i64 sl, .int .i64 sz] 44)
  have x0 : (w.alloc (.cells #[.int .i64 fr, .int .i64 sl, .int .i64 sz] 44)).cell? ⟨w.heap.size, 0, none⟩ = some (.int .i64 fr) := by simp
  have x1 : (w.alloc (.cells #[.int .i64 fr, .int .i64 sl, .int .i64 sz] 44)).cell? ⟨w.heap.size, 1, none⟩ = some (.int .i64 sl) := by simp
  have x2 : (w.alloc (.cells #[.int .i64 fr, .int .i64 sl, .int .i64 sz] 44)).cell? ⟨w.heap.size, 2, none⟩ = some (.int .i64 sz) := by simp
  have HR2 := hide (show ∀ i (hi : i < l.length), ∃ g, a = some ⟨g, 0, none⟩ ∧ (w.alloc (.cells #[.int .i64 fr, .int .i64 sl, .int .i64 sz] 44)).cell? ⟨g, i * 6, none⟩ = some (.int .i64 (l[i].f : Int)) ∧ (w.alloc (.cells #[.int .i64 fr, .int .i64 sl, .int .i64 sz] 44)).cell? ⟨g, i * 6 + 1, none⟩ = some (.int .i64 (l[i].c : Int)) ∧ ∀ k, k < 4 → (w.alloc (.cells #[.int .i64 fr, .int .i64 sl, .int .i64 sz] 44)).cell? ⟨g, i * 6 + 2 + k, none⟩ = some (.bool (l[i].tk k)) from fun i hi => by
    obtain ⟨g, e, c0, c1, ck⟩ := HR.out i hi
    have lg := lt_of_cell? c0
    exact ⟨g, e, by rw [World.cell?_alloc_past _ _ _ lg]; exact c0, by rw [World.cell?_alloc_past _ _ _ lg]; exact c1, fun k hk => by rw [World.cell?_alloc_past _ _ _ lg]; exact ck k hk⟩)
  go_enter Try.func29, Try.ntmps29
  go_wp2_with fail
  have HX := hide b0
  clear b0 HR
  generalize w.alloc _ = W at *
  generalize hXe : w.heap.size = X at *
  have HXE := hide hXe
  clear hXe
  go_loopw [5] (fun i wr => ∃ (k m : Nat), k ≤ l.length ∧ i = .int .i64 (k : Int) ∧ wr = W.drewN m ∧ Hid (∀ j (hj : j < k) (hl : j < l.length), hit l[j] fr sl sz = false)) (fun i _ => l.length - (intOf i).toNat)
  case atStart => exact ⟨0, 0, Nat.zero_le _, rfl, rfl, fun j hj => absurd hj (by omega)⟩
  case round =>
    obtain ⟨k, m, hk, rfl, rfl, hN⟩ := hrel
    by_cases hlt : k < l.length
    · obtain ⟨g, rfl, c0, c1, ck⟩ := HR2.out k hlt
      have hcl := HC.out.cl l[k] (List.getElem_mem hlt)
      have k0 : (0 : Int) ≤ (k : Int) := by omega
      have k1 : (k : Int) < (l.length : Int) := by omega
      have NX := hide (show hit l[k] fr sl sz = false → ∀ j (hj : j < k + 1) (hl : j < l.length), hit l[j] fr sl sz = false from fun e j hj hl => by
        by_cases ej : j = k
        · subst ej; exact e
        · exact hN.out j (by omega) hl)
      have PS := hide (show hit l[k] fr sl sz = true → place l fr sl sz = (k : Int) from fun e => place_some hlt e (fun j hj => hN.out j hj (by omega)))
      obtain ⟨u, hu⟩ : ∃ u, u = l[k] := ⟨_, rfl⟩
      rw [← hu] at c0 c1 hcl NX PS
      replace ck : ∀ k', k' < 4 → W.cell? ⟨g, k * 6 + 2 + k', none⟩ = some (.bool (u.tk k')) := by rw [hu]; exact ck
      have CK := hide ck
      clear ck hu
      by_cases e1 : (u.f : Int) = fr
      · by_cases e2 : (u.c : Int) = sz
        · subst e1 e2
          obtain ⟨_, _, hq4⟩ := quo_cl hcl
          obtain ⟨cz, nz, hcz, hnz, hcases⟩ : ∃ (cz : Int) (nz : Nat), (u.c : Int) = cz ∧ 64 / u.c = nz ∧ ((cz = 16 ∧ nz = 4) ∨ (cz = 32 ∧ nz = 2) ∨ (cz = 64 ∧ nz = 1)) := by
            rcases hcl with e | e | e
            · exact ⟨16, 4, by omega, by rw [e], .inl ⟨rfl, rfl⟩⟩
            · exact ⟨32, 2, by omega, by rw [e], .inr (.inl ⟨rfl, rfl⟩)⟩
            · exact ⟨64, 1, by omega, by rw [e], .inr (.inr ⟨rfl, rfl⟩)⟩
          have ef : ((u.f : Int) == (u.f : Int)) = true := by simp
          have HZ := hide hcz
          rw [hcz] at c1 x2
          clear hcz
          by_cases e3 : 0 ≤ sl
          · obtain ⟨q, rfl⟩ := Int.eq_ofNat_of_zero_le e3
            by_cases e4 : q < 64 / u.c
            · have ct := CK.out q (by omega)
              have q3 : (q : Int) < 4 := by omega
              have e4' : (q : Int) < (nz : Int) := by omega
              have HQ := hide (show decide ((u.f : Int) = (u.f : Int) ∧ (u.c : Int) = (u.c : Int) ∧ 0 ≤ (q : Int) ∧ (q : Int) < ((64 / u.c : Nat) : Int)) = true from decide_eq_true ⟨rfl, rfl, by omega, by omega⟩)
              clear e4
              cases htq : u.tk q with
              | true =>
                rw [htq] at ct
                have hp := PS.out (by unfold hit; rw [HQ.out, Int.toNat_natCast, htq]; rfl)
                have HP := hide hp
                clear hp hnz
                have q3n : q < 4 := by omega
                rcases hcases with ⟨rfl, rfl⟩ | ⟨rfl, rfl⟩ | ⟨rfl, rfl⟩
                all_goals
                  try have e4n : q < 2 := by omega
                  try have e4i : (q : Int) < 2 := by omega
                  try have e4m : q < 1 := by omega
                  try have e4j : (q : Int) < 1 := by omega
                  go_wp2_with fail
                  go_quiet (fail)
                  go_wp2_with fail
                  go_ret
                  exact ⟨ret_int HP.out.symm, HXE.out ▸ below_drewN (below_drewN HX.out _) _⟩
              | false =>
                rw [htq] at ct
                have hp := NX.out (by unfold hit; rw [Int.toNat_natCast, htq, Bool.and_false])
                have NX := hide hp
                have q3n : q < 4 := by omega
                clear hp hnz HQ
                rcases hcases with ⟨rfl, rfl⟩ | ⟨rfl, rfl⟩ | ⟨rfl, rfl⟩
                all_goals
                  try have e4n : q < 2 := by omega
                  try have e4i : (q : Int) < 2 := by omega
                  try have e4m : q < 1 := by omega
                  try have e4j : (q : Int) < 1 := by omega
                  go_wp2_with fail
                  go_quiet (fail)
                  go_wp2_with fail
                  go_roundw
                  case rel => exact ⟨k + 1, _, by omega, by go_num, rfl, NX⟩
                  case measure => simp [intOf]; omega
            · have hp := NX.out (by unfold hit; rw [decide_eq_false (fun e => by have := e.2.2.2; omega), Bool.false_and])
              have NX := hide hp
              have e4' : ¬ (q : Int) < (nz : Int) := by omega
              clear hp e4
              clear hnz
              rcases hcases with ⟨rfl, rfl⟩ | ⟨rfl, rfl⟩ | ⟨rfl, rfl⟩
              all_goals
                try have e4n : decide (q < 4) = false := decide_eq_false (by omega)
                try have e4i : decide ((q : Int) < 4) = false := decide_eq_false (by omega)
                try have e5n : decide (q < 2) = false := decide_eq_false (by omega)
                try have e5i : decide ((q : Int) < 2) = false := decide_eq_false (by omega)
                try have e6n : decide (q < 1) = false := decide_eq_false (by omega)
                try have e6i : decide ((q : Int) < 1) = false := decide_eq_false (by omega)
                clear e4'
                go_wp2_with fail
                go_quiet (fail)
                go_wp2_with fail
                go_roundw
                case rel => exact ⟨k + 1, _, by omega, by go_num, rfl, NX⟩
                case measure => simp [intOf]; omega
          · have hp := NX.out (by unfold hit; rw [decide_eq_false (fun e => e3 e.2.2.1), Bool.false_and])
            have NX := hide hp
            have e3' : decide (0 ≤ sl) = false := decide_eq_false e3
            clear hp hnz hcases e3
            go_wp2_with fail
            go_quiet (fail)
            go_wp2_with fail
            go_roundw
            case rel => exact ⟨k + 1, _, by omega, by go_num, rfl, NX⟩
            case measure => simp [intOf]; omega
        · have hp := NX.out (by unfold hit; rw [decide_eq_false (fun e => e2 e.2.1), Bool.false_and])
          have NX := hide hp
          have ef : ((u.f : Int) == fr) = true := by simpa using e1
          have ec : ((u.c : Int) == sz) = false := by simpa using e2
          clear hp
          go_wp2_with fail
          go_quiet (fail)
          go_wp2_with fail
          go_roundw
          case rel => exact ⟨k + 1, _, by omega, by go_num, rfl, NX⟩
          case measure => simp [intOf]; omega
      · have hp := NX.out (by unfold hit; rw [decide_eq_false (fun e => e1 e.1), Bool.false_and])
        have NX := hide hp
        have ef : ((u.f : Int) == fr) = false := by simpa using e1
        clear hp
        go_wp2_with fail
        go_quiet (fail)
        go_wp2_with fail
        go_roundw
        case rel => exact ⟨k + 1, _, by omega, by go_num, rfl, NX⟩
        case measure => simp [intOf]; omega
    · obtain rfl : k = l.length := by omega
      have hp := hide (place_none (l := l) (fr := fr) (sl := sl) (sz := sz) (fun j hj => hN.out j hj hj))
      go_wp2_with fail
      go_ret
      exact ⟨ret_int hp.out.symm, HXE.out ▸ below_drewN HX.out _⟩
end Go.Proofs.Ytllapjidnngaeaa
