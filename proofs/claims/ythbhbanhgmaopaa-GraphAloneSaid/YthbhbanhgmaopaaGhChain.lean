/-
  The document's own Chain (coxswainref11).
-/
import Derived.Test.YthbhbanhgmaopaaGhPlain
import Derived.Test.YthbhbanhgmaopaaSame
import Derived.Test.YthbhbanhgmaopaaTouch
namespace Go.Proofs.Ythbhbanhgmaopaa
open Go.ChangeShapes Go.WideShapes Go.ChangeAt Go.RowKit
set_option linter.unusedVariables false
/-- Along the chain from k on, l being told already. -/
def chainF (ws os : List Int) (n : Int) : Nat → List Int → Int → List Int
  | 0, l, _ => l
  | f + 1, l, k => if k < 0 ∨ k ∈ l then l else chainF ws os n f (l ++ [k]) (onG ws os n k)
def chainG (ws os : List Int) (n i : Int) : List Int := chainF ws os n (n.toNat + 1) [] (onG ws os n i)
theorem few_below : ∀ (n : Nat) (l : List Int), l.Nodup → (∀ x ∈ l, 0 ≤ x ∧ x < (n : Int)) → l.length ≤ n := by
  intro n
  induction n with
  | zero =>
    intro l _ h
    cases l with
    | nil => simp
    | cons x l => have := h x (List.mem_cons_self ..); omega
  | succ n ih =>
    intro l hd h
    have h1 := ih (l.erase (n : Int)) (hd.erase _) (fun x hx => by
      have h2 := (hd.mem_erase_iff).1 hx
      have h3 := h x h2.2
      have h4 : x ≠ (n : Int) := h2.1
      omega)
    by_cases hm : (n : Int) ∈ l
    · rw [List.length_erase_of_mem hm] at h1
      omega
    · rw [List.erase_of_not_mem hm] at h1
      omega
theorem own_sliceI {w : World} {B : Nat} {e : TypeId} {z n : Nat} {v : Value} {xs : List Value} (h : w.ownsRow B e z v n xs) : ∃ a c, v = .slice a n c := by
  rcases h.2 with ⟨rfl, rfl⟩ | ⟨g, cap, cur, rfl, _⟩
  · exact ⟨none, 0, rfl⟩
  · exact ⟨_, _, rfl⟩
set_option maxRecDepth 10000 in
set_option maxHeartbeats 8000000 in
theorem rchain_any (a : Option Addr) (p c : Nat) (ws : List Int) (b : Option Addr) (q d : Nat) (os : List Int) (n : Nat) (i : Int) (w : World) (ha : Ints .i64 w a p ws) (hb : Ints .i64 w b q os) (hp : p ≤ maxLen) (hq : q ≤ maxLen) (hn : n ≤ 1000) :
    Calls Try.prog 13 #[.slice a p c, .slice b q d, .int .i64 (n : Int), .int .i64 i] w fun e w' => ∃ v, e = .returned v ∧ w'.ownsRow w.heap.size 3 1 v (chainG ws os n i).length ((chainG ws os n i).map (Value.int .i64)) ∧ Below w.heap.size w w' := by
  obtain ⟨i0, hi0, hz0, hz1, hz2⟩ := info_parts int_info
  have HZ := hide hz2
  have ON := hide (fun (W : World) (bw : Below w.heap.size w W) (k : Int) => show Calls Try.prog 15 #[.slice a p c, .slice b q d, .int .i64 (n : Int), .int .i64 k] W fun e w' => e = .returned (.int .i64 (onG ws os n k)) ∧ W = w' from ron_any a p c ws b q d os n k W (ha.below bw) (hb.below bw) hp hq)
  have HN := hide hn
  obtain ⟨FIN, hF⟩ : ∃ F, F = chainG ws os n i := ⟨_, rfl⟩
  rw [← hF]
  have HF := hide hF
  clear hz2 ha hb hp hq hn hF
  go_enter Try.func13, Try.ntmps13
  go_wp2_with (go_at_call 15; refine (ON.out _ (Below.refl _ _) _).mono ?_; rintro e w' ⟨rfl, rfl⟩)
  go_loopw [9, 10] (fun v kv wr => ∃ (l : List Int) (k : Int) (f : Nat), kv = .int .i64 k ∧ Hid (wr.ownsRow w.heap.size 3 1 v l.length (l.map (Value.int .i64)) ∧ Below w.heap.size w wr ∧ chainF ws os n f l k = FIN ∧ l.Nodup ∧ (∀ x ∈ l, 0 ≤ x ∧ x < (n : Int)) ∧ l.length + f = n + 1 ∧ (0 ≤ k → k < (n : Int)))) (fun v _ _ => n + 1 - (match v with | .slice _ m _ => m | _ => 0))
  case atStart => exact ⟨[], _, n + 1, rfl, World.ownsRow_nil _ _ _ _, Below.refl _ _, by rw [HF.out]; rfl, List.nodup_nil, (fun x hx => by cases hx), by simp, fun h => onG_lt h⟩
  case round =>
    obtain ⟨l, k, f, rfl, hZ⟩ := hrel
    have O1 := hide hZ.out.1
    have B1 := hide hZ.out.2.1
    have CH := hide hZ.out.2.2.1
    have ND := hide hZ.out.2.2.2.1
    have IN := hide hZ.out.2.2.2.2.1
    have LF := hide hZ.out.2.2.2.2.2.1
    have KN1 := hide hZ.out.2.2.2.2.2.2
    have fb := few_below n l ND.out IN.out
    have ll : l.length ≤ 1000 := by have := HN.out; omega
    have LN := hide fb
    clear hZ fb
    obtain ⟨av, cv, rfl⟩ := own_sliceI O1.out
    obtain ⟨g, hg⟩ : ∃ g, f = g + 1 := ⟨f - 1, by have := LF.out; have := LN.out; omega⟩
    have CH2 := hide (show FIN = if k < 0 ∨ k ∈ l then l else chainF ws os n g (l ++ [k]) (onG ws os n k) from by rw [← CH.out, hg]; rfl)
    have LF2 := hide (show l.length + g = n from by have := LF.out; omega)
    clear hg CH LF
    by_cases hk : 0 ≤ k
    · have hkl : ¬ k < 0 := by omega
      go_wp2_with fail
      go_loop [11] (fun j => ∃ j' : Nat, j' ≤ l.length ∧ j = .int .i64 j' ∧ Hid (k ∉ l.take j')) (fun j => l.length - (intOf j).toNat)
      case atStart => exact ⟨0, Nat.zero_le _, rfl, (show k ∉ l.take 0 from by simp)⟩
      case round =>
        obtain ⟨j, hj, rfl, hY⟩ := hrel
        by_cases hjl : j < l.length
        · have j0 : (0 : Int) ≤ (j : Int) := by omega
          have j1 : (j : Int) < (l.length : Int) := by omega
          have JM1 := hide (show j + 1 ≤ l.length from by omega)
          obtain ⟨y, hy⟩ : ∃ y, y = l[j] := ⟨_, rfl⟩
          obtain ⟨gb, cap, e⟩ : ∃ gb cap, (Value.slice av l.length cv) = .slice (some ⟨gb, 0, none⟩) l.length cap := by
            rcases O1.out.2 with ⟨_, h⟩ | ⟨gb, cap, cur, e, _⟩
            · omega
            · exact ⟨_, _, e⟩
          injection e with e1 _ e2
          have cc : wr.cell? ⟨gb, j, none⟩ = some (.int .i64 y) := by
            have o := O1.out
            rw [e1] at o
            rw [o.cellAt j (by omega), List.getElem?_map, List.getElem?_eq_getElem hjl, hy]; rfl
          have AV := hide e1
          have HY := hide hy
          clear hy e2
          subst e1
          by_cases he : y = k
          · have q1 : (y == k) = true := by simpa using he
            have G2 := hide (show FIN = l from by rw [CH2.out, if_pos (.inr (by rw [← he, HY.out]; exact List.getElem_mem hjl))])
            clear he
            go_wp2_with fail
            go_ret
            exact ⟨_, rfl, by rw [G2.out]; exact O1.out, B1.out⟩
          · have q1 : (y == k) = false := by simpa using he
            have N2 := hide (show k ∉ l.take (j + 1) from by
              rw [List.take_succ_eq_append_getElem hjl, List.mem_append]
              rintro (h | h)
              · exact hY.out h
              · rw [List.mem_singleton] at h; exact he (HY.out.trans h.symm))
            clear he
            go_wp2_with fail
            go_round
            case rel => exact ⟨j + 1, JM1.out, by go_num, N2.out⟩
            case measure => have h9 := JM1.out; simp [intOf]; omega
        · obtain rfl : j = l.length := by omega
          have hkn : k ∉ l := by have := hY.out; rwa [List.take_of_length_le (Nat.le_refl _)] at this
          obtain ⟨k', hk'⟩ : ∃ x, x = onG ws os n k := ⟨_, rfl⟩
          have CH3 := hide (show chainF ws os n g (l ++ [k]) k' = FIN from by rw [CH2.out, if_neg (fun h => h.elim (fun h => by omega) hkn), hk'])
          have KN := hide (show 0 ≤ k' → k' < (n : Int) from by rw [hk']; exact fun h => onG_lt h)
          have ND2 := hide (show (l ++ [k]).Nodup from by
            rw [List.nodup_append]
            exact ⟨ND.out, by simp, fun x hx y hy e => by rw [List.mem_singleton] at hy; rw [e, hy] at hx; exact hkn hx⟩)
          have ON2 := hide (fun (W : World) (bw : Below w.heap.size w W) => show Calls Try.prog 15 #[.slice a p c, .slice b q d, .int .i64 (n : Int), .int .i64 k] W fun e w' => e = .returned (.int .i64 k') ∧ W = w' from by rw [hk']; exact ON.out W bw k)
          have IN2 := hide (show ∀ x ∈ l ++ [k], 0 ≤ x ∧ x < (n : Int) from by
            intro x hx
            rcases List.mem_append.1 hx with h | h
            · exact IN.out x h
            · rw [List.mem_singleton] at h; rw [h]; exact ⟨hk, KN1.out hk⟩)
          clear hY hkn hk'
          go_wp2_with (first
            | (at_builtin; refine wpList_append_src rfl (.tmp 37) (.tmp 39) _ rfl w.heap.size 3 i0 _ 8 Try.underlying22 hi0 hz0 hz1 HZ.out rfl _ _ _ rfl (O1.out.alloc _) .i64 _ 1 _ [k] rfl (ints_cell1 _ _ _ _ _ rfl) (fun h => by cases h) (by unfold maxLen; omega) (by omega) (by have := B1.out.size; simp; omega) ?_; intro v9 w9 o9 g9 t9; obtain ⟨a9, c9, e9⟩ := own_sliceI o9; subst e9; have O9 := hide o9; have B9 := hide ((B1.out.alloc B1.out.size _).grown g9 (by have := B1.out.size; simp; omega) (fun i hi => (O1.out.lt i hi).1)); clear o9 g9 t9)
            | (go_at_call 15; refine (ON2.out _ B9.out).mono ?_; rintro e w' ⟨rfl, rfl⟩))
          go_roundw
          case rel => exact ⟨l ++ [k], k', g, rfl, by simpa using O9.out, B9.out, CH3.out, ND2.out, IN2.out, by have := LF2.out; simp; omega, KN.out⟩
          case measure => simp; have := LN.out; have := LF2.out; omega
    · have G2 := hide (show FIN = l from by rw [CH2.out, if_pos (.inl (by omega))])
      go_wp2_with fail
      go_ret
      exact ⟨_, rfl, by rw [G2.out]; exact O1.out, B1.out⟩
end Go.Proofs.Ythbhbanhgmaopaa
