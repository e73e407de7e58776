/-
  The walk of the law NumPieces.
-/
import Derived.Test.YtpmkkgcpoiaebaaNumAwake
import Derived.Test.YtpmkkgcpoiaebaaMem
namespace Go.Proofs.Ytpmkkgcpoiaebaa
open Go.ChangeShapes Go.WideShapes Go.ChangeAt Go.RowKit
set_option linter.unusedVariables false
theorem int_info : (Try.prog.info? 3).map (fun i => (i.zero, i.size, i.bytes)) = some (some (.int .i64 0), 1, 8) := by kernel_rfl
theorem add_own (v : Value) (n : Nat) (xs : List Int) (w : World) {base : Nat} {e : TypeId} (h : w.ownsRow base e 1 v n (xs.map (Value.int .i64))) (hn : n ≤ 9223372036854775807) :
    Calls Try.prog 12 #[v] w fun e w' => e = .returned (.int .i64 (sum xs)) ∧ w = w' := by
  obtain ⟨A, c, rfl, hi, _⟩ := own_ints h
  exact add_any A n c xs w hi hn
theorem pieces_own {w2 w3 w4 : World} {B n m : Nat} {e : TypeId} {v2 v3 v4 : Value} {xs ys : List Int} (o2 : w2.ownsRow B e 1 v2 (0 + n + m) ([] ++ xs.map (Value.int .i64) ++ ys.map (Value.int .i64)))
    (g3 : w2.grownBy w3 (Value.slice none 0 0).ownBlock) (t3 : v3.ownBlock = (Value.slice none 0 0).ownBlock ∨ v3.ownBlock = some w2.heap.size) (g4 : w3.grownBy w4 v3.ownBlock)
    (o4 : w4.ownsRow B e 1 v4 (0 + m + n) ([] ++ ys.map (Value.int .i64) ++ xs.map (Value.int .i64))) :
    w4.ownsRow B e 1 v2 (n + m) ((xs ++ ys).map (Value.int .i64)) ∧ w4.ownsRow B e 1 v4 (m + n) ((ys ++ xs).map (Value.int .i64)) := by
  refine ⟨?_, by simpa using o4⟩
  have := own_kept_new o2 g3 g4 t3
  simpa using this

set_option maxHeartbeats 800000 in
theorem pieces_small (a : Option Addr) (n c : Nat) (xs : List Int) (b : Option Addr) (m d : Nat) (ys : List Int) (w : World) (ha : Ints .i64 w a n xs) (hb : Ints .i64 w b m ys)
    (na : a = none → c = 0) (nb : b = none → d = 0) (hn : n ≤ 25) (hm : m ≤ 25) :
    Calls Try.prog 7 #[.slice a n c, .slice b m d] w fun e w' => e = .returned (.bool true) ∧ Below w.heap.size w w' := by
  obtain ⟨i0, hi0, hz0, hz1, hz2⟩ := info_parts int_info
  have l1 : ¬ (25 : Int) < (n : Int) := by omega
  have l2 : ¬ (25 : Int) < (m : Int) := by omega
  have f1 : (sum (xs ++ ys) == sum [sum xs, sum ys]) = true := by rw [sum_append]; simp
  have f2 : (sum (xs ++ ys) == sum (ys ++ xs)) = true := by rw [sum_turned]; simp
  go_enter Try.func7, Try.ntmps7
  go_wp2_with (first
    | (at_builtin; refine wpList_append_src rfl (.const (.slice none 0 0)) (.tmp 17) _ rfl w.heap.size 3 i0 _ 8 Try.underlying22 hi0 hz0 hz1 hz2 rfl (.slice none 0 0) 0 ([]) rfl (World.ownsRow_nil _ _ _ _) .i64 a n c xs rfl ha na (by unfold maxLen; omega) (by omega) (Nat.le_refl _) ?_; intro v1 w1 o1 g1 t1; have b1 := (Below.refl w.heap.size w).grown g1 (Nat.le_refl _) (by simp [Value.ownBlock]))
    | (at_builtin; refine wpList_append_src rfl (.tmp 18) (.tmp 19) _ rfl w.heap.size 3 i0 _ 8 Try.underlying22 hi0 hz0 hz1 hz2 rfl (v1) (0 + n) ([] ++ xs.map (Value.int .i64)) rfl o1 .i64 b m d ys rfl (hb.below b1) nb (by unfold maxLen; omega) (by omega) b1.size ?_; intro v2 w2 o2 g2 t2; have b2 := b1.grown g2 b1.size (own_lo o1))
    | (at_builtin; refine wpList_append_src rfl (.const (.slice none 0 0)) (.tmp 21) _ rfl w.heap.size 3 i0 _ 8 Try.underlying22 hi0 hz0 hz1 hz2 rfl (.slice none 0 0) 0 ([]) rfl (World.ownsRow_nil _ _ _ _) .i64 b m d ys rfl (hb.below b2) nb (by unfold maxLen; omega) (by omega) b2.size ?_; intro v3 w3 o3 g3 t3; have b3 := b2.grown g3 b2.size (by simp [Value.ownBlock]))
    | (at_builtin; refine wpList_append_src rfl (.tmp 22) (.tmp 23) _ rfl w.heap.size 3 i0 _ 8 Try.underlying22 hi0 hz0 hz1 hz2 rfl (v3) (0 + m) ([] ++ ys.map (Value.int .i64)) rfl o3 .i64 a n c xs rfl (ha.below b3) na (by unfold maxLen; omega) (by omega) b3.size ?_; intro v4 w4 o4 g4 t4; have b4 := b3.grown g4 b3.size (own_lo o3); obtain ⟨O2, O4⟩ := pieces_own o2 g3 t3 g4 o4; clear o1 o2 o3 o4 g1 g2 g3 g4 t1 t2 t3 t4)
    | (go_at_call 12; with_reducible refine (add_any a n c xs _ (ha.below b4) (by omega)).mono ?_; rintro e w' ⟨rfl, rfl⟩)
    | (go_at_call 12; with_reducible refine (add_any b m d ys _ (hb.below b4) (by omega)).mono ?_; rintro e w' ⟨rfl, rfl⟩)
    | (go_at_call 12; with_reducible refine (add_any _ 2 2 [_, _] _ (ints_two_at _ _ _ _ _ _ (by simp)) (by omega)).mono ?_; rintro e w' ⟨rfl, rfl⟩)
    | (go_at_call 12; with_reducible refine (add_own v2 (n + m) (xs ++ ys) _ O2 (by omega)).mono ?_; rintro e w' ⟨rfl, rfl⟩)
    | (go_at_call 12; with_reducible refine (add_own v4 (m + n) (ys ++ xs) _ (O4.alloc _) (by omega)).mono ?_; rintro e w' ⟨rfl, rfl⟩)
    | (go_at_call 8; refine (awake_any _).mono ?_; rintro e w' ⟨rfl, hz⟩))
  go_ret
  exact ⟨rfl, b4.trans ((below_one hz (by simp)).mono b4.size)⟩

theorem walk_numPieces (w : World) (a : Option Addr) (n c : Nat) (xs : List Int) (ha : CameIn .i64 w a n c xs) (b : Option Addr) (m d : Nat) (ys : List Int) (hb : CameIn .i64 w b m d ys) :
    Calls Try.prog 7 #[.slice a n c, .slice b m d] w fun e w' => e = .returned (.bool true) ∧ Below w.heap.size w w' := by
  obtain ⟨ia, na, ma, za, _⟩ := ha
  obtain ⟨ib, nb, mb, zb, _⟩ := hb
  unfold maxLen at ma mb
  by_cases h : (25 : Int) < (n : Int)
  · clear ia ib za zb
    go_enter Try.func7, Try.ntmps7
    go_wp2_with (go_at_call 8; refine (awake_any _).mono ?_; rintro e w' ⟨rfl, hz⟩)
    go_ret
    exact ⟨rfl, hz⟩
  by_cases k : (25 : Int) < (m : Int)
  · clear ia ib za zb
    go_enter Try.func7, Try.ntmps7
    go_wp2_with (go_at_call 8; refine (awake_any _).mono ?_; rintro e w' ⟨rfl, hz⟩)
    go_ret
    exact ⟨rfl, hz⟩
  exact pieces_small a n c xs b m d ys w ia ib za zb (by omega) (by omega)
end Go.Proofs.Ytpmkkgcpoiaebaa
