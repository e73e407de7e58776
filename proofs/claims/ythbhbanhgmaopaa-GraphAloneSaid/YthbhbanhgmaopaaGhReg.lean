/-
  The document's own Effective's drawn region, as theorems of its own.
-/
import Derived.Test.YthbhbanhgmaopaaGhAcyc
import Derived.Test.YthbhbanhgmaopaaPrRefsB
import Derived.Test.YthbhbanhgmaopaaCodeAt
import Derived.Deep.RegionHeld3
namespace Go.Proofs.Ythbhbanhgmaopaa
open Go.ChangeShapes Go.WideShapes Go.ChangeAt Go.RowKit
set_option linter.unusedVariables false
set_option linter.unusedSimpArgs false
noncomputable def ghregC : Code := ((Try.f23.body.bind (regionAt 9)).getD .skip)
set_option maxRecDepth 10000 in
set_option maxHeartbeats 40000000 in
theorem ghreg_no {Q0 : Exit → Act → World → Prop} {c3 c4 c5 c6 c7 c11 c12 c13 c14 c15 c16 c17 c18 c19 c20 c21 c22 c23 c24 c25 c26 c27 c28 c29 c30 c31 c32 c33 c34 c35 c36 c37 c38 c39 c40 c41 c42 c43 c44 c45 c46 c47 c48 c49 c50 c51 c52 : Value} {w6 : World} {pb po n cn p ca q cb i X k : Nat} {a b : Option Addr} {ws os : List Int} {y m : Pr} (k0 : (0 : Int) ≤ (k : Int)) (k1 : (k : Int) < (n : Int))
    (CC : Hid (∀ W : World, Below w6.heap.size w6 W → (W.cell? ⟨pb, po + k * 3, none⟩ = some (.int .i64 y.c) ∧ W.cell? ⟨pb, po + k * 3 + 1, none⟩ = some (.int .i64 y.l) ∧ W.cell? ⟨pb, po + k * 3 + 2, none⟩ = some (.int .i64 y.d)) ∧ (W.cell? ⟨X, 0, none⟩ = some (.int .i64 m.c) ∧ W.cell? ⟨X, 1, none⟩ = some (.int .i64 m.l) ∧ W.cell? ⟨X, 2, none⟩ = some (.int .i64 m.d))))
    (CHN : Hid (∀ W : World, Below w6.heap.size w6 W → Calls Try.prog 13 #[.slice a p ca, .slice b q cb, .int .i64 (n : Int), .int .i64 (k : Int)] W fun e w' => ∃ a3 c3, e = .returned (.slice a3 (chainG ws os n k).length c3) ∧ w'.ownsRow W.heap.size 3 1 (.slice a3 (chainG ws os n k).length c3) (chainG ws os n k).length ((chainG ws os n k).map (Value.int .i64)) ∧ Below W.heap.size W w'))
    (IN : Hid (∀ (W : World) (B : Nat) (a3 : Option Addr) (c3 : Nat), W.ownsRow B 3 1 (.slice a3 (chainG ws os n k).length c3) (chainG ws os n k).length ((chainG ws os n k).map (Value.int .i64)) → Calls Try.prog 33 #[.slice a3 (chainG ws os n k).length c3, .int .i64 (i : Int)] W fun e w' => e = .returned (.bool false) ∧ W = w'))
    (HE : Hid (∀ (a' : Act) (w7 : World), Below w6.heap.size w6 w7 → ∀ u27 u28 u29 u30 u31 u32 u33 u34 u35 u36 u37 u38 u39 u40 u41 u42 : Value, a' = ⟨#[(.slice (some ⟨pb, po, none⟩) n cn), (.slice a p ca), (.slice b q cb), c3, c4, c5, c6, c7, (.int .i64 (i : Int)), (.pointer (some ⟨X, 0, none⟩)), (.int .i64 (k : Int)), c11, c12, c13, c14, c15, c16, c17, c18, c19, c20, c21, c22, c23, c24, c25, c26, u27, u28, u29, u30, u31, u32, u33, u34, u35, u36, u37, u38, u39, u40, u41, u42, (.bool false), c44, c45, c46, c47, c48, c49, c50, c51, c52], []⟩ → Q0 .normal a' w7)) :
    Code.wp Try.prog ghregC Q0 ⟨#[(.slice (some ⟨pb, po, none⟩) n cn), (.slice a p ca), (.slice b q cb), c3, c4, c5, c6, c7, (.int .i64 (i : Int)), (.pointer (some ⟨X, 0, none⟩)), (.int .i64 (k : Int)), c11, c12, c13, c14, c15, c16, c17, c18, c19, c20, c21, c22, c23, c24, c25, c26, c27, c28, c29, c30, c31, c32, c33, c34, c35, c36, c37, c38, c39, c40, c41, c42, c43, c44, c45, c46, c47, c48, c49, c50, c51, c52], []⟩ w6 := by
  conv => arg 2; whnf
  have c1 := CC.out _ (Below.refl _ _)
  refine wp_region_noPanic ?_
  refine wp_region_held_drew (S := (fun w' => (w'.cell? ⟨pb, po + k * 3, none⟩ = some (.int .i64 y.c) ∧ w'.cell? ⟨pb, po + k * 3 + 1, none⟩ = some (.int .i64 y.l) ∧ w'.cell? ⟨pb, po + k * 3 + 2, none⟩ = some (.int .i64 y.d)) ∧ (w'.cell? ⟨X, 0, none⟩ = some (.int .i64 m.c) ∧ w'.cell? ⟨X, 1, none⟩ = some (.int .i64 m.l) ∧ w'.cell? ⟨X, 2, none⟩ = some (.int .i64 m.d)))) (by kernel_rfl) c1 (fun hHeld => ?_)
  refine wpAnyH_take (i := 0) (v := ?_) rfl (by kernel_rfl) (by kernel_rfl) (by kernel_rfl) (fun _ _ _ h => h) (Or.inl ⟨by kernel_rfl, ?_⟩) (by assumption) ?_
  rotate_left
  · intro w hSw
    (try dsimp only at hSw)
    go_simp
    try with_reducible rfl
  try simp only [Act.put, List.setIfInBounds_toArray, List.set_cons_zero, List.set_cons_succ]
  refine wpAnyH_take (i := 1) (v := ?_) rfl (by kernel_rfl) (by kernel_rfl) (by kernel_rfl) (fun _ _ _ h => h) (Or.inl ⟨by kernel_rfl, ?_⟩) (by assumption) ?_
  rotate_left
  · intro w hSw
    (try dsimp only at hSw)
    go_simp
    try with_reducible rfl
  try simp only [Act.put, List.setIfInBounds_toArray, List.set_cons_zero, List.set_cons_succ]
  refine wpAnyH_take (i := 2) (v := ?_) rfl (by kernel_rfl) (by kernel_rfl) (by kernel_rfl) (fun _ _ _ h => h) (Or.inl ⟨by kernel_rfl, ?_⟩) (by assumption) ?_
  rotate_left
  · intro w hSw
    (try dsimp only at hSw)
    go_simp
    try with_reducible rfl
  try simp only [Act.put, List.setIfInBounds_toArray, List.set_cons_zero, List.set_cons_succ]
  refine wpAnyH_take (i := 3) (v := ?_) rfl (by kernel_rfl) (by kernel_rfl) (by kernel_rfl) (fun _ _ _ h => h) (Or.inl ⟨by kernel_rfl, ?_⟩) (by assumption) ?_
  rotate_left
  · intro w hSw
    (try dsimp only at hSw)
    go_simp
    try with_reducible rfl
  try simp only [Act.put, List.setIfInBounds_toArray, List.set_cons_zero, List.set_cons_succ]
  refine wpAnyH_take (i := 4) (v := ?_) rfl (by kernel_rfl) (by kernel_rfl) (by kernel_rfl) (fun _ _ _ h => h) (Or.inl ⟨by kernel_rfl, ?_⟩) (by assumption) ?_
  rotate_left
  · intro w hSw
    (try dsimp only at hSw)
    go_simp
    try with_reducible rfl
  try simp only [Act.put, List.setIfInBounds_toArray, List.set_cons_zero, List.set_cons_succ]
  refine wpAnyH_take (i := 6) (v := ?_) rfl (by kernel_rfl) (by kernel_rfl) (by kernel_rfl) (fun _ _ _ h => h) (Or.inl ⟨by kernel_rfl, ?_⟩) (by assumption) ?_
  rotate_left
  · intro w hSw
    (try dsimp only at hSw)
    go_simp
    try with_reducible rfl
  try simp only [Act.put, List.setIfInBounds_toArray, List.set_cons_zero, List.set_cons_succ]
  refine wpAnyH_ready (rs := [5]) (by kernel_rfl) (by simp) ?_
  refine AllReadyH.cons rfl (fun K hK => ?_) AllReadyH.nil
  go_simp
  go_at_call 13
  refine (CHN.out _ (below_drewN (Below.refl _ _) 1)).mono ?_
  rintro e w2 ⟨a3, c3, rfl, o3, b3⟩
  have O3 := hide o3
  have b4 := (below_drewN (Below.refl w6.heap.size w6) 1).trans b3
  have B3 := hide b4
  have c2 := CC.out _ b4
  clear o3 b3 b4
  go_wp2_with fail
  refine hK.out _ _ c2 (fun hHeld2 => ?_)
  clear hK K
  try simp only [Act.put, List.setIfInBounds_toArray, List.set_cons_zero, List.set_cons_succ]
  refine wpAnyH_ready (rs := [7]) (by kernel_rfl) (by simp) ?_
  refine AllReadyH.cons rfl (fun K hK => ?_) AllReadyH.nil
  go_simp
  go_at_call 33
  refine (IN.out _ _ _ _ O3.out).mono ?_
  rintro e w' ⟨rfl, rfl⟩
  go_wp2_with fail
  refine hK.out _ _ c2 (fun hHeld3 => ?_)
  clear hK K
  try simp only [Act.put, List.setIfInBounds_toArray, List.set_cons_zero, List.set_cons_succ]
  refine wpAnyH_take (i := 8) (v := ?_) rfl (by kernel_rfl) (by kernel_rfl) (by kernel_rfl) (fun _ _ _ h => h) (Or.inl ⟨by kernel_rfl, ?_⟩) (by assumption) ?_
  rotate_left
  · intro w hSw
    (try dsimp only at hSw)
    go_simp
    try with_reducible rfl
  try simp only [Act.put, List.setIfInBounds_toArray, List.set_cons_zero, List.set_cons_succ]
  refine wpAnyH_take (i := 9) (v := undef) rfl (by kernel_rfl) (by kernel_rfl) (by kernel_rfl) (fun _ _ _ h => h) (Or.inr ⟨by kernel_rfl, rfl⟩) (by assumption) ?_
  try simp only [Act.put, List.setIfInBounds_toArray, List.set_cons_zero, List.set_cons_succ]
  refine wpAnyH_take (i := 10) (v := undef) rfl (by kernel_rfl) (by kernel_rfl) (by kernel_rfl) (fun _ _ _ h => h) (Or.inr ⟨by kernel_rfl, rfl⟩) (by assumption) ?_
  try simp only [Act.put, List.setIfInBounds_toArray, List.set_cons_zero, List.set_cons_succ]
  refine wpAnyH_take (i := 11) (v := undef) rfl (by kernel_rfl) (by kernel_rfl) (by kernel_rfl) (fun _ _ _ h => h) (Or.inr ⟨by kernel_rfl, rfl⟩) (by assumption) ?_
  try simp only [Act.put, List.setIfInBounds_toArray, List.set_cons_zero, List.set_cons_succ]
  refine wpAnyH_take (i := 12) (v := undef) rfl (by kernel_rfl) (by kernel_rfl) (by kernel_rfl) (fun _ _ _ h => h) (Or.inr ⟨by kernel_rfl, rfl⟩) (by assumption) ?_
  try simp only [Act.put, List.setIfInBounds_toArray, List.set_cons_zero, List.set_cons_succ]
  refine wpAnyH_take (i := 13) (v := undef) rfl (by kernel_rfl) (by kernel_rfl) (by kernel_rfl) (fun _ _ _ h => h) (Or.inr ⟨by kernel_rfl, rfl⟩) (by assumption) ?_
  try simp only [Act.put, List.setIfInBounds_toArray, List.set_cons_zero, List.set_cons_succ]
  refine wpAnyH_take (i := 14) (v := undef) rfl (by kernel_rfl) (by kernel_rfl) (by kernel_rfl) (fun _ _ _ h => h) (Or.inr ⟨by kernel_rfl, rfl⟩) (by assumption) ?_
  try simp only [Act.put, List.setIfInBounds_toArray, List.set_cons_zero, List.set_cons_succ]
  refine wpAnyH_take (i := 15) (v := undef) rfl (by kernel_rfl) (by kernel_rfl) (by kernel_rfl) (fun _ _ _ h => h) (Or.inr ⟨by kernel_rfl, rfl⟩) (by assumption) ?_
  try simp only [Act.put, List.setIfInBounds_toArray, List.set_cons_zero, List.set_cons_succ]
  refine wpAnyH_take (i := 16) (v := ?_) rfl (by kernel_rfl) (by kernel_rfl) (by kernel_rfl) (fun _ _ _ h => h) (Or.inl ⟨by kernel_rfl, ?_⟩) (by assumption) ?_
  rotate_left
  · intro w hSw
    (try dsimp only at hSw)
    go_simp
    try with_reducible rfl
  try simp only [Act.put, List.setIfInBounds_toArray, List.set_cons_zero, List.set_cons_succ]
  refine wpAnyH_done (by kernel_rfl) ?_ _
  go_simp
  exact HE.out _ _ B3.out _ _ _ _ _ _ _ _ _ _ _ _ _ _ _ _ rfl
set_option maxRecDepth 10000 in
set_option maxHeartbeats 40000000 in
theorem ghreg_yes {Q0 : Exit → Act → World → Prop} {c3 c4 c5 c6 c7 c11 c12 c13 c14 c15 c16 c17 c18 c19 c20 c21 c22 c23 c24 c25 c26 c27 c28 c29 c30 c31 c32 c33 c34 c35 c36 c37 c38 c39 c40 c41 c42 c43 c44 c45 c46 c47 c48 c49 c50 c51 c52 : Value} {w6 : World} {pb po n cn p ca q cb i X k : Nat} {a b : Option Addr} {ws os : List Int} {y m : Pr} {z : Int} (k0 : (0 : Int) ≤ (k : Int)) (k1 : (k : Int) < (n : Int))
    (CC : Hid (∀ W : World, Below w6.heap.size w6 W → (W.cell? ⟨pb, po + k * 3, none⟩ = some (.int .i64 y.c) ∧ W.cell? ⟨pb, po + k * 3 + 1, none⟩ = some (.int .i64 y.l) ∧ W.cell? ⟨pb, po + k * 3 + 2, none⟩ = some (.int .i64 y.d)) ∧ (W.cell? ⟨X, 0, none⟩ = some (.int .i64 m.c) ∧ W.cell? ⟨X, 1, none⟩ = some (.int .i64 m.l) ∧ W.cell? ⟨X, 2, none⟩ = some (.int .i64 m.d))))
    (CHN : Hid (∀ W : World, Below w6.heap.size w6 W → Calls Try.prog 13 #[.slice a p ca, .slice b q cb, .int .i64 (n : Int), .int .i64 (k : Int)] W fun e w' => ∃ a3 c3, e = .returned (.slice a3 (chainG ws os n k).length c3) ∧ w'.ownsRow W.heap.size 3 1 (.slice a3 (chainG ws os n k).length c3) (chainG ws os n k).length ((chainG ws os n k).map (Value.int .i64)) ∧ Below W.heap.size W w'))
    (IN : Hid (∀ (W : World) (B : Nat) (a3 : Option Addr) (c3 : Nat), W.ownsRow B 3 1 (.slice a3 (chainG ws os n k).length c3) (chainG ws os n k).length ((chainG ws os n k).map (Value.int .i64)) → Calls Try.prog 33 #[.slice a3 (chainG ws os n k).length c3, .int .i64 (i : Int)] W fun e w' => e = .returned (.bool true) ∧ W = w'))
    (CMP : Hid (∀ W : World, Calls Try.prog 37 #[.agg #[.int .i64 y.c, .int .i64 y.l, .int .i64 y.d], .agg #[.int .i64 m.c, .int .i64 m.l, .int .i64 m.d]] W fun e w' => e = .returned (.int .i64 z) ∧ Below W.heap.size W w'))
    (HE : Hid (∀ (a' : Act) (w7 : World), Below w6.heap.size w6 w7 → ∀ u27 u28 u29 u30 u31 u32 u33 u34 u35 u36 u37 u38 u39 u40 u41 u42 : Value, a' = ⟨#[(.slice (some ⟨pb, po, none⟩) n cn), (.slice a p ca), (.slice b q cb), c3, c4, c5, c6, c7, (.int .i64 (i : Int)), (.pointer (some ⟨X, 0, none⟩)), (.int .i64 (k : Int)), c11, c12, c13, c14, c15, c16, c17, c18, c19, c20, c21, c22, c23, c24, c25, c26, u27, u28, u29, u30, u31, u32, u33, u34, u35, u36, u37, u38, u39, u40, u41, u42, (.bool (decide (0 < z))), c44, c45, c46, c47, c48, c49, c50, c51, c52], []⟩ → Q0 .normal a' w7)) :
    Code.wp Try.prog ghregC Q0 ⟨#[(.slice (some ⟨pb, po, none⟩) n cn), (.slice a p ca), (.slice b q cb), c3, c4, c5, c6, c7, (.int .i64 (i : Int)), (.pointer (some ⟨X, 0, none⟩)), (.int .i64 (k : Int)), c11, c12, c13, c14, c15, c16, c17, c18, c19, c20, c21, c22, c23, c24, c25, c26, c27, c28, c29, c30, c31, c32, c33, c34, c35, c36, c37, c38, c39, c40, c41, c42, c43, c44, c45, c46, c47, c48, c49, c50, c51, c52], []⟩ w6 := by
  conv => arg 2; whnf
  have c1 := CC.out _ (Below.refl _ _)
  refine wp_region_noPanic ?_
  refine wp_region_held_drew (S := (fun w' => (w'.cell? ⟨pb, po + k * 3, none⟩ = some (.int .i64 y.c) ∧ w'.cell? ⟨pb, po + k * 3 + 1, none⟩ = some (.int .i64 y.l) ∧ w'.cell? ⟨pb, po + k * 3 + 2, none⟩ = some (.int .i64 y.d)) ∧ (w'.cell? ⟨X, 0, none⟩ = some (.int .i64 m.c) ∧ w'.cell? ⟨X, 1, none⟩ = some (.int .i64 m.l) ∧ w'.cell? ⟨X, 2, none⟩ = some (.int .i64 m.d)))) (by kernel_rfl) c1 (fun hHeld => ?_)
  refine wpAnyH_take (i := 0) (v := ?_) rfl (by kernel_rfl) (by kernel_rfl) (by kernel_rfl) (fun _ _ _ h => h) (Or.inl ⟨by kernel_rfl, ?_⟩) (by assumption) ?_
  rotate_left
  · intro w hSw
    (try dsimp only at hSw)
    go_simp
    try with_reducible rfl
  try simp only [Act.put, List.setIfInBounds_toArray, List.set_cons_zero, List.set_cons_succ]
  refine wpAnyH_take (i := 1) (v := ?_) rfl (by kernel_rfl) (by kernel_rfl) (by kernel_rfl) (fun _ _ _ h => h) (Or.inl ⟨by kernel_rfl, ?_⟩) (by assumption) ?_
  rotate_left
  · intro w hSw
    (try dsimp only at hSw)
    go_simp
    try with_reducible rfl
  try simp only [Act.put, List.setIfInBounds_toArray, List.set_cons_zero, List.set_cons_succ]
  refine wpAnyH_take (i := 2) (v := ?_) rfl (by kernel_rfl) (by kernel_rfl) (by kernel_rfl) (fun _ _ _ h => h) (Or.inl ⟨by kernel_rfl, ?_⟩) (by assumption) ?_
  rotate_left
  · intro w hSw
    (try dsimp only at hSw)
    go_simp
    try with_reducible rfl
  try simp only [Act.put, List.setIfInBounds_toArray, List.set_cons_zero, List.set_cons_succ]
  refine wpAnyH_take (i := 3) (v := ?_) rfl (by kernel_rfl) (by kernel_rfl) (by kernel_rfl) (fun _ _ _ h => h) (Or.inl ⟨by kernel_rfl, ?_⟩) (by assumption) ?_
  rotate_left
  · intro w hSw
    (try dsimp only at hSw)
    go_simp
    try with_reducible rfl
  try simp only [Act.put, List.setIfInBounds_toArray, List.set_cons_zero, List.set_cons_succ]
  refine wpAnyH_take (i := 4) (v := ?_) rfl (by kernel_rfl) (by kernel_rfl) (by kernel_rfl) (fun _ _ _ h => h) (Or.inl ⟨by kernel_rfl, ?_⟩) (by assumption) ?_
  rotate_left
  · intro w hSw
    (try dsimp only at hSw)
    go_simp
    try with_reducible rfl
  try simp only [Act.put, List.setIfInBounds_toArray, List.set_cons_zero, List.set_cons_succ]
  refine wpAnyH_take (i := 6) (v := ?_) rfl (by kernel_rfl) (by kernel_rfl) (by kernel_rfl) (fun _ _ _ h => h) (Or.inl ⟨by kernel_rfl, ?_⟩) (by assumption) ?_
  rotate_left
  · intro w hSw
    (try dsimp only at hSw)
    go_simp
    try with_reducible rfl
  try simp only [Act.put, List.setIfInBounds_toArray, List.set_cons_zero, List.set_cons_succ]
  refine wpAnyH_ready (rs := [5]) (by kernel_rfl) (by simp) ?_
  refine AllReadyH.cons rfl (fun K hK => ?_) AllReadyH.nil
  go_simp
  go_at_call 13
  refine (CHN.out _ (below_drewN (Below.refl _ _) 1)).mono ?_
  rintro e w2 ⟨a3, c3, rfl, o3, b3⟩
  have O3 := hide o3
  have b4 := (below_drewN (Below.refl w6.heap.size w6) 1).trans b3
  have B3 := hide b4
  have c2 := CC.out _ b4
  clear o3 b3 b4
  go_wp2_with fail
  refine hK.out _ _ c2 (fun hHeld2 => ?_)
  clear hK K
  try simp only [Act.put, List.setIfInBounds_toArray, List.set_cons_zero, List.set_cons_succ]
  refine wpAnyH_ready (rs := [7]) (by kernel_rfl) (by simp) ?_
  refine AllReadyH.cons rfl (fun K hK => ?_) AllReadyH.nil
  go_simp
  go_at_call 33
  refine (IN.out _ _ _ _ O3.out).mono ?_
  rintro e w' ⟨rfl, rfl⟩
  go_wp2_with fail
  refine hK.out _ _ c2 (fun hHeld3 => ?_)
  clear hK K
  try simp only [Act.put, List.setIfInBounds_toArray, List.set_cons_zero, List.set_cons_succ]
  refine wpAnyH_take (i := 8) (v := ?_) rfl (by kernel_rfl) (by kernel_rfl) (by kernel_rfl) (fun _ _ _ h => h) (Or.inl ⟨by kernel_rfl, ?_⟩) (by assumption) ?_
  rotate_left
  · intro w hSw
    (try dsimp only at hSw)
    go_simp
    try with_reducible rfl
  try simp only [Act.put, List.setIfInBounds_toArray, List.set_cons_zero, List.set_cons_succ]
  refine wpAnyH_take (i := 9) (v := ?_) rfl (by kernel_rfl) (by kernel_rfl) (by kernel_rfl) (fun _ _ _ h => h) (Or.inl ⟨by kernel_rfl, ?_⟩) (by assumption) ?_
  rotate_left
  · intro w hSw
    (try dsimp only at hSw)
    go_simp
    try with_reducible rfl
  try simp only [Act.put, List.setIfInBounds_toArray, List.set_cons_zero, List.set_cons_succ]
  refine wpAnyH_take (i := 10) (v := ?_) rfl (by kernel_rfl) (by kernel_rfl) (by kernel_rfl) (fun _ _ _ h => h) (Or.inl ⟨by kernel_rfl, ?_⟩) (by assumption) ?_
  rotate_left
  · intro w hSw
    (try dsimp only at hSw)
    go_simp
    try with_reducible rfl
  try simp only [Act.put, List.setIfInBounds_toArray, List.set_cons_zero, List.set_cons_succ]
  refine wpAnyH_take (i := 11) (v := ?_) rfl (by kernel_rfl) (by kernel_rfl) (by kernel_rfl) (fun _ _ _ h => h) (Or.inl ⟨by kernel_rfl, ?_⟩) (by assumption) ?_
  rotate_left
  · intro w hSw
    (try dsimp only at hSw)
    go_simp
    try with_reducible rfl
  try simp only [Act.put, List.setIfInBounds_toArray, List.set_cons_zero, List.set_cons_succ]
  refine wpAnyH_take (i := 12) (v := ?_) rfl (by kernel_rfl) (by kernel_rfl) (by kernel_rfl) (fun _ _ _ h => h) (Or.inl ⟨by kernel_rfl, ?_⟩) (by assumption) ?_
  rotate_left
  · intro w hSw
    (try dsimp only at hSw)
    go_simp
    try with_reducible rfl
  try simp only [Act.put, List.setIfInBounds_toArray, List.set_cons_zero, List.set_cons_succ]
  refine wpAnyH_take (i := 13) (v := ?_) rfl (by kernel_rfl) (by kernel_rfl) (by kernel_rfl) (fun _ _ _ h => h) (Or.inl ⟨by kernel_rfl, ?_⟩) (by assumption) ?_
  rotate_left
  · intro w hSw
    (try dsimp only at hSw)
    go_simp
    try with_reducible rfl
  try simp only [Act.put, List.setIfInBounds_toArray, List.set_cons_zero, List.set_cons_succ]
  refine wpAnyH_ready (rs := [14]) (by kernel_rfl) (by simp) ?_
  refine AllReadyH.cons rfl (fun K hK => ?_) AllReadyH.nil
  go_simp
  go_at_call 37
  refine (CMP.out _).mono ?_
  rintro e w9 ⟨rfl, b9⟩
  have b10 := B3.out.trans (b9.mono B3.out.size)
  have B9 := hide b10
  have c9 := CC.out _ b10
  clear b9 b10
  go_wp2_with fail
  refine hK.out _ _ c9 (fun hHeld4 => ?_)
  clear hK K
  try simp only [Act.put, List.setIfInBounds_toArray, List.set_cons_zero, List.set_cons_succ]
  refine wpAnyH_take (i := 15) (v := ?_) rfl (by kernel_rfl) (by kernel_rfl) (by kernel_rfl) (fun _ _ _ h => h) (Or.inl ⟨by kernel_rfl, ?_⟩) (by assumption) ?_
  rotate_left
  · intro w hSw
    (try dsimp only at hSw)
    go_simp
    try with_reducible rfl
  try simp only [Act.put, List.setIfInBounds_toArray, List.set_cons_zero, List.set_cons_succ]
  refine wpAnyH_take (i := 16) (v := ?_) rfl (by kernel_rfl) (by kernel_rfl) (by kernel_rfl) (fun _ _ _ h => h) (Or.inl ⟨by kernel_rfl, ?_⟩) (by assumption) ?_
  rotate_left
  · intro w hSw
    (try dsimp only at hSw)
    go_simp
    try with_reducible rfl
  try simp only [Act.put, List.setIfInBounds_toArray, List.set_cons_zero, List.set_cons_succ]
  refine wpAnyH_done (by kernel_rfl) ?_ _
  go_simp
  exact HE.out _ _ B9.out _ _ _ _ _ _ _ _ _ _ _ _ _ _ _ _ rfl
end Go.Proofs.Ythbhbanhgmaopaa
