/-
  Several texts as one: GnNet GnOn GnAlongP GnAlong GnTold GnChain.
-/
import Derived.Test.YthbhbanhgmaopaaGhBoth
import Derived.Test.YthbhbanhgmaopaaSsAll
import Derived.Maps.OwnSet
namespace Go.Proofs.Ythbhbanhgmaopaa
open Go.ChangeShapes Go.WideShapes Go.ChangeAt Go.RowKit
set_option linter.unusedVariables false
/-- How many threads may wait. -/
def waitG (n : Int) (p : Nat) : Nat := min n.toNat p
set_option maxHeartbeats 4000000 in
theorem waiting_any (w : World) (a : Option Addr) (p ca : Nat) (b : Option Addr) (q cb : Nat) (n : Int) (hp : p ≤ 25) :
    Calls Try.prog 31 #[.agg #[.slice a p ca, .slice b q cb, .int .i64 n]] w fun e w' => e = .returned (.int .i64 (waitG n p : Nat)) ∧ Below w.heap.size w w' := by
  have p0 : (0 : Int) ≤ (p : Int) := by omega
  have B1 := hide ((Below.refl w.heap.size w).alloc (Nat.le_refl _) (.cells #[.slice a p ca, .slice b q cb, .int .i64 n] 44))
  have HW := hide (show (n ≤ 0 → (0 : Int) = (waitG n p : Nat)) ∧ (0 ≤ n → n ≤ (p : Int) → n = (waitG n p : Nat)) ∧ ((p : Int) ≤ n → (p : Int) = (waitG n p : Nat)) from by unfold waitG; omega)
  clear hp
  by_cases h1 : 0 < n
  · by_cases h2 : n ≤ (p : Int)
    · have HE := hide (HW.out.2.1 (by omega) h2)
      go_enter Try.func31, Try.ntmps31
      go_wp2_with fail
      go_ret
      exact ⟨ret_int HE.out, B1.out⟩
    · have HE := hide (HW.out.2.2 (by omega))
      have h5 : (p : Int) < n := by omega
      by_cases h6 : 0 < (p : Int)
      · go_enter Try.func31, Try.ntmps31
        go_wp2_with fail
        go_ret
        exact ⟨ret_int HE.out, B1.out⟩
      · have hp0 : p = 0 := by omega
        subst hp0
        go_enter Try.func31, Try.ntmps31
        go_wp2_with fail
        go_ret
        exact ⟨ret_int HE.out, B1.out⟩
  · have HE := hide (HW.out.1 (by omega))
    have h2 : n ≤ (p : Int) := by omega
    by_cases h7 : n = 0
    · subst h7
      go_enter Try.func31, Try.ntmps31
      go_wp2_with fail
      go_ret
      exact ⟨ret_int HE.out, B1.out⟩
    · have h8 : n < 0 := by omega
      go_enter Try.func31, Try.ntmps31
      go_wp2_with fail
      go_ret
      exact ⟨ret_int HE.out, B1.out⟩
set_option maxHeartbeats 4000000 in
theorem has_any (w : World) (a : Option Addr) (p ca : Nat) (b : Option Addr) (q cb : Nat) (n k : Int) (u : Bool) (hu : u = decide (0 ≤ k ∧ k < n)) :
    Calls Try.prog 39 #[.agg #[.slice a p ca, .slice b q cb, .int .i64 n], .int .i64 k] w fun e w' => e = .returned (.bool u) ∧ Below w.heap.size w w' := by
  have B1 := hide ((Below.refl w.heap.size w).alloc (Nat.le_refl _) (.cells #[.slice a p ca, .slice b q cb, .int .i64 n] 44))
  have HU := hide hu
  clear hu
  by_cases h1 : 0 ≤ k
  · by_cases h2 : k < n
    · have HE := hide (show true = u from by rw [HU.out, decide_eq_true ⟨h1, h2⟩])
      go_enter Try.func39, Try.ntmps39
      go_wp2_with fail
      go_ret
      exact ⟨ret_bool HE.out, B1.out⟩
    · have HE := hide (show false = u from by rw [HU.out, decide_eq_false (fun h => h2 h.2)])
      go_enter Try.func39, Try.ntmps39
      go_wp2_with fail
      go_ret
      exact ⟨ret_bool HE.out, B1.out⟩
  · have HE := hide (show false = u from by rw [HU.out, decide_eq_false (fun h => h1 h.1)])
    go_enter Try.func39, Try.ntmps39
    go_wp2_with fail
    go_ret
    exact ⟨ret_bool HE.out, B1.out⟩
theorem waitG_iff {n i : Int} {p : Nat} (h : 0 ≤ i) : i < (waitG n p : Nat) ↔ i < n ∧ i < (p : Int) := by unfold waitG; omega
/-- A net, boxed. -/
def NetAt (w : World) (X : Nat) (a : Option Addr) (p ca : Nat) (b : Option Addr) (q cb : Nat) (n : Int) : Prop := w.heap[X]? = some (.cells #[.slice a p ca, .slice b q cb, .int .i64 n] 44 (0, 0))
theorem NetAt.below {w w' : World} {X : Nat} {a : Option Addr} {p ca : Nat} {b : Option Addr} {q cb : Nat} {n : Int} (h : NetAt w X a p ca b q cb n) (k : Below w.heap.size w w') : NetAt w' X a p ca b q cb n := (k.block X (lt_of_heap h)).trans h
theorem NetAt.cells {w : World} {X : Nat} {a : Option Addr} {p ca : Nat} {b : Option Addr} {q cb : Nat} {n : Int} (h : NetAt w X a p ca b q cb n) : w.cell? ⟨X, 0, none⟩ = some (.slice a p ca) ∧ w.cell? ⟨X, 1, none⟩ = some (.slice b q cb) ∧ w.cell? ⟨X, 2, none⟩ = some (.int .i64 n) := by
  refine ⟨?_, ?_, ?_⟩ <;> rw [cell_of_row _ _ _ _ _ _ h] <;> rfl
end Go.Proofs.Ythbhbanhgmaopaa
namespace Go.Proofs.Ythbhbanhgmaopaa
open Go.ChangeShapes Go.WideShapes Go.ChangeAt Go.RowKit
set_option linter.unusedVariables false
set_option maxHeartbeats 8000000 in
theorem on_any (w : World) (a : Option Addr) (p ca : Nat) (ws : List Int) (b : Option Addr) (q cb : Nat) (os : List Int) (n i : Int) (ha : Ints .i64 w a p ws) (hb : Ints .i64 w b q os) (hp : p ≤ 25) (hq : q ≤ 25) :
    Calls Try.prog 29 #[.agg #[.slice a p ca, .slice b q cb, .int .i64 n], .int .i64 i] w fun e w' => e = .returned (.int .i64 (onG ws os n i)) ∧ Below w.heap.size w w' := by
  obtain ⟨G, hG⟩ : ∃ G, G = onG ws os n i := ⟨_, rfl⟩
  rw [← hG]
  have HG := hide hG
  have WA := hide (fun (W : World) => waiting_any W a p ca b q cb n hp)
  have HAS := hide (fun (W : World) (k : Int) (u : Bool) => has_any W a p ca b q cb n k u)
  obtain ⟨w1, hw1⟩ : ∃ w1, w1 = w.alloc (.cells #[.slice a p ca, .slice b q cb, .int .i64 n] 44) := ⟨_, rfl⟩
  obtain ⟨X, hX⟩ : ∃ X, X = w.heap.size := ⟨_, rfl⟩
  have b1 : Below w.heap.size w w1 := by rw [hw1]; exact (Below.refl w.heap.size w).alloc (Nat.le_refl _) _
  have B1 := hide b1
  have HW1 := hide hw1
  have HX := hide hX
  have N1 := hide (show NetAt w1 X a p ca b q cb n from by rw [hw1, hX]; exact heap_alloc_new _ _)
  have LA := ha.1
  have LB := hb.1
  have HA1 := ha.below b1
  have HB1 := hb.below b1
  obtain ⟨x0, x1, x2⟩ := N1.out.cells
  have L1 := hide (show w.heap.size ≤ w1.heap.size from b1.size)
  clear hG hw1 hX b1 ha hb
  by_cases h1 : i < 0
  · have G2 := hide (show G = -1 from by rw [HG.out]; unfold onG; rw [if_pos (.inl h1)])
    clear HA1 HB1
    go_enter Try.func29, Try.ntmps29
    go_upto_region 1 with fail
    rw [← HW1.out, ← HX.out]
    go_wp2_with fail
    go_ret
    exact ⟨ret_int G2.out.symm, B1.out⟩
  obtain ⟨W, hW⟩ : ∃ W : Nat, W = waitG n p := ⟨_, rfl⟩
  rw [← hW] at WA
  by_cases h2 : i < (W : Int)
  · have h3 : i < n ∧ i < (p : Int) := (waitG_iff (show (0 : Int) ≤ i by omega)).1 (by rw [← hW]; exact h2)
    obtain ⟨k, rfl⟩ : ∃ k : Nat, i = (k : Int) := ⟨i.toNat, by omega⟩
    have hk : k < p := by omega
    obtain ⟨ab, ao, rfl, ca'⟩ := HA1.cell hk
    obtain ⟨m, hm⟩ : ∃ m, m = ws.getD k 0 := ⟨_, rfl⟩
    rw [← hm] at ca'
    have O1 := hide (show G = if m < 0 ∨ (os.length : Int) ≤ m then -1 else if os.getD m.toNat 0 < 0 ∨ n ≤ os.getD m.toNat 0 then -1 else os.getD m.toNat 0 from by
      rw [HG.out]; unfold onG; rw [if_neg (by rw [LA]; omega), Int.toNat_natCast, ← hm])
    have k0 : (0 : Int) ≤ (k : Int) := by omega
    have k1 : (k : Int) < (p : Int) := by omega
    have ABL := hide (show ab < w1.heap.size from lt_of_cell? ca')
    clear hm hW HA1 h3 hk HG LA
    by_cases h4 : m < 0
    · have G2 := hide (show G = -1 from by rw [O1.out, if_pos (.inl h4)])
      clear HB1
      go_enter Try.func29, Try.ntmps29
      go_upto_region 1 with fail
      rw [← HW1.out, ← HX.out]
      go_upto_region 4 with (go_at_call 31; refine (WA.out _).mono ?_; rintro e w2 ⟨rfl, b2⟩; have y0 := (b2.cell (p := ⟨X, 0, none⟩) (lt_of_heap N1.out)).trans x0; have ca2 := (b2.cell (p := ⟨ab, ao + k, none⟩) ABL.out).trans ca'; have B2 := hide (B1.out.trans (b2.mono B1.out.size)); clear b2)
      go_quiet (fail)
      go_wp2_with fail
      go_ret
      exact ⟨ret_int G2.out.symm, by first | exact B2.out | exact below_drewN B2.out _⟩
    by_cases h5 : (q : Int) ≤ m
    · have G2 := hide (show G = -1 from by rw [O1.out, if_pos (.inr (by rw [LB]; exact h5))])
      have jn : (m < 0) = False := eq_false h4
      have jq : ((q : Int) ≤ m) = True := eq_true h5
      clear HB1
      go_enter Try.func29, Try.ntmps29
      go_upto_region 1 with fail
      rw [← HW1.out, ← HX.out]
      go_upto_region 4 with (go_at_call 31; refine (WA.out _).mono ?_; rintro e w2 ⟨rfl, b2⟩; have y0 := (b2.cell (p := ⟨X, 0, none⟩) (lt_of_heap N1.out)).trans x0; have y1 := (b2.cell (p := ⟨X, 1, none⟩) (lt_of_heap N1.out)).trans x1; have ca2 := (b2.cell (p := ⟨ab, ao + k, none⟩) ABL.out).trans ca'; have B2 := hide (B1.out.trans (b2.mono B1.out.size)); clear b2)
      go_quiet (fail)
      go_wp2_with fail
      go_ret
      exact ⟨ret_int G2.out.symm, by first | exact B2.out | exact below_drewN B2.out _⟩
    obtain ⟨j, rfl⟩ : ∃ j : Nat, m = (j : Int) := ⟨m.toNat, by omega⟩
    have hj : j < q := by omega
    obtain ⟨bb, bo, rfl, cb'⟩ := HB1.cell hj
    obtain ⟨o, ho⟩ : ∃ o, o = os.getD j 0 := ⟨_, rfl⟩
    rw [← ho] at cb'
    have O2 := hide (show G = if o < 0 ∨ n ≤ o then -1 else o from by
      rw [O1.out, if_neg (by rw [LB]; omega), Int.toNat_natCast, ← ho])
    have BBL := hide (show bb < w1.heap.size from lt_of_cell? cb')
    have j0 : (0 : Int) ≤ (j : Int) := by omega
    have j1 : (j : Int) < (q : Int) := by omega
    have jn : ((j : Int) < 0) = False := eq_false (by omega)
    have jq : ((q : Int) ≤ (j : Int)) = False := eq_false (by omega)
    obtain ⟨u, hu⟩ : ∃ u, u = decide (0 ≤ o ∧ o < n) := ⟨_, rfl⟩
    have CH := hide (fun W => HAS.out W o u hu)
    have HU := hide hu
    have TO := hide (show ∀ W', Below w1.heap.size w1 W' → (W'.cell? ⟨X, 0, none⟩ = some (.slice (some ⟨ab, ao, none⟩) p ca) ∧ W'.cell? ⟨X, 1, none⟩ = some (.slice (some ⟨bb, bo, none⟩) q cb) ∧ W'.cell? ⟨X, 2, none⟩ = some (.int .i64 n)) ∧ W'.cell? ⟨ab, ao + k, none⟩ = some (.int .i64 (j : Int)) ∧ W'.cell? ⟨bb, bo + j, none⟩ = some (.int .i64 o) from fun W' hb =>
      ⟨⟨(hb.cell (p := ⟨X, 0, none⟩) (lt_of_heap N1.out)).trans x0, (hb.cell (p := ⟨X, 1, none⟩) (lt_of_heap N1.out)).trans x1, (hb.cell (p := ⟨X, 2, none⟩) (lt_of_heap N1.out)).trans x2⟩, (hb.cell (p := ⟨ab, ao + k, none⟩) ABL.out).trans ca', (hb.cell (p := ⟨bb, bo + j, none⟩) BBL.out).trans cb'⟩)
    clear ho HB1 hj hu O1 HAS
    cases u with
    | false =>
      have G2 := hide (show G = -1 from by
        have h := of_decide_eq_false HU.out.symm
        rw [O2.out, if_pos (by omega)])
      go_enter Try.func29, Try.ntmps29
      go_upto_region 1 with fail
      rw [← HW1.out, ← HX.out]
      go_upto_region 4 with (go_at_call 31; refine (WA.out _).mono ?_; rintro e w2 ⟨rfl, b2⟩; have BW := hide b2; have Y2 := hide (TO.out w2 b2); obtain ⟨⟨y0, y1, y2⟩, yk, yj⟩ := TO.out w2 b2; clear b2 x0 x1 x2 ca' cb')
      go_region_held3 (fun w' => (w'.cell? ⟨X, 0, none⟩ = some (.slice (some ⟨ab, ao, none⟩) p ca) ∧ w'.cell? ⟨X, 1, none⟩ = some (.slice (some ⟨bb, bo, none⟩) q cb) ∧ w'.cell? ⟨X, 2, none⟩ = some (.int .i64 n)) ∧ w'.cell? ⟨ab, ao + k, none⟩ = some (.int .i64 (j : Int)) ∧ w'.cell? ⟨bb, bo + j, none⟩ = some (.int .i64 o)) (first | exact Y2.out | exact Y3.out) ((go_at_call 39; refine (CH.out _).mono ?_; rintro e w3 ⟨rfl, b3⟩; have B3 := hide (BW.out.trans (((below_drewN (Below.refl w2.heap.size w2) 1).trans b3).mono BW.out.size)); have Y3 := hide (TO.out w3 B3.out); clear b3))
      go_wp2_with fail
      go_ret
      exact ⟨ret_int G2.out.symm, B1.out.trans (B3.out.mono B1.out.size)⟩
    | true =>
      have G2 := hide (show G = o from by
        have h := of_decide_eq_true HU.out.symm
        rw [O2.out, if_neg (by omega)])
      go_enter Try.func29, Try.ntmps29
      go_upto_region 1 with fail
      rw [← HW1.out, ← HX.out]
      go_upto_region 4 with (go_at_call 31; refine (WA.out _).mono ?_; rintro e w2 ⟨rfl, b2⟩; have BW := hide b2; have Y2 := hide (TO.out w2 b2); obtain ⟨⟨y0, y1, y2⟩, yk, yj⟩ := TO.out w2 b2; clear b2 x0 x1 x2 ca' cb')
      go_region_held3 (fun w' => (w'.cell? ⟨X, 0, none⟩ = some (.slice (some ⟨ab, ao, none⟩) p ca) ∧ w'.cell? ⟨X, 1, none⟩ = some (.slice (some ⟨bb, bo, none⟩) q cb) ∧ w'.cell? ⟨X, 2, none⟩ = some (.int .i64 n)) ∧ w'.cell? ⟨ab, ao + k, none⟩ = some (.int .i64 (j : Int)) ∧ w'.cell? ⟨bb, bo + j, none⟩ = some (.int .i64 o)) (first | exact Y2.out | exact Y3.out) ((go_at_call 39; refine (CH.out _).mono ?_; rintro e w3 ⟨rfl, b3⟩; have B3 := hide (BW.out.trans (((below_drewN (Below.refl w2.heap.size w2) 1).trans b3).mono BW.out.size)); have Y3 := hide (TO.out w3 B3.out); clear b3))
      obtain ⟨⟨z0, z1, z2⟩, zk, zj⟩ := Y3.out
      clear y0 y1 y2 yk yj
      go_wp2_with fail
      go_ret
      exact ⟨ret_int G2.out.symm, B1.out.trans (B3.out.mono B1.out.size)⟩
  · have G2 := hide (show G = -1 from by
      have h3 : ¬ (i < n ∧ i < (p : Int)) := fun h => h2 (by rw [hW]; exact (waitG_iff (show (0 : Int) ≤ i by omega)).2 h)
      rw [HG.out]; unfold onG; rw [if_pos (by rw [LA]; omega)])
    have h6 : (W : Int) ≤ i := by omega
    clear hW HA1 HB1
    go_enter Try.func29, Try.ntmps29
    go_upto_region 1 with fail
    rw [← HW1.out, ← HX.out]
    go_wp2_with (go_at_call 31; refine (WA.out _).mono ?_; rintro e w2 ⟨rfl, b2⟩; have B2 := hide (B1.out.trans (b2.mono B1.out.size)); clear b2)
    go_ret
    exact ⟨ret_int G2.out.symm, by first | exact B2.out | exact below_drewN B2.out _⟩
end Go.Proofs.Ythbhbanhgmaopaa
namespace Go.Proofs.Ythbhbanhgmaopaa
open Go.ChangeShapes Go.WideShapes Go.ChangeAt Go.RowKit
set_option linter.unusedVariables false
theorem least_ex {P : Nat → Prop} : ∀ n, P n → ∃ m, P m ∧ ∀ k, P k → m ≤ k := by
  intro n
  induction n using Nat.strongRecOn with
  | ind n ih =>
    intro h
    by_cases g : ∃ k, P k ∧ k < n
    · obtain ⟨k, hk, hlt⟩ := g
      exact ih k hlt hk
    · refine ⟨n, h, fun k hk => ?_⟩
      by_cases e : k < n
      · exact absurd ⟨k, hk, e⟩ g
      · omega
open Classical in
/-- The least number of which P holds. -/
noncomputable def leastN (P : Nat → Prop) : Nat := if h : ∃ m, P m ∧ ∀ k, P k → m ≤ k then Classical.choose h else 0
theorem leastN_is {P : Nat → Prop} {n : Nat} (h : P n) : P (leastN P) ∧ ∀ k, P k → leastN P ≤ k := by
  unfold leastN
  rw [dif_pos (least_ex n h)]
  exact Classical.choose_spec (least_ex n h)
theorem leastN_le {P : Nat → Prop} {n : Nat} (h : P n) : leastN P ≤ n := (leastN_is h).2 n h
theorem leastN_spec {P : Nat → Prop} (h : ∃ n, P n) : P (leastN P) := by
  obtain ⟨n, h⟩ := h
  exact (leastN_is h).1
section
variable {σ : Type}
def alongF (step : σ → Int → Bool × σ) (on : Int → Int) : Nat → σ → Int → σ
  | 0, s, _ => s
  | f + 1, s, k => if k = -1 then s else if (step s k).1 then alongF step on f (step s k).2 (on k) else (step s k).2
end
/-- A loop along a chain, f rounds being left at most. -/
structure AlongP {σ : Type} (step : σ → Int → Bool × σ) (on : Int → Int) (n : Int) (μ : σ → Nat) (I : σ → World → Prop) (V : Nat → Prop) (w : World) (N : World → Prop) (FIN : σ) (f : Nat) (kv : Value) (wr : World) : Prop where
  ex : ∃ s k, kv = .int .i64 k ∧ (k = -1 ∨ 0 ≤ k ∧ k < n) ∧ I s wr ∧ alongF step on f s k = FIN ∧ μ s < f
  touch : Touch V w wr
  net : N wr
end Go.Proofs.Ythbhbanhgmaopaa
namespace Go.Proofs.Ythbhbanhgmaopaa
open Go.ChangeShapes Go.WideShapes Go.ChangeAt Go.RowKit
set_option linter.unusedVariables false
set_option maxHeartbeats 4000000 in
theorem along_chain {σ : Type} (step : σ → Int → Bool × σ) (μ : σ → Nat) (I : σ → World → Prop) (V : Nat → Prop) (c1 c2 : Value) (w : World) (a : Option Addr) (p ca : Nat) (ws : List Int) (b : Option Addr) (q cb : Nat) (os : List Int) (n : Int) (hp : p ≤ 25) (hq : q ≤ 25)
    (hK : ∀ s W W', I s W → Below W.heap.size W W' → I s W') (hL : ∀ s W, I s W → Ints .i64 W a p ws ∧ Ints .i64 W b q os) (hV : ¬ V w.heap.size)
    (hS : ∀ s k W, I s W → w.heap.size < W.heap.size → 0 ≤ k → k < n → Calls Try.prog 30 #[.int .i64 k, c1, c2] W fun e w' => e = .returned (.bool (step s k).1) ∧ I (step s k).2 w' ∧ Touch V W w')
    (hμ : ∀ s k W, I s W → 0 ≤ k → k < n → (step s k).1 = true → μ (step s k).2 < μ s) (s0 : σ) (k0 : Int) (h0 : I s0 w) (hk : k0 = -1 ∨ 0 ≤ k0 ∧ k0 < n) :
    Calls Try.prog 28 #[.agg #[.slice a p ca, .slice b q cb, .int .i64 n], .int .i64 k0, .func (.func 30) #[] #[c1, c2]] w fun e w' => e = .returned (.tuple #[]) ∧ I (alongF step (onG ws os n) (μ s0 + 1) s0 k0) w' ∧ Touch V w w' := by
  obtain ⟨FIN, hF⟩ : ∃ F, F = alongF step (onG ws os n) (μ s0 + 1) s0 k0 := ⟨_, rfl⟩
  rw [← hF]
  obtain ⟨w1, hw1⟩ : ∃ w1, w1 = w.alloc (.cells #[.slice a p ca, .slice b q cb, .int .i64 n] 44) := ⟨_, rfl⟩
  obtain ⟨X, hX⟩ : ∃ X, X = w.heap.size := ⟨_, rfl⟩
  have b1 : Below w.heap.size w w1 := by rw [hw1]; exact (Below.refl w.heap.size w).alloc (Nat.le_refl _) _
  have N1 : NetAt w1 X a p ca b q cb n := by rw [hw1, hX]; exact heap_alloc_new _ _
  have HW1 := hide hw1
  have HX := hide hX
  have P0 := hide (show AlongP step (onG ws os n) n μ I V w (fun wr => NetAt wr X a p ca b q cb n) FIN (μ s0 + 1) (.int .i64 k0) w1 from ⟨⟨s0, k0, rfl, hk, hK _ _ _ h0 b1, hF.symm, Nat.lt_succ_self _⟩, Touch.of_below b1, N1⟩)
  have ON := hide (fun (s : σ) (W : World) (h : I s W) (k : Int) => on_any W a p ca ws b q cb os n k (hL s W h).1 (hL s W h).2 hp hq)
  have KP := hide hK
  have ST := hide hS
  have MU := hide hμ
  have VX := hide (show ¬ V X from by rw [hX]; exact hV)
  have OG := hide (show ∀ k, onG ws os n k = -1 ∨ 0 ≤ onG ws os n k ∧ onG ws os n k < n from fun k => by
    by_cases h : 0 ≤ onG ws os n k
    · exact .inr ⟨h, onG_lt h⟩
    · exact .inl (onG_none h))
  clear hF hw1 hX b1 N1 hK hL hV hS hμ h0 hk hp hq
  go_enter Try.func28, Try.ntmps28
  go_wp2_with fail
  rw [← HW1.out, ← HX.out]
  go_loopw [1] (fun kv wr => ∃ f, AlongP step (onG ws os n) n μ I V w (fun wr => NetAt wr X a p ca b q cb n) FIN f kv wr) (fun kv wr => leastN (fun f => AlongP step (onG ws os n) n μ I V w (fun wr => NetAt wr X a p ca b q cb n) FIN f kv wr))
  case atStart => exact ⟨_, P0.out⟩
  case round =>
    rename World => w2
    have hP := leastN_spec hrel
    clear hrel
    obtain ⟨⟨s, k, rfl, hk, hI, hA, hm⟩, hT, hN⟩ := hP
    obtain ⟨L, hL⟩ : ∃ L, L = leastN (fun f => AlongP step (onG ws os n) n μ I V w (fun wr => NetAt wr X a p ca b q cb n) FIN f (.int .i64 k) w2) := ⟨_, rfl⟩
    rw [← hL] at hA hm
    have HL := hide hL
    obtain ⟨M, hM⟩ : ∃ M, L = M + 1 := ⟨L - 1, by omega⟩
    rw [hM] at hA
    have HA := hide (show (if k = -1 then s else if (step s k).1 then alongF step (onG ws os n) M (step s k).2 (onG ws os n k) else (step s k).2) = FIN from hA)
    have HI := hide hI
    have HT := hide hT
    have HN := hide hN
    have HM := hide (show μ s < M + 1 from by rw [← hM]; exact hm)
    have LM := hide hM
    clear hL hA hI hT hN hM hm P0
    by_cases h1 : k = -1
    · have FS := hide (show s = FIN from by rw [← HA.out, if_pos h1])
      subst h1
      go_wp2_with fail
      go_end0
      exact ⟨rfl, by rw [← FS.out]; exact HI.out, HT.out⟩
    · have hkn : 0 ≤ k ∧ k < n := by rcases hk with h | h; exact absurd h h1; exact h
      have e1 : (k == -1) = false := by simpa using h1
      have C := hide (ST.out s k w2 HI.out (by rw [← HX.out]; exact lt_of_heap HN.out) hkn.1 hkn.2)
      have C2 := hide (show ∀ W, I (step s k).2 W → _ from fun W h => ON.out (step s k).2 W h k)
      have D := hide (MU.out s k w2 HI.out hkn.1 hkn.2)
      obtain ⟨t, ht⟩ : ∃ t, t = (step s k).2 := ⟨_, rfl⟩
      obtain ⟨u, hu⟩ : ∃ u, u = (step s k).1 := ⟨_, rfl⟩
      obtain ⟨o, ho⟩ : ∃ o, o = onG ws os n k := ⟨_, rfl⟩
      have OK := hide (OG.out k)
      rw [← ht, ← hu] at C D
      rw [← ht, ← ho] at C2
      rw [← ho] at OK
      have FN := hide (show (if u = true then alongF step (onG ws os n) M t o else t) = FIN from by have h := HA.out; rw [if_neg h1, ← ht, ← hu, ← ho] at h; exact h)
      clear ht hu ho hk hkn ST MU ON HA
      cases u with
      | false =>
        have FS := hide (show t = FIN from FN.out)
        go_wp2_with (go_at_call 30; refine C.out.mono ?_; rintro e w3 ⟨rfl, h2, h3⟩; have I3 := hide h2; have T3 := hide h3; clear h2 h3)
        go_end0
        exact ⟨rfl, by rw [← FS.out]; exact I3.out, HT.out.trans T3.out (fun _ e => .inl e)⟩
      | true =>
        have FS := hide (show alongF step (onG ws os n) M t o = FIN from FN.out)
        have n2 := HN.out
        go_upto_region 2 with (go_at_call 30; refine C.out.mono ?_; rintro e w3 ⟨rfl, h2, h3⟩; have I3 := hide h2; have T3 := hide h3; clear h2 h3)
        have N3 := hide (show NetAt w3 X a p ca b q cb n from (T3.out.block X (lt_of_heap HN.out) VX.out).trans HN.out)
        have C3 := hide (C2.out w3 I3.out)
        clear n2 C C2
        obtain ⟨y0, y1, y2⟩ := N3.out.cells
        go_wp2_with (go_at_call 29; refine C3.out.mono ?_; rintro e w4 ⟨rfl, b4⟩; have I4 := hide (KP.out _ _ _ I3.out b4); have N4 := hide (N3.out.below b4); have T4 := hide ((HT.out.trans T3.out (fun _ e => .inl e)).trans (Touch.of_below (S := V) b4) (fun _ e => .inl e)); clear b4)
        have NEW := hide (show AlongP step (onG ws os n) n μ I V w (fun wr => NetAt wr X a p ca b q cb n) FIN M (.int .i64 o) w4 from ⟨⟨t, o, rfl, OK.out, I4.out, FS.out, by have := D.out (by simp); have := HM.out; omega⟩, T4.out, N4.out⟩)
        go_roundw
        case rel => exact ⟨M, NEW.out⟩
        case measure =>
          refine Nat.lt_of_le_of_lt (leastN_le NEW.out) ?_
          exact Nat.lt_of_lt_of_eq (show M < L by have := LM.out; omega) HL.out
set_option maxHeartbeats 4000000 in
theorem along_round {σ : Type} (step : σ → Int → Bool × σ) (μ : σ → Nat) (I : σ → World → Prop) (V : Nat → Prop) (c1 c2 c3 : Value) (w : World) (a : Option Addr) (p ca : Nat) (ws : List Int) (b : Option Addr) (q cb : Nat) (os : List Int) (n : Int) (hp : p ≤ 25) (hq : q ≤ 25)
    (hK : ∀ s W W', I s W → Below W.heap.size W W' → I s W') (hL : ∀ s W, I s W → Ints .i64 W a p ws ∧ Ints .i64 W b q os) (hV : ¬ V w.heap.size)
    (hS : ∀ s k W, I s W → w.heap.size < W.heap.size → 0 ≤ k → k < n → Calls Try.prog 40 #[.int .i64 k, c1, c2, c3] W fun e w' => e = .returned (.bool (step s k).1) ∧ I (step s k).2 w' ∧ Touch V W w')
    (hμ : ∀ s k W, I s W → 0 ≤ k → k < n → (step s k).1 = true → μ (step s k).2 < μ s) (s0 : σ) (k0 : Int) (h0 : I s0 w) (hk : k0 = -1 ∨ 0 ≤ k0 ∧ k0 < n) :
    Calls Try.prog 28 #[.agg #[.slice a p ca, .slice b q cb, .int .i64 n], .int .i64 k0, .func (.func 40) #[] #[c1, c2, c3]] w fun e w' => e = .returned (.tuple #[]) ∧ I (alongF step (onG ws os n) (μ s0 + 1) s0 k0) w' ∧ Touch V w w' := by
  obtain ⟨FIN, hF⟩ : ∃ F, F = alongF step (onG ws os n) (μ s0 + 1) s0 k0 := ⟨_, rfl⟩
  rw [← hF]
  obtain ⟨w1, hw1⟩ : ∃ w1, w1 = w.alloc (.cells #[.slice a p ca, .slice b q cb, .int .i64 n] 44) := ⟨_, rfl⟩
  obtain ⟨X, hX⟩ : ∃ X, X = w.heap.size := ⟨_, rfl⟩
  have b1 : Below w.heap.size w w1 := by rw [hw1]; exact (Below.refl w.heap.size w).alloc (Nat.le_refl _) _
  have N1 : NetAt w1 X a p ca b q cb n := by rw [hw1, hX]; exact heap_alloc_new _ _
  have HW1 := hide hw1
  have HX := hide hX
  have P0 := hide (show AlongP step (onG ws os n) n μ I V w (fun wr => NetAt wr X a p ca b q cb n) FIN (μ s0 + 1) (.int .i64 k0) w1 from ⟨⟨s0, k0, rfl, hk, hK _ _ _ h0 b1, hF.symm, Nat.lt_succ_self _⟩, Touch.of_below b1, N1⟩)
  have ON := hide (fun (s : σ) (W : World) (h : I s W) (k : Int) => on_any W a p ca ws b q cb os n k (hL s W h).1 (hL s W h).2 hp hq)
  have KP := hide hK
  have ST := hide hS
  have MU := hide hμ
  have VX := hide (show ¬ V X from by rw [hX]; exact hV)
  have OG := hide (show ∀ k, onG ws os n k = -1 ∨ 0 ≤ onG ws os n k ∧ onG ws os n k < n from fun k => by
    by_cases h : 0 ≤ onG ws os n k
    · exact .inr ⟨h, onG_lt h⟩
    · exact .inl (onG_none h))
  clear hF hw1 hX b1 N1 hK hL hV hS hμ h0 hk hp hq
  go_enter Try.func28, Try.ntmps28
  go_wp2_with fail
  rw [← HW1.out, ← HX.out]
  go_loopw [1] (fun kv wr => ∃ f, AlongP step (onG ws os n) n μ I V w (fun wr => NetAt wr X a p ca b q cb n) FIN f kv wr) (fun kv wr => leastN (fun f => AlongP step (onG ws os n) n μ I V w (fun wr => NetAt wr X a p ca b q cb n) FIN f kv wr))
  case atStart => exact ⟨_, P0.out⟩
  case round =>
    rename World => w2
    have hP := leastN_spec hrel
    clear hrel
    obtain ⟨⟨s, k, rfl, hk, hI, hA, hm⟩, hT, hN⟩ := hP
    obtain ⟨L, hL⟩ : ∃ L, L = leastN (fun f => AlongP step (onG ws os n) n μ I V w (fun wr => NetAt wr X a p ca b q cb n) FIN f (.int .i64 k) w2) := ⟨_, rfl⟩
    rw [← hL] at hA hm
    have HL := hide hL
    obtain ⟨M, hM⟩ : ∃ M, L = M + 1 := ⟨L - 1, by omega⟩
    rw [hM] at hA
    have HA := hide (show (if k = -1 then s else if (step s k).1 then alongF step (onG ws os n) M (step s k).2 (onG ws os n k) else (step s k).2) = FIN from hA)
    have HI := hide hI
    have HT := hide hT
    have HN := hide hN
    have HM := hide (show μ s < M + 1 from by rw [← hM]; exact hm)
    have LM := hide hM
    clear hL hA hI hT hN hM hm P0
    by_cases h1 : k = -1
    · have FS := hide (show s = FIN from by rw [← HA.out, if_pos h1])
      subst h1
      go_wp2_with fail
      go_end0
      exact ⟨rfl, by rw [← FS.out]; exact HI.out, HT.out⟩
    · have hkn : 0 ≤ k ∧ k < n := by rcases hk with h | h; exact absurd h h1; exact h
      have e1 : (k == -1) = false := by simpa using h1
      have C := hide (ST.out s k w2 HI.out (by rw [← HX.out]; exact lt_of_heap HN.out) hkn.1 hkn.2)
      have C2 := hide (show ∀ W, I (step s k).2 W → _ from fun W h => ON.out (step s k).2 W h k)
      have D := hide (MU.out s k w2 HI.out hkn.1 hkn.2)
      obtain ⟨t, ht⟩ : ∃ t, t = (step s k).2 := ⟨_, rfl⟩
      obtain ⟨u, hu⟩ : ∃ u, u = (step s k).1 := ⟨_, rfl⟩
      obtain ⟨o, ho⟩ : ∃ o, o = onG ws os n k := ⟨_, rfl⟩
      have OK := hide (OG.out k)
      rw [← ht, ← hu] at C D
      rw [← ht, ← ho] at C2
      rw [← ho] at OK
      have FN := hide (show (if u = true then alongF step (onG ws os n) M t o else t) = FIN from by have h := HA.out; rw [if_neg h1, ← ht, ← hu, ← ho] at h; exact h)
      clear ht hu ho hk hkn ST MU ON HA
      cases u with
      | false =>
        have FS := hide (show t = FIN from FN.out)
        go_wp2_with (go_at_call 40; refine C.out.mono ?_; rintro e w3 ⟨rfl, h2, h3⟩; have I3 := hide h2; have T3 := hide h3; clear h2 h3)
        go_end0
        exact ⟨rfl, by rw [← FS.out]; exact I3.out, HT.out.trans T3.out (fun _ e => .inl e)⟩
      | true =>
        have FS := hide (show alongF step (onG ws os n) M t o = FIN from FN.out)
        have n2 := HN.out
        go_upto_region 2 with (go_at_call 40; refine C.out.mono ?_; rintro e w3 ⟨rfl, h2, h3⟩; have I3 := hide h2; have T3 := hide h3; clear h2 h3)
        have N3 := hide (show NetAt w3 X a p ca b q cb n from (T3.out.block X (lt_of_heap HN.out) VX.out).trans HN.out)
        have C3 := hide (C2.out w3 I3.out)
        clear n2 C C2
        obtain ⟨y0, y1, y2⟩ := N3.out.cells
        go_wp2_with (go_at_call 29; refine C3.out.mono ?_; rintro e w4 ⟨rfl, b4⟩; have I4 := hide (KP.out _ _ _ I3.out b4); have N4 := hide (N3.out.below b4); have T4 := hide ((HT.out.trans T3.out (fun _ e => .inl e)).trans (Touch.of_below (S := V) b4) (fun _ e => .inl e)); clear b4)
        have NEW := hide (show AlongP step (onG ws os n) n μ I V w (fun wr => NetAt wr X a p ca b q cb n) FIN M (.int .i64 o) w4 from ⟨⟨t, o, rfl, OK.out, I4.out, FS.out, by have := D.out (by simp); have := HM.out; omega⟩, T4.out, N4.out⟩)
        go_roundw
        case rel => exact ⟨M, NEW.out⟩
        case measure =>
          refine Nat.lt_of_le_of_lt (leastN_le NEW.out) ?_
          exact Nat.lt_of_lt_of_eq (show M < L by have := LM.out; omega) HL.out
set_option maxHeartbeats 4000000 in
theorem along_eff {σ : Type} (step : σ → Int → Bool × σ) (μ : σ → Nat) (I : σ → World → Prop) (V : Nat → Prop) (c1 c2 c3 c4 : Value) (w : World) (a : Option Addr) (p ca : Nat) (ws : List Int) (b : Option Addr) (q cb : Nat) (os : List Int) (n : Int) (hp : p ≤ 25) (hq : q ≤ 25)
    (hK : ∀ s W W', I s W → Below W.heap.size W W' → I s W') (hL : ∀ s W, I s W → Ints .i64 W a p ws ∧ Ints .i64 W b q os) (hV : ¬ V w.heap.size)
    (hS : ∀ s k W, I s W → w.heap.size < W.heap.size → 0 ≤ k → k < n → Calls Try.prog 35 #[.int .i64 k, c1, c2, c3, c4] W fun e w' => e = .returned (.bool (step s k).1) ∧ I (step s k).2 w' ∧ Touch V W w')
    (hμ : ∀ s k W, I s W → 0 ≤ k → k < n → (step s k).1 = true → μ (step s k).2 < μ s) (s0 : σ) (k0 : Int) (h0 : I s0 w) (hk : k0 = -1 ∨ 0 ≤ k0 ∧ k0 < n) :
    Calls Try.prog 28 #[.agg #[.slice a p ca, .slice b q cb, .int .i64 n], .int .i64 k0, .func (.func 35) #[] #[c1, c2, c3, c4]] w fun e w' => e = .returned (.tuple #[]) ∧ I (alongF step (onG ws os n) (μ s0 + 1) s0 k0) w' ∧ Touch V w w' := by
  obtain ⟨FIN, hF⟩ : ∃ F, F = alongF step (onG ws os n) (μ s0 + 1) s0 k0 := ⟨_, rfl⟩
  rw [← hF]
  obtain ⟨w1, hw1⟩ : ∃ w1, w1 = w.alloc (.cells #[.slice a p ca, .slice b q cb, .int .i64 n] 44) := ⟨_, rfl⟩
  obtain ⟨X, hX⟩ : ∃ X, X = w.heap.size := ⟨_, rfl⟩
  have b1 : Below w.heap.size w w1 := by rw [hw1]; exact (Below.refl w.heap.size w).alloc (Nat.le_refl _) _
  have N1 : NetAt w1 X a p ca b q cb n := by rw [hw1, hX]; exact heap_alloc_new _ _
  have HW1 := hide hw1
  have HX := hide hX
  have P0 := hide (show AlongP step (onG ws os n) n μ I V w (fun wr => NetAt wr X a p ca b q cb n) FIN (μ s0 + 1) (.int .i64 k0) w1 from ⟨⟨s0, k0, rfl, hk, hK _ _ _ h0 b1, hF.symm, Nat.lt_succ_self _⟩, Touch.of_below b1, N1⟩)
  have ON := hide (fun (s : σ) (W : World) (h : I s W) (k : Int) => on_any W a p ca ws b q cb os n k (hL s W h).1 (hL s W h).2 hp hq)
  have KP := hide hK
  have ST := hide hS
  have MU := hide hμ
  have VX := hide (show ¬ V X from by rw [hX]; exact hV)
  have OG := hide (show ∀ k, onG ws os n k = -1 ∨ 0 ≤ onG ws os n k ∧ onG ws os n k < n from fun k => by
    by_cases h : 0 ≤ onG ws os n k
    · exact .inr ⟨h, onG_lt h⟩
    · exact .inl (onG_none h))
  clear hF hw1 hX b1 N1 hK hL hV hS hμ h0 hk hp hq
  go_enter Try.func28, Try.ntmps28
  go_wp2_with fail
  rw [← HW1.out, ← HX.out]
  go_loopw [1] (fun kv wr => ∃ f, AlongP step (onG ws os n) n μ I V w (fun wr => NetAt wr X a p ca b q cb n) FIN f kv wr) (fun kv wr => leastN (fun f => AlongP step (onG ws os n) n μ I V w (fun wr => NetAt wr X a p ca b q cb n) FIN f kv wr))
  case atStart => exact ⟨_, P0.out⟩
  case round =>
    rename World => w2
    have hP := leastN_spec hrel
    clear hrel
    obtain ⟨⟨s, k, rfl, hk, hI, hA, hm⟩, hT, hN⟩ := hP
    obtain ⟨L, hL⟩ : ∃ L, L = leastN (fun f => AlongP step (onG ws os n) n μ I V w (fun wr => NetAt wr X a p ca b q cb n) FIN f (.int .i64 k) w2) := ⟨_, rfl⟩
    rw [← hL] at hA hm
    have HL := hide hL
    obtain ⟨M, hM⟩ : ∃ M, L = M + 1 := ⟨L - 1, by omega⟩
    rw [hM] at hA
    have HA := hide (show (if k = -1 then s else if (step s k).1 then alongF step (onG ws os n) M (step s k).2 (onG ws os n k) else (step s k).2) = FIN from hA)
    have HI := hide hI
    have HT := hide hT
    have HN := hide hN
    have HM := hide (show μ s < M + 1 from by rw [← hM]; exact hm)
    have LM := hide hM
    clear hL hA hI hT hN hM hm P0
    by_cases h1 : k = -1
    · have FS := hide (show s = FIN from by rw [← HA.out, if_pos h1])
      subst h1
      go_wp2_with fail
      go_end0
      exact ⟨rfl, by rw [← FS.out]; exact HI.out, HT.out⟩
    · have hkn : 0 ≤ k ∧ k < n := by rcases hk with h | h; exact absurd h h1; exact h
      have e1 : (k == -1) = false := by simpa using h1
      have C := hide (ST.out s k w2 HI.out (by rw [← HX.out]; exact lt_of_heap HN.out) hkn.1 hkn.2)
      have C2 := hide (show ∀ W, I (step s k).2 W → _ from fun W h => ON.out (step s k).2 W h k)
      have D := hide (MU.out s k w2 HI.out hkn.1 hkn.2)
      obtain ⟨t, ht⟩ : ∃ t, t = (step s k).2 := ⟨_, rfl⟩
      obtain ⟨u, hu⟩ : ∃ u, u = (step s k).1 := ⟨_, rfl⟩
      obtain ⟨o, ho⟩ : ∃ o, o = onG ws os n k := ⟨_, rfl⟩
      have OK := hide (OG.out k)
      rw [← ht, ← hu] at C D
      rw [← ht, ← ho] at C2
      rw [← ho] at OK
      have FN := hide (show (if u = true then alongF step (onG ws os n) M t o else t) = FIN from by have h := HA.out; rw [if_neg h1, ← ht, ← hu, ← ho] at h; exact h)
      clear ht hu ho hk hkn ST MU ON HA
      cases u with
      | false =>
        have FS := hide (show t = FIN from FN.out)
        go_wp2_with (go_at_call 35; refine C.out.mono ?_; rintro e w3 ⟨rfl, h2, h3⟩; have I3 := hide h2; have T3 := hide h3; clear h2 h3)
        go_end0
        exact ⟨rfl, by rw [← FS.out]; exact I3.out, HT.out.trans T3.out (fun _ e => .inl e)⟩
      | true =>
        have FS := hide (show alongF step (onG ws os n) M t o = FIN from FN.out)
        have n2 := HN.out
        go_upto_region 2 with (go_at_call 35; refine C.out.mono ?_; rintro e w3 ⟨rfl, h2, h3⟩; have I3 := hide h2; have T3 := hide h3; clear h2 h3)
        have N3 := hide (show NetAt w3 X a p ca b q cb n from (T3.out.block X (lt_of_heap HN.out) VX.out).trans HN.out)
        have C3 := hide (C2.out w3 I3.out)
        clear n2 C C2
        obtain ⟨y0, y1, y2⟩ := N3.out.cells
        go_wp2_with (go_at_call 29; refine C3.out.mono ?_; rintro e w4 ⟨rfl, b4⟩; have I4 := hide (KP.out _ _ _ I3.out b4); have N4 := hide (N3.out.below b4); have T4 := hide ((HT.out.trans T3.out (fun _ e => .inl e)).trans (Touch.of_below (S := V) b4) (fun _ e => .inl e)); clear b4)
        have NEW := hide (show AlongP step (onG ws os n) n μ I V w (fun wr => NetAt wr X a p ca b q cb n) FIN M (.int .i64 o) w4 from ⟨⟨t, o, rfl, OK.out, I4.out, FS.out, by have := D.out (by simp); have := HM.out; omega⟩, T4.out, N4.out⟩)
        go_roundw
        case rel => exact ⟨M, NEW.out⟩
        case measure =>
          refine Nat.lt_of_le_of_lt (leastN_le NEW.out) ?_
          exact Nat.lt_of_lt_of_eq (show M < L by have := LM.out; omega) HL.out
end Go.Proofs.Ythbhbanhgmaopaa
namespace Go.Proofs.Ythbhbanhgmaopaa
open Go.ChangeShapes Go.WideShapes Go.ChangeAt Go.RowKit Go.Maps
set_option linter.unusedVariables false
/-- A variable of one cell. -/
def BoxAt (w : World) (B : Nat) (t : TypeId) (v : Value) : Prop := w.heap[B]? = some (.cells #[v] t (0, 0))
theorem BoxAt.lt {w : World} {B : Nat} {t : TypeId} {v : Value} (h : BoxAt w B t v) : B < w.heap.size := lt_of_heap h
theorem BoxAt.new (w : World) (t : TypeId) (v : Value) {n : Nat} (hn : n = w.heap.size) : BoxAt (w.alloc (.cells #[v] t)) n t v := by rw [hn]; exact heap_alloc_new _ _
theorem BoxAt.cell {w : World} {B : Nat} {t : TypeId} {v : Value} (h : BoxAt w B t v) : w.cell? ⟨B, 0, none⟩ = some v := by rw [cell_of_row _ _ _ _ _ _ h]; rfl
theorem BoxAt.frozen {w : World} {B : Nat} {t : TypeId} {v : Value} (h : BoxAt w B t v) : w.frozen? ⟨B, 0, none⟩ = false := frozen_of_row _ _ _ _ _ h
theorem BoxAt.keep {w w' : World} {B : Nat} {t : TypeId} {v : Value} (h : BoxAt w B t v) (e : w'.heap[B]? = w.heap[B]?) : BoxAt w' B t v := e.trans h
theorem BoxAt.below {w w' : World} {B : Nat} {t : TypeId} {v : Value} (h : BoxAt w B t v) (b : Below w.heap.size w w') : BoxAt w' B t v := h.keep (b.block B h.lt)
theorem BoxAt.touch {S : Nat → Prop} {w w' : World} {B : Nat} {t : TypeId} {v : Value} (h : BoxAt w B t v) (b : Touch S w w') (d : ¬ S B) : BoxAt w' B t v := h.keep (b.block B h.lt d)
theorem BoxAt.set {w : World} {B : Nat} {t : TypeId} {v : Value} (h : BoxAt w B t v) (u : Value) : BoxAt (w.setCell ⟨B, 0, none⟩ u) B t u := by
  unfold BoxAt
  rw [heap_setCell_same _ _ _ _ _ _ h]
  rfl
theorem keyLawI : Keyed Try.prog 3 := int_keyed Try.underlying3
theorem zeroUnit (w : World) : (zeroValue 48).run Try.prog w = .ok (.agg #[]) w := by kernel_rfl
/-- The set in block M holds l. -/
def Told (w : World) (M : Nat) (l : List Int) : Prop :=
  ∃ D : DataW Unit, w.ownsMap Try.prog 3 unitElem M l.length D ∧ ∀ k, (Lit.int .i64 k).wf = true → Maps.has D (.int .i64 k) = decide (k ∈ l)
theorem Told.lt {w : World} {M : Nat} {l : List Int} (h : Told w M l) : M < w.heap.size := by obtain ⟨D, hD, _⟩ := h; exact hD.lt
theorem Told.made (w : World) {n : Nat} (hn : n = w.heap.size) : Told (w.alloc (.map #[] 0)) n [] := by
  rw [hn]
  exact ⟨.map [], World.ownsMap_made _ _ _ _, fun k _ => rfl⟩
theorem Told.keep {w w' : World} {M : Nat} {l : List Int} (h : Told w M l) (e : w'.heap[M]? = w.heap[M]?) : Told w' M l := by
  obtain ⟨D, ⟨es, clock, hb, r⟩, rest⟩ := h
  exact ⟨D, ⟨es, clock, e.trans hb, r⟩, rest⟩
theorem Told.look {w : World} {M : Nat} {l : List Int} (h : Told w M l) (k : Int) (hk : (Lit.int .i64 k).wf = true) :
    (Instr.lookup 45 (.map (some M)) (.int .i64 k) true).run Try.prog w = .ok (.tuple #[.agg #[], .bool (decide (k ∈ l))]) w := by
  obtain ⟨D, hD, hf⟩ := h
  have hkey : keyOf Try.prog 3 (.int .i64 k) = some (.int .i64 k) := keyOf_int_mk Try.underlying3 hk
  obtain ⟨v, ps, hrun, hv⟩ := hD.look_ok keyLawI Try.underlying45 (zeroUnit w) unitElem_mk hkey
  obtain ⟨rfl, _⟩ := unitElem_inv hv
  rw [hrun, hf k hk]
theorem Told.store {w : World} {M : Nat} {l : List Int} (h : Told w M l) (hn : l.length < 1000000) (k : Int) (hk : (Lit.int .i64 k).wf = true) :
    ∃ w', (Instr.mapUpdate 45 (.map (some M)) (.int .i64 k) (.agg #[])).run Try.prog w = .ok () w' ∧ Told w' M (l ++ [k]) ∧ w.grownBy w' (some M) := by
  obtain ⟨D, hD, hf⟩ := h
  have hkey : keyOf Try.prog 3 (.int .i64 k) = some (.int .i64 k) := keyOf_int_mk Try.underlying3 hk
  have hI : WideAt.IsKeyLit (Lit.int .i64 k) := trivial
  obtain ⟨w', hrun, ho, hg⟩ := hD.update keyLawI Try.underlying45 (by unfold maxLen; omega) hkey unitElem_mk
  refine ⟨w', hrun, ⟨D.put (.int .i64 k) (.agg []), by rw [List.length_append]; exact ho, fun x hx => ?_⟩, hg⟩
  · by_cases e : x = k
    · subst e
      rw [has_put_same hD.isMap hI]
      exact (decide_eq_true (by simp)).symm
    · have hne : (Lit.int .i64 x) ≠ (Lit.int .i64 k) := fun e' => by injection e' with _ e'; exact e e'
      rw [has_put_other hne, hf x hx]
      simp [e]
end Go.Proofs.Ythbhbanhgmaopaa
namespace Go.Proofs.Ythbhbanhgmaopaa
open Go.ChangeShapes Go.WideShapes Go.ChangeAt Go.RowKit
set_option linter.unusedVariables false
def chainStep (l : List Int) (k : Int) : Bool × List Int := if k ∈ l then (false, l) else (true, l ++ [k])
theorem own_stayC {w w' : World} {B n z : Nat} {e : TypeId} {v : Value} {xs : List Value} (h : w.ownsRow B e z v n xs) (b : Below w.heap.size w w') : w'.ownsRow B e z v n xs := (Touch.of_below (S := fun _ => False) b).own h (fun _ _ h => h)
theorem ints_touch {S : Nat → Prop} {w w' : World} {q : IntKind} {a : Option Addr} {n : Nat} {xs : List Int} (h : Ints q w a n xs) (t : Touch S w w') (d : 0 < n → ∀ b o, a = some ⟨b, o, none⟩ → ¬ S b) : Ints q w' a n xs := by
  by_cases h0 : 0 < n
  · exact t.ints h (d h0)
  · exact ⟨h.1, fun h' => absurd h' h0⟩
/-- What the chain's closure has ahead of it: those told, in a set and in a row of its own, and the two lists. -/
structure ChainI (X Bt Bc M : Nat) (a : Option Addr) (p : Nat) (ws : List Int) (b : Option Addr) (q : Nat) (os : List Int) (n : Int) (l : List Int) (W : World) : Prop where
  told : Told W M l
  box : BoxAt W Bt 45 (.map (some M))
  row : ∃ v, BoxAt W Bc 22 v ∧ W.ownsRow (X + 1) 3 1 v l.length (l.map (Value.int .i64))
  la : Ints .i64 W a p ws
  lb : Ints .i64 W b q os
  nd : l.Nodup
  inn : ∀ x ∈ l, 0 ≤ x ∧ x < n
/-- Where it may write. -/
def ChainV (X Bc M : Nat) (i : Nat) : Prop := i = Bc ∨ i = M ∨ X + 1 ≤ i
theorem ChainI.below {X Bt Bc M : Nat} {a : Option Addr} {p : Nat} {ws : List Int} {b : Option Addr} {q : Nat} {os : List Int} {n : Int} {l : List Int} {W W' : World} (h : ChainI X Bt Bc M a p ws b q os n l W) (k : Below W.heap.size W W') : ChainI X Bt Bc M a p ws b q os n l W' := by
  obtain ⟨v, h1, h2⟩ := h.row
  exact ⟨h.told.keep (k.block M h.told.lt), h.box.below k, ⟨v, h1.below k, own_stayC h2 k⟩, h.la.below k, h.lb.below k, h.nd, h.inn⟩
theorem few_le {n : Int} {l : List Int} (hn : n ≤ 25) (nd : l.Nodup) (hi : ∀ x ∈ l, 0 ≤ x ∧ x < n) : l.length ≤ n.toNat := by
  refine few_below n.toNat l nd (fun x hx => ?_)
  have := hi x hx
  omega
set_option maxHeartbeats 8000000 in
theorem chain1_any (X Bt Bc M : Nat) (a : Option Addr) (p : Nat) (ws : List Int) (b : Option Addr) (q : Nat) (os : List Int) (n : Int) (hn : n ≤ 25) (hX : Bt < X ∧ Bc < X ∧ M < X) (hne : Bt ≠ Bc ∧ Bt ≠ M ∧ Bc ≠ M) (hal : 0 < p → ∀ c o, a = some ⟨c, o, none⟩ → c ≠ Bc ∧ c ≠ M ∧ c ≤ X) (hbl : 0 < q → ∀ c o, b = some ⟨c, o, none⟩ → c ≠ Bc ∧ c ≠ M ∧ c ≤ X)
    (l : List Int) (k : Int) (W : World) (h : ChainI X Bt Bc M a p ws b q os n l W) (hW : X < W.heap.size) (k0 : 0 ≤ k) (kn : k < n) :
    Calls Try.prog 30 #[.int .i64 k, .pointer (some ⟨Bt, 0, none⟩), .pointer (some ⟨Bc, 0, none⟩)] W fun e w' => e = .returned (.bool (chainStep l k).1) ∧ ChainI X Bt Bc M a p ws b q os n (chainStep l k).2 w' ∧ Touch (ChainV X Bc M) W w' := by
  obtain ⟨i0, hi0, hz0, hz1, hz2⟩ := info_parts int_info
  have I0 := hide (show Try.prog.info? 3 = some i0 ∧ i0.zero = some (.int .i64 0) ∧ i0.size = 1 ∧ i0.bytes = 8 from ⟨hi0, hz0, hz1, hz2⟩)
  have wk : (Lit.int .i64 k).wf = true := by simp [Lit.wf, IntKind.min, IntKind.max, IntKind.bits, IntKind.signed]; omega
  have fl := few_le hn h.nd h.inn
  obtain ⟨w1, hw1⟩ : ∃ w1, w1 = W.alloc (.cells #[] 48) := ⟨_, rfl⟩
  have b1 : Below W.heap.size W w1 := by rw [hw1]; exact (Below.refl W.heap.size W).alloc (Nat.le_refl _) _
  have H1 := hide (h.below b1)
  have B1 := hide b1
  have HW1 := hide hw1
  have LK := h.told.look k wk
  have c0 := h.box.cell
  obtain ⟨u, hu⟩ : ∃ u, u = decide (k ∈ l) := ⟨_, rfl⟩
  rw [← hu] at LK
  cases u with
  | true =>
    have hm := of_decide_eq_true hu.symm
    have e : chainStep l k = (false, l) := if_pos hm
    rw [e]
    dsimp only
    rw [hw1] at H1 B1
    clear hu hw1 b1 h hi0 hz0 hz1 hz2 HW1
    go_enter Try.func30, Try.ntmps30
    go_wp2_with fail
    go_ret
    exact ⟨rfl, H1.out, Touch.of_below B1.out⟩
  | false =>
    have hm := of_decide_eq_false hu.symm
    have e : chainStep l k = (true, l ++ [k]) := if_neg hm
    rw [e]
    dsimp only
    obtain ⟨w2, hst, ht2, hg2⟩ := H1.out.told.store (by omega) k wk
    have c1 := H1.out.box.cell
    have g1 : Touch (ChainV X Bc M) w1 w2 := Touch.of_grown hg2 (fun g e => by injection e with e; exact .inr (.inl e.symm))
    have vB : ¬ ChainV X Bc M Bt := by rintro (h | h | h) <;> omega
    obtain ⟨v, hv, ho⟩ := H1.out.row
    have hv2 : BoxAt w2 Bc 22 v := hv.keep (hg2.block Bc hv.lt (fun e => by injection e with e; exact hne.2.2 e))
    have vlo : ∀ g, v.ownBlock = some g → X + 1 ≤ g := own_lo ho
    have ho2 : w2.ownsRow (X + 1) 3 1 v l.length (l.map (Value.int .i64)) := (Touch.of_grown (S := fun i => i = M) hg2 (fun g e => by injection e with e; exact e.symm)).own ho (fun g e1 e2 => by have := vlo g e1; omega)
    have T2 := hide (show Touch (ChainV X Bc M) W w2 from (Touch.of_below b1).trans g1 (fun _ e => .inl e))
    have BV := hide hv2
    have OV := hide ho2
    have TD := hide ht2
    have BX := hide (show BoxAt w2 Bt 45 (.map (some M)) from H1.out.box.touch g1 vB)
    have VL := hide vlo
    have S2 := hide (show X + 1 ≤ w2.heap.size from by have := b1.size; have := g1.size; omega)
    have ND := hide (show (l ++ [k]).Nodup from by
      rw [List.nodup_append]
      exact ⟨h.nd, by simp, fun x hx y hy e => by rw [List.mem_singleton] at hy; rw [e, hy] at hx; exact hm hx⟩)
    have IN := hide (show ∀ x ∈ l ++ [k], 0 ≤ x ∧ x < n from by
      intro x hx
      rcases List.mem_append.1 hx with h' | h'
      · exact h.inn x h'
      · rw [List.mem_singleton] at h'; rw [h']; exact ⟨k0, kn⟩)
    have LA := hide h.la
    have LB := hide h.lb
    have cv := BV.out.cell
    clear hu hw1 b1 h hi0 hz0 hz1 hz2 hv ho hv2 ho2 g1 hg2 vlo ht2 hm
    go_enter Try.func30, Try.ntmps30
    go_upto_region 4 with fail
    rw [← HW1.out]
    clear c0 LK
    go_wp2_with (at_builtin; refine wpList_append_src rfl (.tmp 17) (.tmp 19) _ rfl (X + 1) 3 i0 _ 8 Try.underlying22 I0.out.1 I0.out.2.1 I0.out.2.2.1 I0.out.2.2.2 rfl _ _ _ rfl (OV.out.alloc _) .i64 _ 1 _ [k] rfl (ints_cell1 _ _ _ _ _ rfl) (fun h => by cases h) (by unfold maxLen; omega) (by omega) (by have := S2.out; simp; omega) ?_; intro v9 w9 o9 g9 t9; obtain ⟨a9, cc9, e9⟩ := own_sliceI o9; subst e9; have O9 := hide o9; have G9 := hide g9; have X9 := hide (show BoxAt w9 Bc 22 v from ((BV.out.below ((Below.refl w2.heap.size w2).alloc (Nat.le_refl _) _)).keep (g9.block Bc (by have := BV.out.lt; simp; omega) (fun e => by have := VL.out Bc e.symm; omega)))); have c9 := X9.out.cell; have f9 := X9.out.frozen; clear o9 g9 t9 cv c1)
    go_ret
    have gT : Touch (ChainV X Bc M) w2 w9 := ((Touch.refl _ w2).alloc _).trans (S' := ChainV X Bc M) (Touch.of_grown G9.out (fun g e => .inr (.inr (VL.out g e)))) (fun _ e => .inl e)
    have gS := gT.setCell (p := ⟨Bc, 0, none⟩) (.inl rfl) (.slice a9 (l.length + 1) cc9)
    have gA := T2.out.trans gS (fun _ e => .inl e)
    have hM : (w9.setCell ⟨Bc, 0, none⟩ (.slice a9 (l.length + 1) cc9)).heap[M]? = w2.heap[M]? := by
      rw [RowKit.Below.heap_setCell _ _ _ _ (fun e => hne.2.2 e.symm)]
      rw [G9.out.block M (by have := TD.out.lt; simp; omega) (fun e => by have := VL.out M e.symm; omega)]
      exact heap_alloc_old _ _ TD.out.lt
    refine ⟨rfl, ⟨TD.out.keep hM, BX.out.touch gS vB, ⟨_, X9.out.set _, ?_⟩, ints_touch LA.out gA (fun hp c o e => ?_), ints_touch LB.out gA (fun hp c o e => ?_), ND.out, IN.out⟩, gA⟩
    · have := (Touch.refl (fun i => i = Bc) w9).setCell (p := ⟨Bc, 0, none⟩) rfl (.slice a9 (l.length + 1) cc9)
      have h9 := this.own O9.out (fun g e1 e2 => by have := own_lo O9.out g e1; omega)
      simpa using h9
    · have := hal hp c o e
      rintro (h | h | h) <;> omega
    · have := hbl hp c o e
      rintro (h | h | h) <;> omega
theorem along_chainF (ws os : List Int) (n : Int) : ∀ (f : Nat) (l : List Int) (k : Int), (k = -1 ∨ 0 ≤ k) → alongF chainStep (onG ws os n) f l k = chainF ws os n f l k := by
  intro f
  induction f with
  | zero => intro l k hk; rfl
  | succ f ih =>
    intro l k hk
    show (if k = -1 then l else if (chainStep l k).1 = true then alongF chainStep (onG ws os n) f (chainStep l k).2 (onG ws os n k) else (chainStep l k).2) = if k < 0 ∨ k ∈ l then l else chainF ws os n f (l ++ [k]) (onG ws os n k)
    by_cases h1 : k = -1
    · rw [if_pos h1, if_pos (.inl (by omega))]
    · have h2 : 0 ≤ k := by omega
      rw [if_neg h1]
      by_cases hm : k ∈ l
      · have e : chainStep l k = (false, l) := if_pos hm
        rw [e]
        show (if false = true then alongF chainStep (onG ws os n) f l (onG ws os n k) else l) = _
        rw [if_neg (by simp), if_pos (Or.inr hm)]
      · have e : chainStep l k = (true, l ++ [k]) := if_neg hm
        rw [e]
        show (if true = true then alongF chainStep (onG ws os n) f (l ++ [k]) (onG ws os n k) else l ++ [k]) = _
        rw [if_pos rfl, if_neg (show ¬ (k < 0 ∨ k ∈ l) by rintro (h | h); omega; exact hm h)]
        refine ih _ _ ?_
        by_cases h : 0 ≤ onG ws os n k
        · exact .inr h
        · exact .inl (onG_none h)
set_option maxHeartbeats 8000000 in
theorem pchain_any (w : World) (a : Option Addr) (p ca : Nat) (ws : List Int) (b : Option Addr) (q cb : Nat) (os : List Int) (n i : Int) (ha : ListIn w a p ca ws) (hb : ListIn w b q cb os) (hn : n ≤ 25) :
    Calls Try.prog 11 #[.slice a p ca, .slice b q cb, .int .i64 n, .int .i64 i] w fun e w' => ∃ v, e = .returned v ∧ w'.ownsRow w.heap.size 3 1 v (chainG ws os n i).length ((chainG ws os n i).map (Value.int .i64)) ∧ Below w.heap.size w w' := by
  obtain ⟨A, hA⟩ : ∃ A, A = w.heap.size := ⟨_, rfl⟩
  obtain ⟨w1, hw1⟩ : ∃ w1, w1 = w.alloc (.cells #[.slice a p ca, .slice b q cb, .int .i64 n] 44) := ⟨_, rfl⟩
  obtain ⟨w2, hw2⟩ : ∃ w2, w2 = w1.alloc (.cells #[.slice none 0 0] 22) := ⟨_, rfl⟩
  obtain ⟨w3, hw3⟩ : ∃ w3, w3 = w2.alloc (.map #[] 0) := ⟨_, rfl⟩
  obtain ⟨w4, hw4⟩ : ∃ w4, w4 = w3.alloc (.cells #[.map (some (A + 2))] 45) := ⟨_, rfl⟩
  have s1 : w1.heap.size = A + 1 := by rw [hw1, hA]; simp
  have s2 : w2.heap.size = A + 2 := by rw [hw2, World.size_alloc, s1]
  have s3 : w3.heap.size = A + 3 := by rw [hw3, World.size_alloc, s2]
  have s4 : w4.heap.size = A + 4 := by rw [hw4, World.size_alloc, s3]
  have k1 : Below w1.heap.size w1 w2 := by rw [hw2]; exact (Below.refl _ w1).alloc (Nat.le_refl _) _
  have k2 : Below w2.heap.size w2 w3 := by rw [hw3]; exact (Below.refl _ w2).alloc (Nat.le_refl _) _
  have k3 : Below w3.heap.size w3 w4 := by rw [hw4]; exact (Below.refl _ w3).alloc (Nat.le_refl _) _
  have k23 : Below w2.heap.size w2 w4 := k2.trans (k3.mono k2.size)
  have k13 : Below w1.heap.size w1 w4 := k1.trans (k23.mono k1.size)
  have B4 := hide (show Below w.heap.size w w4 from ((Below.refl w.heap.size w).alloc (Nat.le_refl _) _ : Below w.heap.size w (w.alloc (.cells #[.slice a p ca, .slice b q cb, .int .i64 n] 44))).trans (by rw [← hw1]; exact k13.mono (by rw [s1, hA]; omega)))
  have N4 : NetAt w4 A a p ca b q cb n := NetAt.below (by rw [hw1, hA]; exact heap_alloc_new _ _) k13
  have C4 := hide ((BoxAt.new w1 22 (.slice none 0 0) s1.symm |> fun h => (by rw [← hw2] at h; exact h : BoxAt w2 (A + 1) 22 (.slice none 0 0))).below k23)
  have M4 := hide (show Told w4 (A + 2) [] from (by rw [hw3]; exact Told.made w2 s2.symm : Told w3 (A + 2) []).keep (k3.block _ (by omega)))
  have T4 := hide (show BoxAt w4 (A + 3) 45 (.map (some (A + 2))) from by rw [hw4]; exact BoxAt.new w3 _ _ s3.symm)
  have LA := hide (ha.ints.below B4.out)
  have LB := hide (hb.ints.below B4.out)
  have PA := hide (show 0 < p → ∀ c o, a = some ⟨c, o, none⟩ → c < A from fun h c o e => by
    obtain ⟨b', o', e', h'⟩ := ha.ints.cell (k := 0) h
    rw [e] at e'; injection e' with e'; injection e' with e' _
    rw [e', hA]; exact lt_of_cell? h')
  have PB := hide (show 0 < q → ∀ c o, b = some ⟨c, o, none⟩ → c < A from fun h c o e => by
    obtain ⟨b', o', e', h'⟩ := hb.ints.cell (k := 0) h
    rw [e] at e'; injection e' with e'; injection e' with e' _
    rw [e', hA]; exact lt_of_cell? h')
  have ON := hide (fun W (h : Below w4.heap.size w4 W) => on_any W a p ca ws b q cb os n i (LA.out.below h) (LB.out.below h) ha.2 hb.2)
  obtain ⟨o, ho⟩ : ∃ o, o = onG ws os n i := ⟨_, rfl⟩
  rw [← ho] at ON
  have OI := hide (show o = -1 ∨ 0 ≤ o ∧ o < n from by
    rw [ho]
    by_cases h : 0 ≤ onG ws os n i
    · exact .inr ⟨h, onG_lt h⟩
    · exact .inl (onG_none h))
  have AL := hide (fun (W : World) (hW : Below w4.heap.size w4 W) => along_chain chainStep (fun l => n.toNat - l.length) (ChainI W.heap.size (A + 3) (A + 1) (A + 2) a p ws b q os n) (ChainV W.heap.size (A + 1) (A + 2)) (.pointer (some ⟨A + 3, 0, none⟩)) (.pointer (some ⟨A + 1, 0, none⟩)) W a p ca ws b q cb os n ha.2 hb.2
    (fun s V V' h k => h.below k) (fun s V h => ⟨h.la, h.lb⟩) (by have := hW.size; rintro (h | h | h) <;> omega)
    (fun s k V h hs k0 kn => chain1_any W.heap.size (A + 3) (A + 1) (A + 2) a p ws b q os n hn (by have := hW.size; omega) (by omega) (fun h c o e => by have := PA.out h c o e; have := hW.size; omega) (fun h c o e => by have := PB.out h c o e; have := hW.size; omega) s k V h hs k0 kn)
    (fun s k V h k0 kn ht => by
      by_cases hm : k ∈ s
      · have e : chainStep s k = (false, s) := if_pos hm
        rw [e] at ht; cases ht
      · have e : chainStep s k = (true, s ++ [k]) := if_neg hm
        rw [e]
        have nd : (s ++ [k]).Nodup := by
          rw [List.nodup_append]
          exact ⟨h.nd, by simp, fun x hx y hy e => by rw [List.mem_singleton] at hy; rw [e, hy] at hx; exact hm hx⟩
        have := few_le hn nd (fun x hx => by
          rcases List.mem_append.1 hx with h' | h'
          · exact h.inn x h'
          · rw [List.mem_singleton] at h'; rw [h']; exact ⟨k0, kn⟩)
        simp at this
        show n.toNat - (s ++ [k]).length < n.toNat - s.length
        simp
        omega)
    [] o ⟨M4.out.keep (hW.block _ (by omega)), T4.out.below hW, ⟨_, C4.out.below hW, World.ownsRow_nil _ _ _ _⟩, LA.out.below hW, LB.out.below hW, List.nodup_nil, fun x hx => by cases hx⟩ OI.out)
  have FN := hide (show alongF chainStep (onG ws os n) ((fun l : List Int => n.toNat - l.length) [] + 1) [] o = chainG ws os n i from by
    rw [along_chainF ws os n _ _ _ (by rcases OI.out with h | h; exact .inl h; exact .inr h.1), ho]; rfl)
  have HW := hide (show w4 = (((w.alloc (.cells #[.slice a p ca, .slice b q cb, .int .i64 n] 44)).alloc (.cells #[.slice none 0 0] 22)).alloc (.map #[] 0)).alloc (.cells #[.map (some (A + 2))] 45) from by rw [hw4, hw3, hw2, hw1])
  have HN4 := hide N4
  have S4 := hide s4
  have HA := hide hA
  clear k1 k2 k3 k23 k13 hw1 hw2 hw3 hw4 s1 s2 s3 s4 ha hb ho N4 hA
  have hmm := @run_makeMap Try.prog
  go_enter Try.func11, Try.ntmps11
  go_upto_region 4 with fail
  rw [← HA.out]
  try rw [show (w.alloc (.cells #[.slice a p ca, .slice b q cb, .int .i64 n] 44)).heap.size = A + 1 by simp [HA.out]]
  rw [show A + 1 + 1 + 1 = A + 3 from rfl, show A + 1 + 1 = A + 2 from rfl, ← HW.out]
  clear hmm HW
  obtain ⟨x0, x1, x2⟩ := HN4.out.cells
  go_region_held3 (fun w' => w'.cell? ⟨A, 0, none⟩ = some (.slice a p ca) ∧ w'.cell? ⟨A, 1, none⟩ = some (.slice b q cb) ∧ w'.cell? ⟨A, 2, none⟩ = some (.int .i64 n)) (first | exact HN4.out.cells | exact N5.out.cells | exact N6.out.cells) ((first
    | (go_at_call 29; refine (ON.out _ (below_drewN (Below.refl w4.heap.size w4) 1)).mono ?_; rintro e w5 ⟨rfl, b5⟩; have B5 := hide (((below_drewN (Below.refl w4.heap.size w4) 1).trans b5)); have N5 := hide (HN4.out.below B5.out); have C5 := hide (AL.out w5 B5.out); clear b5)
    | (go_at_call 28; refine C5.out.mono ?_; rintro e w6 ⟨rfl, h6, t6⟩; have I6 := hide h6; have T6 := hide t6; have N6 := hide (show NetAt w6 A a p ca b q cb n from (T6.out.block A (lt_of_heap N5.out) (by have := B5.out.size; have := S4.out; rintro (h | h | h) <;> omega)).trans N5.out); clear h6 t6)))
  all_goals
    have hr := I6.out.row
    have hT := T6.out
    have hF := FN.out
    rw [hF] at hr
    obtain ⟨v, hb, ho⟩ := hr
    obtain ⟨a9, c9, rfl⟩ := own_sliceI ho
    have OV := hide (own_base ho (show w.heap.size ≤ w5.heap.size + 1 by have := B5.out.size; have := B4.out.size; omega))
    have BB := hide (show Below w.heap.size w w6 from (B4.out.trans (B5.out.mono B4.out.size)).trans (hT.below (B4.out.trans (B5.out.mono B4.out.size)).size (fun i h => by have := HA.out; have := B5.out.size; have := S4.out; rcases h with h | h | h <;> omega)))
    have cv := hb.cell
    clear hF hT hb ho x0 x1 x2 C5 AL ON
    go_wp2_with fail
    go_ret
    exact ⟨_, rfl, OV.out, BB.out⟩
end Go.Proofs.Ythbhbanhgmaopaa
