/-
  The landed graph's Acyclic (stage 11's parts), for seats that have it alone; written by tools/gen/gnk.py.
-/
import Derived.Test.YteeofpjfgjhemaaGhList
import Derived.Test.YteeofpjfgjhemaaGhClosed
import Derived.Test.YteeofpjfgjhemaaSsRow
import Derived.Maps.OwnSet
import Derived.Deep.OwnRows
namespace Go.Proofs.Yteeofpjfgjhemaa
section
open Go.ChangeShapes Go.WideShapes Go.ChangeAt Go.RowKit
set_option linter.unusedVariables false
/-- How many threads may wait. -/
def waitG (n : Int) (p : Nat) : Nat := min n.toNat p
set_option maxHeartbeats 4000000 in
theorem waiting_any (w : World) (a : Option Addr) (p ca : Nat) (b : Option Addr) (q cb : Nat) (n : Int) (hp : p ≤ 25) :
    Calls Try.prog 34 #[.agg #[.slice a p ca, .slice b q cb, .int .i64 n]] w fun e w' => e = .returned (.int .i64 (waitG n p : Nat)) ∧ Below w.heap.size w w' := by
  have p0 : (0 : Int) ≤ (p : Int) := by omega
  have B1 := hide ((Below.refl w.heap.size w).alloc (Nat.le_refl _) (.cells #[.slice a p ca, .slice b q cb, .int .i64 n] 81))
  have HW := hide (show (n ≤ 0 → (0 : Int) = (waitG n p : Nat)) ∧ (0 ≤ n → n ≤ (p : Int) → n = (waitG n p : Nat)) ∧ ((p : Int) ≤ n → (p : Int) = (waitG n p : Nat)) from by unfold waitG; omega)
  clear hp
  by_cases h1 : 0 < n
  · by_cases h2 : n ≤ (p : Int)
    · have HE := hide (HW.out.2.1 (by omega) h2)
      go_enter Try.func34, Try.ntmps34
      go_wp2_with fail
      go_ret
      exact ⟨ret_int HE.out, B1.out⟩
    · have HE := hide (HW.out.2.2 (by omega))
      have h5 : (p : Int) < n := by omega
      by_cases h6 : 0 < (p : Int)
      · go_enter Try.func34, Try.ntmps34
        go_wp2_with fail
        go_ret
        exact ⟨ret_int HE.out, B1.out⟩
      · have hp0 : p = 0 := by omega
        subst hp0
        go_enter Try.func34, Try.ntmps34
        go_wp2_with fail
        go_ret
        exact ⟨ret_int HE.out, B1.out⟩
  · have HE := hide (HW.out.1 (by omega))
    have h2 : n ≤ (p : Int) := by omega
    by_cases h7 : n = 0
    · subst h7
      go_enter Try.func34, Try.ntmps34
      go_wp2_with fail
      go_ret
      exact ⟨ret_int HE.out, B1.out⟩
    · have h8 : n < 0 := by omega
      go_enter Try.func34, Try.ntmps34
      go_wp2_with fail
      go_ret
      exact ⟨ret_int HE.out, B1.out⟩
set_option maxHeartbeats 4000000 in
theorem has_any (w : World) (a : Option Addr) (p ca : Nat) (b : Option Addr) (q cb : Nat) (n k : Int) (u : Bool) (hu : u = decide (0 ≤ k ∧ k < n)) :
    Calls Try.prog 70 #[.agg #[.slice a p ca, .slice b q cb, .int .i64 n], .int .i64 k] w fun e w' => e = .returned (.bool u) ∧ Below w.heap.size w w' := by
  have B1 := hide ((Below.refl w.heap.size w).alloc (Nat.le_refl _) (.cells #[.slice a p ca, .slice b q cb, .int .i64 n] 81))
  have HU := hide hu
  clear hu
  by_cases h1 : 0 ≤ k
  · by_cases h2 : k < n
    · have HE := hide (show true = u from by rw [HU.out, decide_eq_true ⟨h1, h2⟩])
      go_enter Try.func70, Try.ntmps70
      go_wp2_with fail
      go_ret
      exact ⟨ret_bool HE.out, B1.out⟩
    · have HE := hide (show false = u from by rw [HU.out, decide_eq_false (fun h => h2 h.2)])
      go_enter Try.func70, Try.ntmps70
      go_wp2_with fail
      go_ret
      exact ⟨ret_bool HE.out, B1.out⟩
  · have HE := hide (show false = u from by rw [HU.out, decide_eq_false (fun h => h1 h.1)])
    go_enter Try.func70, Try.ntmps70
    go_wp2_with fail
    go_ret
    exact ⟨ret_bool HE.out, B1.out⟩
theorem waitG_iff {n i : Int} {p : Nat} (h : 0 ≤ i) : i < (waitG n p : Nat) ↔ i < n ∧ i < (p : Int) := by unfold waitG; omega
/-- A net, boxed. -/
def NetAt (w : World) (X : Nat) (a : Option Addr) (p ca : Nat) (b : Option Addr) (q cb : Nat) (n : Int) : Prop := w.heap[X]? = some (.cells #[.slice a p ca, .slice b q cb, .int .i64 n] 81 (0, 0))
theorem NetAt.below {w w' : World} {X : Nat} {a : Option Addr} {p ca : Nat} {b : Option Addr} {q cb : Nat} {n : Int} (h : NetAt w X a p ca b q cb n) (k : Below w.heap.size w w') : NetAt w' X a p ca b q cb n := (k.block X (lt_of_heap h)).trans h
theorem NetAt.cells {w : World} {X : Nat} {a : Option Addr} {p ca : Nat} {b : Option Addr} {q cb : Nat} {n : Int} (h : NetAt w X a p ca b q cb n) : w.cell? ⟨X, 0, none⟩ = some (.slice a p ca) ∧ w.cell? ⟨X, 1, none⟩ = some (.slice b q cb) ∧ w.cell? ⟨X, 2, none⟩ = some (.int .i64 n) := by
  refine ⟨?_, ?_, ?_⟩ <;> rw [cell_of_row _ _ _ _ _ _ h] <;> rfl
end
end Go.Proofs.Yteeofpjfgjhemaa
namespace Go.Proofs.Yteeofpjfgjhemaa
section
open Go.ChangeShapes Go.WideShapes Go.ChangeAt Go.RowKit
set_option linter.unusedVariables false
set_option maxHeartbeats 8000000 in
theorem on_any (w : World) (a : Option Addr) (p ca : Nat) (ws : List Int) (b : Option Addr) (q cb : Nat) (os : List Int) (n i : Int) (ha : Ints .i64 w a p ws) (hb : Ints .i64 w b q os) (hp : p ≤ 25) (hq : q ≤ 25) :
    Calls Try.prog 55 #[.agg #[.slice a p ca, .slice b q cb, .int .i64 n], .int .i64 i] w fun e w' => e = .returned (.int .i64 (onG ws os n i)) ∧ Below w.heap.size w w' := by
  obtain ⟨G, hG⟩ : ∃ G, G = onG ws os n i := ⟨_, rfl⟩
  rw [← hG]
  have HG := hide hG
  have WA := hide (fun (W : World) => waiting_any W a p ca b q cb n hp)
  have HAS := hide (fun (W : World) (k : Int) (u : Bool) => has_any W a p ca b q cb n k u)
  obtain ⟨w1, hw1⟩ : ∃ w1, w1 = w.alloc (.cells #[.slice a p ca, .slice b q cb, .int .i64 n] 81) := ⟨_, rfl⟩
  obtain ⟨X, hX⟩ : ∃ X, X = w.heap.size := ⟨_, rfl⟩
  have b1 : Below w.heap.size w w1 := by rw [hw1]; exact (Below.refl w.heap.size w).alloc (Nat.le_refl _) _
  have B1 := hide b1
  have HW1 := hide hw1
  have HX := hide hX
  have N1 := hide (show NetAt w1 X a p ca b q cb n from by rw [hw1, hX]; exact heap_alloc_new _ _)
  have LA := ha.1
  have LB := hb.1
  have HA1 := ha.below b1
  have HB1 := hb.below b1
  obtain ⟨x0, x1, x2⟩ := N1.out.cells
  have L1 := hide (show w.heap.size ≤ w1.heap.size from b1.size)
  clear hG hw1 hX b1 ha hb
  by_cases h1 : i < 0
  · have G2 := hide (show G = -1 from by rw [HG.out]; unfold onG; rw [if_pos (.inl h1)])
    clear HA1 HB1
    go_enter Try.func55, Try.ntmps55
    go_upto_region 1 with fail
    rw [← HW1.out, ← HX.out]
    go_wp2_with fail
    go_ret
    exact ⟨ret_int G2.out.symm, B1.out⟩
  obtain ⟨W, hW⟩ : ∃ W : Nat, W = waitG n p := ⟨_, rfl⟩
  rw [← hW] at WA
  by_cases h2 : i < (W : Int)
  · have h3 : i < n ∧ i < (p : Int) := (waitG_iff (show (0 : Int) ≤ i by omega)).1 (by rw [← hW]; exact h2)
    obtain ⟨k, rfl⟩ : ∃ k : Nat, i = (k : Int) := ⟨i.toNat, by omega⟩
    have hk : k < p := by omega
    obtain ⟨ab, ao, rfl, ca'⟩ := HA1.cell hk
    obtain ⟨m, hm⟩ : ∃ m, m = ws.getD k 0 := ⟨_, rfl⟩
    rw [← hm] at ca'
    have O1 := hide (show G = if m < 0 ∨ (os.length : Int) ≤ m then -1 else if os.getD m.toNat 0 < 0 ∨ n ≤ os.getD m.toNat 0 then -1 else os.getD m.toNat 0 from by
      rw [HG.out]; unfold onG; rw [if_neg (by rw [LA]; omega), Int.toNat_natCast, ← hm])
    have k0 : (0 : Int) ≤ (k : Int) := by omega
    have k1 : (k : Int) < (p : Int) := by omega
    have ABL := hide (show ab < w1.heap.size from lt_of_cell? ca')
    clear hm hW HA1 h3 hk HG LA
    by_cases h4 : m < 0
    · have G2 := hide (show G = -1 from by rw [O1.out, if_pos (.inl h4)])
      clear HB1
      go_enter Try.func55, Try.ntmps55
      go_upto_region 1 with fail
      rw [← HW1.out, ← HX.out]
      go_upto_region 4 with (go_at_call 34; refine (WA.out _).mono ?_; rintro e w2 ⟨rfl, b2⟩; have y0 := (b2.cell (p := ⟨X, 0, none⟩) (lt_of_heap N1.out)).trans x0; have ca2 := (b2.cell (p := ⟨ab, ao + k, none⟩) ABL.out).trans ca'; have B2 := hide (B1.out.trans (b2.mono B1.out.size)); clear b2)
      go_quiet (fail)
      go_wp2_with fail
      go_ret
      exact ⟨ret_int G2.out.symm, by first | exact B2.out | exact below_drewN B2.out _⟩
    by_cases h5 : (q : Int) ≤ m
    · have G2 := hide (show G = -1 from by rw [O1.out, if_pos (.inr (by rw [LB]; exact h5))])
      have jn : (m < 0) = False := eq_false h4
      have jq : ((q : Int) ≤ m) = True := eq_true h5
      clear HB1
      go_enter Try.func55, Try.ntmps55
      go_upto_region 1 with fail
      rw [← HW1.out, ← HX.out]
      go_upto_region 4 with (go_at_call 34; refine (WA.out _).mono ?_; rintro e w2 ⟨rfl, b2⟩; have y0 := (b2.cell (p := ⟨X, 0, none⟩) (lt_of_heap N1.out)).trans x0; have y1 := (b2.cell (p := ⟨X, 1, none⟩) (lt_of_heap N1.out)).trans x1; have ca2 := (b2.cell (p := ⟨ab, ao + k, none⟩) ABL.out).trans ca'; have B2 := hide (B1.out.trans (b2.mono B1.out.size)); clear b2)
      go_quiet (fail)
      go_wp2_with fail
      go_ret
      exact ⟨ret_int G2.out.symm, by first | exact B2.out | exact below_drewN B2.out _⟩
    obtain ⟨j, rfl⟩ : ∃ j : Nat, m = (j : Int) := ⟨m.toNat, by omega⟩
    have hj : j < q := by omega
    obtain ⟨bb, bo, rfl, cb'⟩ := HB1.cell hj
    obtain ⟨o, ho⟩ : ∃ o, o = os.getD j 0 := ⟨_, rfl⟩
    rw [← ho] at cb'
    have O2 := hide (show G = if o < 0 ∨ n ≤ o then -1 else o from by
      rw [O1.out, if_neg (by rw [LB]; omega), Int.toNat_natCast, ← ho])
    have BBL := hide (show bb < w1.heap.size from lt_of_cell? cb')
    have j0 : (0 : Int) ≤ (j : Int) := by omega
    have j1 : (j : Int) < (q : Int) := by omega
    have jn : ((j : Int) < 0) = False := eq_false (by omega)
    have jq : ((q : Int) ≤ (j : Int)) = False := eq_false (by omega)
    obtain ⟨u, hu⟩ : ∃ u, u = decide (0 ≤ o ∧ o < n) := ⟨_, rfl⟩
    have CH := hide (fun W => HAS.out W o u hu)
    have HU := hide hu
    have TO := hide (show ∀ W', Below w1.heap.size w1 W' → (W'.cell? ⟨X, 0, none⟩ = some (.slice (some ⟨ab, ao, none⟩) p ca) ∧ W'.cell? ⟨X, 1, none⟩ = some (.slice (some ⟨bb, bo, none⟩) q cb) ∧ W'.cell? ⟨X, 2, none⟩ = some (.int .i64 n)) ∧ W'.cell? ⟨ab, ao + k, none⟩ = some (.int .i64 (j : Int)) ∧ W'.cell? ⟨bb, bo + j, none⟩ = some (.int .i64 o) from fun W' hb =>
      ⟨⟨(hb.cell (p := ⟨X, 0, none⟩) (lt_of_heap N1.out)).trans x0, (hb.cell (p := ⟨X, 1, none⟩) (lt_of_heap N1.out)).trans x1, (hb.cell (p := ⟨X, 2, none⟩) (lt_of_heap N1.out)).trans x2⟩, (hb.cell (p := ⟨ab, ao + k, none⟩) ABL.out).trans ca', (hb.cell (p := ⟨bb, bo + j, none⟩) BBL.out).trans cb'⟩)
    clear ho HB1 hj hu O1 HAS
    cases u with
    | false =>
      have G2 := hide (show G = -1 from by
        have h := of_decide_eq_false HU.out.symm
        rw [O2.out, if_pos (by omega)])
      go_enter Try.func55, Try.ntmps55
      go_upto_region 1 with fail
      rw [← HW1.out, ← HX.out]
      go_upto_region 4 with (go_at_call 34; refine (WA.out _).mono ?_; rintro e w2 ⟨rfl, b2⟩; have BW := hide b2; have Y2 := hide (TO.out w2 b2); obtain ⟨⟨y0, y1, y2⟩, yk, yj⟩ := TO.out w2 b2; clear b2 x0 x1 x2 ca' cb')
      go_region_held3 (fun w' => (w'.cell? ⟨X, 0, none⟩ = some (.slice (some ⟨ab, ao, none⟩) p ca) ∧ w'.cell? ⟨X, 1, none⟩ = some (.slice (some ⟨bb, bo, none⟩) q cb) ∧ w'.cell? ⟨X, 2, none⟩ = some (.int .i64 n)) ∧ w'.cell? ⟨ab, ao + k, none⟩ = some (.int .i64 (j : Int)) ∧ w'.cell? ⟨bb, bo + j, none⟩ = some (.int .i64 o)) (first | exact Y2.out | exact Y3.out) ((go_at_call 70; refine (CH.out _).mono ?_; rintro e w3 ⟨rfl, b3⟩; have B3 := hide (BW.out.trans (((below_drewN (Below.refl w2.heap.size w2) 1).trans b3).mono BW.out.size)); have Y3 := hide (TO.out w3 B3.out); clear b3))
      go_wp2_with fail
      go_ret
      exact ⟨ret_int G2.out.symm, B1.out.trans (B3.out.mono B1.out.size)⟩
    | true =>
      have G2 := hide (show G = o from by
        have h := of_decide_eq_true HU.out.symm
        rw [O2.out, if_neg (by omega)])
      go_enter Try.func55, Try.ntmps55
      go_upto_region 1 with fail
      rw [← HW1.out, ← HX.out]
      go_upto_region 4 with (go_at_call 34; refine (WA.out _).mono ?_; rintro e w2 ⟨rfl, b2⟩; have BW := hide b2; have Y2 := hide (TO.out w2 b2); obtain ⟨⟨y0, y1, y2⟩, yk, yj⟩ := TO.out w2 b2; clear b2 x0 x1 x2 ca' cb')
      go_region_held3 (fun w' => (w'.cell? ⟨X, 0, none⟩ = some (.slice (some ⟨ab, ao, none⟩) p ca) ∧ w'.cell? ⟨X, 1, none⟩ = some (.slice (some ⟨bb, bo, none⟩) q cb) ∧ w'.cell? ⟨X, 2, none⟩ = some (.int .i64 n)) ∧ w'.cell? ⟨ab, ao + k, none⟩ = some (.int .i64 (j : Int)) ∧ w'.cell? ⟨bb, bo + j, none⟩ = some (.int .i64 o)) (first | exact Y2.out | exact Y3.out) ((go_at_call 70; refine (CH.out _).mono ?_; rintro e w3 ⟨rfl, b3⟩; have B3 := hide (BW.out.trans (((below_drewN (Below.refl w2.heap.size w2) 1).trans b3).mono BW.out.size)); have Y3 := hide (TO.out w3 B3.out); clear b3))
      obtain ⟨⟨z0, z1, z2⟩, zk, zj⟩ := Y3.out
      clear y0 y1 y2 yk yj
      go_wp2_with fail
      go_ret
      exact ⟨ret_int G2.out.symm, B1.out.trans (B3.out.mono B1.out.size)⟩
  · have G2 := hide (show G = -1 from by
      have h3 : ¬ (i < n ∧ i < (p : Int)) := fun h => h2 (by rw [hW]; exact (waitG_iff (show (0 : Int) ≤ i by omega)).2 h)
      rw [HG.out]; unfold onG; rw [if_pos (by rw [LA]; omega)])
    have h6 : (W : Int) ≤ i := by omega
    clear hW HA1 HB1
    go_enter Try.func55, Try.ntmps55
    go_upto_region 1 with fail
    rw [← HW1.out, ← HX.out]
    go_wp2_with (go_at_call 34; refine (WA.out _).mono ?_; rintro e w2 ⟨rfl, b2⟩; have B2 := hide (B1.out.trans (b2.mono B1.out.size)); clear b2)
    go_ret
    exact ⟨ret_int G2.out.symm, by first | exact B2.out | exact below_drewN B2.out _⟩
end
end Go.Proofs.Yteeofpjfgjhemaa
namespace Go.Proofs.Yteeofpjfgjhemaa
section
open Go.ChangeShapes Go.WideShapes Go.ChangeAt Go.RowKit
set_option linter.unusedVariables false
theorem least_ex {P : Nat → Prop} : ∀ n, P n → ∃ m, P m ∧ ∀ k, P k → m ≤ k := by
  intro n
  induction n using Nat.strongRecOn with
  | ind n ih =>
    intro h
    by_cases g : ∃ k, P k ∧ k < n
    · obtain ⟨k, hk, hlt⟩ := g
      exact ih k hlt hk
    · refine ⟨n, h, fun k hk => ?_⟩
      by_cases e : k < n
      · exact absurd ⟨k, hk, e⟩ g
      · omega
open Classical in
/-- The least number of which P holds. -/
noncomputable def leastN (P : Nat → Prop) : Nat := if h : ∃ m, P m ∧ ∀ k, P k → m ≤ k then Classical.choose h else 0
theorem leastN_is {P : Nat → Prop} {n : Nat} (h : P n) : P (leastN P) ∧ ∀ k, P k → leastN P ≤ k := by
  unfold leastN
  rw [dif_pos (least_ex n h)]
  exact Classical.choose_spec (least_ex n h)
theorem leastN_le {P : Nat → Prop} {n : Nat} (h : P n) : leastN P ≤ n := (leastN_is h).2 n h
theorem leastN_spec {P : Nat → Prop} (h : ∃ n, P n) : P (leastN P) := by
  obtain ⟨n, h⟩ := h
  exact (leastN_is h).1
section
variable {σ : Type}
def alongF (step : σ → Int → Bool × σ) (on : Int → Int) : Nat → σ → Int → σ
  | 0, s, _ => s
  | f + 1, s, k => if k = -1 then s else if (step s k).1 then alongF step on f (step s k).2 (on k) else (step s k).2
end
/-- A loop along a chain, f rounds being left at most. -/
structure AlongP {σ : Type} (step : σ → Int → Bool × σ) (on : Int → Int) (n : Int) (μ : σ → Nat) (I : σ → World → Prop) (V : Nat → Prop) (w : World) (N : World → Prop) (FIN : σ) (f : Nat) (kv : Value) (wr : World) : Prop where
  ex : ∃ s k, kv = .int .i64 k ∧ (k = -1 ∨ 0 ≤ k ∧ k < n) ∧ I s wr ∧ alongF step on f s k = FIN ∧ μ s < f
  touch : Touch V w wr
  net : N wr
end
end Go.Proofs.Yteeofpjfgjhemaa
namespace Go.Proofs.Yteeofpjfgjhemaa
section
open Go.ChangeShapes Go.WideShapes Go.ChangeAt Go.RowKit
set_option linter.unusedVariables false
set_option maxHeartbeats 4000000 in
theorem along_round {σ : Type} (step : σ → Int → Bool × σ) (μ : σ → Nat) (I : σ → World → Prop) (V : Nat → Prop) (c1 c2 c3 : Value) (w : World) (a : Option Addr) (p ca : Nat) (ws : List Int) (b : Option Addr) (q cb : Nat) (os : List Int) (n : Int) (hp : p ≤ 25) (hq : q ≤ 25)
    (hK : ∀ s W W', I s W → Below W.heap.size W W' → I s W') (hL : ∀ s W, I s W → Ints .i64 W a p ws ∧ Ints .i64 W b q os) (hV : ¬ V w.heap.size)
    (hS : ∀ s k W, I s W → w.heap.size < W.heap.size → 0 ≤ k → k < n → Calls Try.prog 45 #[.int .i64 k, c1, c2, c3] W fun e w' => e = .returned (.bool (step s k).1) ∧ I (step s k).2 w' ∧ Touch V W w')
    (hμ : ∀ s k W, I s W → 0 ≤ k → k < n → (step s k).1 = true → μ (step s k).2 < μ s) (s0 : σ) (k0 : Int) (h0 : I s0 w) (hk : k0 = -1 ∨ 0 ≤ k0 ∧ k0 < n) :
    Calls Try.prog 44 #[.agg #[.slice a p ca, .slice b q cb, .int .i64 n], .int .i64 k0, .func (.func 45) #[] #[c1, c2, c3]] w fun e w' => e = .returned (.tuple #[]) ∧ I (alongF step (onG ws os n) (μ s0 + 1) s0 k0) w' ∧ Touch V w w' := by
  obtain ⟨FIN, hF⟩ : ∃ F, F = alongF step (onG ws os n) (μ s0 + 1) s0 k0 := ⟨_, rfl⟩
  rw [← hF]
  obtain ⟨w1, hw1⟩ : ∃ w1, w1 = w.alloc (.cells #[.slice a p ca, .slice b q cb, .int .i64 n] 81) := ⟨_, rfl⟩
  obtain ⟨X, hX⟩ : ∃ X, X = w.heap.size := ⟨_, rfl⟩
  have b1 : Below w.heap.size w w1 := by rw [hw1]; exact (Below.refl w.heap.size w).alloc (Nat.le_refl _) _
  have N1 : NetAt w1 X a p ca b q cb n := by rw [hw1, hX]; exact heap_alloc_new _ _
  have HW1 := hide hw1
  have HX := hide hX
  have P0 := hide (show AlongP step (onG ws os n) n μ I V w (fun wr => NetAt wr X a p ca b q cb n) FIN (μ s0 + 1) (.int .i64 k0) w1 from ⟨⟨s0, k0, rfl, hk, hK _ _ _ h0 b1, hF.symm, Nat.lt_succ_self _⟩, Touch.of_below b1, N1⟩)
  have ON := hide (fun (s : σ) (W : World) (h : I s W) (k : Int) => on_any W a p ca ws b q cb os n k (hL s W h).1 (hL s W h).2 hp hq)
  have KP := hide hK
  have ST := hide hS
  have MU := hide hμ
  have VX := hide (show ¬ V X from by rw [hX]; exact hV)
  have OG := hide (show ∀ k, onG ws os n k = -1 ∨ 0 ≤ onG ws os n k ∧ onG ws os n k < n from fun k => by
    by_cases h : 0 ≤ onG ws os n k
    · exact .inr ⟨h, onG_lt h⟩
    · exact .inl (onG_none h))
  clear hF hw1 hX b1 N1 hK hL hV hS hμ h0 hk hp hq
  go_enter Try.func44, Try.ntmps44
  go_wp2_with fail
  rw [← HW1.out, ← HX.out]
  go_loopw [1] (fun kv wr => ∃ f, AlongP step (onG ws os n) n μ I V w (fun wr => NetAt wr X a p ca b q cb n) FIN f kv wr) (fun kv wr => leastN (fun f => AlongP step (onG ws os n) n μ I V w (fun wr => NetAt wr X a p ca b q cb n) FIN f kv wr))
  case atStart => exact ⟨_, P0.out⟩
  case round =>
    rename World => w2
    have hP := leastN_spec hrel
    clear hrel
    obtain ⟨⟨s, k, rfl, hk, hI, hA, hm⟩, hT, hN⟩ := hP
    obtain ⟨L, hL⟩ : ∃ L, L = leastN (fun f => AlongP step (onG ws os n) n μ I V w (fun wr => NetAt wr X a p ca b q cb n) FIN f (.int .i64 k) w2) := ⟨_, rfl⟩
    rw [← hL] at hA hm
    have HL := hide hL
    obtain ⟨M, hM⟩ : ∃ M, L = M + 1 := ⟨L - 1, by omega⟩
    rw [hM] at hA
    have HA := hide (show (if k = -1 then s else if (step s k).1 then alongF step (onG ws os n) M (step s k).2 (onG ws os n k) else (step s k).2) = FIN from hA)
    have HI := hide hI
    have HT := hide hT
    have HN := hide hN
    have HM := hide (show μ s < M + 1 from by rw [← hM]; exact hm)
    have LM := hide hM
    clear hL hA hI hT hN hM hm P0
    by_cases h1 : k = -1
    · have FS := hide (show s = FIN from by rw [← HA.out, if_pos h1])
      subst h1
      go_wp2_with fail
      go_end0
      exact ⟨rfl, by rw [← FS.out]; exact HI.out, HT.out⟩
    · have hkn : 0 ≤ k ∧ k < n := by rcases hk with h | h; exact absurd h h1; exact h
      have e1 : (k == -1) = false := by simpa using h1
      have C := hide (ST.out s k w2 HI.out (by rw [← HX.out]; exact lt_of_heap HN.out) hkn.1 hkn.2)
      have C2 := hide (show ∀ W, I (step s k).2 W → _ from fun W h => ON.out (step s k).2 W h k)
      have D := hide (MU.out s k w2 HI.out hkn.1 hkn.2)
      obtain ⟨t, ht⟩ : ∃ t, t = (step s k).2 := ⟨_, rfl⟩
      obtain ⟨u, hu⟩ : ∃ u, u = (step s k).1 := ⟨_, rfl⟩
      obtain ⟨o, ho⟩ : ∃ o, o = onG ws os n k := ⟨_, rfl⟩
      have OK := hide (OG.out k)
      rw [← ht, ← hu] at C D
      rw [← ht, ← ho] at C2
      rw [← ho] at OK
      have FN := hide (show (if u = true then alongF step (onG ws os n) M t o else t) = FIN from by have h := HA.out; rw [if_neg h1, ← ht, ← hu, ← ho] at h; exact h)
      clear ht hu ho hk hkn ST MU ON HA
      cases u with
      | false =>
        have FS := hide (show t = FIN from FN.out)
        go_wp2_with (go_at_call 45; refine C.out.mono ?_; rintro e w3 ⟨rfl, h2, h3⟩; have I3 := hide h2; have T3 := hide h3; clear h2 h3)
        go_end0
        exact ⟨rfl, by rw [← FS.out]; exact I3.out, HT.out.trans T3.out (fun _ e => .inl e)⟩
      | true =>
        have FS := hide (show alongF step (onG ws os n) M t o = FIN from FN.out)
        have n2 := HN.out
        go_upto_region 2 with (go_at_call 45; refine C.out.mono ?_; rintro e w3 ⟨rfl, h2, h3⟩; have I3 := hide h2; have T3 := hide h3; clear h2 h3)
        have N3 := hide (show NetAt w3 X a p ca b q cb n from (T3.out.block X (lt_of_heap HN.out) VX.out).trans HN.out)
        have C3 := hide (C2.out w3 I3.out)
        clear n2 C C2
        obtain ⟨y0, y1, y2⟩ := N3.out.cells
        go_wp2_with (go_at_call 55; refine C3.out.mono ?_; rintro e w4 ⟨rfl, b4⟩; have I4 := hide (KP.out _ _ _ I3.out b4); have N4 := hide (N3.out.below b4); have T4 := hide ((HT.out.trans T3.out (fun _ e => .inl e)).trans (Touch.of_below (S := V) b4) (fun _ e => .inl e)); clear b4)
        have NEW := hide (show AlongP step (onG ws os n) n μ I V w (fun wr => NetAt wr X a p ca b q cb n) FIN M (.int .i64 o) w4 from ⟨⟨t, o, rfl, OK.out, I4.out, FS.out, by have := D.out (by simp); have := HM.out; omega⟩, T4.out, N4.out⟩)
        go_roundw
        case rel => exact ⟨M, NEW.out⟩
        case measure =>
          refine Nat.lt_of_le_of_lt (leastN_le NEW.out) ?_
          exact Nat.lt_of_lt_of_eq (show M < L by have := LM.out; omega) HL.out
end
end Go.Proofs.Yteeofpjfgjhemaa
namespace Go.Proofs.Yteeofpjfgjhemaa
section
open Go.ChangeShapes Go.WideShapes Go.ChangeAt Go.RowKit Go.Maps
set_option linter.unusedVariables false
/-- A variable of one cell. -/
def BoxAt (w : World) (B : Nat) (t : TypeId) (v : Value) : Prop := w.heap[B]? = some (.cells #[v] t (0, 0))
theorem BoxAt.lt {w : World} {B : Nat} {t : TypeId} {v : Value} (h : BoxAt w B t v) : B < w.heap.size := lt_of_heap h
theorem BoxAt.new (w : World) (t : TypeId) (v : Value) {n : Nat} (hn : n = w.heap.size) : BoxAt (w.alloc (.cells #[v] t)) n t v := by rw [hn]; exact heap_alloc_new _ _
theorem BoxAt.cell {w : World} {B : Nat} {t : TypeId} {v : Value} (h : BoxAt w B t v) : w.cell? ⟨B, 0, none⟩ = some v := by rw [cell_of_row _ _ _ _ _ _ h]; rfl
theorem BoxAt.frozen {w : World} {B : Nat} {t : TypeId} {v : Value} (h : BoxAt w B t v) : w.frozen? ⟨B, 0, none⟩ = false := frozen_of_row _ _ _ _ _ h
theorem BoxAt.keep {w w' : World} {B : Nat} {t : TypeId} {v : Value} (h : BoxAt w B t v) (e : w'.heap[B]? = w.heap[B]?) : BoxAt w' B t v := e.trans h
theorem BoxAt.below {w w' : World} {B : Nat} {t : TypeId} {v : Value} (h : BoxAt w B t v) (b : Below w.heap.size w w') : BoxAt w' B t v := h.keep (b.block B h.lt)
theorem BoxAt.touch {S : Nat → Prop} {w w' : World} {B : Nat} {t : TypeId} {v : Value} (h : BoxAt w B t v) (b : Touch S w w') (d : ¬ S B) : BoxAt w' B t v := h.keep (b.block B h.lt d)
theorem BoxAt.set {w : World} {B : Nat} {t : TypeId} {v : Value} (h : BoxAt w B t v) (u : Value) : BoxAt (w.setCell ⟨B, 0, none⟩ u) B t u := by
  unfold BoxAt
  rw [heap_setCell_same _ _ _ _ _ _ h]
  rfl
theorem keyLawI : Keyed Try.prog 3 := int_keyed Try.underlying3
theorem zeroUnit (w : World) : (zeroValue 74).run Try.prog w = .ok (.agg #[]) w := by kernel_rfl
/-- The set in block M holds l. -/
def Told (w : World) (M : Nat) (l : List Int) : Prop :=
  ∃ D : DataW Unit, w.ownsMap Try.prog 3 unitElem M l.length D ∧ ∀ k, (Lit.int .i64 k).wf = true → Maps.has D (.int .i64 k) = decide (k ∈ l)
theorem Told.lt {w : World} {M : Nat} {l : List Int} (h : Told w M l) : M < w.heap.size := by obtain ⟨D, hD, _⟩ := h; exact hD.lt
theorem Told.made (w : World) {n : Nat} (hn : n = w.heap.size) : Told (w.alloc (.map #[] 0)) n [] := by
  rw [hn]
  exact ⟨.map [], World.ownsMap_made _ _ _ _, fun k _ => rfl⟩
theorem Told.keep {w w' : World} {M : Nat} {l : List Int} (h : Told w M l) (e : w'.heap[M]? = w.heap[M]?) : Told w' M l := by
  obtain ⟨D, ⟨es, clock, hb, r⟩, rest⟩ := h
  exact ⟨D, ⟨es, clock, e.trans hb, r⟩, rest⟩
theorem Told.look {w : World} {M : Nat} {l : List Int} (h : Told w M l) (k : Int) (hk : (Lit.int .i64 k).wf = true) :
    (Instr.lookup 67 (.map (some M)) (.int .i64 k) true).run Try.prog w = .ok (.tuple #[.agg #[], .bool (decide (k ∈ l))]) w := by
  obtain ⟨D, hD, hf⟩ := h
  have hkey : keyOf Try.prog 3 (.int .i64 k) = some (.int .i64 k) := keyOf_int_mk Try.underlying3 hk
  obtain ⟨v, ps, hrun, hv⟩ := hD.look_ok keyLawI Try.underlying67 (zeroUnit w) unitElem_mk hkey
  obtain ⟨rfl, _⟩ := unitElem_inv hv
  rw [hrun, hf k hk]
theorem Told.store {w : World} {M : Nat} {l : List Int} (h : Told w M l) (hn : l.length < 1000000) (k : Int) (hk : (Lit.int .i64 k).wf = true) :
    ∃ w', (Instr.mapUpdate 67 (.map (some M)) (.int .i64 k) (.agg #[])).run Try.prog w = .ok () w' ∧ Told w' M (l ++ [k]) ∧ w.grownBy w' (some M) := by
  obtain ⟨D, hD, hf⟩ := h
  have hkey : keyOf Try.prog 3 (.int .i64 k) = some (.int .i64 k) := keyOf_int_mk Try.underlying3 hk
  have hI : WideAt.IsKeyLit (Lit.int .i64 k) := trivial
  obtain ⟨w', hrun, ho, hg⟩ := hD.update keyLawI Try.underlying67 (by unfold maxLen; omega) hkey unitElem_mk
  refine ⟨w', hrun, ⟨D.put (.int .i64 k) (.agg []), by rw [List.length_append]; exact ho, fun x hx => ?_⟩, hg⟩
  · by_cases e : x = k
    · subst e
      rw [has_put_same hD.isMap hI]
      exact (decide_eq_true (by simp)).symm
    · have hne : (Lit.int .i64 x) ≠ (Lit.int .i64 k) := fun e' => by injection e' with _ e'; exact e e'
      rw [has_put_other hne, hf x hx]
      simp [e]
end
end Go.Proofs.Yteeofpjfgjhemaa
namespace Go.Proofs.Yteeofpjfgjhemaa
section
open Go.ChangeShapes Go.WideShapes Go.ChangeAt Go.RowKit
set_option linter.unusedVariables false
def roundStep (m : Nat) (i : Int) (s : (Nat → Int) × Bool) (k : Int) : Bool × ((Nat → Int) × Bool) :=
  if (m : Int) ≤ k then (false, s) else if s.1 k.toNat ≠ 0 then (false, (s.1, decide (s.1 k.toNat = i + 1))) else (true, (putF s.1 k.toNat (i + 1), s.2))
structure RoundI (g m Bf Bi Br : Nat) (a : Option Addr) (p : Nat) (ws : List Int) (b : Option Addr) (q : Nat) (os : List Int) (i : Int) (s : (Nat → Int) × Bool) (W : World) : Prop where
  row : RowF W g m s.1
  fbox : BoxAt W Bf 36 (.slice (some ⟨g, 0, none⟩) m m)
  ibox : BoxAt W Bi 3 (.int .i64 i)
  rbox : BoxAt W Br 4 (.bool s.2)
  la : Ints .i64 W a p ws
  lb : Ints .i64 W b q os
def RoundV (g Br : Nat) (i : Nat) : Prop := i = g ∨ i = Br
theorem ints_touch' {S : Nat → Prop} {w w' : World} {q : IntKind} {a : Option Addr} {n : Nat} {xs : List Int} (h : Ints q w a n xs) (t : Touch S w w') (d : 0 < n → ∀ b o, a = some ⟨b, o, none⟩ → ¬ S b) : Ints q w' a n xs := by
  by_cases h0 : 0 < n
  · exact t.ints h (d h0)
  · exact ⟨h.1, fun h' => absurd h' h0⟩
theorem RoundI.below {g m Bf Bi Br : Nat} {a : Option Addr} {p : Nat} {ws : List Int} {b : Option Addr} {q : Nat} {os : List Int} {i : Int} {s : (Nat → Int) × Bool} {W W' : World} (h : RoundI g m Bf Bi Br a p ws b q os i s W) (k : Below W.heap.size W W') : RoundI g m Bf Bi Br a p ws b q os i s W' :=
  ⟨h.row.below k, h.fbox.below k, h.ibox.below k, h.rbox.below k, h.la.below k, h.lb.below k⟩
set_option maxHeartbeats 8000000 in
theorem round1_any (g m Bf Bi Br : Nat) (a : Option Addr) (p : Nat) (ws : List Int) (b : Option Addr) (q : Nat) (os : List Int) (i : Int) (hi : 0 ≤ i ∧ i < 25) (hm : m ≤ 25) (hne : Bf ≠ g ∧ Bf ≠ Br ∧ Bi ≠ g ∧ Bi ≠ Br ∧ Br ≠ g) (hal : 0 < p → ∀ c o, a = some ⟨c, o, none⟩ → c ≠ g ∧ c ≠ Br) (hbl : 0 < q → ∀ c o, b = some ⟨c, o, none⟩ → c ≠ g ∧ c ≠ Br)
    (s : (Nat → Int) × Bool) (k : Int) (W : World) (h : RoundI g m Bf Bi Br a p ws b q os i s W) (k0 : 0 ≤ k) :
    Calls Try.prog 45 #[.int .i64 k, .pointer (some ⟨Bf, 0, none⟩), .pointer (some ⟨Bi, 0, none⟩), .pointer (some ⟨Br, 0, none⟩)] W fun e w' => e = .returned (.bool (roundStep m i s k).1) ∧ RoundI g m Bf Bi Br a p ws b q os i (roundStep m i s k).2 w' ∧ Touch (RoundV g Br) W w' := by
  have H := hide h
  have cf := h.fbox.cell
  have ci := h.ibox.cell
  have cr := h.rbox.cell
  have fr := h.rbox.frozen
  by_cases h1 : (m : Int) ≤ k
  · have e : roundStep m i s k = (false, s) := if_pos h1
    rw [e]
    dsimp only
    clear h
    go_enter Try.func45, Try.ntmps45
    go_wp2_with fail
    go_ret
    exact ⟨rfl, H.out, Touch.refl _ _⟩
  · obtain ⟨j, rfl⟩ : ∃ j : Nat, k = (j : Int) := ⟨k.toNat, by omega⟩
    have hj : j < m := by omega
    have k1 : (j : Int) < (m : Int) := by omega
    have cj := h.row.cell hj
    have fj := h.row.frozen j
    obtain ⟨x, hx⟩ : ∃ x, x = s.1 j := ⟨_, rfl⟩
    rw [← hx] at cj
    obtain ⟨J, hJ⟩ : ∃ J, i + 1 = J := ⟨_, rfl⟩
    have J2 : J ≤ 26 := by omega
    have i2 : i ≤ 26 := by omega
    have i3 : 0 ≤ i := by omega
    have wJ : IntKind.i64.wrap (i + 1) = J := by rw [hJ]; exact IntWalk.i64_in _ (by omega)
    by_cases h2 : x = 0
    · have e : roundStep m i s j = (true, (putF s.1 j (i + 1), s.2)) := by
        unfold roundStep
        rw [if_neg h1, Int.toNat_natCast, ← hx, if_neg (by simpa using h2)]
      rw [e]
      dsimp only
      have N1 := hide (show RowF (W.setCell ⟨g, j, none⟩ (.int .i64 J)) g m (putF s.1 j (i + 1)) from by rw [hJ]; exact h.row.set j J)
      have N2 := hide ((Touch.refl (fun i => i = g) W).setCell (p := ⟨g, j, none⟩) rfl (.int .i64 J))
      subst h2
      clear h hx e wJ h1
      go_enter Try.func45, Try.ntmps45
      go_wp2_with fail
      go_ret
      have T := N2.out.mono (S' := RoundV g Br) (fun _ e => .inl e)
      exact ⟨rfl, ⟨N1.out, H.out.fbox.touch N2.out hne.1, H.out.ibox.touch N2.out hne.2.2.1, H.out.rbox.touch N2.out hne.2.2.2.2, ints_touch' H.out.la N2.out (fun hp c o e => (hal hp c o e).1), ints_touch' H.out.lb N2.out (fun hp c o e => (hbl hp c o e).1)⟩, T⟩
    · have e0 : (x == 0) = false := by simpa using h2
      obtain ⟨u, hu⟩ : ∃ u, u = decide (x = i + 1) := ⟨_, rfl⟩
      have e : roundStep m i s j = (false, (s.1, u)) := by
        unfold roundStep
        rw [if_neg h1, Int.toNat_natCast, ← hx, if_pos (by simpa using h2), hu]
      rw [e]
      dsimp only
      have eJ : (x == J) = u := by rw [hu, hJ]; rfl
      have N1 := hide (h.rbox.set (.bool u))
      have N2 := hide ((Touch.refl (fun i => i = Br) W).setCell (p := ⟨Br, 0, none⟩) rfl (.bool u))
      clear h hx e hJ hu h1
      go_enter Try.func45, Try.ntmps45
      go_upto_region 4 with fail
      go_region
      go_wp2_with fail
      go_ret
      have T1 := N2.out.drewN 1
      exact ⟨rfl, ⟨H.out.row.keep (T1.block g H.out.row.lt (fun e => hne.2.2.2.2 e.symm)), H.out.fbox.touch T1 hne.2.1, H.out.ibox.touch T1 hne.2.2.2.1, N1.out, ints_touch' H.out.la T1 (fun hp c o e => (hal hp c o e).2), ints_touch' H.out.lb T1 (fun hp c o e => (hbl hp c o e).2)⟩, T1.mono (fun _ e => .inr e)⟩
/-- How many of the first m places hold 0. -/
def zerosF (F : Nat → Int) : Nat → Nat
  | 0 => 0
  | m + 1 => zerosF F m + if F m = 0 then 1 else 0
theorem zerosF_put {F : Nat → Int} {j : Nat} {v : Int} (h0 : F j = 0) (hv : v ≠ 0) : ∀ m, zerosF (putF F j v) m + (if j < m then 1 else 0) = zerosF F m := by
  intro m
  induction m with
  | zero => rfl
  | succ m ih =>
    show zerosF (putF F j v) m + (if putF F j v m = 0 then 1 else 0) + (if j < m + 1 then 1 else 0) = zerosF F m + (if F m = 0 then 1 else 0)
    by_cases e : m = j
    · subst e
      have e1 : putF F m v m = v := if_pos rfl
      rw [e1, if_neg hv, if_pos (by omega), if_pos h0]
      rw [if_neg (by omega)] at ih
      omega
    · have e1 : putF F j v m = F m := if_neg e
      rw [e1]
      by_cases h : j < m
      · rw [if_pos h] at ih
        rw [if_pos (show j < m + 1 by omega)]
        omega
      · rw [if_neg h] at ih
        rw [if_neg (show ¬ j < m + 1 by omega)]
        omega
/-- What goesRound leaves. -/
def roundEnd (ws os : List Int) (n : Int) (m : Nat) (i : Int) (F : Nat → Int) : (Nat → Int) × Bool := alongF (roundStep m i) (onG ws os n) (zerosF F m + 1) (F, false) i
set_option maxHeartbeats 8000000 in
theorem goesRound_any (w : World) (a : Option Addr) (p ca : Nat) (ws : List Int) (b : Option Addr) (q cb : Nat) (os : List Int) (n : Int) (g m : Nat) (F : Nat → Int) (i : Int) (ha : Ints .i64 w a p ws) (hb : Ints .i64 w b q os) (hp : p ≤ 25) (hq : q ≤ 25) (hr : RowF w g m F) (hm : m ≤ 25) (hi : 0 ≤ i ∧ i < (m : Int)) (hmn : (m : Int) ≤ n)
    (hal : 0 < p → ∀ c o, a = some ⟨c, o, none⟩ → c ≠ g) (hbl : 0 < q → ∀ c o, b = some ⟨c, o, none⟩ → c ≠ g) :
    Calls Try.prog 35 #[.agg #[.slice a p ca, .slice b q cb, .int .i64 n], .int .i64 i, .slice (some ⟨g, 0, none⟩) m m] w fun e w' => e = .returned (.bool (roundEnd ws os n m i F).2) ∧ RowF w' g m (roundEnd ws os n m i F).1 ∧ Touch (fun x => x = g) w w' := by
  obtain ⟨A, hA⟩ : ∃ A, A = w.heap.size := ⟨_, rfl⟩
  obtain ⟨w1, hw1⟩ : ∃ w1, w1 = w.alloc (.cells #[.slice a p ca, .slice b q cb, .int .i64 n] 81) := ⟨_, rfl⟩
  obtain ⟨w2, hw2⟩ : ∃ w2, w2 = w1.alloc (.cells #[.int .i64 i] 3) := ⟨_, rfl⟩
  obtain ⟨w3, hw3⟩ : ∃ w3, w3 = w2.alloc (.cells #[.slice (some ⟨g, 0, none⟩) m m] 36) := ⟨_, rfl⟩
  obtain ⟨w4, hw4⟩ : ∃ w4, w4 = w3.alloc (.cells #[.bool false] 4) := ⟨_, rfl⟩
  have s1 : w1.heap.size = A + 1 := by rw [hw1, hA]; simp
  have s2 : w2.heap.size = A + 2 := by rw [hw2, World.size_alloc, s1]
  have s3 : w3.heap.size = A + 3 := by rw [hw3, World.size_alloc, s2]
  have s4 : w4.heap.size = A + 4 := by rw [hw4, World.size_alloc, s3]
  have k1 : Below w1.heap.size w1 w2 := by rw [hw2]; exact (Below.refl _ w1).alloc (Nat.le_refl _) _
  have k2 : Below w2.heap.size w2 w3 := by rw [hw3]; exact (Below.refl _ w2).alloc (Nat.le_refl _) _
  have k3 : Below w3.heap.size w3 w4 := by rw [hw4]; exact (Below.refl _ w3).alloc (Nat.le_refl _) _
  have k23 : Below w2.heap.size w2 w4 := k2.trans (k3.mono k2.size)
  have k13 : Below w1.heap.size w1 w4 := k1.trans (k23.mono k1.size)
  have B4 := hide (show Below w.heap.size w w4 from ((Below.refl w.heap.size w).alloc (Nat.le_refl _) _ : Below w.heap.size w (w.alloc (.cells #[.slice a p ca, .slice b q cb, .int .i64 n] 81))).trans (by rw [← hw1]; exact k13.mono (by rw [s1, hA]; omega)))
  have N4 : NetAt w4 A a p ca b q cb n := NetAt.below (by rw [hw1, hA]; exact heap_alloc_new _ _) k13
  have I4 : BoxAt w4 (A + 1) 3 (.int .i64 i) := (by rw [hw2]; exact BoxAt.new w1 _ _ s1.symm : BoxAt w2 (A + 1) 3 (.int .i64 i)).below k23
  have F4 : BoxAt w4 (A + 2) 36 (.slice (some ⟨g, 0, none⟩) m m) := (by rw [hw3]; exact BoxAt.new w2 _ _ s2.symm : BoxAt w3 (A + 2) 36 (.slice (some ⟨g, 0, none⟩) m m)).below k3
  have R4 : BoxAt w4 (A + 3) 4 (.bool false) := by rw [hw4]; exact BoxAt.new w3 _ _ s3.symm
  have gA : g < A := by rw [hA]; exact hr.lt
  have PA : 0 < p → ∀ c o, a = some ⟨c, o, none⟩ → c < A := fun h c o e => by
    obtain ⟨b', o', e', h'⟩ := ha.cell (k := 0) h
    rw [e] at e'; injection e' with e'; injection e' with e' _
    rw [e', hA]; exact lt_of_cell? h'
  have PB : 0 < q → ∀ c o, b = some ⟨c, o, none⟩ → c < A := fun h c o e => by
    obtain ⟨b', o', e', h'⟩ := hb.cell (k := 0) h
    rw [e] at e'; injection e' with e'; injection e' with e' _
    rw [e', hA]; exact lt_of_cell? h'
  have AL := hide (along_round (roundStep m i) (fun s => zerosF s.1 m) (RoundI g m (A + 2) (A + 1) (A + 3) a p ws b q os i) (RoundV g (A + 3)) (.pointer (some ⟨A + 2, 0, none⟩)) (.pointer (some ⟨A + 1, 0, none⟩)) (.pointer (some ⟨A + 3, 0, none⟩)) w4 a p ca ws b q cb os n hp hq
    (fun s V V' h k => h.below k) (fun s V h => ⟨h.la, h.lb⟩) (by rintro (h | h) <;> omega)
    (fun s k V h hs k0 kn => round1_any g m (A + 2) (A + 1) (A + 3) a p ws b q os i (by omega) hm (by omega) (fun h c o e => ⟨hal h c o e, by have := PA h c o e; omega⟩) (fun h c o e => ⟨hbl h c o e, by have := PB h c o e; omega⟩) s k V h k0)
    (fun s k V h k0 kn ht => by
      unfold roundStep at ht ⊢
      by_cases h1 : (m : Int) ≤ k
      · rw [if_pos h1] at ht; cases ht
      · rw [if_neg h1] at ht ⊢
        by_cases h2 : s.1 k.toNat ≠ 0
        · rw [if_pos h2] at ht; cases ht
        · rw [if_neg h2]
          have h3 : s.1 k.toNat = 0 := by simpa using h2
          have := zerosF_put (v := i + 1) h3 (by omega) m
          rw [if_pos (by omega)] at this
          show zerosF (putF s.1 k.toNat (i + 1)) m < zerosF s.1 m
          omega)
    (F, false) i ⟨hr.below B4.out, F4, I4, R4, ha.below B4.out, hb.below B4.out⟩ (.inr ⟨hi.1, by omega⟩))
  have HW := hide (show w4 = (((w.alloc (.cells #[.slice a p ca, .slice b q cb, .int .i64 n] 81)).alloc (.cells #[.int .i64 i] 3)).alloc (.cells #[.slice (some ⟨g, 0, none⟩) m m] 36)).alloc (.cells #[.bool false] 4) from by rw [hw4, hw3, hw2, hw1])
  have HA := hide hA
  have ci := I4.cell
  obtain ⟨x0, x1, x2⟩ := N4.cells
  obtain ⟨E, hE⟩ : ∃ E, E = roundEnd ws os n m i F := ⟨_, rfl⟩
  rw [← hE]
  have HE := hide (show alongF (roundStep m i) (onG ws os n) (zerosF (F, false).1 m + 1) (F, false) i = E from hE.symm)
  clear k1 k2 k3 k23 k13 hw1 hw2 hw3 hw4 s1 s2 s3 s4 ha hb hA N4 I4 F4 R4 PA PB hal hbl hr hE
  go_enter Try.func35, Try.ntmps35
  go_upto_region 2 with fail
  rw [← HA.out, show A + 1 + 1 + 1 = A + 3 from rfl, show A + 1 + 1 = A + 2 from rfl, ← HW.out]
  clear HW
  go_wp2_with (go_at_call 44; refine AL.out.mono ?_; rintro e w6 ⟨rfl, h6, t6⟩; rw [HE.out] at h6; have I6 := hide h6; have T6 := hide t6; have c6 := h6.rbox.cell; clear h6 t6)
  go_ret
  exact ⟨rfl, I6.out.row, (Touch.of_below (S := fun x => x = g) B4.out).trans T6.out (fun x h => by have := HA.out; rcases h with h | h; exact .inl h; exact .inr (by omega))⟩
end
end Go.Proofs.Yteeofpjfgjhemaa
namespace Go.Proofs.Yteeofpjfgjhemaa
section
open Go.ChangeShapes Go.WideShapes Go.ChangeAt Go.RowKit
set_option linter.unusedVariables false
/-- A set of threads (below m) that is closed, nobody of which waits for itself. -/
structure Fine (ws os : List Int) (n m : Nat) (R : Nat → Prop) : Prop where
  lo : ∀ x, R x → x < m
  closed : ∀ x, R x → 0 ≤ onG ws os n (x : Int) → (m : Int) ≤ onG ws os n (x : Int) ∨ ∃ y : Nat, onG ws os n (x : Int) = (y : Int) ∧ R y
  no : ∀ x : Nat, R x → (x : Int) ∉ chainG ws os n (x : Int)
theorem Fine.iff {ws os : List Int} {n m : Nat} {R R' : Nat → Prop} (h : Fine ws os n m R) (e : ∀ x, R' x ↔ R x) : Fine ws os n m R' := by
  refine ⟨fun x hx => h.lo x ((e x).1 hx), fun x hx h0 => ?_, fun x hx => h.no x ((e x).1 hx)⟩
  rcases h.closed x ((e x).1 hx) h0 with h' | ⟨y, h1, h2⟩
  · exact .inl h'
  · exact .inr ⟨y, h1, (e y).2 h2⟩
theorem Fine.add {ws os : List Int} {n m : Nat} {R : Nat → Prop} (h : Fine ws os n m R) (hw : ∀ y : Int, (m : Int) ≤ y → onG ws os n y = -1) {c : Nat} (hc : c < m) (hn : ¬ R c) (ho : 0 ≤ onG ws os n (c : Int) → (m : Int) ≤ onG ws os n (c : Int) ∨ ∃ y : Nat, onG ws os n (c : Int) = (y : Int) ∧ R y) : Fine ws os n m (fun x => R x ∨ x = c) := by
  refine ⟨fun x hx => ?_, fun x hx h0 => ?_, fun x hx hm => ?_⟩
  · rcases hx with hx | hx
    · exact h.lo x hx
    · omega
  · rcases hx with hx | hx
    · rcases h.closed x hx h0 with h' | ⟨y, h1, h2⟩
      · exact .inl h'
      · exact .inr ⟨y, h1, .inl h2⟩
    · rw [hx] at h0 ⊢
      rcases ho h0 with h' | ⟨y, h1, h2⟩
      · exact .inl h'
      · exact .inr ⟨y, h1, .inl h2⟩
  · rcases hx with hx | hx
    · exact h.no x hx hm
    · rw [hx] at hm
      have key : ∀ z ∈ chainG ws os n (c : Int), (m : Int) ≤ z ∨ ∃ y : Nat, z = (y : Int) ∧ R y := by
        refine chainG_in (P := fun z => (m : Int) ≤ z ∨ ∃ y : Nat, z = (y : Int) ∧ R y) ho ?_
        rintro z (hz | ⟨y, rfl, hy⟩) h0
        · rw [hw z hz] at h0; omega
        · exact h.closed y hy h0
      rcases key _ hm with h' | ⟨y, h1, h2⟩
      · omega
      · have : y = c := by omega
        rw [this] at h2
        exact hn h2
theorem alongF_succ {σ : Type} (step : σ → Int → Bool × σ) (on : Int → Int) (f : Nat) (s : σ) (k : Int) : alongF step on (f + 1) s k = if k = -1 then s else if (step s k).1 then alongF step on f (step s k).2 (on k) else (step s k).2 := rfl
theorem round_big {m : Nat} {i : Int} {s : (Nat → Int) × Bool} {k : Int} (h : (m : Int) ≤ k) : roundStep m i s k = (false, s) := if_pos h
theorem round_seen {m : Nat} {i : Int} {s : (Nat → Int) × Bool} {j : Nat} (h : j < m) (h0 : s.1 j ≠ 0) : roundStep m i s j = (false, (s.1, decide (s.1 j = i + 1))) := by
  unfold roundStep
  rw [if_neg (by omega), Int.toNat_natCast, if_pos h0]
theorem round_new {m : Nat} {i : Int} {s : (Nat → Int) × Bool} {j : Nat} (h : j < m) (h0 : s.1 j = 0) : roundStep m i s j = (true, (putF s.1 j (i + 1), s.2)) := by
  unfold roundStep
  rw [if_neg (by omega), Int.toNat_natCast, if_neg (by simpa using h0)]
/-- Whoever comes round waits for itself. -/
theorem round_yes {ws os : List Int} {n m : Nat} {i : Int} (hi : 0 ≤ i) : ∀ (f : Nat) (G : Nat → Int) (cur : Int), (cur = -1 ∨ 0 ≤ cur) → (∀ x : Nat, x < m → G x = i + 1 → 0 ≤ cur → cur ∈ chainG ws os n (x : Int)) →
    (alongF (roundStep m i) (onG ws os n) f (G, false) cur).2 = true → ∃ x : Nat, x < m ∧ (x : Int) ∈ chainG ws os n (x : Int) := by
  intro f
  induction f with
  | zero => intro G cur hc hG h; cases h
  | succ f ih =>
    intro G cur hc hG h
    rw [alongF_succ] at h
    by_cases h1 : cur = -1
    · rw [if_pos h1] at h; cases h
    · rw [if_neg h1] at h
      by_cases h2 : (m : Int) ≤ cur
      · rw [round_big h2] at h; cases h
      · obtain ⟨j, rfl⟩ : ∃ j : Nat, cur = (j : Int) := ⟨cur.toNat, by omega⟩
        have hj : j < m := by omega
        by_cases h3 : G j = 0
        · rw [round_new (s := (G, false)) hj h3] at h
          refine ih (putF G j (i + 1)) (onG ws os n (j : Int)) ?_ ?_ h
          · by_cases h0 : 0 ≤ onG ws os n (j : Int)
            · exact .inr h0
            · exact .inl (onG_none h0)
          · intro x hx hx2 h0
            by_cases e : x = j
            · rw [e]; exact chainG_first h0
            · have e2 : putF G j (i + 1) x = G x := if_neg e
              rw [e2] at hx2
              exact chainG_closed (hG x hx hx2 (by omega)) h0
        · rw [round_seen (s := (G, false)) hj h3] at h
          have h4 : decide (G j = i + 1) = true := h
          exact ⟨j, hj, hG j hj (of_decide_eq_true h4) (by omega)⟩
/-- What is left of those marked once the chain of those newly marked is taken away. -/
def LeftR (F G H : Nat → Int) (m : Nat) (x : Nat) : Prop := x < m ∧ H x ≠ 0 ∧ ¬ (G x ≠ 0 ∧ F x = 0)
theorem round_no {ws os : List Int} {n m : Nat} {i : Int} (hi : 0 ≤ i) (hw : ∀ y : Int, (m : Int) ≤ y → onG ws os n y = -1) {F : Nat → Int} (hF : Fine ws os n m (fun x => x < m ∧ F x ≠ 0)) (hFi : ∀ x, x < m → F x ≠ i + 1) :
    ∀ (f : Nat) (G H : Nat → Int) (cur : Int), zerosF G m < f → (cur = -1 ∨ 0 ≤ cur) → (∀ x, x < m → F x ≠ 0 → G x = F x) → (∀ x, x < m → F x = 0 → G x = 0 ∨ G x = i + 1) → alongF (roundStep m i) (onG ws os n) f (G, false) cur = (H, false) →
    (∀ x, x < m → G x ≠ 0 → H x = G x) ∧ (∀ x, x < m → G x = 0 → H x = 0 ∨ H x = i + 1) ∧ Fine ws os n m (LeftR F G H m) ∧ (0 ≤ cur → (m : Int) ≤ cur ∨ ∃ y : Nat, cur = (y : Int) ∧ LeftR F G H m y) := by
  intro f
  induction f with
  | zero => intro G H cur hf; omega
  | succ f ih =>
    intro G H cur hf hc hold hnew h
    have same : ∀ x, x < m → (LeftR F G G m x ↔ x < m ∧ F x ≠ 0) := by
      intro x hx
      unfold LeftR
      constructor
      · rintro ⟨_, h1, h2⟩
        exact ⟨hx, fun h3 => h2 ⟨h1, h3⟩⟩
      · rintro ⟨_, h1⟩
        exact ⟨hx, by rw [hold x hx h1]; exact h1, fun h3 => h1 h3.2⟩
    have fineG : Fine ws os n m (LeftR F G G m) := hF.iff (fun x => by
      constructor
      · intro h; exact (same x h.1).1 h
      · intro h; exact (same x h.1).2 h)
    rw [alongF_succ] at h
    by_cases h1 : cur = -1
    · rw [if_pos h1] at h
      injection h with h _
      subst h
      exact ⟨fun _ _ _ => rfl, fun _ _ h => .inl h, fineG, fun h0 => by omega⟩
    · rw [if_neg h1] at h
      by_cases h2 : (m : Int) ≤ cur
      · rw [round_big h2] at h
        have h : (G, false) = (H, false) := h
        injection h with h _
        subst h
        exact ⟨fun _ _ _ => rfl, fun _ _ h => .inl h, fineG, fun _ => .inl h2⟩
      · obtain ⟨j, rfl⟩ : ∃ j : Nat, cur = (j : Int) := ⟨cur.toNat, by omega⟩
        have hj : j < m := by omega
        by_cases h3 : G j = 0
        · rw [round_new (s := (G, false)) hj h3] at h
          have h : alongF (roundStep m i) (onG ws os n) f (putF G j (i + 1), false) (onG ws os n (j : Int)) = (H, false) := h
          have Fj : F j = 0 := by
            by_cases e : F j = 0
            · exact e
            · have := hold j hj e; rw [this] at h3; exact absurd h3 e
          have zp := zerosF_put (v := i + 1) h3 (by omega) m
          rw [if_pos hj] at zp
          have pj : putF G j (i + 1) j = i + 1 := if_pos rfl
          have po : ∀ x, x ≠ j → putF G j (i + 1) x = G x := fun x hx => if_neg hx
          obtain ⟨r1, r2, r3, r4⟩ := ih (putF G j (i + 1)) H (onG ws os n (j : Int)) (by omega) (by
            by_cases h0 : 0 ≤ onG ws os n (j : Int)
            · exact .inr h0
            · exact .inl (onG_none h0)) (fun x hx hx2 => by
              rw [po x (fun e => hx2 (by rw [e]; exact Fj))]; exact hold x hx hx2) (fun x hx hx2 => by
              by_cases e : x = j
              · rw [e, pj]; exact .inr rfl
              · rw [po x e]; exact hnew x hx hx2) h
          have Hj : H j = i + 1 := by rw [r1 j hj (by rw [pj]; omega), pj]
          have nR : ¬ LeftR F (putF G j (i + 1)) H m j := fun h => h.2.2 ⟨by rw [pj]; omega, Fj⟩
          have eqv : ∀ x, LeftR F G H m x ↔ (LeftR F (putF G j (i + 1)) H m x ∨ x = j) := by
            intro x
            unfold LeftR
            by_cases e : x = j
            · subst e
              constructor
              · intro _; exact .inr rfl
              · intro _; exact ⟨hj, by rw [Hj]; omega, fun h => h.1 h3⟩
            · rw [po x e]
              constructor
              · intro h; exact .inl h
              · rintro (h | h)
                · exact h
                · exact absurd h e
          refine ⟨fun x hx hx2 => ?_, fun x hx hx2 => ?_, (r3.add hw hj nR r4).iff eqv, fun _ => .inr ⟨j, rfl, (eqv j).2 (.inr rfl)⟩⟩
          · have e : x ≠ j := fun e => hx2 (by rw [e]; exact h3)
            rw [r1 x hx (by rw [po x e]; exact hx2), po x e]
          · by_cases e : x = j
            · rw [e, Hj]; exact .inr rfl
            · exact r2 x hx (by rw [po x e]; exact hx2)
        · rw [round_seen (s := (G, false)) hj h3] at h
          have h : (G, decide (G j = i + 1)) = (H, false) := h
          injection h with h h4
          subst h
          refine ⟨fun _ _ _ => rfl, fun _ _ h => .inl h, fineG, fun _ => .inr ⟨j, rfl, (same j hj).2 ⟨hj, ?_⟩⟩⟩
          intro h5
          rcases hnew j hj h5 with h6 | h6
          · exact h3 h6
          · exact of_decide_eq_false h4 h6
/-- Behind the first k chains, none of which came round. -/
structure RoundOK (ws os : List Int) (n m k : Nat) (F : Nat → Int) : Prop where
  fine : Fine ws os n m (fun x => x < m ∧ F x ≠ 0)
  few : ∀ x, x < m → F x ≤ (k : Int)
  all : ∀ x, x < k → x < m → F x ≠ 0
theorem RoundOK.start (ws os : List Int) (n m : Nat) : RoundOK ws os n m 0 (fun _ => 0) :=
  ⟨⟨fun x h => h.1, fun x h => absurd rfl h.2, fun x h => absurd rfl h.2⟩, fun _ _ => Int.le_refl _, fun x h => by omega⟩
theorem RoundOK.next {ws os : List Int} {n m k : Nat} {F : Nat → Int} (h : RoundOK ws os n m k F) (hw : ∀ y : Int, (m : Int) ≤ y → onG ws os n y = -1) (hk : k < m) (hr : (roundEnd ws os n m k F).2 = false) : RoundOK ws os n m (k + 1) (roundEnd ws os n m k F).1 := by
  obtain ⟨H, hH⟩ : ∃ H, roundEnd ws os n m k F = (H, false) := ⟨(roundEnd ws os n m k F).1, by rw [← hr]⟩
  rw [hH]
  obtain ⟨r1, r2, r3, r4⟩ := round_no (i := (k : Int)) (by omega) hw h.fine (fun x hx => by have := h.few x hx; omega) _ F H k (Nat.lt_succ_self _) (.inr (by omega)) (fun _ _ _ => rfl) (fun x _ hx => .inl hx) hH
  have eqv : ∀ x, (x < m ∧ H x ≠ 0) ↔ LeftR F F H m x := fun x => ⟨fun h => ⟨h.1, h.2, fun h' => h'.1 h'.2⟩, fun h => ⟨h.1, h.2.1⟩⟩
  refine ⟨r3.iff eqv, fun x hx => ?_, fun x hx hm => ?_⟩
  · show H x ≤ ((k + 1 : Nat) : Int)
    by_cases e : F x = 0
    · rcases r2 x hx e with e2 | e2 <;> rw [e2] <;> omega
    · rw [r1 x hx e]; have := h.few x hx; omega
  · show H x ≠ 0
    by_cases e : x = k
    · rcases r4 (by omega) with h' | ⟨y, h1, h2⟩
      · omega
      · have : y = x := by omega
        rw [← this]; exact h2.2.1
    · have := h.all x (by omega) hm
      rw [r1 x hm this]; exact this
theorem RoundOK.yes {ws os : List Int} {n m k : Nat} {F : Nat → Int} (h : RoundOK ws os n m k F) (hk : k < m) (hr : (roundEnd ws os n m k F).2 = true) : ∃ x : Nat, x < m ∧ (x : Int) ∈ chainG ws os n (x : Int) :=
  round_yes (i := (k : Int)) (by omega) _ F k (.inr (by omega)) (fun x hx hx2 => by have := h.few x hx; omega) hr
end
end Go.Proofs.Yteeofpjfgjhemaa
namespace Go.Proofs.Yteeofpjfgjhemaa
section
open Go.ChangeShapes Go.WideShapes Go.ChangeAt Go.RowKit
set_option linter.unusedVariables false
theorem made_oneA (v : Value) (n : Nat) : madeCells #[v] n = Array.replicate n v := by
  apply Array.ext
  · simp [madeCells]
  · intro i h1 h2
    simp [madeCells, Nat.mod_one]
theorem rowF_zeroA (n : Nat) : (rowF n (fun _ => 0)).toArray = Array.replicate n (Value.int .i64 0) := by
  unfold rowF
  rw [List.map_const']
  simp
set_option maxHeartbeats 8000000 in
theorem pacyc_any (w : World) (a : Option Addr) (p ca : Nat) (ws : List Int) (b : Option Addr) (q cb : Nat) (os : List Int) (n : Int) (ha : ListIn w a p ca ws) (hb : ListIn w b q cb os) (hn : n ≤ 25) :
    Calls Try.prog 20 #[.slice a p ca, .slice b q cb, .int .i64 n] w fun e w' => e = .returned (.bool (acyZ ws os n)) ∧ Below w.heap.size w w' := by
  obtain ⟨i0, hi0, hz0, hz1, hz2⟩ := info_parts int_info
  obtain ⟨N, hN⟩ : ∃ N, N = n.toNat := ⟨_, rfl⟩
  obtain ⟨m, hm⟩ : ∃ m, m = waitG n p := ⟨_, rfl⟩
  have lp : ws.length = p := ha.ints.1
  have p25 := ha.2
  have m25 : m ≤ 25 := by rw [hm]; unfold waitG; omega
  obtain ⟨R, hR⟩ : ∃ R, R = acyZ ws os n := ⟨_, rfl⟩
  have RY := hide (show (∃ x : Nat, x < m ∧ (x : Int) ∈ chainG ws os N (x : Int)) → R = false from fun ⟨x, hx, h⟩ => by
    have hn0 : n = (N : Int) := by rw [hm] at hx; unfold waitG at hx; omega
    rw [hR]
    unfold acyZ
    rw [hn0]
    refine acyG_no (i := x) ?_ h
    rw [hm] at hx; unfold waitG at hx; rw [lp]; omega)
  have RN := hide (show (∀ x : Nat, x < m → (x : Int) ∉ chainG ws os N (x : Int)) → R = true from fun h => by
    rw [hR]
    unfold acyZ
    refine acyG_yes (fun i hi => ?_)
    have him : i < m := by rw [hm]; unfold waitG; rw [lp] at hi; exact hi
    have hn0 : n = (N : Int) := by rw [hm] at him; unfold waitG at him; omega
    rw [hn0]
    exact h i him)
  have HWt := hide (show ∀ y : Int, (m : Int) ≤ y → onG ws os N y = -1 from fun y hy => by
    unfold onG
    rw [if_pos (by rw [lp]; rw [hm] at hy; unfold waitG at hy; omega)])
  have MN := hide (show 0 < m → n = (N : Int) ∧ (m : Int) ≤ n from fun h => by rw [hm] at h ⊢; unfold waitG at h ⊢; omega)
  rw [← hR]
  obtain ⟨A, hA⟩ : ∃ A, A = w.heap.size := ⟨_, rfl⟩
  obtain ⟨w1, hw1⟩ : ∃ w1, w1 = w.alloc (.cells #[.slice a p ca, .slice b q cb, .int .i64 n] 81) := ⟨_, rfl⟩
  have s1 : w1.heap.size = A + 1 := by rw [hw1, hA]; simp
  have b1 : Below w.heap.size w w1 := by rw [hw1]; exact (Below.refl w.heap.size w).alloc (Nat.le_refl _) _
  have N1 : NetAt w1 A a p ca b q cb n := by rw [hw1, hA]; exact heap_alloc_new _ _
  have WT := hide (fun (W : World) => (by rw [hm]; exact waiting_any W a p ca b q cb n p25 : Calls Try.prog 34 #[.agg #[.slice a p ca, .slice b q cb, .int .i64 n]] W fun e w' => e = .returned (.int .i64 (m : Int)) ∧ Below W.heap.size W w'))
  have PA := hide (show 0 < p → ∀ c o, a = some ⟨c, o, none⟩ → c < A from fun h c o e => by
    obtain ⟨b', o', e', h'⟩ := ha.ints.cell (k := 0) h
    rw [e] at e'; injection e' with e'; injection e' with e' _
    rw [e', hA]; exact lt_of_cell? h')
  have PB := hide (show 0 < q → ∀ c o, b = some ⟨c, o, none⟩ → c < A from fun h c o e => by
    obtain ⟨b', o', e', h'⟩ := hb.ints.cell (k := 0) h
    rw [e] at e'; injection e' with e'; injection e' with e' _
    rw [e', hA]; exact lt_of_cell? h')
  have GR := hide (fun (W : World) (g : Nat) (F : Nat → Int) (k : Nat) (la : Ints .i64 W a p ws) (lb : Ints .i64 W b q os) (hr : RowF W g m F) (hk : k < m) (hg : A < g) => show Calls Try.prog 35 #[.agg #[.slice a p ca, .slice b q cb, .int .i64 n], .int .i64 (k : Int), .slice (some ⟨g, 0, none⟩) m m] W fun e w' => e = .returned (.bool (roundEnd ws os N m k F).2) ∧ RowF w' g m (roundEnd ws os N m k F).1 ∧ Touch (fun x => x = g) W w' from by
    have h0 := MN.out (by omega)
    have e : roundEnd ws os n m k F = roundEnd ws os N m k F := by rw [h0.1]
    have := goesRound_any W a p ca ws b q cb os n g m F (k : Int) la lb p25 hb.2 hr m25 (by omega) h0.2 (fun h c o e => by have := PA.out h c o e; omega) (fun h c o e => by have := PB.out h c o e; omega)
    rw [e] at this
    exact this)
  have B1 := hide b1
  have HN1 := hide N1
  have LA := hide ha.ints
  have LB := hide hb.ints
  have HW1 := hide hw1
  have HA := hide hA
  have S1 := hide s1
  obtain ⟨x0, x1, x2⟩ := N1.cells
  have m0 : (0 : Int) ≤ (m : Int) := by omega
  have m2 : (m : Int) ≤ 25 := by omega
  have hmk := run_make_row (P := Try.prog) 36 3 i0 (.int .i64 0) Try.underlying36 hi0 hz0 hz1 rfl .i64 .i64 m (by rw [hz2]; omega) (by omega)
  rw [made_oneA] at hmk
  clear ha hb hn hR hA hw1 b1 N1 hi0 hz0 hz1 hz2 lp hN hm s1
  go_enter Try.func20, Try.ntmps20
  go_upto_region 2 with fail
  rw [← HA.out, ← HW1.out]
  go_upto_region 3 with (go_at_call 34; refine (WT.out _).mono ?_; rintro e w2 ⟨rfl, b2⟩; have B2 := hide b2; clear b2)
  obtain ⟨g, hg⟩ : ∃ g, g = w2.heap.size := ⟨_, rfl⟩
  obtain ⟨w3, hw3⟩ : ∃ w3, w3 = w2.alloc (.cells (Array.replicate m (Value.int .i64 0)) 3) := ⟨_, rfl⟩
  rw [← hg, ← hw3]
  have b3 : Below w2.heap.size w2 w3 := by rw [hw3]; exact (Below.refl _ w2).alloc (Nat.le_refl _) _
  have R3 := hide (show RowF w3 g m (fun _ => 0) from by unfold RowF; rw [rowF_zeroA, hg, hw3]; exact heap_alloc_new _ _)
  have B3 := hide (show Below w.heap.size w w3 from (B1.out.trans (B2.out.mono B1.out.size)).trans (b3.mono (B1.out.trans (B2.out.mono B1.out.size)).size))
  have N3 := hide ((HN1.out.below B2.out).below b3)
  have GA := hide (show A < g from by have := B2.out.size; have := S1.out; omega)
  clear hmk x0 x1 x2 hw3 hg b3
  go_wp2_with fail
  go_loopw [19] (fun kv wr => ∃ (k : Nat) (F : Nat → Int), k ≤ m ∧ kv = .int .i64 (k : Int) ∧ Hid (RowF wr g m F ∧ Touch (fun i => i = g) w3 wr ∧ RoundOK ws os N m k F)) (fun kv _ => m - (intOf kv).toNat)
  case atStart => exact ⟨0, _, Nat.zero_le _, rfl, R3.out, Touch.refl _ _, RoundOK.start ws os N m⟩
  case round =>
    obtain ⟨k, F, hk, rfl, hZ⟩ := hrel
    rename World => w4
    have R4 := hide hZ.out.1
    have T4 := hide hZ.out.2.1
    have OK := hide hZ.out.2.2
    have N4 := hide (show NetAt w4 A a p ca b q cb n from (T4.out.block A (lt_of_heap N3.out) (by have := GA.out; omega)).trans N3.out)
    clear hZ R3
    obtain ⟨y0, y1, y2⟩ := N4.out.cells
    by_cases hlt : k < m
    · have k1 : (k : Int) < (m : Int) := by omega
      have k0 : (0 : Int) ≤ (k : Int) := by omega
      have LA4 := ints_touch' (LA.out.below B3.out) T4.out (fun h c o e => by have := PA.out h c o e; have := GA.out; omega)
      have LB4 := ints_touch' (LB.out.below B3.out) T4.out (fun h c o e => by have := PB.out h c o e; have := GA.out; omega)
      have C := hide (GR.out w4 g F k LA4 LB4 R4.out hlt GA.out)
      have YES := hide (OK.out.yes hlt)
      have NEXT := hide (OK.out.next HWt.out hlt)
      obtain ⟨E, hE⟩ : ∃ E, E = roundEnd ws os N m k F := ⟨_, rfl⟩
      have C2 : Hid (Calls Try.prog 35 #[.agg #[.slice a p ca, .slice b q cb, .int .i64 n], .int .i64 (k : Int), .slice (some ⟨g, 0, none⟩) m m] w4 fun e w' => e = .returned (.bool E.2) ∧ RowF w' g m E.1 ∧ Touch (fun x => x = g) w4 w') := (show Calls _ _ _ _ _ from by rw [hE]; exact C.out)
      rw [← hE] at YES NEXT
      clear LA4 LB4 GR C hE
      obtain ⟨E1, E2⟩ := E
      cases E2 with
      | true =>
        have G2 := hide (show R = false from RY.out (YES.out rfl))
        go_wp2_with (go_at_call 35; refine C2.out.mono ?_; rintro e w5 ⟨rfl, h5, t5⟩; have T5 := hide t5; clear h5 t5)
        go_ret
        exact ⟨ret_bool G2.out.symm, B3.out.trans ((T4.out.trans T5.out (fun _ e => .inl e)).below B3.out.size (fun i e => by have := GA.out; have := HA.out; omega))⟩
      | false =>
        have NX := hide (NEXT.out rfl)
        go_wp2_with (go_at_call 35; refine C2.out.mono ?_; rintro e w5 ⟨rfl, h5, t5⟩; have R5 := hide h5; have T5 := hide t5; clear h5 t5)
        go_roundw
        case rel => exact ⟨k + 1, E1, by omega, by go_num, R5.out, T4.out.trans T5.out (fun _ e => .inl e), NX.out⟩
        case measure => simp [intOf]; omega
    · obtain rfl : k = m := by omega
      have G2 := hide (show R = true from RN.out (fun x hx => OK.out.fine.no x ⟨hx, OK.out.all x hx hx⟩))
      go_wp2_with fail
      go_ret
      exact ⟨ret_bool G2.out.symm, B3.out.trans (T4.out.below B3.out.size (fun i e => by have := GA.out; have := HA.out; omega))⟩
end
end Go.Proofs.Yteeofpjfgjhemaa
