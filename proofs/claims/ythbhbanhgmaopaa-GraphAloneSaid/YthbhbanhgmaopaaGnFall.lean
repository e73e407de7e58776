/-
  The program's falling: the threads by falling priorities, of equal ones by rising numbers.
-/
import Derived.Test.YthbhbanhgmaopaaSsAll
import Derived.Test.YthbhbanhgmaopaaPpMaxF
import Derived.Test.YthbhbanhgmaopaaGhEff
import Derived.Deep.OwnRows
namespace Go.Proofs.Ythbhbanhgmaopaa
open Go.ChangeShapes Go.WideShapes Go.ChangeAt Go.RowKit
set_option linter.unusedVariables false
/-- By what falling compares: of two numbers of threads. -/
def fallC (ps : List Pr) (x y : Int) : Int := cmpP (ps.getD y.toNat prD) (ps.getD x.toNat prD)
/-- Who comes first: of greater priority, or as great and of less number. -/
def fallS (ps : List Pr) (x y : Int) : Prop := 0 < cmpP (ps.getD x.toNat prD) (ps.getD y.toNat prD) ∨ (¬ cmpP (ps.getD x.toNat prD) (ps.getD y.toNat prD) < 0 ∧ x < y)
theorem cmpP_neg {a b : Pr} : (cmpP a b < 0) = (gtP b a = true) := by
  unfold cmpP
  cases h1 : gtP a b with
  | true =>
    have h2 : gtP b a = false := by
      cases h : gtP b a with
      | false => rfl
      | true => rw [gtP_iff] at h h1; omega
    simp [h2]
  | false => cases h2 : gtP b a <;> simp
theorem fall_ord (ps : List Pr) : Ordr (fallC ps) (fallS ps) := by
  refine ⟨fun x y z h1 h2 => ?_, fun x y h => ?_, fun x y h hxy => ?_⟩
  · unfold fallS at *
    simp only [cmpP_pos, cmpP_neg, gtP_iff] at *
    omega
  · unfold fallC at h
    unfold fallS
    left
    rw [cmpP_neg] at h
    rw [cmpP_pos]
    exact h
  · unfold fallC at h
    unfold fallS
    by_cases g : 0 < cmpP (ps.getD x.toNat prD) (ps.getD y.toNat prD)
    · exact .inl g
    · exact .inr ⟨h, hxy⟩
theorem made_one (v : Value) (n : Nat) : madeCells #[v] n = Array.replicate n v := by
  apply Array.ext
  · simp [madeCells]
  · intro i h1 h2
    simp [madeCells, Nat.mod_one]
theorem rowF_zero (n : Nat) : (rowF n (fun _ => 0)).toArray = Array.replicate n (Value.int .i64 0) := by
  unfold rowF
  rw [List.map_const']
  simp
set_option maxHeartbeats 4000000 in
theorem fall1_any (W : World) (Bp : Nat) (pa : Option Addr) (n cn : Nat) (ps : List Pr) (hB : W.cell? ⟨Bp, 0, none⟩ = some (.slice pa n cn)) (hr : Reads 3 prVals W pa n ps) (i k : Nat) (hi : i < n) (hk : k < n) (hn : n ≤ 1000) :
    Calls Try.prog 42 #[.int .i64 (i : Int), .int .i64 (k : Int), .pointer (some ⟨Bp, 0, none⟩)] W fun e w' => e = .returned (.int .i64 (cmpP (ps.getD k prD) (ps.getD i prD))) ∧ Below W.heap.size W w' := by
  obtain ⟨pb, po, rfl, i0, i1, i2⟩ := reads_pr hr hi
  obtain ⟨pb', po', e, k0, k1, k2⟩ := reads_pr hr hk
  injection e with e
  injection e with e1 e2
  subst e1 e2
  obtain ⟨x, hx⟩ : ∃ x, x = ps.getD i prD := ⟨_, rfl⟩
  obtain ⟨y, hy⟩ : ∃ y, y = ps.getD k prD := ⟨_, rfl⟩
  rw [← hx] at i0 i1 i2 ⊢
  rw [← hy] at k0 k1 k2 ⊢
  obtain ⟨u, hu⟩ : ∃ u, u = cmpP y x := ⟨_, rfl⟩
  have CM := hide (show ∀ W, Calls Try.prog 26 #[.agg #[.int .i64 y.c, .int .i64 y.l, .int .i64 y.d], .agg #[.int .i64 x.c, .int .i64 x.l, .int .i64 x.d]] W fun e w' => e = .returned (.int .i64 u) ∧ Below W.heap.size W w' from fun W => by rw [hu]; exact pcmp_any W y.c y.l y.d x.c x.l x.d)
  rw [← hu]
  have B1 := hide (show Bp < W.heap.size from lt_of_cell? hB)
  have B2 := hide (show pb < W.heap.size from lt_of_cell? k0)
  have a0 : (0 : Int) ≤ (i : Int) := by omega
  have a1 : (i : Int) < (n : Int) := by omega
  have b0 : (0 : Int) ≤ (k : Int) := by omega
  have b1 : (k : Int) < (n : Int) := by omega
  have F0 := hide (show ∀ W', Below W.heap.size W W' → W'.cell? ⟨Bp, 0, none⟩ = some (.slice (some ⟨pb, po, none⟩) n cn) ∧ (W'.cell? ⟨pb, po + i * 3, none⟩ = some (.int .i64 x.c) ∧ W'.cell? ⟨pb, po + i * 3 + 1, none⟩ = some (.int .i64 x.l) ∧ W'.cell? ⟨pb, po + i * 3 + 2, none⟩ = some (.int .i64 x.d)) ∧ (W'.cell? ⟨pb, po + k * 3, none⟩ = some (.int .i64 y.c) ∧ W'.cell? ⟨pb, po + k * 3 + 1, none⟩ = some (.int .i64 y.l) ∧ W'.cell? ⟨pb, po + k * 3 + 2, none⟩ = some (.int .i64 y.d)) from fun W' b =>
    ⟨(b.cell (p := ⟨Bp, 0, none⟩) B1.out).trans hB, ⟨(b.cell (p := ⟨pb, _, none⟩) B2.out).trans i0, (b.cell (p := ⟨pb, _, none⟩) B2.out).trans i1, (b.cell (p := ⟨pb, _, none⟩) B2.out).trans i2⟩, ⟨(b.cell (p := ⟨pb, _, none⟩) B2.out).trans k0, (b.cell (p := ⟨pb, _, none⟩) B2.out).trans k1, (b.cell (p := ⟨pb, _, none⟩) B2.out).trans k2⟩⟩)
  clear hr hi hk hn hx hy hu
  go_enter Try.func42, Try.ntmps42
  go_upto_region 1 with fail
  go_region_held3 (fun w' => w'.cell? ⟨Bp, 0, none⟩ = some (.slice (some ⟨pb, po, none⟩) n cn) ∧ (w'.cell? ⟨pb, po + i * 3, none⟩ = some (.int .i64 x.c) ∧ w'.cell? ⟨pb, po + i * 3 + 1, none⟩ = some (.int .i64 x.l) ∧ w'.cell? ⟨pb, po + i * 3 + 2, none⟩ = some (.int .i64 x.d)) ∧ (w'.cell? ⟨pb, po + k * 3, none⟩ = some (.int .i64 y.c) ∧ w'.cell? ⟨pb, po + k * 3 + 1, none⟩ = some (.int .i64 y.l) ∧ w'.cell? ⟨pb, po + k * 3 + 2, none⟩ = some (.int .i64 y.d))) (first | exact ⟨hB, ⟨i0, i1, i2⟩, ⟨k0, k1, k2⟩⟩ | exact F2) ((go_at_call 26; refine (CM.out _).mono ?_; rintro e w2 ⟨rfl, b2⟩; have B3 := hide (((below_drewN (Below.refl W.heap.size W) 1).trans b2)); have F2 := F0.out w2 B3.out; clear b2))
  go_wp2_with fail
  go_ret
  exact ⟨rfl, B3.out⟩
/-- The closure, wherever only the row that is sorted has turned. -/
theorem fall_cmp {w0 : World} {g Bp : Nat} {pa : Option Addr} {n cn : Nat} {ps : List Pr} (hB : w0.cell? ⟨Bp, 0, none⟩ = some (.slice pa n cn)) (hr : Reads 3 prVals w0 pa n ps) (hn : n ≤ 1000) (hg : Bp ≠ g) (hp : 0 < n → ∀ b o, pa = some ⟨b, o, none⟩ → b ≠ g) :
    CmpC w0 g (.pointer (some ⟨Bp, 0, none⟩)) (fallC ps) (fun x => ∃ k : Nat, x = (k : Int) ∧ k < n) := by
  refine ⟨fun W x y hT hx hy => ?_⟩
  obtain ⟨i, rfl, hi⟩ := hx
  obtain ⟨k, rfl, hk⟩ := hy
  exact fall1_any W Bp pa n cn ps (hT.cell hB hg) (hr.touch hT (fun b o e => hp (by omega) b o e)) i k hi hk hn
set_option maxHeartbeats 4000000 in
theorem sortStable_any (w : World) (g n cp : Nat) (pv : Value) (c : Int → Int → Int) (ok : Int → Prop) (S : Int → Int → Prop) (hC : CmpC w g pv c ok) (O : Ordr c S) (F : Nat → Int) (h : RowF w g n F) (hok : ∀ k, k < n → ok (F k)) (hasc : ∀ k l, k < l → l < n → F k < F l) (hn : n ≤ 39) :
    Calls Try.prog 41 #[.slice (some ⟨g, 0, none⟩) n cp, .func (.func 42) #[] #[pv]] w fun e w' => e = .returned (.tuple #[]) ∧ ∃ G, RowF w' g n G ∧ Touch (fun i => i = g) w w' ∧ Sam F G 0 n ∧ Srt S G 0 n := by
  have C := hide (stable_any w w g n cp pv c ok S hC O F h (Touch.refl _ _) hok hasc hn)
  clear hC O h hok hasc hn
  go_enter Try.func41, Try.ntmps41
  go_wp2_with (go_at_call 47; refine C.out.mono ?_; rintro e w2 ⟨rfl, h2⟩; have R := hide h2; clear h2)
  go_end0
  exact ⟨rfl, R.out⟩
set_option maxHeartbeats 8000000 in
theorem falling_any (w : World) (pa : Option Addr) (n cn : Nat) (ps : List Pr) (hr : Reads 3 prVals w pa n ps) (hn : n ≤ 25) :
    Calls Try.prog 34 #[.slice pa n cn] w fun e w' => ∃ g G, e = .returned (.slice (some ⟨g, 0, none⟩) n n) ∧ w.heap.size ≤ g ∧ RowF w' g n G ∧ Below w.heap.size w w' ∧ (∀ k, k < n → ∃ i : Nat, i < n ∧ G k = (i : Int)) ∧ (∀ i : Nat, i < n → ∃ k, k < n ∧ G k = (i : Int)) ∧ Srt (fallS ps) G 0 n := by
  obtain ⟨i0, hi0, hz0, hz1, hz2⟩ := info_parts int_info
  have I0 := hide (show Try.prog.info? 3 = some i0 ∧ i0.zero = some (.int .i64 0) ∧ i0.size = 1 ∧ i0.bytes = 8 from ⟨hi0, hz0, hz1, hz2⟩)
  obtain ⟨w1, hw1⟩ : ∃ w1, w1 = w.alloc (.cells #[.slice pa n cn] 31) := ⟨_, rfl⟩
  obtain ⟨w2, hw2⟩ : ∃ w2, w2 = w1.alloc (.cells (Array.replicate n (Value.int .i64 0)) 3) := ⟨_, rfl⟩
  obtain ⟨Bp, hBp⟩ : ∃ B, B = w.heap.size := ⟨_, rfl⟩
  obtain ⟨g, hg⟩ : ∃ g, g = w1.heap.size := ⟨_, rfl⟩
  have gB : g = Bp + 1 := by rw [hg, hBp, hw1]; simp
  have b2 : Below w.heap.size w w2 := by rw [hw2, hw1]; exact ((Below.refl w.heap.size w).alloc (Nat.le_refl _) _).alloc (by simp) _
  have R0 := hide (show RowF w2 g n (fun _ => 0) from by unfold RowF; rw [rowF_zero, hg, hw2]; exact heap_alloc_new _ _)
  have c1 : w1.cell? ⟨Bp, 0, none⟩ = some (.slice pa n cn) := by rw [hw1, hBp]; exact cells_new w [.slice pa n cn] 31 _ rfl 0 _ rfl
  have c2 : w2.cell? ⟨Bp, 0, none⟩ = some (.slice pa n cn) := by
    rw [hw2]; exact (((Below.refl w1.heap.size w1).alloc (Nat.le_refl _) _).cell (p := ⟨Bp, 0, none⟩) (lt_of_cell? c1)).trans c1
  have CP := hide c2
  have RD := hide (hr.below b2)
  have PL := hide (show ∀ b o, pa = some ⟨b, o, none⟩ → 0 < n → b < Bp from fun b o e h0 => by
    obtain ⟨pb, po, e2, q, _⟩ := reads_pr hr h0
    rw [e] at e2
    injection e2 with e2
    injection e2 with e2 _
    rw [e2, hBp]; exact lt_of_cell? q)
  have B2 := hide b2
  have HW1 := hide hw1
  have HW2 := hide hw2
  have HB := hide hBp
  have HG := hide hg
  have GB := hide gB
  have HN := hide hn
  have n2 : (n : Int) ≤ 25 := by omega
  have n0 : (0 : Int) ≤ (n : Int) := by omega
  clear hr b2 c2 hw1 hw2 hn gB hi0 hz0 hz1 hz2 hBp hg
  have hmk := run_make_row (P := Try.prog) 22 3 i0 (.int .i64 0) Try.underlying22 I0.out.1 I0.out.2.1 I0.out.2.2.1 rfl .i64 .i64 n (by rw [I0.out.2.2.2]; omega) (by omega)
  rw [made_one] at hmk
  go_enter Try.func34, Try.ntmps34
  go_upto_region 1 with fail
  rw [← HB.out, ← HW1.out]
  go_wp2_with fail
  rw [← HW2.out, ← HG.out]
  clear hmk
  clear c1
  go_loopw [10] (fun kv wr => ∃ k : Nat, k ≤ n ∧ kv = .int .i64 (k : Int) ∧ Hid (RowF wr g n (fun j => if j < k then (j : Int) else 0) ∧ Touch (fun i => i = g) w2 wr)) (fun kv _ => n - (intOf kv).toNat)
  case atStart => exact ⟨0, Nat.zero_le _, rfl, R0.out.ext (fun k _ => by rw [if_neg (by omega)]), Touch.refl _ _⟩
  case round =>
    obtain ⟨k, hk, rfl, hZ⟩ := hrel
    rename World => w3
    by_cases hlt : k < n
    · have k0 : (0 : Int) ≤ (k : Int) := by omega
      have k1 : (k : Int) < (n : Int) := by omega
      have ck := hZ.out.1.cell hlt
      have fk := hZ.out.1.frozen k
      have N1 := hide (show RowF (w3.setCell ⟨g, k, none⟩ (.int .i64 (k : Int))) g n (fun j => if j < k + 1 then (j : Int) else 0) from (hZ.out.1.set k (k : Int)).ext (fun j _ => by
        unfold putF
        dsimp only
        by_cases e : j = k
        · rw [if_pos e, if_pos (by omega), e]
        · rw [if_neg e]
          by_cases h : j < k
          · rw [if_pos h, if_pos (by omega)]
          · rw [if_neg h, if_neg (by omega)]))
      have N2 := hide (hZ.out.2.setCell (p := ⟨g, k, none⟩) rfl (.int .i64 (k : Int)))
      clear hZ R0
      go_wp2_with fail
      go_roundw
      case rel => exact ⟨k + 1, by omega, by go_num, N1.out, N2.out⟩
      case measure => simp [intOf]; omega
    · obtain rfl : k = n := by omega
      have T3 := hide hZ.out.2
      have R3 := hide (show RowF w3 g k (fun j => (j : Int)) from hZ.out.1.ext (fun j hj => by rw [if_pos hj]))
      have gne : Bp ≠ g := by have := GB.out; omega
      have pne : 0 < k → ∀ b o, pa = some ⟨b, o, none⟩ → b ≠ g := fun h b o e => by have := PL.out b o e h; have := GB.out; omega
      have RD3 := hide (show Reads 3 prVals w3 pa k ps from by
        by_cases h : 0 < k
        · exact RD.out.touch T3.out (fun b o e => pne h b o e)
        · have := RD.out; exact ⟨this.1, fun h' => absurd h' (by omega)⟩)
      have C := hide (sortStable_any w3 g k k (.pointer (some ⟨Bp, 0, none⟩)) (fallC ps) _ (fallS ps) (fall_cmp (T3.out.cell CP.out gne) RD3.out (by have := HN.out; omega) gne pne) (fall_ord ps) _ R3.out (fun j hj => ⟨j, rfl, hj⟩) (fun i j h _ => by omega) (by have := HN.out; omega))
      clear hZ R0 RD3 gne pne
      go_wp2_with (go_at_call 41; refine C.out.mono ?_; rintro e w4 ⟨rfl, G, h1, h2, h3, h4⟩; have R4 := hide h1; have T4 := hide h2; have S4 := hide h3; have Q4 := hide h4; clear h1 h2 h3 h4)
      go_ret
      refine ⟨g, G, rfl, by have := GB.out; have := HB.out; omega, R4.out, ?_, fun j hj => ?_, fun i hi => ?_, Q4.out⟩
      · exact B2.out.trans ((T3.out.trans T4.out (fun _ e => .inl e)).below B2.out.size (fun i e => by have := GB.out; have := HB.out; omega))
      · obtain ⟨l, _, l2, e⟩ := S4.out.of j (Nat.zero_le _) hj
        exact ⟨l, l2, e⟩
      · obtain ⟨l, _, l2, e⟩ := S4.out.into i (Nat.zero_le _) hi
        exact ⟨l, l2, e⟩
end Go.Proofs.Ythbhbanhgmaopaa
