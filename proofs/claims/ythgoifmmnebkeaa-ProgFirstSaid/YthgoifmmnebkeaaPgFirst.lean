/-
  The law ProgFirst, over the contracts of the program's prog.
-/
import Derived.Test.YthgoifmmnebkeaaPgReg
import Derived.Deep.DeepCutAuto
namespace Go.Proofs.Ythgoifmmnebkeaa
open Go.ChangeShapes Go.WideShapes Go.ChangeAt Go.RowKit
set_option linter.unusedVariables false
theorem fixL_take40 (xs : List Step) : fixL (xs.take 40) = fixL xs := by unfold fixL; rw [List.take_take]; simp
theorem fixL_at {xs : List Step} {k : Nat} (hk : k < (fixL xs).length) : ∃ u, xs[k]? = some u ∧ (fixL xs)[k]? = some (fixO u) := by
  have h1 := fixL_length xs
  have hx : xs[k]? = some (xs[k]'(by omega)) := List.getElem?_eq_getElem _
  refine ⟨_, hx, ?_⟩
  unfold fixL
  rw [List.getElem?_map, List.getElem?_take_of_lt (by omega), hx]
  rfl
theorem fixL_one (u : Step) : fixL [u] = [fixO u] := rfl
theorem pg_msr {m k k' : Nat} (h : k' ≤ m ∧ k < k' ∧ k < m) : m - (intOf (.int .i64 (k' : Int))).toNat < m - (intOf (.int .i64 (k : Int))).toNat := by
  show m - k' < m - k
  omega
set_option maxRecDepth 10000 in
set_option maxHeartbeats 16000000 in
theorem walk_progFirstC (C : PProg) (w : World) (a : Option Addr) (n c : Nat) (xs : List Step) (hin : Came 9 stVals StWf w a n c xs) (b : Option Addr) (p d : Nat) (ys : List Step) (hin2 : Came 9 stVals StWf w b p d ys) : Calls Try.prog 6 #[.slice a n c, .slice b p d] w fun e w' => e = .returned (.bool true) ∧ Below w.heap.size w w' := by
  have hr := hin.reads
  obtain ⟨hxl, hnc, hcm, hnil, hfit, _⟩ := hin
  have hr2 := hin2.reads
  obtain ⟨hyl, hpd, hdm, hnil2, hfit2, _⟩ := hin2
  have hn : n ≤ maxLen := by omega
  have hp : p ≤ maxLen := by omega
  have K0 := hide (great_any a n c xs w hr hn)
  have K1 := hide (great_any b p d ys w hr2 hp)
  obtain ⟨G0, hG0⟩ : ∃ G0, G0 = greatB xs := ⟨_, rfl⟩
  obtain ⟨G1, hG1⟩ : ∃ G1, G1 = greatB ys := ⟨_, rfl⟩
  rw [← hG0] at K0
  rw [← hG1] at K1
  have HG0 := hide hG0
  have HG1 := hide hG1
  clear hG0 hG1
  have n63 : (n : Int) ≤ 9223372036854775807 := by unfold maxLen at hn; omega
  have p63 : (p : Int) ≤ 9223372036854775807 := by unfold maxLen at hp; omega
  obtain ⟨S, hS⟩ : ∃ S, IntKind.i64.wrap ((n : Int) + (p : Int)) = S := ⟨_, rfl⟩
  by_cases h50 : (50 : Int) < S
  · clear K0 K1 hr hr2 hxl hyl hfit hfit2 hnc hcm hpd hdm hnil hnil2 hn hp n63 p63
    go_enter Try.func6, Try.ntmps6
    go_wp2_with (first | (go_at_call 12; with_reducible refine K0.out.mono ?_; rintro e w' ⟨rfl, rfl⟩) | (go_at_call 12; with_reducible refine K1.out.mono ?_; rintro e w' ⟨rfl, rfl⟩) | (go_at_call 7; refine (pgawake_any C _).mono ?_; rintro e w9 ⟨rfl, b9⟩))
    go_ret
    exact ⟨rfl, b9⟩
  have g0 : G0 = false → n ≤ 60 := fun e => by
    have := HG0.out.symm
    rw [e] at this
    unfold greatB at this
    simp at this
    omega
  cases G0 with
  | true =>
    clear g0
    go_enter Try.func6, Try.ntmps6
    go_wp2_with (first | (go_at_call 12; with_reducible refine K0.out.mono ?_; rintro e w' ⟨rfl, rfl⟩) | (go_at_call 12; with_reducible refine K1.out.mono ?_; rintro e w' ⟨rfl, rfl⟩) | (go_at_call 7; refine (pgawake_any C _).mono ?_; rintro e w9 ⟨rfl, b9⟩))
    go_ret
    exact ⟨rfl, b9⟩
  | false =>
    have hn60 : n ≤ 60 := g0 rfl
    have g1 : G1 = false → p ≤ 60 := fun e => by
      have := HG1.out.symm
      rw [e] at this
      unfold greatB at this
      simp at this
      omega
    cases G1 with
    | true =>
      clear g0 g1
      go_enter Try.func6, Try.ntmps6
      go_wp2_with (first | (go_at_call 12; with_reducible refine K0.out.mono ?_; rintro e w' ⟨rfl, rfl⟩) | (go_at_call 12; with_reducible refine K1.out.mono ?_; rintro e w' ⟨rfl, rfl⟩) | (go_at_call 7; refine (pgawake_any C _).mono ?_; rintro e w9 ⟨rfl, b9⟩))
      go_ret
      exact ⟨rfl, b9⟩
    | false =>
      have hp60 : p ≤ 60 := g1 rfl
      have hS2 : S = (n : Int) + (p : Int) := by rw [← hS]; exact IntWalk.i64_in _ (by omega)
      have h50n : n + p ≤ 50 := by omega
      clear g0 g1 n63 p63 hn hp
      obtain ⟨N, hN⟩ : ∃ N, n + p = N := ⟨_, rfl⟩
      obtain ⟨Z, hZ⟩ : ∃ Z, Z = xs ++ ys := ⟨_, rfl⟩
      have HR := hide (fun (W : World) (bw : Below w.heap.size w W) => hr.below bw)
      have HR2 := hide (fun (W : World) (bw : Below w.heap.size w W) => hr2.below bw)
      have HNIL := hide hnil
      have HNIL2 := hide hnil2
      have HN := hide hN
      have HS := hide hS2
      have H50 := hide h50n
      have HZ := hide hZ
      have WZ := hide (show ∀ (W : World), ∀ x ∈ Z, StWf W x from fun W x hx => by
        rw [hZ] at hx
        rcases List.mem_append.1 hx with h | h
        · exact hfit x h
        · exact hfit2 x h)
      have ZL := hide (show Z.length = N from by rw [hZ, List.length_append, hxl, hyl]; exact hN)
      obtain ⟨i0, hi0, hz0, hz1, hz2⟩ := info_parts ops_info
      have HB := hide hz2
      obtain ⟨F, hF⟩ : ∃ F, fixL Z = F := ⟨_, rfl⟩
      obtain ⟨m, hm⟩ : ∃ m, F.length = m := ⟨_, rfl⟩
      have HF := hide hF
      have HM := hide hm
      have M40 := hide (show m = min 40 N from by rw [← hm, ← hF, fixL_length, ZL.out])
      clear hr hr2 hxl hyl hfit hfit2 hnc hcm hpd hdm hnil hnil2 hN hS2 h50n hZ hz2 hF hm hn60 hp60
      go_enter Try.func6, Try.ntmps6
      go_upto_region 5 with (first
        | (go_at_call 12; with_reducible refine K0.out.mono ?_; rintro e w' ⟨rfl, rfl⟩)
        | (go_at_call 12; with_reducible refine K1.out.mono ?_; rintro e w' ⟨rfl, rfl⟩)
        | (at_builtin; refine wpList_append_reads rfl (.const (.slice none 0 0)) (.tmp 24) _ rfl w.heap.size 25 i0 _ 88 Try.underlying29 hi0 hz0 hz1 HB.out rfl (by omega) _ 0 [] rfl (World.ownsRow_nil _ _ _ _) a n c xs rfl stVals_len stVals_cell (HR.out _ (Below.refl _ _)) HNIL.out (by have := H50.out; unfold maxLen; omega) (by have := H50.out; omega) (Nat.le_refl _) ?_; intro v1 w1 o1 g1; have O1 := hide o1; have B1 := hide ((Below.refl w.heap.size w).grown g1 (Nat.le_refl _) (by intro k hk; cases hk)); clear o1 g1)
        | (at_builtin; refine wpList_append_reads rfl (.tmp 25) (.tmp 26) _ rfl w.heap.size 25 i0 _ 88 Try.underlying29 hi0 hz0 hz1 HB.out rfl (by omega) _ _ _ rfl O1.out b p d ys rfl stVals_len stVals_cell (HR2.out _ B1.out) HNIL2.out (by have := H50.out; unfold maxLen; omega) (by have := H50.out; omega) B1.out.size ?_; intro v2 w2 o2 g2; rw [Nat.zero_add, List.nil_append, ← List.flatMap_append, ← HZ.out, HN.out] at o2; obtain ⟨a2, c2, rfl, _, q1, q2, q3⟩ := own_reads stVals_len (by omega) o2; have CF2 := hide (And.intro q1 (And.intro q2 q3)); have O2 := hide o2; have B2 := hide (B1.out.grown g2 B1.out.size (fun k hk => (O1.out.lt k hk).1)); clear o2 g2 q1 q2 q3)
        | (go_at_call 14; refine (fix_form C _ _ N _ Z F m (own_readsL O2.out) (WZ.out _) CF2.out.1 CF2.out.2.1 CF2.out.2.2 (by have := H50.out; have := HN.out; omega) HF.out HM.out).mono ?_; rintro e w3 ⟨a3, c3, rfl, o3, _, _, _, b3⟩; have O3 := hide o3; have B3 := hide (B2.out.trans (b3.mono B2.out.size)); have OB3 := hide (own_keep (S := fun _ => False) b3 O2.out); clear o3 b3))
      go_cut [46] (fun v wx => v = .bool false ∧ Hid (wx.ownsRow w.heap.size 25 9 (.slice a2 N c2) N (Z.flatMap stVals) ∧ wx.ownsRow w2.heap.size 25 9 (.slice a3 m c3) m (F.flatMap stVals) ∧ Below w.heap.size w wx))
      case first =>
        have q1 := CF2.out.1
        by_cases h40 : N ≤ 40
        · have hmn : m = N := by have := M40.out; omega
          have HT := hide (show fixL (Z.take N) = F from by rw [List.take_of_length_le (by rw [ZL.out]; omega)]; exact HF.out)
          have i40 : (N : Int) ≤ 40 := by omega
          have i41 : ((m : Int) != (N : Int)) = false := by rw [hmn]; simp
          clear hmn
          go_wp2_with (first
          | (go_at_call 14; refine (fix_form C _ _ N _ (Z.take N) F m ((own_readsL OB3.out).front (by omega)) (fun x hx => WZ.out _ x (List.mem_of_mem_take hx)) (by omega) CF2.out.2.1 CF2.out.2.2 (by omega) HT.out HM.out).mono ?_; rintro e w4 ⟨a4, c4, rfl, o4, _, _, _, b4⟩; have O4 := hide o4; have B4 := hide (B3.out.trans (b4.mono B3.out.size)); have OB4 := hide (own_keep (S := fun _ => False) b4 OB3.out); have OX4 := hide (own_keep (S := fun _ => False) b4 O3.out); clear o4 b4)
          | (go_at_call 15; refine (sameOps_any _ _ m _ _ F _ (own_readsL OX4.out) (own_readsL O4.out) (by have := M40.out; omega)).mono ?_; rintro e w5 ⟨rfl, b5⟩; have B5 := hide (B4.out.trans (b5.mono B4.out.size)); have OB5 := hide (own_keep (S := fun _ => False) b5 OB4.out); have OX5 := hide (own_keep (S := fun _ => False) b5 OX4.out); clear b5))
          go_meet
          case rel => exact ⟨rfl, OB5.out, OX5.out, B5.out⟩
        · have hmn : m = 40 := by have := M40.out; omega
          have HT := hide (show fixL (Z.take 40) = F from by rw [fixL_take40]; exact HF.out)
          have i40 : ¬ (N : Int) ≤ 40 := by omega
          have i41 : ((m : Int) != 40) = false := by rw [hmn]; rfl
          clear hmn
          go_wp2_with (first
          | (go_at_call 14; refine (fix_form C _ _ 40 _ (Z.take 40) F m ((own_readsL OB3.out).front (by omega)) (fun x hx => WZ.out _ x (List.mem_of_mem_take hx)) (by omega) CF2.out.2.1 CF2.out.2.2 (by omega) HT.out HM.out).mono ?_; rintro e w4 ⟨a4, c4, rfl, o4, _, _, _, b4⟩; have O4 := hide o4; have B4 := hide (B3.out.trans (b4.mono B3.out.size)); have OB4 := hide (own_keep (S := fun _ => False) b4 OB3.out); have OX4 := hide (own_keep (S := fun _ => False) b4 O3.out); clear o4 b4)
          | (go_at_call 15; refine (sameOps_any _ _ m _ _ F _ (own_readsL OX4.out) (own_readsL O4.out) (by have := M40.out; omega)).mono ?_; rintro e w5 ⟨rfl, b5⟩; have B5 := hide (B4.out.trans (b5.mono B4.out.size)); have OB5 := hide (own_keep (S := fun _ => False) b5 OB4.out); have OX5 := hide (own_keep (S := fun _ => False) b5 OX4.out); clear b5))
          go_meet
          case rel => exact ⟨rfl, OB5.out, OX5.out, B5.out⟩
      case rest =>
        obtain ⟨rfl, hZ5⟩ := hcut
        have CF := hide (show m ≤ N ∧ m ≤ 40 from by have := M40.out; omega)
        go_wp2_with fail
        go_loopw [7] (fun i wr => ∃ k : Nat, k ≤ m ∧ i = .int .i64 k ∧ Hid (wr.ownsRow w.heap.size 25 9 (.slice a2 N c2) N (Z.flatMap stVals) ∧ wr.ownsRow w2.heap.size 25 9 (.slice a3 m c3) m (F.flatMap stVals) ∧ Below w.heap.size w wr)) (fun i _ => m - (intOf i).toNat)
        case atStart => exact ⟨0, Nat.zero_le _, rfl, hZ5.out⟩
        case round =>
          clear hZ5
          obtain ⟨k, hk, rfl, hZ⟩ := hrel
          have q1 := CF2.out.1
          by_cases hlt : k < m
          · have k0 : (0 : Int) ≤ (k : Int) := by omega
            have k1 : (k : Int) < (m : Int) := by omega
            have kN : k < N := by have := CF.out; omega
            obtain ⟨u, bb, ob, hu, ea2, hcb⟩ := (own_readsL hZ.out.1).at_ kN
            obtain ⟨v, bx, ox, hv, ea3, hcx⟩ := (own_readsL hZ.out.2.1).at_ hlt
            subst ea2 ea3
            have hvu : v = fixO u := by
              obtain ⟨u', h1, h2⟩ := fixL_at (xs := Z) (k := k) (by rw [HF.out, HM.out]; exact hlt)
              rw [HF.out] at h2
              rw [hv] at h2
              rw [hu] at h1
              injection h1 with h1
              injection h2 with h2
              rw [h2, h1]
            have RP := hide (show Reads 9 stVals wr (some ⟨bb, ob + k * 9, none⟩) 1 [u] from by
              have := (own_readsL hZ.out.1).part k 1 (by omega)
              have e : (Z.drop k).take 1 = [u] := by
                have hk2 : k < Z.length := (List.getElem?_eq_some_iff.1 hu).1
                rw [List.drop_eq_getElem_cons hk2]
                rw [List.getElem?_eq_getElem hk2] at hu
                injection hu with hu
                simp [hu]
              rw [e] at this
              exact this)
            have WU := hide (show ∀ (W : World), StWf W u from fun W => WZ.out W u (List.mem_iff_getElem?.2 ⟨k, hu⟩))
            have VU := hide hvu
            have HU0 := hide hu
            have HV0 := hide hv
            clear hu hv hvu hcb hcx
            have KM1 := hide (show k + 1 ≤ m from by omega)
            have ck : ¬ c2 = k := by omega
            obtain ⟨k', hk'⟩ : ∃ k', k' = k + 1 := ⟨_, rfl⟩
            have ck1 : k' ≤ c2 := by omega
            have ck2 : k ≤ k' := by omega
            have ck3 : k' - k = 1 := by omega
            have ck4 : k ≤ 40 := by have := CF.out; omega
            have ck5 : 1 ≤ c2 - k := by omega
            have hw : wrap64 ((k : Int) + 1) = (k' : Int) := by
              clear ck ck1 ck2 ck3 ck5 q1 kN k1 hlt hk
              rw [hk']; unfold wrap64; omega
            have WK := hide (show wrap64 ((k : Int) + 1) = (k : Int) + 1 from by
              clear ck ck1 ck2 ck3 ck5 q1 kN k1 hlt hk hw hk'
              unfold wrap64; omega)
            have HK' := hide hk'
            clear hk'
            go_upto_region 11 with (go_at_call 14; with_reducible refine (fix_form C _ _ 1 _ [u] [fixO u] 1 RP.out (fun x hx => by rw [List.mem_singleton] at hx; subst hx; exact WU.out _) ck5 (Nat.le_trans (Nat.sub_le _ _) CF2.out.2.1) (fun e => by cases e) (by omega) rfl rfl).mono ?_; rintro e w6 ⟨a6, c6, rfl, o6, _, _, _, b6⟩; have O6 := hide o6; have B6 := hide (hZ.out.2.2.trans (b6.mono hZ.out.2.2.size)); have OB6 := hide (own_keep (S := fun _ => False) b6 hZ.out.1); have OX6 := hide (own_keep (S := fun _ => False) b6 hZ.out.2.1); clear o6 b6)
            clear hZ ck ck1 ck2 ck3 ck4 ck5 hw q1
            go_cut [96] (fun v wx => v = .bool false ∧ Hid (wx.ownsRow w.heap.size 25 9 (.slice (some ⟨bb, ob, none⟩) N c2) N (Z.flatMap stVals) ∧ wx.ownsRow w2.heap.size 25 9 (.slice (some ⟨bx, ox, none⟩) m c3) m (F.flatMap stVals) ∧ Below w.heap.size w wx))
            case first =>
              obtain ⟨vv, gy, oy, hvv, ea6, hcy⟩ := (own_readsL O6.out).at_ (show 0 < 1 by omega)
              subst ea6
              have hvv2 : vv = fixO u := by simpa using hvv.symm
              obtain ⟨v, bx', ox', hv, ea3, hcx⟩ := (own_readsL OX6.out).at_ hlt
              injection ea3 with ea3
              injection ea3 with e1 e2
              subst e1 e2
              obtain ⟨u', bb', ob', hu, ea2, hcb⟩ := (own_readsL OB6.out).at_ kN
              injection ea2 with ea2
              injection ea2 with e1 e2
              subst e1 e2
              have hu2 : u' = u := by
                have h0 := HU0.out
                rw [hu] at h0
                injection h0
              have hv2 : v = vv := by
                have h0 := HV0.out
                rw [hv] at h0
                injection h0 with h0
                rw [h0, VU.out, hvv2]
              subst hu2 hv2
              rw [Nat.zero_mul, Nat.add_zero] at hcy
              have c6 : (w6.cell? ⟨gy, oy, none⟩ = some (.int .i64 v.k) ∧ w6.cell? ⟨gy, oy + 1, none⟩ = some (.int .i64 v.a) ∧ w6.cell? ⟨gy, oy + 2, none⟩ = some (.int .i64 v.b) ∧ w6.cell? ⟨gy, oy + 3, none⟩ = some (.int .i64 v.c) ∧ w6.cell? ⟨gy, oy + 4, none⟩ = some (.int .i64 v.cl.sys) ∧ w6.cell? ⟨gy, oy + 5, none⟩ = some (.int .i64 v.cl.a) ∧ w6.cell? ⟨gy, oy + 6, none⟩ = some (.int .i64 v.cl.b) ∧ w6.cell? ⟨gy, oy + 7, none⟩ = some (.string v.cl.s) ∧ w6.cell? ⟨gy, oy + 8, none⟩ = some (.string v.cl.t)) ∧ (w6.cell? ⟨bx, ox + k * 9, none⟩ = some (.int .i64 v.k) ∧ w6.cell? ⟨bx, ox + k * 9 + 1, none⟩ = some (.int .i64 v.a) ∧ w6.cell? ⟨bx, ox + k * 9 + 2, none⟩ = some (.int .i64 v.b) ∧ w6.cell? ⟨bx, ox + k * 9 + 3, none⟩ = some (.int .i64 v.c) ∧ w6.cell? ⟨bx, ox + k * 9 + 4, none⟩ = some (.int .i64 v.cl.sys) ∧ w6.cell? ⟨bx, ox + k * 9 + 5, none⟩ = some (.int .i64 v.cl.a) ∧ w6.cell? ⟨bx, ox + k * 9 + 6, none⟩ = some (.int .i64 v.cl.b) ∧ w6.cell? ⟨bx, ox + k * 9 + 7, none⟩ = some (.string v.cl.s) ∧ w6.cell? ⟨bx, ox + k * 9 + 8, none⟩ = some (.string v.cl.t)) ∧ (w6.cell? ⟨bb, ob + k * 9, none⟩ = some (.int .i64 u'.k) ∧ w6.cell? ⟨bb, ob + k * 9 + 1, none⟩ = some (.int .i64 u'.a) ∧ w6.cell? ⟨bb, ob + k * 9 + 2, none⟩ = some (.int .i64 u'.b) ∧ w6.cell? ⟨bb, ob + k * 9 + 3, none⟩ = some (.int .i64 u'.c) ∧ w6.cell? ⟨bb, ob + k * 9 + 4, none⟩ = some (.int .i64 u'.cl.sys) ∧ w6.cell? ⟨bb, ob + k * 9 + 5, none⟩ = some (.int .i64 u'.cl.a) ∧ w6.cell? ⟨bb, ob + k * 9 + 6, none⟩ = some (.int .i64 u'.cl.b) ∧ w6.cell? ⟨bb, ob + k * 9 + 7, none⟩ = some (.string u'.cl.s) ∧ w6.cell? ⟨bb, ob + k * 9 + 8, none⟩ = some (.string u'.cl.t)) := ⟨⟨hcy 0 _ rfl, hcy 1 _ rfl, hcy 2 _ rfl, hcy 3 _ rfl, hcy 4 _ rfl, hcy 5 _ rfl, hcy 6 _ rfl, hcy 7 _ rfl, hcy 8 _ rfl⟩, ⟨hcx 0 _ rfl, hcx 1 _ rfl, hcx 2 _ rfl, hcx 3 _ rfl, hcx 4 _ rfl, hcx 5 _ rfl, hcx 6 _ rfl, hcx 7 _ rfl, hcx 8 _ rfl⟩, ⟨hcb 0 _ rfl, hcb 1 _ rfl, hcb 2 _ rfl, hcb 3 _ rfl, hcb 4 _ rfl, hcb 5 _ rfl, hcb 6 _ rfl, hcb 7 _ rfl, hcb 8 _ rfl⟩⟩
              have CC := hide (fun (W : World) (bw : Below w6.heap.size w6 W) => show (W.cell? ⟨gy, oy, none⟩ = some (.int .i64 v.k) ∧ W.cell? ⟨gy, oy + 1, none⟩ = some (.int .i64 v.a) ∧ W.cell? ⟨gy, oy + 2, none⟩ = some (.int .i64 v.b) ∧ W.cell? ⟨gy, oy + 3, none⟩ = some (.int .i64 v.c) ∧ W.cell? ⟨gy, oy + 4, none⟩ = some (.int .i64 v.cl.sys) ∧ W.cell? ⟨gy, oy + 5, none⟩ = some (.int .i64 v.cl.a) ∧ W.cell? ⟨gy, oy + 6, none⟩ = some (.int .i64 v.cl.b) ∧ W.cell? ⟨gy, oy + 7, none⟩ = some (.string v.cl.s) ∧ W.cell? ⟨gy, oy + 8, none⟩ = some (.string v.cl.t)) ∧ (W.cell? ⟨bx, ox + k * 9, none⟩ = some (.int .i64 v.k) ∧ W.cell? ⟨bx, ox + k * 9 + 1, none⟩ = some (.int .i64 v.a) ∧ W.cell? ⟨bx, ox + k * 9 + 2, none⟩ = some (.int .i64 v.b) ∧ W.cell? ⟨bx, ox + k * 9 + 3, none⟩ = some (.int .i64 v.c) ∧ W.cell? ⟨bx, ox + k * 9 + 4, none⟩ = some (.int .i64 v.cl.sys) ∧ W.cell? ⟨bx, ox + k * 9 + 5, none⟩ = some (.int .i64 v.cl.a) ∧ W.cell? ⟨bx, ox + k * 9 + 6, none⟩ = some (.int .i64 v.cl.b) ∧ W.cell? ⟨bx, ox + k * 9 + 7, none⟩ = some (.string v.cl.s) ∧ W.cell? ⟨bx, ox + k * 9 + 8, none⟩ = some (.string v.cl.t)) ∧ (W.cell? ⟨bb, ob + k * 9, none⟩ = some (.int .i64 u'.k) ∧ W.cell? ⟨bb, ob + k * 9 + 1, none⟩ = some (.int .i64 u'.a) ∧ W.cell? ⟨bb, ob + k * 9 + 2, none⟩ = some (.int .i64 u'.b) ∧ W.cell? ⟨bb, ob + k * 9 + 3, none⟩ = some (.int .i64 u'.c) ∧ W.cell? ⟨bb, ob + k * 9 + 4, none⟩ = some (.int .i64 u'.cl.sys) ∧ W.cell? ⟨bb, ob + k * 9 + 5, none⟩ = some (.int .i64 u'.cl.a) ∧ W.cell? ⟨bb, ob + k * 9 + 6, none⟩ = some (.int .i64 u'.cl.b) ∧ W.cell? ⟨bb, ob + k * 9 + 7, none⟩ = some (.string u'.cl.s) ∧ W.cell? ⟨bb, ob + k * 9 + 8, none⟩ = some (.string u'.cl.t)) from
                have hh := fun (p : Addr) (q : Value) (h : w6.cell? p = some q) => (bw.cell (p := p) (lt_of_cell? h)).trans h
                ⟨⟨hh _ _ (hcy 0 _ rfl), hh _ _ (hcy 1 _ rfl), hh _ _ (hcy 2 _ rfl), hh _ _ (hcy 3 _ rfl), hh _ _ (hcy 4 _ rfl), hh _ _ (hcy 5 _ rfl), hh _ _ (hcy 6 _ rfl), hh _ _ (hcy 7 _ rfl), hh _ _ (hcy 8 _ rfl)⟩, ⟨hh _ _ (hcx 0 _ rfl), hh _ _ (hcx 1 _ rfl), hh _ _ (hcx 2 _ rfl), hh _ _ (hcx 3 _ rfl), hh _ _ (hcx 4 _ rfl), hh _ _ (hcx 5 _ rfl), hh _ _ (hcx 6 _ rfl), hh _ _ (hcx 7 _ rfl), hh _ _ (hcx 8 _ rfl)⟩, ⟨hh _ _ (hcb 0 _ rfl), hh _ _ (hcb 1 _ rfl), hh _ _ (hcb 2 _ rfl), hh _ _ (hcb 3 _ rfl), hh _ _ (hcb 4 _ rfl), hh _ _ (hcb 5 _ rfl), hh _ _ (hcb 6 _ rfl), hh _ _ (hcb 7 _ rfl), hh _ _ (hcb 8 _ rfl)⟩⟩)
              clear hcy hcx hcb hu hv hvv
              obtain ⟨t0, ht0⟩ : ∃ t0, t0 = maySt u' := ⟨_, rfl⟩
              have KM := hide (fun (W : World) => show Calls Try.prog 8 #[.agg #[.int .i64 u'.k, .int .i64 u'.a, .int .i64 u'.b, .int .i64 u'.c, .int .i64 u'.cl.sys, .int .i64 u'.cl.a, .int .i64 u'.cl.b, .string u'.cl.s, .string u'.cl.t]] W fun e w' => e = .returned (.bool t0) ∧ Below W.heap.size W w' from by rw [ht0]; exact C.may W u' (WU.out W))
              have VQ := hide hvv2
              clear hvv2 O6 c6
              have kNi : (k : Int) < (N : Int) := by omega
              cases t0 with
              | true =>
                have h1 : eqSt v u' = true := by
                  have hve : v = u' := by rw [VQ.out]; unfold fixO; rw [if_pos ht0.symm]
                  rw [hve]; exact step_refl u'
                clear ht0
                refine pgreg_yes k0 kN kNi k1 CC h1 KM ?_
                show ∀ (a : Act) (w7 : World), _
                intro a w7 b7 u59 u60 u61 u62 u63 u64 u65 u66 u67 u68 u69 u70 u71 u72 u73 u74 u75 u76 u77 u78 u79 u80 u81 u82 u83 u84 u85 u86 u87 u88 u89 u90 u91 u92 u93 u94 u95 ea
                subst ea
                have B7 := hide (B6.out.trans (b7.mono B6.out.size))
                have OB7 := hide (own_keep (S := fun _ => False) b7 OB6.out)
                have OX7 := hide (own_keep (S := fun _ => False) b7 OX6.out)
                clear b7
                go_wp2_with fail
                go_meet
                case rel => exact ⟨rfl, OB7.out, OX7.out, B7.out⟩
              | false =>
                have h1 : v = zSt := by rw [VQ.out]; unfold fixO; rw [if_neg (by rw [← ht0]; simp)]
                clear ht0
                refine pgreg_no k0 kN kNi k1 CC h1 KM ?_
                show ∀ (a : Act) (w7 : World), _
                intro a w7 b7 u59 u60 u61 u62 u63 u64 u65 u66 u67 u68 u69 u70 u71 u72 u73 u74 u75 u76 u77 u78 u79 u80 u81 u82 u83 u84 u85 u86 u87 u88 u89 u90 u91 u92 u93 u94 u95 ea
                subst ea
                have B7 := hide (B6.out.trans (b7.mono B6.out.size))
                have OB7 := hide (own_keep (S := fun _ => False) b7 OB6.out)
                have OX7 := hide (own_keep (S := fun _ => False) b7 OX6.out)
                clear b7
                go_wp2_with fail
                go_meet
                case rel => exact ⟨rfl, OB7.out, OX7.out, B7.out⟩
            case rest =>
              obtain ⟨rfl, hZ7⟩ := hcut
              have W3 := hide (show wrap64 ((k : Int) + 1) = (k' : Int) from by
                have h1 := HK'.out
                rw [WK.out, h1]; omega)
              have KL := hide (show k' ≤ m ∧ k < k' ∧ k < m from by
                have h1 := HK'.out
                have h2 := KM1.out
                omega)
              clear WK KM1 HK'
              go_wp2_with fail
              go_roundw
              case rel => exact ⟨k', KL.out.1, by rw [W3.out], hZ7.out.1, hZ7.out.2.1, hZ7.out.2.2⟩
              case measure =>
                show m - (intOf (.int .i64 (wrap64 ((k : Int) + 1)))).toNat < m - (intOf (.int .i64 (k : Int))).toNat
                rw [W3.out]
                exact pg_msr KL.out
          · obtain rfl : k = m := by omega
            have B6 := hide hZ.out.2.2
            clear hZ
            go_wp2_with (go_at_call 7; refine (pgawake_any C _).mono ?_; rintro e w9 ⟨rfl, b9⟩; have B9 := hide (B6.out.trans (b9.mono B6.out.size)); clear b9)
            go_ret
            exact ⟨rfl, B9.out⟩
end Go.Proofs.Ythgoifmmnebkeaa
