/-
  The law GraphAlone, over the contracts of the program's graph.
-/
import Derived.Test.YthbhbanhgmaopaaGhCounts
namespace Go.Proofs.Ythbhbanhgmaopaa
open Go.ChangeShapes Go.WideShapes Go.ChangeAt Go.RowKit
set_option linter.unusedVariables false
theorem alone_chain {ws os : List Int} {n : Int} (h : ∀ i, onG ws os n i = -1) (i : Int) : chainG ws os n i = [] := by
  unfold chainG
  rw [h i]
  show (if (-1 : Int) < 0 ∨ (-1 : Int) ∈ ([] : List Int) then [] else _) = []
  rw [if_pos (.inl (by omega))]
theorem alone_best {ws os : List Int} {ps : List Pr} (h : ∀ i, onG ws os ps.length i = -1) (i : Nat) : ∀ k, bestG ws os ps i k = ps.getD i prD := by
  intro k
  induction k with
  | zero => rfl
  | succ k ih =>
    show (if (i : Int) ∈ chainG ws os ps.length k ∧ _ then _ else bestG ws os ps i k) = _
    rw [alone_chain h, if_neg (fun e => by cases e.1), ih]
theorem alone_eff {ws os : List Int} {ps : List Pr} (h : ∀ i, onG ws os ps.length i = -1) : effG ws os ps = ps := by
  apply List.ext_getElem?
  intro i
  by_cases hi : i < ps.length
  · rw [effG_at hi, alone_best h, List.getD_eq_getElem?_getD, List.getElem?_eq_getElem hi]; rfl
  · rw [List.getElem?_eq_none (by rw [effG_length]; omega), List.getElem?_eq_none (by omega)]
theorem alone_acyc {ws os : List Int} {n : Int} (h : ∀ i, onG ws os n i = -1) : acyZ ws os n = true := acyG_yes fun i _ => by rw [alone_chain h]; simp
theorem onG_free {ws : List Int} {q : Nat} {n i : Int} : onG ws (List.replicate q (-1)) n i = -1 := by
  unfold onG
  split
  · rfl
  · split
    · rfl
    · rename_i h1 h2
      have e : (List.replicate q (-1 : Int)).getD (ws.getD i.toNat 0).toNat 0 = -1 := by
        rw [List.length_replicate] at h2
        rw [List.getD_eq_getElem?_getD, List.getElem?_replicate, if_pos (by omega)]; rfl
      rw [e, if_pos (.inl (by omega))]
theorem onG_nil {os : List Int} {n i : Int} : onG [] os n i = -1 := by
  unfold onG
  by_cases h : i < 0 ∨ n ≤ i
  · rw [if_pos (by omega)]
  · rw [if_pos (.inr (.inr (by show ((0 : Nat) : Int) ≤ i; omega)))]
theorem own_listIn {w : World} {B : Nat} {v : Value} {xs : List Int} (h : w.ownsRow B 3 1 v xs.length (xs.map (Value.int .i64))) (hn : xs.length ≤ 25) (hw : ∀ x ∈ xs, (Lit.int .i64 x).wf = true) : ∃ A c, v = .slice A xs.length c ∧ ListIn w A xs.length c xs := by
  rcases h.2 with ⟨rfl, h0⟩ | ⟨g, cap, cur, rfl, _, _, h1, h2, _⟩
  · refine ⟨none, 0, by rw [h0], ⟨⟨⟨rfl, fun h9 => absurd h9 (by omega)⟩, by omega, by unfold maxLen; omega, fun _ => rfl, hw⟩, hn⟩⟩
  · exact ⟨_, _, rfl, ⟨own_intsI h rfl, h1, h2, (fun e => by cases e), hw⟩, hn⟩
set_option maxRecDepth 10000 in
set_option maxHeartbeats 8000000 in
theorem walk_graphAloneC (C : PGraph) (w : World) (pa : Option Addr) (n cn : Nat) (ps : List Pr) (hin : Came 3 prVals PrFit w pa n cn ps) (a : Option Addr) (p ca : Nat) (ws : List Int) (hin1 : CameIn .i64 w a p ca ws) (b : Option Addr) (q cb : Nat) (os : List Int) (hin2 : CameIn .i64 w b q cb os) (free : Bool) :
    Calls Try.prog 7 #[.slice pa n cn, .slice a p ca, .slice b q cb, .bool free] w fun e w' => e = .returned (.bool true) ∧ Below w.heap.size w w' := by
  by_cases hg : 25 < p ∨ 25 < q ∨ 25 < (n : Int)
  · have G := hide (great_yes w a p ca b q cb (n : Int) (Nat.le_trans hin1.2.1 hin1.2.2.1) (Nat.le_trans hin2.2.1 hin2.2.2.1) hg)
    clear hin hin1 hin2 hg
    go_enter Try.func7, Try.ntmps7
    go_wp2_with (first
      | (go_at_call 8; refine G.out.mono ?_; rintro e w' ⟨rfl, rfl⟩)
      | (go_at_call 9; refine (ghawake_any C _).mono ?_; rintro e w2 ⟨rfl, b2⟩; have B2 := hide b2; clear b2))
    go_ret
    exact ⟨rfl, B2.out⟩
  have G := hide (great_no w a p ca b q cb (n : Int) hg)
  have LP := hide (PriosIn.of hin)
  have LA := hide (show ListIn w a p ca ws from ⟨hin1, by omega⟩)
  have LB := hide (show ListIn w b q cb os from ⟨hin2, by omega⟩)
  have N25 := hide (show n ≤ 25 from by omega)
  have HPL := hide LP.out.rd.1
  have n63 : (n : Int) ≤ 9223372036854775807 := by omega
  have q63 : (q : Int) ≤ 25 := by omega
  obtain ⟨i0, hi0, hz0, hz1, hz2⟩ := info_parts int_info
  have HZ := hide hz2
  clear hin hin1 hin2 hg hz2
  cases free with
  | true =>
    go_enter Try.func7, Try.ntmps7
    go_wp2_with (go_at_call 8; refine G.out.mono ?_; rintro e w' ⟨rfl, rfl⟩)
    go_loopw [9, 10] (fun v iv wr => ∃ k : Nat, k ≤ q ∧ iv = .int .i64 (k : Int) ∧ Hid (wr.ownsRow w.heap.size 3 1 v k ((List.replicate k (-1 : Int)).map (Value.int .i64)) ∧ Below w.heap.size w wr)) (fun _ iv _ => q - (intOf iv).toNat)
    case atStart => exact ⟨0, Nat.zero_le _, rfl, World.ownsRow_nil _ _ _ _, Below.refl _ _⟩
    case round =>
      obtain ⟨k, hk, rfl, hZ⟩ := hrel
      have O1 := hide hZ.out.1
      have B1 := hide hZ.out.2
      clear hZ
      by_cases hlt : k < q
      · have k1 : (k : Int) < (q : Int) := by omega
        have KM := hide (show k + 1 ≤ q ∧ k + 1 ≤ 25 from by omega)
        have SZ := hide B1.out.size
        go_wp2_with (at_builtin; refine wpList_append_src rfl (.tmp 24) (.tmp 25) _ rfl w.heap.size 3 i0 _ 8 Try.underlying22 hi0 hz0 hz1 HZ.out rfl _ _ _ rfl (O1.out.alloc _) .i64 _ 1 _ [-1] rfl (ints_cell1 _ _ _ _ _ rfl) (fun h => by cases h) (by have := KM.out; unfold maxLen; omega) (by have := KM.out; omega) (by have := SZ.out; simp; omega) ?_; intro v' w' o' g' t'; have O2 := hide o'; have B2 := hide ((B1.out.alloc SZ.out _).grown g' (by have := SZ.out; simp; omega) (own_lo O1.out)); clear o' g' t')
        go_roundw
        case rel =>
          refine ⟨k + 1, KM.out.1, by go_num, ?_, B2.out⟩
          have e : (List.replicate (k + 1) (-1 : Int)).map (Value.int .i64) = (List.replicate k (-1 : Int)).map (Value.int .i64) ++ [(-1 : Int)].map (Value.int .i64) := by rw [List.replicate_succ', List.map_append]
          rw [e]; exact O2.out
        case measure => have h9 := KM.out; simp [intOf]; omega
      · obtain rfl : k = q := by omega
        have k1 : ¬ (k : Int) < (k : Int) := by omega
        rename World => w1
        have hrl : (List.replicate k (-1 : Int)).length = k := List.length_replicate
        obtain ⟨b2, cb2, hv2, l2⟩ := own_listIn (xs := List.replicate k (-1)) (by rw [hrl]; exact O1.out) (by rw [hrl]; omega) (fun x hx => by rw [List.eq_of_mem_replicate hx]; decide)
        rw [hrl] at hv2 l2
        subst hv2
        have L2 := hide l2
        have L1 := hide (LA.out.below B1.out)
        have ALONE := hide (fun (n i : Int) => onG_free (ws := ws) (q := k) (n := n) (i := i))
        clear l2 hrl
        have hPL := HPL.out
        have hes : effG ws (List.replicate k (-1)) ps = ps := alone_eff (fun i => ALONE.out _ i)
        have hac : acyZ ws (List.replicate k (-1)) (n : Int) = true := alone_acyc (ALONE.out _)
        have hch : chainG ws (List.replicate k (-1)) (n : Int) 0 = [] := alone_chain (ALONE.out _) 0
        have nwf : (Lit.int .i64 (n : Int)).wf = true := by have := N25.out; simp [Lit.wf, IntKind.min, IntKind.max, IntKind.bits, IntKind.signed]; omega
        have FP := hide (fun (W : World) (bw : Below w1.heap.size w1 W) => LP.out.below (B1.out.trans (bw.mono B1.out.size)))
        have FC := hide (fun (W : World) (bw : Below w1.heap.size w1 W) => L1.out.below bw)
        have FD := hide (fun (W : World) (bw : Below w1.heap.size w1 W) => L2.out.below bw)
        have KC := hide (fun (W : World) (bw : Below w1.heap.size w1 W) => C.eff2 (FP.out W bw) N25.out (FC.out W bw) (FD.out W bw))
        rw [hes] at KC
        have KA := hide (fun (W : World) (bw : Below w1.heap.size w1 W) => show Calls Try.prog 16 #[.slice a p ca, .slice b2 k cb2, .int .i64 (n : Int)] W fun e w' => e = .returned (.bool true) ∧ Below W.heap.size W w' from by rw [← hac]; exact C.acyc W _ _ _ ws _ _ _ (List.replicate k (-1)) n (FC.out W bw) (FD.out W bw) nwf (by have := N25.out; omega))
        have KH := hide (fun (W : World) (bw : Below w1.heap.size w1 W) => show Calls Try.prog 11 #[.slice a p ca, .slice b2 k cb2, .int .i64 (n : Int), .int .i64 0] W fun e w' => ∃ A c, e = .returned (.slice A 0 c) ∧ Below W.heap.size W w' from by
          refine (C.chain W _ _ _ ws _ _ _ (List.replicate k (-1)) n 0 (FC.out W bw) (FD.out W bw) nwf (by have := N25.out; omega) (by decide)).mono ?_
          rintro e w' ⟨v, rfl, o, b9⟩
          rw [hch] at o
          obtain ⟨A, c, rfl⟩ := own_sliceI o
          exact ⟨A, c, rfl, b9⟩)
        have SM := hide (fun (W : World) (A : Option Addr) (c : Nat) (bw : Below w1.heap.size w1 W) (i1 : Reads 3 prVals W A n ps) => samePrios_any A pa n c cn ps W i1 (FP.out W bw).rd (by have := N25.out; omega))
        clear hes hac hch nwf
        go_wp2_with (first
          | (go_at_call 21; refine (KC.out _ (Below.refl _ _)).mono ?_; rintro e w3 ⟨a3, c3, rfl, o3, r3, b3⟩; have R3 := hide r3; have B3 := hide b3; clear o3 r3 b3)
          | (go_at_call 22; refine (SM.out _ _ _ B3.out R3.out).mono ?_; rintro e w5 ⟨rfl, b5⟩; have B5 := hide (B3.out.trans (b5.mono B3.out.size)); clear b5)
          | (go_at_call 16; refine (KA.out _ B5.out).mono ?_; rintro e w7 ⟨rfl, b7⟩; have B7 := hide (B5.out.trans (b7.mono B5.out.size)); clear b7)
          | (go_at_call 11; refine (KH.out _ B7.out).mono ?_; rintro e w8 ⟨a8, c8, rfl, b8⟩; have B8 := hide (B7.out.trans (b8.mono B7.out.size)); clear b8)
          | (go_at_call 9; refine (ghawake_any C _).mono ?_; rintro e w9 ⟨rfl, b9⟩; have B9 := hide (B8.out.trans (b9.mono B8.out.size)); clear b9))
        go_ret
        exact ⟨rfl, B1.out.trans (B9.out.mono B1.out.size)⟩
  | false =>
    go_enter Try.func7, Try.ntmps7
    go_upto_region 11 with (go_at_call 8; refine G.out.mono ?_; rintro e w' ⟨rfl, rfl⟩)
    have L1 := hide (show ListIn w none 0 0 [] from ⟨⟨⟨rfl, fun h => absurd h (by omega)⟩, Nat.le_refl _, Nat.zero_le _, fun _ => rfl, fun x hx => by cases hx⟩, by omega⟩)
    have L2 := LB
    have ALONE := hide (fun (n i : Int) => onG_nil (os := os) (n := n) (i := i))
    have B1 := hide (Below.refl w.heap.size w)
    have hes : effG [] os ps = ps := alone_eff (fun i => ALONE.out _ i)
    have hac : acyZ [] os (n : Int) = true := alone_acyc (ALONE.out _)
    have hch : chainG [] os (n : Int) 0 = [] := alone_chain (ALONE.out _) 0
    have nwf : (Lit.int .i64 (n : Int)).wf = true := by have := N25.out; simp [Lit.wf, IntKind.min, IntKind.max, IntKind.bits, IntKind.signed]; omega
    have FP := hide (fun (W : World) (bw : Below w.heap.size w W) => LP.out.below (B1.out.trans (bw.mono B1.out.size)))
    have FC := hide (fun (W : World) (bw : Below w.heap.size w W) => L1.out.below bw)
    have FD := hide (fun (W : World) (bw : Below w.heap.size w W) => L2.out.below bw)
    have KC := hide (fun (W : World) (bw : Below w.heap.size w W) => C.eff2 (FP.out W bw) N25.out (FC.out W bw) (FD.out W bw))
    rw [hes] at KC
    have KA := hide (fun (W : World) (bw : Below w.heap.size w W) => show Calls Try.prog 16 #[.slice none 0 0, .slice b q cb, .int .i64 (n : Int)] W fun e w' => e = .returned (.bool true) ∧ Below W.heap.size W w' from by rw [← hac]; exact C.acyc W _ _ _ [] _ _ _ os n (FC.out W bw) (FD.out W bw) nwf (by have := N25.out; omega))
    have KH := hide (fun (W : World) (bw : Below w.heap.size w W) => show Calls Try.prog 11 #[.slice none 0 0, .slice b q cb, .int .i64 (n : Int), .int .i64 0] W fun e w' => ∃ A c, e = .returned (.slice A 0 c) ∧ Below W.heap.size W w' from by
      refine (C.chain W _ _ _ [] _ _ _ os n 0 (FC.out W bw) (FD.out W bw) nwf (by have := N25.out; omega) (by decide)).mono ?_
      rintro e w' ⟨v, rfl, o, b9⟩
      rw [hch] at o
      obtain ⟨A, c, rfl⟩ := own_sliceI o
      exact ⟨A, c, rfl, b9⟩)
    have SM := hide (fun (W : World) (A : Option Addr) (c : Nat) (bw : Below w.heap.size w W) (i1 : Reads 3 prVals W A n ps) => samePrios_any A pa n c cn ps W i1 (FP.out W bw).rd (by have := N25.out; omega))
    clear hes hac hch nwf
    go_wp2_with (first
      | (go_at_call 21; refine (KC.out _ (Below.refl _ _)).mono ?_; rintro e w3 ⟨a3, c3, rfl, o3, r3, b3⟩; have R3 := hide r3; have B3 := hide b3; clear o3 r3 b3)
      | (go_at_call 22; refine (SM.out _ _ _ B3.out R3.out).mono ?_; rintro e w5 ⟨rfl, b5⟩; have B5 := hide (B3.out.trans (b5.mono B3.out.size)); clear b5)
      | (go_at_call 16; refine (KA.out _ B5.out).mono ?_; rintro e w7 ⟨rfl, b7⟩; have B7 := hide (B5.out.trans (b7.mono B5.out.size)); clear b7)
      | (go_at_call 11; refine (KH.out _ B7.out).mono ?_; rintro e w8 ⟨a8, c8, rfl, b8⟩; have B8 := hide (B7.out.trans (b8.mono B7.out.size)); clear b8)
      | (go_at_call 9; refine (ghawake_any C _).mono ?_; rintro e w9 ⟨rfl, b9⟩; have B9 := hide (B8.out.trans (b9.mono B8.out.size)); clear b9))
    go_ret
    exact ⟨rfl, B1.out.trans (B9.out.mono B1.out.size)⟩
end Go.Proofs.Ythbhbanhgmaopaa
