/-
  The program's store: Read.
-/
import Derived.Test.YtndfnglcichngaaGreatDoorPa32
import Derived.Test.YtndfnglcichngaaGreatDoorPa11
import Derived.Test.YtndfnglcichngaaGreatDoorPa17
namespace Go.Proofs.YtndfnglcichngaaGreatDoor
open Go.ChangeShapes Go.WideShapes Go.ChangeAt Go.RowKit Go.Maps
set_option linter.unusedVariables false
set_option linter.unusedSimpArgs false
theorem over_zero (w : World) (B : Nat) (off : Int) (a : Option Addr) (c : Nat) (f : Value) : Calls Tryz.prog 67 #[.pointer (some ⟨B, 0, none⟩), .int .i64 off, .slice a 0 c, f] w fun e w' => e = .returned (.int .i64 0) ∧ w = w' := by
  go_enter Tryz.func67, Tryz.ntmps67
  go_wp2_with fail
  go_loop [1, 2] (fun v u => v = .int .i64 off ∧ u = .slice a 0 c) (fun _ _ => 0)
  case atStart => exact ⟨rfl, rfl⟩
  case round =>
    obtain ⟨rfl, rfl⟩ := hrel
    go_wp2_with fail
    go_ret
    exact ⟨rfl, rfl⟩
section
variable {w : World} {U : Nat → Prop} {H S A Q M : Nat} {s : So} {xs p q : List Rfl} {x : Rfl} {st : St} {tag : Nat → Int}
theorem SpAt.ints (h : SpAt w U H S A Q M s (p ++ x :: q) st tag) : Ints .i64 w x.fa x.F.length (nums x.F) := by
  obtain ⟨A', C', e, i, _⟩ := own_ints (h.m.ok x mid_of).fs
  have e' : Value.slice x.fa x.F.length x.fc = Value.slice A' x.F.length C' := e
  injection e' with e1 _ e2
  subst e1 e2
  exact i
set_option maxRecDepth 10000 in
set_option maxHeartbeats 4000000 in
theorem prd_any (h : PSo H w U S s) {id off n : Int} (wi : (Lit.int .i64 id).wf = true) (wo : (Lit.int .i64 off).wf = true) (wn : (Lit.int .i64 n).wf = true) :
    Calls Tryz.prog 33 #[.pointer (some ⟨S, 0, none⟩), .int .i64 id, .int .i64 off, .int .i64 n] w (ReadIs s id off n w) := by
  have hwo := wf_i64 wo
  have hwn := wf_i64 wn
  clear wo wn
  cases e : getFi s.l id with
  | none =>
    have FD := hide (find_none h wi e)
    have hE : rdE s id off n = 4 := by unfold rdE; rw [e]; rfl
    have RI := hide (readIs_nil (w := w) hE (by unfold rdB; rw [hE]; rfl))
    clear h e hE wi
    go_enter Tryz.func33, Tryz.ntmps33
    go_wp2_with (go_at_call 64; refine FD.out.mono ?_; rintro e w' ⟨rfl, rfl⟩)
    go_ret2
    exact RI.out
  | some o =>
    obtain ⟨A, Q, M, p, x, q, st, tag, ex, rfl, ep, h⟩ := h.split e
    have FD := hide (find_some h wi ex ep)
    by_cases hbad : off < 0 ∨ n < 0
    · have hE : rdE s id off n = 19 := by unfold rdE; rw [e]; show (if off < 0 ∨ n < 0 then 19 else 0) = 19; rw [if_pos hbad]
      have RI := hide (readIs_nil (w := w) hE (by unfold rdB; rw [hE]; rfl))
      clear h e hE wi ep ex
      by_cases h0 : off < 0
      · clear hbad
        go_enter Tryz.func33, Tryz.ntmps33
        go_wp2_with (go_at_call 64; refine FD.out.mono ?_; rintro e w' ⟨rfl, rfl⟩)
        go_ret2
        exact RI.out
      · have h1 : n < 0 := hbad.resolve_left h0
        clear hbad
        go_enter Tryz.func33, Tryz.ntmps33
        go_wp2_with (go_at_call 64; refine FD.out.mono ?_; rintro e w' ⟨rfl, rfl⟩)
        go_ret2
        exact RI.out
    · have hE : rdE s id off n = 0 := by unfold rdE; rw [e]; show (if off < 0 ∨ n < 0 then 19 else 0) = 0; rw [if_neg hbad]
      have hB : rdB s id off n = (x.b.drop off.toNat).take n.toNat := by unfold rdB; rw [hE, e]; rfl
      obtain ⟨O, rfl⟩ := Int.eq_ofNat_of_zero_le (show 0 ≤ off by omega)
      obtain ⟨N, rfl⟩ := Int.eq_ofNat_of_zero_le (show 0 ≤ n by omega)
      rw [Int.toNat_natCast, Int.toNat_natCast] at hB
      obtain ⟨z, hz⟩ : ∃ z, z = x.b.length := ⟨_, rfl⟩
      have z5 : z ≤ 512 := by rw [hz]; exact h.p.good.le x.fi (by rw [h.p.l]; exact List.mem_map_of_mem mid_of)
      obtain ⟨d, hd⟩ : ∃ d, d = z - O := ⟨_, rfl⟩
      obtain ⟨k, hk⟩ : ∃ k, k = min N d := ⟨_, rfl⟩
      have e1 : (if (z : Int) - (O : Int) < 0 then 0 else (z : Int) - (O : Int)) = (d : Int) := by split <;> omega
      have e2 : (if (N : Int) < (d : Int) then (N : Int) else (d : Int)) = (k : Int) := by split <;> omega
      have e3 : (if (d : Int) < (N : Int) then (d : Int) else (N : Int)) = (k : Int) := by split <;> omega
      have e4 : (if d < N then (d : Int) else (N : Int)) = (k : Int) := by split <;> omega
      clear e2 e3
      have OK := h.m.ok x mid_of
      have c0 := OK.c0
      rw [← hz] at c0
      have hL : x.F.length = blkN z := by rw [hz]; exact h.p.blk x mid_of
      have L8 : blkN z ≤ 8 := blkN_le8 _ z5
      have hKL : 0 < k → O + k ≤ x.F.length * 64 := fun hp => by rw [hL]; unfold blkN; omega
      have BY := hide (show ∀ j, j < k → (rdB s id (O : Int) (N : Int))[j]? = some (byF st x.F (O + j)) from fun j hj => by
        rw [hB, List.getElem?_take, if_pos (by omega), List.getElem?_drop, List.getElem?_eq_getElem (by rw [← hz]; omega)]
        have := h.p.byt x mid_of (O + j) (by rw [← hz]; omega)
        unfold byF
        rw [← this, List.getD_eq_getElem?_getD, List.getElem?_eq_getElem (by rw [← hz]; omega)]; rfl)
      have KL := hide (show (rdB s id (O : Int) (N : Int)).length = k from by rw [hB, List.length_take, List.length_drop, ← hz]; omega)
      have HE := hide hE
      have HH := hide h
      have hmf : ∀ fn first cap w, (Instr.makeFunc fn first cap).run Tryz.prog w = .ok (.func fn first cap) w := fun _ _ _ _ => rfl
      obtain ⟨i0, hi0, hz0, hz1, hz2⟩ := info_parts byte_info
      have K5 := hide (show k ≤ 512 from by omega)
      have hz3 : i0.bytes * k ≤ 281474976710656 := by rw [hz2]; have := K5.out; omega
      have HZ3 := hide hz3
      have MX := hide (show k ≤ maxLen from by unfold maxLen; have := K5.out; omega)
      have i1 : (d : Int) ≤ 512 := by omega
      have i2 : (k : Int) ≤ 512 := by omega
      have i3 : (0 : Int) ≤ (k : Int) := by omega
      have i4 : (z : Int) ≤ 512 := by omega
      have i5 : -9223372036854775808 ≤ (z : Int) - (O : Int) := by omega
      have i6 : (z : Int) - (O : Int) ≤ 512 := by omega
      have q1 : ¬ (O : Int) < 0 := by omega
      have q2 : ¬ (N : Int) < 0 := by omega
      have KO := hide (show 0 < k → O ≤ 1000 from by omega)
      have HKL := hide hKL
      have HL8 := hide (show x.F.length ≤ 8 from by rw [hL]; exact L8)
      clear h e hE hB hbad hd hk hz3 hz2 hL L8 hKL hz ex ep wi OK
      go_enter Tryz.func33, Tryz.ntmps33
      go_upto_region 7 with (first
        | (go_at_call 64; refine FD.out.mono ?_; rintro e w' ⟨rfl, rfl⟩)
        | (at_make; refine wpList_make_full _ rfl (.tmp 39) (.tmp 39) 30 rfl w.heap.size 5 i0 _ 1 Tryz.underlying30 hi0 hz0 hz1 .i64 .i64 (k : Int) (k : Int) k rfl rfl rfl rfl HZ3.out MX.out (Nat.le_refl _) ?_; intro w1 o1 g1; rw [Nat.mul_one, show Value.cells (.int .u8 0) = #[.int .u8 0] from rfl, toList_madeCells_one] at o1; have O1 := hide (own_full o1).1; have B1 := hide ((Below.refl w.heap.size w).grown g1 (Nat.le_refl _) (by simp)); clear o1 g1))
      have hs1 := hide (show w1.heap.size > w.heap.size from by have := lt_of_heap O1.out; omega)
      have c1 := (HH.out.m.ok x mid_of).c1
      unfold Rfl.fv at c1
      have OV := hide (show Calls Tryz.prog 67 #[.pointer (some ⟨x.bc, 0, none⟩), .int .i64 (O : Int), .slice (some ⟨w.heap.size, 0, none⟩) k k, .func (.func 73) #[.pointer (some ⟨S, 0, none⟩)] #[]] w1 (fun e w' => e = .returned (.int .i64 0) ∧ w'.heap[w.heap.size]? = some (.cells ((rdB s id (O : Int) (N : Int)).map (Value.int .u8)).toArray 5 (0, 0)) ∧ Touch (fun k => k = w.heap.size) w1 w') from by
        have hh := HH.out.m
        have hb := hh.below B1.out
        have ltS := hh.lt S hh.us.1
        have ltB := hh.lt x.bc (hh.ux x mid_of).1
        by_cases k0 : 0 < k
        · have hrow : (List.range k).map (fun j => byF st x.F (O + j)) = rdB s id (O : Int) (N : Int) := by
            refine List.ext_getElem? fun j => ?_
            by_cases hj : j < k
            · rw [BY.out j hj, List.getElem?_map, List.getElem?_range hj]; rfl
            · rw [List.getElem?_eq_none (by simp; omega), List.getElem?_eq_none (by rw [KL.out]; omega)]
          have := over_load (S := S) (H := H) (A := A) (Q := Q) (B := x.bc) (L := x.F.length) (fc := x.fc) (g := w.heap.size) (n := k) (c := k) (off := O) (st := st) (F := x.F) (fa := x.fa) hb.c0 hb.fr (hb.ok x mid_of).c1 ((SpAt.ints (HH.out)).below B1.out) HL8.out (fun f hf => hh.tkn f (by rw [fss_mid]; exact List.mem_append_right _ (List.mem_append_left _ hf))) O1.out List.length_replicate (fun h => HKL.out h) (KO.out k0) (Nat.le_refl _) (by have := K5.out; omega) (by omega) (by omega) (fun i e => by have := hh.lt i (hh.us.2.2 i e); omega) (fun b o e => by
            have : b < w.heap.size := by
              by_cases hL0 : 0 < x.F.length
              · obtain ⟨b', o', e', hc'⟩ := (SpAt.ints HH.out).2 hL0
                rw [e] at e'
                injection e' with e'
                injection e' with e1 _ _
                have h9 := lt_of_cell? (hc' 0 hL0)
                have h9' : b' < w.heap.size := h9
                omega
              · have := HKL.out k0; omega
            omega)
          rw [hrow] at this
          exact this
        · obtain rfl : k = 0 := by omega
          refine (over_zero w1 x.bc (O : Int) _ 0 _).mono ?_
          rintro e w' ⟨rfl, rfl⟩
          refine ⟨rfl, ?_, Touch.refl _ _⟩
          rw [O1.out, List.length_eq_zero_iff.1 KL.out]; rfl)
      clear c0 c1
      go_wp2_with (go_at_call 67; refine OV.out.mono ?_; rintro e w2 ⟨rfl, g2, t2⟩; have G2 := hide g2; have T2 := hide t2; clear g2 t2)
      go_ret2
      refine ⟨.slice (some ⟨w.heap.size, 0, none⟩) k k, by rw [HE.out]; rfl, ?_, B1.out.trans (T2.out.below (Nat.le_of_lt hs1.out) (fun i e => Nat.le_of_eq e.symm))⟩
      rw [KL.out]
      exact own_of_full G2.out (by rw [List.length_map, KL.out]) (Nat.le_refl _) MX.out
end
end Go.Proofs.YtndfnglcichngaaGreatDoor
