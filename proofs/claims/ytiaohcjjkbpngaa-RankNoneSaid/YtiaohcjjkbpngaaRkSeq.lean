/-
  The program's iterators over what is sought in a list: their contracts.
-/
import Derived.Test.YtiaohcjjkbpngaaRkTab
namespace Go.Proofs.Ytiaohcjjkbpngaa
open Go.ChangeShapes Go.WideShapes Go.ChangeAt Go.RowKit Go.Shelf
set_option linter.unusedVariables false
set_option linter.unusedSimpArgs false
attribute [local go_sem] Oper.semAt_some
abbrev Yes {α : Type} (p : α → Bool) := { x : α // p x = true }
theorem yes_snoc {α : Type} {p : α → Bool} {ys : List (Yes p)} {xs : List α} {k : Nat} {x : α} (h : ys.map (·.1) = (xs.take k).filter p) (hx : xs[k]? = some x) (hp : p x = true) : (ys ++ [(⟨x, hp⟩ : Yes p)]).map (·.1) = (xs.take (k + 1)).filter p := by
  rw [List.take_add_one, hx, List.filter_append, List.map_append, h]
  simp [hp]
theorem yes_skip {α : Type} {p : α → Bool} {ys : List (Yes p)} {xs : List α} {k : Nat} {x : α} (h : ys.map (·.1) = (xs.take k).filter p) (hx : xs[k]? = some x) (hp : p x = false) : ys.map (·.1) = (xs.take (k + 1)).filter p := by
  rw [List.take_add_one, hx, List.filter_append, h]
  simp [hp]
theorem yes_lt {α : Type} {p : α → Bool} {ys : List (Yes p)} {xs : List α} {k : Nat} (h : ys.map (·.1) = (xs.take k).filter p) : ys.length ≤ k := by
  have h1 := congrArg List.length h
  rw [List.length_map] at h1
  have h2 := List.length_filter_le p (xs.take k)
  have h3 := List.length_take_le k xs
  omega
theorem yes_pre {α : Type} {p : α → Bool} {ys : List (Yes p)} {xs : List α} {k : Nat} (h : ys.map (·.1) = (xs.take k).filter p) : ys.map (·.1) <+: xs.filter p := by
  refine ⟨(xs.drop k).filter p, ?_⟩
  rw [h, ← List.filter_append, List.take_append_drop]
set_option maxHeartbeats 2000000 in
theorem thoseI_any (a : Option Addr) (n c : Nat) (p : Option Addr) (w : World) : Calls Try.prog 25 #[.slice a n c, .func (.func 26) #[.pointer p] #[]] w fun e w' =>
    e = .returned (.func (.func 32) #[] #[.pointer (some ⟨w.heap.size, 0, none⟩), .pointer (some ⟨w.heap.size + 1, 0, none⟩)]) ∧ w' = (w.alloc (.cells #[.slice a n c] 23)).alloc (.cells #[.func (.func 26) #[.pointer p] #[]] 54) := by
  go_enter Try.func25, Try.ntmps25
  go_wp2_with fail
  go_ret
  exact ⟨rfl, rfl⟩
set_option maxHeartbeats 2000000 in
theorem thoseM_any (a : Option Addr) (n c : Nat) (f : Int) (w : World) : Calls Try.prog 28 #[.slice a n c, .func (.func 27) #[.int .i64 f] #[]] w fun e w' =>
    e = .returned (.func (.func 33) #[] #[.pointer (some ⟨w.heap.size, 0, none⟩), .pointer (some ⟨w.heap.size + 1, 0, none⟩)]) ∧ w' = (w.alloc (.cells #[.slice a n c] 22)).alloc (.cells #[.func (.func 27) #[.int .i64 f] #[]] 47) := by
  go_enter Try.func28, Try.ntmps28
  go_wp2_with fail
  go_ret
  exact ⟨rfl, rfl⟩
set_option maxRecDepth 100000 in
set_option maxHeartbeats 4000000 in
theorem thoseI1_in (n : Nat) (hn : 1 ≤ n) (l Bl Bs : Nat) (V : Nat → Prop) (p : Option Addr) (pred : Int → Bool) (a : Option Addr) (m c : Nat) (xs : List Int) (J Jx : List (Yes pred) → World → Prop) (W : World)
    (hHas : ∀ W', Touch V W W' → ∀ x, Calls Try.prog 26 #[.pointer p, .int .i64 x] W' fun e w' => e = .returned (.bool (pred x)) ∧ W' = w')
    (hY : ∀ pre x W, J pre W → pre.length < m → YieldAt Fence.wide (n - 1) Try.prog l #[.int .i64 x.1] W fun e W' => (e = .returned (.bool true) ∧ J (pre ++ [x]) W' ∧ Touch V W W') ∨ (e = .returned (.bool false) ∧ Jx (pre ++ [x]) W'))
    (hBl : W.cell? ⟨Bl, 0, none⟩ = some (.slice a m c)) (hBs : W.cell? ⟨Bs, 0, none⟩ = some (.func (.func 26) #[.pointer p] #[])) (hVs : ¬ V Bs) (hi : Ints .i64 W a m xs) (hd : 0 < m → ∀ b o, a = some ⟨b, o, none⟩ → ¬ V b) (hm : m ≤ maxLen) (h0 : J [] W) :
    CallsIn Fence.wide n Try.prog 32 #[.func (.yield l) #[] #[], .pointer (some ⟨Bl, 0, none⟩), .pointer (some ⟨Bs, 0, none⟩)] W fun e W' => (∃ v, e = .returned v) ∧
      ((∃ ys, ys.map (·.1) = xs.filter pred ∧ J ys W') ∨ (∃ pre, pre.map (·.1) <+: xs.filter pred ∧ Jx pre W')) := by
  have m63 : (m : Int) ≤ 9223372036854775807 := by unfold maxLen at hm; omega
  have HL := hide hi.1
  have HI := hide hi.2
  have HD := hide hd
  have HH := hide hHas
  have HY := hide hY
  have H0 := hide h0
  have HS := hide hBs
  have HV := hide hVs
  clear hm hi hd hHas hY h0 hBs hVs
  refine callsIn_of_wp Try.func32 rfl trivial ?_ rfl
  simp only [Try.ntmps32, List.size_toArray, List.length_cons, List.length_nil, Nat.reduceAdd, Nat.reduceSub, Array.replicate_succ, Array.replicate_zero, List.push_toArray, List.append_toArray, List.nil_append, List.cons_append]
  gi_wp2
  gi_loopw [8] (fun i wr => ∃ k : Nat, k ≤ m ∧ i = .int .i64 k ∧ Hid (Touch V W wr ∧ ∃ ys : List (Yes pred), ys.map (·.1) = (xs.take k).filter pred ∧ J ys wr)) (fun i _ => m - (intOf i).toNat)
  case atStart => exact ⟨0, Nat.zero_le _, rfl, Touch.refl _ _, [], by simp, H0.out⟩
  case round =>
    obtain ⟨k, hk, rfl, hZ⟩ := hrel
    by_cases hlt : k < m
    · have k0 : (0 : Int) ≤ (k : Int) := by omega
      have k1 : (k : Int) < (m : Int) := by omega
      obtain ⟨b, off, rfl, hc⟩ := HI.out (by omega)
      obtain ⟨x, hx⟩ : ∃ x, xs[k]? = some x := ⟨_, List.getElem?_eq_getElem (by have := HL.out; omega)⟩
      obtain ⟨g, hg⟩ : ∃ g, g = xs.getD k 0 := ⟨_, rfl⟩
      have hx : xs[k]? = some g := by rw [hg, List.getD_eq_getElem?_getD, List.getElem?_eq_getElem (by have := HL.out; omega)]; rfl
      have hc2 : wr.cell? ⟨b, off + k, none⟩ = some (.int .i64 g) := by rw [hg]; exact hZ.out.1.cell (hc k hlt) (HD.out (by omega) b off rfl)
      have hs2 : wr.cell? ⟨Bs, 0, none⟩ = some (.func (.func 26) #[.pointer p] #[]) := hZ.out.1.cell HS.out HV.out
      have HX := hide hx
      clear hc hx hg
      obtain ⟨q, hq⟩ : ∃ q, q = pred g := ⟨_, rfl⟩
      have HQ := hide hq
      have C := hide (show Calls Try.prog 26 #[.pointer p, .int .i64 g] wr fun e w' => e = .returned (.bool q) ∧ wr = w' from by rw [hq]; exact HH.out wr hZ.out.1 g)
      clear hq
      cases q with
      | false =>
        have N := hide (show Touch V W wr ∧ ∃ ys : List (Yes pred), ys.map (·.1) = (xs.take (k + 1)).filter pred ∧ J ys wr from by
          obtain ⟨ht, ys, e, hj⟩ := hZ.out
          exact ⟨ht, ys, yes_skip e HX.out HQ.out.symm, hj⟩)
        gi_wp2_with (refine ⟨trivial, ?_⟩; gi_at_call 26; refine (callsIn_wide.2 C.out).mono ?_; rintro e w' ⟨rfl, rfl⟩)
        refine ⟨fun _ h => (by cases h), ?_⟩
        gi_wp2
        go_roundw
        case rel => exact ⟨k + 1, by omega, by go_num, N.out⟩
        case measure => simp [intOf]; omega
      | true =>
        obtain ⟨ht, ys, e, hj⟩ := hZ.out
        obtain ⟨fn, tmps, assign, body, hy, hR⟩ := HY.out ys ⟨g, HQ.out.symm⟩ wr hj (by have := yes_lt e; omega)
        dsimp only at hy
        gi_wp2_with (refine ⟨trivial, ?_⟩; gi_at_call 26; refine (callsIn_wide.2 C.out).mono ?_; rintro e w' ⟨rfl, rfl⟩)
        refine hR.mono ?_
        have HT := hide ht
        have HE := hide e
        have HPq := hide HQ.out.symm
        clear ht e hj hy
        rintro e W3 (⟨rfl, hJ3, hk3⟩ | ⟨rfl, hJx3⟩)
        · have N := hide (show Touch V W W3 ∧ ∃ ys : List (Yes pred), ys.map (·.1) = (xs.take (k + 1)).filter pred ∧ J ys W3 from ⟨touchK_t HT.out hk3, _, yes_snoc HE.out HX.out HPq.out, hJ3⟩)
          clear hJ3 hk3
          gi_wp2
          go_roundw
          case rel => exact ⟨k + 1, by omega, by go_num, N.out⟩
          case measure => simp [intOf]; omega
        · have N := hide hJx3
          clear hJx3
          gi_wp2
          refine bodyPost_ret (results_none rfl _ _ _) rfl ?_
          exact ⟨⟨_, rfl⟩, .inr ⟨_, yes_pre (yes_snoc HE.out HX.out HPq.out), N.out⟩⟩
    · obtain rfl : k = m := by omega
      gi_wp2
      go_end0
      obtain ⟨ht, ys, e, hj⟩ := hZ.out
      have hl := HL.out
      exact ⟨⟨_, rfl⟩, .inl ⟨ys, by rw [e, List.take_of_length_le (by omega)], hj⟩⟩
/-- The iterator over numbers that are sought, as its callers know it. -/
theorem thoseI_stops (n : Nat) (hn : 1 ≤ n) (Bl Bs : Nat) (V : Nat → Prop) (p : Option Addr) (pred : Int → Bool) (a : Option Addr) (m c : Nat) (xs : List Int) (w : World)
    (hHas : ∀ W', Touch V w W' → ∀ x, Calls Try.prog 26 #[.pointer p, .int .i64 x] W' fun e w' => e = .returned (.bool (pred x)) ∧ W' = w')
    (hBl : w.cell? ⟨Bl, 0, none⟩ = some (.slice a m c)) (hBs : w.cell? ⟨Bs, 0, none⟩ = some (.func (.func 26) #[.pointer p] #[])) (hVs : ¬ V Bs) (hi : Ints .i64 w a m xs) (hd : 0 < m → ∀ b o, a = some ⟨b, o, none⟩ → ¬ V b) (hm : m ≤ maxLen) :
    SeqStopsK Fence.wide n Try.prog 32 #[.pointer (some ⟨Bl, 0, none⟩), .pointer (some ⟨Bs, 0, none⟩)] (fun x : Yes pred => #[Value.int .i64 x.1]) (Touch V) (fun ys => ys.map (·.1) = xs.filter pred) (fun pre => pre.map (·.1) <+: xs.filter pred) m w :=
  fun l J Jx W hW _ _ hY h0 => thoseI1_in n hn l Bl Bs V p pred a m c xs J Jx W (fun W' ht x => hHas W' (touchK_t (Touch.of_below hW) ht) x) hY ((Touch.of_below (S := fun _ => False) hW).cell hBl (fun e => e)) ((Touch.of_below (S := fun _ => False) hW).cell hBs (fun e => e)) hVs (hi.below hW) hd hm h0
set_option maxRecDepth 100000 in
set_option maxHeartbeats 4000000 in
theorem thoseM1_in (n : Nat) (hn : 1 ≤ n) (l Bl Bs : Nat) (V : Nat → Prop) (f : Int) (a : Option Addr) (m c : Nat) (ms : List Mu) (J Jx : List (Yes (reachB f)) → World → Prop) (W : World) (B : Nat) (hJ : AbidesFrom B J)
    (hY : ∀ pre x W, J pre W → pre.length < m → YieldAt Fence.wide (n - 1) Try.prog l #[.agg #[.int .i64 x.1.r, .int .i64 x.1.l]] W fun e W' => (e = .returned (.bool true) ∧ J (pre ++ [x]) W' ∧ Touch V W W') ∨ (e = .returned (.bool false) ∧ Jx (pre ++ [x]) W'))
    (hBl : W.cell? ⟨Bl, 0, none⟩ = some (.slice a m c)) (hBs : W.cell? ⟨Bs, 0, none⟩ = some (.func (.func 27) #[.int .i64 f] #[])) (hVs : ¬ V Bs) (hi : Reads 2 muVals W a m ms) (hd : 0 < m → ∀ b o, a = some ⟨b, o, none⟩ → ¬ V b) (hm : m ≤ maxLen) (h0 : J [] W) :
    CallsIn Fence.wide n Try.prog 33 #[.func (.yield l) #[] #[], .pointer (some ⟨Bl, 0, none⟩), .pointer (some ⟨Bs, 0, none⟩)] W fun e W' => (∃ v, e = .returned v) ∧
      ((∃ ys, ys.map (·.1) = ms.filter (reachB f) ∧ J ys W') ∨ (∃ pre, pre.map (·.1) <+: ms.filter (reachB f) ∧ Jx pre W')) := by
  have m63 : (m : Int) ≤ 9223372036854775807 := by unfold maxLen at hm; omega
  have HL := hide hi.1
  have HI := hide hi
  have HD := hide hd
  have HJ := hide hJ
  have HY := hide hY
  have H0 := hide h0
  have HS := hide hBs
  have HV := hide hVs
  clear hm hi hd hY h0 hBs hVs hJ
  refine callsIn_of_wp Try.func33 rfl trivial ?_ rfl
  simp only [Try.ntmps33, List.size_toArray, List.length_cons, List.length_nil, Nat.reduceAdd, Nat.reduceSub, Array.replicate_succ, Array.replicate_zero, List.push_toArray, List.append_toArray, List.nil_append, List.cons_append]
  gi_wp2
  gi_loopw [8] (fun i wr => ∃ k : Nat, k ≤ m ∧ i = .int .i64 k ∧ Hid (Touch V W wr ∧ ∃ ys : List (Yes (reachB f)), ys.map (·.1) = (ms.take k).filter (reachB f) ∧ J ys wr)) (fun i _ => m - (intOf i).toNat)
  case atStart => exact ⟨0, Nat.zero_le _, rfl, Touch.refl _ _, [], by simp, H0.out⟩
  case round =>
    obtain ⟨k, hk, rfl, hZ⟩ := hrel
    by_cases hlt : k < m
    · have k0 : (0 : Int) ≤ (k : Int) := by omega
      have k1 : (k : Int) < (m : Int) := by omega
      obtain ⟨x, b, off, hx, rfl, hc⟩ := HI.out.at_ hlt
      obtain ⟨r, ll⟩ := x
      have c0 : wr.cell? ⟨b, off + k * 2, none⟩ = some (.int .i64 r) := hZ.out.1.cell (hc 0 _ rfl) (HD.out (by omega) b off rfl)
      have c1 : wr.cell? ⟨b, off + k * 2 + 1, none⟩ = some (.int .i64 ll) := hZ.out.1.cell (hc 1 _ rfl) (HD.out (by omega) b off rfl)
      have hs2 : wr.cell? ⟨Bs, 0, none⟩ = some (.func (.func 27) #[.int .i64 f] #[]) := hZ.out.1.cell HS.out HV.out
      have hs3 : (wr.alloc (.cells #[.int .i64 r, .int .i64 ll] 36)).cell? ⟨Bs, 0, none⟩ = some (.func (.func 27) #[.int .i64 f] #[]) := (((Below.refl wr.heap.size wr).alloc (Nat.le_refl _) _).cell (p := ⟨Bs, 0, none⟩) (lt_of_cell? hs2)).trans hs2
      have HX := hide hx
      obtain ⟨w1, hw1⟩ : ∃ w1, w1 = (wr.alloc (.cells #[.int .i64 r, .int .i64 ll] 36)).alloc (.cells #[.int .i64 r, .int .i64 ll] 36) := ⟨_, rfl⟩
      have B1 := hide (show Below wr.heap.size wr w1 from by rw [hw1]; exact ((Below.refl wr.heap.size wr).alloc (Nat.le_refl _) _).alloc (by simp) _)
      have W1 := hide hw1
      clear hc hx hw1
      obtain ⟨q, hq⟩ : ∃ q, q = reachB f ⟨r, ll⟩ := ⟨_, rfl⟩
      have HQ := hide hq
      have C := hide (fun (W : World) => show Calls Try.prog 27 #[.int .i64 f, .agg #[.int .i64 r, .int .i64 ll]] W fun e w' => e = .returned (.bool q) ∧ w' = W.alloc (.cells #[.int .i64 r, .int .i64 ll] 36) from by rw [hq]; exact preach_any W f r ll)
      clear hq
      cases q with
      | false =>
        gi_wp2_with (refine ⟨trivial, ?_⟩; gi_at_call 27; refine (callsIn_wide.2 (C.out _)).mono ?_; rintro e w' ⟨rfl, rfl⟩)
        have N := hide (show Touch V W w1 ∧ ∃ ys : List (Yes (reachB f)), ys.map (·.1) = (ms.take (k + 1)).filter (reachB f) ∧ J ys w1 from by
          obtain ⟨ht, ys, e, hj⟩ := hZ.out
          exact ⟨touchK_t ht (Touch.of_below B1.out), ys, yes_skip e HX.out HQ.out.symm, abides_below HJ.out hj B1.out⟩)
        refine ⟨fun _ h => (by cases h), ?_⟩
        rw [← W1.out]
        gi_wp2
        go_roundw
        case rel => exact ⟨k + 1, by omega, by go_num, N.out⟩
        case measure => simp [intOf]; omega
      | true =>
        obtain ⟨ht, ys, e, hj⟩ := hZ.out
        obtain ⟨fn, tmps, assign, body, hy, hR⟩ := HY.out ys ⟨⟨r, ll⟩, HQ.out.symm⟩ w1 (abides_below HJ.out hj B1.out) (by have := yes_lt e; omega)
        dsimp only at hy
        rw [W1.out] at hy hR
        have HT := hide (touchK_t ht (Touch.of_below B1.out))
        have HE := hide e
        have HPq := hide HQ.out.symm
        clear ht e hj
        gi_wp2_with (refine ⟨trivial, ?_⟩; gi_at_call 27; refine (callsIn_wide.2 (C.out _)).mono ?_; rintro e w' ⟨rfl, rfl⟩)
        refine hR.mono ?_
        rw [← W1.out]
        clear hy hR
        rintro e W3 (⟨rfl, hJ3, hk3⟩ | ⟨rfl, hJx3⟩)
        · have N := hide (show Touch V W W3 ∧ ∃ ys : List (Yes (reachB f)), ys.map (·.1) = (ms.take (k + 1)).filter (reachB f) ∧ J ys W3 from ⟨touchK_t HT.out hk3, _, yes_snoc HE.out HX.out HPq.out, hJ3⟩)
          clear hJ3 hk3
          gi_wp2
          go_roundw
          case rel => exact ⟨k + 1, by omega, by go_num, N.out⟩
          case measure => simp [intOf]; omega
        · have N := hide hJx3
          clear hJx3
          gi_wp2
          refine bodyPost_ret (results_none rfl _ _ _) rfl ?_
          exact ⟨⟨_, rfl⟩, .inr ⟨_, yes_pre (yes_snoc HE.out HX.out HPq.out), N.out⟩⟩
    · obtain rfl : k = m := by omega
      gi_wp2
      go_end0
      obtain ⟨ht, ys, e, hj⟩ := hZ.out
      have hl := HL.out
      exact ⟨⟨_, rfl⟩, .inl ⟨ys, by rw [e, List.take_of_length_le (by omega)], hj⟩⟩
theorem thoseM_stops (n : Nat) (hn : 1 ≤ n) (Bl Bs : Nat) (V : Nat → Prop) (f : Int) (a : Option Addr) (m c : Nat) (ms : List Mu) (w : World)
    (hBl : w.cell? ⟨Bl, 0, none⟩ = some (.slice a m c)) (hBs : w.cell? ⟨Bs, 0, none⟩ = some (.func (.func 27) #[.int .i64 f] #[])) (hVs : ¬ V Bs) (hi : Reads 2 muVals w a m ms) (hd : 0 < m → ∀ b o, a = some ⟨b, o, none⟩ → ¬ V b) (hm : m ≤ maxLen) :
    SeqStopsK Fence.wide n Try.prog 33 #[.pointer (some ⟨Bl, 0, none⟩), .pointer (some ⟨Bs, 0, none⟩)] (fun x : Yes (reachB f) => #[Value.agg #[.int .i64 x.1.r, .int .i64 x.1.l]]) (Touch V) (fun ys => ys.map (·.1) = ms.filter (reachB f)) (fun pre => pre.map (·.1) <+: ms.filter (reachB f)) m w :=
  fun l J Jx W hW hJ _ hY h0 => thoseM1_in n hn l Bl Bs V f a m c ms J Jx W _ hJ hY ((Touch.of_below (S := fun _ => False) hW).cell hBl (fun e => e)) ((Touch.of_below (S := fun _ => False) hW).cell hBs (fun e => e)) hVs (hi.below hW) hd hm h0
end Go.Proofs.Ytiaohcjjkbpngaa
