/-
  The program's iterators over what is sought in a list: their contracts.
-/
import Derived.Test.YteeofpjfgjhemaaRkTab
namespace Go.Proofs.Yteeofpjfgjhemaa
open Go.ChangeShapes Go.WideShapes Go.ChangeAt Go.RowKit Go.Shelf
set_option linter.unusedVariables false
set_option linter.unusedSimpArgs false
attribute [local go_sem] Oper.semAt_some
abbrev Yes {α : Type} (p : α → Bool) := { x : α // p x = true }
theorem yes_snoc {α : Type} {p : α → Bool} {ys : List (Yes p)} {xs : List α} {k : Nat} {x : α} (h : ys.map (·.1) = (xs.take k).filter p) (hx : xs[k]? = some x) (hp : p x = true) : (ys ++ [(⟨x, hp⟩ : Yes p)]).map (·.1) = (xs.take (k + 1)).filter p := by
  rw [List.take_add_one, hx, List.filter_append, List.map_append, h]
  simp [hp]
theorem yes_skip {α : Type} {p : α → Bool} {ys : List (Yes p)} {xs : List α} {k : Nat} {x : α} (h : ys.map (·.1) = (xs.take k).filter p) (hx : xs[k]? = some x) (hp : p x = false) : ys.map (·.1) = (xs.take (k + 1)).filter p := by
  rw [List.take_add_one, hx, List.filter_append, h]
  simp [hp]
theorem yes_lt {α : Type} {p : α → Bool} {ys : List (Yes p)} {xs : List α} {k : Nat} (h : ys.map (·.1) = (xs.take k).filter p) : ys.length ≤ k := by
  have h1 := congrArg List.length h
  rw [List.length_map] at h1
  have h2 := List.length_filter_le p (xs.take k)
  have h3 := List.length_take_le k xs
  omega
theorem yes_pre {α : Type} {p : α → Bool} {ys : List (Yes p)} {xs : List α} {k : Nat} (h : ys.map (·.1) = (xs.take k).filter p) : ys.map (·.1) <+: xs.filter p := by
  refine ⟨(xs.drop k).filter p, ?_⟩
  rw [h, ← List.filter_append, List.take_append_drop]
set_option maxHeartbeats 2000000 in
theorem thoseI_any (a : Option Addr) (n c : Nat) (p : Option Addr) (w : World) : Calls Try.prog 49 #[.slice a n c, .func (.func 33) #[.pointer p] #[]] w fun e w' =>
    e = .returned (.func (.func 57) #[] #[.pointer (some ⟨w.heap.size, 0, none⟩), .pointer (some ⟨w.heap.size + 1, 0, none⟩)]) ∧ w' = (w.alloc (.cells #[.slice a n c] 36)).alloc (.cells #[.func (.func 33) #[.pointer p] #[]] 79) := by
  go_enter Try.func49, Try.ntmps49
  go_wp2_with fail
  go_ret
  exact ⟨rfl, rfl⟩
set_option maxRecDepth 100000 in
set_option maxHeartbeats 4000000 in
theorem thoseI1_in (n : Nat) (hn : 1 ≤ n) (l Bl Bs : Nat) (V : Nat → Prop) (p : Option Addr) (pred : Int → Bool) (a : Option Addr) (m c : Nat) (xs : List Int) (J Jx : List (Yes pred) → World → Prop) (W : World)
    (hHas : ∀ W', Touch V W W' → ∀ x, Calls Try.prog 33 #[.pointer p, .int .i64 x] W' fun e w' => e = .returned (.bool (pred x)) ∧ W' = w')
    (hY : ∀ pre x W, J pre W → pre.length < m → YieldAt Fence.wide (n - 1) Try.prog l #[.int .i64 x.1] W fun e W' => (e = .returned (.bool true) ∧ J (pre ++ [x]) W' ∧ Touch V W W') ∨ (e = .returned (.bool false) ∧ Jx (pre ++ [x]) W'))
    (hBl : W.cell? ⟨Bl, 0, none⟩ = some (.slice a m c)) (hBs : W.cell? ⟨Bs, 0, none⟩ = some (.func (.func 33) #[.pointer p] #[])) (hVs : ¬ V Bs) (hi : Ints .i64 W a m xs) (hd : 0 < m → ∀ b o, a = some ⟨b, o, none⟩ → ¬ V b) (hm : m ≤ maxLen) (h0 : J [] W) :
    CallsIn Fence.wide n Try.prog 57 #[.func (.yield l) #[] #[], .pointer (some ⟨Bl, 0, none⟩), .pointer (some ⟨Bs, 0, none⟩)] W fun e W' => (∃ v, e = .returned v) ∧
      ((∃ ys, ys.map (·.1) = xs.filter pred ∧ J ys W') ∨ (∃ pre, pre.map (·.1) <+: xs.filter pred ∧ Jx pre W')) := by
  have m63 : (m : Int) ≤ 9223372036854775807 := by unfold maxLen at hm; omega
  have HL := hide hi.1
  have HI := hide hi.2
  have HD := hide hd
  have HH := hide hHas
  have HY := hide hY
  have H0 := hide h0
  have HS := hide hBs
  have HV := hide hVs
  clear hm hi hd hHas hY h0 hBs hVs
  refine callsIn_of_wp Try.func57 rfl trivial ?_ rfl
  simp only [Try.ntmps57, List.size_toArray, List.length_cons, List.length_nil, Nat.reduceAdd, Nat.reduceSub, Array.replicate_succ, Array.replicate_zero, List.push_toArray, List.append_toArray, List.nil_append, List.cons_append]
  gi_wp2
  gi_loopw [8] (fun i wr => ∃ k : Nat, k ≤ m ∧ i = .int .i64 k ∧ Hid (Touch V W wr ∧ ∃ ys : List (Yes pred), ys.map (·.1) = (xs.take k).filter pred ∧ J ys wr)) (fun i _ => m - (intOf i).toNat)
  case atStart => exact ⟨0, Nat.zero_le _, rfl, Touch.refl _ _, [], by simp, H0.out⟩
  case round =>
    obtain ⟨k, hk, rfl, hZ⟩ := hrel
    by_cases hlt : k < m
    · have k0 : (0 : Int) ≤ (k : Int) := by omega
      have k1 : (k : Int) < (m : Int) := by omega
      obtain ⟨b, off, rfl, hc⟩ := HI.out (by omega)
      obtain ⟨x, hx⟩ : ∃ x, xs[k]? = some x := ⟨_, List.getElem?_eq_getElem (by have := HL.out; omega)⟩
      obtain ⟨g, hg⟩ : ∃ g, g = xs.getD k 0 := ⟨_, rfl⟩
      have hx : xs[k]? = some g := by rw [hg, List.getD_eq_getElem?_getD, List.getElem?_eq_getElem (by have := HL.out; omega)]; rfl
      have hc2 : wr.cell? ⟨b, off + k, none⟩ = some (.int .i64 g) := by rw [hg]; exact hZ.out.1.cell (hc k hlt) (HD.out (by omega) b off rfl)
      have hs2 : wr.cell? ⟨Bs, 0, none⟩ = some (.func (.func 33) #[.pointer p] #[]) := hZ.out.1.cell HS.out HV.out
      have HX := hide hx
      clear hc hx hg
      obtain ⟨q, hq⟩ : ∃ q, q = pred g := ⟨_, rfl⟩
      have HQ := hide hq
      have C := hide (show Calls Try.prog 33 #[.pointer p, .int .i64 g] wr fun e w' => e = .returned (.bool q) ∧ wr = w' from by rw [hq]; exact HH.out wr hZ.out.1 g)
      clear hq
      cases q with
      | false =>
        have N := hide (show Touch V W wr ∧ ∃ ys : List (Yes pred), ys.map (·.1) = (xs.take (k + 1)).filter pred ∧ J ys wr from by
          obtain ⟨ht, ys, e, hj⟩ := hZ.out
          exact ⟨ht, ys, yes_skip e HX.out HQ.out.symm, hj⟩)
        gi_wp2_with (refine ⟨trivial, ?_⟩; gi_at_call 33; refine (callsIn_wide.2 C.out).mono ?_; rintro e w' ⟨rfl, rfl⟩)
        refine ⟨fun _ h => (by cases h), ?_⟩
        gi_wp2
        go_roundw
        case rel => exact ⟨k + 1, by omega, by go_num, N.out⟩
        case measure => simp [intOf]; omega
      | true =>
        obtain ⟨ht, ys, e, hj⟩ := hZ.out
        obtain ⟨fn, tmps, assign, body, hy, hR⟩ := HY.out ys ⟨g, HQ.out.symm⟩ wr hj (by have := yes_lt e; omega)
        dsimp only at hy
        gi_wp2_with (refine ⟨trivial, ?_⟩; gi_at_call 33; refine (callsIn_wide.2 C.out).mono ?_; rintro e w' ⟨rfl, rfl⟩)
        refine hR.mono ?_
        have HT := hide ht
        have HE := hide e
        have HPq := hide HQ.out.symm
        clear ht e hj hy
        rintro e W3 (⟨rfl, hJ3, hk3⟩ | ⟨rfl, hJx3⟩)
        · have N := hide (show Touch V W W3 ∧ ∃ ys : List (Yes pred), ys.map (·.1) = (xs.take (k + 1)).filter pred ∧ J ys W3 from ⟨touchK_t HT.out hk3, _, yes_snoc HE.out HX.out HPq.out, hJ3⟩)
          clear hJ3 hk3
          gi_wp2
          go_roundw
          case rel => exact ⟨k + 1, by omega, by go_num, N.out⟩
          case measure => simp [intOf]; omega
        · have N := hide hJx3
          clear hJx3
          gi_wp2
          refine bodyPost_ret (results_none rfl _ _ _) rfl ?_
          exact ⟨⟨_, rfl⟩, .inr ⟨_, yes_pre (yes_snoc HE.out HX.out HPq.out), N.out⟩⟩
    · obtain rfl : k = m := by omega
      gi_wp2
      go_end0
      obtain ⟨ht, ys, e, hj⟩ := hZ.out
      have hl := HL.out
      exact ⟨⟨_, rfl⟩, .inl ⟨ys, by rw [e, List.take_of_length_le (by omega)], hj⟩⟩
/-- The iterator over numbers that are sought, as its callers know it. -/
theorem thoseI_stops (n : Nat) (hn : 1 ≤ n) (Bl Bs : Nat) (V : Nat → Prop) (p : Option Addr) (pred : Int → Bool) (a : Option Addr) (m c : Nat) (xs : List Int) (w : World)
    (hHas : ∀ W', Touch V w W' → ∀ x, Calls Try.prog 33 #[.pointer p, .int .i64 x] W' fun e w' => e = .returned (.bool (pred x)) ∧ W' = w')
    (hBl : w.cell? ⟨Bl, 0, none⟩ = some (.slice a m c)) (hBs : w.cell? ⟨Bs, 0, none⟩ = some (.func (.func 33) #[.pointer p] #[])) (hVs : ¬ V Bs) (hi : Ints .i64 w a m xs) (hd : 0 < m → ∀ b o, a = some ⟨b, o, none⟩ → ¬ V b) (hm : m ≤ maxLen) :
    SeqStopsK Fence.wide n Try.prog 57 #[.pointer (some ⟨Bl, 0, none⟩), .pointer (some ⟨Bs, 0, none⟩)] (fun x : Yes pred => #[Value.int .i64 x.1]) (Touch V) (fun ys => ys.map (·.1) = xs.filter pred) (fun pre => pre.map (·.1) <+: xs.filter pred) m w :=
  fun l J Jx W hW _ _ hY h0 => thoseI1_in n hn l Bl Bs V p pred a m c xs J Jx W (fun W' ht x => hHas W' (touchK_t (Touch.of_below hW) ht) x) hY ((Touch.of_below (S := fun _ => False) hW).cell hBl (fun e => e)) ((Touch.of_below (S := fun _ => False) hW).cell hBs (fun e => e)) hVs (hi.below hW) hd hm h0
end Go.Proofs.Yteeofpjfgjhemaa
