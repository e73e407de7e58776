/-
  Several texts as one: PkFree0 PkFree PkRel PkAll.
-/
import Derived.Test.YteeofpjfgjhemaaPkKeys
import Derived.Test.YteeofpjfgjhemaaPkSort
import Derived.Test.YteeofpjfgjhemaaPkA
namespace Go.Proofs.Yteeofpjfgjhemaa
open Go.ChangeShapes Go.WideShapes Go.ChangeAt Go.RowKit Go.Maps
set_option linter.unusedVariables false
set_option linter.unusedSimpArgs false
abbrev eU : Unit → DataW Unit := fun _ => DataW.agg []
abbrev eI : Int → DataW Unit := fun x => DataW.lit (.int .i64 x)
theorem built_mutex (b : Nat) : Try.prog.built 69 [(0, .int .i64 (-1)), (1, .map (some b))] = some #[.int .i64 (-1), .map (some b)] := by kernel_rfl
set_option maxHeartbeats 2000000 in
theorem unheld_any (w : World) : Calls Try.prog 28 #[] w fun e w' => ∃ b, e = .returned (.agg #[.int .i64 (-1), .map (some b)]) ∧ IM eU unitElem w' b (fun _ => none) ∧ w.heap.size ≤ b ∧ Below w.heap.size w w' := by
  have hmm := @run_makeMap Try.prog
  go_enter Try.func28, Try.ntmps28
  go_wp2_with fail
  have c0 : ((w.alloc (.cells #[.int .i64 (-1), .map (some (w.heap.size + 1))] 69)).alloc (.map #[] 0)).heap[w.heap.size]? = some (.cells #[.int .i64 (-1), .map (some (w.heap.size + 1))] 69 (0, 0)) := (heap_alloc_old _ _ (by simp)).trans (heap_alloc_new w _)
  have q0 : ((w.alloc (.cells #[.int .i64 (-1), .map (some (w.heap.size + 1))] 69)).alloc (.map #[] 0)).cell? ⟨w.heap.size, 0, none⟩ = some (.int .i64 (-1)) := by rw [cell_of_row _ _ _ _ _ _ c0]; rfl
  have q1 : ((w.alloc (.cells #[.int .i64 (-1), .map (some (w.heap.size + 1))] 69)).alloc (.map #[] 0)).cell? ⟨w.heap.size, 1, none⟩ = some (.map (some (w.heap.size + 1))) := by rw [cell_of_row _ _ _ _ _ _ c0]; rfl
  have M := hide (show IM eU unitElem ((w.alloc (.cells #[.int .i64 (-1), .map (some (w.heap.size + 1))] 69)).alloc (.map #[] 0)) (w.heap.size + 1) (fun _ => none) from IM.made _ (by simp))
  refine bodyPost_ret (v := .agg #[.int .i64 (-1), .map (some (w.heap.size + 1))]) (by simp [results, Try.results28, go_sem, q0, q1] <;> rfl) rfl ?_
  exact ⟨w.heap.size + 1, rfl, M.out, by omega, ((Below.refl _ _).alloc (Nat.le_refl _) _).alloc (by simp) _⟩
theorem keysK_any (m : Option Nat) (w : World) : Calls Try.prog 52 #[.map m] w fun e w' => e = .returned (.func (.func 58) #[] #[.pointer (some ⟨w.heap.size, 0, none⟩)]) ∧ w' = w.alloc (.cells #[.map m] 67) :=
  (callsIn_wide (n := 5)).1 (Go.Proofs.AnyZI.keys_in Try.keysZ Fence.wide 5 trivial rfl m w)
theorem few_size {w : World} {R : Value → Option (DataW Unit × List MemPlace)} {M : Nat} {α : Type} {enc : α → DataW Unit} {f : Int → Option α} (h : IM enc R w M f) : ∃ nn D, w.ownsMap Try.prog 3 R M nn D ∧ Maps.size D ≤ 1000000 ∧ ∀ k, Maps.has D (.int .i64 k) = (f k).isSome := by
  obtain ⟨n, D, ks, hD, hs, h3, h4, h5, h6, hf⟩ := h
  exact ⟨n, D, hD, by rw [hs, ← h4]; exact few_keys 1000000 ks h3 h6, fun k => (hf k).1⟩
theorem mutex_size : (Try.prog.info? 69).map (·.size) = some 2 := by kernel_rfl
section
variable {w : World} {U : Nat → Prop} {T S M H W : Nat} {B : Nat → Nat} {sl : Int → Option Sl} {tag : Nat → Int} {r : Rk}
/-- The mutexes' row is written anew, one of them with a new set: the rest stays. -/
theorem Rg.freed {w' : World} (h : Rg w U T S M H W B sl tag r) {m b : Nat} (hm : m < r.n) (hb : IM eU unitElem w b (fun _ => none)) (hbU : ¬ U b) {cur : Array Value} (h1 : w.heap[M]? = some (.cells cur 69 (0, 0))) (h2 : cur.size = r.n * 2) (h3 : ∀ j, j < r.n → cur[j * 2]? = some (.int .i64 (r.o j)) ∧ cur[j * 2 + 1]? = some (.map (some (B j))))
    (e : w'.heap[M]? = some (.cells (splice cur.toList (m * 2) [.int .i64 (-1), .map (some b)]).toArray 69 (0, 0))) (t : Touch (fun i => i = M) w w') :
    Rg w' (fun i => U i ∨ i = b) T S M H W (upN B m b) sl (upN tag b (2 * (m : Int))) ⟨r.n, upN r.o m (-1), upN r.q m (fun _ => none), r.h, r.a⟩ := by
  obtain ⟨u1, u2, u3, u4⟩ := h.us
  obtain ⟨t1, t2, t3, t4⟩ := h.ts
  have tg : ∀ i, U i → upN tag b (2 * (m : Int)) i = tag i := fun i hi => by unfold upN; rw [if_neg (fun e' : i = b => hbU (by rw [← e']; exact hi))]
  have ne : ∀ i, U i → tag i ≠ -3 → i ≠ M := fun i hi ht e => ht (by rw [e]; exact t2)
  refine ⟨(t.block S (lt_of_heap h.s) (ne S u1 (by rw [t1]; omega))).trans h.s, RowM.anew h1 h2 h3 hm (-1) b e, fun j hj => ?_, h.hm.touch t (ne H u3 (by rw [t3]; omega)), h.wm.touch t (ne W u4 (by rw [t4]; omega)), fun x => ?_, ⟨.inl u1, .inl u2, .inl u3, .inl u4⟩, ⟨by rw [tg _ u1, t1], by rw [tg _ u2, t2], by rw [tg _ u3, t3], by rw [tg _ u4, t4]⟩, ?_, h.n6⟩
  · have hj : j < r.n := hj
    show IM eU unitElem w' (upN B m b j) (upN r.q m (fun _ => none) j) ∧ _
    by_cases ej : j = m
    · subst ej
      refine ⟨by unfold upN; rw [if_pos rfl, if_pos rfl]; exact hb.touch t (fun e => hbU (by rw [e]; exact u2)), .inr (by unfold upN; rw [if_pos rfl]), by unfold upN; rw [if_pos rfl, if_pos rfl]⟩
    · obtain ⟨h4, h5, h6⟩ := h.b j hj
      have e1 : upN B m b j = B j := by unfold upN; rw [if_neg ej]
      have e2 : upN r.q m (fun _ => none) j = r.q j := by unfold upN; rw [if_neg ej]
      rw [e1, e2]
      exact ⟨h4.touch t (ne _ h5 (by rw [h6]; omega)), .inl h5, by rw [tg _ h5, h6]⟩
  · rcases h.row x with e | ⟨g, c, e1, e2, e3, e4, e5⟩
    · exact .inl e
    · have hx := h.hm.few e1
      refine .inr ⟨g, c, e1, e2, t.own e3 (fun i hi => by injection hi with hi; subst hi; refine ne _ e4 ?_; rw [e5]; omega), .inl e4, by rw [tg _ e4, e5]⟩
  · rintro i (hi | hi)
    · exact Nat.lt_of_lt_of_le (h.lt i hi) t.size
    · rw [hi]; exact Nat.lt_of_lt_of_le hb.lt t.size
end
end Go.Proofs.Yteeofpjfgjhemaa
namespace Go.Proofs.Yteeofpjfgjhemaa
open Go.ChangeShapes Go.WideShapes Go.ChangeAt Go.RowKit Go.Maps
set_option linter.unusedVariables false
set_option linter.unusedSimpArgs false
/-- The release at E: of the mutexes of M, with those that are woken, L. -/
def RelAt (w : World) (U : Nat → Prop) (E M n : Nat) (a : Option Addr) (c : Nat) (L : List Int) : Prop :=
  w.heap[E]? = some (.cells #[.slice (some ⟨M, 0, none⟩) n n, .slice a L.length c] 93 (0, 0)) ∧ ¬ U E ∧ w.ownsRow 0 3 1 (.slice a L.length c) L.length (L.map (Value.int .i64)) ∧ ∀ i, (Value.slice a L.length c).ownBlock = some i → ¬ U i ∧ i ≠ E
/-- What is so behind the freeing of one. -/
def Freed (w : World) (U : Nat → Prop) (T S M H W E : Nat) (B : Nat → Nat) (sl : Int → Option Sl) (tag : Nat → Int) (r : Rk) (m : Nat) (a : Option Addr) (c : Nat) (L : List Int) (w' : World) : Prop :=
  ∃ U' B' tag' a' c' ss, Rg w' U' T S M H W B' sl tag' ⟨r.n, upN r.o m (-1), upN r.q m (fun _ => none), r.h, r.a⟩ ∧ RelAt w' U' E M r.n a' c' (L ++ ss) ∧ ss.Nodup ∧ (∀ x, x ∈ ss ↔ (r.q m x).isSome = true) ∧
    Touch (fun i => i = M ∨ i = E ∨ (Value.slice a L.length c).ownBlock = some i) w w' ∧ (∀ i, U' i → U i ∨ w.heap.size ≤ i) ∧ ∀ i, (Value.slice a' (L ++ ss).length c').ownBlock = some i → (Value.slice a L.length c).ownBlock = some i ∨ w.heap.size ≤ i
theorem un_one (b : Nat) : (#[Value.int .i64 (-1), .map (some b)] : Array Value).all (·.oneCell') = true := by simp [Value.oneCell']
set_option maxRecDepth 20000 in
set_option maxHeartbeats 8000000 in
theorem relfree_any {w : World} {U : Nat → Prop} {T S M H W : Nat} {B : Nat → Nat} {sl : Int → Option Sl} {tag : Nat → Int} {r : Rk} (h : Rg w U T S M H W B sl tag r) {E : Nat} {a : Option Addr} {c : Nat} {L : List Int} (hE : RelAt w U E M r.n a c L) (hL : L.length ≤ 2000000) {g o m : Nat} (hm : w.cell? ⟨g, o, none⟩ = some (.int .i64 (m : Nat))) (hmn : m < r.n) :
    Calls Try.prog 42 #[.pointer (some ⟨E, 0, none⟩), .pointer (some ⟨g, o, none⟩)] w fun e w' => e = .returned (.tuple #[]) ∧ Freed w U T S M H W E B sl tag r m a c L w' := by
  have hn6 := h.n6
  have m0 : (0 : Int) ≤ (m : Int) := by omega
  have m1 : (m : Int) < (r.n : Int) := by omega
  have e0 : w.cell? ⟨E, 0, none⟩ = some (.slice (some ⟨M, 0, none⟩) r.n r.n) := by rw [cell_of_row _ _ _ _ _ _ hE.1]; rfl
  obtain ⟨n, hn⟩ : ∃ n, n = r.n := ⟨_, rfl⟩
  have HN := hide hn
  have HR := hide h
  have HE := hide hE
  have HLL := hide hL
  have HM := hide hmn
  rw [← hn] at m1 e0
  clear hn h hE hL hn6 hmn
  go_enter Try.func42, Try.ntmps42
  go_upto_region 0 with fail
  go_quiet (fail)
  obtain ⟨w1, hw1⟩ : ∃ w1, w1 = w.drewN nq := ⟨_, rfl⟩
  rw [← hw1]
  have T1 := hide (show Below w.heap.size w w1 from by rw [hw1]; exact below_drewN (Below.refl _ w) nq)
  have R1 := hide (HR.out.below T1.out)
  have E1 := hide (show w1.heap[E]? = some (.cells #[.slice (some ⟨M, 0, none⟩) n n, .slice a L.length c] 93 (0, 0)) from by rw [HN.out]; exact (T1.out.block E (lt_of_heap HE.out.1)).trans HE.out.1)
  have O1 := hide (show w1.ownsRow 0 3 1 (.slice a L.length c) L.length (L.map (Value.int .i64)) from (Touch.of_below (S := fun _ => False) T1.out).own HE.out.2.2.1 (fun _ _ e => e))
  have MB := hide (R1.out.m.at_ HM.out)
  have SF := hide (show ∀ X : World, Below w1.heap.size w1 X → X.cell? ⟨M, m * 2 + 1, none⟩ = some (.map (some (B m))) from fun X b => (b.cell (p := ⟨M, m * 2 + 1, none⟩) R1.out.m.lt).trans MB.out.2.1)
  have SF2 := hide (show ∀ X : World, X.heap[E]? = w1.heap[E]? → X.cell? ⟨E, 1, none⟩ = some (.slice a L.length c) ∧ X.frozen? ⟨E, 1, none⟩ = false from fun X b => ⟨by rw [cell_of_row _ _ _ _ _ _ (b.trans E1.out)]; rfl, frozen_of_row _ _ _ _ _ (b.trans E1.out)⟩)
  have KY := hide (show ∀ (X : World), Calls Try.prog 52 #[.map (some (B m))] X fun e w' => ∃ Y, e = .returned (.func (.func 58) #[] #[.pointer (some ⟨Y, 0, none⟩)]) ∧ Boxed w' Y 67 (.map (some (B m))) ∧ Below X.heap.size X w' from fun X => (keysK_any (some (B m)) X).mono (by
    rintro e w' ⟨rfl, rfl⟩
    exact ⟨X.heap.size, rfl, Boxed.new X _ _, (Below.refl _ _).alloc (Nat.le_refl _) _⟩))
  have AP := hide (show ∀ (X : World) (Y : Nat), Below w1.heap.size w1 X → Boxed X Y 67 (.map (some (B m))) → Calls Try.prog 51 #[.slice a L.length c, .func (.func 58) #[] #[.pointer (some ⟨Y, 0, none⟩)]] X fun e w' => ∃ a' c' ss k, k = (L ++ ss).length ∧ e = .returned (.slice a' k c') ∧ (ss.Nodup ∧ ∀ x, x ∈ ss ↔ (r.q m x).isSome = true) ∧ w'.ownsRow 0 3 1 (.slice a' k c') k ((L ++ ss).map (Value.int .i64)) ∧ Touch (fun i => (Value.slice a L.length c).ownBlock = some i) w1 w' ∧ ∀ i, (Value.slice a' k c').ownBlock = some i → (Value.slice a L.length c).ownBlock = some i ∨ w1.heap.size ≤ i from fun X Y b hY => by
    obtain ⟨i1, i2, i3⟩ := R1.out.b m HM.out
    obtain ⟨nn, D, hD, hs, hf⟩ := few_size (i1.keep (b.block _ i1.lt))
    refine (apseq_any X Y (B m) nn D _ 0 a c L hY hD ((Touch.of_below (S := fun _ => False) b).own O1.out (fun _ _ e => e)) (Nat.zero_le _) (by have := HLL.out; omega)).mono ?_
    rintro e w' ⟨v', ss, rfl, ⟨k1, k2⟩, k3, k4, k5⟩
    obtain ⟨a', c', rfl, _⟩ := own_ints k3
    exact ⟨a', c', ss, _, rfl, rfl, ⟨k1, fun x => (k2 x).trans (by rw [hf x])⟩, k3, (Touch.of_below b).trans k4 (fun _ h => .inl h), fun i hi => (k5 i hi).imp (fun h => h) (fun h => Nat.le_trans b.size h)⟩)
  have UH := hide unheld_any
  have D1 := hide (show Below w1.heap.size w1 w1.drew from below_drewN (Below.refl _ w1) 1)
  clear hw1 e0 hm m0 m1
  rename_i Q9 K9 a9
  refine a9 _ _ ?_
  clear a9
  go_upto_region 1 with fail
  rename_i K8 a8
  refine wp_region_noPanic ?_
  refine wp_region_held_drew (S := (fun X => X.cell? ⟨M, m * 2 + 1, none⟩ = some (.map (some (B m))))) (by kernel_rfl) (SF.out _ D1.out) (fun hHeld => ?_)
  refine wpAnyH_take (i := 0) (v := ?_) rfl (by kernel_rfl) (by kernel_rfl) (by kernel_rfl) (fun _ _ _ h => h) (Or.inl ⟨by kernel_rfl, ?_⟩) (by assumption) ?_
  rotate_left
  · intro w hSw
    (try dsimp only at hSw)
    go_simp
    try with_reducible rfl
  try simp only [Act.put, List.setIfInBounds_toArray, List.set_cons_zero, List.set_cons_succ]
  refine wpAnyH_take (i := 1) (v := ?_) rfl (by kernel_rfl) (by kernel_rfl) (by kernel_rfl) (fun _ _ _ h => h) (Or.inl ⟨by kernel_rfl, ?_⟩) (by assumption) ?_
  rotate_left
  · intro w hSw
    (try dsimp only at hSw)
    go_simp
    try with_reducible rfl
  try simp only [Act.put, List.setIfInBounds_toArray, List.set_cons_zero, List.set_cons_succ]
  refine wpAnyH_take (i := 2) (v := ?_) rfl (by kernel_rfl) (by kernel_rfl) (by kernel_rfl) (fun _ _ _ h => h) (Or.inl ⟨by kernel_rfl, ?_⟩) (by assumption) ?_
  rotate_left
  · intro w hSw
    (try dsimp only at hSw)
    go_simp
    try with_reducible rfl
  try simp only [Act.put, List.setIfInBounds_toArray, List.set_cons_zero, List.set_cons_succ]
  refine wpAnyH_take (i := 3) (v := ?_) rfl (by kernel_rfl) (by kernel_rfl) (by kernel_rfl) (fun _ _ _ h => h) (Or.inl ⟨by kernel_rfl, ?_⟩) (by assumption) ?_
  rotate_left
  · intro w hSw
    (try dsimp only at hSw)
    go_simp
    try with_reducible rfl
  try simp only [Act.put, List.setIfInBounds_toArray, List.set_cons_zero, List.set_cons_succ]
  refine wpAnyH_take (i := 5) (v := ?_) rfl (by kernel_rfl) (by kernel_rfl) (by kernel_rfl) (fun _ _ _ h => h) (Or.inl ⟨by kernel_rfl, ?_⟩) (by assumption) ?_
  rotate_left
  · intro w hSw
    (try dsimp only at hSw)
    go_simp
    try with_reducible rfl
  try simp only [Act.put, List.setIfInBounds_toArray, List.set_cons_zero, List.set_cons_succ]
  refine wpAnyH_take (i := 6) (v := ?_) rfl (by kernel_rfl) (by kernel_rfl) (by kernel_rfl) (fun _ _ _ h => h) (Or.inl ⟨by kernel_rfl, ?_⟩) (by assumption) ?_
  rotate_left
  · intro w hSw
    (try dsimp only at hSw)
    go_simp
    try with_reducible rfl
  try simp only [Act.put, List.setIfInBounds_toArray, List.set_cons_zero, List.set_cons_succ]
  refine wpAnyH_take (i := 7) (v := ?_) rfl (by kernel_rfl) (by kernel_rfl) (by kernel_rfl) (fun _ _ _ h => h) (Or.inl ⟨by kernel_rfl, ?_⟩) (by assumption) ?_
  rotate_left
  · intro w hSw
    (try dsimp only at hSw)
    go_simp
    try with_reducible rfl
  try simp only [Act.put, List.setIfInBounds_toArray, List.set_cons_zero, List.set_cons_succ]
  refine wpAnyH_take (i := 8) (v := ?_) rfl (by kernel_rfl) (by kernel_rfl) (by kernel_rfl) (fun _ _ _ h => h) (Or.inl ⟨by kernel_rfl, ?_⟩) (by assumption) ?_
  rotate_left
  · intro w hSw
    (try dsimp only at hSw)
    go_simp
    try with_reducible rfl
  try simp only [Act.put, List.setIfInBounds_toArray, List.set_cons_zero, List.set_cons_succ]
  refine wpAnyH_ready (rs := [4, 9]) (by kernel_rfl) (by simp) ?_
  refine AllReadyH.cons rfl (fun K hK => ?_) (AllReadyH.cons rfl (fun K hK => ?_) AllReadyH.nil)
  · have z1 := (SF2.out w1.drew (D1.out.block E (lt_of_heap E1.out))).1
    go_simp
    go_wp2_with fail
    refine hK _ _ (SF.out _ D1.out) (fun hHeld => ?_)
    clear hK K
    try simp only [Act.put, List.setIfInBounds_toArray, List.set_cons_zero, List.set_cons_succ]
    refine wpAnyH_ready (rs := [9]) (by kernel_rfl) (by simp) ?_
    refine AllReadyH.cons rfl (fun K hK => ?_) AllReadyH.nil
    go_simp
    go_at_call 52
    refine (KY.out _).mono ?_
    rintro e w4 ⟨Y, rfl, hY, b4⟩
    have HY := hide hY
    have B4 := hide (D1.out.trans (b4.mono D1.out.size))
    clear hY b4
    go_wp2_with fail
    refine hK _ _ (SF.out _ B4.out) (fun hHeld => ?_)
    clear hK K
    try simp only [Act.put, List.setIfInBounds_toArray, List.set_cons_zero, List.set_cons_succ]
    refine wpAnyH_ready (rs := [10]) (by kernel_rfl) (by simp) ?_
    refine AllReadyH.cons rfl (fun K hK => ?_) AllReadyH.nil
    go_simp
    go_at_call 51
    refine (AP.out _ Y B4.out HY.out).mono ?_
    rintro e w5 ⟨a5, c5, ss, k5, hk5, rfl, ⟨x1, x2⟩, x3, x4, x5⟩
    have KK := hide hk5
    have ND := hide x1
    have XS := hide x2
    have O5 := hide x3
    have T5 := hide x4
    have X5 := hide x5
    clear x1 x2 x3 x4 x5 hk5
    have E5 := hide (show w5.heap[E]? = some (.cells #[.slice (some ⟨M, 0, none⟩) n n, .slice a L.length c] 93 (0, 0)) from (T5.out.block E (lt_of_heap E1.out) (fun h => (HE.out.2.2.2 E h).2 rfl)).trans E1.out)
    obtain ⟨s1, s2⟩ := SF2.out w5 (E5.out.trans E1.out.symm)
    have S5 := hide (show w5.cell? ⟨M, m * 2 + 1, none⟩ = some (.map (some (B m))) from T5.out.cell MB.out.2.1 (fun h => (HE.out.2.2.2 M h).1 R1.out.us.2.1))
    go_wp2_with fail
    refine hK _ _ S5.out (fun hHeld => ?_)
    clear hK K
    try simp only [Act.put, List.setIfInBounds_toArray, List.set_cons_zero, List.set_cons_succ]
    refine wpAnyH_take (i := 11) (v := ?_) rfl (by kernel_rfl) (by kernel_rfl) (by kernel_rfl) (fun _ _ _ h => h) (Or.inl ⟨by kernel_rfl, ?_⟩) (by assumption) ?_
    rotate_left
    · intro w hSw
      (try dsimp only at hSw)
      go_simp
      try with_reducible rfl
    try simp only [Act.put, List.setIfInBounds_toArray, List.set_cons_zero, List.set_cons_succ]
    refine wpAnyH_take (i := 12) (v := ?_) rfl (by kernel_rfl) (by kernel_rfl) (by kernel_rfl) (fun _ _ _ h => h) (Or.inl ⟨by kernel_rfl, ?_⟩) (by assumption) ?_
    rotate_left
    · intro w hSw
      (try dsimp only at hSw)
      go_simp
      try with_reducible rfl
    try simp only [Act.put, List.setIfInBounds_toArray, List.set_cons_zero, List.set_cons_succ]
    refine wpAnyH_ready (rs := [13]) (by kernel_rfl) (by simp) ?_
    refine AllReadyH.cons rfl (fun K hK => ?_) AllReadyH.nil
    go_simp
    go_wp2_with fail
    refine hK _ _ (((Touch.refl (fun i => i = E) w5).setCell (p := ⟨E, 1, none⟩) rfl _).cell S5.out (fun e => HE.out.2.1 (by rw [← e]; exact R1.out.us.2.1))) (fun hHeld => ?_)
    clear hK K
    try simp only [Act.put, List.setIfInBounds_toArray, List.set_cons_zero, List.set_cons_succ]
    refine wpAnyH_done (by kernel_rfl) ?_ _
    go_simp
    refine NoPanic.normal ?_
    refine a8 _ _ ?_
    clear hHeld
    obtain ⟨w6, hw6⟩ : ∃ w6, w6 = w5.setCell ⟨E, 1, none⟩ (.slice a5 k5 c5) := ⟨_, rfl⟩
    try rw [← hw6]
    have T6 := hide (show Touch (fun i => i = E ∨ (Value.slice a L.length c).ownBlock = some i) w1 w6 from by rw [hw6]; exact (T5.out.mono (fun _ h => .inr h)).setCell (p := ⟨E, 1, none⟩) (.inl rfl) _)
    have E6 := hide (show w6.heap[E]? = some (.cells #[.slice (some ⟨M, 0, none⟩) n n, .slice a5 k5 c5] 93 (0, 0)) from by rw [hw6]; exact heap_setCell_same _ _ _ _ _ _ E5.out)
    have NE := hide (show ∀ i, (Value.slice a5 k5 c5).ownBlock = some i → ¬ U i ∧ i ≠ E from fun i hi => by
      rcases X5.out i hi with h | h
      · exact HE.out.2.2.2 i h
      · exact ⟨fun hu => by have := R1.out.lt i hu; omega, fun e => by have := lt_of_heap E1.out; omega⟩)
    have O6 := hide (show w6.ownsRow 0 3 1 (.slice a5 k5 c5) k5 ((L ++ ss).map (Value.int .i64)) from by rw [hw6]; exact ((Touch.refl (fun i => i = E) w5).setCell (p := ⟨E, 1, none⟩) rfl _).own O5.out (fun i hi => (NE.out i hi).2))
    have R6 := hide (R1.out.touch T6.out (fun i hi h => h.elim (fun e => HE.out.2.1 (e ▸ hi)) (fun e => (HE.out.2.2.2 i e).1 hi)))
    clear hw6 s1 s2
    obtain ⟨cur, h1, h2, h3⟩ := R6.out.m
    have HC := hide h1
    have H2 := hide h2
    have H3 := hide h3
    clear h1 h2 h3
    go_wp2_with (first
      | (go_at_call 28; refine (UH.out _).mono ?_; rintro e w7 ⟨b, rfl, hb, hlb, b7⟩; have HB := hide hb; have LB := hide hlb; have B7 := hide b7; clear hb hlb b7; have h7 : w7.heap[M]? = some (.cells cur.toList.toArray 69 (0, 0)) := (by rw [Array.toArray_toList]; exact (B7.out.block M (lt_of_heap HC.out)).trans HC.out); have hf7 : m * 2 + 2 ≤ cur.toList.length := (by have := HM.out; have := H2.out; simp; omega))
      | (refine wpList_store_seg rfl 69 (.tmp 29) (.tmp 28) rfl M (m * 2) #[.int .i64 (-1), .map (some b)] rfl rfl 69 cur.toList h7 mutex_size hf7 (un_one b) ?_; intro w8 e8 t8; have E8 := hide e8; have T8 := hide t8; clear e8 t8))
    go_end0
    obtain rfl := KK.out
    have bU : ¬ U b := fun hu => by have := R6.out.lt b hu; have := LB.out; omega
    have bE : b ≠ E := fun e => by have := lt_of_heap E6.out; have := LB.out; omega
    have R8 := (R6.out.below B7.out).freed HM.out HB.out bU (by rw [← Array.toArray_toList (xs := cur)]; exact h7) H2.out H3.out E8.out T8.out
    have T7 : Touch (fun i => i = M ∨ i = E ∨ (Value.slice a L.length c).ownBlock = some i) w w8 := (((Touch.of_below T1.out).trans T6.out (fun i h => .inl (.inr h))).trans (Touch.of_below (S := fun _ => False) B7.out) (fun _ e => e.elim)).trans T8.out (fun i h => .inl (.inl h))
    have TE : Touch (fun i => i = M) w6 w8 := (Touch.of_below B7.out).trans T8.out (fun i h => .inl h)
    refine ⟨rfl, _, _, _, a5, c5, ss, R8, ⟨?_, ?_, ?_, ?_⟩, ND.out, XS.out, T7, ?_, ?_⟩
    · rw [← HN.out]; exact (TE.block E (lt_of_heap E6.out) (fun e => HE.out.2.1 (by rw [e]; exact R1.out.us.2.1))).trans E6.out
    · rintro (hu | hu)
      · exact HE.out.2.1 hu
      · exact bE hu.symm
    · exact TE.own O6.out (fun i hi e => (NE.out i hi).1 (by rw [e]; exact R1.out.us.2.1))
    · intro i hi
      refine ⟨?_, (NE.out i hi).2⟩
      rintro (hu | hu)
      · exact (NE.out i hi).1 hu
      · have := (O6.out.lt i hi).2
        have := LB.out
        omega
    · rintro i (hi | hi)
      · exact .inl hi
      · right; have := LB.out; have := T6.out.size; have := T1.out.size; omega
    · intro i hi
      exact (X5.out i hi).imp (fun h => h) (fun h => Nat.le_trans T1.out.size h)
  · go_simp
    go_at_call 52
    refine (KY.out _).mono ?_
    rintro e w4 ⟨Y, rfl, hY, b4⟩
    have HY := hide hY
    have B4 := hide (D1.out.trans (b4.mono D1.out.size))
    clear hY b4
    go_wp2_with fail
    refine hK _ _ (SF.out _ B4.out) (fun hHeld => ?_)
    clear hK K
    try simp only [Act.put, List.setIfInBounds_toArray, List.set_cons_zero, List.set_cons_succ]
    refine wpAnyH_ready (rs := [4]) (by kernel_rfl) (by simp) ?_
    refine AllReadyH.cons rfl (fun K hK => ?_) AllReadyH.nil
    have z1 := (SF2.out w4 (B4.out.block E (lt_of_heap E1.out))).1
    go_simp
    go_wp2_with fail
    refine hK _ _ (SF.out _ B4.out) (fun hHeld => ?_)
    clear hK K
    try simp only [Act.put, List.setIfInBounds_toArray, List.set_cons_zero, List.set_cons_succ]
    refine wpAnyH_ready (rs := [10]) (by kernel_rfl) (by simp) ?_
    refine AllReadyH.cons rfl (fun K hK => ?_) AllReadyH.nil
    go_simp
    go_at_call 51
    refine (AP.out _ Y B4.out HY.out).mono ?_
    rintro e w5 ⟨a5, c5, ss, k5, hk5, rfl, ⟨x1, x2⟩, x3, x4, x5⟩
    have KK := hide hk5
    have ND := hide x1
    have XS := hide x2
    have O5 := hide x3
    have T5 := hide x4
    have X5 := hide x5
    clear x1 x2 x3 x4 x5 hk5
    have E5 := hide (show w5.heap[E]? = some (.cells #[.slice (some ⟨M, 0, none⟩) n n, .slice a L.length c] 93 (0, 0)) from (T5.out.block E (lt_of_heap E1.out) (fun h => (HE.out.2.2.2 E h).2 rfl)).trans E1.out)
    obtain ⟨s1, s2⟩ := SF2.out w5 (E5.out.trans E1.out.symm)
    have S5 := hide (show w5.cell? ⟨M, m * 2 + 1, none⟩ = some (.map (some (B m))) from T5.out.cell MB.out.2.1 (fun h => (HE.out.2.2.2 M h).1 R1.out.us.2.1))
    go_wp2_with fail
    refine hK _ _ S5.out (fun hHeld => ?_)
    clear hK K
    try simp only [Act.put, List.setIfInBounds_toArray, List.set_cons_zero, List.set_cons_succ]
    refine wpAnyH_take (i := 11) (v := ?_) rfl (by kernel_rfl) (by kernel_rfl) (by kernel_rfl) (fun _ _ _ h => h) (Or.inl ⟨by kernel_rfl, ?_⟩) (by assumption) ?_
    rotate_left
    · intro w hSw
      (try dsimp only at hSw)
      go_simp
      try with_reducible rfl
    try simp only [Act.put, List.setIfInBounds_toArray, List.set_cons_zero, List.set_cons_succ]
    refine wpAnyH_take (i := 12) (v := ?_) rfl (by kernel_rfl) (by kernel_rfl) (by kernel_rfl) (fun _ _ _ h => h) (Or.inl ⟨by kernel_rfl, ?_⟩) (by assumption) ?_
    rotate_left
    · intro w hSw
      (try dsimp only at hSw)
      go_simp
      try with_reducible rfl
    try simp only [Act.put, List.setIfInBounds_toArray, List.set_cons_zero, List.set_cons_succ]
    refine wpAnyH_ready (rs := [13]) (by kernel_rfl) (by simp) ?_
    refine AllReadyH.cons rfl (fun K hK => ?_) AllReadyH.nil
    go_simp
    go_wp2_with fail
    refine hK _ _ (((Touch.refl (fun i => i = E) w5).setCell (p := ⟨E, 1, none⟩) rfl _).cell S5.out (fun e => HE.out.2.1 (by rw [← e]; exact R1.out.us.2.1))) (fun hHeld => ?_)
    clear hK K
    try simp only [Act.put, List.setIfInBounds_toArray, List.set_cons_zero, List.set_cons_succ]
    refine wpAnyH_done (by kernel_rfl) ?_ _
    go_simp
    refine NoPanic.normal ?_
    refine a8 _ _ ?_
    clear hHeld
    obtain ⟨w6, hw6⟩ : ∃ w6, w6 = w5.setCell ⟨E, 1, none⟩ (.slice a5 k5 c5) := ⟨_, rfl⟩
    try rw [← hw6]
    have T6 := hide (show Touch (fun i => i = E ∨ (Value.slice a L.length c).ownBlock = some i) w1 w6 from by rw [hw6]; exact (T5.out.mono (fun _ h => .inr h)).setCell (p := ⟨E, 1, none⟩) (.inl rfl) _)
    have E6 := hide (show w6.heap[E]? = some (.cells #[.slice (some ⟨M, 0, none⟩) n n, .slice a5 k5 c5] 93 (0, 0)) from by rw [hw6]; exact heap_setCell_same _ _ _ _ _ _ E5.out)
    have NE := hide (show ∀ i, (Value.slice a5 k5 c5).ownBlock = some i → ¬ U i ∧ i ≠ E from fun i hi => by
      rcases X5.out i hi with h | h
      · exact HE.out.2.2.2 i h
      · exact ⟨fun hu => by have := R1.out.lt i hu; omega, fun e => by have := lt_of_heap E1.out; omega⟩)
    have O6 := hide (show w6.ownsRow 0 3 1 (.slice a5 k5 c5) k5 ((L ++ ss).map (Value.int .i64)) from by rw [hw6]; exact ((Touch.refl (fun i => i = E) w5).setCell (p := ⟨E, 1, none⟩) rfl _).own O5.out (fun i hi => (NE.out i hi).2))
    have R6 := hide (R1.out.touch T6.out (fun i hi h => h.elim (fun e => HE.out.2.1 (e ▸ hi)) (fun e => (HE.out.2.2.2 i e).1 hi)))
    clear hw6 s1 s2
    obtain ⟨cur, h1, h2, h3⟩ := R6.out.m
    have HC := hide h1
    have H2 := hide h2
    have H3 := hide h3
    clear h1 h2 h3
    go_wp2_with (first
      | (go_at_call 28; refine (UH.out _).mono ?_; rintro e w7 ⟨b, rfl, hb, hlb, b7⟩; have HB := hide hb; have LB := hide hlb; have B7 := hide b7; clear hb hlb b7; have h7 : w7.heap[M]? = some (.cells cur.toList.toArray 69 (0, 0)) := (by rw [Array.toArray_toList]; exact (B7.out.block M (lt_of_heap HC.out)).trans HC.out); have hf7 : m * 2 + 2 ≤ cur.toList.length := (by have := HM.out; have := H2.out; simp; omega))
      | (refine wpList_store_seg rfl 69 (.tmp 29) (.tmp 28) rfl M (m * 2) #[.int .i64 (-1), .map (some b)] rfl rfl 69 cur.toList h7 mutex_size hf7 (un_one b) ?_; intro w8 e8 t8; have E8 := hide e8; have T8 := hide t8; clear e8 t8))
    go_end0
    obtain rfl := KK.out
    have bU : ¬ U b := fun hu => by have := R6.out.lt b hu; have := LB.out; omega
    have bE : b ≠ E := fun e => by have := lt_of_heap E6.out; have := LB.out; omega
    have R8 := (R6.out.below B7.out).freed HM.out HB.out bU (by rw [← Array.toArray_toList (xs := cur)]; exact h7) H2.out H3.out E8.out T8.out
    have T7 : Touch (fun i => i = M ∨ i = E ∨ (Value.slice a L.length c).ownBlock = some i) w w8 := (((Touch.of_below T1.out).trans T6.out (fun i h => .inl (.inr h))).trans (Touch.of_below (S := fun _ => False) B7.out) (fun _ e => e.elim)).trans T8.out (fun i h => .inl (.inl h))
    have TE : Touch (fun i => i = M) w6 w8 := (Touch.of_below B7.out).trans T8.out (fun i h => .inl h)
    refine ⟨rfl, _, _, _, a5, c5, ss, R8, ⟨?_, ?_, ?_, ?_⟩, ND.out, XS.out, T7, ?_, ?_⟩
    · rw [← HN.out]; exact (TE.block E (lt_of_heap E6.out) (fun e => HE.out.2.1 (by rw [e]; exact R1.out.us.2.1))).trans E6.out
    · rintro (hu | hu)
      · exact HE.out.2.1 hu
      · exact bE hu.symm
    · exact TE.own O6.out (fun i hi e => (NE.out i hi).1 (by rw [e]; exact R1.out.us.2.1))
    · intro i hi
      refine ⟨?_, (NE.out i hi).2⟩
      rintro (hu | hu)
      · exact (NE.out i hi).1 hu
      · have := (O6.out.lt i hi).2
        have := LB.out
        omega
    · rintro i (hi | hi)
      · exact .inl hi
      · right; have := LB.out; have := T6.out.size; have := T1.out.size; omega
    · intro i hi
      exact (X5.out i hi).imp (fun h => h) (fun h => Nat.le_trans T1.out.size h)
end Go.Proofs.Yteeofpjfgjhemaa
namespace Go.Proofs.Yteeofpjfgjhemaa
open Go.ChangeShapes Go.WideShapes Go.ChangeAt Go.RowKit Go.Maps
set_option linter.unusedVariables false
set_option linter.unusedSimpArgs false
section
variable {w : World} {U : Nat → Prop} {T S M H W : Nat} {B : Nat → Nat} {sl : Int → Option Sl} {tag : Nat → Int} {r : Rk}
/-- The map of who waits is another one. -/
theorem Rg.waits {w' : World} {a' : Int → Option Int} (h : Rg w U T S M H W B sl tag r) (hw : IM eI readI w' W a') (t : Touch (fun i => i = W) w w') : Rg w' U T S M H W B sl tag ⟨r.n, r.o, r.q, r.h, a'⟩ := by
  obtain ⟨u1, u2, u3, u4⟩ := h.us
  obtain ⟨t1, t2, t3, t4⟩ := h.ts
  have ne : ∀ i, tag i ≠ -7 → i ≠ W := fun i ht e => ht (by rw [e]; exact t4)
  refine ⟨(t.block S (lt_of_heap h.s) (ne S (by rw [t1]; omega))).trans h.s, h.m.keep (t.block M h.m.lt (ne M (by rw [t2]; omega))), fun j hj => ?_, h.hm.touch t (ne H (by rw [t3]; omega)), hw, fun x => ?_, h.us, h.ts, fun i hi => Nat.lt_of_lt_of_le (h.lt i hi) t.size, h.n6⟩
  · obtain ⟨h4, h5, h6⟩ := h.b j hj
    exact ⟨h4.touch t (ne _ (by rw [h6]; omega)), h5, h6⟩
  · rcases h.row x with e | ⟨g, c, e1, e2, e3, e4, e5⟩
    · exact .inl e
    · have hx := h.hm.few e1
      exact .inr ⟨g, c, e1, e2, t.own e3 (fun i hi => by injection hi with hi; subst hi; refine ne _ ?_; rw [e5]; omega), e4, e5⟩
end
def fo (o : Nat → Int) (js : List Nat) : Nat → Int := js.foldl (fun o j => upN o j (-1)) o
def fq (q : Nat → Int → Option Unit) (js : List Nat) : Nat → Int → Option Unit := js.foldl (fun q j => upN q j (fun _ => none)) q
def delAll (a : Int → Option Int) (l : List Int) : Int → Option Int := l.foldl (fun a x => updF a x none) a
theorem fo_at (js : List Nat) : ∀ (o : Nat → Int) (j : Nat), fo o js j = if j ∈ js then -1 else o j := by
  induction js with
  | nil => intro o j; rfl
  | cons i js ih =>
    intro o j
    show fo (upN o i (-1)) js j = _
    rw [ih]
    unfold upN
    by_cases h : j ∈ js <;> by_cases e : j = i <;> simp [h, e]
theorem fq_at (js : List Nat) : ∀ (q : Nat → Int → Option Unit) (j : Nat), fq q js j = if j ∈ js then (fun _ => none) else q j := by
  induction js with
  | nil => intro o j; rfl
  | cons i js ih =>
    intro o j
    show fq (upN o i (fun _ => none)) js j = _
    rw [ih]
    unfold upN
    by_cases h : j ∈ js <;> by_cases e : j = i <;> simp [h, e]
theorem del_at (l : List Int) : ∀ (a : Int → Option Int) (x : Int), delAll a l x = if x ∈ l then none else a x := by
  induction l with
  | nil => intro a x; rfl
  | cons y l ih =>
    intro a x
    show delAll (updF a y none) l x = _
    rw [ih]
    unfold updF
    by_cases h : x ∈ l <;> by_cases e : x = y <;> simp [h, e]
theorem fo_snoc {js : List Nat} {k j : Nat} (h : js[k]? = some j) (o : Nat → Int) : upN (fo o (js.take k)) j (-1) = fo o (js.take (k + 1)) := by
  rw [List.take_add_one, h]; unfold fo; rw [Option.toList_some, List.foldl_append]; rfl
theorem fq_snoc {js : List Nat} {k j : Nat} (h : js[k]? = some j) (q : Nat → Int → Option Unit) : upN (fq q (js.take k)) j (fun _ => none) = fq q (js.take (k + 1)) := by
  rw [List.take_add_one, h]; unfold fq; rw [Option.toList_some, List.foldl_append]; rfl
theorem del_snoc {l : List Int} {k : Nat} {x : Int} (h : l[k]? = some x) (a : Int → Option Int) : updF (delAll a (l.take k)) x none = delAll a (l.take (k + 1)) := by
  rw [List.take_add_one, h]; unfold delAll; rw [Option.toList_some, List.foldl_append]; rfl
/-- While mutexes come free: k of js are; who waited for these is told of in E. -/
def RelJ (w : World) (U : Nat → Prop) (T S M H W : Nat) (sl : Int → Option Sl) (r : Rk) (js : List Nat) (E : Nat) (k : Nat) (X : World) : Prop :=
  ∃ U' B' tag' a' c' L, Rg X U' T S M H W B' sl tag' ⟨r.n, fo r.o (js.take k), fq r.q (js.take k), r.h, r.a⟩ ∧ RelAt X U' E M r.n a' c' L ∧ L.Nodup ∧ (∀ x, x ∈ L ↔ ∃ j ∈ js.take k, (r.q j x).isSome = true) ∧
    Touch (fun i => i = M ∨ w.heap.size ≤ i) w X ∧ (∀ i, U' i → U i ∨ w.heap.size ≤ i) ∧ ∀ i, (Value.slice a' L.length c').ownBlock = some i → w.heap.size ≤ i
theorem built_release (M n : Nat) : Try.prog.built 93 [(0, .slice (some ⟨M, 0, none⟩) n n)] = some #[.slice (some ⟨M, 0, none⟩) n n, .slice none 0 0] := by kernel_rfl
theorem RelJ.step {w X : World} {U : Nat → Prop} {T S M H W : Nat} {sl : Int → Option Sl} {r : Rk} {js : List Nat} {E k : Nat} (h : RelJ w U T S M H W sl r js E k X) (hEn : w.heap.size ≤ E) (hjs : ∀ j ∈ js, j < r.n) (hnd : js.Nodup) (hq : ∀ j x, j < r.n → (r.q j x).isSome = true → r.a x = some (j : Int) ∧ 0 ≤ x ∧ x < 1000000)
    {j : Nat} (hj : js[k]? = some j) {g o : Nat} (hc : X.cell? ⟨g, o, none⟩ = some (.int .i64 (j : Nat))) :
    Calls Try.prog 42 #[.pointer (some ⟨E, 0, none⟩), .pointer (some ⟨g, o, none⟩)] X fun e w' => e = .returned (.tuple #[]) ∧ RelJ w U T S M H W sl r js E (k + 1) w' := by
  obtain ⟨U', B', tag', a', c', L, h1, h2, h3, h4, h5, h6, h7⟩ := h
  have hjn := hjs j (List.mem_of_getElem? hj)
  have hL : L.length ≤ 1000000 := few_keys 1000000 L h3 (fun x hx => by
    obtain ⟨i, hi, hs⟩ := (h4 x).1 hx
    exact (hq i x (hjs i (List.mem_of_mem_take hi)) hs).2)
  have hnt : j ∉ js.take k := fun hm => by
    obtain ⟨i, hi⟩ := List.getElem?_of_mem hm
    rw [List.getElem?_take] at hi
    split at hi
    · have := (List.getElem?_inj ((List.getElem?_eq_some_iff.1 hi).1) hnd).1 (hi.trans hj.symm)
      omega
    · cases hi
  have hqj : fq r.q (js.take k) j = r.q j := by rw [fq_at, if_neg hnt]
  refine (relfree_any h1 h2 (by omega) hc hjn).mono ?_
  rintro e w' ⟨rfl, U2, B2, tag2, a2, c2, ss, f1, f2, f3, f4, f5, f6, f7⟩
  refine ⟨rfl, U2, B2, tag2, a2, c2, L ++ ss, ?_, f2, ?_, ?_, ?_, ?_, ?_⟩
  · have := f1
    rw [show upN (fo r.o (js.take k)) j (-1) = fo r.o (js.take (k + 1)) from fo_snoc hj _, show upN (fq r.q (js.take k)) j (fun _ => none) = fq r.q (js.take (k + 1)) from fq_snoc hj _] at this
    exact this
  · rw [List.nodup_append]
    refine ⟨h3, f3, ?_⟩
    intro x hx y hy e
    subst e
    obtain ⟨i, hi, hs⟩ := (h4 x).1 hx
    have e1 := (hq i x (hjs i (List.mem_of_mem_take hi)) hs).1
    have h8 := (f4 x).1 hy
    rw [show (Rk.q ⟨r.n, fo r.o (js.take k), fq r.q (js.take k), r.h, r.a⟩ j x) = r.q j x from congrFun hqj x] at h8
    have e2 := (hq j x hjn h8).1
    rw [e1] at e2
    injection e2 with e2
    have : i = j := by omega
    exact hnt (this ▸ hi)
  · intro x
    rw [List.mem_append, h4, f4]
    rw [show (Rk.q ⟨r.n, fo r.o (js.take k), fq r.q (js.take k), r.h, r.a⟩ j x) = r.q j x from congrFun hqj x]
    rw [List.take_add_one, hj]
    simp only [Option.toList_some, List.mem_append, List.mem_singleton]
    constructor
    · rintro (⟨i, hi, hs⟩ | hs)
      · exact ⟨i, .inl hi, hs⟩
      · exact ⟨j, .inr rfl, hs⟩
    · rintro ⟨i, hi | rfl, hs⟩
      · exact .inl ⟨i, hi, hs⟩
      · exact .inr hs
  · refine h5.trans f5 ?_
    rintro i (e | e | e)
    · exact .inl (.inl e)
    · exact .inl (.inr (by omega))
    · exact .inl (.inr (h7 i e))
  · intro i hi
    rcases f6 i hi with e | e
    · exact h6 i e
    · exact .inr (Nat.le_trans h5.size e)
  · intro i hi
    rcases f7 i hi with e | e
    · exact h7 i e
    · exact Nat.le_trans h5.size e
end Go.Proofs.Yteeofpjfgjhemaa
namespace Go.Proofs.Yteeofpjfgjhemaa
open Go.ChangeShapes Go.WideShapes Go.ChangeAt Go.RowKit Go.Maps
set_option linter.unusedVariables false
set_option linter.unusedSimpArgs false
theorem sortI_rises {L : List Int} (h : L.Nodup) : (sortI L).Pairwise (· < ·) := by
  have h1 := List.pairwise_mergeSort (le := fun x y : Int => decide (x ≤ y)) (fun a b c h1 h2 => by simp at *; omega) (fun a b => by simp; omega) L
  have h2 : (sortI L).Nodup := (List.mergeSort_perm L _).nodup_iff.2 h
  exact (h1.and h2).imp fun ⟨a, b⟩ => by have : _ ≤ _ := of_decide_eq_true a; omega
theorem sortI_mem {L : List Int} {x : Int} : x ∈ sortI L ↔ x ∈ L := (List.mergeSort_perm L _).mem_iff
set_option maxRecDepth 20000 in
set_option maxHeartbeats 4000000 in
theorem lkfree_any {w : World} {U : Nat → Prop} {T S M H W : Nat} {B : Nat → Nat} {sl : Int → Option Sl} {tag : Nat → Int} {r : Rk} (h : Rg w U T S M H W B sl tag r) {b : Option Addr} {l c : Nat} {hs : List Hv} (hb : Reads 2 hvVals w b l hs) (hl : l ≤ maxLen) (hbM : ∀ g o, b = some ⟨g, o, none⟩ → g ≠ M)
    {js : List Nat} (hh : hs.map (·.m) = js.map fun (j : Nat) => (j : Int)) (hjs : ∀ j ∈ js, j < r.n) (hnd : js.Nodup) (hq : ∀ j x, j < r.n → (r.q j x).isSome = true → r.a x = some (j : Int) ∧ 0 ≤ x ∧ x < 1000000) :
    Calls Try.prog 31 #[.pointer (some ⟨S, 0, none⟩), .slice b l c] w fun e w' => ∃ v L U' B' tag', e = .returned v ∧ Rg w' U' T S M H W B' sl tag' ⟨r.n, fo r.o js, fq r.q js, r.h, delAll r.a L⟩ ∧ (∀ x, x ∈ L ↔ ∃ j ∈ js, (r.q j x).isSome = true) ∧
      (sortI L).Pairwise (· < ·) ∧ w'.ownsRow 0 3 1 v (sortI L).length ((sortI L).map (Value.int .i64)) ∧ (∀ i, v.ownBlock = some i → ¬ U' i ∧ w.heap.size ≤ i) ∧ Touch (fun i => i = M ∨ i = W) w w' ∧ ∀ i, U' i → U i ∨ w.heap.size ≤ i := by
  have hmf : ∀ fn first cap w, (Instr.makeFunc fn first cap).run Try.prog w = .ok (.func fn first cap) w := fun _ _ _ _ => rfl
  have hbuilt := built_release M r.n
  obtain ⟨n, hn⟩ : ∃ n, n = r.n := ⟨_, rfl⟩
  obtain ⟨c0, c1, c2, c3⟩ := h.cells
  obtain ⟨u1, u2, u3, u4⟩ := h.us
  have HN := hide hn
  rw [← hn] at c1 hbuilt
  have hjl : js.length = l := by have := congrArg List.length hh; simp at this; rw [← this]; exact hb.1
  have DW := hide (show W ≠ M ∧ W < w.heap.size ∧ M < w.heap.size from ⟨fun e => by have h1 := h.ts.2.1; have h2 := h.ts.2.2.2; rw [e, h1] at h2; omega, h.lt _ u4, h.lt _ u2⟩)
  have EA := hide (show Calls Try.prog 36 #[.slice b l c, .func (.func 42) #[.pointer (some ⟨w.heap.size, 0, none⟩)] #[]] (w.alloc (.cells #[.slice (some ⟨M, 0, none⟩) n n, .slice none 0 0] 93)) fun e w' => e = .returned (.tuple #[]) ∧ RelJ w U T S M H W sl r js w.heap.size l w' from by
    have bw : Below w.heap.size w (w.alloc (.cells #[.slice (some ⟨M, 0, none⟩) n n, .slice none 0 0] 93)) := (Below.refl _ w).alloc (Nat.le_refl _) _
    rcases Nat.eq_zero_or_pos l with h0 | h0
    · subst h0
      refine each_free _ b 0 0 0 c (fun k X => RelJ w U T S M H W sl r js w.heap.size k X) _ hl (fun e => absurd e (by omega)) ?_ (fun k X hk => absurd hk (by omega))
      exact ⟨U, B, tag, none, 0, [], h.below bw, ⟨by rw [← hn]; exact heap_alloc_new w _, fun hu => by have := h.lt _ hu; omega, World.ownsRow_nil _ _ _ _, fun i hi => by cases hi⟩, List.nodup_nil, fun x => by simp, Touch.of_below bw, fun i hi => .inl hi, fun i hi => by cases hi⟩
    · obtain ⟨g, off, rfl, hc⟩ := hb.2 h0
      refine each_free _ (some ⟨g, off, none⟩) g off l c (fun k X => RelJ w U T S M H W sl r js w.heap.size k X) _ hl (fun _ => rfl) ?_ ?_
      · exact ⟨U, B, tag, none, 0, [], h.below bw, ⟨by rw [← hn]; exact heap_alloc_new w _, fun hu => by have := h.lt _ hu; omega, World.ownsRow_nil _ _ _ _, fun i hi => by cases hi⟩, List.nodup_nil, fun x => by simp, Touch.of_below bw, fun i hi => .inl hi, fun i hi => by cases hi⟩
      · intro k X hk hJ
        obtain ⟨j, hj⟩ : ∃ j, js[k]? = some j := ⟨_, List.getElem?_eq_getElem (by omega)⟩
        obtain ⟨x, hx⟩ : ∃ x, hs[k]? = some x := ⟨_, List.getElem?_eq_getElem (by rw [hb.1]; exact hk)⟩
        have hxm : x.m = (j : Int) := by
          have := congrArg (fun z => z[k]?) hh
          simp only [List.getElem?_map, hj, hx, Option.map_some, Option.some.injEq] at this
          exact this
        have hcell := hc k x hx 0 (.int .i64 x.m) rfl
        have hgl : g < w.heap.size := lt_of_cell? hcell
        have h5 : Touch (fun i => i = M ∨ w.heap.size ≤ i) w X := by obtain ⟨_, _, _, _, _, _, _, _, _, _, h5, _⟩ := hJ; exact h5
        have hcX := h5.cell hcell (fun e => by rcases e with e | e; exact hbM g off rfl e; exact absurd hgl (by have : w.heap.size ≤ g := e; omega))
        rw [hxm] at hcX
        exact hJ.step (Nat.le_refl _) hjs hnd hq hj hcX)
  have HQ := hide hq
  have HJ := hide hjs
  have US := hide h.lt
  have HJL := hide (show js.take l = js from List.take_of_length_le (by omega))
  clear hq hjs hnd hh hb hl hbM h u1 u2 u3 u4 hn hjl
  go_enter Try.func31, Try.ntmps31
  go_wp2_with (go_at_call 36; refine EA.out.mono ?_; rintro e w1 ⟨rfl, h1⟩; have J1 := hide h1; clear h1; obtain ⟨U1, B1, tag1, a1, k1, L, g1, g2, g3, g4, g5, g6, g7⟩ := J1.out; have E1 := hide g2; have q1 : w1.cell? ⟨w.heap.size, 1, none⟩ = some (.slice a1 L.length k1) := (by rw [cell_of_row _ _ _ _ _ _ g2.1]; rfl); have G1 := hide g1; have G3 := hide g3; have G4 := hide g4; have G5 := hide g5; have G6 := hide g6; have G7 := hide g7; clear g1 g2 g3 g4 g5 g6 g7)
  have LB := hide (show L.length ≤ 1000000 from few_keys 1000000 L G3.out (fun x hx => by
    obtain ⟨i, hi, hs⟩ := (G4.out x).1 hx
    exact (HQ.out i x (HJ.out i (List.mem_of_mem_take hi)) hs).2))
  have FW := hide (show ∀ x ∈ L, (Lit.int .i64 x).wf = true from fun x hx => by
    obtain ⟨i, hi, hs⟩ := (G4.out x).1 hx
    exact wf_few (HQ.out i x (HJ.out i (List.mem_of_mem_take hi)) hs).2)
  have LI := hide (show ∃ A c', Value.slice a1 L.length k1 = .slice A L.length c' ∧ Ints .i64 w1 A L.length L ∧ (A = none → c' = 0) from own_ints E1.out.2.2.1)
  have LI2 := hide (show Ints .i64 w1 a1 L.length L from by obtain ⟨A, c', e1, e2, _⟩ := LI.out; injection e1 with e1; rw [e1]; exact e2)
  have n63 : (L.length : Int) ≤ 9223372036854775807 := by have := LB.out; omega
  rw [HJL.out] at G1
  clear LI EA
  go_loopw [19] (fun i wr => ∃ k : Nat, k ≤ L.length ∧ i = .int .i64 k ∧ Hid (Rg wr U1 T S M H W B1 sl tag1 ⟨r.n, fo r.o js, fq r.q js, r.h, delAll r.a (L.take k)⟩ ∧ Touch (fun i => i = W) w1 wr)) (fun i _ => L.length - (intOf i).toNat)
  case atStart => exact ⟨0, Nat.zero_le _, rfl, G1.out, Touch.refl _ _⟩
  case round =>
    obtain ⟨k, hk, rfl, hZ⟩ := hrel
    by_cases hlt : k < L.length
    · have k0 : (0 : Int) ≤ (k : Int) := by omega
      have k1' : (k : Int) < (L.length : Int) := by omega
      obtain ⟨x, hx⟩ : ∃ x, L[k]? = some x := ⟨_, List.getElem?_eq_getElem hlt⟩
      obtain ⟨gb, go, ea, hcc⟩ := LI2.out.2 (by omega)
      have hgb : w.heap.size ≤ gb := G7.out gb (by rw [ea]; rfl)
      have cx : wr.cell? ⟨gb, go + k, none⟩ = some (.int .i64 x) := by
        have := hZ.out.2.cell (hcc k hlt) (fun e => by have := DW.out; have e : gb = W := e; omega)
        rw [this, List.getD_eq_getElem?_getD, hx]; rfl
      have wx := FW.out x (List.mem_of_getElem? hx)
      obtain ⟨d0, d1, d2, d3⟩ := hZ.out.1.cells
      obtain ⟨w2, hdr, hM, hgr⟩ := hZ.out.1.wm.drop Try.underlying64 wx 0
      have T2 : Touch (fun i => i = W) wr w2 := Touch.of_grown hgr (fun g e => by injection e with e; exact e.symm)
      have N := hide (show Rg w2 U1 T S M H W B1 sl tag1 ⟨r.n, fo r.o js, fq r.q js, r.h, delAll r.a (L.take (k + 1))⟩ ∧ Touch (fun i => i = W) w1 w2 from ⟨by rw [← del_snoc hx]; exact hZ.out.1.waits hM T2, hZ.out.2.trans T2 (fun _ h => .inl h)⟩)
      subst ea
      clear hcc hx d0 d1 d2 hM hgr T2 c0 c1 c2 c3
      go_wp2_with fail
      go_roundw
      case rel => exact ⟨k + 1, by omega, by go_num, N⟩
      case measure => simp [intOf]; omega
    · obtain rfl : k = L.length := by omega
      rw [List.take_length] at hZ
      have hEW : w.heap.size ≠ W := by have := DW.out; omega
      have E2 := hide (show wr.heap[w.heap.size]? = some (.cells #[.slice (some ⟨M, 0, none⟩) r.n r.n, .slice a1 L.length k1] 93 (0, 0)) from (hZ.out.2.block _ (lt_of_heap E1.out.1) hEW).trans E1.out.1)
      have q2 : wr.cell? ⟨w.heap.size, 1, none⟩ = some (.slice a1 L.length k1) := by rw [cell_of_row _ _ _ _ _ _ E2.out]; rfl
      have O2 := hide (hZ.out.2.own E1.out.2.2.1 (fun i hi e => by have := G7.out i hi; have := DW.out; omega))
      have SO := hide (isort_any wr _ 0 L O2.out (LB.out))
      have SE := hide (show ∀ X : World, Touch (fun i => (Value.slice a1 L.length k1).ownBlock = some i) wr X → X.cell? ⟨w.heap.size, 1, none⟩ = some (.slice a1 L.length k1) from fun X t => t.cell q2 (fun e => (E1.out.2.2.2 _ e).2 rfl))
      clear q1 c0 c1 c2 c3
      go_wp2_with (go_at_call 43; refine SO.out.mono ?_; rintro e w3 ⟨rfl, h3, t3⟩; have O3 := hide h3; have T3 := hide t3; have q3 := SE.out _ t3; clear h3 t3 q2)
      go_ret
      have HL := show (sortI L).length = L.length from List.length_mergeSort _
      have RR := (hZ.out.1.touch T3.out (fun i hi e => (E1.out.2.2.2 i e).1 hi))
      refine ⟨_, L, U1, B1, tag1, rfl, RR, fun x => ?_, sortI_rises G3.out, by rw [HL]; exact O3.out, fun i hi => ⟨(E1.out.2.2.2 i hi).1, G7.out i hi⟩, ?_, G6.out⟩
      · rw [G4.out x, HJL.out]
      · have z1 := hZ.out.2.size
        have z2 := G5.out.size
        refine ⟨T3.out.os.trans (hZ.out.2.os.trans G5.out.os), T3.out.tape.trans (hZ.out.2.tape.trans G5.out.tape), T3.out.output.trans (hZ.out.2.output.trans G5.out.output), Nat.le_trans z2 (Nat.le_trans z1 T3.out.size), fun i hi hn => ?_⟩
        exact (T3.out.block i (by omega) (fun e => by have := G7.out i e; omega)).trans ((hZ.out.2.block i (by omega) (fun e => hn (.inr e))).trans (G5.out.block i hi (fun e => e.elim (fun e => hn (.inl e)) (fun e => by omega))))
end Go.Proofs.Yteeofpjfgjhemaa
