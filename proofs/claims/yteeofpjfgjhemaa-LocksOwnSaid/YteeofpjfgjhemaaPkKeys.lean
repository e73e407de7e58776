/-
  slices.AppendSeq of maps.Keys onto a row of one's own.
-/
import Derived.Test.YteeofpjfgjhemaaPkShelf
import Derived.Test.YteeofpjfgjhemaaPkMem
import Derived.Test.YteeofpjfgjhemaaSeqKit
import Derived.Lib.SlKeysI
namespace Go.Proofs.Yteeofpjfgjhemaa
open Go.ChangeShapes Go.WideShapes Go.ChangeAt Go.RowKit Go.Shelf Go.Maps
set_option linter.unusedVariables false
set_option linter.unusedSimpArgs false
attribute [local go_sem] Oper.semAt_some
theorem wpListIn_append_at {F : Fence} {n : Nat} {P : Program} (w : World) {ops : Array Oper} {rest : List Oper} {o : Oper} {a : Act} {Q : Exit → Act → World → Prop}
    (hg : o.guard = none) (s x : Operand) (t : TypeId) (hop : o.op = Op.call { callee := Callee.builtin Builtin.append, args := #[s, x], argTypes := #[t, t] })
    (base : Nat) (e : TypeId) (i : TypeInfo) (z : Value) (size bytes : Nat) (h1 : P.underlying t = some (.slice e)) (h2 : P.info? e = some i) (h3 : i.zero = some z) (h4 : i.size = size) (h5 : i.bytes = bytes) (h6 : z.cells.size = size) (h7 : 0 < size)
    (v : Value) (k : Nat) (xs : List Value) (hs : a.eval s = v) (hown : w.ownsRow base e size v k xs) (ad : Addr) (m c : Nat) (news : List Value) (hx : a.eval x = .slice (some ad) m c) (hn : news.length = m * size)
    (hc : ∀ j u, news[j]? = some u → w.cell? (ad.add j) = some u) (h1c : ∀ u ∈ news, u.oneCell' = true) (b1 : k + m ≤ maxLen) (b2 : (k + m) * bytes ≤ 140737488355328) (b3 : base ≤ w.heap.size)
    (hK : ∀ v' w', w'.ownsRow base e size v' (k + m) (xs ++ news) → w.grownBy w' v.ownBlock → (v'.ownBlock = v.ownBlock ∨ v'.ownBlock = some w.heap.size) → wpListIn F n P ops Q rest (a.put o.dst v') w') :
    wpListIn F n P ops Q (o :: rest) a w := by
  refine wpListIn_plain hg fun K hK' => ?_
  obtain ⟨v', w', hrun, r1, r2, r3, r4⟩ := run_append_own_at (P := P) w base t o.type e i z size bytes h1 h2 h3 h4 h5 h6 h7 v k xs hown ad m c news hn hc h1c b1 b2 b3
  unfold Oper.wpIn
  refine ⟨?_, ?_⟩
  · simp [Oper.about, hop, resolve, Target.leads, Sem.run_pure]
  · rw [Oper.semAt_plain F _ _ (by rw [hop]; intro c hc'; cases hc')]
    simp [execOp, hop, resolve, invoke, builtin, hs, hx, hrun, Result.andThen]
    exact hK' _ _ (hK v' w' r1 r2 r4)
theorem intKeys_nodup {w : World} {R : Value → Option (DataW Unit × List MemPlace)} {b n : Nat} {D : DataW Unit} (h : w.ownsMap Try.prog 3 R b n D) : (intKeys D).Nodup := by
  obtain ⟨es, hD, hpw, _⟩ := h.entries keyI
  obtain ⟨es', hD', hko⟩ := h.keysOf
  obtain rfl : es = es' := by rw [hD] at hD'; simpa using hD'
  subst hD
  show (es.map fun p => Go.intOf p.1).Nodup
  refine List.pairwise_map.2 (hpw.imp_of_mem fun {p q} hp' hq' hne e => hne ?_)
  obtain ⟨v, hv⟩ := hko p hp'
  obtain ⟨v2, hv2⟩ := hko q hq'
  obtain ⟨a, ha, ha2, _⟩ := Maps.keyOf_i64 Try.underlying3 hv
  obtain ⟨b2, hb, hb2, _⟩ := Maps.keyOf_i64 Try.underlying3 hv2
  rw [ha2, hb2] at e ⊢
  exact congrArg _ e
theorem int_infoK : (Try.prog.info? 3).map (fun i => (i.zero, i.size, i.bytes)) = some (some (.int .i64 0), 1, 8) := by kernel_rfl
/-- What is kept between two rounds. -/
def ApI (w : World) (Bs B0 : Nat) (v : Value) (L : List Int) (pre : List Int) (W : World) : Prop :=
  (∃ v', Boxed W Bs 36 v' ∧ W.ownsRow B0 3 1 v' (L ++ pre).length ((L ++ pre).map (Value.int .i64)) ∧ ∀ i, v'.ownBlock = some i → v.ownBlock = some i ∨ w.heap.size ≤ i) ∧ Touch (fun i => v.ownBlock = some i ∨ w.heap.size ≤ i) w W
set_option maxRecDepth 100000 in
set_option maxHeartbeats 8000000 in
theorem apseq_any (w : World) (X Bm nn : Nat) (D0 : DataW Unit) (R : Value → Option (DataW Unit × List MemPlace)) (B0 : Nat) (a : Option Addr) (c : Nat) (L : List Int) (hX : Boxed w X 67 (.map (some Bm))) (hown : w.ownsMap Try.prog 3 R Bm nn D0)
    (hv : w.ownsRow B0 3 1 (.slice a L.length c) L.length (L.map (Value.int .i64))) (hB0 : B0 ≤ w.heap.size) (hN : L.length + Maps.size D0 ≤ 10000000) :
    Calls Try.prog 51 #[.slice a L.length c, .func (.func 58) #[] #[.pointer (some ⟨X, 0, none⟩)]] w fun e w' =>
      ∃ v' ss, e = .returned v' ∧ (ss.Nodup ∧ ∀ x, x ∈ ss ↔ Maps.has D0 (.int .i64 x) = true) ∧ w'.ownsRow B0 3 1 v' (L ++ ss).length ((L ++ ss).map (Value.int .i64)) ∧ Touch (fun i => (Value.slice a L.length c).ownBlock = some i) w w' ∧ ∀ i, v'.ownBlock = some i → (Value.slice a L.length c).ownBlock = some i ∨ w.heap.size ≤ i := by
  obtain ⟨i0, hi0, hz0, hz1, hz2⟩ := info_parts int_infoK
  have I0 := hide (show Try.prog.info? 3 = some i0 ∧ i0.zero = some (.int .i64 0) ∧ i0.size = 1 ∧ i0.bytes = 8 from ⟨hi0, hz0, hz1, hz2⟩)
  clear hi0 hz0 hz1 hz2
  have NK := hide (intKeys_nodup hown)
  refine (callsIn_wide (n := 3)).1 ?_
  refine callsIn_of_wp_marks Try.func51 rfl trivial ?_ rfl
  simp only [Try.ntmps51, List.size_toArray, List.length_cons, List.length_nil, Nat.reduceAdd, Nat.reduceSub, Array.replicate_succ, Array.replicate_zero, List.push_toArray, List.append_toArray, List.nil_append, List.cons_append]
  gi_wp2_with fail
  obtain ⟨w2, hw2⟩ : ∃ w2, w2 = w.alloc (.cells #[.slice a L.length c] 36) := ⟨_, rfl⟩
  rw [← hw2]
  have b2 : Below w.heap.size w w2 := by rw [hw2]; exact (Below.refl w.heap.size w).alloc (Nat.le_refl _) _
  have s2 : w2.heap.size = w.heap.size + 1 := by rw [hw2]; simp
  have e0 : Boxed w2 w.heap.size 36 (.slice a L.length c) := by rw [hw2]; exact Boxed.new w _ _
  have e1 : Boxed w2 X 67 (.map (some Bm)) := boxed_below hX b2
  have m2 : w2.ownsMap Try.prog 3 R Bm nn D0 := by
    have hbl := hown.lt
    obtain ⟨es, clock, hb, Ft, hs, hD⟩ := hown
    exact ⟨es, clock, (b2.block Bm hbl).trans hb, Ft, hs, hD⟩
  have hs : SeqStops Fence.wide (3 - 1) Try.prog 58 #[.pointer (some ⟨X, 0, none⟩)] encZ (fun ss => ss.Perm (intKeys D0) ∧ ∀ x, x ∈ ss ↔ Maps.has D0 (.int .i64 x) = true) (fun pre => pre.Nodup ∧ ∀ x ∈ pre, Maps.has D0 (.int .i64 x) = true) (Maps.size D0) w2 :=
    AnyZI.keys_stops (ρ := Try.keysZ_ren) { Try.keysZ with } Fence.wide (3 - 1) trivial rfl (by omega) X Bm nn D0 w2 e1.lt e1.cell m2
  have R0 := hide (show w2.ownsRow B0 3 1 (.slice a L.length c) L.length (L.map (Value.int .i64)) from (Touch.of_below (S := fun _ => False) b2).own hv (fun _ _ e => e))
  have B2 := hide b2
  have HN := hide hN
  have HB0 := hide hB0
  clear hv hown m2 hX hw2 hN
  refine wpIn_rangeFunc_ownF rfl (by omega) (gf := 58) (lb := #[.pointer (some ⟨X, 0, none⟩)]) rfl trivial (enters_of Try.func58 (by kernel_rfl) rfl)
    hs walksK_t walksK_b (Below.refl _ _) (fun _ => rfl)
    (ApI w w.heap.size B0 (.slice a L.length c) L)
    (fun c pre W => False)
    (OwnFrom.and (Own.from (holdsRow_own B0 w.heap.size 36 3 1 (fun pre => (L ++ pre).length) (fun pre => (L ++ pre).map (Value.int .i64)) (fun pre v' => ∀ i, v'.ownBlock = some i → (Value.slice a L.length c).ownBlock = some i ∨ w.heap.size ≤ i)) _) (ownFrom_touch (V := fun i => (Value.slice a L.length c).ownBlock = some i ∨ w.heap.size ≤ i) (fun i hi => Or.inr (by omega))))
    (fun c => ownFrom_pure _ (fun _ => False))
    ⟨⟨_, e0, by rw [List.append_nil]; exact R0.out, fun i h => .inl h⟩, Touch.of_below B2.out⟩
    (fun y => { tmps := #[.slice a L.length c, .func (.func 58) #[] #[.pointer (some ⟨X, 0, none⟩)], .pointer (some ⟨w.heap.size, 0, none⟩), undef, .slice none 0 0, .int .i64 y, .func (.func 58) #[] #[.pointer (some ⟨X, 0, none⟩)], .int .i64 y, undef, undef, undef, undef, undef], defers := [] }) ?assign ?body ?done ?stop
  case assign =>
    intro l y W K hK
    gi_wp2
    exact hK
  case body =>
    rintro l pre y W ⟨⟨v', hb, hr, hn⟩, ht⟩ hlen
    have hle := ht.size
    have hlen2 : L.length + pre.length + 1 ≤ 10000000 := by have := HN.out; omega
    obtain ⟨A', c', rfl, _⟩ := own_ints hr
    have hl3 : (L ++ pre).length = L.length + pre.length := List.length_append
    have cb := hb.cell
    have fb := hb.frozen
    have HT := hide ht
    have HB := hide hb
    have HR := hide hr
    have HM := hide hn
    obtain ⟨k, hk⟩ : ∃ k, k = (L ++ pre).length := ⟨_, rfl⟩
    have HK := hide hk
    rw [← hk] at cb HR HB HM
    have hk7 : k + 1 ≤ 10000000 := by omega
    clear ht hb hr hn hk hl3 hlen
    gi_wp2_with (gi_at_builtin; refine wpListIn_append_at _ rfl _ _ 36 rfl B0 3 i0 _ 1 8 Try.underlying36 I0.out.1 I0.out.2.1 I0.out.2.2.1 I0.out.2.2.2 rfl (by omega) _ _ _ rfl (HR.out.alloc _) ⟨W.heap.size, 0, none⟩ 1 1 [.int .i64 y] rfl rfl (cell_one_new _ _ _) (by simp [Value.oneCell']) (by unfold maxLen; omega) (by omega) (by have := HB0.out; simp; omega) ?_; intro v2 w1 hown' hgrow hblk; have AP := hide (HB.out.appended (by decide) HR.out (Nat.le_trans HB0.out hle) (Nat.le_trans HB0.out (Nat.le_refl _)) hown' hgrow); have GB := hide (show v2.ownBlock = (Value.slice A' k c').ownBlock ∨ v2.ownBlock = some (W.heap.size + 1) from by rw [World.size_alloc] at hblk; exact hblk); have GG := hide (show (W.alloc (.cells #[.int .i64 y] 3)).grownBy w1 (Value.slice A' k c').ownBlock from hgrow); obtain ⟨g', cap', rfl⟩ := ownsRow_succ hown'; clear hown' hgrow hblk; have hc1 := AP.out.1.cell; have hf1 := AP.out.1.frozen)
    have e1 : (L ++ (pre ++ [y])).length = k + 1 := by rw [← List.append_assoc, List.length_append, ← HK.out]; rfl
    have e2 : (L ++ (pre ++ [y])).map (Value.int .i64) = (L ++ pre).map (Value.int .i64) ++ [Value.int .i64 y] := by rw [← List.append_assoc, List.map_append]; rfl
    have T1 : Touch (fun i => (Value.slice a L.length c).ownBlock = some i ∨ w.heap.size ≤ i) W w1 := ((Touch.refl _ W).alloc (.cells #[.int .i64 y] 3)).trans (S' := fun i => (Value.slice a L.length c).ownBlock = some i ∨ w.heap.size ≤ i) (Touch.of_grown GG.out (fun g e => HM.out g e)) (fun _ h => .inl h)
    refine ⟨AP.out.2.2.2.1, AP.out.2.2.2.1.walks, ⟨⟨_, AP.out.2.1, by rw [e1, e2]; exact AP.out.2.2.1, fun i hi => ?_⟩, HT.out.trans (S' := fun i => (Value.slice a L.length c).ownBlock = some i ∨ w.heap.size ≤ i) (T1.setCell (p := ⟨w.heap.size, 0, none⟩) (.inr (Nat.le_refl _)) _) (fun _ h => .inl h)⟩⟩
    rcases GB.out with h | h
    · rw [h] at hi; exact HM.out i hi
    · rw [h] at hi; injection hi with hi; right; omega
  case done =>
    rintro D ys W hD hys ⟨⟨v', hb, hr, hn⟩, ht⟩ hK
    obtain ⟨A', c', rfl, _⟩ := own_ints hr
    have cb := hb.cell
    have HT := hide ht
    have HR := hide hr
    have HM := hide hn
    clear ht hb hr hn
    gi_wp2
    refine ⟨by simp, .inl ⟨_, _, rfl, run_takeDeferred hK, ?_⟩⟩
    have NS := (hys.1.nodup_iff).2 NK.out
    refine ⟨.slice A' (L.length + ys.length) c', by simp [results, Try.func51, Try.results51, go_sem], _, ys, rfl, ⟨NS, hys.2⟩, ?_, ?_, ?_⟩
    · rw [← List.length_append]; exact ownsRow_putObj HR.out _ hK rfl
    · have T2 : ∀ o, Touch (fun i => (Value.slice a L.length c).ownBlock = some i ∨ w.heap.size ≤ i) w (W.putObj D o) := fun o => HT.out.trans (S' := fun i => (Value.slice a L.length c).ownBlock = some i ∨ w.heap.size ≤ i) (Touch.of_grown (grownBy_putObj' W D o) (fun g e => by cases e; right; omega)) (fun _ h => .inl h)
      exact ⟨(T2 _).os, (T2 _).tape, (T2 _).output, (T2 _).size, fun i hi hn => (T2 _).block i hi (fun h => h.elim hn (fun h => by omega))⟩
    · rw [← List.length_append]; exact HM.out
  case stop =>
    rintro D c pre W hD hys hF hK
    exact hF.elim
end Go.Proofs.Yteeofpjfgjhemaa
