/-
  The program's conditions in memory: a row of rows; has, find, Of.
-/
import Derived.Test.YtmclifmdlcofaaaIlRows
import Derived.Test.YtmclifmdlcofaaaCdBoth
namespace Go.Proofs.Ytmclifmdlcofaaa
open Go.ChangeShapes Go.WideShapes Go.ChangeAt Go.RowKit
set_option linter.unusedVariables false
set_option linter.unusedSimpArgs false
structure Cn (w : World) (U : Nat → Prop) (S : Nat) (L : Cs) (R : Nat) (vs : List Value) : Prop where
  hS : w.heap[S]? = some (.cells #[.slice (some ⟨R, 0, none⟩) L.length L.length] 57 (0, 0))
  hR : w.heap[R]? = some (.cells vs.toArray 44 (0, 0))
  len : vs.length = L.length
  row : ∀ (i : Nat) (l : List Int) (v : Value), L[i]? = some l → vs[i]? = some v → w.ownsRow 0 3 1 v l.length (l.map (Value.int .i64))
  ap : ∀ (i j : Nat) (v u : Value) (g : Nat), vs[i]? = some v → vs[j]? = some u → v.ownBlock = some g → u.ownBlock = some g → i = j
  un : ∀ g, U g ↔ g = S ∨ g = R ∨ ∃ (i : Nat) (v : Value), vs[i]? = some v ∧ v.ownBlock = some g
  sr : S ≠ R
  ns : ∀ (i : Nat) (v : Value) (g : Nat), vs[i]? = some v → v.ownBlock = some g → g ≠ S ∧ g ≠ R
  good : GoodC L
  lo : 1 ≤ L.length
  hi : L.length ≤ 4
def PCn : Rel Cs := fun w U S L => ∃ R vs, Cn w U S L R vs
section
variable {w : World} {U : Nat → Prop} {S R : Nat} {L : Cs} {vs : List Value}
theorem Cn.at_ (h : Cn w U S L R vs) {k : Nat} (hk : k < L.length) : ∃ l v, L[k]? = some l ∧ vs[k]? = some v ∧ w.ownsRow 0 3 1 v l.length (l.map (Value.int .i64)) := by
  have h1 : L[k]? = some L[k] := List.getElem?_eq_getElem hk
  have h2 : vs[k]? = some (vs[k]'(by rw [h.len]; exact hk)) := List.getElem?_eq_getElem (by rw [h.len]; exact hk)
  exact ⟨_, _, h1, h2, h.row k _ _ h1 h2⟩
theorem Cn.lt (h : Cn w U S L R vs) : ∀ i, U i → i < w.heap.size := by
  intro i hi
  rcases (h.un i).1 hi with rfl | rfl | ⟨k, v, h1, h2⟩
  · exact lt_of_heap h.hS
  · exact lt_of_heap h.hR
  · have hk : k < L.length := by rw [← h.len]; exact (List.getElem?_eq_some_iff.1 h1).1
    obtain ⟨l, v', e1, e2, e3⟩ := h.at_ hk
    rw [h1] at e2; injection e2 with e2; subst e2
    exact (e3.lt i h2).2
theorem Cn.keep (h : Cn w U S L R vs) {V : Nat → Prop} {w' : World} (t : Touch V w w') (d : ∀ i, U i → ¬ V i) : Cn w' U S L R vs := by
  have uS : U S := (h.un S).2 (.inl rfl)
  have uR : U R := (h.un R).2 (.inr (.inl rfl))
  exact ⟨(t.block S (h.lt S uS) (d S uS)).trans h.hS, (t.block R (h.lt R uR) (d R uR)).trans h.hR, h.len, fun i l v h1 h2 => t.own (h.row i l v h1 h2) (fun g hg => d g ((h.un g).2 (.inr (.inr ⟨i, v, h2, hg⟩)))), h.ap, h.un, h.sr, h.ns, h.good, h.lo, h.hi⟩
theorem Cn.below (h : Cn w U S L R vs) {w' : World} (b : Below w.heap.size w w') : Cn w' U S L R vs :=
  h.keep (Touch.of_below (S := fun _ => False) b) (fun _ _ e => e)
theorem pcn_keeps : Keeps PCn := ⟨fun ⟨R, vs, h⟩ t d => ⟨R, vs, h.keep t d⟩, fun ⟨R, vs, h⟩ => h.lt⟩
theorem Cn.cS (h : Cn w U S L R vs) : w.cell? ⟨S, 0, none⟩ = some (.slice (some ⟨R, 0, none⟩) L.length L.length) := by
  rw [cell_of_row _ _ _ _ _ _ h.hS]; rfl
theorem Cn.cR (h : Cn w U S L R vs) {k : Nat} {v : Value} (hk : vs[k]? = some v) : w.cell? ⟨R, k, none⟩ = some v ∧ w.frozen? ⟨R, k, none⟩ = false := by
  refine ⟨?_, frozen_of_row _ _ _ _ _ h.hR⟩
  rw [cell_of_row _ _ _ _ _ _ h.hR, List.getElem?_toArray, hk]
/-- A condition's row is another one now. -/
theorem Cn.put (h : Cn w U S L R vs) {k : Nat} {l' : List Int} {v u : Value} (hv : vs[k]? = some v) {w1 : World} (t : Touch (fun i => v.ownBlock = some i) w w1) (ho : w1.ownsRow 0 3 1 u l'.length (l'.map (Value.int .i64)))
    (hb : ∀ g, u.ownBlock = some g → v.ownBlock = some g ∨ w.heap.size ≤ g) (hg : GoodC (L.set k l')) : ∃ U', PCn (w1.setCell ⟨R, k, none⟩ u) U' S (L.set k l') ∧ Touch U w (w1.setCell ⟨R, k, none⟩ u) ∧ ∀ i, U' i → U i ∨ w.heap.size ≤ i := by
  have hk : k < vs.length := (List.getElem?_eq_some_iff.1 hv).1
  have uS : U S := (h.un S).2 (.inl rfl)
  have uR : U R := (h.un R).2 (.inr (.inl rfl))
  have lS := h.lt S uS
  have lR := h.lt R uR
  have uv : ∀ g, v.ownBlock = some g → U g := fun g e => (h.un g).2 (.inr (.inr ⟨k, v, hv, e⟩))
  have hub : ∀ g, u.ownBlock = some g → g ≠ S ∧ g ≠ R := fun g e => by
    rcases hb g e with e2 | e2
    · exact h.ns k v g hv e2
    · exact ⟨by omega, by omega⟩
  have T : Touch U w (w1.setCell ⟨R, k, none⟩ u) := (t.mono uv).setCell (p := ⟨R, k, none⟩) uR u
  have get : ∀ (i : Nat) (x : Value), (vs.set k u)[i]? = some x → (i = k ∧ x = u) ∨ (i ≠ k ∧ vs[i]? = some x) := fun i x e => by
    by_cases hik : k = i
    · subst hik
      rw [List.getElem?_set_self hk] at e
      injection e with e
      exact .inl ⟨rfl, e.symm⟩
    · rw [List.getElem?_set_ne hik] at e
      exact .inr ⟨fun e => hik e.symm, e⟩
  refine ⟨fun g => g = S ∨ g = R ∨ ∃ (i : Nat) (x : Value), (vs.set k u)[i]? = some x ∧ x.ownBlock = some g, ⟨R, vs.set k u, ?_⟩, T, fun g hg2 => ?_⟩
  · refine ⟨?_, ?_, by simp [h.len], fun i l x h1 h2 => ?_, fun i j x y g h1 h2 e1 e2 => ?_, fun _ => Iff.rfl, h.sr, fun i x g h1 e1 => ?_, hg, by simpa using h.lo, by simpa using h.hi⟩
    · rw [RowKit.Below.heap_setCell _ _ _ _ (show S ≠ R from h.sr), List.length_set]
      exact (t.block S lS (fun e => (h.ns k v S hv e).1 rfl)).trans h.hS
    · have e := heap_setCell_same w1 R k vs.toArray _ u ((t.block R lR (fun e => (h.ns k v R hv e).2 rfl)).trans h.hR)
      rw [e]
      simp
    · rcases get i x h2 with ⟨rfl, rfl⟩ | ⟨hne, h3⟩
      · rw [List.getElem?_set_self (by rw [← h.len]; exact hk)] at h1
        injection h1 with h1
        subst h1
        exact ((Touch.refl (fun i => i = R) w1).setCell (p := ⟨R, i, none⟩) rfl x).own ho (fun g e => (hub g e).2)
      · rw [List.getElem?_set_ne (fun e => hne e.symm)] at h1
        have t2 : Touch (fun g => v.ownBlock = some g ∨ g = R) w (w1.setCell ⟨R, k, none⟩ u) := (t.mono (fun _ e => .inl e)).setCell (p := ⟨R, k, none⟩) (.inr rfl) u
        refine t2.own (h.row i l x h1 h3) (fun g e => ?_)
        rintro (e2 | rfl)
        · exact hne (h.ap i k x v g h3 hv e e2)
        · exact (h.ns i x g h3 e).2 rfl
    · have old : ∀ (i : Nat) (x : Value), i ≠ k → vs[i]? = some x → x.ownBlock = some g → u.ownBlock = some g → False := fun i x hne h3 e e' => by
        rcases hb g e' with e3 | e3
        · exact hne (h.ap i k x v g h3 hv e e3)
        · have := h.lt g ((h.un g).2 (.inr (.inr ⟨i, x, h3, e⟩))); omega
      rcases get i x h1 with ⟨rfl, rfl⟩ | ⟨n1, h3⟩
      · rcases get j y h2 with ⟨rfl, rfl⟩ | ⟨n2, h4⟩
        · rfl
        · exact (old j y n2 h4 e2 e1).elim
      · rcases get j y h2 with ⟨rfl, rfl⟩ | ⟨n2, h4⟩
        · exact (old i x n1 h3 e1 e2).elim
        · exact h.ap i j x y g h3 h4 e1 e2
    · rcases get i x h1 with ⟨rfl, rfl⟩ | ⟨n1, h3⟩
      · exact hub g e1
      · exact h.ns i x g h3 e1
  · rcases hg2 with rfl | rfl | ⟨i, x, h1, e1⟩
    · exact .inl uS
    · exact .inl uR
    · rcases get i x h1 with ⟨rfl, rfl⟩ | ⟨n1, h3⟩
      · exact (hb g e1).imp (uv g) id
      · exact .inl ((h.un g).2 (.inr (.inr ⟨i, x, h3, e1⟩)))
set_option maxRecDepth 10000 in
set_option maxHeartbeats 4000000 in
theorem has_any (h : Cn w U S L R vs) (i : Int) :
    Calls Try.prog 26 #[.pointer (some ⟨S, 0, none⟩), .int .i64 i] w fun e w' => e = .returned (.bool (isCond L i)) ∧ Below w.heap.size w w' := by
  have c0 := h.cS
  obtain ⟨n, hn⟩ : ∃ n, n = L.length := ⟨_, rfl⟩
  rw [← hn] at c0
  have HB := hide (show isCond L i = decide (0 ≤ i ∧ i < (n : Int)) from by unfold isCond; rw [hn])
  rw [HB.out]
  clear h hn
  by_cases h0 : 0 ≤ i
  · by_cases h1 : i < (n : Int)
    · rw [decide_eq_true ⟨h0, h1⟩]
      clear HB
      go_enter Try.func26, Try.ntmps26
      go_wp2_with fail
      go_ret
      exact ⟨rfl, Below.refl _ _⟩
    · rw [decide_eq_false (fun e => h1 e.2)]
      clear HB
      go_enter Try.func26, Try.ntmps26
      go_wp2_with fail
      go_ret
      exact ⟨rfl, Below.refl _ _⟩
  · rw [decide_eq_false (fun e => h0 e.1)]
    clear HB
    go_enter Try.func26, Try.ntmps26
    go_wp2_with fail
    go_ret
    exact ⟨rfl, Below.refl _ _⟩
/-- At which place a thread waits among those who do. -/
def plcC (L : Cs) (t : Int) : Int := if 0 ≤ ofC L t then (((lstC L (ofC L t)).countP fun x => decide (x < t) : Nat) : Int) else 0
set_option maxRecDepth 10000 in
set_option maxHeartbeats 4000000 in
theorem find_any (h : Cn w U S L R vs) (hf : FewC L) (t : Int) :
    Calls Try.prog 30 #[.pointer (some ⟨S, 0, none⟩), .int .i64 t] w fun e w' => e = .returned (.tuple #[.int .i64 (ofC L t), .int .i64 (plcC L t)]) ∧ Below w.heap.size w w' := by
  have c0 := h.cS
  obtain ⟨n, hn⟩ : ∃ n, n = L.length := ⟨_, rfl⟩
  rw [← hn] at c0
  have HN := hide hn
  have n4 : n ≤ 4 := by rw [hn]; exact h.hi
  have HH := hide h
  have HF := hide hf
  clear h hn hf
  go_enter Try.func30, Try.ntmps30
  go_wp2_with fail
  go_loopw [17] (fun jv wr => ∃ j : Nat, j ≤ n ∧ jv = .int .i64 (j : Int) ∧ Hid (Below w.heap.size w wr ∧ ∀ (i : Nat) (m : List Int), i < j → L[i]? = some m → t ∉ m)) (fun jv _ => n - (intOf jv).toNat)
  case atStart => exact ⟨0, Nat.zero_le _, rfl, Below.refl _ _, fun i m hi => absurd hi (by omega)⟩
  case round =>
    obtain ⟨j, hj, rfl, hZ⟩ := hrel
    have B1 := hide hZ.out.1
    have NO := hide hZ.out.2
    clear hZ
    by_cases hlt : j < n
    · have j0 : (0 : Int) ≤ (j : Int) := by omega
      have j1 : (j : Int) < (n : Int) := by omega
      obtain ⟨l, v, e1, e2, e3⟩ := (HH.out.below B1.out).at_ (k := j) (by rw [← HN.out]; exact hlt)
      have cR := ((HH.out.below B1.out).cR e2).1
      have SE := hide (search_any e3 (HH.out.good.rise l (List.mem_of_getElem? e1)) (by have := HF.out l (List.mem_of_getElem? e1); omega) t)
      have E1 := hide e1
      clear e1 e2 e3
      by_cases ht : t ∈ l
      · have OF := hide (show ofC L t = (j : Int) from ofC_some E1.out ht NO.out)
        have PL := hide (show plcC L t = ((l.countP fun x => decide (x < t) : Nat) : Int) from by unfold plcC; rw [OF.out, if_pos (by omega), lstC_get E1.out])
        rw [decide_eq_true ht] at SE
        generalize ((l.countP fun x => decide (x < t) : Nat) : Int) = pl at *
        clear ht
        go_wp2_with (go_at_call 27; refine SE.out.mono ?_; rintro e w2 ⟨rfl, b2⟩; have B2 := hide (B1.out.trans (b2.mono B1.out.size)); clear b2)
        go_ret2
        exact ⟨by rw [OF.out, PL.out]; rfl, B2.out⟩
      · rw [decide_eq_false ht] at SE
        generalize ((l.countP fun x => decide (x < t) : Nat) : Int) = pl at *
        have NT := hide ht
        clear ht
        go_wp2_with (go_at_call 27; refine SE.out.mono ?_; rintro e w2 ⟨rfl, b2⟩; have B2 := hide (B1.out.trans (b2.mono B1.out.size)); clear b2)
        go_roundw
        case rel =>
          refine ⟨j + 1, by omega, by go_num, B2.out, fun i m hi hm => ?_⟩
          by_cases hij : i < j
          · exact NO.out i m hij hm
          · obtain rfl : i = j := by omega
            rw [E1.out] at hm; injection hm with hm; subst hm; exact NT.out
        case measure => simp [intOf]; omega
    · obtain rfl : j = n := by omega
      have OF := hide (show ofC L t = -1 from ofC_none fun l hl => by
        obtain ⟨k, hk⟩ := List.mem_iff_getElem?.1 hl
        exact NO.out k l (by rw [HN.out]; exact (List.getElem?_eq_some_iff.1 hk).1) hk)
      have PL := hide (show plcC L t = 0 from by unfold plcC; rw [OF.out]; rfl)
      go_wp2_with fail
      go_ret2
      exact ⟨by rw [OF.out, PL.out]; rfl, B1.out⟩
set_option maxRecDepth 10000 in
set_option maxHeartbeats 4000000 in
theorem of_any (h : Cn w U S L R vs) (hf : FewC L) (t : Int) :
    Calls Try.prog 21 #[.pointer (some ⟨S, 0, none⟩), .int .i64 t] w fun e w' => e = .returned (.int .i64 (ofC L t)) ∧ Below w.heap.size w w' := by
  have FD := hide (find_any h hf t)
  generalize ofC L t = o at *
  generalize plcC L t = p at *
  clear h hf
  go_enter Try.func21, Try.ntmps21
  go_wp2_with (go_at_call 30; refine FD.out.mono ?_; rintro e w2 ⟨rfl, b2⟩; have B2 := hide b2; clear b2)
  go_ret
  exact ⟨rfl, B2.out⟩
set_option maxRecDepth 10000 in
set_option maxHeartbeats 4000000 in
theorem list_any (h : Cn w U S L R vs) (hf : FewC L) (i : Int) :
    Calls Try.prog 20 #[.pointer (some ⟨S, 0, none⟩), .int .i64 i] w fun e w' => ∃ v, e = .returned v ∧ w'.ownsRow w.heap.size 3 1 v (lstC L i).length ((lstC L i).map (Value.int .i64)) ∧ Below w.heap.size w w' := by
  have HS := hide (has_any h i)
  cases hc : isCond L i with
  | false =>
    rw [hc] at HS
    have E := hide (lstC_out hc)
    rw [E.out]
    clear h hc
    go_enter Try.func20, Try.ntmps20
    go_wp2_with (go_at_call 26; refine HS.out.mono ?_; rintro e w2 ⟨rfl, b2⟩; have B2 := hide b2; clear b2)
    go_ret
    exact ⟨_, rfl, World.ownsRow_nil _ _ _ _, B2.out⟩
  | true =>
    rw [hc] at HS
    obtain ⟨k, rfl, hk⟩ := isCond_iff.1 hc
    obtain ⟨l, v, e1, e2, e3⟩ := h.at_ hk
    have E := hide (lstC_get e1)
    rw [E.out]
    have n4 := h.hi
    have HH := hide h
    have FL := hide (show l.length ≤ 1000000 from by have := hf l (List.mem_of_getElem? e1); omega)
    obtain ⟨n, hn⟩ : ∃ n, n = L.length := ⟨_, rfl⟩
    have HN := hide hn
    have k0 : (0 : Int) ≤ (k : Int) := by omega
    have k1 : (k : Int) < (n : Int) := by omega
    have CR := hide (show ∀ Y, Below w.heap.size w Y → Y.cell? ⟨S, 0, none⟩ = some (.slice (some ⟨R, 0, none⟩) n n) ∧ Y.cell? ⟨R, k, none⟩ = some v ∧ Y.ownsRow 0 3 1 v l.length (l.map (Value.int .i64)) from fun Y b => by
      have hY := HH.out.below b
      exact ⟨by rw [HN.out]; exact hY.cS, (hY.cR e2).1, hY.row k l v e1 e2⟩)
    clear h hc hf e1 e2 e3 hk hn n4
    go_enter Try.func20, Try.ntmps20
    go_upto_region 3 with (go_at_call 26; refine HS.out.mono ?_; rintro e w2 ⟨rfl, b2⟩; have B2 := hide b2; clear b2)
    obtain ⟨c0, c1, O1⟩ := CR.out _ B2.out
    have O1 := hide O1
    go_wp2_with (go_at_call 32; refine (clone_any O1.out FL.out).mono ?_; rintro e w3 ⟨u, rfl, h3⟩; have H3 := hide h3; clear h3)
    go_ret
    exact ⟨_, rfl, own_base H3.out.1 B2.out.size, B2.out.trans (H3.out.2.mono B2.out.size)⟩
end
end Go.Proofs.Ytmclifmdlcofaaa
