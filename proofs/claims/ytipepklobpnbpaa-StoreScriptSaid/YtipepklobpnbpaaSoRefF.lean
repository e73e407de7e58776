/-
  The document's own store: one file of it another one now; Cut.
  The document's own store: Cut of whatever number, Drop (written by tools/gen/sodrop.py).
-/
import Derived.Test.YtipepklobpnbpaaSoRefD
import Derived.Test.YtipepklobpnbpaaGStep
namespace Go.Proofs.Ytipepklobpnbpaa
open Go.ChangeShapes Go.WideShapes Go.ChangeAt Go.RowKit
set_option linter.unusedVariables false
set_option linter.unusedSimpArgs false
section
variable {w : World} {D : Nat → Prop} {G R : Nat} {s : So} {p q : List Rfl} {x : Rfl} {vL : Value} {t b : Nat} {st : St} {fresh : Nat} {back : List Nat} {K : Nat → Prop}
theorem fss_mid (p q : List Rfl) (x : Rfl) : fss (p ++ x :: q) = fss p ++ (x.F ++ fss q) := by unfold fss; simp
/-- File x is x' now; its frames, and which are taken, too. -/
theorem DsoM.turn {w' : World} {x' : Rfl} {st' : St} {fresh' : Nat} {back' : List Nat} {K' : Nat → Prop} (h : DsoM w D G R (p ++ x :: q) vL t b st fresh back K)
    (u : Touch (fun i => K i ∨ vL.ownBlock = some i) w w') (rf : RfG w' K' R t b st' fresh' back') (hK : ∀ i, K' i → K i ∨ w.heap.size ≤ i)
    (row : w'.ownsRow 0 81 3 vL (p ++ x' :: q).length ((p ++ x' :: q).flatMap rflV)) (ok : RflOk w' x') (im : ∀ i, x'.im i → x.im i ∨ (w.heap.size ≤ i ∧ ¬ K' i))
    (nod : (fss (p ++ x' :: q)).Nodup) (tkn : ∀ f ∈ fss (p ++ x' :: q), f < st'.n ∧ st'.tk f = true) :
    ∃ D', DsoM w' D' G R (p ++ x' :: q) vL t b st' fresh' back' K' ∧ Touch D w w' ∧ ∀ i, D' i → D i ∨ w.heap.size ≤ i := by
  have hG : G < w.heap.size := lt_of_heap h.hd
  have hx : x ∈ p ++ x :: q := List.mem_append_right _ (List.mem_cons_self ..)
  have old : ∀ y, y ∈ p ++ x' :: q → y = x' ∨ y ∈ p ++ x :: q := by
    intro y hy
    rcases List.mem_append.1 hy with hy | hy
    · exact .inr (List.mem_append_left _ hy)
    · rcases List.mem_cons.1 hy with hy | hy
      · exact .inl hy
      · exact .inr (List.mem_append_right _ (List.mem_cons_of_mem _ hy))
  have sep0 : ∀ y ∈ p ++ x :: q, ∀ i, y.im i → i ≠ G ∧ vL.ownBlock ≠ some i ∧ ¬ K' i := by
    intro y hy i hi
    have hs := h.sep y hy i hi
    exact ⟨hs.1, hs.2.1, fun e => by rcases hK i e with e | e; exact hs.2.2 e; have := (h.ok y hy).lt i hi; omega⟩
  have dD : ∀ i, (K i ∨ vL.ownBlock = some i) → D i := fun i e => (h.un i).2 (e.elim (fun e => .inr (.inr (.inl e))) (fun e => .inr (.inl e)))
  have vlt : ∀ i, vL.ownBlock = some i → i < w.heap.size := fun i e => (h.row.lt i e).2
  refine ⟨fun i => i = G ∨ vL.ownBlock = some i ∨ K' i ∨ ∃ y ∈ p ++ x' :: q, y.im i, ⟨?_, row, fun y hy => ?_, rf, nod, tkn, fun y hy i hi => ?_, ⟨h.sG.1, fun e => ?_⟩, fun i e hk => ?_, fun i => Iff.rfl⟩, u.mono dD, fun i hi => ?_⟩
  · exact (u.block G hG (fun e => e.elim h.sG.2 h.sG.1)).trans h.hd
  · rcases old y hy with rfl | e
    · exact ok
    · exact (h.ok y e).touch u (fun i hi e2 => by have hs := h.sep y e i hi; exact e2.elim hs.2.2 hs.2.1)
  · rcases old y hy with rfl | e
    · rcases im i hi with e | ⟨e, e2⟩
      · exact sep0 x hx i e
      · exact ⟨by omega, fun e3 => by have := vlt i e3; omega, e2⟩
    · exact sep0 y e i hi
  · rcases hK G e with e | e
    · exact h.sG.2 e
    · omega
  · rcases hK i hk with e2 | e2
    · exact h.sL i e e2
    · have := vlt i e; omega
  · rcases hi with e | e | e | ⟨y, hy, e⟩
    · exact .inl ((h.un i).2 (.inl e))
    · exact .inl (dD i (.inr e))
    · exact (hK i e).imp (fun e => dD i (.inl e)) id
    · rcases old y hy with rfl | e2
      · rcases im i e with e | ⟨e, _⟩
        · exact .inl ((h.un i).2 (.inr (.inr (.inr ⟨x, hx, e⟩))))
        · exact .inr e
      · exact .inl ((h.un i).2 (.inr (.inr (.inr ⟨y, e2, e⟩))))
theorem flat_mid (p q : List Rfl) (x : Rfl) : (p ++ x :: q).flatMap rflV = p.flatMap rflV ++ (.int .i64 x.id :: x.bv :: x.fv :: q.flatMap rflV) := by simp [rflV]
theorem flat_set1 (p q : List Rfl) (x x' : Rfl) {v : Value} (hv : x'.bv = v) (hi : x'.id = x.id) (hf : x'.fv = x.fv) : ((p ++ x :: q).flatMap rflV).set (p.length * 3 + 1) v = (p ++ x' :: q).flatMap rflV := by
  subst hv
  have hl : (p.flatMap rflV).length = p.length * 3 := flat_length rflV_len p
  rw [flat_mid, flat_mid, List.set_append_right _ _ (by omega), hl, show p.length * 3 + 1 - p.length * 3 = 1 by omega, hi, hf]
  rfl
theorem flat_set2 (p q : List Rfl) (x x' : Rfl) {v : Value} (hv : x'.fv = v) (hi : x'.id = x.id) (hb : x'.bv = x.bv) : ((p ++ x :: q).flatMap rflV).set (p.length * 3 + 2) v = (p ++ x' :: q).flatMap rflV := by
  subst hv
  have hl : (p.flatMap rflV).length = p.length * 3 := flat_length rflV_len p
  rw [flat_mid, flat_mid, List.set_append_right _ _ (by omega), hl, show p.length * 3 + 2 - p.length * 3 = 2 by omega, hi, hb]
  rfl
theorem get_split {p q : List Rfl} {x : Rfl} {id : Int} (hx : x.id = id) (hp : ∀ y ∈ p, y.id ≠ id) : getFi (p.map Rfl.fi ++ (x :: q).map Rfl.fi) id = some x.b := by
  induction p with
  | nil =>
    show (if x.id = id then _ else _) = _
    rw [if_pos hx]; rfl
  | cons y p ih =>
    show (if y.id = id then _ else _) = _
    rw [if_neg (hp y (List.mem_cons_self ..))]
    exact ih (fun z hz => hp z (List.mem_cons_of_mem _ hz))
/-- What stays where frames turn alone. -/
theorem DsoM.held (h : DsoM w D G R (p ++ x :: q) vL t b st fresh back K) : ∃ g c, vL = .slice (some ⟨g, 0, none⟩) (p ++ x :: q).length c ∧ ∀ W, Touch K w W → W.cell? ⟨G, 0, none⟩ = some (.pointer (some ⟨R, 0, none⟩)) ∧ W.cell? ⟨G, 1, none⟩ = some vL ∧ W.cell? ⟨g, p.length * 3 + 1, none⟩ = some x.bv ∧ W.cell? ⟨g, p.length * 3 + 2, none⟩ = some x.fv ∧ W.frozen? ⟨g, p.length * 3 + 1, none⟩ = false ∧ W.frozen? ⟨g, p.length * 3 + 2, none⟩ = false ∧
    W.ownsRow 0 81 3 vL (p ++ x :: q).length ((p ++ x :: q).flatMap rflV) ∧ RflOk W x := by
  have hx : (p ++ x :: q)[p.length]? = some x := by rw [List.getElem?_append_right (Nat.le_refl _), Nat.sub_self]; rfl
  have hm : x ∈ p ++ x :: q := List.mem_append_right _ (List.mem_cons_self ..)
  obtain ⟨g, c, rfl, d0, d1, d2, _⟩ := h.at_ hx
  refine ⟨g, c, rfl, fun W u => ?_⟩
  have rw_ := u.own h.row (fun i e hk => h.sL i e hk)
  have fz := fun j => rw_.frozenAt j
  exact ⟨u.cell h.c0 h.sG.2, u.cell h.c1 h.sG.2, u.cell d1 (fun e => h.sL g rfl e), u.cell d2 (fun e => h.sL g rfl e), fz _, fz _, rw_, (h.ok x hm).touch u (fun i hi => (h.sep x hm i hi).2.2)⟩
/-- Frames under way back: k of F are given. -/
structure Gvn (w W : World) (K : Nat → Prop) (R t b : Nat) (st : St) (fresh : Nat) (F : List Nat) (k : Nat) (K' : Nat → Prop) (st' : St) (back' : List Nat) : Prop where
  rf : RfG W K' R t b st' fresh back'
  tch : Touch K w W
  sub : ∀ i, K' i → K i ∨ w.heap.size ≤ i
  n : st'.n = st.n
  len : st'.fr.length = st.fr.length + k
  tk : ∀ f, f ∉ F.take k → st'.tk f = st.tk f
theorem Gvn.next {w W W' : World} {K K' K2 : Nat → Prop} {R t b : Nat} {st st' : St} {fresh : Nat} {F : List Nat} {k f : Nat} {back' : List Nat} (h : Gvn w W K R t b st fresh F k K' st' back') (hf : F[k]? = some f)
    (r : RfG W' K2 R t b (st'.give f) fresh (back' ++ [f])) (u : Touch K' W W') (hs : ∀ i, K2 i → K' i ∨ W.heap.size ≤ i) : Gvn w W' K R t b st fresh F (k + 1) K2 (st'.give f) (back' ++ [f]) := by
  refine ⟨r, h.tch.trans u h.sub, fun i hi => ?_, h.n, ?_, fun g hg => ?_⟩
  · rcases hs i hi with e | e
    · exact h.sub i e
    · exact .inr (Nat.le_trans h.tch.size e)
  · show (st'.fr ++ [f]).length = _
    rw [List.length_append, h.len]; rfl
  · have hlt := (List.getElem?_eq_some_iff.1 hf).1
    rw [List.take_succ_eq_append_getElem hlt, List.mem_append] at hg
    have hv : F[k] = f := (List.getElem?_eq_some_iff.1 hf).2
    rw [hv] at hg
    have h1 : g ∉ F.take k := fun e => hg (.inl e)
    have h2 : g ≠ f := fun e => hg (.inr (by simp [e]))
    show upd st'.tk f false g = _
    rw [upd_other _ _ h2]
    exact h.tk g h1
theorem take_not {l : List Nat} (h : l.Nodup) {k f : Nat} (hk : l[k]? = some f) : f ∉ l.take k := by
  intro e
  obtain ⟨j, hj, e2⟩ := List.getElem_of_mem e
  have hlt := (List.getElem?_eq_some_iff.1 hk).1
  rw [List.length_take] at hj
  have h3 : l[j]'(by omega) = l[k] := by
    rw [(List.getElem?_eq_some_iff.1 hk).2, ← e2, List.getElem_take]
  exact List.pairwise_iff_getElem.1 h j k (by omega) hlt (by omega) h3
/-- What Cut leaves. -/
def CutTo (R : Nat) (w : World) (D : Nat → Prop) (G : Nat) (s : So) (id : Int) (p q : List Rfl) (w' : World) : Prop :=
  ∃ D' x' vL t b st fresh back K, x'.id = id ∧ x'.b = [] ∧ DsoAt w' D' G R (ctS s id) (p ++ x' :: q) vL t b st fresh back K ∧ Touch D w w' ∧ ∀ i, D' i → D i ∨ w.heap.size ≤ i
set_option maxRecDepth 10000 in
set_option maxHeartbeats 8000000 in
theorem rct_some {id : Int} (h : DsoAt w D G R s (p ++ x :: q) vL t b st fresh back K) (ex : x.id = id) (ep : ∀ y ∈ p, y.id ≠ id) :
    Calls Try.prog 29 #[.pointer (some ⟨G, 0, none⟩), .int .i64 id] w fun e w' => e = .returned (.int .i64 0) ∧ CutTo R w D G s id p q w' := by
  have AT := hide (rat_some h ex ep)
  obtain ⟨g, c, rfl, held⟩ := h.m.held
  have HD := hide held
  have HH := hide h
  have EX := hide ex
  have EP := hide ep
  have N5 := hide (show (p ++ x :: q).length ≤ 100000 from by have := h.p.few; rw [h.p.l, List.length_map] at this; exact this)
  have ML := hide (show p.length < (p ++ x :: q).length from by rw [List.length_append, List.length_cons]; omega)
  have hm : x ∈ p ++ x :: q := List.mem_append_right _ (List.mem_cons_self ..)
  have FL := hide (show x.F.length ≤ 8 from by rw [h.p.blk x hm]; exact blkN_le8 _ (h.p.good.le x.fi (by rw [h.p.l]; exact List.mem_map_of_mem hm)))
  have FN := hide (show x.F.Nodup from by have := h.m.nod; rw [fss_mid, List.nodup_append] at this; exact (List.nodup_append.1 this.2.1).1)
  have FT := hide (show ∀ f ∈ x.F, f < st.n ∧ st.tk f = true from fun f hf => h.m.tkn f (by rw [fss_mid]; exact List.mem_append_right _ (List.mem_append_left _ hf)))
  obtain ⟨n, hn⟩ : ∃ n, n = (p ++ x :: q).length := ⟨_, rfl⟩
  obtain ⟨m, hm2⟩ : ∃ m, m = p.length := ⟨_, rfl⟩
  obtain ⟨L, hL⟩ : ∃ L, L = x.F.length := ⟨_, rfl⟩
  rw [← hn] at N5 ML
  rw [← hm2] at ML AT
  rw [← hL] at FL
  have G0 := hide (show Gvn w w K R t b st fresh x.F 0 K st back from ⟨h.m.rf, Touch.refl _ _, fun i e => .inl e, rfl, rfl, fun _ _ => rfl⟩)
  have CC := hide (show ∀ W, Touch K w W → W.cell? ⟨G, 0, none⟩ = some (.pointer (some ⟨R, 0, none⟩)) ∧ W.cell? ⟨G, 1, none⟩ = some (.slice (some ⟨g, 0, none⟩) n c) ∧ W.cell? ⟨g, m * 3 + 1, none⟩ = some x.bv ∧ W.cell? ⟨g, m * 3 + 2, none⟩ = some (.slice x.fa L x.fc) ∧ W.frozen? ⟨g, m * 3 + 1, none⟩ = false ∧ W.frozen? ⟨g, m * 3 + 2, none⟩ = false ∧ Ints .i64 W x.fa L (nums x.F) from fun W u => by
    obtain ⟨a1, a2, a3, a4, a5, a6, _, a8⟩ := HD.out W u
    rw [← hn] at a2
    rw [← hm2] at a3 a4 a5 a6
    rw [show x.fv = .slice x.fa L x.fc from by rw [hL]; rfl] at a4
    obtain ⟨A, C, e, i, _⟩ := own_ints a8.fs
    have e' : Value.slice x.fa x.F.length x.fc = Value.slice A x.F.length C := e
    injection e' with e1 _ e2
    subst e1 e2
    exact ⟨a1, a2, a3, a4, a5, a6, by rw [hL]; exact i⟩)
  have HN := hide hn
  have HM := hide hm2
  have HL := hide hL
  have m0 : (0 : Int) ≤ (m : Int) := by omega
  have m1 : (m : Int) < (n : Int) := by have := ML.out; omega
  have n5 : (n : Int) ≤ 100000 := by have := N5.out; omega
  have l8 : (L : Int) ≤ 8 := by have := FL.out; omega
  have XB := hide (show ∃ xb, xb = x.bv from ⟨_, rfl⟩)
  clear h ex ep hn hm2 hL held hm
  generalize x.fa = fa at *
  generalize x.fc = fc at *
  go_enter Try.func29, Try.ntmps29
  go_wp2_with (go_at_call 36; refine AT.out.mono ?_; rintro e w' ⟨rfl, rfl⟩)
  go_loopw [6] (fun v wr => ∃ (k : Nat) (K' : Nat → Prop) (st' : St) (back' : List Nat), k ≤ L ∧ v = .int .i64 (k : Int) ∧ Hid (Gvn w wr K R t b st fresh x.F k K' st' back')) (fun v _ => L - (intOf v).toNat)
  case atStart => exact ⟨0, _, _, _, Nat.zero_le _, rfl, G0⟩
  case round =>
    clear G0
    obtain ⟨k, K', st', back', hk, rfl, hG⟩ := hrel
    obtain ⟨a1, a2, a3, a4, a5, a6, a7⟩ := CC.out wr hG.out.tch
    have k0 : (0 : Int) ≤ (k : Int) := by omega
    by_cases hkl : k < L
    · have k1 : (k : Int) < (L : Int) := by omega
      obtain ⟨gf, go, rfl, hc⟩ := a7.2 (by omega)
      have hfk : x.F[k]? = some (x.F[k]'(by have := HL.out; omega)) := List.getElem?_eq_getElem _
      have c7 := hc k hkl
      rw [show (nums x.F).getD k 0 = ((x.F[k]'(by have := HL.out; omega) : Nat) : Int) from by simp [nums, List.getD, hfk]] at c7
      generalize (x.F[k]'(by have := HL.out; omega)) = f at *
      have ff := FT.out f (List.mem_of_getElem? hfk)
      have tk' : st'.tk f = true := by rw [hG.out.tk f (take_not FN.out hfk)]; exact ff.2
      have GV := hide (rgive_own (hG.out.rf.below (Below.refl wr.heap.size wr).drew) f (by rw [hG.out.n]; exact ff.1) tk')
      have HF := hide hfk
      clear hc a3 a5 a6 a7 ff tk' hfk
      go_wp2_with fail
      go_region_held3 (fun w' => w'.cell? ⟨G, 0, none⟩ = some (.pointer (some ⟨R, 0, none⟩)) ∧ w'.cell? ⟨G, 1, none⟩ = some (.slice (some ⟨g, 0, none⟩) n c) ∧ w'.cell? ⟨g, m * 3 + 2, none⟩ = some (.slice (some ⟨gf, go, none⟩) L fc) ∧ w'.cell? ⟨gf, go + k, none⟩ = some (.int .i64 (f : Int))) (first | exact ⟨a1, a2, a4, c7⟩ | exact qq) (first
        | (go_at_call 46; refine GV.out.mono ?_; rintro e w2 ⟨rfl, K2, r2, u2, s2⟩; have G2 := hide (hG.out.next HF.out r2 (((Touch.refl K' wr).drewN 1).trans u2 (fun i e => .inl e)) s2); have qq := (show w2.cell? ⟨G, 0, none⟩ = some (.pointer (some ⟨R, 0, none⟩)) ∧ w2.cell? ⟨G, 1, none⟩ = some (.slice (some ⟨g, 0, none⟩) n c) ∧ w2.cell? ⟨g, m * 3 + 2, none⟩ = some (.slice (some ⟨gf, go, none⟩) L fc) ∧ w2.cell? ⟨gf, go + k, none⟩ = some (.int .i64 (f : Int)) from (by
            obtain ⟨b1, b2, _, b4, _, _, b7⟩ := CC.out w2 G2.out.tch
            obtain ⟨gf', go', e', hc'⟩ := b7.2 (by omega)
            injection e' with e'
            injection e' with e1 e2 _
            subst e1 e2
            refine ⟨b1, b2, b4, ?_⟩
            have := hc' k hkl
            rw [this]
            simp [nums, List.getD, HF.out])); clear r2 u2 s2))
      go_wp2_with fail
      go_roundw
      case rel => exact ⟨k + 1, _, _, _, by omega, by go_num, G2.out⟩
      case measure => simp [intOf]; omega
    · obtain rfl : k = L := by omega
      have hgG := hide (show g ≠ G from fun e => HH.out.m.sG.1 (by rw [e]; rfl))
      have k1 : ¬ (k : Int) < (k : Int) := by omega
      have lg := hide (lt_of_cell? a4)
      clear hkl hk a7
      go_upto_region 8 with fail
      go_region
      go_wp2_with fail
      go_ret
      have ex := EX.out
      have rw0 := (HD.out wr hG.out.tch).2.2.2.2.2.2.1
      have rw1 := (rw0.stored (p.length * 3 + 1) (.slice none 0 0)).1
      rw [flat_set1 p q x ⟨x.id, [], none, 0, x.F, x.fa, x.fc⟩ (v := .slice none 0 0) rfl rfl rfl] at rw1
      have rw2 := (rw1.stored (p.length * 3 + 2) (.slice none 0 0)).1
      rw [flat_set2 p q ⟨x.id, [], none, 0, x.F, x.fa, x.fc⟩ ⟨x.id, [], none, 0, [], none, 0⟩ (v := .slice none 0 0) rfl rfl rfl] at rw2
      have uT : Touch (fun i => i = g) wr ((wr.setCell ⟨g, m * 3 + 1, none⟩ (.slice none 0 0)).setCell ⟨g, m * 3 + 2, none⟩ (.slice none 0 0)).drew :=
        (((Touch.refl (fun i => i = g) wr).setCell (p := ⟨g, m * 3 + 1, none⟩) rfl _).setCell (p := ⟨g, m * 3 + 2, none⟩) rfl _).drewN 1
      have own_g : (Value.slice (some ⟨g, 0, none⟩) (p ++ x :: q).length c).ownBlock = some g := rfl
      rw [← HM.out] at rw2
      generalize ((wr.setCell ⟨g, m * 3 + 1, none⟩ (.slice none 0 0)).setCell ⟨g, m * 3 + 2, none⟩ (.slice none 0 0)) = W at *
      have hsub : ∀ f, f ∈ fss (p ++ (⟨x.id, [], none, 0, [], none, 0⟩ : Rfl) :: q) → f ∈ fss (p ++ x :: q) ∧ f ∉ x.F := by
        intro f hf
        rw [fss_mid] at hf
        have nd := HH.out.m.nod
        rw [fss_mid, List.nodup_append] at nd
        rcases List.mem_append.1 hf with hf | hf
        · exact ⟨by rw [fss_mid]; exact List.mem_append_left _ hf, fun e => nd.2.2 f hf f (List.mem_append_left _ e) rfl⟩
        · have hf : f ∈ fss q := by simpa using hf
          exact ⟨by rw [fss_mid]; exact List.mem_append_right _ (List.mem_append_right _ hf), fun e => (List.nodup_append.1 nd.2.1).2.2 f e f hf rfl⟩
      obtain ⟨D', hM, u', sD⟩ := HH.out.m.turn (x' := ⟨x.id, [], none, 0, [], none, 0⟩) (w' := W.drew)
        ((hG.out.tch.mono (fun i e => .inl e)).trans uT (fun i e => .inl (.inr (by rw [e]; exact own_g)))) (hG.out.rf.keep uT (fun i hi e => by
          rcases hG.out.sub i hi with e2 | e2
          · exact HH.out.m.sL g own_g (e ▸ e2)
          · have := (HH.out.m.row.lt g own_g).2; omega)) hG.out.sub (by rw [show (p ++ (⟨x.id, [], none, 0, [], none, 0⟩ : Rfl) :: q).length = (p ++ x :: q).length from by simp]; exact rw2.drew)
        ⟨World.ownsRow_nil _ _ _ _, World.ownsRow_nil _ _ _ _⟩ (fun i hi => by rcases hi with hi | hi <;> cases hi)
        (by
          have nd := HH.out.m.nod
          rw [fss_mid] at nd ⊢
          exact nd.sublist (List.Sublist.append (List.Sublist.refl _) (List.sublist_append_right _ _)))
        (fun f hf => by
          obtain ⟨h1, h2⟩ := hsub f hf
          rw [hG.out.n, hG.out.tk f (fun e => h2 (List.mem_of_mem_take e))]
          exact HH.out.m.tkn f h1)
      refine ⟨rfl, D', ⟨x.id, [], none, 0, [], none, 0⟩, _, t, b, st', fresh, back', K', ex, rfl, ⟨hM, ⟨?_, ?_, HH.out.p.good.ct id, ?_, fun y hy => ?_⟩⟩, u', sD⟩
      · show putFi s.l id [] = _
        rw [HH.out.p.l, put_split ex EP.out, ← ex, List.map_append]; rfl
      · show s.fr + blkO (getFi s.l id) = _
        have hg : getFi s.l id = some x.b := by
          rw [HH.out.p.l, List.map_append]
          exact get_split ex EP.out
        rw [hg, hG.out.len, HH.out.p.fr, HL.out, HH.out.p.blk x (List.mem_append_right _ (List.mem_cons_self ..))]
        rfl
      · rw [ctS_len]; exact HH.out.p.few
      · rcases List.mem_append.1 hy with hy | hy
        · exact HH.out.p.blk y (List.mem_append_left _ hy)
        · rcases List.mem_cons.1 hy with rfl | hy
          · show 0 = blkN 0; decide
          · exact HH.out.p.blk y (List.mem_append_right _ (List.mem_cons_of_mem _ hy))
end
end Go.Proofs.Ytipepklobpnbpaa
namespace Go.Proofs.Ytipepklobpnbpaa
open Go.ChangeShapes Go.WideShapes Go.ChangeAt Go.RowKit
set_option linter.unusedVariables false
set_option linter.unusedSimpArgs false
section
variable {w : World} {D : Nat → Prop} {G R : Nat} {s : So} {p q : List Rfl} {x : Rfl} {vL : Value} {t b : Nat} {st : St} {fresh : Nat} {back : List Nat} {K : Nat → Prop}
theorem Dso.split (h : Dso R w D G s) {id : Int} {o : List Int} (e : getFi s.l id = some o) : ∃ p x q vL t b st fresh back K, x.id = id ∧ x.b = o ∧ (∀ y ∈ p, y.id ≠ id) ∧ DsoAt w D G R s (p ++ x :: q) vL t b st fresh back K := by
  obtain ⟨xs, vL, t, b, st, fresh, back, K, h⟩ := h
  have e1 := e
  rw [h.p.l] at e1
  obtain ⟨p, x, q, rfl, h2, h3, h4⟩ := fi_split e1
  exact ⟨p, x, q, vL, t, b, st, fresh, back, K, h2, h3, h4, h⟩
theorem rct_gone (h : Dso R w D G s) {id : Int} (e : getFi s.l id = none) :
    Calls Try.prog 29 #[.pointer (some ⟨G, 0, none⟩), .int .i64 id] w fun e w' => e = .returned (.int .i64 4) ∧ w = w' := by
  have AT := hide (h.gone e)
  clear h e
  go_enter Try.func29, Try.ntmps29
  go_wp2_with (go_at_call 36; refine AT.out.mono ?_; rintro e w' ⟨rfl, rfl⟩)
  go_ret
  exact ⟨rfl, rfl⟩
theorem ctS_none {s : So} {id : Int} (e : getFi s.l id = none) : ctS s id = s := by
  unfold ctS
  rw [put_none e, e]
  rfl
theorem drS_none {s : So} {id : Int} (e : getFi s.l id = none) : drS s id = s := by
  unfold drS
  rw [del_none e, e]
  rfl
theorem rct_any (h : Dso R w D G s) (id : Int) :
    Calls Try.prog 29 #[.pointer (some ⟨G, 0, none⟩), .int .i64 id] w (SideO (fun w' D' => Dso R w' D' G (ctS s id)) D w (.int .i64 (thE s id : Nat))) := by
  cases e : getFi s.l id with
  | none =>
    rw [ctS_none e, show thE s id = 4 from by unfold thE; rw [e]; rfl]
    refine (rct_gone h e).mono ?_
    rintro en w' ⟨rfl, rfl⟩
    exact SideO.of_below (P := fun w' D' => Dso R w' D' G s) h (Below.refl _ _)
  | some o =>
    rw [show thE s id = 0 from by unfold thE; rw [e]; rfl]
    obtain ⟨p, x, q, vL, t, b, st, fresh, back, K, h2, h3, h4, h⟩ := h.split e
    refine (rct_some h h2 h4).mono ?_
    rintro en w' ⟨rfl, D', x', vL', t', b', st', fresh', back', K', e1, e2, hD, u, sD⟩
    exact ⟨rfl, D', ⟨_, _, _, _, _, _, _, _, hD⟩, u, sD⟩
set_option maxRecDepth 10000 in
set_option maxHeartbeats 8000000 in
theorem rdr_some {id : Int} (h : DsoAt w D G R s (p ++ x :: q) vL t b st fresh back K) (ex : x.id = id) (ep : ∀ y ∈ p, y.id ≠ id) :
    Calls Try.prog 19 #[.pointer (some ⟨G, 0, none⟩), .int .i64 id] w (SideO (fun w' D' => Dso R w' D' G (drS s id)) D w (.int .i64 0)) := by
  have CT := hide (rct_some h ex ep)
  have EP := hide ep
  have SL := hide (show s.l = (p ++ x :: q).map Rfl.fi from h.p.l)
  have EX := hide ex
  clear h ex ep
  obtain ⟨i0, hi0, hz0, hz1, hz2⟩ := info_parts file_info
  have I0 := hide (show Try.prog.info? 81 = some i0 ∧ i0.zero = some _ ∧ i0.size = 3 ∧ i0.bytes = 56 from ⟨hi0, hz0, hz1, hz2⟩)
  clear hi0 hz0 hz1 hz2
  go_enter Try.func19, Try.ntmps19
  go_wp2_with fail
  go_at_call 29
  refine CT.out.mono ?_
  rintro e w1 ⟨rfl, D1, x', vM, t1, b1, st1, fresh1, back1, K1, e1, e2, hD, u1, s1⟩
  have AT := hide (rat_some hD e1 EP.out)
  have HD := hide hD
  have U1 := hide u1
  have S1 := hide s1
  have E1 := hide e1
  have E2 := hide e2
  obtain ⟨a, c, rfl, hr, hnc, hcm, hnil⟩ := own_reads rflV_len (by omega) hD.m.row
  have hpos : 0 < (p ++ x' :: q).length := by rw [List.length_append, List.length_cons]; omega
  obtain ⟨g, go, rfl, -⟩ := hr.2 hpos
  obtain rfl : go = 0 := by
    obtain ⟨_, _, e, _, _, _, hz⟩ := own_sliceR hD.m.row
    injection e with e _ _
    exact (hz _ e.symm).1
  have c1 := hD.m.c1
  have f1 := hD.m.f0 1
  obtain ⟨m, hm⟩ : ∃ m, m = p.length := ⟨_, rfl⟩
  obtain ⟨n, hn⟩ : ∃ n, n = (p ++ x' :: q).length := ⟨_, rfl⟩
  have MN := hide (show m < n ∧ n ≤ 100000 ∧ n ≤ c ∧ c ≤ maxLen ∧ n - (m + 1) = q.length ∧ m = p.length from ⟨by rw [hm, hn, List.length_append, List.length_cons]; omega, by rw [hn]; have := hD.p.few; rw [hD.p.l, List.length_map] at this; exact this, by rw [hn]; exact hnc, hcm, by rw [hn, hm, List.length_append, List.length_cons]; omega, hm⟩)
  rw [← hm] at AT
  rw [← hn] at c1 hr
  have RP := hide (show Reads 3 rflV w1 (some ⟨g, 0, none⟩) m p from by have := hr.front (k := m) (by have := MN.out; omega); rw [hm, List.take_left] at this; rw [hm]; exact this)
  have RQ := hide (show Reads 3 rflV w1 (some ⟨g, (m + 1) * 3, none⟩) (n - (m + 1)) q from by
    have := hr.part (m + 1) (n - (m + 1)) (by have := MN.out; omega)
    rw [Nat.zero_add] at this
    have e : ((p ++ x' :: q).drop (m + 1)).take (n - (m + 1)) = q := by
      rw [hm, List.drop_append, List.drop_eq_nil_of_le (by omega), show p.length + 1 - p.length = 1 by omega, List.nil_append]
      show q.take (n - (p.length + 1)) = q
      rw [← hm, MN.out.2.2.2.2.1, List.take_length]
    rw [e] at this
    exact this)
  have p0 : (0 : Int) ≤ (m : Int) := by omega
  have p1 : (m : Int) < (n : Int) := by have := MN.out; omega
  have pn : ¬ (m : Int) < 0 := by omega
  have p2 : (m : Int) ≤ (c : Int) := by have := MN.out; omega
  have p3 : (m : Int) + 1 ≤ (n : Int) := by have := MN.out; omega
  have p4 : (n : Int) ≤ (c : Int) := by have := MN.out; omega
  have p5 : (0 : Int) ≤ (m : Int) + 1 := by omega
  have pw : IntKind.i64.wrap ((m : Int) + 1) = (m : Int) + 1 := by rw [IntKind.wrap_i64]; have := MN.out; omega
  obtain ⟨ad, had, hrq⟩ : ∃ ad : Addr, (if c = m + 1 then some (⟨g, 0, none⟩ : Addr) else some ⟨g, (m + 1) * 3, none⟩) = some ad ∧ Hid (Reads 3 rflV w1 (some ad) (n - (m + 1)) q) := by
    by_cases e : c = m + 1
    · have hq : q = [] := List.eq_nil_of_length_eq_zero (by have := MN.out; omega)
      refine ⟨⟨g, 0, none⟩, by rw [if_pos e], ?_⟩
      rw [show n - (m + 1) = 0 by have := MN.out; omega, hq]
      exact reads_nil
    · exact ⟨⟨g, (m + 1) * 3, none⟩, by rw [if_neg e], RQ.out⟩
  have PC := hide (show ∀ W, Below w1.heap.size w1 W → ∀ (j : Nat) (u : Value), (p.flatMap rflV)[j]? = some u → W.cell? ((⟨g, 0, none⟩ : Addr).add j) = some u from fun W bW => (RP.out.below bW).cells rflV_len _ rfl)
  have QC := hide (show ∀ W, Below w1.heap.size w1 W → ∀ (j : Nat) (u : Value), (q.flatMap rflV)[j]? = some u → W.cell? (ad.add j) = some u from fun W bW => (hrq.out.below bW).cells rflV_len _ rfl)
  have PL := hide (show (p.flatMap rflV).length = m * 3 from by rw [flat_length rflV_len, hm])
  have QL := hide (show (q.flatMap rflV).length = (n - (m + 1)) * 3 from by rw [flat_length rflV_len, MN.out.2.2.2.2.1])
  have OC := hide (show ∀ ys : List Rfl, ∀ v ∈ ys.flatMap rflV, v.oneCell' = true from fun ys => flat_cell rflV_cell ys)
  have HE := hide (show ∀ W, Below w1.heap.size w1 W → W.heap[G]? = some (.cells #[.pointer (some ⟨R, 0, none⟩), .slice (some ⟨g, 0, none⟩) n c] 38 (0, 0)) ∧ W.cell? ⟨G, 1, none⟩ = some (.slice (some ⟨g, 0, none⟩) n c) ∧ W.frozen? ⟨G, 1, none⟩ = false from fun W bW => by
    have h := hD.m.below bW
    rw [hn]
    exact ⟨h.hd, h.c1, h.f0 1⟩)
  have MX := hide (show n + 1 ≤ maxLen from by have := MN.out; unfold maxLen; omega)
  have MB := hide (show (n + 1) * 56 ≤ 140737488355328 from by have := MN.out; omega)
  have MM := hide (show m + (n - (m + 1)) = n - 1 ∧ m < n from by have := MN.out; omega)
  have SP := hide (show drS s id = ⟨(p ++ q).map Rfl.fi, (ctS s id).fr⟩ from by
    unfold drS
    rw [SL.out, del_split EX.out EP.out]
    unfold ctS
    rw [SL.out])
  have FIN := hide (show ∀ (w8 : World) (A : Option Addr) (c8 N : Nat) (ys : List Value), Below w1.heap.size w1 w8 → w8.ownsRow w1.heap.size 81 3 (.slice A N c8) N ys → ys = p.flatMap rflV ++ q.flatMap rflV → N = n - 1 →
      SideO (fun w' D' => Dso R w' D' G (drS s id)) D w (.int .i64 0) (.returned (.int .i64 0)) (w8.setCell ⟨G, 1, none⟩ (.slice A N c8)) from fun w8 A c8 N ys hb ho hy hN => by
    have hNl : N = (p ++ q).length := by rw [hN, hn]; simp
    clear hN
    subst hNl
    have u2 : Touch (fun i => i = G) w8 (w8.setCell ⟨G, 1, none⟩ (.slice A (p ++ q).length c8)) := (Touch.refl (fun i => i = G) w8).setCell (p := ⟨G, 1, none⟩) rfl _
    have u : Touch (fun i => i = G) w1 (w8.setCell ⟨G, 1, none⟩ (.slice A (p ++ q).length c8)) := (Touch.of_below hb).trans u2 (fun i e => .inl e)
    have row := u2.own ho (fun g hg e => by have := (ho.lt g hg).1; have := lt_of_heap hD.m.hd; omega)
    rw [hy, ← List.flatMap_append] at row
    have nd := hD.m.nod
    rw [fss_mid] at nd
    have fpq : fss (p ++ q) = fss p ++ fss q := by unfold fss; simp
    obtain ⟨D', hD', t, v⟩ := hD.renew (s' := drS s id) (ys := p ++ q) (by rw [SP.out]) (by rw [SP.out]) (by
        have hg := hD.p.good.dr id
        have e : drS (ctS s id) id = ⟨(p ++ q).map Rfl.fi, (drS (ctS s id) id).fr⟩ := by
          unfold drS
          rw [hD.p.l, del_split E1.out EP.out]
        rw [e] at hg
        rw [SP.out]
        exact ⟨hg.nodup, hg.ids, hg.byt, hg.le⟩) (by have := hD.p.few; rw [hD.p.l, List.length_map] at this; rw [SP.out]; show ((p ++ q).map Rfl.fi).length ≤ 100000; rw [List.length_map, List.length_append]; rw [List.length_append, List.length_cons] at this; omega) u
      (by rw [heap_setCell_same _ _ _ _ _ _ (HE.out w8 hb).1]; rfl) row
      (fun y hy => .inl (by rcases List.mem_append.1 hy with hy | hy; exact List.mem_append_left _ hy; exact List.mem_append_right _ (List.mem_cons_of_mem _ hy)))
      (by rw [fpq]; exact nd.sublist (List.Sublist.append (List.Sublist.refl _) (List.sublist_append_right _ _)))
      (fun f hf => by
        rw [fpq] at hf
        rw [fss_mid]
        rcases List.mem_append.1 hf with hf | hf
        · exact List.mem_append_left _ hf
        · exact List.mem_append_right _ (List.mem_append_right _ hf))
    refine ⟨rfl, D', ⟨_, _, _, _, _, _, _, _, hD'⟩, U1.out.trans t S1.out, fun i hi => ?_⟩
    rcases v i hi with e | e
    · exact S1.out i e
    · exact .inr (Nat.le_trans U1.out.size e))
  clear RQ RP hrq hr hm hn hpos hnc hcm hnil hD u1 s1 e1 e2
  obtain ⟨hi0, hz0, hz1, hz2⟩ := I0.out
  go_wp2_with fail
  go_at_call 36
  refine AT.out.mono ?_
  rintro e w' ⟨rfl, rfl⟩
  go_upto_region 4 with fail
  go_region_law ((first | (refine step_append_rows (by rfl) _ _ _ (by rfl) w1.heap.size 81 i0 _ 3 56 Try.underlying36 hi0 hz0 hz1 hz2 rfl (by omega) _ m ([] ++ p.flatMap rflV) (by rfl) O6.out ad (n - (m + 1)) (c - (m + 1)) (q.flatMap rflV) (by rfl) QL.out (QC.out w6 b6) (OC.out _) (by have := MX.out; have := MM.out; omega) (by have := MB.out; have := MM.out; omega) b6.size (n - 1) MM.out.1 ?_; intro A2 c2 w7 o7 g7 hl7; have b7 : Below w1.heap.size w1 w7 := b6.grown g7 b6.size (fun k hk => (O6.out.lt k hk).1); obtain ⟨_, r0, rf⟩ := HE.out w7 b7) | (refine step_append_rows (by rfl) _ _ _ (by rfl) w1.heap.size 81 i0 _ 3 56 Try.underlying36 hi0 hz0 hz1 hz2 rfl (by omega) (.slice none 0 0) 0 [] (by rfl) (World.ownsRow_nil _ _ _ _) ⟨g, 0, none⟩ m c (p.flatMap rflV) (by rfl) PL.out (PC.out w1.drew (below_drewN (Below.refl _ w1) 1)) (OC.out _) (by have := MX.out; have := MM.out; omega) (by have := MB.out; have := MM.out; omega) (Nat.le_refl _) m (by omega) ?_; intro A6 c6 w6 o6 g6 hl6; have b6 : Below w1.heap.size w1 w6 := (below_drewN (Below.refl _ w1) 1).grown g6 (Nat.le_refl _) (fun k hk => by cases hk); have r6 := (HE.out w6 b6).2.1; have O6 := hide o6; clear o6 g6 hl6)))
  all_goals go_wp2_with fail
  all_goals go_ret
  all_goals exact FIN.out _ _ _ _ _ b7 o7 (by simp) rfl
theorem rdr_any (h : Dso R w D G s) (id : Int) :
    Calls Try.prog 19 #[.pointer (some ⟨G, 0, none⟩), .int .i64 id] w (SideO (fun w' D' => Dso R w' D' G (drS s id)) D w (.int .i64 (thE s id : Nat))) := by
  cases e : getFi s.l id with
  | none =>
    rw [drS_none e, show thE s id = 4 from by unfold thE; rw [e]; rfl]
    have CT := hide (rct_gone h e)
    have HH := hide h
    clear h e
    go_enter Try.func19, Try.ntmps19
    go_wp2_with (go_at_call 29; refine CT.out.mono ?_; rintro e w' ⟨rfl, rfl⟩)
    go_ret
    exact SideO.of_below (P := fun w' D' => Dso R w' D' G s) HH.out (Below.refl _ _)
  | some o =>
    rw [show thE s id = 0 from by unfold thE; rw [e]; rfl]
    obtain ⟨p, x, q, vL, t, b, st, fresh, back, K, h2, h3, h4, h⟩ := h.split e
    exact rdr_some h h2 h4
end
theorem wrS_no {s : So} {id off : Int} {b : List Int} (h : wrE s id off b.length ≠ 0 ∨ b.length = 0) : wrS s id off b = s := by
  unfold wrS; rw [if_neg (by omega)]
end Go.Proofs.Ytipepklobpnbpaa
