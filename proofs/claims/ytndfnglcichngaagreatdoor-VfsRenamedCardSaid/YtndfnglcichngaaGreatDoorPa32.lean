/-
  Several texts as one: SoRefI SpLoad SpOver.
-/
import Derived.Laws.CopyOwn
import Derived.Test.YtndfnglcichngaaGreatDoorPa11
import Derived.Test.YtndfnglcichngaaGreatDoorPa17
namespace Go.Proofs.YtndfnglcichngaaGreatDoor
open Go.ChangeShapes Go.WideShapes Go.ChangeAt Go.RowKit
set_option linter.unusedVariables false
set_option linter.unusedSimpArgs false
section
variable {w : World} {D : Nat → Prop} {G R : Nat} {s : So} {p q : List Rfl} {x : Rfl} {vL : Value} {t b : Nat} {st : St} {fresh : Nat} {back : List Nat} {K : Nat → Prop}
/-- A file with a frame more; with other bytes. -/
def Rfl.more (x : Rfl) (f : Nat) (A : Option Addr) (c : Nat) : Rfl := ⟨x.id, x.b, x.ba, x.bc, x.F ++ [f], A, c⟩
def Rfl.fill (x : Rfl) (ys : List Int) (A : Option Addr) (c : Nat) : Rfl := ⟨x.id, ys, A, c, x.F, x.fa, x.fc⟩
theorem more_len (x : Rfl) (f : Nat) (A : Option Addr) (c : Nat) : (p ++ x.more f A c :: q).length = (p ++ x :: q).length := by simp
theorem fill_len (x : Rfl) (ys : List Int) (A : Option Addr) (c : Nat) : (p ++ x.fill ys A c :: q).length = (p ++ x :: q).length := by simp
theorem DsoM.grown {w2 w3 : World} {f g c : Nat} {l : List Nat} {fresh2 : Nat} {back2 : List Nat} {K2 : Nat → Prop} {A : Option Addr} {c' N : Nat} (h : DsoM w D G R (p ++ x :: q) vL t b st fresh back K) (hv : vL = .slice (some ⟨g, 0, none⟩) (p ++ x :: q).length c) (hfr : st.fr = l ++ [f])
    (rf : RfG w2 K2 R t b (st.take l f) fresh2 back2) (u : Touch K w w2) (hK : ∀ i, K2 i → K i ∨ w.heap.size ≤ i) (b3 : Below w2.heap.size w2 w3) (hN : N = x.F.length + 1)
    (own : w3.ownsRow w2.heap.size 3 1 (.slice A N c') N ((nums (x.F ++ [f])).map (Value.int .i64))) :
    ∃ D', DsoM (w3.setCell ⟨g, p.length * 3 + 2, none⟩ (.slice A N c')) D' G R (p ++ x.more f A c' :: q) vL t b (st.take l f) fresh2 back2 K2 ∧ Touch D w (w3.setCell ⟨g, p.length * 3 + 2, none⟩ (.slice A N c')) ∧ ∀ i, D' i → D i ∨ w.heap.size ≤ i := by
  subst hv
  have hx : x ∈ p ++ x :: q := List.mem_append_right _ (List.mem_cons_self ..)
  have own_g : (Value.slice (some ⟨g, 0, none⟩) (p ++ x :: q).length c).ownBlock = some g := rfl
  have gK := h.sL g own_g
  have glt := (h.row.lt g own_g).2
  have uS : Touch (fun i => i = g) w3 (w3.setCell ⟨g, p.length * 3 + 2, none⟩ (.slice A N c')) := (Touch.refl (fun i => i = g) w3).setCell (p := ⟨g, p.length * 3 + 2, none⟩) rfl _
  have u3 : Touch K w w3 := u.trans (Touch.of_below (S := fun _ => False) b3) (fun _ e => e.elim)
  have gK2 : ¬ K2 g := fun e => by rcases hK g e with e | e; exact gK e; omega
  have row0 := u3.own h.row (fun i e => h.sL i e)
  have rw1 := (row0.stored (p.length * 3 + 2) (.slice A N c')).1
  rw [flat_set2 p q x (x.more f A c') (v := .slice A N c') (by unfold Rfl.fv Rfl.more; rw [hN]; simp) rfl rfl] at rw1
  have hfree : st.tk f = false := (h.rf.1.good.free f (h.rf.1.good.lt f (by rw [hfr]; simp))).1 (by rw [hfr]; simp)
  have hfn : f < st.n := h.rf.1.good.lt f (by rw [hfr]; simp)
  have hnf : ∀ y ∈ fss (p ++ x :: q), y ≠ f := fun y hy e => by have := (h.tkn y hy).2; rw [e, hfree] at this; cases this
  have own0 := uS.own own (fun i e e2 => by have := (own.lt i e).1; have := u.size; omega)
  refine h.turn ((u3.mono (fun i e => .inl e)).trans uS (fun i e => .inl (.inr (by rw [e]; exact own_g)))) ((rf.below b3).keep uS (fun i hi e => gK2 (e ▸ hi))) hK (by rw [more_len]; exact rw1) ⟨?_, ?_⟩ (fun i hi => ?_) ?_ (fun y hy => ?_)
  · exact uS.own ((Touch.of_below (S := fun _ => False) b3).own (u.own (h.ok x hx).bs (fun i e => (h.sep x hx i (.inl e)).2.2)) (fun _ _ e => e)) (fun i e e2 => (h.sep x hx i (.inl e)).2.1 (by rw [e2]; exact own_g))
  · have : (x.more f A c').fv = .slice A N c' := by unfold Rfl.fv Rfl.more; rw [hN]; simp
    rw [this, show (x.more f A c').F.length = N from by rw [hN]; simp [Rfl.more]]
    exact own_base own0 (Nat.zero_le _)
  · rcases hi with hi | hi
    · exact .inl (.inl hi)
    · have e : (x.more f A c').fv = .slice A N c' := by unfold Rfl.fv Rfl.more; rw [hN]; simp
      rw [e] at hi
      have := (own.lt i hi).1
      exact .inr ⟨by have := u.size; omega, fun e => by have := rf.2 i e; omega⟩
  · have nd := h.nod
    rw [fss_mid] at nd hnf ⊢
    show (fss p ++ ((x.F ++ [f]) ++ fss q)).Nodup
    rw [List.append_assoc, List.singleton_append]
    have nd1 := List.nodup_append.1 nd
    have nd2 := List.nodup_append.1 nd1.2.1
    rw [List.nodup_append]
    refine ⟨nd1.1, ?_, fun a ha b hb => ?_⟩
    · rw [List.nodup_append]
      refine ⟨nd2.1, List.nodup_cons.2 ⟨fun e => hnf f (by simp [e]) rfl, nd2.2.1⟩, fun a ha b hb => ?_⟩
      rcases List.mem_cons.1 hb with rfl | hb
      · exact hnf a (by simp [ha])
      · exact nd2.2.2 a ha b hb
    · rcases List.mem_append.1 hb with hb | hb
      · exact nd1.2.2 a ha b (List.mem_append_left _ hb)
      · rcases List.mem_cons.1 hb with rfl | hb
        · exact hnf a (by simp [ha])
        · exact nd1.2.2 a ha b (List.mem_append_right _ hb)
  · rw [fss_mid] at hy
    show y < st.n ∧ upd st.tk f true y = true
    by_cases e : y = f
    · subst e; exact ⟨hfn, upd_same _ _ _⟩
    · rw [upd_other _ _ e]
      refine h.tkn y ?_
      rw [fss_mid]
      have hy' : y ∈ fss p ++ ((x.F ++ [f]) ++ fss q) := hy
      simp at hy' ⊢
      rcases hy' with hy' | hy' | hy' | hy'
      · exact .inl hy'
      · exact .inr (.inl hy')
      · exact absurd hy' e
      · exact .inr (.inr hy')
theorem DsoM.filled {w3 : World} {g c : Nat} {A : Option Addr} {c' N : Nat} {ys : List Int} (h : DsoM w D G R (p ++ x :: q) vL t b st fresh back K) (hv : vL = .slice (some ⟨g, 0, none⟩) (p ++ x :: q).length c)
    (b3 : Below w.heap.size w w3) (hN : N = ys.length) (own : w3.ownsRow w.heap.size 5 1 (.slice A N c') N (ys.map (Value.int .u8))) :
    ∃ D', DsoM (w3.setCell ⟨g, p.length * 3 + 1, none⟩ (.slice A N c')) D' G R (p ++ x.fill ys A c' :: q) vL t b st fresh back K ∧ Touch D w (w3.setCell ⟨g, p.length * 3 + 1, none⟩ (.slice A N c')) ∧ ∀ i, D' i → D i ∨ w.heap.size ≤ i := by
  subst hv
  subst hN
  have hx : x ∈ p ++ x :: q := List.mem_append_right _ (List.mem_cons_self ..)
  have own_g : (Value.slice (some ⟨g, 0, none⟩) (p ++ x :: q).length c).ownBlock = some g := rfl
  have gK := h.sL g own_g
  have glt := (h.row.lt g own_g).2
  have uS : Touch (fun i => i = g) w3 (w3.setCell ⟨g, p.length * 3 + 1, none⟩ (.slice A ys.length c')) := (Touch.refl (fun i => i = g) w3).setCell (p := ⟨g, p.length * 3 + 1, none⟩) rfl _
  have u3 : Touch K w w3 := Touch.of_below b3
  have row0 := u3.own h.row (fun i e => h.sL i e)
  have rw1 := (row0.stored (p.length * 3 + 1) (.slice A ys.length c')).1
  rw [flat_set1 p q x (x.fill ys A c') (v := .slice A ys.length c') rfl rfl rfl] at rw1
  have own0 := uS.own own (fun i e e2 => by have := (own.lt i e).1; omega)
  refine h.turn ((u3.mono (fun i e => .inl e)).trans uS (fun i e => .inl (.inr (by rw [e]; exact own_g)))) ((h.rf.below b3).keep uS (fun i hi e => gK (e ▸ hi))) (fun i e => .inl e) (by rw [fill_len]; exact rw1) ⟨own_base own0 (Nat.zero_le _), ?_⟩ (fun i hi => ?_) (by have := h.nod; rw [fss_mid] at this ⊢; exact this) (fun y hy => h.tkn y (by rw [fss_mid] at hy ⊢; exact hy))
  · exact uS.own ((Touch.of_below (S := fun _ => False) b3).own (h.ok x hx).fs (fun _ _ e => e)) (fun i e e2 => (h.sep x hx i (.inr e)).2.1 (by rw [e2]; exact own_g))
  · rcases hi with hi | hi
    · have := (own.lt i hi).1
      exact .inr ⟨this, fun e => by have := h.rf.2 i e; omega⟩
    · exact .inl (.inr hi)
end
end Go.Proofs.YtndfnglcichngaaGreatDoor
namespace Go.Proofs.YtndfnglcichngaaGreatDoor
open Go.ChangeShapes Go.WideShapes Go.ChangeAt Go.RowKit
set_option linter.unusedVariables false
set_option linter.unusedSimpArgs false
section
variable {w : World} {D : Nat → Prop} {G R : Nat} {s : So} {p q : List Rfl} {x : Rfl} {vL : Value} {t b : Nat} {st : St} {fresh : Nat} {back : List Nat} {K : Nat → Prop}
def numV (f : Nat) : List Value := [.int .i64 (f : Int)]
theorem numV_len (f : Nat) : (numV f).length = 1 := rfl
theorem numV_cell (f : Nat) : ∀ v ∈ numV f, v.oneCell' = true := by
  intro v hv
  simp [numV] at hv
  subst hv; rfl
theorem num_block {w : World} {g f : Nat} {ty : TypeId} (h : w.heap[g]? = some (.cells #[.int .i64 (f : Int)] ty (0, 0))) : Reads 1 numV w (some ⟨g, 0, none⟩) 1 [f] := by
  refine ⟨rfl, fun _ => ⟨g, 0, rfl, fun i y hy j u hu => ?_⟩⟩
  have hi : i < 1 := (List.getElem?_eq_some_iff.1 hy).1
  have hj : j < 1 := (List.getElem?_eq_some_iff.1 hu).1
  obtain rfl : i = 0 := by omega
  obtain rfl : j = 0 := by omega
  simp at hy
  subst hy
  rw [cell_of_row _ _ _ _ _ _ h]
  exact hu
theorem numV_flat (l : List Nat) : l.flatMap numV = (nums l).map (Value.int .i64) := by
  induction l with
  | nil => rfl
  | cons f l ih => rw [List.flatMap_cons, ih]; rfl
/-- Behind k frames more. -/
structure Grw (w wr : World) (D : Nat → Prop) (G R : Nat) (p q : List Rfl) (x x' : Rfl) (vL : Value) (t b : Nat) (st st' : St) (k : Nat) (D' : Nat → Prop) (fresh' : Nat) (back' : List Nat) (K' : Nat → Prop) : Prop where
  m : DsoM wr D' G R (p ++ x' :: q) vL t b st' fresh' back' K'
  tch : Touch D w wr
  sub : ∀ i, D' i → D i ∨ w.heap.size ≤ i
  id : x'.id = x.id
  b : x'.b = x.b
  len : x'.F.length = x.F.length + k
  fr : st'.fr.length + k = st.fr.length
theorem Grw.next {wr wr' : World} {x' x2 : Rfl} {st' st2 : St} {k : Nat} {D' D2 : Nat → Prop} {fresh' fresh2 : Nat} {back' back2 : List Nat} {K' K2 : Nat → Prop} (h : Grw w wr D G R p q x x' vL t b st st' k D' fresh' back' K')
    (m : DsoM wr' D2 G R (p ++ x2 :: q) vL t b st2 fresh2 back2 K2) (u : Touch D' wr wr') (hs : ∀ i, D2 i → D' i ∨ wr.heap.size ≤ i) (e1 : x2.id = x'.id) (e2 : x2.b = x'.b) (e3 : x2.F.length = x'.F.length + 1) (e4 : st2.fr.length + 1 = st'.fr.length) :
    Grw w wr' D G R p q x x2 vL t b st st2 (k + 1) D2 fresh2 back2 K2 :=
  ⟨m, h.tch.trans u h.sub, fun i hi => by rcases hs i hi with e | e; exact h.sub i e; exact .inr (Nat.le_trans h.tch.size e), e1.trans h.id, e2.trans h.b, by rw [e3, h.len]; omega, by have := h.fr; omega⟩
/-- The bytes: zeros, the old ones over them, the new ones over these. -/
theorem fill_bytes (old ys : List Int) (O n : Nat) (hn : n = max old.length (O + ys.length)) : splice (splice (List.replicate n (Value.int .u8 0)) 0 (old.map (Value.int .u8))) O (ys.map (Value.int .u8)) = (wrB old O ys).map (Value.int .u8) := by
  have l1 : (splice (List.replicate n (Value.int .u8 0)) 0 (old.map (Value.int .u8))).length = n := by unfold splice; simp; omega
  have l2 : (splice (splice (List.replicate n (Value.int .u8 0)) 0 (old.map (Value.int .u8))) O (ys.map (Value.int .u8))).length = n := by
    generalize splice (List.replicate n (Value.int .u8 0)) 0 (old.map (Value.int .u8)) = L at *
    unfold splice; simp; omega
  apply List.ext_getElem?
  intro j
  by_cases hj : j < n
  · have er : ((wrB old O ys).map (Value.int .u8))[j]? = some (Value.int .u8 (wrAt old O ys j)) := by rw [List.getElem?_map, wrB_at (by omega)]; rfl
    rw [er, getElem?_splice _ _ _ (by rw [l1, List.length_map]; omega), getElem?_splice _ _ _ (by simp; omega)]
    simp only [List.length_map]
    unfold wrAt
    by_cases h1 : O ≤ j ∧ j < O + ys.length
    · rw [if_pos h1, if_pos h1, List.getElem?_map, List.getElem?_eq_getElem (by omega)]
      simp only [Option.map_some]
      rw [List.getD_eq_getElem?_getD, List.getElem?_eq_getElem (by omega)]; rfl
    · rw [if_neg h1, if_neg h1]
      by_cases h2 : 0 ≤ j ∧ j < 0 + old.length
      · rw [if_pos h2, Nat.sub_zero, List.getElem?_map, List.getElem?_eq_getElem (by omega)]
        simp only [Option.map_some]
        rw [List.getD_eq_getElem?_getD, List.getElem?_eq_getElem (by omega)]; rfl
      · rw [if_neg h2, List.getElem?_replicate, if_pos hj, getD_past (by omega)]
  · rw [List.getElem?_eq_none (by rw [l2]; omega), List.getElem?_eq_none (by rw [List.length_map, wrB_len]; omega)]
set_option maxRecDepth 10000 in
set_option maxHeartbeats 8000000 in
theorem rwr_some {id : Int} (h : DsoAt w D G R s (p ++ x :: q) vL t b st fresh back K) (ex : x.id = id) (ep : ∀ y ∈ p, y.id ≠ id) {O : Nat} {a : Option Addr} {m c : Nat} {ys : List Int} (hi : Ints .u8 w a m ys) (hc : a = none → c = 0) (hb : Bytes ys) (hm0 : 0 < m) (hO : O + m ≤ 512) (hneed : needN x.b.length O m ≤ s.fr) (ha : ∀ b o, a = some ⟨b, o, none⟩ → ¬ D b) :
    Calls Tryz.prog 47 #[.pointer (some ⟨G, 0, none⟩), .int .i64 id, .int .i64 (O : Int), .slice a m c] w (SideO (fun w' D' => Dso R w' D' G (wrS s id O ys)) D w (.int .i64 0)) := by
  have AT := hide (rat_some h ex ep)
  have hm := List.mem_append_right p (List.mem_cons_self (a := x) (l := q))
  have HH := hide h
  have EX := hide ex
  have EP := hide ep
  have HI := hide hi
  have HB := hide hb
  have HA := hide ha
  obtain ⟨ol, hol⟩ : ∃ ol, ol = x.b.length := ⟨_, rfl⟩
  obtain ⟨fl, hfl⟩ : ∃ fl, fl = x.F.length := ⟨_, rfl⟩
  obtain ⟨n, hn⟩ : ∃ n, n = (p ++ x :: q).length := ⟨_, rfl⟩
  obtain ⟨mm, hmm⟩ : ∃ mm, mm = p.length := ⟨_, rfl⟩
  obtain ⟨size, hsz⟩ : ∃ size, size = max ol (O + m) := ⟨_, rfl⟩
  obtain ⟨need, hnd⟩ : ∃ need, need = needN ol O m := ⟨_, rfl⟩
  obtain ⟨bs, hbs⟩ : ∃ bs, bs = blkN size := ⟨_, rfl⟩
  have hok := h.m.ok x hm
  have blk := h.p.blk x hm
  have ol5 : ol ≤ 512 := by rw [hol]; exact h.p.good.le x.fi (by rw [h.p.l]; exact List.mem_map_of_mem hm)
  have FACT := hide (show ol = x.b.length ∧ fl = x.F.length ∧ n = (p ++ x :: q).length ∧ mm = p.length ∧ size = max ol (O + m) ∧ need = needN ol O m ∧ bs = fl + need ∧ bs = blkN size ∧ need ≤ s.fr ∧ s.fr = st.fr.length ∧ mm < n ∧ n ≤ 100000 ∧ ol ≤ 512 ∧ size ≤ 512 ∧ bs ≤ 8 ∧ 0 < m ∧ O + m ≤ 512 ∧ ys.length = m from by
    have e1 : bs = fl + need := by rw [hbs, hsz, needN_max, hfl, blk, hnd, hol]
    refine ⟨hol, hfl, hn, hmm, hsz, hnd, e1, hbs, by rw [hnd, hol]; exact hneed, h.p.fr, by rw [hmm, hn, List.length_append, List.length_cons]; omega, by rw [hn]; have := h.p.few; rw [h.p.l, List.length_map] at this; exact this, ol5, by omega, by rw [hbs]; exact blkN_le8 _ (by omega), hm0, hO, hi.1⟩)
  obtain ⟨g, cL, hvL, d0, d1, d2, fz1, fz2⟩ := h.m.at_ (i := p.length) (x := x) (by rw [List.getElem?_append_right (Nat.le_refl _), Nat.sub_self]; rfl)
  have HV := hide hvL
  have c1 : w.cell? ⟨G, 1, none⟩ = some (.slice (some ⟨g, 0, none⟩) n cL) := by rw [h.m.c1, hvL, hn]
  have c0 := h.m.c0
  have dB : w.cell? ⟨g, mm * 3 + 1, none⟩ = some (.slice x.ba ol x.bc) := by rw [hmm, hol]; exact d1
  have dF : w.cell? ⟨g, mm * 3 + 2, none⟩ = some (.slice x.fa fl x.fc) := by rw [hmm, hfl]; exact d2
  have hmax : (if (ol : Int) < (O : Int) + (m : Int) then (O : Int) + (m : Int) else (ol : Int)) = (size : Int) := by have := FACT.out; split <;> omega
  have hdiv : ((size : Int) + 63).tdiv 64 = (bs : Int) := by rw [hbs]; exact blk_div2 _ (by omega)
  have hmore : (bs : Int) - (fl : Int) = (need : Int) := by have := FACT.out; omega
  have FR := hide (rfree_any h.m.rf.1)
  have G0 := hide (fun k => show Grw w (w.drewN k) D G R p q x x vL t b st st 0 D fresh back K from ⟨h.m.below (below_drewN (Below.refl _ _) k), Touch.of_below (below_drewN (Below.refl _ _) k), fun i e => .inl e, rfl, rfl, rfl, rfl⟩)
  rw [← hmm] at AT
  have n0 : ¬ (mm : Int) < 0 := by omega
  have n1 : (0 : Int) ≤ (mm : Int) := by omega
  have n2 : (mm : Int) < (n : Int) := by have := FACT.out; omega
  have n3 : (n : Int) ≤ 100000 := by have := FACT.out; omega
  have n4 : ¬ (O : Int) < 0 := by omega
  have n5 : ¬ (m : Int) = 0 := by omega
  have n6 : ¬ (512 : Int) < (O : Int) := by omega
  have n7 : (O : Int) + (m : Int) ≤ 512 := by omega
  have n8 : ¬ (512 : Int) - (O : Int) < (m : Int) := by omega
  have n9 : (ol : Int) ≤ 512 := by omega
  have n10 : (size : Int) ≤ 512 := by have := FACT.out; omega
  have n11 : (need : Int) ≤ (st.fr.length : Int) := by have := FACT.out; omega
  have n12 : (bs : Int) ≤ 8 := by have := FACT.out; omega
  have n13 : ¬ (st.fr.length : Int) < (need : Int) := by omega
  have n14 : (fl : Int) ≤ 8 := by have := FACT.out; omega
  clear h ex ep hi hb ha hol hfl hn hmm hsz hnd hbs hok blk ol5 d0 d1 d2 fz1 fz2 hvL hneed hO hm hm0
  go_enter Tryz.func47, Tryz.ntmps47
  go_upto_region 14 with (first
    | (go_at_call 88; refine AT.out.mono ?_; rintro e w' ⟨rfl, rfl⟩)
    | (go_at_call 89; refine FR.out.mono ?_; rintro e w' ⟨rfl, k9, rfl⟩))
  have hdec : decide (st.fr.length < need) = false := decide_eq_false (by omega)
  rw [hdec]
  clear hdec
  go_wp2_with fail
  go_loopw [12] (fun v wr => ∃ (k : Nat) (x' : Rfl) (st' : St) (D' : Nat → Prop) (fresh' : Nat) (back' : List Nat) (K' : Nat → Prop), k ≤ need ∧ v = .int .i64 (k : Int) ∧ Hid (Grw w wr D G R p q x x' vL t b st st' k D' fresh' back' K')) (fun v _ => need - (intOf v).toNat)
  case atStart => exact ⟨0, _, _, _, _, _, _, Nat.zero_le _, rfl, G0.out k9⟩
  case round =>
    clear G0
    obtain ⟨k, x', st', D', fresh', back', K', hk, rfl, hG⟩ := hrel
    have k0 : (0 : Int) ≤ (k : Int) := by omega
    obtain ⟨fn, hfn⟩ : ∃ fn, fn = x'.F.length := ⟨_, rfl⟩
    have FN := hide (show fn = fl + k ∧ fn = x'.F.length from ⟨by rw [hfn, hG.out.len, FACT.out.2.1], hfn⟩)
    by_cases hkl : k < need
    · have k1 : (k : Int) < (need : Int) := by omega
      have e0 := hG.out.m.c0
      obtain ⟨l, f, hfr⟩ : ∃ l f, st'.fr = l ++ [f] := by
        rcases List.eq_nil_or_concat st'.fr with e | ⟨l, f, e⟩
        · have h1 := hG.out.fr
          rw [e] at h1
          have h2 : 0 + k = st.fr.length := h1
          omega
        · exact ⟨l, f, by rw [e, List.concat_eq_append]⟩
      have TK := hide (rtake_own hG.out.m.rf hfr)
      have HFR := hide hfr
      clear hfr c1 c0 dB dF
      go_wp2_with (go_at_call 90; refine TK.out.mono ?_; rintro e w2 ⟨rfl, K2, fresh2, back2, r2, u2, s2⟩)
      have HK := hide s2
      have R2 := hide r2
      have U2 := hide u2
      have hm2 := hG.out.m.ok x' (List.mem_append_right _ (List.mem_cons_self ..))
      obtain ⟨g2, cL2, hv2, held⟩ := hG.out.m.held
      obtain ⟨rfl, rfl⟩ : g2 = g ∧ cL2 = cL := by
        have e := hv2.symm.trans HV.out
        injection e with e1 _ e2
        injection e1 with e1
        injection e1 with e1 _
        exact ⟨e1, e2⟩
      have HLD := hide (held w2 u2)
      have PL := hide (show (p ++ x' :: q).length = n from by rw [FACT.out.2.2.1]; simp)
      have BG := hide (fun (W : World) (bW : Below w2.heap.size w2 W) => show W.cell? ⟨G, 1, none⟩ = some (.slice (some ⟨g2, 0, none⟩) n cL2) ∧ W.cell? ⟨g2, mm * 3 + 2, none⟩ = some (.slice x'.fa fn x'.fc) ∧ W.frozen? ⟨g2, mm * 3 + 2, none⟩ = false ∧ W.ownsRow 0 3 1 (.slice x'.fa fn x'.fc) fn (x'.F.flatMap numV) from by
        obtain ⟨b1, b2, b3, b4, b5, b6, b7, b8⟩ := HLD.out
        have uW : Touch (fun _ => False) w2 W := Touch.of_below bW
        rw [HV.out] at b2
        rw [← FACT.out.2.2.1] at b2
        rw [← FACT.out.2.2.2.1] at b4 b6
        rw [show x'.fv = .slice x'.fa fn x'.fc from by rw [FN.out.2]; rfl] at b4
        have o8 := uW.own b8.fs (fun _ _ e => e)
        rw [← FN.out.2, show x'.fv = .slice x'.fa fn x'.fc from by rw [FN.out.2]; rfl, ← numV_flat] at o8
        have hb7 := uW.own b7 (fun _ _ e => e)
        rw [HV.out, show (p ++ x' :: q).length = (p ++ x :: q).length from by simp] at hb7
        exact ⟨uW.cell b2 (fun e => e), uW.cell b4 (fun e => e), hb7.frozenAt _, o8⟩)
      have GG := hide (show g2 ≠ G from fun e => hG.out.m.sG.1 (by rw [HV.out, ← e]; rfl))
      have D2 := hide (show Below w2.heap.size w2 w2.drew from (Below.refl w2.heap.size w2).drew)
      have FN8 := hide (show fn ≤ 16 from by have := FN.out; have := FACT.out; omega)
      obtain ⟨i0, hi0, hz0, hz1, hz2⟩ := info_parts int_info
      have I0 := hide (show Tryz.prog.info? 3 = some i0 ∧ i0.zero = some _ ∧ i0.size = 1 ∧ i0.bytes = 8 from ⟨hi0, hz0, hz1, hz2⟩)
      clear hi0 hz0 hz1 hz2 r2 u2 s2 e0 hm2 hv2 held TK hfn
      rename_i Q9 K9 a9
      refine wp_region_noPanic ?_
      refine wp_region_held_drew (S := (fun W => W.cell? ⟨G, 1, none⟩ = some (.slice (some ⟨g2, 0, none⟩) n cL2))) (by kernel_rfl) (BG.out _ D2.out).1 (fun hHeld => ?_)
      refine wpAnyH_take (i := 0) (v := ?_) rfl (by kernel_rfl) (by kernel_rfl) (by kernel_rfl) (fun _ _ _ h => h) (Or.inl ⟨by kernel_rfl, ?_⟩) (by assumption) ?_
      rotate_left
      · intro w hSw
        (try dsimp only at hSw)
        go_simp
        try with_reducible rfl
      try simp only [Act.put, List.getElem_toArray, List.getElem_cons_zero, List.getElem_cons_succ, List.setIfInBounds_toArray, List.set_cons_zero, List.set_cons_succ]
      refine wpAnyH_take (i := 1) (v := ?_) rfl (by kernel_rfl) (by kernel_rfl) (by kernel_rfl) (fun _ _ _ h => h) (Or.inl ⟨by kernel_rfl, ?_⟩) (by assumption) ?_
      rotate_left
      · intro w hSw
        (try dsimp only at hSw)
        go_simp
        try with_reducible rfl
      try simp only [Act.put, List.getElem_toArray, List.getElem_cons_zero, List.getElem_cons_succ, List.setIfInBounds_toArray, List.set_cons_zero, List.set_cons_succ]
      refine wpAnyH_take (i := 2) (v := ?_) rfl (by kernel_rfl) (by kernel_rfl) (by kernel_rfl) (fun _ _ _ h => h) (Or.inl ⟨by kernel_rfl, ?_⟩) (by assumption) ?_
      rotate_left
      · intro w hSw
        (try dsimp only at hSw)
        go_simp
        try with_reducible rfl
      try simp only [Act.put, List.getElem_toArray, List.getElem_cons_zero, List.getElem_cons_succ, List.setIfInBounds_toArray, List.set_cons_zero, List.set_cons_succ]
      refine wpAnyH_take (i := 3) (v := ?_) rfl (by kernel_rfl) (by kernel_rfl) (by kernel_rfl) (fun _ _ _ h => h) (Or.inl ⟨by kernel_rfl, ?_⟩) (by assumption) ?_
      rotate_left
      · intro w hSw
        (try dsimp only at hSw)
        go_simp
        try with_reducible rfl
      try simp only [Act.put, List.getElem_toArray, List.getElem_cons_zero, List.getElem_cons_succ, List.setIfInBounds_toArray, List.set_cons_zero, List.set_cons_succ]
      refine wpAnyH_take (i := 4) (v := ?_) rfl (by kernel_rfl) (by kernel_rfl) (by kernel_rfl) (fun _ _ _ h => h) (Or.inl ⟨by kernel_rfl, ?_⟩) (by assumption) ?_
      rotate_left
      · intro w hSw
        (try dsimp only at hSw)
        go_simp
        try with_reducible rfl
      try simp only [Act.put, List.getElem_toArray, List.getElem_cons_zero, List.getElem_cons_succ, List.setIfInBounds_toArray, List.set_cons_zero, List.set_cons_succ]
      refine wpAnyH_take (i := 5) (v := ?_) rfl (by kernel_rfl) (by kernel_rfl) (by kernel_rfl) (fun _ _ _ h => h) (Or.inl ⟨by kernel_rfl, ?_⟩) (by assumption) ?_
      rotate_left
      · intro w hSw
        (try dsimp only at hSw)
        go_simp
        try with_reducible rfl
      try simp only [Act.put, List.getElem_toArray, List.getElem_cons_zero, List.getElem_cons_succ, List.setIfInBounds_toArray, List.set_cons_zero, List.set_cons_succ]
      refine wpAnyH_take (i := 6) (v := ?_) rfl (by kernel_rfl) (by kernel_rfl) (by kernel_rfl) (fun _ _ _ h => h) (Or.inl ⟨by kernel_rfl, ?_⟩) (by assumption) ?_
      rotate_left
      · intro w hSw
        (try dsimp only at hSw)
        go_simp
        try with_reducible rfl
      try simp only [Act.put, List.getElem_toArray, List.getElem_cons_zero, List.getElem_cons_succ, List.setIfInBounds_toArray, List.set_cons_zero, List.set_cons_succ]
      refine wpAnyH_take (i := 7) (v := ?_) rfl (by kernel_rfl) (by kernel_rfl) (by kernel_rfl) (fun _ _ _ h => h) (Or.inl ⟨by kernel_rfl, ?_⟩) (by assumption) ?_
      rotate_left
      · intro w hSw
        (try dsimp only at hSw)
        go_simp
        try with_reducible rfl
      try simp only [Act.put, List.getElem_toArray, List.getElem_cons_zero, List.getElem_cons_succ, List.setIfInBounds_toArray, List.set_cons_zero, List.set_cons_succ]
      refine wpAnyH_take (i := 8) (v := ?_) rfl (by kernel_rfl) (by kernel_rfl) (by kernel_rfl) (fun _ _ _ h => h) (Or.inl ⟨by kernel_rfl, ?_⟩) (by assumption) ?_
      rotate_left
      · intro w hSw
        (try dsimp only at hSw)
        go_simp
        try with_reducible rfl
      try simp only [Act.put, List.getElem_toArray, List.getElem_cons_zero, List.getElem_cons_succ, List.setIfInBounds_toArray, List.set_cons_zero, List.set_cons_succ]
      refine wpAnyH_take (i := 9) (v := ?_) rfl (by kernel_rfl) (by kernel_rfl) (by kernel_rfl) (fun _ _ _ h => h) (Or.inl ⟨by kernel_rfl, ?_⟩) (by assumption) ?_
      rotate_left
      · intro w hSw
        (try dsimp only at hSw)
        go_simp
        try with_reducible rfl
      try simp only [Act.put, List.getElem_toArray, List.getElem_cons_zero, List.getElem_cons_succ, List.setIfInBounds_toArray, List.set_cons_zero, List.set_cons_succ]
      refine wpAnyH_take (i := 10) (v := ?_) rfl (by kernel_rfl) (by kernel_rfl) (by kernel_rfl) (fun _ _ _ h => h) (Or.inl ⟨by kernel_rfl, ?_⟩) (by assumption) ?_
      rotate_left
      · intro w hSw
        (try dsimp only at hSw)
        go_simp
        try with_reducible rfl
      try simp only [Act.put, List.getElem_toArray, List.getElem_cons_zero, List.getElem_cons_succ, List.setIfInBounds_toArray, List.set_cons_zero, List.set_cons_succ]
      refine wpAnyH_take (i := 11) (v := ?_) rfl (by kernel_rfl) (by kernel_rfl) (by kernel_rfl) (fun _ _ _ h => h) (Or.inl ⟨by kernel_rfl, ?_⟩) (by assumption) ?_
      rotate_left
      · intro w hSw
        (try dsimp only at hSw)
        go_simp
        try with_reducible rfl
      try simp only [Act.put, List.getElem_toArray, List.getElem_cons_zero, List.getElem_cons_succ, List.setIfInBounds_toArray, List.set_cons_zero, List.set_cons_succ]
      refine wpAnyH_take (i := 14) (v := ?_) rfl (by kernel_rfl) (by kernel_rfl) (by kernel_rfl) (fun _ _ _ h => h) (Or.inl ⟨by kernel_rfl, ?_⟩) (by assumption) ?_
      rotate_left
      · intro w hSw
        (try dsimp only at hSw)
        go_simp
        try with_reducible rfl
      try simp only [Act.put, List.getElem_toArray, List.getElem_cons_zero, List.getElem_cons_succ, List.setIfInBounds_toArray, List.set_cons_zero, List.set_cons_succ]
      refine wpAnyH_ready (rs := [12, 15]) (by kernel_rfl) (by simp) ?_
      refine AllReadyH.cons rfl (fun K hK => ?_) (AllReadyH.cons rfl (fun K hK => ?_) AllReadyH.nil)
      · have lf := (BG.out _ D2.out).2.1
        go_simp
        go_wp2_with fail
        refine hK.out _ _ (BG.out _ D2.out).1 (fun hHeld => ?_)
        clear hK K lf
        try simp only [Act.put, List.getElem_toArray, List.getElem_cons_zero, List.getElem_cons_succ, List.setIfInBounds_toArray, List.set_cons_zero, List.set_cons_succ]
        refine wpAnyH_ready (rs := [13, 15]) (by kernel_rfl) (by simp) ?_
        refine AllReadyH.cons rfl (fun K hK => ?_) (AllReadyH.cons rfl (fun K hK => ?_) AllReadyH.nil)
        · obtain ⟨A0, c0, e0, rd, -, -, nl⟩ := own_reads numV_len (by omega) (BG.out _ D2.out).2.2.2
          injection e0 with e1 _ e2
          subst e1 e2
          refine step_append_reads rfl (.const (.slice none 0 0)) (.tmp 94) _ rfl w2.heap.size 3 i0 _ 8 Tryz.underlying114 I0.out.1 I0.out.2.1 I0.out.2.2.1 I0.out.2.2.2 rfl (by omega) _ 0 [] rfl (World.ownsRow_nil _ _ _ _) _ fn _ x'.F rfl numV_len numV_cell rd nl (by have := FN8.out; unfold maxLen; omega) (by have := FN8.out; omega) (D2.out.size) ?_
          intro v3 w3 o3 g3
          rw [Nat.zero_add, List.nil_append] at o3
          obtain ⟨A3, c3, rfl, -⟩ := own_reads numV_len (by omega) o3
          have O3 := hide o3
          have B3 := hide (show Below w2.heap.size w2 w3 from D2.out.grown g3 (D2.out.size) (fun k hk => by cases hk))
          have G3 := hide g3
          clear o3 g3 rd nl
          refine hK.out _ _ (BG.out _ B3.out).1 (fun hHeld => ?_)
          clear hK K
          try simp only [Act.put, List.getElem_toArray, List.getElem_cons_zero, List.getElem_cons_succ, List.setIfInBounds_toArray, List.set_cons_zero, List.set_cons_succ]
          refine wpAnyH_ready (rs := [15]) (by kernel_rfl) (by simp) ?_
          refine AllReadyH.cons rfl (fun K hK => ?_) AllReadyH.nil
          go_simp
          go_wp2_with fail
          refine hK.out _ _ (BG.out _ (B3.out.alloc B3.out.size (.cells #[.int .i64 (f : Int)] 3))).1 (fun hHeld => ?_)
          clear hK K
          try simp only [Act.put, List.getElem_toArray, List.getElem_cons_zero, List.getElem_cons_succ, List.setIfInBounds_toArray, List.set_cons_zero, List.set_cons_succ]
          refine wpAnyH_ready (rs := [16]) (by kernel_rfl) (by simp) ?_
          refine AllReadyH.cons rfl (fun K hK => ?_) AllReadyH.nil
          refine step_append_reads rfl (.tmp 95) (.tmp 97) _ rfl w2.heap.size 3 i0 _ 8 Tryz.underlying114 I0.out.1 I0.out.2.1 I0.out.2.2.1 I0.out.2.2.2 rfl (by omega) _ fn (x'.F.flatMap numV) rfl (O3.out.alloc _) (some ⟨w3.heap.size, 0, none⟩) 1 1 [f] rfl numV_len numV_cell (num_block (heap_alloc_new w3 _)) (fun e => by cases e) (by have := FN8.out; unfold maxLen; omega) (by have := FN8.out; omega) ((B3.out.alloc B3.out.size (.cells #[.int .i64 (f : Int)] 3)).size) ?_
          intro v4 w4 o4 g4
          rw [← List.flatMap_append] at o4
          obtain ⟨A4, c4, rfl, -⟩ := own_reads numV_len (by omega) o4
          rw [numV_flat] at o4
          have O4 := hide o4
          have B4 := hide (show Below w2.heap.size w2 w4 from (B3.out.alloc B3.out.size (.cells #[.int .i64 (f : Int)] 3)).grown g4 (B3.out.alloc B3.out.size (.cells #[.int .i64 (f : Int)] 3)).size (fun k hk => (O3.out.lt k hk).1))
          clear o4 g4
          refine hK.out _ _ (BG.out _ B4.out).1 (fun hHeld => ?_)
          clear hK K
          try simp only [Act.put, List.getElem_toArray, List.getElem_cons_zero, List.getElem_cons_succ, List.setIfInBounds_toArray, List.set_cons_zero, List.set_cons_succ]
          refine wpAnyH_take (i := 17) (v := ?_) rfl (by kernel_rfl) (by kernel_rfl) (by kernel_rfl) (fun _ _ _ h => h) (Or.inl ⟨by kernel_rfl, ?_⟩) (by assumption) ?_
          rotate_left
          · intro w hSw
            (try dsimp only at hSw)
            go_simp
            try with_reducible rfl
          try simp only [Act.put, List.getElem_toArray, List.getElem_cons_zero, List.getElem_cons_succ, List.setIfInBounds_toArray, List.set_cons_zero, List.set_cons_succ]
          refine wpAnyH_take (i := 18) (v := ?_) rfl (by kernel_rfl) (by kernel_rfl) (by kernel_rfl) (fun _ _ _ h => h) (Or.inl ⟨by kernel_rfl, ?_⟩) (by assumption) ?_
          rotate_left
          · intro w hSw
            (try dsimp only at hSw)
            go_simp
            try with_reducible rfl
          try simp only [Act.put, List.getElem_toArray, List.getElem_cons_zero, List.getElem_cons_succ, List.setIfInBounds_toArray, List.set_cons_zero, List.set_cons_succ]
          obtain ⟨z1, z2, z3, -⟩ := BG.out _ B4.out
          refine wpAnyH_ready (rs := [19]) (by kernel_rfl) (by simp) ?_
          refine AllReadyH.cons rfl (fun K hK => ?_) AllReadyH.nil
          go_simp
          go_wp2_with fail
          refine hK.out _ _ (((Touch.refl (fun i => i = g2) w4).setCell (p := ⟨g2, mm * 3 + 2, none⟩) rfl (.slice A4 (fn + 1) c4)).cell z1 (fun e => GG.out e.symm)) (fun hHeld => ?_)
          clear hK K z1 z2 z3
          try simp only [Act.put, List.getElem_toArray, List.getElem_cons_zero, List.getElem_cons_succ, List.setIfInBounds_toArray, List.set_cons_zero, List.set_cons_succ]
          refine wpAnyH_done (by kernel_rfl) ?_ _
          go_simp
          refine NoPanic.normal ?_
          have NX := hide (hG.out.m.grown (HV.out.trans (by rw [show (p ++ x' :: q).length = (p ++ x :: q).length from by simp])) HFR.out R2.out U2.out HK.out B4.out (show fn + 1 = x'.F.length + 1 from by rw [FN.out.2]) O4.out)
          rw [← FACT.out.2.2.2.1] at NX
          obtain ⟨D3, M3, T3, S3⟩ := NX.out
          have G3' := hide (hG.out.next M3 T3 S3 rfl rfl (by simp [Rfl.more]) (by rw [HFR.out]; show l.length + 1 = _; simp))
          clear M3 T3 S3 NX
          go_wp2_with fail
          go_roundw
          case rel => exact ⟨k + 1, _, _, _, _, _, _, by omega, by go_num, G3'.out⟩
          case measure => simp [intOf]; omega
        · go_simp
          go_wp2_with fail
          refine hK.out _ _ (BG.out _ (((Below.refl w2.heap.size w2).alloc (Nat.le_refl _) (.cells #[.int .i64 (f : Int)] 3)).drew)).1 (fun hHeld => ?_)
          clear hK K
          try simp only [Act.put, List.getElem_toArray, List.getElem_cons_zero, List.getElem_cons_succ, List.setIfInBounds_toArray, List.set_cons_zero, List.set_cons_succ]
          refine wpAnyH_ready (rs := [13]) (by kernel_rfl) (by simp) ?_
          refine AllReadyH.cons rfl (fun K hK => ?_) AllReadyH.nil
          obtain ⟨A0, c0, e0, rd, -, -, nl⟩ := own_reads numV_len (by omega) (BG.out _ (((Below.refl w2.heap.size w2).alloc (Nat.le_refl _) (.cells #[.int .i64 (f : Int)] 3)).drew)).2.2.2
          injection e0 with e1 _ e2
          subst e1 e2
          refine step_append_reads rfl (.const (.slice none 0 0)) (.tmp 94) _ rfl w2.heap.size 3 i0 _ 8 Tryz.underlying114 I0.out.1 I0.out.2.1 I0.out.2.2.1 I0.out.2.2.2 rfl (by omega) _ 0 [] rfl (World.ownsRow_nil _ _ _ _) _ fn _ x'.F rfl numV_len numV_cell rd nl (by have := FN8.out; unfold maxLen; omega) (by have := FN8.out; omega) ((((Below.refl w2.heap.size w2).alloc (Nat.le_refl _) (.cells #[.int .i64 (f : Int)] 3)).drew).size) ?_
          intro v3 w3 o3 g3
          rw [Nat.zero_add, List.nil_append] at o3
          obtain ⟨A3, c3, rfl, -⟩ := own_reads numV_len (by omega) o3
          have O3 := hide o3
          have B3 := hide (show Below w2.heap.size w2 w3 from (((Below.refl w2.heap.size w2).alloc (Nat.le_refl _) (.cells #[.int .i64 (f : Int)] 3)).drew).grown g3 ((((Below.refl w2.heap.size w2).alloc (Nat.le_refl _) (.cells #[.int .i64 (f : Int)] 3)).drew).size) (fun k hk => by cases hk))
          have G3 := hide g3
          clear o3 g3 rd nl
          refine hK.out _ _ (BG.out _ B3.out).1 (fun hHeld => ?_)
          clear hK K
          try simp only [Act.put, List.getElem_toArray, List.getElem_cons_zero, List.getElem_cons_succ, List.setIfInBounds_toArray, List.set_cons_zero, List.set_cons_succ]
          refine wpAnyH_ready (rs := [16]) (by kernel_rfl) (by simp) ?_
          refine AllReadyH.cons rfl (fun K hK => ?_) AllReadyH.nil
          refine step_append_reads rfl (.tmp 95) (.tmp 97) _ rfl w2.heap.size 3 i0 _ 8 Tryz.underlying114 I0.out.1 I0.out.2.1 I0.out.2.2.1 I0.out.2.2.2 rfl (by omega) _ fn (x'.F.flatMap numV) rfl O3.out (some ⟨w2.heap.size, 0, none⟩) 1 1 [f] rfl numV_len numV_cell (num_block ((G3.out.block w2.heap.size (by simp) (fun h => by cases h)).trans (heap_alloc_new w2 _))) (fun e => by cases e) (by have := FN8.out; unfold maxLen; omega) (by have := FN8.out; omega) (B3.out.size) ?_
          intro v4 w4 o4 g4
          rw [← List.flatMap_append] at o4
          obtain ⟨A4, c4, rfl, -⟩ := own_reads numV_len (by omega) o4
          rw [numV_flat] at o4
          have O4 := hide o4
          have B4 := hide (show Below w2.heap.size w2 w4 from B3.out.grown g4 B3.out.size (fun k hk => (O3.out.lt k hk).1))
          clear o4 g4
          refine hK.out _ _ (BG.out _ B4.out).1 (fun hHeld => ?_)
          clear hK K
          try simp only [Act.put, List.getElem_toArray, List.getElem_cons_zero, List.getElem_cons_succ, List.setIfInBounds_toArray, List.set_cons_zero, List.set_cons_succ]
          refine wpAnyH_take (i := 17) (v := ?_) rfl (by kernel_rfl) (by kernel_rfl) (by kernel_rfl) (fun _ _ _ h => h) (Or.inl ⟨by kernel_rfl, ?_⟩) (by assumption) ?_
          rotate_left
          · intro w hSw
            (try dsimp only at hSw)
            go_simp
            try with_reducible rfl
          try simp only [Act.put, List.getElem_toArray, List.getElem_cons_zero, List.getElem_cons_succ, List.setIfInBounds_toArray, List.set_cons_zero, List.set_cons_succ]
          refine wpAnyH_take (i := 18) (v := ?_) rfl (by kernel_rfl) (by kernel_rfl) (by kernel_rfl) (fun _ _ _ h => h) (Or.inl ⟨by kernel_rfl, ?_⟩) (by assumption) ?_
          rotate_left
          · intro w hSw
            (try dsimp only at hSw)
            go_simp
            try with_reducible rfl
          try simp only [Act.put, List.getElem_toArray, List.getElem_cons_zero, List.getElem_cons_succ, List.setIfInBounds_toArray, List.set_cons_zero, List.set_cons_succ]
          obtain ⟨z1, z2, z3, -⟩ := BG.out _ B4.out
          refine wpAnyH_ready (rs := [19]) (by kernel_rfl) (by simp) ?_
          refine AllReadyH.cons rfl (fun K hK => ?_) AllReadyH.nil
          go_simp
          go_wp2_with fail
          refine hK.out _ _ (((Touch.refl (fun i => i = g2) w4).setCell (p := ⟨g2, mm * 3 + 2, none⟩) rfl (.slice A4 (fn + 1) c4)).cell z1 (fun e => GG.out e.symm)) (fun hHeld => ?_)
          clear hK K z1 z2 z3
          try simp only [Act.put, List.getElem_toArray, List.getElem_cons_zero, List.getElem_cons_succ, List.setIfInBounds_toArray, List.set_cons_zero, List.set_cons_succ]
          refine wpAnyH_done (by kernel_rfl) ?_ _
          go_simp
          refine NoPanic.normal ?_
          have NX := hide (hG.out.m.grown (HV.out.trans (by rw [show (p ++ x' :: q).length = (p ++ x :: q).length from by simp])) HFR.out R2.out U2.out HK.out B4.out (show fn + 1 = x'.F.length + 1 from by rw [FN.out.2]) O4.out)
          rw [← FACT.out.2.2.2.1] at NX
          obtain ⟨D3, M3, T3, S3⟩ := NX.out
          have G3' := hide (hG.out.next M3 T3 S3 rfl rfl (by simp [Rfl.more]) (by rw [HFR.out]; show l.length + 1 = _; simp))
          clear M3 T3 S3 NX
          go_wp2_with fail
          go_roundw
          case rel => exact ⟨k + 1, _, _, _, _, _, _, by omega, by go_num, G3'.out⟩
          case measure => simp [intOf]; omega
      · go_simp
        go_wp2_with fail
        refine hK.out _ _ (BG.out _ (((Below.refl w2.heap.size w2).alloc (Nat.le_refl _) (.cells #[.int .i64 (f : Int)] 3)).drew)).1 (fun hHeld => ?_)
        clear hK K
        try simp only [Act.put, List.getElem_toArray, List.getElem_cons_zero, List.getElem_cons_succ, List.setIfInBounds_toArray, List.set_cons_zero, List.set_cons_succ]
        refine wpAnyH_ready (rs := [12]) (by kernel_rfl) (by simp) ?_
        refine AllReadyH.cons rfl (fun K hK => ?_) AllReadyH.nil
        have lf := (BG.out _ (((Below.refl w2.heap.size w2).alloc (Nat.le_refl _) (.cells #[.int .i64 (f : Int)] 3)).drew)).2.1
        go_simp
        go_wp2_with fail
        refine hK.out _ _ (BG.out _ (((Below.refl w2.heap.size w2).alloc (Nat.le_refl _) (.cells #[.int .i64 (f : Int)] 3)).drew)).1 (fun hHeld => ?_)
        clear hK K lf
        try simp only [Act.put, List.getElem_toArray, List.getElem_cons_zero, List.getElem_cons_succ, List.setIfInBounds_toArray, List.set_cons_zero, List.set_cons_succ]
        refine wpAnyH_ready (rs := [13]) (by kernel_rfl) (by simp) ?_
        refine AllReadyH.cons rfl (fun K hK => ?_) AllReadyH.nil
        obtain ⟨A0, c0, e0, rd, -, -, nl⟩ := own_reads numV_len (by omega) (BG.out _ (((Below.refl w2.heap.size w2).alloc (Nat.le_refl _) (.cells #[.int .i64 (f : Int)] 3)).drew)).2.2.2
        injection e0 with e1 _ e2
        subst e1 e2
        refine step_append_reads rfl (.const (.slice none 0 0)) (.tmp 94) _ rfl w2.heap.size 3 i0 _ 8 Tryz.underlying114 I0.out.1 I0.out.2.1 I0.out.2.2.1 I0.out.2.2.2 rfl (by omega) _ 0 [] rfl (World.ownsRow_nil _ _ _ _) _ fn _ x'.F rfl numV_len numV_cell rd nl (by have := FN8.out; unfold maxLen; omega) (by have := FN8.out; omega) ((((Below.refl w2.heap.size w2).alloc (Nat.le_refl _) (.cells #[.int .i64 (f : Int)] 3)).drew).size) ?_
        intro v3 w3 o3 g3
        rw [Nat.zero_add, List.nil_append] at o3
        obtain ⟨A3, c3, rfl, -⟩ := own_reads numV_len (by omega) o3
        have O3 := hide o3
        have B3 := hide (show Below w2.heap.size w2 w3 from (((Below.refl w2.heap.size w2).alloc (Nat.le_refl _) (.cells #[.int .i64 (f : Int)] 3)).drew).grown g3 ((((Below.refl w2.heap.size w2).alloc (Nat.le_refl _) (.cells #[.int .i64 (f : Int)] 3)).drew).size) (fun k hk => by cases hk))
        have G3 := hide g3
        clear o3 g3 rd nl
        refine hK.out _ _ (BG.out _ B3.out).1 (fun hHeld => ?_)
        clear hK K
        try simp only [Act.put, List.getElem_toArray, List.getElem_cons_zero, List.getElem_cons_succ, List.setIfInBounds_toArray, List.set_cons_zero, List.set_cons_succ]
        refine wpAnyH_ready (rs := [16]) (by kernel_rfl) (by simp) ?_
        refine AllReadyH.cons rfl (fun K hK => ?_) AllReadyH.nil
        refine step_append_reads rfl (.tmp 95) (.tmp 97) _ rfl w2.heap.size 3 i0 _ 8 Tryz.underlying114 I0.out.1 I0.out.2.1 I0.out.2.2.1 I0.out.2.2.2 rfl (by omega) _ fn (x'.F.flatMap numV) rfl O3.out (some ⟨w2.heap.size, 0, none⟩) 1 1 [f] rfl numV_len numV_cell (num_block ((G3.out.block w2.heap.size (by simp) (fun h => by cases h)).trans (heap_alloc_new w2 _))) (fun e => by cases e) (by have := FN8.out; unfold maxLen; omega) (by have := FN8.out; omega) (B3.out.size) ?_
        intro v4 w4 o4 g4
        rw [← List.flatMap_append] at o4
        obtain ⟨A4, c4, rfl, -⟩ := own_reads numV_len (by omega) o4
        rw [numV_flat] at o4
        have O4 := hide o4
        have B4 := hide (show Below w2.heap.size w2 w4 from B3.out.grown g4 B3.out.size (fun k hk => (O3.out.lt k hk).1))
        clear o4 g4
        refine hK.out _ _ (BG.out _ B4.out).1 (fun hHeld => ?_)
        clear hK K
        try simp only [Act.put, List.getElem_toArray, List.getElem_cons_zero, List.getElem_cons_succ, List.setIfInBounds_toArray, List.set_cons_zero, List.set_cons_succ]
        refine wpAnyH_take (i := 17) (v := ?_) rfl (by kernel_rfl) (by kernel_rfl) (by kernel_rfl) (fun _ _ _ h => h) (Or.inl ⟨by kernel_rfl, ?_⟩) (by assumption) ?_
        rotate_left
        · intro w hSw
          (try dsimp only at hSw)
          go_simp
          try with_reducible rfl
        try simp only [Act.put, List.getElem_toArray, List.getElem_cons_zero, List.getElem_cons_succ, List.setIfInBounds_toArray, List.set_cons_zero, List.set_cons_succ]
        refine wpAnyH_take (i := 18) (v := ?_) rfl (by kernel_rfl) (by kernel_rfl) (by kernel_rfl) (fun _ _ _ h => h) (Or.inl ⟨by kernel_rfl, ?_⟩) (by assumption) ?_
        rotate_left
        · intro w hSw
          (try dsimp only at hSw)
          go_simp
          try with_reducible rfl
        try simp only [Act.put, List.getElem_toArray, List.getElem_cons_zero, List.getElem_cons_succ, List.setIfInBounds_toArray, List.set_cons_zero, List.set_cons_succ]
        obtain ⟨z1, z2, z3, -⟩ := BG.out _ B4.out
        refine wpAnyH_ready (rs := [19]) (by kernel_rfl) (by simp) ?_
        refine AllReadyH.cons rfl (fun K hK => ?_) AllReadyH.nil
        go_simp
        go_wp2_with fail
        refine hK.out _ _ (((Touch.refl (fun i => i = g2) w4).setCell (p := ⟨g2, mm * 3 + 2, none⟩) rfl (.slice A4 (fn + 1) c4)).cell z1 (fun e => GG.out e.symm)) (fun hHeld => ?_)
        clear hK K z1 z2 z3
        try simp only [Act.put, List.getElem_toArray, List.getElem_cons_zero, List.getElem_cons_succ, List.setIfInBounds_toArray, List.set_cons_zero, List.set_cons_succ]
        refine wpAnyH_done (by kernel_rfl) ?_ _
        go_simp
        refine NoPanic.normal ?_
        have NX := hide (hG.out.m.grown (HV.out.trans (by rw [show (p ++ x' :: q).length = (p ++ x :: q).length from by simp])) HFR.out R2.out U2.out HK.out B4.out (show fn + 1 = x'.F.length + 1 from by rw [FN.out.2]) O4.out)
        rw [← FACT.out.2.2.2.1] at NX
        obtain ⟨D3, M3, T3, S3⟩ := NX.out
        have G3' := hide (hG.out.next M3 T3 S3 rfl rfl (by simp [Rfl.more]) (by rw [HFR.out]; show l.length + 1 = _; simp))
        clear M3 T3 S3 NX
        go_wp2_with fail
        go_roundw
        case rel => exact ⟨k + 1, _, _, _, _, _, _, by omega, by go_num, G3'.out⟩
        case measure => simp [intOf]; omega
    · obtain rfl : k = need := by omega
      obtain ⟨g2, cL2, hv2, held⟩ := hG.out.m.held
      obtain ⟨rfl, rfl⟩ : g2 = g ∧ cL2 = cL := by
        have e := hv2.symm.trans HV.out
        injection e with e1 _ e2
        injection e1 with e1
        injection e1 with e1 _
        exact ⟨e1, e2⟩
      have HLD := hide (held wr (Touch.refl _ wr))
      have BG := hide (fun (W : World) (bW : Below wr.heap.size wr W) => show W.cell? ⟨G, 1, none⟩ = some (.slice (some ⟨g2, 0, none⟩) n cL2) ∧ W.cell? ⟨g2, mm * 3 + 1, none⟩ = some (.slice x'.ba ol x'.bc) ∧ W.frozen? ⟨g2, mm * 3 + 1, none⟩ = false ∧ W.ownsRow 0 5 1 (.slice x'.ba ol x'.bc) ol (x.b.map (Value.int .u8)) from by
        obtain ⟨b1, b2, b3, b4, b5, b6, b7, b8⟩ := HLD.out
        have uW : Touch (fun _ => False) wr W := Touch.of_below bW
        rw [HV.out] at b2
        rw [← FACT.out.2.2.1] at b2
        rw [← FACT.out.2.2.2.1] at b3 b5
        have ev : x'.bv = .slice x'.ba ol x'.bc := by unfold Rfl.bv; rw [hG.out.b, ← FACT.out.1]
        rw [ev] at b3
        have o8 := uW.own b8.bs (fun _ _ e => e)
        rw [ev, hG.out.b, ← FACT.out.1] at o8
        have hb7 := uW.own b7 (fun _ _ e => e)
        rw [HV.out, show (p ++ x' :: q).length = (p ++ x :: q).length from by simp] at hb7
        exact ⟨uW.cell b2 (fun e => e), uW.cell b3 (fun e => e), hb7.frozenAt _, o8⟩)
      obtain ⟨ab, ao, rfl, -⟩ := HI.out.2 (by have := FACT.out; omega)
      have AI := hide (fun (W : World) (bW : Below wr.heap.size wr W) => (hG.out.tch.ints HI.out HA.out).below bW)
      obtain ⟨i0, hi0, hz0, hz1, hz2⟩ := info_parts byte_info
      have S5 := hide (show size ≤ 512 from by have := FACT.out; omega)
      have hz3 : i0.bytes * size ≤ 281474976710656 := by rw [hz2]; have := S5.out; omega
      have HZ3 := hide hz3
      have MX := hide (show size ≤ maxLen from by unfold maxLen; have := S5.out; omega)
      have YL := hide (show (ys.map (Value.int .u8)).length = m from by rw [List.length_map]; have := FACT.out; omega)
      have XL := hide (show (x.b.map (Value.int .u8)).length = ol from by rw [List.length_map]; exact FACT.out.1.symm)
      have ZL := hide (show (List.replicate size (Value.int .u8 0)).length = size from List.length_replicate)
      have M1 := hide (show ol = Nat.min ol size from by have h1 : ol ≤ size := by (have := FACT.out; omega)
                                                         exact (Nat.min_eq_left h1).symm)
      have L1 := hide (show 0 + ol ≤ size from by have := FACT.out; omega)
      have r1 : ¬ size = O := by have := FACT.out; omega
      have r2 : (O : Int) ≤ (size : Int) := by have := FACT.out; omega
      have r3 : (0 : Int) ≤ (O : Int) := by omega
      have r4 := (BG.out wr (Below.refl _ _)).1
      have r5 := (BG.out wr (Below.refl _ _)).2.1
      have k1 : ¬ (k : Int) < (k : Int) := by omega
      clear hz2 hz3 hkl hk hv2 held hfn c1 c0 dB dF
      go_upto_region 20 with (at_make; refine wpList_make_full _ rfl (.tmp 101) (.tmp 101) 30 rfl wr.heap.size 5 i0 _ 1 Tryz.underlying30 hi0 hz0 hz1 .i64 .i64 (size : Int) (size : Int) size rfl rfl rfl rfl HZ3.out MX.out (Nat.le_refl _) ?_; intro w1 o1 g1; rw [Nat.mul_one, show Value.cells (.int .u8 0) = #[.int .u8 0] from rfl, toList_madeCells_one] at o1; have O1 := hide (own_full o1).1; have B1 := hide ((Below.refl wr.heap.size wr).grown g1 (Nat.le_refl _) (by simp)); clear o1 g1)
      clear r4 r5
      obtain ⟨q1, q2, q3, q4⟩ := BG.out w1 B1.out
      have Q4 := hide q4
      clear q4
      have hsrc := hide (show 0 < (x.b.map (Value.int .u8)).length → ∃ ad, x'.ba = some ad ∧ ∀ j v, (x.b.map (Value.int .u8))[j]? = some v → w1.cell? (ad.add j) = some v from fun hp => by
        obtain ⟨A, C, e, i, _⟩ := own_ints Q4.out
        injection e with e1 _ e2
        subst e1 e2
        exact ints_src i hp)
      go_upto_region 21 with (refine wpList_copy_touch rfl (.tmp 103) (.tmp 111) 30 30 rfl 5 Tryz.underlying30 byte_size (some ⟨wr.heap.size, 0, none⟩) x'.ba size size ol x'.bc rfl rfl wr.heap.size 0 (List.replicate size (Value.int .u8 0)) 5 O1.out (x.b.map (Value.int .u8)) (by rw [XL.out]; exact M1.out) (fun hp => ⟨rfl, hsrc.out hp⟩) (by rw [XL.out, ZL.out]; exact L1.out) (ints_one _ _) ?_; intro w2 e2 t2; have B2 := hide (B1.out.trans (t2.below B1.out.size (fun i e => Nat.le_of_eq e.symm))); have E2 := hide e2.out; clear e2 t2)
      clear q1 q2 q3 hsrc
      have SL := hide (show (splice (List.replicate size (Value.int .u8 0)) 0 (x.b.map (Value.int .u8))).length = size from by have := L1.out; unfold splice; simp [List.length_map, ← FACT.out.1]; omega)
      have M2 := hide (show m = Nat.min m (size - O) from by have h1 : m ≤ size - O := by (have := FACT.out; omega)
                                                             exact (Nat.min_eq_left h1).symm)
      have L2 := hide (show O + m ≤ size from by have := FACT.out; omega)
      go_upto_region 22 with (refine wpList_copy_touch rfl (.tmp 115) (.tmp 116) 30 30 rfl 5 Tryz.underlying30 byte_size (some ⟨wr.heap.size, O, none⟩) (some ⟨ab, ao, none⟩) (size - O) (size - O) m c rfl rfl wr.heap.size O (splice (List.replicate size (Value.int .u8 0)) 0 (x.b.map (Value.int .u8))) 5 E2.out (ys.map (Value.int .u8)) (by rw [YL.out]; exact M2.out) (fun hp => ⟨rfl, ints_src (AI.out w2 B2.out) hp⟩) (by rw [YL.out, SL.out]; exact L2.out) (ints_one _ _) ?_; intro w3 e3 t3; have B3 := hide (B2.out.trans (t3.below B2.out.size (fun i e => Nat.le_of_eq e.symm))); have E3 := hide e3.out; clear e3 t3)
      obtain ⟨q1, q2, q3, q4⟩ := BG.out w3 B3.out
      clear q4
      go_wp2_with fail
      go_ret
      clear q1 q2 q3
      have hyl := FACT.out.2.2.2.2.2.2.2.2.2.2.2.2.2.2.2.2.2
      have hol := FACT.out.1
      have hg : getFi s.l id = some x.b := by rw [HH.out.p.l, List.map_append]; exact get_split EX.out EP.out
      have hk9 : needN x.b.length O m = k := by rw [← FACT.out.1]; exact FACT.out.2.2.2.2.2.1.symm
      have hE : wrE s id (O : Int) ys.length = 0 := by
        have F9 := FACT.out
        unfold wrE
        rw [hg, hyl]
        simp only [Option.isSome_some, if_true, lenO]
        rw [if_neg (show ¬ (O : Int) < 0 from by omega), if_neg (show ¬ m = 0 from by omega), if_neg (show ¬ 512 < (O : Int) + (m : Int) from by omega), Int.toNat_natCast]
        exact if_neg (show ¬ s.fr < needN x.b.length O m from by omega)
      have hW : wrS s id (O : Int) ys = ⟨putFi s.l id (wrB x.b O ys), s.fr - k⟩ := by
        unfold wrS
        rw [if_pos ⟨hE, by have := FACT.out; omega⟩, hg, hyl]
        show So.mk _ (s.fr - needN x.b.length _ m) = _
        rw [Int.toNat_natCast, hk9]; rfl
      have hgw : GoodSo (wrS s id (O : Int) ys) := HH.out.p.good.wr HB.out
      have hl9 := wrS_len s id (O : Int) ys
      have E4 := E3.out
      have hzz : size = max x.b.length (O + ys.length) := by have := FACT.out; omega
      rw [fill_bytes x.b ys O size hzz] at E4
      have hN : size = (wrB x.b O ys).length := by rw [wrB_len]; exact hzz
      have o4 := own_of_full E4 (by rw [List.length_map]; exact hN.symm) (Nat.le_refl _) MX.out
      have ll : (p ++ x' :: q).length = (p ++ x :: q).length := by simp
      have ex9 := hG.out.b
      obtain ⟨D3, M3, T3, S3⟩ := hG.out.m.filled (A := some ⟨wr.heap.size, 0, none⟩) (c' := size) (HV.out.trans (by rw [ll])) B3.out hN o4
      rw [← FACT.out.2.2.2.1] at M3 T3
      rw [hW] at hgw hl9
      rw [hW]
      refine ⟨rfl, D3, ⟨_, _, t, b, st', fresh', back', K', M3, ⟨?_, ?_, hgw, by rw [hl9]; exact HH.out.p.few, fun y hy => ?_⟩⟩, hG.out.tch.trans T3 hG.out.sub, fun i hi => ?_⟩
      · show putFi s.l id _ = _
        rw [HH.out.p.l, put_split EX.out EP.out, List.map_append, ← EX.out, ← hG.out.id]; rfl
      · show s.fr - k = st'.fr.length
        have h1 := hG.out.fr
        have h2 := HH.out.p.fr
        omega
      · rcases List.mem_append.1 hy with hy | hy
        · exact HH.out.p.blk y (List.mem_append_left _ hy)
        · rcases List.mem_cons.1 hy with rfl | hy
          · show x'.F.length = blkN (wrB x.b O ys).length
            rw [← hN, hG.out.len]
            have := FACT.out; omega
          · exact HH.out.p.blk y (List.mem_append_right _ (List.mem_cons_of_mem _ hy))
      · rcases S3 i hi with e | e
        · exact hG.out.sub i e
        · exact .inr (Nat.le_trans hG.out.tch.size e)
end
end Go.Proofs.YtndfnglcichngaaGreatDoor
namespace Go.Proofs.YtndfnglcichngaaGreatDoor
open Go.ChangeShapes Go.WideShapes Go.ChangeAt Go.RowKit
set_option linter.unusedVariables false
set_option linter.unusedSimpArgs false
section
variable {w : World} {D : Nat → Prop} {G R : Nat} {s : So}
/-- Its frames lie in the first cell of what it points to. -/
theorem rfree20_any (h : Dso R w D G s) : w.cell? ⟨G, 0, none⟩ = some (.pointer (some ⟨R, 0, none⟩)) ∧
    Calls Tryz.prog 89 #[.pointer (some ⟨R, 0, none⟩)] w fun e w' => e = .returned (.int .i64 (s.fr : Nat)) ∧ ∃ m, w' = w.drewN m := by
  obtain ⟨xs, vL, t, b, st, fresh, back, K, h⟩ := h
  refine ⟨h.m.c0, ?_⟩
  rw [h.p.fr]
  exact rfree_any h.m.rf.1
set_option maxRecDepth 10000 in
set_option maxHeartbeats 4000000 in
theorem rwr_any (h : Dso R w D G s) {id off : Int} (wo : (Lit.int .i64 off).wf = true) {a : Option Addr} {m c : Nat} {ys : List Int} (hi : Ints .u8 w a m ys) (hc : a = none → c = 0) (hb : Bytes ys) (hm : m ≤ 1000000) (ha : 0 < m → ∀ b o, a = some ⟨b, o, none⟩ → ¬ D b) :
    Calls Tryz.prog 47 #[.pointer (some ⟨G, 0, none⟩), .int .i64 id, .int .i64 off, .slice a m c] w (SideO (fun w' D' => Dso R w' D' G (wrS s id off ys)) D w (.int .i64 (wrE s id off m : Nat))) := by
  have hwo := wf_i64 wo
  clear wo
  have hyl : ys.length = m := hi.1
  cases e : getFi s.l id with
  | none =>
    have hE : wrE s id off m = 4 := by unfold wrE; rw [e]; rfl
    have AT := hide (h.gone e)
    have FIN := hide (SideO.of_below (v := .int .i64 4) (P := fun w' D' => Dso R w' D' G s) h (Below.refl _ _))
    rw [wrS_no (.inl (by rw [hyl, hE]; decide)), hE]
    clear h e hE hyl hi hb ha
    go_enter Tryz.func47, Tryz.ntmps47
    go_wp2_with (go_at_call 88; refine AT.out.mono ?_; rintro e w' ⟨rfl, rfl⟩)
    go_ret
    exact FIN.out
  | some o =>
    obtain ⟨p, x, q, vL, t, b, st, fresh, back, K, ex, rfl, ep, hd⟩ := h.split e
    have AT := hide (rat_some hd ex ep)
    have FIN := hide (fun (n k : Nat) => SideO.of_below (v := .int .i64 (n : Int)) (P := fun w' D' => Dso R w' D' G s) ((keepsDso R).keep h (Touch.of_below (S := fun _ => False) (below_drewN (Below.refl _ _) k)) (fun _ _ e => e)) (below_drewN (Below.refl w.heap.size w) k))
    have wE : wrE s id off m = if off < 0 then 19 else if m = 0 then 0 else if 512 < off + m then 15 else if s.fr < needN x.b.length off.toNat m then 15 else 0 := by
      unfold wrE; rw [e]; rfl
    by_cases h0 : off < 0
    · rw [if_pos h0] at wE
      rw [wrS_no (.inl (by rw [hyl, wE]; decide)), wE]
      clear h e wE hyl hi hb ha ex ep hd
      go_enter Tryz.func47, Tryz.ntmps47
      go_wp2_with (go_at_call 88; refine AT.out.mono ?_; rintro e w' ⟨rfl, rfl⟩)
      go_ret
      exact FIN.out 19 0
    rw [if_neg h0] at wE
    obtain ⟨O, rfl⟩ := Int.eq_ofNat_of_zero_le (show 0 ≤ off by omega)
    by_cases h1 : m = 0
    · subst h1
      rw [if_pos rfl] at wE
      rw [wrS_no (.inr hyl), wE]
      clear h e wE hyl hi hb ha ex ep hd
      go_enter Tryz.func47, Tryz.ntmps47
      go_wp2_with (go_at_call 88; refine AT.out.mono ?_; rintro e w' ⟨rfl, rfl⟩)
      go_ret
      exact FIN.out 0 0
    rw [if_neg h1] at wE
    have m1 : ¬ (m : Int) = 0 := by omega
    by_cases h2 : 512 < (O : Int) + m
    · rw [if_pos h2] at wE
      rw [wrS_no (.inl (by rw [hyl, wE]; decide)), wE]
      clear h e wE hyl hi hb ha ex ep hd
      by_cases h3 : 512 < (O : Int)
      · go_enter Tryz.func47, Tryz.ntmps47
        go_wp2_with (go_at_call 88; refine AT.out.mono ?_; rintro e w' ⟨rfl, rfl⟩)
        go_ret
        exact FIN.out 15 0
      · have h4 : (512 : Int) - (O : Int) < (m : Int) := by omega
        clear h2
        go_enter Tryz.func47, Tryz.ntmps47
        go_wp2_with (go_at_call 88; refine AT.out.mono ?_; rintro e w' ⟨rfl, rfl⟩)
        go_ret
        exact FIN.out 15 0
    rw [if_neg h2, Int.toNat_natCast] at wE
    by_cases h3 : s.fr < needN x.b.length O m
    · rw [if_pos h3] at wE
      rw [wrS_no (.inl (by rw [hyl, wE]; decide)), wE]
      have hmm := List.mem_append_right p (List.mem_cons_self (a := x) (l := q))
      have blk := hd.p.blk x hmm
      have ol5 : x.b.length ≤ 512 := hd.p.good.le x.fi (by rw [hd.p.l]; exact List.mem_map_of_mem hmm)
      have few := hd.p.few
      have sfr := hd.p.fr
      rw [hd.p.l, List.length_map] at few
      obtain ⟨g, cL, hvL, d0, d1, d2, fz1, fz2⟩ := hd.m.at_ (i := p.length) (x := x) (by rw [List.getElem?_append_right (Nat.le_refl _), Nat.sub_self]; rfl)
      have c1 := hd.m.c1
      have c0 := hd.m.c0
      have FR := hide (rfree_any hd.m.rf.1)
      obtain ⟨n, hn⟩ : ∃ n, n = (p ++ x :: q).length := ⟨_, rfl⟩
      have mn : p.length < n := by rw [hn, List.length_append, List.length_cons]; omega
      rw [hvL, ← hn] at c1
      rw [← hn] at few
      obtain ⟨mm, hmm2⟩ : ∃ mm, mm = p.length := ⟨_, rfl⟩
      rw [← hmm2] at AT mn d0 d1 d2
      obtain ⟨ol, hol⟩ : ∃ ol, ol = x.b.length := ⟨_, rfl⟩
      obtain ⟨fl, hfl⟩ : ∃ fl, fl = x.F.length := ⟨_, rfl⟩
      obtain ⟨size, hsz⟩ : ∃ size, size = max ol (O + m) := ⟨_, rfl⟩
      obtain ⟨bs, hbs⟩ : ∃ bs, bs = blkN size := ⟨_, rfl⟩
      have e1 : bs = fl + needN x.b.length O m := by rw [hbs, hsz, needN_max, hfl, blk, hol]
      have b8 : bs ≤ 8 := by rw [hbs]; exact blkN_le8 _ (by omega)
      have dB : w.cell? ⟨g, mm * 3 + 1, none⟩ = some (.slice x.ba ol x.bc) := by rw [hol]; exact d1
      have dF : w.cell? ⟨g, mm * 3 + 2, none⟩ = some (.slice x.fa fl x.fc) := by rw [hfl]; exact d2
      have hmax : (if (ol : Int) < (O : Int) + (m : Int) then (O : Int) + (m : Int) else (ol : Int)) = (size : Int) := by split <;> omega
      have hdiv : ((size : Int) + 63).tdiv 64 = (bs : Int) := by rw [hbs]; exact blk_div2 _ (by omega)
      have hlt : (st.fr.length : Int) < (bs : Int) - (fl : Int) := by omega
      have hlt2 : st.fr.length < needN x.b.length O m := by omega
      obtain ⟨fl9, hfl9⟩ : ∃ fl9, fl9 = st.fr.length := ⟨_, rfl⟩
      rw [← hfl9] at FR hlt hlt2
      obtain ⟨need, hnd⟩ : ∃ need, need = needN x.b.length O m := ⟨_, rfl⟩
      rw [← hnd] at e1 hlt2
      have hmore : (bs : Int) - (fl : Int) = (need : Int) := by omega
      rw [hmore] at hlt
      have n1 : (0 : Int) ≤ (mm : Int) := by omega
      have n2 : (mm : Int) < (n : Int) := by omega
      have n3 : (n : Int) ≤ 100000 := by omega
      have n4 : ¬ (mm : Int) < 0 := by omega
      have n5 : ¬ (512 : Int) < (O : Int) := by omega
      have n6 : ¬ (512 : Int) - (O : Int) < (m : Int) := by omega
      have n7 : (O : Int) + (m : Int) ≤ 512 := by omega
      have n8 : (ol : Int) ≤ 512 := by omega
      have n9 : (size : Int) ≤ 512 := by omega
      have n10 : (fl : Int) ≤ 8 := by omega
      have n11 : (bs : Int) ≤ 8 := by omega
      clear h e wE hyl hi hb ha ex ep hd h3 blk ol5 sfr hvL d0 d1 d2 fz1 fz2 hmm hmm2 hol hfl hsz hbs e1 hn hnd hfl9 few mn b8 h2
      go_enter Tryz.func47, Tryz.ntmps47
      go_wp2_with (first
        | (go_at_call 88; refine AT.out.mono ?_; rintro e w' ⟨rfl, rfl⟩)
        | (go_at_call 89; refine FR.out.mono ?_; rintro e w' ⟨rfl, k9, rfl⟩))
      go_ret
      exact FIN.out 15 _
    · rw [if_neg h3] at wE
      rw [wE]
      exact rwr_some hd ex ep hi hc hb (by omega) (by omega) (by omega) (ha (by omega))
end
end Go.Proofs.YtndfnglcichngaaGreatDoor
namespace Go.Proofs.YtndfnglcichngaaGreatDoor
open Go.ChangeShapes Go.WideShapes Go.ChangeAt Go.RowKit Go.Maps
set_option linter.unusedVariables false
set_option linter.unusedSimpArgs false
set_option maxHeartbeats 1000000 in
theorem load_any {w : World} {H A Q S : Nat} {st : St} (c0 : w.cell? ⟨S, 0, none⟩ = some (.pointer (some ⟨H, 0, none⟩))) (f : Fr w H A Q st) {i off n : Nat} (hi : i < st.n) (ht : st.tk i = true) (hf : off + n ≤ 64) {g o c : Nat} {cur : List Value} (hg : w.heap[g]? = some (.cells cur.toArray 5 (0, 0))) (hfit : o + n ≤ cur.length) :
    Calls Tryz.prog 73 #[.pointer (some ⟨S, 0, none⟩), .int .i64 (i : Nat), .int .i64 (off : Nat), .slice (some ⟨g, o, none⟩) n c] w fun e w' => e = .returned (.int .i64 0) ∧ w'.heap[g]? = some (.cells (splice cur o ((st.part i off n).map (Value.int .u8))).toArray 5 (0, 0)) ∧ Touch (fun k => k = g) w w' := by
  have RD := hide (read_ok f i off n hi ht hf)
  have PL := hide (show ((st.part i off n).map (Value.int .u8)).length = n from by rw [List.length_map, part_len])
  have MM := hide (show n = Nat.min n n from (Nat.min_self n).symm)
  have HG := hide hg
  have FT := hide hfit
  have GL := hide (lt_of_heap hg)
  clear f hi ht hf hg hfit
  go_enter Tryz.func73, Tryz.ntmps73
  go_upto_region 2 with (go_at_call 110; refine RD.out.mono ?_; rintro e w1 ⟨rfl, o1, b1⟩; have O1 := hide o1; have B1 := hide b1; clear o1 b1)
  have hg1 := hide (show w1.heap[g]? = some (.cells cur.toArray 5 (0, 0)) from (B1.out.block g GL.out).trans HG.out)
  have hsrc := hide (show 0 < ((st.part i off n).map (Value.int .u8)).length → ∃ ad, (some (⟨w.heap.size, 0, none⟩ : Addr)) = some ad ∧ ∀ j v, ((st.part i off n).map (Value.int .u8))[j]? = some v → w1.cell? (ad.add j) = some v from fun hp => by
    obtain ⟨A', C', e, i', _⟩ := own_ints O1.out
    injection e with e1 _ e2
    subst e1 e2
    exact ints_src i' hp)
  go_wp2_with (refine wpList_copy_touch rfl (.tmp 23) (.tmp 24) 30 30 rfl 5 Tryz.underlying30 byte_size (some ⟨g, o, none⟩) (some ⟨w.heap.size, 0, none⟩) n c n n rfl rfl g o cur 5 hg1.out ((st.part i off n).map (Value.int .u8)) (by rw [PL.out]; exact MM.out) (fun hp => ⟨rfl, hsrc.out hp⟩) (by rw [PL.out]; exact FT.out) (ints_one _ _) ?_; intro w2 e2 t2; have E2 := hide e2.out; have T2 := hide t2; clear e2 t2)
  go_ret
  exact ⟨rfl, E2.out, (Touch.of_below (S := fun k => k = g) B1.out).trans T2.out (fun i e => .inl e)⟩
/-- The bytes of a file's frames, by their place. -/
def byF (st : St) (F : List Nat) (o : Nat) : Int := st.bt (F.getD (o / 64) 0) (o % 64)
theorem splice_old {α : Type} {L cs : List α} {o j : Nat} (h : o + cs.length ≤ L.length) (hj : j < o) : (splice L o cs)[j]? = L[j]? := by
  rw [getElem?_splice _ _ _ h, if_neg (by omega)]
theorem splice_new {α : Type} {L cs : List α} {o j : Nat} (h : o + cs.length ≤ L.length) (h1 : o ≤ j) (h2 : j < o + cs.length) : (splice L o cs)[j]? = cs[j - o]? := by
  rw [getElem?_splice _ _ _ h, if_pos ⟨h1, h2⟩]
theorem splice_len {α : Type} {L cs : List α} {o : Nat} (h : o + cs.length ≤ L.length) : (splice L o cs).length = L.length := by unfold splice; simp; omega
theorem part_at (s : St) (i off n j : Nat) (h : j < n) : ((s.part i off n).map (Value.int .u8))[j]? = some (.int .u8 (s.bt i (off + j))) := by
  unfold St.part
  rw [List.map_map, List.getElem?_map, List.getElem?_range h]; rfl
set_option maxRecDepth 10000 in
set_option maxHeartbeats 4000000 in
/-- over with load: a row is filled. -/
theorem over_load {w : World} {H A Q S B L fc g n c off : Nat} {st : St} {F : List Nat} {fa : Option Addr} (c0 : w.cell? ⟨S, 0, none⟩ = some (.pointer (some ⟨H, 0, none⟩))) (f : Fr w H A Q st) (cB : w.cell? ⟨B, 1, none⟩ = some (.slice fa L fc)) (hF : Ints .i64 w fa L (nums F)) (hL : L ≤ 8)
    (tk : ∀ x ∈ F, x < st.n ∧ st.tk x = true) {cur : List Value} (hg : w.heap[g]? = some (.cells cur.toArray 5 (0, 0))) (hcur : cur.length = n) (hroom : 0 < n → off + n ≤ L * 64) (hoff : off ≤ 1000) (hc : n ≤ c) (hc2 : c ≤ 1000)
    (dS : g ≠ S) (dB : g ≠ B) (dH : ∀ i, Blk H A Q i → i ≠ g) (dF : ∀ b o, fa = some ⟨b, o, none⟩ → b ≠ g) :
    Calls Tryz.prog 67 #[.pointer (some ⟨B, 0, none⟩), .int .i64 (off : Nat), .slice (some ⟨g, 0, none⟩) n c, .func (.func 73) #[.pointer (some ⟨S, 0, none⟩)] #[]] w fun e w' =>
      e = .returned (.int .i64 0) ∧ w'.heap[g]? = some (.cells (((List.range n).map fun j => byF st F (off + j)).map (Value.int .u8)).toArray 5 (0, 0)) ∧ Touch (fun k => k = g) w w' := by
  have HF := hide hF
  have TK := hide tk
  have FR := hide f
  have C0 := hide c0
  have CB := hide cB
  have FA := hide (show n ≤ c ∧ c ≤ 1000 ∧ L ≤ 8 ∧ off ≤ 1000 ∧ (0 < n → off + n ≤ L * 64) from ⟨hc, hc2, hL, hoff, hroom⟩)
  have DS := hide (show g ≠ S ∧ g ≠ B from ⟨dS, dB⟩)
  have DH := hide dH
  have DF := hide dF
  have G0 := hide (show ∃ cur : List Value, w.heap[g]? = some (.cells cur.toArray 5 (0, 0)) ∧ cur.length = n ∧ ∀ j, j < 0 → cur[j]? = some (.int .u8 (byF st F (off + j))) from ⟨cur, hg, hcur, fun j hj => absurd hj (Nat.not_lt_zero _)⟩)
  clear c0 f cB hF tk hg hcur hroom dS dB dH dF
  go_enter Tryz.func67, Tryz.ntmps67
  go_wp2_with fail
  go_loopw [1, 2] (fun ov bv wr => ∃ (k : Nat) (a : Option Addr) (cc : Nat), k ≤ n ∧ ov = .int .i64 ((off + k : Nat) : Int) ∧ bv = .slice a (n - k) cc ∧ Hid ((k < n → a = some ⟨g, k, none⟩ ∧ cc = c - k) ∧ Touch (fun k => k = g) w wr ∧ ∃ cur : List Value, wr.heap[g]? = some (.cells cur.toArray 5 (0, 0)) ∧ cur.length = n ∧ ∀ j, j < k → cur[j]? = some (.int .u8 (byF st F (off + j))))) (fun ov _ _ => off + n - (intOf ov).toNat)
  case atStart => exact ⟨0, _, _, Nat.zero_le _, rfl, rfl, fun _ => ⟨rfl, rfl⟩, Touch.refl _ _, G0.out⟩
  case round =>
    clear G0
    obtain ⟨k, a, cc, hk, rfl, rfl, hG⟩ := hrel
    by_cases hlt : k < n
    · obtain ⟨⟨rfl, rfl⟩, hT, cur, hg, hlen, hcur⟩ : (a = some ⟨g, k, none⟩ ∧ cc = c - k) ∧ _ := ⟨hG.out.1 hlt, hG.out.2⟩
      have HT := hide hT
      obtain ⟨f1, f2, f3, f4, f5⟩ := FA.out
      have f6 := f5 (by omega)
      -- where it is
      obtain ⟨P, hP⟩ : ∃ P, P = off + k := ⟨_, rfl⟩
      rw [← hP]
      obtain ⟨fr, hfr⟩ : ∃ fr, fr = P % 64 := ⟨_, rfl⟩
      obtain ⟨ix, hix⟩ : ∃ ix, ix = P / 64 := ⟨_, rfl⟩
      have hfr64 : fr < 64 := by omega
      have hixL : ix < L := by omega
      obtain ⟨m, hm⟩ : ∃ m, m = min (n - k) (64 - fr) := ⟨_, rfl⟩
      have e1 : ((P : Nat) : Int).tmod 64 = (fr : Int) := by rw [Int.tmod_eq_emod_of_nonneg (by omega)]; omega
      have e2 : ((P : Nat) : Int).tdiv 64 = (ix : Int) := by rw [Int.tdiv_eq_ediv_of_nonneg (by omega)]; omega
      have e3 : (if ((n - k : Nat) : Int) < 64 - (fr : Int) then ((n - k : Nat) : Int) else 64 - (fr : Int)) = (m : Int) := by split <;> omega
      have e4 : (if 64 - (fr : Int) < ((n - k : Nat) : Int) then 64 - (fr : Int) else ((n - k : Nat) : Int)) = (m : Int) := by split <;> omega
      obtain ⟨gf, go, rfl, hcF⟩ := HF.out.2 (by omega)
      have hFL : F.length = L := by have := HF.out.1; simpa [nums] using this
      have hfk : F[ix]? = some (F[ix]'(by omega)) := List.getElem?_eq_getElem _
      have c7 := hcF ix hixL
      rw [show (nums F).getD ix 0 = ((F[ix]'(by omega) : Nat) : Int) from by simp [nums, List.getD, hfk]] at c7
      obtain ⟨fx, hfx⟩ : ∃ fx, fx = F[ix]'(by omega) := ⟨_, rfl⟩
      rw [← hfx] at c7 hfk
      have ff := TK.out fx (List.mem_of_getElem? hfk)
      clear hfx
      have nW : ∀ p v, p.block ≠ g → w.cell? p = some v → wr.cell? p = some v := fun p v hp hc => HT.out.cell hc hp
      have x1 := nW _ _ (show (⟨S, 0, none⟩ : Addr).block ≠ g from fun e => DS.out.1 e.symm) C0.out
      have x2 := nW _ _ (show (⟨B, 1, none⟩ : Addr).block ≠ g from fun e => DS.out.2 e.symm) CB.out
      have x3 := nW _ _ (show (⟨gf, go + ix, none⟩ : Addr).block ≠ g from DF.out gf go rfl) c7
      have frW := FR.out.touch HT.out (fun i e => DH.out i e)
      have LD := hide (fun (W : World) (b : Below wr.heap.size wr W) => load_any (S := S) (H := H) (c := c - k) ((b.cell (lt_of_cell? x1)).trans x1) (frW.below b) ff.1 ff.2 (show fr + m ≤ 64 by omega) ((b.block g (lt_of_heap hg)).trans hg) (show k + m ≤ cur.length by omega))
      have NX := hide (show ∀ j, j < k + m → (splice cur k ((st.part fx fr m).map (Value.int .u8)))[j]? = some (.int .u8 (byF st F (off + j))) from fun j hj => by
        have hl9 : ((st.part fx fr m).map (Value.int .u8)).length = m := by rw [List.length_map, part_len]
        by_cases h1 : j < k
        · rw [splice_old (by rw [hl9]; omega) h1]; exact hcur j h1
        · rw [splice_new (by rw [hl9]; omega) (by omega) (by rw [hl9]; omega), part_at _ _ _ _ _ (by omega)]
          unfold byF
          have q1 : (off + j) / 64 = ix := by omega
          have q2 : (off + j) % 64 = fr + (j - k) := by omega
          rw [q1, q2, List.getD_eq_getElem?_getD, hfk]; rfl)
      have NL := hide (show (splice cur k ((st.part fx fr m).map (Value.int .u8))).length = n from by
        rw [splice_len (by rw [List.length_map, part_len]; omega)]; exact hlen)
      have M5 := hide (show 0 < m ∧ m ≤ n - k ∧ m ≤ 64 ∧ P = off + k from by omega)
      have i1 : (0 : Int) < ((n - k : Nat) : Int) := by omega
      have i2 : ((P : Nat) : Int) ≤ 3000 := by omega
      have i3 : (fr : Int) < 64 := by omega
      have i4 : (ix : Int) < (L : Int) := by omega
      have i5 : (0 : Int) ≤ (ix : Int) := by omega
      have i6 : (0 : Int) ≤ (m : Int) := by omega
      have i7 : (m : Int) ≤ ((c - k : Nat) : Int) := by omega
      have i8 : (m : Int) ≤ ((n - k : Nat) : Int) := by omega
      have i9 : (m : Int) ≤ 64 := by omega
      have i10 : (0 : Int) ≤ (fr : Int) := by omega
      have i11 : ((n - k : Nat) : Int) ≤ 1000 := by omega
      have e5 : IntKind.i64.wrap (((P : Nat) : Int).tdiv 64) = (ix : Int) := by rw [e2, IntKind.wrap_i64]; omega
      have e6 : IntKind.i64.wrap (ix : Int) = (ix : Int) := by rw [IntKind.wrap_i64]; omega
      have i12 : (ix : Int) ≤ 8 := by omega
      have i14 : ix < L := by omega
      have i15 : m ≤ n - k := by omega
      have i16 : m ≤ c - k := by omega
      have i13 : (L : Int) ≤ 8 := by omega
      clear hg hcur hlen hfk ff frW hm hP hfr hix c7 hcF f1 f2 f3 f4 f5 f6 hFL hixL hfr64 hT
      go_upto_region 4 with fail
      go_region_held3 (fun w' => w'.cell? ⟨B, 1, none⟩ = some (.slice (some ⟨gf, go, none⟩) L fc) ∧ w'.cell? ⟨gf, go + ix, none⟩ = some (.int .i64 (fx : Int))) (first | exact ⟨x2, x3⟩ | exact qq) (first
        | (go_at_call 73; refine (LD.out _ (Below.refl wr.heap.size wr).drew).mono ?_; rintro e w2 ⟨rfl, g2, u2⟩; have G2 := hide g2; have T2 := hide ((HT.out.drewN 1).trans u2 (fun i e => .inl e)); have qq := (show w2.cell? ⟨B, 1, none⟩ = some (.slice (some ⟨gf, go, none⟩) L fc) ∧ w2.cell? ⟨gf, go + ix, none⟩ = some (.int .i64 (fx : Int)) from ⟨u2.cell x2 (fun e => DS.out.2 e.symm), u2.cell x3 (DF.out gf go rfl)⟩); clear g2 u2))
      clear e1 e2 e3 e4 nW x1 x2 x3 LD
      go_upto_region 7 with fail
      by_cases hcm : c - k = m
      · go_quiet (fail)
        go_wp2_with fail
        go_roundw
        case rel => exact ⟨k + m, some ⟨g, k, none⟩, 0, by have := M5.out; omega, by rw [M5.out.2.2.2]; exact ret_val (by push_cast; omega), by rw [Nat.sub_sub], fun h => by have := FA.out; have := M5.out; omega, T2.out.drewN _, _, G2.out, NL.out, NX.out⟩
        case measure => have := M5.out; simp [intOf]; omega
      · have hcm' : m < c - k := by have := M5.out; have := FA.out; omega
        go_quiet (fail)
        go_wp2_with fail
        go_roundw
        case rel => exact ⟨k + m, some ⟨g, k + m, none⟩, c - k - m, by have := M5.out; omega, by rw [M5.out.2.2.2]; exact ret_val (by push_cast; omega), by rw [Nat.sub_sub], fun h => ⟨rfl, Nat.sub_sub ..⟩, T2.out.drewN _, _, G2.out, NL.out, NX.out⟩
        case measure => have := M5.out; simp [intOf]; omega
    · obtain rfl : k = n := by omega
      rw [Nat.sub_self]
      go_wp2_with fail
      go_ret
      obtain ⟨-, hT, cur, hg, hlen, hcur⟩ := hG.out
      refine ⟨rfl, ?_, hT⟩
      rw [hg]
      congr 3
      refine List.ext_getElem? fun j => ?_
      by_cases hj : j < k
      · rw [hcur j hj, List.map_map, List.getElem?_map, List.getElem?_range hj]; rfl
      · rw [List.getElem?_eq_none (by omega), List.getElem?_eq_none (by simp; omega)]
end Go.Proofs.YtndfnglcichngaaGreatDoor
namespace Go.Proofs.YtndfnglcichngaaGreatDoor
open Go.ChangeShapes Go.WideShapes Go.ChangeAt Go.RowKit Go.Maps
set_option linter.unusedVariables false
set_option linter.unusedSimpArgs false
/-- k bytes are written. -/
structure Wrk (w wr : World) (H A Q : Nat) (st : St) (F : List Nat) (L off : Nat) (ys : List Int) (k : Nat) (st' : St) : Prop where
  fr : Fr wr H A Q st'
  tch : Touch (fun i => i = A) w wr
  n : st'.n = st.n
  tk : st'.tk = st.tk
  fs : st'.fr = st.fr
  oth : ∀ f, f ∉ F → st'.bt f = st.bt f
  byt : ∀ o, o < L * 64 → byF st' F o = if off ≤ o ∧ o < off + k then ys.getD (o - off) 0 else byF st F o
theorem getD_nodup {F : List Nat} (nd : F.Nodup) {i j : Nat} (hi : i < F.length) (hj : j < F.length) (e : F.getD i 0 = F.getD j 0) : i = j := by
  rw [List.getD_eq_getElem?_getD, List.getD_eq_getElem?_getD, List.getElem?_eq_getElem hi, List.getElem?_eq_getElem hj] at e
  have e' : F[i] = F[j] := e
  rcases Nat.lt_trichotomy i j with h | h | h
  · exact absurd e' (List.pairwise_iff_getElem.1 nd i j hi hj h)
  · exact h
  · exact absurd e'.symm (List.pairwise_iff_getElem.1 nd j i hj hi h)
/-- A piece of what lies anywhere. -/
theorem ints_piece_at {w : World} {g off k m n : Nat} {o : List Int} (h : Ints .u8 w (some ⟨g, off, none⟩) n o) (hk : k + m ≤ n) : Ints .u8 w (some ⟨g, off + k, none⟩) m ((o.drop k).take m) := by
  refine ⟨by rw [List.length_take, List.length_drop, h.1]; omega, fun hm => ⟨g, off + k, rfl, fun j hj => ?_⟩⟩
  obtain ⟨b, off', e, hc⟩ := h.2 (by omega)
  injection e with e
  injection e with e1 e2 _
  subst e1 e2
  have := hc (k + j) (by omega)
  rw [Nat.add_assoc, this, List.getD_eq_getElem?_getD, List.getD_eq_getElem?_getD, List.getElem?_take, if_pos hj, List.getElem?_drop]
theorem Wrk.next {w wr w2 : World} {H A Q : Nat} {st st' : St} {F : List Nat} {L off k m fr ix fx : Nat} {ys : List Int} (h : Wrk w wr H A Q st F L off ys k st') (nd : F.Nodup) (hL : F.length = L) (hix : ix < L) (hfx : F.getD ix 0 = fx) (hP : off + k = ix * 64 + fr) (hm : fr + m ≤ 64) (hy : k + m ≤ ys.length)
    (f2 : Fr w2 H A Q (st'.put fx fr ((ys.drop k).take m))) (u : Touch (fun i => i = A) wr w2) : Wrk w w2 H A Q st F L off ys (k + m) (st'.put fx fr ((ys.drop k).take m)) := by
  have hl : ((ys.drop k).take m).length = m := by rw [List.length_take, List.length_drop]; omega
  have hin : fx ∈ F := by
    rw [← hfx, List.getD_eq_getElem?_getD, List.getElem?_eq_getElem (by omega)]; exact List.getElem_mem _
  refine ⟨f2, h.tch.trans u (fun i e => .inl e), h.n, h.tk, h.fs, fun f hf => ?_, fun o ho => ?_⟩
  · show upd st'.bt fx _ f = _
    rw [upd_other _ _ (fun e => hf (by rw [e]; exact hin))]; exact h.oth f hf
  · show upd st'.bt fx (over (st'.bt fx) fr ((ys.drop k).take m)) (F.getD (o / 64) 0) (o % 64) = _
    have hb := h.byt o ho
    unfold byF at hb
    by_cases e : o / 64 = ix
    · rw [e] at hb ⊢
      rw [hfx] at hb ⊢
      rw [upd_same]
      unfold over
      rw [hl]
      by_cases h1 : fr ≤ o % 64 ∧ o % 64 < fr + m
      · rw [if_pos h1, if_pos (by omega), List.getD_eq_getElem?_getD, List.getElem?_take, if_pos (by omega), List.getElem?_drop, show k + (o % 64 - fr) = o - off from by omega, List.getD_eq_getElem?_getD]
      · rw [if_neg h1, hb]
        by_cases h2 : off ≤ o ∧ o < off + k
        · rw [if_pos h2, if_pos (by omega)]
        · rw [if_neg h2, if_neg (by omega)]; unfold byF; rw [e, hfx]
    · rw [upd_other _ _ (fun e2 => e (getD_nodup nd (by omega) (by omega) (e2.trans hfx.symm))), hb]
      by_cases h2 : off ≤ o ∧ o < off + k
      · rw [if_pos h2, if_pos (by omega)]
      · rw [if_neg h2, if_neg (by omega)]; rfl
set_option maxRecDepth 10000 in
set_option maxHeartbeats 4000000 in
/-- over with Write: bytes are put. -/
theorem over_write {w : World} {H A Q B L fc n c off : Nat} {st : St} {F : List Nat} {fa a0 : Option Addr} {ys : List Int} (f : Fr w H A Q st) (cB : w.cell? ⟨B, 1, none⟩ = some (.slice fa L fc)) (hF : Ints .i64 w fa L (nums F)) (hL : L ≤ 8) (nd : F.Nodup)
    (tk : ∀ x ∈ F, x < st.n ∧ st.tk x = true) (hi : Ints .u8 w a0 n ys) (hby : Bytes ys) (hroom : 0 < n → off + n ≤ L * 64) (hoff : off ≤ 1000) (hc : n ≤ c) (hc2 : c ≤ maxLen)
    (dB : B ≠ A) (dF : ∀ b o, fa = some ⟨b, o, none⟩ → b ≠ A) (dI : ∀ b o, a0 = some ⟨b, o, none⟩ → b ≠ A) :
    Calls Tryz.prog 67 #[.pointer (some ⟨B, 0, none⟩), .int .i64 (off : Nat), .slice a0 n c, .func (.func 69) #[.pointer (some ⟨H, 0, none⟩)] #[]] w fun e w' =>
      e = .returned (.int .i64 0) ∧ ∃ st', Wrk w w' H A Q st F L off ys n st' := by
  have HF := hide hF
  have TK := hide tk
  have CB := hide cB
  have ND := hide nd
  have HI := hide hi
  have BY := hide hby
  have FA := hide (show n ≤ c ∧ c ≤ maxLen ∧ L ≤ 8 ∧ off ≤ 1000 ∧ (0 < n → off + n ≤ L * 64) ∧ F.length = L ∧ ys.length = n from ⟨hc, hc2, hL, hoff, hroom, by have := hF.1; simpa [nums] using this, hi.1⟩)
  have DB := hide dB
  have DF := hide dF
  have DI := hide dI
  have G0 := hide (show Wrk w w H A Q st F L off ys 0 st from ⟨f, Touch.refl _ _, rfl, rfl, rfl, fun _ _ => rfl, fun o _ => by rw [if_neg (by omega)]⟩)
  clear f cB hF tk hroom dB dF nd hby hi dI hc2
  go_enter Tryz.func67, Tryz.ntmps67
  go_wp2_with fail
  go_loopw [1, 2] (fun ov bv wr => ∃ (k : Nat) (a : Option Addr) (cc : Nat) (st' : St), k ≤ n ∧ ov = .int .i64 ((off + k : Nat) : Int) ∧ bv = .slice a (n - k) cc ∧ Hid ((k < n → cc = c - k ∧ ∃ ab ao, a0 = some ⟨ab, ao, none⟩ ∧ a = some ⟨ab, ao + k, none⟩) ∧ Wrk w wr H A Q st F L off ys k st')) (fun ov _ _ => off + n - (intOf ov).toNat)
  case atStart => exact ⟨0, _, _, _, Nat.zero_le _, rfl, rfl, fun h => ⟨rfl, by obtain ⟨ab, ao, e, _⟩ := HI.out.2 h; exact ⟨ab, ao, e, e⟩⟩, G0.out⟩
  case round =>
    clear G0
    obtain ⟨k, a, cc, st', hk, rfl, rfl, hG⟩ := hrel
    by_cases hlt : k < n
    · obtain ⟨rfl, ab, ao, ea, rfl⟩ := hG.out.1 hlt
      have HT := hide hG.out.2
      obtain ⟨f1, f2, f3, f4, f5, hFL, hyl⟩ := FA.out
      have f6 := f5 (by omega)
      obtain ⟨P, hP⟩ : ∃ P, P = off + k := ⟨_, rfl⟩
      rw [← hP]
      obtain ⟨fr, hfr⟩ : ∃ fr, fr = P % 64 := ⟨_, rfl⟩
      obtain ⟨ix, hix⟩ : ∃ ix, ix = P / 64 := ⟨_, rfl⟩
      have hfr64 : fr < 64 := by omega
      have hixL : ix < L := by omega
      obtain ⟨m, hm⟩ : ∃ m, m = min (n - k) (64 - fr) := ⟨_, rfl⟩
      have e1 : ((P : Nat) : Int).tmod 64 = (fr : Int) := by rw [Int.tmod_eq_emod_of_nonneg (by omega)]; omega
      have e2 : ((P : Nat) : Int).tdiv 64 = (ix : Int) := by rw [Int.tdiv_eq_ediv_of_nonneg (by omega)]; omega
      have e3 : (if ((n - k : Nat) : Int) < 64 - (fr : Int) then ((n - k : Nat) : Int) else 64 - (fr : Int)) = (m : Int) := by split <;> omega
      have e4 : (if 64 - (fr : Int) < ((n - k : Nat) : Int) then 64 - (fr : Int) else ((n - k : Nat) : Int)) = (m : Int) := by split <;> omega
      obtain ⟨gf, go, rfl, hcF⟩ := HF.out.2 (by omega)
      have hfk : F[ix]? = some (F[ix]'(by omega)) := List.getElem?_eq_getElem _
      have c7 := hcF ix hixL
      rw [show (nums F).getD ix 0 = ((F[ix]'(by omega) : Nat) : Int) from by simp [nums, List.getD, hfk]] at c7
      obtain ⟨fx, hfx⟩ : ∃ fx, fx = F[ix]'(by omega) := ⟨_, rfl⟩
      rw [← hfx] at c7 hfk
      have FX := hide (show F.getD ix 0 = fx from by rw [List.getD_eq_getElem?_getD, hfk]; rfl)
      have ff := TK.out fx (List.mem_of_getElem? hfk)
      clear hfx
      have nW : ∀ p v, p.block ≠ A → w.cell? p = some v → wr.cell? p = some v := fun p v hp hc => HT.out.tch.cell hc hp
      have x2 := nW _ _ (show (⟨B, 1, none⟩ : Addr).block ≠ A from DB.out) CB.out
      have x3 := nW _ _ (show (⟨gf, go + ix, none⟩ : Addr).block ≠ A from DF.out gf go rfl) c7
      have inW : Ints .u8 wr (some ⟨ab, ao + k, none⟩) m ((ys.drop k).take m) := HT.out.tch.ints (ints_piece_at (ea ▸ HI.out) (show k + m ≤ n by omega)) (fun b o e => by injection e with e; injection e with e1 _ _; rw [← e1]; exact DI.out ab ao ea)
      have WT := hide (fun (W : World) (b : Below wr.heap.size wr W) => write_ok (HT.out.fr.below b) fx fr (by rw [HT.out.n]; exact ff.1) (by rw [HT.out.tk]; exact ff.2) (some ⟨ab, ao + k, none⟩) m (c - k) ((ys.drop k).take m) (inW.below b) (fun y hy => BY.out y (List.mem_of_mem_drop (List.mem_of_mem_take hy))) (show fr + m ≤ 64 by omega))
      have M5 := hide (show 0 < m ∧ m ≤ n - k ∧ m ≤ 64 ∧ P = off + k ∧ off + k = ix * 64 + fr ∧ fr + m ≤ 64 ∧ k + m ≤ ys.length ∧ ix < L ∧ m ≤ c - k from by omega)
      have EA := hide ea
      have i1 : (0 : Int) < ((n - k : Nat) : Int) := by omega
      have i2 : ((P : Nat) : Int) ≤ 3000 := by omega
      have i3 : (fr : Int) < 64 := by omega
      have i4 : (ix : Int) < (L : Int) := by omega
      have i5 : (0 : Int) ≤ (ix : Int) := by omega
      have i6 : (0 : Int) ≤ (m : Int) := by omega
      have i7 : (m : Int) ≤ ((c - k : Nat) : Int) := by omega
      have i8 : (m : Int) ≤ ((n - k : Nat) : Int) := by omega
      have i9 : (m : Int) ≤ 64 := by omega
      have i10 : (0 : Int) ≤ (fr : Int) := by omega
      have i11 : ((n - k : Nat) : Int) ≤ 1000 := by omega
      have e5 : IntKind.i64.wrap (((P : Nat) : Int).tdiv 64) = (ix : Int) := by rw [e2, IntKind.wrap_i64]; omega
      have e6 : IntKind.i64.wrap (ix : Int) = (ix : Int) := by rw [IntKind.wrap_i64]; omega
      have i12 : (ix : Int) ≤ 8 := by omega
      have i13 : (L : Int) ≤ 8 := by omega
      have i14 : ix < L := by omega
      have i15 : m ≤ n - k := by omega
      have i16 : m ≤ c - k := by omega
      clear hfk ff hm hP hfr hix c7 hcF f1 f2 f3 f4 f5 f6 hFL hyl hixL hfr64 inW ea
      go_upto_region 4 with fail
      go_region_held3 (fun w' => w'.cell? ⟨B, 1, none⟩ = some (.slice (some ⟨gf, go, none⟩) L fc) ∧ w'.cell? ⟨gf, go + ix, none⟩ = some (.int .i64 (fx : Int))) (first | exact ⟨x2, x3⟩ | exact qq) (first
        | (go_at_call 69; refine (WT.out _ (Below.refl wr.heap.size wr).drew).mono ?_; rintro e w2 ⟨rfl, g2, u2⟩; have G2 := hide (HT.out.next ND.out FA.out.2.2.2.2.2.1 M5.out.2.2.2.2.2.2.2.1 FX.out M5.out.2.2.2.2.1 M5.out.2.2.2.2.2.1 M5.out.2.2.2.2.2.2.1 g2 (((Touch.refl (fun i => i = A) wr).drewN 1).trans u2 (fun i e => .inl e))); have qq := (show w2.cell? ⟨B, 1, none⟩ = some (.slice (some ⟨gf, go, none⟩) L fc) ∧ w2.cell? ⟨gf, go + ix, none⟩ = some (.int .i64 (fx : Int)) from ⟨u2.cell x2 DB.out, u2.cell x3 (DF.out gf go rfl)⟩); clear g2 u2))
      clear e1 e2 e3 e4 nW x2 x3 WT
      go_upto_region 7 with fail
      have LAST := hide (fun (W : World) (u : Wrk w W H A Q st F L off ys (k + m) (st'.put fx fr ((ys.drop k).take m))) (nq : Nat) => show Wrk w (W.drewN nq) H A Q st F L off ys (k + m) (st'.put fx fr ((ys.drop k).take m)) from ⟨u.fr.below (below_drewN (Below.refl _ _) nq), u.tch.drewN nq, u.n, u.tk, u.fs, u.oth, u.byt⟩)
      by_cases hcm : c - k = m
      · go_quiet (fail)
        go_wp2_with fail
        go_roundw
        case rel => exact ⟨k + m, some ⟨ab, ao + k, none⟩, 0, _, by have := M5.out; omega, by rw [M5.out.2.2.2.1]; exact ret_val (by push_cast; omega), by rw [Nat.sub_sub], fun h => by have := FA.out; have := M5.out; omega, LAST.out _ G2.out _⟩
        case measure => have := M5.out; simp [intOf]; omega
      · have hcm' : m < c - k := by have := M5.out; omega
        go_quiet (fail)
        go_wp2_with fail
        go_roundw
        case rel => exact ⟨k + m, some ⟨ab, ao + k + m, none⟩, c - k - m, _, by have := M5.out; omega, by rw [M5.out.2.2.2.1]; exact ret_val (by push_cast; omega), by rw [Nat.sub_sub], fun h => ⟨Nat.sub_sub .., ab, ao, EA.out, by rw [Nat.add_assoc]⟩, LAST.out _ G2.out _⟩
        case measure => have := M5.out; simp [intOf]; omega
    · obtain rfl : k = n := by omega
      rw [Nat.sub_self]
      go_wp2_with fail
      go_ret
      exact ⟨rfl, _, hG.out.2⟩
end Go.Proofs.YtndfnglcichngaaGreatDoor
