/-
  Contracts of the document's own Take of frames.
-/
import Derived.Test.YtipepklobpnbpaaRfNew
import Derived.Deep.DeepCutAuto
import Derived.Deep.Cut
namespace Go.Proofs.Ytipepklobpnbpaa
open Go.ChangeShapes Go.WideShapes Go.ChangeAt Go.RowKit
set_option linter.unusedVariables false
theorem rtake_full {w : World} {P : Nat → Prop} {R t b : Nat} {s : St} {fresh : Nat} (h : Rf w P R t b s fresh []) (e : fresh = s.n) :
    Calls Try.prog 44 #[.pointer (some ⟨R, 0, none⟩)] w fun e w' => e = .returned (.tuple #[.int .i64 0, .int .i64 3]) ∧ ∃ m, w' = w.drewN m := by
  have h0 := h.r0
  have h3 := h.r3
  obtain ⟨a, c, h2, _⟩ := h.r2
  rw [e] at h3
  have h2 : w.cell? ⟨R, 2, none⟩ = some (.slice a 0 c) := h2
  have ee : ((s.n : Int) == (s.n : Int)) = true := by simp
  clear h e
  go_enter Try.func44, Try.ntmps44
  go_wp2_with fail
  go_quiet (fail)
  go_wp2_with fail
  go_ret2
  exact ⟨rfl, _, rfl⟩
theorem Hd.drewN {w : World} {P : Nat → Prop} {R t b n fresh : Nat} {back : List Nat} (h : Hd w P R t b n fresh back) (m : Nat) : Hd (w.drewN m) P R t b n fresh back := h
theorem Hd.set3 {w : World} {P : Nat → Prop} {R t b n fresh : Nat} {back : List Nat} (h : Hd w P R t b n fresh back) (f' : Int) (fresh' : Nat) (e : f' = (fresh' : Int)) : Hd (w.setCell ⟨R, 3, none⟩ (.int .i64 f')) P R t b n fresh' back := by
  obtain ⟨v, eh, ho, hv⟩ := h
  refine ⟨v, by rw [heap_setCell_same _ _ _ _ _ _ eh, e]; rfl, ?_, hv⟩
  exact touch_one.own ho (fun g hg e => (hv g hg).2 (.inl e))
theorem Hd.set2 {w : World} {P : Nat → Prop} {R t b n fresh : Nat} {back back' : List Nat} (h : Hd w P R t b n fresh back) {v' : Value} (ho : w.ownsRow 0 3 1 v' back'.length ((nums back').map (Value.int .i64))) (hv : ∀ g, v'.ownBlock = some g → Far P R t b g) : Hd (w.setCell ⟨R, 2, none⟩ v') P R t b n fresh back' := by
  obtain ⟨v, eh, _, _⟩ := h
  refine ⟨v', by rw [heap_setCell_same _ _ _ _ _ _ eh]; rfl, ?_, hv⟩
  exact touch_one.own ho (fun g hg e => (hv g hg).2 (.inl e))
theorem touch_rs {w w' : World} {R t b g j : Nat} {v : Value} (h : Touch (RS R t b) w w') (hg : RS R t b g) : Touch (RS R t b) w (w'.setCell ⟨g, j, none⟩ v) := h.setCell (p := ⟨g, j, none⟩) hg v
/-- The parts, while a call is under way. -/
def Mid (w W : World) (P : Nat → Prop) (R t b n fresh : Nat) (back : List Nat) (tk' tk : Nat → Bool) (bt : Nat → Nat → Int) : Prop :=
  Hd W P R t b n fresh back ∧ TkRow W t n tk' ∧ ByRow W P R t b n tk bt ∧ Touch (RS R t b) w W
theorem Mid.setT {w W : World} {P : Nat → Prop} {R t b n fresh : Nat} {back : List Nat} {tk' tk : Nat → Bool} {bt : Nat → Nat → Int} (h : Mid w W P R t b n fresh back tk' tk bt) (d1 : R ≠ t) (d3 : t ≠ b) (x : Nat) (hx : x < n) (v : Bool) : Mid w (W.setCell ⟨t, x, none⟩ (.bool v)) P R t b n fresh back (upd tk' x v) tk bt :=
  ⟨h.1.touch touch_one d1 (fun g hg e => hg.2 (.inr (.inl e))), h.2.1.set x hx v, h.2.2.1.touch touch_one (Ne.symm d3) (fun g hg e => hg.2 (.inr (.inl e))), touch_rs h.2.2.2 (.inr (.inl rfl))⟩
theorem Rf.mid {w : World} {P : Nat → Prop} {R t b : Nat} {s : St} {fresh : Nat} {back : List Nat} (h : Rf w P R t b s fresh back) (m : Nat) : Mid w (w.drewN m) P R t b s.n fresh back s.tk s.tk s.bt :=
  have u : Touch (fun _ => False) w (w.drewN m) := (Touch.refl _ w).drewN m
  ⟨h.hd, h.tk.touch u (fun e => e), h.by_.touch u (fun e => e) (fun _ _ e => e), (Touch.refl _ w).drewN m⟩
theorem Mid.touch {S : Nat → Prop} {w W W' : World} {P : Nat → Prop} {R t b n fresh : Nat} {back : List Nat} {tk' tk : Nat → Bool} {bt : Nat → Nat → Int} (h : Mid w W P R t b n fresh back tk' tk bt) (u : Touch S W W') (hS : ∀ i, S i → w.heap.size ≤ i ∧ ¬ Far P R t b i) (hR : ∀ i, RS R t b i → i < w.heap.size) : Mid w W' P R t b n fresh back tk' tk bt :=
  ⟨h.1.touch u (fun e => by have := (hS _ e).1; have := hR R (.inl rfl); omega) (fun g hg e => (hS _ e).2 hg), h.2.1.touch u (fun e => by have := (hS _ e).1; have := hR t (.inr (.inl rfl)); omega),
    h.2.2.1.touch u (fun e => by have := (hS _ e).1; have := hR b (.inr (.inr rfl)); omega) (fun g hg e => (hS _ e).2 hg), h.2.2.2.trans u (fun i e => .inr (hS i e).1)⟩
theorem Mid.set3 {w W : World} {P : Nat → Prop} {R t b n fresh : Nat} {back : List Nat} {tk' tk : Nat → Bool} {bt : Nat → Nat → Int} (h : Mid w W P R t b n fresh back tk' tk bt) (d1 : R ≠ t) (d2 : R ≠ b) (f' : Int) (fresh' : Nat) (e : f' = (fresh' : Int)) : Mid w (W.setCell ⟨R, 3, none⟩ (.int .i64 f')) P R t b n fresh' back tk' tk bt :=
  ⟨h.1.set3 f' fresh' e, h.2.1.touch touch_one (Ne.symm d1), h.2.2.1.touch touch_one (Ne.symm d2) (fun g hg e => hg.2 (.inl e)), touch_rs h.2.2.2 (.inl rfl)⟩
theorem Mid.set2 {w W : World} {P : Nat → Prop} {R t b n fresh : Nat} {back back' : List Nat} {tk' tk : Nat → Bool} {bt : Nat → Nat → Int} (h : Mid w W P R t b n fresh back tk' tk bt) (d1 : R ≠ t) (d2 : R ≠ b) {v' : Value} (ho : W.ownsRow 0 3 1 v' back'.length ((nums back').map (Value.int .i64))) (hv : ∀ g, v'.ownBlock = some g → Far P R t b g) :
    Mid w (W.setCell ⟨R, 2, none⟩ v') P R t b n fresh back' tk' tk bt :=
  ⟨h.1.set2 ho hv, h.2.1.touch touch_one (Ne.symm d1), h.2.2.1.touch touch_one (Ne.symm d2) (fun g hg e => hg.2 (.inl e)), touch_rs h.2.2.2 (.inl rfl)⟩
theorem Mid.r1 {w W : World} {P : Nat → Prop} {R t b n fresh : Nat} {back : List Nat} {tk' tk : Nat → Bool} {bt : Nat → Nat → Int} (h : Mid w W P R t b n fresh back tk' tk bt) : W.cell? ⟨R, 1, none⟩ = some (.slice (some ⟨b, 0, none⟩) n n) := by obtain ⟨v, e, _⟩ := h.1; rw [cell_of_row _ _ _ _ _ _ e]; rfl
theorem Mid.r0 {w W : World} {P : Nat → Prop} {R t b n fresh : Nat} {back : List Nat} {tk' tk : Nat → Bool} {bt : Nat → Nat → Int} (h : Mid w W P R t b n fresh back tk' tk bt) : W.cell? ⟨R, 0, none⟩ = some (.slice (some ⟨t, 0, none⟩) n n) := by obtain ⟨v, e, _⟩ := h.1; rw [cell_of_row _ _ _ _ _ _ e]; rfl
theorem Mid.r2 {w W : World} {P : Nat → Prop} {R t b n fresh : Nat} {back : List Nat} {tk' tk : Nat → Bool} {bt : Nat → Nat → Int} (h : Mid w W P R t b n fresh back tk' tk bt) : ∃ v, W.cell? ⟨R, 2, none⟩ = some v := by obtain ⟨v, e, _⟩ := h.1; exact ⟨v, by rw [cell_of_row _ _ _ _ _ _ e]; rfl⟩
theorem Mid.rf {w W : World} {P : Nat → Prop} {R t b n fresh : Nat} {back : List Nat} {tk' tk : Nat → Bool} {bt : Nat → Nat → Int} (h : Mid w W P R t b n fresh back tk' tk bt) (j : Nat) : W.frozen? ⟨R, j, none⟩ = false := by obtain ⟨v, e, _⟩ := h.1; exact frozen_of_row _ _ _ _ _ e
theorem Mid.below {w W W' : World} {P : Nat → Prop} {R t b n fresh : Nat} {back : List Nat} {tk' tk : Nat → Bool} {bt : Nat → Nat → Int} (h : Mid w W P R t b n fresh back tk' tk bt) (u : Below W.heap.size W W') (hR : ∀ i, RS R t b i → i < w.heap.size) : Mid w W' P R t b n fresh back tk' tk bt :=
  h.touch (S := fun _ => False) (Touch.of_below u) (fun _ e => e.elim) hR
theorem drop_one {w w1 : World} {row : Option Nat} (h : w.drew.grownBy w1 row) (hr : row = none := by rfl) : Below w.heap.size w w1 := by
  subst hr
  exact ⟨h.os, h.tape, h.output, h.size, fun k hk => h.block k hk (fun e => by cases e)⟩
/-- The end of Take: new bytes stand in x. -/
theorem take_end {w W W2 : World} {P : Nat → Prop} {R t b : Nat} {s : St} {fresh0 fresh : Nat} {back0 back l : List Nat} {x : Nat} (h : Rf w P R t b s fresh0 back0) (hm : Mid w W P R t b s.n fresh back (upd s.tk x true) s.tk s.bt) (hfr : s.fr = l ++ [x]) (hl : l = fallen s.n (s.n - fresh) ++ back) (hle : fresh ≤ s.n)
    (hW : ∃ m, W2 = (W.alloc (.cells zero64 5)).drewN m) : Rf (W2.setCell ⟨b, x, none⟩ (.slice (some ⟨W.heap.size, 0, none⟩) 64 64)) P R t b (s.take l x) fresh back ∧ Touch (RS R t b) w (W2.setCell ⟨b, x, none⟩ (.slice (some ⟨W.heap.size, 0, none⟩) 64 64)) := by
  obtain ⟨m, rfl⟩ := hW
  have hx : x < s.n := h.good.lt x (by rw [hfr]; simp)
  have htx : s.tk x = false := (h.good.free x hx).1 (by rw [hfr]; simp)
  have u : Touch (fun _ => False) W ((W.alloc (.cells zero64 5)).drewN m) := ((Touch.refl _ W).alloc _).drewN m
  have hm2 := hm.touch u (fun _ e => e.elim) h.lt
  have hf : Far P R t b W.heap.size := h.far hm.2.2.2.size
  have hi : Ints .u8 ((W.alloc (.cells zero64 5)).drewN m) (some ⟨W.heap.size, 0, none⟩) 64 ((List.range 64).map ((s.take l x).bt x)) := by
    have e : (List.range 64).map ((s.take l x).bt x) = List.replicate 64 0 := by
      have := part_zero h.good hx htx l
      unfold St.part at this
      simpa using this
    rw [e]
    obtain ⟨A, c, e1, hi, _⟩ := own_ints (own_zero64 W)
    injection e1 with e1 _ _
    rw [e1]; exact hi
  refine ⟨⟨good_take h.good hfr, hl, hle, hm2.1.touch touch_one h.dRb (fun g hg e => hg.2 (.inr (.inr e))), hm2.2.1.touch touch_one h.dtb, ?_, fun i hi => ?_, h.nP, h.dRt, h.dRb, h.dtb⟩, touch_rs hm2.2.2.2 (.inr (.inr rfl))⟩
  · refine hm2.2.2.1.set (tk' := upd s.tk x true) (bt' := s.bt) x hx (Nat.le_refl _) (by unfold maxLen; omega) hi hf (fun j hj hjx hjt => ?_) (fun _ _ _ => rfl)
    rw [upd_other _ _ hjx] at hjt; exact hjt
  · exact Nat.lt_of_lt_of_le (h.plt i hi) (touch_rs hm2.2.2.2 (.inr (.inr rfl))).size
set_option maxHeartbeats 2000000 in
theorem rtake_fresh {w : World} {P : Nat → Prop} {R t b : Nat} {s : St} {fresh : Nat} (h : Rf w P R t b s fresh []) (hlt : fresh < s.n) :
    Calls Try.prog 44 #[.pointer (some ⟨R, 0, none⟩)] w fun e w' => e = .returned (.tuple #[.int .i64 (fresh : Int), .int .i64 0]) ∧ Rf w' P R t b (s.take (fallen s.n (s.n - (fresh + 1))) fresh) (fresh + 1) [] ∧ Touch (RS R t b) w w' := by
  have h0 := h.r0
  have h1 := h.r1
  have h3 := h.r3
  have rf3 := h.rf 3
  obtain ⟨a, c, h2, _⟩ := h.r2
  have h2 : w.cell? ⟨R, 2, none⟩ = some (.slice a 0 c) := h2
  have n64 := h.good.n64
  have ee : ((fresh : Int) == (s.n : Int)) = false := by simp; omega
  have f0 : (0 : Int) ≤ (fresh : Int) := by omega
  have f1 : (fresh : Int) < (s.n : Int) := by omega
  have f2 : (s.n : Int) ≤ 64 := by omega
  have tc := h.tk.cell fresh hlt
  have tf := h.tk.frozen fresh
  obtain ⟨ob, hob⟩ := h.by_.has fresh hlt
  have bf := h.by_.frozen fresh
  have d1 := h.dRt
  have d2 := h.dRb
  have d3 := h.dtb
  have d1' := Ne.symm d1
  have d2' := Ne.symm d2
  have d3' := Ne.symm d3
  have hmk := run_make64
  generalize hzz : zero64 = ZZ at hmk
  have HZZ := hide hzz
  have HH := hide h
  clear hzz h
  go_enter Try.func44, Try.ntmps44
  go_wp2_with fail
  go_quiet (fail)
  go_upto_region 9 with fail
  have M8 := hide (((HH.out.mid nq).set3 d1 d2 ((fresh : Int) + 1) (fresh + 1) (by omega)).setT d1 d3 fresh hlt true)
  obtain ⟨W8, hW8⟩ : ∃ W8, W8 = (((w.drewN nq).setCell ⟨R, 3, none⟩ (.int .i64 ((fresh : Int) + 1))).setCell ⟨t, fresh, none⟩ (.bool true)) := ⟨_, rfl⟩
  rw [← hW8] at M8 ⊢
  have c1 := M8.out.r1
  obtain ⟨ob8, hob8⟩ := M8.out.2.2.1.has fresh hlt
  have bf8 := M8.out.2.2.1.frozen fresh
  have lR : R < W8.heap.size := M8.out.1.lt
  have lb : b < W8.heap.size := M8.out.2.2.1.lt
  have k1 : (W8.alloc (Obj.cells ZZ 5)).cell? ⟨R, 1, none⟩ = some (.slice (some ⟨b, 0, none⟩) s.n s.n) := by rw [World.cell?_alloc_past _ _ _ lR]; exact c1
  have k2 : (W8.alloc (Obj.cells ZZ 5)).cell? ⟨b, fresh, none⟩ = some ob8 := by rw [World.cell?_alloc_past _ _ _ lb]; exact hob8
  have k3 : (W8.alloc (Obj.cells ZZ 5)).frozen? ⟨b, fresh, none⟩ = false := by rw [World.frozen?_alloc_past _ _ _ lb]; exact bf8
  have hfr : s.fr = fallen s.n (s.n - (fresh + 1)) ++ [fresh] := by
    rw [HH.out.fr, List.append_nil, show s.n - fresh = s.n - (fresh + 1) + 1 by omega, fallen_succ]
    congr 2; omega
  have HF := hide hfr
  clear hW8 h0 h1 h2 h3 rf3 tc tf hob bf hfr
  go_region
  go_wp2_with fail
  have E := take_end HH.out M8.out HF.out (by rw [List.append_nil]) (by omega) ⟨1, rfl⟩
  have ew : (((W8.alloc (.cells zero64 5)).drewN 1).setCell ⟨b, fresh, none⟩ (.slice (some ⟨W8.heap.size, 0, none⟩) 64 64)) = ((W8.setCell ⟨b, fresh, none⟩ (.slice (some ⟨W8.heap.size, 0, none⟩) 64 64)).alloc (.cells zero64 5)).drew := by
    rw [← World.setCell_alloc_past _ _ _ _ lb]; rfl
  rw [ew, HZZ.out] at E
  go_ret2
  exact ⟨rfl, E.1, E.2⟩
/-- The one that came back last goes out. -/
theorem own_last {w : World} {q n c : Nat} {e : TypeId} {base : Nat} {xs : List Value} {x : Value} (h : w.ownsRow base e 1 (.slice (some ⟨q, 0, none⟩) (n + 1) c) (n + 1) (xs ++ [x])) : w.cell? ⟨q, n, none⟩ = some x ∧ ∀ j u, xs[j]? = some u → w.cell? ((⟨q, 0, none⟩ : Addr).add j) = some u := by
  have hl : xs.length = n := by have := h.1; simp at this; omega
  refine ⟨?_, fun j u hu => ?_⟩
  · rw [h.cellAt n (by omega), ← hl]; simp
  · have hj := (List.getElem?_eq_some_iff.1 hu).1
    exact h.cells rfl j u (by rw [List.getElem?_append_left hj]; exact hu)
set_option maxHeartbeats 4000000 in
theorem rtake_back {w : World} {P : Nat → Prop} {R t b : Nat} {s : St} {fresh : Nat} {l : List Nat} {x : Nat} (h : Rf w P R t b s fresh (l ++ [x])) :
    Calls Try.prog 44 #[.pointer (some ⟨R, 0, none⟩)] w fun e w' => e = .returned (.tuple #[.int .i64 (x : Int), .int .i64 0]) ∧ Rf w' P R t b (s.take (fallen s.n (s.n - fresh) ++ l) x) fresh l ∧ Touch (RS R t b) w w' := by
  obtain ⟨i0, hi0, hz0, hz1, hz2⟩ := info_parts int_info
  have h3 := h.r3
  obtain ⟨a, c, h2, ho, hv⟩ := h.r2
  have hlen : (l ++ [x]).length = l.length + 1 := by simp
  have hmap : (nums (l ++ [x])).map (Value.int .i64) = (nums l).map (Value.int .i64) ++ [Value.int .i64 (x : Int)] := by simp [nums]
  rw [hlen] at h2 ho hv
  rw [hmap] at ho
  obtain ⟨q, rfl⟩ : ∃ q, a = some ⟨q, 0, none⟩ := by
    rcases ho.2 with ⟨e, _⟩ | ⟨g, cap, cur, e, _⟩
    · cases e
    · injection e with e _ _; exact ⟨g, e⟩
  obtain ⟨hx, hl⟩ := own_last ho
  have hcap : l.length + 1 ≤ c := by
    obtain ⟨a', c', e, _, h4, _⟩ := own_sliceR ho
    injection e with _ _ e; omega
  have hcm : c ≤ maxLen := by
    obtain ⟨a', c', e, _, _, h4, _⟩ := own_sliceR ho
    injection e with _ _ e; omega
  have hfr : s.fr = (fallen s.n (s.n - fresh) ++ l) ++ [x] := by rw [h.fr, List.append_assoc]
  have hxn : x < s.n := h.good.lt x (by rw [hfr]; simp)
  have n64 := h.good.n64
  have hl64 : l.length ≤ 64 := by have := h.good.len; rw [hfr] at this; simp at this; omega
  have d1 := h.dRt
  have d2 := h.dRb
  have d3 := h.dtb
  have i0' : (0 : Int) ≤ (l.length : Int) := by omega
  have i2 : wrap64 (l.length : Int) = (l.length : Int) := by unfold wrap64; omega
  have i3 : IntKind.i64.wrap (l.length : Int) = (l.length : Int) := by rw [IntKind.wrap_i64]; omega
  have i4 : (l.length : Int) ≤ (c : Int) := by omega
  have i5 : (l.length : Int) < (l.length : Int) + 1 := by omega
  have i6 : (0 : Int) < (l.length : Int) + 1 := by omega
  have x0 : (0 : Int) ≤ (x : Int) := by omega
  have x1 : (x : Int) < (s.n : Int) := by omega
  have rf2 := h.rf 2
  have h0 := h.r0
  have hlR := h.lt R (.inl rfl)
  have HH := hide h
  have HV := hide hv
  have HLS := hide hl
  have HFR := hide hfr
  clear h ho hv hl hfr hmap hlen hcm n64
  go_enter Try.func44, Try.ntmps44
  go_wp2_with fail
  go_quiet (fail)
  go_upto_region 4 with fail
  have M1 := hide (HH.out.mid nq)
  have LS1 := hide (show ∀ W : World, W.heap = w.heap → ∀ j u, ((nums l).map (Value.int .i64))[j]? = some u → W.cell? ((⟨q, 0, none⟩ : Addr).add j) = some u from fun W hW j u hu => by
    have e1 : W.cell? ((⟨q, 0, none⟩ : Addr).add j) = w.cell? ((⟨q, 0, none⟩ : Addr).add j) := World.cell?_of_block (by rw [hW])
    rw [e1]; exact HLS.out j u hu)
  obtain ⟨W1, hW1⟩ : ∃ W1, W1 = w.drewN nq := ⟨_, rfl⟩
  have hh1 : W1.heap = w.heap := by rw [hW1]; rfl
  have h2' : W1.cell? ⟨R, 2, none⟩ = some (.slice (some ⟨q, 0, none⟩) (l.length + 1) c) := by rw [hW1]; exact h2
  have rf2' : W1.frozen? ⟨R, 2, none⟩ = false := by rw [hW1]; exact rf2
  rw [← hW1] at M1 ⊢
  have HH1 := hide hh1
  have HZ2 := hide hz2
  have lR1 : R < W1.heap.size := by rw [hh1]; exact hlR
  clear hW1 hh1 h2 h3 rf2 h0 hx hz2
  go_region_law ((refine step_append_rows (by rfl) _ _ _ (by rfl) W1.heap.size 3 i0 _ 1 8 Try.underlying67 hi0 hz0 hz1 HZ2.out rfl (by omega) (.slice none 0 0) 0 [] (by rfl) (World.ownsRow_nil _ _ _ _) ⟨q, 0, none⟩ l.length c ((nums l).map (Value.int .i64)) (by rfl) (by simp [nums]) (LS1.out W1.drew HH1.out) (ints_one _ _) (by unfold maxLen; omega) (by omega) (Nat.le_refl _) l.length (by omega) ?_; intro A2 c2 w2 o2 g2 hl2; have b2 : Below W1.heap.size W1 w2 := drop_one g2; have M2 := hide (M1.out.below b2 HH.out.lt); obtain ⟨v2, k2⟩ := M2.out.r2; have z2 := M2.out.rf 2; have O2 := hide o2; clear o2 g2 hl2 b2))
  all_goals
    have hF2 : ∀ g, (Value.slice A2 l.length c2).ownBlock = some g → Far P R t b g := fun g hg => HH.out.far (by rw [← HH1.out]; exact (O2.out.lt g hg).1)
    have M3 := hide (M2.out.set2 (back' := l) d1 d2 (own_base O2.out (Nat.zero_le _)) hF2)
    obtain ⟨W3, hW3⟩ : ∃ W3, W3 = w2.setCell ⟨R, 2, none⟩ (.slice A2 l.length c2) := ⟨_, rfl⟩
    rw [← hW3] at M3 ⊢
    have c0 := M3.out.r0
    have tc := M3.out.2.1.cell x hxn
    have tf := M3.out.2.1.frozen x
    clear hW3 hF2 k2 z2 h2' rf2'
    go_upto_region 9 with fail
    have M8 := hide (M3.out.setT d1 d3 x hxn true)
    obtain ⟨W8, hW8⟩ : ∃ W8, W8 = W3.setCell ⟨t, x, none⟩ (.bool true) := ⟨_, rfl⟩
    rw [← hW8] at M8 ⊢
    have c1 := M8.out.r1
    obtain ⟨ob8, hob8⟩ := M8.out.2.2.1.has x hxn
    have bf8 := M8.out.2.2.1.frozen x
    have lR : R < W8.heap.size := M8.out.1.lt
    have lb : b < W8.heap.size := M8.out.2.2.1.lt
    have hmk := run_make64
    generalize hzz : zero64 = ZZ at hmk
    have HZZ := hide hzz
    have k1 : (W8.alloc (Obj.cells ZZ 5)).cell? ⟨R, 1, none⟩ = some (.slice (some ⟨b, 0, none⟩) s.n s.n) := by rw [World.cell?_alloc_past _ _ _ lR]; exact c1
    have k2 : (W8.alloc (Obj.cells ZZ 5)).cell? ⟨b, x, none⟩ = some ob8 := by rw [World.cell?_alloc_past _ _ _ lb]; exact hob8
    have k3 : (W8.alloc (Obj.cells ZZ 5)).frozen? ⟨b, x, none⟩ = false := by rw [World.frozen?_alloc_past _ _ _ lb]; exact bf8
    clear hW8 hzz c0 tc tf
    go_region
    go_wp2_with fail
    have E := take_end HH.out M8.out HFR.out rfl HH.out.le ⟨1, rfl⟩
    have ew : (((W8.alloc (.cells zero64 5)).drewN 1).setCell ⟨b, x, none⟩ (.slice (some ⟨W8.heap.size, 0, none⟩) 64 64)) = ((W8.setCell ⟨b, x, none⟩ (.slice (some ⟨W8.heap.size, 0, none⟩) 64 64)).alloc (.cells zero64 5)).drew := by
      rw [← World.setCell_alloc_past _ _ _ _ lb]; rfl
    rw [ew, HZZ.out] at E
    go_ret2
    exact ⟨rfl, E.1, E.2⟩
end Go.Proofs.Ytipepklobpnbpaa
