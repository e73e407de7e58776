/-
  Several texts as one: RfOpsB RfOpsC RfOwn RfOpsD FrOver.
-/
import Derived.Deep.DeepCutAuto
import Derived.Deep.Cut
import Derived.Test.YtndfnglcichngaaGreatDoorPa09
import Derived.Deep.CutBlock
namespace Go.Proofs.YtndfnglcichngaaGreatDoor
open Go.ChangeShapes Go.WideShapes Go.ChangeAt Go.RowKit
set_option linter.unusedVariables false
theorem rtake_full {w : World} {P : Nat → Prop} {R t b : Nat} {s : St} {fresh : Nat} (h : Rf w P R t b s fresh []) (e : fresh = s.n) :
    Calls Tryz.prog 90 #[.pointer (some ⟨R, 0, none⟩)] w fun e w' => e = .returned (.tuple #[.int .i64 0, .int .i64 3]) ∧ ∃ m, w' = w.drewN m := by
  have h0 := h.r0
  have h3 := h.r3
  obtain ⟨a, c, h2, _⟩ := h.r2
  rw [e] at h3
  have h2 : w.cell? ⟨R, 2, none⟩ = some (.slice a 0 c) := h2
  have ee : ((s.n : Int) == (s.n : Int)) = true := by simp
  clear h e
  go_enter Tryz.func90, Tryz.ntmps90
  go_wp2_with fail
  go_quiet (fail)
  go_wp2_with fail
  go_ret2
  exact ⟨rfl, _, rfl⟩
theorem Hd.drewN {w : World} {P : Nat → Prop} {R t b n fresh : Nat} {back : List Nat} (h : Hd w P R t b n fresh back) (m : Nat) : Hd (w.drewN m) P R t b n fresh back := h
theorem Hd.set3 {w : World} {P : Nat → Prop} {R t b n fresh : Nat} {back : List Nat} (h : Hd w P R t b n fresh back) (f' : Int) (fresh' : Nat) (e : f' = (fresh' : Int)) : Hd (w.setCell ⟨R, 3, none⟩ (.int .i64 f')) P R t b n fresh' back := by
  obtain ⟨v, eh, ho, hv⟩ := h
  refine ⟨v, by rw [heap_setCell_same _ _ _ _ _ _ eh, e]; rfl, ?_, hv⟩
  exact touch_one.own ho (fun g hg e => (hv g hg).2 (.inl e))
theorem Hd.set2 {w : World} {P : Nat → Prop} {R t b n fresh : Nat} {back back' : List Nat} (h : Hd w P R t b n fresh back) {v' : Value} (ho : w.ownsRow 0 3 1 v' back'.length ((nums back').map (Value.int .i64))) (hv : ∀ g, v'.ownBlock = some g → Far P R t b g) : Hd (w.setCell ⟨R, 2, none⟩ v') P R t b n fresh back' := by
  obtain ⟨v, eh, _, _⟩ := h
  refine ⟨v', by rw [heap_setCell_same _ _ _ _ _ _ eh]; rfl, ?_, hv⟩
  exact touch_one.own ho (fun g hg e => (hv g hg).2 (.inl e))
theorem touch_rs {w w' : World} {R t b g j : Nat} {v : Value} (h : Touch (RS R t b) w w') (hg : RS R t b g) : Touch (RS R t b) w (w'.setCell ⟨g, j, none⟩ v) := h.setCell (p := ⟨g, j, none⟩) hg v
/-- The parts, while a call is under way. -/
def Mid (w W : World) (P : Nat → Prop) (R t b n fresh : Nat) (back : List Nat) (tk' tk : Nat → Bool) (bt : Nat → Nat → Int) : Prop :=
  Hd W P R t b n fresh back ∧ TkRow W t n tk' ∧ ByRow W P R t b n tk bt ∧ Touch (RS R t b) w W
theorem Mid.setT {w W : World} {P : Nat → Prop} {R t b n fresh : Nat} {back : List Nat} {tk' tk : Nat → Bool} {bt : Nat → Nat → Int} (h : Mid w W P R t b n fresh back tk' tk bt) (d1 : R ≠ t) (d3 : t ≠ b) (x : Nat) (hx : x < n) (v : Bool) : Mid w (W.setCell ⟨t, x, none⟩ (.bool v)) P R t b n fresh back (upd tk' x v) tk bt :=
  ⟨h.1.touch touch_one d1 (fun g hg e => hg.2 (.inr (.inl e))), h.2.1.set x hx v, h.2.2.1.touch touch_one (Ne.symm d3) (fun g hg e => hg.2 (.inr (.inl e))), touch_rs h.2.2.2 (.inr (.inl rfl))⟩
theorem Rf.mid {w : World} {P : Nat → Prop} {R t b : Nat} {s : St} {fresh : Nat} {back : List Nat} (h : Rf w P R t b s fresh back) (m : Nat) : Mid w (w.drewN m) P R t b s.n fresh back s.tk s.tk s.bt :=
  have u : Touch (fun _ => False) w (w.drewN m) := (Touch.refl _ w).drewN m
  ⟨h.hd, h.tk.touch u (fun e => e), h.by_.touch u (fun e => e) (fun _ _ e => e), (Touch.refl _ w).drewN m⟩
theorem Mid.touch {S : Nat → Prop} {w W W' : World} {P : Nat → Prop} {R t b n fresh : Nat} {back : List Nat} {tk' tk : Nat → Bool} {bt : Nat → Nat → Int} (h : Mid w W P R t b n fresh back tk' tk bt) (u : Touch S W W') (hS : ∀ i, S i → w.heap.size ≤ i ∧ ¬ Far P R t b i) (hR : ∀ i, RS R t b i → i < w.heap.size) : Mid w W' P R t b n fresh back tk' tk bt :=
  ⟨h.1.touch u (fun e => by have := (hS _ e).1; have := hR R (.inl rfl); omega) (fun g hg e => (hS _ e).2 hg), h.2.1.touch u (fun e => by have := (hS _ e).1; have := hR t (.inr (.inl rfl)); omega),
    h.2.2.1.touch u (fun e => by have := (hS _ e).1; have := hR b (.inr (.inr rfl)); omega) (fun g hg e => (hS _ e).2 hg), h.2.2.2.trans u (fun i e => .inr (hS i e).1)⟩
theorem Mid.set3 {w W : World} {P : Nat → Prop} {R t b n fresh : Nat} {back : List Nat} {tk' tk : Nat → Bool} {bt : Nat → Nat → Int} (h : Mid w W P R t b n fresh back tk' tk bt) (d1 : R ≠ t) (d2 : R ≠ b) (f' : Int) (fresh' : Nat) (e : f' = (fresh' : Int)) : Mid w (W.setCell ⟨R, 3, none⟩ (.int .i64 f')) P R t b n fresh' back tk' tk bt :=
  ⟨h.1.set3 f' fresh' e, h.2.1.touch touch_one (Ne.symm d1), h.2.2.1.touch touch_one (Ne.symm d2) (fun g hg e => hg.2 (.inl e)), touch_rs h.2.2.2 (.inl rfl)⟩
theorem Mid.set2 {w W : World} {P : Nat → Prop} {R t b n fresh : Nat} {back back' : List Nat} {tk' tk : Nat → Bool} {bt : Nat → Nat → Int} (h : Mid w W P R t b n fresh back tk' tk bt) (d1 : R ≠ t) (d2 : R ≠ b) {v' : Value} (ho : W.ownsRow 0 3 1 v' back'.length ((nums back').map (Value.int .i64))) (hv : ∀ g, v'.ownBlock = some g → Far P R t b g) :
    Mid w (W.setCell ⟨R, 2, none⟩ v') P R t b n fresh back' tk' tk bt :=
  ⟨h.1.set2 ho hv, h.2.1.touch touch_one (Ne.symm d1), h.2.2.1.touch touch_one (Ne.symm d2) (fun g hg e => hg.2 (.inl e)), touch_rs h.2.2.2 (.inl rfl)⟩
theorem Mid.r1 {w W : World} {P : Nat → Prop} {R t b n fresh : Nat} {back : List Nat} {tk' tk : Nat → Bool} {bt : Nat → Nat → Int} (h : Mid w W P R t b n fresh back tk' tk bt) : W.cell? ⟨R, 1, none⟩ = some (.slice (some ⟨b, 0, none⟩) n n) := by obtain ⟨v, e, _⟩ := h.1; rw [cell_of_row _ _ _ _ _ _ e]; rfl
theorem Mid.r0 {w W : World} {P : Nat → Prop} {R t b n fresh : Nat} {back : List Nat} {tk' tk : Nat → Bool} {bt : Nat → Nat → Int} (h : Mid w W P R t b n fresh back tk' tk bt) : W.cell? ⟨R, 0, none⟩ = some (.slice (some ⟨t, 0, none⟩) n n) := by obtain ⟨v, e, _⟩ := h.1; rw [cell_of_row _ _ _ _ _ _ e]; rfl
theorem Mid.r2 {w W : World} {P : Nat → Prop} {R t b n fresh : Nat} {back : List Nat} {tk' tk : Nat → Bool} {bt : Nat → Nat → Int} (h : Mid w W P R t b n fresh back tk' tk bt) : ∃ v, W.cell? ⟨R, 2, none⟩ = some v := by obtain ⟨v, e, _⟩ := h.1; exact ⟨v, by rw [cell_of_row _ _ _ _ _ _ e]; rfl⟩
theorem Mid.rf {w W : World} {P : Nat → Prop} {R t b n fresh : Nat} {back : List Nat} {tk' tk : Nat → Bool} {bt : Nat → Nat → Int} (h : Mid w W P R t b n fresh back tk' tk bt) (j : Nat) : W.frozen? ⟨R, j, none⟩ = false := by obtain ⟨v, e, _⟩ := h.1; exact frozen_of_row _ _ _ _ _ e
theorem Mid.below {w W W' : World} {P : Nat → Prop} {R t b n fresh : Nat} {back : List Nat} {tk' tk : Nat → Bool} {bt : Nat → Nat → Int} (h : Mid w W P R t b n fresh back tk' tk bt) (u : Below W.heap.size W W') (hR : ∀ i, RS R t b i → i < w.heap.size) : Mid w W' P R t b n fresh back tk' tk bt :=
  h.touch (S := fun _ => False) (Touch.of_below u) (fun _ e => e.elim) hR
theorem drop_one {w w1 : World} {row : Option Nat} (h : w.drew.grownBy w1 row) (hr : row = none := by rfl) : Below w.heap.size w w1 := by
  subst hr
  exact ⟨h.os, h.tape, h.output, h.size, fun k hk => h.block k hk (fun e => by cases e)⟩
/-- The end of Take: new bytes stand in x. -/
theorem take_end {w W W2 : World} {P : Nat → Prop} {R t b : Nat} {s : St} {fresh0 fresh : Nat} {back0 back l : List Nat} {x : Nat} (h : Rf w P R t b s fresh0 back0) (hm : Mid w W P R t b s.n fresh back (upd s.tk x true) s.tk s.bt) (hfr : s.fr = l ++ [x]) (hl : l = fallen s.n (s.n - fresh) ++ back) (hle : fresh ≤ s.n)
    (hW : ∃ m, W2 = (W.alloc (.cells zero64 5)).drewN m) : Rf (W2.setCell ⟨b, x, none⟩ (.slice (some ⟨W.heap.size, 0, none⟩) 64 64)) P R t b (s.take l x) fresh back ∧ Touch (RS R t b) w (W2.setCell ⟨b, x, none⟩ (.slice (some ⟨W.heap.size, 0, none⟩) 64 64)) := by
  obtain ⟨m, rfl⟩ := hW
  have hx : x < s.n := h.good.lt x (by rw [hfr]; simp)
  have htx : s.tk x = false := (h.good.free x hx).1 (by rw [hfr]; simp)
  have u : Touch (fun _ => False) W ((W.alloc (.cells zero64 5)).drewN m) := ((Touch.refl _ W).alloc _).drewN m
  have hm2 := hm.touch u (fun _ e => e.elim) h.lt
  have hf : Far P R t b W.heap.size := h.far hm.2.2.2.size
  have hi : Ints .u8 ((W.alloc (.cells zero64 5)).drewN m) (some ⟨W.heap.size, 0, none⟩) 64 ((List.range 64).map ((s.take l x).bt x)) := by
    have e : (List.range 64).map ((s.take l x).bt x) = List.replicate 64 0 := by
      have := part_zero h.good hx htx l
      unfold St.part at this
      simpa using this
    rw [e]
    obtain ⟨A, c, e1, hi, _⟩ := own_ints (own_zero64 W)
    injection e1 with e1 _ _
    rw [e1]; exact hi
  refine ⟨⟨good_take h.good hfr, hl, hle, hm2.1.touch touch_one h.dRb (fun g hg e => hg.2 (.inr (.inr e))), hm2.2.1.touch touch_one h.dtb, ?_, fun i hi => ?_, h.nP, h.dRt, h.dRb, h.dtb⟩, touch_rs hm2.2.2.2 (.inr (.inr rfl))⟩
  · refine hm2.2.2.1.set (tk' := upd s.tk x true) (bt' := s.bt) x hx (Nat.le_refl _) (by unfold maxLen; omega) hi hf (fun j hj hjx hjt => ?_) (fun _ _ _ => rfl)
    rw [upd_other _ _ hjx] at hjt; exact hjt
  · exact Nat.lt_of_lt_of_le (h.plt i hi) (touch_rs hm2.2.2.2 (.inr (.inr rfl))).size
set_option maxHeartbeats 2000000 in
theorem rtake_fresh {w : World} {P : Nat → Prop} {R t b : Nat} {s : St} {fresh : Nat} (h : Rf w P R t b s fresh []) (hlt : fresh < s.n) :
    Calls Tryz.prog 90 #[.pointer (some ⟨R, 0, none⟩)] w fun e w' => e = .returned (.tuple #[.int .i64 (fresh : Int), .int .i64 0]) ∧ Rf w' P R t b (s.take (fallen s.n (s.n - (fresh + 1))) fresh) (fresh + 1) [] ∧ Touch (RS R t b) w w' := by
  have h0 := h.r0
  have h1 := h.r1
  have h3 := h.r3
  have rf3 := h.rf 3
  obtain ⟨a, c, h2, _⟩ := h.r2
  have h2 : w.cell? ⟨R, 2, none⟩ = some (.slice a 0 c) := h2
  have n64 := h.good.n64
  have ee : ((fresh : Int) == (s.n : Int)) = false := by simp; omega
  have f0 : (0 : Int) ≤ (fresh : Int) := by omega
  have f1 : (fresh : Int) < (s.n : Int) := by omega
  have f2 : (s.n : Int) ≤ 64 := by omega
  have tc := h.tk.cell fresh hlt
  have tf := h.tk.frozen fresh
  obtain ⟨ob, hob⟩ := h.by_.has fresh hlt
  have bf := h.by_.frozen fresh
  have d1 := h.dRt
  have d2 := h.dRb
  have d3 := h.dtb
  have d1' := Ne.symm d1
  have d2' := Ne.symm d2
  have d3' := Ne.symm d3
  have hmk := run_make64
  generalize hzz : zero64 = ZZ at hmk
  have HZZ := hide hzz
  have HH := hide h
  clear hzz h
  go_enter Tryz.func90, Tryz.ntmps90
  go_wp2_with fail
  go_quiet (fail)
  go_upto_region 9 with fail
  have M8 := hide (((HH.out.mid nq).set3 d1 d2 ((fresh : Int) + 1) (fresh + 1) (by omega)).setT d1 d3 fresh hlt true)
  obtain ⟨W8, hW8⟩ : ∃ W8, W8 = (((w.drewN nq).setCell ⟨R, 3, none⟩ (.int .i64 ((fresh : Int) + 1))).setCell ⟨t, fresh, none⟩ (.bool true)) := ⟨_, rfl⟩
  rw [← hW8] at M8 ⊢
  have c1 := M8.out.r1
  obtain ⟨ob8, hob8⟩ := M8.out.2.2.1.has fresh hlt
  have bf8 := M8.out.2.2.1.frozen fresh
  have lR : R < W8.heap.size := M8.out.1.lt
  have lb : b < W8.heap.size := M8.out.2.2.1.lt
  have k1 : (W8.alloc (Obj.cells ZZ 5)).cell? ⟨R, 1, none⟩ = some (.slice (some ⟨b, 0, none⟩) s.n s.n) := by rw [World.cell?_alloc_past _ _ _ lR]; exact c1
  have k2 : (W8.alloc (Obj.cells ZZ 5)).cell? ⟨b, fresh, none⟩ = some ob8 := by rw [World.cell?_alloc_past _ _ _ lb]; exact hob8
  have k3 : (W8.alloc (Obj.cells ZZ 5)).frozen? ⟨b, fresh, none⟩ = false := by rw [World.frozen?_alloc_past _ _ _ lb]; exact bf8
  have hfr : s.fr = fallen s.n (s.n - (fresh + 1)) ++ [fresh] := by
    rw [HH.out.fr, List.append_nil, show s.n - fresh = s.n - (fresh + 1) + 1 by omega, fallen_succ]
    congr 2; omega
  have HF := hide hfr
  clear hW8 h0 h1 h2 h3 rf3 tc tf hob bf hfr
  go_region
  go_wp2_with fail
  have E := take_end HH.out M8.out HF.out (by rw [List.append_nil]) (by omega) ⟨1, rfl⟩
  have ew : (((W8.alloc (.cells zero64 5)).drewN 1).setCell ⟨b, fresh, none⟩ (.slice (some ⟨W8.heap.size, 0, none⟩) 64 64)) = ((W8.setCell ⟨b, fresh, none⟩ (.slice (some ⟨W8.heap.size, 0, none⟩) 64 64)).alloc (.cells zero64 5)).drew := by
    rw [← World.setCell_alloc_past _ _ _ _ lb]; rfl
  rw [ew, HZZ.out] at E
  go_ret2
  exact ⟨rfl, E.1, E.2⟩
/-- The one that came back last goes out. -/
theorem own_last {w : World} {q n c : Nat} {e : TypeId} {base : Nat} {xs : List Value} {x : Value} (h : w.ownsRow base e 1 (.slice (some ⟨q, 0, none⟩) (n + 1) c) (n + 1) (xs ++ [x])) : w.cell? ⟨q, n, none⟩ = some x ∧ ∀ j u, xs[j]? = some u → w.cell? ((⟨q, 0, none⟩ : Addr).add j) = some u := by
  have hl : xs.length = n := by have := h.1; simp at this; omega
  refine ⟨?_, fun j u hu => ?_⟩
  · rw [h.cellAt n (by omega), ← hl]; simp
  · have hj := (List.getElem?_eq_some_iff.1 hu).1
    exact h.cells rfl j u (by rw [List.getElem?_append_left hj]; exact hu)
set_option maxHeartbeats 4000000 in
theorem rtake_back {w : World} {P : Nat → Prop} {R t b : Nat} {s : St} {fresh : Nat} {l : List Nat} {x : Nat} (h : Rf w P R t b s fresh (l ++ [x])) :
    Calls Tryz.prog 90 #[.pointer (some ⟨R, 0, none⟩)] w fun e w' => e = .returned (.tuple #[.int .i64 (x : Int), .int .i64 0]) ∧ Rf w' P R t b (s.take (fallen s.n (s.n - fresh) ++ l) x) fresh l ∧ Touch (RS R t b) w w' := by
  obtain ⟨i0, hi0, hz0, hz1, hz2⟩ := info_parts int_info
  have h3 := h.r3
  obtain ⟨a, c, h2, ho, hv⟩ := h.r2
  have hlen : (l ++ [x]).length = l.length + 1 := by simp
  have hmap : (nums (l ++ [x])).map (Value.int .i64) = (nums l).map (Value.int .i64) ++ [Value.int .i64 (x : Int)] := by simp [nums]
  rw [hlen] at h2 ho hv
  rw [hmap] at ho
  obtain ⟨q, rfl⟩ : ∃ q, a = some ⟨q, 0, none⟩ := by
    rcases ho.2 with ⟨e, _⟩ | ⟨g, cap, cur, e, _⟩
    · cases e
    · injection e with e _ _; exact ⟨g, e⟩
  obtain ⟨hx, hl⟩ := own_last ho
  have hcap : l.length + 1 ≤ c := by
    obtain ⟨a', c', e, _, h4, _⟩ := own_sliceR ho
    injection e with _ _ e; omega
  have hcm : c ≤ maxLen := by
    obtain ⟨a', c', e, _, _, h4, _⟩ := own_sliceR ho
    injection e with _ _ e; omega
  have hfr : s.fr = (fallen s.n (s.n - fresh) ++ l) ++ [x] := by rw [h.fr, List.append_assoc]
  have hxn : x < s.n := h.good.lt x (by rw [hfr]; simp)
  have n64 := h.good.n64
  have hl64 : l.length ≤ 64 := by have := h.good.len; rw [hfr] at this; simp at this; omega
  have d1 := h.dRt
  have d2 := h.dRb
  have d3 := h.dtb
  have i0' : (0 : Int) ≤ (l.length : Int) := by omega
  have i2 : wrap64 (l.length : Int) = (l.length : Int) := by unfold wrap64; omega
  have i3 : IntKind.i64.wrap (l.length : Int) = (l.length : Int) := by rw [IntKind.wrap_i64]; omega
  have i4 : (l.length : Int) ≤ (c : Int) := by omega
  have i5 : (l.length : Int) < (l.length : Int) + 1 := by omega
  have i6 : (0 : Int) < (l.length : Int) + 1 := by omega
  have x0 : (0 : Int) ≤ (x : Int) := by omega
  have x1 : (x : Int) < (s.n : Int) := by omega
  have rf2 := h.rf 2
  have h0 := h.r0
  have hlR := h.lt R (.inl rfl)
  have HH := hide h
  have HV := hide hv
  have HLS := hide hl
  have HFR := hide hfr
  clear h ho hv hl hfr hmap hlen hcm n64
  go_enter Tryz.func90, Tryz.ntmps90
  go_wp2_with fail
  go_quiet (fail)
  go_upto_region 4 with fail
  have M1 := hide (HH.out.mid nq)
  have LS1 := hide (show ∀ W : World, W.heap = w.heap → ∀ j u, ((nums l).map (Value.int .i64))[j]? = some u → W.cell? ((⟨q, 0, none⟩ : Addr).add j) = some u from fun W hW j u hu => by
    have e1 : W.cell? ((⟨q, 0, none⟩ : Addr).add j) = w.cell? ((⟨q, 0, none⟩ : Addr).add j) := World.cell?_of_block (by rw [hW])
    rw [e1]; exact HLS.out j u hu)
  obtain ⟨W1, hW1⟩ : ∃ W1, W1 = w.drewN nq := ⟨_, rfl⟩
  have hh1 : W1.heap = w.heap := by rw [hW1]; rfl
  have h2' : W1.cell? ⟨R, 2, none⟩ = some (.slice (some ⟨q, 0, none⟩) (l.length + 1) c) := by rw [hW1]; exact h2
  have rf2' : W1.frozen? ⟨R, 2, none⟩ = false := by rw [hW1]; exact rf2
  rw [← hW1] at M1 ⊢
  have HH1 := hide hh1
  have HZ2 := hide hz2
  have lR1 : R < W1.heap.size := by rw [hh1]; exact hlR
  clear hW1 hh1 h2 h3 rf2 h0 hx hz2
  go_region_law ((refine step_append_rows (by rfl) _ _ _ (by rfl) W1.heap.size 3 i0 _ 1 8 Tryz.underlying114 hi0 hz0 hz1 HZ2.out rfl (by omega) (.slice none 0 0) 0 [] (by rfl) (World.ownsRow_nil _ _ _ _) ⟨q, 0, none⟩ l.length c ((nums l).map (Value.int .i64)) (by rfl) (by simp [nums]) (LS1.out W1.drew HH1.out) (ints_one _ _) (by unfold maxLen; omega) (by omega) (Nat.le_refl _) l.length (by omega) ?_; intro A2 c2 w2 o2 g2 hl2; have b2 : Below W1.heap.size W1 w2 := drop_one g2; have M2 := hide (M1.out.below b2 HH.out.lt); obtain ⟨v2, k2⟩ := M2.out.r2; have z2 := M2.out.rf 2; have O2 := hide o2; clear o2 g2 hl2 b2))
  all_goals
    have hF2 : ∀ g, (Value.slice A2 l.length c2).ownBlock = some g → Far P R t b g := fun g hg => HH.out.far (by rw [← HH1.out]; exact (O2.out.lt g hg).1)
    have M3 := hide (M2.out.set2 (back' := l) d1 d2 (own_base O2.out (Nat.zero_le _)) hF2)
    obtain ⟨W3, hW3⟩ : ∃ W3, W3 = w2.setCell ⟨R, 2, none⟩ (.slice A2 l.length c2) := ⟨_, rfl⟩
    rw [← hW3] at M3 ⊢
    have c0 := M3.out.r0
    have tc := M3.out.2.1.cell x hxn
    have tf := M3.out.2.1.frozen x
    clear hW3 hF2 k2 z2 h2' rf2'
    go_upto_region 9 with fail
    have M8 := hide (M3.out.setT d1 d3 x hxn true)
    obtain ⟨W8, hW8⟩ : ∃ W8, W8 = W3.setCell ⟨t, x, none⟩ (.bool true) := ⟨_, rfl⟩
    rw [← hW8] at M8 ⊢
    have c1 := M8.out.r1
    obtain ⟨ob8, hob8⟩ := M8.out.2.2.1.has x hxn
    have bf8 := M8.out.2.2.1.frozen x
    have lR : R < W8.heap.size := M8.out.1.lt
    have lb : b < W8.heap.size := M8.out.2.2.1.lt
    have hmk := run_make64
    generalize hzz : zero64 = ZZ at hmk
    have HZZ := hide hzz
    have k1 : (W8.alloc (Obj.cells ZZ 5)).cell? ⟨R, 1, none⟩ = some (.slice (some ⟨b, 0, none⟩) s.n s.n) := by rw [World.cell?_alloc_past _ _ _ lR]; exact c1
    have k2 : (W8.alloc (Obj.cells ZZ 5)).cell? ⟨b, x, none⟩ = some ob8 := by rw [World.cell?_alloc_past _ _ _ lb]; exact hob8
    have k3 : (W8.alloc (Obj.cells ZZ 5)).frozen? ⟨b, x, none⟩ = false := by rw [World.frozen?_alloc_past _ _ _ lb]; exact bf8
    clear hW8 hzz c0 tc tf
    go_region
    go_wp2_with fail
    have E := take_end HH.out M8.out HFR.out rfl HH.out.le ⟨1, rfl⟩
    have ew : (((W8.alloc (.cells zero64 5)).drewN 1).setCell ⟨b, x, none⟩ (.slice (some ⟨W8.heap.size, 0, none⟩) 64 64)) = ((W8.setCell ⟨b, x, none⟩ (.slice (some ⟨W8.heap.size, 0, none⟩) 64 64)).alloc (.cells zero64 5)).drew := by
      rw [← World.setCell_alloc_past _ _ _ _ lb]; rfl
    rw [ew, HZZ.out] at E
    go_ret2
    exact ⟨rfl, E.1, E.2⟩
end Go.Proofs.YtndfnglcichngaaGreatDoor
namespace Go.Proofs.YtndfnglcichngaaGreatDoor
open Go.ChangeShapes Go.WideShapes Go.ChangeAt Go.RowKit
set_option linter.unusedVariables false
theorem rgive_err {w : World} {P : Nat → Prop} {R t b : Nat} {s : St} {fresh : Nat} {back : List Nat} (h : Rf w P R t b s fresh back) (i : Int) (hc : code s i 0 0 ≠ 0) :
    Calls Tryz.prog 114 #[.pointer (some ⟨R, 0, none⟩), .int .i64 i] w fun e w' => e = .returned (.int .i64 (code s i 0 0)) ∧ w = w' := by
  have HH := hide h
  have hc' : (code s i 0 0 == 0) = false := by simpa using hc
  clear h
  generalize he : code s i 0 0 = c at *
  go_enter Tryz.func114, Tryz.ntmps114
  go_wp2_with (go_at_call 132; with_reducible refine (ris_any HH.out _).mono ?_; rintro e w' ⟨rfl, rfl⟩; rw [he])
  go_ret
  exact ⟨rfl, rfl⟩
theorem give_end {w W : World} {P : Nat → Prop} {R t b : Nat} {s : St} {fresh : Nat} {back : List Nat} (h : Rf w P R t b s fresh back) {i : Nat} (hi : i < s.n) (ht : s.tk i = true) (hm : Mid w W P R t b s.n fresh (back ++ [i]) (upd s.tk i false) s.tk s.bt) :
    Rf W P R t b (s.give i) fresh (back ++ [i]) ∧ Touch (RS R t b) w W := by
  refine ⟨⟨good_give h.good hi ht, ?_, h.le, hm.1, hm.2.1, ?_, fun j hj => Nat.lt_of_lt_of_le (h.plt j hj) hm.2.2.2.size, h.nP, h.dRt, h.dRb, h.dtb⟩, hm.2.2.2⟩
  · show s.fr ++ [i] = _
    rw [h.fr, List.append_assoc]; rfl
  · refine hm.2.2.1.less (tk' := upd s.tk i false) (bt' := upd s.bt i (fun _ => 0)) (fun j hj hjt => ?_) (fun j hj hjt => ?_)
    · by_cases e : j = i
      · subst e; rw [upd_same] at hjt; cases hjt
      · rw [upd_other _ _ e] at hjt; exact hjt
    · by_cases e : j = i
      · subst e; rw [upd_same] at hjt; cases hjt
      · rw [upd_other _ _ e]
set_option maxHeartbeats 2000000 in
theorem rgive_ok {w : World} {P : Nat → Prop} {R t b : Nat} {s : St} {fresh : Nat} {back : List Nat} (h : Rf w P R t b s fresh back) (i : Nat) (hi : i < s.n) (ht : s.tk i = true) :
    Calls Tryz.prog 114 #[.pointer (some ⟨R, 0, none⟩), .int .i64 (i : Nat)] w fun e w' => e = .returned (.int .i64 0) ∧ Rf w' P R t b (s.give i) fresh (back ++ [i]) ∧ Touch (RS R t b) w w' := by
  obtain ⟨i0, hi0, hz0, hz1, hz2⟩ := info_parts int_info
  have h0 := h.r0
  have tc := h.tk.cell i hi
  have tf := h.tk.frozen i
  have d1 := h.dRt
  have d2 := h.dRb
  have d3 := h.dtb
  have c0 : code s (i : Nat) 0 0 = 0 := code_ok hi fit00 ht
  have x0 : (0 : Int) ≤ (i : Int) := by omega
  have x1 : (i : Int) < (s.n : Int) := by omega
  have hbl : back.length ≤ 64 := by have h1 := h.good.len; have h2 := h.good.n64; rw [h.fr, List.length_append] at h1; omega
  have HH := hide h
  have M1 := hide (((h.mid 0).setT d1 d3 i hi false))
  clear h
  go_enter Tryz.func114, Tryz.ntmps114
  go_upto_region 4 with (go_at_call 132; with_reducible refine (ris_any HH.out _).mono ?_; rintro e w' ⟨rfl, rfl⟩; rw [c0])
  have M1 : Hid (Mid w (w.setCell ⟨t, i, none⟩ (.bool false)) P R t b s.n fresh back (upd s.tk i false) s.tk s.bt) := M1
  obtain ⟨W1, hW1⟩ : ∃ W1, W1 = w.setCell ⟨t, i, none⟩ (.bool false) := ⟨_, rfl⟩
  rw [← hW1] at M1 ⊢
  obtain ⟨v1, e1, ho1, hv1⟩ := M1.out.1
  obtain ⟨a, c, rfl, hnil, _⟩ := own_sliceR ho1
  obtain ⟨A', c', e', hints, _⟩ := own_ints ho1
  injection e' with e1' _ e2'
  subst e1' e2'
  have h2 : W1.cell? ⟨R, 2, none⟩ = some (.slice a back.length c) := by rw [cell_of_row _ _ _ _ _ _ e1]; rfl
  have lR : R < W1.heap.size := M1.out.1.lt
  have HV := hide hints
  have HN := hide hnil
  clear hW1 h0 tc tf e1 ho1 hv1 hints hnil
  go_wp2_with (first
    | (at_builtin; refine wpList_append_src rfl (.const (.slice none 0 0)) (.tmp 21) _ rfl W1.heap.size 3 i0 _ 8 Tryz.underlying114 hi0 hz0 hz1 hz2 rfl _ 0 [] rfl (World.ownsRow_nil _ _ _ _) .i64 _ back.length _ (nums back) rfl HV.out HN.out (by unfold maxLen; omega) (by omega) (Nat.le_refl _) ?_; intro v2 w2 o2 g2 t2; have b2 := hide ((Below.refl W1.heap.size W1).grown g2 (Nat.le_refl _) (by intro k hk; cases hk)); have O2 := hide o2; clear o2 g2 t2)
    | (at_builtin; refine wpList_append_src rfl (.tmp 22) (.tmp 24) _ rfl W1.heap.size 3 i0 _ 8 Tryz.underlying114 hi0 hz0 hz1 hz2 rfl _ _ _ rfl (O2.out.alloc _) .i64 _ 1 _ [(i : Int)] rfl (ints_cell1 _ _ _ _ _ rfl) (fun h => by cases h) (by unfold maxLen; omega) (by omega) (by have := b2.out.size; simp; omega) ?_; intro v3 w3 o3 g3 t3; obtain ⟨a3, c3, rfl, _⟩ := own_sliceR o3; have b3 := hide ((b2.out.alloc b2.out.size _).grown g3 (by have := b2.out.size; simp; omega) (fun k hk => (O2.out.lt k hk).1)); have M3 := hide (M1.out.below b3.out HH.out.lt); obtain ⟨vv, k2⟩ := M3.out.r2; have z2 := M3.out.rf 2; have O3 := hide o3; clear o3 g3 t3))
  have O4 := O3.out
  rw [Nat.zero_add] at O4
  have hF : ∀ g, (Value.slice a3 (back.length + 1) c3).ownBlock = some g → Far P R t b g := fun g hg => HH.out.far (Nat.le_trans M1.out.2.2.2.size (O4.lt g hg).1)
  have hO : w3.ownsRow 0 3 1 (.slice a3 (back.length + 1) c3) (back ++ [i]).length ((nums (back ++ [i])).map (Value.int .i64)) := by
    have e4 : (nums (back ++ [i])).map (Value.int .i64) = [] ++ (nums back).map (Value.int .i64) ++ [(i : Int)].map (Value.int .i64) := by simp [nums]
    rw [e4, List.length_append]
    exact own_base O4 (Nat.zero_le _)
  have E := give_end HH.out hi ht (M3.out.set2 d1 d2 hO hF)
  go_ret
  exact ⟨rfl, E.1, E.2⟩
/-- A piece of a row of bytes. -/
theorem ints_piece {w : World} {g i off n : Nat} {s : St} (h : Ints .u8 w (some ⟨g, 0, none⟩) 64 ((List.range 64).map (s.bt i))) (hf : off + n ≤ 64) : Ints .u8 w (some ⟨g, off, none⟩) n (s.part i off n) := by
  refine ⟨part_len _ _ _ _, fun hn => ?_⟩
  obtain ⟨b, o, e, hc⟩ := h.2 (by omega)
  injection e with e
  injection e with e1 e2 _
  subst e1 e2
  refine ⟨g, off, rfl, fun j hj => ?_⟩
  have := hc (off + j) (by omega)
  rw [Nat.zero_add] at this
  rw [this]
  have hj2 : off + j < 64 := by omega
  simp [St.part, List.getD, hj, hj2]
theorem code_eq {s : St} {i off n : Int} : code s i off n = if code s i 0 0 = 2 ∨ fit off n = false then 2 else code s i 0 0 := by
  by_cases h : 0 ≤ i ∧ i < s.n
  · have e0 : code s i 0 0 = if s.tk i.toNat then 0 else 4 := by unfold code; rw [if_pos ⟨h.1, h.2, fit00⟩]
    have n2 : code s i 0 0 ≠ 2 := by rw [e0]; split <;> decide
    cases hf : fit off n with
    | true =>
      rw [if_neg (fun e => e.elim n2 (fun e => by cases e)), e0]
      unfold code; rw [if_pos ⟨h.1, h.2, hf⟩]
    | false => rw [if_pos (.inr rfl), code_arg (fun e => by rw [hf] at e; cases e.2.2)]
  · have e0 : code s i 0 0 = 2 := code_arg (fun e => h ⟨e.1, e.2.1⟩)
    rw [if_pos (.inl e0), code_arg (fun e => h ⟨e.1, e.2.1⟩)]
/-- What is told first is 2, 4 or 0. -/
theorem code_is (s : St) (i : Int) : code s i 0 0 = 2 ∨ code s i 0 0 = 4 ∨ code s i 0 0 = 0 := by
  unfold code
  split
  · split
    · exact .inr (.inr rfl)
    · exact .inr (.inl rfl)
  · exact .inl rfl
end Go.Proofs.YtndfnglcichngaaGreatDoor
namespace Go.Proofs.YtndfnglcichngaaGreatDoor
open Go.ChangeShapes Go.WideShapes Go.ChangeAt Go.RowKit
set_option linter.unusedVariables false
/-- What is there and is not of G. -/
def Out (w : World) (G : Nat → Prop) (i : Nat) : Prop := i < w.heap.size ∧ ¬ G i
/-- The document's own frames, in blocks of G. -/
def RfG (w : World) (G : Nat → Prop) (R t b : Nat) (s : St) (fresh : Nat) (back : List Nat) : Prop :=
  Rf w (Out w G) R t b s fresh back ∧ ∀ i, G i → i < w.heap.size
theorem RfG.rs {w : World} {G : Nat → Prop} {R t b : Nat} {s : St} {fresh : Nat} {back : List Nat} (h : RfG w G R t b s fresh back) : ∀ i, RS R t b i → G i := fun i hi => Classical.byContradiction fun e => h.1.nP i hi ⟨h.1.lt i hi, e⟩
theorem Rf.mono {w : World} {P P' : Nat → Prop} {R t b : Nat} {s : St} {fresh : Nat} {back : List Nat} (h : Rf w P R t b s fresh back) (hs : ∀ i, P' i → i < w.heap.size) (hd : ∀ i, i < w.heap.size → P' i → P i) : Rf w P' R t b s fresh back := by
  have far : ∀ g', Far P R t b g' → Far P' R t b g' := fun g' h1 => ⟨fun e => h1.1 (hd g' (hs g' e) e), h1.2⟩
  refine ⟨h.good, h.fr, h.le, ?_, h.tk, ?_, hs, fun i hi e => h.nP i hi (hd i (hs i e) e), h.dRt, h.dRb, h.dtb⟩
  · obtain ⟨v, e1, ho, hv⟩ := h.hd
    exact ⟨v, e1, ho, fun g' hg' => far g' (hv g' hg')⟩
  · obtain ⟨cur, ty, e1, hs, hc⟩ := h.by_
    refine ⟨cur, ty, e1, hs, fun i hi hit => ?_⟩
    obtain ⟨g', c, a1, a2, a3, a4, a5⟩ := hc i hi hit
    exact ⟨g', c, a1, a2, a3, a4, far g' a5⟩
/-- Behind a call that kept P: what is new is owned too. -/
theorem RfG.next {w w' : World} {G : Nat → Prop} {R t b : Nat} {s s' : St} {fresh fresh' : Nat} {back back' : List Nat} (h : RfG w G R t b s fresh back) (r : Rf w' (Out w G) R t b s' fresh' back') (u : Touch (RS R t b) w w') :
    ∃ G', RfG w' G' R t b s' fresh' back' ∧ Touch G w w' ∧ (∀ i, G' i → G i ∨ w.heap.size ≤ i) := by
  refine ⟨fun i => G i ∨ (w.heap.size ≤ i ∧ i < w'.heap.size), ⟨r.mono (fun i e => e.1) (fun i hi e => ?_), fun i hi => ?_⟩, u.mono h.rs, fun i hi => hi.imp id (fun e => e.1)⟩
  · refine ⟨?_, fun hg => e.2 (.inl hg)⟩
    have h1 := e.2
    have h2 := e.1
    have : ¬ w.heap.size ≤ i := fun h3 => h1 (.inr ⟨h3, h2⟩)
    omega
  · rcases hi with hi | hi
    · exact Nat.lt_of_lt_of_le (h.2 i hi) u.size
    · exact hi.2
/-- What turns none of its blocks. -/
theorem RfG.keep {S G : Nat → Prop} {w w' : World} {R t b : Nat} {s : St} {fresh : Nat} {back : List Nat} (h : RfG w G R t b s fresh back) (u : Touch S w w') (hS : ∀ i, G i → ¬ S i) : RfG w' G R t b s fresh back := by
  have u2 : Touch (Out w G) w w' := ⟨u.os, u.tape, u.output, u.size, fun i hi hn => u.block i hi (fun e => hn ⟨hi, fun hg => hS i hg e⟩)⟩
  have r := h.1.touch u2 (fun _ e => e)
  have far : ∀ g', g' < w.heap.size → Far (Out w G) R t b g' → Far (Out w' G) R t b g' := fun g' hl h1 => ⟨fun e => h1.1 ⟨hl, e.2⟩, h1.2⟩
  refine ⟨⟨r.good, r.fr, r.le, ?_, r.tk, ?_, fun i e => e.1, fun i hi e => h.1.nP i hi ⟨h.1.lt i hi, e.2⟩, r.dRt, r.dRb, r.dtb⟩, fun i hi => Nat.lt_of_lt_of_le (h.2 i hi) u.size⟩
  · obtain ⟨v, e1, ho, hv⟩ := h.1.hd
    have hR : w'.heap[R]? = w.heap[R]? := u.block R (lt_of_heap e1) (fun e => hS R (h.rs R (.inl rfl)) e)
    have hg : ∀ g', v.ownBlock = some g' → G g' := fun g' hg' => Classical.byContradiction fun e => (hv g' hg').1 ⟨(ho.lt g' hg').2, e⟩
    exact ⟨v, hR.trans e1, u.own ho (fun g' hg' => hS g' (hg g' hg')), fun g' hg' => far g' (ho.lt g' hg').2 (hv g' hg')⟩
  · obtain ⟨cur, ty, e1, hs, hc⟩ := h.1.by_
    refine ⟨cur, ty, (u.block b (lt_of_heap e1) (fun e => hS b (h.rs b (.inr (.inr rfl))) e)).trans e1, hs, fun i hi hit => ?_⟩
    obtain ⟨g', c, a1, a2, a3, a4, a5⟩ := hc i hi hit
    have hl : g' < w.heap.size := by
      obtain ⟨b', o, e, hcell⟩ := a4.2 (by omega)
      injection e with e
      injection e with e _ _
      rw [e]
      exact lt_of_cell? (hcell 0 (by omega))
    have hg : G g' := Classical.byContradiction fun e => a5.1 ⟨hl, e⟩
    exact ⟨g', c, a1, a2, a3, u.ints a4 (fun b o e => by injection e with e; injection e with e _ _; rw [← e]; exact hS g' hg), far g' hl a5⟩
theorem RfG.below {G : Nat → Prop} {w w' : World} {R t b : Nat} {s : St} {fresh : Nat} {back : List Nat} (h : RfG w G R t b s fresh back) (u : Below w.heap.size w w') : RfG w' G R t b s fresh back := h.keep (S := fun _ => False) (Touch.of_below u) (fun _ _ e => e)
/-- Give back a frame that is taken. -/
theorem rgive_own {w : World} {G : Nat → Prop} {R t b : Nat} {s : St} {fresh : Nat} {back : List Nat} (h : RfG w G R t b s fresh back) (i : Nat) (hi : i < s.n) (ht : s.tk i = true) :
    Calls Tryz.prog 114 #[.pointer (some ⟨R, 0, none⟩), .int .i64 (i : Nat)] w fun e w' => e = .returned (.int .i64 0) ∧ ∃ G', RfG w' G' R t b (s.give i) fresh (back ++ [i]) ∧ Touch G w w' ∧ (∀ i, G' i → G i ∨ w.heap.size ≤ i) := by
  refine (rgive_ok h.1 i hi ht).mono ?_
  rintro e w' ⟨rfl, r, u⟩
  exact ⟨rfl, h.next r u⟩
/-- Take a frame, if there is one. -/
theorem rtake_own {w : World} {G : Nat → Prop} {R t b : Nat} {s : St} {fresh : Nat} {back : List Nat} (h : RfG w G R t b s fresh back) {l : List Nat} {x : Nat} (hfr : s.fr = l ++ [x]) :
    Calls Tryz.prog 90 #[.pointer (some ⟨R, 0, none⟩)] w fun e w' => e = .returned (.tuple #[.int .i64 (x : Nat), .int .i64 0]) ∧ ∃ G' fresh' back', RfG w' G' R t b (s.take l x) fresh' back' ∧ Touch G w w' ∧ (∀ i, G' i → G i ∨ w.heap.size ≤ i) := by
  have hfr0 := h.1.fr
  have hle := h.1.le
  rcases List.eq_nil_or_concat back with rfl | ⟨l0, x0, rfl⟩
  · have hlt : fresh < s.n := by
      rcases Nat.lt_or_ge fresh s.n with e | e
      · exact e
      · rw [show s.n - fresh = 0 by omega, hfr] at hfr0
        have := congrArg List.length hfr0
        simp [fallen] at this
    have hfr1 : s.fr = fallen s.n (s.n - (fresh + 1)) ++ [fresh] := by
      rw [hfr0, List.append_nil, show s.n - fresh = s.n - (fresh + 1) + 1 by omega, fallen_succ]
      congr 2; omega
    obtain ⟨e1, e2⟩ := List.append_inj' (hfr.symm.trans hfr1) rfl
    injection e2 with e2 _
    subst e1 e2
    refine (rtake_fresh h.1 hlt).mono ?_
    rintro e w' ⟨rfl, r, u⟩
    obtain ⟨G', a1, a2, a3⟩ := h.next r u
    exact ⟨rfl, G', _, _, a1, a2, a3⟩
  · rw [List.concat_eq_append] at *
    have hfr1 : s.fr = (fallen s.n (s.n - fresh) ++ l0) ++ [x0] := by rw [hfr0, List.append_assoc]
    obtain ⟨e1, e2⟩ := List.append_inj' (hfr.symm.trans hfr1) rfl
    injection e2 with e2 _
    subst e1 e2
    refine (rtake_back h.1).mono ?_
    rintro e w' ⟨rfl, r, u⟩
    obtain ⟨G', a1, a2, a3⟩ := h.next r u
    exact ⟨rfl, G', _, _, a1, a2, a3⟩
/-- There is none. -/
theorem rtake_none {w : World} {G : Nat → Prop} {R t b : Nat} {s : St} {fresh : Nat} {back : List Nat} (h : RfG w G R t b s fresh back) (hfr : s.fr = []) :
    Calls Tryz.prog 90 #[.pointer (some ⟨R, 0, none⟩)] w fun e w' => e = .returned (.tuple #[.int .i64 0, .int .i64 3]) ∧ ∃ m, w' = w.drewN m := by
  have hl := h.1.len
  have hle := h.1.le
  rw [hfr] at hl
  have hb : back = [] := List.eq_nil_of_length_eq_zero (by simp at hl; omega)
  subst hb
  exact rtake_full h.1 (by simp at hl; omega)
end Go.Proofs.YtndfnglcichngaaGreatDoor
namespace Go.Proofs.YtndfnglcichngaaGreatDoor
open Go.ChangeShapes Go.WideShapes Go.ChangeAt Go.RowKit
set_option linter.unusedVariables false
/-- The bytes behind k steps of the loop. -/
def stepped (f : Nat → Int) (off : Nat) (ys : List Int) (k : Nat) : List Int := (List.range 64).map (over f off (ys.take k))
theorem stepped_len (f : Nat → Int) (off : Nat) (ys : List Int) (k : Nat) : (stepped f off ys k).length = 64 := by simp [stepped]
theorem stepped_zero (f : Nat → Int) (off : Nat) (ys : List Int) : stepped f off ys 0 = (List.range 64).map f := by
  unfold stepped
  apply List.map_congr_left
  intro j _
  unfold over
  rw [if_neg (by simp)]
theorem stepped_succ (f : Nat → Int) (off : Nat) (ys : List Int) (k : Nat) (hk : k < ys.length) (hf : off + ys.length ≤ 64) : ((stepped f off ys k).map (Value.int .u8)).set (off + k) (.int .u8 (ys.getD k 0)) = (stepped f off ys (k + 1)).map (Value.int .u8) := by
  have hl : ∀ k, ((stepped f off ys k).map (Value.int .u8)).length = 64 := fun k => by rw [List.length_map, stepped_len]
  apply List.ext_getElem
  · rw [List.length_set, hl, hl]
  · intro j h1 h2
    rw [hl] at h2
    have hl1 : (ys.take k).length = k := by simp; omega
    have hl2 : (ys.take (k + 1)).length = k + 1 := by simp; omega
    rw [List.getElem_set]
    by_cases e : off + k = j
    · subst e
      rw [if_pos rfl]
      simp only [stepped, List.getElem_map, List.getElem_range]
      unfold over
      rw [if_pos (by rw [hl2]; omega), show off + k - off = k by omega]
      simp [List.getD, hk]
    · rw [if_neg e]
      simp only [stepped, List.getElem_map, List.getElem_range]
      congr 1
      unfold over
      by_cases hr : off ≤ j ∧ j < off + k
      · rw [if_pos (by rw [hl1]; exact hr), if_pos (by rw [hl2]; omega)]
        have h3 : j - off < k := by omega
        have h4 : j - off < k + 1 := by omega
        simp [List.getD, h3, h4]
      · rw [if_neg (by rw [hl1]; exact hr), if_neg (by rw [hl2]; omega)]
theorem stepped_all (f : Nat → Int) (off : Nat) (ys : List Int) : stepped f off ys ys.length = (List.range 64).map (over f off ys) := by unfold stepped; rw [List.take_length]
theorem put_end {w W : World} {P : Nat → Prop} {R t b g c : Nat} {s : St} {fresh : Nat} {back : List Nat} (h : Rf w P R t b s fresh back) {i off : Nat} {ys : List Int} (hi : i < s.n) (ht : s.tk i = true) (hy : Bytes ys) (hf : off + ys.length ≤ 64) (hb : Below w.heap.size w W)
    (ho : W.ownsRow w.heap.size 5 1 (.slice (some ⟨g, 0, none⟩) 64 c) 64 (((List.range 64).map (over (s.bt i) off ys)).map (Value.int .u8))) : Rf (W.setCell ⟨b, i, none⟩ (.slice (some ⟨g, 0, none⟩) 64 c)) P R t b (s.put i off ys) fresh back ∧ Touch (RS R t b) w (W.setCell ⟨b, i, none⟩ (.slice (some ⟨g, 0, none⟩) 64 c)) := by
  have h2 := h.below hb
  have hg := (ho.lt g rfl).1
  obtain ⟨a', c', e', _, hc1, hc2, _⟩ := own_sliceR ho
  injection e' with _ _ e'
  subst e'
  obtain ⟨A', c', e', hints, _⟩ := own_ints ho
  injection e' with e' _ _
  have u : Touch (RS R t b) w (W.setCell ⟨b, i, none⟩ (.slice (some ⟨g, 0, none⟩) 64 c)) := touch_rs (Touch.of_below hb) (.inr (.inr rfl))
  refine ⟨⟨good_put h.good ht hy hf, h.fr, h.le, h2.hd.touch touch_one h.dRb (fun g hg e => hg.2 (.inr (.inr e))), h2.tk.touch touch_one h.dtb, ?_, fun j hj => Nat.lt_of_lt_of_le (h.plt j hj) u.size, h.nP, h.dRt, h.dRb, h.dtb⟩, u⟩
  refine h2.by_.set (tk' := s.tk) (bt' := upd s.bt i (over (s.bt i) off ys)) i hi hc1 hc2 ?_ (h.far hg) (fun j _ _ hjt => hjt) (fun j hj hji => upd_other _ _ hji)
  rw [upd_same, e']; exact hints
end Go.Proofs.YtndfnglcichngaaGreatDoor
namespace Go.Proofs.YtndfnglcichngaaGreatDoor
open Go.ChangeShapes Go.WideShapes Go.ChangeAt Go.RowKit
set_option linter.unusedVariables false
/-- The program's frames and the document's own, beside one another. -/
structure Tw (w wr : World) (H A Q R t b : Nat) (s s' : St) (fresh : Nat) (back : List Nat) : Prop where
  fr : Fr wr H A Q s
  rf : Rf wr (Blk H A Q) R t b s' fresh back
  bel : Below w.heap.size w wr
  blk : ∀ i, Blk H A Q i → w.heap.size ≤ i
  rs : ∀ i, RS R t b i → w.heap.size ≤ i
theorem Tw.left {w wr w' : World} {H A Q R t b : Nat} {s s' s2 : St} {fresh : Nat} {back : List Nat} (h : Tw w wr H A Q R t b s s' fresh back) (f : Fr w' H A Q s2) (u : Touch (Blk H A Q) wr w') : Tw w w' H A Q R t b s2 s' fresh back :=
  ⟨f, h.rf.touch u (fun _ e => e), h.bel.trans (u.below h.bel.size h.blk), h.blk, h.rs⟩
theorem Tw.right {w wr w' : World} {H A Q R t b : Nat} {s s' s2 : St} {fresh fresh2 : Nat} {back back2 : List Nat} (h : Tw w wr H A Q R t b s s' fresh back) (f : Rf w' (Blk H A Q) R t b s2 fresh2 back2) (u : Touch (RS R t b) wr w') : Tw w w' H A Q R t b s s2 fresh2 back2 :=
  ⟨h.fr.touch u (fun i hi e => h.rf.nP i e hi), f, h.bel.trans (u.below h.bel.size h.rs), h.blk, h.rs⟩
theorem Tw.below {w wr w' : World} {H A Q R t b : Nat} {s s' : St} {fresh : Nat} {back : List Nat} (h : Tw w wr H A Q R t b s s' fresh back) (u : Below wr.heap.size wr w') : Tw w w' H A Q R t b s s' fresh back :=
  ⟨h.fr.below u, h.rf.below u, h.bel.trans (u.mono h.bel.size), h.blk, h.rs⟩
theorem Tw.drewN {w wr : World} {H A Q R t b : Nat} {s s' : St} {fresh : Nat} {back : List Nat} (h : Tw w wr H A Q R t b s s' fresh back) (m : Nat) : Tw w (wr.drewN m) H A Q R t b s s' fresh back := h.below (below_drewN (Below.refl _ _) m)
/-- What turns one block that is neither's. -/
theorem Tw.other {w wr w' : World} {H A Q R t b g : Nat} {s s' : St} {fresh : Nat} {back : List Nat} (h : Tw w wr H A Q R t b s s' fresh back) (u : Touch (fun i => i = g) wr w') (hB : ¬ Blk H A Q g) (hR : ¬ RS R t b g) (hw : w.heap.size ≤ g)
    (hd : Rf w' (Blk H A Q) R t b s' fresh back) : Tw w w' H A Q R t b s s' fresh back :=
  ⟨h.fr.touch u (fun i hi e => hB (e ▸ hi)), hd, h.bel.trans (u.below h.bel.size (fun i e => by rw [e]; exact hw)), h.blk, h.rs⟩
theorem num_any (w : World) (x : Int) : Calls Tryz.prog 41 #[.int .i64 x] w fun e w' => e = .returned (.int .i64 x) ∧ w = w' := by
  go_enter Tryz.func41, Tryz.ntmps41
  go_wp2_with fail
  go_ret
  exact ⟨rfl, rfl⟩
end Go.Proofs.YtndfnglcichngaaGreatDoor
