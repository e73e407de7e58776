/-
  The walk of SlabScript, over the contracts of the program's slab.
-/
import Derived.Test.YtllapjidnngaeaaSlAwake
namespace Go.Proofs.Ytllapjidnngaeaa
open Go.ChangeShapes Go.WideShapes Go.ChangeAt Go.RowKit
set_option linter.unusedVariables false
section
variable {PS : World → (Nat → Prop) → Nat → Nat → List Cu → St → Prop}
theorem ref_info : (Try.prog.info? 39).map (fun i => (i.zero, i.size, i.bytes)) = some (some (.agg #[.int .i64 0, .int .i64 0, .int .i64 0]), 3, 24) := by kernel_rfl
/-- Both slabs, new. -/
theorem two_first (C : PSlab PS) {w w1 w2 w3 : World} {H A Q R t b S N : Nat} {U : Nat → Prop} (f1 : Fr w1 H A Q (St.new N)) (b1 : Below w.heap.size w w1) (hb : ∀ i, Blk H A Q i → w.heap.size ≤ i)
    (r2 : Rf w2 (fun i => i < w1.heap.size) R t b (St.new N) 0 []) (b2 : Below w1.heap.size w1 w2) (p3 : PS w3 U S H [] (St.new N)) (b3 : Below w2.heap.size w2 w3) (hU : ∀ i, U i → Blk H A Q i ∨ w2.heap.size ≤ i) :
    ∃ D, Two PS w (w3.alloc (.cells #[.pointer (some ⟨R, 0, none⟩), .slice none 0 0] 36)) U D [] S H w3.heap.size R [] (St.new N) [] (St.new N) (.slice none 0 0) 0 [] := by
  have s1 := b1.size
  have s2 := b2.size
  have s3 := b3.size
  have fl : ∀ i, Blk H A Q i → i < w1.heap.size := by
    rintro i (rfl | rfl | rfl)
    · exact f1.ltH
    · exact f1.ltA
    · exact f1.ltQ
  have k2 : RfG w2 (fun i => w1.heap.size ≤ i ∧ i < w2.heap.size) R t b (St.new N) 0 [] := by
    refine ⟨r2.mono (fun i hi => hi.1) (fun i hi h => ?_), fun i hi => hi.2⟩
    have := h.2
    show i < w1.heap.size
    have h3 : ¬ (w1.heap.size ≤ i ∧ i < w2.heap.size) := this
    omega
  have k3 := k2.below b3
  have bA := (Below.refl w3.heap.size w3).alloc (Nat.le_refl _) (.cells #[.pointer (some ⟨R, 0, none⟩), .slice none 0 0] 36)
  have k4 := k3.below bA
  have p4 := C.keep p3 (Touch.of_below (S := fun _ => False) bA) (fun _ _ e => e)
  have sr : SrG (w3.alloc (.cells #[.pointer (some ⟨R, 0, none⟩), .slice none 0 0] 36)) (fun i => i = w3.heap.size) w3.heap.size R [] :=
    ⟨⟨none, 0, heap_alloc_new _ _, World.ownsRow_nil _ _ _ _, fun g hg => by cases hg⟩, cuts_nil, rfl, fun i hi => by rw [hi]; simp⟩
  refine ⟨fun i => i = w3.heap.size ∨ (w1.heap.size ≤ i ∧ i < w2.heap.size), p4, (show DS _ _ _ _ _ _ from ⟨_, _, t, b, 0, [], sr, k4, fun i hi hk => ?_, fun i => Iff.rfl⟩), whole_new N, whole_new N, ?_, fun i hi hd => ?_, fun i hi => ?_, fun i hi => ?_, World.ownsRow_nil _ _ _ _, rfl, fun g (hg : none = some g) => ?_, fun g (hg : g ∈ []) => ?_⟩
  · rw [hi] at hk; omega
  · exact (b1.trans (b2.mono s1)).trans ((b3.mono (Nat.le_trans s1 s2)).trans (bA.mono (by omega)))
  · rcases hd with hd | hd
    · have := C.lt p3 i hi; omega
    · rcases hU i hi with h | h
      · have := fl i h; omega
      · omega
  · rcases hU i hi with h | h
    · exact hb i h
    · omega
  · rcases hi with hi | hi <;> omega
  · cases hg
  · cases hg
/-- The act copied to block X. -/
def CopS (w : World) (X : Nat) (g r : Bool) (n m fr sl sz : Int) : Prop := w.heap[X]? = some (.cells #[.bool g, .bool r, .int .i64 n, .int .i64 m, .int .i64 fr, .int .i64 sl, .int .i64 sz] 41 (0, 0))
theorem wf_small {n : Nat} (h : n ≤ 64) : (Lit.int .i64 (n : Int)).wf = true := by
  simp [Lit.wf, IntKind.min, IntKind.max, IntKind.bits, IntKind.signed]; omega
theorem cells_three (w : World) (a b c : Value) (t : TypeId) (X : Nat) (hX : X = w.heap.size) : ∀ j v, [a, b, c][j]? = some v → (w.alloc (.cells #[a, b, c] t)).cell? ((⟨X, 0, none⟩ : Addr).add j) = some v := by
  intro j v hv
  subst hX
  rw [addr_add, Nat.zero_add, World.cell?_alloc_at _ _ _ _ rfl]
  rw [← hv]
  show [a, b, c].toArray[j]? = _
  simp
theorem cellsPc_one (x : Pc) : ∀ v ∈ cellsPc x, v.oneCell' = true := by
  intro v hv
  simp [cellsPc] at hv
  rcases hv with rfl | rfl | rfl <;> rfl
theorem cellsPcs_one (x : Pc) : cellsPcs [x] = cellsPc x := by unfold cellsPcs; simp
theorem quiet_eq {P : Program} {f : FuncId} {args : Array Value} {w : World} {n : Nat} {v : Value} (h : Calls P f args (w.drewN n) fun e w' => e = .returned v ∧ w.drewN n = w') : Calls P f args (w.drewN n) fun e w' => e = .returned v ∧ ∃ m, w' = w.drewN m :=
  h.mono fun e w' hh => ⟨hh.1, n, hh.2.symm⟩
theorem quiet_drew {P : Program} {f : FuncId} {args : Array Value} {w : World} {n : Nat} {v : Value} (h : Calls P f args (w.drewN n) fun e w' => e = .returned v ∧ ∃ m, w' = (w.drewN n).drewN m) : Calls P f args (w.drewN n) fun e w' => e = .returned v ∧ ∃ m, w' = w.drewN m :=
  h.mono fun e w' ⟨he, m, hm⟩ => ⟨he, n + m, by rw [hm, World.drewN_drewN]⟩
theorem DS.free {w : World} {U : Nat → Prop} {S R : Nat} {l : List Cu} {s : St} (h : DS w U S R l s) : Calls Try.prog 21 #[.pointer (some ⟨R, 0, none⟩)] w fun e w' => e = .returned (.int .i64 (s.fr.length : Nat)) ∧ ∃ m, w' = w.drewN m := by
  obtain ⟨G, K, t, b, fresh, back, h1, h2, h3, h4⟩ := h
  exact rfree_any h2.1
theorem Two.had {w wr : World} {U D : Nat → Prop} {G : List Nat} {S H S' R : Nat} {l : List Cu} {s : St} {l2 : List Cu} {s2 : St} {A : Option Addr} {c n : Nat} {xs : List Pc} (h : Two PS w wr U D G S H S' R l s l2 s2 (.slice A n c) n xs) {i : Nat} (hi : i < n) :
    ∃ g, A = some ⟨g, 0, none⟩ ∧ ∃ (hx : i < xs.length), wr.cell? ⟨g, i * 3, none⟩ = some (.int .i64 xs[i].f) ∧ wr.cell? ⟨g, i * 3 + 1, none⟩ = some (.int .i64 xs[i].k) ∧ wr.cell? ⟨g, i * 3 + 2, none⟩ = some (.int .i64 xs[i].c) := by
  have ho := h.row
  have hl := h.len
  obtain ⟨g, rfl⟩ : ∃ g, A = some ⟨g, 0, none⟩ := by
    rcases ho.2 with ⟨e, h0⟩ | ⟨g, cap, cur, e, _⟩
    · omega
    · injection e with e _ _; exact ⟨g, e⟩
  have hx : i < xs.length := by omega
  have hc := fun j (hj : j < 3) => (ho.cellAt (i * 3 + j) (by omega)).trans (cellsPcs_at j hx hj)
  exact ⟨g, rfl, hx, hc 0 (by omega), hc 1 (by omega), hc 2 (by omega)⟩
theorem tri_cells {w : World} {X : Nat} {a b c : Value} {ty : TypeId} (h : w.heap[X]? = some (.cells #[a, b, c] ty (0, 0))) : w.cell? ⟨X, 0, none⟩ = some a ∧ w.cell? ⟨X, 1, none⟩ = some b ∧ w.cell? ⟨X, 2, none⟩ = some c := by
  refine ⟨?_, ?_, ?_⟩ <;> (rw [cell_of_row _ _ _ _ _ _ h]; rfl)
theorem six_cells {w : World} {X Y : Nat} {a b c d e f : Value} {ty tz : TypeId} (h : w.heap[X]? = some (.cells #[a, b, c] ty (0, 0))) (k : w.heap[Y]? = some (.cells #[d, e, f] tz (0, 0))) :
    w.cell? ⟨X, 0, none⟩ = some a ∧ w.cell? ⟨X, 1, none⟩ = some b ∧ w.cell? ⟨X, 2, none⟩ = some c ∧ w.cell? ⟨Y, 0, none⟩ = some d ∧ w.cell? ⟨Y, 1, none⟩ = some e ∧ w.cell? ⟨Y, 2, none⟩ = some f := by
  obtain ⟨h0, h1, h2⟩ := tri_cells h
  exact ⟨h0, h1, h2, tri_cells k⟩
theorem gave_gone {fr sl sz : Int} {l : List Cu} {s : St} {e : Nat} {l' : List Cu} {s' : St} (ht : Gave fr sl sz l s e l' s') (h : Whole l s) (hc : Cuts l) (hg : Good s) : there l' fr sl sz = false := by
  rcases ht.tells h hc hg with ⟨_, h1, rfl, _⟩ | ⟨_, _, _, h4⟩
  · exact h1
  · cases hh : there l' fr sl sz with
    | false => rfl
    | true => exact absurd ⟨rfl, rfl, rfl⟩ ((h4 fr sl sz).mp hh).2
def Rg (xs : List Pc) : Prop := ∀ x ∈ xs, (Lit.int .i64 x.f).wf = true ∧ (Lit.int .i64 x.k).wf = true ∧ (Lit.int .i64 x.c).wf = true
theorem Two.had2 {w wr : World} {U D : Nat → Prop} {G : List Nat} {S H S' R : Nat} {l : List Cu} {s : St} {l2 : List Cu} {s2 : St} {g c n : Nat} {xs : List Pc} (h : Two PS w wr U D G S H S' R l s l2 s2 (.slice (some ⟨g, 0, none⟩) n c) n xs) (hr : Rg xs) {i : Nat} (hi : i < n) :
    ∃ a b d : Int, wr.cell? ⟨g, i * 3, none⟩ = some (.int .i64 a) ∧ wr.cell? ⟨g, i * 3 + 1, none⟩ = some (.int .i64 b) ∧ wr.cell? ⟨g, i * 3 + 2, none⟩ = some (.int .i64 d) ∧ Hid ((Lit.int .i64 a).wf = true) ∧ Hid ((Lit.int .i64 b).wf = true) ∧ Hid ((Lit.int .i64 d).wf = true) := by
  obtain ⟨g', e, hx, h0, h1, h2⟩ := h.had hi
  cases e
  obtain ⟨r0, r1, r2⟩ := hr _ (List.getElem_mem hx)
  exact ⟨_, _, _, h0, h1, h2, hide r0, hide r1, hide r2⟩
set_option maxRecDepth 100000 in
set_option maxHeartbeats 8000000 in
theorem walk_slabScriptC (C : PSlab PS) (w : World) (a : Option Addr) (n c : Nat) (zs : List (List GV)) (hin : CameGen SK w a n c zs) : Calls Try.prog 3 #[.slice a n c] w fun e w' => e = .returned (.bool true) ∧ Below w.heap.size w w' := by
  have hn : n ≤ maxLen := Nat.le_trans hin.2.1 hin.2.2.1
  have HA := hide (sacts_open hin)
  have h63 : (n : Int) ≤ 9223372036854775807 := by unfold maxLen at hn; omega
  clear hin
  by_cases h100 : 100 < n
  · have h100' : (100 : Int) < (n : Int) := by omega
    go_enter Try.func3, Try.ntmps3
    go_wp2_with (go_at_call 6; with_reducible refine (sawake_any C _).mono ?_; rintro e w' ⟨rfl, hb⟩)
    go_ret
    exact ⟨rfl, hb⟩
  have h100' : ¬ (100 : Int) < (n : Int) := by omega
  go_enter Try.func3, Try.ntmps3
  go_wp2_with fail
  go_at_call 7
  refine (new_ok _ 4 (by omega) (by omega)).mono ?_
  rintro e w1 ⟨H, A, Q, rfl, f1, b1, hb1⟩
  have F1 := hide f1
  have B1 := hide b1
  have HB1 := hide hb1
  clear f1 b1 hb1
  go_wp2_with fail
  go_at_call 8
  refine (rnew_ok _ 4 (by omega) (by omega) (fun i => i < w1.heap.size) (fun _ h => h)).mono ?_
  rintro e w2 ⟨R, rfl, t, b, r2, b2, hb2⟩
  have R2 := hide r2
  have B2 := hide b2
  clear r2 b2 hb2
  go_wp2_with fail
  go_at_call 9
  refine (C.new (F1.out.below B2.out)).mono ?_
  rintro e w3 ⟨S, U, rfl, p3, b3, hU⟩
  obtain ⟨D, h0⟩ := two_first C F1.out B1.out HB1.out R2.out B2.out p3 b3 hU
  have T0 := hide h0
  clear p3 b3 hU h0 F1 B1 HB1 R2 B2
  go_wp2_with fail
  generalize w3.alloc (.cells #[.pointer (some ⟨R, 0, none⟩), .slice none 0 0] 36) = w4 at *
  generalize w3.heap.size = S' at *
  go_loopw [10, 9] (fun i v wr => ∃ (k m : Nat) (l : List Cu) (s : St) (xs : List Pc) (U D : Nat → Prop), k ≤ n ∧ i = .int .i64 (k : Int) ∧ Hid (m ≤ k ∧ Two PS w wr U D [] S H S' R l s l s v m xs ∧ Rg xs)) (fun i _ _ => n - (intOf i).toNat)
  case atStart => exact ⟨0, 0, _, _, _, _, _, Nat.zero_le _, rfl, Nat.le_refl _, T0.out, fun x hx => by cases hx⟩
  case round =>
    clear T0 U D
    obtain ⟨k, m, l, s, xs, U, D, hk, rfl, hT⟩ := hrel
    by_cases hlt : k < n
    · obtain ⟨ab, off, rfl, hall⟩ := HA.out (by omega)
      obtain ⟨g, r, x, y, fr, sl, sz, hact0⟩ := hall k hlt
      have hact := hact0.below hT.out.2.1.bel
      have k0 : (0 : Int) ≤ (k : Int) := by omega
      have k1 : (k : Int) < (n : Int) := by omega
      have c0 := hact.c0
      have c1 := hact.c1
      have c2 := hact.c2
      have c3 := hact.c3
      have c4 := hact.c4
      have c5 := hact.c5
      have c6 := hact.c6
      have HWN := hide hact.wn
      have HWF := hide hact.wf
      have HWS := hide hact.ws
      have HWZ := hide hact.wz
      have M0 := hide hT.out.1
      have RG := hide hT.out.2.2
      have C1 : Hid (CopS (wr.alloc (.cells #[.bool g, .bool r, .int .i64 x, .int .i64 y, .int .i64 fr, .int .i64 sl, .int .i64 sz] 41)) wr.heap.size g r x y fr sl sz) := (show CopS _ _ _ _ _ _ _ _ _ from heap_alloc_new _ _)
      have T1 := hide (hT.out.2.1.alloc C (.cells #[.bool g, .bool r, .int .i64 x, .int .i64 y, .int .i64 fr, .int .i64 sl, .int .i64 sz] 41)).1
      have XL := hide hT.out.2.1.bel.size
      clear hall hact0 hact hT
      go_upto_if 49 with fail
      obtain ⟨W1, hW1⟩ : ∃ W1, W1 = wr.alloc (.cells #[.bool g, .bool r, .int .i64 x, .int .i64 y, .int .i64 fr, .int .i64 sl, .int .i64 sz] 41) := ⟨_, rfl⟩
      rw [← hW1] at C1 T1 ⊢
      clear hW1 c0 c1 c2 c3 c4 c5 c6
      generalize wr.heap.size = X at *
      go_cut [9] (fun v' wx => ∃ (m : Nat) (l : List Cu) (s : St) (xs : List Pc) (U D : Nat → Prop), Hid (m ≤ k + 1 ∧ Two PS w wx U D [X] S H S' R l s l s v' m xs ∧ Rg xs) ∧ Hid (CopS wx X g r x y fr sl sz))
      case first =>
        cases g with
        | false =>
          obtain ⟨f, q, cc, e, l', s', ht⟩ := took_total x T1.out.wh (C.cuts T1.out.ps) (C.good T1.out.ps)
          have W' := hide (ht.whole T1.out.wh (C.cuts T1.out.ps) (C.good T1.out.ps))
          have TL := hide (ht.tells T1.out.wh (C.cuts T1.out.ps) (C.good T1.out.ps))
          have HT := hide ht
          clear ht
          have x2 : W1.cell? ⟨X, 2, none⟩ = some (.int .i64 x) := by rw [cell_of_row _ _ _ _ _ _ C1.out]; rfl
          go_wp2_with fail
          go_at_call 10
          refine (C.take T1.out.ps T1.out.wh HWN.out HT.out).mono ?_
          intro en w5 hs
          obtain ⟨rfl, U5, t5, h5⟩ := T1.out.left C W'.out hs
          have C5 : Hid (CopS w5 X false r x y fr sl sz) := (show CopS _ _ _ _ _ _ _ _ _ from (h5 X (by simp)).trans C1.out)
          have bA := (t5.alloc C (.cells #[.int .i64 (f : Int), .int .i64 (q : Int), .int .i64 (cc : Int)] 39))
          have T6 := hide bA.1
          have C6 : Hid (CopS (w5.alloc (.cells #[.int .i64 (f : Int), .int .i64 (q : Int), .int .i64 (cc : Int)] 39)) X false r x y fr sl sz) := (show CopS _ _ _ _ _ _ _ _ _ from (bA.2 X (by simp)).trans C5.out)
          have Y6 := hide (heap_alloc_new w5 (.cells #[.int .i64 (f : Int), .int .i64 (q : Int), .int .i64 (cc : Int)] 39))
          have XY := hide (show X < w5.heap.size from lt_of_heap C5.out)
          clear hs t5 h5 bA x2
          unfold refV
          go_upto_region 15 with fail
          generalize w5.heap.size = Y at *
          obtain ⟨w6, hw6⟩ : ∃ w6, w6 = w5.alloc (.cells #[.int .i64 (f : Int), .int .i64 (q : Int), .int .i64 (cc : Int)] 39) := ⟨_, rfl⟩
          rw [← hw6] at T6 C6 Y6 ⊢
          clear hw6
          have x2 : w6.cell? ⟨X, 2, none⟩ = some (.int .i64 x) := by rw [cell_of_row _ _ _ _ _ _ C6.out]; rfl
          go_wp2_with fail
          go_at_call 11
          refine (dtake T6.out.ds T6.out.wh2 HT.out).mono ?_
          intro en w7 hs
          obtain ⟨rfl, D7, t7, h7⟩ := T6.out.right C W'.out hs
          have C7 : Hid (CopS w7 X false r x y fr sl sz) := (show CopS _ _ _ _ _ _ _ _ _ from (h7 X (by simp)).trans C6.out)
          have Y7 := hide ((h7 Y (by simp)).trans Y6.out)
          have bA := (t7.alloc C (.cells #[.int .i64 (f : Int), .int .i64 (q : Int), .int .i64 (cc : Int)] 44))
          have T8 := hide bA.1
          have C8 : Hid (CopS (w7.alloc (.cells #[.int .i64 (f : Int), .int .i64 (q : Int), .int .i64 (cc : Int)] 44)) X false r x y fr sl sz) := (show CopS _ _ _ _ _ _ _ _ _ from (bA.2 X (by simp)).trans C7.out)
          have Y8 := hide ((bA.2 Y (by simp)).trans Y7.out)
          have Z8 := hide (heap_alloc_new w7 (.cells #[.int .i64 (f : Int), .int .i64 (q : Int), .int .i64 (cc : Int)] 44))
          clear hs t7 h7 bA x2 T6 C6 Y6 C5 Y7 C7
          unfold refV
          go_upto_region 16 with fail
          generalize w7.heap.size = Z at *
          obtain ⟨w8, hw8⟩ : ∃ w8, w8 = w7.alloc (.cells #[.int .i64 (f : Int), .int .i64 (q : Int), .int .i64 (cc : Int)] 44) := ⟨_, rfl⟩
          rw [← hw8] at T8 C8 Y8 Z8 ⊢
          clear hw8
          have y0 : w8.cell? ⟨Y, 0, none⟩ = some (.int .i64 (f : Int)) := by rw [cell_of_row _ _ _ _ _ _ Y8.out]; rfl
          have y1 : w8.cell? ⟨Y, 1, none⟩ = some (.int .i64 (q : Int)) := by rw [cell_of_row _ _ _ _ _ _ Y8.out]; rfl
          have y2 : w8.cell? ⟨Y, 2, none⟩ = some (.int .i64 (cc : Int)) := by rw [cell_of_row _ _ _ _ _ _ Y8.out]; rfl
          have z0 : w8.cell? ⟨Z, 0, none⟩ = some (.int .i64 (f : Int)) := by rw [cell_of_row _ _ _ _ _ _ Z8.out]; rfl
          have z1 : w8.cell? ⟨Z, 1, none⟩ = some (.int .i64 (q : Int)) := by rw [cell_of_row _ _ _ _ _ _ Z8.out]; rfl
          have z2 : w8.cell? ⟨Z, 2, none⟩ = some (.int .i64 (cc : Int)) := by rw [cell_of_row _ _ _ _ _ _ Z8.out]; rfl
          have g0 : ((f : Int) != (f : Int)) = false := by simp
          have g1 : ((q : Int) != (q : Int)) = false := by simp
          have g2 : ((cc : Int) != (cc : Int)) = false := by simp
          have g3 : ((e : Int) != (e : Int)) = false := by simp
          rcases TL.out with ⟨rfl, hF⟩ | ⟨rfl, rfl, rfl, he, rfl, rfl⟩
          · have FF := hide hF
            clear hF
            go_upto_region 19 with (go_at_call 12; refine (num_any _ _).mono ?_; rintro e w' ⟨rfl, rfl⟩)
            have y := Y8.out
            obtain ⟨i0, hi0, hz0, hz1, hz2⟩ := info_parts ref_info
            have HZ := hide hz2
            clear hz2 y
            have M100 := hide (show m ≤ 100 by have := M0.out; omega)
            go_wp2_with (at_builtin; refine wpList_append_own_at _ rfl (.tmp 91) (.tmp 93) _ rfl w.heap.size 39 i0 _ 3 24 Try.underlying37 hi0 hz0 hz1 HZ.out rfl (by omega) _ _ _ rfl (T8.out.below C ((Below.refl w8.heap.size w8).alloc (Nat.le_refl _) _)).1.row ⟨w8.heap.size, 0, none⟩ 1 1 (cellsPc ⟨(f : Int), (q : Int), (cc : Int)⟩) rfl rfl (cells_three w8 _ _ _ _ _ rfl) (cellsPc_one _) (by have := M100.out; unfold maxLen; omega) (by have := M100.out; omega) (by have := T8.out.bel.size; simp; omega) ?_; intro v9 w9 o9 g9 _ t9)
            have bA := T8.out.below C ((Below.refl w8.heap.size w8).alloc (Nat.le_refl _) (.cells #[.int .i64 (f : Int), .int .i64 (q : Int), .int .i64 (cc : Int)] 39))
            go_meet
            refine ⟨m + 1, _, _, xs ++ [⟨(f : Int), (q : Int), (cc : Int)⟩], U5, D7, ⟨by have := M0.out; omega, (bA.1.next C (Touch.of_grown g9 (fun g hg => hg)) (by rw [cellsPcs_append, cellsPcs_one]; exact o9) (by simp [bA.1.len]) (fun g hg => ?_)).fewer (fun g hg => by simp at hg; subst hg; simp), fun u hu => ?_⟩, ?_⟩
            · rcases t9 with e | e
              · exact .inl (e ▸ hg)
              · rw [e] at hg; injection hg with hg; exact .inr (by omega)
            · rcases List.mem_append.mp hu with hu | hu
              · exact RG.out u hu
              · obtain rfl := List.mem_singleton.mp hu
                have := FF.out.frame.1
                have := (C.good T8.out.ps).n64
                have h6 := FF.out.six
                have h7 := FF.out.within
                exact ⟨wf_small (by omega), wf_small (by rcases h6 with e | e | e <;> subst e <;> omega), wf_small (by omega)⟩
            · have hX := bA.1.gs X (by simp)
              exact (g9.block X hX.1 (fun e => (bA.1.vU X e.symm).2.2 (by simp))).trans ((bA.2 X (by simp)).trans C8.out)
          · have he' : ((e : Int) == 0) = false := by rcases he with rfl | rfl <;> rfl
            go_wp2_with (go_at_call 12; refine (num_any _ _).mono ?_; rintro e w' ⟨rfl, rfl⟩)
            go_meet
            exact ⟨m, _, _, xs, U5, D7, ⟨Nat.le_succ_of_le M0.out, T8.out.fewer (fun g hg => by simp at hg; subst hg; simp), RG.out⟩, C8⟩
        | true =>
          have x4 : W1.cell? ⟨X, 4, none⟩ = some (.int .i64 fr) := by rw [cell_of_row _ _ _ _ _ _ C1.out]; rfl
          have x5 : W1.cell? ⟨X, 5, none⟩ = some (.int .i64 sl) := by rw [cell_of_row _ _ _ _ _ _ C1.out]; rfl
          have x6 : W1.cell? ⟨X, 6, none⟩ = some (.int .i64 sz) := by rw [cell_of_row _ _ _ _ _ _ C1.out]; rfl
          have bA := (T1.out.alloc C (.cells #[.int .i64 fr, .int .i64 sl, .int .i64 sz] 39))
          have T2 := hide bA.1
          have C2 : Hid (CopS (W1.alloc (.cells #[.int .i64 fr, .int .i64 sl, .int .i64 sz] 39)) X true r x y fr sl sz) := (show CopS _ _ _ _ _ _ _ _ _ from (bA.2 X (by simp)).trans C1.out)
          have Y2 := hide (heap_alloc_new W1 (.cells #[.int .i64 fr, .int .i64 sl, .int .i64 sz] 39))
          have XY := hide (show X < W1.heap.size from lt_of_heap C1.out)
          clear bA
          obtain ⟨A9, c9, rfl, _⟩ := own_sliceR T2.out.row
          have W : r = true ∨ (r = false ∧ ¬ (0 : Int) < (m : Int)) ∨ (r = false ∧ (0 : Int) < (m : Int)) := by
            cases r
            · by_cases h : (0 : Int) < (m : Int)
              · exact .inr (.inr ⟨rfl, h⟩)
              · exact .inr (.inl ⟨rfl, h⟩)
            · exact .inl rfl
          go_upto_region 21 with fail
          clear x4 x5 x6
          generalize hYY : W1.heap.size = Y at *
          have YL := hide (show w.heap.size ≤ Y by have := T1.out.bel.size; omega)
          obtain ⟨w2, hw2⟩ : ∃ w2, w2 = W1.alloc (.cells #[.int .i64 fr, .int .i64 sl, .int .i64 sz] 39) := ⟨_, rfl⟩
          rw [← hw2] at T2 C2 Y2 ⊢
          clear hw2 hYY
          have x1 : w2.cell? ⟨X, 1, none⟩ = some (.bool r) := by rw [cell_of_row _ _ _ _ _ _ C2.out]; rfl
          have x3 : w2.cell? ⟨X, 3, none⟩ = some (.int .i64 y) := by rw [cell_of_row _ _ _ _ _ _ C2.out]; rfl
          rcases W with rfl | ⟨rfl, hm⟩ | ⟨rfl, hm⟩
          · go_upto_region 23 with fail
            clear x1 x3
            obtain ⟨y0, y1, y2⟩ := tri_cells Y2.out
            obtain ⟨e, l', s', hg⟩ := gave_total fr sl sz l s
            have HG := hide hg
            have W' := hide (hg.whole T2.out.wh (C.cuts T2.out.ps) (C.good T2.out.ps))
            have NO := hide (gave_gone hg T2.out.wh (C.cuts T2.out.ps) (C.good T2.out.ps))
            have bA := T2.out.alloc C (.cells #[.int .i64 fr, .int .i64 sl, .int .i64 sz] 44)
            have T3 := hide bA.1
            have C3 : Hid (CopS (w2.alloc (.cells #[.int .i64 fr, .int .i64 sl, .int .i64 sz] 44)) X true true x y fr sl sz) := (show CopS _ _ _ _ _ _ _ _ _ from (bA.2 X (by simp)).trans C2.out)
            have Y3 := hide ((bA.2 Y (by simp)).trans Y2.out)
            have Z3 := hide (heap_alloc_new w2 (.cells #[.int .i64 fr, .int .i64 sl, .int .i64 sz] 44))
            clear bA hg
            go_upto_region 24 with fail
            clear y0 y1 y2
            generalize w2.heap.size = Z at *
            obtain ⟨w3, hw3⟩ : ∃ w3, w3 = w2.alloc (.cells #[.int .i64 fr, .int .i64 sl, .int .i64 sz] 44) := ⟨_, rfl⟩
            rw [← hw3] at T3 C3 Y3 Z3 ⊢
            clear hw3
            have q3 := six_cells Y3.out Z3.out
            obtain ⟨b0, hb0⟩ : ∃ b0, b0 = there l fr sl sz := ⟨_, rfl⟩
            have HB0 := hide hb0
            have g0 : (b0 != b0) = false := by simp
            have g3 : ((e : Int) != (e : Int)) = false := by simp
            clear hb0
            go_region_held3 (fun w' => w'.cell? ⟨Y, 0, none⟩ = some (.int .i64 fr) ∧ w'.cell? ⟨Y, 1, none⟩ = some (.int .i64 sl) ∧ w'.cell? ⟨Y, 2, none⟩ = some (.int .i64 sz) ∧ w'.cell? ⟨Z, 0, none⟩ = some (.int .i64 fr) ∧ w'.cell? ⟨Z, 1, none⟩ = some (.int .i64 sl) ∧ w'.cell? ⟨Z, 2, none⟩ = some (.int .i64 sz)) (first | exact q3 | exact q4 | exact q5 | exact q6 | exact q7 | exact q8) (first
              | (go_at_call 14; refine (C.has (T3.out.below C (below_drewN (Below.refl _ _) 1)).1.ps HWF.out HWS.out HWZ.out).mono ?_; rintro en w4 ⟨rfl, b4⟩; rw [← HB0.out]; obtain ⟨t4, h4⟩ := (T3.out.below C (below_drewN (Below.refl _ _) 1)).1.below C b4; clear b4; have T4 := hide t4; have Y4 := hide ((h4 Y (by simp)).trans Y3.out); have Z4 := hide ((h4 Z (by simp)).trans Z3.out); have C4 : Hid (CopS w4 X true true x y fr sl sz) := (show CopS _ _ _ _ _ _ _ _ _ from (h4 X (by simp)).trans C3.out); have q4 := six_cells Y4.out Z4.out; clear t4 h4)
              | (go_at_call 15; refine (rhas_sl T4.out.ds.sr _ _ _ HWS.out).mono ?_; rintro en w5 ⟨rfl, b5⟩; rw [← HB0.out]; obtain ⟨t5, h5⟩ := T4.out.below C b5; clear b5; have T5 := hide t5; have Y5 := hide ((h5 Y (by simp)).trans Y4.out); have Z5 := hide ((h5 Z (by simp)).trans Z4.out); have C5 : Hid (CopS w5 X true true x y fr sl sz) := (show CopS _ _ _ _ _ _ _ _ _ from (h5 X (by simp)).trans C4.out); have q5 := six_cells Y5.out Z5.out; clear t5 h5)
              | (go_at_call 16; refine (C.give T5.out.ps T5.out.wh HWF.out HWS.out HWZ.out HG.out).mono ?_; intro en w6 hs; obtain ⟨rfl, U6, t6, h6⟩ := T5.out.left C W'.out hs; clear hs; have T6 := hide t6; have Y6 := hide ((h6 Y (by simp)).trans Y5.out); have Z6 := hide ((h6 Z (by simp)).trans Z5.out); have C6 : Hid (CopS w6 X true true x y fr sl sz) := (show CopS _ _ _ _ _ _ _ _ _ from (h6 X (by simp)).trans C5.out); have q6 := six_cells Y6.out Z6.out; clear t6 h6)
              | (go_at_call 17; refine (dgive T6.out.ds T6.out.wh2 HWS.out HG.out).mono ?_; intro en w7 hs; obtain ⟨rfl, D7, t7, h7⟩ := T6.out.right C W'.out hs; clear hs; have T7 := hide t7; have Y7 := hide ((h7 Y (by simp)).trans Y6.out); have Z7 := hide ((h7 Z (by simp)).trans Z6.out); have C7 : Hid (CopS w7 X true true x y fr sl sz) := (show CopS _ _ _ _ _ _ _ _ _ from (h7 X (by simp)).trans C6.out); have q7 := six_cells Y7.out Z7.out; clear t7 h7)
              | (go_at_call 14; refine (C.has T7.out.ps HWF.out HWS.out HWZ.out).mono ?_; rintro en w8 ⟨rfl, b8⟩; rw [NO.out]; obtain ⟨t8, h8⟩ := T7.out.below C b8; clear b8; have T8 := hide t8; have Y8 := hide ((h8 Y (by simp)).trans Y7.out); have Z8 := hide ((h8 Z (by simp)).trans Z7.out); have C8 : Hid (CopS w8 X true true x y fr sl sz) := (show CopS _ _ _ _ _ _ _ _ _ from (h8 X (by simp)).trans C7.out); have q8 := six_cells Y8.out Z8.out; clear t8 h8)
              | (go_at_call 12; refine (num_any _ _).mono ?_; rintro e w' ⟨rfl, rfl⟩))
            go_wp2_with fail
            go_meet
            exact ⟨m, l', s', xs, U6, D7, ⟨Nat.le_succ_of_le M0.out, T8.out.fewer (fun g hg => by simp at hg; subst hg; simp), RG.out⟩, C8⟩
          · go_upto_region 23 with fail
            clear x1 x3
            obtain ⟨y0, y1, y2⟩ := tri_cells Y2.out
            obtain ⟨e, l', s', hg⟩ := gave_total fr sl sz l s
            have HG := hide hg
            have W' := hide (hg.whole T2.out.wh (C.cuts T2.out.ps) (C.good T2.out.ps))
            have NO := hide (gave_gone hg T2.out.wh (C.cuts T2.out.ps) (C.good T2.out.ps))
            have bA := T2.out.alloc C (.cells #[.int .i64 fr, .int .i64 sl, .int .i64 sz] 44)
            have T3 := hide bA.1
            have C3 : Hid (CopS (w2.alloc (.cells #[.int .i64 fr, .int .i64 sl, .int .i64 sz] 44)) X true false x y fr sl sz) := (show CopS _ _ _ _ _ _ _ _ _ from (bA.2 X (by simp)).trans C2.out)
            have Y3 := hide ((bA.2 Y (by simp)).trans Y2.out)
            have Z3 := hide (heap_alloc_new w2 (.cells #[.int .i64 fr, .int .i64 sl, .int .i64 sz] 44))
            clear bA hg
            go_upto_region 24 with fail
            clear y0 y1 y2
            generalize w2.heap.size = Z at *
            obtain ⟨w3, hw3⟩ : ∃ w3, w3 = w2.alloc (.cells #[.int .i64 fr, .int .i64 sl, .int .i64 sz] 44) := ⟨_, rfl⟩
            rw [← hw3] at T3 C3 Y3 Z3 ⊢
            clear hw3
            have q3 := six_cells Y3.out Z3.out
            obtain ⟨b0, hb0⟩ : ∃ b0, b0 = there l fr sl sz := ⟨_, rfl⟩
            have HB0 := hide hb0
            have g0 : (b0 != b0) = false := by simp
            have g3 : ((e : Int) != (e : Int)) = false := by simp
            clear hb0
            go_region_held3 (fun w' => w'.cell? ⟨Y, 0, none⟩ = some (.int .i64 fr) ∧ w'.cell? ⟨Y, 1, none⟩ = some (.int .i64 sl) ∧ w'.cell? ⟨Y, 2, none⟩ = some (.int .i64 sz) ∧ w'.cell? ⟨Z, 0, none⟩ = some (.int .i64 fr) ∧ w'.cell? ⟨Z, 1, none⟩ = some (.int .i64 sl) ∧ w'.cell? ⟨Z, 2, none⟩ = some (.int .i64 sz)) (first | exact q3 | exact q4 | exact q5 | exact q6 | exact q7 | exact q8) (first
              | (go_at_call 14; refine (C.has (T3.out.below C (below_drewN (Below.refl _ _) 1)).1.ps HWF.out HWS.out HWZ.out).mono ?_; rintro en w4 ⟨rfl, b4⟩; rw [← HB0.out]; obtain ⟨t4, h4⟩ := (T3.out.below C (below_drewN (Below.refl _ _) 1)).1.below C b4; clear b4; have T4 := hide t4; have Y4 := hide ((h4 Y (by simp)).trans Y3.out); have Z4 := hide ((h4 Z (by simp)).trans Z3.out); have C4 : Hid (CopS w4 X true false x y fr sl sz) := (show CopS _ _ _ _ _ _ _ _ _ from (h4 X (by simp)).trans C3.out); have q4 := six_cells Y4.out Z4.out; clear t4 h4)
              | (go_at_call 15; refine (rhas_sl T4.out.ds.sr _ _ _ HWS.out).mono ?_; rintro en w5 ⟨rfl, b5⟩; rw [← HB0.out]; obtain ⟨t5, h5⟩ := T4.out.below C b5; clear b5; have T5 := hide t5; have Y5 := hide ((h5 Y (by simp)).trans Y4.out); have Z5 := hide ((h5 Z (by simp)).trans Z4.out); have C5 : Hid (CopS w5 X true false x y fr sl sz) := (show CopS _ _ _ _ _ _ _ _ _ from (h5 X (by simp)).trans C4.out); have q5 := six_cells Y5.out Z5.out; clear t5 h5)
              | (go_at_call 16; refine (C.give T5.out.ps T5.out.wh HWF.out HWS.out HWZ.out HG.out).mono ?_; intro en w6 hs; obtain ⟨rfl, U6, t6, h6⟩ := T5.out.left C W'.out hs; clear hs; have T6 := hide t6; have Y6 := hide ((h6 Y (by simp)).trans Y5.out); have Z6 := hide ((h6 Z (by simp)).trans Z5.out); have C6 : Hid (CopS w6 X true false x y fr sl sz) := (show CopS _ _ _ _ _ _ _ _ _ from (h6 X (by simp)).trans C5.out); have q6 := six_cells Y6.out Z6.out; clear t6 h6)
              | (go_at_call 17; refine (dgive T6.out.ds T6.out.wh2 HWS.out HG.out).mono ?_; intro en w7 hs; obtain ⟨rfl, D7, t7, h7⟩ := T6.out.right C W'.out hs; clear hs; have T7 := hide t7; have Y7 := hide ((h7 Y (by simp)).trans Y6.out); have Z7 := hide ((h7 Z (by simp)).trans Z6.out); have C7 : Hid (CopS w7 X true false x y fr sl sz) := (show CopS _ _ _ _ _ _ _ _ _ from (h7 X (by simp)).trans C6.out); have q7 := six_cells Y7.out Z7.out; clear t7 h7)
              | (go_at_call 14; refine (C.has T7.out.ps HWF.out HWS.out HWZ.out).mono ?_; rintro en w8 ⟨rfl, b8⟩; rw [NO.out]; obtain ⟨t8, h8⟩ := T7.out.below C b8; clear b8; have T8 := hide t8; have Y8 := hide ((h8 Y (by simp)).trans Y7.out); have Z8 := hide ((h8 Z (by simp)).trans Z7.out); have C8 : Hid (CopS w8 X true false x y fr sl sz) := (show CopS _ _ _ _ _ _ _ _ _ from (h8 X (by simp)).trans C7.out); have q8 := six_cells Y8.out Z8.out; clear t8 h8)
              | (go_at_call 12; refine (num_any _ _).mono ?_; rintro e w' ⟨rfl, rfl⟩))
            go_wp2_with fail
            go_meet
            exact ⟨m, l', s', xs, U6, D7, ⟨Nat.le_succ_of_le M0.out, T8.out.fewer (fun g hg => by simp at hg; subst hg; simp), RG.out⟩, C8⟩
          · have hm0 : 0 < m := by omega
            have M100 := hide (show m ≤ 100 by have := M0.out; omega)
            obtain ⟨g9, rfl, _⟩ := T2.out.had hm0
            have z0 : w2.frozen? ⟨Y, 0, none⟩ = false := frozen_of_row _ _ _ _ _ Y2.out
            have z1 : w2.frozen? ⟨Y, 1, none⟩ = false := frozen_of_row _ _ _ _ _ Y2.out
            have z2 : w2.frozen? ⟨Y, 2, none⟩ = false := frozen_of_row _ _ _ _ _ Y2.out
            obtain ⟨y0, y1, y2⟩ := tri_cells Y2.out
            go_upto_region 23 with (go_at_call 13; refine (low_any _ m _ hm0 (by have := M100.out; omega)).mono ?_; rintro e w' ⟨⟨r2, hr2, rfl⟩, rfl⟩; obtain ⟨fr2, sl2, sz2, d0, d1, d2, WF2, WS2, WZ2⟩ := T2.out.had2 RG.out hr2; have r0 : (0 : Int) ≤ (r2 : Int) := (by omega); have r1 : (r2 : Int) < (m : Int) := (by omega))
            have T9 := hide (T2.out.set C (X := Y) (by simp) YL.out (three_touch (x := .int .i64 fr2) (y := .int .i64 sl2) (z := .int .i64 sz2)))
            have Y9 := hide (three_set (x := .int .i64 fr2) (y := .int .i64 sl2) (z := .int .i64 sz2) Y2.out)
            have C9 : Hid (CopS (((w2.setCell ⟨Y, 0, none⟩ (.int .i64 fr2)).setCell ⟨Y, 1, none⟩ (.int .i64 sl2)).setCell ⟨Y, 2, none⟩ (.int .i64 sz2)) X true false x y fr sl sz) := (show CopS _ _ _ _ _ _ _ _ _ from (three_touch.block X (lt_of_heap C2.out) (by have := XY.out; omega)).trans C2.out)
            clear x1 x3 y0 y1 y2 d0 d1 d2 z0 z1 z2
            generalize ((w2.setCell ⟨Y, 0, none⟩ (.int .i64 fr2)).setCell ⟨Y, 1, none⟩ (.int .i64 sl2)).setCell ⟨Y, 2, none⟩ (.int .i64 sz2) = w9 at *
            obtain ⟨y0, y1, y2⟩ := tri_cells Y9.out
            obtain ⟨e, l', s', hg⟩ := gave_total fr2 sl2 sz2 l s
            have HG := hide hg
            have W' := hide (hg.whole T9.out.wh (C.cuts T9.out.ps) (C.good T9.out.ps))
            have NO := hide (gave_gone hg T9.out.wh (C.cuts T9.out.ps) (C.good T9.out.ps))
            have bA := T9.out.alloc C (.cells #[.int .i64 fr2, .int .i64 sl2, .int .i64 sz2] 44)
            have T3 := hide bA.1
            have C3 : Hid (CopS (w9.alloc (.cells #[.int .i64 fr2, .int .i64 sl2, .int .i64 sz2] 44)) X true false x y fr sl sz) := (show CopS _ _ _ _ _ _ _ _ _ from (bA.2 X (by simp)).trans C9.out)
            have Y3 := hide ((bA.2 Y (by simp)).trans Y9.out)
            have Z3 := hide (heap_alloc_new w9 (.cells #[.int .i64 fr2, .int .i64 sl2, .int .i64 sz2] 44))
            clear bA hg
            go_upto_region 24 with fail
            clear y0 y1 y2
            generalize w9.heap.size = Z at *
            obtain ⟨w3, hw3⟩ : ∃ w3, w3 = w9.alloc (.cells #[.int .i64 fr2, .int .i64 sl2, .int .i64 sz2] 44) := ⟨_, rfl⟩
            rw [← hw3] at T3 C3 Y3 Z3 ⊢
            clear hw3
            have q3 := six_cells Y3.out Z3.out
            obtain ⟨b0, hb0⟩ : ∃ b0, b0 = there l fr2 sl2 sz2 := ⟨_, rfl⟩
            have HB0 := hide hb0
            have g0 : (b0 != b0) = false := by simp
            have g3 : ((e : Int) != (e : Int)) = false := by simp
            clear hb0
            go_region_held3 (fun w' => w'.cell? ⟨Y, 0, none⟩ = some (.int .i64 fr2) ∧ w'.cell? ⟨Y, 1, none⟩ = some (.int .i64 sl2) ∧ w'.cell? ⟨Y, 2, none⟩ = some (.int .i64 sz2) ∧ w'.cell? ⟨Z, 0, none⟩ = some (.int .i64 fr2) ∧ w'.cell? ⟨Z, 1, none⟩ = some (.int .i64 sl2) ∧ w'.cell? ⟨Z, 2, none⟩ = some (.int .i64 sz2)) (first | exact q3 | exact q4 | exact q5 | exact q6 | exact q7 | exact q8) (first
              | (go_at_call 14; refine (C.has (T3.out.below C (below_drewN (Below.refl _ _) 1)).1.ps WF2.out WS2.out WZ2.out).mono ?_; rintro en w4 ⟨rfl, b4⟩; rw [← HB0.out]; obtain ⟨t4, h4⟩ := (T3.out.below C (below_drewN (Below.refl _ _) 1)).1.below C b4; clear b4; have T4 := hide t4; have Y4 := hide ((h4 Y (by simp)).trans Y3.out); have Z4 := hide ((h4 Z (by simp)).trans Z3.out); have C4 : Hid (CopS w4 X true false x y fr sl sz) := (show CopS _ _ _ _ _ _ _ _ _ from (h4 X (by simp)).trans C3.out); have q4 := six_cells Y4.out Z4.out; clear t4 h4)
              | (go_at_call 15; refine (rhas_sl T4.out.ds.sr _ _ _ WS2.out).mono ?_; rintro en w5 ⟨rfl, b5⟩; rw [← HB0.out]; obtain ⟨t5, h5⟩ := T4.out.below C b5; clear b5; have T5 := hide t5; have Y5 := hide ((h5 Y (by simp)).trans Y4.out); have Z5 := hide ((h5 Z (by simp)).trans Z4.out); have C5 : Hid (CopS w5 X true false x y fr sl sz) := (show CopS _ _ _ _ _ _ _ _ _ from (h5 X (by simp)).trans C4.out); have q5 := six_cells Y5.out Z5.out; clear t5 h5)
              | (go_at_call 16; refine (C.give T5.out.ps T5.out.wh WF2.out WS2.out WZ2.out HG.out).mono ?_; intro en w6 hs; obtain ⟨rfl, U6, t6, h6⟩ := T5.out.left C W'.out hs; clear hs; have T6 := hide t6; have Y6 := hide ((h6 Y (by simp)).trans Y5.out); have Z6 := hide ((h6 Z (by simp)).trans Z5.out); have C6 : Hid (CopS w6 X true false x y fr sl sz) := (show CopS _ _ _ _ _ _ _ _ _ from (h6 X (by simp)).trans C5.out); have q6 := six_cells Y6.out Z6.out; clear t6 h6)
              | (go_at_call 17; refine (dgive T6.out.ds T6.out.wh2 WS2.out HG.out).mono ?_; intro en w7 hs; obtain ⟨rfl, D7, t7, h7⟩ := T6.out.right C W'.out hs; clear hs; have T7 := hide t7; have Y7 := hide ((h7 Y (by simp)).trans Y6.out); have Z7 := hide ((h7 Z (by simp)).trans Z6.out); have C7 : Hid (CopS w7 X true false x y fr sl sz) := (show CopS _ _ _ _ _ _ _ _ _ from (h7 X (by simp)).trans C6.out); have q7 := six_cells Y7.out Z7.out; clear t7 h7)
              | (go_at_call 14; refine (C.has T7.out.ps WF2.out WS2.out WZ2.out).mono ?_; rintro en w8 ⟨rfl, b8⟩; rw [NO.out]; obtain ⟨t8, h8⟩ := T7.out.below C b8; clear b8; have T8 := hide t8; have Y8 := hide ((h8 Y (by simp)).trans Y7.out); have Z8 := hide ((h8 Z (by simp)).trans Z7.out); have C8 : Hid (CopS w8 X true false x y fr sl sz) := (show CopS _ _ _ _ _ _ _ _ _ from (h8 X (by simp)).trans C7.out); have q8 := six_cells Y8.out Z8.out; clear t8 h8)
              | (go_at_call 12; refine (num_any _ _).mono ?_; rintro e w' ⟨rfl, rfl⟩))
            go_wp2_with fail
            go_meet
            exact ⟨m, l', s', xs, U6, D7, ⟨Nat.le_succ_of_le M0.out, T8.out.fewer (fun g hg => by simp at hg; subst hg; simp), RG.out⟩, C8⟩
      case rest =>
        clear T1 C1
        obtain ⟨m, l, s, xs, U, D, hR, hC⟩ := hcut
        have x2 : wc.cell? ⟨X, 2, none⟩ = some (.int .i64 x) := by rw [cell_of_row _ _ _ _ _ _ hC.out]; rfl
        have g0 : (((pieces l : Nat) : Int) != ((pieces l : Nat) : Int)) = false := by simp
        have g1 : ((s.fr.length : Int) != (s.fr.length : Int)) = false := by simp
        have g2 : (((cls x : Nat) : Int) != ((cls x : Nat) : Int)) = false := by simp
        go_wp2_with fail
        have T3 := hide hR.out.2.1
        have C3 : Hid (CopS wc X g r x y fr sl sz) := hC
        go_region_held3 (fun w' => w'.cell? ⟨X, 2, none⟩ = some (.int .i64 x)) (first | exact x2 | exact q4 | exact q5 | exact q6) (first
          | (go_at_call 18; refine (C.len (T3.out.below C (below_drewN (Below.refl _ _) 1)).1.ps).mono ?_; rintro en w4 ⟨rfl, b4⟩; obtain ⟨t4, h4⟩ := (T3.out.below C (below_drewN (Below.refl _ _) 1)).1.below C b4; clear b4; have T4 := hide t4; have C4 : Hid (CopS w4 X g r x y fr sl sz) := (show CopS _ _ _ _ _ _ _ _ _ from (h4 X (by simp)).trans C3.out); have q4 : w4.cell? ⟨X, 2, none⟩ = some (.int .i64 x) := (by rw [cell_of_row _ _ _ _ _ _ C4.out]; rfl); clear t4 h4)
          | (go_at_call 19; refine (rlen_any T4.out.ds.sr).mono ?_; rintro en w5 ⟨rfl, rfl⟩)
          | (go_at_call 20; refine (C.free T4.out.ps).mono ?_; rintro en w5 ⟨rfl, rfl⟩)
          | (go_at_call 21; refine T4.out.ds.free.mono ?_; rintro en w5 ⟨rfl, m5, rfl⟩; have T5 := hide (T4.out.below C (below_drewN (Below.refl _ _) m5)).1; have q5 : (w4.drewN m5).cell? ⟨X, 2, none⟩ = some (.int .i64 x) := q4)
          | (go_at_call 22; refine (C.cls _ x HWN.out).mono ?_; rintro en w5 ⟨rfl, m6, rfl⟩; have T6 := hide (T5.out.below C (below_drewN (Below.refl _ _) m6)).1; have q6 : ((w4.drewN m5).drewN m6).cell? ⟨X, 2, none⟩ = some (.int .i64 x) := q4)
          | (go_at_call 23; refine (rcls_any _ x).mono ?_; rintro en w5 ⟨rfl, rfl⟩))
        go_wp2_with fail
        go_roundw
        case rel =>
          have T7 := T6.out.fewer (G' := []) (fun g hg => (List.not_mem_nil hg).elim)
          rw [World.drewN_drewN] at T7
          exact ⟨k + 1, m, l, s, xs, U, D, by omega, by go_num, hR.out.1, T7, hR.out.2.2⟩
        case measure => simp [intOf]; omega
    · obtain rfl : k = n := by omega
      go_wp2_with (go_at_call 6; with_reducible refine (sawake_any C _).mono ?_; rintro e w' ⟨rfl, hb⟩)
      go_ret
      exact ⟨rfl, hT.out.2.1.bel.trans (hb.mono hT.out.2.1.bel.size)⟩
end
end Go.Proofs.Ytllapjidnngaeaa
