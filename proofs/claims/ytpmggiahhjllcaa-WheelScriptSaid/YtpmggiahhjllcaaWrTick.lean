/-
  The document's own wheel: Tick.
-/
import Derived.Test.YtpmggiahhjllcaaWrCancel
import Derived.Test.YtpmggiahhjllcaaSame
namespace Go.Proofs.Ytpmggiahhjllcaa
open Go.ChangeShapes Go.WideShapes Go.ChangeAt Go.RowKit
set_option linter.unusedVariables false
def goneK (l : List Tm) (n k : Nat) : List Int := ((l.take k).filter (fun x => x.due == n + 1)).map (fun x => (x.id : Int))
def restK (l : List Tm) (n k : Nat) : List Tm := (l.take k).filter (fun x => !(x.due == n + 1))
def movedK (l : List Tm) (n k : Nat) : Nat := (restK l n k).countP (fun x => ring n x.due != ring (n + 1) x.due)
theorem goneK_hit {l : List Tm} {n k : Nat} (hk : k < l.length) (h : l[k].due = n + 1) : goneK l n (k + 1) = goneK l n k ++ [(l[k].id : Int)] := by
  unfold goneK
  rw [List.take_succ_eq_append_getElem hk, List.filter_append, List.map_append]
  simp [h]
theorem goneK_miss {l : List Tm} {n k : Nat} (hk : k < l.length) (h : l[k].due ≠ n + 1) : goneK l n (k + 1) = goneK l n k := by
  unfold goneK
  rw [List.take_succ_eq_append_getElem hk, List.filter_append, List.map_append]
  simp [h]
theorem restK_hit {l : List Tm} {n k : Nat} (hk : k < l.length) (h : l[k].due = n + 1) : restK l n (k + 1) = restK l n k := by
  unfold restK
  rw [List.take_succ_eq_append_getElem hk, List.filter_append]
  simp [h]
theorem restK_miss {l : List Tm} {n k : Nat} (hk : k < l.length) (h : l[k].due ≠ n + 1) : restK l n (k + 1) = restK l n k ++ [l[k]] := by
  unfold restK
  rw [List.take_succ_eq_append_getElem hk, List.filter_append]
  simp [h]
theorem movedK_hit {l : List Tm} {n k : Nat} (hk : k < l.length) (h : l[k].due = n + 1) : movedK l n (k + 1) = movedK l n k := by
  unfold movedK; rw [restK_hit hk h]
theorem movedK_miss {l : List Tm} {n k : Nat} (hk : k < l.length) (h : l[k].due ≠ n + 1) : movedK l n (k + 1) = movedK l n k + if ring n l[k].due = ring (n + 1) l[k].due then 0 else 1 := by
  unfold movedK
  rw [restK_miss hk h, List.countP_append]
  congr 1
  by_cases e : ring n l[k].due = ring (n + 1) l[k].due
  · rw [if_pos e]; simp [e]
  · rw [if_neg e]; simp [e]
theorem goneK_len (l : List Tm) (n k : Nat) : (goneK l n k).length ≤ l.length := by
  unfold goneK
  rw [List.length_map]
  exact Nat.le_trans (List.length_filter_le _ _) (by rw [List.length_take]; omega)
theorem restK_len (l : List Tm) (n k : Nat) : (restK l n k).length ≤ l.length := by
  unfold restK
  exact Nat.le_trans (List.length_filter_le _ _) (by rw [List.length_take]; omega)
theorem movedK_len (l : List Tm) (n k : Nat) : movedK l n k ≤ l.length := Nat.le_trans List.countP_le_length (restK_len l n k)
/-- What a Tick tells: those that went off, how many were moved. -/
def goneI (s : Ws) : List Int := (gone s).map Int.ofNat
theorem goneK_all (s : Ws) : goneK s.l s.now s.l.length = goneI s := by
  unfold goneK goneI gone
  rw [List.take_length, List.map_map]; rfl
theorem restK_all (s : Ws) : restK s.l s.now s.l.length = rest s := by
  unfold restK rest
  rw [List.take_length]
theorem movedK_all (s : Ws) : movedK s.l s.now s.l.length = moved s := by
  unfold movedK moved
  rw [restK_all]
/-- The two rows of a Tick under way. -/
structure Rows2 (w0 wr : World) (l : List Tm) (n k : Nat) (v u : Value) : Prop where
  bel : Below w0.heap.size w0 wr
  g : wr.ownsRow w0.heap.size 3 1 v (goneK l n k).length ((goneK l n k).map (Value.int .i64))
  r : wr.ownsRow w0.heap.size 65 2 u (restK l n k).length (cellsTms (restK l n k))
  d : ∀ i, v.ownBlock = some i → u.ownBlock ≠ some i
theorem Rows2.below {w0 wr w' : World} {l : List Tm} {n k : Nat} {v u : Value} (h : Rows2 w0 wr l n k v u) (b : Below wr.heap.size wr w') : Rows2 w0 w' l n k v u :=
  have t : Touch (fun _ => False) wr w' := Touch.of_below b
  ⟨h.bel.trans (b.mono h.bel.size), t.own h.g (fun _ _ e => e), t.own h.r (fun _ _ e => e), h.d⟩
theorem Rows2.hit {w0 w3 w9 : World} {l : List Tm} {n k : Nat} {v u v9 : Value} {x : Int} {o : Obj} (h : Rows2 w0 w3 l n k v u) (o9 : w9.ownsRow w0.heap.size 3 1 v9 ((goneK l n k).length + 1) ((goneK l n k).map (Value.int .i64) ++ [.int .i64 x])) (g9 : (w3.alloc o).grownBy w9 v.ownBlock) (t9 : v9.ownBlock = v.ownBlock ∨ v9.ownBlock = some (w3.alloc o).heap.size)
    (e : goneK l n (k + 1) = goneK l n k ++ [x]) (e2 : restK l n (k + 1) = restK l n k) : Rows2 w0 w9 l n (k + 1) v9 u := by
  have t : Touch (fun i => v.ownBlock = some i) w3 w9 := ((Touch.refl (fun i => v.ownBlock = some i) w3).alloc o).trans (Touch.of_grown (S := fun i => v.ownBlock = some i) g9 (fun i hi => hi)) (fun i hi => .inl hi)
  refine ⟨h.bel.trans (t.below h.bel.size (fun i hi => (h.g.lt i hi).1)), ?_, ?_, fun i hi hu => ?_⟩
  · rw [e, List.length_append, List.map_append]; exact o9
  · rw [e2]; exact t.own h.r (fun i hi hv => h.d i hv hi)
  · rcases t9 with e3 | e3
    · exact h.d i (e3 ▸ hi) hu
    · rw [e3] at hi
      injection hi with hi
      have := (h.r.lt i hu).2
      simp at hi
      omega
theorem Rows2.miss {w0 w3 w9 : World} {l : List Tm} {n k : Nat} {v u u9 : Value} {x : Tm} {o : Obj} (h : Rows2 w0 w3 l n k v u) (o9 : w9.ownsRow w0.heap.size 65 2 u9 ((restK l n k).length + 1) (cellsTms (restK l n k) ++ cellsTm x)) (g9 : (w3.alloc o).grownBy w9 u.ownBlock) (t9 : u9.ownBlock = u.ownBlock ∨ u9.ownBlock = some (w3.alloc o).heap.size)
    (e : goneK l n (k + 1) = goneK l n k) (e2 : restK l n (k + 1) = restK l n k ++ [x]) : Rows2 w0 w9 l n (k + 1) v u9 := by
  have t : Touch (fun i => u.ownBlock = some i) w3 w9 := ((Touch.refl (fun i => u.ownBlock = some i) w3).alloc o).trans (Touch.of_grown (S := fun i => u.ownBlock = some i) g9 (fun i hi => hi)) (fun i hi => .inl hi)
  refine ⟨h.bel.trans (t.below h.bel.size (fun i hi => (h.r.lt i hi).1)), ?_, ?_, fun i hi hu => ?_⟩
  · rw [e]; exact t.own h.g (fun i hi hv => h.d i hi hv)
  · rw [e2, List.length_append, cellsTms_append, cellsTms_one]; exact o9
  · rcases t9 with e3 | e3
    · exact h.d i hi (e3 ▸ hu)
    · rw [e3] at hu
      injection hu with hu
      have := (h.g.lt i hi).2
      simp at hu
      omega
theorem wrtick_last {w : World} {G : Nat → Prop} {S : Nat} {s : Ws} (h : Wr w G S s) (e : s.now = 16777215) :
    Calls Try.prog 19 #[.pointer (some ⟨S, 0, none⟩)] w fun e w' => e = .returned (.tuple #[.slice none 0 0, .int .i64 0]) ∧ w = w' := by
  have s0 := h.s0
  rw [e] at s0
  clear h
  go_enter Try.func19, Try.ntmps19
  go_wp2_with fail
  go_ret2
  exact ⟨rfl, rfl⟩
set_option maxRecDepth 10000 in
set_option maxHeartbeats 8000000 in
theorem wrtick_ok {w : World} {G : Nat → Prop} {S : Nat} {s : Ws} (h : Wr w G S s) (hne : s.now ≠ 16777215) :
    Calls Try.prog 19 #[.pointer (some ⟨S, 0, none⟩)] w fun e w' => ∃ A c, e = .returned (.tuple #[.slice A (gone s).length c, .int .i64 (moved s : Nat)]) ∧ w'.ownsRow w.heap.size 3 1 (.slice A (gone s).length c) (gone s).length ((goneI s).map (Value.int .i64)) ∧
      ∃ G', Wr w' G' S (tickS s) ∧ Touch G w w' ∧ (∀ i, G' i → G i ∨ w.heap.size ≤ i) ∧ ∀ i, (Value.slice A (gone s).length c).ownBlock = some i → ¬ G' i := by
  have hgood := good_tick h.good
  have hS : tickS s = ⟨s.now + 1, rest s⟩ := by unfold tickS; rw [if_neg hne]
  rw [hS] at hgood ⊢
  have GD := hide hgood
  have HH := hide h
  have s0 := h.s0
  have hn := h.good.n
  have HL := hide h.good.lt
  have few := h.good.few
  have LS := hide (h.lt S h.gS)
  obtain ⟨aa, cc, s1, hrow⟩ := h.row
  have f0 := h.frozen 0
  have ne' : ¬ ((s.now : Int) = 16777215) := by omega
  have ne2 : ((s.now : Int) == 16777215) = false := by simpa using ne'
  -- the world behind the moment's store
  have T1 := hide ((Touch.refl (fun i => i = S) w).setCell (p := ⟨S, 0, none⟩) rfl (.int .i64 ((s.now : Int) + 1)))
  have HB := hide (show (w.setCell ⟨S, 0, none⟩ (.int .i64 ((s.now : Int) + 1))).heap[S]? = some (.cells #[.int .i64 ((s.now + 1 : Nat) : Int), .slice aa s.l.length cc] 61 (0, 0)) by
    obtain ⟨a', c', e, _⟩ := h.mem
    have e2 := s1
    rw [cell_of_row _ _ _ _ _ _ e] at e2
    injection e2 with e2
    rw [← e2, heap_setCell_same _ _ _ _ _ _ e]
    rfl)
  have HR := hide (show ∀ i (hi : i < s.l.length), ∃ g, aa = some ⟨g, 0, none⟩ ∧ g < w.heap.size ∧ (w.setCell ⟨S, 0, none⟩ (.int .i64 ((s.now : Int) + 1))).cell? ⟨g, i * 2, none⟩ = some (.int .i64 (s.l[i].id : Int)) ∧ (w.setCell ⟨S, 0, none⟩ (.int .i64 ((s.now : Int) + 1))).cell? ⟨g, i * 2 + 1, none⟩ = some (.int .i64 (s.l[i].due : Int)) by
    intro i hi
    obtain ⟨g, rfl, c0, c1⟩ := hrow i hi
    have hgS : g ≠ S := by
      obtain ⟨a', c', e, _, hv⟩ := h.mem
      have e2 := s1
      rw [cell_of_row _ _ _ _ _ _ e] at e2
      injection e2 with e2
      injection e2 with e3 _ _
      subst e3
      exact (hv g rfl).1
    exact ⟨g, rfl, lt_of_cell? c0, T1.out.cell c0 hgS, T1.out.cell c1 hgS⟩)
  clear h hgood hS hrow
  obtain ⟨i0, hi0, hz0, hz1, hz2⟩ := info_parts one_info
  obtain ⟨j0, hj0, hy0, hy1, hy2⟩ := info_parts int_info
  have HZ := hide hz2
  have HY := hide hy2
  clear hz2 hy2
  go_enter Try.func19, Try.ntmps19
  go_wp2_with fail
  clear s0 s1 f0 ne' ne2
  generalize w.setCell ⟨S, 0, none⟩ (.int .i64 ((s.now : Int) + 1)) = w0 at *
  have O0 := hide (show Rows2 w0 w0 s.l s.now 0 (.slice none 0 0) (.slice none 0 0) from ⟨Below.refl _ _, World.ownsRow_nil _ _ _ _, World.ownsRow_nil _ _ _ _, fun i hi => by cases hi⟩)
  have CE := hide (show ∀ W : World, Below w0.heap.size w0 W → W.cell? ⟨S, 0, none⟩ = some (.int .i64 ((s.now + 1 : Nat) : Int)) ∧ W.cell? ⟨S, 1, none⟩ = some (.slice aa s.l.length cc) ∧ W.frozen? ⟨S, 1, none⟩ = false ∧ W.heap[S]? = some (.cells #[.int .i64 ((s.now + 1 : Nat) : Int), .slice aa s.l.length cc] 61 (0, 0)) from fun W hW => by
    have e := (hW.block S (lt_of_heap HB.out)).trans HB.out
    exact ⟨by rw [cell_of_row _ _ _ _ _ _ e]; rfl, by rw [cell_of_row _ _ _ _ _ _ e]; rfl, frozen_of_row _ _ _ _ _ e, e⟩)
  have ML := hide (movedK_len s.l s.now)
  go_loopw [8, 5, 6, 7] (fun i v u m wr => ∃ (k q : Nat), k ≤ s.l.length ∧ i = .int .i64 (k : Int) ∧ m = .int .i64 (q : Int) ∧ Hid (q = movedK s.l s.now k ∧ Rows2 w0 wr s.l s.now k v u)) (fun i _ _ _ _ => s.l.length - (intOf i).toNat)
  case atStart => exact ⟨0, 0, Nat.zero_le _, rfl, rfl, rfl, O0.out⟩
  case round =>
    clear O0
    obtain ⟨k, q, hk, rfl, rfl, hL⟩ := hrel
    have QL := hide (show q ≤ 64 by have h1 := hL.out.1; have h2 := ML.out k; omega)
    by_cases hkl : k < s.l.length
    · obtain ⟨g, rfl, hg, c0, c1⟩ := HR.out k hkl
      obtain ⟨t0, t1, _, _⟩ := CE.out _ hL.out.2.bel
      have g0 : g < w0.heap.size := Nat.lt_of_lt_of_le hg T1.out.size
      have e0 := (hL.out.2.bel.cell (p := ⟨g, k * 2, none⟩) g0).trans c0
      have e1 := (hL.out.2.bel.cell (p := ⟨g, k * 2 + 1, none⟩) g0).trans c1
      have k0 : (0 : Int) ≤ (k : Int) := by omega
      have k1 : (k : Int) < (s.l.length : Int) := by omega
      have DL := hide (HL.out _ (List.getElem_mem hkl))
      have GH := hide (goneK_hit (n := s.now) hkl)
      have GM := hide (goneK_miss (n := s.now) hkl)
      have RH := hide (restK_hit (n := s.now) hkl)
      have RM := hide (restK_miss (n := s.now) hkl)
      have MH := hide (movedK_hit (n := s.now) hkl)
      have MM := hide (movedK_miss (n := s.now) hkl)
      obtain ⟨u, hu⟩ : ∃ u, u = s.l[k]'hkl := ⟨_, rfl⟩
      rw [← hu] at c0 c1 e0 e1 DL GH GM RH RM MH MM
      clear hu c0 c1
      have R1 := hide (hL.out.2.below ((Below.refl wr.heap.size wr).alloc (Nat.le_refl _) (.cells #[.int .i64 (u.id : Int), .int .i64 (u.due : Int)] 65)))
      have X1 := hide (heap_alloc_new wr (.cells #[.int .i64 (u.id : Int), .int .i64 (u.due : Int)] 65))
      have Q0 := hide hL.out.1
      clear hL
      go_upto_region 12 with fail
      clear t0 t1 e0 e1
      generalize wr.alloc (.cells #[.int .i64 (u.id : Int), .int .i64 (u.due : Int)] 65) = w2 at *
      generalize wr.heap.size = X at *
      have x0 : w2.cell? ⟨X, 0, none⟩ = some (.int .i64 (u.id : Int)) := by rw [cell_of_row _ _ _ _ _ _ X1.out]; rfl
      have x1 : w2.cell? ⟨X, 1, none⟩ = some (.int .i64 (u.due : Int)) := by rw [cell_of_row _ _ _ _ _ _ X1.out]; rfl
      obtain ⟨t0, t1, _, _⟩ := CE.out _ R1.out.bel
      by_cases hd : u.due = s.now + 1
      · have hd' : ((u.due : Int) == ((s.now + 1 : Nat) : Int)) = true := by rw [hd]; simp
        have GH' := hide (GH.out hd)
        have RH' := hide (RH.out hd)
        have MH' := hide (MH.out hd)
        clear hd
        go_quiet (fail)
        have R3 := hide (R1.out.below (below_drewN (Below.refl _ w2) nq))
        have x0' : (w2.drewN nq).cell? ⟨X, 0, none⟩ = some (.int .i64 (u.id : Int)) := x0
        clear x0 x1 t0 t1
        generalize w2.drewN nq = w3 at *
        have gl := goneK_len s.l s.now k
        go_wp2_with (at_builtin; refine wpList_append_own_at _ rfl (.tmp 53) (.tmp 56) _ rfl w0.heap.size 3 j0 _ 1 8 Try.underlying37 hj0 hy0 hy1 HY.out rfl (by omega) _ _ _ rfl (R3.out.g.alloc _) ⟨w3.heap.size, 0, none⟩ 1 1 [.int .i64 (u.id : Int)] rfl rfl (cell_one_new _ _ _) (by intro z hz; rw [List.mem_singleton] at hz; rw [hz]; rfl) (by unfold maxLen; omega) (by omega) (by have := R3.out.bel.size; simp; omega) ?_; intro v9 w9 o9 g9 _ t9; have N9 := hide (R3.out.hit o9 g9 t9 GH'.out RH'.out); clear o9 g9 t9)
        go_roundw
        case rel => exact ⟨k + 1, q, by omega, by go_num, rfl, by rw [MH'.out]; exact Q0.out, N9.out⟩
        case measure => simp [intOf]; omega
      · have hd' : ((u.due : Int) == ((s.now + 1 : Nat) : Int)) = false := by simp; omega
        have GM' := hide (GM.out hd)
        have RM' := hide (RM.out hd)
        have MM' := hide (MM.out hd)
        clear hd
        go_quiet (fail)
        have R3 := hide (R1.out.below (below_drewN (Below.refl _ w2) nq))
        have X3 := hide (show (w2.drewN nq).heap[X]? = _ from X1.out)
        clear x0 x1 t0 t1
        generalize w2.drewN nq = w3 at *
        obtain ⟨x0, x1⟩ : w3.cell? ⟨X, 0, none⟩ = some (.int .i64 (u.id : Int)) ∧ w3.cell? ⟨X, 1, none⟩ = some (.int .i64 (u.due : Int)) := ⟨by rw [cell_of_row _ _ _ _ _ _ X3.out]; rfl, by rw [cell_of_row _ _ _ _ _ _ X3.out]; rfl⟩
        obtain ⟨t0, t1, _, _⟩ := CE.out _ R3.out.bel
        have hn1 : s.now + 1 < 16777216 := by omega
        go_upto_region 15 with (go_at_call 34; refine (where_any _ s.now u.due hn DL.out.2).mono ?_; rintro e w' ⟨rfl, rfl⟩)
        go_quiet ((go_at_call 34; exact wquiet_eq (where_any _ (s.now + 1) u.due hn1 DL.out.2)))
        have R4 := hide (R3.out.below (below_drewN (Below.refl _ w3) nq))
        have X4 := hide (show (w3.drewN nq).heap[X]? = _ from X3.out)
        clear x0 x1 t0 t1
        generalize w3.drewN nq = w4 at *
        obtain ⟨x0, x1⟩ : w4.cell? ⟨X, 0, none⟩ = some (.int .i64 (u.id : Int)) ∧ w4.cell? ⟨X, 1, none⟩ = some (.int .i64 (u.due : Int)) := ⟨by rw [cell_of_row _ _ _ _ _ _ X4.out]; rfl, by rw [cell_of_row _ _ _ _ _ _ X4.out]; rfl⟩
        have rl := restK_len s.l s.now k
        have q0 : (q : Int) ≤ 64 := by have := QL.out; omega
        by_cases hr : ring s.now u.due = ring (s.now + 1) u.due
        · have hr' : (((ring s.now u.due : Nat) : Int) != ((ring (s.now + 1) u.due : Nat) : Int)) = false := by simp [hr]
          have MQ := hide (show q = movedK s.l s.now (k + 1) by rw [MM'.out, if_pos hr]; exact Q0.out)
          clear hr
          go_wp2_with (at_builtin; refine wpList_append_own_at _ rfl (.tmp 80) (.tmp 82) _ rfl w0.heap.size 65 i0 _ 2 16 Try.underlying59 hi0 hz0 hz1 HZ.out rfl (by omega) _ _ _ rfl (R4.out.r.alloc _) ⟨w4.heap.size, 0, none⟩ 1 1 (cellsTm u) rfl rfl (cells_tm w4 _ _ _ _ rfl) (cellsTm_cell u) (by unfold maxLen; omega) (by omega) (by have := R4.out.bel.size; simp; omega) ?_; intro v9 w9 o9 g9 _ t9; have N9 := hide (R4.out.miss o9 g9 t9 GM'.out RM'.out); clear o9 g9 t9)
          go_roundw
          case rel => exact ⟨k + 1, q, by omega, by go_num, rfl, MQ.out, N9.out⟩
          case measure => simp [intOf]; omega
        · have hr' : (((ring s.now u.due : Nat) : Int) != ((ring (s.now + 1) u.due : Nat) : Int)) = true := by simp; omega
          have MQ := hide (show q + 1 = movedK s.l s.now (k + 1) by rw [MM'.out, if_neg hr]; rw [Q0.out])
          clear hr
          go_wp2_with (at_builtin; refine wpList_append_own_at _ rfl (.tmp 80) (.tmp 82) _ rfl w0.heap.size 65 i0 _ 2 16 Try.underlying59 hi0 hz0 hz1 HZ.out rfl (by omega) _ _ _ rfl (R4.out.r.alloc _) ⟨w4.heap.size, 0, none⟩ 1 1 (cellsTm u) rfl rfl (cells_tm w4 _ _ _ _ rfl) (cellsTm_cell u) (by unfold maxLen; omega) (by omega) (by have := R4.out.bel.size; simp; omega) ?_; intro v9 w9 o9 g9 _ t9; have N9 := hide (R4.out.miss o9 g9 t9 GM'.out RM'.out); clear o9 g9 t9)
          go_roundw
          case rel => exact ⟨k + 1, q + 1, by omega, by go_num, by go_num, MQ.out, N9.out⟩
          case measure => simp [intOf]; omega
    · obtain rfl : k = s.l.length := by omega
      have R1 := hide hL.out.2
      have Q0 := hide (show q = moved s by rw [← movedK_all]; exact hL.out.1)
      clear hL
      obtain ⟨A9, c9, rfl, _⟩ := own_sliceR R1.out.g
      obtain ⟨A8, c8, rfl, _⟩ := own_sliceR R1.out.r
      obtain ⟨t0, t1, t2, t3⟩ := CE.out _ R1.out.bel
      have GL := hide (show (goneK s.l s.now s.l.length).length = (gone s).length by rw [goneK_all]; unfold goneI; rw [List.length_map])
      have RL := hide (show (restK s.l s.now s.l.length).length = (rest s).length by rw [restK_all])
      have og := R1.out.g
      have or9 := R1.out.r
      have rd := R1.out.d
      rw [GL.out] at og rd ⊢
      rw [RL.out] at or9 rd ⊢
      rw [goneK_all] at og
      rw [restK_all] at or9
      have lo : w.heap.size ≤ w0.heap.size := T1.out.size
      have hT : Touch (fun i => i = S) w wr := T1.out.trans (Touch.of_below (S := fun _ => False) R1.out.bel) (fun _ e => e.elim)
      have FIN := hide (wr_end2 HH.out (s' := ⟨s.now + 1, rest s⟩) GD.out hT t3 (own_base or9 lo) rfl)
      have OG := hide (((Touch.refl (fun i => i = S) wr).setCell (p := ⟨S, 1, none⟩) rfl (.slice A8 (rest s).length c8)).own (own_base og lo) (fun g hg e => by
        have h1 := (og.lt g hg).1
        have h2 := LS.out
        have e : g = S := e
        omega))
      have GLT := hide (show ∀ i, (Value.slice A9 (gone s).length c9).ownBlock = some i → w.heap.size ≤ i ∧ (Value.slice A8 (rest s).length c8).ownBlock ≠ some i from fun i hi => ⟨Nat.le_trans lo (og.lt i hi).1, rd i hi⟩)
      clear t3 og or9 hT rd
      go_wp2_with fail
      go_ret2
      refine ⟨A9, c9, by rw [← Q0.out]; rfl, OG.out, ?_⟩
      obtain ⟨G', g1, g2, g3, g4⟩ := FIN.out
      refine ⟨G', g1, g2, g3, fun i hi hg => ?_⟩
      obtain ⟨l1, l2⟩ := GLT.out i hi
      rcases g4 i hg with e | e
      · have := HH.out.lt i e; omega
      · exact l2 e
end Go.Proofs.Ytpmggiahhjllcaa
