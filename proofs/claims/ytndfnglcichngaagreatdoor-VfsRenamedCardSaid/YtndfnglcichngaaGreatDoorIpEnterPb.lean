/-
  The program's table of nodes: Enter.
-/
import Derived.Deep.AppendLies
import Derived.Test.YtndfnglcichngaaGreatDoorIpListPb
import Derived.Test.YtndfnglcichngaaGreatDoorPa18
import Derived.Test.YtndfnglcichngaaGreatDoorIpSortPb
import Derived.Test.YtndfnglcichngaaGreatDoorPyNamePb
namespace Go.Proofs.YtndfnglcichngaaGreatDoor
open Go.ChangeShapes Go.WideShapes Go.ChangeAt Go.RowKit
set_option linter.unusedVariables false
set_option linter.unusedSimpArgs false
theorem nameE_nn (t : Txt) : 0 ≤ nameE t := by unfold nameE; split; omega; split; omega; split <;> omega
theorem own_first {w : World} {B : Nat} {e : TypeId} {z n : Nat} {v : Value} {xs : List Value} (h : w.ownsRow B e z v (n + 1) xs) : ∃ g c, v = .slice (some ⟨g, 0, none⟩) (n + 1) c := by
  obtain ⟨_, hh⟩ := h
  rcases hh with ⟨_, h1⟩ | ⟨g, cap, cur, rfl, _⟩
  · cases h1
  · exact ⟨g, cap, rfl⟩
theorem built_ent (t : Txt) (z : Int) : Tryz.prog.built 105 [(0, .string (bt t)), (1, .int .i64 z)] = some #[.string (bt t), .int .i64 z] := by kernel_rfl
attribute [local go_sem] built_ent
section
variable {w : World} {U : Nat → Prop} {H T S : Nat} {s : In} {E : Nat → Prop} {N : Nat → Option Nat} {V : Nat → Value} {tag : Nat → Int}
theorem RowI.congr {w : World} {g N : Nat} {t : TypeId} {f f' : Nat → Value} (h : RowI w g N t f) (e : ∀ k, k < N → f k = f' k) : RowI w g N t f' := by
  unfold RowI at *
  rw [h]
  congr 3
  exact List.map_congr_left (fun k hk => e k (by simpa using hk))
/-- A row was grown by an entry, the entry put in its place. -/
theorem IpM.ins_at {i b : Nat} {wa w6 w8 : World} {en : Ent} {g c6 q : Nat} (h : IpM w U H T S s E N V tag) (e : N i = some b) (B6 : Below w.heap.size w wa) (g6 : wa.grownBy w6 (V i).ownBlock) (l6 : some g = (V i).ownBlock ∨ some g = some wa.heap.size)
    (t8 : Touch (fun k => k = g) ((w6.setCell ⟨b, 3, none⟩ (.slice (some ⟨g, 0, none⟩) ((s.n i).l.length + 1) c6)).drewN q) w8) (o8 : w8.ownsRow 0 105 2 (.slice (some ⟨g, 0, none⟩) ((s.n i).l.length + 1) c6) ((s.n i).l.length + 1) ((insL (s.n i).l en).flatMap enV)) :
    ∃ U' tag', IpM w8 U' H T S (setL s i (insL (s.n i).l en)) E N (upd V i (.slice (some ⟨g, 0, none⟩) ((s.n i).l.length + 1) c6)) tag' ∧ Touch U w w8 ∧ ∀ k, U' k → U k ∨ w.heap.size ≤ k := by
  have lb := h.lt b (h.un i b e)
  have tb := h.tn i b e
  have nb : (V i).ownBlock ≠ some b := fun e2 => by have := h.tv i b e2; omega
  have ng : g ≠ b := fun e2 => by
    subst e2
    rcases l6 with l6 | l6
    · exact nb l6.symm
    · injection l6 with l6; have := B6.size; omega
  have r0 := h.nd i b e
  have r6 : RowI w6 b 4 134 (ndF (s.n i) (V i)) := (h.below B6).nd i b e |>.keep ((Touch.of_grown (S := fun k => (V i).ownBlock = some k) g6 (fun k e2 => e2)).block b (Nat.lt_of_lt_of_le lb B6.size) nb)
  have r7 : RowI ((w6.setCell ⟨b, 3, none⟩ (.slice (some ⟨g, 0, none⟩) ((s.n i).l.length + 1) c6)).drewN q) b 4 134 (upd (ndF (s.n i) (V i)) 3 (.slice (some ⟨g, 0, none⟩) ((s.n i).l.length + 1) c6)) := r6.set 3 _
  have r8 : RowI w8 b 4 134 (ndF { s.n i with l := insL (s.n i).l en } (.slice (some ⟨g, 0, none⟩) ((s.n i).l.length + 1) c6)) := (r7.keep (t8.block b (lt_of_heap r7) (fun e2 => ng e2.symm))).congr (fun k hk => by
    match k, hk with
    | 0, _ => rfl
    | 1, _ => rfl
    | 2, _ => rfl
    | 3, _ => rfl)
  have t6 : Touch (fun k => k = b ∨ (V i).ownBlock = some k) w w6 := (Touch.of_below B6).trans (Touch.of_grown (S := fun k => (V i).ownBlock = some k) g6 (fun k e2 => e2)) (fun k e2 => .inl (.inr e2))
  have t7 : Touch (fun k => k = b ∨ (V i).ownBlock = some k) w ((w6.setCell ⟨b, 3, none⟩ (.slice (some ⟨g, 0, none⟩) ((s.n i).l.length + 1) c6)).drewN q) := (t6.setCell (p := ⟨b, 3, none⟩) (.inl rfl) _).drewN q
  have gl : (V i).ownBlock = some g ∨ w.heap.size ≤ g := by
    rcases l6 with l6 | l6
    · exact .inl l6.symm
    · injection l6 with l6; have := B6.size; exact .inr (by omega)
  have t9 := t7.trans t8 (fun k e2 => by
    have e3 : k = g := e2
    subst e3
    exact gl.imp .inr id)
  have hlen : (insL (s.n i).l en).length = (s.n i).l.length + 1 := insL_len _ _
  exact h.relist e t9 r8 (by rw [hlen]; exact o8) (fun k hk => by
    have hk2 : some g = some k := hk
    injection hk2 with hk2
    subst hk2; exact gl)
set_option maxRecDepth 10000 in
set_option maxHeartbeats 8000000 in
theorem penter_any {B : Int} (h : PIn H S w U T s) (g : GoodP s [] B) (d : Int) (t : Txt) (ht : t.length ≤ 1000000) (id : Int) : Calls Tryz.prog 99 #[.pointer (some ⟨T, 0, none⟩), .int .i64 d, .string (bt t), .int .i64 id] w (SideO (fun w' U' => PIn H S w' U' T (enI s d t id)) U w (.int .i64 (enIE s d t id : Nat))) := by
  obtain ⟨E, N, V, tag, h⟩ := h
  have FIN := hide (fun (v : Value) (w1 : World) (b : Below w.heap.size w w1) => Pto.side (v := v) ((Pto.refl (show PIn H S w U T s from ⟨_, _, _, _, h⟩)).then_below b))
  cases hD : dirI s d with
  | false =>
    have F := hide (folder21_no h hD)
    have hE : enIE s d t id = 11 := by unfold enIE; rw [hD]; rfl
    rw [hE, show enI s d t id = s from by unfold enI; rw [if_neg (by rw [hE]; decide)]]
    clear h g hD hE
    go_enter Tryz.func99, Tryz.ntmps99
    go_wp2_with (go_at_call 93; refine F.out.mono ?_; rintro e w' ⟨rfl, rfl⟩)
    go_ret
    exact FIN.out _ _ (Below.refl _ _)
  | true =>
    obtain ⟨i, rfl, hi, his, hdir⟩ := dirI_yes hD
    obtain ⟨b, hb⟩ := h.there his
    have F := hide (folder21_yes h hi hb hdir)
    have NM := hide (pname_any w t)
    by_cases hn : nameE t = 0
    · rw [hn] at NM
      by_cases hid : isI s id = true
      · obtain ⟨j, rfl, hj, hjs⟩ := isI_yes hid
        obtain ⟨bj, hbj⟩ := h.there hjs
        have FJ := hide (find21_yes h hj hbj)
        by_cases hj0 : j = 0
        · subst hj0
          have hE : enIE s (i : Int) t ((0 : Nat) : Int) = 4 := by unfold enIE; rw [hD, if_neg (by decide), if_neg (by rw [hn]; simp), if_pos (.inr rfl)]
          rw [hE, show enI s (i : Int) t ((0 : Nat) : Int) = s from by unfold enI; rw [if_neg (by rw [hE]; decide)]]
          clear h g hD hE his hdir hb hid hjs hbj hn
          go_enter Tryz.func99, Tryz.ntmps99
          go_wp2_with (first | (go_at_call 93; refine F.out.mono ?_; rintro e w' ⟨rfl, rfl⟩) | (go_at_call 37; refine NM.out.mono ?_; rintro e w' ⟨rfl, rfl⟩) | (go_at_call 74; refine FJ.out.mono ?_; rintro e w' ⟨rfl, rfl⟩))
          go_ret
          exact FIN.out _ _ (Below.refl _ _)
        · have hj1 : ¬ (j : Int) = 0 := by omega
          have PL := hide (place_any h hb (g.srt i) (g.few i) t)
          cases hh : hitT (s.n i).l t with
          | true =>
            have hf : (findL (s.n i).l t).isSome = true := by rw [findL_hitT (g.srt i), hh]
            have hE : enIE s (i : Int) t (j : Int) = 10 := by unfold enIE; rw [hD, if_neg (by decide), if_neg (by rw [hn]; simp), if_neg (by rw [hid]; simp; omega), Int.toNat_natCast, if_pos hf]
            rw [hE, show enI s (i : Int) t (j : Int) = s from by unfold enI; rw [if_neg (by rw [hE]; decide)]]
            rw [show plI (s.n i).l t = (cntT (s.n i).l t : Int) from by unfold plI; rw [if_pos hh]] at PL
            obtain ⟨k, hk⟩ : ∃ k, k = cntT (s.n i).l t := ⟨_, rfl⟩
            rw [← hk] at PL
            have k0 : (0 : Int) ≤ (k : Int) := by omega
            clear h g hD hE his hdir hb hid hjs hbj hn hh hf hk
            go_enter Tryz.func99, Tryz.ntmps99
            go_wp2_with (first | (go_at_call 93; refine F.out.mono ?_; rintro e w' ⟨rfl, rfl⟩) | (go_at_call 37; refine NM.out.mono ?_; rintro e w' ⟨rfl, rfl⟩) | (go_at_call 74; refine FJ.out.mono ?_; rintro e w' ⟨rfl, rfl⟩) | (go_at_call 105; refine PL.out.mono ?_; rintro e w1 ⟨rfl, b1⟩; have B1 := hide b1; clear b1))
            go_ret
            exact FIN.out _ _ B1.out
          | false =>
            have hf : findL (s.n i).l t = none := by
              have := findL_hitT (t := t) (g.srt i)
              rw [hh] at this
              exact Option.not_isSome_iff_eq_none.1 (by rw [this]; decide)
            rw [show plI (s.n i).l t = -1 from by unfold plI; rw [hh]; rfl] at PL
            obtain ⟨a, c, hv, hr, hnc, hcm, hnil⟩ := h.list i
            have c3 := h.cList hb
            rw [hv] at c3
            have CB := hide (fun (W : World) (bl : Below w.heap.size w W) => show W.cell? ⟨b, 3, none⟩ = some (.slice a (s.n i).l.length c) ∧ W.frozen? ⟨b, 3, none⟩ = false from ⟨(bl.cell (lt_of_cell? c3)).trans c3, ((h.below bl).nd i b hb).frz 3⟩)
            by_cases h8 : (s.n i).l.length = 8
            · have hE : enIE s (i : Int) t (j : Int) = 15 := by unfold enIE; rw [hD, if_neg (by decide), if_neg (by rw [hn]; simp), if_neg (by rw [hid]; simp; omega), Int.toNat_natCast, if_neg (by rw [hf]; decide), if_pos h8]
              rw [hE, show enI s (i : Int) t (j : Int) = s from by unfold enI; rw [if_neg (by rw [hE]; decide)]]
              rw [h8] at CB
              clear h g hD hE his hdir hb hid hjs hbj hn hh hf hv hr hnc hcm hnil c3 h8
              go_enter Tryz.func99, Tryz.ntmps99
              go_wp2_with (first | (go_at_call 93; refine F.out.mono ?_; rintro e w' ⟨rfl, rfl⟩) | (go_at_call 37; refine NM.out.mono ?_; rintro e w' ⟨rfl, rfl⟩) | (go_at_call 74; refine FJ.out.mono ?_; rintro e w' ⟨rfl, rfl⟩) | (go_at_call 105; refine PL.out.mono ?_; rintro e w1 ⟨rfl, b1⟩; have B1 := hide b1; clear b1; obtain ⟨q0, q1⟩ := CB.out _ B1.out))
              go_ret
              exact FIN.out _ _ B1.out
            · have hl8 : (s.n i).l.length < 8 := by have := g.few i; omega
              have hE : enIE s (i : Int) t (j : Int) = 0 := by unfold enIE; rw [hD, if_neg (by decide), if_neg (by rw [hn]; simp), if_neg (by rw [hid]; simp; omega), Int.toNat_natCast, if_neg (by rw [hf]; decide), if_neg h8]
              rw [hE, show enI s (i : Int) t (j : Int) = incL (setL s i (insL (s.n i).l ⟨t, j⟩)) j from by unfold enI; rw [if_pos hE, Int.toNat_natCast, Int.toNat_natCast]]
              have n8 : ((s.n i).l.length : Int) < 8 := by omega
              have n80 : ¬ ((s.n i).l.length : Int) = 8 := by omega
              have HH := hide h
              have HB := hide hb
              have HV := hide hv
              have HBJ := hide hbj
              have HO := hide (fun (W : World) (bl : Below w.heap.size w W) => show W.ownsRow 0 105 2 (.slice a (s.n i).l.length c) (s.n i).l.length ((s.n i).l.flatMap enV) from by rw [← hv]; exact (h.below bl).en i)
              have SRT := hide (fun (w7 : World) (gg c6 : Nat) (o : w7.ownsRow 0 105 2 (.slice (some ⟨gg, 0, none⟩) ((s.n i).l.length + 1) c6) ((s.n i).l.length + 1) ((s.n i).l.flatMap enV ++ [(⟨t, j⟩ : Ent)].flatMap enV)) => show Calls Tryz.prog 124 #[.slice (some ⟨gg, 0, none⟩) ((s.n i).l.length + 1) c6, .func (.func 125) #[] #[]] w7 (fun en w' => en = .returned (.tuple #[]) ∧ w'.ownsRow 0 105 2 (.slice (some ⟨gg, 0, none⟩) ((s.n i).l.length + 1) c6) ((s.n i).l.length + 1) ((insL (s.n i).l ⟨t, j⟩).flatMap enV) ∧ Touch (fun k => k = gg) w7 w') from by
                have e1 : ((s.n i).l ++ [(⟨t, j⟩ : Ent)]).length = (s.n i).l.length + 1 := by simp
                have := sortE_any w7 gg c6 0 (s.n i).l ⟨t, j⟩ (g.srt i) (fun x hx => findL_none.1 hf x hx) (by rw [e1, List.flatMap_append]; exact o) (g.few i)
                rw [e1] at this
                exact this)
              have LNK := hide (show ∀ (l' : List Ent), ((setL s i l').n j).links = (s.n j).links from fun l' => by
                show (upd s.n i { s.n i with l := l' } j).links = _
                by_cases e : j = i
                · subst e; rw [upd_same]
                · rw [upd_other _ _ e])
              have lb := g.links j
              have lb0 := lb.1
              have lb1 := lb.2
              obtain ⟨lk, hlk⟩ : ∃ z, z = (s.n j).links := ⟨_, rfl⟩
              rw [← hlk] at lb0 lb1 LNK
              obtain ⟨i0, hi0, hz0, hz1, hz2⟩ := info_parts entry_info
              have INFO := hide (And.intro hi0 (And.intro hz0 (And.intro hz1 hz2)))
              have LB := hide (h.lt b (h.un i b hb))
              have NB := hide (show (Value.slice a (s.n i).l.length c).ownBlock ≠ some b from fun e2 => by rw [← hv] at e2; have h1 := h.tv i b e2; have h2 := h.tn i b hb; omega)
              have HT := hide ht
              clear h g hD hE his hdir hb hid hjs hbj hn hh hf hv hr hnc hcm hnil c3 h8 hl8 lb hlk ht hi0 hz0 hz1 hz2
              obtain ⟨n, hnn⟩ : ∃ n, n = (s.n i).l.length := ⟨_, rfl⟩
              have HN := hide hnn
              rw [← hnn] at CB HO SRT n8 n80 NB
              clear hnn
              go_enter Tryz.func99, Tryz.ntmps99
              go_upto_region 16 with (first | (go_at_call 93; refine F.out.mono ?_; rintro e w' ⟨rfl, rfl⟩) | (go_at_call 37; refine NM.out.mono ?_; rintro e w' ⟨rfl, rfl⟩) | (go_at_call 74; refine FJ.out.mono ?_; rintro e w' ⟨rfl, rfl⟩) | (go_at_call 105; refine PL.out.mono ?_; rintro e w1 ⟨rfl, b1⟩; have B1 := hide b1; clear b1; obtain ⟨q0, q1⟩ := CB.out _ B1.out))

              go_region_law (first
                | (go_simp; go_at_call 95; refine (tclone_any _ t HT.out).mono ?_; rintro e w5 ⟨rfl, b5⟩; have B5 := hide (B1.out.trans (((below_drewN (Below.refl _ _) 1).trans b5).mono B1.out.size)); have B6 := hide (B5.out.alloc (by have := B5.out.size; omega) (.cells #[.string (bt t), .int .i64 (j : Int)] 105)); obtain ⟨q5, q6⟩ := CB.out _ B5.out; obtain ⟨q7, q8⟩ := CB.out _ B6.out; clear b5)
                | (refine step_append_lies _ (by rfl) _ _ _ (by rfl) 0 105 i0 _ 2 24 Tryz.underlying36 INFO.out.1 INFO.out.2.1 INFO.out.2.2.1 INFO.out.2.2.2 (by rfl) (by omega) (.slice a n c) n _ (by rfl) (HO.out _ B6.out) ⟨w5.heap.size, 0, none⟩ 1 1 [.string (bt t), .int .i64 (j : Int)] (by rfl) (by rfl) (cells_new w5 _ _ _ rfl) (by simp [Value.oneCell']) (by omega) (by unfold maxLen; omega) (by omega) (Nat.zero_le _) (w5.heap.size + 1) (by simp) ?_; intro gg c6 w6 o6 g6 l6 lt6; have hc0 := (g6.cell_far ⟨b, 3, none⟩ (lt_of_cell? q7) (Ne.symm NB.out)).trans q7; have hf0 := (g6.frozen_far ⟨b, 3, none⟩ (lt_of_cell? q7) (Ne.symm NB.out)).trans q8; have O6 := hide o6; have G6 := hide g6; have L6 := hide l6; clear o6 g6 l6 lt6))
              all_goals
                have gb : gg ≠ b := fun e2 => by
                  rcases L6.out with l6 | l6
                  · rw [e2] at l6; exact NB.out l6
                  · have := LB.out; have := B5.out.size; omega
                have O7 := hide (show (w6.setCell ⟨b, 3, none⟩ (.slice (some ⟨gg, 0, none⟩) (n + 1) c6)).ownsRow 0 105 2 (.slice (some ⟨gg, 0, none⟩) (n + 1) c6) (n + 1) ((s.n i).l.flatMap enV ++ [(⟨t, j⟩ : Ent)].flatMap enV) from
                  ((Touch.refl (fun k => k = b) w6).setCell (p := ⟨b, 3, none⟩) rfl _).own O6.out (fun q hq e2 => by have hq2 : some gg = some q := hq; injection hq2 with hq2; exact gb (hq2.trans e2)))
                have ST := hide (SRT.out _ gg c6 O7.out)
                have INS := hide (fun (w8 : World) (o8 : w8.ownsRow 0 105 2 (.slice (some ⟨gg, 0, none⟩) (n + 1) c6) (n + 1) ((insL (s.n i).l ⟨t, j⟩).flatMap enV)) (t8 : Touch (fun k => k = gg) (w6.setCell ⟨b, 3, none⟩ (.slice (some ⟨gg, 0, none⟩) (n + 1) c6)) w8) => show ∃ U' tag' V', IpM w8 U' H T S (setL s i (insL (s.n i).l ⟨t, j⟩)) E N V' tag' ∧ Touch U w w8 ∧ ∀ k, U' k → U k ∨ w.heap.size ≤ k from by
                  have hl : (Value.slice a n c).ownBlock = (V i).ownBlock := by rw [HV.out, HN.out]
                  have g6 := G6.out
                  have l6 := L6.out
                  rw [hl] at g6 l6
                  rw [HN.out] at o8 t8
                  obtain ⟨U', tag', x1, x2, x3⟩ := HH.out.ins_at HB.out B6.out g6 (l6.imp (fun e => e.symm) (fun e => by rw [e]; simp)) (q := 0) t8 o8
                  exact ⟨U', tag', _, x1, x2, x3⟩)
                have cl0 : (w6.setCell ⟨b, 3, none⟩ (.slice (some ⟨gg, 0, none⟩) (n + 1) c6)).cell? ⟨b, 3, none⟩ = some (.slice (some ⟨gg, 0, none⟩) (n + 1) c6) := World.cell?_setCell_same _ _ _ hc0
                clear gb hc0 hf0 q0 q1 q5 q6 q7 q8 O7
                generalize hw7 : w6.setCell ⟨b, 3, none⟩ (.slice (some ⟨gg, 0, none⟩) (n + 1) c6) = w7 at *
                clear hw7
                go_upto_region 18 with (go_at_call 124; refine ST.out.mono ?_; rintro e w8 ⟨rfl, o8, t8⟩; have O8 := hide o8; have T8 := hide t8; clear o8 t8)
                obtain ⟨U8, tag8, V8, h8, t9, u9⟩ := INS.out w8 O8.out T8.out
                have cl := h8.cLinks HBJ.out
                rw [LNK.out] at cl
                have fz := (h8.nd j bj HBJ.out).frz 1
                have LK := hide (h8.linked HBJ.out (lk + 1) 0)
                have IC := hide (show (setL s i (insL (s.n i).l ⟨t, j⟩)).put j { (setL s i (insL (s.n i).l ⟨t, j⟩)).n j with links := lk + 1 } = incL (setL s i (insL (s.n i).l ⟨t, j⟩)) j from by
                  unfold incL; rw [LNK.out])
                have UB := hide (h8.un j bj HBJ.out)
                have T9 := hide t9
                have U9 := hide u9
                clear h8 t9 u9 cl0 INS ST
                go_wp2_with fail
                go_ret
                refine ⟨rfl, U8, ⟨_, _, _, _, IC.out ▸ LK.out.1⟩, T9.out.trans LK.out.2 (fun k e => by rw [e]; exact U9.out bj UB.out), U9.out⟩
      · have hidf : isI s id = false := by simpa using hid
        have FJ := hide (find21_no h hidf)
        have hE : enIE s (i : Int) t id = 4 := by unfold enIE; rw [hD, if_neg (by decide), if_neg (by rw [hn]; simp), if_pos (.inl hidf)]
        rw [hE, show enI s (i : Int) t id = s from by unfold enI; rw [if_neg (by rw [hE]; decide)]]
        clear h g hD hE his hdir hb hid hidf hn
        go_enter Tryz.func99, Tryz.ntmps99
        go_wp2_with (first | (go_at_call 93; refine F.out.mono ?_; rintro e w' ⟨rfl, rfl⟩) | (go_at_call 37; refine NM.out.mono ?_; rintro e w' ⟨rfl, rfl⟩) | (go_at_call 74; refine FJ.out.mono ?_; rintro e w' ⟨rfl, rfl⟩))
        go_ret
        exact FIN.out _ _ (Below.refl _ _)
    · have hE : enIE s (i : Int) t id = (nameE t).toNat := by unfold enIE; rw [hD, if_neg (by decide), if_pos hn]
      have hp := nameE_nn t
      have hE2 : ((enIE s (i : Int) t id : Nat) : Int) = nameE t := by rw [hE]; omega
      rw [hE2, show enI s (i : Int) t id = s from by unfold enI; rw [if_neg (by rw [hE]; omega)]]
      obtain ⟨z, hz⟩ : ∃ z, z = nameE t := ⟨_, rfl⟩
      rw [← hz] at NM hn ⊢
      clear h g hD hE hE2 his hdir hb hp hz
      go_enter Tryz.func99, Tryz.ntmps99
      go_wp2_with (first | (go_at_call 93; refine F.out.mono ?_; rintro e w' ⟨rfl, rfl⟩) | (go_at_call 37; refine NM.out.mono ?_; rintro e w' ⟨rfl, rfl⟩))
      go_ret
      exact FIN.out _ _ (Below.refl _ _)
end
end Go.Proofs.YtndfnglcichngaaGreatDoor
