/-
  Several texts as one: IpPlace IpTell IpGone IpGet IpNew IpMake VpFacts VfOne VfRen VfAct.
-/
import Derived.Test.YtndfnglcichngaaGreatDoorPa16
import Derived.Laws.ResultCell
import Derived.Deep.MidRow
import Derived.Test.YtndfnglcichngaaGreatDoorPa17
import Derived.Test.YtndfnglcichngaaGreatDoorPa14
import Derived.Test.YtndfnglcichngaaGreatDoorPa06
namespace Go.Proofs.YtndfnglcichngaaGreatDoor
open Go.ChangeShapes Go.WideShapes Go.ChangeAt Go.RowKit
set_option linter.unusedVariables false
set_option linter.unusedSimpArgs false
set_option maxHeartbeats 4000000 in
theorem bsf_any {w : World} {a : Option Addr} {n c : Nat} {l : List Ent} (hr : Reads 2 enV w a n l) (hs : l.Pairwise fun a b => ltT a.nm b.nm = true) (hn : n ≤ 8) (t : Txt) (z : Int) :
    Calls Tryz.prog 129 #[.slice a n c, .agg #[.string (bt t), .int .i64 z], .func (.func 125) #[] #[]] w fun e w' => e = .returned (.tuple #[.int .i64 (cntT l t : Nat), .bool (hitT l t)]) ∧ Below w.heap.size w w' := by
  have HR := hide hr
  have HS := hide hs
  have LN := hide hr.1
  obtain ⟨w1, hw1⟩ : ∃ w1, w1 = w.alloc (.cells #[.string (bt t), .int .i64 z] 105) := ⟨_, rfl⟩
  have b1 : Below w.heap.size w w1 := by rw [hw1]; exact (Below.refl _ _).alloc (Nat.le_refl _) _
  have B1 := hide b1
  have H1 := hide hw1
  have S1 := hide (show w1.heap.size = w.heap.size + 1 from by rw [hw1]; simp)
  have CB := hide (fun (W : World) (b : Below w1.heap.size w1 W) => show W.cell? ⟨w.heap.size, 0, none⟩ = some (.string (bt t)) ∧ W.cell? ⟨w.heap.size, 1, none⟩ = some (.int .i64 z) from by
    have h0 : w1.cell? ⟨w.heap.size, 0, none⟩ = some (.string (bt t)) := by rw [hw1]; exact cells_new w [.string (bt t), .int .i64 z] _ _ rfl 0 _ rfl
    have h1 : w1.cell? ⟨w.heap.size, 1, none⟩ = some (.int .i64 z) := by rw [hw1]; exact cells_new w [.string (bt t), .int .i64 z] _ _ rfl 1 _ rfl
    exact ⟨(b.cell (lt_of_cell? h0)).trans h0, (b.cell (lt_of_cell? h1)).trans h1⟩)
  have AC := hide (fun (lo : Nat) (h : lo ≤ n) (h1 : ∀ k x, k < lo → l[k]? = some x → ltT x.nm t = true) (h2 : ∀ k x, lo ≤ k → l[k]? = some x → ltT x.nm t = false) => show cntT l t = lo from countP_here _ l lo (by rw [hr.1]; exact h) h1 h2)
  have n8 : (n : Int) ≤ 8 := by omega
  clear hr hs b1
  go_enter Tryz.func129, Tryz.ntmps129
  go_upto_region 3 with fail
  rw [← hw1]
  clear hw1
  go_loopw [9, 10] (fun iv jv wr => ∃ lo hi : Nat, iv = .int .i64 (lo : Int) ∧ jv = .int .i64 (hi : Int) ∧ lo ≤ hi ∧ hi ≤ n ∧ Hid (Below w1.heap.size w1 wr) ∧ Hid ((∀ k x, k < lo → l[k]? = some x → ltT x.nm t = true) ∧ (∀ k x, hi ≤ k → l[k]? = some x → ltT x.nm t = false))) (fun iv jv _ => (intOf jv).toNat - (intOf iv).toNat)
  case atStart => exact ⟨0, n, rfl, rfl, Nat.zero_le _, Nat.le_refl _, Below.refl _ _, ⟨fun k x h => by omega, fun k x h e => by have := (List.getElem?_eq_some_iff.1 e).1; have := LN.out; omega⟩⟩
  case round =>
    obtain ⟨lo, hi, rfl, rfl, hlh, hin, hB, hI⟩ := hrel
    rename World => wr
    obtain ⟨x0, x1⟩ := CB.out wr hB.out
    have c2 := x0
    by_cases hlt : lo < hi
    · have L1 : (lo : Int) < (hi : Int) := by omega
      obtain ⟨m, hm⟩ : ∃ m, m = (lo + hi) / 2 := ⟨_, rfl⟩
      have mlo : lo ≤ m := by omega
      have mhi : m < hi := by omega
      have HM := hide hm
      have e1 : ((lo : Int) + (hi : Int)) / 2 = (m : Int) := by omega
      have l8 : (lo : Int) + (hi : Int) ≤ 16 := by omega
      obtain ⟨x, b, off, hx, rfl, y0, y1⟩ := ((HR.out.below B1.out).below hB.out).ent (show m < n by omega)
      have HX := hide hx
      have BN := hide (fun W => byname_any x.nm t (x.id : Int) z W)
      have sn := sgnT_neg x.nm t
      obtain ⟨sg, hsg⟩ : ∃ z, z = sgnT x.nm t := ⟨_, rfl⟩
      obtain ⟨nm, hnm⟩ : ∃ y, y = x.nm := ⟨_, rfl⟩
      obtain ⟨xi, hxi⟩ : ∃ y, y = x.id := ⟨_, rfl⟩
      rw [← hsg] at BN sn
      rw [← hnm] at BN sn y0
      rw [← hxi] at BN y1
      have HN := hide hnm
      have m0 : (0 : Int) ≤ (m : Int) := by omega
      have m1 : (m : Int) < (n : Int) := by omega
      have SC := hide (fun (W : World) (b2 : Below wr.heap.size wr W) => show W.cell? ⟨b, off + m * 2, none⟩ = some (.string (bt nm)) ∧ W.cell? ⟨b, off + m * 2 + 1, none⟩ = some (.int .i64 (xi : Int)) ∧ W.cell? ⟨w.heap.size, 0, none⟩ = some (.string (bt t)) ∧ W.cell? ⟨w.heap.size, 1, none⟩ = some (.int .i64 z) from
        ⟨(b2.cell (lt_of_cell? y0)).trans y0, (b2.cell (lt_of_cell? y1)).trans y1, (b2.cell (lt_of_cell? x0)).trans x0, (b2.cell (lt_of_cell? x1)).trans x1⟩)
      clear hsg hxi hnm hx hm
      by_cases hq : ltT nm t = true
      · have s0 : sg < 0 := sn.2 hq
        have HQ := hide hq
        clear hq sn
        go_upto_region 5 with fail
        go_region_held3 (fun W => W.cell? ⟨b, off + m * 2, none⟩ = some (.string (bt nm)) ∧ W.cell? ⟨b, off + m * 2 + 1, none⟩ = some (.int .i64 (xi : Int)) ∧ W.cell? ⟨w.heap.size, 0, none⟩ = some (.string (bt t)) ∧ W.cell? ⟨w.heap.size, 1, none⟩ = some (.int .i64 z)) (first | exact ⟨y0, y1, x0, x1⟩ | exact SC.out _ B2.out) (first | (go_at_call 125; refine (BN.out _).mono ?_; rintro e w2 ⟨rfl, b2⟩; have B2 := hide (show Below wr.heap.size wr w2 from (below_drewN (Below.refl _ _) 1).trans b2); clear b2))
        go_wp2_with fail
        go_roundw
        case rel => exact ⟨m + 1, hi, by go_num, rfl, by omega, hin, hB.out.trans (B2.out.mono hB.out.size), ⟨fun k y h e => by
          rcases Nat.lt_or_ge k m with h3 | h3
          · have := srt_at HS.out e HX.out h3
            rw [← HN.out] at this
            exact ltT_trans this HQ.out
          · obtain rfl : k = m := by omega
            rw [HX.out] at e; injection e with e; rw [← e, ← HN.out]; exact HQ.out, hI.out.2⟩⟩
        case measure => simp [intOf]; omega
      · have s0 : ¬ sg < 0 := fun e => hq (sn.1 e)
        have HQ := hide (show ltT nm t = false from by simpa using hq)
        clear hq sn
        go_upto_region 5 with fail
        go_region_held3 (fun W => W.cell? ⟨b, off + m * 2, none⟩ = some (.string (bt nm)) ∧ W.cell? ⟨b, off + m * 2 + 1, none⟩ = some (.int .i64 (xi : Int)) ∧ W.cell? ⟨w.heap.size, 0, none⟩ = some (.string (bt t)) ∧ W.cell? ⟨w.heap.size, 1, none⟩ = some (.int .i64 z)) (first | exact ⟨y0, y1, x0, x1⟩ | exact SC.out _ B2.out) (first | (go_at_call 125; refine (BN.out _).mono ?_; rintro e w2 ⟨rfl, b2⟩; have B2 := hide (show Below wr.heap.size wr w2 from (below_drewN (Below.refl _ _) 1).trans b2); clear b2))
        go_wp2_with fail
        go_roundw
        case rel => exact ⟨lo, m, rfl, rfl, mlo, by omega, hB.out.trans (B2.out.mono hB.out.size), ⟨hI.out.1, fun k y h e => by
          rcases Nat.lt_or_ge m k with h3 | h3
          · have := srt_at HS.out HX.out e h3
            rw [← HN.out] at this
            cases hc : ltT y.nm t with
            | false => rfl
            | true => exact absurd (ltT_trans this hc) (by rw [HQ.out]; decide)
          · obtain rfl : k = m := by omega
            rw [HX.out] at e; injection e with e; rw [← e, ← HN.out]; exact HQ.out⟩⟩
        case measure => simp [intOf]; omega
    · obtain rfl : lo = hi := by omega
      have EC := hide (AC.out lo hin hI.out.1 hI.out.2)
      by_cases hln : lo < n
      · obtain ⟨x, b, off, hx, rfl, y0, y1⟩ := ((HR.out.below B1.out).below hB.out).ent hln
        have HX := hide hx
        have BN := hide (fun W => byname_any x.nm t (x.id : Int) z W)
        have sn := sgnT_zero x.nm t
        obtain ⟨sg, hsg⟩ : ∃ z, z = sgnT x.nm t := ⟨_, rfl⟩
        have HT := hide (show hitT l t = decide (sg = 0) from by
          unfold hitT
          rw [EC.out, HX.out]
          show decide (x.nm = t) = _
          rw [hsg]; exact decide_eq_decide.2 sn.symm)
        obtain ⟨nm, hnm⟩ : ∃ y, y = x.nm := ⟨_, rfl⟩
        obtain ⟨xi, hxi⟩ : ∃ y, y = x.id := ⟨_, rfl⟩
        rw [← hsg] at BN
        rw [← hnm] at BN y0
        rw [← hxi] at BN y1
        have m0 : (0 : Int) ≤ (lo : Int) := by omega
        have m1 : (lo : Int) < (n : Int) := by omega
        have SC := hide (fun (W : World) (b2 : Below wr.heap.size wr W) => show W.cell? ⟨b, off + lo * 2, none⟩ = some (.string (bt nm)) ∧ W.cell? ⟨b, off + lo * 2 + 1, none⟩ = some (.int .i64 (xi : Int)) ∧ W.cell? ⟨w.heap.size, 0, none⟩ = some (.string (bt t)) ∧ W.cell? ⟨w.heap.size, 1, none⟩ = some (.int .i64 z) from
          ⟨(b2.cell (lt_of_cell? y0)).trans y0, (b2.cell (lt_of_cell? y1)).trans y1, (b2.cell (lt_of_cell? x0)).trans x0, (b2.cell (lt_of_cell? x1)).trans x1⟩)
        clear hsg hxi hnm hx sn
        have g0 : ((lo : Int) < (n : Int)) = True := by simpa using hln
        have eq0 : (sg == 0) = decide (sg = 0) := by by_cases e : sg = 0 <;> simp [e]
        go_upto_region 8 with fail
        go_region_held3 (fun W => W.cell? ⟨b, off + lo * 2, none⟩ = some (.string (bt nm)) ∧ W.cell? ⟨b, off + lo * 2 + 1, none⟩ = some (.int .i64 (xi : Int)) ∧ W.cell? ⟨w.heap.size, 0, none⟩ = some (.string (bt t)) ∧ W.cell? ⟨w.heap.size, 1, none⟩ = some (.int .i64 z)) (first | exact ⟨y0, y1, x0, x1⟩ | exact SC.out _ B2.out) (first | (go_at_call 125; refine (BN.out _).mono ?_; rintro e w2 ⟨rfl, b2⟩; have B2 := hide (show Below wr.heap.size wr w2 from (below_drewN (Below.refl _ _) 1).trans b2); clear b2))
        all_goals
          go_wp2_with fail
          go_ret2
          exact ⟨by rw [EC.out, HT.out]; rfl, B1.out.trans ((hB.out.trans (B2.out.mono hB.out.size)).mono B1.out.size)⟩
      · have HT := hide (show hitT l t = false from by
          unfold hitT
          rw [EC.out, List.getElem?_eq_none (by have := LN.out; omega)])
        obtain rfl : lo = n := by omega
        have g0 : ((lo : Int) < (lo : Int)) = False := by simp
        go_upto_region 8 with fail
        go_quiet (fail)
        go_wp2_with fail
        go_ret2
        exact ⟨by rw [EC.out, HT.out]; rfl, B1.out.trans ((below_drewN hB.out _).mono B1.out.size)⟩
end Go.Proofs.YtndfnglcichngaaGreatDoor
namespace Go.Proofs.YtndfnglcichngaaGreatDoor
open Go.ChangeShapes Go.WideShapes Go.ChangeAt Go.RowKit
set_option linter.unusedVariables false
set_option linter.unusedSimpArgs false
def plI (l : List Ent) (t : Txt) : Int := if hitT l t = true then (cntT l t : Int) else -1
theorem built_key (t : Txt) : Tryz.prog.built 105 [(0, .string (bt t))] = some #[.string (bt t), .int .i64 0] := by kernel_rfl
attribute [local go_sem] built_key
section
variable {w : World} {U : Nat → Prop} {H T S : Nat} {s : In} {E : Nat → Prop} {N : Nat → Option Nat} {V : Nat → Value} {tag : Nat → Int}
set_option maxHeartbeats 2000000 in
theorem place_any (h : IpM w U H T S s E N V tag) {i b : Nat} (e : N i = some b) (hs : (s.n i).l.Pairwise fun a b => ltT a.nm b.nm = true) (h8 : (s.n i).l.length ≤ 8) (t : Txt) : Calls Tryz.prog 105 #[.pointer (some ⟨b, 0, none⟩), .string (bt t)] w fun e w' => e = .returned (.int .i64 (plI (s.n i).l t)) ∧ Below w.heap.size w w' := by
  obtain ⟨a, c, hv, hr, -, -, -⟩ := h.list i
  have c3 := h.cList e
  rw [hv] at c3
  have BS := hide (bsf_any (c := c) hr hs h8 t 0)
  obtain ⟨l, hl⟩ : ∃ l, l = (s.n i).l := ⟨_, rfl⟩
  rw [← hl] at BS c3 ⊢
  unfold plI
  clear h e hs h8 hr hv hl
  cases hh : hitT l t with
  | true =>
    rw [hh] at BS
    rw [if_pos rfl]
    clear hh
    go_enter Tryz.func105, Tryz.ntmps105
    go_wp2_with (first | (refine wpList_build rfl 105 _ rfl (by kernel_rfl) ?_) | (go_at_call 129; refine BS.out.mono ?_; rintro e w' ⟨rfl, b1⟩; have B1 := hide b1; clear b1))
    go_ret
    exact ⟨rfl, B1.out⟩
  | false =>
    rw [hh] at BS
    rw [if_neg (by decide)]
    clear hh
    go_enter Tryz.func105, Tryz.ntmps105
    go_wp2_with (first | (refine wpList_build rfl 105 _ rfl (by kernel_rfl) ?_) | (go_at_call 129; refine BS.out.mono ?_; rintro e w' ⟨rfl, b1⟩; have B1 := hide b1; clear b1))
    go_ret
    exact ⟨rfl, B1.out⟩
set_option maxHeartbeats 2000000 in
theorem pfind_any (h : IpM w U H T S s E N V tag) {pend : List Ent} {B : Int} (g : GoodP s pend B) (d : Int) (t : Txt) : Calls Tryz.prog 63 #[.pointer (some ⟨T, 0, none⟩), .int .i64 d, .string (bt t)] w fun e w' => e = .returned (.tuple #[.int .i64 (fiII s d t : Nat), .int .i64 (fiIE s d t : Nat)]) ∧ Below w.heap.size w w' := by
  cases hD : dirI s d with
  | false =>
    have F := hide (folder21_no h hD)
    rw [show fiII s d t = 0 from by unfold fiII; rw [hD]; rfl, show fiIE s d t = 11 from by unfold fiIE; rw [hD]; rfl]
    clear h g hD
    go_enter Tryz.func63, Tryz.ntmps63
    go_wp2_with (go_at_call 93; refine F.out.mono ?_; rintro e w' ⟨rfl, rfl⟩)
    go_ret2
    exact ⟨rfl, Below.refl _ _⟩
  | true =>
    obtain ⟨i, rfl, hi, his, hdir⟩ := dirI_yes hD
    obtain ⟨b, hb⟩ := h.there his
    have F := hide (folder21_yes h hi hb hdir)
    have P := hide (place_any h hb (g.srt i) (g.few i) t)
    have fE : fiIE s (i : Int) t = if hitT (s.n i).l t = true then 0 else 9 := by unfold fiIE; rw [hD, Int.toNat_natCast, findL_hitT (g.srt i)]; rfl
    cases hh : hitT (s.n i).l t with
    | false =>
      have hn : findL (s.n i).l t = none := by
        have := findL_hitT (t := t) (g.srt i)
        rw [hh] at this
        exact Option.not_isSome_iff_eq_none.1 (by rw [this]; decide)
      rw [fE, hh, show fiII s (i : Int) t = 0 from by unfold fiII; rw [hD, Int.toNat_natCast, hn]; rfl]
      rw [show plI (s.n i).l t = -1 from by unfold plI; rw [hh]; rfl] at P
      clear h g hD his hdir hb fE hh hn
      go_enter Tryz.func63, Tryz.ntmps63
      go_wp2_with (first | (go_at_call 93; refine F.out.mono ?_; rintro e w' ⟨rfl, rfl⟩) | (go_at_call 105; refine P.out.mono ?_; rintro e w' ⟨rfl, b1⟩; have B1 := hide b1; clear b1))
      go_ret2
      exact ⟨rfl, B1.out⟩
    | true =>
      obtain ⟨x, hx, hn, hf⟩ := findL_at (g.srt i) hh
      rw [fE, hh, show fiII s (i : Int) t = x.id from by unfold fiII; rw [hD, Int.toNat_natCast, hf]; rfl]
      rw [show plI (s.n i).l t = (cntT (s.n i).l t : Int) from by unfold plI; rw [if_pos hh]] at P
      obtain ⟨a, c, hv, hr, -, -, -⟩ := h.list i
      have c3 := h.cList hb
      rw [hv] at c3
      obtain ⟨k, hk⟩ : ∃ k, k = cntT (s.n i).l t := ⟨_, rfl⟩
      rw [← hk] at P hx
      have hlt := (List.getElem?_eq_some_iff.1 hx).1
      obtain ⟨x', bb, off, hx', rfl, y0, y1⟩ := hr.ent hlt
      rw [hx] at hx'
      injection hx' with hx'
      subst hx'
      obtain ⟨n, hn2⟩ : ∃ n, n = (s.n i).l.length := ⟨_, rfl⟩
      rw [← hn2] at hlt c3
      obtain ⟨z, hz⟩ : ∃ z, z = x.id := ⟨_, rfl⟩
      rw [← hz] at y1 ⊢
      have k0 : (0 : Int) ≤ (k : Int) := by omega
      have k1 : (k : Int) < (n : Int) := by omega
      have CB := hide (fun (W : World) (bl : Below w.heap.size w W) => show W.cell? ⟨b, 3, none⟩ = some (.slice (some ⟨bb, off, none⟩) n c) ∧ W.cell? ⟨bb, off + k * 2 + 1, none⟩ = some (.int .i64 (z : Int)) from ⟨(bl.cell (lt_of_cell? c3)).trans c3, (bl.cell (lt_of_cell? y1)).trans y1⟩)
      clear h g hD his hdir hb fE hh hn hf hv hr hx hk y0 hn2 hz c3 y1 hlt
      go_enter Tryz.func63, Tryz.ntmps63
      go_wp2_with (first | (go_at_call 93; refine F.out.mono ?_; rintro e w' ⟨rfl, rfl⟩) | (go_at_call 105; refine P.out.mono ?_; rintro e w' ⟨rfl, b1⟩; have B1 := hide b1; clear b1; obtain ⟨q0, q1⟩ := CB.out _ B1.out))
      go_ret2
      exact ⟨rfl, B1.out⟩
end
end Go.Proofs.YtndfnglcichngaaGreatDoor
namespace Go.Proofs.YtndfnglcichngaaGreatDoor
open Go.ChangeShapes Go.WideShapes Go.ChangeAt Go.RowKit
set_option linter.unusedVariables false
set_option linter.unusedSimpArgs false
/-- What a call makes of the table. -/
def Pto (w w' : World) (U : Nat → Prop) (H T S : Nat) (s' : In) : Prop := ∃ U', PIn H S w' U' T s' ∧ Touch U w w' ∧ ∀ k, U' k → U k ∨ w.heap.size ≤ k
section
variable {w : World} {U : Nat → Prop} {H T S : Nat} {s : In} {E : Nat → Prop} {N : Nat → Option Nat} {V : Nat → Value} {tag : Nat → Int}
theorem Pto.refl (h : PIn H S w U T s) : Pto w w U H T S s := ⟨U, h, Touch.refl _ _, fun k e => .inl e⟩
theorem Pto.step {w1 w2 : World} {U1 : Nat → Prop} {s2 : In} (t : Touch U w w1) (hU : ∀ k, U1 k → U k ∨ w.heap.size ≤ k) (h : Pto w1 w2 U1 H T S s2) : Pto w w2 U H T S s2 := by
  obtain ⟨U2, h2, t2, u2⟩ := h
  refine ⟨U2, h2, t.trans t2 hU, fun k e => ?_⟩
  rcases u2 k e with e | e
  · exact hU k e
  · have := t.size; exact .inr (by omega)
theorem Pto.after {w1 w2 : World} {s2 : In} (b : Below w.heap.size w w1) (h : Pto w1 w2 U H T S s2) : Pto w w2 U H T S s2 := Pto.step (Touch.of_below b) (fun k e => .inl e) h
theorem Pto.then_below {w1 w2 : World} {s2 : In} (h : Pto w w1 U H T S s2) (b : Below w1.heap.size w1 w2) : Pto w w2 U H T S s2 := by
  obtain ⟨U2, h2, t2, u2⟩ := h
  exact ⟨U2, (keepsPIn H S).below h2 b, t2.trans (Touch.of_below (S := fun _ => False) b) (fun i e => e.elim), u2⟩
theorem Pto.side {w' : World} {s' : In} {v : Value} (h : Pto w w' U H T S s') : SideO (fun w' U' => PIn H S w' U' T s') U w v (.returned v) w' := by
  obtain ⟨U2, h2, t2, u2⟩ := h
  exact ⟨rfl, U2, h2, t2, u2⟩
theorem GoodP.here {s : In} {pend : List Ent} {e : Ent} {B : Int} (h : GoodP s (e :: pend) B) : (s.n e.id).is = true := by
  cases e2 : (s.n e.id).is with
  | true => rfl
  | false =>
    have h1 := h.lnk e.id
    rw [h.no _ e2, cntL_cons, if_pos rfl] at h1
    have : (Nd.zero).links = 0 := rfl
    omega
/-- What settle and unlink do, for tables of less than f nodes. -/
def SettleOk (f H T S : Nat) : Prop := ∀ (w : World) (U : Nat → Prop) (s : In) (pend : List Ent) (B : Int) (i : Nat), PIn H S w U T s → GoodP s pend B → i < 16 → (s.n i).is = true → cntI s < f →
    Calls Tryz.prog 75 #[.pointer (some ⟨T, 0, none⟩), .int .i64 (i : Int)] w fun e w' => e = .returned (.tuple #[]) ∧ Pto w w' U H T S (goneI f s i)
def UnlinkOk (f H T S : Nat) : Prop := ∀ (w : World) (U : Nat → Prop) (s : In) (pend : List Ent) (B : Int) (x : Ent), PIn H S w U T s → GoodP s (x :: pend) B → cntI s < f →
    Calls Tryz.prog 112 #[.pointer (some ⟨T, 0, none⟩), .int .i64 (x.id : Int)] w fun e w' => e = .returned (.tuple #[]) ∧ Pto w w' U H T S (goneI f (decL s x.id) x.id)
set_option maxHeartbeats 4000000 in
theorem unlink_of {f : Nat} (IH : SettleOk f H T S) : UnlinkOk f H T S := by
  rintro w U s pend B x ⟨E, N, V, tag, h⟩ g hc
  have e16 := (g.pnd x (List.mem_cons_self ..)).1
  have his := g.here
  obtain ⟨b, hb⟩ := h.there his
  have cS := h.cS e16 hb
  have cl := h.cLinks hb
  have fz := (h.nd _ b hb).frz 1
  have LK := hide (fun q => h.linked hb ((s.n x.id).links - 1) q)
  have UB := hide (h.un _ b hb)
  have GD := hide g.dec
  have CD := hide (show cntI (decL s x.id) < f from by rw [cntI_dec _ e16]; exact hc)
  have IS := hide (show ((decL s x.id).n x.id).is = true from by show (upd s.n x.id _ x.id).is = true; rw [upd_same]; exact his)
  have DE := hide (show s.put x.id { s.n x.id with links := (s.n x.id).links - 1 } = decL s x.id from rfl)
  have l0 : 0 ≤ (s.n x.id).links := by rw [g.lnk]; omega
  have lb := g.lb x.id
  generalize (s.n x.id).links = lk at *
  have E16 := hide e16
  have j0 : (0 : Int) ≤ (x.id : Int) := by omega
  have j1 : (x.id : Int) < 16 := by omega
  generalize x.id = j at *
  have IHH := hide IH
  clear IH h g hc his hb e16
  go_enter Tryz.func112, Tryz.ntmps112
  go_upto_region 1 with fail
  have ST := hide (IHH.out (w.setCell ⟨b, 1, none⟩ (.int .i64 (lk - 1))) U (decL s j) pend B j ⟨E, N, V, tag, DE.out ▸ (LK.out 0).1⟩ GD.out E16.out IS.out CD.out)
  have TC := hide (show Touch U w (w.setCell ⟨b, 1, none⟩ (.int .i64 (lk - 1))) from (LK.out 0).2.mono (fun k e => e ▸ UB.out))
  clear cS cl fz
  go_wp2_with (go_at_call 75; refine ST.out.mono ?_; rintro e w2 ⟨rfl, r2⟩; have R2 := hide (Pto.step TC.out (fun k e => .inl e) r2); clear r2)
  refine bodyPost_end (results_none rfl _ _ _) rfl ?_
  exact ⟨rfl, R2.out⟩
set_option maxRecDepth 10000 in
set_option maxHeartbeats 8000000 in
theorem settle_step {f : Nat} (IH : SettleOk f H T S) : SettleOk (f + 1) H T S := by
  rintro w U s pend B i ⟨E, N, V, tag, h⟩ g hi his hc
  have UL := hide (unlink_of IH)
  clear IH
  have i0 : (0 : Int) ≤ (i : Int) := by omega
  have i1 : (i : Int) < 16 := by omega
  obtain ⟨b, hb⟩ := h.there his
  have cS := h.cS hi hb
  have cl := h.cLinks hb
  have co := h.cOpens hb
  have l0 : 0 ≤ (s.n i).links := by rw [g.lnk i]; omega
  have o0 := (g.opn i).1
  by_cases hg : i = 0 ∨ 0 < (s.n i).links ∨ 0 < (s.n i).opens
  · rw [show goneI (f + 1) s i = s from if_pos hg]
    have FIN := hide (Pto.refl (show PIn H S w U T s from ⟨_, _, _, _, h⟩))
    obtain ⟨lk, hlk⟩ : ∃ z, z = (s.n i).links := ⟨_, rfl⟩
    obtain ⟨op, hop⟩ : ∃ z, z = (s.n i).opens := ⟨_, rfl⟩
    rw [← hlk] at cl hg l0
    rw [← hop] at co hg o0
    clear hlk hop g h hb his hc
    by_cases z0 : i = 0
    · subst z0
      clear hg
      go_enter Tryz.func75, Tryz.ntmps75
      go_wp2_with fail
      refine bodyPost_ret (results_none rfl _ _ _) rfl ?_
      exact ⟨rfl, FIN.out⟩
    · have z1 : ¬ (i : Int) = 0 := by omega
      by_cases z2 : 0 < lk
      · clear hg
        go_enter Tryz.func75, Tryz.ntmps75
        go_wp2_with fail
        refine bodyPost_ret (results_none rfl _ _ _) rfl ?_
        exact ⟨rfl, FIN.out⟩
      · have z3 : 0 < op := (hg.resolve_left z0).resolve_left z2
        clear hg
        go_enter Tryz.func75, Tryz.ntmps75
        go_wp2_with fail
        refine bodyPost_ret (results_none rfl _ _ _) rfl ?_
        exact ⟨rfl, FIN.out⟩
  · have hgone : goneI (f + 1) s i = foldG f (s.n i).l (clrI s i) := if_neg hg
    have z1 : ¬ (i : Int) = 0 := fun e => hg (.inl (by omega))
    have z2 : (s.n i).links = 0 := by have : ¬ 0 < (s.n i).links := fun e => hg (.inr (.inl e)); omega
    have z3 : (s.n i).opens = 0 := by have : ¬ 0 < (s.n i).opens := fun e => hg (.inr (.inr e)); omega
    rw [z2] at cl
    rw [z3] at co
    have GC := hide (g.clr hi (fun e => hg (.inl e)) (by omega))
    have CC := hide (cntI_clr g hi)
    have N8 := hide (g.few i)
    have fT := h.row.frz (1 + i)
    have cd := h.cDir hb
    have c0 := h.c0
    obtain ⟨a, c, hv, hr, -, -, -⟩ := h.list i
    have c3 := h.cList hb
    rw [hv] at c3
    have OUT := hide (h.out hi hb)
    have bT := (h.tagS hb).1
    have rT : ∀ q o, a = some ⟨q, o, none⟩ → q ≠ T := fun q o e e2 => by
      have h1 := h.tv i q (by rw [hv, e]; rfl)
      have h2 := h.tt
      rw [e2] at h1; omega
    have ro : ∀ q o, a = some ⟨q, o, none⟩ → (V i).ownBlock = some q := fun q o e => by rw [hv, e]; rfl
    rw [hgone]
    obtain ⟨l, hl⟩ : ∃ l, l = (s.n i).l := ⟨_, rfl⟩
    rw [← hl] at GC CC N8 c3 hr ⊢
    obtain ⟨n, hn⟩ : ∃ n, n = l.length := ⟨_, rfl⟩
    have NL := hide hn
    rw [← hn] at N8 hr c3
    have n8 : (n : Int) ≤ 8 := by have := N8.out; omega
    obtain ⟨w1, hw1⟩ : ∃ w1, w1 = w.setCell ⟨T, 1 + i, none⟩ (.pointer none) := ⟨_, rfl⟩
    rw [← hw1] at OUT
    -- the node's own cells and row, as long as nothing of the table's blocks is written
    have KEEP := hide (show ∀ (U2 : Nat → Prop) (w2 : World), (∀ k, U2 k → U k ∧ k ≠ b ∧ (V i).ownBlock ≠ some k) → Touch U2 w1 w2 → w2.cell? ⟨b, 0, none⟩ = some (.bool (s.n i).dir) ∧ w2.cell? ⟨b, 3, none⟩ = some (.slice a n c) ∧ Reads 2 enV w2 a n l from fun U2 w2 hU t => by
      have t1 := OUT.out.2
      refine ⟨t.cell (t1.cell cd bT) (fun e => (hU b e).2.1 rfl), t.cell (t1.cell c3 bT) (fun e => (hU b e).2.1 rfl), (hr.touch t1 (fun q o e e2 => rT q o e e2)).touch t (fun q o e e2 => (hU q e2).2.2 (ro q o e))⟩)
    have c0' := OUT.out.1.c0
    have K0 := KEEP.out (fun k => U k ∧ k ≠ b ∧ (V i).ownBlock ≠ some k) w1 (fun k e => e) (Touch.refl _ _)
    have DR := hide (pdr_any OUT.out.1.so (wf_16 hi))
    have HC := hide hc
    have LT := hide (h.lt)
    have UT := hide h.ut
    have BH := hide (h.un i b hb)
    have RO := hide (And.intro ro rT)
    have UQ := hide (fun q o e => h.uv i q (ro q o e))
    have HB := hide hb
    clear g h hg hgone z2 z3 hl hc l0 o0 his hn cd c3 hv hr rT ro hb
    have FIN2 := hide (fun (U3 : Nat → Prop) (w2 : World) (t : Touch (fun k => U k ∧ k ≠ b ∧ (V i).ownBlock ≠ some k) w1 w2) (hU : ∀ k, U3 k → (U k ∧ k ≠ b ∧ (V i).ownBlock ≠ some k) ∨ w1.heap.size ≤ k) => show (Touch U w w2 ∧ ∀ k, U3 k → U k ∨ w.heap.size ≤ k) ∧ (∀ q o, a = some ⟨q, o, none⟩ → q < w1.heap.size → ¬ U3 q) from
      ⟨⟨(OUT.out.2.mono (fun k e => e ▸ UT.out)).trans t (fun k e => .inl e.1), fun k e => by
        rcases hU k e with e | e
        · exact .inl e.1
        · have := OUT.out.2.size; exact .inr (by omega)⟩, fun q o e hq e2 => by
        rcases hU q e2 with e3 | e3
        · exact e3.2.2 (RO.out.1 q o e)
        · omega⟩)
    have LQ := hide (fun (q o : Nat) (e : a = some ⟨q, o, none⟩) => show q < w1.heap.size from Nat.lt_of_lt_of_le (LT.out q (UQ.out q o e)) OUT.out.2.size)
    cases hd : (s.n i).dir with
    | true =>
      rw [hd] at KEEP K0
      clear DR
      have hcl : clrI s i = ⟨upd s.n i Nd.zero, s.so⟩ := by unfold clrI; rw [if_pos hd]
      obtain ⟨U3, hU3⟩ : ∃ U3, U3 = (fun k => U k ∧ k ≠ b ∧ (V i).ownBlock ≠ some k) := ⟨_, rfl⟩
      have P2 := hide (show PIn H S w1 U3 T (clrI s i) from by rw [hU3, hcl]; exact ⟨_, _, _, _, OUT.out.1⟩)
      obtain ⟨bk, rr⟩ := FIN2.out U3 w1 (Touch.refl _ _) (fun k e => .inl (by rw [hU3] at e; exact e))
      have BACK := hide bk
      have RD := hide (show Reads 2 enV w1 a n l ∧ ∀ q o, a = some ⟨q, o, none⟩ → ¬ U3 q from ⟨K0.2.2, fun q o e => rr q o e (LQ.out q o e)⟩)
      obtain ⟨d0, d3, -⟩ := K0
      clear hd hcl hU3 bk rr KEEP FIN2 LQ
      go_enter Tryz.func75, Tryz.ntmps75
      go_upto_region 3 with fail
      rw [← hw1]
      clear hw1 cS cl co c0 fT OUT
      obtain ⟨w2, hw2⟩ : ∃ w2, w2 = w1 := ⟨_, rfl⟩
      rw [← hw2] at P2 RD BACK d0 d3 c0' ⊢
      clear hw2
      go_upto_region 6 with fail
      try simp only [show ((i : Int) == 0) = false from by simpa using z1]
      go_loopw [50] (fun kv wr => ∃ k : Nat, k ≤ n ∧ kv = .int .i64 (k : Int) ∧ Hid (Pto w2 wr U3 H T S (foldG f (l.take k) (clrI s i)))) (fun kv _ => n - (intOf kv).toNat)
      case atStart => exact ⟨0, Nat.zero_le _, rfl, Pto.refl P2.out⟩
      case round =>
        obtain ⟨k, hk, rfl, hR⟩ := hrel
        by_cases hlt : k < n
        · have k0 : (0 : Int) ≤ (k : Int) := by omega
          have k1 : (k : Int) < (n : Int) := by omega
          obtain ⟨U4, p4, t4, u4⟩ := hR.out
          have hr4 := RD.out.1.touch t4 RD.out.2
          obtain ⟨x, q, off, hx, rfl, x0, x1⟩ := hr4.ent hlt
          obtain ⟨gg, gc⟩ := foldG_good (f := f) GC.out (fun hne => by have := CC.out.2 hne; have := HC.out; omega) k (by have := NL.out; omega)
          rw [List.drop_eq_getElem_cons (by have := NL.out; omega), show l[k]'(by have := NL.out; omega) = x from (List.getElem?_eq_some_iff.1 hx).2, List.cons_append] at gg
          have TK := hide (foldG_take (f := f) (s := clrI s i) hx)
          have B4 := hide (show ∀ o : Obj, Below wr.heap.size wr (wr.alloc o) from fun o => (Below.refl _ _).alloc (Nat.le_refl _) o)
          have cf := gc (fun e => by rw [e] at hx; cases hx)
          have UN := hide (UL.out (wr.alloc (.cells #[.string (bt x.nm), .int .i64 (x.id : Int)] 105)) U4 _ _ B x ((keepsPIn H S).below p4 (B4.out _)) gg cf)
          have P4 := hide (And.intro t4 u4)
          obtain ⟨nm, hnm⟩ : ∃ y, y = x.nm := ⟨_, rfl⟩
          rw [← hnm] at x0 UN
          generalize goneI f (decL (foldG f (l.take k) (clrI s i)) x.id) x.id = s5 at *
          generalize x.id = xi at *
          clear hr4 hx gg gc cf hnm t4 u4 p4 hR
          go_wp2_with (go_at_call 112; refine UN.out.mono ?_; rintro e w5 ⟨rfl, r5⟩; have R5 := hide (Pto.step P4.out.1 P4.out.2 (Pto.after (B4.out _) r5)); clear r5)
          go_roundw
          case rel => exact ⟨k + 1, by omega, by go_num, by rw [TK.out]; exact R5.out⟩
          case measure => simp [intOf]; omega
        · obtain rfl : k = n := by omega
          go_wp2_with fail
          refine bodyPost_end (results_none rfl _ _ _) rfl ?_
          refine ⟨rfl, Pto.step BACK.out.1 BACK.out.2 ?_⟩
          have h5 := hR.out
          rw [List.take_of_length_le (by rw [NL.out]; exact Nat.le_refl _)] at h5
          exact h5
    | false =>
      rw [hd] at KEEP K0
      have hcl : clrI s i = ⟨upd s.n i Nd.zero, drS s.so i⟩ := by unfold clrI; rw [if_neg (by rw [hd]; decide)]
      obtain ⟨d0, d3, -⟩ := K0
      obtain ⟨te, hte⟩ : ∃ z, z = thE s.so i := ⟨_, rfl⟩
      have DR2 := hide (show Calls Tryz.prog 111 #[.pointer (some ⟨S, 0, none⟩), .int .i64 (i : Int)] w1 (fun e w2 => e = .returned (.int .i64 (te : Nat)) ∧ ∃ U3, PIn H S w2 U3 T (clrI s i) ∧ (Touch U w w2 ∧ ∀ k, U3 k → U k ∨ w.heap.size ≤ k) ∧ (Reads 2 enV w2 a n l ∧ ∀ q o, a = some ⟨q, o, none⟩ → ¬ U3 q) ∧ w2.cell? ⟨b, 3, none⟩ = some (.slice a n c)) from by
        refine DR.out.mono ?_
        intro e w2 hS
        obtain ⟨rfl, U3, E3, tag3, h3, t3, u3⟩ := OUT.out.1.stored hS
        have t4 := t3.mono (fun k e => OUT.out.1.ue k e)
        obtain ⟨bk, rr⟩ := FIN2.out U3 w2 t4 u3
        have kk := KEEP.out _ w2 (fun k e => e) t4
        exact ⟨by rw [hte], U3, by rw [hcl]; exact ⟨_, _, _, _, h3⟩, bk, ⟨kk.2.2, fun q o e => rr q o e (LQ.out q o e)⟩, kk.2.1⟩)
      clear hd hcl hte KEEP FIN2 LQ DR
      go_enter Tryz.func75, Tryz.ntmps75
      go_upto_region 3 with fail
      rw [← hw1]
      clear hw1 cS cl co c0 fT OUT
      go_upto_region 5 with (go_at_call 111; refine DR2.out.mono ?_; rintro e w2 ⟨rfl, U3, p2, bk, rd, d3'⟩; have P2 := hide p2; have BACK := hide bk; have RD := hide rd; clear p2 bk rd)
      clear d0 d3 c0' DR2
      go_upto_region 6 with fail
      try simp only [show ((i : Int) == 0) = false from by simpa using z1]
      go_loopw [50] (fun kv wr => ∃ k : Nat, k ≤ n ∧ kv = .int .i64 (k : Int) ∧ Hid (Pto w2 wr U3 H T S (foldG f (l.take k) (clrI s i)))) (fun kv _ => n - (intOf kv).toNat)
      case atStart => exact ⟨0, Nat.zero_le _, rfl, Pto.refl P2.out⟩
      case round =>
        obtain ⟨k, hk, rfl, hR⟩ := hrel
        by_cases hlt : k < n
        · have k0 : (0 : Int) ≤ (k : Int) := by omega
          have k1 : (k : Int) < (n : Int) := by omega
          obtain ⟨U4, p4, t4, u4⟩ := hR.out
          have hr4 := RD.out.1.touch t4 RD.out.2
          obtain ⟨x, q, off, hx, rfl, x0, x1⟩ := hr4.ent hlt
          obtain ⟨gg, gc⟩ := foldG_good (f := f) GC.out (fun hne => by have := CC.out.2 hne; have := HC.out; omega) k (by have := NL.out; omega)
          rw [List.drop_eq_getElem_cons (by have := NL.out; omega), show l[k]'(by have := NL.out; omega) = x from (List.getElem?_eq_some_iff.1 hx).2, List.cons_append] at gg
          have TK := hide (foldG_take (f := f) (s := clrI s i) hx)
          have B4 := hide (show ∀ o : Obj, Below wr.heap.size wr (wr.alloc o) from fun o => (Below.refl _ _).alloc (Nat.le_refl _) o)
          have cf := gc (fun e => by rw [e] at hx; cases hx)
          have UN := hide (UL.out (wr.alloc (.cells #[.string (bt x.nm), .int .i64 (x.id : Int)] 105)) U4 _ _ B x ((keepsPIn H S).below p4 (B4.out _)) gg cf)
          have P4 := hide (And.intro t4 u4)
          obtain ⟨nm, hnm⟩ : ∃ y, y = x.nm := ⟨_, rfl⟩
          rw [← hnm] at x0 UN
          generalize goneI f (decL (foldG f (l.take k) (clrI s i)) x.id) x.id = s5 at *
          generalize x.id = xi at *
          clear hr4 hx gg gc cf hnm t4 u4 p4 hR
          go_wp2_with (go_at_call 112; refine UN.out.mono ?_; rintro e w5 ⟨rfl, r5⟩; have R5 := hide (Pto.step P4.out.1 P4.out.2 (Pto.after (B4.out _) r5)); clear r5)
          go_roundw
          case rel => exact ⟨k + 1, by omega, by go_num, by rw [TK.out]; exact R5.out⟩
          case measure => simp [intOf]; omega
        · obtain rfl : k = n := by omega
          go_wp2_with fail
          refine bodyPost_end (results_none rfl _ _ _) rfl ?_
          refine ⟨rfl, Pto.step BACK.out.1 BACK.out.2 ?_⟩
          have h5 := hR.out
          rw [List.take_of_length_le (by rw [NL.out]; exact Nat.le_refl _)] at h5
          exact h5
theorem settle_any : ∀ f, SettleOk f H T S
  | 0 => fun w U s pend B i h g hi his hc => absurd hc (by omega)
  | f + 1 => settle_step (settle_any f)
set_option maxHeartbeats 4000000 in
theorem pclose_any {B : Int} (h : PIn H S w U T s) (g : GoodP s [] B) (hB : B ≤ 1000000) (id : Int) : Calls Tryz.prog 34 #[.pointer (some ⟨T, 0, none⟩), .int .i64 id] w (SideO (fun w' U' => PIn H S w' U' T (clI s id)) U w (.int .i64 (clIE s id : Nat))) := by
  obtain ⟨E, N, V, tag, h⟩ := h
  have FIN := hide (fun v : Value => Pto.side (v := v) (Pto.refl (show PIn H S w U T s from ⟨_, _, _, _, h⟩)))
  cases hI : isI s id with
  | false =>
    have F := hide (find21_no h hI)
    rw [show clIE s id = 4 from by unfold clIE; rw [if_neg (by rw [hI]; simp)], show clI s id = s from by unfold clI clIE; rw [if_neg (by rw [if_neg (by rw [hI]; simp)]; decide)]]
    clear h g hI
    go_enter Tryz.func34, Tryz.ntmps34
    go_wp2_with (go_at_call 74; refine F.out.mono ?_; rintro e w' ⟨rfl, rfl⟩)
    go_ret
    exact FIN.out _
  | true =>
    obtain ⟨i, rfl, hi, his⟩ := isI_yes hI
    obtain ⟨b, hb⟩ := h.there his
    have F := hide (find21_yes h hi hb)
    have co := h.cOpens hb
    by_cases h0 : (s.n i).opens = 0
    · rw [show clIE s (i : Int) = 4 from by unfold clIE; rw [Int.toNat_natCast, if_neg (by rw [h0]; simp)], show clI s (i : Int) = s from by unfold clI clIE; rw [if_neg (by rw [Int.toNat_natCast, if_neg (by rw [h0]; simp)]; decide)]]
      rw [h0] at co
      clear h g hI his hb h0
      go_enter Tryz.func34, Tryz.ntmps34
      go_wp2_with (go_at_call 74; refine F.out.mono ?_; rintro e w' ⟨rfl, rfl⟩)
      go_ret
      exact FIN.out _
    · have hE : clIE s (i : Int) = 0 := by unfold clIE; rw [Int.toNat_natCast, if_pos ⟨hI, h0⟩]
      rw [hE, show clI s (i : Int) = goneI 17 (s.put i { s.n i with opens := (s.n i).opens - 1 }) i from by unfold clI; rw [hE, Int.toNat_natCast]; rfl]
      have fz := (h.nd _ b hb).frz 2
      have hn := g.opn i
      have hg : GoodP (s.put i { s.n i with opens := (s.n i).opens - 1 }) [] B := by
        refine g.node (i := i) (x := { s.n i with opens := (s.n i).opens - 1 }) rfl hi (Int.le_refl _) (fun e => by subst e; exact g.root.2) his (g.file i) (g.ent i) (g.srt i) (g.few i) (fun e he => by cases he) (fun j => ?_) ⟨by show 0 ≤ (s.n i).opens - 1; omega, by show (s.n i).opens - 1 ≤ B; omega⟩ (g.lb i) (fun k => ?_) g.so
        · by_cases e2 : j = i
          · subst e2; rw [upd_same]
          · rw [upd_other _ _ e2]
        · show (getFi s.so.l k).isSome = true ↔ _
          rw [g.fil k]
          by_cases e2 : k = i
          · subst e2; rw [upd_same]
          · rw [upd_other _ _ e2]
      have IS := hide (show ((s.put i { s.n i with opens := (s.n i).opens - 1 }).n i).is = true from by show (upd s.n i _ i).is = true; rw [upd_same]; exact his)
      have OP := hide (h.opened hb ((s.n i).opens - 1) 0)
      obtain ⟨o, hoo⟩ : ∃ o, o = (s.n i).opens := ⟨_, rfl⟩
      rw [← hoo] at co h0 hn hg IS OP ⊢
      have o1 : 1 ≤ o := by omega
      have o2 : o ≤ 1000000 := by omega
      have ST := hide (settle_any 17 (w.setCell ⟨b, 2, none⟩ (.int .i64 (o - 1))) U _ [] B i ⟨E, N, V, tag, OP.out.1⟩ hg hi IS.out (show cntI (s.put i { s.n i with opens := o - 1 }) < 17 from by have := cntI_le (s.put i { s.n i with opens := o - 1 }); omega))
      have TC := hide (show Touch U w (w.setCell ⟨b, 2, none⟩ (.int .i64 (o - 1))) from OP.out.2.mono (fun k e => e ▸ h.un _ b hb))
      clear h g hE his hoo hg hn FIN IS OP hI hb
      go_enter Tryz.func34, Tryz.ntmps34
      go_wp2_with (first | (go_at_call 74; refine F.out.mono ?_; rintro e w' ⟨rfl, rfl⟩) | (go_at_call 75; refine ST.out.mono ?_; rintro e w2 ⟨rfl, r2⟩; have R2 := hide (Pto.step TC.out (fun k e => .inl e) r2); clear r2))
      go_ret
      exact Pto.side R2.out
end
end Go.Proofs.YtndfnglcichngaaGreatDoor
namespace Go.Proofs.YtndfnglcichngaaGreatDoor
open Go.ChangeShapes Go.WideShapes Go.ChangeAt Go.RowKit
set_option linter.unusedVariables false
set_option linter.unusedSimpArgs false
section
variable {w : World} {U : Nat → Prop} {H T S : Nat} {s : In} {E : Nat → Prop} {N : Nat → Option Nat} {V : Nat → Value} {tag : Nat → Int}
set_option maxHeartbeats 4000000 in
theorem pget_any (h : IpM w U H T S s E N V tag) (hf : ∀ i, (s.n i).l.length ≤ 8) (hz : ∀ i, (s.n i).dir = false → (s.n i).l = []) (id : Int) : Calls Tryz.prog 70 #[.pointer (some ⟨T, 0, none⟩), .int .i64 id] w fun e w' => e = .returned (gotI s id) ∧ Below w.heap.size w w' := by
  have A1 := hide (show ∀ o : Obj, Below w.heap.size w (w.alloc o) from fun o => (Below.refl _ _).alloc (Nat.le_refl _) o)
  cases e : isI s id with
  | false =>
    have F := hide (fun (W : World) (b : Below w.heap.size w W) => find21_no (h.below b) e)
    rw [show gotI s id = .tuple #[.agg #[.int .i64 0, .int .i64 0, .bool false, .int .i64 0], .bool false] from by unfold gotI; rw [e]; rfl]
    clear h hf hz e
    go_enter Tryz.func70, Tryz.ntmps70
    go_wp2_with (go_at_call 74; refine (F.out _ (A1.out _)).mono ?_; rintro e w' ⟨rfl, rfl⟩)
    refine bodyPost_ret (v := .tuple #[.agg #[.int .i64 0, .int .i64 0, .bool false, .int .i64 0], .bool false]) ?_ rfl ⟨rfl, ?_⟩
    · rw [results_cell_tmp rfl]
      go_simp
    · exact A1.out _
  | true =>
    obtain ⟨i, rfl, hi, his⟩ := isI_yes e
    obtain ⟨nb, hb⟩ := h.there his
    have F := hide (fun (W : World) (b : Below w.heap.size w W) => find21_yes (h.below b) hi hb)
    have NB := hide (h.lt nb (h.un i nb hb))
    obtain ⟨a, c, hv, hr, -, -, -⟩ := h.list i
    obtain ⟨n, hn⟩ : ∃ n, n = (s.n i).l.length := ⟨_, rfl⟩
    obtain ⟨y, hy⟩ : ∃ y, y = s.n i := ⟨_, rfl⟩
    have N8 := hide (hf i)
    rw [← hn] at hv N8
    have GOT := hide (show gotI s (i : Int) = .tuple #[.agg #[.int .i64 (i : Int), .int .i64 y.links, .bool y.dir, .int .i64 (if y.dir then (n : Int) else ((lenO (getFi s.so.l i) : Nat) : Int))], .bool true] from by
      unfold gotI gtSz
      rw [e, if_pos rfl, Int.toNat_natCast, ← hy]
      rw [hn, ← hy]
      cases y.dir <;> rfl)
    rw [← hy] at hn
    have cells := hide (fun (W : World) (b : Below w.heap.size w W) => show W.cell? ⟨nb, 0, none⟩ = some (.bool y.dir) ∧ W.cell? ⟨nb, 1, none⟩ = some (.int .i64 y.links) ∧ W.cell? ⟨nb, 3, none⟩ = some (.slice a n c) ∧ W.cell? ⟨T, 0, none⟩ = some (.pointer (some ⟨S, 0, none⟩)) from
      hy ▸ hv ▸ ⟨(h.below b).cDir hb, (h.below b).cLinks hb, (h.below b).cList hb, (h.below b).c0⟩)
    have SZ := hide (fun (W : World) (b : Below w.heap.size w W) => psz_any (h.below b).so (wf_16 hi))
    have LT := hide (h.lt T h.ut)
    clear h hf hz hv hr hn hy e his hb
    go_enter Tryz.func70, Tryz.ntmps70
    go_upto_region 1 with fail
    have bb := hide (A1.out (.cells #[.int .i64 0, .int .i64 0, .bool false, .int .i64 0] 54))
    obtain ⟨d1, d2, d3, d0⟩ := cells.out _ bb.out
    have SZ2 := hide (SZ.out _ bb.out)
    have F2 := hide (F.out _ bb.out)
    obtain ⟨z, hz⟩ : ∃ z, z = lenO (getFi s.so.l i) := ⟨_, rfl⟩
    rw [← hz] at SZ2 GOT
    obtain ⟨te, hte⟩ : ∃ z, z = thE s.so i := ⟨_, rfl⟩
    rw [← hte] at SZ2
    clear hz hte SZ F cells
    cases hd : y.dir with
    | true =>
      rw [hd] at GOT d1
      go_upto_region 7 with (go_at_call 74; refine F2.out.mono ?_; rintro e w' ⟨rfl, rfl⟩)
      go_region
      go_wp2_with fail
      refine bodyPost_ret (v := .tuple #[.agg #[.int .i64 (i : Int), .int .i64 y.links, .bool true, .int .i64 (n : Int)], .bool true]) ?_ rfl ⟨by rw [GOT.out]; rfl, ?_⟩
      · rw [results_cell_tmp rfl]
        go_simp
      · exact below_drewN (A1.out _) 1
    | false =>
      rw [hd] at GOT d1
      go_upto_region 7 with (first | (go_at_call 74; refine F2.out.mono ?_; rintro e w' ⟨rfl, rfl⟩) | (go_at_call 35; refine SZ2.out.mono ?_; rintro e w' ⟨rfl, rfl⟩))
      go_region
      go_wp2_with fail
      refine bodyPost_ret (v := .tuple #[.agg #[.int .i64 (i : Int), .int .i64 y.links, .bool false, .int .i64 (z : Int)], .bool true]) ?_ rfl ⟨by rw [GOT.out]; rfl, ?_⟩
      · rw [results_cell_tmp rfl]
        go_simp
      · exact below_drewN (A1.out _) 1
def isP (s : In) (k : Nat) : Nat := if (s.n k).is then 1 else 0
/-- The cells of the sixteen nodes. -/
def ptrs (N : Nat → Option Nat) : List Value := (List.range 16).map fun k => ptrV (N k)
theorem ptrs_at (N : Nat → Option Nat) {k : Nat} (h : k < 16) : (ptrs N)[k]? = some (ptrV (N k)) := by
  unfold ptrs; rw [List.getElem?_map, List.getElem?_range h]; rfl
theorem run_index_ptr {P : Program} (w : World) {t e : TypeId} {n : Nat} {i : TypeInfo} (ht : P.underlying t = some (.array n e)) (hk : ∀ w, (isAgg e).run P w = .ok false w) (hi : P.info? e = some i) (h1 : P.cellsOf e = 1)
    {cs : Array Value} {j : Nat} (hj : j < n) {v : Value} (hv : cs[j]? = some v) (k : IntKind) : (Instr.index t (.agg cs) (.int k (j : Int))).run P w = .ok v w := by
  have hb : 0 ≤ (j : Int) ∧ (j : Int) < (n : Int) := by omega
  simp only [Instr.index, asIntOf, Sem.run_bind, Sem.run_pure, run_underlying ht, Result.andThen_ok, hb, and_self, if_true, run_sizeOf w hi, h1, Nat.mul_one, Int.toNat_natCast]
  simp [part, hk, hv]
theorem ptr_info : ∃ i, Tryz.prog.info? 96 = some i := by
  have h : (Tryz.prog.info? 96).isSome = true := by kernel_rfl
  exact Option.isSome_iff_exists.1 h
theorem ptrs_index (N : Nat → Option Nat) (j : Nat) (hj : j < 16) (w : World) : (Instr.index 97 (.agg (ptrs N).toArray) (.int .i64 (j : Int))).run Tryz.prog w = .ok (ptrV (N j)) w := by
  obtain ⟨i, hi⟩ := ptr_info
  exact run_index_ptr w Tryz.underlying97 Tryz.isAgg96 hi (by kernel_rfl) hj (by rw [List.getElem?_toArray]; exact ptrs_at N hj) .i64
theorem IpM.range (h : IpM w U H T S s E N V tag) : w.rangeAt T 1 (ptrs N) := fun j v hv => by
  have hj : j < 16 := by have := (List.getElem?_eq_some_iff.1 hv).1; simpa [ptrs] using this
  rw [ptrs_at N hj] at hv
  injection hv with hv
  rw [← hv]; exact h.cN hj
theorem ptrs_size : (Tryz.prog.info? 97).map (·.size) = some 16 := by kernel_rfl
theorem ptrs_len (N : Nat → Option Nat) : (ptrs N).length = 16 := by simp [ptrs]
set_option maxHeartbeats 4000000 in
theorem plen_any (h : IpM w U H T S s E N V tag) : Calls Tryz.prog 18 #[.pointer (some ⟨T, 0, none⟩)] w fun e w' => e = .returned (.int .i64 (cntI s : Nat)) ∧ w = w' := by
  have CS := hide (cntI_is s)
  have IX := hide (ptrs_index N)
  have LD := hide h.range
  have HIS := hide h.is
  have SZ := hide (show (Tryz.prog.info? 97).map (·.size) = some (ptrs N).length from by rw [ptrs_len]; exact ptrs_size)
  clear h
  go_enter Tryz.func18, Tryz.ntmps18
  go_wp2_with (refine wpList_load_mid rfl 97 (.tmp 10) rfl T 1 rfl (ptrs N) _ LD.out Tryz.underlying97 rfl SZ.out ?_)
  clear LD SZ
  generalize (ptrs N).toArray = TA at *
  go_loopw [3, 12] (fun nv iv wr => ∃ (k q : Nat), k ≤ 16 ∧ q ≤ 16 ∧ iv = .int .i64 (k : Int) ∧ nv = .int .i64 (q : Int) ∧ Hid (q = sumN (isN s) k) ∧ w = wr) (fun _ iv _ => 16 - (intOf iv).toNat)
  case atStart => exact ⟨0, 0, Nat.zero_le _, Nat.zero_le _, rfl, rfl, rfl, rfl⟩
  case round =>
    obtain ⟨k, q, hk, hq, rfl, rfl, hQ, rfl⟩ := hrel
    have k0 : (0 : Int) ≤ (k : Int) := by omega
    by_cases hlt : k < 16
    · have k1 : (k : Int) < 16 := by omega
      have ix := IX.out k hlt
      have NX := hide (show sumN (isN s) (k + 1) = q + isN s k from by rw [hQ.out]; rfl)
      have LE := hide (sumIs_le s (k + 1))
      cases hb : N k with
      | some b =>
        have N1 := hide (show isN s k = 1 from by unfold isN; rw [← HIS.out k, hb]; rfl)
        rw [hb] at ix
        have ix2 : ∀ w, (Instr.index 97 (.agg TA) (.int .i64 (k : Int))).run Tryz.prog w = .ok (.pointer (some ⟨b, 0, none⟩)) w := ix
        have q1 : (q : Int) ≤ 16 := by omega
        clear hb ix
        go_wp2_with fail
        go_roundw
        case rel => exact ⟨k + 1, q + 1, by omega, by have := NX.out; have := LE.out; have := N1.out; omega, by go_num, by go_num, by have := NX.out; have := N1.out; rw [this] at NX; exact NX.out.symm, by trivial⟩
        case measure => simp [intOf]; omega
      | none =>
        have N1 := hide (show isN s k = 0 from by unfold isN; rw [← HIS.out k, hb]; rfl)
        rw [hb] at ix
        have ix2 : ∀ w, (Instr.index 97 (.agg TA) (.int .i64 (k : Int))).run Tryz.prog w = .ok (.pointer none) w := ix
        clear hb ix
        go_wp2_with fail
        go_roundw
        case rel => exact ⟨k + 1, q, by omega, hq, by go_num, rfl, by have := NX.out; have := N1.out; rw [this] at NX; exact NX.out.symm, by trivial⟩
        case measure => simp [intOf]; omega
    · obtain rfl : k = 16 := by omega
      go_wp2_with fail
      go_ret
      rw [CS.out, ← hQ.out]
      exact ⟨rfl, by trivial⟩
end
end Go.Proofs.YtndfnglcichngaaGreatDoor
namespace Go.Proofs.YtndfnglcichngaaGreatDoor
open Go.ChangeShapes Go.WideShapes Go.ChangeAt Go.RowKit
set_option linter.unusedVariables false
set_option linter.unusedSimpArgs false
theorem ptab_first (w : World) (S : Nat) : RowI (w.alloc (.cells #[.pointer (some ⟨S, 0, none⟩), .pointer none, .pointer none, .pointer none, .pointer none, .pointer none, .pointer none, .pointer none, .pointer none, .pointer none, .pointer none, .pointer none, .pointer none, .pointer none, .pointer none, .pointer none, .pointer none] 99)) w.heap.size 17 99 (ptF S (fun _ => none)) := by
  unfold RowI
  rw [heap_alloc_new]
  rfl
theorem pnode_zero (w : World) (d : Bool) (z : Int) : RowI (w.alloc (.cells #[.bool d, .int .i64 0, .int .i64 z, .slice none 0 0] 134)) w.heap.size 4 134 (ndF ⟨true, d, 0, z, []⟩ (.slice none 0 0)) := by
  unfold RowI
  rw [heap_alloc_new]
  rfl
set_option maxRecDepth 20000 in
set_option maxHeartbeats 4000000 in
theorem pnew21_any {w : World} {H S n : Nat} {U : Nat → Prop} (h : PSo H w U S ⟨[], n⟩) : Calls Tryz.prog 72 #[.pointer (some ⟨S, 0, none⟩)] w fun e w' => ∃ T U', e = .returned (.pointer (some ⟨T, 0, none⟩)) ∧ PIn H S w' U' T (newI n) ∧ Below w.heap.size w w' ∧ ∀ i, U' i → U i ∨ w.heap.size ≤ i := by
  have HH := hide h
  clear h
  go_enter Tryz.func72, Tryz.ntmps72
  go_upto_region 4 with fail
  have R0 := ptab_first w S
  have bA := hide ((Below.refl w.heap.size w).alloc (Nat.le_refl _) (.cells #[.pointer (some ⟨S, 0, none⟩), .pointer none, .pointer none, .pointer none, .pointer none, .pointer none, .pointer none, .pointer none, .pointer none, .pointer none, .pointer none, .pointer none, .pointer none, .pointer none, .pointer none, .pointer none, .pointer none] 99))
  have sz := hide (show (w.alloc (.cells #[.pointer (some ⟨S, 0, none⟩), .pointer none, .pointer none, .pointer none, .pointer none, .pointer none, .pointer none, .pointer none, .pointer none, .pointer none, .pointer none, .pointer none, .pointer none, .pointer none, .pointer none, .pointer none, .pointer none] 99)).heap.size = w.heap.size + 1 from by simp)
  generalize w.alloc (.cells #[.pointer (some ⟨S, 0, none⟩), .pointer none, .pointer none, .pointer none, .pointer none, .pointer none, .pointer none, .pointer none, .pointer none, .pointer none, .pointer none, .pointer none, .pointer none, .pointer none, .pointer none, .pointer none, .pointer none] 99) = w1 at *
  have lt : ∀ i, U i → i < w.heap.size := (keepsPSo H).lt HH.out
  have M0 := hide (show IpM w1 (fun i => U i ∨ i = w.heap.size) H w.heap.size S ⟨fun _ => Nd.zero, ⟨[], n⟩⟩ U (fun _ => none) (fun _ => .slice none 0 0) (fun i => if i = w.heap.size then -1 else -2) from
    ⟨(keepsPSo H).below HH.out bA.out, R0, fun _ => rfl, (fun i b e => by cases e), fun i => World.ownsRow_nil _ _ _ _, if_pos rfl, fun i e => if_neg (by have := lt i e; omega), (fun i b e => by cases e), (fun i g e => by cases e), .inr rfl, fun i e => .inl e, (fun i b e => by cases e), (fun i g e => by cases e), fun i e => by have := sz.out; rcases e with e | e; (have := lt i e; omega); omega⟩)
  have x1 := R0.cell (k := 1) (by omega)
  have y1 := R0.frz 1
  obtain ⟨T, hT⟩ : ∃ T, T = w.heap.size := ⟨_, rfl⟩
  have ET := hide hT
  rw [← hT] at M0 x1 y1 ⊢
  have LA := hide (fun (o : Obj) => (Below.refl w1.heap.size w1).alloc (Nat.le_refl _) o)
  have NB := hide (pnode_zero w1 true 0)
  have LX := hide (M0.out.put_in (i := 0) (b := w1.heap.size) (y := ⟨true, true, 0, 0, []⟩) (by omega) rfl (Nat.le_refl _) (LA.out _) (by simp) NB.out rfl rfl)
  have x2 := ((LA.out (.cells #[.bool true, .int .i64 0, .int .i64 0, .slice none 0 0] 134)).cell (lt_of_cell? x1)).trans x1
  have y2 := ((LA.out (.cells #[.bool true, .int .i64 0, .int .i64 0, .slice none 0 0] 134)).block T (lt_of_cell? x1))
  have y3 : (w1.alloc (.cells #[.bool true, .int .i64 0, .int .i64 0, .slice none 0 0] 134)).frozen? ⟨T, 1, none⟩ = false := (M0.out.below (LA.out _)).row.frz 1
  have LT := hide (lt_of_cell? x1)
  clear x1 y1 R0 hT y2
  go_wp2_with fail
  go_ret
  have W := LX.out.1
  have sz2 := sz.out
  refine ⟨T, rfl, _, ⟨_, _, _, _, W⟩, ?_, fun i e => ?_⟩
  · exact bA.out.trans (LX.out.2.below (B := w.heap.size) (by omega) (fun k e => by rw [e, ET.out]; exact Nat.le_refl _))
  · rcases e with (e | e) | e
    · exact .inl e
    · exact .inr (by rw [e, ET.out]; exact Nat.le_refl _)
    · exact .inr (by rw [e, sz2]; omega)
end Go.Proofs.YtndfnglcichngaaGreatDoor
namespace Go.Proofs.YtndfnglcichngaaGreatDoor
open Go.ChangeShapes Go.WideShapes Go.ChangeAt Go.RowKit
set_option linter.unusedVariables false
set_option linter.unusedSimpArgs false
theorem freeI_first {s : In} {k : Nat} (h0 : 1 ≤ k) (hk : k < 16) (h : (s.n k).is = false) (hm : ∀ m, m < k → (s.n m).is = true) : freeI s = some k := by
  cases e : freeI s with
  | none =>
    have := freeA_none e k h0 (by omega)
    rw [h] at this; cases this
  | some j =>
    obtain ⟨h1, h2, h3, h4⟩ := freeA_is e
    rcases Nat.lt_trichotomy j k with c | c | c
    · have := hm j c; rw [h3] at this; cases this
    · rw [c]
    · have := h4 k h0 c; rw [h] at this; cases this
theorem freeI_not {s : In} (hm : ∀ m, m < 16 → (s.n m).is = true) : freeI s = none := by
  cases e : freeI s with
  | none => rfl
  | some j =>
    obtain ⟨h1, h2, h3⟩ := freeI_is e
    have := hm j h2; rw [h3] at this; cases this
section
variable {w : World} {U : Nat → Prop} {H T S : Nat} {s : In} {E : Nat → Prop} {N : Nat → Option Nat} {V : Nat → Value} {tag : Nat → Int}
set_option maxRecDepth 20000 in
theorem run_ptr_ne (w : World) (b : Nat) : (binOp .eql 96 (.pointer none) (.pointer (some ⟨b, 0, none⟩))).run Tryz.prog w = .ok (.bool false) w := by rfl
attribute [local go_sem] run_ptr_ne
def frI (s : In) : Int := match freeI s with
  | some k => (k : Int)
  | none => -1
set_option maxHeartbeats 4000000 in
theorem index21_any (h : IpM w U H T S s E N V tag) (hr : (s.n 0).is = true) : Calls Tryz.prog 136 #[.slice (some ⟨T, 1, none⟩) 16 16, .pointer none] w fun e w' => e = .returned (.int .i64 (frI s)) ∧ w = w' := by
  have HH := hide h
  have HR := hide hr
  clear h hr
  go_enter Tryz.func136, Tryz.ntmps136
  go_wp2_with fail
  go_loopw [8] (fun iv wr => ∃ k : Nat, k ≤ 16 ∧ iv = .int .i64 (k : Int) ∧ Hid (∀ m, m < k → (s.n m).is = true) ∧ w = wr) (fun iv _ => 16 - (intOf iv).toNat)
  case atStart => exact ⟨0, Nat.zero_le _, rfl, fun m hm => absurd hm (by omega), rfl⟩
  case round =>
    obtain ⟨k, hk, rfl, hA, rfl⟩ := hrel
    have k0 : (0 : Int) ≤ (k : Int) := by omega
    by_cases hlt : k < 16
    · have k1 : (k : Int) < 16 := by omega
      have ck := HH.out.cN hlt
      cases hb : N k with
      | none =>
        rw [hb] at ck
        have FR := hide (show frI s = (k : Int) from by
          have h0 : (s.n k).is = false := by rw [← HH.out.is k, hb]; rfl
          have : 1 ≤ k := by
            rcases Nat.eq_zero_or_pos k with e | e
            · rw [e, HR.out] at h0; cases h0
            · exact e
          unfold frI; rw [freeI_first this hlt h0 hA.out])
        have ck2 : w.cell? ⟨T, 1 + k, none⟩ = some (.pointer none) := ck
        clear hb ck
        go_wp2_with fail
        go_ret
        exact ⟨by rw [FR.out]; rfl, by trivial⟩
      | some b =>
        rw [hb] at ck
        have N1 := hide (show (s.n k).is = true from by rw [← HH.out.is k, hb]; rfl)
        have ck2 : w.cell? ⟨T, 1 + k, none⟩ = some (.pointer (some ⟨b, 0, none⟩)) := ck
        clear hb ck
        go_wp2_with fail
        go_roundw
        case rel => exact ⟨k + 1, by omega, by go_num, fun m hm => by
          rcases Nat.lt_or_ge m k with c | c
          · exact hA.out m c
          · obtain rfl : m = k := by omega
            exact N1.out, by trivial⟩
        case measure => simp [intOf]; omega
    · obtain rfl : k = 16 := by omega
      have FR := hide (show frI s = -1 from by unfold frI; rw [freeI_not hA.out])
      go_wp2_with fail
      go_ret
      exact ⟨by rw [FR.out]; rfl, by trivial⟩
set_option maxHeartbeats 8000000 in
theorem pmake_any {B : Int} (h : PIn H S w U T s) (g : GoodP s [] B) (d : Bool) : Calls Tryz.prog 123 #[.pointer (some ⟨T, 0, none⟩), .bool d] w (SideO (fun w' U' => PIn H S w' U' T (mkI s d)) U w (.tuple #[.int .i64 (mkII s : Nat), .int .i64 (mkIE s : Nat)])) := by
  obtain ⟨E, N, V, tag, h⟩ := h
  have IX := hide (index21_any h g.root.1)
  cases hf : freeI s with
  | none =>
    have FIN := hide (fun v : Value => Pto.side (v := v) (Pto.refl (show PIn H S w U T s from ⟨_, _, _, _, h⟩)))
    rw [show mkII s = 0 from by unfold mkII; rw [hf]; rfl, show mkIE s = 15 from by unfold mkIE; rw [hf]; rfl, show mkI s d = s from by unfold mkI; rw [hf]]
    rw [show frI s = -1 from by unfold frI; rw [hf]] at IX
    clear h g hf
    go_enter Tryz.func123, Tryz.ntmps123
    go_wp2_with (go_at_call 136; refine IX.out.mono ?_; rintro e w' ⟨rfl, rfl⟩)
    go_ret2
    exact FIN.out _
  | some i =>
    obtain ⟨h1, hi, h3⟩ := freeI_is hf
    rw [show mkII s = i from by unfold mkII; rw [hf]; rfl, show mkIE s = 0 from by unfold mkIE; rw [hf]; rfl, show mkI s d = mkAt s d i from by unfold mkI; rw [hf]]
    rw [show frI s = (i : Int) from by unfold frI; rw [hf]] at IX
    have i0 : ¬ (i : Int) < 0 := by omega
    have i00 : (0 : Int) ≤ (i : Int) := by omega
    have i1 : (i : Int) < 16 := by omega
    have hN := h.gone h3
    have cz := h.cZ hi hN
    have A1 := hide (show ∀ o : Obj, Below w.heap.size w (w.alloc o) from fun o => (Below.refl _ _).alloc (Nat.le_refl _) o)
    have LX := hide (h.put_in (i := i) (b := w.heap.size) (y := ⟨true, d, 0, 1, []⟩) hi hN (Nat.le_refl _) (A1.out _) (by simp) (pnode_zero w d 1) rfl rfl)
    have cz2 := ((A1.out (.cells #[.bool d, .int .i64 0, .int .i64 1, .slice none 0 0] 134)).cell (lt_of_cell? cz)).trans cz
    have fz2 : (w.alloc (.cells #[.bool d, .int .i64 0, .int .i64 1, .slice none 0 0] 134)).frozen? ⟨T, 1 + i, none⟩ = false := (h.below (A1.out _)).row.frz _
    have UT := hide (show Touch U w ((w.alloc (.cells #[.bool d, .int .i64 0, .int .i64 1, .slice none 0 0] 134)).setCell ⟨T, 1 + i, none⟩ (.pointer (some ⟨w.heap.size, 0, none⟩))) from LX.out.2.mono (fun k e => e ▸ h.ut))
    obtain ⟨w2, hw2⟩ : ∃ w2, w2 = (w.alloc (.cells #[.bool d, .int .i64 0, .int .i64 1, .slice none 0 0] 134)).setCell ⟨T, 1 + i, none⟩ (.pointer (some ⟨w.heap.size, 0, none⟩)) := ⟨_, rfl⟩
    rw [← hw2] at LX UT
    have L1 := LX.out.1
    have P2 := hide (show Pto w w2 U H T S ⟨upd s.n i ⟨true, d, 0, 1, []⟩, s.so⟩ from ⟨_, ⟨_, _, _, _, L1⟩, UT.out, fun k e => e.imp id (fun e => by rw [e]; exact Nat.le_refl _)⟩)
    cases hd : d with
    | true =>
      rw [hd] at P2 cz2 fz2 hw2
      have FIN := hide (show Pto w w2 U H T S (mkAt s true i) from P2.out)
      clear h g hf hN L1 LX UT A1 hd P2 cz h1 h3
      go_enter Tryz.func123, Tryz.ntmps123
      go_upto_region 7 with (go_at_call 136; refine IX.out.mono ?_; rintro e w' ⟨rfl, rfl⟩)
      rw [← hw2]
      clear hw2 cz2 fz2
      go_wp2_with fail
      go_ret2
      exact Pto.side FIN.out
    | false =>
      rw [hd] at P2 cz2 fz2 hw2
      have c0 := L1.c0
      have hE : mkE s.so (i : Int) = 0 := by
        unfold mkE
        rw [if_neg i0]
        have := g.fil i
        cases e : getFi s.so.l i with
        | none => rfl
        | some o => rw [e, h3] at this; simp at this
      have MK := hide (show Calls Tryz.prog 137 #[.pointer (some ⟨S, 0, none⟩), .int .i64 (i : Int)] w2 (fun e w3 => e = .returned (.int .i64 0) ∧ Pto w w3 U H T S (mkAt s false i)) from by
        refine (pmk_any L1.so (wf_16 hi) (by show s.so.l.length < 1000000; have := g.sofew; omega)).mono ?_
        intro e w3 hS
        have hS' := L1.stored hS
        obtain ⟨rfl, U3, E3, tag3, h4, t4, u4⟩ := hS'
        rw [hd] at h4
        have P3 : PIn H S w3 U3 T (mkAt s false i) := ⟨E3, _, _, tag3, h4⟩
        refine ⟨by show Ending.returned (.int .i64 (mkE s.so (i : Int) : Nat)) = _; rw [hE]; rfl, Pto.step UT.out (fun k e => e.imp id (fun e => by rw [e]; exact Nat.le_refl _)) ⟨U3, P3, t4.mono (fun k e => L1.ue k e), u4⟩⟩)
      clear h g hf hN L1 LX UT A1 hd P2 cz h1 h3 hE
      go_enter Tryz.func123, Tryz.ntmps123
      go_upto_region 7 with (go_at_call 136; refine IX.out.mono ?_; rintro e w' ⟨rfl, rfl⟩)
      rw [← hw2]
      clear hw2 cz2 fz2
      go_wp2_with (go_at_call 137; refine MK.out.mono ?_; rintro e w3 ⟨rfl, r3⟩; have R3 := hide r3; clear r3)
      go_ret2
      exact Pto.side R3.out
end
end Go.Proofs.YtndfnglcichngaaGreatDoor
namespace Go.Proofs.YtndfnglcichngaaGreatDoor
set_option linter.unusedVariables false
set_option linter.unusedSimpArgs false
theorem walkL_is {s : In} {B : Int} (h : GoodP s [] B) : ∀ (l : List Txt) (id : Nat), id < 16 → (s.n id).is = true → (walkL s id l).2 = 0 → (walkL s id l).1 < 16 ∧ (s.n (walkL s id l).1).is = true
  | [], id, hi, his, _ => ⟨hi, his⟩
  | x :: l, id, hi, his, hw => by
    by_cases e : fiIE s id x = 0
    · have e1 : walkL s id (x :: l) = walkL s (fiII s id x) l := if_pos e
      rw [e1] at hw ⊢
      have q := named_is h e rfl
      exact walkL_is h l _ q.1 q.2.2.1 hw
    · rw [show walkL s id (x :: l) = (0, fiIE s id x) from if_neg e] at hw
      exact absurd hw e
theorem walkI_is {s : In} {B : Int} (h : GoodP s [] B) {t : Txt} (hw : (walkI s t).2 = 0) : (walkI s t).1 < 16 ∧ (s.n (walkI s t).1).is = true := by
  unfold walkI at hw ⊢
  split at hw
  · rename_i e
    rw [if_pos e]
    exact walkL_is h _ 0 (by omega) h.root.1 hw
  · rename_i e
    have := (splitT_range t).1
    exact absurd hw (by show ¬ (splitT t).2.toNat = 0; omega)
theorem walkI_isI {s : In} {B : Int} (h : GoodP s [] B) {t : Txt} (hw : (walkI s t).2 = 0) : isI s ((walkI s t).1 : Nat) = true := isI_of (walkI_is h hw).1 (walkI_is h hw).2
/-- What is not there, above what is there: a name that a directory lacks. -/
theorem walk_lacks {s : In} {t : Txt} (hp : (parI s t).2.2 = 0) (hw : (walkI s t).2 ≠ 0) : (walkI s t).2 = fiIE s (parI s t).1 (parI s t).2.1 := by
  unfold parI at hp ⊢
  split at hp
  · rename_i e
    rw [if_pos e]
    split at hp
    · rename_i e2
      rw [if_pos e2]
      obtain ⟨i, x, h1, h2, h3⟩ := par_walk e
      show _ = fiIE s (walkI s (parT t).1).1 (parT t).2.1
      rw [h2, h3 s]
      rw [h3 s] at e2
      have hI : walkI s t = walkL s 0 (i ++ [x]) := by unfold walkI; rw [h1, if_pos rfl]
      rw [hI] at hw ⊢
      rw [walkL_snoc, if_pos e2] at hw ⊢
      have hw : (if fiIE s (walkL s 0 i).1 x = 0 then (fiII s (walkL s 0 i).1 x, 0) else (0, fiIE s (walkL s 0 i).1 x)).2 ≠ 0 := hw
      show (if fiIE s (walkL s 0 i).1 x = 0 then (fiII s (walkL s 0 i).1 x, 0) else (0, fiIE s (walkL s 0 i).1 x)).2 = _
      split at hw
      · exact absurd rfl hw
      · rename_i e3; rw [if_neg e3]
    · rename_i e2; exact absurd hp e2
  · rename_i e
    have := (parT_range t).1
    exact absurd hp (by show ¬ (parT t).2.2.toNat = 0; omega)
theorem walk_lacks_dir {s : In} {t : Txt} (hp : (parI s t).2.2 = 0) (hw : (walkI s t).2 = 9) : dirI s (parI s t).1 = true ∧ fiIE s (parI s t).1 (parI s t).2.1 = 9 := by
  have h := walk_lacks hp (by rw [hw]; decide)
  rw [hw] at h
  refine ⟨?_, h.symm⟩
  cases e : dirI s (parI s t).1 with
  | true => rfl
  | false => unfold fiIE at h; rw [e] at h; cases h
/-- A node that is made changes no entry. -/
theorem mk_more {s : In} {d : Bool} (dd : Nat) (x : Txt) (h : fiIE s dd x = 0) : fiIE (mkI s d) dd x = 0 ∧ fiII (mkI s d) dd x = fiII s dd x := by
  obtain ⟨i, j, e, i16, iis, idir, hk, hk2⟩ := fi_dir h
  have e : dd = i := by omega
  subst e
  unfold mkI
  cases e : freeI s with
  | none => exact ⟨h, rfl⟩
  | some k =>
    have hk3 := (freeI_is e).2.2
    have hne : dd ≠ k := fun e2 => by rw [e2, hk3] at iis; cases iis
    have hn : (mkAt s d k).n dd = s.n dd := upd_other _ _ hne
    rw [hk2]
    exact fi_of i16 (by rw [hn]; exact iis) (by rw [hn]; exact idir) (by rw [hn]; exact hk)
/-- A file that is made is what its path names. -/
theorem walk_new {s : In} {t : Txt} {d : Bool} (hp : (parI s t).2.2 = 0) {id : Int} (he : enIE (mkI s d) (parI s t).1 (parI s t).2.1 id = 0) : ((walkI (enI (mkI s d) (parI s t).1 (parI s t).2.1 id) t).1 : Int) = id ∧ (walkI (enI (mkI s d) (parI s t).1 (parI s t).2.1 id) t).2 = 0 := by
  unfold parI at hp he ⊢
  split at hp
  · rename_i e
    rw [if_pos e] at he ⊢
    split at hp
    · rename_i e2
      rw [if_pos e2] at he ⊢
      obtain ⟨i, x, h1, h2, h3⟩ := par_walk e
      have he : enIE (mkI s d) (walkI s (parT t).1).1 (parT t).2.1 id = 0 := he
      show ((walkI (enI (mkI s d) (walkI s (parT t).1).1 (parT t).2.1 id) t).1 : Int) = id ∧ (walkI (enI (mkI s d) (walkI s (parT t).1).1 (parT t).2.1 id) t).2 = 0
      rw [h2, h3 s] at he ⊢
      rw [h3 s] at e2
      obtain ⟨f1, f2⟩ := en_find he
      have hW : walkL (enI (mkI s d) (walkL s 0 i).1 x id) 0 i = walkL s 0 i := walkL_more (fun d' t' hf => by
        have m := mk_more (d := d) d' t' hf
        have q := en_more he d' t' m.1
        exact ⟨q.1, q.2.trans m.2⟩) e2
      have := walkI_split (s := enI (mkI s d) (walkL s 0 i).1 x id) h1 (d := (walkL s 0 i).1) (by rw [hW]; exact Prod.ext rfl e2) f1 rfl
      rw [this]
      exact ⟨f2, rfl⟩
    · rename_i e2; exact absurd hp e2
  · rename_i e
    have := (parT_range t).1
    exact absurd hp (by show ¬ (parT t).2.2.toNat = 0; omega)
/-- A directory that was made and entered is closed. -/
theorem close_new {s : In} {d : Bool} (hm : mkIE s = 0) {p : Int} {x : Txt} : clIE (enI (mkI s d) p x (mkII s)) (mkII s) = 0 := by
  unfold mkIE at hm
  cases e : freeI s with
  | none => rw [e] at hm; cases hm
  | some i =>
    obtain ⟨h1, h2, h3⟩ := freeI_is e
    have hi : mkII s = i := by unfold mkII; rw [e]; rfl
    have hmk : mkI s d = mkAt s d i := by unfold mkI; rw [e]
    rw [hi, hmk]
    have hn : (mkAt s d i).n i = ⟨true, d, 0, 1, []⟩ := upd_same _ _ _
    have hz : ((enI (mkAt s d i) p x i).n i).is = true ∧ ((enI (mkAt s d i) p x i).n i).opens = 1 := by
      by_cases he : enIE (mkAt s d i) p x i = 0
      · obtain ⟨a, b, -, hb, -, -, -, -, -, -, -, hs, -⟩ := en_facts he
        have hb : i = b := by omega
        subst hb
        rw [hs]
        have q := inc_set_n (mkAt s d i) a i i (insL ((mkAt s d i).n a).l ⟨x, i⟩)
        rw [q.1, q.2.2.2.2, hn]
        exact ⟨rfl, rfl⟩
      · rw [enI_no he, hn]
        exact ⟨rfl, rfl⟩
    unfold clIE
    rw [isI_of h2 hz.1, Int.toNat_natCast, hz.2]
    rfl
theorem mkI_no {s : In} {d : Bool} (he : mkIE s ≠ 0) : mkI s d = s := by
  unfold mkIE at he
  unfold mkI
  cases e : freeI s with
  | none => rfl
  | some i => rw [e] at he; exact absurd rfl he
theorem mkII_lt (s : In) : mkII s < 16 := by
  unfold mkII
  cases e : freeI s with
  | none => show 0 < 16; omega
  | some i => exact (freeI_is e).2.1
/-- A node that is made and has a name. -/
def addI (s : In) (p : Int) (x : Txt) (d : Bool) : Nat × Nat × In :=
  if mkIE s ≠ 0 then (0, mkIE s, s)
  else if enIE (mkI s d) p x (mkII s) ≠ 0 then (0, enIE (mkI s d) p x (mkII s), clI (mkI s d) (mkII s))
  else (mkII s, 0, enI (mkI s d) p x (mkII s))
theorem newE_add {s : In} {t : Txt} (hw : (walkI s t).2 = 9) : newE s t = if (parI s t).2.2 ≠ 0 then (0, (parI s t).2.2, s) else addI s (parI s t).1 (parI s t).2.1 false := by
  unfold newE
  by_cases hp : (parI s t).2.2 ≠ 0
  · rw [if_pos hp, if_pos hp]
  · rw [if_neg hp, if_neg hp]
    have := (walk_lacks_dir (Classical.not_not.1 hp) hw).1
    rw [if_neg (by rw [this]; simp)]
    rfl
theorem fiIE_three (s : In) (d : Int) (x : Txt) : fiIE s d x = 0 ∨ fiIE s d x = 9 ∨ fiIE s d x = 11 := by
  unfold fiIE
  split
  · split
    · exact .inl rfl
    · exact .inr (.inl rfl)
  · exact .inr (.inr rfl)
/-- What makes a directory in a directory. -/
def mkdI (s : In) (p : Int) (x : Txt) : Nat × In :=
  if fiIE s p x = 0 then (10, s)
  else if fiIE s p x ≠ 9 then (fiIE s p x, s)
  else if (addI s p x true).2.1 ≠ 0 then ((addI s p x true).2.1, (addI s p x true).2.2)
  else (0, clI (addI s p x true).2.2 ((addI s p x true).1 : Nat))
theorem mkdV_add (s : In) (t : Txt) : mkdV s t = if (parI s t).2.2 ≠ 0 then ((parI s t).2.2, s) else mkdI s (parI s t).1 (parI s t).2.1 := by
  unfold mkdV
  by_cases hp : (parI s t).2.2 ≠ 0
  · rw [if_pos hp, if_pos hp]
  rw [if_neg hp, if_neg hp]
  unfold mkdI
  rcases fiIE_three s (parI s t).1 (parI s t).2.1 with e | e | e
  · rw [if_pos e, if_pos e]
  · rw [if_neg (show ¬ fiIE s (parI s t).1 (parI s t).2.1 = 0 by rw [e]; decide), if_neg (show ¬ fiIE s (parI s t).1 (parI s t).2.1 = 11 by rw [e]; decide)]
    rw [if_neg (show ¬ fiIE s (parI s t).1 (parI s t).2.1 = 0 by rw [e]; decide), if_neg (show ¬ fiIE s (parI s t).1 (parI s t).2.1 ≠ 9 by rw [e]; decide)]
    by_cases m : mkIE s ≠ 0
    · have ha : addI s (parI s t).1 (parI s t).2.1 true = (0, mkIE s, s) := if_pos m
      rw [if_pos m, ha]
      exact (if_pos m).symm
    · rw [if_neg m]
      by_cases n : enIE (mkI s true) (parI s t).1 (parI s t).2.1 (mkII s) ≠ 0
      · have ha : addI s (parI s t).1 (parI s t).2.1 true = (0, enIE (mkI s true) (parI s t).1 (parI s t).2.1 (mkII s), clI (mkI s true) (mkII s)) := by
          unfold addI; rw [if_neg m, if_pos n]
        rw [ha, enI_no n]
        exact (if_pos n).symm
      · have ha : addI s (parI s t).1 (parI s t).2.1 true = (mkII s, 0, enI (mkI s true) (parI s t).1 (parI s t).2.1 (mkII s)) := by
          unfold addI; rw [if_neg m, if_neg n]
        rw [ha, show enIE (mkI s true) (parI s t).1 (parI s t).2.1 (mkII s) = 0 from Classical.not_not.1 n]
        rfl
  · rw [if_neg (by rw [e]; decide), if_pos e, if_neg (by rw [e]; decide), if_pos (by rw [e]; decide), e]
/-- What takes an entry away. -/
def dropI (s : In) (p : Int) (x : Txt) (d : Bool) : Nat × In :=
  if fiIE s p x ≠ 0 then (fiIE s p x, s)
  else if dirI s (fiII s p x) = true ∧ d = false then (12, s)
  else if dirI s (fiII s p x) = false ∧ d = true then (11, s)
  else (rmIE s p x, rmI s p x)
theorem remV_drop (s : In) (t : Txt) (d : Bool) : remV s t d = if (parI s t).2.2 ≠ 0 then ((parI s t).2.2, s) else dropI s (parI s t).1 (parI s t).2.1 d := rfl
theorem addI_good {s : In} {B : Int} (h : GoodP s [] B) (p : Int) (x : Txt) (d : Bool) : GoodP (addI s p x d).2.2 [] B := by
  unfold addI
  split
  · exact h
  · split
    · exact ((h.mk_ d).cl _).1
    · exact ((h.mk_ d).en _ _ _).1
theorem addI_close {s : In} {p : Int} {x : Txt} {d : Bool} (h : (addI s p x d).2.1 = 0) : clIE (addI s p x d).2.2 ((addI s p x d).1 : Nat) = 0 := by
  unfold addI at h ⊢
  split at h
  · rename_i e; exact absurd h e
  · rename_i e
    rw [if_neg e]
    split at h
    · rename_i e2; exact absurd h e2
    · rename_i e2
      rw [if_neg e2]
      exact close_new (Classical.not_not.1 e)
theorem addI_walk {s : In} {t : Txt} {d : Bool} (hp : (parI s t).2.2 = 0) (h : (addI s (parI s t).1 (parI s t).2.1 d).2.1 = 0) : walkI (addI s (parI s t).1 (parI s t).2.1 d).2.2 t = ((addI s (parI s t).1 (parI s t).2.1 d).1, 0) := by
  unfold addI at h ⊢
  split at h
  · rename_i e; exact absurd h e
  · rename_i e
    rw [if_neg e]
    split at h
    · rename_i e2; exact absurd h e2
    · rename_i e2
      rw [if_neg e2]
      have q := walk_new hp (Classical.not_not.1 e2)
      exact Prod.ext (show (walkI (enI (mkI s d) (parI s t).1 (parI s t).2.1 (mkII s)) t).1 = mkII s from by have := q.1; omega) q.2
end Go.Proofs.YtndfnglcichngaaGreatDoor
namespace Go.Proofs.YtndfnglcichngaaGreatDoor
open Go.ChangeShapes Go.WideShapes Go.ChangeAt Go.RowKit
set_option linter.unusedVariables false
set_option linter.unusedSimpArgs false
def tX : Txt := [47, 120]
def nX1 : Nat → Nd := (opnV (newI 8) tX 1).2.2.n
def nX2 : Nat → Nd := (remV ⟨nX1, ⟨[], 8⟩⟩ tX false).2.n
def nX3 : Nat → Nd := (clI ⟨nX2, ⟨[], 8⟩⟩ 1).n
theorem one_open (N : Nat) : opnV (newI N) tX 1 = (1, 0, ⟨nX1, ⟨[⟨1, []⟩], N⟩⟩) := by kernel_rfl
theorem one_rem (so : So) : remV ⟨nX1, so⟩ tX false = (0, ⟨nX2, so⟩) := by kernel_rfl
theorem one_gone (so : So) : walkI ⟨nX2, so⟩ tX = (0, 9) := by kernel_rfl
theorem one_close (so : So) : clIE ⟨nX2, so⟩ 1 = 0 ∧ clI ⟨nX2, so⟩ 1 = ⟨nX3, drS so 1⟩ ∧ cntI ⟨nX3, drS so 1⟩ = 1 := ⟨by kernel_rfl, by kernel_rfl, by kernel_rfl⟩
theorem wrB_all (b : List Int) : wrB [] 0 b = b := by
  unfold wrB
  refine List.ext_getElem? fun j => ?_
  rw [List.getElem?_map]
  by_cases h : j < b.length
  · rw [List.getElem?_range (by simp; omega), List.getElem?_eq_getElem h]
    show some (wrAt [] 0 b j) = _
    unfold wrAt
    rw [if_pos ⟨Nat.zero_le _, by omega⟩, List.getD_eq_getElem?_getD, Nat.sub_zero, List.getElem?_eq_getElem h]; rfl
  · rw [List.getElem?_eq_none (by simp; omega), List.getElem?_eq_none (by omega)]; rfl
theorem one_wr {N : Nat} {b : List Int} (hN : 8 ≤ N) (hb : b.length ≤ 512) : wrE ⟨[⟨1, []⟩], N⟩ 1 0 b.length = 0 ∧ wrS ⟨[⟨1, []⟩], N⟩ 1 0 b = ⟨[⟨1, b⟩], N - blkN b.length⟩ := by
  have hk : blkN b.length ≤ 8 := by unfold blkN; omega
  have hn : needN 0 0 b.length = blkN b.length := by unfold needN blkN; simp
  have h0 : wrE ⟨[⟨1, []⟩], N⟩ 1 0 b.length = 0 := by
    unfold wrE
    show (if (some ([] : List Int)).isSome = true then (if (0 : Int) < 0 then 19 else if b.length = 0 then 0 else if 512 < (0 : Int) + b.length then 15 else if N < needN 0 0 b.length then 15 else 0) else 4) = 0
    rw [if_pos (show (some ([] : List Int)).isSome = true from rfl), if_neg (by omega), hn]
    split
    · rfl
    · rw [if_neg (by omega), if_neg (by omega)]
  refine ⟨h0, ?_⟩
  unfold wrS
  rw [h0]
  by_cases hz : b.length = 0
  · have : b = [] := List.length_eq_zero_iff.1 hz
    subst this
    rw [if_neg (by simp)]
    show (⟨[⟨1, []⟩], N⟩ : So) = ⟨[⟨1, []⟩], N - blkN 0⟩
    rw [show blkN 0 = 0 from by decide, Nat.sub_zero]
  · rw [if_pos ⟨rfl, hz⟩]
    show (⟨[⟨1, wrB [] 0 b⟩], N - needN 0 0 b.length⟩ : So) = _
    rw [wrB_all, hn]
theorem one_dr {N : Nat} {b : List Int} (hN : 8 ≤ N) (hb : b.length ≤ 512) : drS ⟨[⟨1, b⟩], N - blkN b.length⟩ 1 = ⟨[], N⟩ := by
  have hk : blkN b.length ≤ 8 := by unfold blkN; omega
  show (⟨[], N - blkN b.length + blkN b.length⟩ : So) = _
  rw [Nat.sub_add_cancel (by omega)]
end Go.Proofs.YtndfnglcichngaaGreatDoor
namespace Go.Proofs.YtndfnglcichngaaGreatDoor
open Go.ChangeShapes Go.WideShapes Go.ChangeAt Go.RowKit
set_option linter.unusedVariables false
set_option linter.unusedSimpArgs false
theorem split_one {p : Txt} (h : nameE p = 0) : splitT (47 :: p) = ([p], 0) := by
  obtain ⟨h1, h2, h3⟩ := nameE_ok h
  have hc : cutsA [] p = [p] := cutsA_piece [] p h3
  have hf : firstE [p] = 0 := by unfold firstE; rw [if_pos h]; rfl
  unfold splitT
  rw [if_neg (by simp), if_neg (by simp), if_neg (by simp [h1])]
  simp only [List.drop_succ_cons, List.drop_zero, hc, hf]
  rfl
theorem par_one {s : In} {p : Txt} (h : nameE p = 0) : parI s (47 :: p) = (0, p, 0) := by
  obtain ⟨h1, h2, h3⟩ := par_of (i := []) (x := p) (split_one h)
  unfold parI
  rw [if_pos h1, h3 s, h2]; rfl
theorem walk_one {s : In} {p : Txt} (h : nameE p = 0) : walkI s (47 :: p) = if fiIE s 0 p = 0 then (fiII s 0 p, 0) else (0, fiIE s 0 p) := by
  unfold walkI
  rw [split_one h]; rfl
/-- The root with these entries, file 1. -/
def nR (l : List Ent) (links opens : Int) : Nat → Nd := fun k => if k = 0 then ⟨true, true, 0, 0, l⟩ else if k = 1 then ⟨true, false, links, opens, []⟩ else Nd.zero
section
variable {l : List Ent} {links opens : Int} {so : So} {p q : Txt}
theorem nR_dir0 : dirI ⟨nR l links opens, so⟩ 0 = true := rfl
theorem nR_dir1 : dirI ⟨nR l links opens, so⟩ 1 = false := rfl
theorem nR_is1 : isI ⟨nR l links opens, so⟩ 1 = true := rfl
theorem nR_fiE (p : Txt) : fiIE ⟨nR l links opens, so⟩ 0 p = if (findL l p).isSome then 0 else 9 := rfl
theorem nR_fiI (p : Txt) : fiII ⟨nR l links opens, so⟩ 0 p = (findL l p).getD 0 := rfl
theorem nR_set (l' : List Ent) : setL ⟨nR l links opens, so⟩ 0 l' = ⟨nR l' links opens, so⟩ := by
  unfold setL In.put
  congr 1
  funext k
  unfold upd nR
  by_cases h : k = 0
  · rw [if_pos h, if_pos h]; rfl
  · rw [if_neg h, if_neg h]
    show (if k = 0 then _ else _) = _
    rw [if_neg h]
theorem nR_lnk (z : Int) : In.put ⟨nR l links opens, so⟩ 1 { (nR l links opens) 1 with links := z } = ⟨nR l z opens, so⟩ := by
  unfold In.put
  congr 1
  funext k
  unfold upd nR
  by_cases h : k = 1
  · subst h; rfl
  · rw [if_neg h]
    show (if k = 0 then _ else _) = _
    by_cases h0 : k = 0
    · rw [if_pos h0, if_pos h0]
    · rw [if_neg h0, if_neg h0, if_neg h, if_neg h]
theorem nR_en (hp : nameE p = 0) (hf : findL l p = none) (h8 : l.length < 8) : enIE ⟨nR l links opens, so⟩ 0 p 1 = 0 ∧ enI ⟨nR l links opens, so⟩ 0 p 1 = ⟨nR (insL l ⟨p, 1⟩) (links + 1) opens, so⟩ := by
  have h0 : enIE ⟨nR l links opens, so⟩ 0 p 1 = 0 := by
    unfold enIE
    rw [nR_dir0, if_neg (by decide), if_neg (by rw [hp]; simp), nR_is1, if_neg (by simp)]
    show (if (findL l p).isSome = true then 10 else if l.length = 8 then 15 else 0) = 0
    rw [hf, if_neg (by decide), if_neg (by omega)]
  refine ⟨h0, ?_⟩
  unfold enI
  rw [if_pos h0]
  show incL (setL ⟨nR l links opens, so⟩ 0 (insL l ⟨p, 1⟩)) 1 = _
  rw [nR_set]
  exact nR_lnk _
theorem ren_open (hp : nameE p = 0) (N : Nat) : opnV (newI N) (47 :: p) 1 = (1, 0, ⟨nR [⟨p, 1⟩] 1 1, ⟨[⟨1, []⟩], N⟩⟩) := by
  have e0 : newI N = ⟨upd (fun _ => Nd.zero) 0 ⟨true, true, 0, 0, []⟩, ⟨[], N⟩⟩ := rfl
  have hw : walkI (newI N) (47 :: p) = (0, 9) := by rw [walk_one hp]; rfl
  have hm : mkI (newI N) false = ⟨nR [] 0 1, ⟨[⟨1, []⟩], N⟩⟩ := by
    show (⟨upd (upd (fun _ => Nd.zero) 0 ⟨true, true, 0, 0, []⟩) 1 ⟨true, false, 0, 1, []⟩, mkS ⟨[], N⟩ 1⟩ : In) = _
    congr 1
    funext k
    unfold upd nR
    by_cases h1 : k = 1
    · subst h1; rfl
    · rw [if_neg h1]
      by_cases h0 : k = 0
      · rw [if_pos h0, if_pos h0]
      · rw [if_neg h0, if_neg h0, if_neg h1]
  have hE := nR_en (l := []) (links := 0) (opens := 1) (so := ⟨[⟨1, []⟩], N⟩) hp rfl (by decide)
  unfold opnV
  rw [if_neg (by decide), hw]
  show newE (newI N) (47 :: p) = _
  unfold newE
  rw [par_one hp, hm, show mkII (newI N) = 1 from rfl, show mkIE (newI N) = 0 from rfl, show dirI (newI N) (((0 : Nat), p, (0 : Nat)).1 : Int) = true from rfl]
  show (if enIE _ 0 p 1 ≠ 0 then _ else _) = _
  rw [if_neg (by rw [hE.1]; simp)]
  show (1, 0, enI _ 0 p 1) = _
  rw [hE.2]; rfl
theorem ren_link_same (hp : nameE p = 0) : (lnkV ⟨nR [⟨p, 1⟩] 1 1, so⟩ (47 :: p) (47 :: p)).1 = 10 := by
  have hf : findL [⟨p, 1⟩] p = some 1 := by unfold findL; rw [if_pos rfl]
  have hw : walkI ⟨nR [⟨p, 1⟩] 1 1, so⟩ (47 :: p) = (1, 0) := by rw [walk_one hp, nR_fiE, nR_fiI, hf]; rfl
  unfold lnkV
  rw [hw, par_one hp, if_neg (by simp), if_neg (show ¬ dirI (⟨nR [⟨p, 1⟩] 1 1, so⟩ : In) ((1 : Nat) : Int) = true from by rw [show dirI (⟨nR [⟨p, 1⟩] 1 1, so⟩ : In) ((1 : Nat) : Int) = false from rfl]; simp), if_neg (by simp)]
  show enIE (⟨nR [⟨p, 1⟩] 1 1, so⟩ : In) 0 p 1 = 10
  unfold enIE
  rw [nR_dir0, if_neg (by decide), if_neg (by rw [hp]; simp), nR_is1, if_neg (by simp)]
  show (if (findL [⟨p, 1⟩] p).isSome = true then 10 else _) = 10
  rw [hf]; rfl
theorem ren_link (hp : nameE p = 0) (hq : nameE q = 0) (hn : p ≠ q) : lnkV ⟨nR [⟨p, 1⟩] 1 1, so⟩ (47 :: p) (47 :: q) = (0, ⟨nR (insL [⟨p, 1⟩] ⟨q, 1⟩) 2 1, so⟩) := by
  have hf : findL [⟨p, 1⟩] p = some 1 := by unfold findL; rw [if_pos rfl]
  have hf2 : findL [⟨p, 1⟩] q = none := by unfold findL; rw [if_neg hn]; rfl
  have hw : walkI ⟨nR [⟨p, 1⟩] 1 1, so⟩ (47 :: p) = (1, 0) := by rw [walk_one hp, nR_fiE, nR_fiI, hf]; rfl
  have hE := nR_en (l := [⟨p, 1⟩]) (links := 1) (opens := 1) (so := so) hq hf2 (by show 1 < 8; omega)
  unfold lnkV
  rw [hw, par_one hq, if_neg (by simp), if_neg (show ¬ dirI (⟨nR [⟨p, 1⟩] 1 1, so⟩ : In) ((1 : Nat) : Int) = true from by rw [show dirI (⟨nR [⟨p, 1⟩] 1 1, so⟩ : In) ((1 : Nat) : Int) = false from rfl]; simp), if_neg (by simp)]
  show (enIE _ 0 q 1, enI _ 0 q 1) = _
  rw [hE.1, hE.2]; rfl
theorem ren_found (hn : p ≠ q) : findL (insL [⟨p, 1⟩] ⟨q, 1⟩) p = some 1 := by
  rw [findL_ins (by unfold findL; rw [if_neg hn]; rfl)]
  rw [if_neg (fun e => hn e.symm)]
  unfold findL; rw [if_pos rfl]
theorem ren_del (hn : p ≠ q) : delL (insL [⟨p, 1⟩] ⟨q, 1⟩) p = [⟨q, 1⟩] := by
  have h1 : (decide ((⟨p, 1⟩ : Ent).nm ≠ p)) = false := by simp
  have h2 : (decide ((⟨q, 1⟩ : Ent).nm ≠ p)) = true := by simp; exact fun e => hn e.symm
  unfold delL insL
  split
  · rw [List.filter_cons, h2, if_pos rfl, List.filter_cons, h1]; rfl
  · unfold insL; rw [List.filter_cons, h1, if_neg (by simp), List.filter_cons, h2]; rfl
theorem ren_rem (hp : nameE p = 0) (hn : p ≠ q) : remV ⟨nR (insL [⟨p, 1⟩] ⟨q, 1⟩) 2 1, so⟩ (47 :: p) false = (0, ⟨nR [⟨q, 1⟩] 1 1, so⟩) := by
  have hf := ren_found hn
  unfold remV
  rw [par_one hp]
  show (if fiIE _ 0 p ≠ 0 then _ else _) = _
  rw [nR_fiE, hf, if_neg (by simp)]
  rw [show fiII (⟨nR (insL [⟨p, 1⟩] ⟨q, 1⟩) 2 1, so⟩ : In) (((0 : Nat), p, (0 : Nat)).1 : Int) (((0 : Nat), p, (0 : Nat)).2.1) = 1 from by show fiII _ 0 p = 1; rw [nR_fiI, hf]; rfl]
  rw [if_neg (by rw [show dirI (⟨nR (insL [⟨p, 1⟩] ⟨q, 1⟩) 2 1, so⟩ : In) ((1 : Nat) : Int) = false from rfl]; simp), if_neg (by simp)]
  have h0 : rmIE ⟨nR (insL [⟨p, 1⟩] ⟨q, 1⟩) 2 1, so⟩ 0 p = 0 := by
    unfold rmIE
    rw [nR_fiE, hf, if_neg (by simp), nR_fiI, hf]
    rfl
  show (rmIE _ 0 p, rmI _ 0 p) = _
  unfold rmI
  rw [if_pos h0, nR_fiI, hf, h0]
  show (0, goneI 17 (decL (setL _ 0 (delL (insL [⟨p, 1⟩] ⟨q, 1⟩) p)) 1) 1) = _
  rw [ren_del hn, nR_set]
  show (0, goneI 17 (In.put _ 1 { (nR [⟨q, 1⟩] 2 1) 1 with links := 1 }) 1) = _
  rw [nR_lnk]; rfl
theorem ren_walk (hp : nameE p = 0) (hq : nameE q = 0) (hn : p ≠ q) : walkI ⟨nR [⟨q, 1⟩] 1 1, so⟩ (47 :: q) = (1, 0) ∧ walkI ⟨nR [⟨q, 1⟩] 1 1, so⟩ (47 :: p) = (0, 9) := by
  have hf : findL [⟨q, 1⟩] q = some 1 := by unfold findL; rw [if_pos rfl]
  have hf2 : findL [⟨q, 1⟩] p = none := by unfold findL; rw [if_neg (fun e => hn e.symm)]; rfl
  refine ⟨?_, ?_⟩
  · rw [walk_one hq, nR_fiE, nR_fiI, hf]; rfl
  · rw [walk_one hp, nR_fiE, hf2]; rfl
end
end Go.Proofs.YtndfnglcichngaaGreatDoor
namespace Go.Proofs.YtndfnglcichngaaGreatDoor
open Go.ChangeShapes Go.WideShapes Go.ChangeAt Go.RowKit
set_option linter.unusedVariables false
set_option linter.unusedSimpArgs false
structure Va where
  d : Int
  n : Int
  s : Txt
  t : Txt
  a : Option Addr
  l : Nat
  c : Nat
  b : List Int
def vaV (x : Va) : List Value := [.int .i64 x.d, .int .i64 x.n, .string (bt x.s), .string (bt x.t), .slice x.a x.l x.c]
theorem vaV_len (x : Va) : (vaV x).length = 5 := rfl
def VaWf (w : World) (x : Va) : Prop := (Lit.int .i64 x.d).wf = true ∧ (Lit.int .i64 x.n).wf = true ∧ x.s.length ≤ maxLen ∧ x.t.length ≤ maxLen ∧ CameIn .u8 w x.a x.l x.c x.b
section
variable {H : Type} {enc : TypeId × Value → H} {w : World} {base : Nat} {spare : Nat → Bool} {held : Bool}
theorem va_open (m : Nat) (cs : List Value) (x : DataW H × List MemPlace) (hl : cs.length = 5) (h : DataW.trod enc Tryz.prog w base spare held m 32 cs = some x) : ∃ o, cs = vaV o ∧ VaWf w o := by
  obtain ⟨d, e0, w0⟩ := field_int Tryz.underlying32 h 0 0 3 rfl Tryz.underlying3 (by kernel_rfl)
  obtain ⟨i, e1, w1⟩ := field_int Tryz.underlying32 h 1 1 3 rfl Tryz.underlying3 (by kernel_rfl)
  obtain ⟨s, e2, w2⟩ := field_text Tryz.underlying32 h 2 2 9 rfl Tryz.underlying9 (by kernel_rfl)
  obtain ⟨t, e3, w3⟩ := field_text Tryz.underlying32 h 3 3 9 rfl Tryz.underlying9 (by kernel_rfl)
  obtain ⟨m4, y4, h4⟩ := trod_field Tryz.underlying32 h 4 4 1 30 rfl (by kernel_rfl)
  obtain ⟨v, e4, w4⟩ := field_open (k := .row .u8) ⟨5, Tryz.underlying30, Tryz.underlying5, by kernel_rfl⟩ h4
  have hs := bt_size s.data.toList
  rw [bt_data] at hs
  have ht := bt_size t.data.toList
  rw [bt_data] at ht
  match v, w4 with
  | .num z, w4 => exact absurd w4 (fun h => h)
  | .row a l c ys, w4 =>
    refine ⟨⟨d, i, s.data.toList, t.data.toList, a, l, c, ys⟩, ?_, w0, w1, by show s.data.toList.length ≤ maxLen; omega, by show t.data.toList.length ≤ maxLen; omega, w4⟩
    match cs, hl with
    | [v0, v1, v2, v3, v4], _ =>
      simp at e0 e1 e2 e3 e4
      simp [vaV, e0, e1, e2, e3, e4, bt_data, FV.val]
end
theorem Reads.actV {w : World} {a : Option Addr} {n : Nat} {zs : List Va} (h : Reads 5 vaV w a n zs) {k : Nat} (hk : k < n) : ∃ x b off, zs[k]? = some x ∧ a = some ⟨b, off, none⟩ ∧ w.cell? ⟨b, off + k * 5, none⟩ = some (.int .i64 x.d) ∧ w.cell? ⟨b, off + k * 5 + 1, none⟩ = some (.int .i64 x.n) ∧ w.cell? ⟨b, off + k * 5 + 2, none⟩ = some (.string (bt x.s)) ∧ w.cell? ⟨b, off + k * 5 + 3, none⟩ = some (.string (bt x.t)) ∧ w.cell? ⟨b, off + k * 5 + 4, none⟩ = some (.slice x.a x.l x.c) := by
  obtain ⟨x, b, off, h1, h2, h3⟩ := h.at_ hk
  exact ⟨x, b, off, h1, h2, h3 0 _ rfl, h3 1 _ rfl, h3 2 _ rfl, h3 3 _ rfl, h3 4 _ rfl⟩
def VaFew (x : Va) : Prop := x.s.length ≤ 200 ∧ x.t.length ≤ 200 ∧ x.l ≤ 600
/-- What 'great' tells. -/
def GreatTells22 (zs : List Va) (n most : Nat) (e : Ending) : Prop := ∃ r : Bool, e = .returned (.bool r) ∧ (r = false → n ≤ most ∧ ∀ x ∈ zs, VaFew x)
set_option maxHeartbeats 1000000 in
theorem great22_any {w : World} {a : Option Addr} {n c : Nat} {zs : List Va} (h : Reads 5 vaV w a n zs) (hl : ∀ x ∈ zs, x.s.length ≤ maxLen ∧ x.t.length ≤ maxLen ∧ x.l ≤ maxLen) (hn : n ≤ maxLen) (most : Nat) (hm : most ≤ 1000) :
    Calls Tryz.prog 10 #[.slice a n c, .int .i64 (most : Int)] w fun e w' => GreatTells22 zs n most e ∧ w = w' := by
  have h63 : (n : Int) ≤ 9223372036854775807 := by unfold maxLen at hn; omega
  by_cases hle : n ≤ most
  · have hle' : (n : Int) ≤ (most : Int) := by omega
    have hgt : ¬ (most : Int) < (n : Int) := by omega
    have HA := hide h
    have NL := hide h.1
    have HL := hide hl
    clear h hl
    go_enter Tryz.func10, Tryz.ntmps10
    go_wp2_with fail
    go_loop [5] (fun i => ∃ k : Nat, k ≤ n ∧ i = .int .i64 (k : Int) ∧ Hid (∀ x ∈ zs.take k, VaFew x)) (fun i => n - (intOf i).toNat)
    case atStart => exact ⟨0, Nat.zero_le _, rfl, fun x hx => by simp at hx⟩
    case round =>
      obtain ⟨k, hk, rfl, hR⟩ := hrel
      by_cases hlt : k < n
      · obtain ⟨x, b, off, hx, rfl, -, -, c2, c3, c4⟩ := HA.out.actV hlt
        have k0 : (0 : Int) ≤ (k : Int) := by omega
        have k1 : (k : Int) < (n : Int) := by omega
        have bs := bt_size x.s
        have bt2 := bt_size x.t
        have bl := HL.out x (List.mem_of_getElem? hx)
        have bl1 := bl.1
        have bl2 := bl.2.1
        have bl3 := bl.2.2
        have HX := hide hx
        obtain ⟨y, hy⟩ : ∃ y, y = bt x.s := ⟨_, rfl⟩
        obtain ⟨y2, hy2⟩ : ∃ y, y = bt x.t := ⟨_, rfl⟩
        obtain ⟨z, hz⟩ : ∃ z, z = x.s.length := ⟨_, rfl⟩
        obtain ⟨z2, hz2⟩ : ∃ z, z = x.t.length := ⟨_, rfl⟩
        obtain ⟨z3, hz3⟩ : ∃ z, z = x.l := ⟨_, rfl⟩
        have HZ := hide (And.intro hz (And.intro hz2 hz3))
        rw [← hy] at c2 bs
        rw [← hy2] at c3 bt2
        rw [← hz] at bs bl1
        rw [← hz2] at bt2 bl2
        rw [← hz3] at c4 bl3
        have bb1 : (z : Int) ≤ 9223372036854775807 := by unfold maxLen at bl1; omega
        have bb2 : (z2 : Int) ≤ 9223372036854775807 := by unfold maxLen at bl2; omega
        have bb3 : (z3 : Int) ≤ 9223372036854775807 := by unfold maxLen at bl3; omega
        clear bl
        by_cases h1 : z ≤ 200
        · have h1' : ¬ (200 : Int) < (y.size : Int) := by omega
          by_cases h2 : z2 ≤ 200
          · have h2' : ¬ (200 : Int) < (y2.size : Int) := by omega
            by_cases h3 : z3 ≤ 600
            · have h3' : ¬ (600 : Int) < (z3 : Int) := by omega
              clear hx hy hy2 hz hz2 hz3
              go_wp2_with fail
              go_round
              case rel => exact ⟨k + 1, by omega, by go_num, fun x2 hx2 => by
                rw [List.take_add_one, HX.out] at hx2
                rcases List.mem_append.1 hx2 with h | h
                · exact hR.out x2 h
                · simp at h; subst h; exact ⟨by rw [← HZ.out.1]; exact h1, by rw [← HZ.out.2.1]; exact h2, by rw [← HZ.out.2.2]; exact h3⟩⟩
              case measure => simp [intOf]; omega
            · have h3' : (600 : Int) < (z3 : Int) := by omega
              clear hx hy hy2 hz hz2 hz3
              go_wp2_with fail
              go_ret
              exact ⟨⟨true, rfl, fun h => by cases h⟩, rfl⟩
          · have h2' : (200 : Int) < (y2.size : Int) := by omega
            clear hx hy hy2 hz hz2 hz3
            go_wp2_with fail
            go_ret
            exact ⟨⟨true, rfl, fun h => by cases h⟩, rfl⟩
        · have h1' : (200 : Int) < (y.size : Int) := by omega
          clear hx hy hy2 hz hz2 hz3
          go_wp2_with fail
          go_ret
          exact ⟨⟨true, rfl, fun h => by cases h⟩, rfl⟩
      · obtain rfl : k = n := by omega
        go_wp2_with fail
        go_ret
        exact ⟨⟨_, rfl, fun _ => ⟨hle, fun x hx => hR.out x (by rw [List.take_of_length_le (by rw [NL.out]; exact Nat.le_refl _)]; exact hx)⟩⟩, rfl⟩
  · have hle' : ¬ (n : Int) ≤ (most : Int) := by omega
    have hgt : (most : Int) < (n : Int) := by omega
    have hpos : (0 : Int) < (n : Int) := by omega
    clear h hl
    go_enter Tryz.func10, Tryz.ntmps10
    go_wp2_with fail
    go_loop [5] (fun i => i = .int .i64 0) (fun i => 0)
    case atStart => rfl
    case round =>
      subst hrel
      go_wp2_with fail
      go_ret
      exact ⟨⟨_, rfl, fun h => by simp at h⟩, rfl⟩
end Go.Proofs.YtndfnglcichngaaGreatDoor
