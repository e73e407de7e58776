/-
  The walk of InodeNames.
-/
import Derived.Test.YtpghnhcjgjgglaaPa19
namespace Go.Proofs.Ytpghnhcjgjgglaa
open Go.ChangeShapes Go.WideShapes Go.ChangeAt Go.RowKit
set_option linter.unusedVariables false
set_option linter.unusedSimpArgs false
theorem incL_at (s : In) (i : Nat) : (incL s i).n i = { s.n i with links := (s.n i).links + 1 } := by unfold incL In.put; exact upd_same _ _ _
theorem incL_ne (s : In) {i k : Nat} (h : k ≠ i) : (incL s i).n k = s.n k := by unfold incL In.put; exact upd_other _ _ h
theorem decL_at (s : In) (i : Nat) : (decL s i).n i = { s.n i with links := (s.n i).links - 1 } := by unfold decL In.put; exact upd_same _ _ _
theorem decL_ne (s : In) {i k : Nat} (h : k ≠ i) : (decL s i).n k = s.n k := by unfold decL In.put; exact upd_other _ _ h
theorem setL_at (s : In) (i : Nat) (l : List Ent) : (setL s i l).n i = { s.n i with l := l } := by unfold setL In.put; exact upd_same _ _ _
theorem setL_ne (s : In) {i k : Nat} (l : List Ent) (h : k ≠ i) : (setL s i l).n k = s.n k := by unfold setL In.put; exact upd_other _ _ h
/-- Two tables that have gone different ways. -/
def Twin2 (PI : Nat → Nat → Rel In) (w wr : World) (U D : Nat → Prop) (X : List Nat) (H S R G T T2 : Nat) (s t : In) : Prop := TwoO (PI H S) (Rin R G) w wr U D X T T2 s t
theorem Twin2.ps {PI : Nat → Nat → Rel In} {w wr : World} {U D : Nat → Prop} {X : List Nat} {H S R G T T2 : Nat} {s t : In} (h : Twin2 PI w wr U D X H S R G T T2 s t) : PI H S wr U T s := TwoO.ps h
theorem Twin2.bel {PI : Nat → Nat → Rel In} {w wr : World} {U D : Nat → Prop} {X : List Nat} {H S R G T T2 : Nat} {s t : In} (h : Twin2 PI w wr U D X H S R G T T2 s t) : Below w.heap.size w wr := TwoO.bel h
/-- The root and a file, whose names the root's entries are. -/
structure Nms (s : In) (n : Nat) : Prop where
  good : GoodP s [] 1
  orph : NoOrph s 0
  len : (s.n 0).l.length = n
  one : ∀ e ∈ (s.n 0).l, e.id = 1
  file : (s.n 1).is = true ∧ (s.n 1).dir = false ∧ (s.n 1).opens = 1
  rest : ∀ k, 2 ≤ k → s.n k = Nd.zero
theorem sA1_nms : Nms sA1 0 := by
  have h : sA1 = mkAt (newI 8) false 1 := rfl
  refine ⟨(newI_good 8).mk_ false, (newI_orph 8).mk_ false, rfl, fun e he => ?_, ⟨rfl, rfl, rfl⟩, fun k hk => ?_⟩
  · have : (sA1.n 0).l = [] := rfl
    rw [this] at he; cases he
  · rw [h]
    show upd (newI 8).n 1 _ k = _
    rw [upd_other _ _ (by omega)]
    show upd (fun _ => Nd.zero) 0 _ k = _
    rw [upd_other _ _ (by omega)]
theorem Nms.links {s : In} {n : Nat} (h : Nms s n) : (s.n 1).links = (n : Int) := by
  have h1 := h.good.lnk 1
  rw [cntL_nil] at h1
  have hc : ∀ l : List Ent, (∀ e ∈ l, e.id = 1) → cntL l 1 = l.length := fun l hl => by
    unfold cntL
    exact List.countP_eq_length.2 fun e he => by simp [hl e he]
  have h2 : cntE s 1 = n := by
    unfold cntE
    have e0 : cntL (s.n 0).l 1 = n := by rw [hc _ h.one, h.len]
    have e1 : cntL (s.n 1).l 1 = 0 := by rw [h.good.file 1 h.file.2.1]; rfl
    have ek : ∀ k, 2 ≤ k → cntL (s.n k).l 1 = 0 := fun k hk => by rw [h.rest k hk]; rfl
    simp only [sumN, e0, e1, ek 2 (by omega), ek 3 (by omega), ek 4 (by omega), ek 5 (by omega), ek 6 (by omega), ek 7 (by omega), ek 8 (by omega), ek 9 (by omega), ek 10 (by omega), ek 11 (by omega), ek 12 (by omega), ek 13 (by omega), ek 14 (by omega), ek 15 (by omega)]
    omega
  rw [h1, h2, Nat.add_zero]
theorem Nms.enter {s : In} {n : Nat} (h : Nms s n) (t : Txt) : Nms (enI s 0 t 1) (if enIE s 0 t 1 = 0 then n + 1 else n) := by
  by_cases e : enIE s 0 t 1 = 0
  · rw [if_pos e]
    have hs : enI s 0 t 1 = incL (setL s 0 (insL (s.n 0).l ⟨t, 1⟩)) 1 := by unfold enI; rw [if_pos e]; rfl
    have h0 : (enI s 0 t 1).n 0 = { s.n 0 with l := insL (s.n 0).l ⟨t, 1⟩ } := by rw [hs, incL_ne _ (by decide), setL_at]
    have h1 : (enI s 0 t 1).n 1 = { s.n 1 with links := (s.n 1).links + 1 } := by rw [hs, incL_at, setL_ne _ _ (by decide)]
    refine ⟨(h.good.en 0 t 1).1, (h.good.en 0 t 1).2 h.orph, by rw [h0]; show (insL _ _).length = _; rw [insL_len, h.len], fun x hx => ?_, by rw [h1]; exact h.file, fun k hk => ?_⟩
    · rw [h0] at hx
      rcases insL_mem.1 hx with rfl | hx
      · rfl
      · exact h.one x hx
    · rw [hs, incL_ne _ (by omega), setL_ne _ _ (by omega)]; exact h.rest k hk
  · rw [if_neg e, show enI s 0 t 1 = s from by unfold enI; rw [if_neg e]]
    exact h
theorem pw_at {l : List Ent} (h : l.Pairwise fun a b => ltT a.nm b.nm = true) {i j : Nat} {x y : Ent} (hi : l[i]? = some x) (hj : l[j]? = some y) (hij : i < j) : ltT x.nm y.nm = true := by
  obtain ⟨h1, rfl⟩ := List.getElem?_eq_some_iff.1 hi
  obtain ⟨h2, rfl⟩ := List.getElem?_eq_some_iff.1 hj
  exact List.pairwise_iff_getElem.1 h i j h1 h2 hij
theorem findL_of {l : List Ent} (h : l.Pairwise fun a b => ltT a.nm b.nm = true) {i : Nat} {x : Ent} (hi : l[i]? = some x) : findL l x.nm = some x.id := by
  have hs : (findL l x.nm).isSome = true := by
    cases e : findL l x.nm with
    | some _ => rfl
    | none => exact absurd rfl (findL_none.1 e x (List.mem_of_getElem? hi))
  obtain ⟨j, hj⟩ := Option.isSome_iff_exists.1 hs
  obtain ⟨p, e, q, rfl, hnm, hid, hp⟩ := findL_some hj
  rw [hj, ← hid]
  congr 1
  have he : (p ++ e :: q)[p.length]? = some e := by simp
  rcases Nat.lt_trichotomy i p.length with k | k | k
  · exact absurd hnm (fun h' => ltT_ne (pw_at h hi he k) h'.symm)
  · rw [k, he] at hi; injection hi with hi; rw [hi]
  · exact absurd hnm (ltT_ne (pw_at h he hi k))
theorem Nms.find {s : In} {n i : Nat} {x : Ent} (h : Nms s n) (hi : (s.n 0).l[i]? = some x) : fiII s 0 x.nm = 1 ∧ fiIE s 0 x.nm = 0 := by
  have hd : dirI s 0 = true := by
    have := dirI_of (s := s) (i := 0) (by omega) h.good.root.1 h.good.root.2
    exact this
  unfold fiII fiIE
  rw [hd, show (0 : Int).toNat = 0 from rfl, findL_of (h.good.srt 0) hi]
  exact ⟨h.one x (List.mem_of_getElem? hi), rfl⟩
theorem Nms.remove {s : In} {n i : Nat} {x : Ent} (h : Nms s n) (hi : (s.n 0).l[i]? = some x) : rmIE s 0 x.nm = 0 ∧ fiIE (rmI s 0 x.nm) 0 x.nm = 9 ∧ gotI (rmI s 0 x.nm) 1 = .tuple #[.agg #[.int .i64 1, .int .i64 ((n : Int) - 1), .bool false, .int .i64 (gtSz (rmI s 0 x.nm) 1 : Nat)], .bool true] := by
  obtain ⟨f1, f2⟩ := h.find hi
  have hE : rmIE s 0 x.nm = 0 := by unfold rmIE; rw [if_neg (by simp [f2]), f1, if_neg (by rw [h.file.2.1]; simp)]
  have hs : rmI s 0 x.nm = decL (setL s 0 (delL (s.n 0).l x.nm)) 1 := by
    unfold rmI
    rw [if_pos hE, f1]
    refine if_pos (.inr (.inr ?_))
    show 0 < ((decL (setL s 0 (delL (s.n 0).l x.nm)) 1).n 1).opens
    rw [decL_at, setL_ne _ _ (by decide)]
    show 0 < (s.n 1).opens
    rw [h.file.2.2]; decide
  have h0 : (rmI s 0 x.nm).n 0 = { s.n 0 with l := delL (s.n 0).l x.nm } := by rw [hs, decL_ne _ (by decide), setL_at]
  have h1 : (rmI s 0 x.nm).n 1 = { s.n 1 with links := (s.n 1).links - 1 } := by rw [hs, decL_at, setL_ne _ _ (by decide)]
  refine ⟨hE, ?_, ?_⟩
  · have hd : dirI (rmI s 0 x.nm) 0 = true := by
      have := dirI_of (s := rmI s 0 x.nm) (i := 0) (by omega) (by rw [h0]; exact h.good.root.1) (by rw [h0]; exact h.good.root.2)
      exact this
    have hf : findL ((rmI s 0 x.nm).n 0).l x.nm = none := by
      rw [h0]
      refine findL_none.2 fun y hy => ?_
      have := (List.mem_filter.1 hy).2
      simpa using this
    unfold fiIE
    rw [hd, show (0 : Int).toNat = 0 from rfl, hf]; rfl
  · unfold gotI
    have hi1 : isI (rmI s 0 x.nm) 1 = true := by
      have := isI_of (s := rmI s 0 x.nm) (i := 1) (by omega) (by rw [h1]; exact h.file.1)
      exact this
    rw [hi1, if_pos rfl, show (1 : Int).toNat = 1 from rfl, h1, h.links, h.file.2.1]
section
variable {PS : Nat → Rel So} {PI : Nat → Nat → Rel In}
set_option maxRecDepth 100000 in
set_option maxHeartbeats 8000000 in
theorem walk_inodeNamesC (C : NewStore PS) (I : PInode PS PI) (w : World) (a : Option Addr) (n c : Nat) (zs : List Txt) (hin : Came 1 txVals TxWf w a n c zs) (gone : Int) (wg : (Lit.int .i64 gone).wf = true) :
    Calls Try.prog 5 #[.slice a n c, .int .i64 gone] w fun e w' => e = .returned (.bool true) ∧ Below w.heap.size w w' := by
  have hn : n ≤ maxLen := Nat.le_trans hin.2.1 hin.2.2.1
  have HR := hide hin.reads
  have WF := hide hin.2.2.2.2.1
  clear hin wg
  have h63 : (n : Int) ≤ 9223372036854775807 := by unfold maxLen at hn; omega
  by_cases h30 : 30 < n
  · have h1 : (30 : Int) < (n : Int) := by omega
    go_enter Try.func5, Try.ntmps5
    go_wp2_with (go_at_call 8; refine (awake21_any C I _).mono ?_; rintro e w' ⟨rfl, hb⟩)
    go_ret
    exact ⟨rfl, hb⟩
  have h1 : ¬ (30 : Int) < (n : Int) := by omega
  clear hn h63
  have MK := hide (fun (W : World) (H S T : Nat) (U : Nat → Prop) (h : PI H S W U T (newI 8)) => show Calls Try.prog 15 #[.pointer (some ⟨T, 0, none⟩), .bool false] W (SideO (fun w' U' => PI H S w' U' T sA1) U W (.tuple #[.int .i64 1, .int .i64 0])) from by
    have h := I.ma h (newI_good 8) (by decide) (newI_orph 8) false
    rw [show mkII (newI 8) = 1 from by decide +kernel, show mkIE (newI 8) = 0 from by decide +kernel] at h; exact h)
  go_enter Try.func5, Try.ntmps5
  go_wp2_with fail
  go_at_call 9
  refine (both21_any C I _).mono ?_
  rintro e w1 ⟨T, T2, H, S, R, G, U, D, rfl, t1⟩
  have T1 := hide t1
  clear t1
  have KP := hide (I.keeps H S)
  go_wp2_with (go_at_call 15; refine (MK.out _ _ _ _ _ T1.out.ps).mono ?_; intro en w2 hs; obtain ⟨rfl, U2, t2, -⟩ := T1.out.left KP.out (keepsRin R G) hs; have T2' := hide (show Twin2 PI w w2 U2 D [] H S R G T T2 sA1 (newI 8) from t2); clear hs t2)
  clear T1
  go_loopw [9, 10] (fun nv iv wr => ∃ (k m : Nat) (s : In) (U : Nat → Prop), k ≤ n ∧ m ≤ k ∧ iv = .int .i64 (k : Int) ∧ nv = .int .i64 (m : Int) ∧ Hid (Twin2 PI w wr U D [] H S R G T T2 s (newI 8) ∧ Nms s m)) (fun _ iv _ => n - (intOf iv).toNat)
  case atStart => exact ⟨0, 0, _, _, Nat.zero_le _, Nat.zero_le _, rfl, rfl, T2'.out, sA1_nms⟩
  case round =>
    clear T2' U2 U
    obtain ⟨k, m, s, U, hk, hm, rfl, rfl, hT⟩ := hrel
    have m30 : (m : Int) ≤ 30 := by omega
    by_cases hlt : k < n
    · have k0 : (0 : Int) ≤ (k : Int) := by omega
      have k1 : (k : Int) < (n : Int) := by omega
      obtain ⟨x, b, off, hx, rfl, c0⟩ := (HR.out.below hT.out.1.bel).text hlt
      have bs := bt_size x
      have AW := hide (fun (W : World) => awake21_any C I W)
      have BEL := hide hT.out.1.bel
      by_cases h100 : 100 < x.length
      · have q1 : (100 : Int) < ((bt x).size : Int) := by rw [bs]; omega
        clear bs h100 hx
        go_wp2_with (go_at_call 8; refine (AW.out _).mono ?_; rintro e w' ⟨rfl, hb⟩; have HB := hide hb; clear hb)
        go_ret
        exact ⟨rfl, BEL.out.trans (HB.out.mono BEL.out.size)⟩
      · have q1 : ¬ (100 : Int) < ((bt x).size : Int) := by rw [bs]; omega
        have NX := hide (hT.out.2.enter x)
        have EN := hide (I.en hT.out.1.ps hT.out.2.good (by decide) hT.out.2.orph 0 x 1 (by decide) (by decide) (by omega))
        have TL := hide (fun (s' : In) (v : Value) (e : Ending) (w' : World) (hs : SideO (fun w' U' => PI H S w' U' T s') U wr v e w') => TwoO.left KP.out (keepsRin R G) hT.out.1 hs)
        by_cases e0 : enIE s 0 x 1 = 0
        · rw [e0, if_pos rfl] at NX
          rw [e0] at EN
          obtain ⟨s2, hs2⟩ : ∃ z, z = enI s 0 x 1 := ⟨_, rfl⟩
          rw [← hs2] at NX EN
          clear bs h100 hx e0 hs2
          go_wp2_with (go_at_call 16; refine EN.out.mono ?_; intro en w4 hs; obtain ⟨rfl, U4, t4, -⟩ := TL.out _ _ _ _ hs; have T4 := hide (show Twin2 PI w w4 U4 D [] H S R G T T2 s2 (newI 8) from t4); clear hs t4)
          go_roundw
          case rel => exact ⟨k + 1, m + 1, _, _, by omega, by omega, by go_num, by go_num, T4.out, NX.out⟩
          case measure => simp [intOf]; omega
        · rw [if_neg e0] at NX
          obtain ⟨ev, hev⟩ : ∃ z, z = enIE s 0 x 1 := ⟨_, rfl⟩
          rw [← hev] at EN e0
          have e1 : ¬ (ev : Int) = 0 := by omega
          obtain ⟨s2, hs2⟩ : ∃ z, z = enI s 0 x 1 := ⟨_, rfl⟩
          rw [← hs2] at NX EN
          clear bs h100 hx e0 hs2 hev
          go_wp2_with (go_at_call 16; refine EN.out.mono ?_; intro en w4 hs; obtain ⟨rfl, U4, t4, -⟩ := TL.out _ _ _ _ hs; have T4 := hide (show Twin2 PI w w4 U4 D [] H S R G T T2 s2 (newI 8) from t4); clear hs t4)
          go_roundw
          case rel => exact ⟨k + 1, m, _, _, by omega, by omega, by go_num, rfl, T4.out, NX.out⟩
          case measure => simp [intOf]; omega
    · obtain rfl : k = n := by omega
      have NM := hide hT.out.2
      have TT := hide hT.out.1
      have AW := hide (fun (W : World) => awake21_any C I W)
      obtain ⟨l, hl⟩ : ∃ l, l = (s.n 0).l := ⟨_, rfl⟩
      have HL := hide hl
      have LN := hide (show l.length = m from by rw [hl]; exact NM.out.len)
      have M8 : (m : Int) ≤ 8 := by have := NM.out.good.few 0; rw [← hl, LN.out] at this; omega
      have m8 : ¬ (8 : Int) < (m : Int) := by omega
      have LS := hide (show Calls Try.prog 13 #[.pointer (some ⟨T, 0, none⟩), .int .i64 0] wr (fun e w' => ∃ v, e = .returned (.tuple #[v, .int .i64 0]) ∧ w'.ownsRow wr.heap.size 44 2 v m (l.flatMap enV) ∧ Below wr.heap.size wr w') from by
        have h := I.ls TT.out.ps NM.out.good 0 (by decide)
        have hd : dirI s 0 = true := dirI_of (s := s) (i := 0) (by omega) NM.out.good.root.1 NM.out.good.root.2
        rw [show lsIE s 0 = 0 from by unfold lsIE; rw [hd]; rfl, show lsI s 0 = l from by unfold lsI; rw [hd, hl]; rfl, LN.out] at h
        exact h)
      clear hT hl hlt hk
      go_upto_region 18 with (go_at_call 13; refine LS.out.mono ?_; rintro e w3 ⟨v3, rfl, o3, b3⟩; have O3 := hide o3; have B3 := hide b3; clear o3 b3)
      obtain ⟨a3, c3, rfl, r3, -, -, -⟩ := own_reads enV_len (by omega) O3.out
      have R3 := hide r3
      have T3 := hide (show Twin2 PI w w3 U D [] H S R G T T2 s (newI 8) from (TwoO.below KP.out (keepsRin R G) TT.out B3.out).1)
      have FI := hide (fun (W : World) (U : Nat → Prop) (h : PI H S W U T s) (i : Nat) (x : Ent) (hx : l[i]? = some x) => show Calls Try.prog 17 #[.pointer (some ⟨T, 0, none⟩), .int .i64 0, .string (bt x.nm)] W (fun e w' => e = .returned (.tuple #[.int .i64 1, .int .i64 0]) ∧ Below W.heap.size W w') from by
        have f := NM.out.find (i := i) (x := x) (by rw [← HL.out]; exact hx)
        have hl := NM.out.good.ent 0 x (by rw [← HL.out]; exact List.mem_of_getElem? hx)
        have h := I.fi h NM.out.good 0 x.nm (by decide) (by have := (nameE_ok hl.2.2).2.1; omega)
        rw [f.1, f.2] at h; exact h)
      have SR := hide (show l.Pairwise fun a b => ltT a.nm b.nm = true from by rw [HL.out]; exact NM.out.good.srt 0)
      clear r3 LS
      go_wp2_with fail
      go_loopw [13] (fun iv wr => ∃ k : Nat, k ≤ m ∧ iv = .int .i64 (k : Int) ∧ Hid (Below w3.heap.size w3 wr)) (fun iv _ => m - (intOf iv).toNat)
      case atStart => exact ⟨0, Nat.zero_le _, rfl, Below.refl _ _⟩
      case round =>
        obtain ⟨k, hk, rfl, hB⟩ := hrel
        rename World => wq
        have k0 : (0 : Int) ≤ (k : Int) := by omega
        by_cases hlt : k < m
        · have k1 : (k : Int) < (m : Int) := by omega
          obtain ⟨x, b, off, hx, rfl, c0, -⟩ := (R3.out.below hB.out).ent hlt
          have FD := hide (FI.out wq U (Twin2.ps (show Twin2 PI w wq U D [] H S R G T T2 s (newI 8) from (TwoO.below KP.out (keepsRin R G) T3.out hB.out).1)) k x hx)
          have HX := hide hx
          have RB := hide (fun (W : World) (bb : Below wq.heap.size wq W) => (R3.out.below hB.out).below bb)
          clear hx
          go_upto_region 24 with (go_at_call 17; refine FD.out.mono ?_; rintro e w5 ⟨rfl, b5⟩; have B5 := hide b5; clear b5)
          by_cases hk0 : k = 0
          · subst hk0
            clear c0
            go_quiet (fail)
            go_wp2_with fail
            go_roundw
            case rel => exact ⟨1, by omega, by go_num, below_drewN (hB.out.trans (B5.out.mono hB.out.size)) _⟩
            case measure => simp [intOf]; omega
          · obtain ⟨q, hq⟩ : ∃ q, q + 1 = k := ⟨k - 1, by omega⟩
            obtain ⟨y, b', off', hy, e', y0, -⟩ := (RB.out _ B5.out).ent (show q < m by omega)
            injection e' with e'
            injection e' with e1 e2 _
            subst e1 e2
            obtain ⟨x', b', off', hx', e', x0, -⟩ := (RB.out _ B5.out).ent hlt
            obtain rfl : x = x' := by have h := HX.out; rw [hx'] at h; injection h with h; exact h.symm
            injection e' with e'
            injection e' with e1 e2 _
            subst e1 e2
            have lt : Op.bytesLess (bt y.nm).toList (bt x.nm).toList = true := by rw [bt_list, bt_list]; exact pw_at SR.out hy hx' (by omega)
            have hq1 : (k : Int) - 1 = (q : Int) := by omega
            have hq2 : IntKind.i64.wrap ((k : Int) - 1) = (q : Int) := by rw [IntKind.wrap_i64]; omega
            have q0 : (0 : Int) ≤ (q : Int) := by omega
            have q1 : (q : Int) < (m : Int) := by omega
            have kp : (0 : Int) < (k : Int) := by omega
            have kp2 : 0 < k := by omega
            obtain ⟨n1, hn1⟩ : ∃ z, z = y.nm := ⟨_, rfl⟩
            obtain ⟨n2, hn2⟩ : ∃ z, z = x.nm := ⟨_, rfl⟩
            rw [← hn1] at y0 lt
            rw [← hn2] at x0 lt
            have HQ := hide hq
            clear c0 hy hx' hn1 hn2 hk0 hq
            go_quiet (fail)
            go_wp2_with fail
            go_roundw
            case rel => exact ⟨k + 1, by omega, by go_num, below_drewN (hB.out.trans (B5.out.mono hB.out.size)) _⟩
            case measure => simp [intOf]; omega
        · obtain rfl : k = m := by omega
          have TQ := hide (show Twin2 PI w wq U D [] H S R G T T2 s (newI 8) from (TwoO.below KP.out (keepsRin R G) T3.out hB.out).1)
          have BEL := hide TQ.out.bel
          clear hlt hk
          by_cases k00 : k = 0
          · subst k00
            go_wp2_with (go_at_call 8; refine (AW.out _).mono ?_; rintro e w' ⟨rfl, hb⟩; have HB := hide hb; clear hb)
            go_ret
            exact ⟨rfl, BEL.out.trans (HB.out.mono BEL.out.size)⟩
          · have kz : ¬ (k : Int) = 0 := by omega
            go_upto_region 29 with (go_at_call 18; refine (low_i gone (k : Int) _ (by omega) (by omega)).mono ?_; rintro e w' ⟨⟨r, ⟨r0, r1⟩, rfl⟩, rfl⟩)
            obtain ⟨j, rfl⟩ := Int.eq_ofNat_of_zero_le r0
            have hj : j < k := by omega
            obtain ⟨x, b, off, hx, rfl, c0, -⟩ := (R3.out.below hB.out).ent hj
            obtain ⟨a1, a2, a3⟩ := NM.out.remove (i := j) (x := x) (by rw [← HL.out]; exact hx)
            have hl2 := NM.out.good.ent 0 x (by rw [← HL.out]; exact List.mem_of_getElem? hx)
            have XL := hide (show x.nm.length ≤ 1000 from by have := (nameE_ok hl2.2.2).2.1; omega)
            have G2 := hide (NM.out.good.rm 0 x.nm).1
            have RM := hide (show Calls Try.prog 19 #[.pointer (some ⟨T, 0, none⟩), .int .i64 0, .string (bt x.nm)] wq (SideO (fun w' U' => PI H S w' U' T (rmI s 0 x.nm)) U wq (.int .i64 0)) from by
              have h := I.rm TQ.out.ps NM.out.good (by decide) NM.out.orph 0 x.nm (by decide) XL.out
              rw [a1] at h; exact h)
            have FN := hide (fun (W : World) (V : Nat → Prop) (h : PI H S W V T (rmI s 0 x.nm)) => show Calls Try.prog 17 #[.pointer (some ⟨T, 0, none⟩), .int .i64 0, .string (bt x.nm)] W (fun e w' => e = .returned (.tuple #[.int .i64 (fiII (rmI s 0 x.nm) 0 x.nm : Nat), .int .i64 9]) ∧ Below W.heap.size W w') from by
              have h := I.fi h G2.out 0 x.nm (by decide) XL.out
              rw [a2] at h; exact h)
            obtain ⟨sz, hsz⟩ : ∃ z, z = gtSz (rmI s 0 x.nm) 1 := ⟨_, rfl⟩
            rw [← hsz] at a3
            have GT := hide (fun (W : World) (V : Nat → Prop) (h : PI H S W V T (rmI s 0 x.nm)) => show Calls Try.prog 12 #[.pointer (some ⟨T, 0, none⟩), .int .i64 1] W (fun e w' => e = .returned (.tuple #[.agg #[.int .i64 1, .int .i64 ((k : Int) - 1), .bool false, .int .i64 (sz : Int)], .bool true]) ∧ Below W.heap.size W w') from by
              have h := I.gt h G2.out 1 (by decide)
              rw [a3] at h; exact h)
            have TL := hide (fun (s' : In) (v : Value) (e : Ending) (w' : World) (hs : SideO (fun w' U' => PI H S w' U' T s') U wq v e w') => TwoO.left KP.out (keepsRin R G) TQ.out hs)
            have FRE := hide (show ∀ i, (Value.slice (some ⟨b, off, none⟩) k c3).ownBlock = some i → ¬ U i from fun i hi => (TwoO.free KP.out (keepsRin R G) TT.out O3.out i hi).1)
            have RTO := hide (fun (W : World) (u : Touch U wq W) => (R3.out.below hB.out).touch u (fun b' o' e h => FRE.out b' (by rw [e]; rfl) h))
            have HX := hide hx
            obtain ⟨fi9, hfi9⟩ : ∃ z, z = fiII (rmI s 0 x.nm) 0 x.nm := ⟨_, rfl⟩
            rw [← hfi9] at FN
            obtain ⟨s2, hs2⟩ : ∃ z, z = rmI s 0 x.nm := ⟨_, rfl⟩
            rw [← hs2] at RM FN GT
            have gk : (((k : Int) - 1) == ((k : Int) - 1)) = true := by simp
            clear a1 a2 a3 hl2 hx hsz hfi9 hs2
            go_wp2_with (first
              | (go_at_call 19; refine RM.out.mono ?_; intro en w6 hs; obtain ⟨U6, -, u6, -⟩ := hs.2; obtain ⟨rfl, U7, t7, -⟩ := TL.out _ _ _ _ hs; have T6 := hide (show Twin2 PI w w6 U7 D [] H S R G T T2 s2 (newI 8) from t7); obtain ⟨x', b', off', hx', e', y0, -⟩ := (RTO.out _ u6).ent hj; obtain rfl : x = x' := (by have h := HX.out; rw [hx'] at h; injection h with h; exact h.symm); injection e' with e'; injection e' with e1 e2 _; subst e1 e2; clear hs t7 u6 hx')
              | (go_at_call 17; refine (FN.out _ _ T6.out.ps).mono ?_; rintro e w7 ⟨rfl, b7⟩; have T7 := hide (show Twin2 PI w w7 U7 D [] H S R G T T2 s2 (newI 8) from (TwoO.below KP.out (keepsRin R G) T6.out b7).1); clear b7)
              | (go_at_call 12; refine (GT.out _ _ T7.out.ps).mono ?_; rintro e w8 ⟨rfl, b8⟩; have T8 := hide (show Twin2 PI w w8 U7 D [] H S R G T T2 s2 (newI 8) from (TwoO.below KP.out (keepsRin R G) T7.out b8).1); have BA := hide ((Below.refl w8.heap.size w8).alloc (Nat.le_refl _) (.cells #[.int .i64 1, .int .i64 ((k : Int) - 1), .bool false, .int .i64 (sz : Int)] 35)); clear b8)
              | (go_at_call 8; refine (AW.out _).mono ?_; rintro e w9 ⟨rfl, hb⟩; have HB := hide hb; clear hb))
            go_ret
            have bl := T8.out.bel
            exact ⟨rfl, bl.trans ((BA.out.mono bl.size).trans (HB.out.mono (Nat.le_trans bl.size BA.out.size)))⟩
end
end Go.Proofs.Ytpghnhcjgjgglaa
