/-
  The walk of StoreFrames over the contracts of the program's store.
-/
import Derived.Test.YtipepklobpnbpaaSoGreat
import Derived.Test.YtipepklobpnbpaaSoDuo
import Derived.Deep.RegionHeld3
namespace Go.Proofs.Ytipepklobpnbpaa
open Go.ChangeShapes Go.WideShapes Go.ChangeAt Go.RowKit
set_option linter.unusedVariables false
set_option linter.unusedSimpArgs false
/-- How many frames files 0 to k - 1 have. -/
def upTo (l : List Fi) : Nat → Nat
  | 0 => 0
  | k + 1 => upTo l k + blkO (getFi l (k : Int))
def Ids4 (s : So) : Prop := ∀ x ∈ s.l, 0 ≤ x.id ∧ x.id < 4
theorem upTo_cons {x : Fi} {l : List Fi} (hx : x.id ∉ idsFi l) (k : Nat) : upTo (x :: l) k = upTo l k + (if 0 ≤ x.id ∧ x.id < (k : Int) then blkN x.b.length else 0) := by
  induction k with
  | zero => rw [if_neg (by omega)]; rfl
  | succ k ih =>
    show upTo (x :: l) k + blkO (getFi (x :: l) (k : Int)) = upTo l k + blkO (getFi l (k : Int)) + _
    rw [ih]
    have hg : getFi (x :: l) (k : Int) = if x.id = (k : Int) then some x.b else getFi l (k : Int) := rfl
    rw [hg]
    by_cases e : x.id = (k : Int)
    · have h1 : getFi l (k : Int) = none := by rw [← e]; exact getFi_none.2 hx
      have h2 : ¬ (0 ≤ x.id ∧ x.id < (k : Int)) := by omega
      have h3 : 0 ≤ x.id ∧ x.id < ((k + 1 : Nat) : Int) := by omega
      rw [if_pos e, if_neg h2, if_pos h3, h1]
      show upTo l k + 0 + blkN x.b.length = upTo l k + 0 + blkN x.b.length
      rfl
    · rw [if_neg e]
      by_cases e2 : 0 ≤ x.id ∧ x.id < (k : Int)
      · rw [if_pos e2, if_pos (show 0 ≤ x.id ∧ x.id < ((k + 1 : Nat) : Int) by omega)]; omega
      · rw [if_neg e2, if_neg (show ¬ (0 ≤ x.id ∧ x.id < ((k + 1 : Nat) : Int)) by omega)]; omega
theorem upTo_all : ∀ {l : List Fi}, (idsFi l).Nodup → (∀ x ∈ l, 0 ≤ x.id ∧ x.id < 4) → upTo l 4 = useFi l := by
  intro l
  induction l with
  | nil => intro _ _; rfl
  | cons x l ih =>
    intro hn h
    have hn2 : x.id ∉ idsFi l ∧ (idsFi l).Nodup := by simpa [idsFi] using hn
    rw [upTo_cons hn2.1, ih hn2.2 (fun y hy => h y (List.mem_cons_of_mem _ hy)), if_pos (show 0 ≤ x.id ∧ x.id < ((4 : Nat) : Int) from by have := h x (List.mem_cons_self ..); omega)]
    show useFi l + blkN x.b.length = blkN x.b.length + useFi l
    omega
theorem Ids4.mk_ {s : So} (h : Ids4 s) {id : Int} (h1 : id < 4) : Ids4 (mkS s id) := by
  unfold mkS
  split
  · rename_i e
    intro x hx
    rcases List.mem_append.1 hx with hx | hx
    · exact h x hx
    · simp at hx; subst hx
      refine ⟨?_, h1⟩
      show 0 ≤ id
      by_cases e0 : id < 0
      · unfold mkE at e; rw [if_pos e0] at e; omega
      · omega
  · exact h
theorem Ids4.dr {s : So} (h : Ids4 s) (id : Int) : Ids4 (drS s id) := fun x hx => h x ((del_sub s.l id).subset hx)
theorem Ids4.put {s : So} (h : Ids4 s) {id : Int} (b : List Int) (fr : Nat) : Ids4 ⟨putFi s.l id b, fr⟩ := by
  intro x hx
  rcases put_mem hx with hx | ⟨rfl, o, ho⟩
  · exact h x hx
  · have := h _ (getFi_mem ho); exact this
theorem Ids4.ct {s : So} (h : Ids4 s) (id : Int) : Ids4 (ctS s id) := h.put _ _
theorem Ids4.wr {s : So} (h : Ids4 s) (id off : Int) (b : List Int) : Ids4 (wrS s id off b) := by
  unfold wrS; split
  · exact h.put _ _
  · exact h
theorem blkO_len (o : Option (List Int)) : blkO o = blkN (lenO o) := by
  cases o with
  | none => show 0 = blkN 0; decide
  | some b => rfl
theorem upTo_mono (l : List Fi) {a b : Nat} (h : a ≤ b) : upTo l a ≤ upTo l b := by
  induction h with
  | refl => exact Nat.le_refl _
  | step _ ih => exact Nat.le_trans ih (Nat.le_add_right _ _)
theorem blk_div (z : Nat) (h : z ≤ 512) : ((z : Int) + 63).tdiv 64 = ((blkN z : Nat) : Int) := by
  rw [Int.tdiv_eq_ediv_of_nonneg (by omega)]
  unfold blkN
  omega
section
variable {PS : Nat → Rel So}
/-- A store, its frames all somewhere. -/
structure All12 (PS : Nat → Rel So) (w wr : World) (U : Nat → Prop) (H S : Nat) (s : So) (k : Nat) : Prop where
  one : OneO (PS H) w wr U [] S s
  held : Held20 12 s
  ids : Ids4 s
  len : s.l.length ≤ k
set_option maxRecDepth 10000 in
set_option maxHeartbeats 4000000 in
theorem walk_storeFramesC (C : PStore PS) (w : World) (a : Option Addr) (n c : Nat) (zs : List (List FV)) (hin : CameMix AK w a n c zs) : Calls Try.prog 5 #[.slice a n c] w fun e w' => e = .returned (.bool true) ∧ Below w.heap.size w w' := by
  have hn : n ≤ maxLen := Nat.le_trans hin.2.1 hin.2.2.1
  have HA := hide (acts_open hin)
  clear hin
  go_enter Try.func5, Try.ntmps5
  go_wp2_with fail
  go_at_call 9
  refine (great20_any HA.out hn 80 (by omega)).mono ?_
  rintro e w' ⟨⟨r, rfl, hr⟩, rfl⟩
  cases r with
  | true =>
    clear hr
    go_wp2_with (go_at_call 10; refine (soawake_any C _).mono ?_; rintro e w' ⟨rfl, hb⟩)
    go_ret
    exact ⟨rfl, hb⟩
  | false =>
    have h80 := (hr rfl).1
    have HA2 := hide (hr rfl).2
    clear hr HA hn
    go_wp2_with fail
    go_at_call 12
    refine (new_ok _ 12 (by omega) (by omega)).mono ?_
    rintro e w1 ⟨H, A, Q, rfl, f1, b1, hb⟩
    have F1 := hide f1
    have B1 := hide b1
    have HB := hide hb
    clear f1 b1 hb
    go_wp2_with fail
    go_at_call 14
    refine (C.new F1.out).mono ?_
    rintro e w2 ⟨S, U, rfl, p2, b2, hU⟩
    have P2 := hide (one_store C B1.out HB.out p2 b2 hU)
    clear p2 b2 hU F1 B1 HB
    go_wp2_with fail
    go_loopw [6] (fun i wr => ∃ (k : Nat) (s : So) (U : Nat → Prop), k ≤ n ∧ i = .int .i64 (k : Int) ∧ Hid (All12 PS w wr U H S s k)) (fun i _ => n - (intOf i).toNat)
    case atStart => exact ⟨0, ⟨[], 12⟩, _, Nat.zero_le _, rfl, P2.out, rfl, fun x hx => absurd hx List.not_mem_nil, Nat.le_refl _⟩
    case round =>
      clear P2 U
      obtain ⟨k, s, U, hk, rfl, hT⟩ := hrel
      by_cases hlt : k < n
      · obtain ⟨ab, off, rfl, hall⟩ := HA2.out (by omega)
        obtain ⟨d, i, o, m, aa, l, c', ys, hact0, hl700⟩ := hall k hlt
        have HACT := hide hact0
        have hact := hact0.below hT.out.one.bel
        have k0 : (0 : Int) ≤ (k : Int) := by omega
        have k1 : (k : Int) < (n : Int) := by omega
        have c0 := hact.c0
        have c1 := hact.c1
        have c2 := hact.c2
        have c4 := hact.c4
        have SL := hide (show s.l.length < 1000000 from by have := hT.out.len; omega)
        have L7 := hide hl700
        clear hall hact0 hact hl700
        go_upto_block 2 with (go_at_call 11; refine (low_i i 4 wr (by decide) (by decide)).mono ?_; rintro e w3 ⟨⟨id, ⟨i0, i1⟩, rfl⟩, rfl⟩)
        have WI := hide (show (Lit.int .i64 id).wf = true from wf_i (by omega) (by omega))
        have I4 := hide (show 0 ≤ id ∧ id < 4 from ⟨i0, i1⟩)
        clear i0 i1
        go_cut [54] (fun v wx => ∃ (s : So) (U : Nat → Prop), Hid (All12 PS w wx U H S s (k + 1)))
        case first =>
          by_cases d0 : d = 0
          · subst d0
            go_wp2_with (go_at_call 16; refine (C.mak hT.out.one.ps WI.out SL.out).mono ?_; intro en w4 hs; obtain ⟨rfl, U4, q4, -⟩ := hT.out.one.side hs; have P4 := hide q4; clear hs q4)
            go_meet
            exact ⟨_, _, P4.out, hT.out.held.mk_ _, hT.out.ids.mk_ I4.out.2, by have := mkS_len s id; have := hT.out.len; omega⟩
          by_cases d1 : d = 1
          · subst d1
            go_wp2_with (go_at_call 18; refine (C.dr hT.out.one.ps WI.out).mono ?_; intro en w4 hs; obtain ⟨rfl, U4, q4, -⟩ := hT.out.one.side hs; have P4 := hide q4; clear hs q4)
            go_meet
            exact ⟨_, _, P4.out, hT.out.held.dr _, hT.out.ids.dr _, by have := drS_len s id; have := hT.out.len; omega⟩
          by_cases d4 : d = 4
          · subst d4
            go_wp2_with (go_at_call 28; refine (C.ct hT.out.one.ps WI.out).mono ?_; intro en w4 hs; obtain ⟨rfl, U4, q4, -⟩ := hT.out.one.side hs; have P4 := hide q4; clear hs q4)
            go_meet
            exact ⟨_, _, P4.out, hT.out.held.ct _, hT.out.ids.ct _, by have := ctS_len s id; have := hT.out.len; omega⟩
          have d0' : (d == 0) = false := by simp [d0]
          have d1' : (d == 1) = false := by simp [d1]
          have d4' : (d == 4) = false := by simp [d4]
          clear d0 d1 d4
          go_wp2_with fail
          go_region_held3 (fun w' => w'.cell? ⟨ab, off + k * 5 + 2, none⟩ = some (.int .i64 o) ∧ w'.cell? ⟨ab, off + k * 5 + 4, none⟩ = some (.slice aa l c')) (first | exact ⟨c2, c4⟩ | exact qq) (first
            | (go_at_call 11; refine (low_i o 600 _ (by decide) (by decide)).mono ?_; rintro e w3 ⟨⟨of_, ⟨o0, o1⟩, rfl⟩, rfl⟩; have WO := hide (show (Lit.int .i64 of_).wf = true from wf_i (by omega) (by omega)); clear o0 o1)
            | (go_at_call 25; have t := WO.out; clear t; refine (C.wrAny (hT.out.one.below (C.keeps H) (Below.refl wr.heap.size wr).drew).1 WI.out WO.out HACT.out.came (by have := L7.out; omega) rfl rfl).mono ?_; rintro en w4 ⟨rfl, U4, q4, -⟩; have qq := (show w4.cell? ⟨ab, off + k * 5 + 2, none⟩ = some (.int .i64 o) ∧ w4.cell? ⟨ab, off + k * 5 + 4, none⟩ = some (.slice aa l c') from ⟨(HACT.out.below q4.bel).c2, (HACT.out.below q4.bel).c4⟩); have P4 := hide q4; clear q4))
          go_wp2_with fail
          go_meet
          exact ⟨_, _, P4.out, hT.out.held.wr _ _ _, hT.out.ids.wr _ _ _, by have := wrS_len s id of_ ys; have := hT.out.len; omega⟩
        case rest =>
          clear hT c0 c1 c2 c4 SL L7 HACT WI I4
          clear s U
          obtain ⟨s, U, hT⟩ := hcut
          go_wp2_with (go_at_call 34; refine (C.free hT.out.one.ps).mono ?_; rintro e w4 ⟨rfl, rfl⟩)
          go_loopw [9, 8] (fun jv nv wx => ∃ j : Nat, j ≤ 4 ∧ jv = .int .i64 (j : Int) ∧ nv = .int .i64 ((s.fr + upTo s.l j : Nat) : Int) ∧ Hid (All12 PS w wx U H S s (k + 1))) (fun jv _ _ => 4 - (intOf jv).toNat)
          case atStart => exact ⟨0, Nat.zero_le _, rfl, rfl, hT⟩
          case round =>
            clear hT
            obtain ⟨j, hj, rfl, rfl, hT⟩ := hrel
            have U12 := hide (show s.fr + upTo s.l 4 = 12 from by
              rw [upTo_all (C.good hT.out.one.ps).nodup hT.out.ids]; exact hT.out.held)
            by_cases hj4 : j < 4
            · obtain ⟨z, hz⟩ : ∃ z, z = lenO (getFi s.l (j : Int)) := ⟨_, rfl⟩
              have z5 : z ≤ 512 := by
                rw [hz]
                cases e : getFi s.l (j : Int) with
                | none => exact Nat.zero_le _
                | some b => exact ((C.good hT.out.one.ps).old e).2.1
              have hb : blkO (getFi s.l (j : Int)) = blkN z := by rw [blkO_len, hz]
              obtain ⟨bz, hbz⟩ : ∃ bz, bz = blkN z := ⟨_, rfl⟩
              have HD := hide (show ((z : Int) + 63).tdiv 64 = (bz : Int) from by rw [hbz]; exact blk_div z z5)
              have BZ := hide (show bz ≤ 8 from by rw [hbz]; exact blkN_le z5)
              have UJ := hide (show upTo s.l (j + 1) = upTo s.l j + bz from by rw [hbz, ← hb]; rfl)
              have UB := hide (show s.fr + upTo s.l j ≤ 40 from by
                have h1 := U12.out
                have := upTo_mono s.l (show j ≤ 4 by omega)
                omega)
              have SZ := hide (fun (W : World) (h : PS H W U S s) => show Calls Try.prog 30 #[.pointer (some ⟨S, 0, none⟩), .int .i64 (j : Int)] W fun e w' => ∃ t : Nat, e = .returned (.tuple #[.int .i64 (z : Int), .int .i64 (t : Int)]) ∧ Below W.heap.size W w' from (C.sz h (wf_off (by omega))).mono fun e w' ⟨h1, h2⟩ => ⟨thE s (j : Int), by rw [h1, hz], h2⟩)
              have BK := hide (fun (W : World) (h : PS H W U S s) => show Calls Try.prog 32 #[.pointer (some ⟨S, 0, none⟩), .int .i64 (j : Int)] W fun e w' => e = .returned (.int .i64 (bz : Int)) ∧ Below W.heap.size W w' from (C.bk h (wf_off (by omega))).mono fun e w' ⟨h1, h2⟩ => ⟨by rw [h1, hb, hbz], h2⟩)
              clear hz hb hbz
              have j4 : (j : Int) < 4 := by omega
              have z5' : (z : Int) ≤ 512 := by omega
              obtain ⟨tot, htot⟩ : ∃ tot, tot = s.fr + upTo s.l j := ⟨_, rfl⟩
              rw [← htot] at UB ⊢
              have TB : (tot : Int) ≤ 40 := by have := UB.out; omega
              have BB : (bz : Int) ≤ 8 := by have := BZ.out; omega
              have HT := hide htot
              clear htot
              go_wp2_with fail
              go_at_call 30
              refine (SZ.out _ hT.out.one.ps).mono ?_
              rintro e w5 ⟨t5, rfl, b5⟩
              have P5 := hide (hT.out.one.below (C.keeps H) b5).1
              clear b5
              go_wp2_with fail
              go_at_call 32
              refine (BK.out _ P5.out.ps).mono ?_
              rintro e w6 ⟨rfl, b6⟩
              have P6 := hide (P5.out.below (C.keeps H) b6).1
              clear b6 P5
              have hd := HD.out
              have z8 : ¬ (512 : Int) < (z : Int) := by omega
              have g0 : ((bz : Int) != (bz : Int)) = false := by simp
              go_wp2_with fail
              go_at_call 32
              refine (BK.out _ P6.out.ps).mono ?_
              rintro e w7 ⟨rfl, b7⟩
              have P7 := hide (P6.out.below (C.keeps H) b7).1
              clear b7 P6 hd g0
              go_wp2_with fail
              go_roundw
              case rel =>
                exact ⟨j + 1, by omega, by go_num, ret_val (by have := UJ.out; have := HT.out; omega), P7.out, hT.out.held, hT.out.ids, hT.out.len⟩
              case measure => simp [intOf]; omega
            · obtain rfl : j = 4 := by omega
              have u12 := U12.out
              rw [u12]
              clear u12
              go_wp2_with fail
              go_roundw
              case rel => exact ⟨k + 1, s, U, by omega, by go_num, hT.out⟩
              case measure => simp [intOf]; omega
      · obtain rfl : k = n := by omega
        go_wp2_with (go_at_call 10; refine (soawake_any C _).mono ?_; rintro e w' ⟨rfl, hb⟩)
        go_ret
        exact ⟨rfl, hT.out.one.bel.trans (hb.mono hT.out.one.bel.size)⟩
end
end Go.Proofs.Ytipepklobpnbpaa
