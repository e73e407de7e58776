/-
  The walk of StoreKeeps over the contracts of the program's store.
-/
import Derived.Test.YtipepklobpnbpaaSoGreat
import Derived.Test.YtipepklobpnbpaaSoDuo
import Derived.Deep.RegionHeld3
import Derived.Laws.Bits128
namespace Go.Proofs.Ytipepklobpnbpaa
open Go.ChangeShapes Go.WideShapes Go.ChangeAt Go.RowKit
set_option linter.unusedVariables false
set_option linter.unusedSimpArgs false
theorem i64_and1 (n : Int) : bits .and .i64 n 1 = n % 2 := by
  have h1 : (BitVec.ofInt 64 1).toNat = 2 ^ 1 - 1 := by decide
  have key : (BitVec.ofInt 64 n &&& BitVec.ofInt 64 1).toNat = (n % ((2 ^ 64 : Nat) : Int)).toNat % 2 ^ 1 := by
    rw [BitVec.toNat_and, BitVec.toNat_ofInt, h1, Nat.and_two_pow_sub_one_eq_mod]
  show IntKind.i64.wrap ((BitVec.ofInt 64 n &&& BitVec.ofInt 64 1).toNat : Nat) = n % 2
  rw [key, IntKind.wrap_i64]
  omega
/-- Files 1 and 2 are there. -/
def Has12 (s : So) : Prop := (∃ x, getFi s.l 1 = some x) ∧ ∃ y, getFi s.l 2 = some y
theorem wr_get (s : So) (id off : Int) (b : List Int) (k : Int) : (∃ y, getFi s.l k = some y) → ∃ y, getFi (wrS s id off b).l k = some y := by
  rintro ⟨y, hy⟩
  unfold wrS
  split
  · rename_i e
    obtain ⟨o, ho, _⟩ := wrE_ok e.1
    show ∃ y, getFi (putFi s.l id _) k = some y
    rw [getFi_put ho]
    split
    · exact ⟨_, rfl⟩
    · exact ⟨y, hy⟩
  · exact ⟨y, hy⟩
theorem Has12.wr {s : So} (h : Has12 s) (id off : Int) (b : List Int) : Has12 (wrS s id off b) := ⟨wr_get s id off b 1 h.1, wr_get s id off b 2 h.2⟩
theorem wr_other (s : So) (id off : Int) (b : List Int) {k : Int} (hk : k ≠ id) : getFi (wrS s id off b).l k = getFi s.l k := by
  unfold wrS
  split
  · rename_i e
    obtain ⟨o, ho, _⟩ := wrE_ok e.1
    show getFi (putFi s.l id _) k = _
    rw [getFi_put ho, if_neg hk]
  · rfl
theorem wr_code {s : So} {id off : Int} {m : Nat} {x : List Int} (hx : getFi s.l id = some x) (h0 : 0 ≤ off) : wrE s id off m = 0 ∨ wrE s id off m = 15 := by
  unfold wrE
  rw [hx, if_pos (show (some x).isSome = true from rfl), if_neg (by omega)]
  split
  · exact .inl rfl
  · split
    · exact .inr rfl
    · split
      · exact .inr rfl
      · exact .inl rfl
theorem wr_same {s : So} {id off : Int} {b : List Int} (h : wrE s id off b.length ≠ 0 ∨ b.length = 0) : wrS s id off b = s := by
  unfold wrS
  rw [if_neg (by rintro ⟨h1, h2⟩; rcases h with h | h <;> omega)]
theorem wr_done {s : So} {id off : Int} {b : List Int} {x : List Int} (hx : getFi s.l id = some x) (h : wrE s id off b.length = 0) (hb : b.length ≠ 0) : getFi (wrS s id off b).l id = some (wrB x off.toNat b) := by
  unfold wrS
  rw [if_pos ⟨h, hb⟩, hx]
  show getFi (putFi s.l id (wrB x off.toNat b)) id = _
  rw [getFi_put hx, if_pos rfl]
section
variable {PS : Nat → Rel So}
set_option maxRecDepth 10000 in
set_option maxHeartbeats 4000000 in
theorem walk_storeKeepsC (C : PStore PS) (w : World) (a : Option Addr) (n c : Nat) (zs : List (List FV)) (hin : CameMix AK w a n c zs) (off : Int) (wo : (Lit.int .i64 off).wf = true) (b : Option Addr) (m d : Nat) (ys : List Int) (hy : CameIn .u8 w b m d ys) :
    Calls Try.prog 4 #[.slice a n c, .int .i64 off, .slice b m d] w fun e w' => e = .returned (.bool true) ∧ Below w.heap.size w w' := by
  have hn : n ≤ maxLen := Nat.le_trans hin.2.1 hin.2.2.1
  have HA := hide (acts_open hin)
  have HY := hide hy
  clear hin wo hy
  by_cases hm : 700 < m
  case pos =>
    have m1 : (700 : Int) < (m : Int) := by omega
    clear hm
    go_enter Try.func4, Try.ntmps4
    go_wp2_with fail
    go_at_call 9
    refine (great20_any HA.out hn 40 (by omega)).mono ?_
    rintro e w' ⟨⟨r, rfl, hr⟩, rfl⟩
    clear hr
    cases r <;> (go_wp2_with (go_at_call 10; refine (soawake_any C _).mono ?_; rintro e w' ⟨rfl, hb⟩); go_ret; exact ⟨rfl, hb⟩)
  have m1 : ¬ (700 : Int) < (m : Int) := by omega
  have M7 := hide (show m ≤ 700 from by omega)
  clear hm
  go_enter Try.func4, Try.ntmps4
  go_wp2_with fail
  go_at_call 9
  refine (great20_any HA.out hn 40 (by omega)).mono ?_
  rintro e w' ⟨⟨r, rfl, hr⟩, rfl⟩
  cases r with
  | true =>
    clear hr
    go_wp2_with (go_at_call 10; refine (soawake_any C _).mono ?_; rintro e w' ⟨rfl, hb⟩)
    go_ret
    exact ⟨rfl, hb⟩
  | false =>
    have h40 := (hr rfl).1
    have HA2 := hide (hr rfl).2
    clear hr HA hn
    go_wp2_with fail
    go_at_call 12
    refine (new_ok _ 10 (by omega) (by omega)).mono ?_
    rintro e w1 ⟨H, A, Q, rfl, f1, b1, hb⟩
    have F1 := hide f1
    have B1 := hide b1
    have HB := hide hb
    clear f1 b1 hb
    go_wp2_with fail
    go_at_call 14
    refine (C.new F1.out).mono ?_
    rintro e w2 ⟨S, U, rfl, p2, b2, hU⟩
    have P2 := hide (one_store C B1.out HB.out p2 b2 hU)
    clear p2 b2 hU F1 B1 HB
    obtain ⟨e1, e2, e3, e4⟩ := duo_first 10
    have K1 := hide (show Calls Try.prog 16 #[.pointer (some ⟨S, 0, none⟩), .int .i64 1] w2 fun e w' => e = .returned (.int .i64 0) ∧ ∃ U', OneO (PS H) w w' U' [] S ⟨[⟨1, []⟩], 10⟩ from (C.mak P2.out.ps (by decide) (by decide)).mono fun e w' hs => by obtain ⟨rfl, U', q, -⟩ := P2.out.side hs; rw [e2] at q; exact ⟨rfl, U', q⟩)
    go_wp2_with fail
    go_at_call 16
    refine K1.out.mono ?_
    rintro en w3 ⟨rfl, U3, q3⟩
    have P3 := hide q3
    clear q3 P2 K1
    have K1 := hide (show Calls Try.prog 16 #[.pointer (some ⟨S, 0, none⟩), .int .i64 2] w3 fun e w' => e = .returned (.int .i64 0) ∧ ∃ U', OneO (PS H) w w' U' [] S (duo [] [] 10) from (C.mak P3.out.ps (by decide) (by decide)).mono fun e w' hs => by obtain ⟨rfl, U', q, -⟩ := P3.out.side hs; rw [e4] at q; exact ⟨rfl, U', q⟩)
    clear e1 e2 e3 e4
    go_wp2_with fail
    go_at_call 16
    refine K1.out.mono ?_
    rintro en w4 ⟨rfl, U4, q4⟩
    have P4 := hide q4
    clear q4 P3 K1
    go_wp2_with fail
    go_loopw [10] (fun i wr => ∃ (k : Nat) (s : So) (U : Nat → Prop), k ≤ n ∧ i = .int .i64 (k : Int) ∧ Hid (OneO (PS H) w wr U [] S s ∧ Has12 s)) (fun i _ => n - (intOf i).toNat)
    case atStart => exact ⟨0, _, _, Nat.zero_le _, rfl, P4.out, ⟨_, get1 _ _ _⟩, ⟨_, get2 _ _ _⟩⟩
    case round =>
      clear P4 U4 U3 U
      obtain ⟨k, s, U, hk, rfl, hT⟩ := hrel
      by_cases hlt : k < n
      · obtain ⟨ab, ao, rfl, hall⟩ := HA2.out (by omega)
        obtain ⟨dd, i, o, mm, aa, l, c', vs, hact0, hl700⟩ := hall k hlt
        have HACT := hide hact0
        have hact := hact0.below hT.out.1.bel
        have k0 : (0 : Int) ≤ (k : Int) := by omega
        have k1 : (k : Int) < (n : Int) := by omega
        have c1 := hact.c1
        have c2 := hact.c2
        have c4 := hact.c4
        have L7 := hide hl700
        obtain ⟨r, hr⟩ : ∃ r, r = i % 2 := ⟨_, rfl⟩
        have r0 : 0 ≤ r ∧ r < 2 := by omega
        have hand : bits .and .i64 i 1 = r := by rw [i64_and1, hr]
        have hw : IntKind.i64.wrap (1 + r) = 1 + r := by rw [IntKind.wrap_i64]; omega
        have WI := hide (show (Lit.int .i64 (1 + r)).wf = true from wf_i (by omega) (by omega))
        clear hr r0 hall hact0 hact hl700
        go_wp2_with fail
        go_region_held3 (fun w' => w'.cell? ⟨ab, ao + k * 5 + 1, none⟩ = some (.int .i64 i) ∧ w'.cell? ⟨ab, ao + k * 5 + 2, none⟩ = some (.int .i64 o) ∧ w'.cell? ⟨ab, ao + k * 5 + 4, none⟩ = some (.slice aa l c')) (first | exact ⟨c1, c2, c4⟩ | exact qq) (first
            | (go_at_call 11; refine (low_i o 300 _ (by decide) (by decide)).mono ?_; rintro e w5 ⟨⟨of_, ⟨o0, o1⟩, rfl⟩, rfl⟩; have WO := hide (show (Lit.int .i64 of_).wf = true from wf_i (by omega) (by omega)); clear o0 o1)
            | (go_at_call 25; have t := WO.out; clear t; refine (C.wrAny (hT.out.1.below (C.keeps H) (Below.refl wr.heap.size wr).drew).1 WI.out WO.out HACT.out.came (by have := L7.out; omega) rfl rfl).mono ?_; rintro en w6 ⟨rfl, U6, q6, -⟩; have qq := (show w6.cell? ⟨ab, ao + k * 5 + 1, none⟩ = some (.int .i64 i) ∧ w6.cell? ⟨ab, ao + k * 5 + 2, none⟩ = some (.int .i64 o) ∧ w6.cell? ⟨ab, ao + k * 5 + 4, none⟩ = some (.slice aa l c') from ⟨(HACT.out.below q6.bel).c1, (HACT.out.below q6.bel).c2, (HACT.out.below q6.bel).c4⟩); have P6 := hide q6; clear q6))
        go_wp2_with fail
        go_roundw
        case rel => exact ⟨k + 1, _, _, by omega, by go_num, P6.out, hT.out.2.wr _ _ _⟩
        case measure => simp [intOf]; omega
      · obtain rfl : k = n := by omega
        obtain ⟨⟨x, hx⟩, ⟨y, hy⟩⟩ := hT.out.2
        have HG := hide (C.good hT.out.1.ps)
        have HX := hide hx
        have HYY := hide hy
        clear hlt hk hx hy HA2
        go_wp2_with fail
        go_at_call 11
        refine (low_k off 600 wr 600 rfl (by decide) (by decide)).mono ?_
        rintro e w' ⟨⟨F, hF, rfl⟩, rfl⟩
        have FB := hide hF
        have LY := hide (show ys.length = m from HY.out.1.1)
        obtain ⟨v, s', x', hv, hs', hx', hy', alt⟩ : ∃ (v : Nat) (s' : So) (x' : List Int), wrE s 1 (F : Int) m = v ∧ wrS s 1 (F : Int) ys = s' ∧ getFi s'.l 1 = some x' ∧ getFi s'.l 2 = some y ∧
            Hid ((v = 15 ∧ x' = x ∧ s'.fr = s.fr) ∨ (v = 0 ∧ m = 0 ∧ x' = x) ∨ (v = 0 ∧ 0 < m ∧ x' = wrB x F ys)) := by
          have hc := wr_code (m := m) HX.out (show (0 : Int) ≤ (F : Int) by omega)
          have h2 := (wr_other s 1 (F : Int) ys (k := 2) (by decide)).trans HYY.out
          by_cases h15 : wrE s 1 (F : Int) m = 0
          · by_cases h0 : m = 0
            · have e := wr_same (s := s) (id := 1) (off := (F : Int)) (b := ys) (.inr (by rw [LY.out]; exact h0))
              exact ⟨0, s, x, h15, e, HX.out, HYY.out, .inr (.inl ⟨rfl, h0, rfl⟩)⟩
            · have e := wr_done (off := (F : Int)) (b := ys) HX.out (by rw [LY.out]; exact h15) (by rw [LY.out]; exact h0)
              rw [Int.toNat_natCast] at e
              exact ⟨0, _, _, h15, rfl, e, h2, .inr (.inr ⟨rfl, by omega, rfl⟩)⟩
          · have e15 : wrE s 1 (F : Int) m = 15 := hc.resolve_left h15
            have e := wr_same (s := s) (id := 1) (off := (F : Int)) (b := ys) (.inl (by rw [LY.out]; exact h15))
            exact ⟨15, s, x, e15, e, HX.out, HYY.out, .inl ⟨rfl, rfl, rfl⟩⟩
        have HV := hide hv
        have HS := hide hs'
        have R1 := hide (rdB_all (n := 1000) HG.out HX.out (by decide))
        have R2 := hide (rdB_all (n := 1000) HG.out HYY.out (by decide))
        have X1 := hide hx'
        have Y1 := hide hy'
        have WF := hide (show (Lit.int .i64 (F : Int)).wf = true from wf_off (by omega))
        have M6 := hide (show m ≤ 1000000 from by have := M7.out; omega)
        clear hv hs' hx' hy' hF
        go_wp2_with fail
        go_at_call 20
        refine (C.rdIn hT.out.1 (by decide) (by decide) (by decide) R1.out.1 R1.out.2).mono ?_
        rintro en w5 ⟨A5, c5, rfl, o5, i5, q5, b5, n5⟩
        have P5 := hide q5
        have I5 := hide i5
        have N5 := hide n5
        clear o5 i5 q5 b5 n5 R1
        go_wp2_with fail
        go_at_call 20
        refine (C.rdIn P5.out (by decide) (by decide) (by decide) R2.out.1 R2.out.2).mono ?_
        rintro en w6 ⟨A6, c6, rfl, o6, i6, q6, b6, n6⟩
        have P6 := hide q6
        have N6 := hide n6
        have I6 := hide (I5.out.below b6)
        have J6 := hide i6
        clear o6 i6 q6 b6 n6 R2 I5 P5
        go_wp2_with (go_at_call 34; refine (C.free P6.out.ps).mono ?_; rintro e w' ⟨rfl, rfl⟩)
        go_at_call 25
        refine (C.wrAny P6.out (by decide) WF.out HY.out M6.out HV.out HS.out).mono ?_
        rintro en w7 ⟨rfl, U7, q7, -, t7⟩
        have P7 := hide q7
        have I7 := hide (t7.ints I6.out N5.out)
        have J7 := hide (t7.ints J6.out N6.out)
        have HG7 := hide (C.good q7.ps)
        have R3 := hide (rdB_all (n := 1000) HG7.out X1.out (by decide))
        have R4 := hide (rdB_all (n := 1000) HG7.out Y1.out (by decide))
        have XB := hide (show x.length ≤ 512 ∧ y.length ≤ 512 ∧ x'.length ≤ 512 from ⟨(HG.out.old HX.out).2.1, (HG.out.old HYY.out).2.1, (HG7.out.old X1.out).2.1⟩)
        clear q7 t7 P6 I6 J6 N5 N6 WF M6 HV HS X1 Y1 HX HYY HG hT
        go_wp2_with fail
        go_at_call 20
        refine (C.rdIn P7.out (by decide) (by decide) (by decide) R3.out.1 R3.out.2).mono ?_
        rintro en w8 ⟨A8, c8, rfl, o8, i8, q8, b8, -⟩
        have P8 := hide q8
        have I8 := hide (I7.out.below b8)
        have J8 := hide (J7.out.below b8)
        have K8 := hide i8
        clear o8 i8 q8 b8 R3 P7 I7 J7
        go_wp2_with fail
        go_at_call 20
        refine (C.rdIn P8.out (by decide) (by decide) (by decide) R4.out.1 R4.out.2).mono ?_
        rintro en w9 ⟨A9, c9, rfl, o9, i9, q9, b9, -⟩
        have P9 := hide q9
        have I9 := hide (I8.out.below b9)
        have J9 := hide (J8.out.below b9)
        have K9 := hide (K8.out.below b9)
        have M9 := hide i9
        clear o9 i9 q9 b9 R4 P8 I8 J8 K8
        go_wp2_with fail
        go_at_call 22
        refine (same_any _ _ _ _ _ y _ J9.out M9.out (by have := XB.out; omega)).mono ?_
        rintro en w10 ⟨rfl, k10, rfl⟩
        have B10 := hide (below_drewN (Below.refl w9.heap.size w9) k10)
        have P10 := hide (P9.out.below (C.keeps H) B10.out).1
        have I10 := hide (I9.out.below B10.out)
        have K10 := hide (K9.out.below B10.out)
        have Y10 := hide (HY.out.1.below P10.out.bel)
        clear B10 P9 I9 J9 K9 M9 HG7 HY
        generalize w9.drewN k10 = w10 at *
        rcases alt.out with ⟨rfl, rfl, hfr⟩ | ⟨rfl, rfl, rfl⟩ | ⟨rfl, hm0, hx'⟩
        · clear alt
          have FR := hide (fun W (h : PS H W U7 S s') => show Calls Try.prog 34 #[.pointer (some ⟨H, 0, none⟩)] W fun e w' => e = .returned (.int .i64 (s.fr : Nat)) ∧ W = w' from by have := C.free h; rw [hfr] at this; exact this)
          clear hfr
          have g0 : ((s.fr : Int) == (s.fr : Int)) = true := by simp
          have X63 := hide (show x'.length ≤ 9223372036854775807 from by have := XB.out; omega)
          go_wp2_with (first
            | (go_at_call 22; refine (same_any _ _ _ _ _ x' _ I10.out K10.out X63.out).mono ?_; rintro en w11 ⟨rfl, k11, rfl⟩; have P11 := hide (P10.out.below (C.keeps H) (below_drewN (Below.refl w10.heap.size w10) k11)).1)
            | (go_at_call 34; refine (FR.out _ P11.out.ps).mono ?_; rintro e w' ⟨rfl, rfl⟩)
            | (go_at_call 10; refine (soawake_any C _).mono ?_; rintro e w' ⟨rfl, hb⟩))
          go_ret
          exact ⟨rfl, P11.out.bel.trans (hb.mono P11.out.bel.size)⟩
        · clear alt
          have X63 := hide (show x'.length ≤ 9223372036854775807 from by have := XB.out; omega)
          go_wp2_with (first
            | (go_at_call 22; refine (same_any _ _ _ _ _ x' _ I10.out K10.out X63.out).mono ?_; rintro en w11 ⟨rfl, k11, rfl⟩; have P11 := hide (P10.out.below (C.keeps H) (below_drewN (Below.refl w10.heap.size w10) k11)).1)
            | (go_at_call 10; refine (soawake_any C _).mono ?_; rintro e w' ⟨rfl, hb⟩))
          go_ret
          exact ⟨rfl, P11.out.bel.trans (hb.mono P11.out.bel.size)⟩
        · clear alt
          obtain ⟨L, hL⟩ : ∃ L, L = x'.length := ⟨_, rfl⟩
          have hLm : L = max x.length (F + m) := by rw [hL, hx', wrB_len, LY.out]
          obtain ⟨xl, hxl⟩ : ∃ xl, xl = x.length := ⟨_, rfl⟩
          rw [← hL] at K10 XB ⊢
          rw [← hxl] at I10 XB hLm ⊢
          have LB := hide (show L = max xl (F + m) ∧ xl ≤ 512 ∧ L ≤ 512 ∧ 0 < m ∧ m ≤ 700 ∧ F < 600 ∧ ys.length = m ∧ xl = x.length from ⟨hLm, XB.out.1, XB.out.2.2, hm0, M7.out, FB.out, LY.out, hxl⟩)
          have AT := hide (show ∀ j, j < L → x'.getD j 0 = wrAt x F ys j from fun j hj => by rw [hx', wrB_getD])
          obtain ⟨b8, f8, rfl, k8⟩ := K10.out.2 (by omega)
          obtain ⟨bb, fb, rfl, kb⟩ := Y10.out.2 hm0
          have K8 := hide k8
          have KB := hide kb
          have m0 : ¬ (m : Int) = 0 := by omega
          have F6 : (F : Int) ≤ 600 := by have := FB.out; omega
          have L5 : (L : Int) ≤ 512 := by have := LB.out; omega
          have x5 : (xl : Int) ≤ 512 := by have := LB.out; omega
          clear hL hLm hxl hx' hm0 k8 kb K10 Y10 XB
          have hmax : (if (xl : Int) < (F : Int) + (m : Int) then (F : Int) + (m : Int) else (xl : Int)) = (L : Int) := by have := LB.out; split <;> omega
          have gL : ((L : Int) != (L : Int)) = false := by simp
          go_wp2_with fail
          clear hmax gL
          go_loop [21] (fun i => ∃ j : Nat, j ≤ L ∧ i = .int .i64 (j : Int)) (fun i => L - (intOf i).toNat)
          case atStart => exact ⟨0, Nat.zero_le _, rfl⟩
          case round =>
            obtain ⟨j, hj, rfl⟩ := hrel
            by_cases hlt : j < L
            · have j0 : (0 : Int) ≤ (j : Int) := by omega
              have j1 : (j : Int) < (L : Int) := by omega
              have e8 := K8.out j hlt
              rw [AT.out j hlt] at e8
              by_cases hin : F ≤ j ∧ j < F + m
              · have eW : wrAt x F ys j = ys.getD (j - F) 0 := by unfold wrAt; rw [LB.out.2.2.2.2.2.2.1, if_pos hin]
                have eb := KB.out (j - F) (by omega)
                rw [eW] at e8
                generalize ys.getD (j - F) 0 = vv at *
                obtain ⟨q, hq⟩ : ∃ q, q = j - F := ⟨_, rfl⟩
                rw [← hq] at eb
                have f1 : (F : Int) ≤ (j : Int) := by omega
                have f2 : (j : Int) < (F : Int) + (m : Int) := by omega
                have f3 : (j : Int) - (F : Int) = (q : Int) := by omega
                have f4 : (0 : Int) ≤ (q : Int) ∧ (q : Int) < (m : Int) := by omega
                have gv : (vv != vv) = false := by simp
                by_cases hx : j < xl
                · obtain ⟨b5, g5, rfl, k5⟩ := I10.out.2 (by omega)
                  have e5 := k5 j hx
                  have x1 : (j : Int) < (xl : Int) := by omega
                  clear k5 hin hq
                  go_wp2_with fail
                  go_round
                  case rel => exact ⟨j + 1, by omega, by go_num⟩
                  case measure => simp [intOf]; omega
                · have x1 : ¬ (j : Int) < (xl : Int) := by omega
                  clear hin hq
                  go_wp2_with fail
                  go_round
                  case rel => exact ⟨j + 1, by omega, by go_num⟩
                  case measure => simp [intOf]; omega
              · have eW : wrAt x F ys j = x.getD j 0 := by unfold wrAt; rw [LB.out.2.2.2.2.2.2.1, if_neg hin]
                rw [eW] at e8
                by_cases hx : j < xl
                · obtain ⟨b5, g5, rfl, k5⟩ := I10.out.2 (by omega)
                  have e5 := k5 j hx
                  generalize x.getD j 0 = vv at *
                  have x1 : (j : Int) < (xl : Int) := by omega
                  have gv : (vv != vv) = false := by simp
                  by_cases hf : F ≤ j
                  · have f1 : (F : Int) ≤ (j : Int) := by omega
                    have f2 : ¬ (j : Int) < (F : Int) + (m : Int) := by omega
                    clear k5 hin eW
                    go_wp2_with fail
                    go_round
                    case rel => exact ⟨j + 1, by omega, by go_num⟩
                    case measure => simp [intOf]; omega
                  · have f1 : ¬ (F : Int) ≤ (j : Int) := by omega
                    clear k5 hin eW
                    go_wp2_with fail
                    go_round
                    case rel => exact ⟨j + 1, by omega, by go_num⟩
                    case measure => simp [intOf]; omega
                · rw [getD_past (by have := LB.out; omega)] at e8
                  have x1 : ¬ (j : Int) < (xl : Int) := by omega
                  by_cases hf : F ≤ j
                  · have f1 : (F : Int) ≤ (j : Int) := by omega
                    have f2 : ¬ (j : Int) < (F : Int) + (m : Int) := by omega
                    clear hin eW
                    go_wp2_with fail
                    go_round
                    case rel => exact ⟨j + 1, by omega, by go_num⟩
                    case measure => simp [intOf]; omega
                  · have f1 : ¬ (F : Int) ≤ (j : Int) := by omega
                    clear hin eW
                    go_wp2_with fail
                    go_round
                    case rel => exact ⟨j + 1, by omega, by go_num⟩
                    case measure => simp [intOf]; omega
            · obtain rfl : j = L := by omega
              go_wp2_with (go_at_call 10; refine (soawake_any C _).mono ?_; rintro e w' ⟨rfl, hb⟩)
              go_ret
              exact ⟨rfl, P10.out.bel.trans (hb.mono P10.out.bel.size)⟩
end
end Go.Proofs.Ytipepklobpnbpaa
