/-
  The walk of StorePieces over the contracts of the program's store.
-/
import Derived.Test.YtipepklobpnbpaaSoDuo
import Derived.Deep.RegionHeld3
import Derived.Maps.AppendAt
namespace Go.Proofs.Ytipepklobpnbpaa
open Go.ChangeShapes Go.WideShapes Go.ChangeAt Go.RowKit
set_option linter.unusedVariables false
set_option linter.unusedSimpArgs false
/-- 'append' of a slice of integers that may be nil onto a row of one's own, where a guard says yes. -/
theorem wpList_append_src_yes {P : Program} {w : World} {ops : Array Oper} {rest : List Oper} {o : Oper} {a : Act} {Q : Exit → Act → World → Prop} (hgd : Region.wanted o (yielded ops a.tmps) = true) (s x : Operand) (t : TypeId)
    (ho : o.op = .call { callee := .builtin .append, args := #[s, x], argTypes := #[t, t] })
    (base : Nat) (e : TypeId) (i : TypeInfo) (z : Value) (bytes : Nat) (ht : P.underlying t = some (.slice e)) (hi : P.info? e = some i) (hz : i.zero = some z)
    (hsize : i.size = 1) (hby : i.bytes = bytes) (hzs : z.cells.size = 1)
    (v : Value) (n : Nat) (xs : List Value) (hs : a.eval s = v) (hown : w.ownsRow base e 1 v n xs)
    (q : IntKind) (A : Option Addr) (m c : Nat) (ys : List Int) (hx : a.eval x = .slice A m c) (hr : Ints q w A m ys) (hnil : A = none → c = 0)
    (h63 : n + m ≤ maxLen) (hbytes : (n + m) * bytes ≤ 140737488355328) (hbase : base ≤ w.heap.size)
    (h : ∀ v' w', w'.ownsRow base e 1 v' (n + m) (xs ++ ys.map (Value.int q)) → w.grownBy w' v.ownBlock → wpList P ops Q rest (a.put o.dst v') w') :
    wpList P ops Q (o :: rest) a w := by
  cases A with
  | none =>
    obtain ⟨rfl, rfl⟩ := ints_none hr hnil rfl
    obtain rfl : ys = [] := List.eq_nil_of_length_eq_zero hr.1
    have hrun := run_append_owned_none (P := P) (w := w) base t o.type e i 1 ht hi v n xs hown
    refine BigFrame.wpList_want hgd fun K hK => ?_
    unfold Oper.wp execOp
    simp only [ho, resolve, invoke, builtin, Sem.run_bind, Sem.run_pure, Result.andThen_ok, List.map_toArray, List.map_cons, List.map_nil, hs, hx, hrun]
    exact hK _ _ (h v w (by simpa using hown) (World.grownBy.refl w _))
  | some ad =>
    obtain ⟨v', w', hrun, h2, h3, _, _⟩ := run_append_own_at (P := P) w base t o.type e i z 1 bytes ht hi hz hsize hby hzs (by omega) v n xs hown ad m c (ys.map (Value.int q)) (by simpa using hr.1) (ints_cells hr) (ints_one q ys) h63 hbytes hbase
    refine BigFrame.wpList_want hgd fun K hK => ?_
    unfold Oper.wp execOp
    simp only [ho, resolve, invoke, builtin, Sem.run_bind, Sem.run_pure, Result.andThen_ok, List.map_toArray, List.map_cons, List.map_nil, hs, hx, hrun]
    exact hK _ _ (h v' w' h2 h3)
theorem wrX_pieces {b : List Int} {k off : Nat} (hk : k ≤ b.length) (h0 : 0 < b.length) : wrX (wrX [] (off + k) (b.drop k)) off (b.take k) = wrB [] off b := by
  unfold wrX
  by_cases e0 : k = 0
  · subst e0
    rw [if_pos (by simp), if_neg (by rw [List.drop_zero]; omega)]
    rfl
  · by_cases e1 : k = b.length
    · subst e1
      rw [if_neg (by rw [List.take_length]; omega), if_pos (by rw [List.length_drop]; omega), List.take_length]
    · rw [if_neg (by rw [List.length_take]; omega), if_neg (by rw [List.length_drop]; omega)]
      exact wrB_pieces hk e1 e0
theorem duo_r2 (x y : List Int) (N : Nat) {off n : Int} (h0 : 0 ≤ off) (h1 : 0 ≤ n) : rdE (duo x y N) 2 off n = 0 ∧ rdB (duo x y N) 2 off n = (y.drop off.toNat).take n.toNat := by
  have e : rdE (duo x y N) 2 off n = 0 := by
    unfold rdE
    rw [get2, if_pos (show (some _).isSome = true from rfl), if_neg (by omega)]
  refine ⟨e, ?_⟩
  unfold rdB
  rw [if_pos e, get2]
  rfl
section
variable {PS : Nat → Rel So}
theorem came_drop {w : World} {b off n c k : Nat} {xs : List Int} (h : CameIn .u8 w (some ⟨b, off, none⟩) n c xs) (hk : k ≤ n) {ad : Option Addr} (e : k < n → ad = some ⟨b, off + k, none⟩) (he : ad ≠ none) : CameIn .u8 w ad (n - k) (c - k) (xs.drop k) := by
  have hl : xs.length = n := h.1.1
  refine ⟨⟨by rw [List.length_drop]; omega, fun hn => ⟨b, off + k, e (by omega), fun j hj => ?_⟩⟩, by have := h.2.1; omega, by have := h.2.2.1; omega, fun e2 => absurd e2 he, fun x hx => h.2.2.2.2 x (List.mem_of_mem_drop hx)⟩
  obtain ⟨b', off', e', hc⟩ := h.1.2 (by omega)
  injection e' with e'
  injection e' with e1 e2 _
  subst e1 e2
  rw [getD_drop, Nat.add_assoc]
  exact hc (k + j) (by omega)
theorem came_take {w : World} {b off n c k : Nat} {xs : List Int} (h : CameIn .u8 w (some ⟨b, off, none⟩) n c xs) (hk : k ≤ n) : CameIn .u8 w (some ⟨b, off, none⟩) k c (xs.take k) := by
  have hl : xs.length = n := h.1.1
  refine ⟨⟨by rw [List.length_take]; omega, fun hn => ⟨b, off, rfl, fun j hj => ?_⟩⟩, by have := h.2.1; omega, h.2.2.1, (fun e2 => by cases e2), fun x hx => h.2.2.2.2 x (List.mem_of_mem_take hx)⟩
  obtain ⟨b', off', e', hc⟩ := h.1.2 (by omega)
  injection e' with e'
  injection e' with e1 e2 _
  subst e1 e2
  rw [getD_take hj]
  exact hc j (by omega)
set_option maxRecDepth 10000 in
set_option maxHeartbeats 4000000 in
theorem walk_storePiecesC (C : PStore PS) (w : World) (a : Option Addr) (n c : Nat) (xs : List Int) (hx : CameIn .u8 w a n c xs) (cut : Int) (wc : (Lit.int .i64 cut).wf = true) (of_ : Int) (wo : (Lit.int .i64 of_).wf = true) :
    Calls Try.prog 7 #[.slice a n c, .int .i64 cut, .int .i64 of_] w fun e w' => e = .returned (.bool true) ∧ Below w.heap.size w w' := by
  clear wc wo
  by_cases hn : 300 < n
  · have n1 : (300 : Int) < (n : Int) := by omega
    clear hx hn
    go_enter Try.func7, Try.ntmps7
    go_wp2_with (go_at_call 10; refine (soawake_any C _).mono ?_; rintro en w1 ⟨rfl, b1⟩)
    go_ret
    exact ⟨rfl, b1⟩
  by_cases h0 : n = 0
  · subst h0
    clear hx hn
    go_enter Try.func7, Try.ntmps7
    go_wp2_with (go_at_call 10; refine (soawake_any C _).mono ?_; rintro en w1 ⟨rfl, b1⟩)
    go_ret
    exact ⟨rfl, b1⟩
  have n1 : ¬ (300 : Int) < (n : Int) := by omega
  have n0 : ¬ (n : Int) = 0 := by omega
  obtain ⟨ab, ao, rfl, -⟩ := hx.1.2 (by omega)
  have HX := hide hx
  have HN := hide (show 0 < n ∧ n ≤ 300 from ⟨by omega, by omega⟩)
  have nc : (n : Int) ≤ (c : Int) := by have := hx.2.1; omega
  have cm : (c : Int) ≤ 9223372036854775807 := by have := hx.2.2.1; unfold maxLen at this; omega
  clear hx hn h0
  go_enter Try.func7, Try.ntmps7
  go_wp2_with fail
  go_at_call 12
  refine (new_ok w 20 (by omega) (by omega)).mono ?_
  rintro e w1 ⟨H, A1, Q, rfl, f1, b1, hb⟩
  have F1 := hide f1
  have B1 := hide b1
  have HB := hide hb
  clear f1 b1 hb
  go_wp2_with fail
  go_at_call 14
  refine (C.new F1.out).mono ?_
  rintro e w2 ⟨S, U, rfl, p2, b2, hU⟩
  have P2 := hide (one_store C B1.out HB.out p2 b2 hU)
  clear p2 b2 hU F1 B1 HB
  obtain ⟨e1, e2, e3, e4⟩ := duo_first 20
  have K1 := hide (show Calls Try.prog 16 #[.pointer (some ⟨S, 0, none⟩), .int .i64 1] w2 fun e w' => e = .returned (.int .i64 0) ∧ ∃ U', OneO (PS H) w w' U' [] S ⟨[⟨1, []⟩], 20⟩ from (C.mak P2.out.ps (by decide) (by decide)).mono fun e w' hs => by obtain ⟨rfl, U', q, -⟩ := P2.out.side hs; rw [e2] at q; exact ⟨rfl, U', q⟩)
  go_wp2_with fail
  go_at_call 16
  refine K1.out.mono ?_
  rintro en w3 ⟨rfl, U3, q3⟩
  have P3 := hide q3
  clear q3 P2 K1
  have K1 := hide (show Calls Try.prog 16 #[.pointer (some ⟨S, 0, none⟩), .int .i64 2] w3 fun e w' => e = .returned (.int .i64 0) ∧ ∃ U', OneO (PS H) w w' U' [] S (duo [] [] 20) from (C.mak P3.out.ps (by decide) (by decide)).mono fun e w' hs => by obtain ⟨rfl, U', q, -⟩ := P3.out.side hs; rw [e4] at q; exact ⟨rfl, U', q⟩)
  clear e1 e2 e3 e4
  go_wp2_with fail
  go_at_call 16
  refine K1.out.mono ?_
  rintro en w4 ⟨rfl, U4, q4⟩
  have P4 := hide q4
  clear q4 P3 K1
  go_wp2_with fail
  go_at_call 11
  refine (low_k cut _ w4 (n + 1) (by omega) (by omega) (by have := HN.out; omega)).mono ?_
  rintro e w' ⟨⟨k, hk, rfl⟩, rfl⟩
  go_wp2_with fail
  go_at_call 11
  refine (low_k of_ 200 w4 200 rfl (by omega) (by omega)).mono ?_
  rintro e w' ⟨⟨off, ho, rfl⟩, rfl⟩
  obtain ⟨T, hT⟩ : ∃ T : Nat, T = off + k := ⟨_, rfl⟩
  have LT := hide (show (off : Int) + (k : Int) = (T : Int) from by omega)
  have hw : IntKind.i64.wrap ((off : Int) + (k : Int)) = (T : Int) := by rw [IntKind.wrap_i64]; omega
  have BD := hide (show 0 < n ∧ n ≤ 300 ∧ k ≤ n ∧ off ≤ 200 ∧ T = off + k from ⟨HN.out.1, HN.out.2, by omega, by omega, hT⟩)
  have HK := hide (show k ≤ n from by omega)
  have LX := hide (show xs.length = n from HX.out.1.1)
  obtain ⟨z, hz⟩ : ∃ z, z = wrB [] off xs := ⟨_, rfl⟩
  obtain ⟨y1, hy1⟩ : ∃ y1, y1 = wrX [] T (xs.drop k) := ⟨_, rfl⟩
  have lz : z.length = off + n := by rw [hz, wrB_len, LX.out]; simp
  have l1 : y1.length ≤ 512 := by rw [hy1]; exact wrX_len (by simp) (by rw [List.length_drop]; have := BD.out; have := LX.out; omega)
  have hz2 : wrX y1 off (xs.take k) = z := by rw [hz, hy1, hT]; exact wrX_pieces (by have := BD.out; have := LX.out; omega) (by have := BD.out; have := LX.out; omega)
  have hz1 : wrX [] off xs = z := by unfold wrX; rw [if_neg (by have := BD.out; have := LX.out; omega), hz]
  have W1 := hide (duo_w1 (x := []) (y := []) (b := xs) (N := 20) (off := off) (by omega) (by simp) (by simp) (by have := BD.out; have := LX.out; omega) LX.out)
  have W2 := hide (duo_w2 (x := z) (y := []) (b := xs.drop k) (N := 20) (off := T) (m := n - k) (by omega) (by have := BD.out; omega) (by simp) (by rw [List.length_drop]; have := BD.out; have := LX.out; omega) (by rw [List.length_drop, LX.out]))
  have W3 := hide (duo_w2 (x := z) (y := y1) (b := xs.take k) (N := 20) (off := off) (m := k) (by omega) (by have := BD.out; omega) l1 (by rw [List.length_take]; have := BD.out; have := LX.out; omega) (by rw [List.length_take]; have := BD.out; have := LX.out; omega))
  rw [hz1] at W1
  rw [← hy1] at W2
  rw [hz2] at W3
  have WO := hide (show (Lit.int .i64 (off : Int)).wf = true from wf_off (by have := BD.out; omega))
  have WT := hide (show (Lit.int .i64 (T : Int)).wf = true from wf_off (by have := BD.out; omega))
  have N6 := hide (show n ≤ 1000000 from by have := BD.out; omega)
  have LZ := hide lz
  have HZ := hide hz
  have k0 : (0 : Int) ≤ (k : Int) := by omega
  have k1 : (k : Int) ≤ (n : Int) := by omega
  have k2 : (k : Int) ≤ (c : Int) := by omega
  obtain ⟨ad, had, hne, hat⟩ : ∃ ad : Option Addr, (if c = k then some (⟨ab, ao, none⟩ : Addr) else some ⟨ab, ao + k, none⟩) = ad ∧ ad ≠ none ∧ (k < n → ad = some ⟨ab, ao + k, none⟩) := by
    refine ⟨_, rfl, by split <;> simp, fun h => if_neg (by have := HX.out.2.1; omega)⟩
  have CD := hide (came_drop HX.out HK.out hat hne)
  have CT := hide (came_take HX.out HK.out)
  clear hz hy1 hz2 hz1 l1 lz hT ho hk hne hat
  go_upto_region 8 with fail
  go_region_held3 (fun _ => True) (exact trivial) (first
    | (go_at_call 25; with_reducible refine (C.wrAny (P4.out.below (C.keeps H) ((Below.refl w4.heap.size w4).drew)).1 (by decide) WO.out HX.out N6.out W1.out.1 W1.out.2).mono ?_; rintro en w5 ⟨rfl, U5, q5, -⟩; have P5 := hide q5; clear q5)
    | (go_at_call 25; have t5 := P5.out; clear t5; with_reducible refine (C.wrAny P5.out (by decide) WT.out CD.out (by have := N6.out; omega) W2.out.1 W2.out.2).mono ?_; rintro en w6 ⟨rfl, U6, q6, -⟩; have P6 := hide q6; clear q6)
    | (go_at_call 25; have t6 := P6.out; clear t6; with_reducible refine (C.wrAny P6.out (by decide) WO.out CT.out (by have := N6.out; have := HK.out; omega) W3.out.1 W3.out.2).mono ?_; rintro en w7 ⟨rfl, U7, q7, -⟩; have P7 := hide q7; clear q7))
  clear hw had W1 W2 W3 CD CT P4 P5 P6 k0 k1 k2
  obtain ⟨L, hL⟩ : ∃ L : Nat, L = off + n := ⟨_, rfl⟩
  have BL := hide (show L ≤ 500 ∧ T ≤ L from by have := BD.out; omega)
  have R1 := hide (rdB_all (n := 600) (C.good P7.out.ps) (get1 z z 20) (by decide))
  have R2 := hide (rdB_all (n := 600) (C.good P7.out.ps) (get2 z z 20) (by decide))
  have R3 := hide (duo_r2 z z 20 (off := 0) (n := (T : Int)) (by omega) (by omega))
  have R4 := hide (duo_r2 z z 20 (off := (T : Int)) (n := 600) (by omega) (by omega))
  have e3 : (z.drop (0 : Int).toNat).take (T : Int).toNat = z.take T := by simp
  have e4 : (z.drop (T : Int).toNat).take (600 : Int).toNat = z.drop T := by rw [Int.toNat_natCast]; exact List.take_of_length_le (by rw [List.length_drop, LZ.out]; have := BL.out; show _ ≤ 600; omega)
  rw [e3] at R3
  rw [e4] at R4
  have z1 : z.length = L := by rw [LZ.out, hL]
  have z2 : (z.take T).length = T := by rw [List.length_take, z1]; have := BL.out; omega
  have z3 : (z.drop T).length = L - T := by rw [List.length_drop, z1]
  have zz : (z.take T).map (Value.int .u8) ++ (z.drop T).map (Value.int .u8) = z.map (Value.int .u8) := by rw [← List.map_append, List.take_append_drop]
  have ZZ := hide zz
  have LL := hide (show (off : Int) + (n : Int) = (L : Int) from by omega)
  have Z1 := hide z1
  have Z2 := hide z2
  have Z3 := hide z3
  clear e3 e4 hL z1 z2 z3 zz HX HN LX HK LZ HZ N6 WO
  go_wp2_with fail
  go_at_call 20
  refine (C.rdIn P7.out (by decide) (by decide) (by decide) R1.out.1 R1.out.2).mono ?_
  rintro en w9 ⟨A9, c9, rfl, o9, i9, q9, b9, -⟩
  rw [Z1.out] at o9 i9
  rw [Z1.out]
  have P9 := hide q9
  have I9 := hide i9
  have N9 := hide (fun hn => ints_lt i9 hn)
  clear o9 i9 q9 b9
  go_wp2_with fail
  go_at_call 20
  refine (C.rdIn P9.out (by decide) (by decide) (by decide) R2.out.1 R2.out.2).mono ?_
  rintro en w10 ⟨A10, c10, rfl, o10, i10, q10, b10, -⟩
  rw [Z1.out] at o10 i10
  rw [Z1.out]
  have P10 := hide q10
  have Q10 := hide q10.bel.size
  have I10 := hide (I9.out.below b10)
  have J10 := hide i10
  have N10 := hide (show 0 < L → ∀ b o, A9 = some ⟨b, o, none⟩ → b < w10.heap.size from fun hn b o e => Nat.lt_of_lt_of_le (N9.out hn b o e) b10.size)
  clear N9
  clear o10 i10 q10 b10 I9 P9 R1 R2
  have hLT := LT.out
  have hT5 : (T : Int) ≤ 500 := by have := BL.out; omega
  go_wp2_with fail
  clear hLT hT5
  go_at_call 20
  refine (C.rdIn P10.out (by decide) (by decide) WT.out R3.out.1 R3.out.2).mono ?_
  rintro en w11 ⟨A11, c11, rfl, o11, i11, q11, b11, -⟩
  rw [Z2.out] at o11
  rw [Z2.out]
  have P11 := hide q11
  have O11 := hide o11
  have L11 := hide (own_lo o11)
  have I11 := hide (I10.out.below b11)
  have J11 := hide (J10.out.below b11)
  clear o11 i11 q11 b11 I10 J10 P10 R3
  have hLT := LT.out
  have hT5 : (T : Int) ≤ 500 := by have := BL.out; omega
  go_wp2_with fail
  clear hLT hT5
  go_at_call 20
  refine (C.rdIn P11.out (by decide) WT.out (by decide) R4.out.1 R4.out.2).mono ?_
  rintro en w12 ⟨A12, c12, rfl, o12, i12, q12, b12, -⟩
  have NC := hide (show A12 = none → c12 = 0 from by
    intro e; obtain ⟨A', c', e', _, e2⟩ := own_ints o12; injection e' with e3 _ e4; subst e3 e4; exact e2 e)
  rw [Z3.out] at o12 i12
  rw [Z3.out]
  have O12 := hide ((Touch.of_below (S := fun _ => False) b12).own (own_base O11.out (show w.heap.size ≤ w10.heap.size from Q10.out)) (fun _ _ e => e))
  have BB := hide q12.bel
  have I12 := hide (I11.out.below b12)
  have J12 := hide (J11.out.below b12)
  have K12 := hide i12
  clear o12 i12 q12 b12 O11 I11 J11 P11 R4 WT
  obtain ⟨i0, hi0, hz0, hz1, hz2⟩ := info_parts u8_info
  have hTL : T + (L - T) = L := by have := BL.out; omega
  have HTL := hide hTL
  have L63 := hide (show L ≤ 9223372036854775807 from by have := BL.out; omega)
  have hLL := LL.out
  have hL5 : (L : Int) ≤ 500 := by have := BL.out; omega
  clear hTL Z1 Z2 Z3 LL
  go_wp2_with (first
    | (go_at_call 22; with_reducible refine (same_any _ _ _ _ _ z _ I12.out J12.out L63.out).mono ?_; rintro en w13 ⟨rfl, k13, rfl⟩)
    | (refine wpList_append_src_yes (by kernel_rfl) (.tmp 116) (.tmp 117) 39 rfl w.heap.size 5 i0 _ 1 Try.underlying39 hi0 hz0 hz1 hz2 rfl _ _ _ rfl (own_drewN O12.out k13) .u8 _ _ _ _ rfl (K12.out.below (below_drewN (Below.refl _ _) k13)) NC.out (by unfold maxLen; have := BL.out; omega) (by have := BL.out; omega) BB.out.size ?_; intro v14 w14 o14 g14; rw [HTL.out, ZZ.out] at o14; obtain ⟨A14, c14, rfl, i14, -⟩ := own_ints o14; have I14 := hide i14; have X14 := hide (ints_grown (I12.out.below (below_drewN (Below.refl _ _) k13)) N10.out L11.out g14); have B14 := hide ((below_drewN (Below.refl _ _) k13).trans ((Below.refl _ _).grown g14 BB.out.size (own_lo O12.out))); clear o14 i14 g14)
    | (go_at_call 22; have t := X14.out; clear t; with_reducible refine (same_any _ _ _ _ _ z _ I14.out X14.out L63.out).mono ?_; rintro en w15 ⟨rfl, k15, rfl⟩)
    | (go_at_call 10; refine (soawake_any C _).mono ?_; rintro en w16 ⟨rfl, b16⟩; have B16 := hide ((below_drewN (BB.out.trans B14.out) k15).trans (b16.mono (show w.heap.size ≤ w14.heap.size from (BB.out.trans B14.out).size))); clear b16))
  go_ret
  exact ⟨rfl, B16.out⟩
end
end Go.Proofs.Ytipepklobpnbpaa
