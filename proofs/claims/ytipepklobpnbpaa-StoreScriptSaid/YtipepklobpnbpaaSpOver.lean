/-
  The program's store: over with the frames' Write.
-/
import Derived.Test.YtipepklobpnbpaaSpLoad
import Derived.Test.YtipepklobpnbpaaSpCut
namespace Go.Proofs.Ytipepklobpnbpaa
open Go.ChangeShapes Go.WideShapes Go.ChangeAt Go.RowKit Go.Maps
set_option linter.unusedVariables false
set_option linter.unusedSimpArgs false
/-- k bytes are written. -/
structure Wrk (w wr : World) (H A Q : Nat) (st : St) (F : List Nat) (L off : Nat) (ys : List Int) (k : Nat) (st' : St) : Prop where
  fr : Fr wr H A Q st'
  tch : Touch (fun i => i = A) w wr
  n : st'.n = st.n
  tk : st'.tk = st.tk
  fs : st'.fr = st.fr
  oth : ∀ f, f ∉ F → st'.bt f = st.bt f
  byt : ∀ o, o < L * 64 → byF st' F o = if off ≤ o ∧ o < off + k then ys.getD (o - off) 0 else byF st F o
theorem getD_nodup {F : List Nat} (nd : F.Nodup) {i j : Nat} (hi : i < F.length) (hj : j < F.length) (e : F.getD i 0 = F.getD j 0) : i = j := by
  rw [List.getD_eq_getElem?_getD, List.getD_eq_getElem?_getD, List.getElem?_eq_getElem hi, List.getElem?_eq_getElem hj] at e
  have e' : F[i] = F[j] := e
  rcases Nat.lt_trichotomy i j with h | h | h
  · exact absurd e' (List.pairwise_iff_getElem.1 nd i j hi hj h)
  · exact h
  · exact absurd e'.symm (List.pairwise_iff_getElem.1 nd j i hj hi h)
/-- A piece of what lies anywhere. -/
theorem ints_piece_at {w : World} {g off k m n : Nat} {o : List Int} (h : Ints .u8 w (some ⟨g, off, none⟩) n o) (hk : k + m ≤ n) : Ints .u8 w (some ⟨g, off + k, none⟩) m ((o.drop k).take m) := by
  refine ⟨by rw [List.length_take, List.length_drop, h.1]; omega, fun hm => ⟨g, off + k, rfl, fun j hj => ?_⟩⟩
  obtain ⟨b, off', e, hc⟩ := h.2 (by omega)
  injection e with e
  injection e with e1 e2 _
  subst e1 e2
  have := hc (k + j) (by omega)
  rw [Nat.add_assoc, this, List.getD_eq_getElem?_getD, List.getD_eq_getElem?_getD, List.getElem?_take, if_pos hj, List.getElem?_drop]
theorem Wrk.next {w wr w2 : World} {H A Q : Nat} {st st' : St} {F : List Nat} {L off k m fr ix fx : Nat} {ys : List Int} (h : Wrk w wr H A Q st F L off ys k st') (nd : F.Nodup) (hL : F.length = L) (hix : ix < L) (hfx : F.getD ix 0 = fx) (hP : off + k = ix * 64 + fr) (hm : fr + m ≤ 64) (hy : k + m ≤ ys.length)
    (f2 : Fr w2 H A Q (st'.put fx fr ((ys.drop k).take m))) (u : Touch (fun i => i = A) wr w2) : Wrk w w2 H A Q st F L off ys (k + m) (st'.put fx fr ((ys.drop k).take m)) := by
  have hl : ((ys.drop k).take m).length = m := by rw [List.length_take, List.length_drop]; omega
  have hin : fx ∈ F := by
    rw [← hfx, List.getD_eq_getElem?_getD, List.getElem?_eq_getElem (by omega)]; exact List.getElem_mem _
  refine ⟨f2, h.tch.trans u (fun i e => .inl e), h.n, h.tk, h.fs, fun f hf => ?_, fun o ho => ?_⟩
  · show upd st'.bt fx _ f = _
    rw [upd_other _ _ (fun e => hf (by rw [e]; exact hin))]; exact h.oth f hf
  · show upd st'.bt fx (over (st'.bt fx) fr ((ys.drop k).take m)) (F.getD (o / 64) 0) (o % 64) = _
    have hb := h.byt o ho
    unfold byF at hb
    by_cases e : o / 64 = ix
    · rw [e] at hb ⊢
      rw [hfx] at hb ⊢
      rw [upd_same]
      unfold over
      rw [hl]
      by_cases h1 : fr ≤ o % 64 ∧ o % 64 < fr + m
      · rw [if_pos h1, if_pos (by omega), List.getD_eq_getElem?_getD, List.getElem?_take, if_pos (by omega), List.getElem?_drop, show k + (o % 64 - fr) = o - off from by omega, List.getD_eq_getElem?_getD]
      · rw [if_neg h1, hb]
        by_cases h2 : off ≤ o ∧ o < off + k
        · rw [if_pos h2, if_pos (by omega)]
        · rw [if_neg h2, if_neg (by omega)]; unfold byF; rw [e, hfx]
    · rw [upd_other _ _ (fun e2 => e (getD_nodup nd (by omega) (by omega) (e2.trans hfx.symm))), hb]
      by_cases h2 : off ≤ o ∧ o < off + k
      · rw [if_pos h2, if_pos (by omega)]
      · rw [if_neg h2, if_neg (by omega)]; rfl
set_option maxRecDepth 10000 in
set_option maxHeartbeats 4000000 in
/-- over with Write: bytes are put. -/
theorem over_write {w : World} {H A Q B L fc n c off : Nat} {st : St} {F : List Nat} {fa a0 : Option Addr} {ys : List Int} (f : Fr w H A Q st) (cB : w.cell? ⟨B, 1, none⟩ = some (.slice fa L fc)) (hF : Ints .i64 w fa L (nums F)) (hL : L ≤ 8) (nd : F.Nodup)
    (tk : ∀ x ∈ F, x < st.n ∧ st.tk x = true) (hi : Ints .u8 w a0 n ys) (hby : Bytes ys) (hroom : 0 < n → off + n ≤ L * 64) (hoff : off ≤ 1000) (hc : n ≤ c) (hc2 : c ≤ maxLen)
    (dB : B ≠ A) (dF : ∀ b o, fa = some ⟨b, o, none⟩ → b ≠ A) (dI : ∀ b o, a0 = some ⟨b, o, none⟩ → b ≠ A) :
    Calls Try.prog 38 #[.pointer (some ⟨B, 0, none⟩), .int .i64 (off : Nat), .slice a0 n c, .func (.func 43) #[.pointer (some ⟨H, 0, none⟩)] #[]] w fun e w' =>
      e = .returned (.int .i64 0) ∧ ∃ st', Wrk w w' H A Q st F L off ys n st' := by
  have HF := hide hF
  have TK := hide tk
  have CB := hide cB
  have ND := hide nd
  have HI := hide hi
  have BY := hide hby
  have FA := hide (show n ≤ c ∧ c ≤ maxLen ∧ L ≤ 8 ∧ off ≤ 1000 ∧ (0 < n → off + n ≤ L * 64) ∧ F.length = L ∧ ys.length = n from ⟨hc, hc2, hL, hoff, hroom, by have := hF.1; simpa [nums] using this, hi.1⟩)
  have DB := hide dB
  have DF := hide dF
  have DI := hide dI
  have G0 := hide (show Wrk w w H A Q st F L off ys 0 st from ⟨f, Touch.refl _ _, rfl, rfl, rfl, fun _ _ => rfl, fun o _ => by rw [if_neg (by omega)]⟩)
  clear f cB hF tk hroom dB dF nd hby hi dI hc2
  go_enter Try.func38, Try.ntmps38
  go_wp2_with fail
  go_loopw [1, 2] (fun ov bv wr => ∃ (k : Nat) (a : Option Addr) (cc : Nat) (st' : St), k ≤ n ∧ ov = .int .i64 ((off + k : Nat) : Int) ∧ bv = .slice a (n - k) cc ∧ Hid ((k < n → cc = c - k ∧ ∃ ab ao, a0 = some ⟨ab, ao, none⟩ ∧ a = some ⟨ab, ao + k, none⟩) ∧ Wrk w wr H A Q st F L off ys k st')) (fun ov _ _ => off + n - (intOf ov).toNat)
  case atStart => exact ⟨0, _, _, _, Nat.zero_le _, rfl, rfl, fun h => ⟨rfl, by obtain ⟨ab, ao, e, _⟩ := HI.out.2 h; exact ⟨ab, ao, e, e⟩⟩, G0.out⟩
  case round =>
    clear G0
    obtain ⟨k, a, cc, st', hk, rfl, rfl, hG⟩ := hrel
    by_cases hlt : k < n
    · obtain ⟨rfl, ab, ao, ea, rfl⟩ := hG.out.1 hlt
      have HT := hide hG.out.2
      obtain ⟨f1, f2, f3, f4, f5, hFL, hyl⟩ := FA.out
      have f6 := f5 (by omega)
      obtain ⟨P, hP⟩ : ∃ P, P = off + k := ⟨_, rfl⟩
      rw [← hP]
      obtain ⟨fr, hfr⟩ : ∃ fr, fr = P % 64 := ⟨_, rfl⟩
      obtain ⟨ix, hix⟩ : ∃ ix, ix = P / 64 := ⟨_, rfl⟩
      have hfr64 : fr < 64 := by omega
      have hixL : ix < L := by omega
      obtain ⟨m, hm⟩ : ∃ m, m = min (n - k) (64 - fr) := ⟨_, rfl⟩
      have e1 : ((P : Nat) : Int).tmod 64 = (fr : Int) := by rw [Int.tmod_eq_emod_of_nonneg (by omega)]; omega
      have e2 : ((P : Nat) : Int).tdiv 64 = (ix : Int) := by rw [Int.tdiv_eq_ediv_of_nonneg (by omega)]; omega
      have e3 : (if ((n - k : Nat) : Int) < 64 - (fr : Int) then ((n - k : Nat) : Int) else 64 - (fr : Int)) = (m : Int) := by split <;> omega
      have e4 : (if 64 - (fr : Int) < ((n - k : Nat) : Int) then 64 - (fr : Int) else ((n - k : Nat) : Int)) = (m : Int) := by split <;> omega
      obtain ⟨gf, go, rfl, hcF⟩ := HF.out.2 (by omega)
      have hfk : F[ix]? = some (F[ix]'(by omega)) := List.getElem?_eq_getElem _
      have c7 := hcF ix hixL
      rw [show (nums F).getD ix 0 = ((F[ix]'(by omega) : Nat) : Int) from by simp [nums, List.getD, hfk]] at c7
      obtain ⟨fx, hfx⟩ : ∃ fx, fx = F[ix]'(by omega) := ⟨_, rfl⟩
      rw [← hfx] at c7 hfk
      have FX := hide (show F.getD ix 0 = fx from by rw [List.getD_eq_getElem?_getD, hfk]; rfl)
      have ff := TK.out fx (List.mem_of_getElem? hfk)
      clear hfx
      have nW : ∀ p v, p.block ≠ A → w.cell? p = some v → wr.cell? p = some v := fun p v hp hc => HT.out.tch.cell hc hp
      have x2 := nW _ _ (show (⟨B, 1, none⟩ : Addr).block ≠ A from DB.out) CB.out
      have x3 := nW _ _ (show (⟨gf, go + ix, none⟩ : Addr).block ≠ A from DF.out gf go rfl) c7
      have inW : Ints .u8 wr (some ⟨ab, ao + k, none⟩) m ((ys.drop k).take m) := HT.out.tch.ints (ints_piece_at (ea ▸ HI.out) (show k + m ≤ n by omega)) (fun b o e => by injection e with e; injection e with e1 _ _; rw [← e1]; exact DI.out ab ao ea)
      have WT := hide (fun (W : World) (b : Below wr.heap.size wr W) => write_ok (HT.out.fr.below b) fx fr (by rw [HT.out.n]; exact ff.1) (by rw [HT.out.tk]; exact ff.2) (some ⟨ab, ao + k, none⟩) m (c - k) ((ys.drop k).take m) (inW.below b) (fun y hy => BY.out y (List.mem_of_mem_drop (List.mem_of_mem_take hy))) (show fr + m ≤ 64 by omega))
      have M5 := hide (show 0 < m ∧ m ≤ n - k ∧ m ≤ 64 ∧ P = off + k ∧ off + k = ix * 64 + fr ∧ fr + m ≤ 64 ∧ k + m ≤ ys.length ∧ ix < L ∧ m ≤ c - k from by omega)
      have EA := hide ea
      have i1 : (0 : Int) < ((n - k : Nat) : Int) := by omega
      have i2 : ((P : Nat) : Int) ≤ 3000 := by omega
      have i3 : (fr : Int) < 64 := by omega
      have i4 : (ix : Int) < (L : Int) := by omega
      have i5 : (0 : Int) ≤ (ix : Int) := by omega
      have i6 : (0 : Int) ≤ (m : Int) := by omega
      have i7 : (m : Int) ≤ ((c - k : Nat) : Int) := by omega
      have i8 : (m : Int) ≤ ((n - k : Nat) : Int) := by omega
      have i9 : (m : Int) ≤ 64 := by omega
      have i10 : (0 : Int) ≤ (fr : Int) := by omega
      have i11 : ((n - k : Nat) : Int) ≤ 1000 := by omega
      have e5 : IntKind.i64.wrap (((P : Nat) : Int).tdiv 64) = (ix : Int) := by rw [e2, IntKind.wrap_i64]; omega
      have e6 : IntKind.i64.wrap (ix : Int) = (ix : Int) := by rw [IntKind.wrap_i64]; omega
      have i12 : (ix : Int) ≤ 8 := by omega
      have i13 : (L : Int) ≤ 8 := by omega
      have i14 : ix < L := by omega
      have i15 : m ≤ n - k := by omega
      have i16 : m ≤ c - k := by omega
      clear hfk ff hm hP hfr hix c7 hcF f1 f2 f3 f4 f5 f6 hFL hyl hixL hfr64 inW ea
      go_upto_region 4 with fail
      go_region_held3 (fun w' => w'.cell? ⟨B, 1, none⟩ = some (.slice (some ⟨gf, go, none⟩) L fc) ∧ w'.cell? ⟨gf, go + ix, none⟩ = some (.int .i64 (fx : Int))) (first | exact ⟨x2, x3⟩ | exact qq) (first
        | (go_at_call 43; refine (WT.out _ (Below.refl wr.heap.size wr).drew).mono ?_; rintro e w2 ⟨rfl, g2, u2⟩; have G2 := hide (HT.out.next ND.out FA.out.2.2.2.2.2.1 M5.out.2.2.2.2.2.2.2.1 FX.out M5.out.2.2.2.2.1 M5.out.2.2.2.2.2.1 M5.out.2.2.2.2.2.2.1 g2 (((Touch.refl (fun i => i = A) wr).drewN 1).trans u2 (fun i e => .inl e))); have qq := (show w2.cell? ⟨B, 1, none⟩ = some (.slice (some ⟨gf, go, none⟩) L fc) ∧ w2.cell? ⟨gf, go + ix, none⟩ = some (.int .i64 (fx : Int)) from ⟨u2.cell x2 DB.out, u2.cell x3 (DF.out gf go rfl)⟩); clear g2 u2))
      clear e1 e2 e3 e4 nW x2 x3 WT
      go_upto_region 7 with fail
      have LAST := hide (fun (W : World) (u : Wrk w W H A Q st F L off ys (k + m) (st'.put fx fr ((ys.drop k).take m))) (nq : Nat) => show Wrk w (W.drewN nq) H A Q st F L off ys (k + m) (st'.put fx fr ((ys.drop k).take m)) from ⟨u.fr.below (below_drewN (Below.refl _ _) nq), u.tch.drewN nq, u.n, u.tk, u.fs, u.oth, u.byt⟩)
      by_cases hcm : c - k = m
      · go_quiet (fail)
        go_wp2_with fail
        go_roundw
        case rel => exact ⟨k + m, some ⟨ab, ao + k, none⟩, 0, _, by have := M5.out; omega, by rw [M5.out.2.2.2.1]; exact ret_val (by push_cast; omega), by rw [Nat.sub_sub], fun h => by have := FA.out; have := M5.out; omega, LAST.out _ G2.out _⟩
        case measure => have := M5.out; simp [intOf]; omega
      · have hcm' : m < c - k := by have := M5.out; omega
        go_quiet (fail)
        go_wp2_with fail
        go_roundw
        case rel => exact ⟨k + m, some ⟨ab, ao + k + m, none⟩, c - k - m, _, by have := M5.out; omega, by rw [M5.out.2.2.2.1]; exact ret_val (by push_cast; omega), by rw [Nat.sub_sub], fun h => ⟨Nat.sub_sub .., ab, ao, EA.out, by rw [Nat.add_assoc]⟩, LAST.out _ G2.out _⟩
        case measure => have := M5.out; simp [intOf]; omega
    · obtain rfl : k = n := by omega
      rw [Nat.sub_self]
      go_wp2_with fail
      go_ret
      exact ⟨rfl, _, hG.out.2⟩
end Go.Proofs.Ytipepklobpnbpaa
