/-
  The program's store: load.
-/
import Derived.Test.YtipepklobpnbpaaSpFind
import Derived.Laws.CopyOwn
namespace Go.Proofs.Ytipepklobpnbpaa
open Go.ChangeShapes Go.WideShapes Go.ChangeAt Go.RowKit Go.Maps
set_option linter.unusedVariables false
set_option linter.unusedSimpArgs false
set_option maxHeartbeats 1000000 in
theorem load_any {w : World} {H A Q S : Nat} {st : St} (c0 : w.cell? ⟨S, 0, none⟩ = some (.pointer (some ⟨H, 0, none⟩))) (f : Fr w H A Q st) {i off n : Nat} (hi : i < st.n) (ht : st.tk i = true) (hf : off + n ≤ 64) {g o c : Nat} {cur : List Value} (hg : w.heap[g]? = some (.cells cur.toArray 5 (0, 0))) (hfit : o + n ≤ cur.length) :
    Calls Try.prog 39 #[.pointer (some ⟨S, 0, none⟩), .int .i64 (i : Nat), .int .i64 (off : Nat), .slice (some ⟨g, o, none⟩) n c] w fun e w' => e = .returned (.int .i64 0) ∧ w'.heap[g]? = some (.cells (splice cur o ((st.part i off n).map (Value.int .u8))).toArray 5 (0, 0)) ∧ Touch (fun k => k = g) w w' := by
  have RD := hide (read_ok f i off n hi ht hf)
  have PL := hide (show ((st.part i off n).map (Value.int .u8)).length = n from by rw [List.length_map, part_len])
  have MM := hide (show n = Nat.min n n from (Nat.min_self n).symm)
  have HG := hide hg
  have FT := hide hfit
  have GL := hide (lt_of_heap hg)
  clear f hi ht hf hg hfit
  go_enter Try.func39, Try.ntmps39
  go_upto_region 2 with (go_at_call 47; refine RD.out.mono ?_; rintro e w1 ⟨rfl, o1, b1⟩; have O1 := hide o1; have B1 := hide b1; clear o1 b1)
  have hg1 := hide (show w1.heap[g]? = some (.cells cur.toArray 5 (0, 0)) from (B1.out.block g GL.out).trans HG.out)
  have hsrc := hide (show 0 < ((st.part i off n).map (Value.int .u8)).length → ∃ ad, (some (⟨w.heap.size, 0, none⟩ : Addr)) = some ad ∧ ∀ j v, ((st.part i off n).map (Value.int .u8))[j]? = some v → w1.cell? (ad.add j) = some v from fun hp => by
    obtain ⟨A', C', e, i', _⟩ := own_ints O1.out
    injection e with e1 _ e2
    subst e1 e2
    exact ints_src i' hp)
  go_wp2_with (refine wpList_copy_touch rfl (.tmp 23) (.tmp 24) 39 39 rfl 5 Try.underlying39 byte_size (some ⟨g, o, none⟩) (some ⟨w.heap.size, 0, none⟩) n c n n rfl rfl g o cur 5 hg1.out ((st.part i off n).map (Value.int .u8)) (by rw [PL.out]; exact MM.out) (fun hp => ⟨rfl, hsrc.out hp⟩) (by rw [PL.out]; exact FT.out) (ints_one _ _) ?_; intro w2 e2 t2; have E2 := hide e2.out; have T2 := hide t2; clear e2 t2)
  go_ret
  exact ⟨rfl, E2.out, (Touch.of_below (S := fun k => k = g) B1.out).trans T2.out (fun i e => .inl e)⟩
/-- The bytes of a file's frames, by their place. -/
def byF (st : St) (F : List Nat) (o : Nat) : Int := st.bt (F.getD (o / 64) 0) (o % 64)
theorem splice_old {α : Type} {L cs : List α} {o j : Nat} (h : o + cs.length ≤ L.length) (hj : j < o) : (splice L o cs)[j]? = L[j]? := by
  rw [getElem?_splice _ _ _ h, if_neg (by omega)]
theorem splice_new {α : Type} {L cs : List α} {o j : Nat} (h : o + cs.length ≤ L.length) (h1 : o ≤ j) (h2 : j < o + cs.length) : (splice L o cs)[j]? = cs[j - o]? := by
  rw [getElem?_splice _ _ _ h, if_pos ⟨h1, h2⟩]
theorem splice_len {α : Type} {L cs : List α} {o : Nat} (h : o + cs.length ≤ L.length) : (splice L o cs).length = L.length := by unfold splice; simp; omega
theorem part_at (s : St) (i off n j : Nat) (h : j < n) : ((s.part i off n).map (Value.int .u8))[j]? = some (.int .u8 (s.bt i (off + j))) := by
  unfold St.part
  rw [List.map_map, List.getElem?_map, List.getElem?_range h]; rfl
set_option maxRecDepth 10000 in
set_option maxHeartbeats 4000000 in
/-- over with load: a row is filled. -/
theorem over_load {w : World} {H A Q S B L fc g n c off : Nat} {st : St} {F : List Nat} {fa : Option Addr} (c0 : w.cell? ⟨S, 0, none⟩ = some (.pointer (some ⟨H, 0, none⟩))) (f : Fr w H A Q st) (cB : w.cell? ⟨B, 1, none⟩ = some (.slice fa L fc)) (hF : Ints .i64 w fa L (nums F)) (hL : L ≤ 8)
    (tk : ∀ x ∈ F, x < st.n ∧ st.tk x = true) {cur : List Value} (hg : w.heap[g]? = some (.cells cur.toArray 5 (0, 0))) (hcur : cur.length = n) (hroom : 0 < n → off + n ≤ L * 64) (hoff : off ≤ 1000) (hc : n ≤ c) (hc2 : c ≤ 1000)
    (dS : g ≠ S) (dB : g ≠ B) (dH : ∀ i, Blk H A Q i → i ≠ g) (dF : ∀ b o, fa = some ⟨b, o, none⟩ → b ≠ g) :
    Calls Try.prog 38 #[.pointer (some ⟨B, 0, none⟩), .int .i64 (off : Nat), .slice (some ⟨g, 0, none⟩) n c, .func (.func 39) #[.pointer (some ⟨S, 0, none⟩)] #[]] w fun e w' =>
      e = .returned (.int .i64 0) ∧ w'.heap[g]? = some (.cells (((List.range n).map fun j => byF st F (off + j)).map (Value.int .u8)).toArray 5 (0, 0)) ∧ Touch (fun k => k = g) w w' := by
  have HF := hide hF
  have TK := hide tk
  have FR := hide f
  have C0 := hide c0
  have CB := hide cB
  have FA := hide (show n ≤ c ∧ c ≤ 1000 ∧ L ≤ 8 ∧ off ≤ 1000 ∧ (0 < n → off + n ≤ L * 64) from ⟨hc, hc2, hL, hoff, hroom⟩)
  have DS := hide (show g ≠ S ∧ g ≠ B from ⟨dS, dB⟩)
  have DH := hide dH
  have DF := hide dF
  have G0 := hide (show ∃ cur : List Value, w.heap[g]? = some (.cells cur.toArray 5 (0, 0)) ∧ cur.length = n ∧ ∀ j, j < 0 → cur[j]? = some (.int .u8 (byF st F (off + j))) from ⟨cur, hg, hcur, fun j hj => absurd hj (Nat.not_lt_zero _)⟩)
  clear c0 f cB hF tk hg hcur hroom dS dB dH dF
  go_enter Try.func38, Try.ntmps38
  go_wp2_with fail
  go_loopw [1, 2] (fun ov bv wr => ∃ (k : Nat) (a : Option Addr) (cc : Nat), k ≤ n ∧ ov = .int .i64 ((off + k : Nat) : Int) ∧ bv = .slice a (n - k) cc ∧ Hid ((k < n → a = some ⟨g, k, none⟩ ∧ cc = c - k) ∧ Touch (fun k => k = g) w wr ∧ ∃ cur : List Value, wr.heap[g]? = some (.cells cur.toArray 5 (0, 0)) ∧ cur.length = n ∧ ∀ j, j < k → cur[j]? = some (.int .u8 (byF st F (off + j))))) (fun ov _ _ => off + n - (intOf ov).toNat)
  case atStart => exact ⟨0, _, _, Nat.zero_le _, rfl, rfl, fun _ => ⟨rfl, rfl⟩, Touch.refl _ _, G0.out⟩
  case round =>
    clear G0
    obtain ⟨k, a, cc, hk, rfl, rfl, hG⟩ := hrel
    by_cases hlt : k < n
    · obtain ⟨⟨rfl, rfl⟩, hT, cur, hg, hlen, hcur⟩ : (a = some ⟨g, k, none⟩ ∧ cc = c - k) ∧ _ := ⟨hG.out.1 hlt, hG.out.2⟩
      have HT := hide hT
      obtain ⟨f1, f2, f3, f4, f5⟩ := FA.out
      have f6 := f5 (by omega)
      -- where it is
      obtain ⟨P, hP⟩ : ∃ P, P = off + k := ⟨_, rfl⟩
      rw [← hP]
      obtain ⟨fr, hfr⟩ : ∃ fr, fr = P % 64 := ⟨_, rfl⟩
      obtain ⟨ix, hix⟩ : ∃ ix, ix = P / 64 := ⟨_, rfl⟩
      have hfr64 : fr < 64 := by omega
      have hixL : ix < L := by omega
      obtain ⟨m, hm⟩ : ∃ m, m = min (n - k) (64 - fr) := ⟨_, rfl⟩
      have e1 : ((P : Nat) : Int).tmod 64 = (fr : Int) := by rw [Int.tmod_eq_emod_of_nonneg (by omega)]; omega
      have e2 : ((P : Nat) : Int).tdiv 64 = (ix : Int) := by rw [Int.tdiv_eq_ediv_of_nonneg (by omega)]; omega
      have e3 : (if ((n - k : Nat) : Int) < 64 - (fr : Int) then ((n - k : Nat) : Int) else 64 - (fr : Int)) = (m : Int) := by split <;> omega
      have e4 : (if 64 - (fr : Int) < ((n - k : Nat) : Int) then 64 - (fr : Int) else ((n - k : Nat) : Int)) = (m : Int) := by split <;> omega
      obtain ⟨gf, go, rfl, hcF⟩ := HF.out.2 (by omega)
      have hFL : F.length = L := by have := HF.out.1; simpa [nums] using this
      have hfk : F[ix]? = some (F[ix]'(by omega)) := List.getElem?_eq_getElem _
      have c7 := hcF ix hixL
      rw [show (nums F).getD ix 0 = ((F[ix]'(by omega) : Nat) : Int) from by simp [nums, List.getD, hfk]] at c7
      obtain ⟨fx, hfx⟩ : ∃ fx, fx = F[ix]'(by omega) := ⟨_, rfl⟩
      rw [← hfx] at c7 hfk
      have ff := TK.out fx (List.mem_of_getElem? hfk)
      clear hfx
      have nW : ∀ p v, p.block ≠ g → w.cell? p = some v → wr.cell? p = some v := fun p v hp hc => HT.out.cell hc hp
      have x1 := nW _ _ (show (⟨S, 0, none⟩ : Addr).block ≠ g from fun e => DS.out.1 e.symm) C0.out
      have x2 := nW _ _ (show (⟨B, 1, none⟩ : Addr).block ≠ g from fun e => DS.out.2 e.symm) CB.out
      have x3 := nW _ _ (show (⟨gf, go + ix, none⟩ : Addr).block ≠ g from DF.out gf go rfl) c7
      have frW := FR.out.touch HT.out (fun i e => DH.out i e)
      have LD := hide (fun (W : World) (b : Below wr.heap.size wr W) => load_any (S := S) (H := H) (c := c - k) ((b.cell (lt_of_cell? x1)).trans x1) (frW.below b) ff.1 ff.2 (show fr + m ≤ 64 by omega) ((b.block g (lt_of_heap hg)).trans hg) (show k + m ≤ cur.length by omega))
      have NX := hide (show ∀ j, j < k + m → (splice cur k ((st.part fx fr m).map (Value.int .u8)))[j]? = some (.int .u8 (byF st F (off + j))) from fun j hj => by
        have hl9 : ((st.part fx fr m).map (Value.int .u8)).length = m := by rw [List.length_map, part_len]
        by_cases h1 : j < k
        · rw [splice_old (by rw [hl9]; omega) h1]; exact hcur j h1
        · rw [splice_new (by rw [hl9]; omega) (by omega) (by rw [hl9]; omega), part_at _ _ _ _ _ (by omega)]
          unfold byF
          have q1 : (off + j) / 64 = ix := by omega
          have q2 : (off + j) % 64 = fr + (j - k) := by omega
          rw [q1, q2, List.getD_eq_getElem?_getD, hfk]; rfl)
      have NL := hide (show (splice cur k ((st.part fx fr m).map (Value.int .u8))).length = n from by
        rw [splice_len (by rw [List.length_map, part_len]; omega)]; exact hlen)
      have M5 := hide (show 0 < m ∧ m ≤ n - k ∧ m ≤ 64 ∧ P = off + k from by omega)
      have i1 : (0 : Int) < ((n - k : Nat) : Int) := by omega
      have i2 : ((P : Nat) : Int) ≤ 3000 := by omega
      have i3 : (fr : Int) < 64 := by omega
      have i4 : (ix : Int) < (L : Int) := by omega
      have i5 : (0 : Int) ≤ (ix : Int) := by omega
      have i6 : (0 : Int) ≤ (m : Int) := by omega
      have i7 : (m : Int) ≤ ((c - k : Nat) : Int) := by omega
      have i8 : (m : Int) ≤ ((n - k : Nat) : Int) := by omega
      have i9 : (m : Int) ≤ 64 := by omega
      have i10 : (0 : Int) ≤ (fr : Int) := by omega
      have i11 : ((n - k : Nat) : Int) ≤ 1000 := by omega
      have e5 : IntKind.i64.wrap (((P : Nat) : Int).tdiv 64) = (ix : Int) := by rw [e2, IntKind.wrap_i64]; omega
      have e6 : IntKind.i64.wrap (ix : Int) = (ix : Int) := by rw [IntKind.wrap_i64]; omega
      have i12 : (ix : Int) ≤ 8 := by omega
      have i14 : ix < L := by omega
      have i15 : m ≤ n - k := by omega
      have i16 : m ≤ c - k := by omega
      have i13 : (L : Int) ≤ 8 := by omega
      clear hg hcur hlen hfk ff frW hm hP hfr hix c7 hcF f1 f2 f3 f4 f5 f6 hFL hixL hfr64 hT
      go_upto_region 4 with fail
      go_region_held3 (fun w' => w'.cell? ⟨B, 1, none⟩ = some (.slice (some ⟨gf, go, none⟩) L fc) ∧ w'.cell? ⟨gf, go + ix, none⟩ = some (.int .i64 (fx : Int))) (first | exact ⟨x2, x3⟩ | exact qq) (first
        | (go_at_call 39; refine (LD.out _ (Below.refl wr.heap.size wr).drew).mono ?_; rintro e w2 ⟨rfl, g2, u2⟩; have G2 := hide g2; have T2 := hide ((HT.out.drewN 1).trans u2 (fun i e => .inl e)); have qq := (show w2.cell? ⟨B, 1, none⟩ = some (.slice (some ⟨gf, go, none⟩) L fc) ∧ w2.cell? ⟨gf, go + ix, none⟩ = some (.int .i64 (fx : Int)) from ⟨u2.cell x2 (fun e => DS.out.2 e.symm), u2.cell x3 (DF.out gf go rfl)⟩); clear g2 u2))
      clear e1 e2 e3 e4 nW x1 x2 x3 LD
      go_upto_region 7 with fail
      by_cases hcm : c - k = m
      · go_quiet (fail)
        go_wp2_with fail
        go_roundw
        case rel => exact ⟨k + m, some ⟨g, k, none⟩, 0, by have := M5.out; omega, by rw [M5.out.2.2.2]; exact ret_val (by push_cast; omega), by rw [Nat.sub_sub], fun h => by have := FA.out; have := M5.out; omega, T2.out.drewN _, _, G2.out, NL.out, NX.out⟩
        case measure => have := M5.out; simp [intOf]; omega
      · have hcm' : m < c - k := by have := M5.out; have := FA.out; omega
        go_quiet (fail)
        go_wp2_with fail
        go_roundw
        case rel => exact ⟨k + m, some ⟨g, k + m, none⟩, c - k - m, by have := M5.out; omega, by rw [M5.out.2.2.2]; exact ret_val (by push_cast; omega), by rw [Nat.sub_sub], fun h => ⟨rfl, Nat.sub_sub ..⟩, T2.out.drewN _, _, G2.out, NL.out, NX.out⟩
        case measure => have := M5.out; simp [intOf]; omega
    · obtain rfl : k = n := by omega
      rw [Nat.sub_self]
      go_wp2_with fail
      go_ret
      obtain ⟨-, hT, cur, hg, hlen, hcur⟩ := hG.out
      refine ⟨rfl, ?_, hT⟩
      rw [hg]
      congr 3
      refine List.ext_getElem? fun j => ?_
      by_cases hj : j < k
      · rw [hcur j hj, List.map_map, List.getElem?_map, List.getElem?_range hj]; rfl
      · rw [List.getElem?_eq_none (by omega), List.getElem?_eq_none (by simp; omega)]
end Go.Proofs.Ytipepklobpnbpaa
