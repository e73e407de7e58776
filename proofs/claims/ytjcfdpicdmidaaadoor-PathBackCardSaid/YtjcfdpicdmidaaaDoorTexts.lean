/-
  Texts: strings as lists of bytes; slices of strings that come in, that read as lists of texts; the same, written over (coxswainlaw0).
-/
import Derived.Test.YtjcfdpicdmidaaaDoorGRow
import Derived.Deep.QuietTactic
import Derived.BigQuiet
import Derived.Deep.AppendLies
import Derived.Deep.DeepCutAuto
import Derived.Deep.CutBlock
import Derived.Deep.RegionHeld3
import Derived.Laws.DeepStrings4
import Derived.Laws.Concat
import Derived.Lib.Strings
namespace Go.Proofs.YtjcfdpicdmidaaaDoor
open Go.ChangeShapes Go.WideShapes Go.ChangeAt Go.RowKit
set_option linter.unusedVariables false
set_option linter.unusedSimpArgs false
/-- append onto a row of one's own, where a guard says yes. -/
theorem wpList_append_own_yes {P : Program} {w : World} {ops : Array Oper} {rest : List Oper} {o : Oper} {a : Act} {Q : Exit → Act → World → Prop} (hgd : Region.wanted o (yielded ops a.tmps) = true) (s x : Operand) (t : TypeId)
    (ho : o.op = .call { callee := .builtin .append, args := #[s, x], argTypes := #[t, t] })
    (base : Nat) (e : TypeId) (i : TypeInfo) (z : Value) (size bytes : Nat) (ht : P.underlying t = some (.slice e)) (hi : P.info? e = some i) (hz : i.zero = some z)
    (hsize : i.size = size) (hby : i.bytes = bytes) (hzs : z.cells.size = size) (hsz : 0 < size)
    (v : Value) (n : Nat) (xs : List Value) (hs : a.eval s = v) (hown : w.ownsRow base e size v n xs)
    (ad : Addr) (m c : Nat) (news : List Value) (hx : a.eval x = .slice (some ad) m c) (hl : news.length = m * size) (hnews : ∀ j u, news[j]? = some u → w.cell? (ad.add j) = some u) (h1 : ∀ u ∈ news, u.oneCell' = true)
    (h63 : n + m ≤ maxLen) (hbytes : (n + m) * bytes ≤ 140737488355328) (hbase : base ≤ w.heap.size)
    (h : ∀ v' w', w'.ownsRow base e size v' (n + m) (xs ++ news) → w.grownBy w' v.ownBlock → wpList P ops Q rest (a.put o.dst v') w') :
    wpList P ops Q (o :: rest) a w := by
  obtain ⟨v', w', hr, h2, h3, h4, h5⟩ := run_append_own_at (P := P) w base t o.type e i z size bytes ht hi hz hsize hby hzs hsz v n xs hown ad m c news hl hnews h1 h63 hbytes hbase
  refine BigFrame.wpList_want hgd fun K hK => ?_
  unfold Oper.wp execOp
  simp only [ho, resolve, invoke, builtin, Sem.run_bind, Sem.run_pure, Result.andThen_ok, List.map_toArray, List.map_cons, List.map_nil, hs, hx, hr]
  exact hK _ _ (h v' w' h2 h3)
/-- The string of a list of bytes. -/
def bt (l : List UInt8) : ByteArray := ⟨l.toArray⟩
theorem bt_data (s : ByteArray) : bt s.data.toList = s := by cases s; simp [bt]
theorem bt_size (l : List UInt8) : (bt l).size = l.length := by simp [bt, ByteArray.size]
theorem bt_list (l : List UInt8) : (bt l).toList = l := by rw [ByteArray.toList_eq]; simp [bt]
theorem bt_inj {a b : List UInt8} (h : bt a = bt b) : a = b := by have := congrArg (fun s : ByteArray => s.toList) h; simpa [bt_list] using this
theorem bt_eq (a b : List UInt8) : ((bt a).toList == (bt b).toList) = decide (a = b) := by rw [bt_list, bt_list]; by_cases h : a = b <;> simp [h]
theorem bt_append (a b : List UInt8) : bt a ++ bt b = bt (a ++ b) := by
  apply ByteArray.ext
  simp [bt]
theorem bt_extract (l : List UInt8) (a b : Nat) : (bt l).extract a b = bt ((l.take b).drop a) := by
  have e := Go.Lib.extract_eq (bt l) a b
  rw [e]
  show _ = (⟨((l.take b).drop a).toArray⟩ : ByteArray)
  rw [List.drop_take]
  simp [bt]
def txVals (p : List UInt8) : List Value := [.string (bt p)]
def TxWf (_ : World) (p : List UInt8) : Prop := p.length ≤ maxLen
theorem txVals_len (p : List UInt8) : (txVals p).length = 1 := rfl
theorem txVals_cell (p : List UInt8) : ∀ v ∈ txVals p, v.oneCell' = true := by
  intro v hv; simp [txVals] at hv; rw [hv]; rfl
theorem txs_info : (Tryd.prog.info? 9).map (fun i => (i.zero, i.size, i.bytes)) = some (some (.string ByteArray.empty), 1, 16) := by kernel_rfl
section
variable {H : Type} {enc : TypeId × Value → H} {w : World} {base : Nat} {spare : Nat → Bool} {held : Bool}
theorem text_open (m : Nat) (cs : List Value) (x : DataW H × List MemPlace) (hl : cs.length = 1) (h : DataW.trod enc Tryd.prog w base spare held m 9 cs = some x) : ∃ z, cs = txVals z ∧ TxWf w z := by
  obtain ⟨z, hz, _, hw⟩ := DataW.trod_string Tryd.underlying9 h
  refine ⟨z.data.toList, ?_, ?_⟩
  · rw [hz]; unfold txVals; rw [bt_data]
  · unfold TxWf; have := bt_size z.data.toList; rw [bt_data] at this; omega
end
/-- A list of texts, one string each. -/
theorem Reads.text {w : World} {a : Option Addr} {n : Nat} {ys : List (List UInt8)} (h : Reads 1 txVals w a n ys) {k : Nat} (hk : k < n) : ∃ x b off, ys[k]? = some x ∧ a = some ⟨b, off, none⟩ ∧ w.cell? ⟨b, off + k, none⟩ = some (.string (bt x)) := by
  obtain ⟨x, b, off, h1, h2, h3⟩ := h.at_ hk
  refine ⟨x, b, off, h1, h2, ?_⟩
  have := h3 0 _ rfl
  rwa [Nat.mul_one, Nat.add_zero] at this
set_option maxHeartbeats 4000000 in
theorem sameTexts_any (a b : Option Addr) (n c d : Nat) (ys : List (List UInt8)) (w : World) (ha : Reads 1 txVals w a n ys) (hb : Reads 1 txVals w b n ys) (hn : n ≤ 1000000) :
    Calls Tryd.prog 11 #[.slice a n c, .slice b n d] w fun e w' => e = .returned (.bool true) ∧ Below w.heap.size w w' := by
  have HA := hide ha
  have HB := hide hb
  have g0 : ((n : Int) != (n : Int)) = false := by simp
  clear ha hb
  go_enter Tryd.func11, Tryd.ntmps11
  go_wp2_with fail
  go_loopw [5] (fun i wr => ∃ k : Nat, k ≤ n ∧ i = .int .i64 k ∧ Hid (∃ q, wr = w.drewN q)) (fun i _ => n - (intOf i).toNat)
  case atStart => exact ⟨0, Nat.zero_le _, rfl, 0, rfl⟩
  case round =>
    obtain ⟨k, hk, rfl, hZ⟩ := hrel
    by_cases hlt : k < n
    · have k0 : (0 : Int) ≤ (k : Int) := by omega
      have k1 : (k : Int) < (n : Int) := by omega
      obtain ⟨x, b1, o1, hx, rfl, hp⟩ := HA.out.text hlt
      obtain ⟨x', b2, o2, hx', rfl, hq⟩ := HB.out.text hlt
      rw [hx] at hx'
      injection hx' with hx'
      subst hx'
      have DR := hide (show ∃ q, wr = w.drewN q from hZ.out)
      have hcell : ∀ p : Addr, wr.cell? p = w.cell? p := fun p => by obtain ⟨q, rfl⟩ := hZ.out; rfl
      have p0 : wr.cell? ⟨b1, o1 + k, none⟩ = some (.string (bt x)) := (hcell _).trans hp
      have q0 : wr.cell? ⟨b2, o2 + k, none⟩ = some (.string (bt x)) := (hcell _).trans hq
      clear hp hq hx hcell hZ
      go_upto_region 6 with fail
      go_quiet (fail)
      have DR2 : Hid (∃ q, wr.drewN nq = w.drewN q) := (show ∃ q, wr.drewN nq = w.drewN q from by
        obtain ⟨q, rfl⟩ := DR.out
        exact ⟨q + nq, by simp [World.drewN, Nat.add_assoc]⟩)
      clear p0 q0 DR
      generalize wr.drewN nq = w2 at *
      go_wp2_with fail
      go_roundw
      case rel => exact ⟨k + 1, by omega, by go_num, DR2.out⟩
      case measure => simp [intOf]; omega
    · obtain rfl : k = n := by omega
      go_wp2_with fail
      go_ret
      obtain ⟨q, rfl⟩ := hZ.out
      exact ⟨rfl, below_drewN (Below.refl _ _) q⟩
theorem own_sliceT {w : World} {B : Nat} {e : TypeId} {z n : Nat} {v : Value} {xs : List Value} (h : w.ownsRow B e z v n xs) : ∃ a c, v = .slice a n c ∧ (a = none → c = 0) := by
  rcases h.2 with ⟨rfl, rfl⟩ | ⟨g, cap, cur, rfl, _⟩
  · exact ⟨none, 0, rfl, fun _ => rfl⟩
  · exact ⟨_, _, rfl, (fun e => by cases e)⟩
theorem own_downT {w w' : World} {B n z : Nat} {e : TypeId} {v : Value} {xs : List Value} (h : w.ownsRow B e z v n xs) (b : Below w.heap.size w w') : w'.ownsRow B e z v n xs := (Touch.of_below (S := fun _ => False) b).own h (fun g hg e => e)
def txOver : List UInt8 := [111, 118, 101, 114]
theorem txOver_bt : (ByteArray.mk #[111, 118, 101, 114]) = bt txOver := rfl
set_option maxRecDepth 10000 in
set_option maxHeartbeats 4000000 in
theorem overTexts_any (v : Value) (n : Nat) (xs : List Value) (w : World) {B : Nat} (hv : w.ownsRow B 9 1 v n xs) (hn : n ≤ 1000000) :
    Calls Tryd.prog 15 #[v] w fun e w' => e = .returned (.tuple #[]) ∧ Touch (fun i => v.ownBlock = some i) w w' := by
  obtain ⟨i0, hi0, hz0, hz1, hz2⟩ := info_parts txs_info
  obtain ⟨a, c, rfl, _⟩ := own_sliceT hv
  have HZ := hide hz2
  clear hz2
  go_enter Tryd.func15, Tryd.ntmps15
  go_wp2_with fail
  go_loopw [2] (fun i wr => ∃ (k : Nat) (ys : List Value), k ≤ n ∧ i = .int .i64 k ∧ Hid (wr.ownsRow B 9 1 (.slice a n c) n ys ∧ Touch (fun i => (Value.slice a n c).ownBlock = some i) w wr)) (fun i _ => n - (intOf i).toNat)
  case atStart => exact ⟨0, xs, Nat.zero_le _, rfl, hv, Touch.refl _ _⟩
  case round =>
    obtain ⟨k, ys, hk, rfl, hZ⟩ := hrel
    have ho := hZ.out.1
    have hb := hZ.out.2
    by_cases hlt : k < n
    · obtain ⟨g, cap, e⟩ : ∃ g cap, (Value.slice a n c) = .slice (some ⟨g, 0, none⟩) n cap := by
        rcases ho.2 with ⟨_, h⟩ | ⟨g, cap, cur, e, _⟩
        · omega
        · exact ⟨_, _, e⟩
      injection e with e1 _ e2
      subst e1 e2
      have hl : ys.length = n * 1 := ho.1
      have k0 : (0 : Int) ≤ (k : Int) := by omega
      have k1 : (k : Int) < (n : Int) := by omega
      obtain ⟨u0, c0⟩ : ∃ u, wr.cell? ⟨g, k, none⟩ = some u := ⟨_, (ho.cellAt k (by omega)).trans (List.getElem?_eq_getElem (by omega))⟩
      have f0 := ho.frozenAt k
      have S := hide (ho.stored k (.string (ByteArray.mk #[111, 118, 101, 114]))).1
      have B1 := hide (hb.setCell (p := ⟨g, k, none⟩) rfl (.string (ByteArray.mk #[111, 118, 101, 114])))
      clear ho hb hv hZ
      go_wp2_with fail
      go_roundw
      case rel => exact ⟨k + 1, _, by omega, by go_num, S.out, B1.out⟩
      case measure => simp [intOf]; omega
    · have HO := hide ho
      have HB := hide hb
      clear hv ho hb hZ
      have hby : (n + 1) * 16 ≤ 140737488355328 := by omega
      go_wp2_with (at_builtin; refine wpList_append_own_at _ rfl (.tmp 12) (.tmp 13) _ rfl 0 9 i0 _ 1 16 Tryd.underlying23 hi0 hz0 hz1 HZ.out rfl (by omega) _ _ _ rfl (own_base (HO.out.alloc _) (Nat.zero_le _)) ⟨wr.heap.size, 0, none⟩ 1 1 (txVals txOver) rfl rfl (cells_new wr (txVals txOver) _ _ rfl) (txVals_cell txOver) (by unfold maxLen; omega) hby (Nat.zero_le _) ?_; intro v9 w9 o9 g9 _ t9; have hr' := hide ((HB.out.alloc _).trans (Touch.of_grown (S := fun i => (Value.slice a n c).ownBlock = some i) g9 (fun g e => e)) (fun i e => .inl e)); clear g9 t9)
      go_end0
      exact ⟨rfl, hr'.out⟩
end Go.Proofs.YtjcfdpicdmidaaaDoor
