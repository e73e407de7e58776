/-
  Several texts as one: Texts PtRef.
-/
import Derived.Deep.QuietTactic
import Derived.BigQuiet
import Derived.Deep.AppendLies
import Derived.Deep.DeepCutAuto
import Derived.Deep.CutBlock
import Derived.Deep.RegionHeld3
import Derived.Laws.DeepStrings4
import Derived.Laws.Concat
import Derived.Lib.Strings
import Derived.Test.YtpghnhcjgjgglaaPa07
import Derived.Test.YtpghnhcjgjgglaaPa00
namespace Go.Proofs.Ytpghnhcjgjgglaa
open Go.ChangeShapes Go.WideShapes Go.ChangeAt Go.RowKit
set_option linter.unusedVariables false
set_option linter.unusedSimpArgs false
/-- append onto a row of one's own, where a guard says yes. -/
theorem wpList_append_own_yes {P : Program} {w : World} {ops : Array Oper} {rest : List Oper} {o : Oper} {a : Act} {Q : Exit → Act → World → Prop} (hgd : Region.wanted o (yielded ops a.tmps) = true) (s x : Operand) (t : TypeId)
    (ho : o.op = .call { callee := .builtin .append, args := #[s, x], argTypes := #[t, t] })
    (base : Nat) (e : TypeId) (i : TypeInfo) (z : Value) (size bytes : Nat) (ht : P.underlying t = some (.slice e)) (hi : P.info? e = some i) (hz : i.zero = some z)
    (hsize : i.size = size) (hby : i.bytes = bytes) (hzs : z.cells.size = size) (hsz : 0 < size)
    (v : Value) (n : Nat) (xs : List Value) (hs : a.eval s = v) (hown : w.ownsRow base e size v n xs)
    (ad : Addr) (m c : Nat) (news : List Value) (hx : a.eval x = .slice (some ad) m c) (hl : news.length = m * size) (hnews : ∀ j u, news[j]? = some u → w.cell? (ad.add j) = some u) (h1 : ∀ u ∈ news, u.oneCell' = true)
    (h63 : n + m ≤ maxLen) (hbytes : (n + m) * bytes ≤ 140737488355328) (hbase : base ≤ w.heap.size)
    (h : ∀ v' w', w'.ownsRow base e size v' (n + m) (xs ++ news) → w.grownBy w' v.ownBlock → wpList P ops Q rest (a.put o.dst v') w') :
    wpList P ops Q (o :: rest) a w := by
  obtain ⟨v', w', hr, h2, h3, h4, h5⟩ := run_append_own_at (P := P) w base t o.type e i z size bytes ht hi hz hsize hby hzs hsz v n xs hown ad m c news hl hnews h1 h63 hbytes hbase
  refine BigFrame.wpList_want hgd fun K hK => ?_
  unfold Oper.wp execOp
  simp only [ho, resolve, invoke, builtin, Sem.run_bind, Sem.run_pure, Result.andThen_ok, List.map_toArray, List.map_cons, List.map_nil, hs, hx, hr]
  exact hK _ _ (h v' w' h2 h3)
/-- The string of a list of bytes. -/
def bt (l : List UInt8) : ByteArray := ⟨l.toArray⟩
theorem bt_data (s : ByteArray) : bt s.data.toList = s := by cases s; simp [bt]
theorem bt_size (l : List UInt8) : (bt l).size = l.length := by simp [bt, ByteArray.size]
theorem bt_list (l : List UInt8) : (bt l).toList = l := by rw [ByteArray.toList_eq]; simp [bt]
theorem bt_inj {a b : List UInt8} (h : bt a = bt b) : a = b := by have := congrArg (fun s : ByteArray => s.toList) h; simpa [bt_list] using this
theorem bt_eq (a b : List UInt8) : ((bt a).toList == (bt b).toList) = decide (a = b) := by rw [bt_list, bt_list]; by_cases h : a = b <;> simp [h]
theorem bt_append (a b : List UInt8) : bt a ++ bt b = bt (a ++ b) := by
  apply ByteArray.ext
  simp [bt]
theorem bt_extract (l : List UInt8) (a b : Nat) : (bt l).extract a b = bt ((l.take b).drop a) := by
  have e := Go.Lib.extract_eq (bt l) a b
  rw [e]
  show _ = (⟨((l.take b).drop a).toArray⟩ : ByteArray)
  rw [List.drop_take]
  simp [bt]
def txVals (p : List UInt8) : List Value := [.string (bt p)]
def TxWf (_ : World) (p : List UInt8) : Prop := p.length ≤ maxLen
theorem txVals_len (p : List UInt8) : (txVals p).length = 1 := rfl
theorem txVals_cell (p : List UInt8) : ∀ v ∈ txVals p, v.oneCell' = true := by
  intro v hv; simp [txVals] at hv; rw [hv]; rfl
theorem txs_info : (Try.prog.info? 9).map (fun i => (i.zero, i.size, i.bytes)) = some (some (.string ByteArray.empty), 1, 16) := by kernel_rfl
section
variable {H : Type} {enc : TypeId × Value → H} {w : World} {base : Nat} {spare : Nat → Bool} {held : Bool}
theorem text_open (m : Nat) (cs : List Value) (x : DataW H × List MemPlace) (hl : cs.length = 1) (h : DataW.trod enc Try.prog w base spare held m 9 cs = some x) : ∃ z, cs = txVals z ∧ TxWf w z := by
  obtain ⟨z, hz, _, hw⟩ := DataW.trod_string Try.underlying9 h
  refine ⟨z.data.toList, ?_, ?_⟩
  · rw [hz]; unfold txVals; rw [bt_data]
  · unfold TxWf; have := bt_size z.data.toList; rw [bt_data] at this; omega
end
/-- A list of texts, one string each. -/
theorem Reads.text {w : World} {a : Option Addr} {n : Nat} {ys : List (List UInt8)} (h : Reads 1 txVals w a n ys) {k : Nat} (hk : k < n) : ∃ x b off, ys[k]? = some x ∧ a = some ⟨b, off, none⟩ ∧ w.cell? ⟨b, off + k, none⟩ = some (.string (bt x)) := by
  obtain ⟨x, b, off, h1, h2, h3⟩ := h.at_ hk
  refine ⟨x, b, off, h1, h2, ?_⟩
  have := h3 0 _ rfl
  rwa [Nat.mul_one, Nat.add_zero] at this
theorem own_sliceT {w : World} {B : Nat} {e : TypeId} {z n : Nat} {v : Value} {xs : List Value} (h : w.ownsRow B e z v n xs) : ∃ a c, v = .slice a n c ∧ (a = none → c = 0) := by
  rcases h.2 with ⟨rfl, rfl⟩ | ⟨g, cap, cur, rfl, _⟩
  · exact ⟨none, 0, rfl, fun _ => rfl⟩
  · exact ⟨_, _, rfl, (fun e => by cases e)⟩
theorem own_downT {w w' : World} {B n z : Nat} {e : TypeId} {v : Value} {xs : List Value} (h : w.ownsRow B e z v n xs) (b : Below w.heap.size w w') : w'.ownsRow B e z v n xs := (Touch.of_below (S := fun _ => False) b).own h (fun g hg e => e)
def txOver : List UInt8 := [111, 118, 101, 114]
theorem txOver_bt : (ByteArray.mk #[111, 118, 101, 114]) = bt txOver := rfl
end Go.Proofs.Ytpghnhcjgjgglaa
namespace Go.Proofs.Ytpghnhcjgjgglaa
open Go.ChangeShapes Go.WideShapes Go.ChangeAt Go.RowKit
set_option linter.unusedVariables false
set_option linter.unusedSimpArgs false
theorem bt_yes {s : Txt} {l : List UInt8} (h : s = l) : ((bt s).toList == l) = true := by rw [bt_list, h]; simp
theorem bt_no {s : Txt} {l : List UInt8} (h : ¬ s = l) : ((bt s).toList == l) = false := by rw [bt_list]; simpa using h
theorem bt_empty (s : Txt) : (bt s).toList.isEmpty = decide (s = []) := by rw [bt_list]; cases s <;> simp
theorem bt_emptyY {s : Txt} (h : s = []) : (bt s).toList.isEmpty = true := by rw [bt_empty, decide_eq_true h]
theorem bt_emptyN {s : Txt} (h : ¬ s = []) : (bt s).toList.isEmpty = false := by rw [bt_empty, decide_eq_false h]
/-- A byte of a text. -/
theorem run_index_bt (w : World) (s : Txt) {i : Nat} {c : UInt8} (h : s[i]? = some c) : (Instr.index 9 (.string (bt s)) (.int .i64 (i : Int))).run Try.prog w = .ok (.int .u8 (c.toNat : Int)) w := by
  have hi : i < s.length := (List.getElem?_eq_some_iff.1 h).1
  have e : s[i] = c := (List.getElem?_eq_some_iff.1 h).2
  rw [run_index_string w 9 (bt s) .i64 (i : Int) Try.underlying9, dif_pos ⟨by omega, by rw [bt_size]; omega⟩]
  have : (bt s)[((i : Int)).toNat]'(by rw [bt_size]; omega) = c := by
    show (bt s).data[i] = c
    simp [bt, e]
  rw [this]
theorem u8_iff (c : UInt8) (k : Nat) (hk : k < 256) : ((c.toNat : Int) = (k : Int)) ↔ c = UInt8.ofNat k := by
  constructor
  · intro e
    have : c.toNat = k := by omega
    rw [← this]; simp
  · intro h
    subst h
    simp [Nat.mod_eq_of_lt hk]
theorem u8_eq (c : UInt8) (k : Nat) (hk : k < 256) : ((c.toNat : Int) == (k : Int)) = decide (c = UInt8.ofNat k) := by
  by_cases h : c = UInt8.ofNat k
  · subst h
    simp [Nat.mod_eq_of_lt hk]
  · rw [decide_eq_false h]
    simp only [beq_eq_false_iff_ne, ne_eq]
    intro e
    apply h
    have : c.toNat = k := by omega
    rw [← this]; simp
set_option maxHeartbeats 4000000 in
theorem rname_any (w : World) (s : Txt) (hs : s.length ≤ 1000000) : Calls Try.prog 58 #[.string (bt s)] w fun e w' => e = .returned (.int .i64 (nameE s)) ∧ w = w' := by
  have z0 := bt_size s
  by_cases h0 : s = []
  · have e0 := bt_emptyY h0
    have HN := hide (show nameE s = 9 from by unfold nameE; rw [if_pos h0])
    rw [HN.out]
    clear h0 hs z0
    go_enter Try.func58, Try.ntmps58
    go_wp2_with fail
    go_ret
    exact ⟨rfl, rfl⟩
  · have e0 := bt_emptyN h0
    by_cases h8 : 8 < s.length
    · have HN := hide (nameE_long h0 h8)
      rw [HN.out]
      have n8 : (8 : Int) < ((bt s).size : Int) := by rw [z0]; omega
      clear h0 hs z0 h8
      go_enter Try.func58, Try.ntmps58
      go_wp2_with fail
      go_ret
      exact ⟨rfl, rfl⟩
    · obtain ⟨n, hn⟩ : ∃ n, n = s.length := ⟨_, rfl⟩
      have n8 : n ≤ 8 := by omega
      have z1 : (bt s).size = n := by rw [hn]; exact z0
      have HN := hide hn
      have H0 := hide h0
      have H8 := hide h8
      clear h0 hs z0 h8 hn
      go_enter Try.func58, Try.ntmps58
      go_wp2_with fail
      go_loop [3] (fun i => ∃ k : Nat, k ≤ n ∧ i = .int .i64 k ∧ Hid (∀ (j : Nat) (c : UInt8), j < k → s[j]? = some c → c ≠ 47 ∧ c ≠ 0)) (fun i => n - (intOf i).toNat)
      case atStart => exact ⟨0, Nat.zero_le _, rfl, fun j c h => absurd h (by omega)⟩
      case round =>
        obtain ⟨k, hk, rfl, hZ⟩ := hrel
        by_cases hlt : k < n
        · obtain ⟨c, hc⟩ : ∃ c, s[k]? = some c := ⟨_, List.getElem?_eq_getElem (by rw [← HN.out]; exact hlt)⟩
          have k0 : (0 : Int) ≤ (k : Int) := by omega
          have k1 : (k : Int) < (n : Int) := by omega
          obtain ⟨y, hy⟩ : ∃ y : Int, y = (c.toNat : Int) := ⟨_, rfl⟩
          have hix := fun W => run_index_bt W s hc
          rw [← hy] at hix
          by_cases h47 : c = 47
          · obtain rfl : y = 47 := by rw [hy]; exact (u8_iff c 47 (by omega)).2 h47
            have HE := hide (nameE_bad H0.out H8.out hc (.inl h47))
            clear h47 hc hy
            go_wp2_with fail
            go_ret
            exact ⟨by rw [HE.out]; rfl, rfl⟩
          · have b1 : (y == 47) = false := by have : ¬ y = 47 := (by rw [hy]; exact fun e => h47 ((u8_iff c 47 (by omega)).1 e)); simpa using this
            by_cases hz : c = 0
            · obtain rfl : y = 0 := by rw [hy]; exact (u8_iff c 0 (by omega)).2 hz
              have HE := hide (nameE_bad H0.out H8.out hc (.inr hz))
              clear h47 hc hz hy b1
              go_wp2_with fail
              go_ret
              exact ⟨by rw [HE.out]; rfl, rfl⟩
            · have b2 : (y == 0) = false := by have : ¬ y = 0 := (by rw [hy]; exact fun e => hz ((u8_iff c 0 (by omega)).1 e)); simpa using this
              have HZ2 : Hid (∀ (j : Nat) (c : UInt8), j < k + 1 → s[j]? = some c → c ≠ 47 ∧ c ≠ 0) := by
                intro j c' hj hc'
                by_cases e : j = k
                · subst e; rw [hc] at hc'; injection hc' with hc'; subst hc'; exact ⟨h47, hz⟩
                · exact hZ.out j c' (by omega) hc'
              clear h47 hc hz hZ hy
              go_wp2_with fail
              go_round
              case rel => exact ⟨k + 1, by omega, by go_num, HZ2⟩
              case measure => simp [intOf]; omega
        · obtain rfl : k = n := by omega
          have HG := hide (nameE_good H0.out H8.out (fun i c hi => hZ.out i c (by have := (List.getElem?_eq_some_iff.1 hi).1; rw [HN.out]; exact this) hi))
          by_cases h1 : s = [46]
          · have e1 := bt_yes h1
            have HE := hide (show nameE s = 19 from by rw [HG.out, if_pos (.inl h1)])
            clear h1
            go_wp2_with fail
            go_ret
            exact ⟨by rw [HE.out]; rfl, rfl⟩
          · have e1 := bt_no h1
            by_cases h2 : s = [46, 46]
            · have e2 := bt_yes h2
              have HE := hide (show nameE s = 19 from by rw [HG.out, if_pos (.inr h2)])
              clear h1 h2
              go_wp2_with fail
              go_ret
              exact ⟨by rw [HE.out]; rfl, rfl⟩
            · have e2 := bt_no h2
              have HE := hide (show nameE s = 0 from by rw [HG.out, if_neg (by simp [h1, h2])])
              clear h1 h2
              go_wp2_with fail
              go_ret
              exact ⟨by rw [HE.out]; rfl, rfl⟩
theorem run_slice_bt (w : World) (s : Txt) {a k : Nat} (h1 : a ≤ k) (h2 : k ≤ s.length) : (Instr.slice 9 (.string (bt s)) (some (.int .i64 (a : Int))) (some (.int .i64 (k : Int))) none).run Try.prog w = .ok (.string (bt ((s.take k).drop a))) w := by
  have := run_slice_string (P := Try.prog) w 9 (bt s) .i64 .i64 (a : Int) (k : Int) Try.underlying9 (by omega) (by omega) (by rw [bt_size]; omega)
  rw [this]
  simp [bt_extract]
/-- Split's loop, at place k of s: a is behind the last slash, ls are the names till there. -/
structure SplitI (s : Txt) (k a : Nat) (ls : List Txt) : Prop where
  k1 : 1 ≤ k
  kn : k ≤ s.length + 1
  ak : a ≤ k
  len : ls.length ≤ k
  ok : firstE ls = 0
  go : k ≤ s.length → cutsA [] (s.drop 1) = ls ++ cutsA ((s.take k).drop a) (s.drop k)
  fin : k = s.length + 1 → cutsA [] (s.drop 1) = ls
theorem SplitI.skip {s : Txt} {k a : Nat} {ls : List Txt} (h : SplitI s k a ls) {c : UInt8} (hc : s[k]? = some c) (hn : c ≠ 47) : SplitI s (k + 1) a ls := by
  have hk : k < s.length := (List.getElem?_eq_some_iff.1 hc).1
  exact ⟨by omega, by omega, by have := h.ak; omega, by have := h.len; omega, h.ok, fun _ => by rw [h.go (by omega), cuts_go hc hn, take_drop_snoc h.ak hc], fun e => by omega⟩
theorem SplitI.cut {s : Txt} {k a : Nat} {ls : List Txt} (h : SplitI s k a ls) (hk : k ≤ s.length) (hc : k = s.length ∨ s[k]? = some 47) (hn : nameE ((s.take k).drop a) = 0) : SplitI s (k + 1) (k + 1) (ls ++ [(s.take k).drop a]) := by
  refine ⟨by omega, by omega, by omega, by have := h.len; simp; omega, firstE_snoc h.ok hn, fun h2 => ?_, fun h2 => ?_⟩
  · have e := hc.resolve_left (by omega)
    rw [h.go hk, cuts_stop e]
    have : (s.take (k + 1)).drop (k + 1) = [] := by rw [List.drop_eq_nil_iff, List.length_take]; omega
    rw [this]
    simp
  · have e : k = s.length := by omega
    rw [h.go hk, cuts_end e]
theorem SplitI.bad {s : Txt} {k a : Nat} {ls : List Txt} (h : SplitI s k a ls) (hk : k ≤ s.length) (hc : k = s.length ∨ s[k]? = some 47) (hn : nameE ((s.take k).drop a) ≠ 0) : firstE (cutsA [] (s.drop 1)) = nameE ((s.take k).drop a) := by
  rcases hc with e | e
  · rw [h.go hk, cuts_end e]; exact firstE_stop h.ok hn
  · rw [h.go hk, cuts_stop e]; exact firstE_stop h.ok hn
/-- What Split answers. -/
def SplitIs (w : World) (s : Txt) (e : Ending) (w' : World) : Prop :=
  ∃ v, e = .returned (.tuple #[v, .int .i64 (splitT s).2]) ∧ w'.ownsRow w.heap.size 9 1 v (splitT s).1.length ((splitT s).1.flatMap txVals) ∧ Below w.heap.size w w'
theorem SplitIs.none {w w' : World} {s : Txt} {x : Int} (h : splitT s = ([], x)) (b : Below w.heap.size w w') : SplitIs w s (.returned (.tuple #[.slice none 0 0, .int .i64 x])) w' := by
  refine ⟨.slice Option.none 0 0, by rw [h], ?_, b⟩
  rw [h]
  exact World.ownsRow_nil _ _ _ _
theorem run_add_bt (w : World) (a b : List UInt8) (h : a.length + b.length ≤ 1000000) : (Op.stringOp .add (bt a) (bt b)).run Try.prog w = .ok (.string (bt (a ++ b))) w := by
  rw [run_string_add_sum (P := Try.prog) w (bt a) (bt b) (by rw [bt_size, bt_size]; omega), bt_append]
theorem joined_take {l : List Txt} {k : Nat} {p : Txt} (hp : l[k]? = some p) : joined (l.take (k + 1)) = joined (l.take k) ++ 47 :: p := by
  have e : l.take (k + 1) = l.take k ++ [p] := by rw [List.take_add_one, hp]; rfl
  rw [e, joined_snoc]
/-- What Parent answers. -/
def ParIs (w : World) (s : Txt) (e : Ending) (w' : World) : Prop := e = .returned (.tuple #[.string (bt (parT s).1), .string (bt (parT s).2.1), .int .i64 (parT s).2.2]) ∧ Below w.heap.size w w'
end Go.Proofs.Ytpghnhcjgjgglaa
