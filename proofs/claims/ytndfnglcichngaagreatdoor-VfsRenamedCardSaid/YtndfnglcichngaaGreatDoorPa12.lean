/-
  Several texts as one: Texts PtRef PtBoth.
-/
import Derived.Deep.QuietTactic
import Derived.BigQuiet
import Derived.Deep.AppendLies
import Derived.Deep.DeepCutAuto
import Derived.Deep.CutBlock
import Derived.Deep.RegionHeld3
import Derived.Laws.DeepStrings4
import Derived.Laws.Concat
import Derived.Lib.Strings
import Derived.Test.YtndfnglcichngaaGreatDoorPa07
import Derived.Test.YtndfnglcichngaaGreatDoorPa00
namespace Go.Proofs.YtndfnglcichngaaGreatDoor
open Go.ChangeShapes Go.WideShapes Go.ChangeAt Go.RowKit
set_option linter.unusedVariables false
set_option linter.unusedSimpArgs false
/-- append onto a row of one's own, where a guard says yes. -/
theorem wpList_append_own_yes {P : Program} {w : World} {ops : Array Oper} {rest : List Oper} {o : Oper} {a : Act} {Q : Exit → Act → World → Prop} (hgd : Region.wanted o (yielded ops a.tmps) = true) (s x : Operand) (t : TypeId)
    (ho : o.op = .call { callee := .builtin .append, args := #[s, x], argTypes := #[t, t] })
    (base : Nat) (e : TypeId) (i : TypeInfo) (z : Value) (size bytes : Nat) (ht : P.underlying t = some (.slice e)) (hi : P.info? e = some i) (hz : i.zero = some z)
    (hsize : i.size = size) (hby : i.bytes = bytes) (hzs : z.cells.size = size) (hsz : 0 < size)
    (v : Value) (n : Nat) (xs : List Value) (hs : a.eval s = v) (hown : w.ownsRow base e size v n xs)
    (ad : Addr) (m c : Nat) (news : List Value) (hx : a.eval x = .slice (some ad) m c) (hl : news.length = m * size) (hnews : ∀ j u, news[j]? = some u → w.cell? (ad.add j) = some u) (h1 : ∀ u ∈ news, u.oneCell' = true)
    (h63 : n + m ≤ maxLen) (hbytes : (n + m) * bytes ≤ 140737488355328) (hbase : base ≤ w.heap.size)
    (h : ∀ v' w', w'.ownsRow base e size v' (n + m) (xs ++ news) → w.grownBy w' v.ownBlock → wpList P ops Q rest (a.put o.dst v') w') :
    wpList P ops Q (o :: rest) a w := by
  obtain ⟨v', w', hr, h2, h3, h4, h5⟩ := run_append_own_at (P := P) w base t o.type e i z size bytes ht hi hz hsize hby hzs hsz v n xs hown ad m c news hl hnews h1 h63 hbytes hbase
  refine BigFrame.wpList_want hgd fun K hK => ?_
  unfold Oper.wp execOp
  simp only [ho, resolve, invoke, builtin, Sem.run_bind, Sem.run_pure, Result.andThen_ok, List.map_toArray, List.map_cons, List.map_nil, hs, hx, hr]
  exact hK _ _ (h v' w' h2 h3)
/-- The string of a list of bytes. -/
def bt (l : List UInt8) : ByteArray := ⟨l.toArray⟩
theorem bt_data (s : ByteArray) : bt s.data.toList = s := by cases s; simp [bt]
theorem bt_size (l : List UInt8) : (bt l).size = l.length := by simp [bt, ByteArray.size]
theorem bt_list (l : List UInt8) : (bt l).toList = l := by rw [ByteArray.toList_eq]; simp [bt]
theorem bt_inj {a b : List UInt8} (h : bt a = bt b) : a = b := by have := congrArg (fun s : ByteArray => s.toList) h; simpa [bt_list] using this
theorem bt_eq (a b : List UInt8) : ((bt a).toList == (bt b).toList) = decide (a = b) := by rw [bt_list, bt_list]; by_cases h : a = b <;> simp [h]
theorem bt_append (a b : List UInt8) : bt a ++ bt b = bt (a ++ b) := by
  apply ByteArray.ext
  simp [bt]
theorem bt_extract (l : List UInt8) (a b : Nat) : (bt l).extract a b = bt ((l.take b).drop a) := by
  have e := Go.Lib.extract_eq (bt l) a b
  rw [e]
  show _ = (⟨((l.take b).drop a).toArray⟩ : ByteArray)
  rw [List.drop_take]
  simp [bt]
def txVals (p : List UInt8) : List Value := [.string (bt p)]
def TxWf (_ : World) (p : List UInt8) : Prop := p.length ≤ maxLen
theorem txVals_len (p : List UInt8) : (txVals p).length = 1 := rfl
theorem txVals_cell (p : List UInt8) : ∀ v ∈ txVals p, v.oneCell' = true := by
  intro v hv; simp [txVals] at hv; rw [hv]; rfl
theorem txs_info : (Tryz.prog.info? 9).map (fun i => (i.zero, i.size, i.bytes)) = some (some (.string ByteArray.empty), 1, 16) := by kernel_rfl
section
variable {H : Type} {enc : TypeId × Value → H} {w : World} {base : Nat} {spare : Nat → Bool} {held : Bool}
theorem text_open (m : Nat) (cs : List Value) (x : DataW H × List MemPlace) (hl : cs.length = 1) (h : DataW.trod enc Tryz.prog w base spare held m 9 cs = some x) : ∃ z, cs = txVals z ∧ TxWf w z := by
  obtain ⟨z, hz, _, hw⟩ := DataW.trod_string Tryz.underlying9 h
  refine ⟨z.data.toList, ?_, ?_⟩
  · rw [hz]; unfold txVals; rw [bt_data]
  · unfold TxWf; have := bt_size z.data.toList; rw [bt_data] at this; omega
end
/-- A list of texts, one string each. -/
theorem Reads.text {w : World} {a : Option Addr} {n : Nat} {ys : List (List UInt8)} (h : Reads 1 txVals w a n ys) {k : Nat} (hk : k < n) : ∃ x b off, ys[k]? = some x ∧ a = some ⟨b, off, none⟩ ∧ w.cell? ⟨b, off + k, none⟩ = some (.string (bt x)) := by
  obtain ⟨x, b, off, h1, h2, h3⟩ := h.at_ hk
  refine ⟨x, b, off, h1, h2, ?_⟩
  have := h3 0 _ rfl
  rwa [Nat.mul_one, Nat.add_zero] at this
theorem own_sliceT {w : World} {B : Nat} {e : TypeId} {z n : Nat} {v : Value} {xs : List Value} (h : w.ownsRow B e z v n xs) : ∃ a c, v = .slice a n c ∧ (a = none → c = 0) := by
  rcases h.2 with ⟨rfl, rfl⟩ | ⟨g, cap, cur, rfl, _⟩
  · exact ⟨none, 0, rfl, fun _ => rfl⟩
  · exact ⟨_, _, rfl, (fun e => by cases e)⟩
theorem own_downT {w w' : World} {B n z : Nat} {e : TypeId} {v : Value} {xs : List Value} (h : w.ownsRow B e z v n xs) (b : Below w.heap.size w w') : w'.ownsRow B e z v n xs := (Touch.of_below (S := fun _ => False) b).own h (fun g hg e => e)
def txOver : List UInt8 := [111, 118, 101, 114]
theorem txOver_bt : (ByteArray.mk #[111, 118, 101, 114]) = bt txOver := rfl
end Go.Proofs.YtndfnglcichngaaGreatDoor
namespace Go.Proofs.YtndfnglcichngaaGreatDoor
open Go.ChangeShapes Go.WideShapes Go.ChangeAt Go.RowKit
set_option linter.unusedVariables false
set_option linter.unusedSimpArgs false
theorem bt_yes {s : Txt} {l : List UInt8} (h : s = l) : ((bt s).toList == l) = true := by rw [bt_list, h]; simp
theorem bt_no {s : Txt} {l : List UInt8} (h : ¬ s = l) : ((bt s).toList == l) = false := by rw [bt_list]; simpa using h
theorem bt_empty (s : Txt) : (bt s).toList.isEmpty = decide (s = []) := by rw [bt_list]; cases s <;> simp
theorem bt_emptyY {s : Txt} (h : s = []) : (bt s).toList.isEmpty = true := by rw [bt_empty, decide_eq_true h]
theorem bt_emptyN {s : Txt} (h : ¬ s = []) : (bt s).toList.isEmpty = false := by rw [bt_empty, decide_eq_false h]
/-- A byte of a text. -/
theorem run_index_bt (w : World) (s : Txt) {i : Nat} {c : UInt8} (h : s[i]? = some c) : (Instr.index 9 (.string (bt s)) (.int .i64 (i : Int))).run Tryz.prog w = .ok (.int .u8 (c.toNat : Int)) w := by
  have hi : i < s.length := (List.getElem?_eq_some_iff.1 h).1
  have e : s[i] = c := (List.getElem?_eq_some_iff.1 h).2
  rw [run_index_string w 9 (bt s) .i64 (i : Int) Tryz.underlying9, dif_pos ⟨by omega, by rw [bt_size]; omega⟩]
  have : (bt s)[((i : Int)).toNat]'(by rw [bt_size]; omega) = c := by
    show (bt s).data[i] = c
    simp [bt, e]
  rw [this]
theorem u8_iff (c : UInt8) (k : Nat) (hk : k < 256) : ((c.toNat : Int) = (k : Int)) ↔ c = UInt8.ofNat k := by
  constructor
  · intro e
    have : c.toNat = k := by omega
    rw [← this]; simp
  · intro h
    subst h
    simp [Nat.mod_eq_of_lt hk]
theorem u8_eq (c : UInt8) (k : Nat) (hk : k < 256) : ((c.toNat : Int) == (k : Int)) = decide (c = UInt8.ofNat k) := by
  by_cases h : c = UInt8.ofNat k
  · subst h
    simp [Nat.mod_eq_of_lt hk]
  · rw [decide_eq_false h]
    simp only [beq_eq_false_iff_ne, ne_eq]
    intro e
    apply h
    have : c.toNat = k := by omega
    rw [← this]; simp
set_option maxHeartbeats 4000000 in
theorem rname_any (w : World) (s : Txt) (hs : s.length ≤ 1000000) : Calls Tryz.prog 117 #[.string (bt s)] w fun e w' => e = .returned (.int .i64 (nameE s)) ∧ w = w' := by
  have z0 := bt_size s
  by_cases h0 : s = []
  · have e0 := bt_emptyY h0
    have HN := hide (show nameE s = 9 from by unfold nameE; rw [if_pos h0])
    rw [HN.out]
    clear h0 hs z0
    go_enter Tryz.func117, Tryz.ntmps117
    go_wp2_with fail
    go_ret
    exact ⟨rfl, rfl⟩
  · have e0 := bt_emptyN h0
    by_cases h8 : 8 < s.length
    · have HN := hide (nameE_long h0 h8)
      rw [HN.out]
      have n8 : (8 : Int) < ((bt s).size : Int) := by rw [z0]; omega
      clear h0 hs z0 h8
      go_enter Tryz.func117, Tryz.ntmps117
      go_wp2_with fail
      go_ret
      exact ⟨rfl, rfl⟩
    · obtain ⟨n, hn⟩ : ∃ n, n = s.length := ⟨_, rfl⟩
      have n8 : n ≤ 8 := by omega
      have z1 : (bt s).size = n := by rw [hn]; exact z0
      have HN := hide hn
      have H0 := hide h0
      have H8 := hide h8
      clear h0 hs z0 h8 hn
      go_enter Tryz.func117, Tryz.ntmps117
      go_wp2_with fail
      go_loop [3] (fun i => ∃ k : Nat, k ≤ n ∧ i = .int .i64 k ∧ Hid (∀ (j : Nat) (c : UInt8), j < k → s[j]? = some c → c ≠ 47 ∧ c ≠ 0)) (fun i => n - (intOf i).toNat)
      case atStart => exact ⟨0, Nat.zero_le _, rfl, fun j c h => absurd h (by omega)⟩
      case round =>
        obtain ⟨k, hk, rfl, hZ⟩ := hrel
        by_cases hlt : k < n
        · obtain ⟨c, hc⟩ : ∃ c, s[k]? = some c := ⟨_, List.getElem?_eq_getElem (by rw [← HN.out]; exact hlt)⟩
          have k0 : (0 : Int) ≤ (k : Int) := by omega
          have k1 : (k : Int) < (n : Int) := by omega
          obtain ⟨y, hy⟩ : ∃ y : Int, y = (c.toNat : Int) := ⟨_, rfl⟩
          have hix := fun W => run_index_bt W s hc
          rw [← hy] at hix
          by_cases h47 : c = 47
          · obtain rfl : y = 47 := by rw [hy]; exact (u8_iff c 47 (by omega)).2 h47
            have HE := hide (nameE_bad H0.out H8.out hc (.inl h47))
            clear h47 hc hy
            go_wp2_with fail
            go_ret
            exact ⟨by rw [HE.out]; rfl, rfl⟩
          · have b1 : (y == 47) = false := by have : ¬ y = 47 := (by rw [hy]; exact fun e => h47 ((u8_iff c 47 (by omega)).1 e)); simpa using this
            by_cases hz : c = 0
            · obtain rfl : y = 0 := by rw [hy]; exact (u8_iff c 0 (by omega)).2 hz
              have HE := hide (nameE_bad H0.out H8.out hc (.inr hz))
              clear h47 hc hz hy b1
              go_wp2_with fail
              go_ret
              exact ⟨by rw [HE.out]; rfl, rfl⟩
            · have b2 : (y == 0) = false := by have : ¬ y = 0 := (by rw [hy]; exact fun e => hz ((u8_iff c 0 (by omega)).1 e)); simpa using this
              have HZ2 : Hid (∀ (j : Nat) (c : UInt8), j < k + 1 → s[j]? = some c → c ≠ 47 ∧ c ≠ 0) := by
                intro j c' hj hc'
                by_cases e : j = k
                · subst e; rw [hc] at hc'; injection hc' with hc'; subst hc'; exact ⟨h47, hz⟩
                · exact hZ.out j c' (by omega) hc'
              clear h47 hc hz hZ hy
              go_wp2_with fail
              go_round
              case rel => exact ⟨k + 1, by omega, by go_num, HZ2⟩
              case measure => simp [intOf]; omega
        · obtain rfl : k = n := by omega
          have HG := hide (nameE_good H0.out H8.out (fun i c hi => hZ.out i c (by have := (List.getElem?_eq_some_iff.1 hi).1; rw [HN.out]; exact this) hi))
          by_cases h1 : s = [46]
          · have e1 := bt_yes h1
            have HE := hide (show nameE s = 19 from by rw [HG.out, if_pos (.inl h1)])
            clear h1
            go_wp2_with fail
            go_ret
            exact ⟨by rw [HE.out]; rfl, rfl⟩
          · have e1 := bt_no h1
            by_cases h2 : s = [46, 46]
            · have e2 := bt_yes h2
              have HE := hide (show nameE s = 19 from by rw [HG.out, if_pos (.inr h2)])
              clear h1 h2
              go_wp2_with fail
              go_ret
              exact ⟨by rw [HE.out]; rfl, rfl⟩
            · have e2 := bt_no h2
              have HE := hide (show nameE s = 0 from by rw [HG.out, if_neg (by simp [h1, h2])])
              clear h1 h2
              go_wp2_with fail
              go_ret
              exact ⟨by rw [HE.out]; rfl, rfl⟩
theorem run_slice_bt (w : World) (s : Txt) {a k : Nat} (h1 : a ≤ k) (h2 : k ≤ s.length) : (Instr.slice 9 (.string (bt s)) (some (.int .i64 (a : Int))) (some (.int .i64 (k : Int))) none).run Tryz.prog w = .ok (.string (bt ((s.take k).drop a))) w := by
  have := run_slice_string (P := Tryz.prog) w 9 (bt s) .i64 .i64 (a : Int) (k : Int) Tryz.underlying9 (by omega) (by omega) (by rw [bt_size]; omega)
  rw [this]
  simp [bt_extract]
/-- Split's loop, at place k of s: a is behind the last slash, ls are the names till there. -/
structure SplitI (s : Txt) (k a : Nat) (ls : List Txt) : Prop where
  k1 : 1 ≤ k
  kn : k ≤ s.length + 1
  ak : a ≤ k
  len : ls.length ≤ k
  ok : firstE ls = 0
  go : k ≤ s.length → cutsA [] (s.drop 1) = ls ++ cutsA ((s.take k).drop a) (s.drop k)
  fin : k = s.length + 1 → cutsA [] (s.drop 1) = ls
theorem SplitI.skip {s : Txt} {k a : Nat} {ls : List Txt} (h : SplitI s k a ls) {c : UInt8} (hc : s[k]? = some c) (hn : c ≠ 47) : SplitI s (k + 1) a ls := by
  have hk : k < s.length := (List.getElem?_eq_some_iff.1 hc).1
  exact ⟨by omega, by omega, by have := h.ak; omega, by have := h.len; omega, h.ok, fun _ => by rw [h.go (by omega), cuts_go hc hn, take_drop_snoc h.ak hc], fun e => by omega⟩
theorem SplitI.cut {s : Txt} {k a : Nat} {ls : List Txt} (h : SplitI s k a ls) (hk : k ≤ s.length) (hc : k = s.length ∨ s[k]? = some 47) (hn : nameE ((s.take k).drop a) = 0) : SplitI s (k + 1) (k + 1) (ls ++ [(s.take k).drop a]) := by
  refine ⟨by omega, by omega, by omega, by have := h.len; simp; omega, firstE_snoc h.ok hn, fun h2 => ?_, fun h2 => ?_⟩
  · have e := hc.resolve_left (by omega)
    rw [h.go hk, cuts_stop e]
    have : (s.take (k + 1)).drop (k + 1) = [] := by rw [List.drop_eq_nil_iff, List.length_take]; omega
    rw [this]
    simp
  · have e : k = s.length := by omega
    rw [h.go hk, cuts_end e]
theorem SplitI.bad {s : Txt} {k a : Nat} {ls : List Txt} (h : SplitI s k a ls) (hk : k ≤ s.length) (hc : k = s.length ∨ s[k]? = some 47) (hn : nameE ((s.take k).drop a) ≠ 0) : firstE (cutsA [] (s.drop 1)) = nameE ((s.take k).drop a) := by
  rcases hc with e | e
  · rw [h.go hk, cuts_end e]; exact firstE_stop h.ok hn
  · rw [h.go hk, cuts_stop e]; exact firstE_stop h.ok hn
/-- What Split answers. -/
def SplitIs (w : World) (s : Txt) (e : Ending) (w' : World) : Prop :=
  ∃ v, e = .returned (.tuple #[v, .int .i64 (splitT s).2]) ∧ w'.ownsRow w.heap.size 9 1 v (splitT s).1.length ((splitT s).1.flatMap txVals) ∧ Below w.heap.size w w'
theorem SplitIs.none {w w' : World} {s : Txt} {x : Int} (h : splitT s = ([], x)) (b : Below w.heap.size w w') : SplitIs w s (.returned (.tuple #[.slice none 0 0, .int .i64 x])) w' := by
  refine ⟨.slice Option.none 0 0, by rw [h], ?_, b⟩
  rw [h]
  exact World.ownsRow_nil _ _ _ _
set_option maxRecDepth 10000 in
set_option maxHeartbeats 8000000 in
theorem rsplit_any (w : World) (s : Txt) (hs : s.length ≤ 1000000) : Calls Tryz.prog 92 #[.string (bt s)] w (SplitIs w s) := by
  have z0 := bt_size s
  by_cases h0 : s = []
  · have e0 := bt_emptyY h0
    have HN := hide (show splitT s = ([], 9) from by unfold splitT; rw [if_pos h0])
    clear h0 hs z0
    go_enter Tryz.func92, Tryz.ntmps92
    go_wp2_with fail
    go_ret2
    exact SplitIs.none HN.out (Below.refl _ _)
  · have e0 := bt_emptyN h0
    obtain ⟨c0, hc0⟩ : ∃ c, s[0]? = some c := by cases s with | nil => exact absurd rfl h0 | cons c r => exact ⟨c, rfl⟩
    obtain ⟨y0, hy0⟩ : ∃ y : Int, y = (c0.toNat : Int) := ⟨_, rfl⟩
    have hix0 : ∀ W, (Instr.index 9 (.string (bt s)) (.int .i64 0)).run Tryz.prog W = .ok (.int .u8 y0) W := fun W => by rw [hy0]; exact run_index_bt W s hc0
    by_cases h47 : c0 = 47
    · obtain rfl : y0 = 47 := by rw [hy0]; exact (u8_iff c0 47 (by omega)).2 h47
      subst h47
      by_cases h1 : s = [47]
      · have e1 := bt_yes h1
        have HN := hide (show splitT s = ([], 0) from by unfold splitT; rw [if_neg h0, if_neg (by rw [hc0]; simp), if_pos h1])
        clear h0 hs z0 hc0 hy0 h1
        go_enter Tryz.func92, Tryz.ntmps92
        go_wp2_with fail
        go_ret2
        exact SplitIs.none HN.out (Below.refl _ _)
      · have e1 := bt_no h1
        have HS := hide (show splitT s = if firstE (cutsA [] (s.drop 1)) ≠ 0 then ([], firstE (cutsA [] (s.drop 1))) else if 6 < (cutsA [] (s.drop 1)).length then ([], 20) else (cutsA [] (s.drop 1), 0) from by unfold splitT; rw [if_neg h0, if_neg (by rw [hc0]; simp), if_neg h1])
        have I0 := hide (show SplitI s 1 1 [] from ⟨by omega, by omega, by omega, by simp, rfl, fun hk => by
          have : (s.take 1).drop 1 = [] := by rw [List.drop_eq_nil_iff, List.length_take]; omega
          rw [this]; rfl, fun e => by
          have : s.length = 0 := by omega
          exact absurd (List.eq_nil_of_length_eq_zero this) h0⟩)
        obtain ⟨n, hn⟩ : ∃ n, n = s.length := ⟨_, rfl⟩
        have n6 : n ≤ 1000000 := by omega
        have z1 : (bt s).size = n := by rw [hn]; exact z0
        have HN := hide hn
        obtain ⟨i0, hi0, hz0, hz1, hz2⟩ := info_parts txs_info
        have HZ := hide hz2
        have HI := hide (And.intro hi0 (And.intro hz0 hz1))
        clear h0 hs z0 h1 hn hz2 hi0 hz0 hz1 hc0 hy0
        go_enter Tryz.func92, Tryz.ntmps92
        go_wp2_with fail
        go_loopw [4, 5, 6] (fun l a k wr => ∃ (A : Option Addr) (c : Nat) (ls : List Txt) (x i : Nat), l = .slice A ls.length c ∧ a = .int .i64 x ∧ k = .int .i64 i ∧ Hid (SplitI s i x ls ∧ wr.ownsRow w.heap.size 9 1 (.slice A ls.length c) ls.length (ls.flatMap txVals) ∧ Below w.heap.size w wr)) (fun l a k _ => n + 1 - (intOf k).toNat)
        case atStart => exact ⟨none, 0, [], 1, 1, rfl, rfl, rfl, I0.out, World.ownsRow_nil _ _ _ _, Below.refl _ _⟩
        case round =>
          obtain ⟨A, c, ls, x, k, rfl, rfl, rfl, hZ⟩ := hrel
          obtain ⟨ln, hln⟩ : ∃ ln, ln = ls.length := ⟨_, rfl⟩
          have kn : k ≤ n + 1 := by rw [HN.out]; exact hZ.out.1.kn
          have lk : ln ≤ k := by rw [hln]; exact hZ.out.1.len
          have SI := hide hZ.out.1
          have OW := hide hZ.out.2.1
          have BW := hide hZ.out.2.2
          rw [← hln] at OW ⊢
          have HL := hide hln
          clear hZ hln
          by_cases hle : k ≤ n
          · have k0 : (0 : Int) ≤ (k : Int) := by omega
            have k1 : (k : Int) ≤ (n : Int) := by omega
            have hsl := fun W => run_slice_bt W s SI.out.ak (by rw [← HN.out]; exact hle)
            obtain ⟨p, hp⟩ : ∃ p, p = (s.take k).drop x := ⟨_, rfl⟩
            rw [← hp] at hsl
            have PL := hide (show p.length ≤ 1000000 from by rw [hp, List.length_drop, List.length_take]; omega)
            have HP := hide hp
            clear hp
            by_cases hkn : k = n
            · have HC := hide (show k = s.length ∨ s[k]? = some 47 from .inl (by rw [← HN.out]; exact hkn))
              have kb : ((k : Int) == (n : Int)) = true := by simp [hkn]
              clear hkn
              by_cases hE : nameE p = 0
              · have RN := hide (show ∀ W, Calls Tryz.prog 117 #[.string (bt p)] W fun e w' => e = .returned (.int .i64 0) ∧ W = w' from fun W => by have := rname_any W p PL.out; rwa [hE] at this)
                have NX := hide (show SplitI s (k + 1) (k + 1) (ls ++ [p]) from by have := SI.out.cut (by rw [← HN.out]; exact hle) HC.out (by rw [← HP.out]; exact hE); rwa [← HP.out] at this)
                have hby : (ln + 1) * 16 ≤ 140737488355328 := by omega
                clear hE hle
                obtain ⟨hi0, hz0, hz1⟩ := HI.out
                go_wp2_with (first
                  | (go_at_call 117; refine (RN.out _).mono ?_; rintro e w' ⟨rfl, rfl⟩)
                  | (at_builtin; refine wpList_append_own_at _ rfl (.tmp 39) (.tmp 44) _ rfl w.heap.size 9 i0 _ 1 16 Tryz.underlying106 hi0 hz0 hz1 HZ.out rfl (by omega) _ _ _ rfl (OW.out.alloc _) ⟨wr.heap.size, 0, none⟩ 1 1 (txVals p) rfl rfl (cells_new wr (txVals p) _ _ rfl) (txVals_cell p) (by unfold maxLen; omega) hby (by have := BW.out.size; simp; omega) ?_; intro v9 w9 o9 g9 _ t9; obtain ⟨A9, c9, rfl, _⟩ := own_sliceT o9; have O9 := hide o9; have B9 := hide ((BW.out.alloc BW.out.size _).grown g9 (by have := BW.out.size; simp; omega) (fun q hq => (OW.out.lt q hq).1)); clear o9 g9 t9))
                go_roundw
                case rel => exact ⟨A9, c9, ls ++ [p], k + 1, k + 1, by rw [List.length_append, ← HL.out]; rfl, by go_num, by go_num, NX.out, by rw [List.length_append, ← HL.out, List.flatMap_append]; simpa using O9.out, B9.out⟩
                case measure => simp [intOf]; omega
              · obtain ⟨E, hEE⟩ : ∃ E, E = nameE p := ⟨_, rfl⟩
                have RN := hide (show ∀ W, Calls Tryz.prog 117 #[.string (bt p)] W fun e w' => e = .returned (.int .i64 E) ∧ W = w' from fun W => by have := rname_any W p PL.out; rwa [← hEE] at this)
                have HF := hide (show splitT s = ([], E) from by
                  have := SI.out.bad (by rw [← HN.out]; exact hle) HC.out (by rw [← HP.out]; exact hE)
                  rw [HS.out, if_pos (by rw [this, ← HP.out]; exact hE), this, ← HP.out, hEE])
                have nE : (E != 0) = true := by rw [hEE]; simpa using hE
                clear hE hEE hle
                go_wp2_with (go_at_call 117; refine (RN.out _).mono ?_; rintro e w' ⟨rfl, rfl⟩)
                go_ret2
                exact SplitIs.none HF.out BW.out
            · obtain ⟨c1, hc1⟩ : ∃ c, s[k]? = some c := ⟨_, List.getElem?_eq_getElem (by rw [← HN.out]; omega)⟩
              have kb : ((k : Int) == (n : Int)) = false := by simp; omega
              have k2 : (k : Int) < (n : Int) := by omega
              obtain ⟨y1, hy1⟩ : ∃ y : Int, y = (c1.toNat : Int) := ⟨_, rfl⟩
              have hix1 := fun W => run_index_bt W s hc1
              rw [← hy1] at hix1
              by_cases h47 : c1 = 47
              · obtain rfl : y1 = 47 := by rw [hy1]; exact (u8_iff c1 47 (by omega)).2 h47
                subst h47
                have HC := hide (show k = s.length ∨ s[k]? = some 47 from .inr hc1)
                clear hkn hc1 hy1
                by_cases hE : nameE p = 0
                · have RN := hide (show ∀ W, Calls Tryz.prog 117 #[.string (bt p)] W fun e w' => e = .returned (.int .i64 0) ∧ W = w' from fun W => by have := rname_any W p PL.out; rwa [hE] at this)
                  have NX := hide (show SplitI s (k + 1) (k + 1) (ls ++ [p]) from by have := SI.out.cut (by rw [← HN.out]; exact hle) HC.out (by rw [← HP.out]; exact hE); rwa [← HP.out] at this)
                  have hby : (ln + 1) * 16 ≤ 140737488355328 := by omega
                  clear hE hle
                  obtain ⟨hi0, hz0, hz1⟩ := HI.out
                  go_wp2_with (first
                    | (go_at_call 117; refine (RN.out _).mono ?_; rintro e w' ⟨rfl, rfl⟩)
                    | (at_builtin; refine wpList_append_own_at _ rfl (.tmp 39) (.tmp 44) _ rfl w.heap.size 9 i0 _ 1 16 Tryz.underlying106 hi0 hz0 hz1 HZ.out rfl (by omega) _ _ _ rfl (OW.out.alloc _) ⟨wr.heap.size, 0, none⟩ 1 1 (txVals p) rfl rfl (cells_new wr (txVals p) _ _ rfl) (txVals_cell p) (by unfold maxLen; omega) hby (by have := BW.out.size; simp; omega) ?_; intro v9 w9 o9 g9 _ t9; obtain ⟨A9, c9, rfl, _⟩ := own_sliceT o9; have O9 := hide o9; have B9 := hide ((BW.out.alloc BW.out.size _).grown g9 (by have := BW.out.size; simp; omega) (fun q hq => (OW.out.lt q hq).1)); clear o9 g9 t9))
                  go_roundw
                  case rel => exact ⟨A9, c9, ls ++ [p], k + 1, k + 1, by rw [List.length_append, ← HL.out]; rfl, by go_num, by go_num, NX.out, by rw [List.length_append, ← HL.out, List.flatMap_append]; simpa using O9.out, B9.out⟩
                  case measure => simp [intOf]; omega
                · obtain ⟨E, hEE⟩ : ∃ E, E = nameE p := ⟨_, rfl⟩
                  have RN := hide (show ∀ W, Calls Tryz.prog 117 #[.string (bt p)] W fun e w' => e = .returned (.int .i64 E) ∧ W = w' from fun W => by have := rname_any W p PL.out; rwa [← hEE] at this)
                  have HF := hide (show splitT s = ([], E) from by
                    have := SI.out.bad (by rw [← HN.out]; exact hle) HC.out (by rw [← HP.out]; exact hE)
                    rw [HS.out, if_pos (by rw [this, ← HP.out]; exact hE), this, ← HP.out, hEE])
                  have nE : (E != 0) = true := by rw [hEE]; simpa using hE
                  clear hE hEE hle
                  go_wp2_with (go_at_call 117; refine (RN.out _).mono ?_; rintro e w' ⟨rfl, rfl⟩)
                  go_ret2
                  exact SplitIs.none HF.out BW.out
              · have y47 : (y1 == 47) = false := by
                  have : ¬ y1 = 47 := by rw [hy1]; exact fun e => h47 ((u8_iff c1 47 (by omega)).1 e)
                  simpa using this
                have NX := hide (SI.out.skip hc1 h47)
                clear hkn hc1 hy1 h47 hle
                go_wp2_with fail
                go_roundw
                case rel => exact ⟨A, c, ls, x, k + 1, by rw [HL.out], rfl, by go_num, NX.out, by rw [← HL.out]; exact OW.out, BW.out⟩
                case measure => simp [intOf]; omega
          · obtain rfl : k = n + 1 := by omega
            have hcu := hide (SI.out.fin (by rw [HN.out]))
            by_cases h6 : 6 < ln
            · have HE := hide (show splitT s = ([], 20) from by rw [HS.out, hcu.out, if_neg (by rw [SI.out.ok]; simp), if_pos (by rw [← HL.out]; exact h6)])
              have l6 : (6 : Int) < (ln : Int) := by omega
              have kk : ¬ ((n + 1 : Nat) : Int) ≤ (n : Int) := by omega
              clear h6 hle
              go_wp2_with fail
              go_ret2
              exact SplitIs.none HE.out BW.out
            · have HE := hide (show splitT s = (ls, 0) from by rw [HS.out, hcu.out, if_neg (by rw [SI.out.ok]; simp), if_neg (by rw [← HL.out]; exact h6)])
              have l6 : ¬ (6 : Int) < (ln : Int) := by omega
              have kk : ¬ ((n + 1 : Nat) : Int) ≤ (n : Int) := by omega
              clear h6 hle
              go_wp2_with fail
              go_ret2
              refine ⟨_, by rw [HE.out]; rfl, ?_, BW.out⟩
              rw [HE.out, ← HL.out]
              exact OW.out
    · have y47 : (y0 != 47) = true := by
        have : ¬ y0 = 47 := by rw [hy0]; exact fun e => h47 ((u8_iff c0 47 (by omega)).1 e)
        simpa using this
      have HN := hide (show splitT s = ([], 19) from by unfold splitT; rw [if_neg h0, if_pos (by rw [hc0]; simpa using h47)])
      clear h0 hs z0 hc0 hy0 h47
      go_enter Tryz.func92, Tryz.ntmps92
      go_wp2_with fail
      go_ret2
      exact SplitIs.none HN.out (Below.refl _ _)
theorem run_add_bt (w : World) (a b : List UInt8) (h : a.length + b.length ≤ 1000000) : (Op.stringOp .add (bt a) (bt b)).run Tryz.prog w = .ok (.string (bt (a ++ b))) w := by
  rw [run_string_add_sum (P := Tryz.prog) w (bt a) (bt b) (by rw [bt_size, bt_size]; omega), bt_append]
theorem joined_take {l : List Txt} {k : Nat} {p : Txt} (hp : l[k]? = some p) : joined (l.take (k + 1)) = joined (l.take k) ++ 47 :: p := by
  have e : l.take (k + 1) = l.take k ++ [p] := by rw [List.take_add_one, hp]; rfl
  rw [e, joined_snoc]
set_option maxRecDepth 10000 in
set_option maxHeartbeats 8000000 in
theorem rjoin_any (w : World) (a : Option Addr) (n c : Nat) (ps : List Txt) (h : Reads 1 txVals w a n ps) (hn : n ≤ 1000000) (hl : ∀ p ∈ ps, p.length ≤ 1000000) :
    Calls Tryz.prog 133 #[.slice a n c] w fun e w' => e = .returned (.tuple #[.string (bt (joinT ps).1), .int .i64 (joinT ps).2]) ∧ w = w' := by
  have H := hide h
  have HL := hide hl
  have HN := hide h.1
  clear h hl
  go_enter Tryz.func133, Tryz.ntmps133
  go_wp2_with fail
  go_loop [5] (fun i => ∃ k : Nat, k ≤ n ∧ i = .int .i64 k ∧ Hid (firstE (ps.take k) = 0)) (fun i => n - (intOf i).toNat)
  case atStart => exact ⟨0, Nat.zero_le _, rfl, rfl⟩
  case round =>
    obtain ⟨k, hk, rfl, hZ⟩ := hrel
    by_cases hlt : k < n
    · have k0 : (0 : Int) ≤ (k : Int) := by omega
      have k1 : (k : Int) < (n : Int) := by omega
      obtain ⟨p, b1, o1, hx, rfl, hp⟩ := H.out.text hlt
      have PL := hide (HL.out p (List.mem_of_getElem? hx))
      by_cases hE : nameE p = 0
      · have RN := hide (show ∀ W, Calls Tryz.prog 117 #[.string (bt p)] W fun e w' => e = .returned (.int .i64 0) ∧ W = w' from fun W => by have := rname_any W p PL.out; rwa [hE] at this)
        have NX := hide (show firstE (ps.take (k + 1)) = 0 from by rw [firstE_at hZ.out hx, if_pos hE])
        clear hE hx hZ
        go_wp2_with (go_at_call 117; refine (RN.out _).mono ?_; rintro e w' ⟨rfl, rfl⟩)
        go_round
        case rel => exact ⟨k + 1, by omega, by go_num, NX⟩
        case measure => simp [intOf]; omega
      · obtain ⟨E, hEE⟩ : ∃ E, E = nameE p := ⟨_, rfl⟩
        have RN := hide (show ∀ W, Calls Tryz.prog 117 #[.string (bt p)] W fun e w' => e = .returned (.int .i64 E) ∧ W = w' from fun W => by have := rname_any W p PL.out; rwa [← hEE] at this)
        have HF := hide (show joinT ps = ([], E) from by
          have := firstE_found hZ.out hx hE
          unfold joinT
          rw [if_pos (by rw [this]; exact hE), this, hEE])
        have nE : (E != 0) = true := by rw [hEE]; simpa using hE
        clear hE hEE hx hZ
        go_wp2_with (go_at_call 117; refine (RN.out _).mono ?_; rintro e w' ⟨rfl, rfl⟩)
        go_ret2
        exact ⟨by rw [HF.out]; rfl, rfl⟩
    · obtain rfl : k = n := by omega
      have F0 := hide (show firstE ps = 0 from by have := hZ.out; rwa [List.take_of_length_le (by rw [HN.out]; exact Nat.le_refl _)] at this)
      clear hZ
      by_cases h6 : 6 < k
      · have HF := hide (show joinT ps = ([], 20) from by unfold joinT; rw [if_neg (by rw [F0.out]; simp), if_pos (by rw [HN.out]; exact h6)])
        have l6 : (6 : Int) < (k : Int) := by omega
        clear h6
        go_wp2_with fail
        go_ret2
        exact ⟨by rw [HF.out]; rfl, rfl⟩
      · have l6 : ¬ (6 : Int) < (k : Int) := by omega
        have l7 : k ≤ 6 := by omega
        have JL := hide (joined_size F0.out)
        clear h6 hk hlt
        go_wp2_with fail
        go_loop [4, 7] (fun s i => ∃ j : Nat, j ≤ k ∧ s = .string (bt (joined (ps.take j))) ∧ i = .int .i64 j) (fun s i => k - (intOf i).toNat)
        case atStart => exact ⟨0, Nat.zero_le _, rfl, rfl⟩
        case round =>
          obtain ⟨j, hj, rfl, rfl⟩ := hrel
          by_cases hlt : j < k
          · have k0 : (0 : Int) ≤ (j : Int) := by omega
            have k1 : (j : Int) < (k : Int) := by omega
            obtain ⟨p, b1, o1, hx, rfl, hp⟩ := H.out.text hlt
            have P8 := hide (nameE_ok (firstE_zero.1 F0.out p (List.mem_of_getElem? hx))).2.1
            have J9 := hide (show (joined (ps.take j)).length ≤ 54 from by
              have := joined_size (firstE_take F0.out j)
              rw [List.length_take] at this
              omega)
            have hq := hide (joined_take hx)
            generalize joined (ps.take j) = t at *
            have a1 := fun W => run_add_bt W t [47] (by have := J9.out; simp only [List.length_cons, List.length_nil]; omega)
            have a2 := fun W => run_add_bt W (t ++ [47]) p (by have := J9.out; have := P8.out; simp only [List.length_append, List.length_cons, List.length_nil]; omega)
            rw [show bt [47] = ByteArray.mk #[47] from rfl] at a1
            clear hx
            go_wp2_with fail
            go_round
            case rel => exact ⟨j + 1, by omega, by rw [hq.out]; try simp, by go_num⟩
            case measure => simp [intOf]; omega
          · obtain rfl : j = k := by omega
            have EJ := hide (show joined (ps.take j) = joined ps from by rw [List.take_of_length_le (by rw [HN.out]; exact Nat.le_refl _)])
            rw [EJ.out]
            by_cases h0 : ps = []
            · have e0 := bt_emptyY (show joined ps = [] from by rw [h0]; rfl)
              have HF := hide (show joinT ps = ([47], 0) from by rw [h0]; rfl)
              clear h0
              go_wp2_with fail
              go_ret2
              exact ⟨by rw [HF.out]; rfl, rfl⟩
            · have e0 := bt_emptyN (show ¬ joined ps = [] from by cases ps with | nil => exact absurd rfl h0 | cons q qs => simp [joined])
              have HF := hide (show joinT ps = (joined ps, 0) from by unfold joinT; rw [if_neg (by rw [F0.out]; simp), if_neg (by rw [HN.out]; omega), if_neg h0])
              clear h0
              go_wp2_with fail
              go_ret2
              exact ⟨by rw [HF.out]; rfl, rfl⟩
/-- What Parent answers. -/
def ParIs (w : World) (s : Txt) (e : Ending) (w' : World) : Prop := e = .returned (.tuple #[.string (bt (parT s).1), .string (bt (parT s).2.1), .int .i64 (parT s).2.2]) ∧ Below w.heap.size w w'
set_option maxRecDepth 10000 in
set_option maxHeartbeats 8000000 in
theorem rpar_any (w : World) (s : Txt) (hs : s.length ≤ 1000000) : Calls Tryz.prog 115 #[.string (bt s)] w (ParIs w s) := by
  have SP := hide (rsplit_any w s hs)
  obtain ⟨E, hE⟩ : ∃ E, E = (splitT s).2 := ⟨_, rfl⟩
  by_cases h0 : E = 0
  · have hb : (E != 0) = false := by rw [h0]; rfl
    obtain ⟨ls, hls⟩ : ∃ ls, ls = (splitT s).1 := ⟨_, rfl⟩
    have hok : firstE ls = 0 := by rw [hls]; exact splitT_names (by rw [← hE]; exact h0)
    have h6 : ls.length ≤ 6 := by rw [hls]; exact (split_join (by rw [← hE]; exact h0)).2
    rcases List.eq_nil_or_concat ls with hn | ⟨ini, last, hn⟩
    · have HP := hide (show parT s = ([], [], 19) from by unfold parT; rw [if_neg (by rw [← hE, h0]; simp), if_pos (by rw [← hls]; exact hn)])
      have SQ := hide (show Calls Tryz.prog 92 #[.string (bt s)] w (fun e w' => ∃ A c, e = .returned (.tuple #[.slice A 0 c, .int .i64 0]) ∧ Below w.heap.size w w') from SP.out.mono fun e w' hh => by
        obtain ⟨v, h1, h2, h3⟩ := hh
        rw [← hls, hn] at h2
        obtain ⟨A, c, rfl, _⟩ := own_sliceT h2
        exact ⟨A, c, by rw [h1, ← hE, h0] <;> rfl, h3⟩)
      clear SP hE h0 hls hok h6 hn hb
      go_enter Tryz.func115, Tryz.ntmps115
      go_wp2_with (go_at_call 92; refine SQ.out.mono ?_; rintro e w1 ⟨A, c, rfl, b1⟩; have B1 := hide b1; clear b1)
      go_ret3
      exact ⟨by rw [HP.out]; rfl, B1.out⟩
    · rw [List.concat_eq_append] at hn
      obtain ⟨m, hm⟩ : ∃ m, m = ini.length := ⟨_, rfl⟩
      have m5 : m ≤ 5 := by rw [hn] at h6; simp at h6; omega
      have hl : ls.length = m + 1 := by rw [hn, hm]; simp
      have hini : firstE ini = 0 := firstE_zero.2 fun p hp => firstE_zero.1 hok p (by rw [hn]; simp [hp])
      have HP := hide (show parT s = ((joinT ini).1, last, 0) from by
        unfold parT
        rw [if_neg (by rw [← hE, h0]; simp), if_neg (by rw [← hls, hn]; simp), ← hls, hn]
        simp)
      have SQ := hide (show Calls Tryz.prog 92 #[.string (bt s)] w (fun e w' => ∃ g c, e = .returned (.tuple #[.slice (some ⟨g, 0, none⟩) (m + 1) c, .int .i64 0]) ∧ m + 1 ≤ c ∧ Reads 1 txVals w' (some ⟨g, 0, none⟩) (m + 1) (ini ++ [last]) ∧ Below w.heap.size w w') from SP.out.mono fun e w' hh => by
        obtain ⟨v, h1, h2, h3⟩ := hh
        rw [← hls, hl] at h2
        obtain ⟨A, c, rfl, hr, hc, _, _⟩ := own_reads txVals_len (by omega) h2
        rw [hn] at hr
        rcases h2.2 with ⟨e1, _⟩ | ⟨g, cap, cur, e1, _⟩
        · cases e1
        · injection e1 with e1 _ e2
          subst e1
          exact ⟨g, c, by rw [h1, ← hE, h0] <;> rfl, hc, hr, h3⟩)
      have JL := hide (fun (p : Txt) (hp : p ∈ ini) => show p.length ≤ 1000000 from by have := (nameE_ok (firstE_zero.1 hini p hp)).2.1; omega)
      have LT := hide (show (ini ++ [last])[m]? = some last from by rw [hm]; simp)
      have TK := hide (show (ini ++ [last]).take m = ini from by rw [hm]; simp)
      clear SP hE h0 hls hok h6 hn hb hl hini hm
      go_enter Tryz.func115, Tryz.ntmps115
      go_wp2_with (first
        | (go_at_call 92; refine SQ.out.mono ?_; rintro e w1 ⟨g, c, rfl, hc, hr, b1⟩; have B1 := hide b1; have RD := hide (show Reads 1 txVals w1 (some ⟨g, 0, none⟩) m ini from by have := hr.front (k := m) (by omega); rwa [TK.out] at this); have q0 : w1.cell? ⟨g, m, none⟩ = some (.string (bt last)) := (by obtain ⟨x, b, o, h1, h2, h3⟩ := hr.text (k := m) (by omega); rw [LT.out] at h1; injection h1 with h1; injection h2 with h2; injection h2 with h2 h4; subst h1 h2 h4; simpa using h3); clear b1 hr)
        | (go_at_call 133; refine (rjoin_any _ _ _ _ ini RD.out (by omega) JL.out).mono ?_; rintro e w2 ⟨rfl, rfl⟩))
      go_quiet (fail)
      go_wp2_with fail
      go_ret3
      exact ⟨by rw [HP.out]; rfl, below_drewN B1.out _⟩
  · have hb : (E != 0) = true := by simpa using h0
    have HP := hide (show parT s = ([], [], E) from by unfold parT; rw [if_pos (by rw [← hE]; exact h0), hE])
    have SQ := hide (show Calls Tryz.prog 92 #[.string (bt s)] w (fun e w' => ∃ A n c, e = .returned (.tuple #[.slice A n c, .int .i64 E]) ∧ Below w.heap.size w w') from SP.out.mono fun e w' hh => by
      obtain ⟨v, h1, h2, h3⟩ := hh
      obtain ⟨A, c, rfl, _⟩ := own_sliceT h2
      exact ⟨A, _, c, by rw [h1, ← hE], h3⟩)
    clear SP hE h0
    go_enter Tryz.func115, Tryz.ntmps115
    go_wp2_with (go_at_call 92; refine SQ.out.mono ?_; rintro e w1 ⟨A, n, c, rfl, b1⟩; have B1 := hide b1; clear b1)
    go_ret3
    exact ⟨by rw [HP.out]; rfl, B1.out⟩
end Go.Proofs.YtndfnglcichngaaGreatDoor
namespace Go.Proofs.YtndfnglcichngaaGreatDoor
open Go.ChangeShapes Go.WideShapes Go.ChangeAt Go.RowKit
set_option linter.unusedVariables false
set_option linter.unusedSimpArgs false
/-- The program's path. -/
structure PPath : Prop where
  name : ∀ (w : World) (s : Txt), s.length ≤ 1000000 → Calls Tryz.prog 37 #[.string (bt s)] w fun e w' => e = .returned (.int .i64 (nameE s)) ∧ Below w.heap.size w w'
  split : ∀ (w : World) (s : Txt), s.length ≤ 1000000 → Calls Tryz.prog 62 #[.string (bt s)] w (SplitIs w s)
  join : ∀ (w : World) (a : Option Addr) (n c : Nat) (ps : List Txt), Reads 1 txVals w a n ps → n ≤ c → n ≤ 1000 → (∀ p ∈ ps, p.length ≤ 1000) →
    Calls Tryz.prog 122 #[.slice a n c] w fun e w' => e = .returned (.tuple #[.string (bt (joinT ps).1), .int .i64 (joinT ps).2]) ∧ Below w.heap.size w w'
  parent : ∀ (w : World) (s : Txt), s.length ≤ 1000000 → Calls Tryz.prog 96 #[.string (bt s)] w (ParIs w s)
theorem splitIs_ok {w w' : World} {s : Txt} {e : Ending} (h : SplitIs w s e w') : ∃ A c, e = .returned (.tuple #[.slice A (splitT s).1.length c, .int .i64 (splitT s).2]) ∧ w'.ownsRow w.heap.size 9 1 (.slice A (splitT s).1.length c) (splitT s).1.length ((splitT s).1.flatMap txVals) ∧ Reads 1 txVals w' A (splitT s).1.length (splitT s).1 ∧ (splitT s).1.length ≤ c ∧ (A = none → c = 0) ∧ Below w.heap.size w w' := by
  obtain ⟨v, h1, h2, h3⟩ := h
  obtain ⟨A, c, rfl, hr, hc, _, hn⟩ := own_reads txVals_len (by omega) h2
  exact ⟨A, c, h1, h2, hr, hc, hn, h3⟩
theorem splitT_few (s : Txt) : (splitT s).1.length ≤ 6 := by
  by_cases h : (splitT s).2 = 0
  · exact (split_join h).2
  · rw [splitT_err h]; simp
theorem reads_two (w : World) (x y : Txt) (t : TypeId) (n : Nat) (hn : n = w.heap.size) : Reads 1 txVals (w.alloc (.cells #[.string (bt x), .string (bt y)] t)) (some ⟨n, 0, none⟩) 2 [x, y] := by
  subst hn
  refine ⟨rfl, fun _ => ⟨_, _, rfl, fun i p hx j u hu => ?_⟩⟩
  have hj : j = 0 := by have := (List.getElem?_eq_some_iff.1 hu).1; simp [txVals] at this; exact this
  subst hj
  match i, hx with
  | 0, hx => injection hx with hx; subst hx; injection hu with hu; subst hu; simp
  | 1, hx => injection hx with hx; subst hx; injection hu with hu; subst hu; simp
def tA : Txt := [47, 97, 47, 98, 99]
def tB : Txt := [47, 97, 47, 47, 98]
section
variable (C : PPath)
end
end Go.Proofs.YtndfnglcichngaaGreatDoor
