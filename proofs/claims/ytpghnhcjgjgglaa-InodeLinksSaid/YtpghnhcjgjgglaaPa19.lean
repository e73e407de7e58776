/-
  Several texts as one: IpGet IpNew IpMake IdAct IdDone IdSame IdScript.
-/
import Derived.Test.YtpghnhcjgjgglaaPa15
import Derived.Deep.RegionHeld3
import Derived.Test.YtpghnhcjgjgglaaPa14
namespace Go.Proofs.Ytpghnhcjgjgglaa
open Go.ChangeShapes Go.WideShapes Go.ChangeAt Go.RowKit
set_option linter.unusedVariables false
set_option linter.unusedSimpArgs false
section
variable {w : World} {U : Nat → Prop} {H T S : Nat} {s : In} {E : Nat → Prop} {N : Nat → Option Nat} {V : Nat → Value} {tag : Nat → Int}
set_option maxHeartbeats 4000000 in
theorem pget_any (h : IpM w U H T S s E N V tag) (hf : ∀ i, (s.n i).l.length ≤ 8) (hz : ∀ i, (s.n i).dir = false → (s.n i).l = []) (id : Int) : Calls Try.prog 12 #[.pointer (some ⟨T, 0, none⟩), .int .i64 id] w fun e w' => e = .returned (gotI s id) ∧ Below w.heap.size w w' := by
  have A1 := hide (show ∀ o : Obj, Below w.heap.size w (w.alloc o) from fun o => (Below.refl _ _).alloc (Nat.le_refl _) o)
  cases e : isI s id with
  | false =>
    have F := hide (fun (W : World) (b : Below w.heap.size w W) => find21_no (h.below b) e)
    rw [show gotI s id = .tuple #[.agg #[.int .i64 0, .int .i64 0, .bool false, .int .i64 0], .bool false] from by unfold gotI; rw [e]; rfl]
    clear h hf hz e
    go_enter Try.func12, Try.ntmps12
    go_wp2_with (go_at_call 41; refine (F.out _ (A1.out _)).mono ?_; rintro e w' ⟨rfl, rfl⟩)
    refine bodyPost_ret (v := .tuple #[.agg #[.int .i64 0, .int .i64 0, .bool false, .int .i64 0], .bool false]) ?_ rfl ⟨rfl, ?_⟩
    · rw [results_cell_tmp rfl]
      go_simp
    · exact A1.out _
  | true =>
    obtain ⟨i, rfl, hi, his⟩ := isI_yes e
    obtain ⟨nb, hb⟩ := h.there his
    have F := hide (fun (W : World) (b : Below w.heap.size w W) => find21_yes (h.below b) hi hb)
    have NB := hide (h.lt nb (h.un i nb hb))
    obtain ⟨a, c, hv, hr, -, -, -⟩ := h.list i
    obtain ⟨n, hn⟩ : ∃ n, n = (s.n i).l.length := ⟨_, rfl⟩
    obtain ⟨y, hy⟩ : ∃ y, y = s.n i := ⟨_, rfl⟩
    have N8 := hide (hf i)
    rw [← hn] at hv N8
    have GOT := hide (show gotI s (i : Int) = .tuple #[.agg #[.int .i64 (i : Int), .int .i64 y.links, .bool y.dir, .int .i64 (if y.dir then (n : Int) else ((lenO (getFi s.so.l i) : Nat) : Int))], .bool true] from by
      unfold gotI gtSz
      rw [e, if_pos rfl, Int.toNat_natCast, ← hy]
      rw [hn, ← hy]
      cases y.dir <;> rfl)
    rw [← hy] at hn
    have cells := hide (fun (W : World) (b : Below w.heap.size w W) => show W.cell? ⟨nb, 0, none⟩ = some (.bool y.dir) ∧ W.cell? ⟨nb, 1, none⟩ = some (.int .i64 y.links) ∧ W.cell? ⟨nb, 3, none⟩ = some (.slice a n c) ∧ W.cell? ⟨T, 0, none⟩ = some (.pointer (some ⟨S, 0, none⟩)) from
      hy ▸ hv ▸ ⟨(h.below b).cDir hb, (h.below b).cLinks hb, (h.below b).cList hb, (h.below b).c0⟩)
    have SZ := hide (fun (W : World) (b : Below w.heap.size w W) => psz_any (h.below b).so (wf_16 hi))
    have LT := hide (h.lt T h.ut)
    clear h hf hz hv hr hn hy e his hb
    go_enter Try.func12, Try.ntmps12
    go_upto_region 1 with fail
    have bb := hide (A1.out (.cells #[.int .i64 0, .int .i64 0, .bool false, .int .i64 0] 35))
    obtain ⟨d1, d2, d3, d0⟩ := cells.out _ bb.out
    have SZ2 := hide (SZ.out _ bb.out)
    have F2 := hide (F.out _ bb.out)
    obtain ⟨z, hz⟩ : ∃ z, z = lenO (getFi s.so.l i) := ⟨_, rfl⟩
    rw [← hz] at SZ2 GOT
    obtain ⟨te, hte⟩ : ∃ z, z = thE s.so i := ⟨_, rfl⟩
    rw [← hte] at SZ2
    clear hz hte SZ F cells
    cases hd : y.dir with
    | true =>
      rw [hd] at GOT d1
      go_upto_region 7 with (go_at_call 41; refine F2.out.mono ?_; rintro e w' ⟨rfl, rfl⟩)
      go_region
      go_wp2_with fail
      refine bodyPost_ret (v := .tuple #[.agg #[.int .i64 (i : Int), .int .i64 y.links, .bool true, .int .i64 (n : Int)], .bool true]) ?_ rfl ⟨by rw [GOT.out]; rfl, ?_⟩
      · rw [results_cell_tmp rfl]
        go_simp
      · exact below_drewN (A1.out _) 1
    | false =>
      rw [hd] at GOT d1
      go_upto_region 7 with (first | (go_at_call 41; refine F2.out.mono ?_; rintro e w' ⟨rfl, rfl⟩) | (go_at_call 42; refine SZ2.out.mono ?_; rintro e w' ⟨rfl, rfl⟩))
      go_region
      go_wp2_with fail
      refine bodyPost_ret (v := .tuple #[.agg #[.int .i64 (i : Int), .int .i64 y.links, .bool false, .int .i64 (z : Int)], .bool true]) ?_ rfl ⟨by rw [GOT.out]; rfl, ?_⟩
      · rw [results_cell_tmp rfl]
        go_simp
      · exact below_drewN (A1.out _) 1
def isP (s : In) (k : Nat) : Nat := if (s.n k).is then 1 else 0
/-- The cells of the sixteen nodes. -/
def ptrs (N : Nat → Option Nat) : List Value := (List.range 16).map fun k => ptrV (N k)
theorem ptrs_at (N : Nat → Option Nat) {k : Nat} (h : k < 16) : (ptrs N)[k]? = some (ptrV (N k)) := by
  unfold ptrs; rw [List.getElem?_map, List.getElem?_range h]; rfl
theorem run_index_ptr {P : Program} (w : World) {t e : TypeId} {n : Nat} {i : TypeInfo} (ht : P.underlying t = some (.array n e)) (hk : ∀ w, (isAgg e).run P w = .ok false w) (hi : P.info? e = some i) (h1 : P.cellsOf e = 1)
    {cs : Array Value} {j : Nat} (hj : j < n) {v : Value} (hv : cs[j]? = some v) (k : IntKind) : (Instr.index t (.agg cs) (.int k (j : Int))).run P w = .ok v w := by
  have hb : 0 ≤ (j : Int) ∧ (j : Int) < (n : Int) := by omega
  simp only [Instr.index, asIntOf, Sem.run_bind, Sem.run_pure, run_underlying ht, Result.andThen_ok, hb, and_self, if_true, run_sizeOf w hi, h1, Nat.mul_one, Int.toNat_natCast]
  simp [part, hk, hv]
theorem ptr_info : ∃ i, Try.prog.info? 85 = some i := by
  have h : (Try.prog.info? 85).isSome = true := by kernel_rfl
  exact Option.isSome_iff_exists.1 h
theorem ptrs_index (N : Nat → Option Nat) (j : Nat) (hj : j < 16) (w : World) : (Instr.index 90 (.agg (ptrs N).toArray) (.int .i64 (j : Int))).run Try.prog w = .ok (ptrV (N j)) w := by
  obtain ⟨i, hi⟩ := ptr_info
  exact run_index_ptr w Try.underlying90 Try.isAgg85 hi (by kernel_rfl) hj (by rw [List.getElem?_toArray]; exact ptrs_at N hj) .i64
theorem IpM.range (h : IpM w U H T S s E N V tag) : w.rangeAt T 1 (ptrs N) := fun j v hv => by
  have hj : j < 16 := by have := (List.getElem?_eq_some_iff.1 hv).1; simpa [ptrs] using this
  rw [ptrs_at N hj] at hv
  injection hv with hv
  rw [← hv]; exact h.cN hj
theorem ptrs_size : (Try.prog.info? 90).map (·.size) = some 16 := by kernel_rfl
theorem ptrs_len (N : Nat → Option Nat) : (ptrs N).length = 16 := by simp [ptrs]
set_option maxHeartbeats 4000000 in
theorem plen_any (h : IpM w U H T S s E N V tag) : Calls Try.prog 22 #[.pointer (some ⟨T, 0, none⟩)] w fun e w' => e = .returned (.int .i64 (cntI s : Nat)) ∧ w = w' := by
  have CS := hide (cntI_is s)
  have IX := hide (ptrs_index N)
  have LD := hide h.range
  have HIS := hide h.is
  have SZ := hide (show (Try.prog.info? 90).map (·.size) = some (ptrs N).length from by rw [ptrs_len]; exact ptrs_size)
  clear h
  go_enter Try.func22, Try.ntmps22
  go_wp2_with (refine wpList_load_mid rfl 90 (.tmp 10) rfl T 1 rfl (ptrs N) _ LD.out Try.underlying90 rfl SZ.out ?_)
  clear LD SZ
  generalize (ptrs N).toArray = TA at *
  go_loopw [3, 12] (fun nv iv wr => ∃ (k q : Nat), k ≤ 16 ∧ q ≤ 16 ∧ iv = .int .i64 (k : Int) ∧ nv = .int .i64 (q : Int) ∧ Hid (q = sumN (isN s) k) ∧ w = wr) (fun _ iv _ => 16 - (intOf iv).toNat)
  case atStart => exact ⟨0, 0, Nat.zero_le _, Nat.zero_le _, rfl, rfl, rfl, rfl⟩
  case round =>
    obtain ⟨k, q, hk, hq, rfl, rfl, hQ, rfl⟩ := hrel
    have k0 : (0 : Int) ≤ (k : Int) := by omega
    by_cases hlt : k < 16
    · have k1 : (k : Int) < 16 := by omega
      have ix := IX.out k hlt
      have NX := hide (show sumN (isN s) (k + 1) = q + isN s k from by rw [hQ.out]; rfl)
      have LE := hide (sumIs_le s (k + 1))
      cases hb : N k with
      | some b =>
        have N1 := hide (show isN s k = 1 from by unfold isN; rw [← HIS.out k, hb]; rfl)
        rw [hb] at ix
        have ix2 : ∀ w, (Instr.index 90 (.agg TA) (.int .i64 (k : Int))).run Try.prog w = .ok (.pointer (some ⟨b, 0, none⟩)) w := ix
        have q1 : (q : Int) ≤ 16 := by omega
        clear hb ix
        go_wp2_with fail
        go_roundw
        case rel => exact ⟨k + 1, q + 1, by omega, by have := NX.out; have := LE.out; have := N1.out; omega, by go_num, by go_num, by have := NX.out; have := N1.out; rw [this] at NX; exact NX.out.symm, by trivial⟩
        case measure => simp [intOf]; omega
      | none =>
        have N1 := hide (show isN s k = 0 from by unfold isN; rw [← HIS.out k, hb]; rfl)
        rw [hb] at ix
        have ix2 : ∀ w, (Instr.index 90 (.agg TA) (.int .i64 (k : Int))).run Try.prog w = .ok (.pointer none) w := ix
        clear hb ix
        go_wp2_with fail
        go_roundw
        case rel => exact ⟨k + 1, q, by omega, hq, by go_num, rfl, by have := NX.out; have := N1.out; rw [this] at NX; exact NX.out.symm, by trivial⟩
        case measure => simp [intOf]; omega
    · obtain rfl : k = 16 := by omega
      go_wp2_with fail
      go_ret
      rw [CS.out, ← hQ.out]
      exact ⟨rfl, by trivial⟩
end
end Go.Proofs.Ytpghnhcjgjgglaa
namespace Go.Proofs.Ytpghnhcjgjgglaa
open Go.ChangeShapes Go.WideShapes Go.ChangeAt Go.RowKit
set_option linter.unusedVariables false
set_option linter.unusedSimpArgs false
theorem ptab_first (w : World) (S : Nat) : RowI (w.alloc (.cells #[.pointer (some ⟨S, 0, none⟩), .pointer none, .pointer none, .pointer none, .pointer none, .pointer none, .pointer none, .pointer none, .pointer none, .pointer none, .pointer none, .pointer none, .pointer none, .pointer none, .pointer none, .pointer none, .pointer none] 92)) w.heap.size 17 92 (ptF S (fun _ => none)) := by
  unfold RowI
  rw [heap_alloc_new]
  rfl
theorem pnode_zero (w : World) (d : Bool) (z : Int) : RowI (w.alloc (.cells #[.bool d, .int .i64 0, .int .i64 z, .slice none 0 0] 89)) w.heap.size 4 89 (ndF ⟨true, d, 0, z, []⟩ (.slice none 0 0)) := by
  unfold RowI
  rw [heap_alloc_new]
  rfl
set_option maxRecDepth 20000 in
set_option maxHeartbeats 4000000 in
theorem pnew21_any {w : World} {H S n : Nat} {U : Nat → Prop} (h : PSo H w U S ⟨[], n⟩) : Calls Try.prog 25 #[.pointer (some ⟨S, 0, none⟩)] w fun e w' => ∃ T U', e = .returned (.pointer (some ⟨T, 0, none⟩)) ∧ PIn H S w' U' T (newI n) ∧ Below w.heap.size w w' ∧ ∀ i, U' i → U i ∨ w.heap.size ≤ i := by
  have HH := hide h
  clear h
  go_enter Try.func25, Try.ntmps25
  go_upto_region 4 with fail
  have R0 := ptab_first w S
  have bA := hide ((Below.refl w.heap.size w).alloc (Nat.le_refl _) (.cells #[.pointer (some ⟨S, 0, none⟩), .pointer none, .pointer none, .pointer none, .pointer none, .pointer none, .pointer none, .pointer none, .pointer none, .pointer none, .pointer none, .pointer none, .pointer none, .pointer none, .pointer none, .pointer none, .pointer none] 92))
  have sz := hide (show (w.alloc (.cells #[.pointer (some ⟨S, 0, none⟩), .pointer none, .pointer none, .pointer none, .pointer none, .pointer none, .pointer none, .pointer none, .pointer none, .pointer none, .pointer none, .pointer none, .pointer none, .pointer none, .pointer none, .pointer none, .pointer none] 92)).heap.size = w.heap.size + 1 from by simp)
  generalize w.alloc (.cells #[.pointer (some ⟨S, 0, none⟩), .pointer none, .pointer none, .pointer none, .pointer none, .pointer none, .pointer none, .pointer none, .pointer none, .pointer none, .pointer none, .pointer none, .pointer none, .pointer none, .pointer none, .pointer none, .pointer none] 92) = w1 at *
  have lt : ∀ i, U i → i < w.heap.size := (keepsPSo H).lt HH.out
  have M0 := hide (show IpM w1 (fun i => U i ∨ i = w.heap.size) H w.heap.size S ⟨fun _ => Nd.zero, ⟨[], n⟩⟩ U (fun _ => none) (fun _ => .slice none 0 0) (fun i => if i = w.heap.size then -1 else -2) from
    ⟨(keepsPSo H).below HH.out bA.out, R0, fun _ => rfl, (fun i b e => by cases e), fun i => World.ownsRow_nil _ _ _ _, if_pos rfl, fun i e => if_neg (by have := lt i e; omega), (fun i b e => by cases e), (fun i g e => by cases e), .inr rfl, fun i e => .inl e, (fun i b e => by cases e), (fun i g e => by cases e), fun i e => by have := sz.out; rcases e with e | e; (have := lt i e; omega); omega⟩)
  have x1 := R0.cell (k := 1) (by omega)
  have y1 := R0.frz 1
  obtain ⟨T, hT⟩ : ∃ T, T = w.heap.size := ⟨_, rfl⟩
  have ET := hide hT
  rw [← hT] at M0 x1 y1 ⊢
  have LA := hide (fun (o : Obj) => (Below.refl w1.heap.size w1).alloc (Nat.le_refl _) o)
  have NB := hide (pnode_zero w1 true 0)
  have LX := hide (M0.out.put_in (i := 0) (b := w1.heap.size) (y := ⟨true, true, 0, 0, []⟩) (by omega) rfl (Nat.le_refl _) (LA.out _) (by simp) NB.out rfl rfl)
  have x2 := ((LA.out (.cells #[.bool true, .int .i64 0, .int .i64 0, .slice none 0 0] 89)).cell (lt_of_cell? x1)).trans x1
  have y2 := ((LA.out (.cells #[.bool true, .int .i64 0, .int .i64 0, .slice none 0 0] 89)).block T (lt_of_cell? x1))
  have y3 : (w1.alloc (.cells #[.bool true, .int .i64 0, .int .i64 0, .slice none 0 0] 89)).frozen? ⟨T, 1, none⟩ = false := (M0.out.below (LA.out _)).row.frz 1
  have LT := hide (lt_of_cell? x1)
  clear x1 y1 R0 hT y2
  go_wp2_with fail
  go_ret
  have W := LX.out.1
  have sz2 := sz.out
  refine ⟨T, rfl, _, ⟨_, _, _, _, W⟩, ?_, fun i e => ?_⟩
  · exact bA.out.trans (LX.out.2.below (B := w.heap.size) (by omega) (fun k e => by rw [e, ET.out]; exact Nat.le_refl _))
  · rcases e with (e | e) | e
    · exact .inl e
    · exact .inr (by rw [e, ET.out]; exact Nat.le_refl _)
    · exact .inr (by rw [e, sz2]; omega)
end Go.Proofs.Ytpghnhcjgjgglaa
namespace Go.Proofs.Ytpghnhcjgjgglaa
open Go.ChangeShapes Go.WideShapes Go.ChangeAt Go.RowKit
set_option linter.unusedVariables false
set_option linter.unusedSimpArgs false
theorem freeI_first {s : In} {k : Nat} (h0 : 1 ≤ k) (hk : k < 16) (h : (s.n k).is = false) (hm : ∀ m, m < k → (s.n m).is = true) : freeI s = some k := by
  cases e : freeI s with
  | none =>
    have := freeA_none e k h0 (by omega)
    rw [h] at this; cases this
  | some j =>
    obtain ⟨h1, h2, h3, h4⟩ := freeA_is e
    rcases Nat.lt_trichotomy j k with c | c | c
    · have := hm j c; rw [h3] at this; cases this
    · rw [c]
    · have := h4 k h0 c; rw [h] at this; cases this
theorem freeI_not {s : In} (hm : ∀ m, m < 16 → (s.n m).is = true) : freeI s = none := by
  cases e : freeI s with
  | none => rfl
  | some j =>
    obtain ⟨h1, h2, h3⟩ := freeI_is e
    have := hm j h2; rw [h3] at this; cases this
section
variable {w : World} {U : Nat → Prop} {H T S : Nat} {s : In} {E : Nat → Prop} {N : Nat → Option Nat} {V : Nat → Value} {tag : Nat → Int}
set_option maxRecDepth 20000 in
theorem run_ptr_ne (w : World) (b : Nat) : (binOp .eql 85 (.pointer none) (.pointer (some ⟨b, 0, none⟩))).run Try.prog w = .ok (.bool false) w := by rfl
attribute [local go_sem] run_ptr_ne
def frI (s : In) : Int := match freeI s with
  | some k => (k : Int)
  | none => -1
set_option maxHeartbeats 4000000 in
theorem index21_any (h : IpM w U H T S s E N V tag) (hr : (s.n 0).is = true) : Calls Try.prog 46 #[.slice (some ⟨T, 1, none⟩) 16 16, .pointer none] w fun e w' => e = .returned (.int .i64 (frI s)) ∧ w = w' := by
  have HH := hide h
  have HR := hide hr
  clear h hr
  go_enter Try.func46, Try.ntmps46
  go_wp2_with fail
  go_loopw [8] (fun iv wr => ∃ k : Nat, k ≤ 16 ∧ iv = .int .i64 (k : Int) ∧ Hid (∀ m, m < k → (s.n m).is = true) ∧ w = wr) (fun iv _ => 16 - (intOf iv).toNat)
  case atStart => exact ⟨0, Nat.zero_le _, rfl, fun m hm => absurd hm (by omega), rfl⟩
  case round =>
    obtain ⟨k, hk, rfl, hA, rfl⟩ := hrel
    have k0 : (0 : Int) ≤ (k : Int) := by omega
    by_cases hlt : k < 16
    · have k1 : (k : Int) < 16 := by omega
      have ck := HH.out.cN hlt
      cases hb : N k with
      | none =>
        rw [hb] at ck
        have FR := hide (show frI s = (k : Int) from by
          have h0 : (s.n k).is = false := by rw [← HH.out.is k, hb]; rfl
          have : 1 ≤ k := by
            rcases Nat.eq_zero_or_pos k with e | e
            · rw [e, HR.out] at h0; cases h0
            · exact e
          unfold frI; rw [freeI_first this hlt h0 hA.out])
        have ck2 : w.cell? ⟨T, 1 + k, none⟩ = some (.pointer none) := ck
        clear hb ck
        go_wp2_with fail
        go_ret
        exact ⟨by rw [FR.out]; rfl, by trivial⟩
      | some b =>
        rw [hb] at ck
        have N1 := hide (show (s.n k).is = true from by rw [← HH.out.is k, hb]; rfl)
        have ck2 : w.cell? ⟨T, 1 + k, none⟩ = some (.pointer (some ⟨b, 0, none⟩)) := ck
        clear hb ck
        go_wp2_with fail
        go_roundw
        case rel => exact ⟨k + 1, by omega, by go_num, fun m hm => by
          rcases Nat.lt_or_ge m k with c | c
          · exact hA.out m c
          · obtain rfl : m = k := by omega
            exact N1.out, by trivial⟩
        case measure => simp [intOf]; omega
    · obtain rfl : k = 16 := by omega
      have FR := hide (show frI s = -1 from by unfold frI; rw [freeI_not hA.out])
      go_wp2_with fail
      go_ret
      exact ⟨by rw [FR.out]; rfl, by trivial⟩
set_option maxHeartbeats 8000000 in
theorem pmake_any {B : Int} (h : PIn H S w U T s) (g : GoodP s [] B) (d : Bool) : Calls Try.prog 15 #[.pointer (some ⟨T, 0, none⟩), .bool d] w (SideO (fun w' U' => PIn H S w' U' T (mkI s d)) U w (.tuple #[.int .i64 (mkII s : Nat), .int .i64 (mkIE s : Nat)])) := by
  obtain ⟨E, N, V, tag, h⟩ := h
  have IX := hide (index21_any h g.root.1)
  cases hf : freeI s with
  | none =>
    have FIN := hide (fun v : Value => Pto.side (v := v) (Pto.refl (show PIn H S w U T s from ⟨_, _, _, _, h⟩)))
    rw [show mkII s = 0 from by unfold mkII; rw [hf]; rfl, show mkIE s = 15 from by unfold mkIE; rw [hf]; rfl, show mkI s d = s from by unfold mkI; rw [hf]]
    rw [show frI s = -1 from by unfold frI; rw [hf]] at IX
    clear h g hf
    go_enter Try.func15, Try.ntmps15
    go_wp2_with (go_at_call 46; refine IX.out.mono ?_; rintro e w' ⟨rfl, rfl⟩)
    go_ret2
    exact FIN.out _
  | some i =>
    obtain ⟨h1, hi, h3⟩ := freeI_is hf
    rw [show mkII s = i from by unfold mkII; rw [hf]; rfl, show mkIE s = 0 from by unfold mkIE; rw [hf]; rfl, show mkI s d = mkAt s d i from by unfold mkI; rw [hf]]
    rw [show frI s = (i : Int) from by unfold frI; rw [hf]] at IX
    have i0 : ¬ (i : Int) < 0 := by omega
    have i00 : (0 : Int) ≤ (i : Int) := by omega
    have i1 : (i : Int) < 16 := by omega
    have hN := h.gone h3
    have cz := h.cZ hi hN
    have A1 := hide (show ∀ o : Obj, Below w.heap.size w (w.alloc o) from fun o => (Below.refl _ _).alloc (Nat.le_refl _) o)
    have LX := hide (h.put_in (i := i) (b := w.heap.size) (y := ⟨true, d, 0, 1, []⟩) hi hN (Nat.le_refl _) (A1.out _) (by simp) (pnode_zero w d 1) rfl rfl)
    have cz2 := ((A1.out (.cells #[.bool d, .int .i64 0, .int .i64 1, .slice none 0 0] 89)).cell (lt_of_cell? cz)).trans cz
    have fz2 : (w.alloc (.cells #[.bool d, .int .i64 0, .int .i64 1, .slice none 0 0] 89)).frozen? ⟨T, 1 + i, none⟩ = false := (h.below (A1.out _)).row.frz _
    have UT := hide (show Touch U w ((w.alloc (.cells #[.bool d, .int .i64 0, .int .i64 1, .slice none 0 0] 89)).setCell ⟨T, 1 + i, none⟩ (.pointer (some ⟨w.heap.size, 0, none⟩))) from LX.out.2.mono (fun k e => e ▸ h.ut))
    obtain ⟨w2, hw2⟩ : ∃ w2, w2 = (w.alloc (.cells #[.bool d, .int .i64 0, .int .i64 1, .slice none 0 0] 89)).setCell ⟨T, 1 + i, none⟩ (.pointer (some ⟨w.heap.size, 0, none⟩)) := ⟨_, rfl⟩
    rw [← hw2] at LX UT
    have L1 := LX.out.1
    have P2 := hide (show Pto w w2 U H T S ⟨upd s.n i ⟨true, d, 0, 1, []⟩, s.so⟩ from ⟨_, ⟨_, _, _, _, L1⟩, UT.out, fun k e => e.imp id (fun e => by rw [e]; exact Nat.le_refl _)⟩)
    cases hd : d with
    | true =>
      rw [hd] at P2 cz2 fz2 hw2
      have FIN := hide (show Pto w w2 U H T S (mkAt s true i) from P2.out)
      clear h g hf hN L1 LX UT A1 hd P2 cz h1 h3
      go_enter Try.func15, Try.ntmps15
      go_upto_region 7 with (go_at_call 46; refine IX.out.mono ?_; rintro e w' ⟨rfl, rfl⟩)
      rw [← hw2]
      clear hw2 cz2 fz2
      go_wp2_with fail
      go_ret2
      exact Pto.side FIN.out
    | false =>
      rw [hd] at P2 cz2 fz2 hw2
      have c0 := L1.c0
      have hE : mkE s.so (i : Int) = 0 := by
        unfold mkE
        rw [if_neg i0]
        have := g.fil i
        cases e : getFi s.so.l i with
        | none => rfl
        | some o => rw [e, h3] at this; simp at this
      have MK := hide (show Calls Try.prog 47 #[.pointer (some ⟨S, 0, none⟩), .int .i64 (i : Int)] w2 (fun e w3 => e = .returned (.int .i64 0) ∧ Pto w w3 U H T S (mkAt s false i)) from by
        refine (pmk_any L1.so (wf_16 hi) (by show s.so.l.length < 1000000; have := g.sofew; omega)).mono ?_
        intro e w3 hS
        have hS' := L1.stored hS
        obtain ⟨rfl, U3, E3, tag3, h4, t4, u4⟩ := hS'
        rw [hd] at h4
        have P3 : PIn H S w3 U3 T (mkAt s false i) := ⟨E3, _, _, tag3, h4⟩
        refine ⟨by show Ending.returned (.int .i64 (mkE s.so (i : Int) : Nat)) = _; rw [hE]; rfl, Pto.step UT.out (fun k e => e.imp id (fun e => by rw [e]; exact Nat.le_refl _)) ⟨U3, P3, t4.mono (fun k e => L1.ue k e), u4⟩⟩)
      clear h g hf hN L1 LX UT A1 hd P2 cz h1 h3 hE
      go_enter Try.func15, Try.ntmps15
      go_upto_region 7 with (go_at_call 46; refine IX.out.mono ?_; rintro e w' ⟨rfl, rfl⟩)
      rw [← hw2]
      clear hw2 cz2 fz2
      go_wp2_with (go_at_call 47; refine MK.out.mono ?_; rintro e w3 ⟨rfl, r3⟩; have R3 := hide r3; clear r3)
      go_ret2
      exact Pto.side R3.out
end
end Go.Proofs.Ytpghnhcjgjgglaa
namespace Go.Proofs.Ytpghnhcjgjgglaa
open Go.ChangeShapes Go.WideShapes Go.ChangeAt Go.RowKit
set_option linter.unusedVariables false
set_option linter.unusedSimpArgs false
structure Ac where
  d : Int
  i : Int
  r : Int
  nm : Txt
  b : Bool
def acV (x : Ac) : List Value := [.int .i64 x.d, .int .i64 x.i, .int .i64 x.r, .string (bt x.nm), .bool x.b]
theorem acV_len (x : Ac) : (acV x).length = 5 := rfl
def AcWf (_ : World) (x : Ac) : Prop := (Lit.int .i64 x.d).wf = true ∧ (Lit.int .i64 x.i).wf = true ∧ (Lit.int .i64 x.r).wf = true ∧ x.nm.length ≤ maxLen
section
variable {H : Type} {enc : TypeId × Value → H} {w : World} {base : Nat} {spare : Nat → Bool} {held : Bool}
theorem ac_open (m : Nat) (cs : List Value) (x : DataW H × List MemPlace) (hl : cs.length = 5) (h : DataW.trod enc Try.prog w base spare held m 31 cs = some x) : ∃ o, cs = acV o ∧ AcWf w o := by
  obtain ⟨d, e0, w0⟩ := field_int Try.underlying31 h 0 0 3 rfl Try.underlying3 (by kernel_rfl)
  obtain ⟨i, e1, w1⟩ := field_int Try.underlying31 h 1 1 3 rfl Try.underlying3 (by kernel_rfl)
  obtain ⟨r, e2, w2⟩ := field_int Try.underlying31 h 2 2 3 rfl Try.underlying3 (by kernel_rfl)
  obtain ⟨s, e3, w3⟩ := field_text Try.underlying31 h 3 3 9 rfl Try.underlying9 (by kernel_rfl)
  obtain ⟨b, e4⟩ := field_bool Try.underlying31 h 4 4 4 rfl Try.underlying4 (by kernel_rfl)
  have hs := bt_size s.data.toList
  rw [bt_data] at hs
  refine ⟨⟨d, i, r, s.data.toList, b⟩, ?_, w0, w1, w2, by show s.data.toList.length ≤ maxLen; omega⟩
  match cs, hl with
  | [v0, v1, v2, v3, v4], _ =>
    simp at e0 e1 e2 e3 e4
    simp [acV, e0, e1, e2, e3, e4, bt_data]
end
theorem Reads.act {w : World} {a : Option Addr} {n : Nat} {zs : List Ac} (h : Reads 5 acV w a n zs) {k : Nat} (hk : k < n) : ∃ x b off, zs[k]? = some x ∧ a = some ⟨b, off, none⟩ ∧ w.cell? ⟨b, off + k * 5, none⟩ = some (.int .i64 x.d) ∧ w.cell? ⟨b, off + k * 5 + 1, none⟩ = some (.int .i64 x.i) ∧ w.cell? ⟨b, off + k * 5 + 2, none⟩ = some (.int .i64 x.r) ∧ w.cell? ⟨b, off + k * 5 + 3, none⟩ = some (.string (bt x.nm)) ∧ w.cell? ⟨b, off + k * 5 + 4, none⟩ = some (.bool x.b) := by
  obtain ⟨x, b, off, h1, h2, h3⟩ := h.at_ hk
  exact ⟨x, b, off, h1, h2, h3 0 _ rfl, h3 1 _ rfl, h3 2 _ rfl, h3 3 _ rfl, h3 4 _ rfl⟩
/-- What 'great' tells. -/
def GreatTells21 (zs : List Ac) (n most : Nat) (e : Ending) : Prop := ∃ r : Bool, e = .returned (.bool r) ∧ (r = false → n ≤ most ∧ ∀ x ∈ zs, x.nm.length ≤ 100)
set_option maxHeartbeats 1000000 in
theorem great21_any {w : World} {a : Option Addr} {n c : Nat} {zs : List Ac} (h : Reads 5 acV w a n zs) (hl : ∀ x ∈ zs, x.nm.length ≤ maxLen) (hn : n ≤ maxLen) (most : Nat) (hm : most ≤ 1000) :
    Calls Try.prog 7 #[.slice a n c, .int .i64 (most : Int)] w fun e w' => GreatTells21 zs n most e ∧ w = w' := by
  have h63 : (n : Int) ≤ 9223372036854775807 := by unfold maxLen at hn; omega
  by_cases hle : n ≤ most
  · have hle' : (n : Int) ≤ (most : Int) := by omega
    have hgt : ¬ (most : Int) < (n : Int) := by omega
    have HA := hide h
    have NL := hide h.1
    have HL := hide hl
    clear h hl
    go_enter Try.func7, Try.ntmps7
    go_wp2_with fail
    go_loop [5] (fun i => ∃ k : Nat, k ≤ n ∧ i = .int .i64 (k : Int) ∧ Hid (∀ x ∈ zs.take k, x.nm.length ≤ 100)) (fun i => n - (intOf i).toNat)
    case atStart => exact ⟨0, Nat.zero_le _, rfl, fun x hx => by simp at hx⟩
    case round =>
      obtain ⟨k, hk, rfl, hR⟩ := hrel
      by_cases hlt : k < n
      · obtain ⟨x, b, off, hx, rfl, -, -, -, c3, -⟩ := HA.out.act hlt
        have k0 : (0 : Int) ≤ (k : Int) := by omega
        have k1 : (k : Int) < (n : Int) := by omega
        have bs := bt_size x.nm
        have bl := HL.out x (List.mem_of_getElem? hx)
        have HX := hide hx
        obtain ⟨y, hy⟩ : ∃ y, y = bt x.nm := ⟨_, rfl⟩
        obtain ⟨z, hz⟩ : ∃ z, z = x.nm.length := ⟨_, rfl⟩
        have HZ := hide hz
        rw [← hy] at c3 bs
        rw [← hz] at bs bl
        have bl2 : (z : Int) ≤ 9223372036854775807 := by unfold maxLen at bl; omega
        by_cases h100 : z ≤ 100
        · have h100' : ¬ (100 : Int) < (y.size : Int) := by omega
          clear hx hy hz
          go_wp2_with fail
          go_round
          case rel => exact ⟨k + 1, by omega, by go_num, fun x2 hx2 => by
            rw [List.take_add_one, HX.out] at hx2
            rcases List.mem_append.1 hx2 with h | h
            · exact hR.out x2 h
            · simp at h; subst h; rw [← HZ.out]; exact h100⟩
          case measure => simp [intOf]; omega
        · have h100' : (100 : Int) < (y.size : Int) := by omega
          clear hx hy hz
          go_wp2_with fail
          go_ret
          exact ⟨⟨true, rfl, fun h => by cases h⟩, rfl⟩
      · obtain rfl : k = n := by omega
        go_wp2_with fail
        go_ret
        exact ⟨⟨_, rfl, fun _ => ⟨hle, fun x hx => hR.out x (by rw [List.take_of_length_le (by rw [NL.out]; exact Nat.le_refl _)]; exact hx)⟩⟩, rfl⟩
  · have hle' : ¬ (n : Int) ≤ (most : Int) := by omega
    have hgt : (most : Int) < (n : Int) := by omega
    have hpos : (0 : Int) < (n : Int) := by omega
    clear h hl
    go_enter Try.func7, Try.ntmps7
    go_wp2_with fail
    go_loop [5] (fun i => i = .int .i64 0) (fun i => 0)
    case atStart => rfl
    case round =>
      subst hrel
      go_wp2_with fail
      go_ret
      exact ⟨⟨_, rfl, fun h => by simp at h⟩, rfl⟩
end Go.Proofs.Ytpghnhcjgjgglaa
namespace Go.Proofs.Ytpghnhcjgjgglaa
open Go.ChangeShapes Go.WideShapes Go.ChangeAt Go.RowKit
set_option linter.unusedVariables false
set_option linter.unusedSimpArgs false
section
variable {w : World} {D : Nat → Prop} {T R S : Nat} {s : In} {B : Int}
theorem rin_mk (h : Rin R S w D T s) (g : GoodP s [] B) (d : Bool) : Calls Try.prog 28 #[.pointer (some ⟨T, 0, none⟩), .bool d] w (SideO (fun w' D' => Rin R S w' D' T (mkI s d)) D w (.tuple #[.int .i64 (mkII s : Nat), .int .i64 (mkIE s : Nat)])) := by
  obtain ⟨E, V, h⟩ := h
  exact (tmake_any h g.sofew d).mono fun e w' ⟨he, r⟩ => he ▸ h.side r
theorem rin_op (h : Rin R S w D T s) (g : GoodP s [] B) (hB : B ≤ 1000000) (id : Int) : Calls Try.prog 30 #[.pointer (some ⟨T, 0, none⟩), .int .i64 id] w (SideO (fun w' D' => Rin R S w' D' T (opI s id)) D w (.int .i64 (opIE s id : Nat))) := by
  obtain ⟨E, V, h⟩ := h
  exact (topen_any h id (fun i => ⟨(g.opn i).1, by have := (g.opn i).2; omega⟩)).mono fun e w' ⟨he, r⟩ => he ▸ h.side r
theorem rin_cl (h : Rin R S w D T s) (g : GoodP s [] B) (hB : B ≤ 1000000) (id : Int) : Calls Try.prog 31 #[.pointer (some ⟨T, 0, none⟩), .int .i64 id] w (SideO (fun w' D' => Rin R S w' D' T (clI s id)) D w (.int .i64 (clIE s id : Nat))) := by
  obtain ⟨E, V, h⟩ := h
  exact (tclose_any h g hB id).mono fun e w' ⟨he, r⟩ => he ▸ h.side r
theorem rin_en (h : Rin R S w D T s) (g : GoodP s [] B) (hB : B ≤ 1000000) (d : Int) (t : Txt) (ht : t.length ≤ 1000) (id : Int) : Calls Try.prog 32 #[.pointer (some ⟨T, 0, none⟩), .int .i64 d, .string (bt t), .int .i64 id] w (SideO (fun w' D' => Rin R S w' D' T (enI s d t id)) D w (.int .i64 (enIE s d t id : Nat))) := by
  obtain ⟨E, V, h⟩ := h
  exact (tenter_any h g hB d t (by omega) id).mono fun e w' ⟨he, r⟩ => he ▸ h.side r
theorem rin_rm (h : Rin R S w D T s) (g : GoodP s [] B) (hB : B ≤ 1000000) (d : Int) (t : Txt) : Calls Try.prog 33 #[.pointer (some ⟨T, 0, none⟩), .int .i64 d, .string (bt t)] w (SideO (fun w' D' => Rin R S w' D' T (rmI s d t)) D w (.int .i64 (rmIE s d t : Nat))) := by
  obtain ⟨E, V, h⟩ := h
  exact (tremove_any h g hB d t).mono fun e w' ⟨he, r⟩ => he ▸ h.side r
theorem rin_fi (h : Rin R S w D T s) (g : GoodP s [] B) (d : Int) (t : Txt) : Calls Try.prog 34 #[.pointer (some ⟨T, 0, none⟩), .int .i64 d, .string (bt t)] w fun e w' => e = .returned (.tuple #[.int .i64 (fiII s d t : Nat), .int .i64 (fiIE s d t : Nat)]) ∧ Below w.heap.size w w' := by
  obtain ⟨E, V, h⟩ := h
  exact (tfind_any h g.few d t).mono fun e w' ⟨he, r⟩ => ⟨he, r ▸ Below.refl _ _⟩
end
/-- What an act makes of a table. -/
def stepI (s : In) (x : Ac) : In := if x.d = 0 then mkI s x.b else if x.d = 1 then opI s x.i else if x.d = 2 then clI s x.i else if x.d = 3 then enI s x.r x.nm x.i else if x.d = 4 then rmI s x.r x.nm else s
theorem GoodP.more {s : In} {B B' : Int} (h : GoodP s [] B) (hB : B ≤ B') : GoodP s [] B' :=
  ⟨by have := h.b1; omega, h.root, h.no, h.big, h.file, h.ent, h.srt, h.few, h.pnd, h.lnk, fun i => ⟨(h.opn i).1, by have := (h.opn i).2; omega⟩, h.lb, h.fil, h.so⟩
theorem GoodP.step {s : In} {B : Int} (h : GoodP s [] B) (x : Ac) : GoodP (stepI s x) [] (B + 1) := by
  unfold stepI
  split
  · exact (h.mk_ _).more (by omega)
  split
  · exact h.op _
  split
  · exact (h.cl _).1.more (by omega)
  split
  · exact (h.en _ _ _).1.more (by omega)
  split
  · exact (h.rm _ _).1.more (by omega)
  · exact h.more (by omega)
theorem NoOrph.step {s : In} {B : Int} (hn : NoOrph s 0) (h : GoodP s [] B) (x : Ac) : NoOrph (stepI s x) 0 := by
  unfold stepI
  split
  · exact hn.mk_ _
  split
  · exact hn.op h _
  split
  · exact (h.cl _).2 hn
  split
  · exact (h.en _ _ _).2 hn
  split
  · exact (h.rm _ _).2 hn
  · exact hn
/-- The act's copy. -/
def CopI (W : World) (X : Nat) (x : Ac) : Prop := W.heap[X]? = some (.cells (acV x).toArray 31 (0, 0))
theorem CopI.cells {W : World} {X : Nat} {x : Ac} (h : CopI W X x) : W.cell? ⟨X, 0, none⟩ = some (.int .i64 x.d) ∧ W.cell? ⟨X, 1, none⟩ = some (.int .i64 x.i) ∧ W.cell? ⟨X, 2, none⟩ = some (.int .i64 x.r) ∧ W.cell? ⟨X, 3, none⟩ = some (.string (bt x.nm)) ∧ W.cell? ⟨X, 4, none⟩ = some (.bool x.b) := by
  unfold CopI at h
  refine ⟨?_, ?_, ?_, ?_, ?_⟩ <;> (rw [cell_of_row _ _ _ _ _ _ h]; rfl)
theorem CopI.stay {W W' : World} {X : Nat} {x : Ac} {Y : List Nat} (h : CopI W X x) (st : Stay Y W W') (hm : X ∈ Y) : CopI W' X x := (st X hm).trans h
section
variable {PS : Nat → Rel So} {PI : Nat → Nat → Rel In} {w wr : World} {U D : Nat → Prop} {X : List Nat} {H S R G T T2 : Nat} {s : In} {B : Int}
set_option maxRecDepth 100000 in
set_option maxHeartbeats 8000000 in
theorem done21_any (I : PInode PS PI) (h : Twin PI w wr U D X H S R G T T2 s) (g : GoodP s [] B) (hB : B ≤ 1000000) (no : NoOrph s 0) (x : Ac) (wi : (Lit.int .i64 x.i).wf = true) (wr_ : (Lit.int .i64 x.r).wf = true) (ht : x.nm.length ≤ 100) :
    Calls Try.prog 10 #[.pointer (some ⟨T, 0, none⟩), .pointer (some ⟨T2, 0, none⟩), .agg #[.int .i64 x.d, .int .i64 x.i, .int .i64 x.r, .string (bt x.nm), .bool x.b]] wr fun e w' => e = .returned (.bool true) ∧ ∃ U' D', Twin PI w w' U' D' X H S R G T T2 (stepI s x) ∧ Stay X wr w' := by
  obtain ⟨d, i, r, nm, b⟩ := x
  have GG := hide g
  have NO := hide no
  have WI := hide wi
  have WR := hide wr_
  have HT := hide (show nm.length ≤ 1000 from by have : nm.length ≤ 100 := ht; omega)
  have al := h.alloc (I.keeps H S) (keepsRin R G) (.cells #[.int .i64 d, .int .i64 i, .int .i64 r, .string (bt nm), .bool b] 31)
  have T1 := hide al.1
  have ST1 := hide al.2
  have C1 : Hid (CopI (wr.alloc (.cells #[.int .i64 d, .int .i64 i, .int .i64 r, .string (bt nm), .bool b] 31)) wr.heap.size ⟨d, i, r, nm, b⟩) := hide (show CopI _ _ _ from heap_alloc_new _ _)
  clear h g no wi wr_ ht al
  go_enter Try.func10, Try.ntmps10
  go_upto_region 1 with fail
  generalize hW1 : wr.alloc (.cells #[.int .i64 d, .int .i64 i, .int .i64 r, .string (bt nm), .bool b] 31) = W1 at *
  clear hW1
  generalize wr.heap.size = Xb at *
  have KP := hide (I.keeps H S)
  have FIN := hide (show ∀ (w9 : World) (U' D' : Nat → Prop) (s' : In), stepI s ⟨d, i, r, nm, b⟩ = s' → Twin PI w w9 U' D' (Xb :: X) H S R G T T2 s' → Stay (Xb :: X) W1 w9 → ∃ U' D', Twin PI w w9 U' D' X H S R G T T2 (stepI s ⟨d, i, r, nm, b⟩) ∧ Stay X wr w9 from
    fun w9 U' D' s' e t9 st => ⟨U', D', e ▸ t9.fewer (fun g hg => List.mem_cons_of_mem _ hg), fun g hg => (st g (List.mem_cons_of_mem _ hg)).trans (ST1.out g hg)⟩)
  have MX := hide (show Xb ∈ Xb :: X from List.mem_cons_self ..)
  by_cases d0 : d = 0
  · subst d0
    obtain ⟨ei, hei⟩ : ∃ z, z = mkII s := ⟨_, rfl⟩
    obtain ⟨ev, hev⟩ : ∃ z, z = mkIE s := ⟨_, rfl⟩
    have g0 : ((ev : Int) == (ev : Int)) = true := by simp
    have g1 : ((ei : Int) == (ei : Int)) = true := by simp
    have LF := hide (fun (W : World) (V : Nat → Prop) (h : PI H S W V T s) => show Calls Try.prog 15 #[.pointer (some ⟨T, 0, none⟩), .bool b] W (SideO (fun w' U' => PI H S w' U' T (mkI s b)) V W (.tuple #[.int .i64 (ei : Int), .int .i64 (ev : Int)])) from by rw [hev, hei]; exact I.ma h GG.out hB NO.out b)
    have RG := hide (fun (W : World) (V : Nat → Prop) (h : Rin R G W V T2 s) => show Calls Try.prog 28 #[.pointer (some ⟨T2, 0, none⟩), .bool b] W (SideO (fun w' U' => Rin R G w' U' T2 (mkI s b)) V W (.tuple #[.int .i64 (ei : Int), .int .i64 (ev : Int)])) from by rw [hev, hei]; exact rin_mk h GG.out b)
    have EQ := hide (show stepI s ⟨0, i, r, nm, b⟩ = mkI s b from rfl)
    have x0 := C1.out.cells.1
    have x4 := C1.out.cells.2.2.2.2
    clear hev hei
    go_wp2_with (first
      | (go_at_call 15; refine (LF.out _ _ T1.out.ps).mono ?_; intro en w4 hs; obtain ⟨rfl, U4, t4, h4⟩ := T1.out.left (I.keeps H S) (keepsRin R G) hs; have T4 := hide t4; have C4 := hide (C1.out.stay h4 MX.out); have S4 := hide h4; have y4 := C4.out.cells.2.2.2.2; clear hs t4 h4)
      | (go_at_call 28; refine (RG.out _ _ T4.out.ds).mono ?_; intro en w5 hs; obtain ⟨rfl, D5, t5, h5⟩ := T4.out.right (I.keeps H S) (keepsRin R G) hs; have T5 := hide t5; have S5 := hide (show Stay (Xb :: X) W1 w5 from fun g hg => (h5 g hg).trans (S4.out g hg)); clear hs t5 h5)
      | (go_at_call 29; refine (num_any _ _).mono ?_; rintro e w' ⟨rfl, rfl⟩))
    go_ret
    exact ⟨rfl, FIN.out _ _ _ _ EQ.out T5.out S5.out⟩
  by_cases d1 : d = 1
  · subst d1
    have g0 : (((opIE s i : Nat) : Int) == ((opIE s i : Nat) : Int)) = true := by simp
    obtain ⟨ev, hev⟩ : ∃ ev, ev = opIE s i := ⟨_, rfl⟩
    rw [← hev] at g0
    have LF := hide (fun (W : World) (V : Nat → Prop) (h : PI H S W V T s) => show Calls Try.prog 20 #[.pointer (some ⟨T, 0, none⟩), .int .i64 i] W (SideO (fun w' U' => PI H S w' U' T (opI s i)) V W (.int .i64 (ev : Int))) from by rw [hev]; exact I.op h GG.out hB NO.out i WI.out)
    have RG := hide (fun (W : World) (V : Nat → Prop) (h : Rin R G W V T2 s) => show Calls Try.prog 30 #[.pointer (some ⟨T2, 0, none⟩), .int .i64 i] W (SideO (fun w' U' => Rin R G w' U' T2 (opI s i)) V W (.int .i64 (ev : Int))) from by rw [hev]; exact rin_op h GG.out hB i)
    have EQ := hide (show stepI s ⟨1, i, r, nm, b⟩ = opI s i from rfl)
    have T1d := hide (T1.out.below (I.keeps H S) (keepsRin R G) (Below.refl W1.heap.size W1).drew)
    have x0 := C1.out.cells.1
    have x1 : W1.cell? ⟨Xb, 1, none⟩ = some (.int .i64 i) := C1.out.cells.2.1
    have x1d : W1.drew.cell? ⟨Xb, 1, none⟩ = some (.int .i64 i) := x1
    clear hev
    go_wp2_with fail
    clear x0
    go_region_held3 (fun w' => w'.cell? ⟨Xb, 1, none⟩ = some (.int .i64 i)) (first | exact x1d | exact x1 | exact y1 | exact z1) (first
      | (go_at_call 20; refine (LF.out _ _ T1d.out.1.ps).mono ?_; intro en w4 hs; obtain ⟨rfl, U4, t4, h4⟩ := T1d.out.1.left (I.keeps H S) (keepsRin R G) hs; have T4 := hide t4; have C4 := hide ((C1.out.stay T1d.out.2 MX.out).stay h4 MX.out); have S4 := hide (show Stay (Xb :: X) W1 w4 from fun g hg => (h4 g hg).trans (T1d.out.2 g hg)); have y1 : w4.cell? ⟨Xb, 1, none⟩ = some (.int .i64 i) := C4.out.cells.2.1; clear hs t4 h4)
      | (go_at_call 30; refine (RG.out _ _ T4.out.ds).mono ?_; intro en w5 hs; obtain ⟨rfl, D5, t5, h5⟩ := T4.out.right (I.keeps H S) (keepsRin R G) hs; have T5 := hide t5; have C5 := hide (C4.out.stay h5 MX.out); have S5 := hide (show Stay (Xb :: X) W1 w5 from fun g hg => (h5 g hg).trans (S4.out g hg)); have z1 : w5.cell? ⟨Xb, 1, none⟩ = some (.int .i64 i) := C5.out.cells.2.1; clear hs t5 h5)
      | (go_at_call 29; refine (num_any _ _).mono ?_; rintro e w' ⟨rfl, rfl⟩))
    go_wp2_with fail
    go_ret
    exact ⟨rfl, FIN.out _ _ _ _ EQ.out T5.out S5.out⟩
  by_cases d2 : d = 2
  · subst d2
    have g0 : (((clIE s i : Nat) : Int) == ((clIE s i : Nat) : Int)) = true := by simp
    obtain ⟨ev, hev⟩ : ∃ ev, ev = clIE s i := ⟨_, rfl⟩
    rw [← hev] at g0
    have LF := hide (fun (W : World) (V : Nat → Prop) (h : PI H S W V T s) => show Calls Try.prog 21 #[.pointer (some ⟨T, 0, none⟩), .int .i64 i] W (SideO (fun w' U' => PI H S w' U' T (clI s i)) V W (.int .i64 (ev : Int))) from by rw [hev]; exact I.cl h GG.out hB NO.out i WI.out)
    have RG := hide (fun (W : World) (V : Nat → Prop) (h : Rin R G W V T2 s) => show Calls Try.prog 31 #[.pointer (some ⟨T2, 0, none⟩), .int .i64 i] W (SideO (fun w' U' => Rin R G w' U' T2 (clI s i)) V W (.int .i64 (ev : Int))) from by rw [hev]; exact rin_cl h GG.out hB i)
    have EQ := hide (show stepI s ⟨2, i, r, nm, b⟩ = clI s i from rfl)
    have T1d := hide (T1.out.below (I.keeps H S) (keepsRin R G) (Below.refl W1.heap.size W1).drew)
    have x0 := C1.out.cells.1
    have x1 : W1.cell? ⟨Xb, 1, none⟩ = some (.int .i64 i) := C1.out.cells.2.1
    have x1d : W1.drew.cell? ⟨Xb, 1, none⟩ = some (.int .i64 i) := x1
    clear hev
    go_wp2_with fail
    clear x0
    go_region_held3 (fun w' => w'.cell? ⟨Xb, 1, none⟩ = some (.int .i64 i)) (first | exact x1d | exact x1 | exact y1 | exact z1) (first
      | (go_at_call 21; refine (LF.out _ _ T1d.out.1.ps).mono ?_; intro en w4 hs; obtain ⟨rfl, U4, t4, h4⟩ := T1d.out.1.left (I.keeps H S) (keepsRin R G) hs; have T4 := hide t4; have C4 := hide ((C1.out.stay T1d.out.2 MX.out).stay h4 MX.out); have S4 := hide (show Stay (Xb :: X) W1 w4 from fun g hg => (h4 g hg).trans (T1d.out.2 g hg)); have y1 : w4.cell? ⟨Xb, 1, none⟩ = some (.int .i64 i) := C4.out.cells.2.1; clear hs t4 h4)
      | (go_at_call 31; refine (RG.out _ _ T4.out.ds).mono ?_; intro en w5 hs; obtain ⟨rfl, D5, t5, h5⟩ := T4.out.right (I.keeps H S) (keepsRin R G) hs; have T5 := hide t5; have C5 := hide (C4.out.stay h5 MX.out); have S5 := hide (show Stay (Xb :: X) W1 w5 from fun g hg => (h5 g hg).trans (S4.out g hg)); have z1 : w5.cell? ⟨Xb, 1, none⟩ = some (.int .i64 i) := C5.out.cells.2.1; clear hs t5 h5)
      | (go_at_call 29; refine (num_any _ _).mono ?_; rintro e w' ⟨rfl, rfl⟩))
    go_wp2_with fail
    go_ret
    exact ⟨rfl, FIN.out _ _ _ _ EQ.out T5.out S5.out⟩
  by_cases d3 : d = 3
  · subst d3
    have g0 : (((enIE s r nm i : Nat) : Int) == ((enIE s r nm i : Nat) : Int)) = true := by simp
    obtain ⟨ev, hev⟩ : ∃ ev, ev = enIE s r nm i := ⟨_, rfl⟩
    rw [← hev] at g0
    have LF := hide (fun (W : World) (V : Nat → Prop) (h : PI H S W V T s) => show Calls Try.prog 16 #[.pointer (some ⟨T, 0, none⟩), .int .i64 r, .string (bt nm), .int .i64 i] W (SideO (fun w' U' => PI H S w' U' T (enI s r nm i)) V W (.int .i64 (ev : Int))) from by rw [hev]; exact I.en h GG.out hB NO.out r nm i WR.out WI.out HT.out)
    have RG := hide (fun (W : World) (V : Nat → Prop) (h : Rin R G W V T2 s) => show Calls Try.prog 32 #[.pointer (some ⟨T2, 0, none⟩), .int .i64 r, .string (bt nm), .int .i64 i] W (SideO (fun w' U' => Rin R G w' U' T2 (enI s r nm i)) V W (.int .i64 (ev : Int))) from by rw [hev]; exact rin_en h GG.out hB r nm HT.out i)
    have EQ := hide (show stepI s ⟨3, i, r, nm, b⟩ = enI s r nm i from rfl)
    have T1d := hide (T1.out.below (I.keeps H S) (keepsRin R G) (Below.refl W1.heap.size W1).drew)
    have x0 := C1.out.cells.1
    have x1 : W1.cell? ⟨Xb, 1, none⟩ = some (.int .i64 i) ∧ W1.cell? ⟨Xb, 2, none⟩ = some (.int .i64 r) ∧ W1.cell? ⟨Xb, 3, none⟩ = some (.string (bt nm)) := ⟨C1.out.cells.2.1, C1.out.cells.2.2.1, C1.out.cells.2.2.2.1⟩
    have x1d : W1.drew.cell? ⟨Xb, 1, none⟩ = some (.int .i64 i) ∧ W1.drew.cell? ⟨Xb, 2, none⟩ = some (.int .i64 r) ∧ W1.drew.cell? ⟨Xb, 3, none⟩ = some (.string (bt nm)) := x1
    clear hev
    go_wp2_with fail
    clear x0
    go_region_held3 (fun w' => w'.cell? ⟨Xb, 1, none⟩ = some (.int .i64 i) ∧ w'.cell? ⟨Xb, 2, none⟩ = some (.int .i64 r) ∧ w'.cell? ⟨Xb, 3, none⟩ = some (.string (bt nm))) (first | exact x1d | exact x1 | exact y1 | exact z1) (first
      | (go_at_call 16; refine (LF.out _ _ T1d.out.1.ps).mono ?_; intro en w4 hs; obtain ⟨rfl, U4, t4, h4⟩ := T1d.out.1.left (I.keeps H S) (keepsRin R G) hs; have T4 := hide t4; have C4 := hide ((C1.out.stay T1d.out.2 MX.out).stay h4 MX.out); have S4 := hide (show Stay (Xb :: X) W1 w4 from fun g hg => (h4 g hg).trans (T1d.out.2 g hg)); have y1 : w4.cell? ⟨Xb, 1, none⟩ = some (.int .i64 i) ∧ w4.cell? ⟨Xb, 2, none⟩ = some (.int .i64 r) ∧ w4.cell? ⟨Xb, 3, none⟩ = some (.string (bt nm)) := ⟨C4.out.cells.2.1, C4.out.cells.2.2.1, C4.out.cells.2.2.2.1⟩; clear hs t4 h4)
      | (go_at_call 32; refine (RG.out _ _ T4.out.ds).mono ?_; intro en w5 hs; obtain ⟨rfl, D5, t5, h5⟩ := T4.out.right (I.keeps H S) (keepsRin R G) hs; have T5 := hide t5; have C5 := hide (C4.out.stay h5 MX.out); have S5 := hide (show Stay (Xb :: X) W1 w5 from fun g hg => (h5 g hg).trans (S4.out g hg)); have z1 : w5.cell? ⟨Xb, 1, none⟩ = some (.int .i64 i) ∧ w5.cell? ⟨Xb, 2, none⟩ = some (.int .i64 r) ∧ w5.cell? ⟨Xb, 3, none⟩ = some (.string (bt nm)) := ⟨C5.out.cells.2.1, C5.out.cells.2.2.1, C5.out.cells.2.2.2.1⟩; clear hs t5 h5)
      | (go_at_call 29; refine (num_any _ _).mono ?_; rintro e w' ⟨rfl, rfl⟩))
    go_wp2_with fail
    go_ret
    exact ⟨rfl, FIN.out _ _ _ _ EQ.out T5.out S5.out⟩
  by_cases d4 : d = 4
  · subst d4
    have g0 : (((rmIE s r nm : Nat) : Int) == ((rmIE s r nm : Nat) : Int)) = true := by simp
    obtain ⟨ev, hev⟩ : ∃ ev, ev = rmIE s r nm := ⟨_, rfl⟩
    rw [← hev] at g0
    have LF := hide (fun (W : World) (V : Nat → Prop) (h : PI H S W V T s) => show Calls Try.prog 19 #[.pointer (some ⟨T, 0, none⟩), .int .i64 r, .string (bt nm)] W (SideO (fun w' U' => PI H S w' U' T (rmI s r nm)) V W (.int .i64 (ev : Int))) from by rw [hev]; exact I.rm h GG.out hB NO.out r nm WR.out HT.out)
    have RG := hide (fun (W : World) (V : Nat → Prop) (h : Rin R G W V T2 s) => show Calls Try.prog 33 #[.pointer (some ⟨T2, 0, none⟩), .int .i64 r, .string (bt nm)] W (SideO (fun w' U' => Rin R G w' U' T2 (rmI s r nm)) V W (.int .i64 (ev : Int))) from by rw [hev]; exact rin_rm h GG.out hB r nm)
    have EQ := hide (show stepI s ⟨4, i, r, nm, b⟩ = rmI s r nm from rfl)
    have T1d := hide (T1.out.below (I.keeps H S) (keepsRin R G) (Below.refl W1.heap.size W1).drew)
    have x0 := C1.out.cells.1
    have x1 : W1.cell? ⟨Xb, 2, none⟩ = some (.int .i64 r) ∧ W1.cell? ⟨Xb, 3, none⟩ = some (.string (bt nm)) := ⟨C1.out.cells.2.2.1, C1.out.cells.2.2.2.1⟩
    have x1d : W1.drew.cell? ⟨Xb, 2, none⟩ = some (.int .i64 r) ∧ W1.drew.cell? ⟨Xb, 3, none⟩ = some (.string (bt nm)) := x1
    clear hev
    go_wp2_with fail
    clear x0
    go_region_held3 (fun w' => w'.cell? ⟨Xb, 2, none⟩ = some (.int .i64 r) ∧ w'.cell? ⟨Xb, 3, none⟩ = some (.string (bt nm))) (first | exact x1d | exact x1 | exact y1 | exact z1) (first
      | (go_at_call 19; refine (LF.out _ _ T1d.out.1.ps).mono ?_; intro en w4 hs; obtain ⟨rfl, U4, t4, h4⟩ := T1d.out.1.left (I.keeps H S) (keepsRin R G) hs; have T4 := hide t4; have C4 := hide ((C1.out.stay T1d.out.2 MX.out).stay h4 MX.out); have S4 := hide (show Stay (Xb :: X) W1 w4 from fun g hg => (h4 g hg).trans (T1d.out.2 g hg)); have y1 : w4.cell? ⟨Xb, 2, none⟩ = some (.int .i64 r) ∧ w4.cell? ⟨Xb, 3, none⟩ = some (.string (bt nm)) := ⟨C4.out.cells.2.2.1, C4.out.cells.2.2.2.1⟩; clear hs t4 h4)
      | (go_at_call 33; refine (RG.out _ _ T4.out.ds).mono ?_; intro en w5 hs; obtain ⟨rfl, D5, t5, h5⟩ := T4.out.right (I.keeps H S) (keepsRin R G) hs; have T5 := hide t5; have C5 := hide (C4.out.stay h5 MX.out); have S5 := hide (show Stay (Xb :: X) W1 w5 from fun g hg => (h5 g hg).trans (S4.out g hg)); have z1 : w5.cell? ⟨Xb, 2, none⟩ = some (.int .i64 r) ∧ w5.cell? ⟨Xb, 3, none⟩ = some (.string (bt nm)) := ⟨C5.out.cells.2.2.1, C5.out.cells.2.2.2.1⟩; clear hs t5 h5)
      | (go_at_call 29; refine (num_any _ _).mono ?_; rintro e w' ⟨rfl, rfl⟩))
    go_wp2_with fail
    go_ret
    exact ⟨rfl, FIN.out _ _ _ _ EQ.out T5.out S5.out⟩
  · obtain ⟨ei, hei⟩ : ∃ z, z = fiII s r nm := ⟨_, rfl⟩
    obtain ⟨ev, hev⟩ : ∃ z, z = fiIE s r nm := ⟨_, rfl⟩
    have g0 : ((ev : Int) == (ev : Int)) = true := by simp
    have g1 : ((ei : Int) == (ei : Int)) = true := by simp
    have LF := hide (fun (W : World) (V : Nat → Prop) (h : PI H S W V T s) => show Calls Try.prog 17 #[.pointer (some ⟨T, 0, none⟩), .int .i64 r, .string (bt nm)] W (fun e w' => e = .returned (.tuple #[.int .i64 (ei : Int), .int .i64 (ev : Int)]) ∧ Below W.heap.size W w') from by rw [hev, hei]; exact I.fi h GG.out r nm WR.out HT.out)
    have RG := hide (fun (W : World) (V : Nat → Prop) (h : Rin R G W V T2 s) => show Calls Try.prog 34 #[.pointer (some ⟨T2, 0, none⟩), .int .i64 r, .string (bt nm)] W (fun e w' => e = .returned (.tuple #[.int .i64 (ei : Int), .int .i64 (ev : Int)]) ∧ Below W.heap.size W w') from by rw [hev, hei]; exact rin_fi h GG.out r nm)
    have EQ := hide (show stepI s ⟨d, i, r, nm, b⟩ = s from by unfold stepI; rw [if_neg d0, if_neg d1, if_neg d2, if_neg d3, if_neg d4])
    have x0 := C1.out.cells.1
    have x2 := C1.out.cells.2.2.1
    have x3 := C1.out.cells.2.2.2.1
    clear hev hei
    go_wp2_with (first
      | (go_at_call 17; refine (LF.out _ _ T1.out.ps).mono ?_; rintro e w4 ⟨rfl, b4⟩; have t4 := T1.out.below (I.keeps H S) (keepsRin R G) b4; have T4 := hide t4.1; have C4 := hide (C1.out.stay t4.2 MX.out); have S4 := hide t4.2; have y2 := C4.out.cells.2.2.1; have y3 := C4.out.cells.2.2.2.1; clear t4 b4)
      | (go_at_call 34; refine (RG.out _ _ T4.out.ds).mono ?_; rintro e w5 ⟨rfl, b5⟩; have t5 := T4.out.below (I.keeps H S) (keepsRin R G) b5; have T5 := hide t5.1; have S5 := hide (show Stay (Xb :: X) W1 w5 from fun g hg => (t5.2 g hg).trans (S4.out g hg)); clear t5 b5)
      | (go_at_call 29; refine (num_any _ _).mono ?_; rintro e w' ⟨rfl, rfl⟩))
    go_ret
    exact ⟨rfl, FIN.out _ _ _ _ EQ.out T5.out S5.out⟩
end
end Go.Proofs.Ytpghnhcjgjgglaa
namespace Go.Proofs.Ytpghnhcjgjgglaa
open Go.ChangeShapes Go.WideShapes Go.ChangeAt Go.RowKit
set_option linter.unusedVariables false
set_option linter.unusedSimpArgs false
theorem inode_same (w : World) (a b d : Int) (c : Bool) : (binOp .eql 35 (.agg #[.int .i64 a, .int .i64 b, .bool c, .int .i64 d]) (.agg #[.int .i64 a, .int .i64 b, .bool c, .int .i64 d])).run Try.prog w = .ok (.bool true) w := by
  rw [run_eql_struct, run_equalIn_agg w 9999 _ _ _ (by kernel_rfl) (by kernel_rfl)]
  simp only [Program.fieldsOf, Try.underlying35]
  simp [Op.eqFields, go_sem, Try.underlying3, Try.underlying4]
theorem got_form (s : In) (id : Int) : ∃ g0 g1 g2 g3 gb, gotI s id = .tuple #[.agg #[.int .i64 g0, .int .i64 g1, .bool g2, .int .i64 g3], .bool gb] := by
  unfold gotI; split
  · exact ⟨_, _, _, _, _, rfl⟩
  · exact ⟨_, _, _, _, _, rfl⟩
section
variable {PS : Nat → Rel So} {PI : Nat → Nat → Rel In} {w wr : World} {U D : Nat → Prop} {X : List Nat} {H S R G T T2 : Nat} {s : In} {B : Int}
attribute [local go_sem] inode_same
set_option maxRecDepth 100000 in
set_option maxHeartbeats 8000000 in
theorem same21_any (I : PInode PS PI) (h : Twin PI w wr U D X H S R G T T2 s) (g : GoodP s [] B) (hB : B ≤ 1000000) (id : Int) (wi : (Lit.int .i64 id).wf = true) :
    Calls Try.prog 11 #[.pointer (some ⟨T, 0, none⟩), .pointer (some ⟨T2, 0, none⟩), .int .i64 id] wr fun e w' => e = .returned (.bool true) ∧ Twin PI w w' U D X H S R G T T2 s ∧ Stay X wr w' := by
  have KP := I.keeps H S
  have TW := hide (fun (W : World) (b : Below wr.heap.size wr W) => h.below KP (keepsRin R G) b)
  obtain ⟨E, V, h2⟩ := h.ds
  have H2 := hide (fun (W : World) (b : Below wr.heap.size wr W) => h2.below b)
  obtain ⟨g0, g1, g2, g3, gb, hgot⟩ := got_form s id
  have PG := hide (fun (W : World) (b : Below wr.heap.size wr W) => hgot ▸ I.gt (TW.out W b).1.ps g id wi)
  have RG := hide (fun (W : World) (b : Below wr.heap.size wr W) => hgot ▸ tget_any (H2.out W b) g.few id)
  have PO := hide (fun (W : World) (b : Below wr.heap.size wr W) => I.os (TW.out W b).1.ps g id wi)
  have PL := hide (fun (W : World) (b : Below wr.heap.size wr W) => I.ls (TW.out W b).1.ps g id wi)
  have PN := hide (fun (W : World) (b : Below wr.heap.size wr W) => I.ln (TW.out W b).1.ps g)
  have RN := hide (fun (W : World) (b : Below wr.heap.size wr W) => tlen_any (H2.out W b))
  have IS := hide (fun (W : World) (b : Below wr.heap.size wr W) => tis_any (H2.out W b) id)
  have ID := hide (fun (W : World) (b : Below wr.heap.size wr W) => tisdir_any (H2.out W b) id)
  have FREE := hide (fun (W W' : World) (b : Below wr.heap.size wr W) {t : TypeId} {z n : Nat} {v : Value} {xs : List Value} (ho : W'.ownsRow W.heap.size t z v n xs) => (TW.out W b).1.free KP (keepsRin R G) ho)
  have OVR := hide (fun (W W' : World) (v : Value) (b : Below wr.heap.size wr W) (f : FreeO w W U D X v) (u : Touch (fun i => v.ownBlock = some i) W W') => (TW.out W b).1.over KP (keepsRin R G) f u)
  obtain ⟨gn, hgn⟩ : ∃ z, z = cntI s := ⟨_, rfl⟩
  rw [← hgn] at PN RN
  have gg : ((gn : Int) == (gn : Int)) = true := by simp
  have gb1 : (gb == gb) = true := by simp
  have L8 := hide (show (lsI s id).length ≤ 8 from by unfold lsI; split; exact g.few _; exact Nat.zero_le _)
  have AL := hide (fun (W : World) (b : Below wr.heap.size wr W) (o : Obj) => b.alloc b.size o)
  cases e1 : dirI s id with
  | true =>
    obtain ⟨i, rfl, hi, his, hdir⟩ := dirI_yes e1
    have e2 : isI s (i : Int) = true := isI_of hi his
    have ho : opsI s (i : Int) = (s.n i).opens := by unfold opsI; rw [e2, if_pos rfl, Int.toNat_natCast]
    have hl : lsI s (i : Int) = (s.n i).l := by unfold lsI; rw [e1, if_pos rfl, Int.toNat_natCast]
    have hle : lsIE s (i : Int) = 0 := by unfold lsIE; rw [e1]; rfl
    rw [e1] at ID
    rw [e2] at IS
    rw [ho] at PO
    rw [hl, hle] at PL
    rw [hl] at L8
    obtain ⟨op, hop⟩ : ∃ z, z = (s.n i).opens := ⟨_, rfl⟩
    rw [← hop] at PO
    have go0 : ((op : Int) == (op : Int)) = true := by simp
    obtain ⟨a, c, hv, hr, -, -, -⟩ := h2.list i
    obtain ⟨l, hll⟩ : ∃ l, l = (s.n i).l := ⟨_, rfl⟩
    rw [← hll] at PL L8 hr hv
    have CEL := hide (fun (W : World) (b : Below wr.heap.size wr W) => show W.cell? ⟨T2, 1 + i * 5 + 3, none⟩ = some (.int .i64 op) ∧ W.cell? ⟨T2, 1 + i * 5 + 4, none⟩ = some (.slice a l.length c) ∧ Reads 2 en2V W a l.length (l.map toEn) from ⟨hop ▸ (H2.out W b).cOpens hi, hv ▸ (H2.out W b).cList hi, reads_to (hr.below b)⟩)
    have i0 : (0 : Int) ≤ (i : Int) := by omega
    have i1 : (i : Int) < 16 := by omega
    clear h h2 g hgot e1 e2 ho hl hle hop hv hr hll his hdir hgn KP
    go_enter Try.func11, Try.ntmps11
    go_upto_region 2 with (go_at_call 12; refine (PG.out _ (Below.refl _ _)).mono ?_; rintro e w1 ⟨rfl, b1⟩; have B1 := hide b1; clear b1)
    have B2 := hide (AL.out _ B1.out (.cells #[.int .i64 g0, .int .i64 g1, .bool g2, .int .i64 g3] 35))
    have HY1 := hide (heap_alloc_new w1 (.cells #[.int .i64 g0, .int .i64 g1, .bool g2, .int .i64 g3] 35))
    generalize w1.alloc (.cells #[.int .i64 g0, .int .i64 g1, .bool g2, .int .i64 g3] 35) = w2 at *
    generalize w1.heap.size = Y1 at *
    go_upto_region 3 with (go_at_call 35; refine (RG.out _ B2.out).mono ?_; rintro e w3 ⟨rfl, b3⟩; have B3 := hide b3; clear b3)
    have bA := (Below.refl w3.heap.size w3).alloc (Nat.le_refl _) (.cells #[.int .i64 g0, .int .i64 g1, .bool g2, .int .i64 g3] 35)
    have B4 := hide (B2.out.trans ((B3.out.mono B2.out.size).trans (bA.mono (Nat.le_trans B2.out.size B3.out.size))))
    have HY1' := hide ((B3.out.block Y1 (lt_of_heap HY1.out)).trans HY1.out)
    have HY1'' := hide ((bA.block Y1 (lt_of_heap HY1'.out)).trans HY1'.out)
    have HY2 := hide (heap_alloc_new w3 (.cells #[.int .i64 g0, .int .i64 g1, .bool g2, .int .i64 g3] 35))
    clear bA
    generalize w3.alloc (.cells #[.int .i64 g0, .int .i64 g1, .bool g2, .int .i64 g3] 35) = w4 at *
    generalize w3.heap.size = Y2 at *
    obtain ⟨x0, x1, -⟩ := CEL.out _ B4.out
    go_upto_region 11 with (first
      | (go_at_call 36; refine (IS.out _ B4.out).mono ?_; rintro e w' ⟨rfl, rfl⟩)
      | (go_at_call 37; refine (ID.out _ B4.out).mono ?_; rintro e w' ⟨rfl, rfl⟩))
    go_upto_region 12 with (go_at_call 13; refine (PL.out _ B4.out).mono ?_; rintro e w5 ⟨v5, rfl, o5, b5⟩; have O5 := hide o5; have B5 := hide b5; clear o5 b5)
    have BB5 := hide (B4.out.trans (B5.out.mono B4.out.size))
    have F5 := hide (FREE.out _ _ B4.out O5.out)
    have h1 := (B5.out.block Y1 (lt_of_heap HY1''.out)).trans HY1''.out
    have h2 := (B5.out.block Y2 (lt_of_heap HY2.out)).trans HY2.out
    have k0 : w5.cell? ⟨Y1, 0, none⟩ = some (.int .i64 g0) := by rw [cell_of_row _ _ _ _ _ _ h1]; rfl
    have k1 : w5.cell? ⟨Y1, 1, none⟩ = some (.int .i64 g1) := by rw [cell_of_row _ _ _ _ _ _ h1]; rfl
    have k2 : w5.cell? ⟨Y1, 2, none⟩ = some (.bool g2) := by rw [cell_of_row _ _ _ _ _ _ h1]; rfl
    have k3 : w5.cell? ⟨Y1, 3, none⟩ = some (.int .i64 g3) := by rw [cell_of_row _ _ _ _ _ _ h1]; rfl
    have m0 : w5.cell? ⟨Y2, 0, none⟩ = some (.int .i64 g0) := by rw [cell_of_row _ _ _ _ _ _ h2]; rfl
    have m1 : w5.cell? ⟨Y2, 1, none⟩ = some (.int .i64 g1) := by rw [cell_of_row _ _ _ _ _ _ h2]; rfl
    have m2 : w5.cell? ⟨Y2, 2, none⟩ = some (.bool g2) := by rw [cell_of_row _ _ _ _ _ _ h2]; rfl
    have m3 : w5.cell? ⟨Y2, 3, none⟩ = some (.int .i64 g3) := by rw [cell_of_row _ _ _ _ _ _ h2]; rfl
    obtain ⟨a5, c5, rfl, r5, -, -, -⟩ := own_reads enV_len (by omega) O5.out
    have R5 := hide (fun (W : World) (b : Below w5.heap.size w5 W) => reads_to (r5.below b))
    clear r5 h1 h2
    go_upto_region 13 with (first
      | (go_at_call 14; refine (PO.out _ BB5.out).mono ?_; rintro e w6 ⟨rfl, b6⟩; have B6 := hide b6; have BB6 := hide (BB5.out.trans (b6.mono BB5.out.size)); clear b6)
      | (go_at_call 38; refine (sameEntries_any _ _ _ _ _ _ _ (R5.out _ B6.out) ((CEL.out _ BB6.out).2.2) (by have := L8.out; omega)).mono ?_; rintro e w7 ⟨rfl, b7⟩; have B7 := hide (B6.out.trans (b7.mono B6.out.size)); have BB7 := hide (BB6.out.trans (b7.mono BB6.out.size)); clear b7)
      | (go_at_call 22; refine (PN.out _ BB7.out).mono ?_; rintro e w8 ⟨rfl, b8⟩; have B8 := hide (B7.out.trans (b8.mono B7.out.size)); have BB8 := hide (BB7.out.trans (b8.mono BB7.out.size)); clear b8)
      | (go_at_call 39; refine (RN.out _ BB8.out).mono ?_; rintro e w' ⟨rfl, rfl⟩))
    have O8 := hide ((Touch.of_below (S := fun _ => False) B8.out).own O5.out (fun _ _ e => e))
    have F8 := hide (F5.out.below B8.out)
    go_wp2_with (go_at_call 40; refine (overEntries_any _ _ _ _ O8.out (by have := L8.out; omega)).mono ?_; rintro e w9 ⟨rfl, u9⟩; have U9 := hide u9; clear u9)
    go_ret
    have fin := OVR.out _ _ _ BB8.out F8.out U9.out
    exact ⟨rfl, fin.1, fun g hg => (fin.2 g hg).trans ((TW.out _ BB8.out).2 g hg)⟩
  | false =>
    have hl : lsI s id = [] := by unfold lsI; rw [e1]; rfl
    have hle : lsIE s id = 11 := by unfold lsIE; rw [e1]; rfl
    rw [e1] at ID
    rw [hl, hle, show ([] : List Ent).length = 0 from rfl] at PL
    rw [hl] at L8
    cases e2 : isI s id with
    | true =>
      obtain ⟨i, rfl, hi, his⟩ := isI_yes e2
      have ho : opsI s (i : Int) = (s.n i).opens := by unfold opsI; rw [e2, if_pos rfl, Int.toNat_natCast]
      rw [e2] at IS
      rw [ho] at PO
      obtain ⟨op, hop⟩ : ∃ z, z = (s.n i).opens := ⟨_, rfl⟩
      rw [← hop] at PO
      have go0 : ((op : Int) == (op : Int)) = true := by simp
      have CEL := hide (fun (W : World) (b : Below wr.heap.size wr W) => show W.cell? ⟨T2, 1 + i * 5 + 3, none⟩ = some (.int .i64 op) from hop ▸ (H2.out W b).cOpens hi)
      have i0 : (0 : Int) ≤ (i : Int) := by omega
      have i1 : (i : Int) < 16 := by omega
      clear h h2 g hgot e1 e2 ho hl hle hop his hgn KP
      go_enter Try.func11, Try.ntmps11
      go_upto_region 2 with (go_at_call 12; refine (PG.out _ (Below.refl _ _)).mono ?_; rintro e w1 ⟨rfl, b1⟩; have B1 := hide b1; clear b1)
      have B2 := hide (AL.out _ B1.out (.cells #[.int .i64 g0, .int .i64 g1, .bool g2, .int .i64 g3] 35))
      have HY1 := hide (heap_alloc_new w1 (.cells #[.int .i64 g0, .int .i64 g1, .bool g2, .int .i64 g3] 35))
      generalize w1.alloc (.cells #[.int .i64 g0, .int .i64 g1, .bool g2, .int .i64 g3] 35) = w2 at *
      generalize w1.heap.size = Y1 at *
      go_upto_region 3 with (go_at_call 35; refine (RG.out _ B2.out).mono ?_; rintro e w3 ⟨rfl, b3⟩; have B3 := hide b3; clear b3)
      have bA := (Below.refl w3.heap.size w3).alloc (Nat.le_refl _) (.cells #[.int .i64 g0, .int .i64 g1, .bool g2, .int .i64 g3] 35)
      have B4 := hide (B2.out.trans ((B3.out.mono B2.out.size).trans (bA.mono (Nat.le_trans B2.out.size B3.out.size))))
      have HY1' := hide ((B3.out.block Y1 (lt_of_heap HY1.out)).trans HY1.out)
      have HY1'' := hide ((bA.block Y1 (lt_of_heap HY1'.out)).trans HY1'.out)
      have HY2 := hide (heap_alloc_new w3 (.cells #[.int .i64 g0, .int .i64 g1, .bool g2, .int .i64 g3] 35))
      clear bA
      generalize w3.alloc (.cells #[.int .i64 g0, .int .i64 g1, .bool g2, .int .i64 g3] 35) = w4 at *
      generalize w3.heap.size = Y2 at *
      have x0 := CEL.out _ B4.out
      go_upto_region 11 with (first
        | (go_at_call 36; refine (IS.out _ B4.out).mono ?_; rintro e w' ⟨rfl, rfl⟩)
        | (go_at_call 37; refine (ID.out _ B4.out).mono ?_; rintro e w' ⟨rfl, rfl⟩))
      go_upto_region 12 with (go_at_call 13; refine (PL.out _ B4.out).mono ?_; rintro e w5 ⟨v5, rfl, o5, b5⟩; have O5 := hide o5; have B5 := hide b5; clear o5 b5)
      have BB5 := hide (B4.out.trans (B5.out.mono B4.out.size))
      have F5 := hide (FREE.out _ _ B4.out O5.out)
      have h1 := (B5.out.block Y1 (lt_of_heap HY1''.out)).trans HY1''.out
      have h2 := (B5.out.block Y2 (lt_of_heap HY2.out)).trans HY2.out
      have k0 : w5.cell? ⟨Y1, 0, none⟩ = some (.int .i64 g0) := by rw [cell_of_row _ _ _ _ _ _ h1]; rfl
      have k1 : w5.cell? ⟨Y1, 1, none⟩ = some (.int .i64 g1) := by rw [cell_of_row _ _ _ _ _ _ h1]; rfl
      have k2 : w5.cell? ⟨Y1, 2, none⟩ = some (.bool g2) := by rw [cell_of_row _ _ _ _ _ _ h1]; rfl
      have k3 : w5.cell? ⟨Y1, 3, none⟩ = some (.int .i64 g3) := by rw [cell_of_row _ _ _ _ _ _ h1]; rfl
      have m0 : w5.cell? ⟨Y2, 0, none⟩ = some (.int .i64 g0) := by rw [cell_of_row _ _ _ _ _ _ h2]; rfl
      have m1 : w5.cell? ⟨Y2, 1, none⟩ = some (.int .i64 g1) := by rw [cell_of_row _ _ _ _ _ _ h2]; rfl
      have m2 : w5.cell? ⟨Y2, 2, none⟩ = some (.bool g2) := by rw [cell_of_row _ _ _ _ _ _ h2]; rfl
      have m3 : w5.cell? ⟨Y2, 3, none⟩ = some (.int .i64 g3) := by rw [cell_of_row _ _ _ _ _ _ h2]; rfl
      obtain ⟨a5, c5, rfl, r5, -, -, -⟩ := own_reads enV_len (by omega) O5.out
      have R5 := hide (fun (W : World) (b : Below w5.heap.size w5 W) => reads_to (r5.below b))
      clear r5 h1 h2
      go_upto_region 13 with (first
        | (go_at_call 14; refine (PO.out _ BB5.out).mono ?_; rintro e w6 ⟨rfl, b6⟩; have B6 := hide b6; have BB6 := hide (BB5.out.trans (b6.mono BB5.out.size)); clear b6)
        | (go_at_call 38; refine (sameEntries_any _ _ _ _ _ _ _ (R5.out _ B6.out) (reads_nil (vals := en2V)) (by have := L8.out; omega)).mono ?_; rintro e w7 ⟨rfl, b7⟩; have B7 := hide (B6.out.trans (b7.mono B6.out.size)); have BB7 := hide (BB6.out.trans (b7.mono BB6.out.size)); clear b7)
        | (go_at_call 22; refine (PN.out _ BB7.out).mono ?_; rintro e w8 ⟨rfl, b8⟩; have B8 := hide (B7.out.trans (b8.mono B7.out.size)); have BB8 := hide (BB7.out.trans (b8.mono BB7.out.size)); clear b8)
        | (go_at_call 39; refine (RN.out _ BB8.out).mono ?_; rintro e w' ⟨rfl, rfl⟩))
      have O8 := hide ((Touch.of_below (S := fun _ => False) B8.out).own O5.out (fun _ _ e => e))
      have F8 := hide (F5.out.below B8.out)
      go_wp2_with (go_at_call 40; refine (overEntries_any _ _ _ _ O8.out (by have := L8.out; omega)).mono ?_; rintro e w9 ⟨rfl, u9⟩; have U9 := hide u9; clear u9)
      go_ret
      have fin := OVR.out _ _ _ BB8.out F8.out U9.out
      exact ⟨rfl, fin.1, fun g hg => (fin.2 g hg).trans ((TW.out _ BB8.out).2 g hg)⟩
    | false =>
      have ho : opsI s id = 0 := by unfold opsI; rw [e2]; rfl
      rw [e2] at IS
      rw [ho] at PO
      clear h h2 g hgot e1 e2 ho hl hle hgn KP
      go_enter Try.func11, Try.ntmps11
      go_upto_region 2 with (go_at_call 12; refine (PG.out _ (Below.refl _ _)).mono ?_; rintro e w1 ⟨rfl, b1⟩; have B1 := hide b1; clear b1)
      have B2 := hide (AL.out _ B1.out (.cells #[.int .i64 g0, .int .i64 g1, .bool g2, .int .i64 g3] 35))
      have HY1 := hide (heap_alloc_new w1 (.cells #[.int .i64 g0, .int .i64 g1, .bool g2, .int .i64 g3] 35))
      generalize w1.alloc (.cells #[.int .i64 g0, .int .i64 g1, .bool g2, .int .i64 g3] 35) = w2 at *
      generalize w1.heap.size = Y1 at *
      go_upto_region 3 with (go_at_call 35; refine (RG.out _ B2.out).mono ?_; rintro e w3 ⟨rfl, b3⟩; have B3 := hide b3; clear b3)
      have bA := (Below.refl w3.heap.size w3).alloc (Nat.le_refl _) (.cells #[.int .i64 g0, .int .i64 g1, .bool g2, .int .i64 g3] 35)
      have B4 := hide (B2.out.trans ((B3.out.mono B2.out.size).trans (bA.mono (Nat.le_trans B2.out.size B3.out.size))))
      have HY1' := hide ((B3.out.block Y1 (lt_of_heap HY1.out)).trans HY1.out)
      have HY1'' := hide ((bA.block Y1 (lt_of_heap HY1'.out)).trans HY1'.out)
      have HY2 := hide (heap_alloc_new w3 (.cells #[.int .i64 g0, .int .i64 g1, .bool g2, .int .i64 g3] 35))
      clear bA
      generalize w3.alloc (.cells #[.int .i64 g0, .int .i64 g1, .bool g2, .int .i64 g3] 35) = w4 at *
      generalize w3.heap.size = Y2 at *
      go_upto_region 11 with (first
        | (go_at_call 36; refine (IS.out _ B4.out).mono ?_; rintro e w' ⟨rfl, rfl⟩)
        | (go_at_call 37; refine (ID.out _ B4.out).mono ?_; rintro e w' ⟨rfl, rfl⟩))
      go_upto_region 12 with (go_at_call 13; refine (PL.out _ B4.out).mono ?_; rintro e w5 ⟨v5, rfl, o5, b5⟩; have O5 := hide o5; have B5 := hide b5; clear o5 b5)
      have BB5 := hide (B4.out.trans (B5.out.mono B4.out.size))
      have F5 := hide (FREE.out _ _ B4.out O5.out)
      have h1 := (B5.out.block Y1 (lt_of_heap HY1''.out)).trans HY1''.out
      have h2 := (B5.out.block Y2 (lt_of_heap HY2.out)).trans HY2.out
      have k0 : w5.cell? ⟨Y1, 0, none⟩ = some (.int .i64 g0) := by rw [cell_of_row _ _ _ _ _ _ h1]; rfl
      have k1 : w5.cell? ⟨Y1, 1, none⟩ = some (.int .i64 g1) := by rw [cell_of_row _ _ _ _ _ _ h1]; rfl
      have k2 : w5.cell? ⟨Y1, 2, none⟩ = some (.bool g2) := by rw [cell_of_row _ _ _ _ _ _ h1]; rfl
      have k3 : w5.cell? ⟨Y1, 3, none⟩ = some (.int .i64 g3) := by rw [cell_of_row _ _ _ _ _ _ h1]; rfl
      have m0 : w5.cell? ⟨Y2, 0, none⟩ = some (.int .i64 g0) := by rw [cell_of_row _ _ _ _ _ _ h2]; rfl
      have m1 : w5.cell? ⟨Y2, 1, none⟩ = some (.int .i64 g1) := by rw [cell_of_row _ _ _ _ _ _ h2]; rfl
      have m2 : w5.cell? ⟨Y2, 2, none⟩ = some (.bool g2) := by rw [cell_of_row _ _ _ _ _ _ h2]; rfl
      have m3 : w5.cell? ⟨Y2, 3, none⟩ = some (.int .i64 g3) := by rw [cell_of_row _ _ _ _ _ _ h2]; rfl
      obtain ⟨a5, c5, rfl, r5, -, -, -⟩ := own_reads enV_len (by omega) O5.out
      have R5 := hide (fun (W : World) (b : Below w5.heap.size w5 W) => reads_to (r5.below b))
      clear r5 h1 h2
      go_upto_region 13 with (first
        | (go_at_call 14; refine (PO.out _ BB5.out).mono ?_; rintro e w6 ⟨rfl, b6⟩; have B6 := hide b6; have BB6 := hide (BB5.out.trans (b6.mono BB5.out.size)); clear b6)
        | (go_at_call 38; refine (sameEntries_any _ _ _ _ _ _ _ (R5.out _ B6.out) (reads_nil (vals := en2V)) (by have := L8.out; omega)).mono ?_; rintro e w7 ⟨rfl, b7⟩; have B7 := hide (B6.out.trans (b7.mono B6.out.size)); have BB7 := hide (BB6.out.trans (b7.mono BB6.out.size)); clear b7)
        | (go_at_call 22; refine (PN.out _ BB7.out).mono ?_; rintro e w8 ⟨rfl, b8⟩; have B8 := hide (B7.out.trans (b8.mono B7.out.size)); have BB8 := hide (BB7.out.trans (b8.mono BB7.out.size)); clear b8)
        | (go_at_call 39; refine (RN.out _ BB8.out).mono ?_; rintro e w' ⟨rfl, rfl⟩))
      have O8 := hide ((Touch.of_below (S := fun _ => False) B8.out).own O5.out (fun _ _ e => e))
      have F8 := hide (F5.out.below B8.out)
      go_wp2_with (go_at_call 40; refine (overEntries_any _ _ _ _ O8.out (by have := L8.out; omega)).mono ?_; rintro e w9 ⟨rfl, u9⟩; have U9 := hide u9; clear u9)
      go_ret
      have fin := OVR.out _ _ _ BB8.out F8.out U9.out
      exact ⟨rfl, fin.1, fun g hg => (fin.2 g hg).trans ((TW.out _ BB8.out).2 g hg)⟩
end
end Go.Proofs.Ytpghnhcjgjgglaa
namespace Go.Proofs.Ytpghnhcjgjgglaa
open Go.ChangeShapes Go.WideShapes Go.ChangeAt Go.RowKit
set_option linter.unusedVariables false
set_option linter.unusedSimpArgs false
section
variable {PS : Nat → Rel So} {PI : Nat → Nat → Rel In}
def sA1 : In := mkI (newI 8) false
def sA2 : In := enI sA1 0 [97] 1
def sA3 : In := clI sA2 1
set_option maxRecDepth 10000 in
set_option maxHeartbeats 4000000 in
theorem awake21_any (C : NewStore PS) (I : PInode PS PI) (w : World) : Calls Try.prog 8 #[] w fun e w' => e = .returned (.bool true) ∧ Below w.heap.size w w' := by
  have g0 := newI_good 8
  have g1 : GoodP sA1 [] 1 := g0.mk_ false
  have g2 : GoodP sA2 [] 1 := (g1.en 0 [97] 1).1
  have g3 : GoodP sA3 [] 1 := (g2.cl 1).1
  have n0 := newI_orph 8
  have n1 : NoOrph sA1 0 := n0.mk_ false
  have n2 : NoOrph sA2 0 := (g1.en 0 [97] 1).2 n1
  have e1 : mkII (newI 8) = 1 := by decide +kernel
  have e2 : mkIE (newI 8) = 0 := by decide +kernel
  have e3 : enIE sA1 0 [97] 1 = 0 := by decide +kernel
  have e4 : clIE sA2 1 = 0 := by decide +kernel
  have e5 : fiII sA3 0 [97] = 1 := by decide +kernel
  have e6 : fiIE sA3 0 [97] = 0 := by decide +kernel
  have e7 : cntI sA3 = 2 := by decide +kernel
  have MK := hide (fun (W : World) (H S T : Nat) (U : Nat → Prop) (h : PI H S W U T (newI 8)) => show Calls Try.prog 15 #[.pointer (some ⟨T, 0, none⟩), .bool false] W (SideO (fun w' U' => PI H S w' U' T sA1) U W (.tuple #[.int .i64 1, .int .i64 0])) from by have h := I.ma h g0 (by decide) n0 false; rw [e1, e2] at h; exact h)
  have EN := hide (fun (W : World) (H S T : Nat) (U : Nat → Prop) (h : PI H S W U T sA1) => show Calls Try.prog 16 #[.pointer (some ⟨T, 0, none⟩), .int .i64 0, .string (bt [97]), .int .i64 1] W (SideO (fun w' U' => PI H S w' U' T sA2) U W (.int .i64 0)) from by have h := I.en h g1 (by decide) n1 0 [97] 1 (by decide) (by decide) (by decide); rw [e3] at h; exact h)
  have CL := hide (fun (W : World) (H S T : Nat) (U : Nat → Prop) (h : PI H S W U T sA2) => show Calls Try.prog 21 #[.pointer (some ⟨T, 0, none⟩), .int .i64 1] W (SideO (fun w' U' => PI H S w' U' T sA3) U W (.int .i64 0)) from by have h := I.cl h g2 (by decide) n2 1 (by decide); rw [e4] at h; exact h)
  have FI := hide (fun (W : World) (H S T : Nat) (U : Nat → Prop) (h : PI H S W U T sA3) => show Calls Try.prog 17 #[.pointer (some ⟨T, 0, none⟩), .int .i64 0, .string (bt [97])] W (fun e w' => e = .returned (.tuple #[.int .i64 1, .int .i64 0]) ∧ Below W.heap.size W w') from by have h := I.fi h g3 0 [97] (by decide) (by decide); rw [e5, e6] at h; exact h)
  have LN := hide (fun (W : World) (H S T : Nat) (U : Nat → Prop) (h : PI H S W U T sA3) => show Calls Try.prog 22 #[.pointer (some ⟨T, 0, none⟩)] W (fun e w' => e = .returned (.int .i64 2) ∧ Below W.heap.size W w') from by have h := I.ln h g3; rw [e7] at h; exact h)
  clear g0 g1 g2 g3 n0 n1 n2 e1 e2 e3 e4 e5 e6 e7
  go_enter Try.func8, Try.ntmps8
  go_wp2_with fail
  go_at_call 9
  refine (both21_any C I _).mono ?_
  rintro e w1 ⟨T, T2, H, S, R, G, U, D, rfl, t1⟩
  have T1 := hide t1
  clear t1
  go_wp2_with (first
    | (go_at_call 15; refine (MK.out _ _ _ _ _ T1.out.ps).mono ?_; intro en w2 hs; obtain ⟨rfl, U2, t2, -⟩ := T1.out.left (I.keeps H S) (keepsRin R G) hs; have T2' := hide t2; clear hs t2)
    | (go_at_call 16; refine (EN.out _ _ _ _ _ T2'.out.ps).mono ?_; intro en w3 hs; obtain ⟨rfl, U3, t3, -⟩ := T2'.out.left (I.keeps H S) (keepsRin R G) hs; have T3 := hide t3; clear hs t3)
    | (go_at_call 21; refine (CL.out _ _ _ _ _ T3.out.ps).mono ?_; intro en w4 hs; obtain ⟨rfl, U4, t4, -⟩ := T3.out.left (I.keeps H S) (keepsRin R G) hs; have T4 := hide t4; clear hs t4)
    | (go_at_call 17; refine (FI.out _ _ _ _ _ T4.out.ps).mono ?_; rintro e w5 ⟨rfl, b5⟩; have T5 := hide (T4.out.below (I.keeps H S) (keepsRin R G) b5).1; clear b5)
    | (go_at_call 22; refine (LN.out _ _ _ _ _ T5.out.ps).mono ?_; rintro e w6 ⟨rfl, b6⟩; have T6 := hide (T5.out.below (I.keeps H S) (keepsRin R G) b6).1; clear b6))
  go_ret
  exact ⟨rfl, T6.out.bel⟩
set_option maxRecDepth 100000 in
set_option maxHeartbeats 8000000 in
theorem walk_inodeScriptC (C : NewStore PS) (I : PInode PS PI) (w : World) (a : Option Addr) (n c : Nat) (zs : List Ac) (hin : Came 5 acV AcWf w a n c zs) : Calls Try.prog 3 #[.slice a n c] w fun e w' => e = .returned (.bool true) ∧ Below w.heap.size w w' := by
  have hn : n ≤ maxLen := Nat.le_trans hin.2.1 hin.2.2.1
  have HR := hide hin.reads
  have WF := hide hin.2.2.2.2.1
  clear hin
  go_enter Try.func3, Try.ntmps3
  go_wp2_with fail
  go_at_call 7
  refine (great21_any HR.out (fun x hx => (WF.out x hx).2.2.2) hn 80 (by omega)).mono ?_
  rintro e w' ⟨⟨r, rfl, hr⟩, rfl⟩
  cases r with
  | true =>
    clear hr
    go_wp2_with (go_at_call 8; refine (awake21_any C I _).mono ?_; rintro e w' ⟨rfl, hb⟩)
    go_ret
    exact ⟨rfl, hb⟩
  | false =>
    have h80 := (hr rfl).1
    have H100 := hide (hr rfl).2
    clear hr hn
    go_wp2_with fail
    go_at_call 9
    refine (both21_any C I _).mono ?_
    rintro e w1 ⟨T, T2, H, S, R, G, U, D, rfl, t1⟩
    have T1 := hide t1
    clear t1
    go_wp2_with fail
    go_loopw [5] (fun i wr => ∃ (k : Nat) (s : In) (U D : Nat → Prop), k ≤ n ∧ i = .int .i64 (k : Int) ∧ Hid (Twin PI w wr U D [] H S R G T T2 s ∧ GoodP s [] ((k : Int) + 1) ∧ NoOrph s 0)) (fun i _ => n - (intOf i).toNat)
    case atStart => exact ⟨0, _, _, _, Nat.zero_le _, rfl, T1.out, by simpa using newI_good 8, newI_orph 8⟩
    case round =>
      clear T1 U D
      obtain ⟨k, s, U, D, hk, rfl, hT⟩ := hrel
      by_cases hlt : k < n
      · have k0 : (0 : Int) ≤ (k : Int) := by omega
        have k1 : (k : Int) < (n : Int) := by omega
        have RD := hide (fun (W : World) (b : Below w.heap.size w W) => (HR.out.below b))
        obtain ⟨x, b, off, hx, rfl, c0, c1, c2, c3, c4⟩ := (RD.out _ hT.out.1.bel).act hlt
        have HX := hide hx
        have wf := WF.out x (List.mem_of_getElem? hx)
        have DN := hide (done21_any I hT.out.1 hT.out.2.1 (by omega) hT.out.2.2 x wf.2.1 wf.2.2.1 (H100.out x (List.mem_of_getElem? hx)))
        have WX := hide wf
        have G2 := hide (hT.out.2.1.step x)
        have O2 := hide (hT.out.2.2.step hT.out.2.1 x)
        have CB := hide (fun (W : World) (b' : Below w.heap.size w W) => show W.cell? ⟨b, off + k * 5 + 1, none⟩ = some (.int .i64 x.i) ∧ W.cell? ⟨b, off + k * 5 + 2, none⟩ = some (.int .i64 x.r) from by
          obtain ⟨x', b2, off2, hx', e', -, q1, q2, -, -⟩ := (RD.out _ b').act hlt
          obtain rfl : x = x' := by have h := HX.out; rw [hx'] at h; injection h with h; exact h.symm
          injection e' with e'
          injection e' with e1 e2 _
          subst e1 e2
          exact ⟨q1, q2⟩)
        have KK := hide (show (k : Int) + 1 + 1 ≤ 1000000 from by omega)
        obtain ⟨d, i, r, nm, bo⟩ := x
        obtain ⟨s2, hs2⟩ : ∃ z, z = stepI s ⟨d, i, r, nm, bo⟩ := ⟨_, rfl⟩
        rw [← hs2] at G2 O2 DN
        have SM := hide (fun (j : Int) (wj : (Lit.int .i64 j).wf = true) (W : World) (U D : Nat → Prop) (h : Twin PI w W U D [] H S R G T T2 s2) => same21_any I h G2.out KK.out j wj)
        have WI := hide (show (Lit.int .i64 i).wf = true from WX.out.2.1)
        have WR := hide (show (Lit.int .i64 r).wf = true from WX.out.2.2.1)
        clear hx wf hs2
        go_wp2_with (first
          | (go_at_call 10; refine DN.out.mono ?_; rintro e w4 ⟨rfl, U4, D4, t4, -⟩; have T4 := hide t4; obtain ⟨y1, y2⟩ := CB.out _ t4.bel; clear t4)
          | (go_at_call 11; (with_reducible refine (SM.out i WI.out _ _ _ T4.out).mono ?_); rintro e w5 ⟨rfl, t5, -⟩; have T5 := hide t5; obtain ⟨z1, z2⟩ := CB.out _ t5.bel; clear t5)
          | (go_at_call 11; (with_reducible refine (SM.out r WR.out _ _ _ T5.out).mono ?_); rintro e w6 ⟨rfl, t6, -⟩; have T6 := hide t6; clear t6))
        go_roundw
        case rel => exact ⟨k + 1, _, _, _, by omega, by go_num, T6.out, by have h := G2.out; rw [show ((k + 1 : Nat) : Int) + 1 = (k : Int) + 1 + 1 from by omega]; exact h, O2.out⟩
        case measure => simp [intOf]; omega
      · obtain rfl : k = n := by omega
        have BEL := hide hT.out.1.bel
        go_wp2_with (go_at_call 8; refine (awake21_any C I _).mono ?_; rintro e w' ⟨rfl, hb⟩; have HB := hide hb; clear hb)
        go_ret
        exact ⟨rfl, BEL.out.trans (HB.out.mono BEL.out.size)⟩
end
end Go.Proofs.Ytpghnhcjgjgglaa
