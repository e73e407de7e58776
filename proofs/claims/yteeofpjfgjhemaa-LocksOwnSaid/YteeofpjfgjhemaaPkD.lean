/-
  Several texts as one: PkMay PkLock PkUnlock PkLeave PkRun PkNew.
-/
import Derived.Test.YteeofpjfgjhemaaPkC
import Derived.Test.YteeofpjfgjhemaaPkAdd
import Derived.Test.YteeofpjfgjhemaaPkA
import Derived.Test.YteeofpjfgjhemaaRkMay
import Derived.Lib.SliceRun
import Derived.Laws.MakeOwn
import Derived.Deep.OwnRows
namespace Go.Proofs.Yteeofpjfgjhemaa
open Go.ChangeShapes Go.WideShapes Go.ChangeAt Go.RowKit Go.Maps
set_option linter.unusedVariables false
set_option linter.unusedSimpArgs false
def upI {α : Type} (f : Int → α) (k : Int) (v : α) : Int → α := fun x => if x = k then v else f x
section
variable {w : World} {U : Nat → Prop} {T S M H W : Nat} {B : Nat → Nat} {sl : Int → Option Sl} {tag : Nat → Int} {r : Rk}
theorem Rg.look (h : Rg w U T S M H W B sl tag r) {t : Int} (ht : (Lit.int .i64 t).wf = true) : (Instr.lookup 64 (.map (some W)) (.int .i64 t) true).run Try.prog w = .ok (.tuple #[.int .i64 ((r.a t).getD 0), .bool (r.a t).isSome]) w :=
  h.wm.look kindI Try.underlying64 (zeroIntK w) ht
theorem Rg.lookH (h : Rg w U T S M H W B sl tag r) {t : Int} (ht : (Lit.int .i64 t).wf = true) : (Instr.lookup 63 (.map (some H)) (.int .i64 t) false).run Try.prog w = .ok (slV ((sl t).getD ⟨none, 0, 0⟩)) w :=
  h.hm.look1 kindS Try.underlying63 (zeroHeld w) ht
set_option maxHeartbeats 2000000 in
theorem waits_any (h : Rg w U T S M H W B sl tag r) {t : Int} (ht : (Lit.int .i64 t).wf = true) :
    Calls Try.prog 16 #[.pointer (some ⟨S, 0, none⟩), .int .i64 t] w fun e w' => e = .returned (.int .i64 ((r.a t).getD (-1))) ∧ w = w' := by
  obtain ⟨c0, c1, c2, c3⟩ := h.cells
  have lk := h.look ht
  clear h
  cases e : r.a t with
  | none =>
    rw [e] at lk
    have lk2 : (Instr.lookup 64 (.map (some W)) (.int .i64 t) true).run Try.prog w = .ok (.tuple #[.int .i64 0, .bool false]) w := lk
    clear lk
    go_enter Try.func16, Try.ntmps16
    go_wp2_with fail
    go_ret
    exact ⟨rfl, rfl⟩
  | some m =>
    rw [e] at lk
    have lk2 : (Instr.lookup 64 (.map (some W)) (.int .i64 t) true).run Try.prog w = .ok (.tuple #[.int .i64 m, .bool true]) w := lk
    clear lk
    go_enter Try.func16, Try.ntmps16
    go_wp2_with fail
    go_ret
    exact ⟨rfl, rfl⟩
/-- What one thread holds is another row. -/
theorem Rg.rowTo {w3 w' : World} {U' V : Nat → Prop} {tag' : Nat → Int} {sl' : Int → Option Sl} {t : Int} {l : List Hv} (h : Rg w U T S M H W B sl tag r) (T1 : Touch V w w3) (hV : ∀ i, V i → U i → tag i = 2 * t + 1 ∧ 0 ≤ t) (hH : IM slE readS w' H sl') (T2 : Touch (fun i => i = H) w3 w') (hsl : ∀ x, x ≠ t → sl' x = sl x)
    (hu : ∀ i, U i → U' i ∧ tag' i = tag i) (hl : ∀ i, U' i → i < w'.heap.size)
    (hr : (sl' t = none ∧ l = []) ∨ ∃ g c, sl' t = some ⟨some g, l.length, c⟩ ∧ l ≠ [] ∧ w3.ownsRow 0 44 2 (.slice (some ⟨g, 0, none⟩) l.length c) l.length (l.flatMap hvVals) ∧ U' g ∧ tag' g = 2 * t + 1) :
    Rg w' U' T S M H W B sl' tag' ⟨r.n, r.o, r.q, upI r.h t l, r.a⟩ := by
  obtain ⟨u1, u2, u3, u4⟩ := h.us
  obtain ⟨t1, t2, t3, t4⟩ := h.ts
  have ne : ∀ i, tag i ≠ -5 → i ≠ H := fun i ht e => ht (by rw [e]; exact t3)
  have nv : ∀ i, U i → (0 ≤ t → tag i ≠ 2 * t + 1) → ¬ V i := fun i hi ht hv => ht (hV i hv hi).2 (hV i hv hi).1
  have sz := T1.size
  have st : ∀ i, U i → (0 ≤ t → tag i ≠ 2 * t + 1) → tag i ≠ -5 → w'.heap[i]? = w.heap[i]? := fun i hi h1 h2 => (T2.block i (Nat.lt_of_lt_of_le (h.lt i hi) sz) (ne i h2)).trans (T1.block i (h.lt i hi) (nv i hi h1))
  refine ⟨(st S u1 (by rw [t1]; omega) (by rw [t1]; omega)).trans h.s, h.m.keep (st M u2 (by rw [t2]; omega) (by rw [t2]; omega)), fun j hj => ?_, hH, h.wm.keep (st W u4 (by rw [t4]; omega) (by rw [t4]; omega)), fun x => ?_, ⟨(hu _ u1).1, (hu _ u2).1, (hu _ u3).1, (hu _ u4).1⟩, ⟨by rw [(hu _ u1).2, t1], by rw [(hu _ u2).2, t2], by rw [(hu _ u3).2, t3], by rw [(hu _ u4).2, t4]⟩, hl, h.n6⟩
  · obtain ⟨h4, h5, h6⟩ := h.b j hj
    exact ⟨h4.keep (st _ h5 (by rw [h6]; omega) (by rw [h6]; omega)), (hu _ h5).1, by rw [(hu _ h5).2, h6]⟩
  · show (sl' x = none ∧ upI r.h t l x = []) ∨ ∃ g c, sl' x = some ⟨some g, (upI r.h t l x).length, c⟩ ∧ upI r.h t l x ≠ [] ∧ w'.ownsRow 0 44 2 (.slice (some ⟨g, 0, none⟩) (upI r.h t l x).length c) (upI r.h t l x).length ((upI r.h t l x).flatMap hvVals) ∧ U' g ∧ tag' g = 2 * x + 1
    by_cases e : x = t
    · subst e
      rw [show upI r.h x l x = l from by unfold upI; rw [if_pos rfl]]
      rcases hr with hr | ⟨g, c, e1, e2, e3, e4, e5⟩
      · exact .inl hr
      · have hx := hH.few e1
        refine .inr ⟨g, c, e1, e2, T2.own e3 (fun i hi e => ?_), e4, e5⟩
        injection hi with hi
        subst hi
        have h7 : tag' g = tag H := by rw [show g = H from e]; exact (hu _ u3).2
        rw [e5, t3] at h7
        omega
    · rw [show upI r.h t l x = r.h x from by unfold upI; rw [if_neg e], hsl x e]
      rcases h.row x with e0 | ⟨g, c, e1, e2, e3, e4, e5⟩
      · exact .inl e0
      · have hx := h.hm.few e1
        refine .inr ⟨g, c, e1, e2, T2.own (T1.own e3 (fun i hi hv => ?_)) (fun i hi he => ?_), (hu _ e4).1, by rw [(hu _ e4).2, e5]⟩
        · injection hi with hi
          subst hi
          exact nv g e4 (by rw [e5]; omega) hv
        · injection hi with hi
          subst hi
          exact ne g (by rw [e5]; omega) he
/-- What keep lays into the map. -/
def keptAs (a : Option Addr) (n c : Nat) : Option Sl := if n = 0 then none else some ⟨a.map (·.block), n, c⟩
set_option maxRecDepth 20000 in
set_option maxHeartbeats 2000000 in
theorem keep0_any (c2 : w.cell? ⟨S, 2, none⟩ = some (.map (some H))) (hH : IM slE readS w H sl) {t : Int} (ht : (Lit.int .i64 t).wf = true) {a : Option Addr} {n c : Nat} (hl : n ≠ 0 → (0 ≤ t ∧ t < 1000000) ∧ ∃ g, a = some ⟨g, 0, none⟩) :
    Calls Try.prog 30 #[.pointer (some ⟨S, 0, none⟩), .int .i64 t, .slice a n c] w fun e w' => e = .returned (.tuple #[]) ∧ IM slE readS w' H (updF sl t (keptAs a n c)) ∧ Touch (fun i => i = H) w w' := by
  by_cases h0 : n = 0
  · subst h0
    obtain ⟨w2, hdr, hM, hgr⟩ := hH.drop (t := 63) (e := 40) Try.underlying63 ht 0
    have T2 : Touch (fun i => i = H) w w2 := Touch.of_grown hgr (fun g e => by injection e with e; exact e.symm)
    have N := hide (show IM slE readS w2 H (updF sl t (keptAs a 0 c)) ∧ Touch (fun i => i = H) w w2 from ⟨hM, T2⟩)
    clear hl hH hM hgr T2
    go_enter Try.func30, Try.ntmps30
    go_wp2_with fail
    refine bodyPost_ret (results_none rfl _ _ _) rfl ?_
    exact ⟨rfl, N.out.1, N.out.2⟩
  · obtain ⟨hk, g, rfl⟩ := hl h0
    have hn1 : ((n : Nat) : Int) ≠ 0 := by omega
    obtain ⟨w2, hst, hM, hgr⟩ := hH.store kindS (t := 63) (e := 40) Try.underlying63 hk ⟨some g, n, c⟩
    have hst2 : (Instr.mapUpdate 63 (.map (some H)) (.int .i64 t) (.slice (some ⟨g, 0, none⟩) n c)).run Try.prog w = .ok () w2 := hst
    have T2 : Touch (fun i => i = H) w w2 := Touch.of_grown hgr (fun g e => by injection e with e; exact e.symm)
    have N := hide (show IM slE readS w2 H (updF sl t (keptAs (some ⟨g, 0, none⟩) n c)) ∧ Touch (fun i => i = H) w w2 from ⟨by unfold keptAs; rw [if_neg h0]; exact hM, T2⟩)
    clear hl hH hM hgr T2 hst h0
    go_enter Try.func30, Try.ntmps30
    go_wp2_with fail
    go_end0
    exact ⟨rfl, N.out.1, N.out.2⟩
/-- One more waits for a mutex, or one less. -/
theorem Rg.waiting {w' : World} {j : Nat} {f : Int → Option Unit} (h : Rg w U T S M H W B sl tag r) (hj : j < r.n) (hB : IM eU unitElem w' (B j) f) (t : Touch (fun i => i = B j) w w') : Rg w' U T S M H W B sl tag ⟨r.n, r.o, upN r.q j f, r.h, r.a⟩ := by
  obtain ⟨t1, t2, t3, t4⟩ := h.ts
  obtain ⟨h1, h2, h3⟩ := h.b j hj
  have ne : ∀ i, tag i ≠ 2 * (j : Int) → i ≠ B j := fun i ht e => ht (by rw [e]; exact h3)
  refine ⟨(t.block S (lt_of_heap h.s) (ne S (by rw [t1]; omega))).trans h.s, h.m.keep (t.block M h.m.lt (ne M (by rw [t2]; omega))), fun i hi => ?_, h.hm.touch t (ne H (by rw [t3]; omega)), h.wm.touch t (ne W (by rw [t4]; omega)), fun x => ?_, h.us, h.ts, fun i hi => Nat.lt_of_lt_of_le (h.lt i hi) t.size, h.n6⟩
  · show IM eU unitElem w' (B i) (upN r.q j f i) ∧ _
    by_cases e : i = j
    · subst e
      exact ⟨by unfold upN; rw [if_pos rfl]; exact hB, h2, h3⟩
    · obtain ⟨h4, h5, h6⟩ := h.b i hi
      exact ⟨by unfold upN; rw [if_neg e]; exact h4.touch t (ne _ (by rw [h6]; omega)), h5, h6⟩
  · rcases h.row x with e | ⟨g, c, e1, e2, e3, e4, e5⟩
    · exact .inl e
    · have hx := h.hm.few e1
      exact .inr ⟨g, c, e1, e2, t.own e3 (fun i hi => by injection hi with hi; subst hi; refine ne _ ?_; rw [e5]; omega), e4, e5⟩
/-- The owner of one is another. -/
theorem Rg.owner {j : Nat} (h : Rg w U T S M H W B sl tag r) (hj : j < r.n) (x : Int) : Rg (w.setCell ⟨M, j * 2, none⟩ (.int .i64 x)) U T S M H W B sl tag ⟨r.n, upN r.o j x, r.q, r.h, r.a⟩ := by
  obtain ⟨t1, t2, t3, t4⟩ := h.ts
  have t := (Touch.refl (fun i => i = M) w).setCell (p := ⟨M, j * 2, none⟩) rfl (.int .i64 x)
  have ne : ∀ i, tag i ≠ -3 → i ≠ M := fun i ht e => ht (by rw [e]; exact t2)
  refine ⟨(t.block S (lt_of_heap h.s) (ne S (by rw [t1]; omega))).trans h.s, h.m.own hj x, fun i hi => ?_, h.hm.touch t (ne H (by rw [t3]; omega)), h.wm.touch t (ne W (by rw [t4]; omega)), fun x => ?_, h.us, h.ts, fun i hi => Nat.lt_of_lt_of_le (h.lt i hi) t.size, h.n6⟩
  · obtain ⟨h4, h5, h6⟩ := h.b i hi
    exact ⟨h4.touch t (ne _ (by rw [h6]; omega)), h5, h6⟩
  · rcases h.row x with e | ⟨g, c, e1, e2, e3, e4, e5⟩
    · exact .inl e
    · have hx := h.hm.few e1
      exact .inr ⟨g, c, e1, e2, t.own e3 (fun i hi => by injection hi with hi; subst hi; refine ne _ ?_; rw [e5]; omega), e4, e5⟩
end
/-- What the program's may answers. -/
def mayR (ms : List Mu) (r : Rk) (t m : Int) : Int := if t < 0 then 2 else if (r.a t).isSome then 5 else mayMu ms ((r.h t).map (·.m)) m
set_option maxRecDepth 20000 in
set_option maxHeartbeats 4000000 in
theorem may_any {Q : Nat → Prop} {w : World} {U : Nat → Prop} {T S M H W : Nat} {B : Nat → Nat} {sl : Int → Option Sl} {tag : Nat → Int} {r : Rk} {ms : List Mu} (h : Rg w U T S M H W B sl tag r) (hT : Tab w Q T ms) (hna : ∀ t m, r.a t = some m → 0 ≤ m) (hf : ∀ t, (r.h t).length ≤ 100) {t m : Int} (ht : (Lit.int .i64 t).wf = true) :
    Calls Try.prog 29 #[.pointer (some ⟨S, 0, none⟩), .int .i64 t, .int .i64 m] w fun e w' => e = .returned (.int .i64 (mayR ms r t m)) ∧ Below w.heap.size w w' := by
  obtain ⟨G, hG⟩ : ∃ G, G = mayR ms r t m := ⟨_, rfl⟩
  rw [← hG]
  have HR := hide h
  have WA := hide (waits_any h ht)
  by_cases t0 : t < 0
  · have G2 := hide (show G = 2 from by rw [hG, mayR, if_pos t0])
    clear hG h hT hna
    go_enter Try.func29, Try.ntmps29
    go_wp2_with fail
    go_ret
    exact ⟨by rw [G2.out]; rfl, Below.refl _ _⟩
  cases ea : r.a t with
  | some v =>
    have G2 := hide (show G = 5 from by rw [hG, mayR, if_neg t0, ea]; rfl)
    have hv := hna t v ea
    have hv1 : ¬ v = -1 := by omega
    rw [ea] at WA
    have WB := hide (show Calls Try.prog 16 #[.pointer (some ⟨S, 0, none⟩), .int .i64 t] w fun e w' => e = .returned (.int .i64 v) ∧ w = w' from WA.out)
    clear hG h hT hna WA ea hv
    go_enter Try.func29, Try.ntmps29
    go_wp2_with (go_at_call 16; refine WB.out.mono ?_; rintro e w' ⟨rfl, rfl⟩)
    go_ret
    exact ⟨by rw [G2.out]; rfl, Below.refl _ _⟩
  | none =>
    have hmf : ∀ fn first cap w, (Instr.makeFunc fn first cap).run Try.prog w = .ok (.func fn first cap) w := fun _ _ _ _ => rfl
    have G2 := hide (show G = mayMu ms ((r.h t).map (·.m)) m from by rw [hG, mayR, if_neg t0, ea]; rfl)
    rw [ea] at WA
    have WB := hide (show Calls Try.prog 16 #[.pointer (some ⟨S, 0, none⟩), .int .i64 t] w fun e w' => e = .returned (.int .i64 (-1)) ∧ w = w' from WA.out)
    obtain ⟨a, c, e1, e2, e3, e4, e5, e6⟩ := h.held t
    have lkk := h.lookH ht
    rw [e1] at lkk
    obtain ⟨k, hk⟩ : ∃ k, k = (r.h t).length := ⟨_, rfl⟩
    rw [← hk] at lkk e2 e3 e4
    have hk1 : k ≤ 100 := by rw [hk]; exact hf t
    obtain ⟨w1, hw1⟩ : ∃ w1, w1 = w.alloc (.cells #[.slice none 0 0] 90) := ⟨_, rfl⟩
    have b1 : Below w.heap.size w w1 := by rw [hw1]; exact (Below.refl _ _).alloc (Nat.le_refl _) _
    have s1 : w1.heap.size = w.heap.size + 1 := by rw [hw1]; simp
    have lk1 : (Instr.lookup 63 (.map (some H)) (.int .i64 t) false).run Try.prog w1 = .ok (.slice a k c) w1 := by
      have := (h.below b1).lookH ht
      rw [e1, ← hk] at this
      exact this
    obtain ⟨c0, c1, c2, c3⟩ := (h.below b1).cells
    have J0 : Boxed w1 w.heap.size 90 (.slice none 0 0) := by rw [hw1]; exact Boxed.new w _ _
    have EA := hide (show Calls Try.prog 36 #[.slice a k c, .func (.func 40) #[.pointer (some ⟨w.heap.size, 0, none⟩)] #[]] w1 fun e w' => e = .returned (.tuple #[]) ∧ ∃ a' c', Boxed w' w.heap.size 90 (.slice a' k c') ∧ w'.ownsRow w.heap.size 3 1 (.slice a' k c') k (((r.h t).map (·.m)).map (Value.int .i64)) ∧ Below w.heap.size w w' from by
      have key : ∀ (g off : Nat), (0 < k → a = some ⟨g, off, none⟩) → Calls Try.prog 36 #[.slice a k c, .func (.func 40) #[.pointer (some ⟨w.heap.size, 0, none⟩)] #[]] w1 fun e w' => e = .returned (.tuple #[]) ∧ ∃ a' c', Boxed w' w.heap.size 90 (.slice a' k c') ∧ w'.ownsRow w.heap.size 3 1 (.slice a' k c') k ((((r.h t).take k).map (·.m)).map (Value.int .i64)) ∧ Below w.heap.size w w' := fun g off ha => by
        refine each_add _ a g off k c (fun i X => ∃ a' c', Boxed X w.heap.size 90 (.slice a' i c') ∧ X.ownsRow w.heap.size 3 1 (.slice a' i c') i ((((r.h t).take i).map (·.m)).map (Value.int .i64)) ∧ Below w.heap.size w X) w1 e4 ha ⟨none, 0, J0, World.ownsRow_nil _ _ _ _, b1⟩ ?_
        rintro i X hi ⟨a', c', q1, q2, q3⟩
        obtain ⟨x, hx⟩ : ∃ x, (r.h t)[i]? = some x := ⟨_, List.getElem?_eq_getElem (by omega)⟩
        obtain ⟨b', o', ea', hcell⟩ := e3.2 (by omega)
        rw [ha (by omega)] at ea'
        injection ea' with ea'
        injection ea' with e7 e8
        subst e7 e8
        have hc := hcell i x hx 0 (.int .i64 x.m) rfl
        have hgl := lt_of_cell? hc
        have hlen : (((r.h t).take i).map (·.m)).length = i := by simp; omega
        obtain ⟨li, hli⟩ : ∃ li, li = ((r.h t).take i).map (·.m) := ⟨_, rfl⟩
        rw [← hli] at hlen q2
        have q1' : Boxed X w.heap.size 90 (.slice a' li.length c') := by rw [hlen]; exact q1
        have q2' : X.ownsRow w.heap.size 3 1 (.slice a' li.length c') li.length (li.map (Value.int .i64)) := by rw [hlen]; exact q2
        have hc2 := (q3.cell (p := ⟨g, off + i * 2 + 0, none⟩) hgl).trans hc
        refine (addn_any q1' q3.size (Nat.le_refl _) q2' hc2 hgl (by omega)).mono ?_
        rintro e w' ⟨rfl, a2, c2, f1, f2, f3⟩
        have e9 : li ++ [x.m] = ((r.h t).take (i + 1)).map (·.m) := by rw [hli, List.take_add_one, hx, List.map_append]; rfl
        have e10 : (li ++ [x.m]).length = i + 1 := by rw [List.length_append, hlen]; rfl
        rw [e10] at f1 f2
        rw [e9] at f2
        exact ⟨rfl, a2, c2, f1, f2, q3.trans f3⟩
      have : (r.h t).take k = r.h t := List.take_of_length_le (by omega)
      rw [this] at key
      by_cases h0 : 0 < k
      · obtain ⟨b', o', ea', _⟩ := e3.2 h0
        exact key b' o' (fun _ => ea')
      · exact key 0 0 (fun e => absurd e h0))
    have MA := hide (show ∀ (X : World) (a' : Option Addr) (c' : Nat), Below w.heap.size w X → X.ownsRow w.heap.size 3 1 (.slice a' k c') k (((r.h t).map (·.m)).map (Value.int .i64)) → Calls Try.prog 41 #[.pointer (some ⟨T, 0, none⟩), .slice a' k c', .int .i64 m] X fun e w' => e = .returned (.int .i64 G) ∧ Below X.heap.size X w' from fun X a' c' b ho => by
      obtain ⟨A2, c2, f1, f2, _⟩ := own_ints ho
      injection f1 with f1 _ _
      subst f1
      rw [G2.out]
      exact pmay_any (hT.below b) (d := c') f2 e4 m)
    have HS := hide (show ∀ X : World, Below w.heap.size w X → X.cell? ⟨S, 0, none⟩ = some (.pointer (some ⟨T, 0, none⟩)) from fun X b => (h.below b).cells.1)
    have LT := hide e4
    rw [hw1] at lk1 c0 c1 c2 c3 EA
    clear hG h hT hna WA ea e1 e2 e3 e5 e6 lkk hw1 J0 b1 s1 hf e4 hk
    go_enter Try.func29, Try.ntmps29
    go_upto_region 9 with (first
      | (go_at_call 16; refine WB.out.mono ?_; rintro e w' ⟨rfl, rfl⟩)
      | (go_at_call 36; refine EA.out.mono ?_; rintro e w2 ⟨rfl, a2, c2', f1, f2, f3⟩; have F1 := hide f1; have F2 := hide f2; have F3 := hide f3; clear f1 f2 f3))
    clear c0 c1 c2 c3 lk1
    rename_i Q9 K9 a9
    refine wp_region_noPanic ?_
    refine wp_region_held_drew (S := (fun X => X.cell? ⟨S, 0, none⟩ = some (.pointer (some ⟨T, 0, none⟩)) ∧ X.cell? ⟨w.heap.size, 0, none⟩ = some (.slice a2 k c2'))) (by kernel_rfl) ⟨HS.out _ (below_drewN F3.out 1), (show Boxed w2.drew w.heap.size 90 _ from F1.out).cell⟩ (fun hHeld => ?_)
    refine wpAnyH_take (i := 0) (v := ?_) rfl (by kernel_rfl) (by kernel_rfl) (by kernel_rfl) (fun _ _ _ h => h) (Or.inl ⟨by kernel_rfl, ?_⟩) (by assumption) ?_
    rotate_left
    · intro w hSw
      (try dsimp only at hSw)
      go_simp
      try with_reducible rfl
    try simp only [Act.put, List.setIfInBounds_toArray, List.set_cons_zero, List.set_cons_succ]
    refine wpAnyH_take (i := 1) (v := ?_) rfl (by kernel_rfl) (by kernel_rfl) (by kernel_rfl) (fun _ _ _ h => h) (Or.inl ⟨by kernel_rfl, ?_⟩) (by assumption) ?_
    rotate_left
    · intro w hSw
      (try dsimp only at hSw)
      go_simp
      try with_reducible rfl
    try simp only [Act.put, List.setIfInBounds_toArray, List.set_cons_zero, List.set_cons_succ]
    refine wpAnyH_take (i := 2) (v := ?_) rfl (by kernel_rfl) (by kernel_rfl) (by kernel_rfl) (fun _ _ _ h => h) (Or.inl ⟨by kernel_rfl, ?_⟩) (by assumption) ?_
    rotate_left
    · intro w hSw
      (try dsimp only at hSw)
      go_simp
      try with_reducible rfl
    try simp only [Act.put, List.setIfInBounds_toArray, List.set_cons_zero, List.set_cons_succ]
    refine wpAnyH_take (i := 3) (v := ?_) rfl (by kernel_rfl) (by kernel_rfl) (by kernel_rfl) (fun _ _ _ h => h) (Or.inl ⟨by kernel_rfl, ?_⟩) (by assumption) ?_
    rotate_left
    · intro w hSw
      (try dsimp only at hSw)
      go_simp
      try with_reducible rfl
    try simp only [Act.put, List.setIfInBounds_toArray, List.set_cons_zero, List.set_cons_succ]
    refine wpAnyH_take (i := 4) (v := ?_) rfl (by kernel_rfl) (by kernel_rfl) (by kernel_rfl) (fun _ _ _ h => h) (Or.inl ⟨by kernel_rfl, ?_⟩) (by assumption) ?_
    rotate_left
    · intro w hSw
      (try dsimp only at hSw)
      go_simp
      try with_reducible rfl
    try simp only [Act.put, List.setIfInBounds_toArray, List.set_cons_zero, List.set_cons_succ]
    refine wpAnyH_take (i := 5) (v := ?_) rfl (by kernel_rfl) (by kernel_rfl) (by kernel_rfl) (fun _ _ _ h => h) (Or.inl ⟨by kernel_rfl, ?_⟩) (by assumption) ?_
    rotate_left
    · intro w hSw
      (try dsimp only at hSw)
      go_simp
      try with_reducible rfl
    try simp only [Act.put, List.setIfInBounds_toArray, List.set_cons_zero, List.set_cons_succ]
    refine wpAnyH_ready (rs := [6]) (by kernel_rfl) (by simp) ?_
    refine AllReadyH.cons rfl (fun K hK => ?_) AllReadyH.nil
    go_simp
    go_at_call 41
    refine (MA.out _ a2 c2' (below_drewN F3.out 1) ((Touch.of_below (S := fun _ => False) (below_drewN (Below.refl _ w2) 1)).own F2.out (fun _ _ e => e))).mono ?_
    rintro e w4 ⟨rfl, b4⟩
    have B4 := hide ((below_drewN (B := w.heap.size) F3.out 1).trans (b4.mono (below_drewN (B := w.heap.size) F3.out 1).size))
    have F4 := hide (boxed_below (show Boxed w2.drew w.heap.size 90 (.slice a2 k c2') from F1.out) b4)
    clear b4
    go_wp2_with fail
    refine hK.out _ _ ⟨HS.out _ B4.out, F4.out.cell⟩ (fun hHeld => ?_)
    clear hK K
    try simp only [Act.put, List.setIfInBounds_toArray, List.set_cons_zero, List.set_cons_succ]
    refine wpAnyH_take (i := 7) (v := ?_) rfl (by kernel_rfl) (by kernel_rfl) (by kernel_rfl) (fun _ _ _ h => h) (Or.inl ⟨by kernel_rfl, ?_⟩) (by assumption) ?_
    rotate_left
    · intro w hSw
      (try dsimp only at hSw)
      go_simp
      try with_reducible rfl
    try simp only [Act.put, List.setIfInBounds_toArray, List.set_cons_zero, List.set_cons_succ]
    refine wpAnyH_done (by kernel_rfl) ?_ _
    go_simp
    refine NoPanic.normal ?_
    refine a9 _ _ ?_
    go_wp2_with fail
    go_ret
    exact ⟨rfl, B4.out⟩
end Go.Proofs.Yteeofpjfgjhemaa
namespace Go.Proofs.Yteeofpjfgjhemaa
open Go.ChangeShapes Go.WideShapes Go.ChangeAt Go.RowKit Go.Maps
set_option linter.unusedVariables false
set_option linter.unusedSimpArgs false
theorem held_info : (Try.prog.info? 44).map (fun i => (i.zero, i.size, i.bytes)) = some (some (.agg #[.int .i64 0, .int .i64 0]), 2, 16) := by kernel_rfl
theorem built_unit : Try.prog.built 74 [] = some #[] := by kernel_rfl
theorem built_held (m : Int) : Try.prog.built 44 [(0, .int .i64 m)] = some #[.int .i64 m, .int .i64 0] := by kernel_rfl
theorem may_zero {ms : List Mu} {r : Rk} {t m : Int} (h : mayR ms r t m = 0) : 0 ≤ t ∧ r.a t = none ∧ mayMu ms ((r.h t).map (·.m)) m = 0 ∧ ∃ j : Nat, m = (j : Int) ∧ j < ms.length := by
  unfold mayR at h
  split at h
  · omega
  · split at h
    · omega
    · rename_i h1 h2
      have h3 := (may_ok h).1
      refine ⟨by omega, ?_, h, m.toNat, by omega, by omega⟩
      cases e : r.a t with
      | none => rfl
      | some v => rw [e] at h2; exact absurd rfl h2
section
variable {Q : Nat → Prop} {w : World} {U : Nat → Prop} {T S M H W : Nat} {B : Nat → Nat} {sl : Int → Option Sl} {tag : Nat → Int} {r : Rk} {ms : List Mu}
set_option maxRecDepth 20000 in
set_option maxHeartbeats 2000000 in
theorem lock_no {t m G : Int} (hMA : Calls Try.prog 29 #[.pointer (some ⟨S, 0, none⟩), .int .i64 t, .int .i64 m] w fun e w' => e = .returned (.int .i64 G) ∧ Below w.heap.size w w') (hG : ¬ G = 0) :
    Calls Try.prog 12 #[.pointer (some ⟨S, 0, none⟩), .int .i64 t, .int .i64 m] w fun e w' => e = .returned (.tuple #[.bool false, .int .i64 G]) ∧ Below w.heap.size w w' := by
  have MA := hide hMA
  clear hMA
  go_enter Try.func12, Try.ntmps12
  go_wp2_with (go_at_call 29; refine MA.out.mono ?_; rintro e w1 ⟨rfl, b1⟩; have B1 := hide b1; clear b1)
  refine bodyPost_ret (v := .tuple #[.bool false, .int .i64 G]) (by simp [results, Try.results12, go_sem]) rfl ?_
  exact ⟨rfl, B1.out⟩
set_option maxRecDepth 20000 in
set_option maxHeartbeats 4000000 in
theorem lock_waits (h : Rg w U T S M H W B sl tag r) {t : Int} (ht : 0 ≤ t ∧ t < 1000000) {j : Nat} (hj : j < r.n) (ho : ¬ r.o j = -1) (hMA : Calls Try.prog 29 #[.pointer (some ⟨S, 0, none⟩), .int .i64 t, .int .i64 (j : Nat)] w fun e w' => e = .returned (.int .i64 0) ∧ Below w.heap.size w w') :
    Calls Try.prog 12 #[.pointer (some ⟨S, 0, none⟩), .int .i64 t, .int .i64 (j : Nat)] w fun e w' => e = .returned (.tuple #[.bool false, .int .i64 0]) ∧ Rg w' U T S M H W B sl tag ⟨r.n, r.o, upN r.q j (updF (r.q j) t (some ())), r.h, updF r.a t (some (j : Int))⟩ ∧ Touch U w w' := by
  have hb := built_unit
  have MA := hide hMA
  obtain ⟨n, hn⟩ : ∃ n, n = r.n := ⟨_, rfl⟩
  have j0 : (0 : Int) ≤ (j : Int) := by omega
  have j1 : (j : Int) < (n : Int) := by omega
  obtain ⟨oj, hoj⟩ : ∃ oj, oj = r.o j := ⟨_, rfl⟩
  have ho' : ¬ oj = -1 := by rw [hoj]; exact ho
  have F := hide (show ∀ w1, Below w.heap.size w w1 → ∃ w2 w3, (Instr.mapUpdate 67 (.map (some (B j))) (.int .i64 t) (.agg #[])).run Try.prog w1 = .ok () w2 ∧ (Instr.mapUpdate 64 (.map (some W)) (.int .i64 t) (.int .i64 (j : Nat))).run Try.prog w2 = .ok () w3 ∧
      w1.cell? ⟨S, 1, none⟩ = some (.slice (some ⟨M, 0, none⟩) n n) ∧ w1.cell? ⟨M, j * 2, none⟩ = some (.int .i64 oj) ∧ w1.cell? ⟨M, j * 2 + 1, none⟩ = some (.map (some (B j))) ∧ w2.cell? ⟨S, 3, none⟩ = some (.map (some W)) ∧
      Hid (Rg w3 U T S M H W B sl tag ⟨r.n, r.o, upN r.q j (updF (r.q j) t (some ())), r.h, updF r.a t (some (j : Int))⟩ ∧ Touch U w w3) from fun w1 b1 => by
    have h1 := h.below b1
    obtain ⟨i1, i2, i3⟩ := h1.b j hj
    obtain ⟨w2, r2, q2, g2⟩ := i1.store kindU (t := 67) (e := 74) Try.underlying67 ht ()
    have T2 : Touch (fun i => i = B j) w1 w2 := Touch.of_grown g2 (fun g e => by injection e with e; exact e.symm)
    have h2 := h1.waiting hj q2 T2
    obtain ⟨w3, r3, q3, g3⟩ := h2.wm.store kindI (t := 64) (e := 3) Try.underlying64 ht (j : Int)
    have T3 : Touch (fun i => i = W) w2 w3 := Touch.of_grown g3 (fun g e => by injection e with e; exact e.symm)
    obtain ⟨k1, k2, k3⟩ := h1.m.at_ hj
    refine ⟨w2, w3, r2, r3, by rw [hn]; exact h1.cells.2.1, by rw [hoj]; exact k1, k2, h2.cells.2.2.2, h2.waits q3 T3, ?_⟩
    exact ((Touch.of_below b1).trans (S' := U) (T2.mono (fun i e => by rw [e]; exact i2)) (fun _ e => .inl e)).trans (S' := U) (T3.mono (fun i e => by rw [e]; exact h.us.2.2.2)) (fun _ e => .inl e))
  clear h hMA hoj ho hn hj ht
  go_enter Try.func12, Try.ntmps12
  go_wp2_with (go_at_call 29; refine MA.out.mono ?_; rintro e w1 ⟨rfl, b1⟩; obtain ⟨w2, w3, r2, r3, z1, z2, z3, z4, N⟩ := F.out w1 b1; clear b1)
  refine bodyPost_ret (v := .tuple #[.bool false, .int .i64 0]) (by simp [results, Try.results12, go_sem]) rfl ?_
  exact ⟨rfl, N.out.1, N.out.2⟩
theorem hvVals_snoc (l : List Hv) (x : Hv) : l.flatMap hvVals ++ hvVals x = (l ++ [x]).flatMap hvVals := by simp
set_option maxRecDepth 20000 in
set_option maxHeartbeats 4000000 in
theorem lock_holds (h : Rg w U T S M H W B sl tag r) {t : Int} (ht : 0 ≤ t ∧ t < 1000000) {j : Nat} (hj : j < r.n) (ho : r.o j = -1) (hf : (r.h t).length ≤ 100) (hMA : Calls Try.prog 29 #[.pointer (some ⟨S, 0, none⟩), .int .i64 t, .int .i64 (j : Nat)] w fun e w' => e = .returned (.int .i64 0) ∧ Below w.heap.size w w') :
    Calls Try.prog 12 #[.pointer (some ⟨S, 0, none⟩), .int .i64 t, .int .i64 (j : Nat)] w fun e w' => e = .returned (.tuple #[.bool true, .int .i64 0]) ∧ ∃ U' sl' tag', Rg w' U' T S M H W B sl' tag' ⟨r.n, upN r.o j t, r.q, upI r.h t (r.h t ++ [⟨(j : Int), 0⟩]), r.a⟩ ∧ Touch U w w' ∧ ∀ i, U' i → U i ∨ w.heap.size ≤ i := by
  obtain ⟨i0, hi0, hz0, hz1, hz2⟩ := info_parts held_info
  have I0 := hide (show Try.prog.info? 44 = some i0 ∧ i0.zero = some (.agg #[.int .i64 0, .int .i64 0]) ∧ i0.size = 2 ∧ i0.bytes = 16 from ⟨hi0, hz0, hz1, hz2⟩)
  clear hi0 hz0 hz1 hz2
  have hb := built_held (j : Int)
  have MA := hide hMA
  obtain ⟨n, hn⟩ : ∃ n, n = r.n := ⟨_, rfl⟩
  have j0 : (0 : Int) ≤ (j : Int) := by omega
  have j1 : (j : Int) < (n : Int) := by omega
  have wt := wf_few ht
  obtain ⟨a, c, e1, e2, e3, e4, e5, e6⟩ := h.held t
  obtain ⟨k, hk⟩ : ∃ k, k = (r.h t).length := ⟨_, rfl⟩
  have k100 : k ≤ 100 := by omega
  have F := hide (show ∀ w1, Below w.heap.size w w1 → w1.cell? ⟨S, 1, none⟩ = some (.slice (some ⟨M, 0, none⟩) n n) ∧ w1.cell? ⟨M, j * 2, none⟩ = some (.int .i64 (-1)) ∧ w1.frozen? ⟨M, j * 2, none⟩ = false ∧ (w1.setCell ⟨M, j * 2, none⟩ (.int .i64 t)).cell? ⟨S, 2, none⟩ = some (.map (some H)) ∧
      (Instr.lookup 63 (.map (some H)) (.int .i64 t) false).run Try.prog (w1.setCell ⟨M, j * 2, none⟩ (.int .i64 t)) = .ok (.slice a k c) (w1.setCell ⟨M, j * 2, none⟩ (.int .i64 t)) ∧
      Hid (Rg (w1.setCell ⟨M, j * 2, none⟩ (.int .i64 t)) U T S M H W B sl tag ⟨r.n, upN r.o j t, r.q, r.h, r.a⟩ ∧ (w1.setCell ⟨M, j * 2, none⟩ (.int .i64 t)).ownsRow 0 44 2 (.slice a k c) k ((r.h t).flatMap hvVals)) from fun w1 b1 => by
    have h1 := h.below b1
    obtain ⟨k1, k2, k3⟩ := h1.m.at_ hj
    have h2 := h1.owner hj t
    obtain ⟨a', c', f1, f2, f3⟩ := h2.held t
    have lk := h2.lookH wt
    rw [e1, ← hk] at lk
    rw [e1] at f1
    injection f1 with f1 _ f4
    subst f1 f4
    exact ⟨by rw [hn]; exact h1.cells.2.1, by rw [← ho]; exact k1, k3 _, h2.cells.2.2.1, lk, h2, by rw [hk]; exact f2⟩)
  have K3 := hide (show ∀ (w1 w3 : World) (g' cap' : Nat), Hid (Rg (w1.setCell ⟨M, j * 2, none⟩ (.int .i64 t)) U T S M H W B sl tag ⟨r.n, upN r.o j t, r.q, r.h, r.a⟩ ∧ (w1.setCell ⟨M, j * 2, none⟩ (.int .i64 t)).ownsRow 0 44 2 (.slice a k c) k ((r.h t).flatMap hvVals)) → Below w.heap.size w w1 →
      ((w1.setCell ⟨M, j * 2, none⟩ (.int .i64 t)).alloc (.cells (hvVals ⟨(j : Int), 0⟩).toArray 44)).grownBy w3 (Value.slice a k c).ownBlock → ((Value.slice (some ⟨g', 0, none⟩) (k + 1) cap').ownBlock = (Value.slice a k c).ownBlock ∨ (Value.slice (some ⟨g', 0, none⟩) (k + 1) cap').ownBlock = some (w1.heap.size + 1)) →
      w3.ownsRow 0 44 2 (.slice (some ⟨g', 0, none⟩) (k + 1) cap') (k + 1) ((r.h t ++ [(⟨(j : Int), 0⟩ : Hv)]).flatMap hvVals) →
      w3.cell? ⟨S, 2, none⟩ = some (.map (some H)) ∧ Calls Try.prog 30 #[.pointer (some ⟨S, 0, none⟩), .int .i64 t, .slice (some ⟨g', 0, none⟩) (k + 1) cap'] w3 fun e w' => e = .returned (.tuple #[]) ∧ ∃ U' sl' tag', Rg w' U' T S M H W B sl' tag' ⟨r.n, upN r.o j t, r.q, upI r.h t (r.h t ++ [⟨(j : Int), 0⟩]), r.a⟩ ∧ Touch U w w' ∧ ∀ i, U' i → U i ∨ w.heap.size ≤ i from fun w1 w3 g' cap' hN b1 hg hb o3 => by
    have h2 := hN.out.1
    have hsz : (w1.setCell ⟨M, j * 2, none⟩ (.int .i64 t)).heap.size = w1.heap.size := by simp [World.setCell]
    have hbz := b1.size
    have hV : ∀ i, (Value.slice a k c).ownBlock = some i → U i ∧ tag i = 2 * t + 1 := fun i hi => by
      rcases e6 with rfl | ⟨g, rfl, u, tg⟩
      · cases hi
      · injection hi with hi; subst hi; exact ⟨u, tg⟩
    have T1 : Touch (fun i => (Value.slice a k c).ownBlock = some i) (w1.setCell ⟨M, j * 2, none⟩ (.int .i64 t)) w3 := ((Touch.refl (fun i => (Value.slice a k c).ownBlock = some i) _).alloc _).trans (S' := fun i => (Value.slice a k c).ownBlock = some i) (Touch.of_grown hg (fun g e => e)) (fun _ h => .inl h)
    have u4 := h2.us
    have t4 := h2.ts
    have c3 : w3.cell? ⟨S, 2, none⟩ = some (.map (some H)) := T1.cell h2.cells.2.2.1 (fun e => by have := (hV _ e).2; rw [t4.1] at this; omega)
    have h3 := h2.hm.touch T1 (fun e => by have := (hV _ e).2; rw [t4.2.2.1] at this; omega)
    refine ⟨c3, (keep0_any c3 h3 wt (n := k + 1) (a := some ⟨g', 0, none⟩) (c := cap') (fun _ => ⟨ht, g', rfl⟩)).mono ?_⟩
    rintro e w' ⟨rfl, k1, k2⟩
    have g3 : g' < w3.heap.size := (o3.lt g' rfl).2
    have tgg : ∀ i, U i → upN tag g' (2 * t + 1) i = tag i := fun i hi => by
      unfold upN
      by_cases e : i = g'
      · rw [if_pos e]
        rcases hb with hb | hb
        · rw [e]; exact ((hV g' hb.symm).2).symm
        · have hb' : g' = w1.heap.size + 1 := Option.some.inj hb
          have := h2.lt i hi
          rw [hsz] at this
          omega
      · rw [if_neg e]
    refine ⟨rfl, fun i => U i ∨ i = g', _, upN tag g' (2 * t + 1), h2.rowTo T1 (fun i hi _ => ⟨(hV i hi).2, ht.1⟩) k1 k2 (fun x hx => by unfold updF; rw [if_neg hx]) (fun i hi => ⟨.inl hi, tgg i hi⟩) ?_ (.inr ⟨g', cap', ?_, by simp, ?_, .inr rfl, by unfold upN; rw [if_pos rfl]⟩), ?_, ?_⟩
    · rintro i (hi | hi)
      · exact Nat.lt_of_lt_of_le (h2.lt i hi) (Nat.le_trans T1.size k2.size)
      · rw [hi]; exact Nat.lt_of_lt_of_le g3 k2.size
    · unfold updF keptAs; rw [if_pos rfl, if_neg (by omega), List.length_append, ← hk]; rfl
    · rw [List.length_append, ← hk]; exact o3
    · have T0 : Touch U w (w1.setCell ⟨M, j * 2, none⟩ (.int .i64 t)) := (Touch.of_below b1).setCell (p := ⟨M, j * 2, none⟩) h.us.2.1 _
      exact (T0.trans (S' := U) (T1.mono (fun i hi => (hV i hi).1)) (fun _ e => .inl e)).trans (S' := U) (k2.mono (fun i e => by rw [e]; exact h.us.2.2.1)) (fun _ e => .inl e)
    · rintro i (hi | hi)
      · exact .inl hi
      · rcases hb with hb | hb
        · exact .inl (by rw [hi]; exact (hV g' hb.symm).1)
        · have hb' : g' = w1.heap.size + 1 := Option.some.inj hb
          exact .inr (by omega))
  clear h hMA ho hn hj ht e1 e2 e3 e4 e5 e6 hk hf
  go_enter Try.func12, Try.ntmps12
  go_wp2_with (first
    | (go_at_call 29; refine MA.out.mono ?_; rintro e w1 ⟨rfl, b1⟩; obtain ⟨z1, z2, z3, z4, z5, N⟩ := F.out w1 b1; have B1 := hide b1; obtain ⟨w2, hw2⟩ : ∃ w2, w2 = w1.setCell ⟨M, j * 2, none⟩ (.int .i64 t) := ⟨_, rfl⟩; have HW2 := hide hw2; clear b1 hw2)
    | (at_builtin; refine wpList_append_own_at _ rfl (.tmp 51) (.tmp 54) _ rfl 0 44 i0 _ 2 16 Try.underlying40 I0.out.1 I0.out.2.1 I0.out.2.2.1 I0.out.2.2.2 rfl (by omega) _ k _ rfl (N.out.2.alloc _) ⟨w1.heap.size, 0, none⟩ 1 1 (hvVals ⟨(j : Int), 0⟩) rfl rfl (cells_new _ _ _ _ (by simp [World.setCell])) (hv_cell _) (by unfold maxLen; omega) (by omega) (Nat.zero_le _) ?_; intro v' w3 o3 g3 _ h5; rw [hvVals_snoc] at o3; have GG := hide (show ((w1.setCell ⟨M, j * 2, none⟩ (.int .i64 t)).alloc (.cells (hvVals ⟨(j : Int), 0⟩).toArray 44)).grownBy w3 (Value.slice a k c).ownBlock from g3); have HB := hide (show v'.ownBlock = (Value.slice a k c).ownBlock ∨ v'.ownBlock = some (w1.heap.size + 1) from h5.imp (fun h => h) (fun h => by rw [h]; simp [World.setCell])); obtain ⟨g', cap', rfl⟩ := ownsRow_succ o3; have O3 := hide o3; clear o3 g3 h5; have KF := hide (K3.out w1 w3 g' cap' N B1.out GG.out HB.out O3.out); clear z4 z5; have z6 := KF.out.1)
    | (go_at_call 30; refine KF.out.2.mono ?_; rintro e w4 ⟨rfl, h4⟩; have H4 := hide h4; clear h4))
  refine bodyPost_ret (v := .tuple #[.bool true, .int .i64 0]) (by simp [results, Try.results12, go_sem]) rfl ?_
  exact ⟨rfl, H4.out⟩
end
end Go.Proofs.Yteeofpjfgjhemaa
namespace Go.Proofs.Yteeofpjfgjhemaa
open Go.ChangeShapes Go.WideShapes Go.ChangeAt Go.RowKit Go.Maps
set_option linter.unusedVariables false
set_option linter.unusedSimpArgs false
theorem wrap_few {k : Nat} (h : k ≤ 100) : wrap64 (k : Int) = (k : Int) := by unfold wrap64; omega
/-- The front of a row of one's own. -/
theorem own_front {w : World} {B g n k c : Nat} {e : TypeId} {l r : List Hv} (h : w.ownsRow B e 2 (.slice (some ⟨g, 0, none⟩) n c) n ((l ++ r).flatMap hvVals)) (hk : k = l.length) : w.ownsRow B e 2 (.slice (some ⟨g, 0, none⟩) k c) k (l.flatMap hvVals) := by
  obtain ⟨h1, h2⟩ := h
  have hl : ((l ++ r).flatMap hvVals).length = (l ++ r).length * 2 := flat_length hvVals_len _
  have hl2 : (l.flatMap hvVals).length = l.length * 2 := flat_length hvVals_len _
  have hn : n = l.length + r.length := by rw [hl, List.length_append] at h1; omega
  rcases h2 with ⟨e1, _⟩ | ⟨g', cap, cur, e1, e2, e3, e4, e5, e6, e7⟩
  · cases e1
  · injection e1 with e1 _ e8
    injection e1 with e1
    injection e1 with e1
    subst e1 e8
    refine ⟨by rw [hl2, hk], .inr ⟨g, c, cur, rfl, e2, e3, by omega, e5, e6, ?_⟩⟩
    have : cur.toList.take (k * 2) = (cur.toList.take (n * 2)).take (k * 2) := by rw [List.take_take]; congr 1; omega
    have hl3 : (l.flatMap hvVals).length = k * 2 := by rw [hl2, hk]
    rw [this, e7, List.flatMap_append, ← hl3, List.take_left]
/-- What Unlock and Leave leave behind. -/
def Loosed (w : World) (U : Nat → Prop) (T S M H W : Nat) (r : Rk) (js : List Nat) (t : Int) (l : List Hv) (a0 : Int → Option Int) (q0 : Nat → Int → Option Unit) (v : Value) (w' : World) : Prop :=
  ∃ L U' B' sl' tag', Rg w' U' T S M H W B' sl' tag' ⟨r.n, fo r.o js, fq q0 js, upI r.h t l, delAll a0 L⟩ ∧ (∀ x, x ∈ L ↔ ∃ j ∈ js, (q0 j x).isSome = true) ∧ (sortI L).Pairwise (· < ·) ∧ w'.ownsRow 0 3 1 v (sortI L).length ((sortI L).map (Value.int .i64)) ∧ (∀ i, v.ownBlock = some i → ¬ U' i ∧ w.heap.size ≤ i) ∧ Touch U w w' ∧ ∀ i, U' i → U i ∨ w.heap.size ≤ i
section
variable {w : World} {U : Nat → Prop} {T S M H W : Nat} {B : Nat → Nat} {sl : Int → Option Sl} {tag : Nat → Int} {r : Rk}
set_option maxRecDepth 20000 in
set_option maxHeartbeats 4000000 in
theorem unlock_none (h : Rg w U T S M H W B sl tag r) {t m : Int} (ht : (Lit.int .i64 t).wf = true) (hr : r.h t = []) :
    Calls Try.prog 13 #[.pointer (some ⟨S, 0, none⟩), .int .i64 t, .int .i64 m] w fun e w' => e = .returned (.tuple #[.slice none 0 0, .int .i64 6]) ∧ w = w' := by
  obtain ⟨c0, c1, c2, c3⟩ := h.cells
  have lk := h.lookH ht
  obtain ⟨a, c, e1, e2, e3, e4, e5, e6⟩ := h.held t
  rw [e1, hr] at lk
  have lk2 : (Instr.lookup 63 (.map (some H)) (.int .i64 t) false).run Try.prog w = .ok (.slice a 0 c) w := lk
  clear h lk e1 e2 e3 e4 e5 e6 hr
  go_enter Try.func13, Try.ntmps13
  go_wp2_with fail
  refine bodyPost_ret (v := .tuple #[.slice none 0 0, .int .i64 6]) (by simp [results, Try.results13, go_sem]) rfl ?_
  exact ⟨rfl, rfl⟩
set_option maxRecDepth 20000 in
set_option maxHeartbeats 4000000 in
theorem unlock_other (h : Rg w U T S M H W B sl tag r) {t m : Int} (ht : (Lit.int .i64 t).wf = true) {l : List Hv} {x : Hv} (hr : r.h t = l ++ [x]) (hm : ¬ x.m = m) (hl : l.length ≤ 100) :
    Calls Try.prog 13 #[.pointer (some ⟨S, 0, none⟩), .int .i64 t, .int .i64 m] w fun e w' => e = .returned (.tuple #[.slice none 0 0, .int .i64 6]) ∧ w = w' := by
  obtain ⟨c0, c1, c2, c3⟩ := h.cells
  have lk := h.lookH ht
  obtain ⟨a, c, e1, e2, e3, e4, e5, e6⟩ := h.held t
  obtain ⟨k, hk⟩ : ∃ k, k = l.length := ⟨_, rfl⟩
  have hlen : (l ++ [x]).length = k + 1 := by rw [List.length_append, ← hk]; rfl
  rw [e1, hr, hlen] at lk
  rw [hr, hlen] at e3
  obtain ⟨g, off, rfl, hc⟩ := e3.2 (by omega)
  have cx := hc k x (by rw [hk]; simp) 0 (.int .i64 x.m) rfl
  obtain ⟨xm, hxm⟩ : ∃ xm, xm = x.m := ⟨_, rfl⟩
  rw [← hxm] at cx hm
  have cx2 : w.cell? ⟨g, off + k * 2, none⟩ = some (.int .i64 xm) := cx
  have k0 : (0 : Int) ≤ (k : Int) := by omega
  have k1 : ¬ (k : Int) < 0 := by omega
  have k2 : (k : Int) < ((k + 1 : Nat) : Int) := by omega
  have hwr := wrap_few (k := k) (by omega)
  clear h e1 e2 e3 e4 e5 e6 hr hc cx hxm hlen hk hl
  go_enter Try.func13, Try.ntmps13
  go_wp2_with fail
  refine bodyPost_ret (v := .tuple #[.slice none 0 0, .int .i64 6]) (by simp [results, Try.results13, go_sem]) rfl ?_
  exact ⟨rfl, rfl⟩
set_option maxRecDepth 20000 in
set_option maxHeartbeats 4000000 in
theorem unlock_last (h : Rg w U T S M H W B sl tag r) {t : Int} (ht : (Lit.int .i64 t).wf = true) {l : List Hv} {x : Hv} (hr : r.h t = l ++ [x]) {j : Nat} (hm : x.m = (j : Int)) (hj : j < r.n) (hl : l.length ≤ 100) (ht2 : t < 1000000) (hq : ∀ j x, j < r.n → (r.q j x).isSome = true → r.a x = some (j : Int) ∧ 0 ≤ x ∧ x < 1000000) :
    Calls Try.prog 13 #[.pointer (some ⟨S, 0, none⟩), .int .i64 t, .int .i64 (j : Nat)] w fun e w' => ∃ v, e = .returned (.tuple #[v, .int .i64 0]) ∧ Loosed w U T S M H W r [j] t l r.a r.q v w' := by
  obtain ⟨c0, c1, c2, c3⟩ := h.cells
  have lk := h.lookH ht
  obtain ⟨a, c, e1, e2, e3, e4, e5, e6⟩ := h.held t
  obtain ⟨k, hk⟩ : ∃ k, k = l.length := ⟨_, rfl⟩
  have hlen : (l ++ [x]).length = k + 1 := by rw [List.length_append, ← hk]; rfl
  rw [e1, hr, hlen] at lk
  rw [hr, hlen] at e2 e3
  rcases e6 with rfl | ⟨g, rfl, u, tg⟩
  · have := e3.isNil rfl; omega
  have hkc : k + 1 ≤ c := by
    rcases e2.2 with ⟨e, _⟩ | ⟨g', cap, cur, e, _, _, e8, _⟩
    · cases e
    · injection e with _ _ e; omega
  have t0 : 0 ≤ t := by
    rcases h.row t with ⟨_, e⟩ | ⟨g', c', e, _⟩
    · rw [hr] at e; cases l <;> cases e
    · exact (h.hm.few e).1
  have cx2 : w.cell? ⟨g, k * 2, none⟩ = some (.int .i64 (j : Nat)) := by
    obtain ⟨b, o, e, hc⟩ := e3.2 (by omega)
    injection e with e
    injection e with e7 e8
    subst e7 e8
    have h9 := hc k x (by rw [hk]; simp) 0 (.int .i64 x.m) rfl
    rw [hm, Nat.zero_add, Nat.add_zero] at h9
    exact h9
  have HWR := hide (wrap_few (k := k) (by omega))
  have k0 : (0 : Int) ≤ (k : Int) := by omega
  have k1 : ¬ (k : Int) < 0 := by omega
  have k2 : (k : Int) < ((k + 1 : Nat) : Int) := by omega
  have k3 : (k : Int) ≤ (c : Int) := by omega
  have k4 : ¬ c = k := by omega
  have hB := h.ts
  have KP := hide (show Calls Try.prog 30 #[.pointer (some ⟨S, 0, none⟩), .int .i64 t, .slice (some ⟨g, 0, none⟩) k c] w fun e w' => e = .returned (.tuple #[]) ∧ (∃ sl', Rg w' U T S M H W B sl' tag ⟨r.n, r.o, r.q, upI r.h t l, r.a⟩) ∧ Touch (fun i => i = H) w w' from by
    refine (keep0_any c2 h.hm ht (fun _ => ⟨⟨t0, ht2⟩, g, rfl⟩)).mono ?_
    rintro e w' ⟨rfl, q1, q2⟩
    refine ⟨rfl, ⟨_, h.rowTo (V := fun _ => False) (w3 := w) (Touch.refl _ _) (fun i hi => hi.elim) q1 q2 (fun y hy => by unfold updF; rw [if_neg hy]) (fun i hi => ⟨hi, rfl⟩) (fun i hi => Nat.lt_of_lt_of_le (h.lt i hi) q2.size) ?_⟩, q2⟩
    by_cases hl0 : l = []
    · left
      subst hl0
      refine ⟨?_, rfl⟩
      unfold updF keptAs; rw [if_pos rfl, if_pos (show k = 0 from hk)]
    · right
      have : k ≠ 0 := fun e => hl0 (List.eq_nil_of_length_eq_zero (by omega))
      refine ⟨g, c, ?_, hl0, ?_, u, tg⟩
      · unfold updF keptAs; rw [if_pos rfl, if_neg this, hk]; rfl
      · rw [← hk]; exact own_front e2 hk)
  have FR := hide (show ∀ w1 sl1, Rg w1 U T S M H W B sl1 tag ⟨r.n, r.o, r.q, upI r.h t l, r.a⟩ → Touch (fun i => i = H) w w1 → ∀ c', Calls Try.prog 31 #[.pointer (some ⟨S, 0, none⟩), .slice (some ⟨g, k * 2, none⟩) 1 c'] w1 fun e w' => ∃ v, e = .returned v ∧ Loosed w U T S M H W r [j] t l r.a r.q v w' from fun w1 sl1 h1 t1 c' => by
    have rd : Reads 2 hvVals w1 (some ⟨g, k * 2, none⟩) 1 [x] := by
      have r1 := e3.touch t1 (fun b o e e' => by injection e with e; injection e with e _; have : g = H := e.trans e'; rw [this, hB.2.2.1] at tg; omega)
      have := r1.part k 1 (by omega)
      rw [Nat.zero_add] at this
      rw [show ((l ++ [x]).drop k).take 1 = [x] from by rw [hk]; simp] at this
      exact this
    refine (lkfree_any h1 rd (by unfold maxLen; omega) (c := c') (js := [j]) (fun b o e e' => by injection e with e; injection e with e _; have : g = M := e.trans e'; rw [this, hB.2.1] at tg; omega) (by simp [hm]) (fun i hi => by simp at hi; rw [hi]; exact hj) (by simp) hq).mono ?_
    rintro e w' ⟨v, L, U', B', tag', rfl, f1, f2, f3, f4, f5, f6, f7⟩
    have sz := t1.size
    refine ⟨v, rfl, L, U', B', sl1, tag', f1, f2, f3, f4, fun i hi => ⟨(f5 i hi).1, Nat.le_trans sz (f5 i hi).2⟩, ?_, fun i hi => (f7 i hi).imp (fun h => h) (fun h => Nat.le_trans sz h)⟩
    exact (t1.mono (fun i e => by rw [e]; exact h.us.2.2.1)).trans (S' := U) (f6.mono (fun i e => by rcases e with e | e <;> rw [e]; exact h.us.2.1; exact h.us.2.2.2)) (fun _ e => .inl e))
  have HR := hide h
  clear h e1 e2 e3 e4 e5 hr hm hlen hk hl u tg hB hq hkc t0 ht2
  have hwr := HWR.out
  go_enter Try.func13, Try.ntmps13
  go_wp2_with (first
    | (go_at_call 30; refine KP.out.mono ?_; rintro e w1 ⟨rfl, ⟨sl1, h1⟩, t1⟩; have H1 := hide h1; have T1 := hide t1; clear h1 t1)
    | (go_at_call 31; refine (FR.out _ _ H1.out T1.out _).mono ?_; rintro e w2 ⟨v, rfl, h2⟩; have H2 := hide h2; clear h2))
  refine bodyPost_ret (v := .tuple #[v, .int .i64 0]) (by simp [results, Try.results13, go_sem]) rfl ?_
  exact ⟨v, rfl, H2.out⟩
end
end Go.Proofs.Yteeofpjfgjhemaa
namespace Go.Proofs.Yteeofpjfgjhemaa
open Go.ChangeShapes Go.WideShapes Go.ChangeAt Go.RowKit Go.Maps
set_option linter.unusedVariables false
set_option linter.unusedSimpArgs false
theorem Loosed.before {w w1 w' : World} {U : Nat → Prop} {T S M H W : Nat} {r : Rk} {js : List Nat} {t : Int} {l : List Hv} {a0 : Int → Option Int} {q0 : Nat → Int → Option Unit} {v : Value} (h : Loosed w1 U T S M H W r js t l a0 q0 v w') (b : Touch U w w1) : Loosed w U T S M H W r js t l a0 q0 v w' := by
  obtain ⟨L, U', B', sl', tag', f1, f2, f3, f4, f5, f6, f7⟩ := h
  have sz := b.size
  exact ⟨L, U', B', sl', tag', f1, f2, f3, f4, fun i hi => ⟨(f5 i hi).1, Nat.le_trans sz (f5 i hi).2⟩, b.trans (S' := U) f6 (fun _ e => .inl e), fun i hi => (f7 i hi).imp (fun h => h) (fun h => Nat.le_trans sz h)⟩
section
variable {w : World} {U : Nat → Prop} {T S M H W : Nat} {B : Nat → Nat} {sl : Int → Option Sl} {tag : Nat → Int} {r : Rk}
/-- All that a thread holds is let go. -/
theorem leave_tail (h : Rg w U T S M H W B sl tag r) {t : Int} (ht : (Lit.int .i64 t).wf = true) {js : List Nat} (hh : (r.h t).map (·.m) = js.map fun (j : Nat) => (j : Int)) (hjs : ∀ j ∈ js, j < r.n) (hnd : js.Nodup) (hq : ∀ j x, j < r.n → (r.q j x).isSome = true → r.a x = some (j : Int) ∧ 0 ≤ x ∧ x < 1000000) :
    ∃ a k c, (Instr.lookup 63 (.map (some H)) (.int .i64 t) false).run Try.prog w = .ok (.slice a k c) w ∧
      Calls Try.prog 30 #[.pointer (some ⟨S, 0, none⟩), .int .i64 t, .slice none 0 0] w fun e w1 => e = .returned (.tuple #[]) ∧ Calls Try.prog 31 #[.pointer (some ⟨S, 0, none⟩), .slice a k c] w1 fun e w' => ∃ v, e = .returned v ∧ Loosed w U T S M H W r js t [] r.a r.q v w' := by
  obtain ⟨a, c, e1, e2, e3, e4, e5, e6⟩ := h.held t
  have lk := h.lookH ht
  rw [e1] at lk
  refine ⟨a, (r.h t).length, c, lk, ?_⟩
  refine (keep0_any h.cells.2.2.1 h.hm ht (a := none) (n := 0) (c := 0) (fun e => absurd rfl e)).mono ?_
  rintro e w1 ⟨rfl, q1, q2⟩
  refine ⟨rfl, ?_⟩
  have h1 : Rg w1 U T S M H W B (updF sl t (keptAs none 0 0)) tag ⟨r.n, r.o, r.q, upI r.h t [], r.a⟩ := h.rowTo (V := fun _ => False) (w3 := w) (Touch.refl _ _) (fun i hi => hi.elim) q1 q2 (fun y hy => by unfold updF; rw [if_neg hy]) (fun i hi => ⟨hi, rfl⟩) (fun i hi => Nat.lt_of_lt_of_le (h.lt i hi) q2.size) (.inl ⟨by unfold updF keptAs; rw [if_pos rfl, if_pos rfl], rfl⟩)
  have hB := h.ts
  have rd : Reads 2 hvVals w1 a (r.h t).length (r.h t) := by
    rcases e6 with e6 | ⟨g, e6, u, tg⟩
    · have h0 := e3.isNil e6
      exact ⟨rfl, fun h => by omega⟩
    · refine e3.touch q2 (fun b o e e' => ?_)
      rw [e6] at e
      injection e with e
      injection e with e _
      have : g = H := e.trans e'
      rw [this, hB.2.2.1] at tg
      rcases h.row t with ⟨_, e0⟩ | ⟨_, _, e0, _⟩
      · rw [e0] at e3
        have := (h.row t)
        rcases this with ⟨e8, e9⟩ | ⟨_, _, _, e9, _⟩
        · rw [e8] at e1
          injection e1 with e1
          rw [e6] at e1
          cases e1
        · exact e9 e0
      · have := (h.hm.few e0).1
        omega
  refine (lkfree_any h1 rd e4 (c := c) (js := js) (fun b o e e' => ?_) hh hjs hnd hq).mono ?_
  · rcases e6 with e6 | ⟨g, e6, u, tg⟩
    · rw [e6] at e; cases e
    · rw [e6] at e
      injection e with e
      injection e with e _
      have : g = M := e.trans e'
      rw [this, hB.2.1] at tg
      rcases h.row t with ⟨e8, _⟩ | ⟨_, _, e0, _⟩
      · rw [e8] at e1
        injection e1 with e1
        rw [e6] at e1
        cases e1
      · have := (h.hm.few e0).1
        omega
  · rintro e w' ⟨v, L, U', B', tag', rfl, f1, f2, f3, f4, f5, f6, f7⟩
    have sz := q2.size
    refine ⟨v, rfl, L, U', B', _, tag', f1, f2, f3, f4, fun i hi => ⟨(f5 i hi).1, Nat.le_trans sz (f5 i hi).2⟩, ?_, fun i hi => (f7 i hi).imp (fun h => h) (fun h => Nat.le_trans sz h)⟩
    exact (q2.mono (fun i e => by rw [e]; exact h.us.2.2.1)).trans (S' := U) (f6.mono (fun i e => by rcases e with e | e <;> rw [e]; exact h.us.2.1; exact h.us.2.2.2)) (fun _ e => .inl e)
set_option maxRecDepth 20000 in
set_option maxHeartbeats 4000000 in
theorem leave_stays (h : Rg w U T S M H W B sl tag r) {t : Int} (ht : (Lit.int .i64 t).wf = true) (ha : r.a t = none) {js : List Nat} (hh : (r.h t).map (·.m) = js.map fun (j : Nat) => (j : Int)) (hjs : ∀ j ∈ js, j < r.n) (hnd : js.Nodup) (hq : ∀ j x, j < r.n → (r.q j x).isSome = true → r.a x = some (j : Int) ∧ 0 ≤ x ∧ x < 1000000) :
    Calls Try.prog 14 #[.pointer (some ⟨S, 0, none⟩), .int .i64 t] w fun e w' => ∃ v, e = .returned v ∧ Loosed w U T S M H W r js t [] r.a r.q v w' := by
  obtain ⟨c0, c1, c2, c3⟩ := h.cells
  have lk := h.look ht
  rw [ha] at lk
  have lk2 : (Instr.lookup 64 (.map (some W)) (.int .i64 t) true).run Try.prog w = .ok (.tuple #[.int .i64 0, .bool false]) w := lk
  obtain ⟨a, k, c, lk3, KP⟩ := leave_tail h ht hh hjs hnd hq
  have KP := hide KP
  clear h lk ha hh hjs hnd hq
  go_enter Try.func14, Try.ntmps14
  go_wp2_with (first
    | (go_at_call 30; refine KP.out.mono ?_; rintro e w1 ⟨rfl, h1⟩; have H1 := hide h1; clear h1)
    | (go_at_call 31; refine H1.out.mono ?_; rintro e w2 ⟨v, rfl, h2⟩; have H2 := hide h2; clear h2))
  go_ret
  exact ⟨_, rfl, H2.out⟩
set_option maxRecDepth 20000 in
set_option maxHeartbeats 4000000 in
theorem leave_waits (h : Rg w U T S M H W B sl tag r) {t : Int} (ht : (Lit.int .i64 t).wf = true) {jm : Nat} (ha : r.a t = some (jm : Int)) (hjm : jm < r.n) {js : List Nat} (hh : (r.h t).map (·.m) = js.map fun (j : Nat) => (j : Int)) (hjs : ∀ j ∈ js, j < r.n) (hnd : js.Nodup) (hq : ∀ j x, j < r.n → (r.q j x).isSome = true → r.a x = some (j : Int) ∧ 0 ≤ x ∧ x < 1000000) :
    Calls Try.prog 14 #[.pointer (some ⟨S, 0, none⟩), .int .i64 t] w fun e w' => ∃ v, e = .returned v ∧ Loosed w U T S M H W r js t [] (updF r.a t none) (upN r.q jm (updF (r.q jm) t none)) v w' := by
  obtain ⟨c0, c1, c2, c3⟩ := h.cells
  have lk := h.look ht
  rw [ha] at lk
  have lk2 : (Instr.lookup 64 (.map (some W)) (.int .i64 t) true).run Try.prog w = .ok (.tuple #[.int .i64 (jm : Nat), .bool true]) w := lk
  obtain ⟨n, hn⟩ : ∃ n, n = r.n := ⟨_, rfl⟩
  have j0 : (0 : Int) ≤ (jm : Int) := by omega
  have j1 : (jm : Int) < (n : Int) := by omega
  obtain ⟨i1, i2, i3⟩ := h.b jm hjm
  obtain ⟨w1, r1, q1, g1⟩ := i1.drop (t := 67) (e := 74) Try.underlying67 ht 0
  have T1 : Touch (fun i => i = B jm) w w1 := Touch.of_grown g1 (fun g e => by injection e with e; exact e.symm)
  have h1 := h.waiting hjm q1 T1
  obtain ⟨w2, r2, q2, g2⟩ := h1.wm.drop (t := 64) (e := 3) Try.underlying64 ht 0
  have T2 : Touch (fun i => i = W) w1 w2 := Touch.of_grown g2 (fun g e => by injection e with e; exact e.symm)
  have h2 := h1.waits q2 T2
  have T3 : Touch U w w2 := (T1.mono (fun i e => by rw [e]; exact i2)).trans (S' := U) (T2.mono (fun i e => by rw [e]; exact h.us.2.2.2)) (fun _ e => .inl e)
  obtain ⟨a, k, c, lk3, KP⟩ := leave_tail h2 ht hh hjs hnd (by
    intro j x hj hs
    have hs : (upN r.q jm (updF (r.q jm) t none) j x).isSome = true := hs
    show updF r.a t none x = some (j : Int) ∧ _
    unfold upN at hs
    by_cases ej : j = jm
    · rw [if_pos ej] at hs
      unfold updF at hs ⊢
      by_cases ex : x = t
      · rw [if_pos ex] at hs; cases hs
      · rw [if_neg ex] at hs ⊢; subst ej; exact hq j x hj hs
    · rw [if_neg ej] at hs
      have h5 := hq j x hj hs
      unfold updF
      by_cases ex : x = t
      · rw [ex, ha] at h5; exfalso; have := Option.some.inj h5.1; omega
      · rw [if_neg ex]; exact h5)
  have KP := hide KP
  have T3 := hide T3
  obtain ⟨k1, k2, k3⟩ := h.m.at_ hjm
  have c3b : w1.cell? ⟨S, 3, none⟩ = some (.map (some W)) := h1.cells.2.2.2
  have c2b : w2.cell? ⟨S, 2, none⟩ = some (.map (some H)) := h2.cells.2.2.1
  rw [← hn] at c1
  have KD := hide (show ∀ v w', Loosed w2 U T S M H W ⟨r.n, r.o, upN r.q jm (updF (r.q jm) t none), r.h, updF r.a t none⟩ js t [] (updF r.a t none) (upN r.q jm (updF (r.q jm) t none)) v w' → Loosed w U T S M H W r js t [] (updF r.a t none) (upN r.q jm (updF (r.q jm) t none)) v w' from fun v w' hL => (Loosed.before hL T3.out : Loosed w U T S M H W ⟨r.n, r.o, upN r.q jm (updF (r.q jm) t none), r.h, updF r.a t none⟩ js t [] (updF r.a t none) (upN r.q jm (updF (r.q jm) t none)) v w'))
  clear h lk ha hh hjs hnd hq hn hjm i1 i2 i3 q1 g1 T1 h1 q2 g2 T2 h2 k1 k3
  go_enter Try.func14, Try.ntmps14
  go_wp2_with (first
    | (go_at_call 30; refine KP.out.mono ?_; rintro e w3 ⟨rfl, h1⟩; have H1 := hide h1; clear h1)
    | (go_at_call 31; refine H1.out.mono ?_; rintro e w4 ⟨v, rfl, h2⟩; have H2 := hide h2; clear h2))
  go_ret
  exact ⟨_, rfl, KD.out _ _ H2.out⟩
end
end Go.Proofs.Yteeofpjfgjhemaa
namespace Go.Proofs.Yteeofpjfgjhemaa
open Go.ChangeShapes Go.WideShapes Go.ChangeAt Go.RowKit Go.Maps
set_option linter.unusedVariables false
set_option linter.unusedSimpArgs false
theorem own_setCell {w : World} {B g n c z p : Nat} {e : TypeId} {xs : List Value} (h : w.ownsRow B e z (.slice (some ⟨g, 0, none⟩) n c) n xs) (hp : p < xs.length) (u : Value) : (w.setCell ⟨g, p, none⟩ u).ownsRow B e z (.slice (some ⟨g, 0, none⟩) n c) n (xs.set p u) := by
  obtain ⟨h1, h2⟩ := h
  rcases h2 with ⟨e1, _⟩ | ⟨g', cap, cur, e1, e2, e3, e4, e5, e6, e7⟩
  · cases e1
  · injection e1 with e1 _ e8
    injection e1 with e1
    injection e1 with e1
    subst e1 e8
    refine ⟨by simp [h1], .inr ⟨g, c, _, rfl, e2, heap_setCell_same _ _ _ _ _ _ e3, e4, e5, by simp [e6], ?_⟩⟩
    rw [Array.toList_setIfInBounds, List.take_set, e7]
def runV (n : Int) (x : Hv) : Hv := ⟨x.m, addN x.k n⟩
def runK (n : Int) (l : List Hv) (k : Nat) : List Hv := (l.take k).map (runV n) ++ l.drop k
theorem runK_len (n : Int) (l : List Hv) (k : Nat) (h : k ≤ l.length) : (runK n l k).length = l.length := by unfold runK; simp; omega
theorem runK_all (n : Int) (l : List Hv) : runK n l l.length = l.map (runV n) := by unfold runK; simp
theorem runK_at {n : Int} {l : List Hv} {k : Nat} {x : Hv} (h : l[k]? = some x) : (runK n l k)[k]? = some x := by
  have hk := (List.getElem?_eq_some_iff.1 h).1
  unfold runK
  rw [List.getElem?_append_right (by simp; omega)]
  simp only [List.length_map, List.length_take, List.getElem?_drop]
  rw [← h]; congr 1; omega
theorem runK_set {n : Int} {l : List Hv} {k : Nat} {x : Hv} (h : l[k]? = some x) : (runK n l k).set k (runV n x) = runK n l (k + 1) := by
  have hk := (List.getElem?_eq_some_iff.1 h).1
  have h1 : l.drop k = x :: l.drop (k + 1) := by rw [List.drop_eq_getElem_cons hk]; congr 1; exact (List.getElem?_eq_some_iff.1 h).2
  unfold runK
  rw [h1, List.take_add_one, h, List.map_append, List.append_assoc]
  have h2 : ((l.take k).map (runV n)).length = k := by simp; omega
  rw [List.set_append_right _ _ (by omega), h2, Nat.sub_self]
  rfl
theorem flat_set {l : List Hv} {k : Nat} {x : Hv} (h : l[k]? = some x) (v : Int) : (l.flatMap hvVals).set (k * 2 + 1) (.int .i64 v) = (l.set k ⟨x.m, v⟩).flatMap hvVals := by
  have hk := (List.getElem?_eq_some_iff.1 h).1
  induction l generalizing k with
  | nil => cases h
  | cons y l ih =>
    cases k with
    | zero => injection h with h; subst h; rfl
    | succ k =>
      rw [List.flatMap_cons, List.set_cons_succ, List.flatMap_cons, ← ih (by simpa using h) (by simpa using hk)]
      show ([Value.int .i64 y.m, .int .i64 y.k] ++ _).set ((k + 1) * 2 + 1) _ = _
      rw [List.set_append_right _ _ (by simp; omega), show (k + 1) * 2 + 1 - [Value.int .i64 y.m, .int .i64 y.k].length = k * 2 + 1 from by simp; omega]
      rfl
section
variable {w : World} {U : Nat → Prop} {T S M H W : Nat} {B : Nat → Nat} {sl : Int → Option Sl} {tag : Nat → Int} {r : Rk}
/-- Each of a row is let run. -/
theorem each_runs {g c : Nat} {l : List Hv} {n : Int} (ho : w.ownsRow 0 44 2 (.slice (some ⟨g, 0, none⟩) l.length c) l.length (l.flatMap hvVals)) (hl : l.length ≤ maxLen) :
    Calls Try.prog 36 #[.slice (some ⟨g, 0, none⟩) l.length c, .func (.func 37) #[.int .i64 n] #[]] w fun e w' => e = .returned (.tuple #[]) ∧ w'.ownsRow 0 44 2 (.slice (some ⟨g, 0, none⟩) l.length c) l.length ((l.map (runV n)).flatMap hvVals) ∧ Touch (fun i => i = g) w w' := by
  refine (each_pass (.int .i64 n) (some ⟨g, 0, none⟩) g 0 l.length c (fun k X => X.ownsRow 0 44 2 (.slice (some ⟨g, 0, none⟩) l.length c) l.length ((runK n l k).flatMap hvVals) ∧ Touch (fun i => i = g) w X) w hl (fun _ => rfl) ⟨by unfold runK; simpa using ho, Touch.refl _ _⟩ ?_).mono ?_
  · rintro k X hk ⟨o1, t1⟩
    obtain ⟨x, hx⟩ : ∃ x, l[k]? = some x := ⟨_, List.getElem?_eq_getElem hk⟩
    have hx2 := runK_at (n := n) hx
    have h9 := flat_at (vals := hvVals) hvVals_len (i := k) (j := 1) hx2 (by omega)
    have hlen : ((runK n l k).flatMap hvVals).length = l.length * 2 := by rw [flat_length hvVals_len, runK_len n l k (by omega)]
    have cc : X.cell? ⟨g, 0 + k * 2 + 1, none⟩ = some (.int .i64 x.k) := by
      have := o1.cellAt (k * 2 + 1) (by omega)
      rw [Nat.zero_add, this, h9]; rfl
    have ff : X.frozen? ⟨g, 0 + k * 2 + 1, none⟩ = false := by
      rcases o1.2 with ⟨e, _⟩ | ⟨g', cap, cur, e, _, e3, _⟩
      · cases e
      · injection e with e; injection e with e; injection e with e; subst e; exact frozen_of_row _ _ _ _ _ e3
    refine (pass_any n x.k g (0 + k * 2) X cc ff).mono ?_
    rintro e w' ⟨rfl, rfl⟩
    refine ⟨rfl, ?_, (t1.setCell (p := ⟨g, 0 + k * 2 + 1, none⟩) rfl _).alloc _⟩
    have := (own_setCell o1 (p := k * 2 + 1) (by omega) (.int .i64 (addN x.k n))).alloc (.cells #[.int .i64 x.k, .int .i64 n] 3)
    rw [flat_set hx2, show (⟨x.m, addN x.k n⟩ : Hv) = runV n x from rfl, runK_set hx] at this
    rw [Nat.zero_add]
    exact this
  · rintro e w' ⟨rfl, h1, h2⟩
    rw [runK_all] at h1
    exact ⟨rfl, h1, h2⟩
set_option maxRecDepth 20000 in
set_option maxHeartbeats 4000000 in
theorem run_any (h : Rg w U T S M H W B sl tag r) {t n : Int} (ht : (Lit.int .i64 t).wf = true) :
    Calls Try.prog 21 #[.pointer (some ⟨S, 0, none⟩), .int .i64 t, .int .i64 n] w fun e w' => e = .returned (.tuple #[]) ∧ Rg w' U T S M H W B sl tag ⟨r.n, r.o, r.q, upI r.h t ((r.h t).map (runV n)), r.a⟩ ∧ Touch U w w' := by
  have hmf : ∀ fn first cap w, (Instr.makeFunc fn first cap).run Try.prog w = .ok (.func fn first cap) w := fun _ _ _ _ => rfl
  obtain ⟨c0, c1, c2, c3⟩ := h.cells
  obtain ⟨a, c, e1, e2, e3, e4, e5, e6⟩ := h.held t
  have lk := h.lookH ht
  rw [e1] at lk
  obtain ⟨k, hk⟩ : ∃ k, k = (r.h t).length := ⟨_, rfl⟩
  have EA := hide (show Calls Try.prog 36 #[.slice a k c, .func (.func 37) #[.int .i64 n] #[]] w fun e w' => e = .returned (.tuple #[]) ∧ Rg w' U T S M H W B sl tag ⟨r.n, r.o, r.q, upI r.h t ((r.h t).map (runV n)), r.a⟩ ∧ Touch U w w' from by
    rw [hk]
    rcases h.row t with ⟨h1, h2⟩ | ⟨g, c', h1, h2, h3, h4, h5⟩
    · have h0 : (r.h t).length = 0 := by rw [h2]; rfl
      rw [h0]
      refine (each_pass (.int .i64 n) a 0 0 0 c (fun k X => X = w) w (by unfold maxLen; omega) (fun e => absurd e (by omega)) rfl (fun k X hk => absurd hk (by omega))).mono ?_
      rintro e w' ⟨rfl, rfl⟩
      refine ⟨rfl, ?_, Touch.refl _ _⟩
      exact h.rowTo (V := fun _ => False) (w3 := w') (Touch.refl _ _) (fun i hi => hi.elim) h.hm (Touch.refl _ _) (fun y hy => rfl) (fun i hi => ⟨hi, rfl⟩) h.lt (.inl ⟨h1, by rw [h2]; rfl⟩)
    · rw [h1] at e1
      injection e1 with e1 _ e9
      have t0 := (h.hm.few h1).1
      rw [← e1, show c = c' from e9.symm]
      refine (each_runs h3 e4).mono ?_
      rintro e w' ⟨rfl, q1, q2⟩
      have hg : ∀ i, i = g → U i → tag i = 2 * t + 1 ∧ 0 ≤ t := fun i hi _ => by rw [hi]; exact ⟨h5, t0⟩
      refine ⟨rfl, ?_, q2.mono (fun i e => by rw [e]; exact h4)⟩
      refine h.rowTo (V := fun i => i = g) (w3 := w') q2 hg (h.hm.touch q2 (fun e => by have := h.ts.2.2.1; rw [show H = g from e, h5] at this; omega)) (Touch.refl _ _) (fun y hy => rfl) (fun i hi => ⟨hi, rfl⟩) (fun i hi => Nat.lt_of_lt_of_le (h.lt i hi) q2.size) (.inr ⟨g, c', by rw [h1, List.length_map], by simpa using h2, by rw [List.length_map]; exact q1, h4, h5⟩))
  rw [← hk] at lk
  clear h e1 e2 e3 e4 e5 e6 hk
  go_enter Try.func21, Try.ntmps21
  go_wp2_with (go_at_call 36; refine EA.out.mono ?_; rintro e w1 ⟨rfl, h1⟩; have H1 := hide h1; clear h1)
  go_end0
  exact ⟨rfl, H1.out⟩
theorem built_bound (T : Nat) (n : Int) : Try.prog.built 89 [(0, .pointer (some ⟨T, 0, none⟩)), (1, .int .i64 n)] = some #[.pointer (some ⟨T, 0, none⟩), .int .i64 n] := by kernel_rfl
set_option maxRecDepth 20000 in
set_option maxHeartbeats 4000000 in
theorem over_any {Q : Nat → Prop} {ms : List Mu} (h : Rg w U T S M H W B sl tag r) (hT : Tab w Q T ms) {t n : Int} (ht : (Lit.int .i64 t).wf = true) :
    Calls Try.prog 23 #[.pointer (some ⟨S, 0, none⟩), .int .i64 t, .int .i64 n] w fun e w' => e = .returned (.bool ((r.h t).any (isOver ms n))) ∧ Below w.heap.size w w' := by
  have hmf : ∀ fn first cap w, (Instr.makeFunc fn first cap).run Try.prog w = .ok (.func fn first cap) w := fun _ _ _ _ => rfl
  have hb := built_bound T n
  obtain ⟨a, c, e1, e2, e3, e4, e5, e6⟩ := h.held t
  obtain ⟨k, hk⟩ : ∃ k, k = (r.h t).length := ⟨_, rfl⟩
  obtain ⟨G, hG⟩ : ∃ G, G = (r.h t).any (isOver ms n) := ⟨_, rfl⟩
  rw [← hG]
  obtain ⟨w0, hw0⟩ : ∃ w0, w0 = w.drew := ⟨_, rfl⟩
  have b0 : Below w.heap.size w w0 := by rw [hw0]; exact below_drewN (Below.refl _ w) 1
  have CF := hide (show Calls Try.prog 38 #[.slice a k c, .func (.func 39) #[.agg #[.pointer (some ⟨T, 0, none⟩), .int .i64 n]] #[]] w0 fun e w' => e = .returned (.bool G) ∧ Below w0.heap.size w0 w' from by
    rw [hG, hk]; exact containsF_any (hT.below b0) n (e3.below b0) e4)
  have SS := hide (show ∀ X : World, Below w.heap.size w X → (X.cell? ⟨S, 0, none⟩ = some (.pointer (some ⟨T, 0, none⟩)) ∧ X.cell? ⟨S, 2, none⟩ = some (.map (some H))) ∧ (Instr.lookup 63 (.map (some H)) (.int .i64 t) false).run Try.prog X = .ok (.slice a k c) X from fun X b => by
    have h1 := h.below b
    have := h1.lookH ht
    rw [e1, ← hk] at this
    exact ⟨⟨h1.cells.1, h1.cells.2.2.1⟩, this⟩)
  have B0 := hide b0
  have HW := hide hw0
  clear h hT e1 e2 e3 e4 e5 e6 hk hG hw0 b0
  go_enter Try.func23, Try.ntmps23
  go_upto_region 1 with fail
  rename_i Q9 K9 a9
  refine wp_region_noPanic ?_
  refine wp_region_held_drew (S := (fun X => (X.cell? ⟨S, 0, none⟩ = some (.pointer (some ⟨T, 0, none⟩)) ∧ X.cell? ⟨S, 2, none⟩ = some (.map (some H))) ∧ (Instr.lookup 63 (.map (some H)) (.int .i64 t) false).run Try.prog X = .ok (.slice a k c) X)) (by kernel_rfl) (by rw [← HW.out]; exact SS.out _ B0.out) (fun hHeld => ?_)
  rw [← HW.out]
  rw [← HW.out] at hHeld
  refine wpAnyH_take (i := 0) (v := ?_) rfl (by kernel_rfl) (by kernel_rfl) (by kernel_rfl) (fun _ _ _ h => h) (Or.inl ⟨by kernel_rfl, ?_⟩) (by assumption) ?_
  rotate_left
  · intro w hSw
    (try dsimp only at hSw)
    go_simp
    try with_reducible rfl
  try simp only [Act.put, List.setIfInBounds_toArray, List.set_cons_zero, List.set_cons_succ]
  refine wpAnyH_take (i := 1) (v := ?_) rfl (by kernel_rfl) (by kernel_rfl) (by kernel_rfl) (fun _ _ _ h => h) (Or.inl ⟨by kernel_rfl, ?_⟩) (by assumption) ?_
  rotate_left
  · intro w hSw
    (try dsimp only at hSw)
    go_simp
    try with_reducible rfl
  try simp only [Act.put, List.setIfInBounds_toArray, List.set_cons_zero, List.set_cons_succ]
  refine wpAnyH_take (i := 2) (v := ?_) rfl (by kernel_rfl) (by kernel_rfl) (by kernel_rfl) (fun _ _ _ h => h) (Or.inl ⟨by kernel_rfl, ?_⟩) (by assumption) ?_
  rotate_left
  · intro w hSw
    (try dsimp only at hSw)
    go_simp
    try with_reducible rfl
  try simp only [Act.put, List.setIfInBounds_toArray, List.set_cons_zero, List.set_cons_succ]
  refine wpAnyH_take (i := 3) (v := ?_) rfl (by kernel_rfl) (by kernel_rfl) (by kernel_rfl) (fun _ _ _ h => h) (Or.inl ⟨by kernel_rfl, ?_⟩) (by assumption) ?_
  rotate_left
  · intro w hSw
    (try dsimp only at hSw)
    go_simp
    try with_reducible rfl
  try simp only [Act.put, List.setIfInBounds_toArray, List.set_cons_zero, List.set_cons_succ]
  refine wpAnyH_take (i := 4) (v := ?_) rfl (by kernel_rfl) (by kernel_rfl) (by kernel_rfl) (fun _ _ _ h => h) (Or.inl ⟨by kernel_rfl, ?_⟩) (by assumption) ?_
  rotate_left
  · intro w hSw
    (try dsimp only at hSw)
    go_simp
    try with_reducible rfl
  try simp only [Act.put, List.setIfInBounds_toArray, List.set_cons_zero, List.set_cons_succ]
  refine wpAnyH_take (i := 5) (v := ?_) rfl (by kernel_rfl) (by kernel_rfl) (by kernel_rfl) (fun _ _ _ h => h) (Or.inl ⟨by kernel_rfl, ?_⟩) (by assumption) ?_
  rotate_left
  · intro w hSw
    (try dsimp only at hSw)
    go_simp
    try with_reducible rfl
  try simp only [Act.put, List.setIfInBounds_toArray, List.set_cons_zero, List.set_cons_succ]
  refine wpAnyH_take (i := 6) (v := ?_) rfl (by kernel_rfl) (by kernel_rfl) (by kernel_rfl) (fun _ _ _ h => h) (Or.inl ⟨by kernel_rfl, ?_⟩) (by assumption) ?_
  rotate_left
  · intro w hSw
    (try dsimp only at hSw)
    go_simp
    try with_reducible rfl
  try simp only [Act.put, List.setIfInBounds_toArray, List.set_cons_zero, List.set_cons_succ]
  refine wpAnyH_take (i := 7) (v := ?_) rfl (by kernel_rfl) (by kernel_rfl) (by kernel_rfl) (fun _ _ _ h => h) (Or.inl ⟨by kernel_rfl, ?_⟩) (by assumption) ?_
  rotate_left
  · intro w hSw
    (try dsimp only at hSw)
    go_simp
    try with_reducible rfl
  try simp only [Act.put, List.setIfInBounds_toArray, List.set_cons_zero, List.set_cons_succ]
  refine wpAnyH_take (i := 8) (v := ?_) rfl (by kernel_rfl) (by kernel_rfl) (by kernel_rfl) (fun _ _ _ h => h) (Or.inl ⟨by kernel_rfl, ?_⟩) (by assumption) ?_
  rotate_left
  · intro w hSw
    (try dsimp only at hSw)
    go_simp
    try with_reducible rfl
  try simp only [Act.put, List.setIfInBounds_toArray, List.set_cons_zero, List.set_cons_succ]
  refine wpAnyH_take (i := 9) (v := ?_) rfl (by kernel_rfl) (by kernel_rfl) (by kernel_rfl) (fun _ _ _ h => h) (Or.inl ⟨by kernel_rfl, ?_⟩) (by assumption) ?_
  rotate_left
  · intro w hSw
    (try dsimp only at hSw)
    go_simp
    try with_reducible rfl
  try simp only [Act.put, List.setIfInBounds_toArray, List.set_cons_zero, List.set_cons_succ]
  refine wpAnyH_take (i := 10) (v := ?_) rfl (by kernel_rfl) (by kernel_rfl) (by kernel_rfl) (fun _ _ _ h => h) (Or.inl ⟨by kernel_rfl, ?_⟩) (by assumption) ?_
  rotate_left
  · intro w hSw
    (try dsimp only at hSw)
    go_simp
    try with_reducible rfl
  try simp only [Act.put, List.setIfInBounds_toArray, List.set_cons_zero, List.set_cons_succ]
  refine wpAnyH_take (i := 11) (v := ?_) rfl (by kernel_rfl) (by kernel_rfl) (by kernel_rfl) (fun _ _ _ h => h) (Or.inl ⟨by kernel_rfl, ?_⟩) (by assumption) ?_
  rotate_left
  · intro w hSw
    (try dsimp only at hSw)
    go_simp
    try with_reducible rfl
  try simp only [Act.put, List.setIfInBounds_toArray, List.set_cons_zero, List.set_cons_succ]
  refine wpAnyH_take (i := 12) (v := ?_) rfl (by kernel_rfl) (by kernel_rfl) (by kernel_rfl) (fun _ _ _ h => h) (Or.inl ⟨by kernel_rfl, ?_⟩) (by assumption) ?_
  rotate_left
  · intro w hSw
    (try dsimp only at hSw)
    go_simp
    try with_reducible rfl
  try simp only [Act.put, List.setIfInBounds_toArray, List.set_cons_zero, List.set_cons_succ]
  refine wpAnyH_take (i := 13) (v := ?_) rfl (by kernel_rfl) (by kernel_rfl) (by kernel_rfl) (fun _ _ _ h => h) (Or.inl ⟨by kernel_rfl, ?_⟩) (by assumption) ?_
  rotate_left
  · intro w hSw
    (try dsimp only at hSw)
    go_simp
    try with_reducible rfl
  try simp only [Act.put, List.setIfInBounds_toArray, List.set_cons_zero, List.set_cons_succ]
  refine wpAnyH_take (i := 14) (v := ?_) rfl (by kernel_rfl) (by kernel_rfl) (by kernel_rfl) (fun _ _ _ h => h) (Or.inl ⟨by kernel_rfl, ?_⟩) (by assumption) ?_
  rotate_left
  · intro w hSw
    (try dsimp only at hSw)
    go_simp
    try with_reducible rfl
  try simp only [Act.put, List.setIfInBounds_toArray, List.set_cons_zero, List.set_cons_succ]
  refine wpAnyH_take (i := 15) (v := ?_) rfl (by kernel_rfl) (by kernel_rfl) (by kernel_rfl) (fun _ _ _ h => h) (Or.inl ⟨by kernel_rfl, ?_⟩) (by assumption) ?_
  rotate_left
  · intro w hSw
    (try dsimp only at hSw)
    go_simp
    try with_reducible rfl
  try simp only [Act.put, List.setIfInBounds_toArray, List.set_cons_zero, List.set_cons_succ]
  refine wpAnyH_ready (rs := [16]) (by kernel_rfl) (by simp) ?_
  refine AllReadyH.cons rfl (fun K hK => ?_) AllReadyH.nil
  go_simp
  go_at_call 38
  refine CF.out.mono ?_
  rintro e w4 ⟨rfl, b4⟩
  have B4 := hide (B0.out.trans (b4.mono B0.out.size))
  clear b4
  go_wp2_with fail
  refine hK.out _ _ (SS.out _ B4.out) (fun hHeld => ?_)
  clear hK K
  try simp only [Act.put, List.setIfInBounds_toArray, List.set_cons_zero, List.set_cons_succ]
  refine wpAnyH_take (i := 17) (v := ?_) rfl (by kernel_rfl) (by kernel_rfl) (by kernel_rfl) (fun _ _ _ h => h) (Or.inl ⟨by kernel_rfl, ?_⟩) (by assumption) ?_
  rotate_left
  · intro w hSw
    (try dsimp only at hSw)
    go_simp
    try with_reducible rfl
  try simp only [Act.put, List.setIfInBounds_toArray, List.set_cons_zero, List.set_cons_succ]
  refine wpAnyH_take (i := 18) (v := ?_) rfl (by kernel_rfl) (by kernel_rfl) (by kernel_rfl) (fun _ _ _ h => h) (Or.inl ⟨by kernel_rfl, ?_⟩) (by assumption) ?_
  rotate_left
  · intro w hSw
    (try dsimp only at hSw)
    go_simp
    try with_reducible rfl
  try simp only [Act.put, List.setIfInBounds_toArray, List.set_cons_zero, List.set_cons_succ]
  refine wpAnyH_done (by kernel_rfl) ?_ _
  go_simp
  refine NoPanic.normal ?_
  refine a9 _ _ ?_
  go_wp2_with fail
  go_ret
  exact ⟨rfl, B4.out⟩
theorem run_helds_nil (w : World) : (binOp .eql 40 (.slice none 0 0) (.slice none 0 0)).run Try.prog w = .ok (.bool true) w := by kernel_rfl
theorem run_helds_some (w : World) (ad : Addr) (n c : Nat) : (binOp .eql 40 (.slice (some ad) n c) (.slice none 0 0)).run Try.prog w = .ok (.bool false) w := by kernel_rfl
attribute [local go_sem] run_helds_nil run_helds_some
set_option maxRecDepth 20000 in
set_option maxHeartbeats 4000000 in
theorem hclone_any {a : Option Addr} {n c : Nat} {ms : List Hv} (ha : Reads 2 hvVals w a n ms) (hnil : a = none → c = 0) (hn : n ≤ 100) :
    Calls Try.prog 32 #[.slice a n c] w fun e w' => ∃ v, e = .returned v ∧ w'.ownsRow w.heap.size 44 2 v n (ms.flatMap hvVals) ∧ Below w.heap.size w w' := by
  obtain ⟨i0, hi0, hz0, hz1, hz2⟩ := info_parts held_info
  cases a with
  | none =>
    obtain rfl := ha.isNil rfl
    obtain rfl : ms = [] := List.eq_nil_of_length_eq_zero ha.1
    obtain rfl := hnil rfl
    go_enter Try.func32, Try.ntmps32
    go_wp2_with fail
    go_ret
    exact ⟨_, rfl, World.ownsRow_nil _ _ _ _, Below.refl _ _⟩
  | some ad =>
    have HR := hide (ha.below ((Below.refl w.heap.size w).alloc (Nat.le_refl _) (.cells #[] 44)))
    have HO := hide (show (w.alloc (.cells #[] 44)).ownsRow w.heap.size 44 2 (.slice (some ⟨w.heap.size, 0, none⟩) 0 0) 0 [] from ⟨rfl, .inr ⟨w.heap.size, 0, #[], rfl, Nat.le_refl _, World.alloc_heap_new _ _, by simp, by simp, by simp⟩⟩)
    have HB := hide ((Below.refl w.heap.size w).alloc (Nat.le_refl _) (.cells #[] 44))
    clear ha hnil
    go_enter Try.func32, Try.ntmps32
    go_wp2_with (first
      | (at_builtin; refine wpList_append_reads rfl (.tmp 5) (.tmp 6) _ rfl w.heap.size 44 i0 _ 16 Try.underlying40 hi0 hz0 hz1 hz2 rfl (by omega) _ 0 [] rfl HO.out (some ad) n c ms rfl hvVals_len hv_cell HR.out (fun e => by cases e) (by unfold maxLen; omega) (by omega) HB.out.size ?_; intro v1 w1 o1 g1; have O1 := hide o1; have B1 := hide (HB.out.grown g1 HB.out.size (fun k hk => (HO.out.lt k hk).1)); clear o1 g1))
    go_ret
    exact ⟨_, rfl, by rw [Nat.zero_add, List.nil_append] at O1; exact O1.out, B1.out⟩
set_option maxRecDepth 20000 in
set_option maxHeartbeats 4000000 in
theorem held_any (h : Rg w U T S M H W B sl tag r) (hf : ∀ t, (r.h t).length ≤ 100) {t : Int} (ht : (Lit.int .i64 t).wf = true) :
    Calls Try.prog 15 #[.pointer (some ⟨S, 0, none⟩), .int .i64 t] w fun e w' => ∃ v, e = .returned v ∧ w'.ownsRow w.heap.size 44 2 v (r.h t).length ((r.h t).flatMap hvVals) ∧ Below w.heap.size w w' := by
  obtain ⟨c0, c1, c2, c3⟩ := h.cells
  obtain ⟨a, c, e1, e2, e3, e4, e5, e6⟩ := h.held t
  have lk := h.lookH ht
  rw [e1] at lk
  have CL := hide (hclone_any e3 e5 (hf t))
  obtain ⟨k, hk⟩ : ∃ k, k = (r.h t).length := ⟨_, rfl⟩
  rw [← hk] at lk CL ⊢
  clear h e1 e2 e3 e4 e5 e6 hf hk
  go_enter Try.func15, Try.ntmps15
  go_wp2_with (go_at_call 32; refine CL.out.mono ?_; rintro e w1 ⟨v, rfl, h1⟩; have H1 := hide h1; clear h1)
  go_ret
  exact ⟨_, rfl, H1.out⟩
set_option maxRecDepth 20000 in
set_option maxHeartbeats 4000000 in
theorem owner_any (h : Rg w U T S M H W B sl tag r) {m : Int} :
    Calls Try.prog 17 #[.pointer (some ⟨S, 0, none⟩), .int .i64 m] w fun e w' => e = .returned (.int .i64 (if 0 ≤ m ∧ m < (r.n : Int) then r.o m.toNat else -1)) ∧ w = w' := by
  obtain ⟨c0, c1, c2, c3⟩ := h.cells
  have n6 := h.n6
  obtain ⟨n, hn⟩ : ∃ n, n = r.n := ⟨_, rfl⟩
  rw [← hn] at c1 n6 ⊢
  by_cases h0 : m < 0
  · have G := hide (show (-1 : Int) = (if 0 ≤ m ∧ m < (n : Int) then r.o m.toNat else -1) from by rw [if_neg (by omega)])
    rw [← G.out]
    clear h hn
    go_enter Try.func17, Try.ntmps17
    go_wp2_with fail
    go_ret
    exact ⟨rfl, rfl⟩
  by_cases h1 : m < (n : Int)
  · have G := hide (show r.o m.toNat = (if 0 ≤ m ∧ m < (n : Int) then r.o m.toNat else -1) from by rw [if_pos ⟨by omega, h1⟩])
    rw [← G.out]
    obtain ⟨j, rfl⟩ : ∃ j : Nat, m = (j : Int) := ⟨m.toNat, by omega⟩
    obtain ⟨k1, k2, k3⟩ := h.m.at_ (j := j) (by omega)
    have j0 : (0 : Int) ≤ (j : Int) := by omega
    rw [Int.toNat_natCast]
    obtain ⟨oj, hoj⟩ : ∃ oj, oj = r.o j := ⟨_, rfl⟩
    rw [← hoj] at k1 ⊢
    clear h hn G k2 k3 hoj
    go_enter Try.func17, Try.ntmps17
    go_wp2_with fail
    go_ret
    exact ⟨rfl, rfl⟩
  · have G := hide (show (-1 : Int) = (if 0 ≤ m ∧ m < (n : Int) then r.o m.toNat else -1) from by rw [if_neg (by omega)])
    rw [← G.out]
    clear h hn
    go_enter Try.func17, Try.ntmps17
    go_wp2_with fail
    go_ret
    exact ⟨rfl, rfl⟩
end
end Go.Proofs.Yteeofpjfgjhemaa
namespace Go.Proofs.Yteeofpjfgjhemaa
open Go.ChangeShapes Go.WideShapes Go.ChangeAt Go.RowKit Go.Maps
set_option linter.unusedVariables false
set_option linter.unusedSimpArgs false
/-- A row of integers of which k are written. -/
def RowO (w : World) (X n k : Nat) (o : Nat → Int) : Prop := ∃ cur : Array Value, w.heap[X]? = some (.cells cur 3 (0, 0)) ∧ cur.size = n ∧ ∀ j, j < k → cur[j]? = some (.int .i64 (o j))
theorem RowO.spot {w : World} {X n k : Nat} {o : Nat → Int} (h : RowO w X n k o) (hk : k < n) : (∃ u, w.cell? ⟨X, k, none⟩ = some u) ∧ w.frozen? ⟨X, k, none⟩ = false := by
  obtain ⟨cur, h1, h2, h3⟩ := h
  exact ⟨⟨cur[k], by rw [cell_of_row _ _ _ _ _ _ h1]; exact Array.getElem?_eq_getElem (by omega)⟩, frozen_of_row _ _ _ _ _ h1⟩
theorem RowO.set {w : World} {X n k : Nat} {o : Nat → Int} (h : RowO w X n k o) (hk : k < n) : RowO (w.setCell ⟨X, k, none⟩ (.int .i64 (o k))) X n (k + 1) o := by
  obtain ⟨cur, h1, h2, h3⟩ := h
  refine ⟨_, heap_setCell_same _ _ _ _ _ _ h1, by simp [h2], fun j hj => ?_⟩
  by_cases e : j = k
  · subst e; simp [h2, hk]
  · rw [Array.getElem?_setIfInBounds_ne (by omega)]; exact h3 j (by omega)
theorem RowO.own {w : World} {X n B : Nat} {o : Nat → Int} (h : RowO w X n n o) (hB : B ≤ X) (hn : n ≤ 1000) : w.ownsRow B 3 1 (.slice (some ⟨X, 0, none⟩) n n) n (((List.range n).map o).map (Value.int .i64)) := by
  obtain ⟨cur, h1, h2, h3⟩ := h
  refine ⟨by simp, .inr ⟨X, n, cur, rfl, hB, h1, Nat.le_refl _, by unfold maxLen; omega, by omega, ?_⟩⟩
  apply List.ext_getElem?
  intro j
  rw [Nat.mul_one]
  by_cases hj : j < n
  · rw [List.getElem?_take_of_lt hj, Array.getElem?_toList, h3 j hj]
    simp [List.getElem?_range, hj]
  · rw [List.getElem?_take_eq_none (by omega), List.getElem?_eq_none (by simp; omega)]
section
variable {w : World} {U : Nat → Prop} {T S M H W : Nat} {B : Nat → Nat} {sl : Int → Option Sl} {tag : Nat → Int} {r : Rk}
set_option maxRecDepth 20000 in
set_option maxHeartbeats 4000000 in
theorem owners_any (h : Rg w U T S M H W B sl tag r) :
    Calls Try.prog 19 #[.pointer (some ⟨S, 0, none⟩)] w fun e w' => ∃ v, e = .returned v ∧ w'.ownsRow w.heap.size 3 1 v r.n (((List.range r.n).map r.o).map (Value.int .i64)) ∧ Below w.heap.size w w' := by
  obtain ⟨i0, hi0, hz0, hz1, hz2⟩ := info_parts int_infoK
  have n6 := h.n6
  obtain ⟨n, hn⟩ : ∃ n, n = r.n := ⟨_, rfl⟩
  obtain ⟨c0, c1, c2, c3⟩ := h.cells
  rw [← hn] at n6 c1 ⊢
  obtain ⟨cur0, hcur0⟩ : ∃ cur0, cur0 = madeCells #[Value.int .i64 0] n := ⟨_, rfl⟩
  have hmk : ∀ X : World, (Instr.makeSlice 36 (.int .i64 (n : Nat)) (.int .i64 (n : Nat))).run Try.prog X = .ok (.slice (some ⟨X.heap.size, 0, none⟩) n n) (X.alloc (.cells cur0 3)) := fun X => by
    rw [hcur0]
    exact run_make_row' (P := Try.prog) 36 3 (.int .i64 0) 8 Try.underlying36 int_infoK rfl .i64 .i64 n (by omega) (by omega) X
  have hc0 : cur0.size = n := by rw [hcur0, size_madeCells]
  obtain ⟨X, hX⟩ : ∃ X, X = w.heap.size := ⟨_, rfl⟩
  have R0 := hide (show RowO (w.alloc (.cells cur0 3)) X n 0 r.o from ⟨cur0, by rw [hX]; exact heap_alloc_new w _, hc0, fun j hj => absurd hj (by omega)⟩)
  have B0 := hide (show Below w.heap.size w (w.alloc (.cells cur0 3)) from (Below.refl _ _).alloc (Nat.le_refl _) _)
  have HX := hide hX
  have SF := hide (show ∀ Y : World, Below w.heap.size w Y → Y.cell? ⟨S, 1, none⟩ = some (.slice (some ⟨M, 0, none⟩) n n) ∧ ∀ j, j < n → Y.cell? ⟨M, j * 2, none⟩ = some (.int .i64 (r.o j)) from fun Y b => by
    have h1 := h.below b
    exact ⟨by rw [hn]; exact h1.cells.2.1, fun j hj => (h1.m.at_ (by omega)).1⟩)
  clear hcur0 hc0 h hi0 hz0 hz1 hz2 hn hX
  go_enter Try.func19, Try.ntmps19
  go_wp2_with fail
  rw [← HX.out]
  go_loopw [15] (fun i wr => ∃ k : Nat, k ≤ n ∧ i = .int .i64 k ∧ Hid (RowO wr X n k r.o ∧ Below w.heap.size w wr)) (fun i _ => n - (intOf i).toNat)
  case atStart => exact ⟨0, Nat.zero_le _, rfl, R0.out, B0.out⟩
  case round =>
    obtain ⟨k, hk, rfl, hZ⟩ := hrel
    by_cases hlt : k < n
    · have k0 : (0 : Int) ≤ (k : Int) := by omega
      have k1 : (k : Int) < (n : Int) := by omega
      obtain ⟨⟨u, q1⟩, q2⟩ := hZ.out.1.spot hlt
      obtain ⟨d1, d2⟩ := SF.out _ hZ.out.2
      have d3 := d2 k hlt
      have N := hide (show RowO (wr.setCell ⟨X, k, none⟩ (.int .i64 (r.o k))) X n (k + 1) r.o ∧ Below w.heap.size w (wr.setCell ⟨X, k, none⟩ (.int .i64 (r.o k))) from ⟨hZ.out.1.set hlt, hZ.out.2.setCell (p := ⟨X, k, none⟩) (by rw [HX.out]; exact Nat.le_refl _) _⟩)
      obtain ⟨ok, hok⟩ : ∃ ok, ok = r.o k := ⟨_, rfl⟩
      rw [← hok] at d3 N
      clear d2 hok c0 c1 c2 c3
      go_wp2_with fail
      go_roundw
      case rel => exact ⟨k + 1, by omega, by go_num, N⟩
      case measure => simp [intOf]; omega
    · obtain rfl : k = n := by omega
      go_wp2_with fail
      go_ret
      exact ⟨_, rfl, hZ.out.1.own (by rw [HX.out]; exact Nat.le_refl _) n6, hZ.out.2⟩
end
theorem mutex_infoK : (Try.prog.info? 69).map (fun i => (i.zero, i.size, i.bytes)) = some (some (.agg #[.int .i64 0, .map none]), 2, 16) := by kernel_rfl
theorem built_locks (T M n H W : Nat) : Try.prog.built 66 [(0, .pointer (some ⟨T, 0, none⟩)), (1, .slice (some ⟨M, 0, none⟩) n n), (2, .map (some H)), (3, .map (some W))] = some #[.pointer (some ⟨T, 0, none⟩), .slice (some ⟨M, 0, none⟩) n n, .map (some H), .map (some W)] := by kernel_rfl
/-- While the locks are made: k mutexes stand. -/
def NewJ (w : World) (T n k : Nat) (X : World) : Prop :=
  ∃ (cur : Array Value) (B : Nat → Nat) (tag : Nat → Int), X.heap[w.heap.size]? = some (.cells cur 69 (0, 0)) ∧ cur.size = n * 2 ∧ (∀ j, j < k → (cur[j * 2]? = some (.int .i64 (-1)) ∧ cur[j * 2 + 1]? = some (.map (some (B j)))) ∧ IM eU unitElem X (B j) (fun _ => none) ∧ w.heap.size + 4 ≤ B j ∧ tag (B j) = 2 * (j : Int)) ∧
    IM slE readS X (w.heap.size + 1) (fun _ => none) ∧ IM eI readI X (w.heap.size + 2) (fun _ => none) ∧ X.heap[w.heap.size + 3]? = some (.cells #[.pointer (some ⟨T, 0, none⟩), .slice (some ⟨w.heap.size, 0, none⟩) n n, .map (some (w.heap.size + 1)), .map (some (w.heap.size + 2))] 66 (0, 0)) ∧
    (tag (w.heap.size + 3) = -1 ∧ tag w.heap.size = -3 ∧ tag (w.heap.size + 1) = -5 ∧ tag (w.heap.size + 2) = -7) ∧ Below w.heap.size w X
theorem NewJ.done {w X : World} {T n : Nat} (h : NewJ w T n n X) (hn : n ≤ 1000) : ∃ U, Rw X U T (w.heap.size + 3) ⟨n, fun _ => -1, fun _ _ => none, fun _ => [], fun _ => none⟩ ∧ ∀ i, U i → w.heap.size ≤ i := by
  obtain ⟨cur, B, tag, h1, h2, h3, h4, h5, h6, h7, h8⟩ := h
  refine ⟨fun i => (i = w.heap.size ∨ i = w.heap.size + 1 ∨ i = w.heap.size + 2 ∨ i = w.heap.size + 3) ∨ ∃ j, j < n ∧ i = B j, ⟨w.heap.size, w.heap.size + 1, w.heap.size + 2, B, fun _ => none, tag, ?_⟩, ?_⟩
  · refine ⟨h6, ⟨cur, h1, h2, fun j hj => (h3 j hj).1⟩, fun j hj => ⟨(h3 j hj).2.1, .inr ⟨j, hj, rfl⟩, (h3 j hj).2.2.2⟩, h4, h5, fun t => .inl ⟨rfl, rfl⟩, ⟨.inl (.inr (.inr (.inr rfl))), .inl (.inl rfl), .inl (.inr (.inl rfl)), .inl (.inr (.inr (.inl rfl)))⟩, h7, ?_, hn⟩
    have := lt_of_heap h6
    rintro i (hi | ⟨j, hj, rfl⟩)
    · omega
    · exact (h3 j hj).2.1.lt
  · rintro i (hi | ⟨j, hj, rfl⟩)
    · omega
    · have := (h3 j hj).2.2.1; omega
theorem NewJ.step {w X X1 X2 : World} {T n k b : Nat} (h : NewJ w T n k X) (hk : k < n) (hb : IM eU unitElem X1 b (fun _ => none)) (hlb : X.heap.size ≤ b) (b1 : Below X.heap.size X X1) {cur : Array Value} (hc : X1.heap[w.heap.size]? = some (.cells cur 69 (0, 0)))
    (e : X2.heap[w.heap.size]? = some (.cells (splice cur.toList (k * 2) [.int .i64 (-1), .map (some b)]).toArray 69 (0, 0))) (t : Touch (fun i => i = w.heap.size) X1 X2) : NewJ w T n (k + 1) X2 := by
  obtain ⟨cur', B, tag, h1, h2, h3, h4, h5, h6, h7, h8⟩ := h
  have hs := lt_of_heap h6
  have e0 := (b1.block _ (lt_of_heap h1)).trans h1
  rw [hc] at e0
  injection e0 with e0
  injection e0 with e0
  subst e0
  have R0 : RowM X1 w.heap.size k (fun _ => -1) B → RowM X1 w.heap.size k (fun _ => -1) B := fun h => h
  have tt : ∀ i, i < X.heap.size → i ≠ w.heap.size → X2.heap[i]? = X.heap[i]? := fun i hi hn => (t.block i (Nat.lt_of_lt_of_le hi b1.size) hn).trans (b1.block i hi)
  have hl : k * 2 + [Value.int .i64 (-1), .map (some b)].length ≤ cur.toList.length := by simp; omega
  refine ⟨_, upN B k b, upN tag b (2 * (k : Int)), e, by simp [splice]; omega, fun j hj => ?_, h4.keep (tt _ h4.lt (by omega)), h5.keep (tt _ h5.lt (by omega)), (tt _ hs (by omega)).trans h6, ?_, ?_⟩
  · rw [List.getElem?_toArray, List.getElem?_toArray, getElem?_splice _ _ _ hl, getElem?_splice _ _ _ hl]
    simp only [List.length_cons, List.length_nil]
    by_cases ej : j = k
    · subst ej
      rw [if_pos (by omega), if_pos (by omega), Nat.sub_self, show j * 2 + 1 - j * 2 = 1 by omega]
      have eb : upN B j b j = b := by unfold upN; rw [if_pos rfl]
      rw [eb]
      exact ⟨⟨rfl, rfl⟩, hb.touch t (by omega), by omega, by unfold upN; rw [if_pos rfl]⟩
    · rw [if_neg (by omega), if_neg (by omega)]
      have eb : upN B k b j = B j := by unfold upN; rw [if_neg ej]
      rw [eb, Array.getElem?_toList, Array.getElem?_toList]
      obtain ⟨q1, q2, q3, q4⟩ := h3 j (by omega)
      have hlt := q2.lt
      exact ⟨q1, q2.keep (tt _ q2.lt (by omega)), q3, by unfold upN; rw [if_neg (by omega)]; exact q4⟩
  · unfold upN
    rw [if_neg (by omega), if_neg (by omega), if_neg (by omega), if_neg (by omega)]
    exact h7
  · exact (h8.trans (b1.mono h8.size)).trans (t.below (by have := h8.size; have := b1.size; omega) (fun i e => by rw [e]; exact Nat.le_refl _))
set_option maxRecDepth 20000 in
set_option maxHeartbeats 4000000 in
theorem new_any {Q : Nat → Prop} {w : World} {T : Nat} {ms : List Mu} (hT : Tab w Q T ms) :
    Calls Try.prog 10 #[.pointer (some ⟨T, 0, none⟩)] w fun e w' => e = .returned (.pointer (some ⟨w.heap.size + 3, 0, none⟩)) ∧ NewJ w T ms.length ms.length w' := by
  obtain ⟨i0, hi0, hz0, hz1, hz2⟩ := info_parts mutex_infoK
  have n6 := hT.len
  have hmm := @run_makeMap Try.prog
  have LN := hide (plen_any hT)
  obtain ⟨n, hn⟩ : ∃ n, n = ms.length := ⟨_, rfl⟩
  rw [← hn] at LN n6 ⊢
  obtain ⟨cur0, hcur0⟩ : ∃ cur0, cur0 = madeCells #[Value.int .i64 0, .map none] (n * 2) := ⟨_, rfl⟩
  have hmk : ∀ X : World, (Instr.makeSlice 61 (.int .i64 (n : Nat)) (.int .i64 (n : Nat))).run Try.prog X = .ok (.slice (some ⟨X.heap.size, 0, none⟩) n n) (X.alloc (.cells cur0 69)) := fun X => by
    have := run_make (P := Try.prog) X 61 69 i0 _ Try.underlying61 hi0 hz0 .i64 .i64 (n : Int) (n : Int) (by omega) (Int.le_refl _) (by rw [hz2]; omega) (by omega)
    rw [hz1, Int.toNat_natCast] at this
    rw [hcur0]
    exact this
  have hc0 : cur0.size = n * 2 := by rw [hcur0, size_madeCells]
  have UH := hide unheld_any
  obtain ⟨X, hX⟩ : ∃ X, X = w.heap.size := ⟨_, rfl⟩
  have hb := built_locks T w.heap.size n (w.heap.size + 1) (w.heap.size + 1 + 1)
  have J0 := hide (show NewJ w T n 0 ((((w.alloc (.cells cur0 69)).alloc (.map #[] 0)).alloc (.map #[] 0)).alloc (.cells #[.pointer (some ⟨T, 0, none⟩), .slice (some ⟨w.heap.size, 0, none⟩) n n, .map (some (w.heap.size + 1)), .map (some (w.heap.size + 1 + 1))] 66)) from by
    have s1 : (w.alloc (.cells cur0 69)).heap.size = w.heap.size + 1 := by simp
    have s2 : ((w.alloc (.cells cur0 69)).alloc (.map #[] 0)).heap.size = w.heap.size + 2 := by simp
    have s3 : (((w.alloc (.cells cur0 69)).alloc (.map #[] 0)).alloc (.map #[] 0)).heap.size = w.heap.size + 3 := by simp
    refine ⟨cur0, fun _ => 0, fun i => if i = w.heap.size + 3 then -1 else if i = w.heap.size then -3 else if i = w.heap.size + 1 then -5 else -7, ?_, hc0, fun j hj => absurd hj (by omega), ?_, ?_, ?_, ⟨by simp, by simp, by simp, by simp⟩, ?_⟩
    · exact (heap_alloc_old _ _ (by rw [s3]; omega)).trans ((heap_alloc_old _ _ (by rw [s2]; omega)).trans ((heap_alloc_old _ _ (by rw [s1]; omega)).trans (heap_alloc_new w _)))
    · exact (IM.made _ s1.symm).keep ((heap_alloc_old _ _ (by rw [s3]; omega)).trans (heap_alloc_old _ _ (by rw [s2]; omega)))
    · exact (IM.made _ s2.symm).keep (heap_alloc_old _ _ (by rw [s3]; omega))
    · have := heap_alloc_new (((w.alloc (.cells cur0 69)).alloc (.map #[] 0)).alloc (.map #[] 0)) (.cells #[.pointer (some ⟨T, 0, none⟩), .slice (some ⟨w.heap.size, 0, none⟩) n n, .map (some (w.heap.size + 1)), .map (some (w.heap.size + 1 + 1))] 66)
      rw [s3] at this
      exact this
    · exact ((((Below.refl _ _).alloc (Nat.le_refl _) _).alloc (by simp) _).alloc (by simp; omega) _).alloc (by simp; omega) _)
  have N1 := hide (show n ≤ 6 from n6)
  clear hcur0 hc0 hT hi0 hz0 hz1 hz2 hn hX
  go_enter Try.func10, Try.ntmps10
  go_wp2_with (go_at_call 27; refine LN.out.mono ?_; rintro e w' ⟨rfl, rfl⟩)
  go_loopw [24] (fun i wr => ∃ k : Nat, k ≤ n ∧ i = .int .i64 k ∧ Hid (NewJ w T n k wr)) (fun i _ => n - (intOf i).toNat)
  case atStart => exact ⟨0, Nat.zero_le _, rfl, J0.out⟩
  case round =>
    obtain ⟨k, hk, rfl, hZ⟩ := hrel
    by_cases hlt : k < n
    · have k0 : (0 : Int) ≤ (k : Int) := by omega
      have k1 : (k : Int) < (n : Int) := by omega
      have SC := hide (show ∀ Y : World, Below wr.heap.size wr Y → Y.cell? ⟨w.heap.size + 1 + 1 + 1, 1, none⟩ = some (.slice (some ⟨w.heap.size, 0, none⟩) n n) from fun Y b => by
        obtain ⟨_, _, _, _, _, _, _, _, h6, _⟩ := hZ.out
        have e := (b.block _ (lt_of_heap h6)).trans h6
        show Y.cell? ⟨w.heap.size + 3, 1, none⟩ = _
        rw [cell_of_row _ _ _ _ _ _ e]; rfl)
      have CU := hide (show ∃ cur : Array Value, wr.heap[w.heap.size]? = some (.cells cur 69 (0, 0)) ∧ k * 2 + 2 ≤ cur.size from by obtain ⟨cur, _, _, h1, h2, _⟩ := hZ.out; exact ⟨cur, h1, by omega⟩)
      have D1 := hide (show Below wr.heap.size wr wr.drew from below_drewN (Below.refl _ wr) 1)
      have NS := hide (show ∀ w7 b, IM eU unitElem w7 b (fun _ => none) → wr.heap.size ≤ b → Below wr.heap.size wr w7 → (∃ u0 u1, w7.cell? ⟨w.heap.size, k * 2, none⟩ = some u0 ∧ w7.frozen? ⟨w.heap.size, k * 2, none⟩ = false ∧ (w7.setCell ⟨w.heap.size, k * 2, none⟩ (.int .i64 (-1))).cell? ⟨w.heap.size, k * 2 + 1, none⟩ = some u1 ∧ (w7.setCell ⟨w.heap.size, k * 2, none⟩ (.int .i64 (-1))).frozen? ⟨w.heap.size, k * 2 + 1, none⟩ = false) ∧
          Hid (NewJ w T n (k + 1) ((w7.setCell ⟨w.heap.size, k * 2, none⟩ (.int .i64 (-1))).setCell ⟨w.heap.size, k * 2 + 1, none⟩ (.map (some b))) ∧ Touch (fun i => i = w.heap.size) w7 ((w7.setCell ⟨w.heap.size, k * 2, none⟩ (.int .i64 (-1))).setCell ⟨w.heap.size, k * 2 + 1, none⟩ (.map (some b)))) from fun w7 b hb hlb b7 => by
        obtain ⟨cur, h1, h2⟩ := CU.out
        have e7 := (b7.block _ (lt_of_heap h1)).trans h1
        have e8 := heap_setCell_same w7 w.heap.size (k * 2) cur 69 (.int .i64 (-1)) e7
        obtain ⟨cur', e9, _, e10⟩ := setSeg_heap [.int .i64 (-1), .map (some b)] w7 w.heap.size (k * 2) cur 69 e7 (by simp; omega)
        have T9 := ((Touch.refl (fun i => i = w.heap.size) w7).setCell (p := ⟨w.heap.size, k * 2, none⟩) rfl (.int .i64 (-1))).setCell (p := ⟨w.heap.size, k * 2 + 1, none⟩) rfl (.map (some b))
        refine ⟨⟨cur[k * 2], (cur.setIfInBounds (k * 2) (.int .i64 (-1)))[k * 2 + 1]'(by simp; omega), ?_, frozen_of_row _ _ _ _ _ e7, ?_, frozen_of_row _ _ _ _ _ e8⟩, hZ.out.step hlt hb hlb b7 e7 ?_ T9, T9⟩
        · rw [cell_of_row _ _ _ _ _ _ e7]; exact Array.getElem?_eq_getElem (by omega)
        · rw [cell_of_row _ _ _ _ _ _ e8]; exact Array.getElem?_eq_getElem (by simp; omega)
        · have : (setSeg w7 w.heap.size (k * 2) [.int .i64 (-1), .map (some b)]).heap[w.heap.size]? = some (.cells (splice cur.toList (k * 2) [.int .i64 (-1), .map (some b)]).toArray 69 (0, 0)) := by rw [e9, ← e10, Array.toArray_toList]
          exact this)
      have SE := hide (show w.heap.size + 1 + 1 + 1 ≠ w.heap.size from by omega)
      clear hmk hmm hb
      go_upto_region 7 with fail
      rename_i Q9 K9 a9
      refine wp_region_noPanic ?_
      refine wp_region_held_drew (S := (fun X => X.cell? ⟨w.heap.size + 1 + 1 + 1, 1, none⟩ = some (.slice (some ⟨w.heap.size, 0, none⟩) n n))) (by kernel_rfl) (SC.out _ D1.out) (fun hHeld => ?_)
      refine wpAnyH_take (i := 0) (v := ?_) rfl (by kernel_rfl) (by kernel_rfl) (by kernel_rfl) (fun _ _ _ h => h) (Or.inl ⟨by kernel_rfl, ?_⟩) (by assumption) ?_
      rotate_left
      · intro w hSw
        (try dsimp only at hSw)
        go_simp
        try with_reducible rfl
      try simp only [Act.put, List.setIfInBounds_toArray, List.set_cons_zero, List.set_cons_succ]
      refine wpAnyH_take (i := 1) (v := ?_) rfl (by kernel_rfl) (by kernel_rfl) (by kernel_rfl) (fun _ _ _ h => h) (Or.inl ⟨by kernel_rfl, ?_⟩) (by assumption) ?_
      rotate_left
      · intro w hSw
        (try dsimp only at hSw)
        go_simp
        try with_reducible rfl
      try simp only [Act.put, List.setIfInBounds_toArray, List.set_cons_zero, List.set_cons_succ]
      refine wpAnyH_take (i := 2) (v := ?_) rfl (by kernel_rfl) (by kernel_rfl) (by kernel_rfl) (fun _ _ _ h => h) (Or.inl ⟨by kernel_rfl, ?_⟩) (by assumption) ?_
      rotate_left
      · intro w hSw
        (try dsimp only at hSw)
        go_simp
        try with_reducible rfl
      try simp only [Act.put, List.setIfInBounds_toArray, List.set_cons_zero, List.set_cons_succ]
      refine wpAnyH_take (i := 3) (v := ?_) rfl (by kernel_rfl) (by kernel_rfl) (by kernel_rfl) (fun _ _ _ h => h) (Or.inl ⟨by kernel_rfl, ?_⟩) (by assumption) ?_
      rotate_left
      · intro w hSw
        (try dsimp only at hSw)
        go_simp
        try with_reducible rfl
      try simp only [Act.put, List.setIfInBounds_toArray, List.set_cons_zero, List.set_cons_succ]
      refine wpAnyH_take (i := 4) (v := ?_) rfl (by kernel_rfl) (by kernel_rfl) (by kernel_rfl) (fun _ _ _ h => h) (Or.inl ⟨by kernel_rfl, ?_⟩) (by assumption) ?_
      rotate_left
      · intro w hSw
        (try dsimp only at hSw)
        go_simp
        try with_reducible rfl
      try simp only [Act.put, List.setIfInBounds_toArray, List.set_cons_zero, List.set_cons_succ]
      refine wpAnyH_ready (rs := [5]) (by kernel_rfl) (by simp) ?_
      refine AllReadyH.cons rfl (fun K hK => ?_) AllReadyH.nil
      go_simp
      go_at_call 28
      refine (UH.out _).mono ?_
      rintro e w7 ⟨b, rfl, q1, q2, q3⟩
      have B7 := hide (D1.out.trans (q3.mono D1.out.size))
      obtain ⟨⟨u0, u1, z1, z2, z3, z4⟩, NN⟩ := NS.out w7 b q1 q2 B7.out
      have S7 := hide (SC.out _ B7.out)
      clear q1 q2 q3
      go_wp2_with fail
      refine hK.out _ _ S7.out (fun hHeld => ?_)
      clear hK K
      try simp only [Act.put, List.setIfInBounds_toArray, List.set_cons_zero, List.set_cons_succ]
      refine wpAnyH_take (i := 6) (v := ?_) rfl (by kernel_rfl) (by kernel_rfl) (by kernel_rfl) (fun _ _ _ h => h) (Or.inl ⟨by kernel_rfl, ?_⟩) (by assumption) ?_
      rotate_left
      · intro w hSw
        (try dsimp only at hSw)
        go_simp
        try with_reducible rfl
      try simp only [Act.put, List.setIfInBounds_toArray, List.set_cons_zero, List.set_cons_succ]
      refine wpAnyH_ready (rs := [7]) (by kernel_rfl) (by simp) ?_
      refine AllReadyH.cons rfl (fun K hK => ?_) AllReadyH.nil
      go_simp
      go_wp2_with fail
      refine hK.out _ _ (NN.out.2.cell S7.out SE.out) (fun hHeld => ?_)
      clear hK K
      try simp only [Act.put, List.setIfInBounds_toArray, List.set_cons_zero, List.set_cons_succ]
      refine wpAnyH_done (by kernel_rfl) ?_ _
      go_simp
      refine NoPanic.normal ?_
      refine a9 _ _ ?_
      clear hHeld z1 z2 z3 z4
      go_wp2_with fail
      go_roundw
      case rel => exact ⟨k + 1, by omega, by go_num, NN.out.1⟩
      case measure => simp [intOf]; omega
    · obtain rfl : k = n := by omega
      go_wp2_with fail
      go_ret
      exact ⟨rfl, hZ.out⟩
end Go.Proofs.Yteeofpjfgjhemaa
