/-
  Several texts as one: RyOps RyCalls RyNew RyEnds.
-/
import Derived.Test.YtccokhalcdljiaaRyA
import Derived.Test.YtccokhalcdljiaaPpAll8
import Derived.Test.YtccokhalcdljiaaRdNone
namespace Go.Proofs.Ytccokhalcdljiaa
open Go.ChangeShapes Go.WideShapes Go.ChangeAt Go.RowKit
set_option linter.unusedVariables false
theorem m_ladd (n : Nat) (a : Addr) (w : World) : (method (n + 1) 55 (.pointer (some a)) "coxswain/ready.add").run Try.prog w = .ok (57, .pointer (some a)) w := by kernel_rfl
theorem m_ldrop (n : Nat) (a : Addr) (w : World) : (method (n + 1) 55 (.pointer (some a)) "coxswain/ready.drop").run Try.prog w = .ok (59, .pointer (some a)) w := by kernel_rfl
theorem m_lfirst (n : Nat) (a : Addr) (w : World) : (method (n + 1) 55 (.pointer (some a)) "coxswain/ready.first").run Try.prog w = .ok (60, .pointer (some a)) w := by kernel_rfl
theorem m_lall (n : Nat) (a : Addr) (w : World) : (method (n + 1) 55 (.pointer (some a)) "coxswain/ready.all").run Try.prog w = .ok (58, .pointer (some a)) w := by kernel_rfl
theorem m_dadd (n : Nat) (a : Addr) (w : World) : (method (n + 1) 61 (.pointer (some a)) "coxswain/ready.add").run Try.prog w = .ok (108, .pointer (some a)) w := by kernel_rfl
theorem m_ddrop (n : Nat) (a : Addr) (w : World) : (method (n + 1) 61 (.pointer (some a)) "coxswain/ready.drop").run Try.prog w = .ok (110, .pointer (some a)) w := by kernel_rfl
theorem m_dfirst (n : Nat) (a : Addr) (w : World) : (method (n + 1) 61 (.pointer (some a)) "coxswain/ready.first").run Try.prog w = .ok (111, .pointer (some a)) w := by kernel_rfl
theorem m_dall (n : Nat) (a : Addr) (w : World) : (method (n + 1) 61 (.pointer (some a)) "coxswain/ready.all").run Try.prog w = .ok (109, .pointer (some a)) w := by kernel_rfl
attribute [local go_sem] m_ladd m_ldrop m_dadd m_ddrop
theorem wpList_delete_run {P : Program} {w w' : World} {ops : Array Oper} {rest : List Oper} {o : Oper} {a : Act} {Q : Exit → Act → World → Prop} {r : Value} (hgd : o.guard = none) (s x : Operand) (t k : TypeId)
    (ho : o.op = .call { callee := .builtin .delete, args := #[s, x], argTypes := #[t, k] }) (sv xv : Value) (hs : a.eval s = sv) (hx : a.eval x = xv) (hrun : (Builtin.delete_ #[t, k] o.type #[sv, xv]).run P w = .ok r w')
    (h : wpList P ops Q rest (a.put o.dst r) w') : wpList P ops Q (o :: rest) a w := by
  refine wpList_plain hgd fun K' hK' => ?_
  unfold Oper.wp execOp
  simp only [ho, resolve, invoke, builtin, Sem.run_bind, Sem.run_pure, Result.andThen_ok, List.map_toArray, List.map_cons, List.map_nil, hs, hx, hrun]
  exact hK' _ _ h
/-- The queue's blocks on their way, beside the priority's block X. -/
structure QOn (w w1 : World) (U : Nat → Prop) (S M n : Nat) (f : Int → Option Pr) (vs : Nat → Value) (Us : Nat → Nat → Prop) (ms : Nat → List Rt) (X : Nat) (c l d : Int) : Prop where
  qs : Qs w1 U S M n f vs Us ms
  tch : Touch U w w1
  blk : PrBlk w1 X c l d
  out : ¬ U X
section
variable {w w1 : World} {U : Nat → Prop} {S M n : Nat} {f : Int → Option Pr} {vs : Nat → Value} {Us : Nat → Nat → Prop} {ms : Nat → List Rt} {X : Nat} {c l d : Int}
theorem QOn.first (h : Qs w U S M n f vs Us ms) (c l d : Int) : QOn w (w.alloc (.cells #[.int .i64 c, .int .i64 l, .int .i64 d] 31)) U S M n f vs Us ms w.heap.size c l d := by
  have b := (Below.refl w.heap.size w).alloc (Nat.le_refl _) (.cells #[.int .i64 c, .int .i64 l, .int .i64 d] 31)
  exact ⟨h.below b, Touch.of_below b, heap_alloc_new _ _, fun hu => by have := h.lt _ hu; omega⟩
theorem QOn.drewN (h : QOn w w1 U S M n f vs Us ms X c l d) (k : Nat) : QOn w (w1.drewN k) U S M n f vs Us ms X c l d := ⟨h.qs.below (below_drewN (Below.refl _ _) k), h.tch.drewN k, h.blk, h.out⟩
theorem QOn.store (h : QOn w w1 U S M n f vs Us ms X c l d) {w2 : World} {n' : Nat} {f' : Int → Option Pr} (hm : Prms w2 M n' f') (g : w1.grownBy w2 (some M)) : QOn w w2 U S M n' f' vs Us ms X c l d := by
  obtain ⟨a, b, t⟩ := h.qs.store hm g
  exact ⟨a, h.tch.trans t (fun i hi => .inl hi), h.blk.keep t h.out, h.out⟩
theorem QOn.cells (h : QOn w w1 U S M n f vs Us ms X c l d) : w1.cell? ⟨S, 0, none⟩ = some (.map (some M)) ∧ w1.cell? ⟨X, 0, none⟩ = some (.int .i64 c) ∧ w1.cell? ⟨X, 1, none⟩ = some (.int .i64 l) ∧ w1.cell? ⟨X, 2, none⟩ = some (.int .i64 d) :=
  ⟨h.qs.cells.1, h.blk.cells.1, h.blk.cells.2.1, h.blk.cells.2.2⟩
/-- A crowd's call: what is behind it. -/
def Behind (w w' : World) (U : Nat → Prop) (S M n : Nat) (f : Int → Option Pr) (vs : Nat → Value) (ms : Nat → List Rt) : Prop :=
  SideR (fun w' U' => ∃ Us', Qs w' U' S M n f vs Us' ms) U w (.tuple #[]) (.returned (.tuple #[])) w'
theorem QOn.turn (h : QOn w w1 U S M n f vs Us ms X c l d) {j : Nat} (hj : j < 3) {m' : List Rt} {x : Value} {en : Ending} {w2 : World} (s : SideR (fun w' U' => Crowd j w' U' (vs j) m') (Us j) w1 x en w2) :
    en = .returned x ∧ Behind w w2 U S M n f vs (updV ms j m') ∧ PrBlk w2 X c l d ∧ w2.heap[S]? = w1.heap[S]? := by
  obtain ⟨rfl, U', p, t, g⟩ := s
  obtain ⟨a, b⟩ := h.qs.turn hj p t g
  have hs := h.tch.size
  exact ⟨rfl, ⟨rfl, _, ⟨_, a⟩, h.tch.trans b (fun i hi => .inl hi), fun i hi => hi.elim .inl (fun e => .inr (by omega))⟩, h.blk.keep b h.out, t.block S (h.qs.lt S h.qs.uS) (h.qs.neS j hj)⟩
end
set_option maxHeartbeats 4000000 in
theorem qput_0 {w : World} {U : Nat → Prop} {S M n : Nat} {f : Int → Option Pr} {vs : Nat → Value} {Us : Nat → Nat → Prop} {ms : Nat → List Rt} (h : Qs w U S M n f vs Us ms) (id l d : Int) (h0 : 0 ≤ id) (hid : (Lit.int .i64 id).wf = true) (hf : f id = none) (hno : ∀ x ∈ ms 0, (x.id : Int) ≠ id) (l0 : 0 ≤ l) (l1 : l < 64) (hn : n < 1000) (hm : (ms 0).length < 1000) :
    Calls Try.prog 28 #[.pointer (some ⟨S, 0, none⟩), .int .i64 id, .agg #[.int .i64 0, .int .i64 l, .int .i64 d]] w fun e w' => e = .returned (.tuple #[]) ∧ Behind w w' U S M (n + 1) (updP f id ⟨0, l, d⟩) vs (updV ms 0 (⟨id.toNat, ⟨0, l, d⟩⟩ :: ms 0)) := by
  have on0 := QOn.first h 0 l d
  obtain ⟨w1, hw1⟩ : ∃ w1, w1 = w.alloc (.cells #[.int .i64 0, .int .i64 l, .int .i64 d] 31) := ⟨_, rfl⟩
  obtain ⟨X, hX⟩ : ∃ X, X = w.heap.size := ⟨_, rfl⟩
  rw [← hw1, ← hX] at on0
  obtain ⟨w2, r2, p2, g2⟩ := Prms.store (w := w1.drew) on0.qs.map (by omega) id hid ⟨0, l, d⟩ hf
  have r2 : (Instr.mapUpdate 54 (.map (some M)) (.int .i64 id) (.agg #[.int .i64 0, .int .i64 l, .int .i64 d])).run Try.prog w1.drew = .ok () w2 := r2
  have on2 : QOn w w2 U S M (n + 1) (updP f id ⟨0, l, d⟩) vs Us ms X 0 l d := (on0.drewN 1).store p2 g2
  obtain ⟨A, eA, -⟩ : ∃ A, vs 0 = .iface 55 (.pointer (some ⟨A, 0, none⟩)) ∧ LadIs w (Us 0) A (ms 0) := by
    rcases (h.crowd 0 (by omega)).cases with ⟨e, B, h1, h2⟩ | ⟨e, B, h1, h2⟩
    · omega
    · exact ⟨B, h1, h2⟩
  have CR := hide (fun (W : World) (on : QOn w W U S M (n + 1) (updP f id ⟨0, l, d⟩) vs Us ms X 0 l d) => show Calls Try.prog 57 #[.pointer (some ⟨A, 0, none⟩), .int .i64 id, .agg #[.int .i64 0, .int .i64 l, .int .i64 d]] W fun e w' => e = .returned (.tuple #[]) ∧ Behind w w' U S M (n + 1) (updP f id ⟨0, l, d⟩) vs (updV ms 0 (⟨id.toNat, ⟨0, l, d⟩⟩ :: ms 0)) ∧ ((w'.cell? ⟨X, 0, none⟩ = some (.int .i64 0) ∧ w'.cell? ⟨X, 1, none⟩ = some (.int .i64 l) ∧ w'.cell? ⟨X, 2, none⟩ = some (.int .i64 d)) ∧ w'.cell? ⟨S, 1, none⟩ = some (.iface 55 (.pointer (some ⟨A, 0, none⟩)))) from by
    have hc := on.qs.crowd 0 (by omega)
    rw [eA] at hc
    have hl : LadIs W (Us 0) A (ms 0) := by
      rcases hc.cases with ⟨e, B, h1, h2⟩ | ⟨e, B, h1, h2⟩
      · omega
      · injection h1 with _ h1; injection h1 with h1; injection h1 with h1; injection h1 with h1; rw [h1]; exact h2
    refine (ladd_any hl id 0 l d l0 l1 h0 hid hno hm).mono ?_
    intro e w' s
    obtain ⟨rfl, U', p, t, g⟩ := s
    obtain ⟨_, a2, a3, a4⟩ := on.turn (j := 0) (by omega) (m' := ⟨id.toNat, ⟨0, l, d⟩⟩ :: ms 0) (x := .tuple #[]) (en := .returned (.tuple #[])) ⟨rfl, U', by rw [eA]; exact Crowd.lad (by omega) p, t, g⟩
    refine ⟨rfl, a2, a3.cells, ?_⟩
    rw [cell_of_row _ _ _ _ _ _ (a4.trans on.qs.row), ← eA]; rfl)
  have z0 := on0.cells
  have z1 := on2.cells
  have y2 : w2.cell? ⟨S, 1, none⟩ = some (.iface 55 (.pointer (some ⟨A, 0, none⟩))) := by rw [cell_of_row _ _ _ _ _ _ on2.qs.row, ← eA]; rfl
  have ON2 := hide on2
  have HW := hide hw1
  have HX := hide hX
  obtain ⟨a0, a1⟩ := z0
  obtain ⟨b0, b1⟩ := z1
  clear h hid hf hno l0 l1 hn hm on0 on2 hw1 hX p2 g2 eA h0
  go_enter Try.func28, Try.ntmps28
  go_upto_region 1 with fail
  rw [← HW.out, ← HX.out]
  go_region_held3 (fun w' => w'.cell? ⟨S, 0, none⟩ = some (.map (some M)) ∧ (w'.cell? ⟨X, 0, none⟩ = some (.int .i64 0) ∧ w'.cell? ⟨X, 1, none⟩ = some (.int .i64 l) ∧ w'.cell? ⟨X, 2, none⟩ = some (.int .i64 d))) (first | exact ⟨a0, a1⟩ | exact ⟨b0, b1⟩) (fail)
  clear r2 a0 a1 b0
  go_upto_region 2 with fail
  go_region_held3 (fun w' => (w'.cell? ⟨X, 0, none⟩ = some (.int .i64 0) ∧ w'.cell? ⟨X, 1, none⟩ = some (.int .i64 l) ∧ w'.cell? ⟨X, 2, none⟩ = some (.int .i64 d)) ∧ w'.cell? ⟨S, 1, none⟩ = some (.iface 55 (.pointer (some ⟨A, 0, none⟩)))) (first | exact ⟨b1, y2⟩ | exact y4) (first | (go_at_call 57; refine (CR.out _ (ON2.out.drewN 1)).mono ?_; rintro en w4 ⟨rfl, r4, y4⟩; have R4 := hide r4; clear r4))
  go_end0
  exact ⟨rfl, R4.out⟩
set_option maxHeartbeats 4000000 in
theorem qput_1 {w : World} {U : Nat → Prop} {S M n : Nat} {f : Int → Option Pr} {vs : Nat → Value} {Us : Nat → Nat → Prop} {ms : Nat → List Rt} (h : Qs w U S M n f vs Us ms) (id l d : Int) (h0 : 0 ≤ id) (hid : (Lit.int .i64 id).wf = true) (hf : f id = none) (hno : ∀ x ∈ ms 1, (x.id : Int) ≠ id) (l0 : 0 ≤ l) (l1 : l < 64) (hn : n < 1000) (hm : (ms 1).length < 1000) :
    Calls Try.prog 28 #[.pointer (some ⟨S, 0, none⟩), .int .i64 id, .agg #[.int .i64 1, .int .i64 l, .int .i64 d]] w fun e w' => e = .returned (.tuple #[]) ∧ Behind w w' U S M (n + 1) (updP f id ⟨1, l, d⟩) vs (updV ms 1 (⟨id.toNat, ⟨1, l, d⟩⟩ :: ms 1)) := by
  have on0 := QOn.first h 1 l d
  obtain ⟨w1, hw1⟩ : ∃ w1, w1 = w.alloc (.cells #[.int .i64 1, .int .i64 l, .int .i64 d] 31) := ⟨_, rfl⟩
  obtain ⟨X, hX⟩ : ∃ X, X = w.heap.size := ⟨_, rfl⟩
  rw [← hw1, ← hX] at on0
  obtain ⟨w2, r2, p2, g2⟩ := Prms.store (w := w1.drew) on0.qs.map (by omega) id hid ⟨1, l, d⟩ hf
  have r2 : (Instr.mapUpdate 54 (.map (some M)) (.int .i64 id) (.agg #[.int .i64 1, .int .i64 l, .int .i64 d])).run Try.prog w1.drew = .ok () w2 := r2
  have on2 : QOn w w2 U S M (n + 1) (updP f id ⟨1, l, d⟩) vs Us ms X 1 l d := (on0.drewN 1).store p2 g2
  obtain ⟨A, eA, -⟩ : ∃ A, vs 1 = .iface 61 (.pointer (some ⟨A, 0, none⟩)) ∧ DueIs w (Us 1) A (ms 1) := by
    rcases (h.crowd 1 (by omega)).cases with ⟨e, B, h1, h2⟩ | ⟨e, B, h1, h2⟩
    · exact ⟨B, h1, h2⟩
    · exact absurd rfl e
  have CR := hide (fun (W : World) (on : QOn w W U S M (n + 1) (updP f id ⟨1, l, d⟩) vs Us ms X 1 l d) => show Calls Try.prog 108 #[.pointer (some ⟨A, 0, none⟩), .int .i64 id, .agg #[.int .i64 1, .int .i64 l, .int .i64 d]] W fun e w' => e = .returned (.tuple #[]) ∧ Behind w w' U S M (n + 1) (updP f id ⟨1, l, d⟩) vs (updV ms 1 (⟨id.toNat, ⟨1, l, d⟩⟩ :: ms 1)) ∧ ((w'.cell? ⟨X, 0, none⟩ = some (.int .i64 1) ∧ w'.cell? ⟨X, 1, none⟩ = some (.int .i64 l) ∧ w'.cell? ⟨X, 2, none⟩ = some (.int .i64 d)) ∧ w'.cell? ⟨S, 2, none⟩ = some (.iface 61 (.pointer (some ⟨A, 0, none⟩)))) from by
    have hc := on.qs.crowd 1 (by omega)
    rw [eA] at hc
    have hl : DueIs W (Us 1) A (ms 1) := by
      rcases hc.cases with ⟨e, B, h1, h2⟩ | ⟨e, B, h1, h2⟩
      · injection h1 with _ h1; injection h1 with h1; injection h1 with h1; injection h1 with h1; rw [h1]; exact h2
      · exact absurd rfl e
    refine (dadd_any hl id 1 l d h0 hid hno hm).mono ?_
    intro e w' s
    obtain ⟨rfl, U', p, t, g⟩ := s
    obtain ⟨_, a2, a3, a4⟩ := on.turn (j := 1) (by omega) (m' := ⟨id.toNat, ⟨1, l, d⟩⟩ :: ms 1) (x := .tuple #[]) (en := .returned (.tuple #[])) ⟨rfl, U', by rw [eA]; exact Crowd.due p, t, g⟩
    refine ⟨rfl, a2, a3.cells, ?_⟩
    rw [cell_of_row _ _ _ _ _ _ (a4.trans on.qs.row), ← eA]; rfl)
  have z0 := on0.cells
  have z1 := on2.cells
  have y2 : w2.cell? ⟨S, 2, none⟩ = some (.iface 61 (.pointer (some ⟨A, 0, none⟩))) := by rw [cell_of_row _ _ _ _ _ _ on2.qs.row, ← eA]; rfl
  have ON2 := hide on2
  have HW := hide hw1
  have HX := hide hX
  obtain ⟨a0, a1⟩ := z0
  obtain ⟨b0, b1⟩ := z1
  clear h hid hf hno l0 l1 hn hm on0 on2 hw1 hX p2 g2 eA h0
  go_enter Try.func28, Try.ntmps28
  go_upto_region 1 with fail
  rw [← HW.out, ← HX.out]
  go_region_held3 (fun w' => w'.cell? ⟨S, 0, none⟩ = some (.map (some M)) ∧ (w'.cell? ⟨X, 0, none⟩ = some (.int .i64 1) ∧ w'.cell? ⟨X, 1, none⟩ = some (.int .i64 l) ∧ w'.cell? ⟨X, 2, none⟩ = some (.int .i64 d))) (first | exact ⟨a0, a1⟩ | exact ⟨b0, b1⟩) (fail)
  clear r2 a0 a1 b0
  go_upto_region 2 with fail
  go_region_held3 (fun w' => (w'.cell? ⟨X, 0, none⟩ = some (.int .i64 1) ∧ w'.cell? ⟨X, 1, none⟩ = some (.int .i64 l) ∧ w'.cell? ⟨X, 2, none⟩ = some (.int .i64 d)) ∧ w'.cell? ⟨S, 2, none⟩ = some (.iface 61 (.pointer (some ⟨A, 0, none⟩)))) (first | exact ⟨b1, y2⟩ | exact y4) (first | (go_at_call 108; refine (CR.out _ (ON2.out.drewN 1)).mono ?_; rintro en w4 ⟨rfl, r4, y4⟩; have R4 := hide r4; clear r4))
  go_end0
  exact ⟨rfl, R4.out⟩
set_option maxHeartbeats 4000000 in
theorem qput_2 {w : World} {U : Nat → Prop} {S M n : Nat} {f : Int → Option Pr} {vs : Nat → Value} {Us : Nat → Nat → Prop} {ms : Nat → List Rt} (h : Qs w U S M n f vs Us ms) (id l d : Int) (h0 : 0 ≤ id) (hid : (Lit.int .i64 id).wf = true) (hf : f id = none) (hno : ∀ x ∈ ms 2, (x.id : Int) ≠ id) (l0 : 0 ≤ l) (l1 : l < 64) (hn : n < 1000) (hm : (ms 2).length < 1000) :
    Calls Try.prog 28 #[.pointer (some ⟨S, 0, none⟩), .int .i64 id, .agg #[.int .i64 2, .int .i64 l, .int .i64 d]] w fun e w' => e = .returned (.tuple #[]) ∧ Behind w w' U S M (n + 1) (updP f id ⟨2, l, d⟩) vs (updV ms 2 (⟨id.toNat, ⟨2, l, d⟩⟩ :: ms 2)) := by
  have on0 := QOn.first h 2 l d
  obtain ⟨w1, hw1⟩ : ∃ w1, w1 = w.alloc (.cells #[.int .i64 2, .int .i64 l, .int .i64 d] 31) := ⟨_, rfl⟩
  obtain ⟨X, hX⟩ : ∃ X, X = w.heap.size := ⟨_, rfl⟩
  rw [← hw1, ← hX] at on0
  obtain ⟨w2, r2, p2, g2⟩ := Prms.store (w := w1.drew) on0.qs.map (by omega) id hid ⟨2, l, d⟩ hf
  have r2 : (Instr.mapUpdate 54 (.map (some M)) (.int .i64 id) (.agg #[.int .i64 2, .int .i64 l, .int .i64 d])).run Try.prog w1.drew = .ok () w2 := r2
  have on2 : QOn w w2 U S M (n + 1) (updP f id ⟨2, l, d⟩) vs Us ms X 2 l d := (on0.drewN 1).store p2 g2
  obtain ⟨A, eA, -⟩ : ∃ A, vs 2 = .iface 55 (.pointer (some ⟨A, 0, none⟩)) ∧ LadIs w (Us 2) A (ms 2) := by
    rcases (h.crowd 2 (by omega)).cases with ⟨e, B, h1, h2⟩ | ⟨e, B, h1, h2⟩
    · omega
    · exact ⟨B, h1, h2⟩
  have CR := hide (fun (W : World) (on : QOn w W U S M (n + 1) (updP f id ⟨2, l, d⟩) vs Us ms X 2 l d) => show Calls Try.prog 57 #[.pointer (some ⟨A, 0, none⟩), .int .i64 id, .agg #[.int .i64 2, .int .i64 l, .int .i64 d]] W fun e w' => e = .returned (.tuple #[]) ∧ Behind w w' U S M (n + 1) (updP f id ⟨2, l, d⟩) vs (updV ms 2 (⟨id.toNat, ⟨2, l, d⟩⟩ :: ms 2)) ∧ ((w'.cell? ⟨X, 0, none⟩ = some (.int .i64 2) ∧ w'.cell? ⟨X, 1, none⟩ = some (.int .i64 l) ∧ w'.cell? ⟨X, 2, none⟩ = some (.int .i64 d)) ∧ w'.cell? ⟨S, 3, none⟩ = some (.iface 55 (.pointer (some ⟨A, 0, none⟩)))) from by
    have hc := on.qs.crowd 2 (by omega)
    rw [eA] at hc
    have hl : LadIs W (Us 2) A (ms 2) := by
      rcases hc.cases with ⟨e, B, h1, h2⟩ | ⟨e, B, h1, h2⟩
      · omega
      · injection h1 with _ h1; injection h1 with h1; injection h1 with h1; injection h1 with h1; rw [h1]; exact h2
    refine (ladd_any hl id 2 l d l0 l1 h0 hid hno hm).mono ?_
    intro e w' s
    obtain ⟨rfl, U', p, t, g⟩ := s
    obtain ⟨_, a2, a3, a4⟩ := on.turn (j := 2) (by omega) (m' := ⟨id.toNat, ⟨2, l, d⟩⟩ :: ms 2) (x := .tuple #[]) (en := .returned (.tuple #[])) ⟨rfl, U', by rw [eA]; exact Crowd.lad (by omega) p, t, g⟩
    refine ⟨rfl, a2, a3.cells, ?_⟩
    rw [cell_of_row _ _ _ _ _ _ (a4.trans on.qs.row), ← eA]; rfl)
  have z0 := on0.cells
  have z1 := on2.cells
  have y2 : w2.cell? ⟨S, 3, none⟩ = some (.iface 55 (.pointer (some ⟨A, 0, none⟩))) := by rw [cell_of_row _ _ _ _ _ _ on2.qs.row, ← eA]; rfl
  have ON2 := hide on2
  have HW := hide hw1
  have HX := hide hX
  obtain ⟨a0, a1⟩ := z0
  obtain ⟨b0, b1⟩ := z1
  clear h hid hf hno l0 l1 hn hm on0 on2 hw1 hX p2 g2 eA h0
  go_enter Try.func28, Try.ntmps28
  go_upto_region 1 with fail
  rw [← HW.out, ← HX.out]
  go_region_held3 (fun w' => w'.cell? ⟨S, 0, none⟩ = some (.map (some M)) ∧ (w'.cell? ⟨X, 0, none⟩ = some (.int .i64 2) ∧ w'.cell? ⟨X, 1, none⟩ = some (.int .i64 l) ∧ w'.cell? ⟨X, 2, none⟩ = some (.int .i64 d))) (first | exact ⟨a0, a1⟩ | exact ⟨b0, b1⟩) (fail)
  clear r2 a0 a1 b0
  go_upto_region 2 with fail
  go_region_held3 (fun w' => (w'.cell? ⟨X, 0, none⟩ = some (.int .i64 2) ∧ w'.cell? ⟨X, 1, none⟩ = some (.int .i64 l) ∧ w'.cell? ⟨X, 2, none⟩ = some (.int .i64 d)) ∧ w'.cell? ⟨S, 3, none⟩ = some (.iface 55 (.pointer (some ⟨A, 0, none⟩)))) (first | exact ⟨b1, y2⟩ | exact y4) (first | (go_at_call 57; refine (CR.out _ (ON2.out.drewN 1)).mono ?_; rintro en w4 ⟨rfl, r4, y4⟩; have R4 := hide r4; clear r4))
  go_end0
  exact ⟨rfl, R4.out⟩
set_option maxHeartbeats 4000000 in
theorem qrem_0 {w : World} {U : Nat → Prop} {S M n : Nat} {f : Int → Option Pr} {vs : Nat → Value} {Us : Nat → Nat → Prop} {ms : Nat → List Rt} (h : Qs w U S M n f vs Us ms) (x : Rt) (hc : x.p.c = 0) (hid : (Lit.int .i64 (x.id : Int)).wf = true) (hf : f (x.id : Int) = some x.p) (m' : List Rt) (pm : (x :: m').Perm (ms 0)) (hm : (ms 0).length ≤ 1000) :
    Calls Try.prog 32 #[.pointer (some ⟨S, 0, none⟩), .int .i64 (x.id : Int)] w fun e w' => e = .returned (.tuple #[]) ∧ Behind w w' U S M (n - 1) (delP f (x.id : Int)) vs (updV ms 0 m') := by
  obtain ⟨xi, c, l, d⟩ := x
  obtain rfl : c = 0 := hc
  have on0 := QOn.first h 0 l d
  have r0 : (Instr.lookup 54 (.map (some M)) (.int .i64 (xi : Int)) false).run Try.prog w = .ok (.agg #[.int .i64 0, .int .i64 l, .int .i64 d]) w := by
    have r0 := h.map.look1 (xi : Int) hid
    rw [show f ((xi : Nat) : Int) = some ⟨0, l, d⟩ from hf] at r0
    exact r0
  obtain ⟨a0, -⟩ := h.cells
  obtain ⟨w1, hw1⟩ : ∃ w1, w1 = w.alloc (.cells #[.int .i64 0, .int .i64 l, .int .i64 d] 31) := ⟨_, rfl⟩
  obtain ⟨X, hX⟩ : ∃ X, X = w.heap.size := ⟨_, rfl⟩
  rw [← hw1, ← hX] at on0
  obtain ⟨w2, r2, p2, g2⟩ := Prms.drop on0.qs.map (xi : Int) hid (by rw [show f ((xi : Nat) : Int) = some ⟨0, l, d⟩ from hf]; rfl) 0
  have on2 : QOn w w2 U S M (n - 1) (delP f (xi : Int)) vs Us ms X 0 l d := on0.store p2 g2
  obtain ⟨A, eA, -⟩ : ∃ A, vs 0 = .iface 55 (.pointer (some ⟨A, 0, none⟩)) ∧ LadIs w (Us 0) A (ms 0) := by
    rcases (h.crowd 0 (by omega)).cases with ⟨e, B, h1, h2⟩ | ⟨e, B, h1, h2⟩
    · omega
    · exact ⟨B, h1, h2⟩
  have CR := hide (fun (W : World) (on : QOn w W U S M (n - 1) (delP f (xi : Int)) vs Us ms X 0 l d) => show Calls Try.prog 59 #[.pointer (some ⟨A, 0, none⟩), .int .i64 (xi : Int), .agg #[.int .i64 0, .int .i64 l, .int .i64 d]] W fun e w' => e = .returned (.tuple #[]) ∧ Behind w w' U S M (n - 1) (delP f (xi : Int)) vs (updV ms 0 m') ∧ ((w'.cell? ⟨X, 0, none⟩ = some (.int .i64 0) ∧ w'.cell? ⟨X, 1, none⟩ = some (.int .i64 l) ∧ w'.cell? ⟨X, 2, none⟩ = some (.int .i64 d)) ∧ w'.cell? ⟨S, 1, none⟩ = some (.iface 55 (.pointer (some ⟨A, 0, none⟩)))) from by
    have hc := on.qs.crowd 0 (by omega)
    rw [eA] at hc
    have hl : LadIs W (Us 0) A (ms 0) := by
      rcases hc.cases with ⟨e, B, h1, h2⟩ | ⟨e, B, h1, h2⟩
      · omega
      · injection h1 with _ h1; injection h1 with h1; injection h1 with h1; injection h1 with h1; rw [h1]; exact h2
    refine (ldrop_any hl ⟨xi, ⟨0, l, d⟩⟩ hid pm hm).mono ?_
    intro e w' s
    obtain ⟨rfl, U', p, t, g⟩ := s
    obtain ⟨_, a2, a3, a4⟩ := on.turn (j := 0) (by omega) (m' := m') (x := .tuple #[]) (en := .returned (.tuple #[])) ⟨rfl, U', by rw [eA]; exact Crowd.lad (by omega) p, t, g⟩
    refine ⟨rfl, a2, a3.cells, ?_⟩
    rw [cell_of_row _ _ _ _ _ _ (a4.trans on.qs.row), ← eA]; rfl)
  obtain ⟨z0, -⟩ := on0.cells
  obtain ⟨-, b1⟩ := on2.cells
  have y2 : w2.cell? ⟨S, 1, none⟩ = some (.iface 55 (.pointer (some ⟨A, 0, none⟩))) := by rw [cell_of_row _ _ _ _ _ _ on2.qs.row, ← eA]; rfl
  have ON2 := hide on2
  have HW := hide hw1
  have HX := hide hX
  clear h hid hf hm on0 on2 hw1 hX p2 g2 eA pm
  go_enter Try.func32, Try.ntmps32
  go_upto_region 1 with fail
  rw [← HW.out, ← HX.out]
  clear r0 a0
  go_upto_region 2 with (at_builtin; refine wpList_delete_run rfl _ _ _ _ rfl _ _ rfl rfl r2 ?_)
  clear r2 z0
  go_region_held3 (fun w' => (w'.cell? ⟨X, 0, none⟩ = some (.int .i64 0) ∧ w'.cell? ⟨X, 1, none⟩ = some (.int .i64 l) ∧ w'.cell? ⟨X, 2, none⟩ = some (.int .i64 d)) ∧ w'.cell? ⟨S, 1, none⟩ = some (.iface 55 (.pointer (some ⟨A, 0, none⟩)))) (first | exact ⟨b1, y2⟩ | exact y4) (first | (go_at_call 59; refine (CR.out _ (ON2.out.drewN 1)).mono ?_; rintro en w4 ⟨rfl, r4, y4⟩; have R4 := hide r4; clear r4))
  go_end0
  exact ⟨rfl, R4.out⟩
set_option maxHeartbeats 4000000 in
theorem qrem_1 {w : World} {U : Nat → Prop} {S M n : Nat} {f : Int → Option Pr} {vs : Nat → Value} {Us : Nat → Nat → Prop} {ms : Nat → List Rt} (h : Qs w U S M n f vs Us ms) (x : Rt) (hc : x.p.c = 1) (hid : (Lit.int .i64 (x.id : Int)).wf = true) (hf : f (x.id : Int) = some x.p) (m' : List Rt) (pm : (x :: m').Perm (ms 1)) (hm : (ms 1).length ≤ 1000) :
    Calls Try.prog 32 #[.pointer (some ⟨S, 0, none⟩), .int .i64 (x.id : Int)] w fun e w' => e = .returned (.tuple #[]) ∧ Behind w w' U S M (n - 1) (delP f (x.id : Int)) vs (updV ms 1 m') := by
  obtain ⟨xi, c, l, d⟩ := x
  obtain rfl : c = 1 := hc
  have on0 := QOn.first h 1 l d
  have r0 : (Instr.lookup 54 (.map (some M)) (.int .i64 (xi : Int)) false).run Try.prog w = .ok (.agg #[.int .i64 1, .int .i64 l, .int .i64 d]) w := by
    have r0 := h.map.look1 (xi : Int) hid
    rw [show f ((xi : Nat) : Int) = some ⟨1, l, d⟩ from hf] at r0
    exact r0
  obtain ⟨a0, -⟩ := h.cells
  obtain ⟨w1, hw1⟩ : ∃ w1, w1 = w.alloc (.cells #[.int .i64 1, .int .i64 l, .int .i64 d] 31) := ⟨_, rfl⟩
  obtain ⟨X, hX⟩ : ∃ X, X = w.heap.size := ⟨_, rfl⟩
  rw [← hw1, ← hX] at on0
  obtain ⟨w2, r2, p2, g2⟩ := Prms.drop on0.qs.map (xi : Int) hid (by rw [show f ((xi : Nat) : Int) = some ⟨1, l, d⟩ from hf]; rfl) 0
  have on2 : QOn w w2 U S M (n - 1) (delP f (xi : Int)) vs Us ms X 1 l d := on0.store p2 g2
  obtain ⟨A, eA, -⟩ : ∃ A, vs 1 = .iface 61 (.pointer (some ⟨A, 0, none⟩)) ∧ DueIs w (Us 1) A (ms 1) := by
    rcases (h.crowd 1 (by omega)).cases with ⟨e, B, h1, h2⟩ | ⟨e, B, h1, h2⟩
    · exact ⟨B, h1, h2⟩
    · exact absurd rfl e
  have CR := hide (fun (W : World) (on : QOn w W U S M (n - 1) (delP f (xi : Int)) vs Us ms X 1 l d) => show Calls Try.prog 110 #[.pointer (some ⟨A, 0, none⟩), .int .i64 (xi : Int), .agg #[.int .i64 1, .int .i64 l, .int .i64 d]] W fun e w' => e = .returned (.tuple #[]) ∧ Behind w w' U S M (n - 1) (delP f (xi : Int)) vs (updV ms 1 m') ∧ ((w'.cell? ⟨X, 0, none⟩ = some (.int .i64 1) ∧ w'.cell? ⟨X, 1, none⟩ = some (.int .i64 l) ∧ w'.cell? ⟨X, 2, none⟩ = some (.int .i64 d)) ∧ w'.cell? ⟨S, 2, none⟩ = some (.iface 61 (.pointer (some ⟨A, 0, none⟩)))) from by
    have hc := on.qs.crowd 1 (by omega)
    rw [eA] at hc
    have hl : DueIs W (Us 1) A (ms 1) := by
      rcases hc.cases with ⟨e, B, h1, h2⟩ | ⟨e, B, h1, h2⟩
      · injection h1 with _ h1; injection h1 with h1; injection h1 with h1; injection h1 with h1; rw [h1]; exact h2
      · exact absurd rfl e
    refine (ddrop_any hl ⟨xi, ⟨1, l, d⟩⟩ 1 l d hid pm hm).mono ?_
    intro e w' s
    obtain ⟨rfl, U', p, t, g⟩ := s
    obtain ⟨_, a2, a3, a4⟩ := on.turn (j := 1) (by omega) (m' := m') (x := .tuple #[]) (en := .returned (.tuple #[])) ⟨rfl, U', by rw [eA]; exact Crowd.due p, t, g⟩
    refine ⟨rfl, a2, a3.cells, ?_⟩
    rw [cell_of_row _ _ _ _ _ _ (a4.trans on.qs.row), ← eA]; rfl)
  obtain ⟨z0, -⟩ := on0.cells
  obtain ⟨-, b1⟩ := on2.cells
  have y2 : w2.cell? ⟨S, 2, none⟩ = some (.iface 61 (.pointer (some ⟨A, 0, none⟩))) := by rw [cell_of_row _ _ _ _ _ _ on2.qs.row, ← eA]; rfl
  have ON2 := hide on2
  have HW := hide hw1
  have HX := hide hX
  clear h hid hf hm on0 on2 hw1 hX p2 g2 eA pm
  go_enter Try.func32, Try.ntmps32
  go_upto_region 1 with fail
  rw [← HW.out, ← HX.out]
  clear r0 a0
  go_upto_region 2 with (at_builtin; refine wpList_delete_run rfl _ _ _ _ rfl _ _ rfl rfl r2 ?_)
  clear r2 z0
  go_region_held3 (fun w' => (w'.cell? ⟨X, 0, none⟩ = some (.int .i64 1) ∧ w'.cell? ⟨X, 1, none⟩ = some (.int .i64 l) ∧ w'.cell? ⟨X, 2, none⟩ = some (.int .i64 d)) ∧ w'.cell? ⟨S, 2, none⟩ = some (.iface 61 (.pointer (some ⟨A, 0, none⟩)))) (first | exact ⟨b1, y2⟩ | exact y4) (first | (go_at_call 110; refine (CR.out _ (ON2.out.drewN 1)).mono ?_; rintro en w4 ⟨rfl, r4, y4⟩; have R4 := hide r4; clear r4))
  go_end0
  exact ⟨rfl, R4.out⟩
set_option maxHeartbeats 4000000 in
theorem qrem_2 {w : World} {U : Nat → Prop} {S M n : Nat} {f : Int → Option Pr} {vs : Nat → Value} {Us : Nat → Nat → Prop} {ms : Nat → List Rt} (h : Qs w U S M n f vs Us ms) (x : Rt) (hc : x.p.c = 2) (hid : (Lit.int .i64 (x.id : Int)).wf = true) (hf : f (x.id : Int) = some x.p) (m' : List Rt) (pm : (x :: m').Perm (ms 2)) (hm : (ms 2).length ≤ 1000) :
    Calls Try.prog 32 #[.pointer (some ⟨S, 0, none⟩), .int .i64 (x.id : Int)] w fun e w' => e = .returned (.tuple #[]) ∧ Behind w w' U S M (n - 1) (delP f (x.id : Int)) vs (updV ms 2 m') := by
  obtain ⟨xi, c, l, d⟩ := x
  obtain rfl : c = 2 := hc
  have on0 := QOn.first h 2 l d
  have r0 : (Instr.lookup 54 (.map (some M)) (.int .i64 (xi : Int)) false).run Try.prog w = .ok (.agg #[.int .i64 2, .int .i64 l, .int .i64 d]) w := by
    have r0 := h.map.look1 (xi : Int) hid
    rw [show f ((xi : Nat) : Int) = some ⟨2, l, d⟩ from hf] at r0
    exact r0
  obtain ⟨a0, -⟩ := h.cells
  obtain ⟨w1, hw1⟩ : ∃ w1, w1 = w.alloc (.cells #[.int .i64 2, .int .i64 l, .int .i64 d] 31) := ⟨_, rfl⟩
  obtain ⟨X, hX⟩ : ∃ X, X = w.heap.size := ⟨_, rfl⟩
  rw [← hw1, ← hX] at on0
  obtain ⟨w2, r2, p2, g2⟩ := Prms.drop on0.qs.map (xi : Int) hid (by rw [show f ((xi : Nat) : Int) = some ⟨2, l, d⟩ from hf]; rfl) 0
  have on2 : QOn w w2 U S M (n - 1) (delP f (xi : Int)) vs Us ms X 2 l d := on0.store p2 g2
  obtain ⟨A, eA, -⟩ : ∃ A, vs 2 = .iface 55 (.pointer (some ⟨A, 0, none⟩)) ∧ LadIs w (Us 2) A (ms 2) := by
    rcases (h.crowd 2 (by omega)).cases with ⟨e, B, h1, h2⟩ | ⟨e, B, h1, h2⟩
    · omega
    · exact ⟨B, h1, h2⟩
  have CR := hide (fun (W : World) (on : QOn w W U S M (n - 1) (delP f (xi : Int)) vs Us ms X 2 l d) => show Calls Try.prog 59 #[.pointer (some ⟨A, 0, none⟩), .int .i64 (xi : Int), .agg #[.int .i64 2, .int .i64 l, .int .i64 d]] W fun e w' => e = .returned (.tuple #[]) ∧ Behind w w' U S M (n - 1) (delP f (xi : Int)) vs (updV ms 2 m') ∧ ((w'.cell? ⟨X, 0, none⟩ = some (.int .i64 2) ∧ w'.cell? ⟨X, 1, none⟩ = some (.int .i64 l) ∧ w'.cell? ⟨X, 2, none⟩ = some (.int .i64 d)) ∧ w'.cell? ⟨S, 3, none⟩ = some (.iface 55 (.pointer (some ⟨A, 0, none⟩)))) from by
    have hc := on.qs.crowd 2 (by omega)
    rw [eA] at hc
    have hl : LadIs W (Us 2) A (ms 2) := by
      rcases hc.cases with ⟨e, B, h1, h2⟩ | ⟨e, B, h1, h2⟩
      · omega
      · injection h1 with _ h1; injection h1 with h1; injection h1 with h1; injection h1 with h1; rw [h1]; exact h2
    refine (ldrop_any hl ⟨xi, ⟨2, l, d⟩⟩ hid pm hm).mono ?_
    intro e w' s
    obtain ⟨rfl, U', p, t, g⟩ := s
    obtain ⟨_, a2, a3, a4⟩ := on.turn (j := 2) (by omega) (m' := m') (x := .tuple #[]) (en := .returned (.tuple #[])) ⟨rfl, U', by rw [eA]; exact Crowd.lad (by omega) p, t, g⟩
    refine ⟨rfl, a2, a3.cells, ?_⟩
    rw [cell_of_row _ _ _ _ _ _ (a4.trans on.qs.row), ← eA]; rfl)
  obtain ⟨z0, -⟩ := on0.cells
  obtain ⟨-, b1⟩ := on2.cells
  have y2 : w2.cell? ⟨S, 3, none⟩ = some (.iface 55 (.pointer (some ⟨A, 0, none⟩))) := by rw [cell_of_row _ _ _ _ _ _ on2.qs.row, ← eA]; rfl
  have ON2 := hide on2
  have HW := hide hw1
  have HX := hide hX
  clear h hid hf hm on0 on2 hw1 hX p2 g2 eA pm
  go_enter Try.func32, Try.ntmps32
  go_upto_region 1 with fail
  rw [← HW.out, ← HX.out]
  clear r0 a0
  go_upto_region 2 with (at_builtin; refine wpList_delete_run rfl _ _ _ _ rfl _ _ rfl rfl r2 ?_)
  clear r2 z0
  go_region_held3 (fun w' => (w'.cell? ⟨X, 0, none⟩ = some (.int .i64 2) ∧ w'.cell? ⟨X, 1, none⟩ = some (.int .i64 l) ∧ w'.cell? ⟨X, 2, none⟩ = some (.int .i64 d)) ∧ w'.cell? ⟨S, 3, none⟩ = some (.iface 55 (.pointer (some ⟨A, 0, none⟩)))) (first | exact ⟨b1, y2⟩ | exact y4) (first | (go_at_call 59; refine (CR.out _ (ON2.out.drewN 1)).mono ?_; rintro en w4 ⟨rfl, r4, y4⟩; have R4 := hide r4; clear r4))
  go_end0
  exact ⟨rfl, R4.out⟩
end Go.Proofs.Ytccokhalcdljiaa
namespace Go.Proofs.Ytccokhalcdljiaa
open Go.ChangeShapes Go.WideShapes Go.ChangeAt Go.RowKit
set_option linter.unusedVariables false
theorem cls_add {l : List Rt} {x : Rt} {j : Nat} (hx : x.p.c = (j : Int)) : ∀ i, (updV (cls l) j (x :: cls l j) i).Perm (cls (insR l x) i) := by
  intro i
  have p := cls_perm (insR_perm l x) i
  by_cases e : i = j
  · subst e
    rw [updV_same]
    rw [cls_cons_same hx] at p
    exact p.symm
  · rw [updV_other _ _ e]
    rw [cls_cons_other (by rw [hx]; omega)] at p
    exact p.symm
theorem Qs.move {U : Nat → Prop} {w : World} {S M n : Nat} {f : Int → Option Pr} {vs : Nat → Value} {Us : Nat → Nat → Prop} {ms ms' : Nat → List Rt} (h : Qs w U S M n f vs Us ms) (p : ∀ j, (ms j).Perm (ms' j)) : Qs w U S M n f vs Us ms' :=
  ⟨h.row, h.map, fun j hj => (h.crowd j hj).move (p j), h.uS, h.uM, h.neSM, h.uC, h.neS, h.neM, h.dis, h.lt⟩
theorem hasR_no {l : List Rt} {id : Int} (h : hasR l id = false) : ∀ x ∈ l, (x.id : Int) ≠ id := fun x hx e => by
  have := (hasR_iff l id).mpr ⟨x, hx, e⟩
  rw [h] at this; cases this
theorem put_end {w w' : World} {U : Nat → Prop} {S M : Nat} {f : Int → Option Pr} {vs : Nat → Value} {l : List Rt} {x : Rt} {j : Nat} (hj : x.p.c = (j : Int)) (b : Behind w w' U S M (l.length + 1) (updP f (x.id : Int) x.p) vs (updV (cls l) j (x :: cls l j)))
    (hs : Sync f l) (hg : GoodR l) (hn : l.length < 1000) (hx : ∀ y ∈ l, y.id ≠ x.id) (hw : (Lit.int .i64 (x.id : Int)).wf = true ∧ PrWf x.p) (hm : mayP x.p = true) : SideR (fun w' U' => PQ w' U' S (insR l x)) U w (.tuple #[]) (.returned (.tuple #[])) w' := by
  obtain ⟨_, U', ⟨Us', q⟩, t, g⟩ := b
  refine ⟨rfl, U', ⟨M, _, vs, Us', ?_, hs.add hx (insR_perm l x), good_ins hg hx hw hm, by rw [insR_len]; omega⟩, t, g⟩
  rw [insR_len]
  exact q.move (cls_add hj)
theorem pput_any {w : World} {U : Nat → Prop} {S : Nat} {l : List Rt} (h : PQ w U S l) (id c lv d : Int) (h0 : 0 ≤ id) (hid : (Lit.int .i64 id).wf = true) (hp : PrWf ⟨c, lv, d⟩) (hm : mayP ⟨c, lv, d⟩ = true) (hno : hasR l id = false) (hn : l.length < 1000) :
    Calls Try.prog 28 #[.pointer (some ⟨S, 0, none⟩), .int .i64 id, .agg #[.int .i64 c, .int .i64 lv, .int .i64 d]] w (SideR (fun w' U' => PQ w' U' S (insR l ⟨id.toNat, ⟨c, lv, d⟩⟩)) U w (.tuple #[])) := by
  obtain ⟨M, f, vs, Us, hq, hs, hg, hl⟩ := h
  have e1 : ((id.toNat : Nat) : Int) = id := by omega
  have hf : f id = none := by
    have := hs.has id
    rw [hno] at this
    simpa using this
  have hx : ∀ y ∈ l, y.id ≠ id.toNat := fun y hy e => hasR_no hno y hy (by omega)
  have hcn : ∀ j, ∀ x ∈ cls l j, (x.id : Int) ≠ id := fun j x hx => hasR_no hno x (mem_cls.mp hx).1
  have hcl : ∀ j, (cls l j).length < 1000 := fun j => by have := cls_len l j; omega
  have hw : (Lit.int .i64 ((id.toNat : Nat) : Int)).wf = true ∧ PrWf ⟨c, lv, d⟩ := ⟨by rw [e1]; exact hid, hp⟩
  have hlv : c ≠ 1 → 0 ≤ lv ∧ lv < 64 := fun e => may_lvl hm e
  have hl1 : c = 1 → lv = 0 := fun e => by
    unfold mayP at hm
    rw [if_neg (by show ¬ c = 0; omega), if_pos (by exact e)] at hm
    simp at hm; omega
  rcases may_cls hm with e | e | e
  · obtain rfl : c = 0 := e
    obtain ⟨a, b⟩ := hlv (by omega)
    refine (qput_0 hq id lv d h0 hid hf (hcn 0) a b hn (hcl 0)).mono ?_
    rintro en w' ⟨rfl, r⟩
    exact put_end (x := ⟨id.toNat, ⟨0, lv, d⟩⟩) (j := 0) rfl (by show Behind _ _ _ _ _ _ (updP f ((id.toNat : Nat) : Int) _) _ _; rw [e1]; exact r) hs hg hn hx hw hm
  · obtain rfl : c = 1 := e
    obtain rfl := hl1 rfl
    refine (qput_1 hq id 0 d h0 hid hf (hcn 1) (by omega) (by omega) hn (hcl 1)).mono ?_
    rintro en w' ⟨rfl, r⟩
    exact put_end (x := ⟨id.toNat, ⟨1, 0, d⟩⟩) (j := 1) rfl (by show Behind _ _ _ _ _ _ (updP f ((id.toNat : Nat) : Int) _) _ _; rw [e1]; exact r) hs hg hn hx hw hm
  · obtain rfl : c = 2 := e
    obtain ⟨a, b⟩ := hlv (by omega)
    refine (qput_2 hq id lv d h0 hid hf (hcn 2) a b hn (hcl 2)).mono ?_
    rintro en w' ⟨rfl, r⟩
    exact put_end (x := ⟨id.toNat, ⟨2, lv, d⟩⟩) (j := 2) rfl (by show Behind _ _ _ _ _ _ (updP f ((id.toNat : Nat) : Int) _) _ _; rw [e1]; exact r) hs hg hn hx hw hm
theorem dropR_perm {l : List Rt} (hg : GoodR l) {x : Rt} (hx : x ∈ l) : (x :: dropR l (x.id : Int)).Perm l := by
  obtain ⟨i, hi, rfl⟩ := List.mem_iff_getElem.mp hx
  rw [dropR_at hi rfl hg.one]
  have e : l = l.take i ++ l[i] :: l.drop (i + 1) := by rw [← List.drop_eq_getElem_cons hi, List.take_append_drop]
  conv => rhs; rw [e]
  exact List.perm_middle.symm
theorem cls_drop {l : List Rt} (hg : GoodR l) {x : Rt} (hx : x ∈ l) {j : Nat} (hj : x.p.c = (j : Int)) : (x :: cls (dropR l (x.id : Int)) j).Perm (cls l j) ∧ ∀ i, (updV (cls l) j (cls (dropR l (x.id : Int)) j) i).Perm (cls (dropR l (x.id : Int)) i) := by
  have p := fun i => cls_perm (dropR_perm hg hx) i
  refine ⟨by have := p j; rw [cls_cons_same hj] at this; exact this, fun i => ?_⟩
  by_cases e : i = j
  · subst e; rw [updV_same]
  · rw [updV_other _ _ e]
    have := p i
    rw [cls_cons_other (by rw [hj]; omega)] at this
    exact this.symm
theorem rem_end {w w' : World} {U : Nat → Prop} {S M : Nat} {f : Int → Option Pr} {vs : Nat → Value} {l : List Rt} {x : Rt} (hx : x ∈ l) {j : Nat} (hj : x.p.c = (j : Int)) (hs : Sync f l) (hg : GoodR l) (hn : l.length ≤ 1000)
    (b : Behind w w' U S M (l.length - 1) (delP f (x.id : Int)) vs (updV (cls l) j (cls (dropR l (x.id : Int)) j))) : SideR (fun w' U' => PQ w' U' S (dropR l (x.id : Int))) U w (.tuple #[]) (.returned (.tuple #[])) w' := by
  obtain ⟨_, U', ⟨Us', q⟩, t, g⟩ := b
  have hl := (dropR_perm hg hx).length_eq
  rw [List.length_cons] at hl
  refine ⟨rfl, U', ⟨M, _, vs, Us', ?_, hs.drop _, good_drop hg _, by omega⟩, t, g⟩
  rw [show (dropR l (x.id : Int)).length = l.length - 1 by omega]
  exact q.move (cls_drop hg hx hj).2
theorem prem_any {w : World} {U : Nat → Prop} {S : Nat} {l : List Rt} (h : PQ w U S l) (id : Int) (hid : (Lit.int .i64 id).wf = true) (hh : hasR l id = true) :
    Calls Try.prog 32 #[.pointer (some ⟨S, 0, none⟩), .int .i64 id] w (SideR (fun w' U' => PQ w' U' S (dropR l id)) U w (.tuple #[])) := by
  obtain ⟨M, f, vs, Us, hq, hs, hg, hl⟩ := h
  obtain ⟨x, hx, rfl⟩ := (hasR_iff l id).mp hh
  have hcl : ∀ j, (cls l j).length ≤ 1000 := fun j => by have := cls_len l j; omega
  rcases may_cls (hg.may x hx) with e | e | e
  · refine (qrem_0 hq x e hid (hs.fwd x hx) _ (cls_drop hg hx (j := 0) e).1 (hcl 0)).mono ?_
    rintro en w' ⟨rfl, r⟩
    exact rem_end hx (j := 0) e hs hg hl r
  · refine (qrem_1 hq x e hid (hs.fwd x hx) _ (cls_drop hg hx (j := 1) e).1 (hcl 1)).mono ?_
    rintro en w' ⟨rfl, r⟩
    exact rem_end hx (j := 1) e hs hg hl r
  · refine (qrem_2 hq x e hid (hs.fwd x hx) _ (cls_drop hg hx (j := 2) e).1 (hcl 2)).mono ?_
    rintro en w' ⟨rfl, r⟩
    exact rem_end hx (j := 2) e hs hg hl r
set_option maxHeartbeats 4000000 in
theorem phas_any {w : World} {U : Nat → Prop} {S : Nat} {l : List Rt} (h : PQ w U S l) (id : Int) (hid : (Lit.int .i64 id).wf = true) :
    Calls Try.prog 19 #[.pointer (some ⟨S, 0, none⟩), .int .i64 id] w fun e w' => e = .returned (.bool (hasR l id)) ∧ Below w.heap.size w w' := by
  obtain ⟨M, f, vs, Us, hq, hs, hg, hl⟩ := h
  obtain ⟨a0, -⟩ := hq.cells
  obtain ⟨c, lv, d, r0⟩ : ∃ c lv d, (Instr.lookup 54 (.map (some M)) (.int .i64 id) true).run Try.prog w = .ok (.tuple #[.agg #[.int .i64 c, .int .i64 lv, .int .i64 d], .bool (hasR l id)]) w :=
    ⟨_, _, _, by have := hq.map.look id hid; rw [hs.has id] at this; exact this⟩
  have B1 := hide ((Below.refl w.heap.size w).alloc (Nat.le_refl _) (.cells #[.int .i64 c, .int .i64 lv, .int .i64 d] 31))
  generalize hasR l id = u at *
  clear hq hs hg hl hid
  go_enter Try.func19, Try.ntmps19
  go_wp2_with fail
  go_ret
  exact ⟨rfl, B1.out⟩
set_option maxHeartbeats 4000000 in
theorem plen_any {w : World} {U : Nat → Prop} {S : Nat} {l : List Rt} (h : PQ w U S l) :
    Calls Try.prog 21 #[.pointer (some ⟨S, 0, none⟩)] w fun e w' => e = .returned (.int .i64 (l.length : Nat)) ∧ w = w' := by
  obtain ⟨M, f, vs, Us, hq, hs, hg, hl⟩ := h
  obtain ⟨a0, -⟩ := hq.cells
  have r1 := fun ty => hq.map.len ty
  clear hq hs hg hl
  go_enter Try.func21, Try.ntmps21
  go_wp2_with fail
  go_ret
  exact ⟨rfl, rfl⟩
/-- The queue on its way, beside the priority's block X. -/
structure POn (w w1 : World) (U U1 : Nat → Prop) (S : Nat) (l : List Rt) (X : Nat) (c lv d : Int) : Prop where
  q : PQ w1 U1 S l
  tch : Touch U w w1
  new : ∀ i, U1 i → U i ∨ w.heap.size ≤ i
  blk : PrBlk w1 X c lv d
  out : ¬ U1 X
section
variable {w w1 w2 : World} {U U1 : Nat → Prop} {S : Nat} {l l' : List Rt} {X : Nat} {c lv d : Int}
theorem POn.first (h : PQ w U S l) (c lv d : Int) : POn w (w.alloc (.cells #[.int .i64 c, .int .i64 lv, .int .i64 d] 31)) U U S l w.heap.size c lv d := by
  have b := (Below.refl w.heap.size w).alloc (Nat.le_refl _) (.cells #[.int .i64 c, .int .i64 lv, .int .i64 d] 31)
  exact ⟨h.keep (Touch.of_below (S := fun _ => False) b) (fun _ _ e => e), Touch.of_below b, fun i => .inl, heap_alloc_new _ _, fun hu => by have := h.lt _ hu; omega⟩
theorem POn.below (h : POn w w1 U U1 S l X c lv d) (b : Below w1.heap.size w1 w2) : POn w w2 U U1 S l X c lv d :=
  ⟨h.q.keep (Touch.of_below (S := fun _ => False) b) (fun _ _ e => e), h.tch.trans (Touch.of_below (S := fun _ => False) b) (fun _ e => e.elim), h.new, h.blk.keep (Touch.of_below (S := fun _ => False) b) (fun e => e), h.out⟩
theorem POn.side (h : POn w w1 U U1 S l X c lv d) {v : Value} {e : Ending} (s : SideR (fun w' U' => PQ w' U' S l') U1 w1 v e w2) : e = .returned v ∧ ∃ U2, POn w w2 U U2 S l' X c lv d := by
  obtain ⟨rfl, U2, q, t, g⟩ := s
  have hs := h.tch.size
  refine ⟨rfl, U2, q, h.tch.trans t h.new, fun i hi => (g i hi).elim (h.new i) (fun e => .inr (by omega)), h.blk.keep t h.out, fun hu => (g X hu).elim h.out (fun e => ?_)⟩
  have := lt_of_heap h.blk; omega
theorem POn.fin (h : POn w w1 U U1 S l X c lv d) (x : Value) : SideR (fun w' U' => PQ w' U' S l) U w x (.returned x) w1 := ⟨rfl, U1, h.q, h.tch, h.new⟩
theorem PQ.same (h : PQ w U S l) (b : Below w.heap.size w w2) (x : Value) : SideR (fun w' U' => PQ w' U' S l) U w x (.returned x) w2 := ⟨rfl, U, h.keep (Touch.of_below (S := fun _ => False) b) (fun _ _ e => e), Touch.of_below b, fun i => .inl⟩
end
theorem pmay_is (w : World) (c l d : Int) (u : Bool) (hu : mayP ⟨c, l, d⟩ = u) : Calls Try.prog 24 #[.agg #[.int .i64 c, .int .i64 l, .int .i64 d]] w fun e w' => e = .returned (.bool u) ∧ Below w.heap.size w w' := by rw [← hu]; exact pmay_any w c l d
theorem phas_is {w : World} {U : Nat → Prop} {S : Nat} {l : List Rt} (h : PQ w U S l) (id : Int) (hid : (Lit.int .i64 id).wf = true) (u : Bool) (hu : hasR l id = u) :
    Calls Try.prog 19 #[.pointer (some ⟨S, 0, none⟩), .int .i64 id] w fun e w' => e = .returned (.bool u) ∧ Below w.heap.size w w' := by rw [← hu]; exact phas_any h id hid
set_option maxHeartbeats 4000000 in
theorem padd_any {w : World} {U : Nat → Prop} {S : Nat} {l : List Rt} (h : PQ w U S l) (id c lv d : Int) (hid : (Lit.int .i64 id).wf = true) (hp : PrWf ⟨c, lv, d⟩) (hn : l.length < 1000) :
    Calls Try.prog 10 #[.pointer (some ⟨S, 0, none⟩), .int .i64 id, .agg #[.int .i64 c, .int .i64 lv, .int .i64 d]] w (SideR (fun w' U' => PQ w' U' S (addR l id ⟨c, lv, d⟩)) U w (.int .i64 (addE l id ⟨c, lv, d⟩ : Nat))) := by
  have on0 := POn.first h c lv d
  obtain ⟨w1, hw1⟩ : ∃ w1, w1 = w.alloc (.cells #[.int .i64 c, .int .i64 lv, .int .i64 d] 31) := ⟨_, rfl⟩
  obtain ⟨X, hX⟩ : ∃ X, X = w.heap.size := ⟨_, rfl⟩
  rw [← hw1, ← hX] at on0
  have ON0 := hide on0
  have HW := hide hw1
  have HX := hide hX
  obtain ⟨x0, x1, x2⟩ := on0.blk.cells
  clear on0 hw1 hX
  by_cases hneg : id < 0
  · have e1 : addE l id ⟨c, lv, d⟩ = 2 := by unfold addE; rw [if_pos (.inl hneg)]
    have e2 : addR l id ⟨c, lv, d⟩ = l := by unfold addR; rw [e1]; rfl
    rw [e1, e2]
    clear e1 e2 h hp
    go_enter Try.func10, Try.ntmps10
    go_upto_region 1 with fail
    rw [← HW.out, ← HX.out]
    go_wp2_with fail
    go_ret
    exact ON0.out.fin _
  · cases hm : mayP ⟨c, lv, d⟩ with
    | false =>
      have e1 : addE l id ⟨c, lv, d⟩ = 2 := by unfold addE; rw [if_pos (.inr hm)]
      have e2 : addR l id ⟨c, lv, d⟩ = l := by unfold addR; rw [e1]; rfl
      rw [e1, e2]
      have MY := hide (pmay_is w1 c lv d false hm)
      clear e1 e2 h hp hm
      go_enter Try.func10, Try.ntmps10
      go_upto_region 1 with fail
      rw [← HW.out, ← HX.out]
      go_wp2_with (go_at_call 24; refine MY.out.mono ?_; rintro e w2 ⟨rfl, b2⟩; have ON2 := hide (ON0.out.below b2); clear b2)
      go_ret
      exact ON2.out.fin _
    | true =>
      have MY := hide (pmay_is w1 c lv d true hm)
      cases hh : hasR l id with
      | true =>
        have e1 : addE l id ⟨c, lv, d⟩ = 5 := by unfold addE; rw [if_neg (by rw [hm]; simp; omega), if_pos hh]
        have e2 : addR l id ⟨c, lv, d⟩ = l := by unfold addR; rw [e1]; rfl
        rw [e1, e2]
        have HA := hide (fun (W : World) (hq : PQ W U S l) => phas_is hq id hid true hh)
        clear e1 e2 h hp hm hh hid
        go_enter Try.func10, Try.ntmps10
        go_upto_region 1 with fail
        rw [← HW.out, ← HX.out]
        go_wp2_with (first
          | (go_at_call 24; refine MY.out.mono ?_; rintro e w2 ⟨rfl, b2⟩; have ON2 := hide (ON0.out.below b2); clear b2)
          | (go_at_call 19; refine (HA.out _ ON2.out.q).mono ?_; rintro e w3 ⟨rfl, b3⟩; have ON3 := hide (ON2.out.below b3); clear b3))
        go_ret
        exact ON3.out.fin _
      | false =>
        have e1 : addE l id ⟨c, lv, d⟩ = 0 := by unfold addE; rw [if_neg (by rw [hm]; simp; omega), if_neg (by rw [hh]; simp)]
        have e2 : addR l id ⟨c, lv, d⟩ = insR l ⟨id.toNat, ⟨c, lv, d⟩⟩ := by unfold addR; rw [if_pos e1]
        rw [e1, e2]
        have HA := hide (fun (W : World) (hq : PQ W U S l) => phas_is hq id hid false hh)
        have PU := hide (fun (W : World) (hq : PQ W U S l) => pput_any hq id c lv d (by omega) hid hp hm hh hn)
        clear e1 e2 h hp hm hh hid
        go_enter Try.func10, Try.ntmps10
        go_upto_region 1 with fail
        rw [← HW.out, ← HX.out]
        go_wp2_with (first
          | (go_at_call 24; refine MY.out.mono ?_; rintro e w2 ⟨rfl, b2⟩; have ON2 := hide (ON0.out.below b2); obtain ⟨y0, y1, y2⟩ := ON2.out.blk.cells; clear b2)
          | (go_at_call 19; refine (HA.out _ ON2.out.q).mono ?_; rintro e w3 ⟨rfl, b3⟩; have ON3 := hide (ON2.out.below b3); obtain ⟨v0, v1, v2⟩ := ON3.out.blk.cells; clear b3)
          | (go_at_call 28; refine (PU.out _ ON3.out.q).mono ?_; intro e w4 s4; obtain ⟨rfl, U4, on4⟩ := ON3.out.side s4; have ON4 := hide on4; clear s4 on4))
        go_ret
        exact ON4.out.fin _
set_option maxHeartbeats 4000000 in
theorem pdrop_any {w : World} {U : Nat → Prop} {S : Nat} {l : List Rt} (h : PQ w U S l) (id : Int) (hid : (Lit.int .i64 id).wf = true) :
    Calls Try.prog 12 #[.pointer (some ⟨S, 0, none⟩), .int .i64 id] w (SideR (fun w' U' => PQ w' U' S (dropR l id)) U w (.bool (hasR l id))) := by
  cases hh : hasR l id with
  | true =>
    have HA := hide (phas_is h id hid true hh)
    have HQ := hide h
    have RE := hide (fun (W : World) (hq : PQ W U S l) => prem_any hq id hid hh)
    clear h hid hh
    go_enter Try.func12, Try.ntmps12
    go_wp2_with (first
      | (go_at_call 19; refine HA.out.mono ?_; rintro e w2 ⟨rfl, b2⟩; have Q2 := hide (HQ.out.keep (Touch.of_below (S := fun _ => False) b2) (fun _ _ e => e)); have B2 := hide b2; clear b2)
      | (go_at_call 32; refine (RE.out _ Q2.out).mono ?_; intro e w3 s3; obtain ⟨rfl, s4⟩ := s3; have S4 := hide s4; clear s4))
    go_ret
    obtain ⟨U', q, t, g⟩ := S4.out
    have hs := B2.out.size
    exact ⟨rfl, U', q, (Touch.of_below (S := U) B2.out).trans t (fun i hi => .inl hi), fun i hi => (g i hi).elim .inl (fun e => .inr (by omega))⟩
  | false =>
    rw [dropR_none (hasR_no hh)]
    have HA := hide (phas_is h id hid false hh)
    have HQ := hide h
    clear h hid hh
    go_enter Try.func12, Try.ntmps12
    go_wp2_with (go_at_call 19; refine HA.out.mono ?_; rintro e w2 ⟨rfl, b2⟩; have B2 := hide b2; clear b2)
    go_ret
    exact HQ.out.same B2.out _
set_option maxHeartbeats 4000000 in
theorem pchg_any {w : World} {U : Nat → Prop} {S : Nat} {l : List Rt} (h : PQ w U S l) (id c lv d : Int) (hid : (Lit.int .i64 id).wf = true) (hp : PrWf ⟨c, lv, d⟩) (hn : l.length < 1000) :
    Calls Try.prog 14 #[.pointer (some ⟨S, 0, none⟩), .int .i64 id, .agg #[.int .i64 c, .int .i64 lv, .int .i64 d]] w (SideR (fun w' U' => PQ w' U' S (chgR l id ⟨c, lv, d⟩)) U w (.int .i64 (chgE l id ⟨c, lv, d⟩ : Nat))) := by
  have on0 := POn.first h c lv d
  obtain ⟨w1, hw1⟩ : ∃ w1, w1 = w.alloc (.cells #[.int .i64 c, .int .i64 lv, .int .i64 d] 31) := ⟨_, rfl⟩
  obtain ⟨X, hX⟩ : ∃ X, X = w.heap.size := ⟨_, rfl⟩
  rw [← hw1, ← hX] at on0
  have ON0 := hide on0
  have HW := hide hw1
  have HX := hide hX
  obtain ⟨x0, x1, x2⟩ := on0.blk.cells
  clear on0 hw1 hX
  cases hm : mayP ⟨c, lv, d⟩ with
  | false =>
    have e1 : chgE l id ⟨c, lv, d⟩ = 2 := by unfold chgE; rw [if_pos hm]
    have e2 : chgR l id ⟨c, lv, d⟩ = l := by unfold chgR; rw [e1]; rfl
    rw [e1, e2]
    have MY := hide (pmay_is w1 c lv d false hm)
    clear e1 e2 h hp hm
    go_enter Try.func14, Try.ntmps14
    go_upto_region 1 with fail
    rw [← HW.out, ← HX.out]
    go_wp2_with (go_at_call 24; refine MY.out.mono ?_; rintro e w2 ⟨rfl, b2⟩; have ON2 := hide (ON0.out.below b2); clear b2)
    go_ret
    exact ON2.out.fin _
  | true =>
    have MY := hide (pmay_is w1 c lv d true hm)
    cases hh : hasR l id with
    | false =>
      have e1 : chgE l id ⟨c, lv, d⟩ = 4 := by unfold chgE; rw [if_neg (by rw [hm]; simp), if_neg (by rw [hh]; simp)]
      have e2 : chgR l id ⟨c, lv, d⟩ = l := by unfold chgR; rw [e1]; rfl
      rw [e1, e2]
      have HA := hide (fun (W : World) (hq : PQ W U S l) => phas_is hq id hid false hh)
      clear e1 e2 h hp hm hh hid
      go_enter Try.func14, Try.ntmps14
      go_upto_region 1 with fail
      rw [← HW.out, ← HX.out]
      go_wp2_with (first
        | (go_at_call 24; refine MY.out.mono ?_; rintro e w2 ⟨rfl, b2⟩; have ON2 := hide (ON0.out.below b2); clear b2)
        | (go_at_call 19; refine (HA.out _ ON2.out.q).mono ?_; rintro e w3 ⟨rfl, b3⟩; have ON3 := hide (ON2.out.below b3); clear b3))
      go_ret
      exact ON3.out.fin _
    | true =>
      have e1 : chgE l id ⟨c, lv, d⟩ = 0 := by unfold chgE; rw [if_neg (by rw [hm]; simp), if_pos hh]
      have e2 : chgR l id ⟨c, lv, d⟩ = insR (dropR l id) ⟨id.toNat, ⟨c, lv, d⟩⟩ := by unfold chgR; rw [if_pos e1]
      rw [e1, e2]
      have HA := hide (fun (W : World) (hq : PQ W U S l) => phas_is hq id hid true hh)
      have RE := hide (fun (W : World) (hq : PQ W U S l) => prem_any hq id hid hh)
      have PU := hide (fun (W : World) (V : Nat → Prop) (hq : PQ W V S (dropR l id)) => pput_any hq id c lv d (hasR_nonneg hh) hid hp hm (hasR_drop l id) (Nat.lt_of_le_of_lt (List.length_filter_le _ _) hn))
      clear e1 e2 h hp hm hh hid
      go_enter Try.func14, Try.ntmps14
      go_upto_region 1 with fail
      rw [← HW.out, ← HX.out]
      go_wp2_with (first
        | (go_at_call 24; refine MY.out.mono ?_; rintro e w2 ⟨rfl, b2⟩; have ON2 := hide (ON0.out.below b2); clear b2)
        | (go_at_call 19; refine (HA.out _ ON2.out.q).mono ?_; rintro e w3 ⟨rfl, b3⟩; have ON3 := hide (ON2.out.below b3); clear b3)
        | (go_at_call 32; refine (RE.out _ ON3.out.q).mono ?_; intro e w4 s4; obtain ⟨rfl, U4, on4⟩ := ON3.out.side s4; have ON4 := hide on4; obtain ⟨v0, v1, v2⟩ := on4.blk.cells; clear s4 on4)
        | (go_at_call 28; refine (PU.out _ _ ON4.out.q).mono ?_; intro e w5 s5; obtain ⟨rfl, U5, on5⟩ := ON4.out.side s5; have ON5 := hide on5; clear s5 on5))
      go_ret
      exact ON5.out.fin _
end Go.Proofs.Ytccokhalcdljiaa
namespace Go.Proofs.Ytccokhalcdljiaa
open Go.ChangeShapes Go.WideShapes Go.ChangeAt Go.RowKit
set_option linter.unusedVariables false
def bareP : Nat → Option Nat := fun _ => none
def ladCells : Array Value := (cellsLad 0 bareP).toArray
theorem zero_lad : Try.zeroCells60 = #[.int .u64 0] ++ (List.replicate 64 (Value.pointer none)).toArray := by kernel_rfl
theorem lads_bare (n : Nat) : lads bareP n = List.replicate n (Value.pointer none) := by
  unfold lads
  induction n with
  | zero => rfl
  | succ n ih => rw [List.range_succ, List.map_append, ih, List.replicate_succ']; rfl
theorem ladCells_eq : #[.int .u64 0] ++ (List.replicate 64 (Value.pointer none)).toArray = ladCells := by
  have h : ∀ (a : Value) (l : List Value), #[a] ++ l.toArray = (a :: l).toArray := fun a l => by simp
  unfold ladCells cellsLad
  rw [lads_bare]
  exact h _ _
theorem zero_lad2 : ladCells = Try.zeroCells60 := by rw [zero_lad, ladCells_eq]
theorem lad_new (w : World) : LadIs (w.alloc (.cells ladCells 60)) (fun i => i = w.heap.size) w.heap.size [] := by
  have hw : word (fun _ => false) = 0 := word_none (fun _ _ => rfl)
  refine ⟨fun _ => false, bareP, fun _ _ => False, fun _ => [], ⟨?_, rfl, fun k H hk e => (by cases e), fun k hk e => ⟨rfl, fun i h => h⟩, fun k i hk h => h.elim, fun k hk h => h, fun k j i _ _ h => h.elim, fun i hi => ?_⟩, ⟨fun k hk => rfl, fun k hk => List.Perm.refl _, fun x hx => by cases hx⟩⟩
  · rw [hw]; exact heap_alloc_new _ _
  · have hi : i = w.heap.size := hi
    rw [hi]; simp
theorem newDues_any (w : World) : Calls Try.prog 27 #[] w fun e w' => ∃ D U, e = .returned (.pointer (some ⟨D, 0, none⟩)) ∧ DueIs w' U D [] ∧ Below w.heap.size w w' ∧ ∀ i, U i → w.heap.size ≤ i := by
  go_enter Try.func27, Try.ntmps27
  go_wp2_with (go_at_call 35; refine (Hp.hnew_any _).mono ?_; rintro e w1 ⟨H, F, rfl, q1, b1, f1⟩)
  have Q1 := hide q1
  have B1 := hide b1
  have F1 := hide f1
  clear q1 b1 f1
  go_wp2_with fail
  go_ret
  have q1 := Q1.out
  have hs := B1.out.size
  have b2 := (Below.refl w1.heap.size w1).alloc (Nat.le_refl _) (.cells #[.pointer (some ⟨H, 0, none⟩)] 83)
  refine ⟨_, fun i => F i ∨ i = w1.heap.size, rfl, ⟨F, H, [], ⟨heap_alloc_new _ _, q1.below b2, .inr rfl, fun i => .inl, fun hf => ?_, fun i hi => ?_⟩, List.Perm.refl _⟩, B1.out.alloc hs _, fun i hi => ?_⟩
  · have := q1.lt _ hf; omega
  · have e : (w1.alloc (.cells #[.pointer (some ⟨H, 0, none⟩)] 83)).heap.size = w1.heap.size + 1 := by simp
    rw [e]
    rcases hi with hi | hi
    · have := q1.lt _ hi; omega
    · omega
  · rcases hi with hi | hi
    · exact F1.out i hi
    · omega
theorem pq_new (w : World) (w3 : World) (D : Nat) (UB : Nat → Prop) (hD : DueIs w3 UB D []) (b3 : Below ((w.alloc (.map #[] 0)).alloc (.cells ladCells 60)).heap.size ((w.alloc (.map #[] 0)).alloc (.cells ladCells 60)) w3) (hU : ∀ i, UB i → ((w.alloc (.map #[] 0)).alloc (.cells ladCells 60)).heap.size ≤ i) (cs : Array Value)
    (hcs : cs = #[.map (some w.heap.size), .iface 55 (.pointer (some ⟨w.heap.size + 1, 0, none⟩)), .iface 61 (.pointer (some ⟨D, 0, none⟩)), .iface 55 (.pointer (some ⟨w3.heap.size, 0, none⟩))]) :
    ∃ U, PQ ((w3.alloc (.cells ladCells 60)).alloc (.cells cs 67)) U (w3.heap.size + 1) [] ∧ Below w.heap.size w ((w3.alloc (.cells ladCells 60)).alloc (.cells cs 67)) ∧ ∀ i, U i → w.heap.size ≤ i := by
  subst hcs
  obtain ⟨w1, e1⟩ : ∃ w1, w1 = w.alloc (.map #[] 0) := ⟨_, rfl⟩
  obtain ⟨w2, e2⟩ : ∃ w2, w2 = w1.alloc (.cells ladCells 60) := ⟨_, rfl⟩
  rw [← e1, ← e2] at b3 hU
  have z1 : w1.heap.size = w.heap.size + 1 := by rw [e1]; simp
  have z2 : w2.heap.size = w.heap.size + 2 := by rw [e2]; simp [z1]
  have hM : Prms w1 w.heap.size 0 (fun _ => none) := by rw [e1]; exact Prms.made w
  have hA : LadIs w2 (fun i => i = w.heap.size + 1) (w.heap.size + 1) [] := by rw [e2, ← z1]; exact lad_new w1
  have hC : LadIs (w3.alloc (.cells ladCells 60)) (fun i => i = w3.heap.size) w3.heap.size [] := lad_new w3
  obtain ⟨w4, e4⟩ : ∃ w4, w4 = w3.alloc (.cells ladCells 60) := ⟨_, rfl⟩
  rw [← e4] at hC ⊢
  have z4 : w4.heap.size = w3.heap.size + 1 := by rw [e4]; simp
  have b1 : Below w.heap.size w w1 := by rw [e1]; exact (Below.refl _ _).alloc (Nat.le_refl _) _
  have b2 : Below w1.heap.size w1 w2 := by rw [e2]; exact (Below.refl _ _).alloc (Nat.le_refl _) _
  have b4 : Below w3.heap.size w3 w4 := by rw [e4]; exact (Below.refl _ _).alloc (Nat.le_refl _) _
  obtain ⟨o, ho⟩ : ∃ o, o = Obj.cells #[.map (some w.heap.size), .iface 55 (.pointer (some ⟨w.heap.size + 1, 0, none⟩)), .iface 61 (.pointer (some ⟨D, 0, none⟩)), .iface 55 (.pointer (some ⟨w3.heap.size, 0, none⟩))] 67 := ⟨_, rfl⟩
  rw [← ho]
  have b5 : Below w4.heap.size w4 (w4.alloc o) := (Below.refl _ _).alloc (Nat.le_refl _) _
  have z5 : (w4.alloc o).heap.size = w3.heap.size + 2 := by simp [z4]
  have s3 := b3.size
  have t : ∀ {a b : World}, Below a.heap.size a b → Touch (fun _ => False) a b := fun h => Touch.of_below h
  have c23 := b3
  have c35 : Below w3.heap.size w3 (w4.alloc o) := b4.trans (b5.mono b4.size)
  have c25 : Below w2.heap.size w2 (w4.alloc o) := b3.trans (c35.mono b3.size)
  have c15 : Below w1.heap.size w1 (w4.alloc o) := b2.trans (c25.mono b2.size)
  refine ⟨fun i => i = w.heap.size ∨ i = w.heap.size + 1 ∨ UB i ∨ i = w3.heap.size ∨ i = w3.heap.size + 1, ⟨w.heap.size, fun _ => none, fun j => if j = 0 then .iface 55 (.pointer (some ⟨w.heap.size + 1, 0, none⟩)) else if j = 1 then .iface 61 (.pointer (some ⟨D, 0, none⟩)) else .iface 55 (.pointer (some ⟨w3.heap.size, 0, none⟩)),
    fun j => if j = 0 then (fun i => i = w.heap.size + 1) else if j = 1 then UB else (fun i => i = w3.heap.size), ?_, ⟨fun x hx => (by cases hx), fun k p e => (by cases e)⟩, good_nil, by simp⟩, b1.trans (c15.mono b1.size), ?_⟩
  · have hlt := hD.lt
    refine ⟨?_, hM.keep (c15.block _ (by omega)), fun j hj => ?_, by omega, .inl rfl, by omega, fun j i hj hi => ?_, fun j hj hi => ?_, fun j hj hi => ?_, fun a b i ha hb h1 h2 => ?_, fun i hi => ?_⟩
    · rw [← z4, ho]; exact heap_alloc_new _ _
    · match j, hj with
      | 0, _ => exact Crowd.lad (by omega) (hA.keep (t c25) (fun _ _ e => e))
      | 1, _ => exact Crowd.due (hD.keep (t c35) (fun _ _ e => e))
      | 2, _ => exact Crowd.lad (by omega) (hC.keep (t b5) (fun _ _ e => e))
    · match j, hj with
      | 0, _ => have hi : i = w.heap.size + 1 := hi; omega
      | 1, _ => exact .inr (.inr (.inl hi))
      | 2, _ => have hi : i = w3.heap.size := hi; omega
    · match j, hj with
      | 0, _ => have hi : w3.heap.size + 1 = w.heap.size + 1 := hi; omega
      | 1, _ => have := hlt _ hi; omega
      | 2, _ => have hi : w3.heap.size + 1 = w3.heap.size := hi; omega
    · match j, hj with
      | 0, _ => have hi : w.heap.size = w.heap.size + 1 := hi; omega
      | 1, _ => have := hU _ hi; omega
      | 2, _ => have hi : w.heap.size = w3.heap.size := hi; omega
    · have f0 : ∀ i, (fun j => if j = 0 then (fun i => i = w.heap.size + 1) else if j = 1 then UB else (fun i => i = w3.heap.size)) 1 i → w.heap.size + 2 ≤ i ∧ i < w3.heap.size := fun i hi => ⟨by have := hU i hi; omega, hlt i hi⟩
      match a, b, ha, hb with
      | 0, 0, _, _ => rfl
      | 1, 1, _, _ => rfl
      | 2, 2, _, _ => rfl
      | 0, 1, _, _ => have h1 : i = w.heap.size + 1 := h1; have := f0 i h2; omega
      | 0, 2, _, _ => have h1 : i = w.heap.size + 1 := h1; have h2 : i = w3.heap.size := h2; omega
      | 1, 0, _, _ => have h2 : i = w.heap.size + 1 := h2; have := f0 i h1; omega
      | 1, 2, _, _ => have h2 : i = w3.heap.size := h2; have := f0 i h1; omega
      | 2, 0, _, _ => have h2 : i = w.heap.size + 1 := h2; have h1 : i = w3.heap.size := h1; omega
      | 2, 1, _, _ => have h1 : i = w3.heap.size := h1; have := f0 i h2; omega
    · rw [z5]
      rcases hi with e | e | e | e | e
      · omega
      · omega
      · have := hlt i e; omega
      · omega
      · omega
  · intro i hi
    rcases hi with e | e | e | e | e
    · omega
    · omega
    · have := hU i e; omega
    · omega
    · omega
set_option maxHeartbeats 4000000 in
theorem pnew_any (w : World) : Calls Try.prog 8 #[] w fun e w' => ∃ S U, e = .returned (.pointer (some ⟨S, 0, none⟩)) ∧ PQ w' U S [] ∧ Below w.heap.size w w' ∧ ∀ i, U i → w.heap.size ≤ i := by
  have hmm := @run_makeMap Try.prog
  have PN := hide (fun (w3 : World) (D : Nat) (UB : Nat → Prop) => pq_new w w3 D UB)
  rw [zero_lad2] at PN
  go_enter Try.func8, Try.ntmps8
  go_wp2_with (go_at_call 27; refine (newDues_any _).mono ?_; rintro e w3 ⟨D, UB, rfl, q3, b3, f3⟩; have Q3 := hide q3; have B3 := hide b3; have F3 := hide f3; clear q3 b3 f3)
  go_ret
  obtain ⟨U, p, b, lo⟩ := PN.out w3 D UB Q3.out B3.out F3.out _ rfl
  exact ⟨_, U, rfl, p, b, lo⟩
end Go.Proofs.Ytccokhalcdljiaa
namespace Go.Proofs.Ytccokhalcdljiaa
open Go.ChangeShapes Go.WideShapes Go.ChangeAt Go.RowKit
set_option linter.unusedVariables false
attribute [local go_sem] m_lfirst m_lall m_dfirst m_dall
theorem firstR_append (a b : List Rt) : firstR (a ++ b) = if (firstR a).2 = true then firstR a else firstR b := by
  cases a with
  | nil => rfl
  | cons x r => rfl
theorem firstR_none {m : List Rt} (h : (firstR m).2 = false) : (firstR m).1 = 0 := by
  cases m with
  | nil => rfl
  | cons x r => cases h
/-- The three crowds' pointers. -/
structure Tri (w : World) (S : Nat) (l : List Rt) (A B C : Nat) : Prop where
  a : w.cell? ⟨S, 1, none⟩ = some (.iface 55 (.pointer (some ⟨A, 0, none⟩)))
  b : w.cell? ⟨S, 2, none⟩ = some (.iface 61 (.pointer (some ⟨B, 0, none⟩)))
  c : w.cell? ⟨S, 3, none⟩ = some (.iface 55 (.pointer (some ⟨C, 0, none⟩)))
  la : ∃ U, LadIs w U A (cls l 0)
  lb : ∃ U, DueIs w U B (cls l 1)
  lc : ∃ U, LadIs w U C (cls l 2)
theorem Tri.of {w : World} {U : Nat → Prop} {S M n : Nat} {f : Int → Option Pr} {vs : Nat → Value} {Us : Nat → Nat → Prop} {l : List Rt} (h : Qs w U S M n f vs Us (cls l)) : ∃ A B C, Tri w S l A B C := by
  obtain ⟨-, c1, c2, c3⟩ := h.cells
  rcases (h.crowd 0 (by omega)).cases with ⟨e, _⟩ | ⟨_, A, eA, hA⟩
  · omega
  rcases (h.crowd 1 (by omega)).cases with ⟨_, B, eB, hB⟩ | ⟨e, _⟩
  · rcases (h.crowd 2 (by omega)).cases with ⟨e, _⟩ | ⟨_, C, eC, hC⟩
    · omega
    · rw [eA] at c1
      rw [eB] at c2
      rw [eC] at c3
      exact ⟨A, B, C, c1, c2, c3, ⟨_, hA⟩, ⟨_, hB⟩, ⟨_, hC⟩⟩
  · exact absurd rfl e
theorem Tri.below {w w' : World} {S : Nat} {l : List Rt} {A B C : Nat} (h : Tri w S l A B C) (hS : S < w.heap.size) (b : Below w.heap.size w w') : Tri w' S l A B C := by
  have t : Touch (fun _ => False) w w' := Touch.of_below b
  obtain ⟨U0, h0⟩ := h.la
  obtain ⟨U1, h1⟩ := h.lb
  obtain ⟨U2, h2⟩ := h.lc
  exact ⟨t.cell h.a (fun e => e), t.cell h.b (fun e => e), t.cell h.c (fun e => e), ⟨U0, h0.keep t (fun _ _ e => e)⟩, ⟨U1, h1.keep t (fun _ _ e => e)⟩, ⟨U2, h2.keep t (fun _ _ e => e)⟩⟩
set_option maxHeartbeats 4000000 in
theorem pfirst_below {w : World} {U : Nat → Prop} {S : Nat} {l : List Rt} (h : PQ w U S l) :
    Calls Try.prog 18 #[.pointer (some ⟨S, 0, none⟩)] w fun e w' => e = .returned (.tuple #[.int .i64 (firstR l).1, .bool (firstR l).2]) ∧ Below w.heap.size w w' := by
  have hS := h.lt
  obtain ⟨M, f, vs, Us, hq, hs, hg, hl⟩ := h
  have hSl : S < w.heap.size := hS S hq.uS
  obtain ⟨A, B, C, tr⟩ := Tri.of hq
  have TR := hide (fun (W : World) (b : Below w.heap.size w W) => tr.below hSl b)
  have hf : firstR l = if (firstR (cls l 2)).2 = true then firstR (cls l 2) else if (firstR (cls l 1)).2 = true then firstR (cls l 1) else firstR (cls l 0) := by
    conv => lhs; rw [good_parts hg]
    rw [List.append_assoc, firstR_append, firstR_append]
  have F2 := hide (fun (W : World) (t : Tri W S l A B C) => show Calls Try.prog 60 #[.pointer (some ⟨C, 0, none⟩)] W fun e w' => e = .returned (.tuple #[.int .i64 (firstR (cls l 2)).1, .bool (firstR (cls l 2)).2]) ∧ Below W.heap.size W w' from by
    obtain ⟨U2, h2⟩ := t.lc
    exact lfirst_any h2 (good_falls hg (by omega)))
  have F1 := hide (fun (W : World) (t : Tri W S l A B C) => show Calls Try.prog 111 #[.pointer (some ⟨B, 0, none⟩)] W fun e w' => e = .returned (.tuple #[.int .i64 (firstR (cls l 1)).1, .bool (firstR (cls l 1)).2]) ∧ Below W.heap.size W w' from by
    obtain ⟨U2, h2⟩ := t.lb
    exact dfirst_any h2 (good_dues hg))
  have F0 := hide (fun (W : World) (t : Tri W S l A B C) => show Calls Try.prog 60 #[.pointer (some ⟨A, 0, none⟩)] W fun e w' => e = .returned (.tuple #[.int .i64 (firstR (cls l 0)).1, .bool (firstR (cls l 0)).2]) ∧ Below W.heap.size W w' from by
    obtain ⟨U2, h2⟩ := t.la
    exact lfirst_any h2 (good_falls hg (by omega)))
  have N0 := hide (firstR_none (m := cls l 0))
  obtain ⟨x, hx⟩ : ∃ x, x = firstR l := ⟨_, rfl⟩
  rw [← hx]
  rw [← hx] at hf
  generalize firstR (cls l 2) = y2 at *
  generalize firstR (cls l 1) = y1 at *
  generalize firstR (cls l 0) = y0 at *
  obtain ⟨i2, k2⟩ := y2
  obtain ⟨i1, k1⟩ := y1
  obtain ⟨i0, k0⟩ := y0
  have HF := hide hf
  have B0 := hide (Below.refl w.heap.size w)
  clear hf hx hq hs hg hl tr hS
  go_enter Try.func18, Try.ntmps18
  go_wp2_with fail
  go_loopw [4] (fun i wr => ∃ z : Int, i = .int .i64 z ∧ -1 ≤ z ∧ z ≤ 2 ∧ Hid (Below w.heap.size w wr) ∧ Hid ((z < 2 → k2 = false) ∧ (z < 1 → k1 = false) ∧ (z < 0 → k0 = false))) (fun i _ => (intOf i + 1).toNat)
  case atStart => exact ⟨2, rfl, by omega, by omega, B0, ⟨fun h => by omega, fun h => by omega, fun h => by omega⟩⟩
  case round =>
    obtain ⟨z, rfl, z0, z1, hB, hZ⟩ := hrel
    clear B0
    have t := TR.out wr hB.out
    obtain ⟨c1, c2, c3⟩ : wr.cell? ⟨S, 1, none⟩ = some (.iface 55 (.pointer (some ⟨A, 0, none⟩))) ∧ wr.cell? ⟨S, 2, none⟩ = some (.iface 61 (.pointer (some ⟨B, 0, none⟩))) ∧ wr.cell? ⟨S, 3, none⟩ = some (.iface 55 (.pointer (some ⟨C, 0, none⟩))) := ⟨t.a, t.b, t.c⟩
    have G2 := hide (F2.out wr t)
    have G1 := hide (F1.out wr t)
    have G0 := hide (F0.out wr t)
    clear t F2 F1 F0 TR
    by_cases e2 : z = 2
    · obtain rfl := e2
      cases k2 with
      | true =>
        go_wp2_with (go_at_call 60; with_reducible refine G2.out.mono ?_; rintro e w2 ⟨rfl, b2⟩; have B2 := hide (hB.out.trans (b2.mono hB.out.size)); clear b2)
        go_ret2
        rw [HF.out]
        exact ⟨rfl, B2.out⟩
      | false =>
        go_wp2_with (go_at_call 60; with_reducible refine G2.out.mono ?_; rintro e w2 ⟨rfl, b2⟩; have B2 := hide (hB.out.trans (b2.mono hB.out.size)); clear b2)
        go_roundw
        case rel => exact ⟨1, rfl, by omega, by omega, B2, ⟨by simp, by simp, by simp⟩⟩
        case measure => decide
    · by_cases e1 : z = 1
      · obtain rfl := e1
        obtain rfl := hZ.out.1 (by omega)
        cases k1 with
        | true =>
          go_wp2_with (go_at_call 111; with_reducible refine G1.out.mono ?_; rintro e w2 ⟨rfl, b2⟩; have B2 := hide (hB.out.trans (b2.mono hB.out.size)); clear b2)
          go_ret2
          rw [HF.out]
          exact ⟨rfl, B2.out⟩
        | false =>
          go_wp2_with (go_at_call 111; with_reducible refine G1.out.mono ?_; rintro e w2 ⟨rfl, b2⟩; have B2 := hide (hB.out.trans (b2.mono hB.out.size)); clear b2)
          go_roundw
          case rel => exact ⟨0, rfl, by omega, by omega, B2, ⟨by simp, by simp, by simp⟩⟩
          case measure => decide
      · by_cases e0 : z = 0
        · obtain rfl := e0
          obtain rfl := hZ.out.1 (by omega)
          obtain rfl := hZ.out.2.1 (by omega)
          cases k0 with
          | true =>
            go_wp2_with (go_at_call 60; with_reducible refine G0.out.mono ?_; rintro e w2 ⟨rfl, b2⟩; have B2 := hide (hB.out.trans (b2.mono hB.out.size)); clear b2)
            go_ret2
            rw [HF.out]
            exact ⟨rfl, B2.out⟩
          | false =>
            go_wp2_with (go_at_call 60; with_reducible refine G0.out.mono ?_; rintro e w2 ⟨rfl, b2⟩; have B2 := hide (hB.out.trans (b2.mono hB.out.size)); clear b2)
            go_roundw
            case rel => exact ⟨-1, rfl, by omega, by omega, B2, ⟨by simp, by simp, by simp⟩⟩
            case measure => decide
        · obtain rfl : z = -1 := by omega
          obtain rfl := hZ.out.1 (by omega)
          obtain rfl := hZ.out.2.1 (by omega)
          obtain rfl := hZ.out.2.2 (by omega)
          go_wp2_with fail
          go_ret2
          have n0 : i0 = 0 := N0.out (by simp)
          rw [HF.out, n0]
          exact ⟨rfl, hB.out⟩
set_option maxHeartbeats 4000000 in
theorem pall_any {w : World} {U : Nat → Prop} {S : Nat} {l : List Rt} (h : PQ w U S l) :
    Calls Try.prog 16 #[.pointer (some ⟨S, 0, none⟩)] w fun e w' => ∃ A c, e = .returned (.slice A l.length c) ∧ w'.ownsRow w.heap.size 3 1 (.slice A l.length c) l.length ((allR l).map (Value.int .i64)) ∧ Below w.heap.size w w' := by
  obtain ⟨i0, hi0, hz0, hz1, hz2⟩ := info_parts int_info
  have LN := hide (plen_any h)
  have hS := h.lt
  obtain ⟨M, f, vs, Us, hq, hs, hg, hl⟩ := h
  have hSl : S < w.heap.size := hS S hq.uS
  obtain ⟨A, B, C, tr⟩ := Tri.of hq
  have TR := hide (fun (W : World) (b : Below w.heap.size w W) => tr.below hSl b)
  have hf : allR l = idsR (cls l 2) ++ idsR (cls l 1) ++ idsR (cls l 0) := by
    show idsR l = _
    conv => lhs; rw [good_parts hg]
    simp [idsR]
  have hc : ∀ j, (cls l j).length ≤ 1000 := fun j => by have := cls_len l j; omega
  have hi : ∀ j, (idsR (cls l j)).length = (cls l j).length := fun j => by simp [idsR]
  have hn : (idsR (cls l 2)).length + (idsR (cls l 1)).length + (idsR (cls l 0)).length = l.length := by
    have := congrArg List.length hf
    rw [List.length_append, List.length_append] at this
    rw [← this]; simp [allR]
  have RW := hide (fun (w' : World) (base : Nat) (v : Value) (n : Nat) (xs : List Int) (o : w'.ownsRow base 3 1 v n (xs.map (Value.int .i64))) => own_ints o)
  have F2 := hide (fun (W : World) (t : Tri W S l A B C) => show Calls Try.prog 58 #[.pointer (some ⟨C, 0, none⟩)] W fun e w' => ∃ A c, e = .returned (.slice A (idsR (cls l 2)).length c) ∧ Ints .i64 w' A (idsR (cls l 2)).length (idsR (cls l 2)) ∧ (A = none → c = 0) ∧ Below W.heap.size W w' from by
    obtain ⟨U2, h2⟩ := t.lc
    refine (lall_any h2 (good_falls hg (by omega)) (hc 2)).mono ?_
    rintro e w' ⟨v, rfl, o, b⟩
    rw [← hi] at o
    obtain ⟨A, c, rfl, i9, n9⟩ := own_ints o
    exact ⟨A, c, rfl, i9, n9, b⟩)
  have F1 := hide (fun (W : World) (t : Tri W S l A B C) => show Calls Try.prog 109 #[.pointer (some ⟨B, 0, none⟩)] W fun e w' => ∃ A c, e = .returned (.slice A (idsR (cls l 1)).length c) ∧ Ints .i64 w' A (idsR (cls l 1)).length (idsR (cls l 1)) ∧ (A = none → c = 0) ∧ Below W.heap.size W w' from by
    obtain ⟨U2, h2⟩ := t.lb
    refine (dall_any h2 (good_dues hg) (hc 1)).mono ?_
    rintro e w' ⟨v, rfl, o, b⟩
    rw [← hi] at o
    obtain ⟨A, c, rfl, i9, n9⟩ := own_ints o
    exact ⟨A, c, rfl, i9, n9, b⟩)
  have F0 := hide (fun (W : World) (t : Tri W S l A B C) => show Calls Try.prog 58 #[.pointer (some ⟨A, 0, none⟩)] W fun e w' => ∃ A c, e = .returned (.slice A (idsR (cls l 0)).length c) ∧ Ints .i64 w' A (idsR (cls l 0)).length (idsR (cls l 0)) ∧ (A = none → c = 0) ∧ Below W.heap.size W w' from by
    obtain ⟨U2, h2⟩ := t.la
    refine (lall_any h2 (good_falls hg (by omega)) (hc 0)).mono ?_
    rintro e w' ⟨v, rfl, o, b⟩
    rw [← hi] at o
    obtain ⟨A, c, rfl, i9, n9⟩ := own_ints o
    exact ⟨A, c, rfl, i9, n9, b⟩)
  generalize idsR (cls l 2) = a2 at *
  generalize idsR (cls l 1) = a1 at *
  generalize idsR (cls l 0) = a0 at *
  obtain ⟨N, hN⟩ : ∃ N, N = l.length := ⟨_, rfl⟩
  rw [← hN] at hl hn LN ⊢
  obtain ⟨al, hal⟩ : ∃ al, al = allR l := ⟨_, rfl⟩
  rw [← hal] at hf ⊢
  have HF := hide hf
  have HNN := hide hn
  have HL := hide hl
  have hz3 : i0.bytes * N ≤ 281474976710656 := by rw [hz2]; omega
  have HZ := hide hz2
  clear hf hn hal hN hq hs hg tr hS hc hi hz2 RW
  go_enter Try.func16, Try.ntmps16
  go_wp2_with (first
    | (go_at_call 21; refine LN.out.mono ?_; rintro e w' ⟨rfl, rfl⟩)
    | (refine wpList_make_own _ rfl (.const (.int .i64 0)) (.tmp 8) _ rfl w.heap.size 3 i0 _ 1 Try.underlying39 hi0 hz0 hz1 .i64 .i64 _ N rfl rfl rfl hz3 (by unfold maxLen; omega) (Nat.le_refl _) ?_; intro w1 o1 g1; have G1 := hide (show GrowsOn w w1 (.slice (some ⟨w.heap.size, 0, none⟩) 0 N) [] from ⟨o1, (Below.refl w.heap.size w).grown g1 (Nat.le_refl _) (by simp)⟩); clear o1 g1))
  go_loopw [3, 4] (fun v i wr => ∃ (z : Int) (acc : List Int), i = .int .i64 z ∧ Hid (z = 2 ∧ acc = [] ∨ z = 1 ∧ acc = a2 ∨ z = 0 ∧ acc = a2 ++ a1 ∨ z = -1 ∧ acc = a2 ++ a1 ++ a0) ∧ Hid (GrowsOn w wr v acc)) (fun _ i _ => (intOf i + 1).toNat)
  case atStart => exact ⟨2, [], rfl, .inl ⟨rfl, rfl⟩, G1⟩
  case round =>
    obtain ⟨z, acc, rfl, hZ, hB⟩ := hrel
    clear G1 LN
    have t := TR.out wr hB.out.bel
    obtain ⟨c1, c2, c3⟩ : wr.cell? ⟨S, 1, none⟩ = some (.iface 55 (.pointer (some ⟨A, 0, none⟩))) ∧ wr.cell? ⟨S, 2, none⟩ = some (.iface 61 (.pointer (some ⟨B, 0, none⟩))) ∧ wr.cell? ⟨S, 3, none⟩ = some (.iface 55 (.pointer (some ⟨C, 0, none⟩))) := ⟨t.a, t.b, t.c⟩
    have G2 := hide (F2.out wr t)
    have G1 := hide (F1.out wr t)
    have G0 := hide (F0.out wr t)
    clear t F2 F1 F0 TR
    rcases hZ.out with ⟨rfl, e⟩ | ⟨rfl, e⟩ | ⟨rfl, e⟩ | ⟨rfl, e⟩ <;> rw [e] at hB <;> clear e
    · clear hZ
      have EL := hide (show ([] : List Int).length + a2.length ≤ 1000 from by have := HNN.out; have := HL.out; show (0 : Nat) + _ ≤ _; omega)
      go_wp2_with (first
        | (go_at_call 58; with_reducible refine G2.out.mono ?_; rintro e w2 ⟨A2, cc2, rfl, i2, n2, b2⟩; have Z2 := hide (hB.out.below b2); have I2 := hide i2; have N2 := hide n2; clear i2 n2 b2)
        | (at_builtin; refine wpList_append_src rfl (.tmp 14) (.tmp 21) _ rfl w.heap.size 3 i0 _ 8 Try.underlying39 hi0 hz0 hz1 HZ.out rfl _ _ _ rfl Z2.out.own .i64 _ _ _ a2 rfl I2.out N2.out (by have := EL.out; unfold maxLen; omega) (by have := EL.out; omega) Z2.out.bel.size ?_; intro v' w' o' g' t'; have Z3 := hide (Z2.out.next rfl o' g'); clear o' g' t'))
      go_roundw
      case rel => exact ⟨1, a2, rfl, .inr (.inl ⟨rfl, rfl⟩), Z3⟩
      case measure => decide
    · clear hZ
      have EL := hide (show (a2 : List Int).length + a1.length ≤ 1000 from by have := HNN.out; have := HL.out; omega)
      go_wp2_with (first
        | (go_at_call 109; with_reducible refine G1.out.mono ?_; rintro e w2 ⟨A2, cc2, rfl, i2, n2, b2⟩; have Z2 := hide (hB.out.below b2); have I2 := hide i2; have N2 := hide n2; clear i2 n2 b2)
        | (at_builtin; refine wpList_append_src rfl (.tmp 14) (.tmp 21) _ rfl w.heap.size 3 i0 _ 8 Try.underlying39 hi0 hz0 hz1 HZ.out rfl _ _ _ rfl Z2.out.own .i64 _ _ _ a1 rfl I2.out N2.out (by have := EL.out; unfold maxLen; omega) (by have := EL.out; omega) Z2.out.bel.size ?_; intro v' w' o' g' t'; have Z3 := hide (Z2.out.next rfl o' g'); clear o' g' t'))
      go_roundw
      case rel => exact ⟨0, a2 ++ a1, rfl, .inr (.inr (.inl ⟨rfl, rfl⟩)), Z3⟩
      case measure => decide
    · clear hZ
      have EL := hide (show (a2 ++ a1 : List Int).length + a0.length ≤ 1000 from by have := HNN.out; have := HL.out; rw [List.length_append]; omega)
      go_wp2_with (first
        | (go_at_call 58; with_reducible refine G0.out.mono ?_; rintro e w2 ⟨A2, cc2, rfl, i2, n2, b2⟩; have Z2 := hide (hB.out.below b2); have I2 := hide i2; have N2 := hide n2; clear i2 n2 b2)
        | (at_builtin; refine wpList_append_src rfl (.tmp 14) (.tmp 21) _ rfl w.heap.size 3 i0 _ 8 Try.underlying39 hi0 hz0 hz1 HZ.out rfl _ _ _ rfl Z2.out.own .i64 _ _ _ a0 rfl I2.out N2.out (by have := EL.out; unfold maxLen; omega) (by have := EL.out; omega) Z2.out.bel.size ?_; intro v' w' o' g' t'; have Z3 := hide (Z2.out.next rfl o' g'); clear o' g' t'))
      go_roundw
      case rel => exact ⟨-1, a2 ++ a1 ++ a0, rfl, .inr (.inr (.inr ⟨rfl, rfl⟩)), Z3⟩
      case measure => decide
    · clear hZ
      go_wp2_with fail
      go_ret
      have z := hB.out.own
      have e5 : (a2 ++ a1 ++ a0).length = N := by rw [List.length_append, List.length_append]; exact HNN.out
      rw [e5] at z
      obtain ⟨A9, c9, e9, _⟩ := Hp.own_slice z
      subst e9
      rw [HF.out]
      exact ⟨A9, c9, rfl, z, hB.out.bel⟩
theorem nilReady : NilReady where
  add w id c l d := by
    have e0 := Below.refl w.heap.size w
    go_enter Try.func10, Try.ntmps10
    go_wp2_with fail
    go_ret
    exact ⟨rfl, e0.alloc (Nat.le_refl _) _⟩
  chg w id c l d := by
    have e0 := Below.refl w.heap.size w
    go_enter Try.func14, Try.ntmps14
    go_wp2_with fail
    go_ret
    exact ⟨rfl, e0.alloc (Nat.le_refl _) _⟩
  drop w id := by
    have HA : Calls Try.prog 19 #[.pointer none, .int .i64 id] w fun e w' => e = .returned (.bool false) ∧ w = w' := by
      go_enter Try.func19, Try.ntmps19
      go_wp2_with fail
      go_ret
      exact ⟨rfl, rfl⟩
    go_enter Try.func12, Try.ntmps12
    go_wp2_with (go_at_call 19; refine HA.mono ?_; rintro e w2 ⟨rfl, rfl⟩)
    go_ret
    exact ⟨rfl, Below.refl _ _⟩
  has w id := by
    go_enter Try.func19, Try.ntmps19
    go_wp2_with fail
    go_ret
    exact ⟨rfl, Below.refl _ _⟩
  first w := by
    go_enter Try.func18, Try.ntmps18
    go_wp2_with fail
    go_ret2
    exact ⟨rfl, Below.refl _ _⟩
  len w := by
    go_enter Try.func21, Try.ntmps21
    go_wp2_with fail
    go_ret
    exact ⟨rfl, Below.refl _ _⟩
  all w := by
    go_enter Try.func16, Try.ntmps16
    go_wp2_with fail
    go_ret
    exact ⟨⟨_, _, rfl⟩, Below.refl _ _⟩
theorem pready : PReady PQ where
  keep h t d := h.keep t d
  lt h := h.lt
  good h := h.good
  new w := pnew_any w
  add h _ _ _ _ hid hp hn := padd_any h _ _ _ _ hid hp hn
  drop h _ hid := pdrop_any h _ hid
  chg h _ _ _ _ hid hp hn := pchg_any h _ _ _ _ hid hp hn
  first h := (pfirst_below h).mono fun e w' hr => by obtain ⟨rfl, b⟩ := hr; exact h.same b _
  has h _ hid := (phas_any h _ hid).mono fun e w' hr => by obtain ⟨rfl, b⟩ := hr; exact h.same b _
  len h := (plen_any h).mono fun e w' hr => by obtain ⟨rfl, rfl⟩ := hr; exact h.same (Below.refl _ _) _
  all h := (pall_any h).mono fun e w' hr => by
    obtain ⟨A, c, rfl, o, b⟩ := hr
    refine ⟨A, c, rfl, o, _, h.keep (Touch.of_below (S := fun _ => False) b) (fun _ _ e => e), Touch.of_below b, fun i => .inl, fun i hi hu => ?_⟩
    have h1 := own_lo o i hi
    have h2 := h.lt i hu
    omega
end Go.Proofs.Ytccokhalcdljiaa
