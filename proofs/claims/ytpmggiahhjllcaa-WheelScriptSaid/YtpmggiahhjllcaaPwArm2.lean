/-
  The program's wheel's Arm, of a timer that may be armed.
-/
import Derived.Test.YtpmggiahhjllcaaPwArm
namespace Go.Proofs.Ytpmggiahhjllcaa
open Go.ChangeShapes Go.WideShapes Go.ChangeAt Go.RowKit
set_option linter.unusedVariables false
theorem Rw.turned {w w' : World} {U : Nat → Prop} {S n m : Nat} {f : Int → Option Nat} {L : Nat → List Tm} {mv : Value} {T : Nat → Value} (h : Rw w U S n m f L mv T) {M m' : Nat} {f' : Int → Option Nat} (e : mv = .map (some M)) (hg : w.grownBy w' (some M)) (hM : Moms w' M m' f') : Rw w' U S n m' f' L mv T := by
  have t : Touch (fun i => i = M) w w' := Touch.of_grown hg (fun k e => (Option.some.inj e).symm)
  exact ⟨h.row.keep (t.block S (h.lt S h.uS) (fun e2 => h.neSM e e2.symm)), .inr ⟨M, e, hM⟩, fun k hk => t.own (h.own k hk) (fun g hg e2 => h.neTM hk hg e e2), h.dis, h.uS, h.uM, h.uT, fun i hi => Nat.lt_of_lt_of_le (h.lt i hi) t.size⟩
theorem rw_store {w : World} {U : Nat → Prop} {S n m : Nat} {f : Int → Option Nat} {L : Nat → List Tm} {M : Nat} {T : Nat → Value} (h : Rw w U S n m f L (.map (some M)) T) (hm : m < 1000000) {id : Int} (hid : (Lit.int .i64 id).wf = true) (v : Nat) (hv : v < 16777216) (hf : f id = none) :
    ∃ w', (Instr.mapUpdate 54 (.map (some M)) (.int .i64 id) (.int .i64 (v : Int))).run Try.prog w = .ok () w' ∧ Rw w' U S n (m + 1) (updM f id v) L (.map (some M)) T ∧ Touch U w w' := by
  rcases h.map with ⟨e, _⟩ | ⟨M', e, hM⟩
  · cases e
  · have e2 : M = M' := by injection e with e; injection e
    subst e2
    obtain ⟨w', hr, hM', hg⟩ := hM.store hm id hid v hv hf
    exact ⟨w', hr, h.turned rfl hg hM', Touch.of_grown hg (fun k e => by rw [← Option.some.inj e]; exact h.uM M rfl)⟩
theorem rw_made {w : World} {U : Nat → Prop} {S n m : Nat} {f : Int → Option Nat} {L : Nat → List Tm} {T : Nat → Value} (h : Rw w U S n m f L (.map none) T) :
    Rw ((w.setCell ⟨S, 1, none⟩ (.map (some w.heap.size))).alloc (.map #[] 0)) (fun i => U i ∨ i = w.heap.size) S n m f L (.map (some w.heap.size)) T ∧ Touch U w ((w.setCell ⟨S, 1, none⟩ (.map (some w.heap.size))).alloc (.map #[] 0)) := by
  have t1 : Touch (fun i => i = S) w (w.setCell ⟨S, 1, none⟩ (.map (some w.heap.size))) := (Touch.refl (fun i => i = S) w).setCell (p := ⟨S, 1, none⟩) rfl _
  have t2 : Touch (fun i => i = S) w ((w.setCell ⟨S, 1, none⟩ (.map (some w.heap.size))).alloc (.map #[] 0)) := t1.alloc _
  have hs : (w.setCell ⟨S, 1, none⟩ (.map (some w.heap.size))).heap.size = w.heap.size := by simp [World.setCell]
  have hS := h.lt S h.uS
  obtain ⟨hm, hf⟩ : m = 0 ∧ ∀ k, f k = none := by
    rcases h.map with ⟨_, h1, h2⟩ | ⟨M, e, _⟩
    · exact ⟨h1, h2⟩
    · cases e
  have hf2 : f = fun _ => none := funext hf
  have hM := Moms.made (w.setCell ⟨S, 1, none⟩ (.map (some w.heap.size)))
  rw [hs] at hM
  refine ⟨⟨(h.row.setMap _).keep (RowKit.Below.heap_alloc _ _ S (by omega)), .inr ⟨_, rfl, by rw [hm, hf2]; exact hM⟩, fun k hk => t2.own (h.own k hk) (fun g hg e => h.neTS hk hg e), h.dis, .inl h.uS, fun M e => .inr (by injection e with e; injection e with e; exact e.symm), fun k g hk hg => .inl (h.uT k g hk hg), fun i hi => ?_⟩, t2.mono (fun i e => by rw [e]; exact h.uS)⟩
  have : ((w.setCell ⟨S, 1, none⟩ (.map (some w.heap.size))).alloc (.map #[] 0)).heap.size = w.heap.size + 1 := by simp [hs]
  rcases hi with hi | hi
  · have := h.lt i hi; omega
  · omega
theorem map_nil (w : World) : (binOp BinOp.eql 54 (.map none) (.map none)).run Try.prog w = .ok (.bool true) w := by kernel_rfl
theorem map_not_nil (w : World) (M : Nat) : (binOp BinOp.eql 54 (.map (some M)) (.map none)).run Try.prog w = .ok (.bool false) w := by kernel_rfl
theorem make_map (t : TypeId) (w : World) : (Instr.makeMap t none).run Try.prog w = .ok (.map (some w.heap.size)) (w.alloc (.map #[] 0)) := rfl
attribute [local go_sem] map_nil map_not_nil make_map
set_option maxRecDepth 10000 in
set_option maxHeartbeats 4000000 in
theorem parm_ok {w : World} {U : Nat → Prop} {S : Nat} {s : Ws} {m : Nat} {f : Int → Option Nat} {L : Nat → List Tm} {mv : Value} {T : Nat → Value} (h : Rw w U S s.now m f L mv T) (g : Abs s m f L) {id a : Int} (hid : (Lit.int .i64 id).wf = true) (e : armE s id a = 0) :
    Calls Try.prog 13 #[.pointer (some ⟨S, 0, none⟩), .int .i64 id, .int .i64 a] w fun en w' => en = .returned (.int .i64 0) ∧ ∃ U', Pw w' U' S (armS s id a) ∧ Touch U w w' ∧ ∀ i, U' i → U i ∨ w.heap.size ≤ i := by
  obtain ⟨x, hx⟩ : ∃ x : Tm, x = ⟨id.toNat, a.toNat⟩ := ⟨_, rfl⟩
  have hA := g.arm hid e hx
  obtain ⟨e1, e2, e3, e4, e5⟩ := armE_zero e
  have hxid : (x.id : Int) = id := by rw [hx]; show ((id.toNat : Nat) : Int) = id; omega
  have hxd : (x.due : Int) = a := by rw [hx]; show ((a.toNat : Nat) : Int) = a; omega
  have hfn : f id = none := by
    have : (f id).isSome = false := by rw [g.at_, atOf_isSome]; exact e4
    simpa using this
  have hn : s.now < 16777217 := by omega
  have hlen := g.len (pk_lt s.now x.due)
  have c0 := h.row.now
  have c1 := h.row.map
  have r1 := h.map.look id hid
  rw [hfn] at r1
  have r2 := fun ty => h.map.len ty
  have few := g.good.few
  have hcnt := g.cnt
  have m64 : ¬ (64 : Int) ≤ (m : Int) := by omega
  have a1 : ¬ id < 0 := by omega
  have a2 : ¬ a ≤ (s.now : Int) := by omega
  have a3 : ¬ (16777216 : Int) ≤ a := by omega
  have hnow : (armS s id a).now = s.now := by unfold armS; rw [if_pos e]
  have hput : ∀ (w2 : World) (U2 : Nat → Prop) (M : Nat), Rw w2 U2 S s.now (m + 1) (updM f id a.toNat) L (.map (some M)) T → Touch U w w2 → (∀ i, U2 i → U i ∨ w.heap.size ≤ i) →
      Calls Try.prog 27 #[.pointer (some ⟨S, 0, none⟩), .int .i64 id] w2 fun en w' => en = .returned (.tuple #[]) ∧ ∃ U', Pw w' U' S (armS s id a) ∧ Touch U w w' ∧ ∀ i, U' i → U i ∨ w.heap.size ≤ i := by
    intro w2 U2 M h2 t2 u2
    have hd : a.toNat = x.due := by omega
    have hp := pput_any h2 hn (x := x) (by rw [hxid]; exact hid) (by rw [hxid, hd]; exact if_pos rfl) (by omega) (by omega)
    rw [hxid] at hp
    refine hp.mono fun en w' ⟨he, U', T', hr, ht, hu⟩ => ⟨he, U', ⟨m + 1, updM f id a.toNat, updV L (pk s.now x.due) (L (pk s.now x.due) ++ [x]), .map (some M), T', by rw [hnow]; exact hr, hA⟩, ?_, ?_⟩
    · exact t2.trans ht u2
    · intro i hi
      rcases hu i hi with hi | hi
      · exact u2 i hi
      · have := t2.size; exact .inr (by omega)
  have HPUT := hide hput
  have hv : a.toNat < 16777216 := by omega
  have ha2 : ((a.toNat : Nat) : Int) = a := by omega
  rcases h.map with ⟨rfl, _⟩ | ⟨M, rfl, _⟩
  · obtain ⟨h1, t1⟩ := rw_made h
    obtain ⟨w2, r3, h2, t2⟩ := rw_store h1 (by omega) hid a.toNat hv hfn
    rw [ha2] at r3
    have T2 := hide (t1.trans t2 (fun i hi => hi.elim .inl (fun e => .inr (by omega))))
    have H2 := hide h2
    have hf1 := h.row.frozen 1
    have US := hide (show ∀ i, U i ∨ i = w.heap.size → U i ∨ w.heap.size ≤ i from fun i hi => hi.elim .inl (fun e => .inr (by omega)))
    have hS := h.lt S h.uS
    clear hput hnow h g hid e hx hA e1 e2 e3 e4 e5 hxid hxd hfn hlen few hcnt hv ha2 h1 t1 h2 t2
    go_enter Try.func13, Try.ntmps13
    go_wp2_with fail
    -- HERE
    go_at_call 27
    refine (HPUT.out _ _ _ H2.out T2.out US.out).mono ?_
    rintro en w' ⟨rfl, hU⟩
    have HU := hide hU
    clear hU
    go_wp2_with fail
    go_ret
    exact ⟨rfl, HU.out⟩
  · obtain ⟨w2, r3, h2, t2⟩ := rw_store h (by omega) hid a.toNat hv hfn
    rw [ha2] at r3
    have T2 := hide t2
    have H2 := hide h2
    have US := hide (show ∀ i, U i → U i ∨ w.heap.size ≤ i from fun i hi => .inl hi)
    clear hput hnow h g hid e hx hA e1 e2 e3 e4 e5 hxid hxd hfn hlen few hcnt hv ha2 h2 t2
    go_enter Try.func13, Try.ntmps13
    go_wp2_with fail
    go_at_call 27
    refine (HPUT.out _ _ _ H2.out T2.out US.out).mono ?_
    rintro en w' ⟨rfl, hU⟩
    have HU := hide hU
    clear hU
    go_wp2_with fail
    go_ret
    exact ⟨rfl, HU.out⟩
end Go.Proofs.Ytpmggiahhjllcaa
