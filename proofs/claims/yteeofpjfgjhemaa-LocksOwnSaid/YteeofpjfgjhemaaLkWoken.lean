/-
  The law LocksWoken.
-/
import Derived.Test.YteeofpjfgjhemaaLkTicks
namespace Go.Proofs.Yteeofpjfgjhemaa
open Go.ChangeShapes Go.WideShapes Go.ChangeAt Go.RowKit
set_option linter.unusedVariables false
set_option linter.unusedSimpArgs false
def twoW : List Mu := [⟨1, 9⟩, ⟨2, 9⟩]
theorem builtW1 : Try.prog.built 49 [(0, .int .i64 1), (1, .int .i64 9)] = some #[.int .i64 1, .int .i64 9] := by kernel_rfl
theorem builtW2 : Try.prog.built 49 [(0, .int .i64 2), (1, .int .i64 9)] = some #[.int .i64 2, .int .i64 9] := by kernel_rfl
attribute [local go_sem] builtW1 builtW2
def sW (ws : List Wt) : Lks := ⟨twoW, [⟨50, 0, 0⟩, ⟨50, 1, 0⟩], ws⟩
/-- What is left when all are woken: l: by Leave. -/
def sV (l : Bool) : Lks := ⟨twoW, if l = true then [] else [⟨50, 0, 0⟩], []⟩
def WsOk (ws : List Wt) : Prop := (ws.map (·.t)).Nodup ∧ ∀ y ∈ ws, y.m = 1 ∧ 0 ≤ y.t ∧ y.t < 40
theorem w_wait {ws : List Wt} (h : WsOk ws) (r : Int) : (waitL (sW ws) r = 1 ∧ ∃ y ∈ ws, y.t = r) ∨ (waitL (sW ws) r = -1 ∧ ∀ y ∈ ws, y.t ≠ r) := by
  unfold waitL sW
  split
  · rename_i y hy
    have h1 := List.mem_of_find?_eq_some hy
    have h2 := List.find?_some hy
    exact .inl ⟨(h.2 y h1).1, y, h1, by simpa using h2⟩
  · rename_i hy
    have hy : List.find? (fun y => y.t == r) ws = none := hy
    rw [List.find?_eq_none] at hy
    exact .inr ⟨rfl, fun y hm => by simpa using hy y hm⟩
theorem w_lock {ws : List Wt} (h : WsOk ws) {r : Nat} (hr : (r : Int) < 40) : lockB (sW ws) r 1 = false ∧ ((lockE (sW ws) r 1 = 5 ∧ lockS (sW ws) r 1 = sW ws) ∨ (lockE (sW ws) r 1 = 0 ∧ lockS (sW ws) r 1 = sW (ws ++ [⟨r, 1⟩]) ∧ WsOk (ws ++ [⟨r, 1⟩]))) := by
  have ho : ownL (sW ws) 1 = 50 := by rfl
  have hn : numsL (sW ws) r = [] := by
    have : ¬ (50 : Int) = (r : Int) := by omega
    simp [numsL, holds, sW, this]
  have hm : mayMu twoW [] 1 = 0 := by decide
  have hr0 : ¬ (r : Int) < 0 := by omega
  rcases w_wait h (r : Int) with ⟨e, _⟩ | ⟨e, hw⟩
  · have he : lockE (sW ws) r 1 = 5 := by unfold lockE; rw [if_neg hr0, e, if_pos (by omega)]
    refine ⟨by simp [lockB, he], .inl ⟨he, by unfold lockS; rw [if_neg (by omega)]⟩⟩
  · have he : lockE (sW ws) r 1 = 0 := by unfold lockE; rw [if_neg hr0, e, if_neg (by omega), hn]; exact hm
    refine ⟨by simp [lockB, ho], .inr ⟨he, by unfold lockS; rw [if_pos he, ho, if_neg (by omega)]; rfl, ?_, ?_⟩⟩
    · show ((ws ++ [(⟨r, 1⟩ : Wt)]).map fun y : Wt => y.t).Nodup
      rw [List.map_append, List.nodup_append]
      refine ⟨h.1, by simp, ?_⟩
      intro a ha b hb e
      simp at hb
      obtain ⟨y, hy, rfl⟩ := List.mem_map.1 ha
      exact hw y hy (by rw [e, hb])
    · intro y hy
      rcases List.mem_append.1 hy with hy | hy
      · exact h.2 y hy
      · rw [List.mem_singleton] at hy; subst hy; exact ⟨rfl, Int.natCast_nonneg r, hr⟩
theorem nodup_le : ∀ {l r : List Int}, l.Nodup → (∀ x ∈ l, x ∈ r) → l.length ≤ r.length := by
  intro l
  induction l with
  | nil => intro r _ _; simp
  | cons a l ih =>
    intro r hd h
    rw [List.nodup_cons] at hd
    have ha := h a (List.mem_cons_self ..)
    have := ih (r := r.erase a) hd.2 fun x hx => by
      have hne : x ≠ a := fun e => hd.1 (e ▸ hx)
      exact (List.mem_erase_of_ne hne).2 (h x (List.mem_cons_of_mem _ hx))
    rw [List.length_erase_of_mem ha] at this
    have := List.length_pos_of_mem ha
    simp; omega
theorem rises_nodup {l : List Int} (h : l.Pairwise (· < ·)) : l.Nodup := h.imp fun hab e => by omega
theorem w_woken {ws : List Wt} (h : WsOk ws) {R : List Int} (hr : R.Pairwise (· < ·)) (hm : ∀ x, x ∈ R ↔ ∃ y ∈ ws, y.t = x) : R.length = ws.length ∧ ∀ x ∈ R, 0 ≤ x ∧ x < 40 := by
  have e : ∀ x, x ∈ R ↔ x ∈ ws.map (·.t) := fun x => by rw [hm, List.mem_map]
  have h1 := nodup_le (rises_nodup hr) (fun x hx => (e x).1 hx)
  have h2 := nodup_le h.1 (fun x hx => (e x).2 hx)
  rw [List.length_map] at h1 h2
  refine ⟨by omega, fun x hx => ?_⟩
  obtain ⟨y, hy, rfl⟩ := (hm x).1 hx
  exact (h.2 y hy).2
theorem w_unlock {ws : List Wt} (h : WsOk ws) : unlockE (sW ws) 50 1 = 0 ∧ unlockS (sW ws) 50 1 = sV false ∧ ∀ x, unlockW (sW ws) 50 1 x ↔ ∃ y ∈ ws, y.t = x := by
  have hl : lastL (sW ws) 50 = some 1 := by rfl
  refine ⟨by unfold unlockE; rw [if_pos hl], ?_, fun x => ?_⟩
  · unfold unlockS
    rw [if_pos hl]
    have : (sW ws).w.filter (fun y => y.m != 1) = [] := by
      rw [List.filter_eq_nil_iff]
      intro y hy
      have := (h.2 y hy).1
      simp [this]
    rw [this]
    rfl
  · constructor
    · rintro ⟨_, y, hy, e, _⟩; exact ⟨y, hy, e⟩
    · rintro ⟨y, hy, e⟩; exact ⟨hl, y, hy, e, (h.2 y hy).1⟩
theorem w_leave {ws : List Wt} (h : WsOk ws) : leaveS (sW ws) 50 = sV true ∧ ∀ x, leaveW (sW ws) 50 x ↔ ∃ y ∈ ws, y.t = x := by
  have hn : numsL (sW ws) 50 = [0, 1] := by rfl
  refine ⟨?_, fun x => ?_⟩
  · unfold leaveS
    have : (sW ws).w.filter (fun y => y.t != 50 && !((numsL (sW ws) 50).contains y.m)) = [] := by
      rw [List.filter_eq_nil_iff, hn]
      intro y hy
      have := (h.2 y hy).1
      simp [this]
    rw [this]
    rfl
  · unfold leaveW
    rw [hn]
    constructor
    · rintro ⟨y, hy, e, _, _⟩; exact ⟨y, hy, e⟩
    · rintro ⟨y, hy, e⟩
      have := h.2 y hy
      exact ⟨y, hy, e, by omega, by simp [this.1]⟩
theorem v_wait (l : Bool) (x : Int) : waitL (sV l) x = -1 := by rfl
theorem v_lock (l : Bool) {x : Int} (h0 : 0 ≤ x) (h : x < 40) : lockE (sV l) x 1 = 0 ∧ lockB (sV l) x 1 = true ∧ ownL (lockS (sV l) x 1) 0 = if l = true then -1 else 50 := by
  have hn : numsL (sV l) x = [] := by
    have : ¬ (50 : Int) = x := by omega
    cases l <;> simp [numsL, holds, sV, this]
  have he : lockE (sV l) x 1 = 0 := by unfold lockE; rw [if_neg (by omega), v_wait, if_neg (by omega), hn]; exact (by decide : mayMu twoW [] 1 = 0)
  have ho : ownL (sV l) 1 = -1 := by cases l <;> rfl
  refine ⟨he, by simp [lockB, he, ho], ?_⟩
  unfold lockS
  rw [if_pos he, ho, if_pos (by omega)]
  cases l <;> rfl
section
variable {PT : World → (Nat → Prop) → Nat → List Mu → Prop} {PK : World → (Nat → Prop) → (Nat → Prop) → Nat → Nat → Lks → Prop}
set_option maxRecDepth 10000 in
set_option maxHeartbeats 8000000 in
theorem walk_locksWokenC (CT : PTable PT) (C : PLocks PT PK) (w : World) (a : Option Addr) (n c : Nat) (xs : List Int) (hin : CameIn .i64 w a n c xs) (lv : Bool) : Calls Try.prog 4 #[.slice a n c, .bool lv] w fun e w' => e = .returned (.bool true) ∧ Below w.heap.size w w' := by
  obtain ⟨hi, hnc, hcm, hnil, hwf⟩ := hin
  have n63 : (n : Int) ≤ 9223372036854775807 := by unfold maxLen at hcm; omega
  by_cases h5 : (5 : Int) < (n : Int)
  · go_enter Try.func4, Try.ntmps4
    go_wp2_with (go_at_call 8; refine (lkawake_any CT C _).mono ?_; rintro e w2 ⟨rfl, b2⟩)
    go_ret
    exact ⟨rfl, b2⟩
  have HI := hide hi
  clear hi hnc hcm hnil hwf
  have NW := hide (show Calls Try.prog 9 #[.slice (some ⟨w.heap.size, 0, none⟩) 2 2] (w.alloc (.cells #[.int .i64 1, .int .i64 9, .int .i64 2, .int .i64 9] 49)) fun e w' => ∃ T Q, e = .returned (.tuple #[.pointer (some ⟨T, 0, none⟩), .int .i64 0]) ∧ PT w' Q T twoW ∧ Below w.heap.size w w' ∧ ∀ i, Q i → w.heap.size ≤ i from
    rank_lit CT w twoW (by decide) (fun m hm => by simp [twoW] at hm; rcases hm with rfl | rfl <;> exact ⟨by decide, by decide⟩) (by decide))
  have K1 := hide (fun (w1 : World) (U Q : Nat → Prop) (T S : Nat) (h : Lin PK w w1 U Q T S ⟨twoW, [], []⟩) => by
    have := h.lock C (t := 50) (m := 0) (by decide) (by decide) (by decide)
    rw [show lockE ⟨twoW, [], []⟩ 50 0 = 0 by decide, show lockB ⟨twoW, [], []⟩ 50 0 = true by decide, show lockS ⟨twoW, [], []⟩ 50 0 = ⟨twoW, [⟨50, 0, 0⟩], []⟩ from rfl] at this
    exact this)
  have K2 := hide (fun (w1 : World) (U Q : Nat → Prop) (T S : Nat) (h : Lin PK w w1 U Q T S ⟨twoW, [⟨50, 0, 0⟩], []⟩) => by
    have := h.lock C (t := 50) (m := 1) (by decide) (by decide) (by decide)
    rw [show lockE ⟨twoW, [⟨50, 0, 0⟩], []⟩ 50 1 = 0 by decide, show lockB ⟨twoW, [⟨50, 0, 0⟩], []⟩ 50 1 = true by decide, show lockS ⟨twoW, [⟨50, 0, 0⟩], []⟩ 50 1 = sW [] from rfl] at this
    exact this)
  go_enter Try.func4, Try.ntmps4
  go_wp2_with (first
    | (go_at_call 9; refine NW.out.mono ?_; rintro e w1 ⟨T, Q, rfl, t1, b1, q1⟩; have T1 := hide t1; have B1 := hide b1; have Q1 := hide q1; clear t1 b1 q1)
    | (go_at_call 10; refine (lin_new C T1.out B1.out Q1.out).mono ?_; rintro e w2 ⟨S, U, rfl, h2⟩; have H2 := hide h2; clear h2)
    | (go_at_call 12; with_reducible refine (K1.out _ _ _ _ _ H2.out).mono ?_; rintro e w3 ⟨U3, rfl, h3, _, _⟩; have H3 := hide h3; clear h3)
    | (go_at_call 12; with_reducible refine (K2.out _ _ _ _ _ H3.out).mono ?_; rintro e w4 ⟨U4, rfl, h4, _, _⟩; have H4 := hide h4; clear h4)
    | (refine wpList_build rfl 49 _ rfl (by kernel_rfl) ?_))
  go_loopw [8, 9, 10, 11] (fun mv iv u10 u11 wr => ∃ (k : Nat) (ws : List Wt), k ≤ n ∧ iv = .int .i64 k ∧ mv = .int .i64 (ws.length : Nat) ∧ Hid (ws.length ≤ k ∧ WsOk ws ∧ ∃ U, Lin PK w wr U Q T S (sW ws))) (fun _ iv _ _ _ => n - (intOf iv).toNat)
  case atStart => exact ⟨0, [], Nat.zero_le _, rfl, rfl, Nat.le_refl _, ⟨by simp, by simp⟩, U4, H4.out⟩
  case round =>
    obtain ⟨k, ws, hk, rfl, rfl, hZ⟩ := hrel
    obtain ⟨z1, z2, U, z3⟩ := hZ.out
    have Z2 := hide z2
    have Z3 := hide z3
    clear hZ z2 z3
    have l0 : (0 : Int) ≤ (ws.length : Int) := by omega
    by_cases hlt : k < n
    · have k0 : (0 : Int) ≤ (k : Int) := by omega
      have k1 : (k : Int) < (n : Int) := by omega
      obtain ⟨b, off, rfl, hc⟩ := HI.out.2 (by omega)
      have c0 := (Z3.out.bel.cell (p := ⟨b, off + k, none⟩) (lt_of_cell? (hc k hlt))).trans (hc k hlt)
      clear hc
      go_upto_region 14 with (first
        | (go_at_call 11; refine (low_int _ 40 _ (by omega) (by omega)).mono ?_; rintro e w' ⟨⟨r, hr, rfl⟩, rfl⟩; have HR := hide hr; clear hr)
        | (go_at_call 12
           refine (Z3.out.lock C (t := (r : Int)) (m := 1) (wf_small (by omega) (by have := HR.out; omega)) (by decide) (by have := HR.out; omega)).mono ?_
           rw [(w_lock Z2.out HR.out).1]
           rintro e w5 ⟨U5, rfl, h5, _, _⟩
           obtain ⟨E, hE⟩ : ∃ E, E = lockE (sW ws) (r : Int) 1 := ⟨_, rfl⟩
           rw [← hE]
           have H5 := hide h5; have HE := hide hE; clear h5 hE c0))
      rcases (w_lock Z2.out HR.out).2 with ⟨x1, x2⟩ | ⟨x1, x2, x3⟩
      · have H6 := hide (show Lin PK w w5 U5 Q T S (sW ws) from by rw [← x2]; exact H5.out)
        obtain rfl : E = 5 := by rw [HE.out, x1]
        clear x1 x2 HE H5
        go_wp2_with fail
        go_roundw
        case rel => exact ⟨k + 1, ws, by omega, by go_num, rfl, by omega, Z2.out, U5, H6.out⟩
        case measure => simp [intOf]; omega
      · have H6 := hide (show Lin PK w w5 U5 Q T S (sW (ws ++ [⟨r, 1⟩])) from by rw [← x2]; exact H5.out)
        obtain rfl : E = 0 := by rw [HE.out, x1]
        have X3 := hide x3
        clear x1 x2 x3 HE H5
        go_wp2_with fail
        go_roundw
        case rel => exact ⟨k + 1, ws ++ [⟨r, 1⟩], by omega, by go_num, by simp, by simp; omega, X3.out, U5, H6.out⟩
        case measure => simp [intOf]; omega
    · obtain rfl : k = n := by omega
      obtain ⟨q, hq⟩ : ∃ q, q = ws.length := ⟨_, rfl⟩
      rw [← hq] at z1 l0 ⊢
      have HQ := hide hq
      clear hq
      go_upto_if 57 with fail
      go_cut [12, 13] (fun v ev wx => ∃ (va : Option Addr) (vc : Nat) (R : List Int) (U6 : Nat → Prop), v = .slice va q vc ∧ ev = .int .i64 0 ∧ Hid (R.Pairwise (· < ·) ∧ R.length = q ∧ (∀ x ∈ R, 0 ≤ x ∧ x < 40) ∧ Lin PK w wx U6 Q T S (sV lv) ∧ wx.ownsRow 0 3 1 (.slice va q vc) q (R.map (Value.int .i64)) ∧ RowBy U6 Q wx (.slice va q vc)))
      case first =>
        cases lv with
        | true =>
          go_wp2_with (first
            | (go_at_call 14
               refine (Z3.out.leave C (t := 50) (by decide)).mono ?_
               rw [(w_leave Z2.out).1]
               rintro e w6 ⟨v, R, U6, rfl, hr, h6, t6, u6⟩
               obtain ⟨e1, e2⟩ := w_woken Z2.out hr.1 (fun x => (hr.2.1 x).trans ((w_leave Z2.out).2 x))
               have o6 := hr.2.2.1
               rw [e1, ← HQ.out] at o6
               obtain ⟨va, vc, rfl⟩ := own_sliceI o6
               have W := hide (show R.Pairwise (· < ·) ∧ R.length = q ∧ (∀ x ∈ R, 0 ≤ x ∧ x < 40) ∧ Lin PK w w6 U6 Q T S (sV true) ∧ w6.ownsRow 0 3 1 (.slice va q vc) q (R.map (Value.int .i64)) ∧ RowBy U6 Q w6 (.slice va q vc) from
                 ⟨hr.1, by rw [e1, HQ.out], e2, h6, o6, hr.by_ C Z3.out.pk⟩)
               clear hr h6 t6 u6 e1 e2 o6))
          go_meet
          case rel => exact ⟨va, vc, R, U6, rfl, rfl, W.out⟩
        | false =>
          go_wp2_with (first
            | (go_at_call 13
               refine (Z3.out.unlock C (t := 50) (m := 1) (by decide) (by decide)).mono ?_
               rw [(w_unlock Z2.out).1, (w_unlock Z2.out).2.1]
               rintro e w6 ⟨v, R, U6, rfl, hr, h6, t6, u6⟩
               obtain ⟨e1, e2⟩ := w_woken Z2.out hr.1 (fun x => (hr.2.1 x).trans ((w_unlock Z2.out).2.2 x))
               have o6 := hr.2.2.1
               rw [e1, ← HQ.out] at o6
               obtain ⟨va, vc, rfl⟩ := own_sliceI o6
               have W := hide (show R.Pairwise (· < ·) ∧ R.length = q ∧ (∀ x ∈ R, 0 ≤ x ∧ x < 40) ∧ Lin PK w w6 U6 Q T S (sV false) ∧ w6.ownsRow 0 3 1 (.slice va q vc) q (R.map (Value.int .i64)) ∧ RowBy U6 Q w6 (.slice va q vc) from
                 ⟨hr.1, by rw [e1, HQ.out], e2, h6, o6, hr.by_ C Z3.out.pk⟩)
               clear hr h6 t6 u6 e1 e2 o6))
          go_meet
          case rel => exact ⟨va, vc, R, U6, rfl, rfl, W.out⟩
      case rest =>
        obtain ⟨va, vc, R, U6, rfl, rfl, hW⟩ := hcut
        have e1 : ((q : Int) != (q : Int)) = false := by simp
        have RI := hide (fun (W : World) (b : Below wc.heap.size wc W) => (own_intsI hW.out.2.2.2.2.1 hW.out.2.1).below b)
        have RL := hide hW.out.2.1
        have RP := hide hW.out.1
        have RB := hide hW.out.2.2.1
        have H7 := hide hW.out.2.2.2.1
        clear hW Z2 Z3 HQ NW K1 K2
        have q5 : q ≤ 5 := by omega
        go_wp2_with fail
        go_loopw [14] (fun iv wr => ∃ i : Nat, i ≤ q ∧ iv = .int .i64 i ∧ Hid (Lin PK w wr U6 Q T S (sV lv) ∧ Below wc.heap.size wc wr)) (fun iv _ => q - (intOf iv).toNat)
        case atStart => exact ⟨0, Nat.zero_le _, rfl, H7.out, Below.refl _ _⟩
        case round =>
          obtain ⟨i, hi, rfl, hZ⟩ := hrel
          have Z4 := hide hZ.out.1
          have Z5 := hide hZ.out.2
          clear hZ
          by_cases hlt : i < q
          · have i0 : (0 : Int) ≤ (i : Int) := by omega
            have i1 : (i : Int) < (q : Int) := by omega
            obtain ⟨x, hx⟩ : ∃ x, x = R.getD i 0 := ⟨_, rfl⟩
            have hxm : x ∈ R := by rw [hx, List.getD_eq_getElem?_getD, List.getElem?_eq_getElem (by rw [RL.out]; exact hlt)]; exact List.getElem_mem _
            have xb := RB.out x hxm
            have KW := hide (fun (W : World) (h : Lin PK w W U6 Q T S (sV lv)) => by
              have := C.waits h.pk (t := x) (wf_small (by omega) (by omega))
              rw [v_wait] at this
              exact this)
            obtain ⟨gb, go, rfl, hc⟩ := (RI.out wc (Below.refl _ _)).2 (by omega)
            clear hc
            by_cases hpos : 0 < (i : Int)
            · have hs : IntKind.i64.wrap ((i : Int) - 1) = (i : Int) - 1 := IntWalk.i64_in _ (by omega)
              have j0 : (1 : Int) ≤ (i : Int) := by omega
              have hposN : 0 < i := by omega
              have j1 : (i : Int) - 1 < (q : Int) := by omega
              have j2 : ((i : Int) - 1).toNat = i - 1 := by omega
              obtain ⟨y, hy⟩ : ∃ y, y = R.getD (i - 1) 0 := ⟨_, rfl⟩
              have hyx : ¬ x ≤ y := by
                have : y < x := by
                  rw [hx, hy, List.getD_eq_getElem?_getD, List.getD_eq_getElem?_getD, List.getElem?_eq_getElem (show i - 1 < R.length by rw [RL.out]; omega), List.getElem?_eq_getElem (show i < R.length by rw [RL.out]; exact hlt)]
                  exact List.pairwise_iff_getElem.1 RP.out _ _ _ _ (by omega)
                omega
              have CC := hide (fun (W : World) (b : Below wc.heap.size wc W) => show W.cell? ⟨gb, go + i, none⟩ = some (.int .i64 x) ∧ W.cell? ⟨gb, go + (i - 1), none⟩ = some (.int .i64 y) from by
                obtain ⟨gb', go', e, hc'⟩ := (RI.out W b).2 (by omega)
                injection e with e
                injection e with e3 e4
                subst e3 e4
                rw [hx, hy]
                exact ⟨hc' i hlt, hc' (i - 1) (by omega)⟩)
              have c0 := CC.out _ Z5.out
              clear hx hy hxm xb
              go_upto_region 28 with fail
              rename_i K9 k9
              refine wp_region_noPanic ?_
              refine wp_region_held_drew (S := (fun w' => w'.cell? ⟨gb, go + i, none⟩ = some (.int .i64 x) ∧ w'.cell? ⟨gb, go + (i - 1), none⟩ = some (.int .i64 y))) (by kernel_rfl) c0 (fun hHeld => ?_)
              refine wpAnyH_take (i := 0) (v := ?_) rfl (by kernel_rfl) (by kernel_rfl) (by kernel_rfl) (fun _ _ _ h => h) (Or.inl ⟨by kernel_rfl, ?_⟩) (by assumption) ?_
              rotate_left
              · intro w hSw
                (try dsimp only at hSw)
                go_simp
                try with_reducible rfl
              try simp only [Act.put, List.setIfInBounds_toArray, List.set_cons_zero, List.set_cons_succ]
              refine wpAnyH_take (i := 1) (v := ?_) rfl (by kernel_rfl) (by kernel_rfl) (by kernel_rfl) (fun _ _ _ h => h) (Or.inl ⟨by kernel_rfl, ?_⟩) (by assumption) ?_
              rotate_left
              · intro w hSw
                (try dsimp only at hSw)
                go_simp
                try with_reducible rfl
              try simp only [Act.put, List.setIfInBounds_toArray, List.set_cons_zero, List.set_cons_succ]
              refine wpAnyH_take (i := 2) (v := ?_) rfl (by kernel_rfl) (by kernel_rfl) (by kernel_rfl) (fun _ _ _ h => h) (Or.inl ⟨by kernel_rfl, ?_⟩) (by assumption) ?_
              rotate_left
              · intro w hSw
                (try dsimp only at hSw)
                go_simp
                try with_reducible rfl
              try simp only [Act.put, List.setIfInBounds_toArray, List.set_cons_zero, List.set_cons_succ]
              refine wpAnyH_take (i := 3) (v := ?_) rfl (by kernel_rfl) (by kernel_rfl) (by kernel_rfl) (fun _ _ _ h => h) (Or.inl ⟨by kernel_rfl, ?_⟩) (by assumption) ?_
              rotate_left
              · intro w hSw
                (try dsimp only at hSw)
                go_simp
                try with_reducible rfl
              try simp only [Act.put, List.setIfInBounds_toArray, List.set_cons_zero, List.set_cons_succ]
              refine wpAnyH_take (i := 4) (v := ?_) rfl (by kernel_rfl) (by kernel_rfl) (by kernel_rfl) (fun _ _ _ h => h) (Or.inl ⟨by kernel_rfl, ?_⟩) (by assumption) ?_
              rotate_left
              · intro w hSw
                (try dsimp only at hSw)
                go_simp
                try with_reducible rfl
              try simp only [Act.put, List.setIfInBounds_toArray, List.set_cons_zero, List.set_cons_succ]
              refine wpAnyH_ready (rs := [5]) (by kernel_rfl) (by simp) ?_
              refine AllReadyH.cons rfl (fun K hK => ?_) AllReadyH.nil
              go_simp
              go_at_call 16
              refine (KW.out _ (Z4.out.below C (below_drewN (Below.refl _ _) 1))).mono ?_
              rintro e w9 ⟨rfl, b9⟩
              have b10 := (below_drewN (Below.refl wr.heap.size wr) 1).trans b9
              have H9 := hide (Z4.out.below C b10)
              have B9 := hide (Z5.out.trans (b10.mono Z5.out.size))
              have c9 := CC.out _ B9.out
              clear b9 b10
              go_wp2_with fail
              refine hK.out _ _ c9 (fun hHeld => ?_)
              clear hK K
              try simp only [Act.put, List.setIfInBounds_toArray, List.set_cons_zero, List.set_cons_succ]
              refine wpAnyH_take (i := 6) (v := ?_) rfl (by kernel_rfl) (by kernel_rfl) (by kernel_rfl) (fun _ _ _ h => h) (Or.inl ⟨by kernel_rfl, ?_⟩) (by assumption) ?_
              rotate_left
              · intro w hSw
                (try dsimp only at hSw)
                go_simp
                try with_reducible rfl
              try simp only [Act.put, List.setIfInBounds_toArray, List.set_cons_zero, List.set_cons_succ]
              refine wpAnyH_take (i := 7) (v := ?_) rfl (by kernel_rfl) (by kernel_rfl) (by kernel_rfl) (fun _ _ _ h => h) (Or.inl ⟨by kernel_rfl, ?_⟩) (by assumption) ?_
              rotate_left
              · intro w hSw
                (try dsimp only at hSw)
                go_simp
                try with_reducible rfl
              try simp only [Act.put, List.setIfInBounds_toArray, List.set_cons_zero, List.set_cons_succ]
              refine wpAnyH_take (i := 8) (v := ?_) rfl (by kernel_rfl) (by kernel_rfl) (by kernel_rfl) (fun _ _ _ h => h) (Or.inl ⟨by kernel_rfl, ?_⟩) (by assumption) ?_
              rotate_left
              · intro w hSw
                (try dsimp only at hSw)
                go_simp
                try with_reducible rfl
              try simp only [Act.put, List.setIfInBounds_toArray, List.set_cons_zero, List.set_cons_succ]
              refine wpAnyH_take (i := 9) (v := ?_) rfl (by kernel_rfl) (by kernel_rfl) (by kernel_rfl) (fun _ _ _ h => h) (Or.inl ⟨by kernel_rfl, ?_⟩) (by assumption) ?_
              rotate_left
              · intro w hSw
                (try dsimp only at hSw)
                go_simp
                try with_reducible rfl
              try simp only [Act.put, List.setIfInBounds_toArray, List.set_cons_zero, List.set_cons_succ]
              refine wpAnyH_take (i := 10) (v := ?_) rfl (by kernel_rfl) (by kernel_rfl) (by kernel_rfl) (fun _ _ _ h => h) (Or.inl ⟨by kernel_rfl, ?_⟩) (by assumption) ?_
              rotate_left
              · intro w hSw
                (try dsimp only at hSw)
                go_simp
                try with_reducible rfl
              try simp only [Act.put, List.setIfInBounds_toArray, List.set_cons_zero, List.set_cons_succ]
              refine wpAnyH_take (i := 11) (v := ?_) rfl (by kernel_rfl) (by kernel_rfl) (by kernel_rfl) (fun _ _ _ h => h) (Or.inl ⟨by kernel_rfl, ?_⟩) (by assumption) ?_
              rotate_left
              · intro w hSw
                (try dsimp only at hSw)
                go_simp
                try with_reducible rfl
              try simp only [Act.put, List.setIfInBounds_toArray, List.set_cons_zero, List.set_cons_succ]
              refine wpAnyH_take (i := 12) (v := ?_) rfl (by kernel_rfl) (by kernel_rfl) (by kernel_rfl) (fun _ _ _ h => h) (Or.inl ⟨by kernel_rfl, ?_⟩) (by assumption) ?_
              rotate_left
              · intro w hSw
                (try dsimp only at hSw)
                go_simp
                try with_reducible rfl
              try simp only [Act.put, List.setIfInBounds_toArray, List.set_cons_zero, List.set_cons_succ]
              refine wpAnyH_take (i := 13) (v := ?_) rfl (by kernel_rfl) (by kernel_rfl) (by kernel_rfl) (fun _ _ _ h => h) (Or.inl ⟨by kernel_rfl, ?_⟩) (by assumption) ?_
              rotate_left
              · intro w hSw
                (try dsimp only at hSw)
                go_simp
                try with_reducible rfl
              try simp only [Act.put, List.setIfInBounds_toArray, List.set_cons_zero, List.set_cons_succ]
              refine wpAnyH_take (i := 14) (v := ?_) rfl (by kernel_rfl) (by kernel_rfl) (by kernel_rfl) (fun _ _ _ h => h) (Or.inl ⟨by kernel_rfl, ?_⟩) (by assumption) ?_
              rotate_left
              · intro w hSw
                (try dsimp only at hSw)
                go_simp
                try with_reducible rfl
              try simp only [Act.put, List.setIfInBounds_toArray, List.set_cons_zero, List.set_cons_succ]
              refine wpAnyH_take (i := 15) (v := ?_) rfl (by kernel_rfl) (by kernel_rfl) (by kernel_rfl) (fun _ _ _ h => h) (Or.inl ⟨by kernel_rfl, ?_⟩) (by assumption) ?_
              rotate_left
              · intro w hSw
                (try dsimp only at hSw)
                go_simp
                try with_reducible rfl
              try simp only [Act.put, List.setIfInBounds_toArray, List.set_cons_zero, List.set_cons_succ]
              refine wpAnyH_take (i := 16) (v := ?_) rfl (by kernel_rfl) (by kernel_rfl) (by kernel_rfl) (fun _ _ _ h => h) (Or.inl ⟨by kernel_rfl, ?_⟩) (by assumption) ?_
              rotate_left
              · intro w hSw
                (try dsimp only at hSw)
                go_simp
                try with_reducible rfl
              try simp only [Act.put, List.setIfInBounds_toArray, List.set_cons_zero, List.set_cons_succ]
              refine wpAnyH_take (i := 17) (v := ?_) rfl (by kernel_rfl) (by kernel_rfl) (by kernel_rfl) (fun _ _ _ h => h) (Or.inl ⟨by kernel_rfl, ?_⟩) (by assumption) ?_
              rotate_left
              · intro w hSw
                (try dsimp only at hSw)
                go_simp
                try with_reducible rfl
              try simp only [Act.put, List.setIfInBounds_toArray, List.set_cons_zero, List.set_cons_succ]
              refine wpAnyH_take (i := 18) (v := ?_) rfl (by kernel_rfl) (by kernel_rfl) (by kernel_rfl) (fun _ _ _ h => h) (Or.inl ⟨by kernel_rfl, ?_⟩) (by assumption) ?_
              rotate_left
              · intro w hSw
                (try dsimp only at hSw)
                go_simp
                try with_reducible rfl
              try simp only [Act.put, List.setIfInBounds_toArray, List.set_cons_zero, List.set_cons_succ]
              refine wpAnyH_take (i := 19) (v := ?_) rfl (by kernel_rfl) (by kernel_rfl) (by kernel_rfl) (fun _ _ _ h => h) (Or.inl ⟨by kernel_rfl, ?_⟩) (by assumption) ?_
              rotate_left
              · intro w hSw
                (try dsimp only at hSw)
                go_simp
                try with_reducible rfl
              try simp only [Act.put, List.setIfInBounds_toArray, List.set_cons_zero, List.set_cons_succ]
              refine wpAnyH_take (i := 20) (v := ?_) rfl (by kernel_rfl) (by kernel_rfl) (by kernel_rfl) (fun _ _ _ h => h) (Or.inl ⟨by kernel_rfl, ?_⟩) (by assumption) ?_
              rotate_left
              · intro w hSw
                (try dsimp only at hSw)
                go_simp
                try with_reducible rfl
              try simp only [Act.put, List.setIfInBounds_toArray, List.set_cons_zero, List.set_cons_succ]
              refine wpAnyH_take (i := 21) (v := ?_) rfl (by kernel_rfl) (by kernel_rfl) (by kernel_rfl) (fun _ _ _ h => h) (Or.inl ⟨by kernel_rfl, ?_⟩) (by assumption) ?_
              rotate_left
              · intro w hSw
                (try dsimp only at hSw)
                go_simp
                try with_reducible rfl
              try simp only [Act.put, List.setIfInBounds_toArray, List.set_cons_zero, List.set_cons_succ]
              refine wpAnyH_take (i := 22) (v := ?_) rfl (by kernel_rfl) (by kernel_rfl) (by kernel_rfl) (fun _ _ _ h => h) (Or.inl ⟨by kernel_rfl, ?_⟩) (by assumption) ?_
              rotate_left
              · intro w hSw
                (try dsimp only at hSw)
                go_simp
                try with_reducible rfl
              try simp only [Act.put, List.setIfInBounds_toArray, List.set_cons_zero, List.set_cons_succ]
              refine wpAnyH_done (by kernel_rfl) ?_ _
              go_simp
              refine NoPanic.normal ?_
              refine k9 _ _ ?_
              go_wp2_with fail
              go_roundw
              case rel => exact ⟨i + 1, by omega, by go_num, H9.out, B9.out⟩
              case measure => simp [intOf]; omega
            · have hpos2 : ¬ ((0 : Int) < (i : Int)) := hpos
              have hposN : ¬ 0 < i := by omega
              have CC := hide (fun (W : World) (b : Below wc.heap.size wc W) => show W.cell? ⟨gb, go + i, none⟩ = some (.int .i64 x) from by
                obtain ⟨gb', go', e, hc'⟩ := (RI.out W b).2 (by omega)
                injection e with e
                injection e with e3 e4
                subst e3 e4
                rw [hx]
                exact hc' i hlt)
              have c0 := CC.out _ Z5.out
              clear hx hxm xb
              go_upto_region 28 with fail
              rename_i K9 k9
              refine wp_region_noPanic ?_
              refine wp_region_held_drew (S := (fun w' => w'.cell? ⟨gb, go + i, none⟩ = some (.int .i64 x))) (by kernel_rfl) c0 (fun hHeld => ?_)
              refine wpAnyH_take (i := 0) (v := ?_) rfl (by kernel_rfl) (by kernel_rfl) (by kernel_rfl) (fun _ _ _ h => h) (Or.inl ⟨by kernel_rfl, ?_⟩) (by assumption) ?_
              rotate_left
              · intro w hSw
                (try dsimp only at hSw)
                go_simp
                try with_reducible rfl
              try simp only [Act.put, List.setIfInBounds_toArray, List.set_cons_zero, List.set_cons_succ]
              refine wpAnyH_take (i := 1) (v := ?_) rfl (by kernel_rfl) (by kernel_rfl) (by kernel_rfl) (fun _ _ _ h => h) (Or.inl ⟨by kernel_rfl, ?_⟩) (by assumption) ?_
              rotate_left
              · intro w hSw
                (try dsimp only at hSw)
                go_simp
                try with_reducible rfl
              try simp only [Act.put, List.setIfInBounds_toArray, List.set_cons_zero, List.set_cons_succ]
              refine wpAnyH_take (i := 2) (v := ?_) rfl (by kernel_rfl) (by kernel_rfl) (by kernel_rfl) (fun _ _ _ h => h) (Or.inl ⟨by kernel_rfl, ?_⟩) (by assumption) ?_
              rotate_left
              · intro w hSw
                (try dsimp only at hSw)
                go_simp
                try with_reducible rfl
              try simp only [Act.put, List.setIfInBounds_toArray, List.set_cons_zero, List.set_cons_succ]
              refine wpAnyH_take (i := 3) (v := ?_) rfl (by kernel_rfl) (by kernel_rfl) (by kernel_rfl) (fun _ _ _ h => h) (Or.inl ⟨by kernel_rfl, ?_⟩) (by assumption) ?_
              rotate_left
              · intro w hSw
                (try dsimp only at hSw)
                go_simp
                try with_reducible rfl
              try simp only [Act.put, List.setIfInBounds_toArray, List.set_cons_zero, List.set_cons_succ]
              refine wpAnyH_take (i := 4) (v := ?_) rfl (by kernel_rfl) (by kernel_rfl) (by kernel_rfl) (fun _ _ _ h => h) (Or.inl ⟨by kernel_rfl, ?_⟩) (by assumption) ?_
              rotate_left
              · intro w hSw
                (try dsimp only at hSw)
                go_simp
                try with_reducible rfl
              try simp only [Act.put, List.setIfInBounds_toArray, List.set_cons_zero, List.set_cons_succ]
              refine wpAnyH_ready (rs := [5]) (by kernel_rfl) (by simp) ?_
              refine AllReadyH.cons rfl (fun K hK => ?_) AllReadyH.nil
              go_simp
              go_at_call 16
              refine (KW.out _ (Z4.out.below C (below_drewN (Below.refl _ _) 1))).mono ?_
              rintro e w9 ⟨rfl, b9⟩
              have b10 := (below_drewN (Below.refl wr.heap.size wr) 1).trans b9
              have H9 := hide (Z4.out.below C b10)
              have B9 := hide (Z5.out.trans (b10.mono Z5.out.size))
              have c9 := CC.out _ B9.out
              clear b9 b10
              go_wp2_with fail
              refine hK.out _ _ c9 (fun hHeld => ?_)
              clear hK K
              try simp only [Act.put, List.setIfInBounds_toArray, List.set_cons_zero, List.set_cons_succ]
              refine wpAnyH_take (i := 6) (v := ?_) rfl (by kernel_rfl) (by kernel_rfl) (by kernel_rfl) (fun _ _ _ h => h) (Or.inl ⟨by kernel_rfl, ?_⟩) (by assumption) ?_
              rotate_left
              · intro w hSw
                (try dsimp only at hSw)
                go_simp
                try with_reducible rfl
              try simp only [Act.put, List.setIfInBounds_toArray, List.set_cons_zero, List.set_cons_succ]
              refine wpAnyH_take (i := 7) (v := ?_) rfl (by kernel_rfl) (by kernel_rfl) (by kernel_rfl) (fun _ _ _ h => h) (Or.inl ⟨by kernel_rfl, ?_⟩) (by assumption) ?_
              rotate_left
              · intro w hSw
                (try dsimp only at hSw)
                go_simp
                try with_reducible rfl
              try simp only [Act.put, List.setIfInBounds_toArray, List.set_cons_zero, List.set_cons_succ]
              refine wpAnyH_take (i := 8) (v := ?_) rfl (by kernel_rfl) (by kernel_rfl) (by kernel_rfl) (fun _ _ _ h => h) (Or.inl ⟨by kernel_rfl, ?_⟩) (by assumption) ?_
              rotate_left
              · intro w hSw
                (try dsimp only at hSw)
                go_simp
                try with_reducible rfl
              try simp only [Act.put, List.setIfInBounds_toArray, List.set_cons_zero, List.set_cons_succ]
              refine wpAnyH_take (i := 9) (v := ?_) rfl (by kernel_rfl) (by kernel_rfl) (by kernel_rfl) (fun _ _ _ h => h) (Or.inl ⟨by kernel_rfl, ?_⟩) (by assumption) ?_
              rotate_left
              · intro w hSw
                (try dsimp only at hSw)
                go_simp
                try with_reducible rfl
              try simp only [Act.put, List.setIfInBounds_toArray, List.set_cons_zero, List.set_cons_succ]
              refine wpAnyH_take (i := 10) (v := ?_) rfl (by kernel_rfl) (by kernel_rfl) (by kernel_rfl) (fun _ _ _ h => h) (Or.inl ⟨by kernel_rfl, ?_⟩) (by assumption) ?_
              rotate_left
              · intro w hSw
                (try dsimp only at hSw)
                go_simp
                try with_reducible rfl
              try simp only [Act.put, List.setIfInBounds_toArray, List.set_cons_zero, List.set_cons_succ]
              refine wpAnyH_take (i := 11) (v := undef) rfl (by kernel_rfl) (by kernel_rfl) (by kernel_rfl) (fun _ _ _ h => h) (Or.inr ⟨by kernel_rfl, rfl⟩) (by assumption) ?_
              try simp only [Act.put, List.setIfInBounds_toArray, List.set_cons_zero, List.set_cons_succ]
              refine wpAnyH_take (i := 12) (v := undef) rfl (by kernel_rfl) (by kernel_rfl) (by kernel_rfl) (fun _ _ _ h => h) (Or.inr ⟨by kernel_rfl, rfl⟩) (by assumption) ?_
              try simp only [Act.put, List.setIfInBounds_toArray, List.set_cons_zero, List.set_cons_succ]
              refine wpAnyH_take (i := 13) (v := undef) rfl (by kernel_rfl) (by kernel_rfl) (by kernel_rfl) (fun _ _ _ h => h) (Or.inr ⟨by kernel_rfl, rfl⟩) (by assumption) ?_
              try simp only [Act.put, List.setIfInBounds_toArray, List.set_cons_zero, List.set_cons_succ]
              refine wpAnyH_take (i := 14) (v := undef) rfl (by kernel_rfl) (by kernel_rfl) (by kernel_rfl) (fun _ _ _ h => h) (Or.inr ⟨by kernel_rfl, rfl⟩) (by assumption) ?_
              try simp only [Act.put, List.setIfInBounds_toArray, List.set_cons_zero, List.set_cons_succ]
              refine wpAnyH_take (i := 15) (v := undef) rfl (by kernel_rfl) (by kernel_rfl) (by kernel_rfl) (fun _ _ _ h => h) (Or.inr ⟨by kernel_rfl, rfl⟩) (by assumption) ?_
              try simp only [Act.put, List.setIfInBounds_toArray, List.set_cons_zero, List.set_cons_succ]
              refine wpAnyH_take (i := 16) (v := undef) rfl (by kernel_rfl) (by kernel_rfl) (by kernel_rfl) (fun _ _ _ h => h) (Or.inr ⟨by kernel_rfl, rfl⟩) (by assumption) ?_
              try simp only [Act.put, List.setIfInBounds_toArray, List.set_cons_zero, List.set_cons_succ]
              refine wpAnyH_take (i := 17) (v := undef) rfl (by kernel_rfl) (by kernel_rfl) (by kernel_rfl) (fun _ _ _ h => h) (Or.inr ⟨by kernel_rfl, rfl⟩) (by assumption) ?_
              try simp only [Act.put, List.setIfInBounds_toArray, List.set_cons_zero, List.set_cons_succ]
              refine wpAnyH_take (i := 18) (v := undef) rfl (by kernel_rfl) (by kernel_rfl) (by kernel_rfl) (fun _ _ _ h => h) (Or.inr ⟨by kernel_rfl, rfl⟩) (by assumption) ?_
              try simp only [Act.put, List.setIfInBounds_toArray, List.set_cons_zero, List.set_cons_succ]
              refine wpAnyH_take (i := 19) (v := undef) rfl (by kernel_rfl) (by kernel_rfl) (by kernel_rfl) (fun _ _ _ h => h) (Or.inr ⟨by kernel_rfl, rfl⟩) (by assumption) ?_
              try simp only [Act.put, List.setIfInBounds_toArray, List.set_cons_zero, List.set_cons_succ]
              refine wpAnyH_take (i := 20) (v := undef) rfl (by kernel_rfl) (by kernel_rfl) (by kernel_rfl) (fun _ _ _ h => h) (Or.inr ⟨by kernel_rfl, rfl⟩) (by assumption) ?_
              try simp only [Act.put, List.setIfInBounds_toArray, List.set_cons_zero, List.set_cons_succ]
              refine wpAnyH_take (i := 21) (v := ?_) rfl (by kernel_rfl) (by kernel_rfl) (by kernel_rfl) (fun _ _ _ h => h) (Or.inl ⟨by kernel_rfl, ?_⟩) (by assumption) ?_
              rotate_left
              · intro w hSw
                (try dsimp only at hSw)
                go_simp
                try with_reducible rfl
              try simp only [Act.put, List.setIfInBounds_toArray, List.set_cons_zero, List.set_cons_succ]
              refine wpAnyH_take (i := 22) (v := ?_) rfl (by kernel_rfl) (by kernel_rfl) (by kernel_rfl) (fun _ _ _ h => h) (Or.inl ⟨by kernel_rfl, ?_⟩) (by assumption) ?_
              rotate_left
              · intro w hSw
                (try dsimp only at hSw)
                go_simp
                try with_reducible rfl
              try simp only [Act.put, List.setIfInBounds_toArray, List.set_cons_zero, List.set_cons_succ]
              refine wpAnyH_done (by kernel_rfl) ?_ _
              go_simp
              refine NoPanic.normal ?_
              refine k9 _ _ ?_
              go_wp2_with fail
              go_roundw
              case rel => exact ⟨i + 1, by omega, by go_num, H9.out, B9.out⟩
              case measure => simp [intOf]; omega
          · obtain rfl : i = q := by omega
            by_cases hq0 : (i : Int) = 0
            · rw [hq0]
              go_wp2_with (first
                | (go_at_call 8; refine (lkawake_any CT C _).mono ?_; rintro e w10 ⟨rfl, b10⟩; have B10 := hide (Z4.out.bel.trans (b10.mono Z4.out.bel.size)); clear b10))
              go_ret
              exact ⟨rfl, B10.out⟩
            · have q0 : 0 < i := by omega
              have q1 : (1 : Int) ≤ (i : Int) := by omega
              have hs : IntKind.i64.wrap ((i : Int) - 1) = (i : Int) - 1 := IntWalk.i64_in _ (by omega)
              have j1 : (i : Int) - 1 < (i : Int) := by omega
              have j2 : ((i : Int) - 1).toNat = i - 1 := by omega
              have q2 : ¬ ((i : Int) == 0) = true := by simp; omega
              have q3 : ((i : Int) == 0) = false := by simp; omega
              obtain ⟨x, hx⟩ : ∃ x, x = R.getD (i - 1) 0 := ⟨_, rfl⟩
              have hxm : x ∈ R := by rw [hx, List.getD_eq_getElem?_getD, List.getElem?_eq_getElem (show i - 1 < R.length by rw [RL.out]; omega)]; exact List.getElem_mem _
              have xb := RB.out x hxm
              have v1 := v_lock lv xb.1 xb.2
              obtain ⟨gb, go, rfl, hc⟩ := (RI.out wr Z5.out).2 q0
              have c0 : wr.cell? ⟨gb, go + (i - 1), none⟩ = some (.int .i64 x) := by rw [hx]; exact hc (i - 1) (by omega)
              have KL := hide (by
                have := Z4.out.lock C (t := x) (m := 1) (wf_small (by omega) (by omega)) (by decide) (by omega)
                rw [v1.1, v1.2.1] at this
                exact this)
              have KO := hide (fun (W : World) (U7 : Nat → Prop) (h : Lin PK w W U7 Q T S (lockS (sV lv) x 1)) => by
                have := C.owner h.pk (m := 0) (by decide)
                rw [v1.2.2] at this
                exact this)
              clear hc hx hxm xb v1 RI
              cases lv with
              | true =>
                go_wp2_with (first
                  | (go_at_call 12; refine KL.out.mono ?_; rintro e w10 ⟨U10, rfl, h10, _, _⟩; have H10 := hide h10; clear h10)
                  | (go_at_call 17; refine (KO.out _ _ H10.out).mono ?_; rintro e w11 ⟨rfl, b11⟩; have H11 := hide (H10.out.below C b11); clear b11)
                  | (go_at_call 8; refine (lkawake_any CT C _).mono ?_; rintro e w12 ⟨rfl, b12⟩; have B12 := hide (H11.out.bel.trans (b12.mono H11.out.bel.size)); clear b12))
                go_ret
                exact ⟨rfl, B12.out⟩
              | false =>
                go_wp2_with (first
                  | (go_at_call 12; refine KL.out.mono ?_; rintro e w10 ⟨U10, rfl, h10, _, _⟩; have H10 := hide h10; clear h10)
                  | (go_at_call 17; refine (KO.out _ _ H10.out).mono ?_; rintro e w11 ⟨rfl, b11⟩; have H11 := hide (H10.out.below C b11); clear b11)
                  | (go_at_call 8; refine (lkawake_any CT C _).mono ?_; rintro e w12 ⟨rfl, b12⟩; have B12 := hide (H11.out.bel.trans (b12.mono H11.out.bel.size)); clear b12))
                go_ret
                exact ⟨rfl, B12.out⟩
end
end Go.Proofs.Yteeofpjfgjhemaa
