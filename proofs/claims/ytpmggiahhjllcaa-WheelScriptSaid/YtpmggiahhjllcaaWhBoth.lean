/-
  Contracts of the program's wheel, its memory left open (PWheel); the program's wheel beside the document's.
-/
import Derived.Test.YtpmggiahhjllcaaWrTick
import Derived.Test.YtpmggiahhjllcaaFrLow
import Derived.Test.YtpmggiahhjllcaaRowsIn
import Derived.Deep.RegionLaw
namespace Go.Proofs.Ytpmggiahhjllcaa
open Go.ChangeShapes Go.WideShapes Go.ChangeAt Go.RowKit
set_option linter.unusedVariables false
/-- A call of one side: what it answers, what is then. -/
def Side (P : World → (Nat → Prop) → Prop) (U : Nat → Prop) (w : World) (v : Value) (e : Ending) (w' : World) : Prop :=
  e = .returned v ∧ ∃ U', P w' U' ∧ Touch U w w' ∧ ∀ i, U' i → U i ∨ w.heap.size ≤ i
/-- What Tick leaves: the row of those that went off is nobody's. -/
def Ticked (P : World → (Nat → Prop) → Ws → Prop) (U : Nat → Prop) (s : Ws) (w : World) (e : Ending) (w' : World) : Prop :=
  ∃ A c, e = .returned (.tuple #[.slice A (gone s).length c, .int .i64 (moved s : Nat)]) ∧ w'.ownsRow 0 3 1 (.slice A (gone s).length c) (gone s).length ((goneI s).map (Value.int .i64)) ∧
    ∃ U', P w' U' (tickS s) ∧ Touch U w w' ∧ (∀ i, U' i → U i ∨ w.heap.size ≤ i) ∧ ∀ i, (Value.slice A (gone s).length c).ownBlock = some i → ¬ U' i ∧ (U i ∨ w.heap.size ≤ i)
structure PWheel (PW : World → (Nat → Prop) → Nat → Ws → Prop) : Prop where
  keep : ∀ {V U : Nat → Prop} {w w' : World} {S : Nat} {s : Ws}, PW w U S s → Touch V w w' → (∀ i, U i → ¬ V i) → PW w' U S s
  lt : ∀ {U : Nat → Prop} {w : World} {S : Nat} {s : Ws}, PW w U S s → ∀ i, U i → i < w.heap.size
  good : ∀ {U : Nat → Prop} {w : World} {S : Nat} {s : Ws}, PW w U S s → GoodW s
  new : ∀ (w : World) (n : Nat), n < 16777216 → Calls Try.prog 10 #[.int .i64 (n : Int)] w fun e w' => ∃ S U, e = .returned (.tuple #[.pointer (some ⟨S, 0, none⟩), .int .i64 0]) ∧ PW w' U S ⟨n, []⟩ ∧ Below w.heap.size w w' ∧ ∀ i, U i → w.heap.size ≤ i
  bad : ∀ (w : World) (n : Int), (Lit.int .i64 n).wf = true → n < 0 ∨ 16777216 ≤ n → Calls Try.prog 10 #[.int .i64 n] w fun e w' => e = .returned (.tuple #[.pointer none, .int .i64 2]) ∧ Below w.heap.size w w'
  arm : ∀ {U : Nat → Prop} {w : World} {S : Nat} {s : Ws}, PW w U S s → ∀ {id a : Int}, (Lit.int .i64 id).wf = true → (Lit.int .i64 a).wf = true →
    Calls Try.prog 13 #[.pointer (some ⟨S, 0, none⟩), .int .i64 id, .int .i64 a] w (Side (fun w' U' => PW w' U' S (armS s id a)) U w (.int .i64 (armE s id a : Nat)))
  can : ∀ {U : Nat → Prop} {w : World} {S : Nat} {s : Ws}, PW w U S s → ∀ {id : Int}, (Lit.int .i64 id).wf = true →
    Calls Try.prog 15 #[.pointer (some ⟨S, 0, none⟩), .int .i64 id] w (Side (fun w' U' => PW w' U' S (canS s id)) U w (.bool (armed s.l id)))
  tick : ∀ {U : Nat → Prop} {w : World} {S : Nat} {s : Ws}, PW w U S s → Calls Try.prog 18 #[.pointer (some ⟨S, 0, none⟩)] w (Ticked (fun w' U' s' => PW w' U' S s') U s w)
  at_ : ∀ {U : Nat → Prop} {w : World} {S : Nat} {s : Ws}, PW w U S s → ∀ {id : Int}, (Lit.int .i64 id).wf = true →
    Calls Try.prog 25 #[.pointer (some ⟨S, 0, none⟩), .int .i64 id] w fun e w' => e = .returned (.tuple #[.int .i64 ((atOf s.l id).getD 0 : Nat), .bool (atOf s.l id).isSome]) ∧ Below w.heap.size w w'
  place : ∀ {U : Nat → Prop} {w : World} {S : Nat} {s : Ws}, PW w U S s → ∀ {id : Int}, (Lit.int .i64 id).wf = true →
    Calls Try.prog 24 #[.pointer (some ⟨S, 0, none⟩), .int .i64 id] w fun e w' => e = .returned (.tuple #[.int .i64 (((atOf s.l id).map (ring s.now)).getD 0 : Nat), .int .i64 (((atOf s.l id).map (slot s.now)).getD 0 : Nat), .bool (atOf s.l id).isSome]) ∧ Below w.heap.size w w'
  len : ∀ {U : Nat → Prop} {w : World} {S : Nat} {s : Ws}, PW w U S s →
    Calls Try.prog 23 #[.pointer (some ⟨S, 0, none⟩)] w fun e w' => e = .returned (.int .i64 (s.l.length : Nat)) ∧ Below w.heap.size w w'
  now : ∀ {U : Nat → Prop} {w : World} {S : Nat} {s : Ws}, PW w U S s →
    Calls Try.prog 26 #[.pointer (some ⟨S, 0, none⟩)] w fun e w' => e = .returned (.int .i64 (s.now : Nat)) ∧ Below w.heap.size w w'
theorem wrtick_any {w : World} {G : Nat → Prop} {S : Nat} {s : Ws} (h : Wr w G S s) : Calls Try.prog 19 #[.pointer (some ⟨S, 0, none⟩)] w (Ticked (fun w' U' s' => Wr w' U' S s') G s w) := by
  by_cases e : s.now = 16777215
  · refine (wrtick_last h e).mono ?_
    rintro en w' ⟨rfl, rfl⟩
    have hl := h.good.last e
    have h1 : gone s = [] := by unfold gone; rw [hl]; rfl
    have h2 : moved s = 0 := by unfold moved rest; rw [hl]; rfl
    have h3 : tickS s = s := by unfold tickS; rw [if_pos e]
    unfold Ticked goneI
    rw [h1, h2, h3]
    exact ⟨none, 0, rfl, World.ownsRow_nil _ _ _ _, G, h, Touch.refl _ _, fun i hi => .inl hi, fun i hi => by cases hi⟩
  · refine (wrtick_ok h e).mono ?_
    rintro en w' ⟨A, c, h1, h2, G', h3, h4, h5, h6⟩
    exact ⟨A, c, h1, own_base h2 (Nat.zero_le _), G', h3, h4, h5, fun i hi => ⟨h6 i hi, .inr (h2.lt i hi).1⟩⟩
theorem wrarm_any {w : World} {G : Nat → Prop} {S : Nat} {s : Ws} (h : Wr w G S s) (id a : Int) : Calls Try.prog 14 #[.pointer (some ⟨S, 0, none⟩), .int .i64 id, .int .i64 a] w (Side (fun w' U' => Wr w' U' S (armS s id a)) G w (.int .i64 (armE s id a : Nat))) := by
  by_cases e : armE s id a = 0
  · refine (wrarm_ok h id a e).mono ?_
    rintro en w' ⟨rfl, G', g1, g2, g3⟩
    exact ⟨by rw [e]; rfl, G', g1, g2, g3⟩
  · refine (wrarm_err h id a e).mono ?_
    rintro en w' ⟨rfl, rfl⟩
    exact ⟨rfl, G, by unfold armS; rw [if_neg e]; exact h, Touch.refl _ _, fun i hi => .inl hi⟩
set_option maxHeartbeats 800000 in
theorem over_touch (v : Value) (n : Nat) (xs : List Value) (w : World) {B : Nat} (hv : w.ownsRow B 3 1 v n xs) (hn : n ≤ 1000000) :
    Calls Try.prog 21 #[v] w fun e w' => e = .returned (.tuple #[]) ∧ Touch (fun i => v.ownBlock = some i) w w' := by
  obtain ⟨i0, hi0, hz0, hz1, hz2⟩ := info_parts int_info
  obtain ⟨a, c, rfl, _⟩ := own_sliceR hv
  go_enter Try.func21, Try.ntmps21
  go_wp2_with fail
  go_loopw [2] (fun i wr => ∃ (k : Nat) (ys : List Value), k ≤ n ∧ i = .int .i64 k ∧ wr.ownsRow B 3 1 (.slice a n c) n ys ∧ Hid (Touch (fun i => (Value.slice a n c).ownBlock = some i) w wr)) (fun i _ => n - (intOf i).toNat)
  case atStart => exact ⟨0, xs, Nat.zero_le _, rfl, hv, Touch.refl _ _⟩
  case round =>
    obtain ⟨k, ys, hk, rfl, ho, hb⟩ := hrel
    by_cases hlt : k < n
    · obtain ⟨g, cap, e⟩ : ∃ g cap, (Value.slice a n c) = .slice (some ⟨g, 0, none⟩) n cap := by
        rcases ho.2 with ⟨_, h⟩ | ⟨g, cap, cur, e, _⟩
        · omega
        · exact ⟨_, _, e⟩
      injection e with e1 _ e2
      subst e1 e2
      have hl : ys.length = n := by have := ho.1; omega
      have hc := ho.cellAt k (by omega)
      rw [List.getElem?_eq_getElem (by omega)] at hc
      have hf := ho.frozenAt k
      have S := (ho.stored k (.int .i64 (-999))).1
      have B1 := hide (hb.out.setCell (p := ⟨g, k, none⟩) rfl (.int .i64 (-999)))
      clear ho hb hv
      go_wp2_with fail
      go_roundw
      case rel => exact ⟨k + 1, _, by omega, by go_num, S, B1⟩
      case measure => simp [intOf]; omega
    · have HO := hide ho
      clear hv ho
      go_wp2_with (at_builtin; refine wpList_append_src rfl (.tmp 12) (.tmp 13) _ rfl 0 3 i0 _ 8 Try.underlying37 hi0 hz0 hz1 hz2 rfl _ _ _ rfl (own_base (HO.out.alloc _) (Nat.zero_le _)) .i64 _ 1 _ [-999] rfl (ints_cell1 _ _ _ _ _ rfl) (fun h => by cases h) (by unfold maxLen; omega) (by omega) (Nat.zero_le _) ?_; intro v' w' o' g' t'; have hr' := hide ((hb.out.alloc _).trans (Touch.of_grown (S := fun i => (Value.slice a n c).ownBlock = some i) g' (fun g e => e)) (fun i e => .inl e)); clear g' t')
      go_end0
      exact ⟨rfl, hr'.out⟩
theorem num_any (w : World) (x : Int) : Calls Try.prog 12 #[.int .i64 x] w fun e w' => e = .returned (.int .i64 x) ∧ w = w' := by
  go_enter Try.func12, Try.ntmps12
  go_wp2_with fail
  go_ret
  exact ⟨rfl, rfl⟩
section
variable {PW : World → (Nat → Prop) → Nat → Ws → Prop}
theorem PWheel.below (C : PWheel PW) {U : Nat → Prop} {w w' : World} {S : Nat} {s : Ws} (h : PW w U S s) (b : Below w.heap.size w w') : PW w' U S s := C.keep h (Touch.of_below (S := fun _ => False) b) (fun _ _ e => e)
set_option maxHeartbeats 2000000 in
theorem wawake_any (C : PWheel PW) (w : World) : Calls Try.prog 9 #[] w fun e w' => e = .returned (.bool true) ∧ Below w.heap.size w w' := by
  have a1 : armE ⟨0, []⟩ 1 65 = 0 := by decide
  have a2 : armS ⟨0, []⟩ 1 65 = ⟨0, [⟨1, 65⟩]⟩ := rfl
  have a3 : atOf [⟨1, 65⟩] 1 = some 65 := by decide
  have a4 : ring 0 65 = 1 := by decide
  have a5 : slot 0 65 = 1 := by decide
  go_enter Try.func9, Try.ntmps9
  go_wp2_with fail
  go_at_call 10
  refine (C.new _ 0 (by omega)).mono ?_
  rintro e w1 ⟨S, U, rfl, p1, b1, l1⟩
  have P1 := hide p1
  have B1 := hide b1
  have L1 := hide l1
  clear p1 b1 l1
  go_wp2_with fail
  go_at_call 13
  refine (C.arm P1.out (by decide) (by decide)).mono ?_
  rw [a1, a2]
  rintro e w2 ⟨rfl, U2, p2, t2, u2⟩
  have P2 := hide p2
  have B2 := hide (B1.out.trans (t2.below B1.out.size L1.out))
  clear p2 t2 u2 B1 P1 L1
  go_wp2_with fail
  go_at_call 24
  refine (C.place P2.out (by decide)).mono ?_
  rintro e w3 ⟨he, b3⟩
  have he2 : e = .returned (.tuple #[.int .i64 1, .int .i64 1, .bool true]) := he.trans (by show _ = Ending.returned (.tuple #[.int .i64 ((1 : Nat) : Int), .int .i64 ((1 : Nat) : Int), .bool true]); rw [a3]; simp [a4, a5])
  clear he
  subst he2
  have P3 := hide (C.below P2.out b3)
  have B3 := hide (B2.out.trans (b3.mono B2.out.size))
  clear b3
  go_wp2_with (go_at_call 23; refine (C.len P3.out).mono ?_; rintro e w4 ⟨rfl, b4⟩)
  go_ret
  exact ⟨rfl, B3.out.trans (b4.mono B3.out.size)⟩
end
end Go.Proofs.Ytpmggiahhjllcaa
