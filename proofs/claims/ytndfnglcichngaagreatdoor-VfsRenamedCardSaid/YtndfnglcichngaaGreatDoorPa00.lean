/-
  Several texts as one: Kit PtPlain Low.
-/
import Derived.Test.YtndfnglcichngaaGreatDoorRows
import Derived.WalkKit
import Derived.ProofKit
import Derived.OpenShut
import Derived.LoopTactic
import Derived.Outline
import Derived.ChangeOld
import Derived.Below
import Derived.WalkSmall
namespace Go.Proofs.YtndfnglcichngaaGreatDoor
open Go.ChangeShapes Go.WideShapes Go.ChangeAt Go.RowKit
set_option linter.unusedVariables false
theorem hide {p : Prop} (h : p) : Hid p := h
theorem ret_val {k : IntKind} {a b : Int} (h : a = b) : Value.int k a = .int k b := by rw [h]
theorem ret_int {k : IntKind} {a b : Int} (h : a = b) : Ending.returned (.int k a) = .returned (.int k b) := by rw [h]
theorem ret_bool {a b : Bool} (h : a = b) : Ending.returned (.bool a) = .returned (.bool b) := by rw [h]
theorem own : ownKnob Tryz.prog.godebug = none := by kernel_rfl
theorem laidOut : laidOutB Tryz.prog = true := by kernel_rfl
theorem take_succ_getD (l : List Int) (k : Nat) (h : k < l.length) : l.take (k + 1) = l.take k ++ [l.getD k 0] := by
  rw [List.take_succ_eq_append_getElem h]; simp [List.getD, h]
/-- A slice of n integers that reads as 'xs', nil let in. -/
def Ints (q : IntKind) (w : World) (a : Option Addr) (n : Nat) (xs : List Int) : Prop :=
  xs.length = n ∧ (0 < n → ∃ b off, a = some ⟨b, off, none⟩ ∧ ∀ j, j < n → w.cell? ⟨b, off + j, none⟩ = some (.int q (xs.getD j 0)))
/-- What comes in: a slice that reads as 'xs', each fitting its kind, its length and room within the model's bound. -/
def CameIn (q : IntKind) (w : World) (a : Option Addr) (n c : Nat) (xs : List Int) : Prop :=
  Ints q w a n xs ∧ n ≤ c ∧ c ≤ maxLen ∧ (a = none → c = 0) ∧ ∀ x ∈ xs, (Lit.int q x).wf = true
theorem lt_of_cell? {w : World} {a : Addr} {v : Value} (h : w.cell? a = some v) : a.block < w.heap.size := by
  unfold World.cell? at h
  rcases Nat.lt_or_ge a.block w.heap.size with hlt | hge
  · exact hlt
  · rw [Array.getElem?_eq_none hge] at h; cases h
theorem cameIn_open {q : IntKind} {w : World} {x : Addr} {l c : Nat} {zs : List Int} (hl : l ≤ c) (hm : c ≤ maxLen) (hz : zs.length = c)
    (hcell : ∀ i, i < zs.length → w.cell? (x.add i) = some (.int q (zs.getD i 0))) (hwz : ∀ n ∈ zs, (Lit.int q n).wf = true) : CameIn q w (some x) l c (zs.take l) := by
  refine ⟨⟨by simp; omega, fun hn => ?_⟩, hl, hm, (fun h => by cases h), fun y hy => hwz y (List.mem_of_mem_take hy)⟩
  obtain ⟨b, off, rfl, hc⟩ := ints_at hcell (by omega)
  refine ⟨b, off, rfl, fun j hj => ?_⟩
  rw [hc j (by omega)]
  simp [List.getD, hj]
theorem cameIn_nil {q : IntKind} {w : World} : CameIn q w none 0 0 [] := ⟨⟨rfl, fun h => absurd h (by omega)⟩, Nat.le_refl _, by unfold maxLen; omega, fun _ => rfl, fun _ h => by cases h⟩
theorem Ints.keep {q : IntKind} {w w' : World} {a : Option Addr} {n : Nat} {xs : List Int} (h : Ints q w a n xs) (hk : ∀ p : Addr, p.block < w.heap.size → w'.cell? p = w.cell? p) : Ints q w' a n xs := by
  refine ⟨h.1, fun hn => ?_⟩
  obtain ⟨b, off, e, hc⟩ := h.2 hn
  refine ⟨b, off, e, fun j hj => ?_⟩
  have hb : b < w.heap.size := lt_of_cell? (hc j hj)
  rw [hk ⟨b, off + j, none⟩ hb]; exact hc j hj
theorem Ints.below {q : IntKind} {w w' : World} {a : Option Addr} {n : Nat} {xs : List Int} (h : Ints q w a n xs) (hb : Below w.heap.size w w') : Ints q w' a n xs := h.keep fun _ hp => hb.cell hp
theorem ints_two (q : IntKind) (w : World) (x y : Int) (t : TypeId) : Ints q (w.alloc (.cells #[.int q x, .int q y] t)) (some ⟨w.heap.size, 0, none⟩) 2 [x, y] := by
  refine ⟨rfl, fun _ => ⟨_, _, rfl, fun j hj => ?_⟩⟩
  match j, hj with
  | 0, _ => simp
  | 1, _ => simp
theorem ints_two_at (q : IntKind) (w : World) (x y : Int) (t : TypeId) (n : Nat) (hn : n = w.heap.size) : Ints q (w.alloc (.cells #[.int q x, .int q y] t)) (some ⟨n, 0, none⟩) 2 [x, y] := by
  subst hn; exact ints_two q w x y t
theorem ints_cell1 (q : IntKind) (w : World) (x : Int) (t : TypeId) (n : Nat) (hn : n = w.heap.size) : Ints q (w.alloc (.cells #[.int q x] t)) (some ⟨n, 0, none⟩) 1 [x] := by
  subst hn
  refine ⟨rfl, fun _ => ⟨_, _, rfl, fun j hj => ?_⟩⟩
  match j, hj with
  | 0, _ => simp
theorem Ints.drew {q : IntKind} {w : World} {a : Option Addr} {n : Nat} {xs : List Int} (h : Ints q w a n xs) : Ints q w.drew a n xs := h
theorem below_drewN {B : Nat} {a w : World} (h : Below B a w) (n : Nat) : Below B a (w.drewN n) := ⟨h.os, h.tape, h.output, h.size, h.block⟩
theorem below_one {w w' : World} {o : Obj} {n : Nat} (hb : Below n (w.alloc o) w') (hn : w.heap.size ≤ n) : Below w.heap.size w w' :=
  ((Below.refl _ _).alloc (Nat.le_refl _) _).trans (hb.mono hn)
theorem below_one_drew {w w' : World} {o : Obj} (hb : Below (w.alloc o).drew.heap.size (w.alloc o).drew w') : Below w.heap.size w w' :=
  (((Below.refl _ _).alloc (Nat.le_refl _) _).drew).trans (hb.mono (by show w.heap.size ≤ (w.alloc o).heap.size; simp))
theorem below_two {w w' : World} {o1 o2 : Obj} {n : Nat} (hb : Below n ((w.alloc o1).alloc o2) w') (hn : w.heap.size ≤ n) : Below w.heap.size w w' :=
  (((Below.refl _ _).alloc (Nat.le_refl _) _).alloc (by simp) _).trans (hb.mono hn)
end Go.Proofs.YtndfnglcichngaaGreatDoor
namespace Go.Proofs.YtndfnglcichngaaGreatDoor
set_option linter.unusedVariables false
abbrev Txt := List UInt8
/-- Name's answer. -/
def nameE (s : Txt) : Int :=
  if s = [] then 9 else if 8 < s.length then 20 else if s.any (fun c => c == 47 || c == 0) = true then 19 else if s = [46] ∨ s = [46, 46] then 19 else 0
/-- The pieces between slashes; cur is what came since the last one. -/
def cutsA (cur : Txt) : Txt → List Txt
  | [] => [cur]
  | c :: r => if c = 47 then cur :: cutsA [] r else cutsA (cur ++ [c]) r
/-- The first error, piece by piece. -/
def firstE : List Txt → Int
  | [] => 0
  | p :: ps => if nameE p = 0 then firstE ps else nameE p
/-- Split: the names, the error. -/
def splitT (s : Txt) : List Txt × Int :=
  if s = [] then ([], 9) else if s[0]? ≠ some 47 then ([], 19) else if s = [47] then ([], 0)
  else if firstE (cutsA [] (s.drop 1)) ≠ 0 then ([], firstE (cutsA [] (s.drop 1)))
  else if 6 < (cutsA [] (s.drop 1)).length then ([], 20) else (cutsA [] (s.drop 1), 0)
def joined (l : List Txt) : Txt := l.flatMap fun p => 47 :: p
/-- Join: the text, the error. -/
def joinT (l : List Txt) : Txt × Int :=
  if firstE l ≠ 0 then ([], firstE l) else if 6 < l.length then ([], 20) else if l = [] then ([47], 0) else (joined l, 0)
/-- Parent: what is above, the last name, the error. -/
def parT (s : Txt) : Txt × Txt × Int :=
  if (splitT s).2 ≠ 0 then ([], [], (splitT s).2) else if (splitT s).1 = [] then ([], [], 19)
  else ((joinT (splitT s).1.dropLast).1, (splitT s).1.getLast?.getD [], 0)
theorem firstE_app (l r : List Txt) (h : firstE l = 0) : firstE (l ++ r) = firstE r := by
  induction l with
  | nil => rfl
  | cons p ps ih =>
    unfold firstE at h
    by_cases k : nameE p = 0
    · rw [if_pos k] at h
      rw [List.cons_append]
      conv => lhs; unfold firstE
      rw [if_pos k, ih h]
    · rw [if_neg k] at h; exact absurd h k
theorem firstE_snoc {l : List Txt} {p : Txt} (h : firstE l = 0) (k : nameE p = 0) : firstE (l ++ [p]) = 0 := by
  rw [firstE_app l _ h]; unfold firstE; rw [if_pos k]; rfl
theorem firstE_stop {l r : List Txt} {p : Txt} (h : firstE l = 0) (k : nameE p ≠ 0) : firstE (l ++ p :: r) = nameE p := by
  rw [firstE_app l _ h]; unfold firstE; rw [if_neg k]
theorem firstE_zero {l : List Txt} : firstE l = 0 ↔ ∀ p ∈ l, nameE p = 0 := by
  induction l with
  | nil => simp [firstE]
  | cons p ps ih =>
    unfold firstE
    by_cases k : nameE p = 0
    · rw [if_pos k, ih]; simp [k]
    · rw [if_neg k]; simp [k]
theorem firstE_take {l : List Txt} (h : firstE l = 0) (k : Nat) : firstE (l.take k) = 0 := firstE_zero.2 fun p hp => firstE_zero.1 h p (List.mem_of_mem_take hp)
theorem firstE_at {l : List Txt} {k : Nat} {p : Txt} (h : firstE (l.take k) = 0) (hp : l[k]? = some p) : firstE (l.take (k + 1)) = if nameE p = 0 then 0 else nameE p := by
  have e : l.take (k + 1) = l.take k ++ [p] := by rw [List.take_add_one, hp]; rfl
  rw [e, firstE_app _ _ h]
  unfold firstE
  rfl
theorem firstE_found {l : List Txt} {k : Nat} {p : Txt} (h : firstE (l.take k) = 0) (hp : l[k]? = some p) (hn : nameE p ≠ 0) : firstE l = nameE p := by
  have hk : k < l.length := (List.getElem?_eq_some_iff.1 hp).1
  have e : l = l.take k ++ p :: l.drop (k + 1) := by
    have e1 := (List.take_append_drop k l).symm
    rw [List.drop_eq_getElem_cons hk] at e1
    have : l[k] = p := (List.getElem?_eq_some_iff.1 hp).2
    rwa [this] at e1
  rw [e]
  exact firstE_stop h hn
theorem nameE_ok {p : Txt} (h : nameE p = 0) : p ≠ [] ∧ p.length ≤ 8 ∧ ∀ c ∈ p, c ≠ 47 := by
  unfold nameE at h
  split at h
  · cases h
  · rename_i h1
    split at h
    · cases h
    · rename_i h2
      split at h
      · cases h
      · rename_i h3
        refine ⟨h1, by omega, fun c hc e => h3 ?_⟩
        rw [List.any_eq_true]
        exact ⟨c, hc, by simp [e]⟩
theorem cutsA_join (cur r : Txt) : joined (cutsA cur r) = 47 :: (cur ++ r) := by
  induction r generalizing cur with
  | nil => simp [cutsA, joined]
  | cons c r ih =>
    unfold cutsA
    by_cases h : c = 47
    · rw [if_pos h, h]
      have := ih []
      unfold joined at this ⊢
      rw [List.flatMap_cons, this]
      simp
    · rw [if_neg h, ih]
      simp
theorem cutsA_ne (cur r : Txt) : cutsA cur r ≠ [] := by
  induction r generalizing cur with
  | nil => simp [cutsA]
  | cons c r ih =>
    unfold cutsA
    by_cases h : c = 47
    · rw [if_pos h]; simp
    · rw [if_neg h]; exact ih _
theorem cutsA_piece (cur p : Txt) (hp : ∀ c ∈ p, c ≠ 47) : cutsA cur p = [cur ++ p] := by
  induction p generalizing cur with
  | nil => simp [cutsA]
  | cons c r ih =>
    unfold cutsA
    rw [if_neg (hp c (by simp)), ih _ (fun x hx => hp x (by simp [hx]))]
    simp
theorem cutsA_slash (cur p r : Txt) (hp : ∀ c ∈ p, c ≠ 47) : cutsA cur (p ++ 47 :: r) = (cur ++ p) :: cutsA [] r := by
  induction p generalizing cur with
  | nil => simp [cutsA]
  | cons c q ih =>
    rw [List.cons_append]
    conv => lhs; unfold cutsA
    rw [if_neg (hp c (by simp)), ih _ (fun x hx => hp x (by simp [hx]))]
    simp
theorem cuts_joined {l : List Txt} (hl : l ≠ []) (h : ∀ p ∈ l, ∀ c ∈ p, c ≠ 47) : cutsA [] ((joined l).drop 1) = l := by
  induction l with
  | nil => exact absurd rfl hl
  | cons p ps ih =>
    have hp := h p (by simp)
    cases ps with
    | nil =>
      have : (joined [p]).drop 1 = p := by simp [joined]
      rw [this, cutsA_piece _ _ hp]; rfl
    | cons q qs =>
      have e : (joined (p :: q :: qs)).drop 1 = p ++ 47 :: (joined (q :: qs)).drop 1 := by simp [joined]
      rw [e, cutsA_slash _ _ _ hp, ih (by simp) (fun x hx => h x (by simp [hx]))]
      rfl
/-- What was taken apart is put together again. -/
theorem split_join {s : Txt} (h : (splitT s).2 = 0) : joinT (splitT s).1 = (s, 0) ∧ (splitT s).1.length ≤ 6 := by
  unfold splitT at h ⊢
  split at h
  · cases h
  · rename_i h1
    rw [if_neg h1]
    split at h
    · cases h
    · rename_i h2
      rw [if_neg h2]
      split at h
      · rename_i h3
        rw [if_pos h3, h3]
        exact ⟨rfl, by simp⟩
      · rename_i h3
        rw [if_neg h3]
        split at h
        · rename_i h4
          exact absurd h h4
        · rename_i h4
          rw [if_neg h4]
          split at h
          · cases h
          · rename_i h5
            rw [if_neg h5]
            have h4' : firstE (cutsA [] (s.drop 1)) = 0 := Decidable.not_not.1 h4
            refine ⟨?_, by show (cutsA [] (s.drop 1)).length ≤ 6; omega⟩
            show joinT (cutsA [] (s.drop 1)) = (s, 0)
            unfold joinT
            rw [if_neg (by rw [h4']; simp), if_neg h5, if_neg (cutsA_ne _ _), cutsA_join]
            have h2' : s[0]? = some 47 := Decidable.not_not.1 h2
            cases s with
            | nil => exact absurd rfl h1
            | cons c r =>
              simp at h2'
              simp [h2']
theorem splitT_names {s : Txt} (h : (splitT s).2 = 0) : firstE (splitT s).1 = 0 := by
  have := (split_join h).1
  unfold joinT at this
  by_cases k : firstE (splitT s).1 = 0
  · exact k
  · rw [if_pos k] at this
    have e := (Prod.mk.inj this).2
    exact absurd e k
theorem splitT_err {s : Txt} (h : (splitT s).2 ≠ 0) : (splitT s).1 = [] := by
  unfold splitT at h ⊢
  split
  · rfl
  · rename_i h1
    rw [if_neg h1] at h
    split
    · rfl
    · rename_i h2
      rw [if_neg h2] at h
      split
      · rfl
      · rename_i h3
        rw [if_neg h3] at h
        split
        · rfl
        · rename_i h4
          rw [if_neg h4] at h
          split
          · rfl
          · rename_i h5
            rw [if_neg h5] at h
            exact absurd rfl h
/-- What was put together is taken apart again. -/
theorem join_split {l : List Txt} (hl : firstE l = 0) (h6 : l.length ≤ 6) : splitT (joinT l).1 = (l, 0) := by
  have hp : ∀ p ∈ l, ∀ c ∈ p, c ≠ 47 := fun p hp => (nameE_ok (firstE_zero.1 hl p hp)).2.2
  unfold joinT
  rw [if_neg (by rw [hl]; simp), if_neg (by omega)]
  by_cases h0 : l = []
  · rw [if_pos h0, h0]; rfl
  · rw [if_neg h0]
    have hc := cuts_joined h0 hp
    have h1 : joined l ≠ [] := by
      cases l with
      | nil => exact absurd rfl h0
      | cons p ps => simp [joined]
    have h2 : (joined l)[0]? = some 47 := by
      cases l with
      | nil => exact absurd rfl h0
      | cons p ps => simp [joined]
    have h3 : joined l ≠ [47] := by
      cases l with
      | nil => exact absurd rfl h0
      | cons p ps =>
        have := (nameE_ok (firstE_zero.1 hl p (by simp))).1
        simp [joined, this]
    show splitT (joined l) = (l, 0)
    unfold splitT
    rw [if_neg h1, if_neg (by rw [h2]; simp), if_neg h3, hc, if_neg (by rw [hl]; simp), if_neg (by omega)]
/-- Names put together are short. -/
theorem joined_size {l : List Txt} (hl : firstE l = 0) : (joined l).length ≤ 9 * l.length := by
  induction l with
  | nil => simp [joined]
  | cons p ps ih =>
    have h1 := (nameE_ok (firstE_zero.1 hl p (by simp))).2.1
    have h2 := ih (firstE_zero.2 fun q hq => firstE_zero.1 hl q (by simp [hq]))
    unfold joined at h2 ⊢
    rw [List.flatMap_cons, List.length_append, List.length_cons, List.length_cons]
    omega
theorem joined_snoc (l : List Txt) (p : Txt) : joined (l ++ [p]) = joined l ++ 47 :: p := by simp [joined]
/-- A step of Split's loop: at place i of s, cur since the last slash. -/
theorem cuts_go {s cur : Txt} {i : Nat} {c : UInt8} (hc : s[i]? = some c) (h : c ≠ 47) : cutsA cur (s.drop i) = cutsA (cur ++ [c]) (s.drop (i + 1)) := by
  have hi : i < s.length := (List.getElem?_eq_some_iff.1 hc).1
  have e : s[i] = c := (List.getElem?_eq_some_iff.1 hc).2
  rw [List.drop_eq_getElem_cons hi, e]
  conv => lhs; unfold cutsA
  rw [if_neg h]
theorem cuts_stop {s cur : Txt} {i : Nat} (hc : s[i]? = some 47) : cutsA cur (s.drop i) = cur :: cutsA [] (s.drop (i + 1)) := by
  have hi : i < s.length := (List.getElem?_eq_some_iff.1 hc).1
  have e : s[i] = 47 := (List.getElem?_eq_some_iff.1 hc).2
  rw [List.drop_eq_getElem_cons hi, e]
  conv => lhs; unfold cutsA
  rw [if_pos rfl]
theorem cuts_end {s cur : Txt} {i : Nat} (hi : i = s.length) : cutsA cur (s.drop i) = [cur] := by
  rw [hi, List.drop_length]; rfl
theorem take_drop_snoc {s : Txt} {a i : Nat} {c : UInt8} (hai : a ≤ i) (hc : s[i]? = some c) : (s.take i).drop a ++ [c] = (s.take (i + 1)).drop a := by
  have hi : i < s.length := (List.getElem?_eq_some_iff.1 hc).1
  rw [List.take_add_one, hc, List.drop_append_of_le_length (by rw [List.length_take]; omega)]
  rfl
/-- nameE, by the way. -/
theorem nameE_long {s : Txt} (h0 : s ≠ []) (h : 8 < s.length) : nameE s = 20 := by unfold nameE; rw [if_neg h0, if_pos h]
theorem nameE_bad {s : Txt} (h0 : s ≠ []) (h : ¬ 8 < s.length) {i : Nat} {c : UInt8} (hc : s[i]? = some c) (hb : c = 47 ∨ c = 0) : nameE s = 19 := by
  unfold nameE
  rw [if_neg h0, if_neg h, if_pos]
  rw [List.any_eq_true]
  exact ⟨c, List.mem_of_getElem? hc, by simpa using hb⟩
theorem nameE_good {s : Txt} (h0 : s ≠ []) (h : ¬ 8 < s.length) (hc : ∀ (i : Nat) (c : UInt8), s[i]? = some c → c ≠ 47 ∧ c ≠ 0) : nameE s = if s = [46] ∨ s = [46, 46] then 19 else 0 := by
  unfold nameE
  rw [if_neg h0, if_neg h, if_neg]
  rw [List.any_eq_true]
  rintro ⟨c, hm, hb⟩
  obtain ⟨i, hi⟩ := List.mem_iff_getElem?.1 hm
  have := hc i c hi
  simp at hb
  rcases hb with e | e
  · exact this.1 e
  · exact this.2 e
theorem nameE_range (s : Txt) : 0 ≤ nameE s ∧ nameE s ≤ 20 := by
  unfold nameE; repeat' split <;> omega
end Go.Proofs.YtndfnglcichngaaGreatDoor
namespace Go.Proofs.YtndfnglcichngaaGreatDoor
open Go.ChangeShapes Go.WideShapes Go.ChangeAt Go.RowKit
set_option linter.unusedVariables false
theorem low_i (x z : Int) (w : World) (h0 : 0 < z) (hb : z ≤ 1099511627776) :
    Calls Tryz.prog 30 #[.int .i64 x, .int .i64 z] w fun e w' => (∃ r : Int, (0 ≤ r ∧ r < z) ∧ e = .returned (.int .i64 r)) ∧ w = w' := by
  obtain ⟨r, hr, he⟩ : ∃ r : Int, (0 ≤ r ∧ r < z) ∧ wrap64 ((IntKind.u64.wrap x).tmod z) = r := by
    have h : IntKind.u64.wrap x = x % 18446744073709551616 := by simp [IntKind.wrap, IntKind.bits, IntKind.signed]
    rw [h, Int.tmod_eq_emod_of_nonneg (by omega)]
    have h1 : 0 ≤ (x % 18446744073709551616) % z := Int.emod_nonneg _ (by omega)
    have h2 : (x % 18446744073709551616) % z < z := Int.emod_lt_of_pos _ (by omega)
    generalize (x % 18446744073709551616) % z = y at *
    exact ⟨y, ⟨h1, h2⟩, by unfold wrap64; omega⟩
  have HE := hide he
  have HR := hide hr
  have n0 : ¬ (z = 0) := by omega
  have n1 : (0 : Int) ≤ z := by omega
  have hu : IntKind.u64.wrap z = z := by simp [IntKind.wrap, IntKind.bits, IntKind.signed]; omega
  clear he hr
  go_enter Tryz.func30, Tryz.ntmps30
  go_wp2_with fail
  go_ret
  exact ⟨⟨r, HR.out, ret_int HE.out⟩, rfl⟩
theorem errnum_any (w : World) (x : Int) : Calls Tryz.prog 41 #[.int .i64 x] w fun e w' => e = .returned (.int .i64 x) ∧ w = w' := by
  go_enter Tryz.func41, Tryz.ntmps41
  go_wp2_with fail
  go_ret
  exact ⟨rfl, rfl⟩
theorem wf_i {x : Int} (h0 : -4000000000000 ≤ x) (h : x ≤ 4000000000000) : (Lit.int .i64 x).wf = true := by
  simp [Lit.wf, IntKind.min, IntKind.max, IntKind.bits, IntKind.signed]; omega
end Go.Proofs.YtndfnglcichngaaGreatDoor
