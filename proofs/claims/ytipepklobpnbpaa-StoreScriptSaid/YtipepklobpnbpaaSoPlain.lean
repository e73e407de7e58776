/-
  Files as lists of bytes, in plain words (stage 20): what each call answers, what is then.
-/
import Derived.Test.YtipepklobpnbpaaFrOpsE
namespace Go.Proofs.Ytipepklobpnbpaa
open Go.ChangeShapes Go.WideShapes Go.ChangeAt Go.RowKit
set_option linter.unusedVariables false
/-- A file: its number, its bytes. -/
structure Fi where
  id : Int
  b : List Int
def getFi : List Fi → Int → Option (List Int)
  | [], _ => none
  | x :: l, i => if x.id = i then some x.b else getFi l i
def putFi : List Fi → Int → List Int → List Fi
  | [], _, _ => []
  | x :: l, i, b => if x.id = i then ⟨i, b⟩ :: l else x :: putFi l i b
def delFi : List Fi → Int → List Fi
  | [], _ => []
  | x :: l, i => if x.id = i then l else x :: delFi l i
def idsFi (l : List Fi) : List Int := l.map Fi.id
/-- How many frames so many bytes fill, up. -/
def blkN (n : Nat) : Nat := (n + 63) / 64
def blkO (o : Option (List Int)) : Nat := match o with
  | none => 0
  | some b => blkN b.length
def lenO (o : Option (List Int)) : Nat := match o with
  | none => 0
  | some b => b.length
def useFi : List Fi → Nat
  | [] => 0
  | x :: l => blkN x.b.length + useFi l
/-- A store: its files, how many frames are free. -/
structure So where
  l : List Fi
  fr : Nat
def thE (s : So) (id : Int) : Nat := if (getFi s.l id).isSome then 0 else 4
def mkE (s : So) (id : Int) : Nat := if id < 0 then 2 else if (getFi s.l id).isSome then 5 else 0
def mkS (s : So) (id : Int) : So := if mkE s id = 0 then ⟨s.l ++ [⟨id, []⟩], s.fr⟩ else s
def drS (s : So) (id : Int) : So := ⟨delFi s.l id, s.fr + blkO (getFi s.l id)⟩
def ctS (s : So) (id : Int) : So := ⟨putFi s.l id [], s.fr + blkO (getFi s.l id)⟩
def rdE (s : So) (id off n : Int) : Nat := if (getFi s.l id).isSome then (if off < 0 ∨ n < 0 then 19 else 0) else 4
def rdB (s : So) (id off n : Int) : List Int := if rdE s id off n = 0 then (((getFi s.l id).getD []).drop off.toNat).take n.toNat else []
def needN (old off m : Nat) : Nat := blkN (off + m) - blkN old
def wrE (s : So) (id off : Int) (m : Nat) : Nat :=
  if (getFi s.l id).isSome then (if off < 0 then 19 else if m = 0 then 0 else if 512 < off + m then 15 else if s.fr < needN (lenO (getFi s.l id)) off.toNat m then 15 else 0) else 4
def wrAt (old : List Int) (off : Nat) (b : List Int) (j : Nat) : Int := if off ≤ j ∧ j < off + b.length then b.getD (j - off) 0 else old.getD j 0
def wrB (old : List Int) (off : Nat) (b : List Int) : List Int := (List.range (max old.length (off + b.length))).map (wrAt old off b)
def wrS (s : So) (id off : Int) (b : List Int) : So :=
  if wrE s id off b.length = 0 ∧ b.length ≠ 0 then ⟨putFi s.l id (wrB ((getFi s.l id).getD []) off.toNat b), s.fr - needN (lenO (getFi s.l id)) off.toNat b.length⟩ else s
structure GoodSo (s : So) : Prop where
  nodup : (idsFi s.l).Nodup
  ids : ∀ x ∈ s.l, 0 ≤ x.id ∧ (Lit.int .i64 x.id).wf = true
  byt : ∀ x ∈ s.l, Bytes x.b
  le : ∀ x ∈ s.l, x.b.length ≤ 512
theorem getFi_mem {l : List Fi} {i : Int} {b : List Int} (h : getFi l i = some b) : ⟨i, b⟩ ∈ l := by
  induction l with
  | nil => cases h
  | cons x l ih =>
    unfold getFi at h
    split at h
    · rename_i e
      injection h with h
      subst e h
      exact List.mem_cons_self ..
    · exact List.mem_cons_of_mem _ (ih h)
theorem getFi_none {l : List Fi} {i : Int} : getFi l i = none ↔ i ∉ idsFi l := by
  induction l with
  | nil => simp [getFi, idsFi]
  | cons x l ih =>
    unfold getFi idsFi
    rw [List.map_cons, List.mem_cons]
    by_cases e : x.id = i
    · rw [if_pos e]; simp [e]
    · rw [if_neg e, ih]
      have : i ≠ x.id := fun h => e h.symm
      simp [this, idsFi]
theorem getFi_new {l : List Fi} {i : Int} (h : getFi l i = none) (b : List Int) (k : Int) : getFi (l ++ [⟨i, b⟩]) k = if k = i then some b else getFi l k := by
  induction l with
  | nil => by_cases e : k = i <;> simp [getFi, e]; exact fun h => absurd h.symm e
  | cons x l ih =>
    unfold getFi at h
    split at h
    · cases h
    · rename_i e
      rw [List.cons_append]
      unfold getFi
      rw [ih h]
      by_cases e2 : x.id = k
      · have : k ≠ i := fun h => e (e2.trans h)
        simp [e2, this]
      · simp [e2]
theorem getFi_put {l : List Fi} {i : Int} {o : List Int} (h : getFi l i = some o) (b : List Int) (k : Int) : getFi (putFi l i b) k = if k = i then some b else getFi l k := by
  induction l with
  | nil => cases h
  | cons x l ih =>
    unfold getFi at h
    unfold putFi
    by_cases e : x.id = i
    · rw [if_pos e]
      unfold getFi
      by_cases e2 : k = i
      · simp [e2]
      · have : i ≠ k := fun h => e2 h.symm
        have e3 : x.id ≠ k := fun h => this (e.symm.trans h)
        simp [e2, this, e3]
    · rw [if_neg e] at h ⊢
      unfold getFi
      rw [ih h]
      by_cases e2 : x.id = k
      · have : k ≠ i := fun h => e (e2.trans h)
        simp [e2, this]
      · simp [e2]
theorem getFi_del {l : List Fi} {i : Int} (hn : (idsFi l).Nodup) (k : Int) : getFi (delFi l i) k = if k = i then none else getFi l k := by
  induction l with
  | nil => simp [getFi, delFi]
  | cons x l ih =>
    have hn2 : x.id ∉ idsFi l ∧ (idsFi l).Nodup := by simpa [idsFi] using hn
    unfold delFi
    by_cases e : x.id = i
    · rw [if_pos e]
      by_cases e2 : k = i
      · rw [if_pos e2, e2, ← e]; exact getFi_none.2 hn2.1
      · rw [if_neg e2]
        conv => rhs; unfold getFi
        have e3 : x.id ≠ k := fun h => e2 (h.symm.trans e)
        rw [if_neg e3]
    · rw [if_neg e]
      unfold getFi
      rw [ih hn2.2]
      by_cases e2 : x.id = k
      · have : k ≠ i := fun h => e (e2.trans h)
        simp [e2, this]
      · simp [e2]
theorem put_ids (l : List Fi) (i : Int) (b : List Int) : idsFi (putFi l i b) = idsFi l := by
  induction l with
  | nil => rfl
  | cons x l ih =>
    unfold putFi
    by_cases e : x.id = i
    · rw [if_pos e]; simp [idsFi, e]
    · rw [if_neg e]
      show x.id :: idsFi (putFi l i b) = _
      rw [ih]; rfl
theorem put_len (l : List Fi) (i : Int) (b : List Int) : (putFi l i b).length = l.length := by
  have := congrArg List.length (put_ids l i b)
  simpa [idsFi] using this
theorem put_mem {l : List Fi} {i : Int} {b : List Int} {x : Fi} (h : x ∈ putFi l i b) : x ∈ l ∨ (x = ⟨i, b⟩ ∧ ∃ o, getFi l i = some o) := by
  induction l with
  | nil => cases h
  | cons y l ih =>
    unfold putFi at h
    by_cases e : y.id = i
    · rw [if_pos e] at h
      rcases List.mem_cons.1 h with h | h
      · exact .inr ⟨h, y.b, by unfold getFi; rw [if_pos e]⟩
      · exact .inl (List.mem_cons_of_mem _ h)
    · rw [if_neg e] at h
      rcases List.mem_cons.1 h with h | h
      · exact .inl (by rw [h]; exact List.mem_cons_self ..)
      · rcases ih h with h | ⟨h, o, ho⟩
        · exact .inl (List.mem_cons_of_mem _ h)
        · exact .inr ⟨h, o, by unfold getFi; rw [if_neg e]; exact ho⟩
theorem del_sub (l : List Fi) (i : Int) : (delFi l i).Sublist l := by
  induction l with
  | nil => exact List.Sublist.refl _
  | cons x l ih =>
    unfold delFi
    by_cases e : x.id = i
    · rw [if_pos e]; exact List.sublist_cons_self ..
    · rw [if_neg e]; exact ih.cons_cons x
theorem use_new (l : List Fi) (i : Int) : useFi (l ++ [⟨i, []⟩]) = useFi l := by
  induction l with
  | nil => show blkN 0 + 0 = 0; decide
  | cons x l ih => show blkN x.b.length + useFi (l ++ [⟨i, []⟩]) = _; rw [ih]; rfl
theorem use_put {l : List Fi} {i : Int} {o : List Int} (h : getFi l i = some o) (b : List Int) : useFi (putFi l i b) + blkN o.length = useFi l + blkN b.length := by
  induction l with
  | nil => cases h
  | cons x l ih =>
    unfold getFi at h
    unfold putFi
    by_cases e : x.id = i
    · rw [if_pos e] at h ⊢
      injection h with h
      show blkN b.length + useFi l + _ = blkN x.b.length + useFi l + _
      rw [h]; omega
    · rw [if_neg e] at h ⊢
      have := ih h
      show blkN x.b.length + useFi (putFi l i b) + _ = blkN x.b.length + useFi l + _
      omega
theorem use_del (l : List Fi) (i : Int) : useFi (delFi l i) + blkO (getFi l i) = useFi l := by
  induction l with
  | nil => rfl
  | cons x l ih =>
    unfold delFi getFi
    by_cases e : x.id = i
    · rw [if_pos e, if_pos e]
      show useFi l + blkN x.b.length = blkN x.b.length + useFi l
      omega
    · rw [if_neg e, if_neg e]
      show blkN x.b.length + useFi (delFi l i) + _ = blkN x.b.length + useFi l
      omega
theorem put_none {l : List Fi} {i : Int} (h : getFi l i = none) (b : List Int) : putFi l i b = l := by
  induction l with
  | nil => rfl
  | cons x l ih =>
    unfold getFi at h
    unfold putFi
    by_cases e : x.id = i
    · rw [if_pos e] at h; cases h
    · rw [if_neg e] at h ⊢; rw [ih h]
theorem del_none {l : List Fi} {i : Int} (h : getFi l i = none) : delFi l i = l := by
  induction l with
  | nil => rfl
  | cons x l ih =>
    unfold getFi at h
    unfold delFi
    by_cases e : x.id = i
    · rw [if_pos e] at h; cases h
    · rw [if_neg e] at h ⊢; rw [ih h]
theorem wrB_len (old : List Int) (off : Nat) (b : List Int) : (wrB old off b).length = max old.length (off + b.length) := by simp [wrB]
theorem wrB_at {old : List Int} {off : Nat} {b : List Int} {j : Nat} (h : j < max old.length (off + b.length)) : (wrB old off b)[j]? = some (wrAt old off b j) := by
  unfold wrB
  rw [List.getElem?_map, List.getElem?_range h]
  rfl
theorem wrB_get {old : List Int} {off : Nat} {b : List Int} {j : Nat} (h : j < max old.length (off + b.length)) : (wrB old off b).getD j 0 = wrAt old off b j := by
  rw [List.getD_eq_getElem?_getD, wrB_at h]; rfl
theorem getD_past {l : List Int} {j : Nat} (h : l.length ≤ j) : l.getD j 0 = 0 := by
  rw [List.getD_eq_getElem?_getD, List.getElem?_eq_none h]; rfl
theorem wrAt_past {old : List Int} {off : Nat} {b : List Int} {j : Nat} (h : max old.length (off + b.length) ≤ j) : wrAt old off b j = 0 := by
  unfold wrAt
  rw [if_neg (by omega), getD_past (by omega)]
theorem wrB_getD (old : List Int) (off : Nat) (b : List Int) (j : Nat) : (wrB old off b).getD j 0 = wrAt old off b j := by
  by_cases h : j < max old.length (off + b.length)
  · exact wrB_get h
  · rw [wrAt_past (by omega), getD_past (by rw [wrB_len]; omega)]
theorem Bytes.getD {l : List Int} (h : Bytes l) (j : Nat) : 0 ≤ l.getD j 0 ∧ l.getD j 0 ≤ 255 := by
  by_cases hj : j < l.length
  · exact h.at hj
  · rw [getD_past (by omega)]; omega
theorem wrB_bytes {old : List Int} {off : Nat} {b : List Int} (ho : Bytes old) (hb : Bytes b) : Bytes (wrB old off b) := by
  intro y hy
  unfold wrB at hy
  obtain ⟨j, _, rfl⟩ := List.mem_map.1 hy
  unfold wrAt
  split
  · exact hb.getD _
  · exact ho.getD _
theorem eq_of_getD {a b : List Int} (hl : a.length = b.length) (h : ∀ j, a.getD j 0 = b.getD j 0) : a = b := by
  apply List.ext_getElem hl
  intro j h1 h2
  have := h j
  rw [List.getD_eq_getElem?_getD, List.getD_eq_getElem?_getD, List.getElem?_eq_getElem h1, List.getElem?_eq_getElem h2] at this
  simpa using this
theorem getD_drop (l : List Int) (k j : Nat) : (l.drop k).getD j 0 = l.getD (k + j) 0 := by
  rw [List.getD_eq_getElem?_getD, List.getD_eq_getElem?_getD, List.getElem?_drop]
theorem getD_take {l : List Int} {k j : Nat} (h : j < k) : (l.take k).getD j 0 = l.getD j 0 := by
  rw [List.getD_eq_getElem?_getD, List.getD_eq_getElem?_getD, List.getElem?_take_of_lt h]
/-- Written in two pieces: the later one first. -/
theorem wrB_pieces {b : List Int} {k off : Nat} (hk : k ≤ b.length) (h1 : k ≠ b.length) (h0 : k ≠ 0) : wrB (wrB [] (off + k) (b.drop k)) off (b.take k) = wrB [] off b := by
  have e1 : (b.drop k).length = b.length - k := List.length_drop
  have e2 : (b.take k).length = k := by rw [List.length_take]; omega
  refine eq_of_getD ?_ fun j => ?_
  · rw [wrB_len, wrB_len, wrB_len, e1, e2]; simp; omega
  · rw [wrB_getD, wrB_getD]
    unfold wrAt
    rw [e2, wrB_getD]
    unfold wrAt
    rw [e1]
    by_cases a1 : off ≤ j ∧ j < off + k
    · rw [if_pos a1, if_pos (by omega), getD_take (by omega)]
    · rw [if_neg a1]
      by_cases a2 : off + k ≤ j ∧ j < off + k + (b.length - k)
      · rw [if_pos a2, if_pos (by omega), getD_drop]
        congr 1; omega
      · rw [if_neg a2, if_neg (by omega)]
/-- Two writes that do not meet. -/
theorem wrB_two {x y : List Int} {a b : Nat} (h : a + x.length ≤ b) (hx : x ≠ []) (hy : y ≠ []) : wrB (wrB [] a x) b y = wrB (wrB [] b y) a x := by
  refine eq_of_getD ?_ fun j => ?_
  · rw [wrB_len, wrB_len, wrB_len, wrB_len]; simp; omega
  · rw [wrB_getD, wrB_getD]
    unfold wrAt
    rw [wrB_getD, wrB_getD]
    unfold wrAt
    by_cases a1 : b ≤ j ∧ j < b + y.length
    · rw [if_pos a1, if_neg (by omega), if_pos a1]
    · rw [if_neg a1, if_neg a1]
theorem GoodSo.new (n : Nat) : GoodSo ⟨[], n⟩ := ⟨List.nodup_nil, fun x h => absurd h List.not_mem_nil, fun x h => absurd h List.not_mem_nil, fun x h => absurd h List.not_mem_nil⟩
theorem GoodSo.mk_ {s : So} (h : GoodSo s) {id : Int} (w : (Lit.int .i64 id).wf = true) : GoodSo (mkS s id) := by
  unfold mkS
  split
  · rename_i e
    have e0 : ¬ id < 0 := by intro e0; unfold mkE at e; rw [if_pos e0] at e; omega
    have e1 : getFi s.l id = none := by
      unfold mkE at e
      rw [if_neg e0] at e
      split at e
      · omega
      · rename_i e2; simpa using e2
    refine ⟨?_, ?_, ?_, ?_⟩
    · show (idsFi (s.l ++ [⟨id, []⟩])).Nodup
      unfold idsFi
      rw [List.map_append, List.nodup_append]
      exact ⟨h.nodup, by simp, fun a ha b hb e5 => by simp at hb; rw [e5, hb] at ha; exact getFi_none.1 e1 ha⟩
    · intro x hx
      rcases List.mem_append.1 hx with hx | hx
      · exact h.ids x hx
      · simp at hx; subst hx; exact ⟨by show 0 ≤ id; omega, w⟩
    · intro x hx
      rcases List.mem_append.1 hx with hx | hx
      · exact h.byt x hx
      · simp at hx; subst hx; intro y hy; cases hy
    · intro x hx
      rcases List.mem_append.1 hx with hx | hx
      · exact h.le x hx
      · simp at hx; subst hx; exact Nat.zero_le _
  · exact h
theorem GoodSo.dr {s : So} (h : GoodSo s) (id : Int) : GoodSo (drS s id) := by
  have hs := del_sub s.l id
  exact ⟨h.nodup.sublist (hs.map Fi.id), fun x hx => h.ids x (hs.subset hx), fun x hx => h.byt x (hs.subset hx), fun x hx => h.le x (hs.subset hx)⟩
theorem GoodSo.put {s : So} (h : GoodSo s) {id : Int} {b : List Int} (hb : Bytes b) (hl : b.length ≤ 512) (fr : Nat) : GoodSo ⟨putFi s.l id b, fr⟩ := by
  refine ⟨?_, fun x hx => ?_, fun x hx => ?_, fun x hx => ?_⟩
  · show (idsFi (putFi s.l id b)).Nodup
    rw [put_ids]; exact h.nodup
  · rcases put_mem hx with hx | ⟨rfl, o, ho⟩
    · exact h.ids x hx
    · have := h.ids _ (getFi_mem ho); exact this
  · rcases put_mem hx with hx | ⟨rfl, o, ho⟩
    · exact h.byt x hx
    · exact hb
  · rcases put_mem hx with hx | ⟨rfl, o, ho⟩
    · exact h.le x hx
    · exact hl
theorem GoodSo.ct {s : So} (h : GoodSo s) (id : Int) : GoodSo (ctS s id) := h.put (fun y hy => by cases hy) (by simp) _
theorem GoodSo.old {s : So} (h : GoodSo s) {id : Int} {b : List Int} (e : getFi s.l id = some b) : Bytes b ∧ b.length ≤ 512 ∧ 0 ≤ id ∧ (Lit.int .i64 id).wf = true :=
  ⟨h.byt _ (getFi_mem e), h.le _ (getFi_mem e), h.ids _ (getFi_mem e)⟩
theorem wrE_ok {s : So} {id off : Int} {m : Nat} (h : wrE s id off m = 0) : ∃ b, getFi s.l id = some b ∧ 0 ≤ off ∧ (m ≠ 0 → off + m ≤ 512 ∧ needN b.length off.toNat m ≤ s.fr) := by
  unfold wrE at h
  cases e : getFi s.l id with
  | none => rw [e] at h; simp at h
  | some b =>
    rw [e] at h
    simp only [Option.isSome_some, if_true] at h
    refine ⟨b, rfl, ?_, fun hm => ?_⟩
    · by_cases h0 : off < 0
      · rw [if_pos h0] at h; omega
      · omega
    · by_cases h0 : off < 0
      · rw [if_pos h0] at h; omega
      · rw [if_neg h0, if_neg hm] at h
        split at h
        · omega
        · split at h
          · omega
          · rename_i a2 a3
            have a4 : ¬ s.fr < needN b.length off.toNat m := a3
            exact ⟨by omega, by omega⟩
theorem GoodSo.wr {s : So} (h : GoodSo s) {id off : Int} {b : List Int} (hb : Bytes b) : GoodSo (wrS s id off b) := by
  unfold wrS
  split
  · rename_i e
    obtain ⟨o, ho, h0, h1⟩ := wrE_ok e.1
    obtain ⟨h2, h3⟩ := h1 e.2
    rw [ho]
    exact h.put (wrB_bytes (h.old ho).1 hb) (by rw [wrB_len]; have := (h.old ho).2.1; show max o.length _ ≤ 512; omega) _
  · exact h
theorem rdB_len {s : So} (h : GoodSo s) (id off n : Int) : (rdB s id off n).length ≤ 512 := by
  unfold rdB
  split
  · rw [List.length_take, List.length_drop]
    cases e : getFi s.l id with
    | none => simp
    | some b => have := (h.old e).2.1; simp; omega
  · simp
theorem rdB_bytes {s : So} (h : GoodSo s) (id off n : Int) : Bytes (rdB s id off n) := by
  unfold rdB
  split
  · cases e : getFi s.l id with
    | none => intro y hy; simp at hy
    | some b => intro y hy; exact (h.old e).1 y (List.mem_of_mem_drop (List.mem_of_mem_take hy))
  · intro y hy; cases hy
/-- All of a file. -/
theorem rdB_all {s : So} (h : GoodSo s) {id n : Int} {b : List Int} (e : getFi s.l id = some b) (hn : 512 ≤ n) : rdE s id 0 n = 0 ∧ rdB s id 0 n = b := by
  have h0 : rdE s id 0 n = 0 := by unfold rdE; rw [e]; simp; omega
  refine ⟨h0, ?_⟩
  unfold rdB
  rw [if_pos h0, e]
  show (b.drop 0).take n.toNat = b
  rw [List.drop_zero, List.take_of_length_le]
  have := (h.old e).2.1
  omega
theorem mkS_len (s : So) (id : Int) : (mkS s id).l.length ≤ s.l.length + 1 := by
  unfold mkS; split <;> simp
theorem drS_len (s : So) (id : Int) : (drS s id).l.length ≤ s.l.length := (del_sub s.l id).length_le
theorem ctS_len (s : So) (id : Int) : (ctS s id).l.length = s.l.length := put_len _ _ _
theorem wrS_len (s : So) (id off : Int) (b : List Int) : (wrS s id off b).l.length = s.l.length := by
  unfold wrS; split
  · exact put_len _ _ _
  · rfl
/-- All frames are somewhere. -/
def Held20 (N : Nat) (s : So) : Prop := s.fr + useFi s.l = N
theorem Held20.mk_ {N : Nat} {s : So} (h : Held20 N s) (id : Int) : Held20 N (mkS s id) := by
  unfold mkS
  split
  · show s.fr + useFi (s.l ++ [⟨id, []⟩]) = N
    rw [use_new]; exact h
  · exact h
theorem Held20.dr {N : Nat} {s : So} (h : Held20 N s) (id : Int) : Held20 N (drS s id) := by
  have := use_del s.l id
  have h2 : s.fr + useFi s.l = N := h
  show s.fr + blkO (getFi s.l id) + useFi (delFi s.l id) = N
  omega
theorem Held20.ct {N : Nat} {s : So} (h : Held20 N s) (id : Int) : Held20 N (ctS s id) := by
  have h2 : s.fr + useFi s.l = N := h
  show s.fr + blkO (getFi s.l id) + useFi (putFi s.l id []) = N
  cases e : getFi s.l id with
  | none => rw [put_none e]; exact h2
  | some b =>
    have := use_put e []
    have e0 : blkN ([] : List Int).length = 0 := by decide
    show s.fr + blkN b.length + _ = N
    omega
theorem blkN_mono {a b : Nat} (h : a ≤ b) : blkN a ≤ blkN b := by unfold blkN; omega
theorem needN_max (old off m : Nat) : blkN (max old (off + m)) = blkN old + needN old off m := by
  unfold needN
  rcases Nat.le_total old (off + m) with h | h
  · rw [Nat.max_eq_right h]; have := blkN_mono h; omega
  · rw [Nat.max_eq_left h]; have := blkN_mono h; omega
theorem Held20.wr {N : Nat} {s : So} (h : Held20 N s) (id off : Int) (b : List Int) : Held20 N (wrS s id off b) := by
  have h2 : s.fr + useFi s.l = N := h
  unfold wrS
  split
  · rename_i e
    obtain ⟨o, ho, h0, h1⟩ := wrE_ok e.1
    obtain ⟨h3, h4⟩ := h1 e.2
    have := use_put ho (wrB o off.toNat b)
    rw [wrB_len, needN_max] at this
    rw [ho]
    show s.fr - needN o.length off.toNat b.length + useFi (putFi s.l id (wrB o off.toNat b)) = N
    omega
  · exact h
end Go.Proofs.Ytipepklobpnbpaa
