/-
  Plain facts of conditions (chapter 13): who waits at each, as lists of integers; no Go in sight.
-/
import Derived.Test.YtmclifmdlcofaaaNumPlain
namespace Go.Proofs.Ytmclifmdlcofaaa
set_option linter.unusedVariables false
abbrev Cs := List (List Int)
/-- Where a thread waits: the first condition that has it; -1. -/
def ofC (L : Cs) (t : Int) : Int := match L.findIdx? (fun l => decide (t ∈ l)) with | some i => (i : Int) | none => -1
def isCond (L : Cs) (i : Int) : Bool := decide (0 ≤ i ∧ i < (L.length : Int))
def lstC (L : Cs) (i : Int) : List Int := if 0 ≤ i then L.getD i.toNat [] else []
def insL : List Int → Int → List Int
  | [], t => [t]
  | x :: l, t => if t < x then t :: x :: l else x :: insL l t
def waitE (L : Cs) (t i : Int) : Int := if t < 0 ∨ isCond L i = false then 2 else if 0 ≤ ofC L t then 5 else 0
def waitS (L : Cs) (t i : Int) : Cs := if waitE L t i = 0 then L.set i.toNat (insL (lstC L i) t) else L
def canB (L : Cs) (t : Int) : Bool := decide (0 ≤ ofC L t)
def canS (L : Cs) (t : Int) : Cs := if canB L t = true then L.set (ofC L t).toNat ((lstC L (ofC L t)).filter (fun x => decide (x ≠ t))) else L
/-- What a thread counts for. -/
def keyC (ks : List Int) (t : Int) : Int := ks.getD (t % 16).toNat 0
def befC (ks : List Int) (a b : Int) : Bool := decide (keyC ks b < keyC ks a)
def bestFrom (ks : List Int) (b : Int) (l : List Int) : Int := l.foldl (fun b x => if befC ks x b = true then x else b) b
def bestC (ks : List Int) : List Int → Int
  | [] => -1
  | x :: l => bestFrom ks x l
def sigB (L : Cs) (i : Int) : Bool := decide (lstC L i ≠ [])
def sigX (ks : List Int) (L : Cs) (i : Int) : Int := bestC ks (lstC L i)
def sigS (ks : List Int) (L : Cs) (i : Int) : Cs := if sigB L i = true then canS L (sigX ks L i) else L
/-- Without a way to tell. -/
def nilB (L : Cs) (i : Int) : Bool := decide ((lstC L i).length = 1)
def nilX (L : Cs) (i : Int) : Int := if nilB L i = true then (lstC L i).headD (-1) else -1
def nilS (L : Cs) (i : Int) : Cs := if nilB L i = true then canS L (nilX L i) else L
theorem lstC_nat (L : Cs) (k : Nat) : lstC L (k : Int) = L.getD k [] := by unfold lstC; rw [if_pos (by omega)]; simp
theorem lstC_get {L : Cs} {k : Nat} {l : List Int} (h : L[k]? = some l) : lstC L (k : Int) = l := by rw [lstC_nat]; simp [List.getD, h]
theorem lstC_out {L : Cs} {i : Int} (h : isCond L i = false) : lstC L i = [] := by
  unfold lstC
  split
  · have h2 : ¬ (0 ≤ i ∧ i < (L.length : Int)) := by simpa [isCond] using h
    rw [List.getD_eq_getElem?_getD, List.getElem?_eq_none (by omega)]
    rfl
  · rfl
theorem isCond_iff {L : Cs} {i : Int} : isCond L i = true ↔ ∃ k : Nat, i = (k : Int) ∧ k < L.length := by
  unfold isCond
  rw [decide_eq_true_eq]
  constructor
  · rintro ⟨h1, h2⟩; exact ⟨i.toNat, by omega, by omega⟩
  · rintro ⟨k, rfl, h⟩; omega
theorem ofC_some {L : Cs} {t : Int} {k : Nat} {l : List Int} (hk : L[k]? = some l) (ht : t ∈ l) (hf : ∀ (j : Nat) (m : List Int), j < k → L[j]? = some m → t ∉ m) : ofC L t = (k : Int) := by
  have hlt : k < L.length := (List.getElem?_eq_some_iff.1 hk).1
  have e : L.findIdx? (fun l => decide (t ∈ l)) = some k := by
    rw [List.findIdx?_eq_some_iff_getElem]
    refine ⟨hlt, ?_, fun j hj => ?_⟩
    · have := (List.getElem?_eq_some_iff.1 hk).2
      rw [this]; simpa using ht
    · have := hf j (L[j]'(by omega)) hj (List.getElem?_eq_getElem (by omega))
      simpa using this
  unfold ofC
  rw [e]
theorem ofC_none {L : Cs} {t : Int} (h : ∀ l ∈ L, t ∉ l) : ofC L t = -1 := by
  have e : L.findIdx? (fun l => decide (t ∈ l)) = none := by
    rw [List.findIdx?_eq_none_iff]
    intro l hl
    simpa using h l hl
  unfold ofC
  rw [e]
theorem ofC_cases (L : Cs) (t : Int) : (ofC L t = -1 ∧ ∀ l ∈ L, t ∉ l) ∨ ∃ (k : Nat) (l : List Int), ofC L t = (k : Int) ∧ L[k]? = some l ∧ t ∈ l ∧ ∀ (j : Nat) (m : List Int), j < k → L[j]? = some m → t ∉ m := by
  cases e : L.findIdx? (fun l => decide (t ∈ l)) with
  | none =>
    left
    rw [List.findIdx?_eq_none_iff] at e
    refine ⟨by unfold ofC; rw [List.findIdx?_eq_none_iff.2 e], fun l hl => by simpa using e l hl⟩
  | some k =>
    right
    have e2 := e
    rw [List.findIdx?_eq_some_iff_getElem] at e
    obtain ⟨h1, h2, h3⟩ := e
    refine ⟨k, L[k], by unfold ofC; rw [e2], List.getElem?_eq_getElem h1, by simpa using h2, fun j m hj hm => ?_⟩
    have := h3 j hj
    obtain ⟨q1, q2⟩ := List.getElem?_eq_some_iff.1 hm
    rw [q2] at this
    simpa using this
theorem ofC_lo (L : Cs) (t : Int) : -1 ≤ ofC L t := by rcases ofC_cases L t with ⟨e, _⟩ | ⟨k, _, e, _⟩ <;> rw [e] <;> omega
theorem ofC_hi (L : Cs) (t : Int) : ofC L t < (L.length : Int) := by
  rcases ofC_cases L t with ⟨e, _⟩ | ⟨k, _, e, h, _⟩
  · rw [e]; omega
  · rw [e]; have := (List.getElem?_eq_some_iff.1 h).1; omega
theorem ofC_in {L : Cs} {t : Int} (h : 0 ≤ ofC L t) : ∃ k l, ofC L t = ((k : Nat) : Int) ∧ L[k]? = some l ∧ t ∈ l := by
  rcases ofC_cases L t with ⟨e, _⟩ | ⟨k, l, e, h, h2, _⟩
  · omega
  · exact ⟨k, l, e, h, h2⟩
theorem ofC_not {L : Cs} {t : Int} (h : ofC L t < 0) : ∀ l ∈ L, t ∉ l := by
  rcases ofC_cases L t with ⟨_, e⟩ | ⟨k, l, e, _⟩
  · exact e
  · omega
theorem insL_end {l : List Int} {t : Int} (h : ∀ x ∈ l, ¬ t < x) : insL l t = l ++ [t] := by
  induction l with
  | nil => rfl
  | cons x l ih =>
    unfold insL
    rw [if_neg (h x (List.mem_cons_self ..)), ih fun y hy => h y (List.mem_cons_of_mem _ hy)]
    rfl
theorem insL_mid {a : List Int} {x : Int} {b : List Int} {t : Int} (h : ∀ y ∈ a, ¬ t < y) (hx : t < x) : insL (a ++ x :: b) t = a ++ t :: x :: b := by
  induction a with
  | nil => show insL (x :: b) t = _; unfold insL; rw [if_pos hx]; rfl
  | cons y a ih =>
    show insL (y :: (a ++ x :: b)) t = _
    unfold insL
    rw [if_neg (h y (List.mem_cons_self ..)), ih fun z hz => h z (List.mem_cons_of_mem _ hz)]
    rfl
theorem insL_len (l : List Int) (t : Int) : (insL l t).length = l.length + 1 := by
  induction l with
  | nil => rfl
  | cons x l ih => unfold insL; split <;> simp [ih]
theorem mem_insL {l : List Int} {t x : Int} : x ∈ insL l t ↔ x = t ∨ x ∈ l := by
  induction l with
  | nil => simp [insL]
  | cons y l ih =>
    unfold insL
    split
    · simp
    · simp [ih]
      constructor
      · rintro (h | h | h) <;> simp [h]
      · rintro (h | h | h) <;> simp [h]
theorem insL_rises {l : List Int} {t : Int} (h : l.Pairwise (· < ·)) (ht : t ∉ l) : (insL l t).Pairwise (· < ·) := by
  induction l with
  | nil => simp [insL]
  | cons x l ih =>
    rw [List.pairwise_cons] at h
    unfold insL
    split
    · rename_i hx
      rw [List.pairwise_cons, List.pairwise_cons]
      refine ⟨fun y hy => ?_, h.1, h.2⟩
      rcases List.mem_cons.1 hy with rfl | hy
      · exact hx
      · have := h.1 y hy; omega
    · rename_i hx
      rw [List.pairwise_cons]
      refine ⟨fun y hy => ?_, ih h.2 fun e => ht (List.mem_cons_of_mem _ e)⟩
      rcases mem_insL.1 hy with rfl | hy
      · have : y ≠ x := fun e => ht (by rw [e]; exact List.mem_cons_self ..)
        omega
      · exact h.1 y hy
/-- The best of several: of the greatest key, of these the first. -/
theorem best_from (ks : List Int) : ∀ (l : List Int) (b : Int), (∀ y ∈ l, b < y) → l.Pairwise (· < ·) → (bestFrom ks b l = b ∨ bestFrom ks b l ∈ l) ∧
    ∀ y, (y = b ∨ y ∈ l) → keyC ks y < keyC ks (bestFrom ks b l) ∨ (keyC ks y = keyC ks (bestFrom ks b l) ∧ bestFrom ks b l ≤ y) := by
  intro l
  induction l with
  | nil => intro b _ _; exact ⟨.inl rfl, fun y hy => by rcases hy with rfl | hy; exact .inr ⟨rfl, Int.le_refl _⟩; cases hy⟩
  | cons x l ih =>
    intro b hb hp
    rw [List.pairwise_cons] at hp
    have e : bestFrom ks b (x :: l) = bestFrom ks (if befC ks x b = true then x else b) l := rfl
    rw [e]
    by_cases hk : keyC ks b < keyC ks x
    · rw [if_pos (by simpa [befC] using hk)]
      obtain ⟨h1, h2⟩ := ih x hp.1 hp.2
      refine ⟨.inr ?_, fun y hy => ?_⟩
      · rcases h1 with h1 | h1
        · rw [h1]; exact List.mem_cons_self ..
        · exact List.mem_cons_of_mem _ h1
      · rcases hy with rfl | hy
        · have := h2 x (.inl rfl); omega
        · rcases List.mem_cons.1 hy with rfl | hy
          · exact h2 _ (.inl rfl)
          · exact h2 y (.inr hy)
    · rw [if_neg (by simpa [befC] using hk)]
      obtain ⟨h1, h2⟩ := ih b (fun y hy => hb y (List.mem_cons_of_mem _ hy)) hp.2
      refine ⟨h1.imp id (List.mem_cons_of_mem _), fun y hy => ?_⟩
      rcases hy with rfl | hy
      · exact h2 _ (.inl rfl)
      · rcases List.mem_cons.1 hy with rfl | hy
        · have h3 := h2 b (.inl rfl)
          have h4 := hb y (List.mem_cons_self ..)
          omega
        · exact h2 y (.inr hy)
theorem bestC_spec (ks : List Int) {l : List Int} (hn : l ≠ []) (hp : l.Pairwise (· < ·)) : bestC ks l ∈ l ∧ ∀ y ∈ l, keyC ks y < keyC ks (bestC ks l) ∨ (keyC ks y = keyC ks (bestC ks l) ∧ bestC ks l ≤ y) := by
  cases l with
  | nil => exact absurd rfl hn
  | cons x l =>
    rw [List.pairwise_cons] at hp
    obtain ⟨h1, h2⟩ := best_from ks l x hp.1 hp.2
    refine ⟨?_, fun y hy => h2 y (List.mem_cons.1 hy)⟩
    rcases h1 with h1 | h1
    · show bestFrom ks x l ∈ _; rw [h1]; exact List.mem_cons_self ..
    · exact List.mem_cons_of_mem _ h1
theorem bestFrom_snoc (ks : List Int) (b : Int) (l : List Int) (x : Int) : bestFrom ks b (l ++ [x]) = if befC ks x (bestFrom ks b l) = true then x else bestFrom ks b l := by unfold bestFrom; simp
/-- What is kept of conditions: each list rises, from 0 on, and no thread waits at two. -/
structure GoodC (L : Cs) : Prop where
  rise : ∀ l ∈ L, l.Pairwise (· < ·)
  pos : ∀ l ∈ L, ∀ x ∈ l, 0 ≤ x
  one : ∀ (i j : Nat) (l m : List Int) (t : Int), L[i]? = some l → L[j]? = some m → t ∈ l → t ∈ m → i = j
theorem mem_set {L : Cs} {k : Nat} {m l : List Int} (h : l ∈ L.set k m) : l = m ∨ l ∈ L := by
  rcases List.mem_or_eq_of_mem_set h with h | h
  · exact .inr h
  · exact .inl h
theorem GoodC.wait {L : Cs} (h : GoodC L) (t i : Int) : GoodC (waitS L t i) := by
  unfold waitS
  split
  case isFalse => exact h
  case isTrue e =>
    unfold waitE at e
    split at e
    · cases e
    · rename_i h0
      split at e
      · cases e
      · rename_i h5
        have t0 : 0 ≤ t := by omega
        have hc : isCond L i = true := by cases hh : isCond L i <;> simp_all
        obtain ⟨k, rfl, hk⟩ := isCond_iff.1 hc
        have hl : L[k]? = some L[k] := List.getElem?_eq_getElem hk
        rw [lstC_get hl]
        have hno := ofC_not (show ofC L t < 0 by omega)
        have hm : L[k] ∈ L := List.getElem_mem hk
        refine ⟨fun l hl2 => ?_, fun l hl2 x hx => ?_, fun a b l m x ha hb hxl hxm => ?_⟩
        · rcases mem_set hl2 with rfl | hl2
          · exact insL_rises (h.rise _ hm) (hno _ hm)
          · exact h.rise l hl2
        · rcases mem_set hl2 with rfl | hl2
          · rcases mem_insL.1 hx with rfl | hx
            · exact t0
            · exact h.pos _ hm x hx
          · exact h.pos l hl2 x hx
        · have get : ∀ (a : Nat) (l : List Int), (L.set k (insL L[k] t))[a]? = some l → x ∈ l → (x = t ∧ a = k) ∨ ∃ l', L[a]? = some l' ∧ x ∈ l' := by
            intro a l ha hxl
            by_cases e : k = a
            · subst e
              rw [List.getElem?_set_self hk] at ha
              injection ha with ha
              subst ha
              rcases mem_insL.1 hxl with e | e
              · exact .inl ⟨e, rfl⟩
              · exact .inr ⟨_, hl, e⟩
            · rw [List.getElem?_set_ne e] at ha
              exact .inr ⟨l, ha, hxl⟩
          rcases get a l (by simpa using ha) hxl with ⟨e1, e2⟩ | ⟨l', h1, h2⟩
          · rcases get b m (by simpa using hb) hxm with ⟨f1, f2⟩ | ⟨m', h3, h4⟩
            · omega
            · exact absurd (by rw [← e1]; exact h4) (hno m' (List.mem_of_getElem? h3))
          · rcases get b m (by simpa using hb) hxm with ⟨f1, f2⟩ | ⟨m', h3, h4⟩
            · exact absurd (by rw [← f1]; exact h2) (hno l' (List.mem_of_getElem? h1))
            · exact h.one a b l' m' x h1 h3 h2 h4
theorem set_filter_mem {L : Cs} {k : Nat} {l : List Int} {p : Int → Bool} (hk : L[k]? = some l) {a : Nat} {m : List Int} {x : Int} (ha : (L.set k (l.filter p))[a]? = some m) (hx : x ∈ m) : ∃ m', L[a]? = some m' ∧ x ∈ m' := by
  by_cases e : k = a
  · subst e
    rw [List.getElem?_set_self (List.getElem?_eq_some_iff.1 hk).1] at ha
    injection ha with ha
    subst ha
    exact ⟨l, hk, (List.mem_filter.1 hx).1⟩
  · rw [List.getElem?_set_ne e] at ha
    exact ⟨m, ha, hx⟩
theorem GoodC.cancel {L : Cs} (h : GoodC L) (t : Int) : GoodC (canS L t) := by
  unfold canS
  split
  case isFalse => exact h
  case isTrue e =>
    obtain ⟨k, l, e1, e2, e3⟩ := ofC_in (show 0 ≤ ofC L t by simpa [canB] using e)
    rw [e1, lstC_get e2]
    refine ⟨fun m hm => ?_, fun m hm x hx => ?_, fun a b m n x ha hb hx hy => ?_⟩
    · rcases mem_set hm with rfl | hm
      · exact (h.rise l (List.mem_of_getElem? e2)).sublist List.filter_sublist
      · exact h.rise m hm
    · rcases mem_set hm with rfl | hm
      · exact h.pos l (List.mem_of_getElem? e2) x (List.mem_filter.1 hx).1
      · exact h.pos m hm x hx
    · obtain ⟨m', h1, h2⟩ := set_filter_mem e2 (by simpa using ha) hx
      obtain ⟨n', h3, h4⟩ := set_filter_mem e2 (by simpa using hb) hy
      exact h.one a b m' n' x h1 h3 h2 h4
theorem GoodC.signal {L : Cs} (h : GoodC L) (ks : List Int) (i : Int) : GoodC (sigS ks L i) := by
  unfold sigS
  split
  · exact h.cancel _
  · exact h
theorem GoodC.nilS {L : Cs} (h : GoodC L) (i : Int) : GoodC (nilS L i) := by
  unfold Go.Proofs.Ytmclifmdlcofaaa.nilS
  split
  · exact h.cancel _
  · exact h
def newC (n : Nat) : Cs := List.replicate n []
theorem good_new (n : Nat) : GoodC (newC n) := by
  have h : ∀ l ∈ newC n, l = [] := fun l hl => (List.mem_replicate.1 hl).2
  refine ⟨fun l hl => by rw [h l hl]; simp, (fun l hl x hx => by rw [h l hl] at hx; cases hx), fun i j l m t hi hj hx => ?_⟩
  rw [h l (List.mem_of_getElem? hi)] at hx
  cases hx
theorem waitS_len (L : Cs) (t i : Int) : (waitS L t i).length = L.length := by unfold waitS; split <;> simp
theorem canS_len (L : Cs) (t : Int) : (canS L t).length = L.length := by unfold canS; split <;> simp
theorem sigS_len (ks : List Int) (L : Cs) (i : Int) : (sigS ks L i).length = L.length := by unfold sigS; split <;> simp [canS_len]
/-- All that wait are threads below b. -/
def BelowC (b : Int) (L : Cs) : Prop := ∀ l ∈ L, ∀ x ∈ l, x < b
theorem BelowC.wait {b : Int} {L : Cs} (h : BelowC b L) {t i : Int} (ht : t < b) : BelowC b (waitS L t i) := by
  unfold waitS
  split
  case isFalse => exact h
  case isTrue e =>
    intro l hl x hx
    rcases mem_set hl with rfl | hl
    · rcases mem_insL.1 hx with rfl | hx
      · exact ht
      · unfold lstC at hx
        split at hx
        · cases hg : L[i.toNat]? with
          | none => rw [List.getD_eq_getElem?_getD, hg] at hx; cases hx
          | some m => rw [List.getD_eq_getElem?_getD, hg] at hx; exact h m (List.mem_of_getElem? hg) x hx
        · cases hx
    · exact h l hl x hx
theorem BelowC.cancel {b : Int} {L : Cs} (h : BelowC b L) (t : Int) : BelowC b (canS L t) := by
  unfold canS
  split
  case isFalse => exact h
  case isTrue e =>
    obtain ⟨k, l, e1, e2, e3⟩ := ofC_in (show 0 ≤ ofC L t by simpa [canB] using e)
    rw [e1, lstC_get e2]
    intro m hm x hx
    rcases mem_set hm with rfl | hm
    · exact h l (List.mem_of_getElem? e2) x (List.mem_filter.1 hx).1
    · exact h m hm x hx
theorem BelowC.signal {b : Int} {L : Cs} (h : BelowC b L) (ks : List Int) (i : Int) : BelowC b (sigS ks L i) := by
  unfold sigS
  split
  · exact h.cancel _
  · exact h
/-- A rising list of numbers from 0 to below b has at most b of them. -/
theorem rises_len : ∀ (l : List Int) (a b : Int), l.Pairwise (· < ·) → (∀ x ∈ l, a ≤ x ∧ x < b) → (l.length : Int) ≤ max 0 (b - a) := by
  intro l
  induction l with
  | nil => intro a b _ _; simp; omega
  | cons x l ih =>
    intro a b hp h
    rw [List.pairwise_cons] at hp
    have h1 := h x (List.mem_cons_self ..)
    have := ih (x + 1) b hp.2 fun y hy => ⟨by have := hp.1 y hy; omega, (h y (List.mem_cons_of_mem _ hy)).2⟩
    simp only [List.length_cons]
    push_cast
    omega
theorem GoodC.few {L : Cs} (h : GoodC L) {b : Nat} (hb : BelowC (b : Int) L) : ∀ l ∈ L, l.length ≤ b := by
  intro l hl
  have := rises_len l 0 (b : Int) (h.rise l hl) fun x hx => ⟨h.pos l hl x hx, hb l hl x hx⟩
  omega
end Go.Proofs.Ytmclifmdlcofaaa
