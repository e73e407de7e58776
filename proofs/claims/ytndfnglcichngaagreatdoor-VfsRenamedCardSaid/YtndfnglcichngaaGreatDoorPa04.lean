/-
  Several texts as one: IdGood VfPlain Bytes FrNew FrAwake.
-/
import Derived.Test.YtndfnglcichngaaGreatDoorPa03
import Derived.Deep.QuietTactic
import Derived.BigQuiet
import Derived.Test.YtndfnglcichngaaGreatDoorPa02
namespace Go.Proofs.YtndfnglcichngaaGreatDoor
set_option linter.unusedVariables false
set_option linter.unusedSimpArgs false
theorem isI_nat (s : In) (i : Nat) : isI s (i : Int) = (decide (i < 16) && (s.n i).is) := by
  unfold isI
  rw [Int.toNat_natCast]
  congr 1
  exact decide_eq_decide.2 ⟨fun h => by omega, fun h => by omega⟩
theorem isI_yes {s : In} {id : Int} (h : isI s id = true) : ∃ i : Nat, id = (i : Int) ∧ i < 16 ∧ (s.n i).is = true := by
  unfold isI at h
  simp at h
  exact ⟨id.toNat, by omega, by omega, h.2⟩
theorem dirI_yes {s : In} {id : Int} (h : dirI s id = true) : ∃ i : Nat, id = (i : Int) ∧ i < 16 ∧ (s.n i).is = true ∧ (s.n i).dir = true := by
  unfold dirI at h
  simp at h
  obtain ⟨i, rfl, h2, h3⟩ := isI_yes h.1
  exact ⟨i, rfl, h2, h3, by simpa using h.2⟩
theorem isI_of {s : In} {i : Nat} (h : i < 16) (h2 : (s.n i).is = true) : isI s (i : Int) = true := by rw [isI_nat, h2]; simp [h]
theorem dirI_of {s : In} {i : Nat} (h : i < 16) (h2 : (s.n i).is = true) (h3 : (s.n i).dir = true) : dirI s (i : Int) = true := by unfold dirI; rw [isI_of h h2]; simp [h3]
/-- One node is another one now. -/
theorem GoodP.node {s s' : In} {pend pend' : List Ent} {B B' : Int} {i : Nat} {x : Nd} (h : GoodP s pend B) (hs : s'.n = upd s.n i x) (hi : i < 16) (hB : B ≤ B') (r : i = 0 → x.dir = true) (hx : x.is = true) (file : x.dir = false → x.l = []) (ent : ∀ e ∈ x.l, e.id < 16 ∧ e.id ≠ 0 ∧ nameE e.nm = 0) (srt : x.l.Pairwise fun a b => ltT a.nm b.nm = true) (few : x.l.length ≤ 8) (pnd : ∀ e ∈ pend', e.id < 16 ∧ e.id ≠ 0)
    (lnk : ∀ j, (upd s.n i x j).links + ((cntL (s.n i).l j + cntL pend j : Nat) : Int) = (s.n j).links + ((cntL x.l j + cntL pend' j : Nat) : Int)) (opn : 0 ≤ x.opens ∧ x.opens ≤ B') (lb : x.links ≤ 1000) (fil : ∀ k : Nat, (getFi s'.so.l k).isSome = true ↔ (upd s.n i x k).is = true ∧ (upd s.n i x k).dir = false) (so : GoodSo s'.so) : GoodP s' pend' B' := by
  have other : ∀ {k}, k ≠ i → s'.n k = s.n k := fun hk => by rw [hs]; exact upd_other _ _ hk
  have same : s'.n i = x := by rw [hs]; exact upd_same _ _ _
  have by2 : ∀ {P : Nd → Prop}, P x → (∀ k, P (s.n k)) → ∀ k, P (s'.n k) := fun hz hk k => by
    by_cases e2 : k = i
    · rw [e2, same]; exact hz
    · rw [other e2]; exact hk k
  have hc := fun j => cntE_upd hs hi j
  refine ⟨by have := h.b1; omega, ?_, by2 (P := fun y => y.is = false → y = Nd.zero) (fun e => by rw [hx] at e; cases e) h.no, fun k hk => ?_, by2 (P := fun y => y.dir = false → y.l = []) file h.file, by2 (P := fun y => ∀ e ∈ y.l, e.id < 16 ∧ e.id ≠ 0 ∧ nameE e.nm = 0) ent h.ent, by2 (P := fun y => y.l.Pairwise fun a b => ltT a.nm b.nm = true) srt h.srt, by2 (P := fun y => y.l.length ≤ 8) few h.few, pnd, fun j => ?_, by2 (P := fun y => 0 ≤ y.opens ∧ y.opens ≤ B') opn (fun k => ⟨(h.opn k).1, by have := (h.opn k).2; omega⟩), by2 (P := fun y => y.links ≤ 1000) lb h.lb, fun k => by rw [hs]; exact fil k, so⟩
  · by_cases e : i = 0
    · rw [← e, same]; exact ⟨hx, r e⟩
    · rw [other (fun h => e h.symm)]; exact h.root
  · rw [other (by omega)]; exact h.big k hk
  · have h1 := lnk j
    have h2 := hc j
    have h3 := h.lnk j
    rw [← hs] at h1
    omega
/-- Less than a million files. -/
theorem GoodP.sofew {s : In} {pend : List Ent} {B : Int} (h : GoodP s pend B) : s.so.l.length ≤ 16 := by
  have h1 : (s.so.l.map fun x => x.id.toNat).Nodup := by
    have := h.so.nodup
    unfold idsFi at this
    rw [show (s.so.l.map fun x => x.id.toNat) = (s.so.l.map Fi.id).map Int.toNat from by simp]
    rw [List.nodup_iff_pairwise_ne] at this ⊢
    rw [List.pairwise_map]
    refine (this.imp_of_mem ?_)
    intro a b ha hb hab e
    obtain ⟨x, hx, rfl⟩ := List.mem_map.1 ha
    obtain ⟨y, hy, rfl⟩ := List.mem_map.1 hb
    have := (h.so.ids x hx).1
    have := (h.so.ids y hy).1
    omega
  have h2 := nodup_len (n := 16) h1 (fun i hi => by
    obtain ⟨x, hx, rfl⟩ := List.mem_map.1 hi
    have hid := (h.so.ids x hx).1
    have hs : (getFi s.so.l ((x.id.toNat : Nat) : Int)).isSome = true := by
      rw [show ((x.id.toNat : Nat) : Int) = x.id from by omega]
      cases e : getFi s.so.l x.id with
      | some o => rfl
      | none => exact absurd (List.mem_map_of_mem hx) (getFi_none.1 e)
    have := ((h.fil _).1 hs).1
    by_cases hb : x.id.toNat < 16
    · exact hb
    · rw [h.big _ (by omega)] at this; cases this)
  rwa [List.length_map] at h2
theorem freeA_is {s : In} : ∀ {k i j : Nat}, freeA s k i = some j → i ≤ j ∧ j < i + k ∧ (s.n j).is = false ∧ ∀ m, i ≤ m → m < j → (s.n m).is = true
  | 0, _, _, h => by cases h
  | k + 1, i, j, h => by
    unfold freeA at h
    by_cases e : (s.n i).is = true
    · rw [if_pos e] at h
      obtain ⟨h1, h2, h3, h4⟩ := freeA_is h
      exact ⟨by omega, by omega, h3, fun m hm hj => by
        by_cases e2 : m = i
        · rw [e2]; exact e
        · exact h4 m (by omega) hj⟩
    · rw [if_neg e] at h
      injection h with h
      subst h
      exact ⟨Nat.le_refl _, by omega, by simpa using e, fun m h1 h2 => by omega⟩
theorem freeA_none {s : In} : ∀ {k i : Nat}, freeA s k i = none → ∀ m, i ≤ m → m < i + k → (s.n m).is = true
  | 0, _, _, m, h1, h2 => by omega
  | k + 1, i, h, m, h1, h2 => by
    unfold freeA at h
    by_cases e : (s.n i).is = true
    · rw [if_pos e] at h
      by_cases e2 : m = i
      · rw [e2]; exact e
      · exact freeA_none h m (by omega) (by omega)
    · rw [if_neg e] at h; cases h
theorem freeI_is {s : In} {j : Nat} (h : freeI s = some j) : 1 ≤ j ∧ j < 16 ∧ (s.n j).is = false := by
  obtain ⟨h1, h2, h3, _⟩ := freeA_is h
  exact ⟨h1, by omega, h3⟩
theorem cntL_nil (j : Nat) : cntL [] j = 0 := rfl
theorem newI_good (n : Nat) : GoodP (newI n) [] 1 := by
  have h0 : (newI n).n 0 = ⟨true, true, 0, 0, []⟩ := upd_same (fun _ => Nd.zero) 0 _
  have hk : ∀ {k}, k ≠ 0 → (newI n).n k = Nd.zero := fun h => upd_other (fun _ => Nd.zero) _ h
  have by2 : ∀ {P : Nd → Prop}, P ⟨true, true, 0, 0, []⟩ → P Nd.zero → ∀ k, P ((newI n).n k) := fun h1 h2 k => by
    by_cases e : k = 0
    · rw [e, h0]; exact h1
    · rw [hk e]; exact h2
  refine ⟨Int.le_refl _, by rw [h0]; exact ⟨rfl, rfl⟩, by2 (P := fun y => y.is = false → y = Nd.zero) (fun e => by cases e) (fun _ => rfl), fun k h => hk (by omega), by2 (P := fun y => y.dir = false → y.l = []) (fun _ => rfl) (fun _ => rfl), by2 (P := fun y => ∀ e ∈ y.l, e.id < 16 ∧ e.id ≠ 0 ∧ nameE e.nm = 0) (fun e he => nomatch he) (fun e he => nomatch he), by2 (P := fun y => y.l.Pairwise fun a b => ltT a.nm b.nm = true) List.Pairwise.nil List.Pairwise.nil, by2 (P := fun y => y.l.length ≤ 8) (Nat.zero_le _) (Nat.zero_le _), (fun e he => nomatch he), fun j => ?_, by2 (P := fun y => 0 ≤ y.opens ∧ y.opens ≤ 1) (by decide) (by decide), by2 (P := fun y => y.links ≤ 1000) (by decide) (by decide), fun k => ?_, GoodSo.new n⟩
  · have e0 : cntE (newI n) j = 0 := by
      unfold cntE
      have := sumN_le (f := fun i => cntL ((newI n).n i).l j) (c := 0) (n := 16) (fun i _ => by
        have := by2 (P := fun y => cntL y.l j ≤ 0) (Nat.le_refl _) (Nat.le_refl _) i
        exact this)
      omega
    rw [e0]
    exact by2 (P := fun y => y.links = ((0 + cntL [] j : Nat) : Int)) rfl rfl j
  · show (none : Option (List Int)).isSome = true ↔ _
    exact by2 (P := fun y => (none : Option (List Int)).isSome = true ↔ y.is = true ∧ y.dir = false) (by simp) (by simp [Nd.zero]) k
theorem GoodP.mk_ {s : In} {B : Int} (h : GoodP s [] B) (d : Bool) : GoodP (mkI s d) [] B := by
  unfold mkI
  cases e : freeI s with
  | none => exact h
  | some i =>
    obtain ⟨h1, h2, h3⟩ := freeI_is e
    have hz := h.no i h3
    have gn : getFi s.so.l (i : Int) = none := by
      cases e2 : getFi s.so.l (i : Int) with
      | none => rfl
      | some o => have := ((h.fil i).1 (by rw [e2]; rfl)).1; rw [h3] at this; cases this
    have me : mkE s.so (i : Int) = 0 := by unfold mkE; rw [if_neg (by omega), gn]; rfl
    refine h.node (s' := mkAt s d i) rfl h2 (Int.le_refl _) (fun e => by omega) rfl (fun _ => rfl) (fun e he => by cases he) List.Pairwise.nil (Nat.zero_le _) (fun e he => by cases he) (fun j => ?_) ⟨show (0 : Int) ≤ 1 by decide, h.b1⟩ (show (0 : Int) ≤ 1000 by decide) (fun k => ?_) ?_
    · rw [show (s.n i).l = [] from by rw [hz]; rfl]
      by_cases e2 : j = i
      · subst e2; rw [upd_same, hz]; rfl
      · rw [upd_other _ _ e2]
    · show (getFi (if d then s.so else mkS s.so i).l k).isSome = true ↔ _
      by_cases e2 : k = i
      · subst e2
        rw [upd_same]
        cases d with
        | true => simp [gn]
        | false =>
          show (getFi (mkS s.so (k : Int)).l k).isSome = true ↔ _
          unfold mkS
          rw [if_pos me, getFi_new gn, if_pos rfl]
          simp
      · rw [upd_other _ _ e2, ← h.fil k]
        cases d with
        | true => exact Iff.rfl
        | false =>
          show (getFi (mkS s.so (i : Int)).l k).isSome = true ↔ _
          unfold mkS
          rw [if_pos me, getFi_new gn, if_neg (by omega)]
    · show GoodSo (if d then s.so else mkS s.so i)
      split
      · exact h.so
      · exact h.so.mk_ (wf_nat (by omega))
theorem GoodP.op {s : In} {B : Int} (h : GoodP s [] B) (id : Int) : GoodP (opI s id) [] (B + 1) := by
  unfold opI
  split
  · rename_i e
    obtain ⟨i, rfl, h2, h3⟩ := isI_yes e
    rw [Int.toNat_natCast]
    refine h.node (s' := s.put i { s.n i with opens := (s.n i).opens + 1 }) rfl h2 (by omega) (fun e => by subst e; exact h.root.2) h3 (h.file i) (h.ent i) (h.srt i) (h.few i) (fun e he => by cases he) (fun j => ?_) (by have := h.opn i; exact ⟨by show 0 ≤ (s.n i).opens + 1; omega, by show (s.n i).opens + 1 ≤ B + 1; omega⟩) (h.lb i) (fun k => ?_) h.so
    · by_cases e2 : j = i
      · subst e2; rw [upd_same]
      · rw [upd_other _ _ e2]
    · show (getFi s.so.l k).isSome = true ↔ _
      rw [h.fil k]
      by_cases e2 : k = i
      · subst e2; rw [upd_same]
      · rw [upd_other _ _ e2]
  · exact ⟨by have := h.b1; omega, h.root, h.no, h.big, h.file, h.ent, h.srt, h.few, h.pnd, h.lnk, fun i => ⟨(h.opn i).1, by have := (h.opn i).2; omega⟩, h.lb, h.fil, h.so⟩
theorem GoodP.cl {s : In} {B : Int} (h : GoodP s [] B) (id : Int) : GoodP (clI s id) [] B ∧ (NoOrph s 0 → NoOrph (clI s id) 0) := by
  unfold clI
  split
  · rename_i e
    unfold clIE at e
    split at e
    · rename_i e1
      obtain ⟨i, rfl, h2, h3⟩ := isI_yes e1.1
      have ho := e1.2
      rw [Int.toNat_natCast] at ho ⊢
      have hn := h.opn i
      have hg : GoodP (s.put i { s.n i with opens := (s.n i).opens - 1 }) [] B := by
        refine h.node (i := i) (x := { s.n i with opens := (s.n i).opens - 1 }) rfl h2 (Int.le_refl _) (fun e => by subst e; exact h.root.2) h3 (h.file i) (h.ent i) (h.srt i) (h.few i) (fun e he => by cases he) (fun j => ?_) ⟨by show 0 ≤ (s.n i).opens - 1; omega, by show (s.n i).opens - 1 ≤ B; omega⟩ (h.lb i) (fun k => ?_) h.so
        · by_cases e2 : j = i
          · subst e2; rw [upd_same]
          · rw [upd_other _ _ e2]
        · show (getFi s.so.l k).isSome = true ↔ _
          rw [h.fil k]
          by_cases e2 : k = i
          · subst e2; rw [upd_same]
          · rw [upd_other _ _ e2]
      have g := hg.gone (f := 17) h2 (by have := cntI_le (s.put i { s.n i with opens := (s.n i).opens - 1 }); omega)
      refine ⟨g.1, fun hno => g.2.2 (fun k hk hke his => ?_) 0⟩
      have e3 : (s.put i { s.n i with opens := (s.n i).opens - 1 }).n k = s.n k := upd_other _ _ hke
      rw [e3] at his ⊢
      exact hno k hk hk his
    · cases e
  · exact ⟨h, fun h => h⟩
theorem findL_some {l : List Ent} {t : Txt} {i : Nat} (h : findL l t = some i) : ∃ p e q, l = p ++ e :: q ∧ e.nm = t ∧ e.id = i ∧ ∀ x ∈ p, x.nm ≠ t := by
  induction l with
  | nil => cases h
  | cons x l ih =>
    unfold findL at h
    split at h
    · rename_i e; injection h with h; exact ⟨[], x, l, rfl, e, h, fun y hy => by cases hy⟩
    · rename_i e
      obtain ⟨p, e2, q, rfl, h2, h3, h4⟩ := ih h
      exact ⟨x :: p, e2, q, rfl, h2, h3, fun y hy => by rcases List.mem_cons.1 hy with rfl | hy; exact e; exact h4 y hy⟩
theorem findL_none {l : List Ent} {t : Txt} : findL l t = none ↔ ∀ x ∈ l, x.nm ≠ t := by
  induction l with
  | nil => simp [findL]
  | cons x l ih =>
    unfold findL
    by_cases e : x.nm = t
    · rw [if_pos e]; simp [e]
    · rw [if_neg e, ih]; simp [e]
theorem insL_mem {l : List Ent} {e x : Ent} : x ∈ insL l e ↔ x = e ∨ x ∈ l := by
  induction l with
  | nil => simp [insL]
  | cons y l ih =>
    unfold insL
    split
    · simp
    · rw [List.mem_cons, ih, List.mem_cons]
      constructor
      · rintro (h | h | h) <;> simp [h]
      · rintro (h | h | h) <;> simp [h]
theorem insL_len (l : List Ent) (e : Ent) : (insL l e).length = l.length + 1 := by
  induction l with
  | nil => rfl
  | cons y l ih => unfold insL; split <;> simp [ih]
theorem insL_srt {l : List Ent} {e : Ent} (h : l.Pairwise fun a b => ltT a.nm b.nm = true) (hn : ∀ x ∈ l, x.nm ≠ e.nm) : (insL l e).Pairwise fun a b => ltT a.nm b.nm = true := by
  induction l with
  | nil => simp [insL]
  | cons y l ih =>
    obtain ⟨h1, h2⟩ := List.pairwise_cons.1 h
    unfold insL
    split
    · rename_i hl
      refine List.pairwise_cons.2 ⟨fun x hx => ?_, h⟩
      rcases List.mem_cons.1 hx with rfl | hx
      · exact hl
      · exact ltT_trans hl (h1 x hx)
    · rename_i hl
      refine List.pairwise_cons.2 ⟨fun x hx => ?_, ih h2 (fun x hx => hn x (List.mem_cons_of_mem _ hx))⟩
      rcases insL_mem.1 hx with rfl | hx
      · rcases ltT_tri y.nm x.nm with k | k | k
        · exact k
        · exact absurd k (hn y (List.mem_cons_self ..))
        · exact absurd k hl
      · exact h1 x hx
theorem delL_split {p q : List Ent} {e : Ent} {t : Txt} (he : e.nm = t) (h : (p ++ e :: q).Pairwise fun a b => ltT a.nm b.nm = true) : delL (p ++ e :: q) t = p ++ q := by
  obtain ⟨h1, h2, h3⟩ := List.pairwise_append.1 h
  have h4 := List.pairwise_cons.1 h2
  unfold delL
  rw [List.filter_append, List.filter_cons, if_neg (by simp [he])]
  rw [List.filter_eq_self.2 fun x hx => by have := ltT_ne (h3 x hx e (List.mem_cons_self ..)); simpa [he] using this]
  rw [List.filter_eq_self.2 fun x hx => by have := ltT_ne (h4.1 x hx); simp; intro e2; exact this (by rw [he, e2])]
theorem inc_set (s : In) (d i : Nat) (l : List Ent) : incL (setL s d l) i = setL (incL s i) d l := by
  unfold incL setL In.put
  congr 1
  funext k
  by_cases h3 : i = d
  · subst h3
    by_cases h1 : k = i
    · subst h1; simp only [upd_same]
    · simp only [upd_other _ _ h1]
  · have h4 : ¬ d = i := fun e => h3 e.symm
    simp only [upd_other _ _ h3, upd_other _ _ h4]
    by_cases h1 : k = i
    · subst h1; simp only [upd_same, upd_other _ _ h3]
    · by_cases h2 : k = d
      · subst h2; simp only [upd_same, upd_other _ _ h1]
      · simp only [upd_other _ _ h1, upd_other _ _ h2]
theorem GoodP.inc {s : In} {pend : List Ent} {B : Int} (h : GoodP s pend B) {e : Ent} (hi : e.id < 16) (h0 : e.id ≠ 0) (his : (s.n e.id).is = true) (hl : (s.n e.id).links ≤ 999) : GoodP (incL s e.id) (e :: pend) B := by
  refine h.node (i := e.id) (x := { s.n e.id with links := (s.n e.id).links + 1 }) rfl hi (Int.le_refl _) (fun e => absurd e h0) his (h.file _) (h.ent _) (h.srt _) (h.few _) (fun x hx => ?_) (fun j => ?_) (h.opn _) (by show (s.n e.id).links + 1 ≤ 1000; omega) (fun k => ?_) h.so
  · rcases List.mem_cons.1 hx with rfl | hx
    · exact ⟨hi, h0⟩
    · exact h.pnd x hx
  · rw [cntL_cons]
    by_cases e2 : j = e.id
    · subst e2; rw [upd_same, if_pos rfl]; show (s.n e.id).links + 1 + ((cntL (s.n e.id).l e.id + cntL pend e.id : Nat) : Int) = (s.n e.id).links + ((cntL (s.n e.id).l e.id + (cntL pend e.id + 1) : Nat) : Int); omega
    · rw [upd_other _ _ e2, if_neg (fun h => e2 h.symm)]; rfl
  · show (getFi s.so.l k).isSome = true ↔ _
    rw [h.fil k]
    by_cases e2 : k = e.id
    · subst e2; rw [upd_same]
    · rw [upd_other _ _ e2]
theorem GoodP.ins {s : In} {pend : List Ent} {B : Int} {e : Ent} (h : GoodP s (e :: pend) B) {d : Nat} (hd : d < 16) (his : (s.n d).is = true) (hdir : (s.n d).dir = true) (hn : nameE e.nm = 0) (hf : findL (s.n d).l e.nm = none) (hl : (s.n d).l.length < 8) : GoodP (setL s d (insL (s.n d).l e)) pend B := by
  refine h.node (i := d) (x := { s.n d with l := insL (s.n d).l e }) rfl hd (Int.le_refl _) (fun e => hdir) his (fun e => by rw [hdir] at e; cases e) (fun x hx => ?_) (insL_srt (h.srt d) (findL_none.1 hf)) (by rw [insL_len]; omega) (fun x hx => h.pnd x (List.mem_cons_of_mem _ hx)) (fun j => ?_) (h.opn d) (h.lb d) (fun k => ?_) h.so
  · rcases insL_mem.1 hx with rfl | hx
    · have := h.pnd x (List.mem_cons_self ..); exact ⟨this.1, this.2, hn⟩
    · exact h.ent d x hx
  · rw [cntL_ins, cntL_cons]
    by_cases e2 : j = d
    · subst e2; rw [upd_same]; show (s.n j).links + _ = _; omega
    · rw [upd_other _ _ e2]; omega
  · show (getFi s.so.l k).isSome = true ↔ _
    rw [h.fil k]
    by_cases e2 : k = d
    · subst e2; rw [upd_same]
    · rw [upd_other _ _ e2]
theorem GoodP.links {s : In} {B : Int} (h : GoodP s [] B) (j : Nat) : 0 ≤ (s.n j).links ∧ (s.n j).links ≤ 128 := by
  rw [h.lnk j, cntL_nil]
  have : cntE s j ≤ 8 * 16 := sumN_le fun i _ => Nat.le_trans List.countP_le_length (h.few i)
  omega
theorem GoodP.en {s : In} {B : Int} (h : GoodP s [] B) (d : Int) (t : Txt) (id : Int) : GoodP (enI s d t id) [] B ∧ (NoOrph s 0 → NoOrph (enI s d t id) 0) := by
  unfold enI
  split
  · rename_i e
    unfold enIE at e
    split at e
    · cases e
    rename_i e1
    have e1 : dirI s d = true := by simpa using e1
    obtain ⟨i, rfl, i16, iis, idir⟩ := dirI_yes e1
    split at e
    · rename_i e2; have := nameE_range t; omega
    rename_i e2
    have e2 : nameE t = 0 := by simpa using e2
    split at e
    · cases e
    rename_i e3
    have e3 : isI s id = true ∧ id ≠ 0 := by
      refine ⟨?_, fun h => e3 (.inr h)⟩
      cases h : isI s id with
      | true => rfl
      | false => exact absurd (.inl h) e3
    obtain ⟨j, rfl, j16, jis⟩ := isI_yes e3.1
    rw [Int.toNat_natCast] at e ⊢
    rw [Int.toNat_natCast]
    split at e
    · cases e
    rename_i e4
    split at e
    · cases e
    rename_i e5
    have hf : findL (s.n i).l t = none := by simpa using e4
    have h8 : (s.n i).l.length < 8 := by have := h.few i; omega
    have hj0 : j ≠ 0 := by have := e3.2; omega
    have hi := h.inc (e := ⟨t, j⟩) j16 hj0 jis (by have := (h.links j).2; show (s.n j).links ≤ 999; omega)
    have hinc : ∀ k, ((incL s j).n k).is = (s.n k).is ∧ ((incL s j).n k).dir = (s.n k).dir ∧ ((incL s j).n k).l = (s.n k).l ∧ (s.n k).links ≤ ((incL s j).n k).links ∧ ((incL s j).n k).opens = (s.n k).opens := fun k => by
      unfold incL In.put upd
      by_cases e : k = j
      · subst e; simp; omega
      · simp [e]
    have g := hi.ins (d := i) i16 (by rw [(hinc i).1]; exact iis) (by rw [(hinc i).2.1]; exact idir) e2 (by rw [(hinc i).2.2.1]; exact hf) (by rw [(hinc i).2.2.1]; exact h8)
    rw [(hinc i).2.2.1] at g
    rw [inc_set]
    refine ⟨g, fun hno k hk _ his => ?_⟩
    have hs : ((setL (incL s j) i (insL (s.n i).l ⟨t, j⟩)).n k).is = ((incL s j).n k).is ∧ ((setL (incL s j) i (insL (s.n i).l ⟨t, j⟩)).n k).links = ((incL s j).n k).links ∧ ((setL (incL s j) i (insL (s.n i).l ⟨t, j⟩)).n k).opens = ((incL s j).n k).opens := by
      unfold setL In.put upd
      by_cases e : k = i
      · subst e; simp
      · simp [e]
    rw [hs.1, (hinc k).1] at his
    rw [hs.2.1, hs.2.2, (hinc k).2.2.2.2]
    have := (hinc k).2.2.2.1
    rcases hno k hk hk his with h | h
    · exact .inl (by omega)
    · exact .inr h
  · exact ⟨h, fun h => h⟩
theorem GoodP.del {s : In} {B : Int} (h : GoodP s [] B) {d : Nat} (hd : d < 16) (his : (s.n d).is = true) (hdir : (s.n d).dir = true) {t : Txt} {i : Nat} (hf : findL (s.n d).l t = some i) : ∃ e : Ent, e.id = i ∧ GoodP (setL s d (delL (s.n d).l t)) [e] B := by
  obtain ⟨p, e, q, hl, he, hi, hp⟩ := findL_some hf
  have hdl : delL (s.n d).l t = p ++ q := by rw [hl]; exact delL_split he (by rw [← hl]; exact h.srt d)
  have hmem : e ∈ (s.n d).l := by rw [hl]; simp
  have hsub : ∀ x ∈ p ++ q, x ∈ (s.n d).l := fun x hx => by rw [hl]; simp at hx ⊢; rcases hx with hx | hx <;> simp [hx]
  refine ⟨e, hi, ?_⟩
  refine h.node (i := d) (x := { s.n d with l := delL (s.n d).l t }) rfl hd (Int.le_refl _) (fun e => hdir) his (fun e => by rw [hdir] at e; cases e) (fun x hx => ?_) ?_ ?_ (fun x hx => ?_) (fun j => ?_) (h.opn d) (h.lb d) (fun k => ?_) h.so
  · rw [hdl] at hx; exact h.ent d x (hsub x hx)
  · show (delL (s.n d).l t).Pairwise _
    rw [hdl]
    have := h.srt d
    rw [hl] at this
    exact this.sublist (List.Sublist.append (List.Sublist.refl _) (List.sublist_cons_self _ _))
  · show (delL (s.n d).l t).length ≤ 8
    rw [hdl]
    have := h.few d
    rw [hl] at this
    simp at this ⊢; omega
  · simp at hx; subst hx; exact ⟨(h.ent d x hmem).1, (h.ent d x hmem).2.1⟩
  · show _ = (s.n j).links + ((cntL (delL (s.n d).l t) j + cntL [e] j : Nat) : Int)
    rw [hdl, hl, cntL_app, cntL_app, cntL_cons, cntL_cons, cntL_nil]
    by_cases e2 : j = d
    · subst e2; rw [upd_same]; show (s.n j).links + _ = _; omega
    · rw [upd_other _ _ e2]; omega
  · show (getFi s.so.l k).isSome = true ↔ _
    rw [h.fil k]
    by_cases e2 : k = d
    · subst e2; rw [upd_same]
    · rw [upd_other _ _ e2]
theorem rm_found {s : In} {d : Int} {t : Txt} (e : rmIE s d t = 0) : ∃ i j : Nat, d = (i : Int) ∧ i < 16 ∧ (s.n i).is = true ∧ (s.n i).dir = true ∧ findL (s.n i).l t = some j ∧ fiII s d t = j ∧ fiIE s d t = 0 := by
  unfold rmIE at e
  by_cases e0 : fiIE s d t ≠ 0
  · rw [if_pos e0] at e; exact absurd e e0
  have e1 : fiIE s d t = 0 := by omega
  have e2 := e1
  unfold fiIE at e2
  split at e2
  · rename_i e3
    obtain ⟨i, rfl, h1, h2, h3⟩ := dirI_yes e3
    rw [Int.toNat_natCast] at e2
    split at e2
    · rename_i e4
      obtain ⟨j, hj⟩ := Option.isSome_iff_exists.1 e4
      exact ⟨i, j, rfl, h1, h2, h3, hj, by unfold fiII; rw [if_pos e3, Int.toNat_natCast, hj]; rfl, e1⟩
    · cases e2
  · cases e2
theorem GoodP.rm {s : In} {B : Int} (h : GoodP s [] B) (d : Int) (t : Txt) : GoodP (rmI s d t) [] B ∧ (NoOrph s 0 → NoOrph (rmI s d t) 0) := by
  unfold rmI
  split
  · rename_i e
    obtain ⟨i, j, rfl, i16, iis, idir, hf, hj, -⟩ := rm_found e
    rw [hj, Int.toNat_natCast]
    obtain ⟨e, he, g⟩ := h.del i16 iis idir hf
    subst he
    have g2 := g.dec
    have e16 := g.pnd e (List.mem_cons_self ..)
    have g3 := g2.gone (f := 17) e16.1 (by have := cntI_le (decL (setL s i (delL (s.n i).l t)) e.id); omega)
    refine ⟨g3.1, fun hno => g3.2.2 (fun k hk hke his => ?_) 0⟩
    have e3 : (decL (setL s i (delL (s.n i).l t)) e.id).n k = (setL s i (delL (s.n i).l t)).n k := upd_other _ _ hke
    rw [e3] at his ⊢
    have hs : ((setL s i (delL (s.n i).l t)).n k).is = (s.n k).is ∧ ((setL s i (delL (s.n i).l t)).n k).links = (s.n k).links ∧ ((setL s i (delL (s.n i).l t)).n k).opens = (s.n k).opens := by
      unfold setL In.put upd
      by_cases e : k = i
      · subst e; simp
      · simp [e]
    rw [hs.1] at his
    rw [hs.2.1, hs.2.2]
    exact hno k hk hk his
  · exact ⟨h, fun h => h⟩
theorem NoOrph.mk_ {s : In} (h : NoOrph s 0) (d : Bool) : NoOrph (mkI s d) 0 := by
  unfold mkI
  cases e : freeI s with
  | none => exact h
  | some i =>
    intro k hk _ his
    have hn : (mkAt s d i).n k = upd s.n i ⟨true, d, 0, 1, []⟩ k := rfl
    rw [hn] at his ⊢
    by_cases e2 : k = i
    · subst e2; rw [upd_same]; exact .inr (show (0 : Int) < 1 by decide)
    · rw [upd_other _ _ e2] at his ⊢; exact h k hk hk his
theorem NoOrph.op {s : In} (h : NoOrph s 0) {B : Int} (hg : GoodP s [] B) (id : Int) : NoOrph (opI s id) 0 := by
  unfold opI
  split
  · intro k hk _ his
    have hn : (s.put id.toNat { s.n id.toNat with opens := (s.n id.toNat).opens + 1 }).n k = upd s.n id.toNat { s.n id.toNat with opens := (s.n id.toNat).opens + 1 } k := rfl
    rw [hn] at his ⊢
    by_cases e2 : k = id.toNat
    · rw [← e2, upd_same]; have := (hg.opn k).1; exact .inr (by show 0 < (s.n k).opens + 1; omega)
    · rw [upd_other _ _ e2] at his ⊢; exact h k hk hk his
  · exact h
theorem newI_orph (n : Nat) : NoOrph (newI n) 0 := by
  intro k hk _ his
  rw [show (newI n).n k = Nd.zero from upd_other (fun _ => Nd.zero) _ hk] at his
  cases his
end Go.Proofs.YtndfnglcichngaaGreatDoor
namespace Go.Proofs.YtndfnglcichngaaGreatDoor
set_option linter.unusedVariables false
set_option linter.unusedSimpArgs false
/-- Name by name. -/
def walkL (s : In) (id : Nat) : List Txt → Nat × Nat
  | [] => (id, 0)
  | x :: l => if fiIE s id x = 0 then walkL s (fiII s id x) l else (0, fiIE s id x)
def walkI (s : In) (t : Txt) : Nat × Nat := if (splitT t).2 = 0 then walkL s 0 (splitT t).1 else (0, (splitT t).2.toNat)
/-- The directory above, the last name. -/
def parI (s : In) (t : Txt) : Nat × Txt × Nat :=
  if (parT t).2.2 = 0 then (if (walkI s (parT t).1).2 = 0 then ((walkI s (parT t).1).1, (parT t).2.1, 0) else (0, [], (walkI s (parT t).1).2)) else (0, [], (parT t).2.2.toNat)
def cutI (s : In) (id : Nat) : In := ⟨s.n, ctS s.so id⟩
def wrtI (s : In) (id off : Int) (ys : List Int) : In := ⟨s.n, wrS s.so id off ys⟩
/-- A file is made in a directory. -/
def newE (s : In) (t : Txt) : Nat × Nat × In :=
  if (parI s t).2.2 ≠ 0 then (0, (parI s t).2.2, s)
  else if dirI s (parI s t).1 = false then (0, 11, s)
  else if mkIE s ≠ 0 then (0, mkIE s, s)
  else if enIE (mkI s false) (parI s t).1 (parI s t).2.1 (mkII s) ≠ 0 then (0, enIE (mkI s false) (parI s t).1 (parI s t).2.1 (mkII s), clI (mkI s false) (mkII s))
  else (mkII s, 0, enI (mkI s false) (parI s t).1 (parI s t).2.1 (mkII s))
def opnV (s : In) (t : Txt) (fl : Int) : Nat × Nat × In :=
  if fl < 0 ∨ 7 < fl then (0, 19, s)
  else if (walkI s t).2 = 0 then (if dirI s (walkI s t).1 then (0, 12, s) else ((walkI s t).1, 0, opI (if fl / 2 % 2 = 1 then cutI s (walkI s t).1 else s) (walkI s t).1))
  else if (walkI s t).2 ≠ 9 ∨ fl % 2 = 0 then (0, (walkI s t).2, s) else newE s t
def mkdV (s : In) (t : Txt) : Nat × In :=
  if (parI s t).2.2 ≠ 0 then ((parI s t).2.2, s)
  else if fiIE s (parI s t).1 (parI s t).2.1 = 0 then (10, s)
  else if fiIE s (parI s t).1 (parI s t).2.1 = 11 then (11, s)
  else if mkIE s ≠ 0 then (mkIE s, s)
  else (enIE (mkI s true) (parI s t).1 (parI s t).2.1 (mkII s), clI (enI (mkI s true) (parI s t).1 (parI s t).2.1 (mkII s)) (mkII s))
def lnkV (s : In) (a t : Txt) : Nat × In :=
  if (walkI s a).2 ≠ 0 then ((walkI s a).2, s)
  else if dirI s (walkI s a).1 then (6, s)
  else if (parI s t).2.2 ≠ 0 then ((parI s t).2.2, s)
  else (enIE s (parI s t).1 (parI s t).2.1 (walkI s a).1, enI s (parI s t).1 (parI s t).2.1 (walkI s a).1)
def remV (s : In) (t : Txt) (d : Bool) : Nat × In :=
  if (parI s t).2.2 ≠ 0 then ((parI s t).2.2, s)
  else if fiIE s (parI s t).1 (parI s t).2.1 ≠ 0 then (fiIE s (parI s t).1 (parI s t).2.1, s)
  else if dirI s (fiII s (parI s t).1 (parI s t).2.1) = true ∧ d = false then (12, s)
  else if dirI s (fiII s (parI s t).1 (parI s t).2.1) = false ∧ d = true then (11, s)
  else (rmIE s (parI s t).1 (parI s t).2.1, rmI s (parI s t).1 (parI s t).2.1)
theorem walkL_snoc (s : In) : ∀ (l : List Txt) (id : Nat) (x : Txt), walkL s id (l ++ [x]) = if (walkL s id l).2 = 0 then walkL s (walkL s id l).1 [x] else walkL s id l
  | [], id, x => by
    show walkL s id [x] = _
    rw [show (walkL s id ([] : List Txt)).2 = 0 from rfl, if_pos rfl]; rfl
  | y :: l, id, x => by
    show (if fiIE s id y = 0 then walkL s (fiII s id y) (l ++ [x]) else _) = _
    by_cases e : fiIE s id y = 0
    · rw [if_pos e, walkL_snoc s l, show walkL s id (y :: l) = walkL s (fiII s id y) l from if_pos e]
    · rw [if_neg e, show walkL s id (y :: l) = (0, fiIE s id y) from if_neg e]
      rw [if_neg (by exact e)]
/-- Up to a name: what the loop holds. -/
theorem walkL_take {s : In} {l : List Txt} {k : Nat} {x : Txt} (hx : l[k]? = some x) (h : (walkL s 0 (l.take k)).2 = 0) : walkL s 0 (l.take (k + 1)) = if fiIE s (walkL s 0 (l.take k)).1 x = 0 then (fiII s (walkL s 0 (l.take k)).1 x, 0) else (0, fiIE s (walkL s 0 (l.take k)).1 x) := by
  rw [List.take_add_one, hx, Option.toList_some, walkL_snoc, if_pos h]; rfl
theorem walkL_stop {s : In} : ∀ {l : List Txt} {id k : Nat}, (walkL s id (l.take k)).2 ≠ 0 → walkL s id l = walkL s id (l.take k)
  | [], id, k, h => by simp
  | y :: l, id, 0, h => absurd rfl h
  | y :: l, id, k + 1, h => by
    rw [List.take_succ_cons] at h ⊢
    by_cases e : fiIE s id y = 0
    · have e1 : walkL s id (y :: l.take k) = walkL s (fiII s id y) (l.take k) := if_pos e
      rw [e1] at h ⊢
      exact (show walkL s id (y :: l) = walkL s (fiII s id y) l from if_pos e).trans (walkL_stop h)
    · exact (show walkL s id (y :: l) = _ from if_neg e).trans (show walkL s id (y :: l.take k) = _ from if_neg e).symm
theorem fiII_lt {s : In} {pend : List Ent} {B : Int} (h : GoodP s pend B) (d : Int) (t : Txt) : fiII s d t < 16 := by
  unfold fiII
  split
  · cases e : findL (s.n d.toNat).l t with
    | none => show 0 < 16; omega
    | some j =>
      obtain ⟨p, x, q, hl, -, hid, -⟩ := findL_some e
      show j < 16
      rw [← hid]
      exact (h.ent d.toNat x (by rw [hl]; simp)).1
  · omega
theorem walkL_lt {s : In} {pend : List Ent} {B : Int} (h : GoodP s pend B) : ∀ (l : List Txt) (id : Nat), id < 16 → (walkL s id l).1 < 16
  | [], id, hi => hi
  | x :: l, id, hi => by
    show (if fiIE s id x = 0 then walkL s (fiII s id x) l else (0, fiIE s id x)).1 < 16
    split
    · exact walkL_lt h l _ (fiII_lt h _ _)
    · show 0 < 16; omega
theorem walkI_lt {s : In} {pend : List Ent} {B : Int} (h : GoodP s pend B) (t : Txt) : (walkI s t).1 < 16 := by
  unfold walkI
  split
  · exact walkL_lt h _ _ (by omega)
  · show 0 < 16; omega
theorem parI_lt {s : In} {pend : List Ent} {B : Int} (h : GoodP s pend B) (t : Txt) : (parI s t).1 < 16 := by
  unfold parI
  split
  · split
    · exact walkI_lt h _
    · show 0 < 16; omega
  · show 0 < 16; omega
/-- The store alone is another one. -/
theorem GoodP.store {s : In} {pend : List Ent} {B : Int} (h : GoodP s pend B) {so' : So} (hf : ∀ i, (getFi so'.l i).isSome = (getFi s.so.l i).isSome) (hg : GoodSo so') : GoodP ⟨s.n, so'⟩ pend B :=
  ⟨h.b1, h.root, h.no, h.big, h.file, h.ent, h.srt, h.few, h.pnd, h.lnk, h.opn, h.lb, fun i => by show (getFi so'.l i).isSome = true ↔ _; rw [hf i]; exact h.fil i, hg⟩
theorem put_some (l : List Fi) (id : Int) (b : List Int) (i : Int) : (getFi (putFi l id b) i).isSome = (getFi l i).isSome := by
  cases e : getFi l id with
  | none =>
    have : putFi l id b = l := by
      induction l with
      | nil => rfl
      | cons x l ih =>
        unfold getFi at e
        unfold putFi
        split at e
        · cases e
        · rename_i h; rw [if_neg h, ih e]
    rw [this]
  | some o =>
    rw [getFi_put e]
    split
    · rename_i h; rw [h, e]; rfl
    · rfl
theorem GoodP.cut {s : In} {pend : List Ent} {B : Int} (h : GoodP s pend B) (id : Nat) : GoodP (cutI s id) pend B := h.store (fun i => put_some _ _ _ _) (h.so.ct _)
theorem GoodP.wrt {s : In} {pend : List Ent} {B : Int} (h : GoodP s pend B) (id off : Int) {ys : List Int} (hb : Bytes ys) : GoodP (wrtI s id off ys) pend B :=
  h.store (fun i => by
    show (getFi (wrS s.so id off ys).l i).isSome = _
    unfold wrS
    split
    · exact put_some _ _ _ _
    · rfl) (h.so.wr hb)
theorem splitT_few6 (t : Txt) : (splitT t).1.length ≤ 6 := by
  by_cases h : (splitT t).2 = 0
  · exact (split_join h).2
  · rw [splitT_err h]; simp
theorem firstE_range : ∀ l : List Txt, 0 ≤ firstE l ∧ firstE l ≤ 20
  | [] => by decide
  | x :: l => by
    unfold firstE
    split
    · exact firstE_range l
    · exact nameE_range x
theorem splitT_range (t : Txt) : 0 ≤ (splitT t).2 ∧ (splitT t).2 ≤ 20 := by
  unfold splitT
  split
  · decide
  split
  · decide
  split
  · decide
  split
  · exact firstE_range _
  split
  · decide
  · exact ⟨Int.le_refl 0, show (0 : Int) ≤ 20 by decide⟩
theorem parT_range (t : Txt) : 0 ≤ (parT t).2.2 ∧ (parT t).2.2 ≤ 20 := by
  unfold parT
  split
  · exact splitT_range t
  split
  · decide
  · exact ⟨Int.le_refl 0, show (0 : Int) ≤ 20 by decide⟩
theorem parT_short {t : Txt} (h : (parT t).2.2 = 0) : (parT t).1.length ≤ 54 ∧ (parT t).2.1.length ≤ 8 := by
  unfold parT at h ⊢
  split at h
  · rename_i e; exact absurd h e
  · rename_i e
    rw [if_neg e]
    split at h
    · cases h
    · rename_i e2
      rw [if_neg e2]
      have hs : (splitT t).2 = 0 := Classical.not_not.1 e
      have h6 := splitT_few6 t
      have hn := firstE_zero.1 (splitT_names hs)
      refine ⟨?_, ?_⟩
      · show (joinT (splitT t).1.dropLast).1.length ≤ 54
        have hd : firstE (splitT t).1.dropLast = 0 := firstE_zero.2 fun p hp => hn p (List.dropLast_subset _ hp)
        unfold joinT
        rw [if_neg (by simp [hd]), if_neg (by simp; omega)]
        split
        · decide
        · have := joined_size hd
          have h5 : (splitT t).1.dropLast.length ≤ 5 := by simp; omega
          show (joined (splitT t).1.dropLast).length ≤ 54
          omega
      · show ((splitT t).1.getLast?.getD []).length ≤ 8
        cases hl : (splitT t).1.getLast? with
        | none => decide
        | some p => exact (nameE_ok (hn p (List.mem_of_getLast? hl))).2.1
end Go.Proofs.YtndfnglcichngaaGreatDoor
namespace Go.Proofs.YtndfnglcichngaaGreatDoor
open Go.ChangeShapes Go.WideShapes Go.ChangeAt Go.RowKit
set_option linter.unusedVariables false
theorem u8_info : (Tryz.prog.info? 5).map (fun i => (i.zero, i.size, i.bytes)) = some (some (.int .u8 0), 1, 1) := by kernel_rfl
set_option maxHeartbeats 800000 in
theorem same_any (a b : Option Addr) (n c d : Nat) (xs : List Int) (w : World) (ha : Ints .u8 w a n xs) (hb : Ints .u8 w b n xs) (hn : n ≤ 9223372036854775807) :
    Calls Tryz.prog 36 #[.slice a n c, .slice b n d] w fun e w' => e = .returned (.bool true) ∧ ∃ m, w' = w.drewN m := by
  obtain ⟨hl, hc⟩ := ha
  obtain ⟨_, hd⟩ := hb
  clear hl
  have e0 : ((n : Int) == (n : Int)) = true := by simp
  have e1 : ((n : Int) != (n : Int)) = false := by simp
  go_enter Tryz.func36, Tryz.ntmps36
  go_wp2_with fail
  go_loopw [5] (fun i wr => ∃ k : Nat, k ≤ n ∧ i = .int .i64 k ∧ ∃ m, wr = w.drewN m) (fun i _ => n - (intOf i).toNat)
  case atStart => exact ⟨0, Nat.zero_le _, rfl, 0, rfl⟩
  case round =>
    obtain ⟨k, hk, rfl, m, rfl⟩ := hrel
    by_cases hlt : k < n
    · obtain ⟨b1, o1, rfl, hcs⟩ := hc (by omega)
      obtain ⟨b2, o2, rfl, hds⟩ := hd (by omega)
      have h1 := hcs k hlt
      have h2 := hds k hlt
      have e2 : (xs.getD k 0 == xs.getD k 0) = true := by simp
      have e3 : (xs.getD k 0 != xs.getD k 0) = false := by simp
      clear hcs hds hc hd
      generalize xs.getD k 0 = x at *
      go_wp2_with fail
      go_quiet (fail)
      go_wp2_with fail
      go_roundw
      case rel => exact ⟨k + 1, by omega, by go_num, _, rfl⟩
      case measure => simp [intOf]; omega
    · clear hc hd
      go_wp2_with fail
      go_ret
      exact ⟨rfl, _, rfl⟩
theorem same_own (u v : Value) (n : Nat) (xs : List Int) (w : World) {b1 b2 : Nat} (hu : w.ownsRow b1 5 1 u n (xs.map (Value.int .u8))) (hv : w.ownsRow b2 5 1 v n (xs.map (Value.int .u8))) (hn : n ≤ 9223372036854775807) :
    Calls Tryz.prog 36 #[u, v] w fun e w' => e = .returned (.bool true) ∧ ∃ m, w' = w.drewN m := by
  obtain ⟨A, c, rfl, hi, _⟩ := own_ints hu
  obtain ⟨B, d, rfl, hj, _⟩ := own_ints hv
  exact same_any A B n c d xs w hi hj hn
/-- Block g is a row of cells: n integers, k marks, and what is left of three. -/
def Room (w : World) (g : Nat) (e : TypeId) (n k : Nat) (vs : List Value) (mark : Value) : Prop :=
  ∃ cur : Array Value, w.heap[g]? = some (.cells cur e (0, 0)) ∧ cur.size = n + 3 ∧ cur.toList.take (n + k) = vs ++ List.replicate k mark
theorem room_cell {w : World} {g : Nat} {e : TypeId} {n k : Nat} {vs : List Value} {mark : Value} (h : Room w g e n k vs mark) (hk : k < 3) :
    (∃ u, w.cell? ⟨g, n + k, none⟩ = some u) ∧ w.frozen? ⟨g, n + k, none⟩ = false := by
  obtain ⟨cur, hh, hs, ht⟩ := h
  refine ⟨⟨cur[n + k], ?_⟩, frozen_of_row w g _ cur e hh⟩
  rw [cell_of_row w g (n + k) cur e (0, 0) hh]
  exact Array.getElem?_eq_getElem (by omega)
theorem room_set {w : World} {g : Nat} {e : TypeId} {n k : Nat} {vs : List Value} {mark : Value} (h : Room w g e n k vs mark) (hl : vs.length = n) (hk : k < 3) :
    Room (w.setCell ⟨g, n + k, none⟩ mark) g e n (k + 1) vs mark := by
  obtain ⟨cur, hh, hs, ht⟩ := h
  refine ⟨cur.setIfInBounds (n + k) mark, heap_setCell_same w g (n + k) cur e mark hh, by simpa using hs, ?_⟩
  rw [Array.toList_setIfInBounds, ← Nat.add_assoc, List.take_succ_eq_append_getElem (by simp; omega), List.take_set_of_le (by omega), ht]
  simp [List.replicate_succ', List.append_assoc]
theorem room_start {w : World} {B g n m : Nat} {e : TypeId} {xs : List Int} {q : IntKind} {mark : Value} (h : w.ownsRow B e 1 (.slice (some ⟨g, 0, none⟩) (0 + n) (n + 3)) m ([] ++ xs.map (Value.int q))) (hl : xs.length = n) :
    Room w g e n 0 (xs.map (Value.int q)) mark := by
  rcases h.2 with ⟨h, _⟩ | ⟨g', cap', cur, h, _, hg, _, _, hcs, ht⟩
  · cases h
  · simp only [Value.slice.injEq, Option.some.injEq, Addr.mk.injEq, and_true] at h
    obtain ⟨rfl, h1, h2⟩ := h
    refine ⟨cur, hg, by omega, ?_⟩
    have : m = n := by have := h.1; simp at this; omega
    subst this
    simpa using ht
theorem room_mark {w : World} {g : Nat} {e : TypeId} {n k : Nat} {vs : List Value} {mark : Value} (h : Room w g e n 3 vs mark) (hl : vs.length = n) (hk : k < 3) : w.cell? ⟨g, n + k, none⟩ = some mark := by
  obtain ⟨cur, hh, hs, ht⟩ := h
  rw [cell_of_row w g (n + k) cur e (0, 0) hh]
  have h1 : cur.toList.take (n + 3) = cur.toList := List.take_of_length_le (by simp; omega)
  rw [h1] at ht
  have : cur[n + k]? = (cur.toList)[n + k]? := by simp
  rw [this, ht, List.getElem?_append_right (by omega), hl, List.getElem?_replicate]
  simp; omega
theorem room_ints {w : World} {g : Nat} {e : TypeId} {n : Nat} {xs : List Int} {q : IntKind} {mark : Value} (h : Room w g e n 3 (xs.map (Value.int q)) mark) (hl : xs.length = n) : Ints q w (some ⟨g, 0, none⟩) n xs := by
  obtain ⟨cur, hh, hs, ht⟩ := h
  refine ⟨hl, fun _ => ⟨g, 0, rfl, fun j hj => ?_⟩⟩
  rw [cell_of_row w g (0 + j) cur e (0, 0) hh]
  have h1 : cur.toList.take (n + 3) = cur.toList := List.take_of_length_le (by simp; omega)
  rw [h1] at ht
  have : cur[0 + j]? = (cur.toList)[j]? := by simp
  rw [this, ht, List.getElem?_append_left (by simpa [hl] using hj), List.getElem?_map, List.getElem?_eq_getElem (by omega)]
  simp [List.getD, hl, hj]
theorem room_own {w : World} {g : Nat} {e : TypeId} {n : Nat} {vs : List Value} {mark : Value} (h : Room w g e n 3 vs mark) (hl : vs.length = n) (hm : n ≤ 1000000) {B : Nat} (hB : B ≤ g) : w.ownsRow B e 1 (.slice (some ⟨g, 0, none⟩) n (n + 3)) n vs := by
  obtain ⟨cur, hh, hs, ht⟩ := h
  refine ⟨by omega, .inr ⟨g, n + 3, cur, rfl, hB, hh, by omega, by unfold maxLen; omega, by omega, ?_⟩⟩
  have h1 := congrArg (List.take n) ht
  rw [List.take_take, List.take_append_of_le_length (by omega), List.take_of_length_le (l := vs) (by omega)] at h1
  rw [← h1]; congr 1; omega
theorem room_keep {w w' : World} {g : Nat} {e : TypeId} {n k : Nat} {vs : List Value} {mark : Value} (h : Room w g e n k vs mark) (hw : w'.heap[g]? = w.heap[g]?) : Room w' g e n k vs mark := by
  obtain ⟨cur, hh, rest⟩ := h
  exact ⟨cur, hw.trans hh, rest⟩
theorem room_lt {w : World} {g : Nat} {e : TypeId} {n k : Nat} {vs : List Value} {mark : Value} (h : Room w g e n k vs mark) : g < w.heap.size := by
  obtain ⟨cur, hh, _⟩ := h
  exact (Array.getElem?_eq_some_iff.1 hh).1
theorem room_touch {S : Nat → Prop} {w w' : World} {g : Nat} {e : TypeId} {n k : Nat} {vs : List Value} {mark : Value} (h : Room w g e n k vs mark) (t : Touch S w w') (d : ¬ S g) : Room w' g e n k vs mark :=
  room_keep h (t.block g (room_lt h) d)
end Go.Proofs.YtndfnglcichngaaGreatDoor
namespace Go.Proofs.YtndfnglcichngaaGreatDoor
open Go.ChangeShapes Go.WideShapes Go.ChangeAt Go.RowKit
set_option linter.unusedVariables false
/-- The first k of n - 1, n - 2, .. -/
def fallen (n k : Nat) : List Nat := (List.range k).map fun j => n - 1 - j
theorem fallen_len (n k : Nat) : (fallen n k).length = k := by simp [fallen]
theorem fallen_succ (n k : Nat) : fallen n (k + 1) = fallen n k ++ [n - 1 - k] := by simp [fallen, List.range_succ]
theorem fallen_mem {n k i : Nat} (h : k ≤ n) : i ∈ fallen n k ↔ n - k ≤ i ∧ i < n := by
  unfold fallen
  rw [List.mem_map]
  constructor
  · rintro ⟨j, hj, rfl⟩
    rw [List.mem_range] at hj
    omega
  · intro hi
    exact ⟨n - 1 - i, List.mem_range.2 (by omega), by omega⟩
theorem fallen_nodup {n k : Nat} (h : k ≤ n) : (fallen n k).Nodup := by
  induction k with
  | zero => exact List.nodup_nil
  | succ k ih =>
    rw [fallen_succ, List.nodup_append]
    refine ⟨ih (by omega), by simp, fun a ha b hb e => ?_⟩
    rw [List.mem_singleton] at hb
    subst hb; subst e
    have := (fallen_mem (by omega : k ≤ n)).1 ha
    omega
/-- Frames of which none was ever taken. -/
def St.new (n : Nat) : St := ⟨n, fun _ => false, fun _ _ => 0, fallen n n⟩
theorem good_new {n : Nat} (h1 : 1 ≤ n) (h2 : n ≤ 64) : Good (St.new n) :=
  ⟨h1, h2, fallen_nodup (Nat.le_refl n), fun i hi => ⟨fun _ => rfl, fun _ => (fallen_mem (Nat.le_refl n)).2 ⟨by omega, hi⟩⟩, fun i hi => ((fallen_mem (Nat.le_refl n)).1 hi).2, fun _ _ _ _ _ => rfl, fun _ _ _ _ => ⟨Int.le_refl 0, (by decide : (0 : Int) ≤ 255)⟩⟩
theorem new_arg (w : World) (n : Int) (h : n < 1 ∨ 64 < n) : Calls Tryz.prog 29 #[.int .i64 n] w fun e w' => e = .returned (.tuple #[.pointer none, .int .i64 2]) ∧ w = w' := by
  by_cases h1 : n < 1
  · go_enter Tryz.func29, Tryz.ntmps29
    go_wp2_with fail
    go_ret2
    exact ⟨rfl, rfl⟩
  · have h2 : 64 < n := by omega
    go_enter Tryz.func29, Tryz.ntmps29
    go_wp2_with fail
    go_ret2
    exact ⟨rfl, rfl⟩
theorem run_make_frames (w : World) (n : Nat) (h : n ≤ 64) : (Instr.makeSlice 125 (.int .i64 (n : Int)) (.int .i64 (n : Int))).run Tryz.prog w = .ok (.slice (some ⟨w.heap.size, 0, none⟩) n n) (w.alloc (.cells (madeCells zeroF (n * 65)) 179)) := by
  obtain ⟨i0, hi0, hz0, hz1, hz2⟩ := info_parts frame_info
  have := run_make (P := Tryz.prog) w 125 179 i0 _ Tryz.underlying125 hi0 hz0 .i64 .i64 (n : Int) (n : Int) (by omega) (by omega) (by rw [hz2]; omega) (by omega)
  rw [hz1] at this
  simpa [Value.cells] using this
theorem run_make_free (w : World) (n : Nat) (h : n ≤ 64) : (Instr.makeSlice 114 (.int .i64 0) (.int .i64 (n : Int))).run Tryz.prog w = .ok (.slice (some ⟨w.heap.size, 0, none⟩) 0 n) (w.alloc (.cells (madeCells #[.int .i64 0] n) 3)) := by
  obtain ⟨i0, hi0, hz0, hz1, hz2⟩ := info_parts int_info
  have := run_make (P := Tryz.prog) w 114 3 i0 _ Tryz.underlying114 hi0 hz0 .i64 .i64 0 (n : Int) (by omega) (by omega) (by rw [hz2]; omega) (by omega)
  rw [hz1] at this
  simpa [Value.cells] using this
theorem made_at (n i : Nat) (h : i < n * 65) : (madeCells zeroF (n * 65)).toList[i]? = zeroF.toList[i % 65]? := by
  have hz : zeroF.toList.length = 65 := by rw [Array.length_toList]; exact zeroF_size
  have hm : i % 65 < zeroF.toList.length := by rw [hz]; exact Nat.mod_lt _ (by omega)
  have h2 : i % 65 < zeroF.size := by rw [zeroF_size]; exact Nat.mod_lt _ (by omega)
  unfold madeCells
  rw [Array.toList_map, List.getElem?_map]
  simp only [Array.toList_range, List.getElem?_range h, Option.map_some, zeroF_size]
  rw [List.getElem?_eq_getElem hm]
  simp [h2]
theorem rowF_new {w : World} {A n : Nat} (e : w.heap[A]? = some (.cells (madeCells zeroF (n * 65)) 179 (0, 0))) : RowF w A (St.new n) := by
  refine ⟨(madeCells zeroF (n * 65)).toList, by simpa using e, by rw [Array.length_toList]; exact size_madeCells _ _, fun i hi => ?_⟩
  have hi : i < n := hi
  constructor
  · rw [made_at n _ (by omega), Nat.mul_mod_left]; exact zeroF_0
  · intro j hj
    rw [made_at n _ (by omega), show (i * 65 + (1 + j)) % 65 = 1 + j by omega]; exact zeroF_j j hj
/-- Frames under way: k of the free ones stand in their list. -/
structure Mk (w : World) (H A Q n k : Nat) : Prop where
  head : w.heap[H]? = some (.cells #[.slice (some ⟨A, 0, none⟩) n n, .slice (some ⟨Q, 0, none⟩) k n] 127 (0, 0))
  row : RowF w A (St.new n)
  free : w.ownsRow 0 3 1 (.slice (some ⟨Q, 0, none⟩) k n) k ((nums (fallen n k)).map (Value.int .i64))
  ha : H ≠ A
  hq : H ≠ Q
  aq : A ≠ Q
theorem Mk.done {w : World} {H A Q n : Nat} (h : Mk w H A Q n n) (h1 : 1 ≤ n) (h2 : n ≤ 64) : Fr w H A Q (St.new n) := by
  have e : (St.new n).fr.length = n := fallen_len n n
  refine ⟨good_new h1 h2, ?_, h.row, ?_, h.ha, h.hq, h.aq⟩
  · rw [e]; exact h.head
  · rw [e]; exact h.free
theorem Mk.firstA (w : World) {n : Nat} (hm : n ≤ maxLen) : ∃ w0 H A Q, w0 = (((w.alloc (.cells (madeCells zeroF (n * 65)) 179)).alloc (.cells (madeCells #[.int .i64 0] n) 3)).alloc (.cells #[.slice (some ⟨w.heap.size, 0, none⟩) n n, .slice (some ⟨w.heap.size + 1, 0, none⟩) 0 n] 127)).drew ∧
    H = w.heap.size + 1 + 1 ∧ A = w.heap.size ∧ Q = w.heap.size + 1 ∧ Hid (Mk w0 H A Q n 0 ∧ Below w.heap.size w w0 ∧ ∀ i, Blk H A Q i → w.heap.size ≤ i) := by
  have z1 : (w.alloc (.cells (madeCells zeroF (n * 65)) 179)).heap.size = w.heap.size + 1 := by simp
  have z2 : ((w.alloc (.cells (madeCells zeroF (n * 65)) 179)).alloc (.cells (madeCells #[.int .i64 0] n) 3)).heap.size = w.heap.size + 1 + 1 := by simp
  refine ⟨_, _, _, _, rfl, rfl, rfl, rfl, ⟨?_, rowF_new ?_, ?_, by omega, by omega, by omega⟩, below_drewN ((((Below.refl _ _).alloc (Nat.le_refl _) _).alloc (by rw [z1]; omega) _).alloc (by rw [z2]; omega) _) 1, by rintro i (e | e | e) <;> omega⟩
  · rw [← z2]; exact heap_alloc_new _ _
  · show (World.alloc _ _).heap[_]? = _
    rw [RowKit.Below.heap_alloc _ _ _ (by rw [z2]; omega), RowKit.Below.heap_alloc _ _ _ (by rw [z1]; omega)]
    exact heap_alloc_new _ _
  · have := World.ownsRow_made (w.alloc (.cells (madeCells zeroF (n * 65)) 179)) (base := 0) (size := 1) (e := 3) (madeCells #[.int .i64 0] n) n (Nat.zero_le _) hm (by rw [size_madeCells]; omega)
    rw [z1] at this
    exact (this.alloc _).drew
theorem Mk.firstB (w : World) {n : Nat} (hm : n ≤ maxLen) : ∃ w0 H A Q, w0 = (((w.alloc (.cells (madeCells #[.int .i64 0] n) 3)).alloc (.cells (madeCells zeroF (n * 65)) 179)).alloc (.cells #[.slice (some ⟨w.heap.size + 1, 0, none⟩) n n, .slice (some ⟨w.heap.size, 0, none⟩) 0 n] 127)).drew ∧
    H = w.heap.size + 1 + 1 ∧ A = w.heap.size + 1 ∧ Q = w.heap.size ∧ Hid (Mk w0 H A Q n 0 ∧ Below w.heap.size w w0 ∧ ∀ i, Blk H A Q i → w.heap.size ≤ i) := by
  have z1 : (w.alloc (.cells (madeCells #[.int .i64 0] n) 3)).heap.size = w.heap.size + 1 := by simp
  have z2 : ((w.alloc (.cells (madeCells #[.int .i64 0] n) 3)).alloc (.cells (madeCells zeroF (n * 65)) 179)).heap.size = w.heap.size + 1 + 1 := by simp
  refine ⟨_, _, _, _, rfl, rfl, rfl, rfl, ⟨?_, rowF_new ?_, ?_, by omega, by omega, by omega⟩, below_drewN ((((Below.refl _ _).alloc (Nat.le_refl _) _).alloc (by rw [z1]; omega) _).alloc (by rw [z2]; omega) _) 1, by rintro i (e | e | e) <;> omega⟩
  · rw [← z2]; exact heap_alloc_new _ _
  · show (World.alloc _ _).heap[_]? = _
    rw [RowKit.Below.heap_alloc _ _ _ (by rw [z2]; omega), ← z1]
    exact heap_alloc_new _ _
  · exact (((World.ownsRow_made w (base := 0) (size := 1) (e := 3) (madeCells #[.int .i64 0] n) n (Nat.zero_le _) hm (by rw [size_madeCells]; omega)).alloc _).alloc _).drew
theorem Mk.next {w w2 : World} {H A Q n k : Nat} (h : Mk w H A Q n k) {o : Obj} (hk : k < n)
    (o2 : w2.ownsRow 0 3 1 (.slice (some ⟨Q, 0, none⟩) (k + 1) n) (k + 1) ((nums (fallen n k)).map (Value.int .i64) ++ [.int .i64 ((n - 1 - k : Nat) : Int)])) (g2 : (w.alloc o).grownBy w2 (some Q)) :
    Mk (w2.setCell ⟨H, 1, none⟩ (.slice (some ⟨Q, 0, none⟩) (k + 1) n)) H A Q n (k + 1) ∧ Touch (Blk H A Q) w (w2.setCell ⟨H, 1, none⟩ (.slice (some ⟨Q, 0, none⟩) (k + 1) n)) := by
  have tq : Touch (fun k => k = Q) w w2 := ((Touch.refl (fun k => k = Q) w).alloc o).trans (Touch.of_grown (S := fun k => k = Q) g2 (fun g e => by injection e with e; exact e.symm)) (fun _ e => .inl e)
  obtain ⟨cur, r1, r2, r3⟩ := h.row
  have eA : w2.heap[A]? = w.heap[A]? := tq.block A (lt_of_heap r1) h.aq
  have eH : w2.heap[H]? = w.heap[H]? := tq.block H (lt_of_heap h.head) h.hq
  refine ⟨⟨?_, ?_, ?_, h.ha, h.hq, h.aq⟩, (tq.mono (S' := Blk H A Q) (fun k e => .inr (.inr e))).setCell (p := ⟨H, 1, none⟩) (.inl rfl) _⟩
  · rw [heap_setCell_same _ _ _ _ _ _ (eH.trans h.head)]; rfl
  · exact (h.row.keep eA).keep (heap_setCell_other _ _ _ _ (Ne.symm h.ha))
  · have e4 : (nums (fallen n (k + 1))).map (Value.int .i64) = (nums (fallen n k)).map (Value.int .i64) ++ [Value.int .i64 ((n - 1 - k : Nat) : Int)] := by rw [fallen_succ]; simp [nums]
    rw [e4]
    have t3 : Touch (fun k => k = H) w2 (w2.setCell ⟨H, 1, none⟩ (.slice (some ⟨Q, 0, none⟩) (k + 1) n)) := (Touch.refl (fun k => k = H) w2).setCell (p := ⟨H, 1, none⟩) rfl _
    refine t3.own o2 (fun g hg e => ?_)
    injection hg with hg
    exact h.hq (by rw [← e, ← hg])
set_option maxRecDepth 20000 in
set_option maxHeartbeats 2000000 in
theorem new_ok (w : World) (n : Nat) (h1 : 1 ≤ n) (h2 : n ≤ 64) : Calls Tryz.prog 29 #[.int .i64 (n : Int)] w fun e w' => ∃ H A Q, e = .returned (.tuple #[.pointer (some ⟨H, 0, none⟩), .int .i64 0]) ∧ Fr w' H A Q (St.new n) ∧ Below w.heap.size w w' ∧ ∀ i, Blk H A Q i → w.heap.size ≤ i := by
  obtain ⟨i0, hi0, hz0, hz1, hz2⟩ := info_parts int_info
  have x1 : (1 : Int) ≤ (n : Int) := by omega
  have x2 : (n : Int) ≤ 64 := by omega
  have m1 := fun w => run_make_frames w n h2
  have m2 := fun w => run_make_free w n h2
  have MA := hide (Mk.firstA w (n := n) (by unfold maxLen; omega))
  have MB := hide (Mk.firstB w (n := n) (by unfold maxLen; omega))
  generalize madeCells zeroF (n * 65) = ZF at *
  generalize madeCells #[.int .i64 0] n = ZI at *
  go_enter Tryz.func29, Tryz.ntmps29
  go_wp2_with fail
  go_region
  go_wp2_with fail
  all_goals
    clear m1 m2
    first
      | (obtain ⟨w0, H, A, Q, e0, eH, eA, eQ, M0⟩ := MA.out; rw [← e0, ← eH, ← eQ, ← eA])
      | (obtain ⟨w0, H, A, Q, e0, eH, eA, eQ, M0⟩ := MB.out; rw [← e0, ← eH, ← eA, ← eQ])
    clear e0 eH eA eQ MA MB
    go_loopw [5] (fun i wr => ∃ (k : Nat) (z : Int), k ≤ n ∧ z = (n : Int) - 1 - (k : Int) ∧ i = .int .i64 z ∧ Hid (Mk wr H A Q n k ∧ Below w.heap.size w wr ∧ ∀ i, Blk H A Q i → w.heap.size ≤ i)) (fun i _ => (intOf i + 1).toNat)
    case atStart => exact ⟨0, (n : Int) - 1, Nat.zero_le _, by omega, rfl, M0⟩
    case round =>
      obtain ⟨k, z, hk, hz, rfl, hR⟩ := hrel
      clear M0
      by_cases hlt : k < n
      · have hh := hR.out.1.head
        have c1 : wr.cell? ⟨H, 1, none⟩ = some (.slice (some ⟨Q, 0, none⟩) k n) := by rw [cell_of_row _ _ _ _ _ _ hh]; rfl
        have lH := lt_of_heap hh
        have f1 := frozen_of_row wr H 1 _ _ hh
        have hq := hR.out.1.hq
        have x3 : (0 : Int) ≤ z := by omega
        have x4 : z = ((n - 1 - k : Nat) : Int) := by omega
        have X4 := hide x4
        have HZ := hide hz
        have x5 : z ≤ 64 := by omega
        clear x4 hz
        clear hh
        go_wp2_with (at_builtin; refine wpList_append_fits _ rfl (.tmp 28) (.tmp 30) _ rfl 0 3 i0 1 Tryz.underlying114 hi0 hz1 Q k n _ rfl (hR.out.1.free.alloc _) _ 1 1 [.int .i64 ((n - 1 - k : Nat) : Int)] rfl rfl (by rw [← X4.out]; exact cell_one_new _ _ _) (by intro u hu; rw [List.mem_singleton] at hu; rw [hu]; rfl) (by omega) ?_; intro w2 o2 g2; have k2 := g2.cell (a := ⟨H, 1, none⟩) (v := .slice (some ⟨Q, 0, none⟩) k n) (by rw [World.cell?_alloc_past _ _ _ lH]; exact c1) (fun e => hq (by injection e)); have z2 : w2.frozen? ⟨H, 1, none⟩ = false := (World.frozen?_of_block ((g2.block H (by simp; omega) (fun e => hq (by injection e))).trans (RowKit.Below.heap_alloc wr _ _ lH))).trans f1; have FG := hide (hR.out.1.next hlt o2 g2); clear o2 g2)
        go_roundw
        case rel => exact ⟨k + 1, z - 1, by omega, by have := HZ.out; omega, by go_num, FG.out.1, hR.out.2.1.trans (FG.out.2.below hR.out.2.1.size hR.out.2.2), hR.out.2.2⟩
        case measure => have := HZ.out; simp [intOf]; omega
      · obtain rfl : k = n := by omega
        have x3 : ¬ (0 : Int) ≤ z := by omega
        go_wp2_with fail
        go_ret2
        exact ⟨H, rfl, A, Q, hR.out.1.done h1 h2, hR.out.2⟩
end Go.Proofs.YtndfnglcichngaaGreatDoor
namespace Go.Proofs.YtndfnglcichngaaGreatDoor
open Go.ChangeShapes Go.WideShapes Go.ChangeAt Go.RowKit
set_option linter.unusedVariables false
end Go.Proofs.YtndfnglcichngaaGreatDoor
