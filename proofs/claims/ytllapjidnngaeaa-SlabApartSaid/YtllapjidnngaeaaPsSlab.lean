/-
  The program's slab answers as its contracts say (PSlab).
-/
import Derived.Test.YtllapjidnngaeaaPsNew
import Derived.Test.YtllapjidnngaeaaSlBoth
namespace Go.Proofs.Ytllapjidnngaeaa
open Go.ChangeShapes Go.WideShapes Go.ChangeAt Go.RowKit
set_option linter.unusedVariables false
theorem hasT_there {l : List Cu} (hc : Cuts l) (ho : ∀ u ∈ l, ∀ j, 64 / u.c ≤ j → u.tk j = false) (fr sl sz : Int) : hasT (ent l) fr sl sz = there l fr sl sz := by
  rw [Bool.eq_iff_iff, there_iff]
  unfold hasT
  constructor
  · intro h
    rw [Bool.and_eq_true, Bool.and_eq_true, decide_eq_true_iff] at h
    obtain ⟨⟨h1, h2, h3, h4⟩, h5, h6⟩ := h
    have h5 : (((ent l fr.toNat).c : Nat) : Int) = sz := by simpa using h5
    rcases ent_cases hc fr.toNat with ⟨u, hu, e1, e2⟩ | ⟨_, e2⟩
    · refine ⟨u, hu, ?_⟩
      rw [e2] at h5 h6
      have hlt : sl.toNat < 64 / u.c := by
        rcases Nat.lt_or_ge sl.toNat (64 / u.c) with h | h
        · exact h
        · rw [ho u hu _ h] at h6; cases h6
      have := hit_of hlt h6
      rw [e1, h5, Int.toNat_of_nonneg h1, Int.toNat_of_nonneg h3] at this
      exact this
    · rw [e2] at h6
      cases h6
  · rintro ⟨u, hu, h⟩
    obtain ⟨q, rfl, rfl, rfl, h4, h5⟩ := hit_true h
    have hf := hc.fs u hu
    have hq := slot_lt (hc.cl u hu) h4
    rw [Bool.and_eq_true, Bool.and_eq_true, decide_eq_true_iff]
    refine ⟨⟨by omega, by omega, by omega, by omega⟩, ?_, ?_⟩
    · rw [Int.toNat_natCast, ent_mem hc hu]; simp
    · rw [Int.toNat_natCast, Int.toNat_natCast, ent_mem hc hu]; exact h5
theorem ent_full {l : List Cu} (hc : Cuts l) {c : Nat} (h0 : c ≠ 0) (h : ∀ j (hj : j < l.length), Full l[j] c (64 / c)) (i : Nat) : Full (ent l i) c (64 / c) := by
  rcases ent_cases hc i with ⟨u, hu, e1, e2⟩ | ⟨_, e2⟩
  · rw [e2]
    obtain ⟨q, hq, rfl⟩ := List.mem_iff_getElem.mp hu
    exact h q hq
  · rw [e2]
    exact .inl (fun e => h0 e.symm)
theorem ent_full_lt {l : List Cu} (hc : Cuts l) {c i : Nat} (hi : i < l.length) (h0 : c ≠ 0) (h : ∀ j (hj : j < i), Full (l[j]'(by omega)) c (64 / c)) (k : Nat) (hk : k < l[i].f) : Full (ent l k) c (64 / c) := by
  have hup := hc.up
  rw [List.pairwise_iff_getElem] at hup
  rcases ent_cases hc k with ⟨u, hu, e1, e2⟩ | ⟨_, e2⟩
  · rw [e2]
    obtain ⟨q, hq, rfl⟩ := List.mem_iff_getElem.mp hu
    have : q < i := by
      rcases Nat.lt_or_ge q i with h1 | h1
      · exact h1
      · exfalso
        by_cases e : q = i
        · subst e; omega
        · have := hup i q hi hq (by omega); omega
    exact h q this
  · rw [e2]
    exact .inl (fun e => h0 e.symm)
theorem set_cuts {l : List Cu} (h : Cuts l) {p : Nat} (hp : p < l.length) (k : Nat) (v : Bool) : Cuts (l.set p (l[p].put k v)) := by
  have hm := List.getElem_mem hp
  refine ⟨fun u hu => ?_, ?_, by rw [List.length_set]; exact h.few, fun u hu => ?_⟩
  · rcases mem_set_or hu with hu | rfl
    · exact h.cl u hu
    · exact (h.cl _ hm :)
  · have hup := h.up
    rw [List.pairwise_iff_getElem] at hup ⊢
    have hf : ∀ i (hi : i < l.length), ((l.set p (l[p].put k v))[i]'(by simpa using hi)).f = l[i].f := fun i hi => by
      by_cases e : p = i
      · subst e; rw [List.getElem_set_self]; rfl
      · rw [List.getElem_set_ne e]
    intro i j hi hj hij
    rw [List.length_set] at hi hj
    rw [hf i hi, hf j hj]
    exact hup i j hi hj hij
  · rcases mem_set_or hu with hu | rfl
    · exact h.fs u hu
    · exact (h.fs _ hm :)
theorem set_out {l : List Cu} (ho : ∀ u ∈ l, ∀ j, 64 / u.c ≤ j → u.tk j = false) {p k : Nat} (hp : p < l.length) (hk : k < 64 / l[p].c) (v : Bool) : ∀ u ∈ l.set p (l[p].put k v), ∀ j, 64 / u.c ≤ j → u.tk j = false := by
  intro u hu j hj
  rcases mem_set_or hu with hu | rfl
  · exact ho u hu j hj
  · have hj' : 64 / l[p].c ≤ j := hj
    show upd l[p].tk k v j = false
    rw [upd_other _ _ (by omega)]
    exact ho _ (List.getElem_mem hp) j hj'
theorem ent_set {l : List Cu} (h : Cuts l) {p : Nat} (hp : p < l.length) (k : Nat) (v : Bool) (i : Nat) : ent (l.set p (l[p].put k v)) i = upd (ent l) l[p].f (l[p].put k v) i := by
  have hc' := set_cuts h hp k v
  refine ent_upd h hc' ?_ (fun u hu => ?_) i
  · exact ent_mem hc' (List.mem_set hp _)
  · rw [mem_set_iff h hp]
    constructor
    · rintro (rfl | ⟨h1, _⟩)
      · exact absurd rfl hu
      · exact h1
    · exact fun h1 => .inr ⟨h1, hu⟩
theorem ent_strike {l : List Cu} (h : Cuts l) {p : Nat} (hp : p < l.length) (i : Nat) : ent (strike l p) i = upd (ent l) l[p].f (bare l[p].f) i := by
  refine ent_upd h (strike_cuts h p) ?_ (fun u hu => ?_) i
  · exact ent_out fun u hu => ((mem_strike h hp u).mp hu).2
  · rw [mem_strike h hp]
    exact ⟨fun h1 => h1.1, fun h1 => ⟨h1, hu⟩⟩
theorem ent_comeIn {l : List Cu} (h : Cuts l) {p x c : Nat} (hc' : Cuts (comeIn l p (fresh1 x c))) (i : Nat) : ent (comeIn l p (fresh1 x c)) i = upd (ent l) x (fresh1 x c) i := by
  refine ent_upd h hc' ?_ (fun u hu => ?_) i
  · exact ent_mem hc' ((mem_comeIn _ _ _ _).mpr (.inr rfl))
  · rw [mem_comeIn]
    exact ⟨fun h1 => h1.resolve_right (fun e => hu (by rw [e]; rfl)), .inl⟩
theorem side_same {U : Nat → Prop} {w w' : World} {S H : Nat} {l : List Cu} {s : St} {v : Value} (h : PsS w U S H l s) (hb : Below w.heap.size w w') : Side (fun w' U' => PsS w' U' S H l s) U w v (.returned v) w' :=
  ⟨rfl, U, h.below hb, Touch.of_below hb, fun i hi => .inl hi⟩
theorem none_cuts : Cuts [] := by
  refine ⟨fun u (h : u ∈ []) => ?_, List.Pairwise.nil, Nat.zero_le _, fun u (h : u ∈ []) => ?_⟩ <;> cases h
set_option maxHeartbeats 1000000 in
theorem pslab : PSlab PsS where
  keep := fun h t d => h.keep t d
  lt := fun h => h.lt
  cuts := fun h => h.cuts
  good := fun h => h.good
  new := fun {w H A Q N} f => (snew_ok w H).mono fun e w' ⟨S, he, hS, r, b⟩ => by
    have hlt : ∀ i, Blk H A Q i → i < w.heap.size := by
      rintro i (rfl | rfl | rfl)
      · exact f.ltH
      · exact f.ltA
      · exact f.ltQ
    refine ⟨S, fun i => i = S ∨ Blk H A Q i, he, ⟨r, ⟨A, Q, f.below b, fun i => Iff.rfl, fun e => by have := hlt S e; omega⟩, none_cuts, (fun u hu => by cases hu)⟩, b, fun i hi => ?_⟩
    rcases hi with e | e
    · exact .inr (by omega)
    · exact .inl e
  take := fun {U w S H l s} h hw {n} hn {f k c e l' s'} ht => by
    obtain ⟨A, Q, fr, hU, hd⟩ := h.fr
    cases ht with
    | arg hc => exact (stake_arg h.mem n hn hc).mono fun e w' ⟨he, hb⟩ => he ▸ side_same h hb
    | nothing hc hfull hfr =>
      exact (stake_full h.mem fr n hn _ rfl ((cls_cases n).resolve_left hc) (fun j _ => ent_full h.cuts hc hfull j) hfr).mono fun e w' ⟨he, hb⟩ => he ▸ side_same h hb
    | old i k hi hc hk hcl hfree htk hfull =>
      have hm := List.getElem_mem hi
      have he := ent_mem h.cuts hm
      refine (stake_old h.mem n hn _ l[i].f k rfl ((cls_cases n).resolve_left hc) (h.cuts.fs _ hm) hk (by rw [he]; exact hcl) (by rw [he]; exact hfree) (by rw [he]; exact htk) (fun j hj => ent_full_lt h.cuts hi hc hfull j hj)).mono fun e w' ⟨he2, r, t⟩ => ?_
      rw [he] at r
      refine ⟨he2, U, ⟨r.ext (fun j => ent_set h.cuts hi k true j), ⟨A, Q, fr.touch t (fun j hj e => hd (e ▸ hj)), hU, hd⟩, set_cuts h.cuts hi k true, set_out h.out hi (by rw [hcl]; exact hk) true⟩, t.mono (fun j e => (hU j).mpr (.inl e)), fun j hj => .inl hj⟩
    | new l0 x p hc hfull hfr hp hlo hhi =>
      have hx : f ∈ s.fr := by rw [hfr]; simp
      have hx64 : f < 64 := by have h1 := fr.good.lt f hx; have h2 := fr.good.n64; omega
      have hxt : s.tk f = false := (fr.good.free f (fr.good.lt f hx)).mp hx
      have hfew : l.length < 64 := by
        have hn : (f :: l.map Cu.f).Nodup := by
          refine List.nodup_cons.mpr ⟨fun hm => ?_, ?_⟩
          · obtain ⟨u, hu, e⟩ := List.mem_map.mp hm
            have := (hw.tk u hu).2
            rw [e, hxt] at this
            cases this
          · rw [List.Nodup, List.pairwise_map]
            exact h.cuts.up.imp fun hab => by omega
        have := nodup_len hn (n := 64) (fun i hi => by
          rcases List.mem_cons.mp hi with rfl | hi
          · exact hx64
          · obtain ⟨u, hu, rfl⟩ := List.mem_map.mp hi
            exact h.cuts.fs u hu)
        simp at this
        omega
      have hcc := (cls_cases n).resolve_left hc
      have hc' : Cuts (comeIn l p (fresh1 f (cls n))) := comeIn_cuts h.cuts hp (fresh1 f (cls n)) hcc hx64 hfew hlo hhi
      refine (stake_new h.mem fr hd n hn _ rfl hcc (fun j _ => ent_full h.cuts hc hfull j) hfr).mono fun e w' ⟨he, r, f2, t⟩ => ?_
      refine ⟨he, U, ⟨r.ext (fun j => ent_comeIn h.cuts hc' j), ⟨A, Q, f2, hU, hd⟩, hc', fun u hu j hj => ?_⟩, t.mono (fun j e => (hU j).mpr e), fun j hj => .inl hj⟩
      rcases (mem_comeIn _ _ _ _).mp hu with hu | rfl
      · exact h.out u hu j hj
      · have hj' : 64 / cls n ≤ j := hj
        show upd (fun _ => false) 0 true j = false
        rw [upd_other _ _ (by rcases hcc with e | e | e <;> rw [e] at hj' <;> omega)]
  give := fun {U w S H l s} h hw {fr sl sz} h1 h2 h3 {e l' s'} ht => by
    obtain ⟨A, Q, f, hU, hd⟩ := h.fr
    cases ht with
    | none hn =>
      refine (sgive_none h.mem fr sl sz ?_).mono fun e w' ⟨he, hb⟩ => he ▸ side_same h hb
      rw [hasT_there h.cuts h.out]
      unfold there
      rw [hn]; rfl
    | stay p q hp hf hq hz hlt ht hpl hne =>
      subst hf hq hz
      have hm := List.getElem_mem hp
      have he := ent_mem h.cuts hm
      have htk := hw.tk _ hm
      refine (sgive_some h.mem f hd l[p].f q _ (h.cuts.fs _ hm) (slot_lt (h.cuts.cl _ hm) hlt) (by rw [he]) (by rw [he]; exact ht) htk.1 htk.2).mono fun e w' ⟨he2, k1, _⟩ => ?_
      rw [he] at k1
      obtain ⟨r, t⟩ := k1 hne
      exact ⟨he2, U, ⟨r.ext (fun j => ent_set h.cuts hp q false j), ⟨A, Q, f.touch t (fun j hj e => hd (e ▸ hj)), hU, hd⟩, set_cuts h.cuts hp q false, set_out h.out hp hlt false⟩, t.mono (fun j e => (hU j).mpr (.inl e)), fun j hj => .inl hj⟩
    | last p q hp hf hq hz hlt ht hpl hne =>
      subst hf hq hz
      have hm := List.getElem_mem hp
      have he := ent_mem h.cuts hm
      have htk := hw.tk _ hm
      refine (sgive_some h.mem f hd l[p].f q _ (h.cuts.fs _ hm) (slot_lt (h.cuts.cl _ hm) hlt) (by rw [he]) (by rw [he]; exact ht) htk.1 htk.2).mono fun e w' ⟨he2, _, k2⟩ => ?_
      rw [he] at k2
      obtain ⟨r, f2, t⟩ := k2 hne
      exact ⟨he2, U, ⟨r.ext (fun j => ent_strike h.cuts hp j), ⟨A, Q, f2, hU, hd⟩, strike_cuts h.cuts p, fun u hu => h.out u ((mem_strike h.cuts hp u).mp hu).1⟩, t.mono (fun j e => (hU j).mpr e), fun j hj => .inl hj⟩
  has := fun {_ _ _ _ _ _} h {fr sl sz} _ _ _ => (shas_any h.mem fr sl sz).mono fun e w' ⟨he, hb⟩ => ⟨by rw [he, hasT_there h.cuts h.out], hb⟩
  len := fun h => (slen_any h.mem).mono fun e w' ⟨he, hb⟩ => ⟨by rw [he, cntT_all h.cuts], hb⟩
  free := fun h => by obtain ⟨A, Q, f, _⟩ := h.fr; exact free_any f
  fhas := fun h i => by obtain ⟨A, Q, f, _⟩ := h.fr; exact has_any f i
  cls := fun w n hn => (class_any w n hn).mono fun e w' ⟨he, hw⟩ => ⟨he, 0, hw.symm⟩
end Go.Proofs.Ytllapjidnngaeaa
