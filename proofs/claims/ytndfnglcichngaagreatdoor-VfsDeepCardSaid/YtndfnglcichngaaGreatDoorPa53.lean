/-
  Several texts as one: VfDeepP VfDeepW.
-/
import Derived.Test.YtndfnglcichngaaGreatDoorPa16
import Derived.Test.YtndfnglcichngaaGreatDoorPa14
import Derived.Test.YtndfnglcichngaaGreatDoorPa33
import Derived.Test.YtndfnglcichngaaGreatDoorPa12
import Derived.Test.YtndfnglcichngaaGreatDoorPa00
namespace Go.Proofs.YtndfnglcichngaaGreatDoor
open Go.ChangeShapes Go.WideShapes Go.ChangeAt Go.RowKit
set_option linter.unusedVariables false
set_option linter.unusedSimpArgs false
def eqEt (a b : Ent) : Bool := decide (a.nm = b.nm) && decide (a.id = b.id)
theorem eqEt_eq {a b : Ent} (h : eqEt a b = true) : a = b := by
  cases a; cases b
  simp [eqEt] at h
  rw [h.1, h.2]
def eqEs : List Ent → List Ent → Bool
  | [], [] => true
  | a :: l, b :: m => eqEt a b && eqEs l m
  | _, _ => false
theorem eqEs_eq : ∀ {l m : List Ent}, eqEs l m = true → l = m
  | [], [], _ => rfl
  | a :: l, b :: m, h => by
    unfold eqEs at h
    rw [Bool.and_eq_true] at h
    rw [eqEt_eq h.1, eqEs_eq h.2]
  | [], _ :: _, h => by cases h
  | _ :: _, [], h => by cases h
def eqNd (x y : Nd) : Bool := decide (x.is = y.is) && (decide (x.dir = y.dir) && (decide (x.links = y.links) && (decide (x.opens = y.opens) && eqEs x.l y.l)))
theorem eqNd_eq {x y : Nd} (h : eqNd x y = true) : x = y := by
  unfold eqNd at h
  rw [Bool.and_eq_true, Bool.and_eq_true, Bool.and_eq_true, Bool.and_eq_true] at h
  obtain ⟨h1, h2, h3, h4, h5⟩ := h
  cases x; cases y
  simp only [decide_eq_true_eq] at h1 h2 h3 h4
  have h5 := eqEs_eq h5
  simp only at h5
  rw [h1, h2, h3, h4, h5]
/-- Both stores: no file, or one that is empty. -/
def eqSo (a b : So) : Bool := decide (a.fr = b.fr) && decide (a.l.map (fun x => (x.id, x.b)) = b.l.map (fun x => (x.id, x.b)))
theorem eqSo_eq {a b : So} (h : eqSo a b = true) : a = b := by
  unfold eqSo at h
  rw [Bool.and_eq_true, decide_eq_true_eq, decide_eq_true_eq] at h
  cases a with
  | mk l fr =>
  cases b with
  | mk m fr2 =>
    have hl : l = m := by
      have h2 := h.2
      simp only at h2
      clear h
      induction l generalizing m with
      | nil => cases m with
        | nil => rfl
        | cons y m => cases h2
      | cons x l ih => cases m with
        | nil => cases h2
        | cons y m =>
          simp only [List.map_cons, List.cons.injEq, Prod.mk.injEq] at h2
          rw [ih m h2.2]
          congr 1
          cases x; cases y
          simp only at h2
          rw [h2.1.1, h2.1.2]
    have hf : fr = fr2 := h.1
    rw [hl, hf]
def eqIn (s s' : In) : Bool := (List.range 16).all (fun k => eqNd (s.n k) (s'.n k)) && eqSo s.so s'.so
/-- A table as a list. -/
def nT (L : List Nd) : Nat → Nd := fun k => L.getD k Nd.zero
/-- k directories in one another; with a file in the last one, open z times. -/
def rowD (k : Nat) (f : Bool) (z : Int) : List Nd :=
  (List.range (k + 1)).map (fun i => ⟨true, true, if i = 0 then 0 else 1, 0, if i < k then [⟨[100], i + 1⟩] else if f then [⟨[102], k + 1⟩] else []⟩) ++ (if f then [⟨true, false, 1, z, []⟩] else [])
def sD (k : Nat) : In := ⟨nT (rowD k false 0), ⟨[], 8⟩⟩
def sF (k : Nat) (z : Int) : In := ⟨nT (rowD k true z), ⟨[⟨(k : Int) + 1, []⟩], 8⟩⟩
/-- The path of the k-th. -/
def tD : Nat → Txt
  | 0 => []
  | k + 1 => tD k ++ [47, 100]
theorem tD_len : ∀ k, (tD k).length = 2 * k
  | 0 => rfl
  | k + 1 => by show (tD k ++ [47, 100]).length = _; rw [List.length_append, tD_len k]; simp; omega
theorem tD_take {k n : Nat} (h : k ≤ n) : (tD n).take (2 * k) = tD k := by
  induction n with
  | zero => obtain rfl : k = 0 := by omega
            rfl
  | succ n ih =>
    by_cases e : k = n + 1
    · subst e; rw [List.take_of_length_le (by rw [tD_len]; omega)]
    · show (tD n ++ [47, 100]).take (2 * k) = tD k
      rw [List.take_append_of_le_length (by rw [tD_len]; omega)]
      exact ih (by omega)
theorem nT_big {L : List Nd} (h : L.length ≤ 16) (k : Nat) (hk : 16 ≤ k) : nT L k = Nd.zero := by
  unfold nT
  rw [List.getD_eq_getElem?_getD, List.getElem?_eq_none (by omega)]; rfl
/-- Equal up to sixteen is equal. -/
theorem eq16 {s s' : In} (h : ∀ k, 16 ≤ k → s.n k = Nd.zero) (h' : ∀ k, 16 ≤ k → s'.n k = Nd.zero) (e : eqIn s s' = true) : s = s' := by
  unfold eqIn at e
  rw [Bool.and_eq_true, List.all_eq_true] at e
  have hn : s.n = s'.n := funext fun k => by
    by_cases hk : k < 16
    · exact eqNd_eq (e.1 k (List.mem_range.2 hk))
    · rw [h k (by omega), h' k (by omega)]
  have ho := eqSo_eq e.2
  cases s; cases s'
  simp only at hn ho
  rw [hn, ho]
theorem rowD_len (k : Nat) (f : Bool) (z : Int) (h : k ≤ 4) : (rowD k f z).length ≤ 16 := by
  unfold rowD
  rw [List.length_append, List.length_map, List.length_range]
  split <;> simp <;> omega
theorem sD_big {k : Nat} (h : k ≤ 4) (i : Nat) (hi : 16 ≤ i) : (sD k).n i = Nd.zero := nT_big (rowD_len k false 0 h) i hi
theorem sF_big {k : Nat} (z : Int) (h : k ≤ 4) (i : Nat) (hi : 16 ≤ i) : (sF k z).n i = Nd.zero := nT_big (rowD_len k true z h) i hi
theorem mkdV_there {s : In} {t : Txt} (h1 : (parI s t).2.2 = 0) (h2 : fiIE s (parI s t).1 (parI s t).2.1 = 0) : mkdV s t = (10, s) := by unfold mkdV; rw [if_neg (by rw [h1]; simp), if_pos h2]
theorem mkdV_file {s : In} {t : Txt} (h1 : (parI s t).2.2 = 0) (h2 : fiIE s (parI s t).1 (parI s t).2.1 = 11) : mkdV s t = (11, s) := by unfold mkdV; rw [if_neg (by rw [h1]; simp), if_neg (by rw [h2]; decide), if_pos h2]
theorem sD0 : sD 0 = newI 8 := by
  have : nT (rowD 0 false 0) = (newI 8).n := funext fun k => by
    match k with
    | 0 => rfl
    | k + 1 => rfl
  show (⟨nT (rowD 0 false 0), ⟨[], 8⟩⟩ : In) = ⟨(newI 8).n, ⟨[], 8⟩⟩
  rw [this]
def tF (k : Nat) : Txt := tD k ++ [47, 102]
def tX6 (k : Nat) : Txt := tD k ++ [47, 102, 47, 120]
set_option maxRecDepth 100000 in
theorem deep_dec : ∀ k, k < 4 →
    ((mkdV (sD k) (tD (k + 1))).1 = 0 ∧ eqIn (mkdV (sD k) (tD (k + 1))).2 (sD (k + 1)) = true ∧ (parI (sD (k + 1)) (tD (k + 1))).2.2 = 0 ∧ fiIE (sD (k + 1)) (parI (sD (k + 1)) (tD (k + 1))).1 (parI (sD (k + 1)) (tD (k + 1))).2.1 = 0) := by
  decide +kernel
theorem deep_good : ∀ k, k ≤ 4 → GoodP (sD k) [] 1 ∧ NoOrph (sD k) 0
  | 0, _ => by rw [sD0]; exact ⟨newI_good 8, newI_orph 8⟩
  | k + 1, h => by
    obtain ⟨g, o⟩ := deep_good k (by omega)
    have m := mkdV_good g (tD (k + 1))
    have d := deep_dec k (by omega)
    have e : (mkdV (sD k) (tD (k + 1))).2 = sD (k + 1) := eq16 m.1.big (sD_big h) d.2.1
    rw [e] at m
    exact ⟨m.1, m.2 o⟩
theorem deep_mk {k : Nat} (h : k < 4) : mkdV (sD k) (tD (k + 1)) = (0, sD (k + 1)) := by
  obtain ⟨g, o⟩ := deep_good k (by omega)
  have d := deep_dec k h
  exact Prod.ext d.1 (eq16 (mkdV_good g (tD (k + 1))).1.big (sD_big (by omega)) d.2.1)
theorem deep_there {k : Nat} (h : k < 4) : mkdV (sD (k + 1)) (tD (k + 1)) = (10, sD (k + 1)) := mkdV_there (deep_dec k h).2.2.1 (deep_dec k h).2.2.2
set_option maxRecDepth 100000 in
theorem deep_file : ∀ k, k < 4 →
    ((opnV (sD (k + 1)) (tF (k + 1)) 1).1 = k + 2 ∧ (opnV (sD (k + 1)) (tF (k + 1)) 1).2.1 = 0 ∧ eqIn (opnV (sD (k + 1)) (tF (k + 1)) 1).2.2 (sF (k + 1) 1) = true ∧
      clIE (sF (k + 1) 1) ((k + 2 : Nat) : Int) = 0 ∧ eqIn (clI (sF (k + 1) 1) ((k + 2 : Nat) : Int)) (sF (k + 1) 0) = true ∧
      (remV (sF (k + 1) 0) (tD (k + 1)) true).1 = 13 ∧ ((parI (sF (k + 1) 0) (tX6 (k + 1))).2.2 = 0 ∧ fiIE (sF (k + 1) 0) (parI (sF (k + 1) 0) (tX6 (k + 1))).1 (parI (sF (k + 1) 0) (tX6 (k + 1))).2.1 = 11) ∧
      (remV (sF (k + 1) 0) (tF (k + 1)) true).1 = 11 ∧ (remV (sF (k + 1) 0) (tF (k + 1)) false).1 = 0 ∧ eqIn (remV (sF (k + 1) 0) (tF (k + 1)) false).2 (sD (k + 1)) = true) := by
  decide +kernel
set_option maxRecDepth 100000 in
theorem deep_rem : ∀ k, k < 4 →
    ((0 < k → (remV (sD (k + 1)) (tD k) true).1 = 13) ∧ (remV (sD (k + 1)) (tD (k + 1)) false).1 = 12 ∧ (remV (sD (k + 1)) (tD (k + 1)) true).1 = 0 ∧ eqIn (remV (sD (k + 1)) (tD (k + 1)) true).2 (sD k) = true) := by
  decide +kernel
theorem deep_cnt : cntI (sD 0) = 1 := by decide +kernel
theorem deep_op {k : Nat} (h : k < 4) : opnV (sD (k + 1)) (tF (k + 1)) 1 = (k + 2, 0, sF (k + 1) 1) ∧ GoodP (sF (k + 1) 1) [] 2 ∧ NoOrph (sF (k + 1) 1) 0 := by
  obtain ⟨g, o⟩ := deep_good (k + 1) (by omega)
  have m := opnV_good g (tF (k + 1)) 1
  have d := deep_file k h
  have e : (opnV (sD (k + 1)) (tF (k + 1)) 1).2.2 = sF (k + 1) 1 := eq16 m.1.big (sF_big 1 (by omega)) d.2.2.1
  refine ⟨Prod.ext d.1 (Prod.ext d.2.1 e), ?_⟩
  rw [e] at m
  exact ⟨m.1, m.2 o⟩
theorem deep_cl {k : Nat} (h : k < 4) : clIE (sF (k + 1) 1) ((k + 2 : Nat) : Int) = 0 ∧ clI (sF (k + 1) 1) ((k + 2 : Nat) : Int) = sF (k + 1) 0 ∧ GoodP (sF (k + 1) 0) [] 2 ∧ NoOrph (sF (k + 1) 0) 0 := by
  obtain ⟨-, g, o⟩ := deep_op h
  have m := g.cl ((k + 2 : Nat) : Int)
  have d := deep_file k h
  have e : clI (sF (k + 1) 1) ((k + 2 : Nat) : Int) = sF (k + 1) 0 := eq16 m.1.big (sF_big 0 (by omega)) d.2.2.2.2.1
  refine ⟨d.2.2.2.1, e, ?_⟩
  rw [e] at m
  exact ⟨m.1, m.2 o⟩
theorem rem_stays {s : In} {t : Txt} {d : Bool} {e : Nat} (h : (remV s t d).1 = e) (he : e ≠ 0) : remV s t d = (e, s) := Prod.ext h (remV_no (by rw [h]; exact he))
theorem deep_rmd {k : Nat} (h : k < 4) : remV (sF (k + 1) 0) (tD (k + 1)) true = (13, sF (k + 1) 0) := rem_stays (deep_file k h).2.2.2.2.2.1 (by decide)
theorem deep_x {k : Nat} (h : k < 4) : mkdV (sF (k + 1) 0) (tX6 (k + 1)) = (11, sF (k + 1) 0) := mkdV_file (deep_file k h).2.2.2.2.2.2.1.1 (deep_file k h).2.2.2.2.2.2.1.2
theorem deep_rmf {k : Nat} (h : k < 4) : remV (sF (k + 1) 0) (tF (k + 1)) true = (11, sF (k + 1) 0) := rem_stays (deep_file k h).2.2.2.2.2.2.2.1 (by decide)
theorem deep_ul {k : Nat} (h : k < 4) : remV (sF (k + 1) 0) (tF (k + 1)) false = (0, sD (k + 1)) :=
  Prod.ext (deep_file k h).2.2.2.2.2.2.2.2.1 (eq16 (remV_good (deep_cl h).2.2.1 (tF (k + 1)) false).1.big (sD_big (by omega)) (deep_file k h).2.2.2.2.2.2.2.2.2)
theorem deep_r1 {k : Nat} (h : k < 4) (h0 : 0 < k) : remV (sD (k + 1)) (tD k) true = (13, sD (k + 1)) := rem_stays ((deep_rem k h).1 h0) (by decide)
theorem deep_r2 {k : Nat} (h : k < 4) : remV (sD (k + 1)) (tD (k + 1)) false = (12, sD (k + 1)) := rem_stays (deep_rem k h).2.1 (by decide)
theorem deep_r3 {k : Nat} (h : k < 4) : remV (sD (k + 1)) (tD (k + 1)) true = (0, sD k) :=
  Prod.ext (deep_rem k h).2.2.1 (eq16 (remV_good (deep_good (k + 1) (by omega)).1 (tD (k + 1)) true).1.big (sD_big (by omega)) (deep_rem k h).2.2.2)
end Go.Proofs.YtndfnglcichngaaGreatDoor
namespace Go.Proofs.YtndfnglcichngaaGreatDoor
open Go.ChangeShapes Go.WideShapes Go.ChangeAt Go.RowKit
set_option linter.unusedVariables false
set_option linter.unusedSimpArgs false
theorem run_take_bt (w : World) (s : Txt) {o : Nat} {z : Int} (hz : z = (o : Int)) (h : o ≤ s.length) : (Instr.slice 9 (.string (bt s)) none (some (.int .i64 z)) none).run Tryz.prog w = .ok (.string (bt (s.take o))) w := by
  subst hz
  have z := bt_size s
  have := run_slice_string_h (P := Tryz.prog) (w := w) (t := 9) (s := bt s) Tryz.underlying9 .i64 (o : Int) (by omega) (by omega)
  rw [this, show ((o : Int)).toNat = o from by omega, bt_extract]
  simp
theorem cut_deep (w : World) {k n : Nat} (h : k ≤ n) {z : Int} (hz : z = ((2 * k : Nat) : Int)) : (Instr.slice 9 (.string (bt (tD n))) none (some (.int .i64 z)) none).run Tryz.prog w = .ok (.string (bt (tD k))) w := by
  rw [run_take_bt w (tD n) hz (by rw [tD_len]; omega), tD_take h]
theorem add_deep (w : World) {k : Nat} (h : k ≤ 4) (x : Txt) (hx : x.length ≤ 100) : (Op.stringOp .add (bt (tD k)) (bt x)).run Tryz.prog w = .ok (.string (bt (tD k ++ x))) w := run_add_bt w (tD k) x (by rw [tD_len]; omega)
theorem ext_deep {k n o : Nat} (h : k ≤ n) (ho : o = 2 * k) : (bt (tD n)).extract 0 o = bt (tD k) := by
  rw [ho, bt_extract, ← tD_take h]; simp
theorem deep_all {N : Nat} (h1 : 1 ≤ N) (h4 : N ≤ 4) : opnV (sD N) (tF N) 1 = (N + 1, 0, sF N 1) ∧ GoodP (sF N 1) [] 2 ∧ NoOrph (sF N 1) 0 ∧ clIE (sF N 1) ((N + 1 : Nat) : Int) = 0 ∧ clI (sF N 1) ((N + 1 : Nat) : Int) = sF N 0 ∧ GoodP (sF N 0) [] 2 ∧ NoOrph (sF N 0) 0 ∧ remV (sF N 0) (tD N) true = (13, sF N 0) ∧ mkdV (sF N 0) (tX6 N) = (11, sF N 0) ∧ remV (sF N 0) (tF N) true = (11, sF N 0) ∧ remV (sF N 0) (tF N) false = (0, sD N) := by
  obtain ⟨j, rfl⟩ : ∃ j, N = j + 1 := ⟨N - 1, by omega⟩
  have h : j < 4 := by omega
  exact ⟨(deep_op h).1, (deep_op h).2.1, (deep_op h).2.2, (deep_cl h).1, (deep_cl h).2.1, (deep_cl h).2.2.1, (deep_cl h).2.2.2, deep_rmd h, deep_x h, deep_rmf h, deep_ul h⟩
theorem deep_down {k : Nat} (h1 : 1 ≤ k) (h4 : k ≤ 4) : ∃ j, k = j + 1 ∧ (1 < k → remV (sD k) (tD j) true = (13, sD k)) ∧ remV (sD k) (tD k) false = (12, sD k) ∧ remV (sD k) (tD k) true = (0, sD j) := by
  obtain ⟨j, rfl⟩ : ∃ j, k = j + 1 := ⟨k - 1, by omega⟩
  have h : j < 4 := by omega
  exact ⟨j, rfl, fun h0 => deep_r1 h (by omega), deep_r2 h, deep_r3 h⟩
section
variable {PV : Nat → Nat → Nat → Rel In}
set_option maxRecDepth 100000 in
set_option maxHeartbeats 16000000 in
theorem walk_vfsDeepC (I : PVfs PV) (w : World) (m : Int) (fl : Bool) : Calls Tryz.prog 8 #[.int .i64 m, .bool fl] w fun e w' => e = .returned (.bool true) ∧ Below w.heap.size w w' := by
  have AWK := hide (fun W => awake22_any I W)
  have NW := hide (fun W => new_ok W 8 (by omega) (by omega))
  go_enter Tryz.func8, Tryz.ntmps8
  go_wp2_with fail
  go_at_call 29
  refine (NW.out _).mono ?_
  rintro e w1 ⟨H, A, Q, rfl, f1, b1, hb1⟩
  have F1 := hide f1
  have B1 := hide b1
  have HB1 := hide hb1
  clear f1 b1 hb1
  go_wp2_with fail
  go_at_call 31
  refine (I.new F1.out).mono ?_
  rintro e w2 ⟨V, S, T, U, rfl, p2, b2, hU⟩
  have K := I.keeps H S T
  rw [← sD0] at p2
  have T1 := hide (OneO.first (P := PV H S T) p2 (B1.out.trans (b2.mono B1.out.size)) (fun i hi => (hU i hi).elim (HB1.out i) (fun e => Nat.le_trans B1.out.size e)))
  clear p2 b2 hU F1 B1 HB1 NW
  go_wp2_with fail
  go_at_call 30
  refine (low_i m 4 w2 (by decide) (by decide)).mono ?_
  rintro e w' ⟨⟨r, ⟨r0, r1⟩, rfl⟩, rfl⟩
  obtain ⟨r, rfl⟩ := Int.eq_ofNat_of_zero_le r0
  obtain ⟨N, hN⟩ : ∃ N : Nat, N = 1 + r := ⟨_, rfl⟩
  have LB := hide (show (1 : Int) + (r : Int) = (N : Int) from by omega)
  have n1 : 1 ≤ N := by omega
  have n4 : N ≤ 4 := by omega
  clear hN
  go_wp2_with fail
  rw [LB.out]
  clear r0 r1
  go_loopw [8, 9] (fun sv iv wr => ∃ (k : Nat) (U : Nat → Prop), k ≤ N ∧ sv = .string (bt (tD k)) ∧ iv = .int .i64 (k : Int) ∧ Hid (OneO (PV H S T) w wr U [] V (sD k))) (fun _ iv _ => N - (intOf iv).toNat)
  case atStart => exact ⟨0, U, Nat.zero_le _, rfl, rfl, T1.out⟩
  case round =>
    clear T1 U
    obtain ⟨k, U, hk, rfl, rfl, hT⟩ := hrel
    by_cases hlt : k < N
    · have k0 : (0 : Int) ≤ (k : Int) := by omega
      have k1 : (k : Int) < (N : Int) := by omega
      have k4 : k < 4 := by omega
      have AD := fun W => add_deep W (k := k) (by omega) [47, 100] (by decide)
      rw [show bt [47, 100] = ByteArray.mk #[47, 100] from rfl, show tD k ++ [47, 100] = tD (k + 1) from rfl] at AD
      have KL := hide (show (tD (k + 1)).length ≤ 1000 from by rw [tD_len]; omega)
      have M1 := hide (show Calls Tryz.prog 22 #[.pointer (some ⟨V, 0, none⟩), .string (bt (tD (k + 1)))] wr (SideO (fun w' U' => PV H S T w' U' V (sD (k + 1))) U wr (.int .i64 0)) from by
        have h := I.md hT.out.ps (deep_good k (by omega)).1 (by decide) (deep_good k (by omega)).2 (tD (k + 1)) KL.out
        rw [deep_mk k4] at h
        exact h)
      have M2 := hide (fun (W : World) (U : Nat → Prop) (h : PV H S T W U V (sD (k + 1))) => show Calls Tryz.prog 22 #[.pointer (some ⟨V, 0, none⟩), .string (bt (tD (k + 1)))] W (SideO (fun w' U' => PV H S T w' U' V (sD (k + 1))) U W (.int .i64 10)) from by
        have h := I.md h (deep_good (k + 1) (by omega)).1 (by decide) (deep_good (k + 1) (by omega)).2 (tD (k + 1)) KL.out
        rw [deep_there k4] at h
        exact h)
      go_wp2_with fail
      go_at_call 22
      refine M1.out.mono ?_
      intro en w3 hs
      obtain ⟨rfl, U3, t3, -⟩ := hT.out.side hs
      have T3 := hide t3
      clear hs t3 M1 hT
      go_wp2_with fail
      go_at_call 22
      refine (M2.out _ _ T3.out.ps).mono ?_
      intro en w4 hs
      obtain ⟨rfl, U4, t4, -⟩ := T3.out.side hs
      have T4 := hide t4
      clear hs t4 M2 T3
      go_wp2_with fail
      go_roundw
      case rel => exact ⟨k + 1, _, by omega, rfl, by go_num, T4.out⟩
      case measure => simp [intOf]; omega
    · obtain rfl : k = N := by omega
      have GN := hide (deep_good k (by omega))
      have LN1 := hide (show (tD k).length ≤ 1000 ∧ (tF k).length ≤ 1000 ∧ (tX6 k).length ≤ 1000 from ⟨by rw [tD_len]; omega, by unfold tF; rw [List.length_append, tD_len]; simp; omega, by unfold tX6; rw [List.length_append, tD_len]; simp; omega⟩)
      have d1 : ¬ (k : Int) < (k : Int) := by omega
      obtain ⟨N, hN⟩ : ∃ N, N = k := ⟨_, rfl⟩
      subst hN
      cases fl with
      | false =>
        go_wp2_with fail
        go_loopw [12] (fun iv wr => ∃ (k : Nat) (U : Nat → Prop), k ≤ N ∧ iv = .int .i64 (k : Int) ∧ Hid (OneO (PV H S T) w wr U [] V (sD k))) (fun iv _ => (intOf iv).toNat)
        case atStart => exact ⟨N, U, Nat.le_refl _, rfl, hT.out⟩
        case round =>
          clear hT
          obtain ⟨k, U2, hk, rfl, hT⟩ := hrel
          by_cases h1 : 1 ≤ k
          · have k1 : (1 : Int) ≤ (k : Int) := by omega
            have kN : (k : Int) ≤ (N : Int) := by omega
            have SZ : ((bt (tD N)).size : Int) = 2 * (N : Int) := by rw [bt_size, tD_len]; omega
            have k5 : (k : Int) ≤ 4 := by omega
            obtain ⟨j, hj, D1, D2, D3⟩ := deep_down h1 (by omega)
            have LK := hide (show (tD k).length ≤ 1000 ∧ (tD j).length ≤ 1000 from ⟨by rw [tD_len]; omega, by rw [tD_len]; omega⟩)
            have DG := hide (deep_good k (by omega))
            have EX1 := ext_deep (k := k) (n := N) (o := 2 * k) hk rfl
            have EX2 := ext_deep (k := j) (n := N) (o := 2 * k - 2) (by omega) (by omega)
            have X2 := hide (fun (W : World) (U : Nat → Prop) (h : PV H S T W U V (sD k)) => show Calls Tryz.prog 21 #[.pointer (some ⟨V, 0, none⟩), .string (bt (tD k))] W (SideO (fun w' U' => PV H S T w' U' V (sD k)) U W (.int .i64 12)) from by have h := I.ul h DG.out.1 (by decide) DG.out.2 (tD k) LK.out.1; rw [D2] at h; exact h)
            have X3 := hide (fun (W : World) (U : Nat → Prop) (h : PV H S T W U V (sD k)) => show Calls Tryz.prog 23 #[.pointer (some ⟨V, 0, none⟩), .string (bt (tD k))] W (SideO (fun w' U' => PV H S T w' U' V (sD j)) U W (.int .i64 0)) from by have h := I.rm h DG.out.1 (by decide) DG.out.2 (tD k) LK.out.1; rw [D3] at h; exact h)
            have HJ := hide hj
            clear hj
            by_cases h2 : 1 < k
            · have X1 := hide (fun (W : World) (U : Nat → Prop) (h : PV H S T W U V (sD k)) => show Calls Tryz.prog 23 #[.pointer (some ⟨V, 0, none⟩), .string (bt (tD j))] W (SideO (fun w' U' => PV H S T w' U' V (sD k)) U W (.int .i64 13)) from by have h := I.rm h DG.out.1 (by decide) DG.out.2 (tD j) LK.out.2; rw [D1 h2] at h; exact h)
              have k2 : (1 : Int) < (k : Int) := by omega
              clear D1 D2 D3
              go_wp2_with fail
              go_at_call 23
              try rw [EX2]
              refine (X1.out _ _ hT.out.ps).mono ?_
              intro en wa hs
              obtain ⟨rfl, U_TA, t_TA, -⟩ := hT.out.side hs
              have TA := hide t_TA
              clear hs t_TA hT
              go_wp2_with fail
              go_at_call 21
              try rw [EX1]
              refine (X2.out _ _ TA.out.ps).mono ?_
              intro en wb hs
              obtain ⟨rfl, U_TB, t_TB, -⟩ := TA.out.side hs
              have TB := hide t_TB
              clear hs t_TB TA
              go_wp2_with fail
              go_at_call 23
              try rw [EX1]
              refine (X3.out _ _ TB.out.ps).mono ?_
              intro en wc hs
              obtain ⟨rfl, U_TC, t_TC, -⟩ := TB.out.side hs
              have TC := hide t_TC
              clear hs t_TC TB
              go_wp2_with fail
              go_roundw
              case rel => exact ⟨j, _, by have := HJ.out; omega, by have := HJ.out; go_num, TC.out⟩
              case measure => have := HJ.out; simp [intOf]; omega
            · have k2 : ¬ (1 : Int) < (k : Int) := by omega
              clear D1 D2 D3
              go_wp2_with fail
              go_at_call 21
              try rw [EX1]
              refine (X2.out _ _ hT.out.ps).mono ?_
              intro en wb hs
              obtain ⟨rfl, U_TB, t_TB, -⟩ := hT.out.side hs
              have TB := hide t_TB
              clear hs t_TB hT
              go_wp2_with fail
              go_at_call 23
              try rw [EX1]
              refine (X3.out _ _ TB.out.ps).mono ?_
              intro en wc hs
              obtain ⟨rfl, U_TC, t_TC, -⟩ := TB.out.side hs
              have TC := hide t_TC
              clear hs t_TC TB
              go_wp2_with fail
              go_roundw
              case rel => exact ⟨j, _, by have := HJ.out; omega, by have := HJ.out; go_num, TC.out⟩
              case measure => have := HJ.out; simp [intOf]; omega
          · have k1 : ¬ (1 : Int) ≤ (k : Int) := by omega
            obtain rfl : k = 0 := by omega
            have DG := hide (deep_good 0 (by omega))
            have K0 : ¬ (1 : Int) ≤ ((0 : Nat) : Int) := by omega
            go_wp2_with fail
            go_at_call 17
            refine (I.nodes hT.out.ps DG.out.1 (by decide) DG.out.2).mono ?_
            rintro e wx ⟨rfl, bx⟩
            have TX := hide (hT.out.below K bx).1
            clear bx hT
            have LN := hide (I.ln TX.out.ps DG.out.1 (by decide) DG.out.2)
            rw [deep_cnt] at LN
            go_wp2_with fail
            go_at_call 18
            refine LN.out.mono ?_
            rintro e wy ⟨rfl, by_⟩
            have BEL := hide (TX.out.below K by_).1.bel
            clear by_
            go_wp2_with (go_at_call 11; refine (AWK.out _).mono ?_; rintro e w' ⟨rfl, hb⟩; have HB := hide hb; clear hb)
            go_ret
            exact ⟨rfl, BEL.out.trans (HB.out.mono BEL.out.size)⟩
      | true =>
        obtain ⟨E1, g1, o1, E2, E3, g2, o2, E4, E5, E6, E7⟩ := deep_all n1 n4
        have G1 := hide g1
        have O1 := hide o1
        have G2 := hide g2
        have O2 := hide o2
        have AF := fun W => add_deep W (k := N) n4 [47, 102] (by decide)
        rw [show bt [47, 102] = ByteArray.mk #[47, 102] from rfl, show tD N ++ [47, 102] = tF N from rfl] at AF
        have AX := fun W => add_deep W (k := N) n4 [47, 102, 47, 120] (by decide)
        rw [show bt [47, 102, 47, 120] = ByteArray.mk #[47, 102, 47, 120] from rfl, show tD N ++ [47, 102, 47, 120] = tX6 N from rfl] at AX
        obtain ⟨d, hd⟩ : ∃ d, d = N + 1 := ⟨_, rfl⟩
        rw [← hd] at E1 E2 E3
        have DW := hide (show (Lit.int .i64 (d : Int)).wf = true from by simp [Lit.wf, IntKind.min, IntKind.max, IntKind.bits, IntKind.signed]; omega)
        have OP := hide (fun (W : World) (U : Nat → Prop) (h : PV H S T W U V (sD N)) => show Calls Tryz.prog 19 #[.pointer (some ⟨V, 0, none⟩), .string (bt (tF N)), .int .i64 1] W (SideO (fun w' U' => PV H S T w' U' V (sF N 1)) U W (.tuple #[.int .i64 (d : Int), .int .i64 0])) from by have h := I.op h GN.out.1 (by decide) GN.out.2 (tF N) 1 LN1.out.2.1 (by decide); rw [E1] at h; exact h)
        have CL := hide (fun (W : World) (U : Nat → Prop) (h : PV H S T W U V (sF N 1)) => show Calls Tryz.prog 34 #[.pointer (some ⟨T, 0, none⟩), .int .i64 (d : Int)] W (SideO (fun w' U' => PV H S T w' U' V (sF N 0)) U W (.int .i64 0)) from by have h := I.cl h G1.out (by decide) O1.out (d : Int) DW.out; rw [E2, E3] at h; exact h)
        have RD := hide (fun (W : World) (U : Nat → Prop) (h : PV H S T W U V (sF N 0)) => show Calls Tryz.prog 23 #[.pointer (some ⟨V, 0, none⟩), .string (bt (tD N))] W (SideO (fun w' U' => PV H S T w' U' V (sF N 0)) U W (.int .i64 13)) from by have h := I.rm h G2.out (by decide) O2.out (tD N) LN1.out.1; rw [E4] at h; exact h)
        have MX := hide (fun (W : World) (U : Nat → Prop) (h : PV H S T W U V (sF N 0)) => show Calls Tryz.prog 22 #[.pointer (some ⟨V, 0, none⟩), .string (bt (tX6 N))] W (SideO (fun w' U' => PV H S T w' U' V (sF N 0)) U W (.int .i64 11)) from by have h := I.md h G2.out (by decide) O2.out (tX6 N) LN1.out.2.2; rw [E5] at h; exact h)
        have RF := hide (fun (W : World) (U : Nat → Prop) (h : PV H S T W U V (sF N 0)) => show Calls Tryz.prog 23 #[.pointer (some ⟨V, 0, none⟩), .string (bt (tF N))] W (SideO (fun w' U' => PV H S T w' U' V (sF N 0)) U W (.int .i64 11)) from by have h := I.rm h G2.out (by decide) O2.out (tF N) LN1.out.2.1; rw [E6] at h; exact h)
        have UF := hide (fun (W : World) (U : Nat → Prop) (h : PV H S T W U V (sF N 0)) => show Calls Tryz.prog 21 #[.pointer (some ⟨V, 0, none⟩), .string (bt (tF N))] W (SideO (fun w' U' => PV H S T w' U' V (sD N)) U W (.int .i64 0)) from by have h := I.ul h G2.out (by decide) O2.out (tF N) LN1.out.2.1; rw [E7] at h; exact h)
        clear E1 E2 E3 E4 E5 E6 E7 g1 o1 g2 o2 hd
        go_wp2_with fail
        go_at_call 19
        refine (OP.out _ _ hT.out.ps).mono ?_
        intro en w3 hs
        obtain ⟨rfl, U_T3, t_T3, -⟩ := hT.out.side hs
        have T3 := hide t_T3
        clear hs t_T3 hT
        go_wp2_with fail
        go_at_call 17
        refine (I.nodes T3.out.ps G1.out (by decide) O1.out).mono ?_
        rintro e w4 ⟨rfl, b4⟩
        have T4 := hide (T3.out.below K b4).1
        clear b4 T3
        go_wp2_with fail
        go_at_call 34
        refine (CL.out _ _ T4.out.ps).mono ?_
        intro en w5 hs
        obtain ⟨rfl, U_T5, t_T5, -⟩ := T4.out.side hs
        have T5 := hide t_T5
        clear hs t_T5 T4
        go_wp2_with fail
        go_at_call 23
        refine (RD.out _ _ T5.out.ps).mono ?_
        intro en w6 hs
        obtain ⟨rfl, U_T6, t_T6, -⟩ := T5.out.side hs
        have T6 := hide t_T6
        clear hs t_T6 T5
        go_wp2_with fail
        go_at_call 22
        refine (MX.out _ _ T6.out.ps).mono ?_
        intro en w7 hs
        obtain ⟨rfl, U_T7, t_T7, -⟩ := T6.out.side hs
        have T7 := hide t_T7
        clear hs t_T7 T6
        go_wp2_with fail
        go_at_call 23
        refine (RF.out _ _ T7.out.ps).mono ?_
        intro en w8 hs
        obtain ⟨rfl, U_T8, t_T8, -⟩ := T7.out.side hs
        have T8 := hide t_T8
        clear hs t_T8 T7
        go_wp2_with fail
        go_at_call 21
        refine (UF.out _ _ T8.out.ps).mono ?_
        intro en w9 hs
        obtain ⟨rfl, U_T9, t_T9, -⟩ := T8.out.side hs
        have T9 := hide t_T9
        clear hs t_T9 T8
        go_wp2_with fail
        go_loopw [12] (fun iv wr => ∃ (k : Nat) (U : Nat → Prop), k ≤ N ∧ iv = .int .i64 (k : Int) ∧ Hid (OneO (PV H S T) w wr U [] V (sD k))) (fun iv _ => (intOf iv).toNat)
        case atStart => exact ⟨N, _, Nat.le_refl _, rfl, T9.out⟩
        case round =>
          clear T9
          obtain ⟨k, U2, hk, rfl, hT⟩ := hrel
          by_cases h1 : 1 ≤ k
          · have k1 : (1 : Int) ≤ (k : Int) := by omega
            have kN : (k : Int) ≤ (N : Int) := by omega
            have SZ : ((bt (tD N)).size : Int) = 2 * (N : Int) := by rw [bt_size, tD_len]; omega
            have k5 : (k : Int) ≤ 4 := by omega
            obtain ⟨j, hj, D1, D2, D3⟩ := deep_down h1 (by omega)
            have LK := hide (show (tD k).length ≤ 1000 ∧ (tD j).length ≤ 1000 from ⟨by rw [tD_len]; omega, by rw [tD_len]; omega⟩)
            have DG := hide (deep_good k (by omega))
            have EX1 := ext_deep (k := k) (n := N) (o := 2 * k) hk rfl
            have EX2 := ext_deep (k := j) (n := N) (o := 2 * k - 2) (by omega) (by omega)
            have X2 := hide (fun (W : World) (U : Nat → Prop) (h : PV H S T W U V (sD k)) => show Calls Tryz.prog 21 #[.pointer (some ⟨V, 0, none⟩), .string (bt (tD k))] W (SideO (fun w' U' => PV H S T w' U' V (sD k)) U W (.int .i64 12)) from by have h := I.ul h DG.out.1 (by decide) DG.out.2 (tD k) LK.out.1; rw [D2] at h; exact h)
            have X3 := hide (fun (W : World) (U : Nat → Prop) (h : PV H S T W U V (sD k)) => show Calls Tryz.prog 23 #[.pointer (some ⟨V, 0, none⟩), .string (bt (tD k))] W (SideO (fun w' U' => PV H S T w' U' V (sD j)) U W (.int .i64 0)) from by have h := I.rm h DG.out.1 (by decide) DG.out.2 (tD k) LK.out.1; rw [D3] at h; exact h)
            have HJ := hide hj
            clear hj
            by_cases h2 : 1 < k
            · have X1 := hide (fun (W : World) (U : Nat → Prop) (h : PV H S T W U V (sD k)) => show Calls Tryz.prog 23 #[.pointer (some ⟨V, 0, none⟩), .string (bt (tD j))] W (SideO (fun w' U' => PV H S T w' U' V (sD k)) U W (.int .i64 13)) from by have h := I.rm h DG.out.1 (by decide) DG.out.2 (tD j) LK.out.2; rw [D1 h2] at h; exact h)
              have k2 : (1 : Int) < (k : Int) := by omega
              clear D1 D2 D3
              go_wp2_with fail
              go_at_call 23
              try rw [EX2]
              refine (X1.out _ _ hT.out.ps).mono ?_
              intro en wa hs
              obtain ⟨rfl, U_TA, t_TA, -⟩ := hT.out.side hs
              have TA := hide t_TA
              clear hs t_TA hT
              go_wp2_with fail
              go_at_call 21
              try rw [EX1]
              refine (X2.out _ _ TA.out.ps).mono ?_
              intro en wb hs
              obtain ⟨rfl, U_TB, t_TB, -⟩ := TA.out.side hs
              have TB := hide t_TB
              clear hs t_TB TA
              go_wp2_with fail
              go_at_call 23
              try rw [EX1]
              refine (X3.out _ _ TB.out.ps).mono ?_
              intro en wc hs
              obtain ⟨rfl, U_TC, t_TC, -⟩ := TB.out.side hs
              have TC := hide t_TC
              clear hs t_TC TB
              go_wp2_with fail
              go_roundw
              case rel => exact ⟨j, _, by have := HJ.out; omega, by have := HJ.out; go_num, TC.out⟩
              case measure => have := HJ.out; simp [intOf]; omega
            · have k2 : ¬ (1 : Int) < (k : Int) := by omega
              clear D1 D2 D3
              go_wp2_with fail
              go_at_call 21
              try rw [EX1]
              refine (X2.out _ _ hT.out.ps).mono ?_
              intro en wb hs
              obtain ⟨rfl, U_TB, t_TB, -⟩ := hT.out.side hs
              have TB := hide t_TB
              clear hs t_TB hT
              go_wp2_with fail
              go_at_call 23
              try rw [EX1]
              refine (X3.out _ _ TB.out.ps).mono ?_
              intro en wc hs
              obtain ⟨rfl, U_TC, t_TC, -⟩ := TB.out.side hs
              have TC := hide t_TC
              clear hs t_TC TB
              go_wp2_with fail
              go_roundw
              case rel => exact ⟨j, _, by have := HJ.out; omega, by have := HJ.out; go_num, TC.out⟩
              case measure => have := HJ.out; simp [intOf]; omega
          · have k1 : ¬ (1 : Int) ≤ (k : Int) := by omega
            obtain rfl : k = 0 := by omega
            have DG := hide (deep_good 0 (by omega))
            have K0 : ¬ (1 : Int) ≤ ((0 : Nat) : Int) := by omega
            go_wp2_with fail
            go_at_call 17
            refine (I.nodes hT.out.ps DG.out.1 (by decide) DG.out.2).mono ?_
            rintro e wx ⟨rfl, bx⟩
            have TX := hide (hT.out.below K bx).1
            clear bx hT
            have LN := hide (I.ln TX.out.ps DG.out.1 (by decide) DG.out.2)
            rw [deep_cnt] at LN
            go_wp2_with fail
            go_at_call 18
            refine LN.out.mono ?_
            rintro e wy ⟨rfl, by_⟩
            have BEL := hide (TX.out.below K by_).1.bel
            clear by_
            go_wp2_with (go_at_call 11; refine (AWK.out _).mono ?_; rintro e w' ⟨rfl, hb⟩; have HB := hide hb; clear hb)
            go_ret
            exact ⟨rfl, BEL.out.trans (HB.out.mono BEL.out.size)⟩
end
end Go.Proofs.YtndfnglcichngaaGreatDoor
