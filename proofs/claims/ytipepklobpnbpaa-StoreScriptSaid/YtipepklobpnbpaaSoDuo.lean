/-
  The walk of StoreTwo over the contracts of the program's store; two files in plain words.
-/
import Derived.Test.YtipepklobpnbpaaSoBoth
namespace Go.Proofs.Ytipepklobpnbpaa
open Go.ChangeShapes Go.WideShapes Go.ChangeAt Go.RowKit
set_option linter.unusedVariables false
/-- Files 1 and 2 of x and y over N frames. -/
def duo (x y : List Int) (N : Nat) : So := ⟨[⟨1, x⟩, ⟨2, y⟩], N - (blkN x.length + blkN y.length)⟩
def wrX (x : List Int) (off : Nat) (b : List Int) : List Int := if b.length = 0 then x else wrB x off b
theorem duo_first (N : Nat) : mkE ⟨[], N⟩ 1 = 0 ∧ mkS ⟨[], N⟩ 1 = ⟨[⟨1, []⟩], N⟩ ∧ mkE ⟨[⟨1, []⟩], N⟩ 2 = 0 ∧ mkS ⟨[⟨1, []⟩], N⟩ 2 = duo [] [] N := by
  refine ⟨rfl, rfl, rfl, ?_⟩
  show (⟨[⟨1, []⟩, ⟨2, []⟩], N⟩ : So) = ⟨[⟨1, []⟩, ⟨2, []⟩], N - (blkN 0 + blkN 0)⟩
  rw [show blkN 0 = 0 from by decide]
  rfl
theorem get1 (x y : List Int) (N : Nat) : getFi (duo x y N).l 1 = some x := rfl
theorem get2 (x y : List Int) (N : Nat) : getFi (duo x y N).l 2 = some y := rfl
theorem blkN_le {n : Nat} (h : n ≤ 512) : blkN n ≤ 8 := by unfold blkN; omega
theorem wrX_len {x b : List Int} {off : Nat} (h : x.length ≤ 512) (h2 : off + b.length ≤ 512) : (wrX x off b).length ≤ 512 := by
  unfold wrX; split
  · exact h
  · rw [wrB_len]; omega
theorem duo_w1 {x y b : List Int} {N off : Nat} (hN : 16 ≤ N) (hx : x.length ≤ 512) (hy : y.length ≤ 512) (hb : off + b.length ≤ 512) {m : Nat} (hm : b.length = m) :
    wrE (duo x y N) 1 (off : Int) m = 0 ∧ wrS (duo x y N) 1 (off : Int) b = duo (wrX x off b) y N := by
  have b1 := blkN_le hx
  have b2 := blkN_le hy
  have nm := needN_max x.length off b.length
  have b3 : blkN (max x.length (off + b.length)) ≤ 8 := blkN_le (by omega)
  have e0 : wrE (duo x y N) 1 (off : Int) b.length = 0 := by
    unfold wrE
    rw [get1]
    rw [if_pos (show (some _).isSome = true from rfl), if_neg (by omega)]
    split
    · rfl
    · rw [if_neg (by omega), Int.toNat_natCast, if_neg]
      show ¬ (N - (blkN x.length + blkN y.length) < needN x.length off b.length)
      omega
  refine ⟨hm ▸ e0, ?_⟩
  unfold wrS
  rw [e0]
  unfold wrX
  by_cases h0 : b.length = 0
  · rw [if_neg (by omega), if_pos h0]
  · rw [if_pos ⟨rfl, h0⟩, if_neg h0, get1, Int.toNat_natCast]
    show (⟨[⟨1, wrB x off b⟩, ⟨2, y⟩], N - (blkN x.length + blkN y.length) - needN x.length off b.length⟩ : So) = duo (wrB x off b) y N
    unfold duo
    rw [wrB_len, nm]
    congr 1
    omega
theorem duo_w2 {x y b : List Int} {N off : Nat} (hN : 16 ≤ N) (hx : x.length ≤ 512) (hy : y.length ≤ 512) (hb : off + b.length ≤ 512) {m : Nat} (hm : b.length = m) :
    wrE (duo x y N) 2 (off : Int) m = 0 ∧ wrS (duo x y N) 2 (off : Int) b = duo x (wrX y off b) N := by
  have b1 := blkN_le hx
  have b2 := blkN_le hy
  have nm := needN_max y.length off b.length
  have b3 : blkN (max y.length (off + b.length)) ≤ 8 := blkN_le (by omega)
  have e0 : wrE (duo x y N) 2 (off : Int) b.length = 0 := by
    unfold wrE
    rw [get2]
    rw [if_pos (show (some _).isSome = true from rfl), if_neg (by omega)]
    split
    · rfl
    · rw [if_neg (by omega), Int.toNat_natCast, if_neg]
      show ¬ (N - (blkN x.length + blkN y.length) < needN y.length off b.length)
      omega
  refine ⟨hm ▸ e0, ?_⟩
  unfold wrS
  rw [e0]
  unfold wrX
  by_cases h0 : b.length = 0
  · rw [if_neg (by omega), if_pos h0]
  · rw [if_pos ⟨rfl, h0⟩, if_neg h0, get2, Int.toNat_natCast]
    show (⟨[⟨1, x⟩, ⟨2, wrB y off b⟩], N - (blkN x.length + blkN y.length) - needN y.length off b.length⟩ : So) = duo x (wrB y off b) N
    unfold duo
    rw [wrB_len, nm]
    congr 1
    omega
theorem wrX_two {x y : List Int} {a b : Nat} (h : a + x.length ≤ b) : wrX (wrX [] a x) b y = wrX (wrX [] b y) a x := by
  unfold wrX
  by_cases hx : x.length = 0
  · rw [if_pos hx, if_pos hx]
  · by_cases hy : y.length = 0
    · rw [if_pos hy, if_pos hy]
    · rw [if_neg hx, if_neg hy, if_neg hy, if_neg hx]
      exact wrB_two h (fun e => hx (by rw [e]; rfl)) (fun e => hy (by rw [e]; rfl))
theorem own_below {w w' : World} {base : Nat} {e : TypeId} {z n : Nat} {v : Value} {xs : List Value} (h : w.ownsRow base e z v n xs) (b : Below w.heap.size w w') : w'.ownsRow base e z v n xs := (Touch.of_below (S := fun _ => False) b).own h (fun _ _ e => e)
theorem own_drewN {w : World} {base : Nat} {e : TypeId} {z n : Nat} {v : Value} {xs : List Value} (h : w.ownsRow base e z v n xs) (m : Nat) : (w.drewN m).ownsRow base e z v n xs := own_below h (below_drewN (Below.refl _ _) m)
theorem own_sliceF {w : World} {B : Nat} {e : TypeId} {z n : Nat} {v : Value} {xs : List Value} (h : w.ownsRow B e z v n xs) : ∃ a c, v = .slice a n c ∧ (a = none → c = 0) ∧ n ≤ c ∧ c ≤ maxLen ∧ (∀ x, a = some x → x.off = 0 ∧ x.spot = none) := by
  rcases h.2 with ⟨rfl, rfl⟩ | ⟨g, cap, cur, rfl, _, _, h1, h2, _⟩
  · exact ⟨none, 0, rfl, fun _ => rfl, Nat.le_refl _, by unfold maxLen; omega, (fun x e => by cases e)⟩
  · exact ⟨_, _, rfl, (fun e => by cases e), h1, h2, (fun x e => by injection e with e; subst e; exact ⟨rfl, rfl⟩)⟩
/-- What lies ahead of a row of one's own stays where that row grows. -/
theorem ints_grown {q : IntKind} {w w' : World} {a : Option Addr} {n : Nat} {xs : List Int} {v : Value} {B : Nat} (hi : Ints q w a n xs) (hl : 0 < n → ∀ b o, a = some ⟨b, o, none⟩ → b < B) (hv : ∀ g, v.ownBlock = some g → B ≤ g) (hg : w.grownBy w' v.ownBlock) : Ints q w' a n xs := by
  refine ⟨hi.1, fun hn => ?_⟩
  obtain ⟨b, off, e, hc⟩ := hi.2 hn
  exact ⟨b, off, e, fun j hj => (Touch.of_grown (S := fun g => v.ownBlock = some g) hg (fun g e => e)).cell (hc j hj) (fun h => by have := hv _ h; have h2 : b < B := hl hn b off e; have : B ≤ b := this; omega)⟩
theorem ints_lt {q : IntKind} {w : World} {a : Option Addr} {n : Nat} {xs : List Int} (hi : Ints q w a n xs) (hn : 0 < n) : ∀ b o, a = some ⟨b, o, none⟩ → b < w.heap.size := by
  intro b o e
  obtain ⟨b', off, e', hc⟩ := hi.2 hn
  rw [e] at e'
  injection e' with e'
  injection e' with e1 e2 _
  have h3 : b' < w.heap.size := lt_of_cell? (hc 0 hn)
  omega
theorem wf_off {x : Nat} (h : x ≤ 4000000) : (Lit.int .i64 (x : Int)).wf = true := wf_i (by omega) (by omega)
theorem u8_bytes {w : World} {a : Option Addr} {n c : Nat} {xs : List Int} (h : CameIn .u8 w a n c xs) : Bytes xs := by
  intro y hy
  have := h.2.2.2.2 y hy
  simp [Lit.wf, IntKind.min, IntKind.max, IntKind.bits, IntKind.signed] at this
  omega
/-- What came in lies in no block of an object made since. -/
theorem came_apart {w wr : World} {U : Nat → Prop} {X : List Nat} {S : Nat} {σ : Type} {P : Rel σ} {s : σ} (h : OneO P w wr U X S s) {q : IntKind} {a : Option Addr} {n : Nat} {xs : List Int} (hi : Ints q w a n xs) (hn : 0 < n) : ∀ b o, a = some ⟨b, o, none⟩ → ¬ U b := by
  intro b o e hU
  obtain ⟨b', off, e', hc⟩ := hi.2 hn
  rw [e] at e'
  injection e' with e'
  injection e' with e1 e2 _
  have := lt_of_cell? (hc 0 hn)
  have h2 := h.lo b hU
  have h3 : b' < w.heap.size := this
  omega
theorem low_k (x z : Int) (w : World) (n : Nat) (hz : z = (n : Int)) (h0 : 0 < n) (hb : n ≤ 1000000) :
    Calls Try.prog 11 #[.int .i64 x, .int .i64 z] w fun e w' => (∃ r : Nat, r < n ∧ e = .returned (.int .i64 (r : Int))) ∧ w = w' := by
  refine (low_i x z w (by omega) (by omega)).mono ?_
  rintro e w' ⟨⟨r, ⟨r0, r1⟩, rfl⟩, rfl⟩
  obtain ⟨R, rfl⟩ := Int.eq_ofNat_of_zero_le r0
  exact ⟨⟨R, by omega, rfl⟩, rfl⟩
section
variable {PS : Nat → Rel So}
theorem PStore.rdIn (C : PStore PS) {H S : Nat} {w wr : World} {U : Nat → Prop} {X : List Nat} {s : So} (h : OneO (PS H) w wr U X S s) {id off n : Int} (h1 : (Lit.int .i64 id).wf = true) (h2 : (Lit.int .i64 off).wf = true) (h3 : (Lit.int .i64 n).wf = true) {b : List Int} (hE : rdE s id off n = 0) (hB : rdB s id off n = b) :
    Calls Try.prog 20 #[.pointer (some ⟨S, 0, none⟩), .int .i64 id, .int .i64 off, .int .i64 n] wr fun e w' => ∃ A c, e = .returned (.tuple #[.slice A b.length c, .int .i64 0]) ∧ w'.ownsRow wr.heap.size 5 1 (.slice A b.length c) b.length (b.map (Value.int .u8)) ∧ Ints .u8 w' A b.length b ∧ OneO (PS H) w w' U X S s ∧ Below wr.heap.size wr w' ∧ ∀ b o, A = some ⟨b, o, none⟩ → ¬ U b := by
  refine (C.rd h.ps h1 h2 h3).mono ?_
  rintro e w' ⟨v, rfl, o, bl⟩
  rw [hB] at o
  obtain ⟨A, c, rfl, i, -⟩ := own_ints o
  refine ⟨A, c, by rw [hE]; rfl, o, i, (h.below (C.keeps H) bl).1, bl, fun g o2 e hU => ?_⟩
  obtain ⟨A', c', e', _, _, _, hz⟩ := own_sliceF o
  injection e' with e1 _ e2
  subst e1 e2
  have h0 : o2 = 0 := by have := (hz _ e).1; exact this
  subst h0
  have h5 := (o.lt g (by rw [e]; rfl)).1
  have := (C.keeps H).lt h.ps g hU
  omega
/-- Write, of what came in. -/
theorem PStore.wrAny (C : PStore PS) {H S : Nat} {w wr : World} {U : Nat → Prop} {X : List Nat} {s : So} (h : OneO (PS H) w wr U X S s) {id off : Int} (h1 : (Lit.int .i64 id).wf = true) (h2 : (Lit.int .i64 off).wf = true) {a : Option Addr} {m c : Nat} {ys : List Int} (hi : CameIn .u8 w a m c ys) (hm : m ≤ 1000000) {v : Nat} {s' : So} (hE : wrE s id off m = v) (hS : wrS s id off ys = s') :
    Calls Try.prog 25 #[.pointer (some ⟨S, 0, none⟩), .int .i64 id, .int .i64 off, .slice a m c] wr fun e w' => e = .returned (.int .i64 (v : Int)) ∧ ∃ U', OneO (PS H) w w' U' X S s' ∧ Stay X wr w' ∧ Touch U wr w' := by
  subst hE hS
  refine (C.wr h.ps h1 h2 (hi.1.below h.bel) hi.2.2.2.1 (u8_bytes hi) hm (fun hp => came_apart h hi.1 hp)).mono ?_
  rintro e w' ⟨rfl, U', p, u, hU⟩
  exact ⟨rfl, U', (h.move p u hU).1, (h.move p u hU).2, u⟩
end
end Go.Proofs.Ytipepklobpnbpaa
