/-
  The walk of StoreScript over the contracts of the program's store, the document's own beside (written by tools/gen/soscript.py).
-/
import Derived.Test.YtipepklobpnbpaaSoGreat
import Derived.Test.YtipepklobpnbpaaSoDuo
import Derived.Test.YtipepklobpnbpaaSoRefI
import Derived.Test.YtipepklobpnbpaaFrOver
import Derived.Test.YtipepklobpnbpaaRfNew
import Derived.Deep.RegionHeld3
namespace Go.Proofs.Ytipepklobpnbpaa
open Go.ChangeShapes Go.WideShapes Go.ChangeAt Go.RowKit
set_option linter.unusedVariables false
set_option linter.unusedSimpArgs false
/-- The act's copy in block X. -/
def CopA (w : World) (X : Nat) (d i o m : Int) (aa : Option Addr) (l c : Nat) : Prop := w.heap[X]? = some (.cells #[.int .i64 d, .int .i64 i, .int .i64 o, .int .i64 m, .slice aa l c] 41 (0, 0))
section
variable {w w' : World} {X : Nat} {d i o m : Int} {aa : Option Addr} {l c : Nat}
theorem CopA.c0 (h : CopA w X d i o m aa l c) : w.cell? ⟨X, 0, none⟩ = some (.int .i64 d) := cell_of_row w X 0 _ _ _ h
theorem CopA.c1 (h : CopA w X d i o m aa l c) : w.cell? ⟨X, 1, none⟩ = some (.int .i64 i) := cell_of_row w X 1 _ _ _ h
theorem CopA.c2 (h : CopA w X d i o m aa l c) : w.cell? ⟨X, 2, none⟩ = some (.int .i64 o) := cell_of_row w X 2 _ _ _ h
theorem CopA.c3 (h : CopA w X d i o m aa l c) : w.cell? ⟨X, 3, none⟩ = some (.int .i64 m) := cell_of_row w X 3 _ _ _ h
theorem CopA.c4 (h : CopA w X d i o m aa l c) : w.cell? ⟨X, 4, none⟩ = some (.slice aa l c) := cell_of_row w X 4 _ _ _ h
theorem CopA.stay (h : CopA w X d i o m aa l c) {Xs : List Nat} (hs : Stay Xs w w') (hx : X ∈ Xs) : CopA w' X d i o m aa l c := (hs X hx).trans h
theorem CopA.drew (h : CopA w X d i o m aa l c) : CopA w.drew X d i o m aa l c := h
end
section
variable {PS : Nat → Rel So}
/-- A block more, that was made: nobody's. -/
theorem TwoO.lend (C : PStore PS) {w wr w' : World} {U D : Nat → Prop} {X : List Nat} {H S R G : Nat} {s : So} (h : TwoO (PS H) (Dso R) w wr U D X S G s s) (b : Below wr.heap.size wr w') (hl : wr.heap.size < w'.heap.size) : TwoO (PS H) (Dso R) w w' U D (wr.heap.size :: X) S G s s ∧ Stay X wr w' := by
  obtain ⟨h2, h3⟩ := h.below (C.keeps H) (keepsDso R) b
  refine ⟨⟨h2.ps, h2.ds, h2.bel, h2.dis, h2.lo, h2.lo2, fun g hg => ?_⟩, h3⟩
  rcases List.mem_cons.mp hg with rfl | e
  · exact ⟨hl, fun e => by have := (C.keeps H).lt h.ps _ e; omega, fun e => by have := (keepsDso R).lt h.ds _ e; omega⟩
  · exact h2.xs g e
/-- Both stores, new. -/
theorem two_first20 (C : PStore PS) {w w1 w2 w3 : World} {H A Q R t b S N : Nat} {U : Nat → Prop} (f1 : Fr w1 H A Q (St.new N)) (b1 : Below w.heap.size w w1) (hb : ∀ i, Blk H A Q i → w.heap.size ≤ i)
    (r2 : Rf w2 (fun i => i < w1.heap.size) R t b (St.new N) 0 []) (b2 : Below w1.heap.size w1 w2) (p3 : PS H w3 U S ⟨[], N⟩) (b3 : Below w2.heap.size w2 w3) (hU : ∀ i, U i → Blk H A Q i ∨ w2.heap.size ≤ i) :
    ∃ D, TwoO (PS H) (Dso R) w (w3.alloc (.cells #[.pointer (some ⟨R, 0, none⟩), .slice none 0 0] 38)) U D [] S w3.heap.size ⟨[], N⟩ ⟨[], N⟩ := by
  have s1 := b1.size
  have s2 := b2.size
  have s3 := b3.size
  have fl : ∀ i, Blk H A Q i → i < w1.heap.size := by
    rintro i (rfl | rfl | rfl)
    · exact f1.ltH
    · exact f1.ltA
    · exact f1.ltQ
  have k2 : RfG w2 (fun i => w1.heap.size ≤ i ∧ i < w2.heap.size) R t b (St.new N) 0 [] := by
    refine ⟨r2.mono (fun i hi => hi.1) (fun i hi h => ?_), fun i hi => hi.2⟩
    have := h.2
    show i < w1.heap.size
    have h3 : ¬ (w1.heap.size ≤ i ∧ i < w2.heap.size) := this
    omega
  have k3 := k2.below b3
  have bA := (Below.refl w3.heap.size w3).alloc (Nat.le_refl _) (.cells #[.pointer (some ⟨R, 0, none⟩), .slice none 0 0] 38)
  have k4 := k3.below bA
  have p4 := (C.keeps H).below p3 bA
  have hfr : N = (St.new N).fr.length := (fallen_len N N).symm
  have dm : DsoAt (w3.alloc (.cells #[.pointer (some ⟨R, 0, none⟩), .slice none 0 0] 38)) (fun i => i = w3.heap.size ∨ (w1.heap.size ≤ i ∧ i < w2.heap.size)) w3.heap.size R ⟨[], N⟩ [] (.slice none 0 0) t b (St.new N) 0 [] (fun i => w1.heap.size ≤ i ∧ i < w2.heap.size) := by
    refine ⟨⟨heap_alloc_new _ _, World.ownsRow_nil _ _ _ _, fun x hx => absurd hx List.not_mem_nil, k4, List.nodup_nil, fun f hf => absurd hf List.not_mem_nil, fun x hx => absurd hx List.not_mem_nil, ⟨fun e => by (cases e), fun e => by omega⟩, fun i e => by (cases e), fun i => ⟨fun e => ?_, fun e => ?_⟩⟩, ⟨rfl, hfr, C.good p3, Nat.zero_le _, fun x hx => absurd hx List.not_mem_nil⟩⟩
    · rcases e with e | e
      · exact .inl e
      · exact .inr (.inr (.inl e))
    · rcases e with e | e | e | ⟨x, hx, _⟩
      · exact .inl e
      · cases e
      · exact .inr e
      · exact absurd hx List.not_mem_nil
  refine ⟨fun i => i = w3.heap.size ∨ (w1.heap.size ≤ i ∧ i < w2.heap.size), p4, ⟨_, _, _, _, _, _, _, _, dm⟩, ?_, fun i hi hd => ?_, fun i hi => ?_, fun i hi => ?_, fun g hg => absurd hg List.not_mem_nil⟩
  · exact (b1.trans (b2.mono s1)).trans ((b3.mono (Nat.le_trans s1 s2)).trans (bA.mono (by omega)))
  · rcases hd with hd | hd
    · have := (C.keeps H).lt p3 i hi; omega
    · rcases hU i hi with h | h
      · have := fl i h; omega
      · omega
  · rcases hU i hi with h | h
    · exact hb i h
    · omega
  · rcases hi with h | h <;> omega
set_option maxRecDepth 100000 in
set_option maxHeartbeats 8000000 in
theorem walk_storeScriptC (C : PStore PS) (w : World) (x : Int) (wx : (Lit.int .i64 x).wf = true) (a : Option Addr) (n c : Nat) (zs : List (List FV)) (hin : CameMix AK w a n c zs) : Calls Try.prog 3 #[.int .i64 x, .slice a n c] w fun e w' => e = .returned (.bool true) ∧ Below w.heap.size w w' := by
  clear wx
  have hn : n ≤ maxLen := Nat.le_trans hin.2.1 hin.2.2.1
  have HA := hide (acts_open hin)
  clear hin
  go_enter Try.func3, Try.ntmps3
  go_wp2_with fail
  go_at_call 9
  refine (great20_any HA.out hn 80 (by omega)).mono ?_
  rintro e w' ⟨⟨r, rfl, hr⟩, rfl⟩
  cases r with
  | true =>
    clear hr
    go_wp2_with (go_at_call 10; refine (soawake_any C _).mono ?_; rintro e w' ⟨rfl, hb⟩)
    go_ret
    exact ⟨rfl, hb⟩
  | false =>
    have h80 := (hr rfl).1
    have HA2 := hide (hr rfl).2
    clear hr HA hn
    go_wp2_with fail
    go_at_call 11
    refine (low_i x 20 w (by decide) (by decide)).mono ?_
    rintro e w' ⟨⟨r, ⟨r0, r1⟩, rfl⟩, rfl⟩
    obtain ⟨N, hN⟩ := Int.eq_ofNat_of_zero_le (show 0 ≤ 1 + r by omega)
    have N1 : 1 ≤ N := by omega
    have N2 : N ≤ 64 := by omega
    obtain rfl : r = (N : Int) - 1 := by omega
    have hN2 : (1 : Int) + ((N : Int) - 1) = (N : Int) := by omega
    clear hN r0 r1
    have NB : (N : Int) ≤ 64 := by omega
    have NB1 : (1 : Int) ≤ (N : Int) := by omega
    go_wp2_with fail
    go_at_call 12
    refine (new_ok _ N N1 N2).mono ?_
    rintro e w1 ⟨H, A, Q, rfl, f1, b1, hb1⟩
    have F1 := hide f1
    have B1 := hide b1
    have HB1 := hide hb1
    clear f1 b1 hb1 hN2
    go_wp2_with fail
    go_at_call 13
    refine (rnew_ok _ N N1 N2 (fun i => i < w1.heap.size) (fun _ h => h)).mono ?_
    rintro e w2 ⟨R, rfl, t, b, r2, b2, hb2⟩
    have R2 := hide r2
    have B2 := hide b2
    clear r2 b2 hb2
    go_wp2_with fail
    go_at_call 14
    refine (C.new (F1.out.below B2.out)).mono ?_
    rintro e w3 ⟨S, U, rfl, p3, b3, hU⟩
    obtain ⟨D, h0⟩ := two_first20 C F1.out B1.out HB1.out R2.out B2.out p3 b3 hU
    have T0 := hide h0
    clear p3 b3 hU h0 F1 B1 HB1 R2 B2 N1 N2
    go_upto_region 9 with fail
    obtain ⟨W0, hW0⟩ : ∃ W0, W0 = w3.alloc (.cells #[.pointer (some ⟨R, 0, none⟩), .slice none 0 0] 38) := ⟨_, rfl⟩
    rw [← hW0] at T0 ⊢
    clear hW0
    generalize w3.heap.size = G at *
    go_wp2_with fail
    go_loopw [11] (fun i wr => ∃ (k : Nat) (s : So) (U D : Nat → Prop), k ≤ n ∧ i = .int .i64 (k : Int) ∧ s.l.length ≤ k ∧ Hid (TwoO (PS H) (Dso R) w wr U D [] S G s s)) (fun i _ => n - (intOf i).toNat)
    case atStart => exact ⟨0, _, _, _, Nat.zero_le _, rfl, Nat.le_refl _, T0.out⟩
    case round =>
      clear T0 U D
      obtain ⟨k, s, U, D, hk, rfl, hsk, hT⟩ := hrel
      by_cases hlt : k < n
      · obtain ⟨ab, off, rfl, hall⟩ := HA2.out (by omega)
        obtain ⟨d, i, o, m, aa, l, c', ys, hact0, hl700⟩ := hall k hlt
        have HACT := hide hact0
        have hact := hact0.below hT.out.bel
        have k0 : (0 : Int) ≤ (k : Int) := by omega
        have k1 : (k : Int) < (n : Int) := by omega
        have c0 := hact.c0
        have c1 := hact.c1
        have c2 := hact.c2
        have c3 := hact.c3
        have c4 := hact.c4
        have WI := hide hact.wi
        have WO := hide hact.wo
        have WM := hide hact.wm
        have SL := hide (show s.l.length < 100000 from by omega)
        have SK := hide hsk
        have L7 := hide (show l ≤ 1000000 from by omega)
        have C1 : Hid (CopA (wr.alloc (.cells #[.int .i64 d, .int .i64 i, .int .i64 o, .int .i64 m, .slice aa l c'] 41)) wr.heap.size d i o m aa l c') := (show CopA _ _ _ _ _ _ _ _ _ from heap_alloc_new _ _)
        have T1 := hide (hT.out.alloc (C.keeps H) (keepsDso R) (.cells #[.int .i64 d, .int .i64 i, .int .i64 o, .int .i64 m, .slice aa l c'] 41)).1
        clear hall hact0 hact hT hl700 hsk
        go_upto_block 2 with fail
        obtain ⟨W1, hW1⟩ : ∃ W1, W1 = wr.alloc (.cells #[.int .i64 d, .int .i64 i, .int .i64 o, .int .i64 m, .slice aa l c'] 41) := ⟨_, rfl⟩
        rw [← hW1] at C1 T1 ⊢
        clear hW1 c0 c1 c2 c3 c4
        generalize wr.heap.size = X at *
        go_cut [13] (fun v' wx => ∃ (s : So) (U D : Nat → Prop), v' = .bool true ∧ s.l.length ≤ k + 1 ∧ Hid (TwoO (PS H) (Dso R) w wx U D [X] S G s s) ∧ Hid (CopA wx X d i o m aa l c'))
        case first =>
          by_cases d0 : d = 0
          · subst d0
            have g0 : (((mkE s i : Nat) : Int) == ((mkE s i : Nat) : Int)) = true := by simp
            obtain ⟨ev, hev⟩ : ∃ ev, ev = mkE s i := ⟨_, rfl⟩
            rw [← hev] at g0
            have LF := hide (fun (W : World) (V : Nat → Prop) (h : PS H W V S s) => show Calls Try.prog 16 #[.pointer (some ⟨S, 0, none⟩), .int .i64 i] W (SideO (fun w' U' => PS H w' U' S (mkS s i)) V W (.int .i64 (ev : Int))) from by rw [hev]; exact (C.mak h WI.out (by have := SL.out; omega)))
            have RG := hide (fun (W : World) (V : Nat → Prop) (h : Dso R W V G s) => show Calls Try.prog 17 #[.pointer (some ⟨G, 0, none⟩), .int .i64 i] W (SideO (fun w' U' => Dso R w' U' G (mkS s i)) V W (.int .i64 (ev : Int))) from by rw [hev]; exact (rmk_any h WI.out SL.out))
            clear hev
            have x0 := C1.out.c0
            have x1 := C1.out.c1
            go_wp2_with fail
            clear x0
            go_region_held3 (fun w' => w'.cell? ⟨X, 1, none⟩ = some (.int .i64 i)) (first | exact x1 | exact y1 | exact z1) (first
              | (go_at_call 16; refine (LF.out _ _ (T1.out.below (C.keeps H) (keepsDso R) (Below.refl W1.heap.size W1).drew).1.ps).mono ?_; intro en w4 hs; obtain ⟨rfl, U4, t4, h4⟩ := (T1.out.below (C.keeps H) (keepsDso R) (Below.refl W1.heap.size W1).drew).1.left (C.keeps H) (keepsDso R) hs; have T4 := hide t4; have C4 := hide (C1.out.drew.stay h4 (List.mem_singleton.2 rfl)); have y1 := C4.out.c1; clear hs t4 h4)
              | (go_at_call 17; refine (RG.out _ _ T4.out.ds).mono ?_; intro en w5 hs; obtain ⟨rfl, D5, t5, h5⟩ := T4.out.right (C.keeps H) (keepsDso R) hs; have T5 := hide t5; have C5 := hide (C4.out.stay h5 (List.mem_singleton.2 rfl)); have z1 := C5.out.c1; clear hs t5 h5)
              | (go_at_call 15; refine (num_any _ _).mono ?_; rintro e w' ⟨rfl, rfl⟩))
            go_wp2_with fail
            go_meet
            exact ⟨_, _, _, rfl, by have := mkS_len s i; have := SK.out; omega, T5.out, C5⟩
          by_cases d1 : d = 1
          · subst d1
            have g0 : (((thE s i : Nat) : Int) == ((thE s i : Nat) : Int)) = true := by simp
            obtain ⟨ev, hev⟩ : ∃ ev, ev = thE s i := ⟨_, rfl⟩
            rw [← hev] at g0
            have LF := hide (fun (W : World) (V : Nat → Prop) (h : PS H W V S s) => show Calls Try.prog 18 #[.pointer (some ⟨S, 0, none⟩), .int .i64 i] W (SideO (fun w' U' => PS H w' U' S (drS s i)) V W (.int .i64 (ev : Int))) from by rw [hev]; exact (C.dr h WI.out))
            have RG := hide (fun (W : World) (V : Nat → Prop) (h : Dso R W V G s) => show Calls Try.prog 19 #[.pointer (some ⟨G, 0, none⟩), .int .i64 i] W (SideO (fun w' U' => Dso R w' U' G (drS s i)) V W (.int .i64 (ev : Int))) from by rw [hev]; exact (rdr_any h i))
            clear hev
            have x0 := C1.out.c0
            have x1 := C1.out.c1
            go_wp2_with fail
            clear x0
            go_region_held3 (fun w' => w'.cell? ⟨X, 1, none⟩ = some (.int .i64 i)) (first | exact x1 | exact y1 | exact z1) (first
              | (go_at_call 18; refine (LF.out _ _ (T1.out.below (C.keeps H) (keepsDso R) (Below.refl W1.heap.size W1).drew).1.ps).mono ?_; intro en w4 hs; obtain ⟨rfl, U4, t4, h4⟩ := (T1.out.below (C.keeps H) (keepsDso R) (Below.refl W1.heap.size W1).drew).1.left (C.keeps H) (keepsDso R) hs; have T4 := hide t4; have C4 := hide (C1.out.drew.stay h4 (List.mem_singleton.2 rfl)); have y1 := C4.out.c1; clear hs t4 h4)
              | (go_at_call 19; refine (RG.out _ _ T4.out.ds).mono ?_; intro en w5 hs; obtain ⟨rfl, D5, t5, h5⟩ := T4.out.right (C.keeps H) (keepsDso R) hs; have T5 := hide t5; have C5 := hide (C4.out.stay h5 (List.mem_singleton.2 rfl)); have z1 := C5.out.c1; clear hs t5 h5)
              | (go_at_call 15; refine (num_any _ _).mono ?_; rintro e w' ⟨rfl, rfl⟩))
            go_wp2_with fail
            go_meet
            exact ⟨_, _, _, rfl, by have := drS_len s i; have := SK.out; omega, T5.out, C5⟩
          by_cases d4 : d = 4
          · subst d4
            have g0 : (((thE s i : Nat) : Int) == ((thE s i : Nat) : Int)) = true := by simp
            obtain ⟨ev, hev⟩ : ∃ ev, ev = thE s i := ⟨_, rfl⟩
            rw [← hev] at g0
            have LF := hide (fun (W : World) (V : Nat → Prop) (h : PS H W V S s) => show Calls Try.prog 28 #[.pointer (some ⟨S, 0, none⟩), .int .i64 i] W (SideO (fun w' U' => PS H w' U' S (ctS s i)) V W (.int .i64 (ev : Int))) from by rw [hev]; exact (C.ct h WI.out))
            have RG := hide (fun (W : World) (V : Nat → Prop) (h : Dso R W V G s) => show Calls Try.prog 29 #[.pointer (some ⟨G, 0, none⟩), .int .i64 i] W (SideO (fun w' U' => Dso R w' U' G (ctS s i)) V W (.int .i64 (ev : Int))) from by rw [hev]; exact (rct_any h i))
            clear hev
            have x0 := C1.out.c0
            have x1 := C1.out.c1
            go_wp2_with fail
            clear x0
            go_region_held3 (fun w' => w'.cell? ⟨X, 1, none⟩ = some (.int .i64 i)) (first | exact x1 | exact y1 | exact z1) (first
              | (go_at_call 28; refine (LF.out _ _ (T1.out.below (C.keeps H) (keepsDso R) (Below.refl W1.heap.size W1).drew).1.ps).mono ?_; intro en w4 hs; obtain ⟨rfl, U4, t4, h4⟩ := (T1.out.below (C.keeps H) (keepsDso R) (Below.refl W1.heap.size W1).drew).1.left (C.keeps H) (keepsDso R) hs; have T4 := hide t4; have C4 := hide (C1.out.drew.stay h4 (List.mem_singleton.2 rfl)); have y1 := C4.out.c1; clear hs t4 h4)
              | (go_at_call 29; refine (RG.out _ _ T4.out.ds).mono ?_; intro en w5 hs; obtain ⟨rfl, D5, t5, h5⟩ := T4.out.right (C.keeps H) (keepsDso R) hs; have T5 := hide t5; have C5 := hide (C4.out.stay h5 (List.mem_singleton.2 rfl)); have z1 := C5.out.c1; clear hs t5 h5)
              | (go_at_call 15; refine (num_any _ _).mono ?_; rintro e w' ⟨rfl, rfl⟩))
            go_wp2_with fail
            go_meet
            exact ⟨_, _, _, rfl, by have := ctS_len s i; have := SK.out; omega, T5.out, C5⟩
          by_cases d2 : d = 2
          · subst d2
            have GO := hide (C.good T1.out.ps)
            obtain ⟨ps, hps⟩ : ∃ ps, ps = rdB s i o m := ⟨_, rfl⟩
            obtain ⟨pn, hpn⟩ : ∃ pn, pn = ps.length := ⟨_, rfl⟩
            obtain ⟨ev, hev⟩ : ∃ ev, ev = rdE s i o m := ⟨_, rfl⟩
            have PN := hide (show pn ≤ 512 from by rw [hpn, hps]; exact rdB_len GO.out i o m)
            have g0 : ((ev : Int) == (ev : Int)) = true := by simp
            have LF := hide (fun (W : World) (V : Nat → Prop) (h : PS H W V S s) => show Calls Try.prog 20 #[.pointer (some ⟨S, 0, none⟩), .int .i64 i, .int .i64 o, .int .i64 m] W (fun e w' => ∃ v, e = .returned (.tuple #[v, .int .i64 (ev : Int)]) ∧ w'.ownsRow W.heap.size 5 1 v pn (ps.map (Value.int .u8)) ∧ Below W.heap.size W w') from by rw [hev, hpn, hps]; exact C.rd h WI.out WO.out WM.out)
            have RG := hide (fun (W : World) (V : Nat → Prop) (h : Dso R W V G s) => show Calls Try.prog 21 #[.pointer (some ⟨G, 0, none⟩), .int .i64 i, .int .i64 o, .int .i64 m] W (fun e w' => ∃ v, e = .returned (.tuple #[v, .int .i64 (ev : Int)]) ∧ w'.ownsRow W.heap.size 5 1 v pn (ps.map (Value.int .u8)) ∧ Below W.heap.size W w') from by rw [hev, hpn, hps]; exact rrd_any h i o m WO.out WM.out)
            clear hev hpn hps GO
            have x0 := C1.out.c0
            have x1 := C1.out.c1
            have x2 := C1.out.c2
            have x3 := C1.out.c3
            go_wp2_with (first
              | (go_at_call 20; refine (LF.out _ _ T1.out.ps).mono ?_; rintro e w3 ⟨va, rfl, o3, b3⟩; have t3 := T1.out.below (C.keeps H) (keepsDso R) b3; have F3 := hide (T1.out.free (C.keeps H) (keepsDso R) o3); have T3 := hide t3.1; have C3 := hide (C1.out.stay t3.2 (List.mem_singleton.2 rfl)); have O3 := hide o3; have y1 := C3.out.c1; have y2 := C3.out.c2; have y3 := C3.out.c3; clear o3 b3 t3 x0 x1 x2 x3)
              | (go_at_call 21; refine (RG.out _ _ T3.out.ds).mono ?_; rintro e w4 ⟨vb, rfl, o4, b4⟩; have t4 := T3.out.below (C.keeps H) (keepsDso R) b4; have F4 := hide (F3.out.below b4); have T4 := hide t4.1; have C4 := hide (C3.out.stay t4.2 (List.mem_singleton.2 rfl)); have O4 := hide o4; have O5 := hide ((Touch.of_below (S := fun _ => False) b4).own O3.out (fun _ _ e => e)); clear o4 b4 t4 y1 y2 y3)
              | (go_at_call 22; refine (same_own _ _ pn ps _ O5.out O4.out (by have := PN.out; omega)).mono ?_; rintro e w5 ⟨rfl, m5, rfl⟩; have t5 := T4.out.below (C.keeps H) (keepsDso R) (below_drewN (Below.refl _ _) m5); have F5 := hide (F4.out.below (below_drewN (Below.refl _ _) m5)); have T5 := hide t5.1; have C5 := hide (C4.out.stay t5.2 (List.mem_singleton.2 rfl)); have O6 := hide ((Touch.of_below (S := fun _ => False) (below_drewN (Below.refl _ _) m5)).own O5.out (fun _ _ e => e)); clear t5)
              | (go_at_call 15; refine (num_any _ _).mono ?_; rintro e w' ⟨rfl, rfl⟩)
              | (go_at_call 23; refine (over_touch _ pn _ _ O6.out (by have := PN.out; omega)).mono ?_; rintro e w6 ⟨rfl, u6⟩; have t6 := T5.out.over (C.keeps H) (keepsDso R) F5.out u6; have T6 := hide t6.1; have C6 := hide (C5.out.stay t6.2 (List.mem_singleton.2 rfl)); clear u6 t6))
            go_meet
            exact ⟨_, _, _, rfl, by have := SK.out; omega, T6.out, C6⟩
          by_cases d3 : d = 3
          · subst d3
            have hys : ys.length = l := HACT.out.came.1.1
            have BY := hide (bytes_of_came HACT.out.came)
            have NA := hide HACT.out.came.2.2.2.1
            obtain ⟨ev, hev⟩ : ∃ ev, ev = wrE s i o l := ⟨_, rfl⟩
            have g0 : ((ev : Int) == (ev : Int)) = true := by simp
            have LF := hide (fun (W : World) (V : Nat → Prop) (h : PS H W V S s) (g : Nat) (hi : Ints .u8 W (some ⟨g, 0, none⟩) l ys) (hg : ¬ V g) => show Calls Try.prog 25 #[.pointer (some ⟨S, 0, none⟩), .int .i64 i, .int .i64 o, .slice (some ⟨g, 0, none⟩) l (l + 3)] W (SideO (fun w' U' => PS H w' U' S (wrS s i o ys)) V W (.int .i64 (ev : Int))) from by rw [hev]; exact C.wr h WI.out WO.out hi (fun e => by cases e) BY.out L7.out (fun _ b o e => by injection e with e; injection e with e1 _ _; rw [← e1]; exact hg))
            have RG := hide (fun (W : World) (V : Nat → Prop) (h : Dso R W V G s) (hi : Ints .u8 W aa l ys) (hg : 0 < l → ∀ b o, aa = some ⟨b, o, none⟩ → ¬ V b) => show Calls Try.prog 26 #[.pointer (some ⟨G, 0, none⟩), .int .i64 i, .int .i64 o, .slice aa l c'] W (SideO (fun w' U' => Dso R w' U' G (wrS s i o ys)) V W (.int .i64 (ev : Int))) from by rw [hev]; exact rwr_any h WO.out hi NA.out BY.out L7.out hg)
            have DA := hide (fun (V : Nat → Prop) (lo : ∀ i, V i → w.heap.size ≤ i) => show 0 < l → ∀ b o, aa = some ⟨b, o, none⟩ → ¬ V b from fun hl b o e hV => by
              obtain ⟨b', o', e', hc'⟩ := HACT.out.came.1.2 hl
              rw [e] at e'
              injection e' with e'
              injection e' with e1 _ _
              have := lt_of_cell? (hc' 0 hl)
              have h2 : b' < w.heap.size := this
              have := lo b hV
              omega)
            clear hev
            have x0 := C1.out.c0
            have x4 := C1.out.c4
            go_wp2_with (go_at_call 24; refine (lend_any aa l c' ys _ (HACT.out.came.1.below T1.out.bel) NA.out L7.out).mono ?_; rintro e w3 ⟨rfl, r3, b3⟩; have t3 := T1.out.lend C b3 (room_lt r3); have R3 := hide r3; have C3 := hide (C1.out.stay t3.2 (List.mem_singleton.2 rfl)); have T3 := hide t3.1; have x1 := C3.out.c1; have x2 := C3.out.c2; have x4' := C3.out.c4; clear r3 b3 t3 x4 x0)
            have HXG := hide (show X ≠ W1.heap.size from by have := (T1.out.xs X (List.mem_singleton.2 rfl)).1; omega)
            have HLO := hide (show w.heap.size ≤ W1.heap.size from T1.out.bel.size)
            generalize W1.heap.size = gg at *
            go_region_held3 (fun w' => w'.cell? ⟨X, 1, none⟩ = some (.int .i64 i) ∧ w'.cell? ⟨X, 2, none⟩ = some (.int .i64 o) ∧ w'.cell? ⟨X, 4, none⟩ = some (.slice aa l c')) (first | exact ⟨x1, x2, x4'⟩ | exact ⟨y1, y2, y4⟩ | exact ⟨z1, z2, z4⟩) (first
              | (go_at_call 25; have t3 := (T3.out.below (C.keeps H) (keepsDso R) (Below.refl w3.heap.size w3).drew).1; refine (LF.out _ _ t3.ps gg ((room_ints R3.out hys).below (Below.refl w3.heap.size w3).drew) (t3.xs gg (by simp)).2.1).mono ?_; intro en w4 hs; obtain ⟨rfl, U4, t4, h4⟩ := t3.left (C.keeps H) (keepsDso R) hs; have T4 := hide t4; have C4 := hide (C3.out.drew.stay h4 (by simp)); have R4 := hide (room_keep (show Room w3.drew gg 5 l 3 (ys.map (Value.int .u8)) (.int .u8 119) from R3.out) (h4 gg (by simp))); have y1 := C4.out.c1; have y2 := C4.out.c2; have y4 := C4.out.c4; clear t3 hs t4 h4)
              | (go_at_call 26; refine (RG.out _ _ T4.out.ds (HACT.out.came.1.below T4.out.bel) (DA.out _ T4.out.lo2)).mono ?_; intro en w5 hs; obtain ⟨rfl, D5, t5, h5⟩ := T4.out.right (C.keeps H) (keepsDso R) hs; have T5 := hide t5; have C5 := hide (C4.out.stay h5 (by simp)); have R5 := hide (room_keep R4.out (h5 gg (by simp))); have z1 := C5.out.c1; have z2 := C5.out.c2; have z4 := C5.out.c4; clear hs t5 h5)
              | (go_at_call 27; refine (kept_any gg aa l c' ys _ R5.out (HACT.out.came.1.below T5.out.bel) L7.out).mono ?_; rintro e w6 ⟨rfl, m6, rfl⟩; have t6 := T5.out.below (C.keeps H) (keepsDso R) (below_drewN (Below.refl _ _) m6); have T6 := hide t6.1; have C6 := hide (C5.out.stay t6.2 (by simp)); have R6 := hide (room_keep R5.out (t6.2 gg (by simp))); have v1 := C6.out.c1; clear t6)
              | (go_at_call 15; refine (num_any _ _).mono ?_; rintro e w' ⟨rfl, rfl⟩))
            go_wp2_with (go_at_call 23; refine (over_touch _ l _ _ (room_own R6.out (by rw [List.length_map]; exact hys) L7.out (Nat.zero_le gg)) L7.out).mono ?_; rintro e w7 ⟨rfl, u7⟩; have U7 := u7.mono (S' := fun i => i = gg) (fun i e => by injection e with e; exact e.symm); have T7 := hide ((T6.out.touch (C.keeps H) (keepsDso R) U7 (fun i e => by rw [e]; exact ⟨(T6.out.xs gg (by simp)).2.1, (T6.out.xs gg (by simp)).2.2, HLO.out⟩)).fewer (X' := [X]) (fun g hg => by rw [List.mem_singleton.1 hg]; simp)); have C7 := hide (show CopA w7 X 3 i o m aa l c' from (U7.block X (T6.out.xs X (by simp)).1 HXG.out).trans C6.out); clear u7 U7)
            go_meet
            exact ⟨_, _, _, rfl, by have := wrS_len s i o ys; have := SK.out; omega, T7.out, C7⟩
          have f0 : (d == 0) = false := by simpa using d0
          have f1 : (d == 1) = false := by simpa using d1
          have f2 : (d == 2) = false := by simpa using d2
          have f3 : (d == 3) = false := by simpa using d3
          have f4 : (d == 4) = false := by simpa using d4
          have x0 := C1.out.c0
          clear d0 d1 d2 d3 d4
          go_wp2_with fail
          go_meet
          exact ⟨_, _, _, rfl, by have := SK.out; omega, T1.out, C1⟩
        case rest =>
          clear T1 C1 SL SK U D s
          obtain ⟨s, U, D, rfl, hs1, hT, hC⟩ := hcut
          obtain ⟨z, hz⟩ : ∃ z, z = lenO (getFi s.l i) := ⟨_, rfl⟩
          obtain ⟨ev, hev⟩ : ∃ ev, ev = thE s i := ⟨_, rfl⟩
          obtain ⟨bz, hbz⟩ : ∃ bz, bz = blkO (getFi s.l i) := ⟨_, rfl⟩
          obtain ⟨fr, hfr⟩ : ∃ fr, fr = s.fr := ⟨_, rfl⟩
          have SZ := hide (fun (W : World) (V : Nat → Prop) (h : PS H W V S s) => show Calls Try.prog 30 #[.pointer (some ⟨S, 0, none⟩), .int .i64 i] W fun e w' => e = .returned (.tuple #[.int .i64 (z : Int), .int .i64 (ev : Int)]) ∧ Below W.heap.size W w' from by rw [hz, hev]; exact C.sz h WI.out)
          have RZ := hide (fun (W : World) (V : Nat → Prop) (h : Dso R W V G s) => show Calls Try.prog 31 #[.pointer (some ⟨G, 0, none⟩), .int .i64 i] W fun e w' => e = .returned (.tuple #[.int .i64 (z : Int), .int .i64 (ev : Int)]) ∧ W = w' from by rw [hz, hev]; exact rsz_any h i)
          have BK := hide (fun (W : World) (V : Nat → Prop) (h : PS H W V S s) => show Calls Try.prog 32 #[.pointer (some ⟨S, 0, none⟩), .int .i64 i] W fun e w' => e = .returned (.int .i64 (bz : Int)) ∧ Below W.heap.size W w' from by rw [hbz]; exact C.bk h WI.out)
          have RK := hide (fun (W : World) (V : Nat → Prop) (h : Dso R W V G s) => show Calls Try.prog 33 #[.pointer (some ⟨G, 0, none⟩), .int .i64 i] W fun e w' => e = .returned (.int .i64 (bz : Int)) ∧ W = w' from by rw [hbz]; exact rbk_any h i)
          have FR := hide (fun (W : World) (V : Nat → Prop) (h : PS H W V S s) => show Calls Try.prog 34 #[.pointer (some ⟨H, 0, none⟩)] W fun e w' => e = .returned (.int .i64 (fr : Int)) ∧ W = w' from by rw [hfr]; exact C.free h)
          have RR := hide (fun (W : World) (V : Nat → Prop) (h : Dso R W V G s) => show Calls Try.prog 35 #[.pointer (some ⟨R, 0, none⟩)] W fun e w' => e = .returned (.int .i64 (fr : Int)) ∧ ∃ m, w' = W.drewN m from by rw [hfr]; exact (rfree20_any h).2)
          have HS1 := hide hs1
          clear hz hev hbz hfr hs1
          have g1 : ((z : Int) != (z : Int)) = false := by simp
          have g2 : ((ev : Int) != (ev : Int)) = false := by simp
          have g3 : ((bz : Int) != (bz : Int)) = false := by simp
          have g4 : ((fr : Int) != (fr : Int)) = false := by simp
          have x1 := hC.out.c1
          go_upto_region 32 with (first
            | (go_at_call 30; refine (SZ.out _ _ hT.out.ps).mono ?_; rintro e w4 ⟨rfl, b4⟩; have t4 := hT.out.below (C.keeps H) (keepsDso R) b4; have T4 := hide t4.1; have C4 := hide (hC.out.stay t4.2 (List.mem_singleton.2 rfl)); have y1 := C4.out.c1; clear t4 b4 x1)
            | (go_at_call 31; refine (RZ.out _ _ T4.out.ds).mono ?_; rintro e w5 ⟨rfl, rfl⟩))
          clear hT hC SZ RZ
          go_region_held3 (fun w' => w'.cell? ⟨X, 1, none⟩ = some (.int .i64 i)) (first | exact y1 | exact z1 | exact v1) (first
            | (go_at_call 15; refine (num_any _ _).mono ?_; rintro e w' ⟨rfl, rfl⟩)
            | (go_at_call 32; have t3 := (T4.out.below (C.keeps H) (keepsDso R) (Below.refl w4.heap.size w4).drew).1; refine (BK.out _ _ t3.ps).mono ?_; rintro e w6 ⟨rfl, b6⟩; have t6 := t3.below (C.keeps H) (keepsDso R) b6; have T6 := hide t6.1; have C6 := hide (C4.out.drew.stay t6.2 (List.mem_singleton.2 rfl)); have z1 := C6.out.c1; clear t3 t6 b6)
            | (go_at_call 33; refine (RK.out _ _ T6.out.ds).mono ?_; rintro e w7 ⟨rfl, rfl⟩)
            | (go_at_call 34; refine (FR.out _ _ T6.out.ps).mono ?_; rintro e w8 ⟨rfl, rfl⟩)
            | (go_at_call 35; refine (RR.out _ _ T6.out.ds).mono ?_; rintro e w9 ⟨rfl, m9, rfl⟩; have t9 := T6.out.below (C.keeps H) (keepsDso R) (below_drewN (Below.refl _ _) m9); have T9 := hide t9.1; have C9 := hide (C6.out.stay t9.2 (List.mem_singleton.2 rfl)); have v1 := C9.out.c1; clear t9))
          go_wp2_with fail
          go_roundw
          case rel => exact ⟨k + 1, s, U, D, by omega, by go_num, HS1.out, T9.out.fewer (X' := []) (fun g hg => absurd hg List.not_mem_nil)⟩
          case measure => simp [intOf]; omega
      · obtain rfl : k = n := by omega
        go_wp2_with (go_at_call 10; refine (soawake_any C _).mono ?_; rintro e w' ⟨rfl, hb⟩)
        go_ret
        exact ⟨rfl, hT.out.bel.trans (hb.mono hT.out.bel.size)⟩
end
end Go.Proofs.Ytipepklobpnbpaa
