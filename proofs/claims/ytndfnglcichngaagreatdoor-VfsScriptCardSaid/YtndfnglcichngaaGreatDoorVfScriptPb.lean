/-
  The walk of VfsScript over the contracts of the program's paths.
-/
import Derived.Test.YtndfnglcichngaaGreatDoorPa33
import Derived.Test.YtndfnglcichngaaGreatDoorVfSamePb
namespace Go.Proofs.YtndfnglcichngaaGreatDoor
open Go.ChangeShapes Go.WideShapes Go.ChangeAt Go.RowKit
set_option linter.unusedVariables false
set_option linter.unusedSimpArgs false
section
variable {PV : Nat → Nat → Nat → Rel In}
set_option maxRecDepth 100000 in
set_option maxHeartbeats 8000000 in
theorem walk_vfsScriptC (I : PVfs PV) (w : World) (a : Option Addr) (n c : Nat) (zs : List Va) (hin : Came 5 vaV VaWf w a n c zs) : Calls Tryz.prog 3 #[.slice a n c] w fun e w' => e = .returned (.bool true) ∧ Below w.heap.size w w' := by
  have hn : n ≤ maxLen := Nat.le_trans hin.2.1 hin.2.2.1
  have HR := hide hin.reads
  have WF := hide hin.2.2.2.2.1
  clear hin
  go_enter Tryz.func3, Tryz.ntmps3
  go_wp2_with fail
  go_at_call 10
  refine (great22_any HR.out (fun x hx => ⟨(WF.out x hx).2.2.1, (WF.out x hx).2.2.2.1, Nat.le_trans (WF.out x hx).2.2.2.2.2.1 (WF.out x hx).2.2.2.2.2.2.1⟩) hn 60 (by omega)).mono ?_
  rintro e w' ⟨⟨r, rfl, hr⟩, rfl⟩
  cases r with
  | true =>
    clear hr
    go_wp2_with (go_at_call 11; refine (awake22_any I _).mono ?_; rintro e w' ⟨rfl, hb⟩)
    go_ret
    exact ⟨rfl, hb⟩
  | false =>
    have h60 := (hr rfl).1
    have FW := hide (hr rfl).2
    clear hr hn
    go_wp2_with fail
    go_at_call 12
    refine (both22_any I _).mono ?_
    rintro e w1 ⟨V, V2, H, S, T, R, T2, G, U, D, rfl, t1⟩
    have T1 := hide t1
    clear t1
    go_wp2_with fail
    go_loopw [5] (fun i wr => ∃ (k : Nat) (s : In) (U D : Nat → Prop), k ≤ n ∧ i = .int .i64 (k : Int) ∧ Hid (TwinV PV w wr U D [] H S T R T2 G V V2 s ∧ GoodP s [] ((k : Int) + 1) ∧ NoOrph s 0)) (fun i _ => n - (intOf i).toNat)
    case atStart => exact ⟨0, _, _, _, Nat.zero_le _, rfl, T1.out, by simpa using newI_good 8, newI_orph 8⟩
    case round =>
      clear T1 U D
      obtain ⟨k, s, U, D, hk, rfl, hT⟩ := hrel
      by_cases hlt : k < n
      · have k0 : (0 : Int) ≤ (k : Int) := by omega
        have k1 : (k : Int) < (n : Int) := by omega
        have RD := hide (fun (W : World) (b : Below w.heap.size w W) => (HR.out.below b))
        obtain ⟨x, b, off, hx, rfl, c0, c1, c2, c3, c4⟩ := (RD.out _ hT.out.1.bel).actV hlt
        have HX := hide hx
        have hm := List.mem_of_getElem? hx
        have wf := WF.out x hm
        have fw := FW.out x hm
        have DN := hide (done22_any I hT.out.1 hT.out.2.1 (by omega) hT.out.2.2 x wf.2.1 (by have := fw.1; omega) (by have := fw.2.1; omega) (by have := fw.2.2; omega) wf.2.2.2.2)
        have G2 := hide (stepV_good hT.out.2.1 x (bytes_of_came wf.2.2.2.2))
        have O2 := hide (stepV_orph hT.out.2.2 hT.out.2.1 x)
        have CB := hide (fun (W : World) (b' : Below w.heap.size w W) => show W.cell? ⟨b, off + k * 5 + 2, none⟩ = some (.string (bt x.s)) ∧ W.cell? ⟨b, off + k * 5 + 3, none⟩ = some (.string (bt x.t)) from by
          obtain ⟨x', b2, off2, hx', e', -, -, q1, q2, -⟩ := (RD.out _ b').actV hlt
          obtain rfl : x = x' := by have h := HX.out; rw [hx'] at h; injection h with h; exact h.symm
          injection e' with e'
          injection e' with e1 e2 _
          subst e1 e2
          exact ⟨q1, q2⟩)
        have KK := hide (show (k : Int) + 1 + 1 ≤ 999999 from by omega)
        have FS := hide (show x.s.length ≤ 1000 from by have := fw.1; omega)
        have FT := hide (show x.t.length ≤ 1000 from by have := fw.2.1; omega)
        obtain ⟨s2, hs2⟩ : ∃ z, z = stepV s x := ⟨_, rfl⟩
        rw [← hs2] at G2 O2 DN
        obtain ⟨d, i, nm, nt, xa, xl, xc, ys⟩ := x
        have SM := hide (fun (t : Txt) (ht : t.length ≤ 1000) (W : World) (U D : Nat → Prop) (h : TwinV PV w W U D [] H S T R T2 G V V2 s2) => same22_any I h G2.out KK.out O2.out t ht)
        clear hx hm wf fw hs2
        go_wp2_with (first
          | (go_at_call 13; refine DN.out.mono ?_; rintro e w4 ⟨rfl, U4, D4, t4, -⟩; have T4 := hide t4; obtain ⟨y1, y2⟩ := CB.out _ t4.bel; clear t4)
          | (go_at_call 14; (with_reducible refine (SM.out nm FS.out _ _ _ T4.out).mono ?_); rintro e w5 ⟨rfl, t5, -⟩; have T5 := hide t5; obtain ⟨z1, z2⟩ := CB.out _ t5.bel; clear t5)
          | (go_at_call 14; (with_reducible refine (SM.out nt FT.out _ _ _ T5.out).mono ?_); rintro e w6 ⟨rfl, t6, -⟩; have T6 := hide t6; clear t6))
        go_roundw
        case rel => exact ⟨k + 1, _, _, _, by omega, by go_num, T6.out, by have h := G2.out; rw [show ((k + 1 : Nat) : Int) + 1 = (k : Int) + 1 + 1 from by omega]; exact h, O2.out⟩
        case measure => simp [intOf]; omega
      · obtain rfl : k = n := by omega
        have SM := hide (same22_any I hT.out.1 hT.out.2.1 (by omega) hT.out.2.2 [47] (by decide))
        go_wp2_with (first
          | (go_at_call 14; refine SM.out.mono ?_; rintro e w5 ⟨rfl, t5, -⟩; have BEL := hide t5.bel; clear t5)
          | (go_at_call 11; refine (awake22_any I _).mono ?_; rintro e w' ⟨rfl, hb⟩; have HB := hide hb; clear hb))
        go_ret
        exact ⟨rfl, BEL.out.trans (HB.out.mono BEL.out.size)⟩
end
end Go.Proofs.YtndfnglcichngaaGreatDoor
