/-
  The program's paths: all of their contracts; of no paths.
-/
import Derived.Test.YtndfnglcichngaaGreatDoorVpOpenPb
import Derived.Test.YtndfnglcichngaaGreatDoorVfRenWPb
import Derived.Test.YtndfnglcichngaaGreatDoorSpWritePb
import Derived.Test.YtndfnglcichngaaGreatDoorSpReadPb
namespace Go.Proofs.YtndfnglcichngaaGreatDoor
open Go.ChangeShapes Go.WideShapes Go.ChangeAt Go.RowKit
set_option linter.unusedVariables false
set_option linter.unusedSimpArgs false
theorem pnameOk : PNameOk := pname_any
theorem pvfs : PVfs PVf where
  keeps := keepsPVf
  new := fun f => pvnew_any f
  wk := fun h g _ _ t ht => pvwalk_any h g t ht
  op := fun h g hB _ t fl ht _ => pvopenv_any h g hB t ht fl
  lk := fun h g _ _ a t ha ht => pvlink_any h g a t ha ht
  ul := fun h g hB _ t ht => pvunlink_any h g (by omega) t ht
  rm := fun h g hB _ t ht => pvrmdir_any h g (by omega) t ht
  md := fun h g hB _ t ht => pvmkdir_any h g (by omega) t ht
  st := fun h g _ _ t ht => pvstat_any h g t ht
  ls := fun h g _ _ t ht => pvls_any h g t ht
  nodes := fun h _ _ _ => pvnodes_any h
  store := fun h _ _ _ => pvstore_any h
  cl := fun h g hB _ id _ => pvclose_any h g (by omega) id
  ln := fun h _ _ _ => pvlen_any h
  wr := by
    intro w H S T V U s B h g _ _ id off wi wo a m c ys hi hc hb hm ha
    exact h.stored fun E p sub => pwr_any p wi wo hi hc hb hm fun h0 b o e x => ha h0 b o e (sub b x)
  rd := by
    intro w H S T V U s B h g _ _ id off n wi wo wn
    obtain ⟨E, p⟩ := h.so
    exact prd_any p wi wo wn
  sz := by
    intro w H S T V U s B h g _ _ id wi
    obtain ⟨E, p⟩ := h.so
    exact (psz_any p wi).mono fun e w' ⟨a, b⟩ => ⟨a, b ▸ Below.refl _ _⟩
  free := by
    intro w H S T V U s B h g _ _
    obtain ⟨E, A, Q, M, xs, st, tag, p⟩ := h.so
    rw [p.p.fr]
    exact free_any p.m.fr
abbrev nilDo (f : Nat) : Value := .func (.func f) #[.pointer none] #[]
set_option maxRecDepth 10000 in
set_option maxHeartbeats 4000000 in
theorem nilVfs : NilVfs where
  wk w t _ := (pvwalk_nil w t).mono fun e w' ⟨a, b⟩ => ⟨a, b ▸ Below.refl _ _⟩
  op w t fl _ := by
    go_enter Tryz.func19, Tryz.ntmps19
    go_wp2_with fail
    go_ret2
    exact ⟨rfl, Below.refl _ _⟩
  lk w a t _ _ := by
    have ST := hide (pvstat_nil w a)
    go_enter Tryz.func20, Tryz.ntmps20
    go_upto_region 2 with (go_at_call 28; refine ST.out.mono ?_; rintro e w1 ⟨rfl, b1⟩; have B1 := hide b1; clear b1)
    have B2 := hide (B1.out.trans (((Below.refl w1.heap.size w1).alloc (Nat.le_refl _) (.cells #[.int .i64 0, .int .i64 0, .bool false, .int .i64 0] 54)).mono B1.out.size))
    generalize w1.alloc (.cells #[.int .i64 0, .int .i64 0, .bool false, .int .i64 0] 54) = w2 at *
    go_wp2_with fail
    go_ret
    exact ⟨rfl, B2.out⟩
  ul w t _ := by
    have CA := hide (fun fv => above_nil w t fv)
    go_enter Tryz.func21, Tryz.ntmps21
    go_wp2_with (go_at_call 54; refine (CA.out _).mono ?_; rintro e w' ⟨rfl, rfl⟩)
    go_ret
    exact ⟨rfl, Below.refl _ _⟩
  rm w t _ := by
    have CA := hide (fun fv => above_nil w t fv)
    go_enter Tryz.func23, Tryz.ntmps23
    go_wp2_with (go_at_call 54; refine (CA.out _).mono ?_; rintro e w' ⟨rfl, rfl⟩)
    go_ret
    exact ⟨rfl, Below.refl _ _⟩
  md w t _ := by
    have CA := hide (fun fv => above_nil w t fv)
    go_enter Tryz.func22, Tryz.ntmps22
    go_wp2_with (go_at_call 54; refine (CA.out _).mono ?_; rintro e w' ⟨rfl, rfl⟩)
    go_ret
    exact ⟨rfl, Below.refl _ _⟩
  st w t _ := pvstat_nil w t
  ls w t _ := by
    have WK := hide (pvwalk_nil w t)
    go_enter Tryz.func16, Tryz.ntmps16
    go_wp2_with (go_at_call 25; refine WK.out.mono ?_; rintro e w' ⟨rfl, rfl⟩)
    go_ret2
    exact ⟨0, none, rfl, Below.refl _ _⟩
  nodes w := by
    go_enter Tryz.func17, Tryz.ntmps17
    go_wp2_with fail
    go_ret
    exact ⟨rfl, Below.refl _ _⟩
  store w := by
    go_enter Tryz.func26, Tryz.ntmps26
    go_wp2_with fail
    go_ret
    exact ⟨rfl, Below.refl _ _⟩
end Go.Proofs.YtndfnglcichngaaGreatDoor
