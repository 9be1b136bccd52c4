/- Chapter 26: CountIn, CountOut: program and model. -/
import Derived.Test.YtnlffefekpjbcaaTlyI
namespace Go.Proofs.Ytnlffefekpjbcaa
open Go.RowKit
set_option linter.unusedVariables false

/-- what CountIn answers. -/
def cntIn (x : Tly) (n : Int) : Tly × Bool := if isTly x && inB n 0 1000 && isTly ⟨x.inn + n, x.out, x.room⟩ then (⟨x.inn + n, x.out, x.room⟩, true) else (x, false)
theorem cntIn_come (x : Tly) (n : Int) : cntIn x n = if (comeT x n).2 then ((comeT x n).1, true) else (x, false) := by
  unfold cntIn comeT
  split <;> rfl
set_option maxHeartbeats 1000000 in
theorem impl_CountIn (x : Tly) (n : Int) (w : World) : Calls Try.prog 45 #[x.val, .int .i64 n] w fun e w' => e = .returned (.tuple #[(cntIn x n).1.val, .bool (cntIn x n).2]) ∧ Below w.heap.size w w' := by
  have hs := fun y => impl_streetOf x y
  have hc := fun y => impl_comeIn x n y
  have he := cntIn_come x n
  generalize comeT x n = r at he hc
  obtain ⟨⟨ra, rb, rc⟩, rv⟩ := r
  generalize isTly x = u at hs hc
  obtain ⟨a, b, c⟩ := x
  simp only [Tly.val, cstV] at *
  obtain ⟨wA, hwA⟩ : ∃ wA, wA = (w.alloc (.cells #[.int .i64 a, .int .i64 b, .int .i64 c] 61)).alloc (.cells #[.int .i64 0, .int .i64 0, .int .i64 0] 61) := ⟨_, rfl⟩
  obtain ⟨hk, hz, hsz, hB⟩ := two_blocks hwA
  have HK := Lib.hid hk
  have HZ := Lib.hid hz
  have HSZ := Lib.hid hsz
  have HB := Lib.hid hB
  clear hk hz hsz hB
  cases rv
  all_goals
    have HV := Lib.hid he
    clear he
    go_enter Try.func45, Try.ntmps45
    go_wp2_with fail
    rw [← hwA]
    refine (hs _).mono ?_
    rintro e w1 ⟨rfl, hb1⟩
    clear hwA
    go_wp2_with fail
    refine (hc _).mono ?_
    rintro e w2 ⟨rfl, hb2'⟩
    have hb2 := hb1.trans (hb2'.mono hb1.size)
    clear hb1 hb2' hs hc
    have hk := (hb2.block _ (by have := HSZ.out; omega)).trans HK.out
    have hz := (hb2.block _ (by have := HSZ.out; omega)).trans HZ.out
    obtain ⟨k0, k1, k2⟩ := tly_head (tly_of_block (p := ⟨a, b, c⟩) hk)
    obtain ⟨z0, z1, z2⟩ := tly_head (tly_of_block (p := ⟨0, 0, 0⟩) hz)
    simp only at k0 k1 k2 z0 z1 z2
    have fz : ∀ j, w2.frozen? ⟨w.heap.size + 1, j, none⟩ = false := fun j => frozen_of_row _ _ j _ _ hz
    have lt0 : w.heap.size + 1 < w2.heap.size := lt_of_block hz
    have ltk : w.heap.size < w2.heap.size := lt_of_block hk
    have HBX := Lib.hid (HB.out.trans (hb2.mono HB.out.size))
    have HBW := Lib.hid ((HB.out.trans (hb2.mono HB.out.size)).alloc (HB.out.trans (hb2.mono HB.out.size)).size (.cells #[.int .i64 ra, .int .i64 rb, .int .i64 rc] 61))
    clear hk hz hb2
    go_wp2
    refine bodyPost_ret (by rw [results_cell_tmpF rfl]; go_simp; try rfl) rfl ?_
    first
      | exact ⟨by rw [HV.out]; rfl, (((HBW.out.setCell (Nat.le_succ _) _).setCell (Nat.le_succ _) _).setCell (Nat.le_succ _) _)⟩
      | exact ⟨by rw [HV.out]; rfl, (((HBX.out.setCell (Nat.le_succ _) _).setCell (Nat.le_succ _) _).setCell (Nat.le_succ _) _).alloc (Nat.le_trans HBX.out.size (by simp)) _⟩
set_option maxHeartbeats 2000000 in
theorem spec_CountIn (x : Tly) (n : Int) (w : World) : Calls Try.prog 44 #[x.val, .int .i64 n] w fun e w' => e = .returned (.tuple #[(cntIn x n).1.val, .bool (cntIn x n).2]) ∧ Below w.heap.size w w' := by
  have hA := fun y => spec_IsTally x y
  have hX := fun y => spec_IsTally ⟨x.inn + n, x.out, x.room⟩ y
  have hfa := (isTly_iff x).1
  obtain ⟨a, b, c⟩ := x
  have HR : Hid (cntIn ⟨a, b, c⟩ n = if isTly ⟨a, b, c⟩ && inB n 0 1000 && isTly ⟨a + n, b, c⟩ then (⟨a + n, b, c⟩, true) else (⟨a, b, c⟩, false)) := Lib.hid rfl
  simp only [Tly.val] at *
  obtain ⟨wA, hwA⟩ : ∃ wA, wA = (w.alloc (.cells #[.int .i64 a, .int .i64 b, .int .i64 c] 61)).alloc (.cells #[.int .i64 0, .int .i64 0, .int .i64 0] 61) := ⟨_, rfl⟩
  obtain ⟨hk, hz, hsz, hB⟩ := two_blocks hwA
  have HK := Lib.hid hk
  have HZ := Lib.hid hz
  have HSZ := Lib.hid hsz
  have HB := Lib.hid hB
  clear hk hz hsz hB
  cases h1 : isTly ⟨a, b, c⟩
  · have HV : Hid (cntIn ⟨a, b, c⟩ n = (⟨a, b, c⟩, false)) := Lib.hid (by rw [HR.out, h1]; rfl)
    rw [h1] at hA
    clear h1 hX hfa HR
    go_enter Try.func44, Try.ntmps44
    go_wp2_with fail
    rw [← hwA]
    refine (hA _).mono ?_
    rintro e w1 ⟨rfl, hb1⟩
    clear hwA
    have hk := (hb1.block _ (by have := HSZ.out; omega)).trans HK.out
    have hz := (hb1.block _ (by have := HSZ.out; omega)).trans HZ.out
    obtain ⟨k0, k1, k2⟩ := tly_head (tly_of_block (p := ⟨a, b, c⟩) hk)
    obtain ⟨z0, z1, z2⟩ := tly_head (tly_of_block (p := ⟨0, 0, 0⟩) hz)
    simp only at k0 k1 k2 z0 z1 z2
    have fz : ∀ j, w1.frozen? ⟨w.heap.size + 1, j, none⟩ = false := fun j => frozen_of_row _ _ j _ _ hz
    have lt0 : w.heap.size + 1 < w1.heap.size := lt_of_block hz
    have ltk : w.heap.size < w1.heap.size := lt_of_block hk
    have HBW := Lib.hid (HB.out.trans (hb1.mono HB.out.size))
    clear hk hz hb1
    go_wp2
    refine bodyPost_ret (by rw [results_cell_tmpF rfl]; go_simp; try rfl) rfl ?_
    exact ⟨by rw [HV.out], (((HBW.out.setCell (Nat.le_succ _) _).setCell (Nat.le_succ _) _).setCell (Nat.le_succ _) _)⟩
  obtain ⟨⟨f1, f2⟩, ⟨f3, f4⟩, ⟨f5, f6⟩, f7⟩ := hfa h1
  rw [h1] at hA HR
  clear h1 hfa
  cases h2 : inB n 0 1000
  · have HV : Hid (cntIn ⟨a, b, c⟩ n = (⟨a, b, c⟩, false)) := Lib.hid (by rw [HR.out, h2]; rfl)
    have H2 := Lib.hid h2
    clear h2 hX HR
    go_enter Try.func44, Try.ntmps44
    go_wp2_with fail
    rw [← hwA]
    refine (hA _).mono ?_
    rintro e w1 ⟨rfl, hb1⟩
    clear hwA
    have hk := (hb1.block _ (by have := HSZ.out; omega)).trans HK.out
    have hz := (hb1.block _ (by have := HSZ.out; omega)).trans HZ.out
    obtain ⟨k0, k1, k2⟩ := tly_head (tly_of_block (p := ⟨a, b, c⟩) hk)
    obtain ⟨z0, z1, z2⟩ := tly_head (tly_of_block (p := ⟨0, 0, 0⟩) hz)
    simp only at k0 k1 k2 z0 z1 z2
    have fz : ∀ j, w1.frozen? ⟨w.heap.size + 1, j, none⟩ = false := fun j => frozen_of_row _ _ j _ _ hz
    have lt0 : w.heap.size + 1 < w1.heap.size := lt_of_block hz
    have ltk : w.heap.size < w1.heap.size := lt_of_block hk
    have HBW := Lib.hid (HB.out.trans (hb1.mono HB.out.size))
    clear hk hz hb1
    go_wp2_with (go_at_call 54; refine (spec_l1In _ _ _ _).mono ?_; rintro e w' ⟨rfl, rfl⟩; rw [H2.out])
    refine bodyPost_ret (by rw [results_cell_tmpF rfl]; go_simp; try rfl) rfl ?_
    exact ⟨by rw [HV.out], (((HBW.out.setCell (Nat.le_succ _) _).setCell (Nat.le_succ _) _).setCell (Nat.le_succ _) _)⟩
  obtain ⟨n1, n2⟩ := inB_t h2
  rw [h2] at HR
  have H2 := Lib.hid h2
  clear h2
  have hwr : IntKind.i64.wrap (a + n) = a + n := by rw [IntKind.wrap_i64]; omega
  cases h3 : isTly ⟨a + n, b, c⟩
  all_goals
    have HV := HR
    rw [h3] at HV hX
    clear h3 HR
    go_enter Try.func44, Try.ntmps44
    go_wp2_with fail
    rw [← hwA]
    refine (hA _).mono ?_
    rintro e w1 ⟨rfl, hb1⟩
    clear hwA
    have hk := (hb1.block _ (by have := HSZ.out; omega)).trans HK.out
    have hz := (hb1.block _ (by have := HSZ.out; omega)).trans HZ.out
    obtain ⟨k0, k1, k2⟩ := tly_head (tly_of_block (p := ⟨a, b, c⟩) hk)
    obtain ⟨z0, z1, z2⟩ := tly_head (tly_of_block (p := ⟨0, 0, 0⟩) hz)
    simp only at k0 k1 k2 z0 z1 z2
    have fz : ∀ j, w1.frozen? ⟨w.heap.size + 1, j, none⟩ = false := fun j => frozen_of_row _ _ j _ _ hz
    have lt0 : w.heap.size + 1 < w1.heap.size := lt_of_block hz
    have ltk : w.heap.size < w1.heap.size := lt_of_block hk
    have HK1 := Lib.hid hk
    have HZ1 := Lib.hid hz
    have HB1 := Lib.hid (HB.out.trans (hb1.mono HB.out.size))
    clear hk hz hb1 HK HZ HB HSZ
    go_wp2_with (go_at_call 54; refine (spec_l1In _ _ _ _).mono ?_; rintro e w' ⟨rfl, rfl⟩; rw [H2.out])
    obtain ⟨wC, hwC⟩ : ∃ wC, wC = w1.alloc (.cells #[.int .i64 (a + n), .int .i64 b, .int .i64 c] 61) := ⟨_, rfl⟩
    obtain ⟨hx, hsz, hB⟩ := one_block hwC
    have hk := heap_old w1 (.cells #[.int .i64 (a + n), .int .i64 b, .int .i64 c] 61) HK1.out
    have hz := heap_old w1 (.cells #[.int .i64 (a + n), .int .i64 b, .int .i64 c] 61) HZ1.out
    rw [← hwC] at hk hz
    have lt1 : w.heap.size + 1 < wC.heap.size := lt_of_block hz
    have ltx : w1.heap.size < wC.heap.size := by omega
    have HKC := Lib.hid hk
    have HZC := Lib.hid hz
    have HXC := Lib.hid hx
    have HBC := Lib.hid (HB1.out.trans (hB.mono HB1.out.size))
    clear hk hz hx hB hsz
    rw [← hwC]
    refine (hX _).mono ?_
    rintro e w2 ⟨rfl, hb2⟩
    clear hwC k0 k1 k2 z0 z1 z2 fz lt0
    have hk := (hb2.block _ (by omega)).trans HKC.out
    have hz := (hb2.block _ (by omega)).trans HZC.out
    have hx := (hb2.block _ ltx).trans HXC.out
    obtain ⟨k0, k1, k2⟩ := tly_head (tly_of_block (p := ⟨a, b, c⟩) hk)
    obtain ⟨z0, z1, z2⟩ := tly_head (tly_of_block (p := ⟨0, 0, 0⟩) hz)
    obtain ⟨x0, x1, x2⟩ := tly_head (tly_of_block (p := ⟨a + n, b, c⟩) hx)
    simp only at k0 k1 k2 z0 z1 z2 x0 x1 x2
    have fz : ∀ j, w2.frozen? ⟨w.heap.size + 1, j, none⟩ = false := fun j => frozen_of_row _ _ j _ _ hz
    have lt0 : w.heap.size + 1 < w2.heap.size := lt_of_block hz
    have HBW := Lib.hid (HBC.out.trans (hb2.mono HBC.out.size))
    clear hk hz hx hb2
    go_wp2
    refine bodyPost_ret (by rw [results_cell_tmpF rfl]; go_simp; try rfl) rfl ?_
    exact ⟨by rw [HV.out]; rfl, (((HBW.out.setCell (Nat.le_succ _) _).setCell (Nat.le_succ _) _).setCell (Nat.le_succ _) _)⟩
/-- what CountOut answers. -/
def cntOut (x : Tly) (n : Int) : Tly × Bool := if isTly x && inB n 0 1000 && isTly ⟨x.inn, x.out + n, x.room⟩ then (⟨x.inn, x.out + n, x.room⟩, true) else (x, false)
theorem cntOut_come (x : Tly) (n : Int) : cntOut x n = if (goT x n).2 then ((goT x n).1, true) else (x, false) := by
  unfold cntOut goT
  split <;> rfl
set_option maxHeartbeats 1000000 in
theorem impl_CountOut (x : Tly) (n : Int) (w : World) : Calls Try.prog 48 #[x.val, .int .i64 n] w fun e w' => e = .returned (.tuple #[(cntOut x n).1.val, .bool (cntOut x n).2]) ∧ Below w.heap.size w w' := by
  have hs := fun y => impl_streetOf x y
  have hc := fun y => impl_goOut x n y
  have he := cntOut_come x n
  generalize goT x n = r at he hc
  obtain ⟨⟨ra, rb, rc⟩, rv⟩ := r
  generalize isTly x = u at hs hc
  obtain ⟨a, b, c⟩ := x
  simp only [Tly.val, cstV] at *
  obtain ⟨wA, hwA⟩ : ∃ wA, wA = (w.alloc (.cells #[.int .i64 a, .int .i64 b, .int .i64 c] 61)).alloc (.cells #[.int .i64 0, .int .i64 0, .int .i64 0] 61) := ⟨_, rfl⟩
  obtain ⟨hk, hz, hsz, hB⟩ := two_blocks hwA
  have HK := Lib.hid hk
  have HZ := Lib.hid hz
  have HSZ := Lib.hid hsz
  have HB := Lib.hid hB
  clear hk hz hsz hB
  cases rv
  all_goals
    have HV := Lib.hid he
    clear he
    go_enter Try.func48, Try.ntmps48
    go_wp2_with fail
    rw [← hwA]
    refine (hs _).mono ?_
    rintro e w1 ⟨rfl, hb1⟩
    clear hwA
    go_wp2_with fail
    refine (hc _).mono ?_
    rintro e w2 ⟨rfl, hb2'⟩
    have hb2 := hb1.trans (hb2'.mono hb1.size)
    clear hb1 hb2' hs hc
    have hk := (hb2.block _ (by have := HSZ.out; omega)).trans HK.out
    have hz := (hb2.block _ (by have := HSZ.out; omega)).trans HZ.out
    obtain ⟨k0, k1, k2⟩ := tly_head (tly_of_block (p := ⟨a, b, c⟩) hk)
    obtain ⟨z0, z1, z2⟩ := tly_head (tly_of_block (p := ⟨0, 0, 0⟩) hz)
    simp only at k0 k1 k2 z0 z1 z2
    have fz : ∀ j, w2.frozen? ⟨w.heap.size + 1, j, none⟩ = false := fun j => frozen_of_row _ _ j _ _ hz
    have lt0 : w.heap.size + 1 < w2.heap.size := lt_of_block hz
    have ltk : w.heap.size < w2.heap.size := lt_of_block hk
    have HBX := Lib.hid (HB.out.trans (hb2.mono HB.out.size))
    have HBW := Lib.hid ((HB.out.trans (hb2.mono HB.out.size)).alloc (HB.out.trans (hb2.mono HB.out.size)).size (.cells #[.int .i64 ra, .int .i64 rb, .int .i64 rc] 61))
    clear hk hz hb2
    go_wp2
    refine bodyPost_ret (by rw [results_cell_tmpF rfl]; go_simp; try rfl) rfl ?_
    first
      | exact ⟨by rw [HV.out]; rfl, (((HBW.out.setCell (Nat.le_succ _) _).setCell (Nat.le_succ _) _).setCell (Nat.le_succ _) _)⟩
      | exact ⟨by rw [HV.out]; rfl, (((HBX.out.setCell (Nat.le_succ _) _).setCell (Nat.le_succ _) _).setCell (Nat.le_succ _) _).alloc (Nat.le_trans HBX.out.size (by simp)) _⟩
set_option maxHeartbeats 2000000 in
theorem spec_CountOut (x : Tly) (n : Int) (w : World) : Calls Try.prog 47 #[x.val, .int .i64 n] w fun e w' => e = .returned (.tuple #[(cntOut x n).1.val, .bool (cntOut x n).2]) ∧ Below w.heap.size w w' := by
  have hA := fun y => spec_IsTally x y
  have hX := fun y => spec_IsTally ⟨x.inn, x.out + n, x.room⟩ y
  have hfa := (isTly_iff x).1
  obtain ⟨a, b, c⟩ := x
  have HR : Hid (cntOut ⟨a, b, c⟩ n = if isTly ⟨a, b, c⟩ && inB n 0 1000 && isTly ⟨a, b + n, c⟩ then (⟨a, b + n, c⟩, true) else (⟨a, b, c⟩, false)) := Lib.hid rfl
  simp only [Tly.val] at *
  obtain ⟨wA, hwA⟩ : ∃ wA, wA = (w.alloc (.cells #[.int .i64 a, .int .i64 b, .int .i64 c] 61)).alloc (.cells #[.int .i64 0, .int .i64 0, .int .i64 0] 61) := ⟨_, rfl⟩
  obtain ⟨hk, hz, hsz, hB⟩ := two_blocks hwA
  have HK := Lib.hid hk
  have HZ := Lib.hid hz
  have HSZ := Lib.hid hsz
  have HB := Lib.hid hB
  clear hk hz hsz hB
  cases h1 : isTly ⟨a, b, c⟩
  · have HV : Hid (cntOut ⟨a, b, c⟩ n = (⟨a, b, c⟩, false)) := Lib.hid (by rw [HR.out, h1]; rfl)
    rw [h1] at hA
    clear h1 hX hfa HR
    go_enter Try.func47, Try.ntmps47
    go_wp2_with fail
    rw [← hwA]
    refine (hA _).mono ?_
    rintro e w1 ⟨rfl, hb1⟩
    clear hwA
    have hk := (hb1.block _ (by have := HSZ.out; omega)).trans HK.out
    have hz := (hb1.block _ (by have := HSZ.out; omega)).trans HZ.out
    obtain ⟨k0, k1, k2⟩ := tly_head (tly_of_block (p := ⟨a, b, c⟩) hk)
    obtain ⟨z0, z1, z2⟩ := tly_head (tly_of_block (p := ⟨0, 0, 0⟩) hz)
    simp only at k0 k1 k2 z0 z1 z2
    have fz : ∀ j, w1.frozen? ⟨w.heap.size + 1, j, none⟩ = false := fun j => frozen_of_row _ _ j _ _ hz
    have lt0 : w.heap.size + 1 < w1.heap.size := lt_of_block hz
    have ltk : w.heap.size < w1.heap.size := lt_of_block hk
    have HBW := Lib.hid (HB.out.trans (hb1.mono HB.out.size))
    clear hk hz hb1
    go_wp2
    refine bodyPost_ret (by rw [results_cell_tmpF rfl]; go_simp; try rfl) rfl ?_
    exact ⟨by rw [HV.out], (((HBW.out.setCell (Nat.le_succ _) _).setCell (Nat.le_succ _) _).setCell (Nat.le_succ _) _)⟩
  obtain ⟨⟨f1, f2⟩, ⟨f3, f4⟩, ⟨f5, f6⟩, f7⟩ := hfa h1
  rw [h1] at hA HR
  clear h1 hfa
  cases h2 : inB n 0 1000
  · have HV : Hid (cntOut ⟨a, b, c⟩ n = (⟨a, b, c⟩, false)) := Lib.hid (by rw [HR.out, h2]; rfl)
    have H2 := Lib.hid h2
    clear h2 hX HR
    go_enter Try.func47, Try.ntmps47
    go_wp2_with fail
    rw [← hwA]
    refine (hA _).mono ?_
    rintro e w1 ⟨rfl, hb1⟩
    clear hwA
    have hk := (hb1.block _ (by have := HSZ.out; omega)).trans HK.out
    have hz := (hb1.block _ (by have := HSZ.out; omega)).trans HZ.out
    obtain ⟨k0, k1, k2⟩ := tly_head (tly_of_block (p := ⟨a, b, c⟩) hk)
    obtain ⟨z0, z1, z2⟩ := tly_head (tly_of_block (p := ⟨0, 0, 0⟩) hz)
    simp only at k0 k1 k2 z0 z1 z2
    have fz : ∀ j, w1.frozen? ⟨w.heap.size + 1, j, none⟩ = false := fun j => frozen_of_row _ _ j _ _ hz
    have lt0 : w.heap.size + 1 < w1.heap.size := lt_of_block hz
    have ltk : w.heap.size < w1.heap.size := lt_of_block hk
    have HBW := Lib.hid (HB.out.trans (hb1.mono HB.out.size))
    clear hk hz hb1
    go_wp2_with (go_at_call 54; refine (spec_l1In _ _ _ _).mono ?_; rintro e w' ⟨rfl, rfl⟩; rw [H2.out])
    refine bodyPost_ret (by rw [results_cell_tmpF rfl]; go_simp; try rfl) rfl ?_
    exact ⟨by rw [HV.out], (((HBW.out.setCell (Nat.le_succ _) _).setCell (Nat.le_succ _) _).setCell (Nat.le_succ _) _)⟩
  obtain ⟨n1, n2⟩ := inB_t h2
  rw [h2] at HR
  have H2 := Lib.hid h2
  clear h2
  have hwr : IntKind.i64.wrap (b + n) = b + n := by rw [IntKind.wrap_i64]; omega
  cases h3 : isTly ⟨a, b + n, c⟩
  all_goals
    have HV := HR
    rw [h3] at HV hX
    clear h3 HR
    go_enter Try.func47, Try.ntmps47
    go_wp2_with fail
    rw [← hwA]
    refine (hA _).mono ?_
    rintro e w1 ⟨rfl, hb1⟩
    clear hwA
    have hk := (hb1.block _ (by have := HSZ.out; omega)).trans HK.out
    have hz := (hb1.block _ (by have := HSZ.out; omega)).trans HZ.out
    obtain ⟨k0, k1, k2⟩ := tly_head (tly_of_block (p := ⟨a, b, c⟩) hk)
    obtain ⟨z0, z1, z2⟩ := tly_head (tly_of_block (p := ⟨0, 0, 0⟩) hz)
    simp only at k0 k1 k2 z0 z1 z2
    have fz : ∀ j, w1.frozen? ⟨w.heap.size + 1, j, none⟩ = false := fun j => frozen_of_row _ _ j _ _ hz
    have lt0 : w.heap.size + 1 < w1.heap.size := lt_of_block hz
    have ltk : w.heap.size < w1.heap.size := lt_of_block hk
    have HK1 := Lib.hid hk
    have HZ1 := Lib.hid hz
    have HB1 := Lib.hid (HB.out.trans (hb1.mono HB.out.size))
    clear hk hz hb1 HK HZ HB HSZ
    go_wp2_with (go_at_call 54; refine (spec_l1In _ _ _ _).mono ?_; rintro e w' ⟨rfl, rfl⟩; rw [H2.out])
    obtain ⟨wC, hwC⟩ : ∃ wC, wC = w1.alloc (.cells #[.int .i64 a, .int .i64 (b + n), .int .i64 c] 61) := ⟨_, rfl⟩
    obtain ⟨hx, hsz, hB⟩ := one_block hwC
    have hk := heap_old w1 (.cells #[.int .i64 a, .int .i64 (b + n), .int .i64 c] 61) HK1.out
    have hz := heap_old w1 (.cells #[.int .i64 a, .int .i64 (b + n), .int .i64 c] 61) HZ1.out
    rw [← hwC] at hk hz
    have lt1 : w.heap.size + 1 < wC.heap.size := lt_of_block hz
    have ltx : w1.heap.size < wC.heap.size := by omega
    have HKC := Lib.hid hk
    have HZC := Lib.hid hz
    have HXC := Lib.hid hx
    have HBC := Lib.hid (HB1.out.trans (hB.mono HB1.out.size))
    clear hk hz hx hB hsz
    rw [← hwC]
    refine (hX _).mono ?_
    rintro e w2 ⟨rfl, hb2⟩
    clear hwC k0 k1 k2 z0 z1 z2 fz lt0
    have hk := (hb2.block _ (by omega)).trans HKC.out
    have hz := (hb2.block _ (by omega)).trans HZC.out
    have hx := (hb2.block _ ltx).trans HXC.out
    obtain ⟨k0, k1, k2⟩ := tly_head (tly_of_block (p := ⟨a, b, c⟩) hk)
    obtain ⟨z0, z1, z2⟩ := tly_head (tly_of_block (p := ⟨0, 0, 0⟩) hz)
    obtain ⟨x0, x1, x2⟩ := tly_head (tly_of_block (p := ⟨a, b + n, c⟩) hx)
    simp only at k0 k1 k2 z0 z1 z2 x0 x1 x2
    have fz : ∀ j, w2.frozen? ⟨w.heap.size + 1, j, none⟩ = false := fun j => frozen_of_row _ _ j _ _ hz
    have lt0 : w.heap.size + 1 < w2.heap.size := lt_of_block hz
    have HBW := Lib.hid (HBC.out.trans (hb2.mono HBC.out.size))
    clear hk hz hx hb2
    go_wp2
    refine bodyPost_ret (by rw [results_cell_tmpF rfl]; go_simp; try rfl) rfl ?_
    exact ⟨by rw [HV.out]; rfl, (((HBW.out.setCell (Nat.le_succ _) _).setCell (Nat.le_succ _) _).setCell (Nat.le_succ _) _)⟩
end Go.Proofs.Ytnlffefekpjbcaa
