/- Chapter 26: CountIn, CountOut: program and model. -/
import Derived.Test.YtdlcjmdkafebpaaTlyI
namespace Go.Proofs.Ytdlcjmdkafebpaa
open Go.RowKit
set_option linter.unusedVariables false

/-- what CountIn answers. -/
def cntIn (x : Tly) (n : Int) : Tly × Bool := if isTly x && inB n 0 1000 && isTly ⟨x.inn + n, x.out, x.room⟩ then (⟨x.inn + n, x.out, x.room⟩, true) else (x, false)
theorem cntIn_come (x : Tly) (n : Int) : cntIn x n = if (comeT x n).2 then ((comeT x n).1, true) else (x, false) := by
  unfold cntIn comeT
  split <;> rfl
/-- what CountOut answers. -/
def cntOut (x : Tly) (n : Int) : Tly × Bool := if isTly x && inB n 0 1000 && isTly ⟨x.inn, x.out + n, x.room⟩ then (⟨x.inn, x.out + n, x.room⟩, true) else (x, false)
theorem cntOut_come (x : Tly) (n : Int) : cntOut x n = if (goT x n).2 then ((goT x n).1, true) else (x, false) := by
  unfold cntOut goT
  split <;> rfl
set_option maxHeartbeats 1000000 in
theorem impl_CountIn (x : Tly) (n : Int) (w : World) : Calls Try.prog 67 #[x.val, .int .i64 n] w fun e w' => e = .returned (.tuple #[(cntIn x n).1.val, .bool (cntIn x n).2]) ∧ Below w.heap.size w w' := by
  have hs := fun y => impl_streetOf x y
  have hc := fun y => impl_comeIn x n y
  have he := cntIn_come x n
  generalize comeT x n = r at he hc
  obtain ⟨⟨ra, rb, rc⟩, rv⟩ := r
  generalize isTly x = u at hs hc
  obtain ⟨a, b, c⟩ := x
  simp only [Tly.val, cstV] at *
  obtain ⟨wA, hwA⟩ : ∃ wA, wA = (w.alloc (.cells #[.int .i64 a, .int .i64 b, .int .i64 c] 92)).alloc (.cells #[.int .i64 0, .int .i64 0, .int .i64 0] 92) := ⟨_, rfl⟩
  obtain ⟨hk, hz, hsz, hB⟩ := two_blocks hwA
  have HK := Lib.hid hk
  have HZ := Lib.hid hz
  have HSZ := Lib.hid hsz
  have HB := Lib.hid hB
  clear hk hz hsz hB
  cases rv
  all_goals
    have HV := Lib.hid he
    clear he
    go_enter Try.func67, Try.ntmps67
    go_wp2_with fail
    rw [← hwA]
    refine (hs _).mono ?_
    rintro e w1 ⟨rfl, hb1⟩
    clear hwA
    go_wp2_with fail
    refine (hc _).mono ?_
    rintro e w2 ⟨rfl, hb2'⟩
    have hb2 := hb1.trans (hb2'.mono hb1.size)
    clear hb1 hb2' hs hc
    have hk := (hb2.block _ (by have := HSZ.out; omega)).trans HK.out
    have hz := (hb2.block _ (by have := HSZ.out; omega)).trans HZ.out
    obtain ⟨k0, k1, k2⟩ := tly_head (tly_of_block (p := ⟨a, b, c⟩) hk)
    obtain ⟨z0, z1, z2⟩ := tly_head (tly_of_block (p := ⟨0, 0, 0⟩) hz)
    simp only at k0 k1 k2 z0 z1 z2
    have fz : ∀ j, w2.frozen? ⟨w.heap.size + 1, j, none⟩ = false := fun j => frozen_of_row _ _ j _ _ hz
    have lt0 : w.heap.size + 1 < w2.heap.size := lt_of_block hz
    have ltk : w.heap.size < w2.heap.size := lt_of_block hk
    have HBX := Lib.hid (HB.out.trans (hb2.mono HB.out.size))
    have HBW := Lib.hid ((HB.out.trans (hb2.mono HB.out.size)).alloc (HB.out.trans (hb2.mono HB.out.size)).size (.cells #[.int .i64 ra, .int .i64 rb, .int .i64 rc] 92))
    clear hk hz hb2
    go_wp2
    refine bodyPost_ret (by rw [results_cell_tmpF rfl]; go_simp; try rfl) rfl ?_
    first
      | exact ⟨by rw [HV.out]; rfl, (((HBW.out.setCell (Nat.le_succ _) _).setCell (Nat.le_succ _) _).setCell (Nat.le_succ _) _)⟩
      | exact ⟨by rw [HV.out]; rfl, (((HBX.out.setCell (Nat.le_succ _) _).setCell (Nat.le_succ _) _).setCell (Nat.le_succ _) _).alloc (Nat.le_trans HBX.out.size (by simp)) _⟩
set_option maxHeartbeats 1000000 in
theorem impl_CountOut (x : Tly) (n : Int) (w : World) : Calls Try.prog 69 #[x.val, .int .i64 n] w fun e w' => e = .returned (.tuple #[(cntOut x n).1.val, .bool (cntOut x n).2]) ∧ Below w.heap.size w w' := by
  have hs := fun y => impl_streetOf x y
  have hc := fun y => impl_goOut x n y
  have he := cntOut_come x n
  generalize goT x n = r at he hc
  obtain ⟨⟨ra, rb, rc⟩, rv⟩ := r
  generalize isTly x = u at hs hc
  obtain ⟨a, b, c⟩ := x
  simp only [Tly.val, cstV] at *
  obtain ⟨wA, hwA⟩ : ∃ wA, wA = (w.alloc (.cells #[.int .i64 a, .int .i64 b, .int .i64 c] 92)).alloc (.cells #[.int .i64 0, .int .i64 0, .int .i64 0] 92) := ⟨_, rfl⟩
  obtain ⟨hk, hz, hsz, hB⟩ := two_blocks hwA
  have HK := Lib.hid hk
  have HZ := Lib.hid hz
  have HSZ := Lib.hid hsz
  have HB := Lib.hid hB
  clear hk hz hsz hB
  cases rv
  all_goals
    have HV := Lib.hid he
    clear he
    go_enter Try.func69, Try.ntmps69
    go_wp2_with fail
    rw [← hwA]
    refine (hs _).mono ?_
    rintro e w1 ⟨rfl, hb1⟩
    clear hwA
    go_wp2_with fail
    refine (hc _).mono ?_
    rintro e w2 ⟨rfl, hb2'⟩
    have hb2 := hb1.trans (hb2'.mono hb1.size)
    clear hb1 hb2' hs hc
    have hk := (hb2.block _ (by have := HSZ.out; omega)).trans HK.out
    have hz := (hb2.block _ (by have := HSZ.out; omega)).trans HZ.out
    obtain ⟨k0, k1, k2⟩ := tly_head (tly_of_block (p := ⟨a, b, c⟩) hk)
    obtain ⟨z0, z1, z2⟩ := tly_head (tly_of_block (p := ⟨0, 0, 0⟩) hz)
    simp only at k0 k1 k2 z0 z1 z2
    have fz : ∀ j, w2.frozen? ⟨w.heap.size + 1, j, none⟩ = false := fun j => frozen_of_row _ _ j _ _ hz
    have lt0 : w.heap.size + 1 < w2.heap.size := lt_of_block hz
    have ltk : w.heap.size < w2.heap.size := lt_of_block hk
    have HBX := Lib.hid (HB.out.trans (hb2.mono HB.out.size))
    have HBW := Lib.hid ((HB.out.trans (hb2.mono HB.out.size)).alloc (HB.out.trans (hb2.mono HB.out.size)).size (.cells #[.int .i64 ra, .int .i64 rb, .int .i64 rc] 92))
    clear hk hz hb2
    go_wp2
    refine bodyPost_ret (by rw [results_cell_tmpF rfl]; go_simp; try rfl) rfl ?_
    first
      | exact ⟨by rw [HV.out]; rfl, (((HBW.out.setCell (Nat.le_succ _) _).setCell (Nat.le_succ _) _).setCell (Nat.le_succ _) _)⟩
      | exact ⟨by rw [HV.out]; rfl, (((HBX.out.setCell (Nat.le_succ _) _).setCell (Nat.le_succ _) _).setCell (Nat.le_succ _) _).alloc (Nat.le_trans HBX.out.size (by simp)) _⟩
end Go.Proofs.Ytdlcjmdkafebpaa
