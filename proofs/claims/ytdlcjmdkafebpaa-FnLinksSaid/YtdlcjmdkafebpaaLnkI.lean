/- Chapter 23: HearLink of the program; LinkState: program and model. -/
import Derived.Test.YtdlcjmdkafebpaaLnkH
import Derived.RegionTactic
import Derived.ChangeAlike
namespace Go.Proofs.Ytdlcjmdkafebpaa
open Go.RowKit
set_option linter.unusedVariables false

theorem neq_lnk (a b c d a' b' c' d' : Int) (w : World) : (binOp .neq 74 (.agg #[.int .i64 a, .int .i64 b, .int .i64 c, .int .i64 d]) (.agg #[.int .i64 a', .int .i64 b', .int .i64 c', .int .i64 d'])).run Try.prog w = .ok (.bool (decide ((⟨a, b, c, d⟩ : Lnk) ≠ ⟨a', b', c', d'⟩))) w := by
  have hS : Try.prog.underlying 74 = some (.struct (Try.prog.fieldsOf 74)) := by kernel_rfl
  have hp : Try.prog.stoodInHeld 74 = false := by kernel_rfl
  have u3 := Try.underlying3
  have z3 : Try.prog.cellsOf 3 = 1 := by kernel_rfl
  rw [run_neq_struct, show (10000 : Nat) = 9999 + 1 from rfl, run_equalIn_agg w 9999 74 _ _ hS hp]
  simp only [Program.fieldsOf, Try.underlying74]
  go_simp
  by_cases h1 : a = a' <;> by_cases h2 : b = b' <;> by_cases h3 : c = c' <;> by_cases h4 : d = d' <;> simp [h1, h2, h3, h4]
set_option maxHeartbeats 1000000 in
theorem impl_HearLink (k : Lnk) (s n o : Int) (w : World) : Calls Try.prog 62 #[k.val, .int .i64 s, .int .i64 n, .int .i64 o] w fun e w' => e = .returned (.tuple #[(hearL k s n o).1.val, .bool (hearL k s n o).2]) ∧ Below w.heap.size w w' := by
  have hcc := fun x => impl_hearL k s n o x
  have he := hear_ne k s n o
  generalize hearL k s n o = r at he hcc ⊢
  obtain ⟨⟨a', b', c', d'⟩, v⟩ := r
  simp only at he
  have HE := Lib.hid he
  clear he
  obtain ⟨a, b, c, d⟩ := k
  simp only [Lnk.val] at *
  obtain ⟨wA, hwA⟩ : ∃ wA, wA = (w.alloc (.cells #[.int .i64 a, .int .i64 b, .int .i64 c, .int .i64 d] 74)).alloc (.cells #[.int .i64 0, .int .i64 0, .int .i64 0, .int .i64 0] 74) := ⟨_, rfl⟩
  obtain ⟨hk, hz, hsz, hB⟩ := two_blocks hwA
  have HK := Lib.hid hk
  have HZ := Lib.hid hz
  have HSZ := Lib.hid hsz
  have HB := Lib.hid hB
  clear hk hz hsz hB
  go_enter Try.func62, Try.ntmps62
  go_wp2_with fail
  rw [← hwA]
  refine (hcc _).mono ?_
  rintro e w1 ⟨rfl, hb1⟩
  have HK1 := Lib.hid ((hb1.block _ (by have := HSZ.out; omega)).trans HK.out)
  have HZ1 := Lib.hid ((hb1.block _ (by have := HSZ.out; omega)).trans HZ.out)
  have HB1 := Lib.hid (HB.out.trans (hb1.mono HB.out.size))
  clear HK HZ HSZ HB hb1
  obtain ⟨wC, hwC⟩ : ∃ wC, wC = w1.alloc (.cells #[.int .i64 a', .int .i64 b', .int .i64 c', .int .i64 d'] 74) := ⟨_, rfl⟩
  obtain ⟨hx, hsz, hB⟩ := one_block hwC
  have hk := heap_old w1 (.cells #[.int .i64 a', .int .i64 b', .int .i64 c', .int .i64 d'] 74) HK1.out
  have hz := heap_old w1 (.cells #[.int .i64 a', .int .i64 b', .int .i64 c', .int .i64 d'] 74) HZ1.out
  rw [← hwC] at hk hz
  obtain ⟨k0, k1, k2, k3⟩ := lnk_head (lnk_of_block (p := ⟨a, b, c, d⟩) hk)
  obtain ⟨x0, x1, x2, x3⟩ := lnk_head (lnk_of_block (p := ⟨a', b', c', d'⟩) hx)
  obtain ⟨z0, z1, z2, z3⟩ := lnk_head (lnk_of_block (p := ⟨0, 0, 0, 0⟩) hz)
  have fz : ∀ j, wC.frozen? ⟨w.heap.size + 1, j, none⟩ = false := fun j => frozen_of_row _ _ j _ _ hz
  simp only at k0 k1 k2 k3 x0 x1 x2 x3 z0 z1 z2 z3
  have lt0 : w.heap.size + 1 < w1.heap.size := lt_of_block HZ1.out
  have HBC := Lib.hid (HB1.out.trans (hB.mono HB1.out.size))
  have heq := fun x => neq_lnk a' b' c' d' a b c d x
  rw [← HE.out] at heq
  clear hk hz hx hsz hB HK1 HZ1 HB1 HE
  go_wp2_with fail
  rw [← hwC]
  clear hwC hwA
  have k0' : wC.drew.cell? _ = _ := k0
  have k1' : wC.drew.cell? _ = _ := k1
  have k2' : wC.drew.cell? _ = _ := k2
  have k3' : wC.drew.cell? _ = _ := k3
  have x0' : wC.drew.cell? _ = _ := x0
  have x1' : wC.drew.cell? _ = _ := x1
  have x2' : wC.drew.cell? _ = _ := x2
  have x3' : wC.drew.cell? _ = _ := x3
  have z0' : wC.drew.cell? _ = _ := z0
  have z1' : wC.drew.cell? _ = _ := z1
  have z2' : wC.drew.cell? _ = _ := z2
  have z3' : wC.drew.cell? _ = _ := z3
  have fz' : ∀ j, wC.drew.frozen? ⟨w.heap.size + 1, j, none⟩ = false := fz
  go_region
  all_goals
    go_wp2
    refine bodyPost_ret (by rw [results_cell_tmpF rfl]; go_simp; try rfl) rfl ?_
    exact ⟨rfl, (((((HBC.out.setCell (Nat.le_succ _) _).setCell (Nat.le_succ _) _).setCell (Nat.le_succ _) _).setCell (Nat.le_succ _) _).drew)⟩
set_option maxHeartbeats 1000000 in
theorem impl_lkstate (k : Lnk) (n : Int) (w : World) : Calls Try.prog 111 #[k.val, .int .i64 n] w fun e w' => e = .returned (.int .i64 (lkS k n)) ∧ Below w.heap.size w w' := by
  have hcc := fun x => impl_isValidL k x
  have hfa := @isLnk_facts k
  obtain ⟨a, b, c, d⟩ := k
  have HR : Hid (lkS ⟨a, b, c, d⟩ n = if isLnk ⟨a, b, c, d⟩ && inB n c 1000000 then (if n - c ≤ 30 then 0 else if n - c ≤ 300 then 1 else 2) else 2) := Lib.hid rfl
  have hin := fun x => impl_InRange n c 1000000 x
  simp only [Lnk.val] at *
  obtain ⟨wA, hwA⟩ : ∃ wA, wA = w.alloc (.cells #[.int .i64 a, .int .i64 b, .int .i64 c, .int .i64 d] 74) := ⟨_, rfl⟩
  obtain ⟨hk, hsz, hB⟩ := one_block hwA
  have HK := Lib.hid hk
  have HSZ := Lib.hid hsz
  have HB := Lib.hid hB
  clear hk hsz hB
  cases h1 : isLnk ⟨a, b, c, d⟩
  · rw [h1] at hcc HR
    clear hfa h1 hin
    go_enter Try.func111, Try.ntmps111
    go_wp2_with fail
    rw [← hwA]
    refine (hcc _).mono ?_
    rintro e w1 ⟨rfl, hb1⟩
    clear hwA
    go_wp2
    go_ret
    exact ⟨by rw [HR.out]; rfl, HB.out.trans (hb1.mono HB.out.size)⟩
  rw [h1] at hcc HR
  obtain ⟨-, -, ⟨f1, f2⟩, -⟩ := hfa h1
  clear hfa h1
  cases h2 : inB n c 1000000
  · rw [h2] at HR hin
    clear h2
    go_enter Try.func111, Try.ntmps111
    go_wp2_with fail
    rw [← hwA]
    refine (hcc _).mono ?_
    rintro e w1 ⟨rfl, hb1⟩
    clear hwA
    have hk1 := (hb1.block _ (by have := HSZ.out; omega)).trans HK.out
    obtain ⟨k0, k1, k2, k3⟩ := lnk_head (lnk_of_block (p := ⟨a, b, c, d⟩) hk1)
    simp only at k0 k1 k2 k3
    clear hk1
    go_wp2_with fail
    refine (hin _).mono ?_
    rintro e w2 ⟨rfl, rfl⟩
    go_wp2
    go_ret
    exact ⟨by rw [HR.out]; rfl, HB.out.trans (hb1.mono HB.out.size)⟩
  obtain ⟨g1, g2⟩ := inB_t h2
  have HV0 : Hid (lkS ⟨a, b, c, d⟩ n = if n - c ≤ 30 then 0 else if n - c ≤ 300 then 1 else 2) := Lib.hid (by rw [HR.out, h2]; rfl)
  rw [h2] at hin
  have hwr : IntKind.i64.wrap (n - c) = n - c := by rw [IntKind.wrap_i64]; omega
  clear HR h2
  by_cases g4 : n - c ≤ 30
  · have HV : Hid (lkS ⟨a, b, c, d⟩ n = 0) := Lib.hid (by rw [HV0.out, if_pos g4])
    clear HV0
    go_enter Try.func111, Try.ntmps111
    go_wp2_with fail
    rw [← hwA]
    refine (hcc _).mono ?_
    rintro e w1 ⟨rfl, hb1⟩
    clear hwA
    have hk1 := (hb1.block _ (by have := HSZ.out; omega)).trans HK.out
    obtain ⟨k0, k1, k2, k3⟩ := lnk_head (lnk_of_block (p := ⟨a, b, c, d⟩) hk1)
    simp only at k0 k1 k2 k3
    clear hk1
    go_wp2_with fail
    refine (hin _).mono ?_
    rintro e w2 ⟨rfl, rfl⟩
    go_wp2
    go_ret
    exact ⟨by rw [HV.out]; rfl, HB.out.trans (hb1.mono HB.out.size)⟩
  by_cases g3 : n - c ≤ 300
  · have HV : Hid (lkS ⟨a, b, c, d⟩ n = 1) := Lib.hid (by rw [HV0.out, if_neg g4, if_pos g3])
    clear HV0
    go_enter Try.func111, Try.ntmps111
    go_wp2_with fail
    rw [← hwA]
    refine (hcc _).mono ?_
    rintro e w1 ⟨rfl, hb1⟩
    clear hwA
    have hk1 := (hb1.block _ (by have := HSZ.out; omega)).trans HK.out
    obtain ⟨k0, k1, k2, k3⟩ := lnk_head (lnk_of_block (p := ⟨a, b, c, d⟩) hk1)
    simp only at k0 k1 k2 k3
    clear hk1
    go_wp2_with fail
    refine (hin _).mono ?_
    rintro e w2 ⟨rfl, rfl⟩
    go_wp2
    go_ret
    exact ⟨by rw [HV.out]; rfl, HB.out.trans (hb1.mono HB.out.size)⟩
  · have HV : Hid (lkS ⟨a, b, c, d⟩ n = 2) := Lib.hid (by rw [HV0.out, if_neg g4, if_neg g3])
    clear HV0
    go_enter Try.func111, Try.ntmps111
    go_wp2_with fail
    rw [← hwA]
    refine (hcc _).mono ?_
    rintro e w1 ⟨rfl, hb1⟩
    clear hwA
    have hk1 := (hb1.block _ (by have := HSZ.out; omega)).trans HK.out
    obtain ⟨k0, k1, k2, k3⟩ := lnk_head (lnk_of_block (p := ⟨a, b, c, d⟩) hk1)
    simp only at k0 k1 k2 k3
    clear hk1
    go_wp2_with fail
    refine (hin _).mono ?_
    rintro e w2 ⟨rfl, rfl⟩
    go_wp2
    go_ret
    exact ⟨by rw [HV.out]; rfl, HB.out.trans (hb1.mono HB.out.size)⟩
theorem impl_LinkState (k : Lnk) (n : Int) (w : World) : Calls Try.prog 59 #[k.val, .int .i64 n] w fun e w' => e = .returned (.int .i64 (lkS k n)) ∧ Below w.heap.size w w' := by
  have hcc := fun x => impl_lkstate k n x
  obtain ⟨a, b, c, d⟩ := k
  simp only [Lnk.val] at *
  have HB := Lib.hid ((Below.refl w.heap.size w).alloc (Nat.le_refl _) (.cells #[.int .i64 a, .int .i64 b, .int .i64 c, .int .i64 d] 74))
  go_enter Try.func59, Try.ntmps59
  go_wp2_with fail
  refine (hcc _).mono ?_
  rintro e w1 ⟨rfl, hb1⟩
  go_wp2
  go_ret
  exact ⟨rfl, HB.out.trans (hb1.mono HB.out.size)⟩
end Go.Proofs.Ytdlcjmdkafebpaa
