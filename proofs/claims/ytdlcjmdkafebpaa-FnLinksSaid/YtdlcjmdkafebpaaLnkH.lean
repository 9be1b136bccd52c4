/- Chapter 23: HearLink: program and model. -/
import Derived.Test.YtdlcjmdkafebpaaLnkC
namespace Go.Proofs.Ytdlcjmdkafebpaa
open Go.RowKit
set_option linter.unusedVariables false

set_option maxHeartbeats 2000000 in
theorem impl_hearL (k : Lnk) (s n o : Int) (w : World) : Calls Try.prog 108 #[k.val, .int .i64 s, .int .i64 n, .int .i64 o] w fun e w' => e = .returned ((hearL k s n o).1.val) ∧ Below w.heap.size w w' := by
  have hA := fun x => impl_isValidL k x
  have hX := fun x => impl_isValidL ⟨k.peer, s, n, o⟩ x
  have hn1 := @hear_no1 k s n o
  have hn2 := @hear_no2 k s n o
  have hn3 := @hear_no3 k s n o
  have hn4 := @hear_no4 k s n o
  have hy := @hear_yes k s n o
  obtain ⟨r, hr⟩ : ∃ r, hearL k s n o = r := ⟨_, rfl⟩
  rw [hr] at hn1 hn2 hn3 hn4 hy ⊢
  clear hr
  obtain ⟨a, b, c, d⟩ := k
  simp only [Lnk.val] at *
  obtain ⟨wA, hwA⟩ : ∃ wA, wA = ((w.alloc (.cells #[.int .i64 a, .int .i64 b, .int .i64 c, .int .i64 d] 74)).alloc (.cells #[.int .i64 0, .int .i64 0, .int .i64 0, .int .i64 0] 74)).alloc (.cells #[.int .i64 a, .int .i64 s, .int .i64 n, .int .i64 o] 74) := ⟨_, rfl⟩
  obtain ⟨hk, hz, hx, hsz, hB⟩ := three_blocks hwA
  have HSZ := Lib.hid hsz
  have HK := Lib.hid hk
  have HZ := Lib.hid hz
  have HX := Lib.hid hx
  have HB := Lib.hid hB
  clear hsz hk hz hx hB
  have HAFT := Lib.hid (fun (w1 : World) (hb1 : Below wA.heap.size wA w1) => (⟨(hb1.block _ (by have := HSZ.out; omega)).trans HK.out, (hb1.block _ (by have := HSZ.out; omega)).trans HZ.out, (hb1.block _ (by have := HSZ.out; omega)).trans HX.out, HB.out.trans (hb1.mono HB.out.size)⟩ : w1.heap[w.heap.size]? = _ ∧ w1.heap[w.heap.size + 1]? = _ ∧ w1.heap[w.heap.size + 1 + 1]? = _ ∧ Below w.heap.size w w1))
  clear HSZ HK HZ HX HB
  cases h1 : isLnk ⟨a, b, c, d⟩
  · obtain rfl := hn1 h1
    rw [h1] at hA
    clear hn1 hn2 hn3 hn4 hy h1 hX
    go_enter Try.func108, Try.ntmps108
    go_wp2_with fail
    rw [← hwA]
    refine (hA _).mono ?_
    rintro e w1 ⟨rfl, hb1⟩
    have HBA := Lib.hid hb1
    clear hb1
    obtain ⟨hk, hz, hx, hB⟩ := HAFT.out w1 HBA.out
    obtain ⟨k0, k1, k2, k3⟩ := lnk_head (lnk_of_block (p := ⟨a, b, c, d⟩) hk)
    obtain ⟨x0, x1, x2, x3⟩ := lnk_head (lnk_of_block (p := ⟨a, s, n, o⟩) hx)
    obtain ⟨z0, z1, z2, z3⟩ := lnk_head (lnk_of_block (p := ⟨0, 0, 0, 0⟩) hz)
    have fz : ∀ j, w1.frozen? ⟨w.heap.size + 1, j, none⟩ = false := fun j => frozen_of_row _ _ j _ _ hz
    simp only at k0 k1 k2 k3 x0 x1 x2 x3 z0 z1 z2 z3
    have lt0 : w.heap.size + 1 < w1.heap.size := lt_of_block hz
    have HBW := Lib.hid hB
    clear hk hz hx hB
    go_wp2
    refine bodyPost_ret (by rw [results_cell rfl]; go_simp; try rfl) rfl ?_
    exact ⟨rfl, ((((HBW.out.setCell (Nat.le_succ _) _).setCell (Nat.le_succ _) _).setCell (Nat.le_succ _) _).setCell (Nat.le_succ _) _)⟩
  rw [h1] at hA
  clear hn1
  cases h2 : isLnk ⟨a, s, n, o⟩
  · obtain rfl := hn2 h2
    rw [h2] at hX
    clear hn2 hn3 hn4 hy h1 h2
    go_enter Try.func108, Try.ntmps108
    go_wp2_with fail
    rw [← hwA]
    refine (hA _).mono ?_
    rintro e w1 ⟨rfl, hb1⟩
    have HBA := Lib.hid hb1
    clear hb1
    obtain ⟨hk, hz, hx, hB⟩ := HAFT.out w1 HBA.out
    obtain ⟨k0, k1, k2, k3⟩ := lnk_head (lnk_of_block (p := ⟨a, b, c, d⟩) hk)
    obtain ⟨x0, x1, x2, x3⟩ := lnk_head (lnk_of_block (p := ⟨a, s, n, o⟩) hx)
    obtain ⟨z0, z1, z2, z3⟩ := lnk_head (lnk_of_block (p := ⟨0, 0, 0, 0⟩) hz)
    have fz : ∀ j, w1.frozen? ⟨w.heap.size + 1, j, none⟩ = false := fun j => frozen_of_row _ _ j _ _ hz
    simp only at k0 k1 k2 k3 x0 x1 x2 x3 z0 z1 z2 z3
    have lt0 : w.heap.size + 1 < w1.heap.size := lt_of_block hz
    have HBW := Lib.hid hB
    clear hk hz hx hB
    go_wp2_with fail
    refine (hX _).mono ?_
    rintro e w2 ⟨rfl, hb2⟩
    replace HBA := Lib.hid (HBA.out.trans (hb2.mono HBA.out.size))
    clear hb2 k0 k1 k2 k3 x0 x1 x2 x3 z0 z1 z2 z3 fz lt0 HBW
    obtain ⟨hk, hz, hx, hB⟩ := HAFT.out w2 HBA.out
    obtain ⟨k0, k1, k2, k3⟩ := lnk_head (lnk_of_block (p := ⟨a, b, c, d⟩) hk)
    obtain ⟨x0, x1, x2, x3⟩ := lnk_head (lnk_of_block (p := ⟨a, s, n, o⟩) hx)
    obtain ⟨z0, z1, z2, z3⟩ := lnk_head (lnk_of_block (p := ⟨0, 0, 0, 0⟩) hz)
    have fz : ∀ j, w2.frozen? ⟨w.heap.size + 1, j, none⟩ = false := fun j => frozen_of_row _ _ j _ _ hz
    simp only at k0 k1 k2 k3 x0 x1 x2 x3 z0 z1 z2 z3
    have lt0 : w.heap.size + 1 < w2.heap.size := lt_of_block hz
    have HBW := Lib.hid hB
    clear hk hz hx hB
    go_wp2
    refine bodyPost_ret (by rw [results_cell rfl]; go_simp; try rfl) rfl ?_
    exact ⟨rfl, ((((HBW.out.setCell (Nat.le_succ _) _).setCell (Nat.le_succ _) _).setCell (Nat.le_succ _) _).setCell (Nat.le_succ _) _)⟩
  rw [h2] at hX
  clear hn2
  by_cases h3 : b < s
  rotate_left
  · obtain rfl := hn3 h3
    have h3' : s ≤ b := by omega
    clear hn3 hn4 hy h1 h2
    go_enter Try.func108, Try.ntmps108
    go_wp2_with fail
    rw [← hwA]
    refine (hA _).mono ?_
    rintro e w1 ⟨rfl, hb1⟩
    have HBA := Lib.hid hb1
    clear hb1
    obtain ⟨hk, hz, hx, hB⟩ := HAFT.out w1 HBA.out
    obtain ⟨k0, k1, k2, k3⟩ := lnk_head (lnk_of_block (p := ⟨a, b, c, d⟩) hk)
    obtain ⟨x0, x1, x2, x3⟩ := lnk_head (lnk_of_block (p := ⟨a, s, n, o⟩) hx)
    obtain ⟨z0, z1, z2, z3⟩ := lnk_head (lnk_of_block (p := ⟨0, 0, 0, 0⟩) hz)
    have fz : ∀ j, w1.frozen? ⟨w.heap.size + 1, j, none⟩ = false := fun j => frozen_of_row _ _ j _ _ hz
    simp only at k0 k1 k2 k3 x0 x1 x2 x3 z0 z1 z2 z3
    have lt0 : w.heap.size + 1 < w1.heap.size := lt_of_block hz
    have HBW := Lib.hid hB
    clear hk hz hx hB
    go_wp2_with fail
    refine (hX _).mono ?_
    rintro e w2 ⟨rfl, hb2⟩
    replace HBA := Lib.hid (HBA.out.trans (hb2.mono HBA.out.size))
    clear hb2 k0 k1 k2 k3 x0 x1 x2 x3 z0 z1 z2 z3 fz lt0 HBW
    obtain ⟨hk, hz, hx, hB⟩ := HAFT.out w2 HBA.out
    obtain ⟨k0, k1, k2, k3⟩ := lnk_head (lnk_of_block (p := ⟨a, b, c, d⟩) hk)
    obtain ⟨x0, x1, x2, x3⟩ := lnk_head (lnk_of_block (p := ⟨a, s, n, o⟩) hx)
    obtain ⟨z0, z1, z2, z3⟩ := lnk_head (lnk_of_block (p := ⟨0, 0, 0, 0⟩) hz)
    have fz : ∀ j, w2.frozen? ⟨w.heap.size + 1, j, none⟩ = false := fun j => frozen_of_row _ _ j _ _ hz
    simp only at k0 k1 k2 k3 x0 x1 x2 x3 z0 z1 z2 z3
    have lt0 : w.heap.size + 1 < w2.heap.size := lt_of_block hz
    have HBW := Lib.hid hB
    clear hk hz hx hB
    go_wp2
    refine bodyPost_ret (by rw [results_cell rfl]; go_simp; try rfl) rfl ?_
    exact ⟨rfl, ((((HBW.out.setCell (Nat.le_succ _) _).setCell (Nat.le_succ _) _).setCell (Nat.le_succ _) _).setCell (Nat.le_succ _) _)⟩
  by_cases h4 : c ≤ n
  rotate_left
  · obtain rfl := hn4 h4
    have h4' : n < c := by omega
    clear hn3 hn4 hy h1 h2
    go_enter Try.func108, Try.ntmps108
    go_wp2_with fail
    rw [← hwA]
    refine (hA _).mono ?_
    rintro e w1 ⟨rfl, hb1⟩
    have HBA := Lib.hid hb1
    clear hb1
    obtain ⟨hk, hz, hx, hB⟩ := HAFT.out w1 HBA.out
    obtain ⟨k0, k1, k2, k3⟩ := lnk_head (lnk_of_block (p := ⟨a, b, c, d⟩) hk)
    obtain ⟨x0, x1, x2, x3⟩ := lnk_head (lnk_of_block (p := ⟨a, s, n, o⟩) hx)
    obtain ⟨z0, z1, z2, z3⟩ := lnk_head (lnk_of_block (p := ⟨0, 0, 0, 0⟩) hz)
    have fz : ∀ j, w1.frozen? ⟨w.heap.size + 1, j, none⟩ = false := fun j => frozen_of_row _ _ j _ _ hz
    simp only at k0 k1 k2 k3 x0 x1 x2 x3 z0 z1 z2 z3
    have lt0 : w.heap.size + 1 < w1.heap.size := lt_of_block hz
    have HBW := Lib.hid hB
    clear hk hz hx hB
    go_wp2_with fail
    refine (hX _).mono ?_
    rintro e w2 ⟨rfl, hb2⟩
    replace HBA := Lib.hid (HBA.out.trans (hb2.mono HBA.out.size))
    clear hb2 k0 k1 k2 k3 x0 x1 x2 x3 z0 z1 z2 z3 fz lt0 HBW
    obtain ⟨hk, hz, hx, hB⟩ := HAFT.out w2 HBA.out
    obtain ⟨k0, k1, k2, k3⟩ := lnk_head (lnk_of_block (p := ⟨a, b, c, d⟩) hk)
    obtain ⟨x0, x1, x2, x3⟩ := lnk_head (lnk_of_block (p := ⟨a, s, n, o⟩) hx)
    obtain ⟨z0, z1, z2, z3⟩ := lnk_head (lnk_of_block (p := ⟨0, 0, 0, 0⟩) hz)
    have fz : ∀ j, w2.frozen? ⟨w.heap.size + 1, j, none⟩ = false := fun j => frozen_of_row _ _ j _ _ hz
    simp only at k0 k1 k2 k3 x0 x1 x2 x3 z0 z1 z2 z3
    have lt0 : w.heap.size + 1 < w2.heap.size := lt_of_block hz
    have HBW := Lib.hid hB
    clear hk hz hx hB
    go_wp2
    refine bodyPost_ret (by rw [results_cell rfl]; go_simp; try rfl) rfl ?_
    exact ⟨rfl, ((((HBW.out.setCell (Nat.le_succ _) _).setCell (Nat.le_succ _) _).setCell (Nat.le_succ _) _).setCell (Nat.le_succ _) _)⟩
  obtain rfl := hy h1 h2 h3 h4
  clear hn3 hn4 hy h1 h2
  go_enter Try.func108, Try.ntmps108
  go_wp2_with fail
  rw [← hwA]
  refine (hA _).mono ?_
  rintro e w1 ⟨rfl, hb1⟩
  have HBA := Lib.hid hb1
  clear hb1
  obtain ⟨hk, hz, hx, hB⟩ := HAFT.out w1 HBA.out
  obtain ⟨k0, k1, k2, k3⟩ := lnk_head (lnk_of_block (p := ⟨a, b, c, d⟩) hk)
  obtain ⟨x0, x1, x2, x3⟩ := lnk_head (lnk_of_block (p := ⟨a, s, n, o⟩) hx)
  obtain ⟨z0, z1, z2, z3⟩ := lnk_head (lnk_of_block (p := ⟨0, 0, 0, 0⟩) hz)
  have fz : ∀ j, w1.frozen? ⟨w.heap.size + 1, j, none⟩ = false := fun j => frozen_of_row _ _ j _ _ hz
  simp only at k0 k1 k2 k3 x0 x1 x2 x3 z0 z1 z2 z3
  have lt0 : w.heap.size + 1 < w1.heap.size := lt_of_block hz
  have HBW := Lib.hid hB
  clear hk hz hx hB
  go_wp2_with fail
  refine (hX _).mono ?_
  rintro e w2 ⟨rfl, hb2⟩
  replace HBA := Lib.hid (HBA.out.trans (hb2.mono HBA.out.size))
  clear hb2 k0 k1 k2 k3 x0 x1 x2 x3 z0 z1 z2 z3 fz lt0 HBW
  obtain ⟨hk, hz, hx, hB⟩ := HAFT.out w2 HBA.out
  obtain ⟨k0, k1, k2, k3⟩ := lnk_head (lnk_of_block (p := ⟨a, b, c, d⟩) hk)
  obtain ⟨x0, x1, x2, x3⟩ := lnk_head (lnk_of_block (p := ⟨a, s, n, o⟩) hx)
  obtain ⟨z0, z1, z2, z3⟩ := lnk_head (lnk_of_block (p := ⟨0, 0, 0, 0⟩) hz)
  have fz : ∀ j, w2.frozen? ⟨w.heap.size + 1, j, none⟩ = false := fun j => frozen_of_row _ _ j _ _ hz
  simp only at k0 k1 k2 k3 x0 x1 x2 x3 z0 z1 z2 z3
  have lt0 : w.heap.size + 1 < w2.heap.size := lt_of_block hz
  have HBW := Lib.hid hB
  clear hk hz hx hB
  go_wp2
  refine bodyPost_ret (by rw [results_cell rfl]; go_simp; try rfl) rfl ?_
  exact ⟨rfl, ((((HBW.out.setCell (Nat.le_succ _) _).setCell (Nat.le_succ _) _).setCell (Nat.le_succ _) _).setCell (Nat.le_succ _) _)⟩
end Go.Proofs.Ytdlcjmdkafebpaa
