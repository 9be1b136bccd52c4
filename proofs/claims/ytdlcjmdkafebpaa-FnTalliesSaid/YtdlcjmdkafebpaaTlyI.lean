/- Chapter 26: the street that is counted: inside, canCount, comeIn, goOut. -/
import Derived.Test.YtdlcjmdkafebpaaTlyC
import Derived.BigQuiet
import Derived.Deep.QuietTactic
namespace Go.Proofs.Ytdlcjmdkafebpaa
open Go.RowKit
set_option linter.unusedVariables false

theorem impl_inside (x : Tly) (b : Bool) (w : World) (h : b = true → isTly x = true) : Calls Try.prog 119 #[cstV x b] w fun e w' => e = .returned (.int .i64 (if b then x.inn - x.out else -1)) ∧ Below w.heap.size w w' := by
  have hfa := (isTly_iff x).1
  obtain ⟨p, q, r⟩ := x
  simp only [cstV] at *
  have HB := Lib.hid ((Below.refl w.heap.size w).alloc (Nat.le_refl _) (.cells #[.int .i64 p, .int .i64 q, .int .i64 r, .bool b] 157))
  cases b
  · go_enter Try.func119, Try.ntmps119
    go_wp2
    go_ret
    exact ⟨rfl, HB.out⟩
  · obtain ⟨⟨f1, f2⟩, ⟨f3, f4⟩, -, -⟩ := hfa (h rfl)
    have hwr : IntKind.i64.wrap (p - q) = p - q := by rw [IntKind.wrap_i64]; omega
    clear hfa h
    go_enter Try.func119, Try.ntmps119
    go_wp2
    go_ret
    exact ⟨rfl, HB.out⟩
theorem impl_Inside (x : Tly) (w : World) : Calls Try.prog 68 #[x.val] w fun e w' => e = .returned (.int .i64 (insideT x)) ∧ Below w.heap.size w w' := by
  have hc := fun y => impl_streetOf x y
  have hi := fun y => impl_inside x (isTly x) y id
  have hv : insideT x = if isTly x then x.inn - x.out else -1 := rfl
  rw [← hv] at hi
  generalize insideT x = v at *
  generalize isTly x = u at *
  clear hv
  obtain ⟨a, b, c⟩ := x
  simp only [Tly.val, cstV] at *
  have HB := Lib.hid ((Below.refl w.heap.size w).alloc (Nat.le_refl _) (.cells #[.int .i64 a, .int .i64 b, .int .i64 c] 92))
  go_enter Try.func68, Try.ntmps68
  go_wp2_with fail
  refine (hc _).mono ?_
  rintro e w1 ⟨rfl, hb1⟩
  have HB1 := Lib.hid (HB.out.trans (hb1.mono HB.out.size))
  clear hb1 HB
  go_wp2_with fail
  refine (hi _).mono ?_
  rintro e w2 ⟨rfl, hb2⟩
  go_wp2
  go_ret
  exact ⟨rfl, HB1.out.trans (hb2.mono HB1.out.size)⟩
theorem impl_canCount (x : Tly) (b : Bool) (n : Int) (w : World) : Calls Try.prog 143 #[cstV x b, .int .i64 n] w fun e w' => e = .returned (.bool (b && inB n 0 1000)) ∧ Below w.heap.size w w' := by
  obtain ⟨p, q, r⟩ := x
  simp only [cstV]
  have HB := Lib.hid ((Below.refl w.heap.size w).alloc (Nat.le_refl _) (.cells #[.int .i64 p, .int .i64 q, .int .i64 r, .bool b] 157))
  generalize hv : inB n 0 1000 = v
  have H1 := Lib.hid hv
  clear hv
  cases b
  all_goals
    go_enter Try.func143, Try.ntmps143
    go_wp2_with (go_at_call 122; refine (impl_InRange _ _ _ _).mono ?_; rintro e w' ⟨rfl, rfl⟩; rw [H1.out])
    go_ret
    exact ⟨by cases v <;> rfl, HB.out⟩
/-- what comeIn answers. -/
def comeT (x : Tly) (n : Int) : Tly × Bool := if isTly x && inB n 0 1000 && isTly ⟨x.inn + n, x.out, x.room⟩ then (⟨x.inn + n, x.out, x.room⟩, true) else (⟨0, 0, 0⟩, false)
/-- what goOut answers. -/
def goT (x : Tly) (n : Int) : Tly × Bool := if isTly x && inB n 0 1000 && isTly ⟨x.inn, x.out + n, x.room⟩ then (⟨x.inn, x.out + n, x.room⟩, true) else (⟨0, 0, 0⟩, false)
theorem isTly_f {a b c : Int} (h : ¬ ((0 ≤ a ∧ a ≤ 1000000) ∧ (0 ≤ b ∧ b ≤ a) ∧ (0 ≤ c ∧ c ≤ 100) ∧ a - b ≤ c)) : isTly ⟨a, b, c⟩ = false := by
  cases e : isTly ⟨a, b, c⟩
  · rfl
  · exact absurd ((isTly_iff _).1 e) h
set_option maxHeartbeats 2000000 in
theorem impl_comeIn (x : Tly) (n : Int) (w : World) : Calls Try.prog 118 #[cstV x (isTly x), .int .i64 n] w fun e w' => e = .returned (.tuple #[(comeT x n).1.val, .bool (comeT x n).2]) ∧ Below w.heap.size w w' := by
  have hcan := fun y => impl_canCount x (isTly x) n y
  obtain ⟨a, b, c⟩ := x
  have HR : Hid (comeT ⟨a, b, c⟩ n = if isTly ⟨a, b, c⟩ && inB n 0 1000 && isTly ⟨a + n, b, c⟩ then (⟨a + n, b, c⟩, true) else (⟨0, 0, 0⟩, false)) := Lib.hid rfl
  have hT := @isTly_iff ⟨a, b, c⟩
  simp only [Tly.val, cstV] at *
  generalize hu : isTly ⟨a, b, c⟩ = u at *
  obtain ⟨wA, hwA⟩ : ∃ wA, wA = (w.alloc (.cells #[.int .i64 a, .int .i64 b, .int .i64 c, .bool u] 157)).alloc (.cells #[.int .i64 0, .int .i64 0, .int .i64 0] 92) := ⟨_, rfl⟩
  obtain ⟨hk, hz, hsz, hB⟩ := two_blocks hwA
  have HK := Lib.hid hk
  have HZ := Lib.hid hz
  have HSZ := Lib.hid hsz
  have HB := Lib.hid hB
  clear hk hz hsz hB
  cases h1 : (u && inB n 0 1000)
  · have HV : Hid (comeT ⟨a, b, c⟩ n = (⟨0, 0, 0⟩, false)) := Lib.hid (by rw [HR.out, h1]; rfl)
    rw [h1] at hcan
    clear h1 hu HR hT
    go_enter Try.func118, Try.ntmps118
    go_wp2_with fail
    rw [← hwA]
    refine (hcan _).mono ?_
    rintro e w1 ⟨rfl, hb1⟩
    clear hwA
    have hz1 := (hb1.block _ (by have := HSZ.out; omega)).trans HZ.out
    obtain ⟨z0, z1, z2⟩ := tly_head (tly_of_block (p := ⟨0, 0, 0⟩) hz1)
    simp only at z0 z1 z2
    have fz : ∀ j, w1.frozen? ⟨w.heap.size + 1, j, none⟩ = false := fun j => frozen_of_row _ _ j _ _ hz1
    have lt0 : w.heap.size + 1 < w1.heap.size := lt_of_block hz1
    have HBW := Lib.hid (HB.out.trans (hb1.mono HB.out.size))
    clear hz1 hb1
    go_wp2
    refine bodyPost_ret (by rw [results_cell_tmpF rfl]; go_simp; try rfl) rfl ?_
    exact ⟨by rw [HV.out], (((HBW.out.setCell (Nat.le_succ _) _).setCell (Nat.le_succ _) _).setCell (Nat.le_succ _) _)⟩
  · rw [h1] at hcan
    simp only [Bool.and_eq_true] at h1
    obtain ⟨rfl, h2⟩ := h1
    obtain ⟨n1, n2⟩ := inB_t h2
    obtain ⟨⟨f1, f2⟩, ⟨f3, f4⟩, ⟨f5, f6⟩, f7⟩ := hT.1 rfl
    rw [h2] at HR
    clear hT h2
    go_enter Try.func118, Try.ntmps118
    go_wp2_with fail
    rw [← hwA]
    refine (hcan _).mono ?_
    rintro e w1 ⟨rfl, hb1⟩
    clear hwA hcan
    have HK1 := Lib.hid ((hb1.block _ (by have := HSZ.out; omega)).trans HK.out)
    have HZ1 := Lib.hid ((hb1.block _ (by have := HSZ.out; omega)).trans HZ.out)
    have HB1 := Lib.hid (HB.out.trans (hb1.mono HB.out.size))
    clear hb1 HK HZ HB HSZ
    go_wp2
    go_loopw [12] (fun i wr => ∃ k : Nat, (k : Int) ≤ n ∧ i = .int .i64 k ∧ wr.heap[w.heap.size]? = some (.cells #[.int .i64 (a + k), .int .i64 b, .int .i64 c, .bool true] 157) ∧ wr.heap[w.heap.size + 1]? = some (.cells #[.int .i64 0, .int .i64 0, .int .i64 0] 92) ∧ isTly ⟨a + k, b, c⟩ = true ∧ Below w.heap.size w wr) (fun i _ => n.toNat - (intOf i).toNat)
    case atStart => exact ⟨0, by omega, rfl, by simpa using HK1.out, HZ1.out, by simpa using hu, HB1.out⟩
    case round =>
      obtain ⟨k, hkn, rfl, hk, hz, ht, hbl⟩ := hrel
      obtain ⟨⟨g1, g2⟩, -, -, g3⟩ := (isTly_iff _).1 ht
      obtain ⟨k0, k1, k2, k3⟩ := cst_of_block hk
      obtain ⟨z0, z1, z2⟩ := tly_head (tly_of_block (p := ⟨0, 0, 0⟩) hz)
      simp only at z0 z1 z2 g1 g2 g3
      have fz : ∀ j, wr.frozen? ⟨w.heap.size + 1, j, none⟩ = false := fun j => frozen_of_row _ _ j _ _ hz
      have lt0 : w.heap.size + 1 < wr.heap.size := lt_of_block hz
      have lt1 : w.heap.size < wr.heap.size := by omega
      have HKR := Lib.hid hk
      have HZR := Lib.hid hz
      have HBR := Lib.hid hbl
      have HT := Lib.hid ht
      clear hk hz hbl ht HK1 HZ1 HB1 hu
      by_cases hlt : (k : Int) < n
      · by_cases hmax : a + (k : Int) = 1000000
        · have HV : Hid (comeT ⟨a, b, c⟩ n = (⟨0, 0, 0⟩, false)) := Lib.hid (by rw [HR.out, isTly_f (a := a + n) (by omega)]; rfl)
          have e1 : (a + (k : Int) == 1000000) = true := by simpa using hmax
          clear HR
          go_wp2
          go_quiet (fail)
          go_wp2
          refine bodyPost_ret (by rw [results_cell_tmpF rfl]; go_simp; try rfl) rfl ?_
          exact ⟨by rw [HV.out], (((belowN HBR.out _).setCell (Nat.le_succ _) _).setCell (Nat.le_succ _) _).setCell (Nat.le_succ _) _⟩
        · have e1 : (a + (k : Int) == 1000000) = false := by simpa using hmax
          have hin := fun y => impl_inside ⟨a + k, b, c⟩ true y (fun _ => HT.out)
          simp only [cstV, if_true] at hin
          by_cases hroom : a + (k : Int) - b = c
          · have HV : Hid (comeT ⟨a, b, c⟩ n = (⟨0, 0, 0⟩, false)) := Lib.hid (by rw [HR.out, isTly_f (a := a + n) (by omega)]; rfl)
            have e2 : (a + (k : Int) - b == c) = true := by simpa using hroom
            clear HR
            go_wp2
            go_region_held3 (fun W' => W'.cell? ⟨w.heap.size, 0, none⟩ = some (.int .i64 (a + k)) ∧ W'.cell? ⟨w.heap.size, 1, none⟩ = some (.int .i64 b) ∧ W'.cell? ⟨w.heap.size, 2, none⟩ = some (.int .i64 c) ∧ W'.cell? ⟨w.heap.size, 3, none⟩ = some (.bool true))
              (first | exact ⟨k0, k1, k2, k3⟩ | exact ⟨y0, y1, y2, y3⟩ | fail "keep")
              (first
                | (go_at_call 119; refine (hin _).mono ?_; rintro e w2 ⟨rfl, hb2⟩; have hb2' : Below wr.heap.size wr w2 := below_undrew hb2; have y0 := (hb2'.cell (p := ⟨w.heap.size, 0, none⟩) lt1).trans k0; have y1 := (hb2'.cell (p := ⟨w.heap.size, 1, none⟩) lt1).trans k1; have y2 := (hb2'.cell (p := ⟨w.heap.size, 2, none⟩) lt1).trans k2; have y3 := (hb2'.cell (p := ⟨w.heap.size, 3, none⟩) lt1).trans k3))
            all_goals
              have HZ2 := Lib.hid ((hb2'.block _ lt0).trans HZR.out)
              have HB2 := Lib.hid (HBR.out.trans (hb2'.mono HBR.out.size))
              have lt2 : w.heap.size + 1 < w2.heap.size := lt_of_block HZ2.out
              clear z0 z1 z2 fz
              obtain ⟨z0, z1, z2⟩ := tly_head (tly_of_block (p := ⟨0, 0, 0⟩) HZ2.out)
              simp only at z0 z1 z2
              have fz : ∀ j, w2.frozen? ⟨w.heap.size + 1, j, none⟩ = false := fun j => frozen_of_row _ _ j _ _ HZ2.out
              clear hb2 hb2' k0 k1 k2 k3 y0 y1 y2 y3 hin
              go_wp2
              refine bodyPost_ret (by rw [results_cell_tmpF rfl]; go_simp; try rfl) rfl ?_
              exact ⟨by rw [HV.out], ((HB2.out.setCell (Nat.le_succ _) _).setCell (Nat.le_succ _) _).setCell (Nat.le_succ _) _⟩
          · have HT2 : Hid (isTly ⟨a + ((k + 1 : Nat) : Int), b, c⟩ = true) := Lib.hid ((isTly_iff _).2 (by simp only; omega))
            have e2 : (a + (k : Int) - b == c) = false := by simpa using hroom
            have hwr : IntKind.i64.wrap (a + (k : Int) + 1) = a + ((k + 1 : Nat) : Int) := by rw [IntKind.wrap_i64]; omega
            go_wp2
            go_region_held3 (fun W' => W'.cell? ⟨w.heap.size, 0, none⟩ = some (.int .i64 (a + k)) ∧ W'.cell? ⟨w.heap.size, 1, none⟩ = some (.int .i64 b) ∧ W'.cell? ⟨w.heap.size, 2, none⟩ = some (.int .i64 c) ∧ W'.cell? ⟨w.heap.size, 3, none⟩ = some (.bool true))
              (first | exact ⟨k0, k1, k2, k3⟩ | exact ⟨y0, y1, y2, y3⟩ | fail "keep")
              (first
                | (go_at_call 119; refine (hin _).mono ?_; rintro e w2 ⟨rfl, hb2⟩; have hb2' : Below wr.heap.size wr w2 := below_undrew hb2; have y0 := (hb2'.cell (p := ⟨w.heap.size, 0, none⟩) lt1).trans k0; have y1 := (hb2'.cell (p := ⟨w.heap.size, 1, none⟩) lt1).trans k1; have y2 := (hb2'.cell (p := ⟨w.heap.size, 2, none⟩) lt1).trans k2; have y3 := (hb2'.cell (p := ⟨w.heap.size, 3, none⟩) lt1).trans k3))
            all_goals
              have HK2 := Lib.hid ((hb2'.block _ lt1).trans HKR.out)
              have HZ2 := Lib.hid ((hb2'.block _ lt0).trans HZR.out)
              have HB2 := Lib.hid (HBR.out.trans (hb2'.mono HBR.out.size))
              have fk : ∀ j, w2.frozen? ⟨w.heap.size, j, none⟩ = false := fun j => frozen_of_row _ _ j _ _ HK2.out
              have lt2 : w.heap.size < w2.heap.size := lt_of_block HK2.out
              clear hb2 hb2' k0 k1 k2 k3 hin z0 z1 z2 fz lt0 lt1 HKR HZR HBR
              go_wp2
              go_roundw
              case rel => exact ⟨k + 1, by omega, by go_num, by rw [heap_setCell_same _ _ _ _ _ _ HK2.out]; rfl, (heap_setCell_other _ _ _ _ (by simp)).trans HZ2.out, HT2.out, HB2.out.setCell (Nat.le_refl _) _⟩
              case measure => simp [intOf]; omega
      · have hkn' : (k : Int) = n := by omega
        have HV : Hid (comeT ⟨a, b, c⟩ n = (⟨a + k, b, c⟩, true)) := Lib.hid (by rw [HR.out, ← hkn', HT.out]; rfl)
        clear HR
        go_wp2
        refine bodyPost_ret (by rw [results_cell_tmpF rfl]; go_simp; try rfl) rfl ?_
        exact ⟨by rw [HV.out, hkn'], (((HBR.out.setCell (Nat.le_succ _) _).setCell (Nat.le_succ _) _).setCell (Nat.le_succ _) _)⟩
set_option maxHeartbeats 2000000 in
theorem impl_goOut (x : Tly) (n : Int) (w : World) : Calls Try.prog 120 #[cstV x (isTly x), .int .i64 n] w fun e w' => e = .returned (.tuple #[(goT x n).1.val, .bool (goT x n).2]) ∧ Below w.heap.size w w' := by
  have hcan := fun y => impl_canCount x (isTly x) n y
  obtain ⟨a, b, c⟩ := x
  have HR : Hid (goT ⟨a, b, c⟩ n = if isTly ⟨a, b, c⟩ && inB n 0 1000 && isTly ⟨a, b + n, c⟩ then (⟨a, b + n, c⟩, true) else (⟨0, 0, 0⟩, false)) := Lib.hid rfl
  have hT := @isTly_iff ⟨a, b, c⟩
  simp only [Tly.val, cstV] at *
  generalize hu : isTly ⟨a, b, c⟩ = u at *
  obtain ⟨wA, hwA⟩ : ∃ wA, wA = (w.alloc (.cells #[.int .i64 a, .int .i64 b, .int .i64 c, .bool u] 157)).alloc (.cells #[.int .i64 0, .int .i64 0, .int .i64 0] 92) := ⟨_, rfl⟩
  obtain ⟨hk, hz, hsz, hB⟩ := two_blocks hwA
  have HK := Lib.hid hk
  have HZ := Lib.hid hz
  have HSZ := Lib.hid hsz
  have HB := Lib.hid hB
  clear hk hz hsz hB
  cases h1 : (u && inB n 0 1000)
  · have HV : Hid (goT ⟨a, b, c⟩ n = (⟨0, 0, 0⟩, false)) := Lib.hid (by rw [HR.out, h1]; rfl)
    rw [h1] at hcan
    clear h1 hu HR hT
    go_enter Try.func120, Try.ntmps120
    go_wp2_with fail
    rw [← hwA]
    refine (hcan _).mono ?_
    rintro e w1 ⟨rfl, hb1⟩
    clear hwA
    have hz1 := (hb1.block _ (by have := HSZ.out; omega)).trans HZ.out
    obtain ⟨z0, z1, z2⟩ := tly_head (tly_of_block (p := ⟨0, 0, 0⟩) hz1)
    simp only at z0 z1 z2
    have fz : ∀ j, w1.frozen? ⟨w.heap.size + 1, j, none⟩ = false := fun j => frozen_of_row _ _ j _ _ hz1
    have lt0 : w.heap.size + 1 < w1.heap.size := lt_of_block hz1
    have HBW := Lib.hid (HB.out.trans (hb1.mono HB.out.size))
    clear hz1 hb1
    go_wp2
    refine bodyPost_ret (by rw [results_cell_tmpF rfl]; go_simp; try rfl) rfl ?_
    exact ⟨by rw [HV.out], (((HBW.out.setCell (Nat.le_succ _) _).setCell (Nat.le_succ _) _).setCell (Nat.le_succ _) _)⟩
  · rw [h1] at hcan
    simp only [Bool.and_eq_true] at h1
    obtain ⟨rfl, h2⟩ := h1
    obtain ⟨n1, n2⟩ := inB_t h2
    obtain ⟨⟨f1, f2⟩, ⟨f3, f4⟩, ⟨f5, f6⟩, f7⟩ := hT.1 rfl
    rw [h2] at HR
    clear hT h2
    go_enter Try.func120, Try.ntmps120
    go_wp2_with fail
    rw [← hwA]
    refine (hcan _).mono ?_
    rintro e w1 ⟨rfl, hb1⟩
    clear hwA hcan
    have HK1 := Lib.hid ((hb1.block _ (by have := HSZ.out; omega)).trans HK.out)
    have HZ1 := Lib.hid ((hb1.block _ (by have := HSZ.out; omega)).trans HZ.out)
    have HB1 := Lib.hid (HB.out.trans (hb1.mono HB.out.size))
    clear hb1 HK HZ HB HSZ
    go_wp2
    go_loopw [12] (fun i wr => ∃ k : Nat, (k : Int) ≤ n ∧ i = .int .i64 k ∧ wr.heap[w.heap.size]? = some (.cells #[.int .i64 a, .int .i64 (b + k), .int .i64 c, .bool true] 157) ∧ wr.heap[w.heap.size + 1]? = some (.cells #[.int .i64 0, .int .i64 0, .int .i64 0] 92) ∧ isTly ⟨a, b + k, c⟩ = true ∧ Below w.heap.size w wr) (fun i _ => n.toNat - (intOf i).toNat)
    case atStart => exact ⟨0, by omega, rfl, by simpa using HK1.out, HZ1.out, by simpa using hu, HB1.out⟩
    case round =>
      obtain ⟨k, hkn, rfl, hk, hz, ht, hbl⟩ := hrel
      obtain ⟨-, ⟨g1, g2⟩, -, g3⟩ := (isTly_iff _).1 ht
      obtain ⟨k0, k1, k2, k3⟩ := cst_of_block hk
      obtain ⟨z0, z1, z2⟩ := tly_head (tly_of_block (p := ⟨0, 0, 0⟩) hz)
      simp only at z0 z1 z2 g1 g2 g3
      have fz : ∀ j, wr.frozen? ⟨w.heap.size + 1, j, none⟩ = false := fun j => frozen_of_row _ _ j _ _ hz
      have lt0 : w.heap.size + 1 < wr.heap.size := lt_of_block hz
      have lt1 : w.heap.size < wr.heap.size := by omega
      have HKR := Lib.hid hk
      have HZR := Lib.hid hz
      have HBR := Lib.hid hbl
      have HT := Lib.hid ht
      clear hk hz hbl ht HK1 HZ1 HB1 hu
      by_cases hlt : (k : Int) < n
      · have hin := fun y => impl_inside ⟨a, b + k, c⟩ true y (fun _ => HT.out)
        simp only [cstV, if_true] at hin
        go_wp2_with fail
        refine (hin _).mono ?_
        rintro e w2 ⟨rfl, hb2⟩
        have HK2 := Lib.hid ((hb2.block _ lt1).trans HKR.out)
        have HZ2 := Lib.hid ((hb2.block _ lt0).trans HZR.out)
        have HB2 := Lib.hid (HBR.out.trans (hb2.mono HBR.out.size))
        have lt2 : w.heap.size + 1 < w2.heap.size := lt_of_block HZ2.out
        have lt3 : w.heap.size < w2.heap.size := by omega
        clear hb2 k0 k1 k2 k3 z0 z1 z2 fz lt0 lt1 HKR HZR HBR hin
        by_cases hroom : a - (b + (k : Int)) = 0
        · have HV : Hid (goT ⟨a, b, c⟩ n = (⟨0, 0, 0⟩, false)) := Lib.hid (by rw [HR.out, isTly_f (b := b + n) (by omega)]; rfl)
          have e2 : (a - (b + (k : Int)) == 0) = true := by simpa using hroom
          obtain ⟨z0, z1, z2⟩ := tly_head (tly_of_block (p := ⟨0, 0, 0⟩) HZ2.out)
          simp only at z0 z1 z2
          have fz : ∀ j, w2.frozen? ⟨w.heap.size + 1, j, none⟩ = false := fun j => frozen_of_row _ _ j _ _ HZ2.out
          clear HR hroom
          go_wp2
          refine bodyPost_ret (by rw [results_cell_tmpF rfl]; go_simp; try rfl) rfl ?_
          exact ⟨by rw [HV.out], ((HB2.out.setCell (Nat.le_succ _) _).setCell (Nat.le_succ _) _).setCell (Nat.le_succ _) _⟩
        · have HT2 : Hid (isTly ⟨a, b + ((k + 1 : Nat) : Int), c⟩ = true) := Lib.hid ((isTly_iff _).2 (by simp only; omega))
          have e2 : (a - (b + (k : Int)) == 0) = false := by simpa using hroom
          have hwr : IntKind.i64.wrap (b + (k : Int) + 1) = b + ((k + 1 : Nat) : Int) := by rw [IntKind.wrap_i64]; omega
          obtain ⟨y0, y1, y2, y3⟩ := cst_of_block HK2.out
          have fk : ∀ j, w2.frozen? ⟨w.heap.size, j, none⟩ = false := fun j => frozen_of_row _ _ j _ _ HK2.out
          clear hroom
          go_wp2
          go_roundw
          case rel => exact ⟨k + 1, by omega, by go_num, by rw [heap_setCell_same _ _ _ _ _ _ HK2.out]; rfl, (heap_setCell_other _ _ _ _ (by simp)).trans HZ2.out, HT2.out, HB2.out.setCell (Nat.le_refl _) _⟩
          case measure => simp [intOf]; omega
      · have hkn' : (k : Int) = n := by omega
        have HV : Hid (goT ⟨a, b, c⟩ n = (⟨a, b + k, c⟩, true)) := Lib.hid (by rw [HR.out, ← hkn', HT.out]; rfl)
        clear HR
        go_wp2
        refine bodyPost_ret (by rw [results_cell_tmpF rfl]; go_simp; try rfl) rfl ?_
        exact ⟨by rw [HV.out, hkn'], (((HBR.out.setCell (Nat.le_succ _) _).setCell (Nat.le_succ _) _).setCell (Nat.le_succ _) _)⟩
end Go.Proofs.Ytdlcjmdkafebpaa
