/- Chapter 30: TotalArrivals: program and model. -/
import Derived.Test.YtdgpodopkfnpeaaQ
import Derived.Test.YtdgpodopkfnpeaaStm
namespace Go.Proofs.Ytdgpodopkfnpeaa
open Go.RowKit
set_option linter.unusedVariables false

/-- how many arrive in the first k streams. -/
def arrK (zs : List Stm) : Nat → Int
  | 0 => 0
  | k + 1 => arrK zs k + sumC 20 (stmA zs k).arrivals (stmA zs k).arrivals.length
def totArr (zs : List Stm) : Int := arrK zs zs.length
theorem arrK_bound {zs : List Stm} : ∀ {k : Nat}, (∀ j, j < k → (stmA zs j).arrivals.length ≤ 1048576) → 0 ≤ arrK zs k ∧ arrK zs k ≤ k * 20971520
  | 0, _ => by simp [arrK]
  | k + 1, h => by
    have ih := arrK_bound (zs := zs) (k := k) (fun j hj => h j (by omega))
    have hb := sumC_bound 20 (by decide) (stmA zs k).arrivals (stmA zs k).arrivals.length
    have hk := h k (by omega)
    show 0 ≤ arrK zs k + _ ∧ arrK zs k + _ ≤ _
    omega
set_option maxHeartbeats 2000000 in
theorem impl_TotalArrivals (A : Option Addr) (n c B : Nat) (zs : List Stm) (w : World) (h : StmsAt w B A n zs) (hB : B ≤ w.heap.size) (hn : n ≤ 1048576) (hm : ∀ j, j < n → (stmA zs j).arrivals.length ≤ 1048576) :
    Calls Try.prog 64 #[.slice A n c] w fun e w' => e = .returned (.int .i64 (totArr zs)) ∧ Below w.heap.size w w' := by
  have hl := h.1
  have HV : Hid (totArr zs = arrK zs n) := Lib.hid (by unfold totArr; rw [hl])
  go_enter Try.func64, Try.ntmps64
  go_wp2
  go_loopw [3, 10] (fun x i wr => ∃ k : Nat, k ≤ n ∧ i = .int .i64 k ∧ x = .int .i64 (arrK zs k) ∧ Below w.heap.size w wr) (fun _ i _ => n - (intOf i).toNat)
  case atStart => exact ⟨0, Nat.zero_le _, rfl, rfl, Below.refl _ _⟩
  case round =>
    obtain ⟨k, hk, rfl, rfl, hbl⟩ := hrel
    have hsz := hbl.size
    by_cases hlt : k < n
    · obtain ⟨ad, A', m, c', rfl, hab, hq, hi, hmc, hnil⟩ := h.at hlt
      obtain ⟨q0, q1⟩ := hq.below hbl (by omega)
      have i1 : (0 : Int) ≤ (k : Int) := by omega
      have i2 : (k : Int) < (n : Int) := by omega
      have hmk := hm k hlt
      have hml := hi.1
      have hbd := arrK_bound (zs := zs) (k := k) (fun j hj => hm j (by omega))
      have HS : Hid (arrK zs (k + 1) = arrK zs k + sumC 20 (stmA zs k).arrivals m) := Lib.hid (by rw [← hml]; rfl)
      have HI := Lib.hid hi
      have hba := hbl.alloc hsz (.cells #[.int .i64 (stmA zs k).path, .slice A' m c'] 145)
      generalize (stmA zs k).arrivals = rs at *
      generalize arrK zs k = T at *
      obtain ⟨t1, t2⟩ := hbd
      have hT : T ≤ 21990232555520 := by omega
      clear hq hi hbl
      go_wp2
      go_loopw [3, 17] (fun x i wq => ∃ j : Nat, j ≤ m ∧ i = .int .i64 j ∧ x = .int .i64 (T + sumC 20 rs j) ∧ Below w.heap.size w wq) (fun _ i _ => m - (intOf i).toNat)
      case atStart => exact ⟨0, Nat.zero_le _, rfl, by simp [sumC], hba⟩
      case round =>
        obtain ⟨j, hj, rfl, rfl, hb2⟩ := hrel
        have hsz2 := hb2.size
        by_cases hlt2 : j < m
        · obtain ⟨ad2, rfl, hab2, hcell⟩ := HI.out.2 (by omega)
          have hc := (hb2.cell (by rw [add_block]; omega)).trans (hcell j hlt2)
          have hsb := sumC_bound 20 (by decide) rs j
          have HS2 : Hid (sumC 20 rs (j + 1) = sumC 20 rs j + maxI 0 (minI (rs.getD j 0) 20)) := Lib.hid (by rw [limit_clamp]; rfl)
          have hcb := clampN_bound (rs.getD j 0) 20 (by decide)
          rw [← limit_clamp] at hcb
          have j1 : (0 : Int) ≤ (j : Int) := by omega
          have j2 : (j : Int) < (m : Int) := by omega
          clear hcell
          generalize rs.getD j 0 = z at *
          generalize sumC 20 rs j = q at *
          have hcc := fun w => impl_limit z 0 20 w
          generalize maxI 0 (minI z 20) = y at *
          obtain ⟨hy1, hy2⟩ := hcb
          obtain ⟨hs1, hs2⟩ := hsb
          go_wp2_with fail
          refine (hcc _).mono ?_
          rintro e w1 ⟨rfl, hb3⟩
          have HB3 := Lib.hid (hb2.trans (hb3.mono hsz2))
          clear hb3 hcc
          go_wp2
          go_roundw
          case rel => exact ⟨j + 1, by omega, by go_num, by rw [HS2.out, Int.add_assoc], HB3.out⟩
          case measure => simp [intOf]; omega
        · obtain rfl : j = m := by omega
          go_wp2
          go_roundw
          case rel => exact ⟨k + 1, by omega, by go_num, by rw [HS.out], hb2⟩
          case measure => simp [intOf]; omega
    · obtain rfl : k = n := by omega
      go_wp2
      go_ret
      exact ⟨by rw [HV.out]; try rfl, hbl⟩
set_option maxHeartbeats 2000000 in
theorem spec_TotalArrivals (A : Option Addr) (n c B : Nat) (zs : List Stm) (w : World) (h : StmsAt w B A n zs) (hB : B ≤ w.heap.size) (hn : n ≤ 1048576) (hm : ∀ j, j < n → (stmA zs j).arrivals.length ≤ 1048576) :
    Calls Try.prog 62 #[.slice A n c] w fun e w' => e = .returned (.int .i64 (totArr zs)) ∧ Below w.heap.size w w' := by
  have hl := h.1
  have HV : Hid (totArr zs = arrK zs n) := Lib.hid (by unfold totArr; rw [hl])
  go_enter Try.func62, Try.ntmps62
  go_wp2
  go_loopw [3, 4] (fun x i wr => ∃ k : Nat, k ≤ n ∧ i = .int .i64 k ∧ x = .int .i64 (arrK zs k) ∧ w = wr) (fun _ i _ => n - (intOf i).toNat)
  case atStart => exact ⟨0, Nat.zero_le _, rfl, rfl, rfl⟩
  case round =>
    obtain ⟨k, hk, rfl, rfl, rfl⟩ := hrel
    by_cases hlt : k < n
    · obtain ⟨ad, A', m, c', rfl, hab, hq, hi, hmc, hnil⟩ := h.at hlt
      obtain ⟨q0, q1⟩ := hq
      have i1 : (0 : Int) ≤ (k : Int) := by omega
      have i2 : (k : Int) < (n : Int) := by omega
      have hmk := hm k hlt
      have hml := hi.1
      have hbd := arrK_bound (zs := zs) (k := k) (fun j hj => hm j (by omega))
      have HS : Hid (arrK zs (k + 1) = arrK zs k + sumC 20 (stmA zs k).arrivals m) := Lib.hid (by rw [← hml]; rfl)
      have HI := Lib.hid hi
      generalize (stmA zs k).arrivals = rs at *
      generalize arrK zs k = T at *
      obtain ⟨t1, t2⟩ := hbd
      have hT : T ≤ 21990232555520 := by omega
      clear hi
      go_wp2
      go_loopw [3, 5] (fun x i wq => ∃ j : Nat, j ≤ m ∧ i = .int .i64 j ∧ x = .int .i64 (T + sumC 20 rs j) ∧ w = wq) (fun _ i _ => m - (intOf i).toNat)
      case atStart => exact ⟨0, Nat.zero_le _, rfl, by simp [sumC], rfl⟩
      case round =>
        obtain ⟨j, hj, rfl, rfl, rfl⟩ := hrel
        by_cases hlt2 : j < m
        · obtain ⟨ad2, rfl, hab2, hcell⟩ := HI.out.2 (by omega)
          have hc := hcell j hlt2
          have hsb := sumC_bound 20 (by decide) rs j
          have HS2 : Hid (sumC 20 rs (j + 1) = sumC 20 rs j + maxI 0 (minI 20 (rs.getD j 0))) := Lib.hid rfl
          have hcb := clampN_bound (rs.getD j 0) 20 (by decide)
          unfold clampN at hcb
          have j1 : (0 : Int) ≤ (j : Int) := by omega
          have j2 : (j : Int) < (m : Int) := by omega
          clear hcell
          generalize rs.getD j 0 = z at *
          generalize sumC 20 rs j = q at *
          generalize hy : maxI 0 (minI 20 z) = y at *
          obtain ⟨hy1, hy2⟩ := hcb
          obtain ⟨hs1, hs2⟩ := hsb
          have HY := Lib.hid hy
          clear hy
          go_wp2_with fail
          refine (spec_Min _ _ _).mono ?_
          rintro e w1 ⟨rfl, rfl⟩
          go_wp2_with fail
          refine (spec_Max _ _ _).mono ?_
          rw [HY.out]
          rintro e w1 ⟨rfl, rfl⟩
          go_wp2
          go_roundw
          case rel => exact ⟨j + 1, by omega, by go_num, by rw [HS2.out, Int.add_assoc], by trivial⟩
          case measure => simp [intOf]; omega
        · obtain rfl : j = m := by omega
          go_wp2
          go_roundw
          case rel => exact ⟨k + 1, by omega, by go_num, by rw [HS.out], by trivial⟩
          case measure => simp [intOf]; omega
    · obtain rfl : k = n := by omega
      go_wp2
      go_ret
      exact ⟨by rw [HV.out]; try rfl, Below.refl _ _⟩
end Go.Proofs.Ytdgpodopkfnpeaa
