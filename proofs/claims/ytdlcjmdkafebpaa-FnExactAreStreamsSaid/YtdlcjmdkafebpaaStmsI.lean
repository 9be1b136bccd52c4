/- Chapter 30: AreStreams of the program. -/
import Derived.Test.YtdlcjmdkafebpaaStms
namespace Go.Proofs.Ytdlcjmdkafebpaa
open Go.RowKit
set_option linter.unusedVariables false

set_option maxHeartbeats 2000000 in
theorem impl_isFor (x : Stm) (A' : Option Addr) (m c' : Nat) (A : Option Addr) (n c B B2 : Nat) (ps : List Pth) (w : World) (h : PthsAt w B A n ps) (hi : IntsAt .i64 w B2 A' m x.arrivals) (hB : B ≤ w.heap.size) (hB2 : B2 ≤ w.heap.size) (hn : n ≤ 4294967296) (hm : m ≤ 4294967296) :
    Calls Try.prog 101 #[.agg #[.int .i64 x.path, .slice A' m c'], .slice A n c] w fun e w' => e = .returned (.bool (forS ps x)) ∧ Below w.heap.size w w' := by
  have hml := hi.1
  have HF1 := Lib.hid (@forS1 ps x)
  have HF2 := Lib.hid (@forS2 ps x)
  have HF3 := Lib.hid (@forS3 ps x)
  have HF4 := Lib.hid (@forS4 ps x)
  rw [hml] at HF2 HF4
  have hb0 := (Below.refl w.heap.size w).alloc (Nat.le_refl _) (.cells #[.int .i64 x.path, .slice A' m c'] 135)
  have hfp := impl_FindPath A n c B ps x.path _ (h.below (hb0.mono hB)) (Nat.le_trans hB hb0.size) hn
  have hk1 := fun w' (hb : Below (w.heap.size + 1) (w.alloc (.cells #[.int .i64 x.path, .slice A' m c'] 135)) w') => (hb.cell (p := ⟨w.heap.size, 1, none⟩) (by simp only; omega)).trans (show _ = some (.slice A' m c') by go_simp)
  have HK1 := Lib.hid hk1
  have HI := Lib.hid hi
  have HB0 := Lib.hid hb0
  have HNF : Hid (x.arrivals = x.arrivals) := Lib.hid rfl
  generalize x.path = xp at *
  generalize x.arrivals = rs at *
  generalize forS ps x = v at *
  generalize findI xp ps = fi at *
  clear h hi hb0 hk1
  by_cases hf : fi < 0
  · have HV := Lib.hid (HF1.out hf)
    have e1 : decide (fi < 0) = true := decide_eq_true hf
    clear HF1 HF2 HF3 HF4
    go_enter Try.func101, Try.ntmps101
    go_wp2_with fail
    refine hfp.mono ?_
    rintro e w1 ⟨rfl, hb1⟩
    have HB1 := Lib.hid (HB0.out.trans (hb1.mono HB0.out.size))
    clear hfp hb1
    go_wp2
    go_ret
    exact ⟨by rw [HV.out]; rfl, HB1.out⟩
  by_cases h3 : 300 < m
  · have HV := Lib.hid (HF2.out h3)
    have e3 : (m : Int) > 300 := by omega
    clear HF1 HF2 HF3 HF4
    go_enter Try.func101, Try.ntmps101
    go_wp2_with fail
    refine hfp.mono ?_
    rintro e w1 ⟨rfl, hb1⟩
    have k1 := HK1.out w1 (hb1.mono (by simp))
    have HB1 := Lib.hid (HB0.out.trans (hb1.mono HB0.out.size))
    clear hfp hb1 HK1
    go_wp2
    go_ret
    exact ⟨by rw [HV.out]; rfl, HB1.out⟩
  have e3 : ¬ (m : Int) > 300 := by omega
  have HF5 := Lib.hid (HF4.out hf (by omega))
  clear HF1 HF2 HF4
  go_enter Try.func101, Try.ntmps101
  go_wp2_with fail
  refine hfp.mono ?_
  rintro e w1 ⟨rfl, hb1⟩
  have k1 := HK1.out w1 (hb1.mono (by simp))
  have hbw := HB0.out.trans (hb1.mono HB0.out.size)
  clear hfp hb1 HK1
  go_wp2
  go_loopw [21] (fun i wq => ∃ j : Nat, j ≤ m ∧ i = .int .i64 j ∧ ((rs.take j).all fun z => inB z 0 20) = true ∧ Below w.heap.size w wq) (fun i _ => m - (intOf i).toNat)
  case atStart => exact ⟨0, Nat.zero_le _, rfl, rfl, hbw⟩
  case round =>
    clear hbw
    obtain ⟨j, hj, rfl, hall, hb2⟩ := hrel
    have HA := Lib.hid hall
    clear hall
    by_cases hlt2 : j < m
    · obtain ⟨ad2, rfl, hab2, hcell⟩ := HI.out.2 (by omega)
      have hc := (hb2.cell (by rw [add_block]; omega)).trans (hcell j hlt2)
      have hz : rs[j]? = some (rs.getD j 0) := by rw [List.getD_eq_getElem?_getD, List.getElem?_eq_getElem (by omega)]; rfl
      generalize rs.getD j 0 = z at *
      have HZ := Lib.hid hz
      have j1 : (0 : Int) ≤ (j : Int) := by omega
      have j2 : (j : Int) < (m : Int) := by omega
      clear hcell hz
      cases h4 : inB z 0 20
      · have HV := Lib.hid (HF3.out (List.all_eq_false.2 ⟨z, List.mem_of_getElem? HZ.out, by rw [h4]; decide⟩))
        have H4 := Lib.hid h4
        clear h4 HF3 HF5
        go_wp2_with (go_at_call 122; refine (impl_InRange _ _ _ _).mono ?_; rintro e w' ⟨rfl, rfl⟩; rw [H4.out])
        go_ret
        exact ⟨by rw [HV.out]; rfl, hb2⟩
      · have HA2 := Lib.hid (show ((rs.take (j + 1)).all fun z => inB z 0 20) = true by rw [List.take_add_one, HZ.out, List.all_append, HA.out]; simp [h4])
        have H4 := Lib.hid h4
        clear h4
        go_wp2_with (go_at_call 122; refine (impl_InRange _ _ _ _).mono ?_; rintro e w' ⟨rfl, rfl⟩; rw [H4.out])
        go_roundw
        case rel => exact ⟨j + 1, by omega, by go_num, HA2.out, hb2⟩
        case measure => simp [intOf]; omega
    · obtain rfl : j = m := by omega
      have HV := Lib.hid (HF5.out (by have := HA.out; rwa [List.take_of_length_le (by omega)] at this))
      go_wp2
      go_ret
      exact ⟨by rw [HV.out]; rfl, hb2⟩
set_option maxHeartbeats 2000000 in
set_option maxRecDepth 100000 in
theorem impl_AreStreams (A : Option Addr) (n c B : Nat) (ps : List Pth) (A2 : Option Addr) (n2 c2 B2 : Nat) (zs : List Stm) (w : World) (h : PthsAt w B A n ps) (h2 : StmsAt w B2 A2 n2 zs) (hB : B ≤ w.heap.size) (hB2 : B2 ≤ w.heap.size) (hn : n ≤ 4294967296) (hn2 : n2 ≤ 4294967296) (hm : ∀ j, j < n2 → (stmA zs j).arrivals.length ≤ 4294967296) :
    Calls Try.prog 48 #[.slice A n c, .slice A2 n2 c2] w fun e w' => e = .returned (.bool (areM ps zs)) ∧ Below w.heap.size w w' := by
  have hl2 := h2.1
  have hap := impl_ArePaths A n c B ps w h hB hn
  cases ha : arePs ps
  · have HV := Lib.hid (areM_ps (zs := zs) ha)
    rw [ha] at hap
    clear ha
    go_enter Try.func48, Try.ntmps48
    go_wp2_with fail
    refine hap.mono ?_
    rintro e w1 ⟨rfl, hb1⟩
    go_wp2
    go_ret
    exact ⟨by rw [HV.out]; rfl, hb1⟩
  rw [ha] at hap
  by_cases h12 : 12 < n2
  · have HV := Lib.hid (areM_long (ps := ps) (zs := zs) (by omega))
    have e1 : (n2 : Int) > 12 := by omega
    clear ha
    go_enter Try.func48, Try.ntmps48
    go_wp2_with fail
    refine hap.mono ?_
    rintro e w1 ⟨rfl, hb1⟩
    go_wp2
    go_ret
    exact ⟨by rw [HV.out]; rfl, hb1⟩
  have e12 : ¬ (n2 : Int) > 12 := by omega
  have HEND : Hid ((∀ i, i < n2 → goodM ps zs i = true) → areM ps zs = true) := Lib.hid (fun hg => by rw [areM_end (fun i hi => hg i (by omega)), ha, decide_eq_true (by omega)]; rfl)
  have HNO : Hid (∀ i, i < n2 → goodM ps zs i = false → areM ps zs = false) := Lib.hid (fun i hi hg => areM_no (by omega) hg)
  clear hl2 ha
  go_enter Try.func48, Try.ntmps48
  go_wp2_with fail
  refine hap.mono ?_
  rintro e w1 ⟨rfl, hb1⟩
  clear hap
  go_wp2
  go_loopw [17] (fun i wr => ∃ k : Nat, k ≤ n2 ∧ i = .int .i64 k ∧ (∀ j, j < k → goodM ps zs j = true) ∧ Below w.heap.size w wr) (fun i _ => n2 - (intOf i).toNat)
  case atStart => exact ⟨0, Nat.zero_le _, rfl, fun j hj => absurd hj (by omega), hb1⟩
  case round =>
    clear hb1
    obtain ⟨k, hk, rfl, hgo, hbl⟩ := hrel
    have hsz := hbl.size
    have HG := Lib.hid hgo
    clear hgo
    by_cases hlt : k < n2
    · obtain ⟨ad, A', m, c', rfl, hab, hq, hi, hmc, hnil⟩ := h2.at hlt
      obtain ⟨A0, m0, c0, hab0, hq0, hi0⟩ := h2.first (by omega)
      obtain ⟨q0, q1⟩ := hq.below hbl (by omega)
      obtain ⟨wA, hwA⟩ : ∃ wA, wA = wr.alloc (.cells #[.int .i64 (stmA zs k).path, .slice A' m c'] 135) := ⟨_, rfl⟩
      obtain ⟨hk0, hszA, hBA⟩ := one_block hwA
      have ltx : wr.heap.size < wA.heap.size := by omega
      have acc := hbl.trans (hBA.mono hsz)
      have hbx := fun y : GW wA => ((y.ok.block _ ltx).trans hk0)
      have y0 := fun y : GW wA => (show y.val.cell? ⟨wr.heap.size, 0, none⟩ = some (.int .i64 (stmA zs k).path) by rw [cell_of_row y.val _ 0 _ _ _ (hbx y)]; rfl)
      have y1 := fun y : GW wA => (show y.val.cell? ⟨wr.heap.size, 1, none⟩ = some (.slice A' m c') by rw [cell_of_row y.val _ _ _ _ _ (hbx y)]; rfl)
      have hqw0 := hq0.below acc (by omega)
      have z1 := fun y : GW wA => (hqw0.below y.ok (by have := acc.size; omega)).c1
      have hmk := hm k hlt
      have hml := hi.1
      have hml0 := hi0.1
      have hif := fun y : GW wA => impl_isFor (stmA zs k) A' m c' A n c B B2 ps y.val (h.below ((acc.trans (y.ok.mono acc.size)).mono hB)) (hi.keep fun p hp => (acc.trans (y.ok.mono acc.size)).cell (Nat.lt_of_lt_of_le hp hB2)) (Nat.le_trans hB (acc.trans (y.ok.mono acc.size)).size) (Nat.le_trans hB2 (acc.trans (y.ok.mono acc.size)).size) hn (by omega)
      have i1 : (0 : Int) ≤ (k : Int) := by omega
      have i2 : (k : Int) < (n2 : Int) := by omega
      have i0 : (0 : Int) < (n2 : Int) := by omega
      have HK1 : Hid (forS ps (stmA zs k) = false → areM ps zs = false) := Lib.hid (fun e => HNO.out k hlt (goodM1 e))
      have HK2 : Hid (m ≠ m0 → areM ps zs = false) := Lib.hid (fun e => HNO.out k hlt (goodM2 (by rw [hml, hml0]; exact e)))
      have HK3 : Hid (forS ps (stmA zs k) = true → m = m0 → goodM ps zs k = true) := Lib.hid (fun e1 e2 => goodM3 e1 (by rw [hml, hml0]; exact e2))
      clear hk0 hBA hbx hq hq0 hqw0 hi hi0 hml hml0 hmk
      generalize forS ps (stmA zs k) = v at *
      generalize (stmA zs k).path = xp at *
      cases v
      · have HV := Lib.hid (HK1.out rfl)
        clear HK1 HK2 HK3
        go_wp2
        rw [← hwA]
        clear hwA
        refine wp_region_grow (by kernel_rfl) (by kernel_rfl) ?_
        repeat (go_big_quiet_step (first | (go_at_call 101; exact calls_gw _ (hif _))))
        refine wpQuiet_nil ?_
        intro x3
        have hb3 := x3.ok
        generalize x3.val = w3 at *
        go_wp2
        go_ret
        exact ⟨by rw [HV.out]; rfl, acc.trans (hb3.mono acc.size)⟩
      by_cases hmm : m = m0
      · have HGK : Hid (∀ i, i < k + 1 → goodM ps zs i = true) := Lib.hid (fun i hi => by
          by_cases e : i = k
          · subst e; exact HK3.out rfl hmm
          · exact HG.out i (by omega))
        have e2 : ((m : Int) != (m0 : Int)) = false := by simp; omega
        clear HK1 HK2 HK3 hmm
        go_wp2
        rw [← hwA]
        clear hwA
        refine wp_region_grow (by kernel_rfl) (by kernel_rfl) ?_
        repeat (go_big_quiet_step (first | (go_at_call 101; exact calls_gw _ (hif _))))
        refine wpQuiet_nil ?_
        intro x3
        have hb3 := x3.ok
        generalize x3.val = w3 at *
        go_wp2
        go_roundw
        case rel => exact ⟨k + 1, by omega, by go_num, HGK.out, acc.trans (hb3.mono acc.size)⟩
        case measure => simp [intOf]; omega
      · have HV := Lib.hid (HK2.out hmm)
        have e2 : ((m : Int) != (m0 : Int)) = true := by simp; omega
        clear HK1 HK2 HK3
        go_wp2
        rw [← hwA]
        clear hwA
        refine wp_region_grow (by kernel_rfl) (by kernel_rfl) ?_
        repeat (go_big_quiet_step (first | (go_at_call 101; exact calls_gw _ (hif _))))
        refine wpQuiet_nil ?_
        intro x3
        have hb3 := x3.ok
        generalize x3.val = w3 at *
        go_wp2
        go_ret
        exact ⟨by rw [HV.out]; rfl, acc.trans (hb3.mono acc.size)⟩
    · obtain rfl : k = n2 := by omega
      have HR := Lib.hid (HEND.out HG.out)
      go_wp2
      go_ret
      exact ⟨by rw [HR.out]; rfl, hbl⟩
end Go.Proofs.Ytdlcjmdkafebpaa
