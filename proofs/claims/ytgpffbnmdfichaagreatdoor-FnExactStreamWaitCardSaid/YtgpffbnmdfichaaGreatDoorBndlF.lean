/- Texts of one chain, put together: StmsI Stw LawStw LawPrt LawDet0 LawCal LawStms LawStm. -/
import Derived.Deep.RegionHeld3
import Derived.Test.YtgpffbnmdfichaaGreatDoorBndlE
set_option linter.unusedSimpArgs false
/- Chapter 30: AreStreams of the program. -/
namespace Go.Proofs.YtgpffbnmdfichaaGreatDoor
open Go.RowKit
set_option linter.unusedVariables false

set_option maxHeartbeats 2000000 in
theorem impl_isFor (x : Stm) (A' : Option Addr) (m c' : Nat) (A : Option Addr) (n c B B2 : Nat) (ps : List Pth) (w : World) (h : PthsAt w B A n ps) (hi : IntsAt .i64 w B2 A' m x.arrivals) (hB : B ≤ w.heap.size) (hB2 : B2 ≤ w.heap.size) (hn : n ≤ 4294967296) (hm : m ≤ 4294967296) :
    Calls Tryz.prog 123 #[.agg #[.int .i64 x.path, .slice A' m c'], .slice A n c] w fun e w' => e = .returned (.bool (forS ps x)) ∧ Below w.heap.size w w' := by
  have hml := hi.1
  have HF1 := Lib.hid (@forS1 ps x)
  have HF2 := Lib.hid (@forS2 ps x)
  have HF3 := Lib.hid (@forS3 ps x)
  have HF4 := Lib.hid (@forS4 ps x)
  rw [hml] at HF2 HF4
  have hb0 := (Below.refl w.heap.size w).alloc (Nat.le_refl _) (.cells #[.int .i64 x.path, .slice A' m c'] 35)
  have hfp := impl_FindPath A n c B ps x.path _ (h.below (hb0.mono hB)) (Nat.le_trans hB hb0.size) hn
  have hk1 := fun w' (hb : Below (w.heap.size + 1) (w.alloc (.cells #[.int .i64 x.path, .slice A' m c'] 35)) w') => (hb.cell (p := ⟨w.heap.size, 1, none⟩) (by simp only; omega)).trans (show _ = some (.slice A' m c') by go_simp)
  have HK1 := Lib.hid hk1
  have HI := Lib.hid hi
  have HB0 := Lib.hid hb0
  have HNF : Hid (x.arrivals = x.arrivals) := Lib.hid rfl
  generalize x.path = xp at *
  generalize x.arrivals = rs at *
  generalize forS ps x = v at *
  generalize findI xp ps = fi at *
  clear h hi hb0 hk1
  by_cases hf : fi < 0
  · have HV := Lib.hid (HF1.out hf)
    have e1 : decide (fi < 0) = true := decide_eq_true hf
    clear HF1 HF2 HF3 HF4
    go_enter Tryz.func123, Tryz.ntmps123
    go_wp2_with fail
    refine hfp.mono ?_
    rintro e w1 ⟨rfl, hb1⟩
    have HB1 := Lib.hid (HB0.out.trans (hb1.mono HB0.out.size))
    clear hfp hb1
    go_wp2
    go_ret
    exact ⟨by rw [HV.out]; rfl, HB1.out⟩
  by_cases h3 : 300 < m
  · have HV := Lib.hid (HF2.out h3)
    have e3 : (m : Int) > 300 := by omega
    clear HF1 HF2 HF3 HF4
    go_enter Tryz.func123, Tryz.ntmps123
    go_wp2_with fail
    refine hfp.mono ?_
    rintro e w1 ⟨rfl, hb1⟩
    have k1 := HK1.out w1 (hb1.mono (by simp))
    have HB1 := Lib.hid (HB0.out.trans (hb1.mono HB0.out.size))
    clear hfp hb1 HK1
    go_wp2
    go_ret
    exact ⟨by rw [HV.out]; rfl, HB1.out⟩
  have e3 : ¬ (m : Int) > 300 := by omega
  have HF5 := Lib.hid (HF4.out hf (by omega))
  clear HF1 HF2 HF4
  go_enter Tryz.func123, Tryz.ntmps123
  go_wp2_with fail
  refine hfp.mono ?_
  rintro e w1 ⟨rfl, hb1⟩
  have k1 := HK1.out w1 (hb1.mono (by simp))
  have hbw := HB0.out.trans (hb1.mono HB0.out.size)
  clear hfp hb1 HK1
  go_wp2
  go_loopw [21] (fun i wq => ∃ j : Nat, j ≤ m ∧ i = .int .i64 j ∧ ((rs.take j).all fun z => inB z 0 20) = true ∧ Below w.heap.size w wq) (fun i _ => m - (intOf i).toNat)
  case atStart => exact ⟨0, Nat.zero_le _, rfl, rfl, hbw⟩
  case round =>
    clear hbw
    obtain ⟨j, hj, rfl, hall, hb2⟩ := hrel
    have HA := Lib.hid hall
    clear hall
    by_cases hlt2 : j < m
    · obtain ⟨ad2, rfl, hab2, hcell⟩ := HI.out.2 (by omega)
      have hc := (hb2.cell (by rw [add_block]; omega)).trans (hcell j hlt2)
      have hz : rs[j]? = some (rs.getD j 0) := by rw [List.getD_eq_getElem?_getD, List.getElem?_eq_getElem (by omega)]; rfl
      generalize rs.getD j 0 = z at *
      have HZ := Lib.hid hz
      have j1 : (0 : Int) ≤ (j : Int) := by omega
      have j2 : (j : Int) < (m : Int) := by omega
      clear hcell hz
      cases h4 : inB z 0 20
      · have HV := Lib.hid (HF3.out (List.all_eq_false.2 ⟨z, List.mem_of_getElem? HZ.out, by rw [h4]; decide⟩))
        have H4 := Lib.hid h4
        clear h4 HF3 HF5
        go_wp2_with (go_at_call 103; refine (impl_InRange _ _ _ _).mono ?_; rintro e w' ⟨rfl, rfl⟩; rw [H4.out])
        go_ret
        exact ⟨by rw [HV.out]; rfl, hb2⟩
      · have HA2 := Lib.hid (show ((rs.take (j + 1)).all fun z => inB z 0 20) = true by rw [List.take_add_one, HZ.out, List.all_append, HA.out]; simp [h4])
        have H4 := Lib.hid h4
        clear h4
        go_wp2_with (go_at_call 103; refine (impl_InRange _ _ _ _).mono ?_; rintro e w' ⟨rfl, rfl⟩; rw [H4.out])
        go_roundw
        case rel => exact ⟨j + 1, by omega, by go_num, HA2.out, hb2⟩
        case measure => simp [intOf]; omega
    · obtain rfl : j = m := by omega
      have HV := Lib.hid (HF5.out (by have := HA.out; rwa [List.take_of_length_le (by omega)] at this))
      go_wp2
      go_ret
      exact ⟨by rw [HV.out]; rfl, hb2⟩
set_option maxHeartbeats 2000000 in
set_option maxRecDepth 100000 in
theorem impl_AreStreams (A : Option Addr) (n c B : Nat) (ps : List Pth) (A2 : Option Addr) (n2 c2 B2 : Nat) (zs : List Stm) (w : World) (h : PthsAt w B A n ps) (h2 : StmsAt w B2 A2 n2 zs) (hB : B ≤ w.heap.size) (hB2 : B2 ≤ w.heap.size) (hn : n ≤ 4294967296) (hn2 : n2 ≤ 4294967296) (hm : ∀ j, j < n2 → (stmA zs j).arrivals.length ≤ 4294967296) :
    Calls Tryz.prog 71 #[.slice A n c, .slice A2 n2 c2] w fun e w' => e = .returned (.bool (areM ps zs)) ∧ Below w.heap.size w w' := by
  have hl2 := h2.1
  have hap := impl_ArePaths A n c B ps w h hB hn
  cases ha : arePs ps
  · have HV := Lib.hid (areM_ps (zs := zs) ha)
    rw [ha] at hap
    clear ha
    go_enter Tryz.func71, Tryz.ntmps71
    go_wp2_with fail
    refine hap.mono ?_
    rintro e w1 ⟨rfl, hb1⟩
    go_wp2
    go_ret
    exact ⟨by rw [HV.out]; rfl, hb1⟩
  rw [ha] at hap
  by_cases h12 : 12 < n2
  · have HV := Lib.hid (areM_long (ps := ps) (zs := zs) (by omega))
    have e1 : (n2 : Int) > 12 := by omega
    clear ha
    go_enter Tryz.func71, Tryz.ntmps71
    go_wp2_with fail
    refine hap.mono ?_
    rintro e w1 ⟨rfl, hb1⟩
    go_wp2
    go_ret
    exact ⟨by rw [HV.out]; rfl, hb1⟩
  have e12 : ¬ (n2 : Int) > 12 := by omega
  have HEND : Hid ((∀ i, i < n2 → goodM ps zs i = true) → areM ps zs = true) := Lib.hid (fun hg => by rw [areM_end (fun i hi => hg i (by omega)), ha, decide_eq_true (by omega)]; rfl)
  have HNO : Hid (∀ i, i < n2 → goodM ps zs i = false → areM ps zs = false) := Lib.hid (fun i hi hg => areM_no (by omega) hg)
  clear hl2 ha
  go_enter Tryz.func71, Tryz.ntmps71
  go_wp2_with fail
  refine hap.mono ?_
  rintro e w1 ⟨rfl, hb1⟩
  clear hap
  go_wp2
  go_loopw [17] (fun i wr => ∃ k : Nat, k ≤ n2 ∧ i = .int .i64 k ∧ (∀ j, j < k → goodM ps zs j = true) ∧ Below w.heap.size w wr) (fun i _ => n2 - (intOf i).toNat)
  case atStart => exact ⟨0, Nat.zero_le _, rfl, fun j hj => absurd hj (by omega), hb1⟩
  case round =>
    clear hb1
    obtain ⟨k, hk, rfl, hgo, hbl⟩ := hrel
    have hsz := hbl.size
    have HG := Lib.hid hgo
    clear hgo
    by_cases hlt : k < n2
    · obtain ⟨ad, A', m, c', rfl, hab, hq, hi, hmc, hnil⟩ := h2.at hlt
      obtain ⟨A0, m0, c0, hab0, hq0, hi0⟩ := h2.first (by omega)
      obtain ⟨q0, q1⟩ := hq.below hbl (by omega)
      obtain ⟨wA, hwA⟩ : ∃ wA, wA = wr.alloc (.cells #[.int .i64 (stmA zs k).path, .slice A' m c'] 35) := ⟨_, rfl⟩
      obtain ⟨hk0, hszA, hBA⟩ := one_block hwA
      have ltx : wr.heap.size < wA.heap.size := by omega
      have acc := hbl.trans (hBA.mono hsz)
      have hbx := fun y : GW wA => ((y.ok.block _ ltx).trans hk0)
      have y0 := fun y : GW wA => (show y.val.cell? ⟨wr.heap.size, 0, none⟩ = some (.int .i64 (stmA zs k).path) by rw [cell_of_row y.val _ 0 _ _ _ (hbx y)]; rfl)
      have y1 := fun y : GW wA => (show y.val.cell? ⟨wr.heap.size, 1, none⟩ = some (.slice A' m c') by rw [cell_of_row y.val _ _ _ _ _ (hbx y)]; rfl)
      have hqw0 := hq0.below acc (by omega)
      have z1 := fun y : GW wA => (hqw0.below y.ok (by have := acc.size; omega)).c1
      have hmk := hm k hlt
      have hml := hi.1
      have hml0 := hi0.1
      have hif := fun y : GW wA => impl_isFor (stmA zs k) A' m c' A n c B B2 ps y.val (h.below ((acc.trans (y.ok.mono acc.size)).mono hB)) (hi.keep fun p hp => (acc.trans (y.ok.mono acc.size)).cell (Nat.lt_of_lt_of_le hp hB2)) (Nat.le_trans hB (acc.trans (y.ok.mono acc.size)).size) (Nat.le_trans hB2 (acc.trans (y.ok.mono acc.size)).size) hn (by omega)
      have i1 : (0 : Int) ≤ (k : Int) := by omega
      have i2 : (k : Int) < (n2 : Int) := by omega
      have i0 : (0 : Int) < (n2 : Int) := by omega
      have HK1 : Hid (forS ps (stmA zs k) = false → areM ps zs = false) := Lib.hid (fun e => HNO.out k hlt (goodM1 e))
      have HK2 : Hid (m ≠ m0 → areM ps zs = false) := Lib.hid (fun e => HNO.out k hlt (goodM2 (by rw [hml, hml0]; exact e)))
      have HK3 : Hid (forS ps (stmA zs k) = true → m = m0 → goodM ps zs k = true) := Lib.hid (fun e1 e2 => goodM3 e1 (by rw [hml, hml0]; exact e2))
      clear hk0 hBA hbx hq hq0 hqw0 hi hi0 hml hml0 hmk
      generalize forS ps (stmA zs k) = v at *
      generalize (stmA zs k).path = xp at *
      cases v
      · have HV := Lib.hid (HK1.out rfl)
        clear HK1 HK2 HK3
        go_wp2
        rw [← hwA]
        clear hwA
        refine wp_region_grow (by kernel_rfl) (by kernel_rfl) ?_
        repeat (go_big_quiet_step (first | (go_at_call 123; exact calls_gw _ (hif _))))
        refine wpQuiet_nil ?_
        intro x3
        have hb3 := x3.ok
        generalize x3.val = w3 at *
        go_wp2
        go_ret
        exact ⟨by rw [HV.out]; rfl, acc.trans (hb3.mono acc.size)⟩
      by_cases hmm : m = m0
      · have HGK : Hid (∀ i, i < k + 1 → goodM ps zs i = true) := Lib.hid (fun i hi => by
          by_cases e : i = k
          · subst e; exact HK3.out rfl hmm
          · exact HG.out i (by omega))
        have e2 : ((m : Int) != (m0 : Int)) = false := by simp; omega
        clear HK1 HK2 HK3 hmm
        go_wp2
        rw [← hwA]
        clear hwA
        refine wp_region_grow (by kernel_rfl) (by kernel_rfl) ?_
        repeat (go_big_quiet_step (first | (go_at_call 123; exact calls_gw _ (hif _))))
        refine wpQuiet_nil ?_
        intro x3
        have hb3 := x3.ok
        generalize x3.val = w3 at *
        go_wp2
        go_roundw
        case rel => exact ⟨k + 1, by omega, by go_num, HGK.out, acc.trans (hb3.mono acc.size)⟩
        case measure => simp [intOf]; omega
      · have HV := Lib.hid (HK2.out hmm)
        have e2 : ((m : Int) != (m0 : Int)) = true := by simp; omega
        clear HK1 HK2 HK3
        go_wp2
        rw [← hwA]
        clear hwA
        refine wp_region_grow (by kernel_rfl) (by kernel_rfl) ?_
        repeat (go_big_quiet_step (first | (go_at_call 123; exact calls_gw _ (hif _))))
        refine wpQuiet_nil ?_
        intro x3
        have hb3 := x3.ok
        generalize x3.val = w3 at *
        go_wp2
        go_ret
        exact ⟨by rw [HV.out]; rfl, acc.trans (hb3.mono acc.size)⟩
    · obtain rfl : k = n2 := by omega
      have HR := Lib.hid (HEND.out HG.out)
      go_wp2
      go_ret
      exact ⟨by rw [HR.out]; rfl, hbl⟩
end Go.Proofs.YtgpffbnmdfichaaGreatDoor

/- Chapter 30: StreamWait, PlanWait: the model and the program (written by genstw.py). -/
set_option linter.unusedSimpArgs false
namespace Go.Proofs.YtgpffbnmdfichaaGreatDoor
open Go.RowKit
set_option linter.unusedVariables false

/-- for how many seconds those of a stream wait. -/
def strW (ps : List Pth) (p : List Prt) (x : Stm) : Int := totW (queR x.arrivals (openP ps p x.path 0 (x.arrivals.length : Int)))
theorem queR_len2 (zs : List Int) (bs : List Bool) : (queR zs bs).length ≤ 1000 := by
  cases h : (decide (zs.length = bs.length) && decide (zs.length ≤ 1000) && allQ zs)
  · rw [queR_no h]; exact Nat.zero_le _
  · unfold queR
    rw [h, if_pos rfl, queTo_len]
    simp only [Bool.and_eq_true, decide_eq_true_eq] at h
    exact h.1.2
theorem strW_bound (ps : List Pth) (p : List Prt) (x : Stm) : 0 ≤ strW ps p x ∧ strW ps p x ≤ 10000000 := by
  unfold strW totW
  have h1 := queR_len2 x.arrivals (openP ps p x.path 0 (x.arrivals.length : Int))
  have h2 := sumC_bound 10000 (by decide) (queR x.arrivals (openP ps p x.path 0 (x.arrivals.length : Int))) (queR x.arrivals (openP ps p x.path 0 (x.arrivals.length : Int))).length
  omega
/-- the sum of the first k. -/
def plwK (ps : List Pth) (p : List Prt) (zs : List Stm) : Nat → Int
  | 0 => 0
  | k + 1 => plwK ps p zs k + strW ps p (stmA zs k)
theorem plwK_bound (ps : List Pth) (p : List Prt) (zs : List Stm) : ∀ k : Nat, 0 ≤ plwK ps p zs k ∧ plwK ps p zs k ≤ k * 10000000
  | 0 => by simp [plwK]
  | k + 1 => by
    have := plwK_bound ps p zs k
    have h2 := strW_bound ps p (stmA zs k)
    unfold plwK
    omega
/-- what PlanWait answers. -/
def plwP (ps : List Pth) (p : List Prt) (zs : List Stm) : Int := if areM ps zs && isPlan ps p then plwK ps p zs zs.length else -1
theorem plwP_no {ps : List Pth} {p : List Prt} {zs : List Stm} (h : (areM ps zs && isPlan ps p) = false) : plwP ps p zs = -1 := by unfold plwP; rw [h]; rfl
theorem plwP_yes {ps : List Pth} {p : List Prt} {zs : List Stm} (h : areM ps zs = true) (h2 : isPlan ps p = true) : plwP ps p zs = plwK ps p zs zs.length := by unfold plwP; rw [h, h2]; rfl
theorem cells2S {w : World} {g : Nat} {x0 x1 : Value} {E : TypeId} {fr : Nat × Nat} (h : w.heap[g]? = some (.cells #[x0, x1] E fr)) : w.cell? ⟨g, 0, none⟩ = some x0 ∧ w.cell? ⟨g, 1, none⟩ = some x1 :=
  ⟨(cell_of_row w g 0 _ _ _ h).trans rfl, (cell_of_row w g 1 _ _ _ h).trans rfl⟩
theorem below_drewS {a w : World} (h : Below a.heap.size a w) : Below a.heap.size a w.drew := ⟨h.os, h.tape, h.output, h.size, h.block⟩
theorem queR_small (zs : List Int) (bs : List Bool) : (queR zs bs).length ≤ 1048576 := Nat.le_trans (queR_len2 zs bs) (by decide)
set_option maxHeartbeats 4000000 in
set_option maxRecDepth 100000 in
theorem spec_StreamWait (A : Option Addr) (n c B : Nat) (ps : List Pth) (A2 : Option Addr) (n2 c2 B2 : Nat) (p : List Prt) (w : World) (h : PthsAt w B A n ps) (hB : B ≤ w.heap.size) (hn : n ≤ 4294967296) (h2 : PrtsAt w B2 A2 n2 p) (hB2 : B2 ≤ w.heap.size) (hn2 : n2 ≤ 1048576) (hm : ∀ j, j < n2 → (prAt p j).stage.length ≤ 1048576) (x : Stm) (A3 : Option Addr) (n3 c3 B3 : Nat) (h3 : IntsAt .i64 w B3 A3 n3 x.arrivals) (hB3 : B3 ≤ w.heap.size) (hn3 : n3 ≤ 1048576) :
    Calls Tryz.prog 13 #[.slice A n c, .slice A2 n2 c2, .agg #[.int .i64 x.path, .slice A3 n3 c3]] w fun e w' => e = .returned (.int .i64 (strW ps p x)) ∧ Below w.heap.size w w' := by
  have HOP := Lib.hid (fun id f s y (hy : Below w.heap.size w y) => spec_OpenIn A n c B ps A2 n2 c2 B2 p id f s y (h.below (hy.mono hB)) (Nat.le_trans hB hy.size) hn (h2.below hB2 hy) (Nat.le_trans hB2 hy.size) hn2 hm)
  have hl3 := h3.1
  have HV : Hid (strW ps p x = totW (queR x.arrivals (openP ps p x.path 0 (n3 : Int)))) := Lib.hid (by unfold strW; rw [hl3])
  have H3 := Lib.hid h3
  have hmx : Tryz.prog.follows .mixedOrders = true := by kernel_rfl
  obtain ⟨pt, zs⟩ := x
  simp only at *
  obtain ⟨wA, hwA⟩ : ∃ wA, wA = w.alloc (.cells #[.int .i64 pt, .slice A3 n3 c3] 35) := ⟨_, rfl⟩
  obtain ⟨hk, hsz, hbA⟩ := one_block hwA
  have hkd : wA.drew.heap[w.heap.size]? = some (.cells #[.int .i64 pt, .slice A3 n3 c3] 35) := hk
  have HBD : Hid (Below w.heap.size w wA.drew) := Lib.hid ⟨hbA.os, hbA.tape, hbA.output, hbA.size, hbA.block⟩
  generalize strW ps p ⟨pt, zs⟩ = r at *
  clear hk hsz hbA h h2 hm h3 hl3
  go_enter Tryz.func13, Tryz.ntmps13
  go_wp2
  rw [← hwA]
  clear hwA
  refine wp_region_held_drew (S := fun W' => W'.heap[w.heap.size]? = some (.cells #[.int .i64 pt, .slice A3 n3 c3] 35)) hmx hkd (fun hH => ?_)
  refine wpAnyH_take (i := 0) (v := .pointer (some ⟨w.heap.size, 1, none⟩)) rfl (by kernel_rfl) (by kernel_rfl) (by kernel_rfl) (fun _ _ _ h => h) (Or.inl ⟨by rfl, by intro W' hSw; go_simp⟩) hH ?_
  try simp only [Act.put, List.setIfInBounds_toArray, List.set_cons_zero, List.set_cons_succ]
  refine wpAnyH_take (i := 1) (v := .slice A3 n3 c3) rfl (by kernel_rfl) (by kernel_rfl) (by kernel_rfl) (fun _ _ _ h => h) (Or.inl ⟨by rfl, by intro W' hSw; have hlt' := lt_of_block hSw; obtain ⟨b0, b1⟩ := cells2S hSw; go_simp⟩) hH ?_
  try simp only [Act.put, List.setIfInBounds_toArray, List.set_cons_zero, List.set_cons_succ]
  refine wpAnyH_take (i := 2) (v := .slice A n c) rfl (by kernel_rfl) (by kernel_rfl) (by kernel_rfl) (fun _ _ _ h => h) (Or.inl ⟨by rfl, by intro W' hSw; go_simp⟩) hH ?_
  try simp only [Act.put, List.setIfInBounds_toArray, List.set_cons_zero, List.set_cons_succ]
  refine wpAnyH_take (i := 3) (v := .slice A2 n2 c2) rfl (by kernel_rfl) (by kernel_rfl) (by kernel_rfl) (fun _ _ _ h => h) (Or.inl ⟨by rfl, by intro W' hSw; go_simp⟩) hH ?_
  try simp only [Act.put, List.setIfInBounds_toArray, List.set_cons_zero, List.set_cons_succ]
  refine wpAnyH_take (i := 4) (v := .pointer (some ⟨w.heap.size, 0, none⟩)) rfl (by kernel_rfl) (by kernel_rfl) (by kernel_rfl) (fun _ _ _ h => h) (Or.inl ⟨by rfl, by intro W' hSw; go_simp⟩) hH ?_
  try simp only [Act.put, List.setIfInBounds_toArray, List.set_cons_zero, List.set_cons_succ]
  refine wpAnyH_take (i := 5) (v := .int .i64 pt) rfl (by kernel_rfl) (by kernel_rfl) (by kernel_rfl) (fun _ _ _ h => h) (Or.inl ⟨by rfl, by intro W' hSw; have hlt' := lt_of_block hSw; obtain ⟨b0, b1⟩ := cells2S hSw; go_simp⟩) hH ?_
  try simp only [Act.put, List.setIfInBounds_toArray, List.set_cons_zero, List.set_cons_succ]
  refine wpAnyH_take (i := 6) (v := .pointer (some ⟨w.heap.size, 1, none⟩)) rfl (by kernel_rfl) (by kernel_rfl) (by kernel_rfl) (fun _ _ _ h => h) (Or.inl ⟨by rfl, by intro W' hSw; go_simp⟩) hH ?_
  try simp only [Act.put, List.setIfInBounds_toArray, List.set_cons_zero, List.set_cons_succ]
  refine wpAnyH_take (i := 7) (v := .slice A3 n3 c3) rfl (by kernel_rfl) (by kernel_rfl) (by kernel_rfl) (fun _ _ _ h => h) (Or.inl ⟨by rfl, by intro W' hSw; have hlt' := lt_of_block hSw; obtain ⟨b0, b1⟩ := cells2S hSw; go_simp⟩) hH ?_
  try simp only [Act.put, List.setIfInBounds_toArray, List.set_cons_zero, List.set_cons_succ]
  refine wpAnyH_take (i := 8) (v := .int .i64 (n3 : Int)) rfl (by kernel_rfl) (by kernel_rfl) (by kernel_rfl) (fun _ _ _ h => h) (Or.inl ⟨by rfl, by intro W' hSw; go_simp⟩) hH ?_
  try simp only [Act.put, List.setIfInBounds_toArray, List.set_cons_zero, List.set_cons_succ]
  refine wpAnyH_ready (rs := [9]) (by decide +kernel) (by simp) (AllReadyH.cons rfl (fun K' hK => ?_) AllReadyH.nil)
  go_simp
  refine (HOP.out pt 0 (n3 : Int) _ HBD.out).mono ?_
  rintro e w2 ⟨v2, rfl, ho2, hb2⟩
  obtain ⟨A4, c4, rfl⟩ := ho2.sliced
  have hk2 := (hb2.block _ (lt_of_block hkd)).trans hkd
  have HB2 := Lib.hid (HBD.out.trans (hb2.mono HBD.out.size))
  have HI2 := Lib.hid ho2.bls
  have HL2 : Hid ((openP ps p pt 0 (n3 : Int)).length ≤ 4294967296) := Lib.hid (Nat.le_trans (openP_len ps p pt 0 (n3 : Int)) (by decide))
  clear hb2 ho2
  generalize openP ps p pt 0 (n3 : Int) = bs at *
  go_wp2_with fail
  refine hK.out _ _ hk2 (fun _ => ?_)
  clear hK K'
  try simp only [Act.put, List.setIfInBounds_toArray, List.set_cons_zero, List.set_cons_succ]
  refine wpAnyH_ready (rs := [10]) (by decide +kernel) (by simp) (AllReadyH.cons rfl (fun K' hK => ?_) AllReadyH.nil)
  go_simp
  refine (spec_QueueRun A3 n3 c3 B3 zs A4 bs.length c4 w2.heap.size bs w2 (H3.out.keep fun p hp => HB2.out.cell (by omega)) (by have := HB2.out.size; omega) (by omega) HI2.out (Nat.le_refl _) HL2.out).mono ?_
  rintro e w3 ⟨v3, rfl, ho3, hb3⟩
  obtain ⟨A5, c5, rfl⟩ := ho3.sliced
  have hk3 := (hb3.block _ (lt_of_block hk2)).trans hk2
  have HB3 := Lib.hid (HB2.out.trans (hb3.mono HB2.out.size))
  have HI3 := Lib.hid ho3.ints
  have HL3 := Lib.hid (queR_small zs bs)
  clear hb3 ho3
  generalize queR zs bs = qs at *
  go_wp2_with fail
  refine hK.out _ _ hk3 (fun _ => ?_)
  clear hK K'
  try simp only [Act.put, List.setIfInBounds_toArray, List.set_cons_zero, List.set_cons_succ]
  refine wpAnyH_ready (rs := [11]) (by decide +kernel) (by simp) (AllReadyH.cons rfl (fun K' hK => ?_) AllReadyH.nil)
  go_simp
  refine (spec_TotalWait A5 qs.length c5 _ qs w3 HI3.out (Nat.le_refl _) HL3.out).mono ?_
  rintro e w4 ⟨rfl, hb4⟩
  have hk4 := (hb4.block _ (lt_of_block hk3)).trans hk3
  have HB4 := Lib.hid (HB3.out.trans (hb4.mono HB3.out.size))
  clear hb4
  go_wp2_with fail
  refine hK.out _ _ hk4 (fun _ => ?_)
  clear hK K'
  try simp only [Act.put, List.setIfInBounds_toArray, List.set_cons_zero, List.set_cons_succ]
  refine wpAnyH_ready (rs := [12]) (by decide +kernel) (by simp) (AllReadyH.cons rfl (fun K' hK => ?_) AllReadyH.nil)
  go_simp
  refine hK.out _ _ hk4 (fun _ => ?_)
  clear hK K'
  try simp only [Act.put, List.setIfInBounds_toArray, List.set_cons_zero, List.set_cons_succ]
  refine wpAnyH_done (by decide +kernel) ?_ _
  go_wp2
  go_ret
  exact ⟨by rw [HV.out]; rfl, HB4.out⟩
set_option maxHeartbeats 4000000 in
set_option maxRecDepth 100000 in
theorem spec_PlanWait (A : Option Addr) (n c B : Nat) (ps : List Pth) (A2 : Option Addr) (n2 c2 B2 : Nat) (p : List Prt) (w : World) (h : PthsAt w B A n ps) (hB : B ≤ w.heap.size) (hn : n ≤ 4294967296) (h2 : PrtsAt w B2 A2 n2 p) (hB2 : B2 ≤ w.heap.size) (hn2 : n2 ≤ 1048576) (hm : ∀ j, j < n2 → (prAt p j).stage.length ≤ 1048576) (A3 : Option Addr) (n3 c3 B3 : Nat) (zs : List Stm) (h3 : StmsAt w B3 A3 n3 zs) (hB3 : B3 ≤ w.heap.size) (hn3 : n3 ≤ 1048576) (hm3 : ∀ j, j < n3 → (stmA zs j).arrivals.length ≤ 1048576) :
    Calls Tryz.prog 22 #[.slice A n c, .slice A2 n2 c2, .slice A3 n3 c3] w fun e w' => e = .returned (.int .i64 (plwP ps p zs)) ∧ Below w.heap.size w w' := by
  have HAS := Lib.hid (spec_AreStreams A n c B ps A3 n3 c3 B3 zs w h h3 hB hB3 hn (by omega) (fun j hj => Nat.le_trans (hm3 j hj) (by decide)))
  have HIP := Lib.hid (fun y (hy : Below w.heap.size w y) => spec_IsPlan A n c B ps A2 n2 c2 B2 p y (h.below (hy.mono hB)) (Nat.le_trans hB hy.size) hn (h2.below hB2 hy) (Nat.le_trans hB2 hy.size) hn2 hm)
  have HSW := Lib.hid (fun x A4 n4 c4 B4 y (hy : Below w.heap.size w y) => spec_StreamWait A n c B ps A2 n2 c2 B2 p y (h.below (hy.mono hB)) (Nat.le_trans hB hy.size) hn (h2.below hB2 hy) (Nat.le_trans hB2 hy.size) hn2 hm x A4 n4 c4 B4)
  have hl3 := h3.1
  have HV := Lib.hid (fun a b => plwP_yes (ps := ps) (p := p) (zs := zs) a b)
  rw [hl3] at HV
  have HNO := Lib.hid (fun hh => plwP_no (ps := ps) (p := p) (zs := zs) hh)
  have H3 := Lib.hid h3
  have HM3 := Lib.hid hm3
  clear h h2 hm h3 hm3 hl3
  generalize plwP ps p zs = r at *
  cases hs : areM ps zs
  · have HR := Lib.hid (HNO.out (by rw [hs]; rfl))
    rw [hs] at HAS
    clear hs HV HNO
    go_enter Tryz.func22, Tryz.ntmps22
    go_wp2_with fail
    refine HAS.out.mono ?_
    rintro e w1 ⟨rfl, hb1⟩
    go_wp2
    go_ret
    exact ⟨by rw [HR.out]; try rfl, hb1⟩
  rw [hs] at HAS
  cases hp : isPlan ps p
  · have HR := Lib.hid (HNO.out (by rw [hp, Bool.and_false]))
    rw [hp] at HIP
    clear hs hp HV HNO
    go_enter Tryz.func22, Tryz.ntmps22
    go_wp2_with fail
    refine HAS.out.mono ?_
    rintro e w1 ⟨rfl, hb1⟩
    have HB1 := Lib.hid hb1
    go_wp2_with fail
    refine (HIP.out w1 hb1).mono ?_
    rintro e w2 ⟨rfl, hb2⟩
    go_wp2
    go_ret
    exact ⟨by rw [HR.out]; try rfl, HB1.out.trans (hb2.mono HB1.out.size)⟩
  have HR := Lib.hid (HV.out hs hp)
  rw [hp] at HIP
  clear hs hp HV HNO
  go_enter Tryz.func22, Tryz.ntmps22
  go_wp2_with fail
  refine HAS.out.mono ?_
  rintro e w1 ⟨rfl, hb1⟩
  have HB1 := Lib.hid hb1
  go_wp2_with fail
  refine (HIP.out w1 hb1).mono ?_
  rintro e w2 ⟨rfl, hb2⟩
  have HB2 := Lib.hid (HB1.out.trans (hb2.mono HB1.out.size))
  clear hb1 hb2
  go_wp2
  go_loopw [7, 8] (fun v i wr => ∃ k : Nat, k ≤ n3 ∧ i = .int .i64 k ∧ v = .int .i64 (plwK ps p zs k) ∧ Below w.heap.size w wr) (fun _ i _ => n3 - (intOf i).toNat)
  case atStart => exact ⟨0, Nat.zero_le _, rfl, rfl, HB2.out⟩
  case round =>
    clear HB1 HB2
    obtain ⟨k, hk, rfl, rfl, hbl⟩ := hrel
    have HBL := Lib.hid hbl
    have hsz := hbl.size
    clear hbl
    by_cases hlt : k < n3
    · obtain ⟨ad, A', m, c', rfl, hab, hq, hi, hmc, hnil⟩ := H3.out.at hlt
      obtain ⟨c0, c1⟩ := hq.below (HBL.out.mono hB3) hab
      have HI := Lib.hid hi
      have hl := hi.1
      have hm4 := HM3.out k hlt
      have hb1 := plwK_bound ps p zs k
      have hb2 := strW_bound ps p (stmA zs k)
      have e1 : IntKind.i64.wrap (plwK ps p zs k + strW ps p (stmA zs k)) = plwK ps p zs k + strW ps p (stmA zs k) := by rw [IntKind.wrap_i64]; omega
      have HK : Hid (plwK ps p zs (k + 1) = plwK ps p zs k + strW ps p (stmA zs k)) := Lib.hid rfl
      have i1 : (0 : Int) ≤ (k : Int) := by omega
      have i2 : (k : Int) < (n3 : Int) := by omega
      clear hq hi
      obtain ⟨x, hx⟩ : ∃ x, stmA zs k = x := ⟨_, rfl⟩
      rw [hx] at c0 HI hl hm4 hb2 e1 HK
      clear hx
      have hmm : m ≤ 1048576 := by omega
      clear hl
      obtain ⟨wf, hwf⟩ : ∃ wf, wf = wr.alloc (.cells #[.int .i64 x.path, .slice A' m c'] 35) := ⟨_, rfl⟩
      have hbf : Below wr.heap.size wr wf := by rw [hwf]; exact (Below.refl _ _).alloc (Nat.le_refl _) _
      have HBF := Lib.hid (HBL.out.trans (hbf.mono hsz))
      clear hbf
      have HC := Lib.hid (HSW.out x A' m c' B3 wr HBL.out (HI.out.keep fun p hp => HBL.out.cell (by omega)) (by have := HBL.out.size; omega) hmm)
      generalize strW ps p x = sx at *
      generalize plwK ps p zs k = sk at *
      go_wp2_with fail
      clear hwf
      refine HC.out.mono ?_
      rintro e w5 ⟨rfl, hb5⟩
      have HB5 := Lib.hid (HBL.out.trans (hb5.mono HBL.out.size))
      clear hb5 c0 c1
      go_wp2
      go_roundw
      case rel => exact ⟨k + 1, by omega, by go_num, by rw [HK.out], HB5.out⟩
      case measure => simp [intOf]; omega
    · obtain rfl : k = n3 := by omega
      go_wp2
      go_ret
      exact ⟨by rw [HR.out]; rfl, HBL.out⟩
set_option maxHeartbeats 4000000 in
set_option maxRecDepth 100000 in
theorem impl_StreamWait {w : World} {A : Option Addr} {n c B : Nat} {ps : List Pth} {A2 : Option Addr} {n2 c2 B2 : Nat} {p : List Prt} (I : PlnIn w A n c B ps A2 n2 c2 B2 p) (x : Stm) (A3 : Option Addr) (n3 c3 B3 : Nat) (h3 : IntsAt .i64 w B3 A3 n3 x.arrivals) (hB3 : B3 ≤ w.heap.size) (hn3 : n3 ≤ 1048576) :
    Calls Tryz.prog 17 #[.slice A n c, .slice A2 n2 c2, .agg #[.int .i64 x.path, .slice A3 n3 c3]] w fun e w' => e = .returned (.int .i64 (strW ps p x)) ∧ Below w.heap.size w w' := by
  have HOP := Lib.hid (fun id f s y (hy : Below w.heap.size w y) => impl_OpenIn (I.below hy) id f s)
  have hl3 := h3.1
  have HV : Hid (strW ps p x = totW (queR x.arrivals (openP ps p x.path 0 (n3 : Int)))) := Lib.hid (by unfold strW; rw [hl3])
  have H3 := Lib.hid h3
  have hmx : Tryz.prog.follows .mixedOrders = true := by kernel_rfl
  obtain ⟨pt, zs⟩ := x
  simp only at *
  obtain ⟨wA, hwA⟩ : ∃ wA, wA = w.alloc (.cells #[.int .i64 pt, .slice A3 n3 c3] 35) := ⟨_, rfl⟩
  obtain ⟨hk, hsz, hbA⟩ := one_block hwA
  have hkd : wA.drew.heap[w.heap.size]? = some (.cells #[.int .i64 pt, .slice A3 n3 c3] 35) := hk
  have HBD : Hid (Below w.heap.size w wA.drew) := Lib.hid ⟨hbA.os, hbA.tape, hbA.output, hbA.size, hbA.block⟩
  generalize strW ps p ⟨pt, zs⟩ = r at *
  clear hk hsz hbA I h3 hl3
  go_enter Tryz.func17, Tryz.ntmps17
  go_wp2
  rw [← hwA]
  clear hwA
  refine wp_region_held_drew (S := fun W' => W'.heap[w.heap.size]? = some (.cells #[.int .i64 pt, .slice A3 n3 c3] 35)) hmx hkd (fun hH => ?_)
  refine wpAnyH_take (i := 0) (v := .pointer (some ⟨w.heap.size, 1, none⟩)) rfl (by kernel_rfl) (by kernel_rfl) (by kernel_rfl) (fun _ _ _ h => h) (Or.inl ⟨by rfl, by intro W' hSw; go_simp⟩) hH ?_
  try simp only [Act.put, List.setIfInBounds_toArray, List.set_cons_zero, List.set_cons_succ]
  refine wpAnyH_take (i := 1) (v := .slice A3 n3 c3) rfl (by kernel_rfl) (by kernel_rfl) (by kernel_rfl) (fun _ _ _ h => h) (Or.inl ⟨by rfl, by intro W' hSw; have hlt' := lt_of_block hSw; obtain ⟨b0, b1⟩ := cells2S hSw; go_simp⟩) hH ?_
  try simp only [Act.put, List.setIfInBounds_toArray, List.set_cons_zero, List.set_cons_succ]
  refine wpAnyH_take (i := 2) (v := .slice A n c) rfl (by kernel_rfl) (by kernel_rfl) (by kernel_rfl) (fun _ _ _ h => h) (Or.inl ⟨by rfl, by intro W' hSw; go_simp⟩) hH ?_
  try simp only [Act.put, List.setIfInBounds_toArray, List.set_cons_zero, List.set_cons_succ]
  refine wpAnyH_take (i := 3) (v := .slice A2 n2 c2) rfl (by kernel_rfl) (by kernel_rfl) (by kernel_rfl) (fun _ _ _ h => h) (Or.inl ⟨by rfl, by intro W' hSw; go_simp⟩) hH ?_
  try simp only [Act.put, List.setIfInBounds_toArray, List.set_cons_zero, List.set_cons_succ]
  refine wpAnyH_take (i := 4) (v := .pointer (some ⟨w.heap.size, 0, none⟩)) rfl (by kernel_rfl) (by kernel_rfl) (by kernel_rfl) (fun _ _ _ h => h) (Or.inl ⟨by rfl, by intro W' hSw; go_simp⟩) hH ?_
  try simp only [Act.put, List.setIfInBounds_toArray, List.set_cons_zero, List.set_cons_succ]
  refine wpAnyH_take (i := 5) (v := .int .i64 pt) rfl (by kernel_rfl) (by kernel_rfl) (by kernel_rfl) (fun _ _ _ h => h) (Or.inl ⟨by rfl, by intro W' hSw; have hlt' := lt_of_block hSw; obtain ⟨b0, b1⟩ := cells2S hSw; go_simp⟩) hH ?_
  try simp only [Act.put, List.setIfInBounds_toArray, List.set_cons_zero, List.set_cons_succ]
  refine wpAnyH_take (i := 6) (v := .pointer (some ⟨w.heap.size, 1, none⟩)) rfl (by kernel_rfl) (by kernel_rfl) (by kernel_rfl) (fun _ _ _ h => h) (Or.inl ⟨by rfl, by intro W' hSw; go_simp⟩) hH ?_
  try simp only [Act.put, List.setIfInBounds_toArray, List.set_cons_zero, List.set_cons_succ]
  refine wpAnyH_take (i := 7) (v := .slice A3 n3 c3) rfl (by kernel_rfl) (by kernel_rfl) (by kernel_rfl) (fun _ _ _ h => h) (Or.inl ⟨by rfl, by intro W' hSw; have hlt' := lt_of_block hSw; obtain ⟨b0, b1⟩ := cells2S hSw; go_simp⟩) hH ?_
  try simp only [Act.put, List.setIfInBounds_toArray, List.set_cons_zero, List.set_cons_succ]
  refine wpAnyH_take (i := 8) (v := .int .i64 (n3 : Int)) rfl (by kernel_rfl) (by kernel_rfl) (by kernel_rfl) (fun _ _ _ h => h) (Or.inl ⟨by rfl, by intro W' hSw; go_simp⟩) hH ?_
  try simp only [Act.put, List.setIfInBounds_toArray, List.set_cons_zero, List.set_cons_succ]
  refine wpAnyH_ready (rs := [9]) (by decide +kernel) (by simp) (AllReadyH.cons rfl (fun K' hK => ?_) AllReadyH.nil)
  go_simp
  refine (HOP.out pt 0 (n3 : Int) _ HBD.out).mono ?_
  rintro e w2 ⟨v2, rfl, ho2, hb2⟩
  obtain ⟨A4, c4, rfl⟩ := ho2.sliced
  have hk2 := (hb2.block _ (lt_of_block hkd)).trans hkd
  have HB2 := Lib.hid (HBD.out.trans (hb2.mono HBD.out.size))
  have HI2 := Lib.hid ho2.bls
  have HL2 : Hid ((openP ps p pt 0 (n3 : Int)).length ≤ 4294967296) := Lib.hid (Nat.le_trans (openP_len ps p pt 0 (n3 : Int)) (by decide))
  clear hb2 ho2
  generalize openP ps p pt 0 (n3 : Int) = bs at *
  go_wp2_with fail
  refine hK.out _ _ hk2 (fun _ => ?_)
  clear hK K'
  try simp only [Act.put, List.setIfInBounds_toArray, List.set_cons_zero, List.set_cons_succ]
  refine wpAnyH_ready (rs := [10]) (by decide +kernel) (by simp) (AllReadyH.cons rfl (fun K' hK => ?_) AllReadyH.nil)
  go_simp
  refine (impl_QueueRun A3 n3 c3 B3 zs A4 bs.length c4 w2.heap.size bs w2 (H3.out.keep fun p hp => HB2.out.cell (by omega)) (by have := HB2.out.size; omega) (by omega) HI2.out (Nat.le_refl _) HL2.out).mono ?_
  rintro e w3 ⟨v3, rfl, ho3, hb3⟩
  obtain ⟨A5, c5, rfl⟩ := ho3.sliced
  have hk3 := (hb3.block _ (lt_of_block hk2)).trans hk2
  have HB3 := Lib.hid (HB2.out.trans (hb3.mono HB2.out.size))
  have HI3 := Lib.hid ho3.ints
  have HL3 := Lib.hid (queR_small zs bs)
  clear hb3 ho3
  generalize queR zs bs = qs at *
  go_wp2_with fail
  refine hK.out _ _ hk3 (fun _ => ?_)
  clear hK K'
  try simp only [Act.put, List.setIfInBounds_toArray, List.set_cons_zero, List.set_cons_succ]
  refine wpAnyH_ready (rs := [11]) (by decide +kernel) (by simp) (AllReadyH.cons rfl (fun K' hK => ?_) AllReadyH.nil)
  go_simp
  refine (impl_TotalWait A5 qs.length c5 _ qs w3 HI3.out (Nat.le_refl _) HL3.out).mono ?_
  rintro e w4 ⟨rfl, hb4⟩
  have hk4 := (hb4.block _ (lt_of_block hk3)).trans hk3
  have HB4 := Lib.hid (HB3.out.trans (hb4.mono HB3.out.size))
  clear hb4
  go_wp2_with fail
  refine hK.out _ _ hk4 (fun _ => ?_)
  clear hK K'
  try simp only [Act.put, List.setIfInBounds_toArray, List.set_cons_zero, List.set_cons_succ]
  refine wpAnyH_ready (rs := [12]) (by decide +kernel) (by simp) (AllReadyH.cons rfl (fun K' hK => ?_) AllReadyH.nil)
  go_simp
  refine hK.out _ _ hk4 (fun _ => ?_)
  clear hK K'
  try simp only [Act.put, List.setIfInBounds_toArray, List.set_cons_zero, List.set_cons_succ]
  refine wpAnyH_done (by decide +kernel) ?_ _
  go_wp2
  go_ret
  exact ⟨by rw [HV.out]; rfl, HB4.out⟩
set_option maxHeartbeats 4000000 in
set_option maxRecDepth 100000 in
theorem impl_PlanWait {w : World} {A : Option Addr} {n c B : Nat} {ps : List Pth} {A2 : Option Addr} {n2 c2 B2 : Nat} {p : List Prt} (I : PlnIn w A n c B ps A2 n2 c2 B2 p) (A3 : Option Addr) (n3 c3 B3 : Nat) (zs : List Stm) (h3 : StmsAt w B3 A3 n3 zs) (hB3 : B3 ≤ w.heap.size) (hn3 : n3 ≤ 1048576) (hm3 : ∀ j, j < n3 → (stmA zs j).arrivals.length ≤ 1048576) :
    Calls Tryz.prog 24 #[.slice A n c, .slice A2 n2 c2, .slice A3 n3 c3] w fun e w' => e = .returned (.int .i64 (plwP ps p zs)) ∧ Below w.heap.size w w' := by
  have HAS := Lib.hid (impl_AreStreams A n c B ps A3 n3 c3 B3 zs w I.h h3 I.hB hB3 I.hn4 (by omega) (fun j hj => Nat.le_trans (hm3 j hj) (by decide)))
  have HIP := Lib.hid (fun y (hy : Below w.heap.size w y) => impl_IsPlan (I.below hy))
  have HSW := Lib.hid (fun x A4 n4 c4 B4 y (hy : Below w.heap.size w y) => impl_StreamWait (I.below hy) x A4 n4 c4 B4)
  have hl3 := h3.1
  have HV := Lib.hid (fun a b => plwP_yes (ps := ps) (p := p) (zs := zs) a b)
  rw [hl3] at HV
  have HNO := Lib.hid (fun hh => plwP_no (ps := ps) (p := p) (zs := zs) hh)
  have H3 := Lib.hid h3
  have HM3 := Lib.hid hm3
  clear I h3 hm3 hl3
  generalize plwP ps p zs = r at *
  cases hs : areM ps zs
  · have HR := Lib.hid (HNO.out (by rw [hs]; rfl))
    rw [hs] at HAS
    clear hs HV HNO
    go_enter Tryz.func24, Tryz.ntmps24
    go_wp2_with fail
    refine HAS.out.mono ?_
    rintro e w1 ⟨rfl, hb1⟩
    go_wp2
    go_ret
    exact ⟨by rw [HR.out]; try rfl, hb1⟩
  rw [hs] at HAS
  cases hp : isPlan ps p
  · have HR := Lib.hid (HNO.out (by rw [hp, Bool.and_false]))
    rw [hp] at HIP
    clear hs hp HV HNO
    go_enter Tryz.func24, Tryz.ntmps24
    go_wp2_with fail
    refine HAS.out.mono ?_
    rintro e w1 ⟨rfl, hb1⟩
    have HB1 := Lib.hid hb1
    go_wp2_with fail
    refine (HIP.out w1 hb1).mono ?_
    rintro e w2 ⟨rfl, hb2⟩
    go_wp2
    go_ret
    exact ⟨by rw [HR.out]; try rfl, HB1.out.trans (hb2.mono HB1.out.size)⟩
  have HR := Lib.hid (HV.out hs hp)
  rw [hp] at HIP
  clear hs hp HV HNO
  go_enter Tryz.func24, Tryz.ntmps24
  go_wp2_with fail
  refine HAS.out.mono ?_
  rintro e w1 ⟨rfl, hb1⟩
  have HB1 := Lib.hid hb1
  go_wp2_with fail
  refine (HIP.out w1 hb1).mono ?_
  rintro e w2 ⟨rfl, hb2⟩
  have HB2 := Lib.hid (HB1.out.trans (hb2.mono HB1.out.size))
  clear hb1 hb2
  go_wp2
  go_loopw [7, 22] (fun v i wr => ∃ k : Nat, k ≤ n3 ∧ i = .int .i64 k ∧ v = .int .i64 (plwK ps p zs k) ∧ Below w.heap.size w wr) (fun _ i _ => n3 - (intOf i).toNat)
  case atStart => exact ⟨0, Nat.zero_le _, rfl, rfl, HB2.out⟩
  case round =>
    clear HB1 HB2
    obtain ⟨k, hk, rfl, rfl, hbl⟩ := hrel
    have HBL := Lib.hid hbl
    have hsz := hbl.size
    clear hbl
    by_cases hlt : k < n3
    · obtain ⟨ad, A', m, c', rfl, hab, hq, hi, hmc, hnil⟩ := H3.out.at hlt
      obtain ⟨c0, c1⟩ := hq.below (HBL.out.mono hB3) hab
      have HI := Lib.hid hi
      have hl := hi.1
      have hm4 := HM3.out k hlt
      have hb1 := plwK_bound ps p zs k
      have hb2 := strW_bound ps p (stmA zs k)
      have e1 : IntKind.i64.wrap (plwK ps p zs k + strW ps p (stmA zs k)) = plwK ps p zs k + strW ps p (stmA zs k) := by rw [IntKind.wrap_i64]; omega
      have HK : Hid (plwK ps p zs (k + 1) = plwK ps p zs k + strW ps p (stmA zs k)) := Lib.hid rfl
      have i1 : (0 : Int) ≤ (k : Int) := by omega
      have i2 : (k : Int) < (n3 : Int) := by omega
      clear hq hi
      obtain ⟨x, hx⟩ : ∃ x, stmA zs k = x := ⟨_, rfl⟩
      rw [hx] at c0 HI hl hm4 hb2 e1 HK
      clear hx
      have hmm : m ≤ 1048576 := by omega
      clear hl
      obtain ⟨wf, hwf⟩ : ∃ wf, wf = wr.alloc (.cells #[.int .i64 x.path, .slice A' m c'] 35) := ⟨_, rfl⟩
      have hbf : Below wr.heap.size wr wf := by rw [hwf]; exact (Below.refl _ _).alloc (Nat.le_refl _) _
      have HBF := Lib.hid (HBL.out.trans (hbf.mono hsz))
      clear hbf
      have HC := Lib.hid (HSW.out x A' m c' B3 wf HBF.out (HI.out.keep fun p hp => HBF.out.cell (by omega)) (by have := HBF.out.size; omega) hmm)
      generalize strW ps p x = sx at *
      generalize plwK ps p zs k = sk at *
      go_wp2_with fail
      rw [← hwf]
      clear hwf
      refine HC.out.mono ?_
      rintro e w5 ⟨rfl, hb5⟩
      have HB5 := Lib.hid (HBF.out.trans (hb5.mono HBF.out.size))
      clear hb5 c0 c1
      go_wp2
      go_roundw
      case rel => exact ⟨k + 1, by omega, by go_num, by rw [HK.out], HB5.out⟩
      case measure => simp [intOf]; omega
    · obtain rfl : k = n3 := by omega
      go_wp2
      go_ret
      exact ⟨by rw [HR.out]; rfl, HBL.out⟩
end Go.Proofs.YtgpffbnmdfichaaGreatDoor

/- PlanWait as its exact law meets it. -/
namespace Go.Proofs.YtgpffbnmdfichaaGreatDoor
open Go.RowKit
set_option linter.unusedVariables false

theorem sp_PlanWait (A0 : Option Addr) (n0 c0 : Nat) (zs0 : List Pth) (A1 : Option Addr) (n1 c1 : Nat) (zs1 : List Prt) (A2 : Option Addr) (n2 c2 : Nat) (zs2 : List Stm) (w : World) (h0 : SlP w A0 n0 c0 zs0) (hs0 : n0 ≤ 1048576) (h1 : SlQ w A1 n1 c1 zs1) (hs1 : SmallP zs1) (h2 : SlStm w A2 n2 c2 zs2) (hs2 : SmallStm zs2) (r : Int) (hr : plwP zs0 zs1 zs2 = r) :
    Calls Tryz.prog 22 #[.slice A0 n0 c0, .slice A1 n1 c1, .slice A2 n2 c2] w fun e w' => e = .returned (.int .i64 r) ∧ Below w.heap.size w w' := by
  subst hr
  have hq1 := h1.prts.1
  have hz1 := hs1.1
  have hq2 := h2.pths.1
  have hz2 := hs2.1
  exact spec_PlanWait A0 n0 c0 _ zs0 A1 n1 c1 _ zs1 w h0.pths (Nat.le_refl _) (by omega) h1.prts (Nat.le_refl _) (by omega) (hs1.at _ _ hq1.symm (Nat.le_refl _)) A2 n2 c2 _ zs2 h2.pths (Nat.le_refl _) (by omega) (fun j hj => Nat.le_trans (hs2.2 j (by omega)) (by decide))
theorem im_PlanWait (A0 : Option Addr) (n0 c0 : Nat) (zs0 : List Pth) (A1 : Option Addr) (n1 c1 : Nat) (zs1 : List Prt) (A2 : Option Addr) (n2 c2 : Nat) (zs2 : List Stm) (w : World) (h0 : SlP w A0 n0 c0 zs0) (hs0 : n0 ≤ 1048576) (h1 : SlQ w A1 n1 c1 zs1) (hs1 : SmallP zs1) (h2 : SlStm w A2 n2 c2 zs2) (hs2 : SmallStm zs2) (hv0 : Brus w) (hv1 : Clrs w) (r : Int) (hr : plwP zs0 zs1 zs2 = r) :
    Calls Tryz.prog 24 #[.slice A0 n0 c0, .slice A1 n1 c1, .slice A2 n2 c2] w fun e w' => e = .returned (.int .i64 r) ∧ Below w.heap.size w w' := by
  subst hr
  have hq1 := h1.prts.1
  have hz1 := hs1.1
  have hq2 := h2.pths.1
  have hz2 := hs2.1
  exact impl_PlanWait ⟨h0.pths, Nat.le_refl _, h0.cap, by omega, h1.prts, Nat.le_refl _, by omega, hs1.at _ _ hq1.symm (Nat.le_refl _), hv0, hv1⟩ A2 n2 c2 _ zs2 h2.pths (Nat.le_refl _) (by omega) (fun j hj => Nat.le_trans (hs2.2 j (by omega)) (by decide))
end Go.Proofs.YtgpffbnmdfichaaGreatDoor

/- A law's arguments that are rows of parts. -/
namespace Go.Proofs.YtgpffbnmdfichaaGreatDoor
open Go.ChangeShapes Go.WideShapes Go.ChangeAt Go.RowKit Go.Joins
open Go.Deep (oneCellFields open_slice hone_of)

section
variable {H : Type} {enc : TypeId × Value → H} {P : Program}
/-- A slice of parts that came in. -/
theorem arg_prts {t e i : TypeId} {f0 f1 : Field} {W : World} {base : Nat} {v : Value} {d : DataW H} {ps : List MemPlace} (ht : P.underlying t = some (.slice e)) (he : P.underlying e = some (.struct #[f0, f1])) (hone : oneCellFields P #[f0, f1] = true) (hC : P.cellsOf e = 2)
    (h0 : P.underlying f0.type = some (.slice i)) (hi : P.underlying i = some (.int .i64)) (hci : P.cellsOf i = 1) (h1 : P.underlying f1.type = some (.int .i64))
    (hval : Value.okWide P W .any base t v) (hd : DataW.Trod enc P W 0 (fun _ => true) true t v d ps) (hlt : ∀ x ∈ ps, x.block < W.heap.size) :
    ∃ (A : Option Addr) (n c : Nat) (zs : List Prt), v = .slice A n c ∧ (PrtsAt W W.heap.size A n zs ∧ (∀ z ∈ zs, z.wf) ∧ n ≤ c ∧ c ≤ maxLen) := by
  obtain ⟨a, len, cap, rfl⟩ := okWide_slice ht hval
  obtain ⟨fuel, hf⟩ := hd
  rcases open_slice_fields ht he hone (by rw [hC]; rfl) hf with ⟨h1, _⟩ | ⟨a', len', cap', m, D, Pl, hcs, _, hl, hm, hmm, hx, hii⟩
  · have h1' : [Value.slice a len cap] = [Value.slice none 0 0] := h1
    simp only [List.cons.injEq, and_true] at h1'
    exact ⟨none, 0, 0, [], h1', ⟨rfl, fun h => absurd h (by omega)⟩, by simp, Nat.le_refl _, Nat.zero_le _⟩
  · have h1' : [Value.slice a len cap] = [Value.slice (some a') len' cap'] := hcs
    simp only [List.cons.injEq, and_true] at h1'
    rw [if_pos rfl] at hmm
    subst hmm
    have hps : ps = MemPlace.row a' (m * 2) ++ (List.range m).flatMap Pl := congrArg Prod.snd hx
    obtain ⟨zs, hzl, hz⟩ := choose_upto (n := len') (R := fun j (p : Prt) => p.wf ∧ ∃ A' m' c', PrtAt W (a'.add (j * 2)) (.slice A' m' c') p.green ∧ IntsAt .i64 W W.heap.size A' m' p.stage ∧ (m' ≤ c' ∧ c' ≤ maxLen) ∧ (A' = none → m' = 0 ∧ c' = 0)) (fun j hjl => by
      obtain ⟨ys, n, _, hPl, _, hj⟩ := hii j (by omega)
      obtain ⟨v0, y0, c0, g0, t0⟩ := hj 0 f0 rfl
      obtain ⟨v1, y1, c1, _, t1⟩ := hj 1 f1 rfl
      obtain ⟨x1, rfl, w1, -⟩ := cell_int h1 t1
      have c1' : W.cell? ⟨(a'.add (j * 2)).block, (a'.add (j * 2)).off + 1, none⟩ = some (.int .i64 x1) := by
        rw [← add_plus _ 1 (by decide), add_add]
        exact c1
      rcases open_ints h0 hi hci t0 with ⟨h2, _⟩ | ⟨b, l2, cp2, zs, h2, _, hl2, hm2, hzl2, hx2, hc2, hwf2⟩
      · simp only [List.cons.injEq, and_true] at h2
        exact ⟨⟨[], x1⟩, ⟨Nat.zero_le _, by simp, w1⟩, none, 0, 0, ⟨by rw [← h2]; exact c0, c1'⟩, ⟨rfl, fun h => absurd h (by omega)⟩, ⟨Nat.le_refl _, Nat.zero_le _⟩, fun _ => ⟨rfl, rfl⟩⟩
      · simp only [List.cons.injEq, and_true] at h2
        rw [if_pos rfl] at hzl2
        refine ⟨⟨zs.take l2, x1⟩, ⟨by simp only [List.length_take]; omega, fun z hzm => hwf2 z (List.mem_of_mem_take hzm), w1⟩, some b, l2, cp2, ⟨by rw [← h2]; exact c0, c1'⟩, ⟨by simp only [List.length_take]; omega, fun hn => ⟨b, rfl, ?_, fun q hq => ?_⟩⟩, ⟨hl2, hm2⟩, by simp⟩
        · have hmem : MemPlace.cell b.block (b.off + 0) ∈ ps := by
            rw [hps]
            refine List.mem_append_right _ (List.mem_flatMap.2 ⟨j, List.mem_range.2 (by omega), ?_⟩)
            rw [hPl]
            refine List.mem_flatMap.2 ⟨y0, List.mem_of_getElem? g0, ?_⟩
            have e2 : y0.2 = MemPlace.row b zs.length := congrArg Prod.snd hx2
            rw [e2]
            exact List.mem_map.2 ⟨0, List.mem_range.2 (by omega), rfl⟩
          exact hlt _ hmem
        · rw [hc2 q (by omega)]
          simp [List.getD_eq_getElem?_getD, hq])
    refine ⟨some a', len', m, zs, h1', ⟨hzl, fun hn => ⟨a', rfl, ?_, fun j hj => ?_⟩⟩, fun z hzm => ?_, hl, hm⟩
    · have hmem : MemPlace.cell a'.block (a'.off + 0) ∈ ps := by
        rw [hps]
        exact List.mem_append_left _ (List.mem_map.2 ⟨0, List.mem_range.2 (by omega), rfl⟩)
      exact hlt _ hmem
    · exact (hz j _ (prAt_get (by omega))).2
    · obtain ⟨j, hj, rfl⟩ := List.getElem_of_mem hzm
      exact (hz j _ (List.getElem?_eq_getElem hj)).1
end
end Go.Proofs.YtgpffbnmdfichaaGreatDoor

/- A cell of a law's argument that is a bool. -/
namespace Go.Proofs.YtgpffbnmdfichaaGreatDoor
open Go.ChangeShapes Go.WideShapes Go.ChangeAt Go.RowKit Go.Joins
open Go.Deep (oneCellFields open_slice hone_of)

theorem cell_boolF {H : Type} {enc : TypeId × Value → H} {P : Program} {W : World} {b0 : Nat} {sp : Nat → Bool} {hd : Bool} {n : Nat} {t : TypeId} {v : Value} {y : DataW H × List MemPlace} (ht : P.underlying t = some .bool) (h : DataW.trod enc P W b0 sp hd n t [v] = some y) : ∃ a : Bool, v = .bool a ∧ y.2 = [] := by
  obtain ⟨a, h1, h2⟩ := DataW.trod_bool ht h
  simp at h1
  exact ⟨a, h1, by rw [h2]⟩
end Go.Proofs.YtgpffbnmdfichaaGreatDoor

/- A law's arguments that are Call or rows of them (written by gentype.py). -/
namespace Go.Proofs.YtgpffbnmdfichaaGreatDoor
open Go.ChangeShapes Go.WideShapes Go.ChangeAt Go.RowKit Go.Joins
open Go.Deep (oneCellFields open_slice hone_of)
set_option linter.unusedVariables false

section
variable {H : Type} {enc : TypeId × Value → H} {P : Program}
theorem arg_cal {t : TypeId} {f0 f1 : Field} {W : World} {base : Nat} {v : Value} {d : DataW H} {ps : List MemPlace} (hs : P.underlying t = some (.struct #[f0, f1])) (hone : oneCellFields P #[f0, f1] = true) (hC : P.cellsOf t = 2)
    (h0 : P.underlying f0.type = some (.int .i64)) (h1 : P.underlying f1.type = some (.int .i64))
    (hval : Value.okWide P W .any base t v) (hd : DataW.Trod enc P W 0 (fun _ => true) true t v d ps) : ∃ p : Cal, v = p.val ∧ p.wf := by
  obtain ⟨v0, v1, y0, y1, n, rfl, -, -, t0, t1⟩ := open_agg2 hs hone hC hval hd
  obtain ⟨a, rfl, w0, -⟩ := cell_int h0 t0
  obtain ⟨b, rfl, w1, -⟩ := cell_int h1 t1
  exact ⟨⟨a, b⟩, rfl, w0, w1⟩
theorem arg_cals {t e : TypeId} {f0 f1 : Field} {W : World} {base : Nat} {v : Value} {d : DataW H} {ps : List MemPlace} (ht : P.underlying t = some (.slice e)) (he : P.underlying e = some (.struct #[f0, f1])) (hone : oneCellFields P #[f0, f1] = true) (hC : P.cellsOf e = 2)
    (h0 : P.underlying f0.type = some (.int .i64)) (h1 : P.underlying f1.type = some (.int .i64))
    (hval : Value.okWide P W .any base t v) (hd : DataW.Trod enc P W 0 (fun _ => true) true t v d ps) (hlt : ∀ x ∈ ps, x.block < W.heap.size) :
    ∃ (A : Option Addr) (n c : Nat) (zs : List Cal), v = .slice A n c ∧ (CalsAt W W.heap.size A n zs ∧ (∀ z ∈ zs, z.wf) ∧ n ≤ c ∧ c ≤ maxLen) := by
  obtain ⟨a, len, cap, rfl⟩ := okWide_slice ht hval
  obtain ⟨fuel, hf⟩ := hd
  rcases open_slice_fields ht he hone (by rw [hC]; rfl) hf with ⟨h1, _⟩ | ⟨a', len', cap', m, D, Pl, hcs, _, hl, hm, hmm, hx, hi⟩
  · have h1' : [Value.slice a len cap] = [Value.slice none 0 0] := h1
    simp only [List.cons.injEq, and_true] at h1'
    exact ⟨none, 0, 0, [], h1', ⟨rfl, rfl, fun h => absurd h (by omega)⟩, by simp, Nat.le_refl _, Nat.zero_le _⟩
  · have h1' : [Value.slice a len cap] = [Value.slice (some a') len' cap'] := hcs
    simp only [List.cons.injEq, and_true] at h1'
    rw [if_pos rfl] at hmm
    subst hmm
    obtain ⟨zs, hzl, hz⟩ := choose_upto (n := len') (R := fun i (p : Cal) => p.wf ∧ ∀ (j : Nat) u, p.cells[j]? = some u → W.cell? (a'.add (i * 2 + j)) = some u) (fun i hil => by
      obtain ⟨ys, n, _, _, _, hj⟩ := hi i (by omega)
      obtain ⟨v0, y0, c0, _, t0⟩ := hj 0 f0 rfl
      obtain ⟨v1, y1, c1, _, t1⟩ := hj 1 f1 rfl
      obtain ⟨x0, rfl, w0, -⟩ := cell_int h0 t0
      obtain ⟨x1, rfl, w1, -⟩ := cell_int h1 t1
      refine ⟨⟨x0, x1⟩, ⟨w0, w1⟩, fun j u hu => ?_⟩
      match j, hu with
      | 0, hu => simp [Cal.cells] at hu; subst hu; exact c0
      | 1, hu => simp [Cal.cells] at hu; subst hu; exact c1
      | j + 2, hu => simp [Cal.cells] at hu)
    refine ⟨some a', len', m, zs, h1', ⟨hzl, by rw [calcells_length, hzl], fun hn => ⟨a', rfl, ?_, fun j u hu => ?_⟩⟩, fun z hzm => ?_, hl, hm⟩
    · have hmem : MemPlace.cell a'.block (a'.off + 0) ∈ ps := by
        have e := congrArg Prod.snd hx
        simp only at e
        rw [e]
        exact List.mem_append_left _ (List.mem_map.2 ⟨0, List.mem_range.2 (by simp; omega), rfl⟩)
      exact hlt _ hmem
    · have hlen : j < zs.length * 2 := by
        have := (List.getElem?_eq_some_iff.1 hu).1
        rwa [calcells_length] at this
      have hd4 : j / 2 < zs.length := by omega
      have hp : zs[j / 2]? = some zs[j / 2] := List.getElem?_eq_getElem hd4
      have hg := flat_get (s := 2) (f := Cal.cells) (fun _ => rfl) zs (j / 2) (j % 2) _ hp (by omega)
      have ej : j / 2 * 2 + j % 2 = j := by clear hi hz hx; omega
      rw [ej] at hg
      have := (hz _ _ hp).2 (j % 2) u (hg.symm.trans hu)
      rwa [ej] at this
    · obtain ⟨i, hil, rfl⟩ := List.getElem_of_mem hzm
      exact (hz i _ (List.getElem?_eq_getElem hil)).1
end
end Go.Proofs.YtgpffbnmdfichaaGreatDoor

/- AreStreams as exact laws meet them. -/
namespace Go.Proofs.YtgpffbnmdfichaaGreatDoor
open Go.RowKit
set_option linter.unusedVariables false

theorem sp_AreStreams (A0 : Option Addr) (n0 c0 : Nat) (zs0 : List Pth) (A1 : Option Addr) (n1 c1 : Nat) (zs1 : List Stm) (w : World) (h0 : SlP w A0 n0 c0 zs0) (hs0 : n0 ≤ 1048576) (h1 : SlStm w A1 n1 c1 zs1) (hs1 : SmallStm zs1) (r : Bool) (hr : areM zs0 zs1 = r) :
    Calls Tryz.prog 69 #[.slice A0 n0 c0, .slice A1 n1 c1] w fun e w' => e = .returned (.bool r) ∧ Below w.heap.size w w' := by
  subst hr
  have hq1 := h1.pths.1
  have hz1 := hs1.1
  exact spec_AreStreams A0 n0 c0 _ zs0 A1 n1 c1 _ zs1 w h0.pths h1.pths (Nat.le_refl _) (Nat.le_refl _) (by omega) (by omega) (fun j hj => Nat.le_trans (hs1.2 j (by omega)) (by decide))
theorem im_AreStreams (A0 : Option Addr) (n0 c0 : Nat) (zs0 : List Pth) (A1 : Option Addr) (n1 c1 : Nat) (zs1 : List Stm) (w : World) (h0 : SlP w A0 n0 c0 zs0) (hs0 : n0 ≤ 1048576) (h1 : SlStm w A1 n1 c1 zs1) (hs1 : SmallStm zs1) (r : Bool) (hr : areM zs0 zs1 = r) :
    Calls Tryz.prog 71 #[.slice A0 n0 c0, .slice A1 n1 c1] w fun e w' => e = .returned (.bool r) ∧ Below w.heap.size w w' := by
  subst hr
  have hq1 := h1.pths.1
  have hz1 := hs1.1
  exact impl_AreStreams A0 n0 c0 _ zs0 A1 n1 c1 _ zs1 w h0.pths h1.pths (Nat.le_refl _) (Nat.le_refl _) (by omega) (by omega) (fun j hj => Nat.le_trans (hs1.2 j (by omega)) (by decide))
end Go.Proofs.YtgpffbnmdfichaaGreatDoor

/- A law's arguments that are rows of Stream (written by genrow.py). -/
namespace Go.Proofs.YtgpffbnmdfichaaGreatDoor
open Go.ChangeShapes Go.WideShapes Go.ChangeAt Go.RowKit Go.Joins
open Go.Deep (oneCellFields open_slice hone_of)
set_option linter.unusedVariables false

section
variable {H : Type} {enc : TypeId × Value → H} {P : Program}
theorem arg_stm {t i : TypeId} {f0 f1 : Field} {W : World} {base : Nat} {v : Value} {d : DataW H} {ps : List MemPlace} (hs : P.underlying t = some (.struct #[f0, f1])) (hone : oneCellFields P #[f0, f1] = true) (hC : P.cellsOf t = 2)
    (h0 : P.underlying f0.type = some (.int .i64)) (h1 : P.underlying f1.type = some (.slice i)) (hi : P.underlying i = some (.int .i64)) (hci : P.cellsOf i = 1)
    (hval : Value.okWide P W .any base t v) (hd : DataW.Trod enc P W 0 (fun _ => true) true t v d ps) (hlt : ∀ x ∈ ps, x.block < W.heap.size) :
    ∃ (A : Option Addr) (n c : Nat) (zs : List Int) (x0 : Int), v = .agg #[.int .i64 x0, .slice A n c] ∧ (IntsAt .i64 W W.heap.size A n zs ∧ (∀ z ∈ zs, (Lit.int .i64 z).wf = true) ∧ n ≤ c ∧ c ≤ maxLen) ∧ (Lit.int .i64 x0).wf = true := by
  obtain ⟨v0, v1, y0, y1, n, rfl, -, hps, t0, t1⟩ := open_agg2 hs hone hC hval hd
  obtain ⟨x0, rfl, w0, -⟩ := cell_int h0 t0
  rcases open_ints h1 hi hci t1 with ⟨h2, _⟩ | ⟨b, l2, cp2, zs, h2, _, hl2, hm2, hzl2, hx2, hc2, hwf2⟩
  · simp only [List.cons.injEq, and_true] at h2
    subst h2
    exact ⟨none, 0, 0, [], _, rfl, ⟨⟨rfl, fun h => absurd h (by omega)⟩, by simp, Nat.le_refl _, Nat.zero_le _⟩, w0⟩
  · simp only [List.cons.injEq, and_true] at h2
    subst h2
    rw [if_pos rfl] at hzl2
    refine ⟨some b, l2, cp2, zs.take l2, _, rfl, ⟨⟨by simp only [List.length_take]; omega, fun hn => ⟨b, rfl, ?_, fun q hq => ?_⟩⟩, fun z hzm => hwf2 z (List.mem_of_mem_take hzm), hl2, hm2⟩, w0⟩
    · have hmem : MemPlace.cell b.block (b.off + 0) ∈ ps := by
        rw [hps]
        have e2 : y1.2 = MemPlace.row b zs.length := congrArg Prod.snd hx2
        have hin : MemPlace.cell b.block (b.off + 0) ∈ y1.2 := by
          rw [e2]
          exact List.mem_map.2 ⟨0, List.mem_range.2 (by omega), rfl⟩
        simp only [List.mem_append]
        first | exact hin | exact Or.inl hin | exact Or.inr hin | exact Or.inr (Or.inl hin) | exact Or.inr (Or.inr hin)
      exact hlt _ hmem
    · rw [hc2 q (by omega)]
      simp [List.getD_eq_getElem?_getD, hq]
theorem arg_stms {t e i : TypeId} {f0 f1 : Field} {W : World} {base : Nat} {v : Value} {d : DataW H} {ps : List MemPlace} (ht : P.underlying t = some (.slice e)) (he : P.underlying e = some (.struct #[f0, f1])) (hone : oneCellFields P #[f0, f1] = true) (hC : P.cellsOf e = 2)
    (h0 : P.underlying f0.type = some (.int .i64)) (h1 : P.underlying f1.type = some (.slice i)) (hi : P.underlying i = some (.int .i64)) (hci : P.cellsOf i = 1)
    (hval : Value.okWide P W .any base t v) (hd : DataW.Trod enc P W 0 (fun _ => true) true t v d ps) (hlt : ∀ x ∈ ps, x.block < W.heap.size) :
    ∃ (A : Option Addr) (n c : Nat) (zs : List Stm), v = .slice A n c ∧ (StmsAt W W.heap.size A n zs ∧ (∀ z ∈ zs, z.wf) ∧ n ≤ c ∧ c ≤ maxLen) := by
  obtain ⟨a, len, cap, rfl⟩ := okWide_slice ht hval
  obtain ⟨fuel, hf⟩ := hd
  rcases open_slice_fields ht he hone (by rw [hC]; rfl) hf with ⟨h1, _⟩ | ⟨a', len', cap', m, D, Pl, hcs, _, hl, hm, hmm, hx, hii⟩
  · have h1' : [Value.slice a len cap] = [Value.slice none 0 0] := h1
    simp only [List.cons.injEq, and_true] at h1'
    exact ⟨none, 0, 0, [], h1', ⟨rfl, fun h => absurd h (by omega)⟩, by simp, Nat.le_refl _, Nat.zero_le _⟩
  · have h1' : [Value.slice a len cap] = [Value.slice (some a') len' cap'] := hcs
    simp only [List.cons.injEq, and_true] at h1'
    rw [if_pos rfl] at hmm
    subst hmm
    have hps : ps = MemPlace.row a' (m * 2) ++ (List.range m).flatMap Pl := congrArg Prod.snd hx
    obtain ⟨zs, hzl, hz⟩ := choose_upto (n := len') (R := fun j (p : Stm) => p.wf ∧ ∃ A' m' c', StmAt W (a'.add (j * 2)) (.slice A' m' c') p ∧ IntsAt .i64 W W.heap.size A' m' p.arrivals ∧ (m' ≤ c' ∧ c' ≤ maxLen) ∧ (A' = none → m' = 0 ∧ c' = 0)) (fun j hjl => by
      obtain ⟨ys, n, _, hPl, _, hj⟩ := hii j (by omega)
      obtain ⟨v0, y0, c0, g0, t0⟩ := hj 0 f0 rfl
      obtain ⟨v1, y1, c1, g1, t1⟩ := hj 1 f1 rfl
      obtain ⟨x0, rfl, w0, -⟩ := cell_int h0 t0
      have d1 : W.cell? ⟨(a'.add (j * 2)).block, (a'.add (j * 2)).off + 1, none⟩ = some v1 := by
        rw [← add_plusF _ 1 (by decide), add_add]
        exact c1
      have d0 := c0
      rcases open_ints h1 hi hci t1 with ⟨h2, _⟩ | ⟨b, l2, cp2, zs, h2, _, hl2, hm2, hzl2, hx2, hc2, hwf2⟩
      · simp only [List.cons.injEq, and_true] at h2
        exact ⟨⟨x0, []⟩, ⟨Nat.zero_le _, by simp, w0⟩, none, 0, 0, ⟨d0, by rw [← h2]; exact d1⟩, ⟨rfl, fun h => absurd h (by omega)⟩, ⟨Nat.le_refl _, Nat.zero_le _⟩, fun _ => ⟨rfl, rfl⟩⟩
      · simp only [List.cons.injEq, and_true] at h2
        rw [if_pos rfl] at hzl2
        refine ⟨⟨x0, zs.take l2⟩, ⟨by simp only [List.length_take]; omega, fun z hzm => hwf2 z (List.mem_of_mem_take hzm), w0⟩, some b, l2, cp2, ⟨d0, by rw [← h2]; exact d1⟩, ⟨by simp only [List.length_take]; omega, fun hn => ⟨b, rfl, ?_, fun q hq => ?_⟩⟩, ⟨hl2, hm2⟩, by simp⟩
        · have hmem : MemPlace.cell b.block (b.off + 0) ∈ ps := by
            rw [hps]
            refine List.mem_append_right _ (List.mem_flatMap.2 ⟨j, List.mem_range.2 (by omega), ?_⟩)
            rw [hPl]
            refine List.mem_flatMap.2 ⟨y1, List.mem_of_getElem? g1, ?_⟩
            have e2 : y1.2 = MemPlace.row b zs.length := congrArg Prod.snd hx2
            rw [e2]
            exact List.mem_map.2 ⟨0, List.mem_range.2 (by omega), rfl⟩
          exact hlt _ hmem
        · rw [hc2 q (by omega)]
          simp [List.getD_eq_getElem?_getD, hq])
    refine ⟨some a', len', m, zs, h1', ⟨hzl, fun hn => ⟨a', rfl, ?_, fun j hj => ?_⟩⟩, fun z hzm => ?_, hl, hm⟩
    · have hmem : MemPlace.cell a'.block (a'.off + 0) ∈ ps := by
        rw [hps]
        exact List.mem_append_left _ (List.mem_map.2 ⟨0, List.mem_range.2 (by omega), rfl⟩)
      exact hlt _ hmem
    · exact (hz j _ (stmA_get (by omega))).2
    · obtain ⟨j, hj, rfl⟩ := List.getElem_of_mem hzm
      exact (hz j _ (List.getElem?_eq_getElem hj)).1
end
end Go.Proofs.YtgpffbnmdfichaaGreatDoor
