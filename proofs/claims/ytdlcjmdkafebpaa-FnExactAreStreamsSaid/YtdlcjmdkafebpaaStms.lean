/- Chapter 30: AreStreams: program and model. -/
import Derived.Test.YtdlcjmdkafebpaaStm
import Derived.Test.YtdlcjmdkafebpaaPthM
import Derived.Test.YtdlcjmdkafebpaaConf2
import Derived.Test.YtdlcjmdkafebpaaGrow
import Derived.Test.YtdlcjmdkafebpaaConfI
import Derived.Test.YtdlcjmdkafebpaaFindI
import Derived.Test.YtdlcjmdkafebpaaLstP
namespace Go.Proofs.Ytdlcjmdkafebpaa
open Go.RowKit
set_option linter.unusedVariables false

/-- whether a stream is for a path, and has as many arrivals as are allowed, each in range. -/
def forS (ps : List Pth) (x : Stm) : Bool := decide (¬ findI x.path ps < 0) && (decide (x.arrivals.length ≤ 300) && x.arrivals.all fun z => inB z 0 20)
def goodM (ps : List Pth) (zs : List Stm) (k : Nat) : Bool := forS ps (stmA zs k) && decide ((stmA zs k).arrivals.length = (stmA zs 0).arrivals.length)
/-- what AreStreams answers. -/
def areM (ps : List Pth) (zs : List Stm) : Bool := arePs ps && (decide (zs.length ≤ 12) && (List.range zs.length).all (goodM ps zs))
theorem areM_no {ps : List Pth} {zs : List Stm} {k : Nat} (hk : k < zs.length) (h : goodM ps zs k = false) : areM ps zs = false := by
  unfold areM
  rw [List.all_eq_false.2 ⟨k, List.mem_range.2 hk, by rw [h]; simp⟩, Bool.and_false, Bool.and_false]
theorem areM_end {ps : List Pth} {zs : List Stm} (h : ∀ i, i < zs.length → goodM ps zs i = true) : areM ps zs = (arePs ps && decide (zs.length ≤ 12)) := by
  unfold areM
  rw [List.all_eq_true.2 (fun i hi => h i (List.mem_range.1 hi)), Bool.and_true]
theorem areM_ps {ps : List Pth} {zs : List Stm} (h : arePs ps = false) : areM ps zs = false := by unfold areM; rw [h, Bool.false_and]
theorem areM_long {ps : List Pth} {zs : List Stm} (h : 12 < zs.length) : areM ps zs = false := by unfold areM; rw [decide_eq_false (by omega), Bool.false_and, Bool.and_false]
theorem forS1 {ps : List Pth} {x : Stm} (h : findI x.path ps < 0) : forS ps x = false := by unfold forS; rw [decide_eq_false (by simpa using h), Bool.false_and]
theorem forS2 {ps : List Pth} {x : Stm} (h : 300 < x.arrivals.length) : forS ps x = false := by unfold forS; rw [decide_eq_false (show ¬ x.arrivals.length ≤ 300 by omega), Bool.false_and, Bool.and_false]
theorem forS3 {ps : List Pth} {x : Stm} (h : (x.arrivals.all fun z => inB z 0 20) = false) : forS ps x = false := by unfold forS; rw [h, Bool.and_false, Bool.and_false]
theorem forS4 {ps : List Pth} {x : Stm} (h1 : ¬ findI x.path ps < 0) (h2 : x.arrivals.length ≤ 300) (h3 : (x.arrivals.all fun z => inB z 0 20) = true) : forS ps x = true := by unfold forS; rw [decide_eq_true h1, decide_eq_true h2, h3]; rfl
theorem goodM1 {ps : List Pth} {zs : List Stm} {k : Nat} (h : forS ps (stmA zs k) = false) : goodM ps zs k = false := by unfold goodM; rw [h, Bool.false_and]
theorem goodM2 {ps : List Pth} {zs : List Stm} {k : Nat} (h : (stmA zs k).arrivals.length ≠ (stmA zs 0).arrivals.length) : goodM ps zs k = false := by unfold goodM; rw [decide_eq_false h, Bool.and_false]
theorem goodM3 {ps : List Pth} {zs : List Stm} {k : Nat} (h : forS ps (stmA zs k) = true) (h2 : (stmA zs k).arrivals.length = (stmA zs 0).arrivals.length) : goodM ps zs k = true := by unfold goodM; rw [h, decide_eq_true h2]; rfl
theorem StmsAt.first {w : World} {B : Nat} {ad : Addr} {n : Nat} {zs : List Stm} (h : StmsAt w B (some ad) n zs) (h0 : 0 < n) : ∃ A m c, ad.block < B ∧ StmAt w ad (.slice A m c) (stmA zs 0) ∧ IntsAt .i64 w B A m (stmA zs 0).arrivals := by
  obtain ⟨ad2, A', m, c', e, hab, hq, hi, hmc, hnil⟩ := h.at h0
  injection e with e
  subst e
  have ha0 : ad.add (0 * 2) = ad := by simp [Addr.add]
  rw [ha0] at hq hab
  exact ⟨A', m, c', hab, hq, hi⟩
set_option maxHeartbeats 4000000 in
set_option maxRecDepth 100000 in
theorem spec_AreStreams (A : Option Addr) (n c B : Nat) (ps : List Pth) (A2 : Option Addr) (n2 c2 B2 : Nat) (zs : List Stm) (w : World) (h : PthsAt w B A n ps) (h2 : StmsAt w B2 A2 n2 zs) (hB : B ≤ w.heap.size) (hB2 : B2 ≤ w.heap.size) (hn : n ≤ 4294967296) (hn2 : n2 ≤ 4294967296) (hm : ∀ j, j < n2 → (stmA zs j).arrivals.length ≤ 4294967296) :
    Calls Try.prog 46 #[.slice A n c, .slice A2 n2 c2] w fun e w' => e = .returned (.bool (areM ps zs)) ∧ Below w.heap.size w w' := by
  have hl2 := h2.1
  have HEND : Hid ((∀ i, i < n2 → goodM ps zs i = true) → areM ps zs = (arePs ps && decide (n2 ≤ 12))) := Lib.hid (fun hg => by rw [areM_end (fun i hi => hg i (by omega)), hl2])
  have HNO : Hid (∀ i, i < n2 → goodM ps zs i = false → areM ps zs = false) := Lib.hid (fun i hi hg => areM_no (by omega) hg)
  clear hl2
  go_enter Try.func46, Try.ntmps46
  go_wp2
  go_loopw [5] (fun i wr => ∃ k : Nat, k ≤ n2 ∧ i = .int .i64 k ∧ (∀ j, j < k → goodM ps zs j = true) ∧ Below w.heap.size w wr) (fun i _ => n2 - (intOf i).toNat)
  case atStart => exact ⟨0, Nat.zero_le _, rfl, fun j hj => absurd hj (by omega), Below.refl _ _⟩
  case round =>
    obtain ⟨k, hk, rfl, hgo, hbl⟩ := hrel
    have hsz := hbl.size
    have HG := Lib.hid hgo
    clear hgo
    by_cases hlt : k < n2
    · obtain ⟨ad, A', m, c', rfl, hab, hq, hi, hmc, hnil⟩ := h2.at hlt
      obtain ⟨A0, m0, c0, hab0, hq0, hi0⟩ := h2.first (by omega)
      have hqw := hq.below hbl (by omega)
      have hqw0 := hq0.below hbl (by omega)
      have y0 := fun y : GW wr => (hqw.below y.ok (by omega)).c0
      have y1 := fun y : GW wr => (hqw.below y.ok (by omega)).c1
      have z1 := fun y : GW wr => (hqw0.below y.ok (by omega)).c1
      have hfp := fun y : GW wr => spec_FindPath A n c B ps (stmA zs k).path y.val (h.below ((hbl.trans (y.ok.mono hsz)).mono hB)) hn
      have i1 : (0 : Int) ≤ (k : Int) := by omega
      have i2 : (k : Int) < (n2 : Int) := by omega
      have i0 : (0 : Int) < (n2 : Int) := by omega
      have hmk := hm k hlt
      have hml := hi.1
      have hml0 := hi0.1
      have HK1 : Hid (findI (stmA zs k).path ps < 0 → areM ps zs = false) := Lib.hid (fun e => HNO.out k hlt (goodM1 (forS1 e)))
      have HK2 : Hid (m ≠ m0 → areM ps zs = false) := Lib.hid (fun e => HNO.out k hlt (goodM2 (by rw [hml, hml0]; exact e)))
      have HK3 : Hid (300 < m → areM ps zs = false) := Lib.hid (fun e => HNO.out k hlt (goodM1 (forS2 (by rw [hml]; exact e))))
      have HK4 : Hid (((stmA zs k).arrivals.all fun z => inB z 0 20) = false → areM ps zs = false) := Lib.hid (fun e => HNO.out k hlt (goodM1 (forS3 e)))
      have HK5 : Hid (¬ findI (stmA zs k).path ps < 0 → m = m0 → m ≤ 300 → ((stmA zs k).arrivals.all fun z => inB z 0 20) = true → goodM ps zs k = true) := Lib.hid (fun e1 e2 e3 e4 => goodM3 (forS4 e1 (by rw [hml]; exact e3) e4) (by rw [hml, hml0]; exact e2))
      have HI := Lib.hid hi
      have HQ := Lib.hid hq
      generalize (stmA zs k).path = xp at *
      generalize findI xp ps = fi at *
      clear hq hq0 hqw hqw0 hi hi0
      by_cases hf : fi < 0
      · have HV := Lib.hid (HK1.out hf)
        have e1 : decide (fi < 0) = true := decide_eq_true hf
        clear HK1 HK2 HK3 HK4 HK5 hml hml0
        go_wp2
        refine wp_region_grow (by kernel_rfl) (by kernel_rfl) ?_
        repeat (go_big_quiet_step (first | (go_at_call 84; exact calls_gw_same _ (hfp _))))
        refine wpQuiet_nil ?_
        intro x3
        have hb3 := x3.ok
        generalize x3.val = w3 at *
        go_wp2
        go_ret
        exact ⟨by rw [HV.out]; rfl, hbl.trans (hb3.mono hsz)⟩
      have e1 : decide (fi < 0) = false := decide_eq_false hf
      by_cases hmm : m = m0
      rotate_left
      · have HV := Lib.hid (HK2.out hmm)
        have e2 : ((m : Int) != (m0 : Int)) = true := by simp; omega
        clear HK1 HK2 HK3 HK4 HK5 hml hml0
        go_wp2
        refine wp_region_grow (by kernel_rfl) (by kernel_rfl) ?_
        repeat (go_big_quiet_step (first | (go_at_call 84; exact calls_gw_same _ (hfp _))))
        refine wpQuiet_nil ?_
        intro x3
        have hb3 := x3.ok
        generalize x3.val = w3 at *
        go_wp2
        go_ret
        exact ⟨by rw [HV.out]; rfl, hbl.trans (hb3.mono hsz)⟩
      have e2 : ((m : Int) != (m0 : Int)) = false := by simp; omega
      by_cases h3 : 300 < m
      · have HV := Lib.hid (HK3.out h3)
        have e3 : decide ((300 : Int) < (m : Int)) = true := decide_eq_true (by omega)
        have e3' : (m : Int) > 300 := by omega
        clear HK1 HK2 HK3 HK4 HK5 hml hml0
        go_wp2
        refine wp_region_grow (by kernel_rfl) (by kernel_rfl) ?_
        repeat (go_big_quiet_step (first | (go_at_call 84; exact calls_gw_same _ (hfp _))))
        refine wpQuiet_nil ?_
        intro x3
        have hb3 := x3.ok
        generalize x3.val = w3 at *
        go_wp2
        go_ret
        exact ⟨by rw [HV.out]; rfl, hbl.trans (hb3.mono hsz)⟩
      have e3 : decide ((300 : Int) < (m : Int)) = false := decide_eq_false (by omega)
      have e3' : ¬ (m : Int) > 300 := by omega
      have HK6 := Lib.hid (HK5.out hf hmm (by omega))
      clear HK1 HK2 HK3 HK5 hml0
      go_wp2
      refine wp_region_grow (by kernel_rfl) (by kernel_rfl) ?_
      repeat (go_big_quiet_step (first | (go_at_call 84; exact calls_gw_same _ (hfp _))))
      refine wpQuiet_nil ?_
      intro x3
      have hb3 := x3.ok
      generalize x3.val = w3 at *
      have hbw := hbl.trans (hb3.mono hsz)
      clear y0 y1 z1 hfp e1 e2 e3 e3' hb3
      generalize (stmA zs k).arrivals = rs at *
      go_wp2
      go_loopw [6] (fun i wq => ∃ j : Nat, j ≤ m ∧ i = .int .i64 j ∧ ((rs.take j).all fun z => inB z 0 20) = true ∧ Below w.heap.size w wq) (fun i _ => m - (intOf i).toNat)
      case atStart => exact ⟨0, Nat.zero_le _, rfl, rfl, hbw⟩
      case round =>
        clear hbw
        obtain ⟨j, hj, rfl, hall, hb2⟩ := hrel
        obtain ⟨q0, q1⟩ := HQ.out.below hb2 (by omega)
        have HA := Lib.hid hall
        clear hall
        by_cases hlt2 : j < m
        · obtain ⟨ad2, rfl, hab2, hcell⟩ := HI.out.2 (by omega)
          have hc := (hb2.cell (by rw [add_block]; omega)).trans (hcell j hlt2)
          have hz : rs[j]? = some (rs.getD j 0) := by rw [List.getD_eq_getElem?_getD, List.getElem?_eq_getElem (by omega)]; rfl
          generalize rs.getD j 0 = z at *
          have HZ := Lib.hid hz
          have j1 : (0 : Int) ≤ (j : Int) := by omega
          have j2 : (j : Int) < (m : Int) := by omega
          clear hcell hz
          cases h4 : inB z 0 20
          · have HV := Lib.hid (HK4.out (List.all_eq_false.2 ⟨z, List.mem_of_getElem? HZ.out, by rw [h4]; decide⟩))
            have H4 := Lib.hid h4
            clear h4 HK4 HK6
            go_wp2_with (go_at_call 85; refine (spec_l1In _ _ _ _).mono ?_; rintro e w' ⟨rfl, rfl⟩; rw [H4.out])
            go_ret
            exact ⟨by rw [HV.out]; rfl, hb2⟩
          · have HA2 := Lib.hid (show ((rs.take (j + 1)).all fun z => inB z 0 20) = true by rw [List.take_add_one, HZ.out, List.all_append, HA.out]; simp [h4])
            have H4 := Lib.hid h4
            clear h4
            go_wp2_with (go_at_call 85; refine (spec_l1In _ _ _ _).mono ?_; rintro e w' ⟨rfl, rfl⟩; rw [H4.out])
            go_roundw
            case rel => exact ⟨j + 1, by omega, by go_num, HA2.out, hb2⟩
            case measure => simp [intOf]; omega
        · obtain rfl : j = m := by omega
          have HGK : Hid (∀ i, i < k + 1 → goodM ps zs i = true) := Lib.hid (fun i hi => by
            by_cases e : i = k
            · subst e
              exact HK6.out (by have := HA.out; rwa [List.take_of_length_le (by omega)] at this)
            · exact HG.out i (by omega))
          go_wp2
          go_roundw
          case rel => exact ⟨k + 1, by omega, by go_num, HGK.out, hb2⟩
          case measure => simp [intOf]; omega
    · obtain rfl : k = n2 := by omega
      have HR := Lib.hid (HEND.out HG.out)
      have hap := spec_ArePaths A n c B ps wr (h.below (hbl.mono hB)) (Nat.le_trans hB hsz) hn
      cases ha : arePs ps
      · rw [ha] at hap HR
        clear ha
        go_wp2_with fail
        refine hap.mono ?_
        rintro e w1 ⟨rfl, hb1⟩
        go_wp2
        go_ret
        exact ⟨by rw [HR.out]; rfl, hbl.trans (hb1.mono hsz)⟩
      · rw [ha] at hap HR
        clear ha
        by_cases h12 : k ≤ 12
        · have e1 : ((k : Int) ≤ 12) := by omega
          go_wp2_with fail
          refine hap.mono ?_
          rintro e w1 ⟨rfl, hb1⟩
          go_wp2
          go_ret
          exact ⟨by rw [HR.out, decide_eq_true h12]; first | rfl | (simp; omega), hbl.trans (hb1.mono hsz)⟩
        · have e1 : ¬ ((k : Int) ≤ 12) := by omega
          go_wp2_with fail
          refine hap.mono ?_
          rintro e w1 ⟨rfl, hb1⟩
          go_wp2
          go_ret
          exact ⟨by rw [HR.out, decide_eq_false h12]; first | rfl | (simp; omega), hbl.trans (hb1.mono hsz)⟩
end Go.Proofs.Ytdlcjmdkafebpaa
