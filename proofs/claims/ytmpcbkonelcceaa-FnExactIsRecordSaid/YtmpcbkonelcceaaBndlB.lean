/- Texts of one chain, put together: RcdM LawRcd WitB WitI WitF WitM LawWit LawEnt. -/
import Derived.Deep.RegionHeld3
import Derived.Test.YtmpcbkonelcceaaBndlA
set_option linter.unusedSimpArgs false
/- Chapter 27: IsRecord of the model (written by genrcd.py). -/
namespace Go.Proofs.Ytmpcbkonelcceaa
open Go.RowKit
set_option linter.unusedVariables false

set_option maxHeartbeats 8000000 in
set_option maxRecDepth 100000 in
theorem spec_IsRecord (A : Option Addr) (n c B : Nat) (zs : List Ent) (w : World) (h : EntsAt w B A n zs) (hB : B ≤ w.heap.size) (hn : n ≤ 4294967296) (hm : ∀ j, j < n → (entA zs j).lights.length ≤ 1048576) :
    Calls Try.prog 16 #[.slice A n c] w fun e w' => e = .returned (.bool (isRec zs)) ∧ Below w.heap.size w w' := by
  have hl := h.1
  by_cases h60 : 60 < n
  · have HV := Lib.hid (isRec_long (zs := zs) (by omega))
    have e1 : ¬ (n : Int) ≤ 60 := by omega
    have e3 : decide ((n : Int) ≤ 60) = false := decide_eq_false e1
    have e4 : (0 : Int) < (n : Int) := by omega
    have e5 : decide ((0 : Int) < (n : Int)) = true := decide_eq_true e4
    have e6 : 0 < n := by omega
    go_enter Try.func16, Try.ntmps16
    go_wp2
    go_loopw [3, 4] (fun v i wr => v = .int .i64 0 ∧ i = .int .i64 0 ∧ w = wr) (fun _ _ _ => 0)
    case atStart => exact ⟨rfl, rfl, rfl⟩
    case round =>
      obtain ⟨rfl, rfl, rfl⟩ := hrel
      go_wp2
      go_ret
      exact ⟨by rw [HV.out]; rfl, Below.refl _ _⟩
  have e1 : (n : Int) ≤ 60 := by omega
  have e3 : decide ((n : Int) ≤ 60) = true := decide_eq_true e1
  have HEND : Hid ((∀ i, i < n → entOk zs i = true) → isRec zs = true) := Lib.hid (fun hg => by rw [isRec_end (fun i hi => hg i (by omega)), hl, decide_eq_true (by omega)])
  have HNO : Hid (∀ i, i < n → entOk zs i = false → isRec zs = false) := Lib.hid (fun i hi hg => isRec_no (by omega) hg)
  have HM := Lib.hid hm
  clear hl hm
  go_enter Try.func16, Try.ntmps16
  go_wp2
  go_loopw [3, 4] (fun v i wr => ∃ k : Nat, k ≤ n ∧ v = .int .i64 (prevM zs k) ∧ i = .int .i64 k ∧ (∀ j, j < k → entOk zs j = true) ∧ Below w.heap.size w wr) (fun _ i _ => n - (intOf i).toNat)
  case atStart => exact ⟨0, Nat.zero_le _, rfl, rfl, fun j hj => absurd hj (by omega), Below.refl _ _⟩
  case round =>
    obtain ⟨k, hk, rfl, rfl, hgo, hbl⟩ := hrel
    have HG := Lib.hid hgo
    have HBL := Lib.hid hbl
    have hsz := hbl.size
    have hrl := rec_len hgo
    clear hgo
    by_cases hlt : k < n
    · obtain ⟨ad, A', m, c', rfl, hab, hq, hi, hmc, hnil⟩ := h.at hlt
      obtain ⟨ad2, A0, m0, c0', e, hab0, hq0, hi0, hmc0, hnil0⟩ := h.at (j := 0) (by omega)
      injection e with e
      subst e
      have hz0 : ad.add (0 * 3) = ad := by simp [Addr.add]
      rw [hz0] at hq0 hab0
      have i1 : (0 : Int) ≤ (k : Int) := by omega
      have i2 : (k : Int) < (n : Int) := by omega
      have i3 : decide ((k : Int) < (n : Int)) = true := decide_eq_true i2
      have i4 : (0 : Int) < (n : Int) := by omega
      have hlm := hi.1
      have hlm0 := hi0.1
      have hmk := HM.out k hlt
      have hqq := hq.below hbl (by omega)
      have hqq0 := hq0.below hbl (by omega)
      have hcn : (ad.add (k * 3)).block < wr.heap.size := by omega
      have hcn0 : ad.block < wr.heap.size := by omega
      have y0 := fun y : GW wr => (hqq.below y.ok hcn).c0
      have y1 := fun y : GW wr => (hqq.below y.ok hcn).c1
      have y2 := fun y : GW wr => (hqq.below y.ok hcn).c2
      have v1 := fun y : GW wr => (hqq0.below y.ok hcn0).c1
      have hiw := hi.keep (w' := wr) (fun p hp => hbl.cell (by omega))
      have hse := fun y : GW wr => spec_SealOf (prevM zs k) (entA zs k).second A' m c' B (entA zs k).lights y.val (hiw.keep fun p hp => y.ok.cell (by omega)) hnil (by have := y.ok.size; omega) (by omega)
      have hmm : (∀ j, j < k → m = m0 ∨ True) := fun _ _ => .inr trivial
      have HL0 : Hid (k = 0 → m = m0) := Lib.hid (fun e => by subst e; omega)
      have HLP : Hid (k ≠ 0 → (entA zs (k - 1)).lights.length = m0) := Lib.hid (fun e => by rw [hrl (k - 1) (by omega)]; exact hlm0)
      have HE1 : Hid (inB (entA zs k).second 0 1000000 = false → isRec zs = false) := Lib.hid (fun e => HNO.out k hlt (entOk_sec e))
      have HE2 : Hid (12 < m → isRec zs = false) := Lib.hid (fun e => HNO.out k hlt (entOk_len (by omega)))
      have HE3 : Hid (m ≠ m0 → isRec zs = false) := Lib.hid (fun e => HNO.out k hlt (by
        by_cases hk0 : k = 0
        · exact absurd (HL0.out hk0) e
        · exact entOk_beh hk0 (fun h => e (by have := HLP.out hk0; have := h.2; omega))))
      have HE4 : Hid ((entA zs k).mac ≠ sealI (prevM zs k) (entA zs k).second (entA zs k).lights → isRec zs = false) := Lib.hid (fun e => HNO.out k hlt (entOk_mac e))
      have HE5 : Hid (k ≠ 0 → ¬ (entA zs (k - 1)).second < (entA zs k).second → isRec zs = false) := Lib.hid (fun e e2 => HNO.out k hlt (entOk_beh e (fun h => e2 h.1)))
      have HE6 : Hid (litsOk (entA zs k).lights = false → isRec zs = false) := Lib.hid (fun e => HNO.out k hlt (entOk_lit e))
      have HOK : Hid (inB (entA zs k).second 0 1000000 = true → m ≤ 12 → m = m0 → (entA zs k).mac = sealI (prevM zs k) (entA zs k).second (entA zs k).lights → (k = 0 ∨ (entA zs (k - 1)).second < (entA zs k).second) → litsOk (entA zs k).lights = true → ∀ j, j < k + 1 → entOk zs j = true) := Lib.hid (fun h1 h2 h3 h4 h5 h6 j hj => by
        by_cases e : j = k
        · subst e
          refine entOk_mk h1 (by omega) h6 ?_ h4
          by_cases hk0 : j = 0
          · exact .inl hk0
          · rcases h5 with h5 | h5
            · exact .inl h5
            · exact .inr ⟨h5, by rw [HLP.out hk0]; omega⟩
        · exact HG.out j (by omega))
      have HPM : Hid (prevM zs (k + 1) = (entA zs k).mac) := Lib.hid (by unfold prevM; rw [if_neg (by omega), Nat.add_sub_cancel])
      have HI := Lib.hid hiw
      have HLN : Hid ((∀ j, j < m → inB ((entA zs k).lights.getD j 0) 0 2 = true) → litsOk (entA zs k).lights = true) := Lib.hid (fun h => litsOk_yes (fun j hj => h j (by omega)))
      have HLF : Hid (∀ j, j < m → inB ((entA zs k).lights.getD j 0) 0 2 = false → litsOk (entA zs k).lights = false) := Lib.hid (fun j hj h => litsOk_no (by omega) h)
      have hpr : k ≠ 0 → ∃ m : Nat, m + 1 = k := fun e => ⟨k - 1, by omega⟩
      have H1 := Lib.hid h
      clear hi hi0 hq hq0 hqq0 hiw hrl hmm hz0 hmc hmc0 hnil hnil0
      generalize hr : sealI (prevM zs k) (entA zs k).second (entA zs k).lights = r at *
      clear hr
      have hin := fun y : GW wr => spec_l1In (entA zs k).second 0 1000000 y.val
      cases g1 : inB (entA zs k).second 0 1000000
      · have HV := Lib.hid (HE1.out g1)
        rw [g1] at hin
        clear g1 HE1 HE2 HE3 HE4 HE5 HE6 HOK HPM HLN HLF hpr
        go_wp2
        refine wp_region_grow (by kernel_rfl) (by kernel_rfl) ?_
        repeat (go_big_quiet_step (first | (go_at_call 11; first | with_reducible exact calls_gw _ (hse _))))
        refine wpQuiet_nil ?_
        intro x3
        have hb3 := x3.ok
        have z0 : ∀ y : GW x3.val, y.val.cell? (ad.add (k * 3)) = _ := fun y => y0 ⟨y.val, hb3.trans (y.ok.mono hb3.size)⟩
        have z1 : ∀ y : GW x3.val, y.val.cell? ⟨(ad.add (k * 3)).block, (ad.add (k * 3)).off + 1, none⟩ = _ := fun y => y1 ⟨y.val, hb3.trans (y.ok.mono hb3.size)⟩
        have z2 : ∀ y : GW x3.val, y.val.cell? ⟨(ad.add (k * 3)).block, (ad.add (k * 3)).off + 2, none⟩ = _ := fun y => y2 ⟨y.val, hb3.trans (y.ok.mono hb3.size)⟩
        have u1 : ∀ y : GW x3.val, y.val.cell? ⟨ad.block, ad.off + 1, none⟩ = _ := fun y => v1 ⟨y.val, hb3.trans (y.ok.mono hb3.size)⟩
        have zin := fun y : GW x3.val => hin ⟨y.val, hb3.trans (y.ok.mono hb3.size)⟩
        simp only at zin
        clear y0 y1 y2 v1 hse hin
        have HB3 := Lib.hid (HBL.out.trans (hb3.mono hsz))
        clear hb3
        generalize x3.val = w3 at *
        clear x3
        go_wp2
        refine wp_region_grow (by kernel_rfl) (by kernel_rfl) ?_
        repeat (go_big_quiet_step (first | (go_at_call 47; first | with_reducible exact calls_gw_same _ (zin _))))
        refine wpQuiet_nil ?_
        intro x4
        have hb4 := x4.ok
        have HB4 := Lib.hid (HB3.out.trans (hb4.mono HB3.out.size))

        generalize x4.val = w4 at *
        go_wp2
        go_ret
        exact ⟨by rw [HV.out]; rfl, HB4.out⟩
      have G1 := Lib.hid g1
      rw [g1] at hin
      clear g1
      by_cases g2 : 12 < m
      · have HV := Lib.hid (HE2.out g2)
        have d1 : (m : Int) > 12 := by omega
        have d2 : decide (12 < (m : Int)) = true := decide_eq_true (by omega)
        have d3 : decide (12 < m) = true := decide_eq_true (by omega)
        clear HE1 HE2 HE3 HE4 HE5 HE6 HOK HPM HLN HLF hpr
        go_wp2
        refine wp_region_grow (by kernel_rfl) (by kernel_rfl) ?_
        repeat (go_big_quiet_step (first | (go_at_call 11; first | with_reducible exact calls_gw _ (hse _))))
        refine wpQuiet_nil ?_
        intro x3
        have hb3 := x3.ok
        have z0 : ∀ y : GW x3.val, y.val.cell? (ad.add (k * 3)) = _ := fun y => y0 ⟨y.val, hb3.trans (y.ok.mono hb3.size)⟩
        have z1 : ∀ y : GW x3.val, y.val.cell? ⟨(ad.add (k * 3)).block, (ad.add (k * 3)).off + 1, none⟩ = _ := fun y => y1 ⟨y.val, hb3.trans (y.ok.mono hb3.size)⟩
        have z2 : ∀ y : GW x3.val, y.val.cell? ⟨(ad.add (k * 3)).block, (ad.add (k * 3)).off + 2, none⟩ = _ := fun y => y2 ⟨y.val, hb3.trans (y.ok.mono hb3.size)⟩
        have u1 : ∀ y : GW x3.val, y.val.cell? ⟨ad.block, ad.off + 1, none⟩ = _ := fun y => v1 ⟨y.val, hb3.trans (y.ok.mono hb3.size)⟩
        have zin := fun y : GW x3.val => hin ⟨y.val, hb3.trans (y.ok.mono hb3.size)⟩
        simp only at zin
        clear y0 y1 y2 v1 hse hin
        have HB3 := Lib.hid (HBL.out.trans (hb3.mono hsz))
        clear hb3
        generalize x3.val = w3 at *
        clear x3
        go_wp2
        refine wp_region_grow (by kernel_rfl) (by kernel_rfl) ?_
        repeat (go_big_quiet_step (first | (go_at_call 47; first | with_reducible exact calls_gw_same _ (zin _))))
        refine wpQuiet_nil ?_
        intro x4
        have hb4 := x4.ok
        have HB4 := Lib.hid (HB3.out.trans (hb4.mono HB3.out.size))

        generalize x4.val = w4 at *
        go_wp2
        go_ret
        exact ⟨by rw [HV.out]; rfl, HB4.out⟩
      have d1 : ¬ (m : Int) > 12 := by omega
      have d2 : decide (12 < (m : Int)) = false := decide_eq_false (by omega)
      have d3 : decide (12 < m) = false := decide_eq_false (by omega)
      by_cases g3 : m = m0
      rotate_left
      · have HV := Lib.hid (HE3.out g3)
        have d4 : ((m : Int) == (m0 : Int)) = false := by rw [beq_eq_false_iff_ne]; omega
        have d5 : ((m : Int) != (m0 : Int)) = true := by rw [bne_iff_ne]; omega
        clear HE1 HE2 HE3 HE4 HE5 HE6 HOK HPM HLN HLF hpr
        go_wp2
        refine wp_region_grow (by kernel_rfl) (by kernel_rfl) ?_
        repeat (go_big_quiet_step (first | (go_at_call 11; first | with_reducible exact calls_gw _ (hse _))))
        refine wpQuiet_nil ?_
        intro x3
        have hb3 := x3.ok
        have z0 : ∀ y : GW x3.val, y.val.cell? (ad.add (k * 3)) = _ := fun y => y0 ⟨y.val, hb3.trans (y.ok.mono hb3.size)⟩
        have z1 : ∀ y : GW x3.val, y.val.cell? ⟨(ad.add (k * 3)).block, (ad.add (k * 3)).off + 1, none⟩ = _ := fun y => y1 ⟨y.val, hb3.trans (y.ok.mono hb3.size)⟩
        have z2 : ∀ y : GW x3.val, y.val.cell? ⟨(ad.add (k * 3)).block, (ad.add (k * 3)).off + 2, none⟩ = _ := fun y => y2 ⟨y.val, hb3.trans (y.ok.mono hb3.size)⟩
        have u1 : ∀ y : GW x3.val, y.val.cell? ⟨ad.block, ad.off + 1, none⟩ = _ := fun y => v1 ⟨y.val, hb3.trans (y.ok.mono hb3.size)⟩
        have zin := fun y : GW x3.val => hin ⟨y.val, hb3.trans (y.ok.mono hb3.size)⟩
        simp only at zin
        clear y0 y1 y2 v1 hse hin
        have HB3 := Lib.hid (HBL.out.trans (hb3.mono hsz))
        clear hb3
        generalize x3.val = w3 at *
        clear x3
        go_wp2
        refine wp_region_grow (by kernel_rfl) (by kernel_rfl) ?_
        repeat (go_big_quiet_step (first | (go_at_call 47; first | with_reducible exact calls_gw_same _ (zin _))))
        refine wpQuiet_nil ?_
        intro x4
        have hb4 := x4.ok
        have HB4 := Lib.hid (HB3.out.trans (hb4.mono HB3.out.size))

        generalize x4.val = w4 at *
        go_wp2
        go_ret
        exact ⟨by rw [HV.out]; rfl, HB4.out⟩
      have d4 : ((m : Int) == (m0 : Int)) = true := by rw [beq_iff_eq]; omega
      have d5 : ((m : Int) != (m0 : Int)) = false := by rw [bne_eq_false_iff_eq]; omega
      have G3 := Lib.hid g3
      clear g3
      by_cases g4 : (entA zs k).mac = r
      rotate_left
      · have HV := Lib.hid (HE4.out g4)
        have d6 : ((entA zs k).mac == r) = false := by rw [beq_eq_false_iff_ne]; exact g4
        have d7 : ((entA zs k).mac != r) = true := by rw [bne_iff_ne]; exact g4
        clear HE1 HE2 HE3 HE4 HE5 HE6 HOK HPM HLN HLF hpr
        go_wp2
        refine wp_region_grow (by kernel_rfl) (by kernel_rfl) ?_
        repeat (go_big_quiet_step (first | (go_at_call 11; first | with_reducible exact calls_gw _ (hse _))))
        refine wpQuiet_nil ?_
        intro x3
        have hb3 := x3.ok
        have z0 : ∀ y : GW x3.val, y.val.cell? (ad.add (k * 3)) = _ := fun y => y0 ⟨y.val, hb3.trans (y.ok.mono hb3.size)⟩
        have z1 : ∀ y : GW x3.val, y.val.cell? ⟨(ad.add (k * 3)).block, (ad.add (k * 3)).off + 1, none⟩ = _ := fun y => y1 ⟨y.val, hb3.trans (y.ok.mono hb3.size)⟩
        have z2 : ∀ y : GW x3.val, y.val.cell? ⟨(ad.add (k * 3)).block, (ad.add (k * 3)).off + 2, none⟩ = _ := fun y => y2 ⟨y.val, hb3.trans (y.ok.mono hb3.size)⟩
        have u1 : ∀ y : GW x3.val, y.val.cell? ⟨ad.block, ad.off + 1, none⟩ = _ := fun y => v1 ⟨y.val, hb3.trans (y.ok.mono hb3.size)⟩
        have zin := fun y : GW x3.val => hin ⟨y.val, hb3.trans (y.ok.mono hb3.size)⟩
        simp only at zin
        clear y0 y1 y2 v1 hse hin
        have HB3 := Lib.hid (HBL.out.trans (hb3.mono hsz))
        clear hb3
        generalize x3.val = w3 at *
        clear x3
        go_wp2
        refine wp_region_grow (by kernel_rfl) (by kernel_rfl) ?_
        repeat (go_big_quiet_step (first | (go_at_call 47; first | with_reducible exact calls_gw_same _ (zin _))))
        refine wpQuiet_nil ?_
        intro x4
        have hb4 := x4.ok
        have HB4 := Lib.hid (HB3.out.trans (hb4.mono HB3.out.size))

        generalize x4.val = w4 at *
        go_wp2
        go_ret
        exact ⟨by rw [HV.out]; rfl, HB4.out⟩
      have d6 : ((entA zs k).mac == r) = true := by rw [beq_iff_eq]; exact g4
      have d7 : ((entA zs k).mac != r) = false := by rw [bne_eq_false_iff_eq]; exact g4
      have HRM : Hid (Value.int .i64 r = Value.int .i64 (prevM zs (k + 1))) := Lib.hid (by rw [HPM.out, g4])
      have HOK2 : Hid ((k = 0 ∨ (entA zs (k - 1)).second < (entA zs k).second) → litsOk (entA zs k).lights = true → ∀ j, j < k + 1 → entOk zs j = true) := Lib.hid (fun b c => HOK.out G1.out (by omega) G3.out g4 b c)
      clear g4 HOK HPM
      by_cases g5 : k = 0
      · have HOK3 : Hid (litsOk (entA zs k).lights = true → ∀ j, j < k + 1 → entOk zs j = true) := Lib.hid (fun c => HOK2.out (.inl g5) c)
        have d8 : decide ((0 : Int) < (k : Int)) = false := decide_eq_false (by omega)
        have d9 : decide (0 < k) = false := decide_eq_false (by omega)
        have d10 : ¬ (k : Int) > 0 := by omega
        clear g5 HOK2 hpr
        go_wp2
        refine wp_region_grow (by kernel_rfl) (by kernel_rfl) ?_
        repeat (go_big_quiet_step (first | (go_at_call 11; first | with_reducible exact calls_gw _ (hse _))))
        refine wpQuiet_nil ?_
        intro x3
        have hb3 := x3.ok
        have z0 : ∀ y : GW x3.val, y.val.cell? (ad.add (k * 3)) = _ := fun y => y0 ⟨y.val, hb3.trans (y.ok.mono hb3.size)⟩
        have z1 : ∀ y : GW x3.val, y.val.cell? ⟨(ad.add (k * 3)).block, (ad.add (k * 3)).off + 1, none⟩ = _ := fun y => y1 ⟨y.val, hb3.trans (y.ok.mono hb3.size)⟩
        have z2 : ∀ y : GW x3.val, y.val.cell? ⟨(ad.add (k * 3)).block, (ad.add (k * 3)).off + 2, none⟩ = _ := fun y => y2 ⟨y.val, hb3.trans (y.ok.mono hb3.size)⟩
        have u1 : ∀ y : GW x3.val, y.val.cell? ⟨ad.block, ad.off + 1, none⟩ = _ := fun y => v1 ⟨y.val, hb3.trans (y.ok.mono hb3.size)⟩
        have zin := fun y : GW x3.val => hin ⟨y.val, hb3.trans (y.ok.mono hb3.size)⟩
        simp only at zin
        clear y0 y1 y2 v1 hse hin
        have HB3 := Lib.hid (HBL.out.trans (hb3.mono hsz))
        have HB3R := Lib.hid hb3
        clear hb3
        generalize x3.val = w3 at *
        clear x3
        go_wp2
        refine wp_region_grow (by kernel_rfl) (by kernel_rfl) ?_
        repeat (go_big_quiet_step (first | (go_at_call 47; first | with_reducible exact calls_gw_same _ (zin _))))
        refine wpQuiet_nil ?_
        intro x4
        have hb4 := x4.ok
        have HB4 := Lib.hid (HB3.out.trans (hb4.mono HB3.out.size))

        have x1 : x4.val.cell? ⟨(ad.add (k * 3)).block, (ad.add (k * 3)).off + 1, none⟩ = some (.slice A' m c') := z1 ⟨x4.val, hb4⟩
        have X1 := Lib.hid x1
        clear z0 z1 z2 u1 zin x1 HE1 HE2 HE3 HE4 HE5
        have HW4 := Lib.hid (HI.out.keep (w' := x4.val) (fun p hp => (HB3R.out.trans (hb4.mono HB3R.out.size)).cell (by omega)))
        clear hb4
        generalize x4.val = w4 at *
        clear x4
        have lt4 : (ad.add (k * 3)).block < w4.heap.size := by have := HB4.out.size; omega
        go_wp2_with fail
        go_loopw [5] (fun i wq => ∃ j : Nat, j ≤ m ∧ i = .int .i64 j ∧ (∀ q, q < j → inB ((entA zs k).lights.getD q 0) 0 2 = true) ∧ w4 = wq) (fun i _ => m - (intOf i).toNat)
        case atStart => exact ⟨0, Nat.zero_le _, rfl, fun j hj => absurd hj (by omega), rfl⟩
        case round =>
          obtain ⟨j, hj, rfl, hjo, rfl⟩ := hrel
          have HJ := Lib.hid hjo
          have x1 := X1.out
          clear hjo
          by_cases hjl : j < m
          · obtain ⟨ad3, rfl, hab3, hcell⟩ := HW4.out.2 (by omega)
            have hcj := hcell j hjl
            have j1 : (0 : Int) ≤ (j : Int) := by omega
            have j2 : (j : Int) < (m : Int) := by omega
            have HJK : Hid (inB ((entA zs k).lights.getD j 0) 0 2 = true → ∀ q, q < j + 1 → inB ((entA zs k).lights.getD q 0) 0 2 = true) := Lib.hid (fun h q hq => by
              by_cases e : q = j
              · subst e; exact h
              · exact HJ.out q (by omega))
            have HJF := Lib.hid (fun e => HE6.out (HLF.out j hjl e))
            clear hcell
            generalize (entA zs k).lights.getD j 0 = z at *
            cases g : inB z 0 2
            · have HV := Lib.hid (HJF.out g)
              have G := Lib.hid g
              clear g HJK HJF
              go_wp2_with (go_at_call 47; refine (spec_l1In _ _ _ _).mono ?_; rintro e w' ⟨rfl, rfl⟩; rw [G.out])
              go_ret
              exact ⟨by rw [HV.out]; rfl, HB4.out⟩
            · have HV := Lib.hid (HJK.out g)
              have G := Lib.hid g
              clear g HJK HJF
              go_wp2_with (go_at_call 47; refine (spec_l1In _ _ _ _).mono ?_; rintro e w' ⟨rfl, rfl⟩; rw [G.out])
              go_roundw
              case rel => exact ⟨j + 1, by omega, by go_num, HV.out, by first | trivial | rfl⟩
              case measure => simp [intOf]; omega
          · obtain rfl : j = m := by omega
            have HF := Lib.hid (HOK3.out (HLN.out HJ.out))
            go_wp2_with fail
            go_roundw
            case rel => exact ⟨k + 1, by omega, HRM.out, by go_num, HF.out, HB4.out⟩
            case measure => simp [intOf]; omega
      have d8 : decide ((0 : Int) < (k : Int)) = true := decide_eq_true (by omega)
      have d9 : decide (0 < k) = true := decide_eq_true (by omega)
      have d10 : (k : Int) > 0 := by omega
      obtain ⟨q, hqk⟩ := hpr g5
      obtain ⟨ad2, Ap, mp, cp, e, habp, hqp, -, -, -⟩ := H1.out.at (j := q) (by omega)
      injection e with e
      subst e
      have hcnp : (ad.add (q * 3)).block < wr.heap.size := by omega
      have hqqp := hqp.below HBL.out (by omega)
      have p0 := fun y : GW wr => (hqqp.below y.ok hcnp).c0
      have m1 : (0 : Int) ≤ (q : Int) := by omega
      have m2 : (q : Int) < (n : Int) := by omega
      have wq1 : IntKind.i64.wrap ((k : Int) - 1) = (q : Int) := by rw [IntKind.wrap_i64]; omega
      have wq2 : wrap64 ((k : Int) - 1) = (q : Int) := by rw [IntWalk.wrap64_in _ (by omega)]; omega
      have HK1 : Hid (entA zs (k - 1) = entA zs q) := Lib.hid (by rw [← hqk, Nat.add_sub_cancel])
      rw [HK1.out] at HOK2 HE5
      have HE5' := Lib.hid (HE5.out g5)
      clear hqk hqp hqqp hpr HK1
      by_cases g6 : (entA zs q).second < (entA zs k).second
      rotate_left
      · have HV := Lib.hid (HE5'.out g6)
        have d11 : decide ((entA zs k).second ≤ (entA zs q).second) = true := decide_eq_true (by omega)
        have d12 : (entA zs q).second ≥ (entA zs k).second := by omega
        clear g5 g6 HE1 HE2 HE3 HE4 HE5 HE5' HE6 HOK2 HLN HLF HRM
        go_wp2
        refine wp_region_grow (by kernel_rfl) (by kernel_rfl) ?_
        repeat (go_big_quiet_step (first | (go_at_call 11; first | with_reducible exact calls_gw _ (hse _))))
        refine wpQuiet_nil ?_
        intro x3
        have hb3 := x3.ok
        have z0 : ∀ y : GW x3.val, y.val.cell? (ad.add (k * 3)) = _ := fun y => y0 ⟨y.val, hb3.trans (y.ok.mono hb3.size)⟩
        have z1 : ∀ y : GW x3.val, y.val.cell? ⟨(ad.add (k * 3)).block, (ad.add (k * 3)).off + 1, none⟩ = _ := fun y => y1 ⟨y.val, hb3.trans (y.ok.mono hb3.size)⟩
        have z2 : ∀ y : GW x3.val, y.val.cell? ⟨(ad.add (k * 3)).block, (ad.add (k * 3)).off + 2, none⟩ = _ := fun y => y2 ⟨y.val, hb3.trans (y.ok.mono hb3.size)⟩
        have u1 : ∀ y : GW x3.val, y.val.cell? ⟨ad.block, ad.off + 1, none⟩ = _ := fun y => v1 ⟨y.val, hb3.trans (y.ok.mono hb3.size)⟩
        have zp : ∀ y : GW x3.val, y.val.cell? (ad.add (q * 3)) = _ := fun y => p0 ⟨y.val, hb3.trans (y.ok.mono hb3.size)⟩
        have zin := fun y : GW x3.val => hin ⟨y.val, hb3.trans (y.ok.mono hb3.size)⟩
        simp only at zin
        clear y0 y1 y2 v1 hse hin p0
        have HB3 := Lib.hid (HBL.out.trans (hb3.mono hsz))
        clear hb3
        generalize x3.val = w3 at *
        clear x3
        go_wp2
        refine wp_region_grow (by kernel_rfl) (by kernel_rfl) ?_
        repeat (go_big_quiet_step (first | (go_at_call 47; first | with_reducible exact calls_gw_same _ (zin _))))
        refine wpQuiet_nil ?_
        intro x4
        have hb4 := x4.ok
        have HB4 := Lib.hid (HB3.out.trans (hb4.mono HB3.out.size))

        generalize x4.val = w4 at *
        go_wp2
        go_ret
        exact ⟨by rw [HV.out]; rfl, HB4.out⟩
      have HOK3 : Hid (litsOk (entA zs k).lights = true → ∀ j, j < k + 1 → entOk zs j = true) := Lib.hid (fun c => HOK2.out (.inr g6) c)
      have d11 : decide ((entA zs k).second ≤ (entA zs q).second) = false := decide_eq_false (by omega)
      have d12 : ¬ (entA zs q).second ≥ (entA zs k).second := by omega
      clear g5 g6 HOK2 HE5'
      go_wp2
      refine wp_region_grow (by kernel_rfl) (by kernel_rfl) ?_
      repeat (go_big_quiet_step (first | (go_at_call 11; first | with_reducible exact calls_gw _ (hse _))))
      refine wpQuiet_nil ?_
      intro x3
      have hb3 := x3.ok
      have z0 : ∀ y : GW x3.val, y.val.cell? (ad.add (k * 3)) = _ := fun y => y0 ⟨y.val, hb3.trans (y.ok.mono hb3.size)⟩
      have z1 : ∀ y : GW x3.val, y.val.cell? ⟨(ad.add (k * 3)).block, (ad.add (k * 3)).off + 1, none⟩ = _ := fun y => y1 ⟨y.val, hb3.trans (y.ok.mono hb3.size)⟩
      have z2 : ∀ y : GW x3.val, y.val.cell? ⟨(ad.add (k * 3)).block, (ad.add (k * 3)).off + 2, none⟩ = _ := fun y => y2 ⟨y.val, hb3.trans (y.ok.mono hb3.size)⟩
      have u1 : ∀ y : GW x3.val, y.val.cell? ⟨ad.block, ad.off + 1, none⟩ = _ := fun y => v1 ⟨y.val, hb3.trans (y.ok.mono hb3.size)⟩
      have zp : ∀ y : GW x3.val, y.val.cell? (ad.add (q * 3)) = _ := fun y => p0 ⟨y.val, hb3.trans (y.ok.mono hb3.size)⟩
      have zin := fun y : GW x3.val => hin ⟨y.val, hb3.trans (y.ok.mono hb3.size)⟩
      simp only at zin
      clear y0 y1 y2 v1 hse hin p0
      have HB3 := Lib.hid (HBL.out.trans (hb3.mono hsz))
      have HB3R := Lib.hid hb3
      clear hb3
      generalize x3.val = w3 at *
      clear x3
      go_wp2
      refine wp_region_grow (by kernel_rfl) (by kernel_rfl) ?_
      repeat (go_big_quiet_step (first | (go_at_call 47; first | with_reducible exact calls_gw_same _ (zin _))))
      refine wpQuiet_nil ?_
      intro x4
      have hb4 := x4.ok
      have HB4 := Lib.hid (HB3.out.trans (hb4.mono HB3.out.size))

      have x1 : x4.val.cell? ⟨(ad.add (k * 3)).block, (ad.add (k * 3)).off + 1, none⟩ = some (.slice A' m c') := z1 ⟨x4.val, hb4⟩
      have X1 := Lib.hid x1
      clear z0 z1 z2 u1 zin x1 HE1 HE2 HE3 HE4 HE5 zp
      have HW4 := Lib.hid (HI.out.keep (w' := x4.val) (fun p hp => (HB3R.out.trans (hb4.mono HB3R.out.size)).cell (by omega)))
      clear hb4
      generalize x4.val = w4 at *
      clear x4
      have lt4 : (ad.add (k * 3)).block < w4.heap.size := by have := HB4.out.size; omega
      go_wp2_with fail
      go_loopw [5] (fun i wq => ∃ j : Nat, j ≤ m ∧ i = .int .i64 j ∧ (∀ q, q < j → inB ((entA zs k).lights.getD q 0) 0 2 = true) ∧ w4 = wq) (fun i _ => m - (intOf i).toNat)
      case atStart => exact ⟨0, Nat.zero_le _, rfl, fun j hj => absurd hj (by omega), rfl⟩
      case round =>
        obtain ⟨j, hj, rfl, hjo, rfl⟩ := hrel
        have HJ := Lib.hid hjo
        have x1 := X1.out
        clear hjo
        by_cases hjl : j < m
        · obtain ⟨ad3, rfl, hab3, hcell⟩ := HW4.out.2 (by omega)
          have hcj := hcell j hjl
          have j1 : (0 : Int) ≤ (j : Int) := by omega
          have j2 : (j : Int) < (m : Int) := by omega
          have HJK : Hid (inB ((entA zs k).lights.getD j 0) 0 2 = true → ∀ q, q < j + 1 → inB ((entA zs k).lights.getD q 0) 0 2 = true) := Lib.hid (fun h q hq => by
            by_cases e : q = j
            · subst e; exact h
            · exact HJ.out q (by omega))
          have HJF := Lib.hid (fun e => HE6.out (HLF.out j hjl e))
          clear hcell
          generalize (entA zs k).lights.getD j 0 = z at *
          cases g : inB z 0 2
          · have HV := Lib.hid (HJF.out g)
            have G := Lib.hid g
            clear g HJK HJF
            go_wp2_with (go_at_call 47; refine (spec_l1In _ _ _ _).mono ?_; rintro e w' ⟨rfl, rfl⟩; rw [G.out])
            go_ret
            exact ⟨by rw [HV.out]; rfl, HB4.out⟩
          · have HV := Lib.hid (HJK.out g)
            have G := Lib.hid g
            clear g HJK HJF
            go_wp2_with (go_at_call 47; refine (spec_l1In _ _ _ _).mono ?_; rintro e w' ⟨rfl, rfl⟩; rw [G.out])
            go_roundw
            case rel => exact ⟨j + 1, by omega, by go_num, HV.out, by first | trivial | rfl⟩
            case measure => simp [intOf]; omega
        · obtain rfl : j = m := by omega
          have HF := Lib.hid (HOK3.out (HLN.out HJ.out))
          go_wp2_with fail
          go_roundw
          case rel => exact ⟨k + 1, by omega, HRM.out, by go_num, HF.out, HB4.out⟩
          case measure => simp [intOf]; omega
    · obtain rfl : k = n := by omega
      have HR := Lib.hid (HEND.out HG.out)
      have i3 : decide ((k : Int) < (k : Int)) = false := decide_eq_false (by omega)
      go_wp2
      go_ret
      exact ⟨by rw [HR.out]; rfl, hbl⟩
end Go.Proofs.Ytmpcbkonelcceaa

/- IsRecord as exact laws meet them. -/
namespace Go.Proofs.Ytmpcbkonelcceaa
open Go.RowKit
set_option linter.unusedVariables false

theorem sp_IsRecord (A0 : Option Addr) (n0 c0 : Nat) (zs0 : List Ent) (w : World) (h0 : SlEnt w A0 n0 c0 zs0) (hs0 : SmallEnt zs0) (r : Bool) (hr : isRec zs0 = r) :
    Calls Try.prog 16 #[.slice A0 n0 c0] w fun e w' => e = .returned (.bool r) ∧ Below w.heap.size w w' := by
  subst hr
  have hq0 := h0.pths.1
  have hz0 := hs0.1
  exact spec_IsRecord A0 n0 c0 _ zs0 w h0.pths (Nat.le_refl _) (by omega) (fun j hj => hs0.2 j (by omega))
theorem im_IsRecord (A0 : Option Addr) (n0 c0 : Nat) (zs0 : List Ent) (w : World) (h0 : SlEnt w A0 n0 c0 zs0) (hs0 : SmallEnt zs0) (r : Bool) (hr : isRec zs0 = r) :
    Calls Try.prog 18 #[.slice A0 n0 c0] w fun e w' => e = .returned (.bool r) ∧ Below w.heap.size w w' := by
  subst hr
  have hq0 := h0.pths.1
  have hz0 := hs0.1
  exact impl_IsRecord A0 n0 c0 _ zs0 w h0.pths (Nat.le_refl _) (by omega) (fun j hj => hs0.2 j (by omega))
end Go.Proofs.Ytmpcbkonelcceaa

/- Chapter 28: witnesses as data. No program. -/
namespace Go.Proofs.Ytmpcbkonelcceaa
open Go.RowKit
set_option linter.unusedVariables false

/-- what a witness knows. -/
def recZ (zs : List Ent) : List Ent := if isRec zs then zs else []
theorem recZ_yes {zs : List Ent} (h : isRec zs = true) : recZ zs = zs := by unfold recZ; rw [h]; rfl
theorem recZ_no {zs : List Ent} (h : isRec zs = false) : recZ zs = [] := by unfold recZ; rw [h]; rfl
theorem recZ_ok (zs : List Ent) : ∀ i, i < (recZ zs).length → entOk (recZ zs) i = true := by
  cases h : isRec zs
  · rw [recZ_no h]; intro i hi; exact absurd hi (by simp)
  · rw [recZ_yes h]; exact (isRec_parts h).2
theorem recZ_len (zs : List Ent) : (recZ zs).length ≤ 60 := by
  cases h : isRec zs
  · rw [recZ_no h]; simp
  · rw [recZ_yes h]; exact (isRec_parts h).1
theorem recZ_le (zs : List Ent) : (recZ zs).length ≤ zs.length := by
  cases h : isRec zs
  · rw [recZ_no h]; simp
  · rw [recZ_yes h]; exact Nat.le_refl _
theorem atE_recZ (zs : List Ent) (s : Int) : atE zs s = atK (recZ zs) s (recZ zs).length := by
  cases h : isRec zs
  · rw [recZ_no h, atE_no h]; rfl
  · rw [recZ_yes h, atE_yes h]
def hasL (zs : List Ent) (i : Int) : Bool := inB i 0 (((entA zs 0).lights.length : Int) - 1)
theorem hasL_nil (i : Int) : hasL [] i = false := by
  unfold hasL
  cases h : inB i 0 (((entA [] 0).lights.length : Int) - 1)
  · rfl
  · have := inB_t h
    have e : (entA [] 0).lights.length = 0 := rfl
    rw [e] at this
    omega
theorem litE_neg {zs : List Ent} {i e : Int} (h : e < 0) : litE zs i e = -1 := by unfold litE; rw [if_pos (.inl h)]
theorem litE_no {zs : List Ent} {i e : Int} (h : hasL zs i = false) : litE zs i e = -1 := by unfold litE; rw [if_pos (.inr h)]
theorem litE_yes {zs : List Ent} {j : Nat} {k : Nat} (h : hasL zs j = true) : litE zs j k = (entA zs k).lights.getD j 0 := by
  unfold litE
  rw [if_neg]
  · simp
  · intro h2
    rcases h2 with h2 | h2
    · omega
    · unfold hasL at h; rw [h] at h2; cases h2
theorem shownL_recZ (zs : List Ent) (i s : Int) : shownL zs i s = litE (recZ zs) i (atK (recZ zs) s (recZ zs).length) := by
  unfold shownL
  rw [atE_recZ]
  cases h : isRec zs
  · rw [recZ_no h]
    have e : atK ([] : List Ent) s ([] : List Ent).length = -1 := rfl
    rw [e, litE_neg (by omega), litE_neg (by omega)]
  · rw [recZ_yes h]
/-- how many of the first k entries have another light than the one before. -/
def chgK (zs : List Ent) (i : Int) : Nat → Int
  | 0 => 0
  | k + 1 => if k ≠ 0 ∧ litE zs i k ≠ litE zs i ((k : Int) - 1) then chgK zs i k + 1 else chgK zs i k
def chgN (zs : List Ent) (i : Int) : Int := chgK (recZ zs) i (recZ zs).length
theorem chgK_bound (zs : List Ent) (i : Int) : ∀ k : Nat, 0 ≤ chgK zs i k ∧ chgK zs i k ≤ k
  | 0 => by simp [chgK]
  | k + 1 => by
    have := chgK_bound zs i k
    have e : chgK zs i (k + 1) = if k ≠ 0 ∧ litE zs i k ≠ litE zs i ((k : Int) - 1) then chgK zs i k + 1 else chgK zs i k := rfl
    rw [e]
    split <;> omega
theorem chgK_yes {zs : List Ent} {i : Int} {k : Nat} (h0 : k ≠ 0) (h : litE zs i k ≠ litE zs i ((k : Int) - 1)) : chgK zs i (k + 1) = chgK zs i k + 1 := by
  show (if _ then _ else _) = _
  rw [if_pos ⟨h0, h⟩]
theorem chgK_no {zs : List Ent} {i : Int} {k : Nat} (h : k = 0 ∨ litE zs i k = litE zs i ((k : Int) - 1)) : chgK zs i (k + 1) = chgK zs i k := by
  show (if _ then _ else _) = _
  rw [if_neg]
  rintro ⟨h1, h2⟩
  rcases h with h | h
  · exact h1 h
  · exact h2 h
theorem chgK_none {zs : List Ent} {i : Int} (h : hasL zs i = false) : ∀ k : Nat, chgK zs i k = 0
  | 0 => rfl
  | k + 1 => by rw [chgK_no (.inr (by rw [litE_no h, litE_no h])), chgK_none h k]
/-- from which entry on all up to the k-th have been green. -/
def backK (zs : List Ent) (i : Int) : Nat → Nat
  | 0 => 0
  | k + 1 => if litE zs i k = 1 then backK zs i k else k + 1
theorem backK_le (zs : List Ent) (i : Int) : ∀ k : Nat, backK zs i k ≤ k
  | 0 => Nat.le_refl _
  | k + 1 => by
    have := backK_le zs i k
    have e : backK zs i (k + 1) = if litE zs i k = 1 then backK zs i k else k + 1 := rfl
    rw [e]
    split <;> omega
/-- what GreenSince answers. -/
def sinceG (zs : List Ent) (i s : Int) : Int := if shownL zs i s = 1 then IntKind.i64.wrap (s - (entA zs (backK zs i (atE zs s).toNat)).second) else -1
/-- a light that is shown is one of a record's. -/
theorem shown_is {zs : List Ent} {i s : Int} (h : shownL zs i s = 1) : isRec zs = true ∧ ∃ k : Nat, k < zs.length ∧ atE zs s = k ∧ hasL zs i = true ∧ litE zs i k = 1 := by
  have hb := atE_bound zs s
  unfold shownL at h
  have h0 : 0 ≤ atE zs s := by
    rcases Int.lt_or_le (atE zs s) 0 with h1 | h1
    · rw [litE_neg h1] at h; omega
    · exact h1
  refine ⟨?_, (atE zs s).toNat, by omega, by omega, ?_, by rw [Int.toNat_of_nonneg h0]; exact h⟩
  · cases hr : isRec zs
    · rw [atE_no hr] at h0; omega
    · rfl
  · cases hh : hasL zs i
    · rw [litE_no hh] at h; omega
    · rfl
end Go.Proofs.Ytmpcbkonelcceaa

/- Chapter 28: the program's witness: witnessOf, hasLight, lightIn, at. -/
namespace Go.Proofs.Ytmpcbkonelcceaa
open Go.RowKit
set_option linter.unusedVariables false

theorem cell1w {w : World} {g : Nat} {v : Value} {E : TypeId} {fr : Nat × Nat} (h : w.heap[g]? = some (.cells #[v] E fr)) : w.cell? ⟨g, 0, none⟩ = some v := by rw [cell_of_row w g 0 _ E fr h]; rfl
theorem entsAt_nil (w : World) (B : Nat) : EntsAt w B none 0 [] := ⟨rfl, fun h => absurd h (by omega)⟩
/-- what a witness is handed: its entries, a record. -/
structure WitIn (w : World) (A : Option Addr) (n c B : Nat) (zs : List Ent) : Prop where
  e : EntsAt w B A n zs
  ok : ∀ i, i < n → entOk zs i = true
  n60 : n ≤ 60
  B : B ≤ w.heap.size
theorem WitIn.below {w w' : World} {A : Option Addr} {n c B : Nat} {zs : List Ent} (h : WitIn w A n c B zs) (hb : Below w.heap.size w w') : WitIn w' A n c B zs := ⟨h.e.below h.B hb, h.ok, h.n60, Nat.le_trans h.B hb.size⟩
set_option maxHeartbeats 1000000 in
theorem impl_witnessOf (A : Option Addr) (n c B : Nat) (zs : List Ent) (w : World) (h : EntsAt w B A n zs) (hB : B ≤ w.heap.size) (hn : n ≤ 4294967296) (hm : ∀ j, j < n → (entA zs j).lights.length ≤ 1048576) :
    Calls Try.prog 52 #[.slice A n c] w fun e w' => ∃ A' n' c', e = .returned (.agg #[.slice A' n' c']) ∧ WitIn w' A' n' c' B (recZ zs) ∧ Below w.heap.size w w' := by
  have hl := h.1
  obtain ⟨wA, hwA⟩ : ∃ wA, wA = w.alloc (.cells #[.slice none 0 0] 73) := ⟨_, rfl⟩
  obtain ⟨hk0, hsz, hBA⟩ := one_block hwA
  have hcc := impl_IsRecord A n c B zs wA (h.keep (hBA.mono hB)) (by omega) hn hm
  have HK := Lib.hid hk0
  have HBA := Lib.hid hBA
  have HE := Lib.hid h
  have lt0 : w.heap.size < wA.heap.size := by omega
  clear hk0 hsz hBA h hm
  cases hr : isRec zs
  · have HZ := Lib.hid (recZ_no hr)
    rw [hr] at hcc
    clear hr
    go_enter Try.func52, Try.ntmps52
    go_wp2_with fail
    rw [← hwA]
    clear hwA
    refine hcc.mono ?_
    rintro e w1 ⟨rfl, hb1⟩
    have hk1 := (hb1.block _ lt0).trans HK.out
    have z0 := cell1w hk1
    have fz : ∀ j, w1.frozen? ⟨w.heap.size, j, none⟩ = false := fun j => frozen_of_row _ _ j _ _ hk1
    have lt1 := lt_of_block hk1
    have HB1 := Lib.hid (HBA.out.trans (hb1.mono HBA.out.size))
    clear hb1 hcc hk1
    go_wp2
    refine bodyPost_ret (by rw [results_cell rfl]; go_simp; try rfl) rfl ?_
    have hbf := HB1.out.setCell (p := ⟨w.heap.size, 0, none⟩) (Nat.le_refl _) (.slice none 0 0)
    exact ⟨none, 0, 0, rfl, by rw [HZ.out]; exact ⟨entsAt_nil _ _, fun i hi => absurd hi (by omega), by omega, Nat.le_trans hB hbf.size⟩, hbf⟩
  · have HZ := Lib.hid (recZ_yes hr)
    have HP := Lib.hid (isRec_parts hr)
    rw [hr] at hcc
    clear hr
    go_enter Try.func52, Try.ntmps52
    go_wp2_with fail
    rw [← hwA]
    clear hwA
    refine hcc.mono ?_
    rintro e w1 ⟨rfl, hb1⟩
    have hk1 := (hb1.block _ lt0).trans HK.out
    have z0 := cell1w hk1
    have fz : ∀ j, w1.frozen? ⟨w.heap.size, j, none⟩ = false := fun j => frozen_of_row _ _ j _ _ hk1
    have lt1 := lt_of_block hk1
    have HB1 := Lib.hid (HBA.out.trans (hb1.mono HBA.out.size))
    clear hb1 hcc hk1
    go_wp2
    refine bodyPost_ret (by rw [results_cell rfl]; go_simp; try rfl) rfl ?_
    have hbf := HB1.out.setCell (p := ⟨w.heap.size, 0, none⟩) (Nat.le_refl _) (.slice A n c)
    exact ⟨A, n, c, rfl, by rw [HZ.out]; exact ⟨HE.out.keep (hbf.mono hB), fun i hi => HP.out.2 i (by omega), by have := HP.out.1; omega, Nat.le_trans hB hbf.size⟩, hbf⟩
set_option maxHeartbeats 1000000 in
theorem impl_hasLight (A : Option Addr) (n c B : Nat) (zs : List Ent) (i : Int) (w : World) (I : WitIn w A n c B zs) :
    Calls Try.prog 71 #[.agg #[.slice A n c], .int .i64 i] w fun e w' => e = .returned (.bool (hasL zs i)) ∧ Below w.heap.size w w' := by
  have hl := I.e.1
  have hn := I.n60
  obtain ⟨wA, hwA⟩ : ∃ wA, wA = w.alloc (.cells #[.slice A n c] 73) := ⟨_, rfl⟩
  obtain ⟨hk0, hsz, hBA⟩ := one_block hwA
  have HBA := Lib.hid hBA
  have k0 := cell1w hk0
  have lt0 : w.heap.size < wA.heap.size := by omega
  rcases Nat.eq_zero_or_pos n with h0 | hpos
  · have HV : Hid (hasL zs i = false) := Lib.hid (by rw [List.eq_nil_of_length_eq_zero (by omega : zs.length = 0)]; exact hasL_nil i)
    subst h0
    clear I hl hk0 hsz hBA
    go_enter Try.func71, Try.ntmps71
    go_wp2_with ((with_reducible show wpList _ _ _ _ _ _); rw [← hwA]; clear hwA; fail)
    go_ret
    exact ⟨by rw [HV.out]; rfl, (Below.refl _ _).alloc (Nat.le_refl _) _⟩
  · obtain ⟨ad, A', m, c', rfl, hab, hq, hi, hmc, hnil⟩ := I.e.at (j := 0) hpos
    have hz0 : ad.add (0 * 3) = ad := by simp [Addr.add]
    rw [hz0] at hq hab
    have hB := I.B
    have y1 := hq.c1
    have lta : ad.block < w.heap.size := by omega
    have hlm := hi.1
    have ho := I.ok 0 hpos
    have hm12 := (entOk_parts ho).1.2.1
    have HV : Hid (hasL zs i = inB i 0 ((m : Int) - 1)) := Lib.hid (by unfold hasL; rw [hlm])
    have i4 : (0 : Int) < (n : Int) := by omega
    have i5 : decide ((0 : Int) < (n : Int)) = true := decide_eq_true i4
    have i6 : decide (0 < n) = true := decide_eq_true hpos
    have wm : IntKind.i64.wrap ((m : Int) - 1) = (m : Int) - 1 := by rw [IntKind.wrap_i64]; omega
    have hin := fun y => impl_InRange i 0 ((m : Int) - 1) y
    clear hq hi hk0 hsz hBA I ho hnil hmc hwA k0 HBA lt0 hz0
    go_enter Try.func71, Try.ntmps71
    go_wp2_with (go_at_call 63; refine (hin _).mono ?_; rintro e w' ⟨rfl, rfl⟩)
    go_ret
    exact ⟨by rw [HV.out]; rfl, (Below.refl _ _).alloc (Nat.le_refl _) _⟩
theorem half_sum {lo hi : Nat} (h : lo + hi ≤ 1000) : IntKind.i64.wrap ((lo : Int) + (hi : Int)) = (lo : Int) + (hi : Int) := by rw [IntKind.wrap_i64]; omega
theorem half_div {lo hi : Nat} : ((lo : Int) + (hi : Int)).tdiv 2 = (((lo + hi) / 2 : Nat) : Int) := by rw [Int.tdiv_eq_ediv_of_nonneg (by omega)]; omega
theorem half_wrap {lo hi : Nat} (h : lo + hi ≤ 1000) : IntKind.i64.wrap (((lo : Int) + (hi : Int)).tdiv 2) = (((lo + hi) / 2 : Nat) : Int) := by rw [half_div, IntKind.wrap_i64]; omega
set_option maxHeartbeats 2000000 in
theorem impl_witAt (A : Option Addr) (n c B : Nat) (zs : List Ent) (s : Int) (w : World) (I : WitIn w A n c B zs) :
    Calls Try.prog 54 #[.agg #[.slice A n c], .int .i64 s] w fun e w' => e = .returned (.int .i64 (atK zs s n)) ∧ Below w.heap.size w w' := by
  have hl := I.e.1
  have hn := I.n60
  have HS := Lib.hid (fun i j (h1 : i < j) (h2 : j < n) => rec_sec (zs := zs) (k := n) I.ok i j h1 h2)
  obtain ⟨wA, hwA⟩ : ∃ wA, wA = w.alloc (.cells #[.slice A n c] 73) := ⟨_, rfl⟩
  obtain ⟨hk0, hsz, hBA⟩ := one_block hwA
  have HBA := Lib.hid hBA
  have lt0 : w.heap.size < wA.heap.size := by omega
  have y0 := fun y : GW wA => cell1w ((y.ok.block _ lt0).trans hk0)
  have HK := Lib.hid hk0
  have IE := Lib.hid I.e
  have hB := I.B
  clear hk0 hsz hBA I
  go_enter Try.func54, Try.ntmps54
  go_wp2
  rw [← hwA]
  clear hwA
  refine wp_region_grow (by kernel_rfl) (by kernel_rfl) ?_
  repeat (go_big_quiet_step (first | fail))
  refine wpQuiet_nil ?_
  intro x3
  have hk3 := Lib.hid ((x3.ok.block _ lt0).trans HK.out)
  have HB3 := Lib.hid (HBA.out.trans (x3.ok.mono HBA.out.size))
  clear y0
  generalize x3.val = w3 at *
  clear x3
  go_wp2
  go_loopw [5, 6] (fun a b wr => ∃ lo hi : Nat, a = .int .i64 lo ∧ b = .int .i64 hi ∧ lo ≤ hi ∧ hi ≤ n ∧ (∀ j, j < lo → (entA zs j).second ≤ s) ∧ (∀ j, hi ≤ j → j < n → ¬ (entA zs j).second ≤ s) ∧ w3 = wr) (fun a b _ => (intOf b).toNat - (intOf a).toNat)
  case atStart => exact ⟨0, n, rfl, rfl, Nat.zero_le _, Nat.le_refl _, fun j hj => absurd hj (by omega), fun j h1 h2 => absurd h2 (by omega), rfl⟩
  case round =>
    obtain ⟨lo, hi, rfl, rfl, hlh, hhn, hlo, hhi, rfl⟩ := hrel
    have HLO := Lib.hid hlo
    have HHI := Lib.hid hhi
    clear hlo hhi
    by_cases hlt : lo < hi
    · obtain ⟨md, hmd⟩ : ∃ md, md = (lo + hi) / 2 := ⟨_, rfl⟩
      have hm1 : lo ≤ md := by omega
      have hm2 : md < hi := by omega
      have e1 : (lo : Int) < (hi : Int) := by omega
      have e2 := half_sum (lo := lo) (hi := hi) (by omega)
      have e3 := half_div (lo := lo) (hi := hi)
      have e4 := half_wrap (lo := lo) (hi := hi) (by omega)
      rw [← hmd] at e3 e4
      obtain ⟨ad, A', m, c', rfl, hab, hq, -, -, -⟩ := IE.out.at (j := md) (by omega)
      have c0 := (hq.below HB3.out (by omega)).c0
      have x0 := cell1w hk3.out
      have j1 : (0 : Int) ≤ (md : Int) := by omega
      have j2 : (md : Int) < (n : Int) := by omega
      clear hq hmd
      by_cases hs : (entA zs md).second ≤ s
      · have HN : Hid (∀ j, j < md + 1 → (entA zs j).second ≤ s) := Lib.hid (fun j hj => by
          by_cases e : j = md
          · subst e; exact hs
          · have := HS.out j md (by omega) (by omega)
            omega)
        go_wp2
        go_roundw
        case rel => exact ⟨md + 1, hi, by go_num, rfl, by omega, hhn, HN.out, HHI.out, by first | trivial | rfl⟩
        case measure => simp [intOf]; omega
      · have HN : Hid (∀ j, md ≤ j → j < n → ¬ (entA zs j).second ≤ s) := Lib.hid (fun j hj hjn => by
          by_cases e : j = md
          · subst e; exact hs
          · have := HS.out md j (by omega) hjn
            omega)
        go_wp2
        go_roundw
        case rel => exact ⟨lo, md, rfl, rfl, hm1, by omega, HLO.out, HN.out, by first | trivial | rfl⟩
        case measure => simp [intOf]; omega
    · obtain rfl : lo = hi := by omega
      have HV : Hid (atK zs s n = (lo : Int) - 1) := Lib.hid (atK_cut hhn HLO.out HHI.out)
      have e2 : IntKind.i64.wrap ((lo : Int) - 1) = (lo : Int) - 1 := by rw [IntKind.wrap_i64]; omega
      go_wp2
      go_ret
      exact ⟨by rw [HV.out]; try rfl, HB3.out⟩
/-- the closure's two cells. -/
structure LitAt (w : World) (g : Nat) (A : Option Addr) (n c : Nat) (i : Int) : Prop where
  k0 : w.heap[g]? = some (.cells #[.slice A n c] 73)
  k1 : w.heap[g + 1]? = some (.cells #[.int .i64 i] 3)
theorem LitAt.below {w w' : World} {g : Nat} {A : Option Addr} {n c : Nat} {i : Int} (h : LitAt w g A n c i) (hb : Below w.heap.size w w') : LitAt w' g A n c i :=
  ⟨(hb.block _ (lt_of_block h.k0)).trans h.k0, (hb.block _ (lt_of_block h.k1)).trans h.k1⟩
/-- the function value that lightIn answers. -/
def litF (g : Nat) : Value := .func (.func 70) #[] #[.pointer (some ⟨g, 0, none⟩), .pointer (some ⟨g + 1, 0, none⟩)]
theorem impl_lightIn (A : Option Addr) (n c : Nat) (i : Int) (w : World) :
    Calls Try.prog 53 #[.agg #[.slice A n c], .int .i64 i] w fun e w' => e = .returned (litF w.heap.size) ∧ LitAt w' w.heap.size A n c i ∧ Below w.heap.size w w' := by
  obtain ⟨wA, hwA⟩ : ∃ wA, wA = (w.alloc (.cells #[.slice A n c] 73)).alloc (.cells #[.int .i64 i] 3) := ⟨_, rfl⟩
  obtain ⟨hk0, hk1, hsz, hBA⟩ := two_blocks hwA
  have HL : Hid (LitAt wA w.heap.size A n c i) := Lib.hid ⟨hk0, hk1⟩
  have HB := Lib.hid hBA
  clear hk0 hk1 hsz hBA
  unfold litF
  go_enter Try.func53, Try.ntmps53
  go_wp2
  rw [← hwA]
  go_ret
  exact ⟨rfl, HL.out, HB.out⟩
set_option maxHeartbeats 1000000 in
theorem impl_lightIn1 (g : Nat) (A : Option Addr) (n c B : Nat) (zs : List Ent) (i e : Int) (w : World) (I : WitIn w A n c B zs) (L : LitAt w g A n c i) (he : e < (n : Int)) :
    Calls Try.prog 70 #[.int .i64 e, .pointer (some ⟨g, 0, none⟩), .pointer (some ⟨g + 1, 0, none⟩)] w fun r w' => r = .returned (.int .i64 (litE zs i e)) ∧ Below w.heap.size w w' := by
  have hn := I.n60
  have hcc := impl_hasLight A n c B zs i w I
  have c0 := cell1w L.k0
  have c1 := cell1w L.k1
  cases hh : hasL zs i
  · have HV := Lib.hid (litE_no (e := e) hh)
    rw [hh] at hcc
    clear I L hh
    go_enter Try.func70, Try.ntmps70
    go_wp2_with fail
    refine hcc.mono ?_
    rintro r w1 ⟨rfl, hb1⟩
    have HB1 := Lib.hid hb1
    clear hb1 hcc
    go_wp2
    go_ret
    exact ⟨by rw [HV.out]; try rfl, HB1.out⟩
  rw [hh] at hcc
  by_cases h0 : e < 0
  · have HV := Lib.hid (litE_neg (zs := zs) (i := i) h0)
    have d0 : decide (e < 0) = true := decide_eq_true h0
    clear I L hh
    go_enter Try.func70, Try.ntmps70
    go_wp2_with fail
    refine hcc.mono ?_
    rintro r w1 ⟨rfl, hb1⟩
    have HB1 := Lib.hid hb1
    clear hb1 hcc
    go_wp2
    go_ret
    exact ⟨by rw [HV.out]; try rfl, HB1.out⟩
  · obtain ⟨k, rfl⟩ : ∃ k : Nat, e = k := ⟨e.toNat, by omega⟩
    have d0 : decide ((k : Int) < 0) = false := decide_eq_false h0
    have hi2 := inB_t hh
    obtain ⟨j, rfl⟩ : ∃ j : Nat, i = j := ⟨i.toNat, by omega⟩
    have HV := Lib.hid (litE_yes (k := k) hh)
    obtain ⟨ad, A', m, c', rfl, hab, hq, hi, hmc, hnil⟩ := I.e.at (j := k) (by omega)
    have hlm := hi.1
    have hln := rec_len I.ok k (by omega)
    obtain ⟨ad2, rfl, hab2, hcell⟩ := hi.2 (by omega)
    have hcj := hcell j (by omega)
    have i1 : (0 : Int) ≤ (k : Int) := by omega
    have i2 : (k : Int) < (n : Int) := by omega
    have j1 : (0 : Int) ≤ (j : Int) := by omega
    have j2 : (j : Int) < (m : Int) := by omega
    have hB := I.B
    have y1 := hq.c1
    have HY1 := Lib.hid (fun y : World => fun hy : Below w.heap.size w y => (hy.cell (p := ⟨(ad.add (k * 3)).block, (ad.add (k * 3)).off + 1, none⟩) (by simp only; omega)).trans hq.c1)
    have HCJ := Lib.hid (fun y : World => fun hy : Below w.heap.size w y => (hy.cell (p := ad2.add j) (by rw [add_block]; omega)).trans hcj)
    have HK0 := Lib.hid (fun y : World => fun hy : Below w.heap.size w y => (hy.block _ (lt_of_block L.k0)).trans L.k0)
    have HK1 := Lib.hid (fun y : World => fun hy : Below w.heap.size w y => (hy.block _ (lt_of_block L.k1)).trans L.k1)
    rw [litE_yes hh]
    clear I L hh hcell hi hq hln hlm hi2 hnil hmc HV
    generalize (entA zs k).lights.getD j 0 = z at *
    go_enter Try.func70, Try.ntmps70
    go_wp2_with fail
    refine hcc.mono ?_
    rintro r w1 ⟨rfl, hb1⟩
    have HB1 := Lib.hid hb1
    have y0 := fun y : GW w1 => cell1w (HK0.out y.val (hb1.trans (y.ok.mono hb1.size)))
    have yi := fun y : GW w1 => cell1w (HK1.out y.val (hb1.trans (y.ok.mono hb1.size)))
    have yl := fun y : GW w1 => HY1.out y.val (hb1.trans (y.ok.mono hb1.size))
    have yc := fun y : GW w1 => HCJ.out y.val (hb1.trans (y.ok.mono hb1.size))
    clear hb1 hcc c0 c1 y1 hcj
    go_wp2
    refine wp_region_grow (by kernel_rfl) (by kernel_rfl) ?_
    iterate 10 (go_big_quiet_step (first | fail))
    refine wpQuiet_nil ?_
    intro x3
    have HB3 := Lib.hid (HB1.out.trans (x3.ok.mono HB1.out.size))
    clear y0 yi yl yc
    generalize x3.val = w3 at *
    clear x3 HY1 HCJ HK0 HK1 HB1
    go_wp2
    go_ret
    exact ⟨rfl, HB3.out⟩
end Go.Proofs.Ytmpcbkonelcceaa

/- Chapter 28: LightShown, CountChanges, GreenSince of the program. -/
namespace Go.Proofs.Ytmpcbkonelcceaa
open Go.RowKit
set_option linter.unusedVariables false

set_option maxHeartbeats 2000000 in
theorem impl_LightShown (A : Option Addr) (n c B : Nat) (zs : List Ent) (i s : Int) (w : World) (h : EntsAt w B A n zs) (hB : B ≤ w.heap.size) (hn : n ≤ 4294967296) (hm : ∀ j, j < n → (entA zs j).lights.length ≤ 1048576) :
    Calls Try.prog 21 #[.slice A n c, .int .i64 i, .int .i64 s] w fun e w' => e = .returned (.int .i64 (shownL zs i s)) ∧ Below w.heap.size w w' := by
  have hcc := impl_witnessOf A n c B zs w h hB hn hm
  have HV := Lib.hid (shownL_recZ zs i s)
  generalize recZ zs = rs at *
  clear h hm
  go_enter Try.func21, Try.ntmps21
  go_wp2_with fail
  refine hcc.mono ?_
  rintro r w1 ⟨A', n', c', rfl, I, hb1⟩
  obtain ⟨w2, hw2⟩ : ∃ w2, w2 = w1.alloc (.cells #[.slice A' n' c'] 73) := ⟨_, rfl⟩
  obtain ⟨hk2, -, hb2⟩ := one_block hw2
  have I2 := Lib.hid (I.below hb2)
  have HB2 := Lib.hid (hb1.trans (hb2.mono hb1.size))
  have HK2 := Lib.hid hk2
  have hlr := I.e.1
  clear hcc I hb1 hk2 hb2
  go_wp2_with fail
  rw [← hw2]
  generalize w1.heap.size = g1 at *
  clear hw2
  refine (impl_lightIn A' n' c' i w2).mono ?_
  rintro r w3 ⟨rfl, L, hb3⟩
  unfold litF
  have HK3 := Lib.hid ((hb3.block _ (lt_of_block HK2.out)).trans HK2.out)
  have I3 := Lib.hid (I2.out.below hb3)
  have L3 := Lib.hid L
  have HB3 := Lib.hid (HB2.out.trans (hb3.mono HB2.out.size))
  clear L hb3 HK2 I2 HB2
  generalize w2.heap.size = g2 at *
  have x0 := cell1w HK3.out
  go_wp2_with fail
  refine (impl_witAt A' n' c' B rs s w3 I3.out).mono ?_
  rintro r w4 ⟨rfl, hb4⟩
  have I4 := Lib.hid (I3.out.below hb4)
  have L4 := Lib.hid (L3.out.below hb4)
  have HB4 := Lib.hid (HB3.out.trans (hb4.mono HB3.out.size))
  clear hb4 I3 L3 HB3 x0
  go_wp2_with fail
  refine (impl_lightIn1 g2 A' n' c' B rs i _ w4 I4.out L4.out (by have := atK_bound rs s n'; omega)).mono ?_
  rintro r w5 ⟨rfl, hb5⟩
  have HB5 := Lib.hid (HB4.out.trans (hb5.mono HB4.out.size))
  clear hb5 I4 L4
  go_wp2
  go_ret
  exact ⟨by rw [HV.out, hlr]; try rfl, HB5.out⟩
set_option maxHeartbeats 2000000 in
theorem impl_CountChanges (A : Option Addr) (n c B : Nat) (zs : List Ent) (i : Int) (w : World) (h : EntsAt w B A n zs) (hB : B ≤ w.heap.size) (hn : n ≤ 4294967296) (hm : ∀ j, j < n → (entA zs j).lights.length ≤ 1048576) :
    Calls Try.prog 28 #[.slice A n c, .int .i64 i] w fun e w' => e = .returned (.int .i64 (chgN zs i)) ∧ Below w.heap.size w w' := by
  have hcc := impl_witnessOf A n c B zs w h hB hn hm
  have HV : Hid (chgN zs i = chgK (recZ zs) i (recZ zs).length) := Lib.hid rfl
  generalize recZ zs = rs at *
  clear h hm
  go_enter Try.func28, Try.ntmps28
  go_wp2_with fail
  refine hcc.mono ?_
  rintro r w1 ⟨A', n', c', rfl, I, hb1⟩
  obtain ⟨w2, hw2⟩ : ∃ w2, w2 = w1.alloc (.cells #[.slice A' n' c'] 73) := ⟨_, rfl⟩
  obtain ⟨hk2, -, hb2⟩ := one_block hw2
  have I2 := Lib.hid (I.below hb2)
  have HB2 := Lib.hid (hb1.trans (hb2.mono hb1.size))
  have HK2 := Lib.hid hk2
  have hlr := I.e.1
  have h60 := I.n60
  clear hcc I hb1 hk2 hb2
  go_wp2_with fail
  rw [← hw2]
  generalize w1.heap.size = g1 at *
  clear hw2
  refine (impl_lightIn A' n' c' i w2).mono ?_
  rintro r w3 ⟨rfl, L, hb3⟩
  unfold litF
  have HK3 := Lib.hid ((hb3.block _ (lt_of_block HK2.out)).trans HK2.out)
  have I3 := Lib.hid (I2.out.below hb3)
  have L3 := Lib.hid L
  have HB3 := Lib.hid (HB2.out.trans (hb3.mono HB2.out.size))
  clear L hb3 HK2 I2 HB2
  generalize w2.heap.size = g2 at *
  rw [hlr] at HV
  go_wp2_with fail
  go_loopw [7, 8] (fun v x wr => ∃ k : Nat, 1 ≤ k ∧ (k ≤ n' ∨ k = 1) ∧ x = .int .i64 k ∧ v = .int .i64 (chgK rs i k) ∧ Below w3.heap.size w3 wr) (fun _ x _ => n' - (intOf x).toNat)
  case atStart => exact ⟨1, Nat.le_refl _, .inr rfl, rfl, by rw [chgK_no (.inl rfl)]; rfl, Below.refl _ _⟩
  case round =>
    obtain ⟨k, hk1, hkn, rfl, rfl, hbl⟩ := hrel
    have x0 := cell1w ((hbl.block _ (lt_of_block HK3.out)).trans HK3.out)
    have HBL := Lib.hid hbl
    have HBW := Lib.hid (HB3.out.trans (hbl.mono HB3.out.size))
    obtain ⟨b1, b2⟩ := chgK_bound rs i k
    clear hbl
    by_cases hlt : k < n'
    · have i2 : (k : Int) < (n' : Int) := by omega
      have hc1 := impl_lightIn1 g2 A' n' c' B rs i k wr (I3.out.below HBL.out) (L3.out.below HBL.out) (by omega)
      have hc2 := Lib.hid (fun y (hy : Below w3.heap.size w3 y) => impl_lightIn1 g2 A' n' c' B rs i ((k : Int) - 1) y (I3.out.below hy) (L3.out.below hy) (by omega))
      have wk : IntKind.i64.wrap ((k : Int) - 1) = (k : Int) - 1 := by rw [IntKind.wrap_i64]; omega
      have HY := Lib.hid (chgK_yes (zs := rs) (i := i) (k := k) (by omega))
      have HN := Lib.hid (fun h => chgK_no (zs := rs) (i := i) (k := k) (.inr h))
      generalize litE rs i k = p1 at *
      generalize litE rs i ((k : Int) - 1) = p2 at *
      by_cases he : p1 = p2
      · have HS := Lib.hid (HN.out he)
        have e1 : (p1 == p2) = true := by rw [beq_iff_eq]; exact he
        have e2 : (p1 != p2) = false := by rw [bne_eq_false_iff_eq]; exact he
        clear HY HN he
        go_wp2_with fail
        refine hc1.mono ?_
        rintro r w4 ⟨rfl, hb4⟩
        have HB4 := Lib.hid (HBL.out.trans (hb4.mono HBL.out.size))
        clear hb4 hc1 x0
        go_wp2_with fail
        refine (hc2.out _ HB4.out).mono ?_
        rintro r w5 ⟨rfl, hb5⟩
        have HB5 := Lib.hid (HB4.out.trans (hb5.mono HB4.out.size))
        clear hb5
        go_wp2_with fail
        go_roundw
        case rel => exact ⟨k + 1, by omega, .inl (by omega), by go_num, by rw [HS.out], HB5.out⟩
        case measure => simp [intOf]; omega
      · have HS := Lib.hid (HY.out he)
        have e1 : (p1 == p2) = false := by rw [beq_eq_false_iff_ne]; exact he
        have e2 : (p1 != p2) = true := by rw [bne_iff_ne]; exact he
        clear HY HN he
        go_wp2_with fail
        refine hc1.mono ?_
        rintro r w4 ⟨rfl, hb4⟩
        have HB4 := Lib.hid (HBL.out.trans (hb4.mono HBL.out.size))
        clear hb4 hc1 x0
        go_wp2_with fail
        refine (hc2.out _ HB4.out).mono ?_
        rintro r w5 ⟨rfl, hb5⟩
        have HB5 := Lib.hid (HB4.out.trans (hb5.mono HB4.out.size))
        clear hb5
        go_wp2_with fail
        go_roundw
        case rel => exact ⟨k + 1, by omega, .inl (by omega), by go_num, by rw [HS.out], HB5.out⟩
        case measure => simp [intOf]; omega
    · have HE : Hid (chgK rs i n' = chgK rs i k) := Lib.hid (by
        rcases hkn with h | h
        · obtain rfl : k = n' := by omega
          rfl
        · subst h
          rcases Nat.eq_zero_or_pos n' with h0 | h0
          · rw [h0, chgK_no (.inl rfl)]
          · obtain rfl : n' = 1 := by omega
            rfl)
      have i2 : ¬ (k : Int) < (n' : Int) := by omega
      clear hkn
      go_wp2_with fail
      go_ret
      exact ⟨by rw [HV.out, HE.out]; try rfl, HBW.out⟩
theorem backK_yes {zs : List Ent} {i : Int} {k : Nat} (h : litE zs i k = 1) : backK zs i (k + 1) = backK zs i k := by show (if _ then _ else _) = _; rw [if_pos h]
theorem backK_no {zs : List Ent} {i : Int} {k : Nat} (h : litE zs i k ≠ 1) : backK zs i (k + 1) = k + 1 := by show (if _ then _ else _) = _; rw [if_neg h]
set_option maxHeartbeats 4000000 in
set_option maxRecDepth 100000 in
theorem impl_GreenSince (A : Option Addr) (n c B : Nat) (zs : List Ent) (i s : Int) (w : World) (h : EntsAt w B A n zs) (hB : B ≤ w.heap.size) (hn : n ≤ 4294967296) (hm : ∀ j, j < n → (entA zs j).lights.length ≤ 1048576) :
    Calls Try.prog 30 #[.slice A n c, .int .i64 i, .int .i64 s] w fun e w' => e = .returned (.int .i64 (sinceG zs i s)) ∧ Below w.heap.size w w' := by
  have hcc := impl_witnessOf A n c B zs w h hB hn hm
  have HSL := Lib.hid (shownL_recZ zs i s)
  have HV : Hid (sinceG zs i s = if shownL zs i s = 1 then IntKind.i64.wrap (s - (entA zs (backK zs i (atE zs s).toNat)).second) else -1) := Lib.hid rfl
  have HAE := Lib.hid (atE_recZ zs s)
  have HRZ : Hid (shownL zs i s = 1 → recZ zs = zs) := Lib.hid (fun h => recZ_yes (shown_is h).1)
  have hmx : Try.prog.follows .mixedOrders = true := by kernel_rfl
  generalize hrs : recZ zs = rs at *
  clear h hm hrs
  go_enter Try.func30, Try.ntmps30
  go_wp2_with fail
  refine hcc.mono ?_
  rintro r w1 ⟨A', n', c', rfl, I, hb1⟩
  obtain ⟨w2, hw2⟩ : ∃ w2, w2 = w1.alloc (.cells #[.slice A' n' c'] 73) := ⟨_, rfl⟩
  obtain ⟨hk2, -, hb2⟩ := one_block hw2
  have I2 := Lib.hid (I.below hb2)
  have HB2 := Lib.hid (hb1.trans (hb2.mono hb1.size))
  have HK2 := Lib.hid hk2
  have hlr := I.e.1
  have h60 := I.n60
  clear hcc I hb1 hk2 hb2
  go_wp2_with fail
  rw [← hw2]
  generalize w1.heap.size = g1 at *
  clear hw2
  refine wp_region_held_drew (S := fun W' => W'.heap[g1]? = some (.cells #[.slice A' n' c'] 73 (0, 0))) hmx HK2.out (fun hH => ?_)
  refine wpAnyH_take (i := 0) (v := .agg #[.slice A' n' c']) rfl (by kernel_rfl) (by kernel_rfl) (by kernel_rfl) (fun _ _ _ h => h) (Or.inl ⟨by rfl, by intro W' hSw; have hlt := lt_of_block hSw; have k0 := cell1w hSw; go_simp⟩) hH ?_
  try simp only [Act.put, List.setIfInBounds_toArray, List.set_cons_zero, List.set_cons_succ]
  refine wpAnyH_take (i := 1) (v := .int .i64 i) rfl (by kernel_rfl) (by kernel_rfl) (by kernel_rfl) (fun _ _ _ h => h) (Or.inl ⟨by rfl, by intro W' hSw; go_simp⟩) hH ?_
  try simp only [Act.put, List.setIfInBounds_toArray, List.set_cons_zero, List.set_cons_succ]
  refine wpAnyH_take (i := 3) (v := .agg #[.slice A' n' c']) rfl (by kernel_rfl) (by kernel_rfl) (by kernel_rfl) (fun _ _ _ h => h) (Or.inl ⟨by rfl, by intro W' hSw; have hlt := lt_of_block hSw; have k0 := cell1w hSw; go_simp⟩) hH ?_
  try simp only [Act.put, List.setIfInBounds_toArray, List.set_cons_zero, List.set_cons_succ]
  refine wpAnyH_take (i := 4) (v := .int .i64 s) rfl (by kernel_rfl) (by kernel_rfl) (by kernel_rfl) (fun _ _ _ h => h) (Or.inl ⟨by rfl, by intro W' hSw; go_simp⟩) hH ?_
  try simp only [Act.put, List.setIfInBounds_toArray, List.set_cons_zero, List.set_cons_succ]
  refine wpAnyH_ready (rs := [2]) (by decide +kernel) (by simp) (AllReadyH.cons rfl (fun K hK => ?_) AllReadyH.nil)
  go_simp
  have hd2 : Below w2.heap.size w2 w2.drew := ⟨rfl, rfl, rfl, Nat.le_refl _, fun _ _ => rfl⟩
  refine (impl_lightIn A' n' c' i w2.drew).mono ?_
  rintro r w3 ⟨rfl, L, hb3⟩
  replace hb3 := hd2.trans hb3
  unfold litF
  have hk3 := (hb3.block _ (lt_of_block HK2.out)).trans HK2.out
  have HK3 := Lib.hid hk3
  have I3 := Lib.hid (I2.out.below hb3)
  have L3 := Lib.hid L
  have HB3 := Lib.hid (HB2.out.trans (hb3.mono HB2.out.size))
  clear L hb3 HK2 I2 HB2 hd2
  have hgg : ∃ g, g = w2.drew.heap.size := ⟨_, rfl⟩
  obtain ⟨g2, hg2⟩ := hgg
  rw [← hg2] at L3 ⊢
  clear hg2
  go_wp2_with fail
  refine hK.out _ _ hk3 (fun hH => ?_)
  clear hK K hk3
  try simp only [Act.put, List.setIfInBounds_toArray, List.set_cons_zero, List.set_cons_succ]
  refine wpAnyH_ready (rs := [5]) (by decide +kernel) (by simp) (AllReadyH.cons rfl (fun K hK => ?_) AllReadyH.nil)
  go_simp
  refine (impl_witAt A' n' c' B rs s w3 I3.out).mono ?_
  rintro r w4 ⟨rfl, hb4⟩
  have hk4 := (hb4.block _ (lt_of_block HK3.out)).trans HK3.out
  have HK4 := Lib.hid hk4
  have I4 := Lib.hid (I3.out.below hb4)
  have L4 := Lib.hid (L3.out.below hb4)
  have HB4 := Lib.hid (HB3.out.trans (hb4.mono HB3.out.size))
  clear hb4 I3 L3 HB3 HK3
  go_wp2_with fail
  refine hK.out _ _ hk4 (fun hH => ?_)
  clear hK K
  try simp only [Act.put, List.setIfInBounds_toArray, List.set_cons_zero, List.set_cons_succ]
  refine wpAnyH_ready (rs := [6]) (by decide +kernel) (by simp) (AllReadyH.cons rfl (fun K hK => ?_) AllReadyH.nil)
  go_simp
  refine hK.out _ _ hk4 (fun hH => ?_)
  clear hK K
  try simp only [Act.put, List.setIfInBounds_toArray, List.set_cons_zero, List.set_cons_succ]
  refine wpAnyH_ready (rs := [7]) (by decide +kernel) (by simp) (AllReadyH.cons rfl (fun K hK => ?_) AllReadyH.nil)
  go_simp
  refine hK.out _ _ hk4 (fun hH => ?_)
  clear hK K
  try simp only [Act.put, List.setIfInBounds_toArray, List.set_cons_zero, List.set_cons_succ]
  refine wpAnyH_done (by decide +kernel) ?_ _
  clear hk4 hH hmx
  have hab := atK_bound rs s n'
  rw [hlr] at HSL HAE
  have HE : Hid (atE zs s = atK rs s n') := Lib.hid HAE.out
  have hsl := HSL.out
  have hae := HAE.out
  generalize atK rs s n' = en at *
  obtain ⟨a1, a2⟩ := hab
  have hc := impl_lightIn1 g2 A' n' c' B rs i en w4 I4.out L4.out a2
  by_cases hp : litE rs i en = 1
  rotate_left
  · have HR : Hid (sinceG zs i s = -1) := Lib.hid (by rw [HV.out, if_neg (by rw [hsl]; exact hp)])
    generalize litE rs i en = p at *
    have e1 : (p == 1) = false := by rw [beq_eq_false_iff_ne]; exact hp
    have e2 : (p != 1) = true := by rw [bne_iff_ne]; exact hp
    clear hsl hae HV HSL HAE HE HRZ hp
    go_wp2_with fail
    refine hc.mono ?_
    rintro r w5 ⟨rfl, hb5⟩
    have HB5 := Lib.hid (HB4.out.trans (hb5.mono HB4.out.size))
    clear hb5 hc
    go_wp2_with fail
    go_ret
    exact ⟨by rw [HR.out]; try rfl, HB5.out⟩
  have hsh : shownL zs i s = 1 := by rw [hsl]; exact hp
  have hzr := HRZ.out hsh
  obtain ⟨-, k0, -, hek, -, -⟩ := shown_is hsh
  obtain rfl : en = (k0 : Int) := by omega
  have HR : Hid (sinceG zs i s = IntKind.i64.wrap (s - (entA rs (backK rs i k0)).second)) := Lib.hid (by rw [HV.out, if_pos hsh, hek, hzr]; rfl)
  rw [hp] at hc
  have e1 : ((1 : Int) == 1) = true := rfl
  have hk60 : k0 < n' := by omega
  clear hsl hae HV HSL HAE HE HRZ hp hsh hzr hek
  go_wp2_with fail
  refine hc.mono ?_
  rintro r w5 ⟨rfl, hb5⟩
  have HB5 := Lib.hid hb5
  clear hb5 hc
  go_wp2_with fail
  go_loopw [9] (fun x wr => ∃ q : Nat, q ≤ k0 ∧ x = .int .i64 q ∧ backK rs i k0 = backK rs i q ∧ Below w4.heap.size w4 wr) (fun x _ => (intOf x).toNat)
  case atStart => exact ⟨k0, Nat.le_refl _, rfl, rfl, HB5.out⟩
  case round =>
    obtain ⟨q, hq, rfl, hbk, hbl⟩ := hrel
    have HBL := Lib.hid hbl
    have HBK := Lib.hid hbk
    have hc := impl_lightIn1 g2 A' n' c' B rs i ((q : Int) - 1) wr (I4.out.below hbl) (L4.out.below hbl) (by omega)
    have wk : IntKind.i64.wrap ((q : Int) - 1) = (q : Int) - 1 := by rw [IntKind.wrap_i64]; omega
    have HX : Hid (litE rs i ((q : Int) - 1) ≠ 1 → backK rs i q = q) := Lib.hid (fun h => by
      rcases q with _ | q'
      · rfl
      · exact backK_no (by
          have e : (((q' + 1 : Nat) : Int)) - 1 = (q' : Int) := by omega
          rwa [e] at h))
    have HG : Hid (litE rs i ((q : Int) - 1) = 1 → ∃ q' : Nat, q' + 1 = q ∧ backK rs i q = backK rs i q') := Lib.hid (fun h => by
      rcases q with _ | q'
      · rw [litE_neg (by omega)] at h; omega
      · have e : (((q' + 1 : Nat) : Int)) - 1 = (q' : Int) := by omega
        rw [e] at h
        exact ⟨q', rfl, backK_yes h⟩)
    clear hbl hbk
    generalize litE rs i ((q : Int) - 1) = p at *
    by_cases hp : p = 1
    · obtain ⟨q', hq', hb'⟩ := HG.out hp
      have HN : Hid (backK rs i k0 = backK rs i q') := Lib.hid (by rw [HBK.out, hb'])
      have HQ : Hid (q' + 1 = q) := Lib.hid hq'
      subst hp
      have e1 : ((1 : Int) == 1) = true := rfl
      clear HX HG hb' hq'
      go_wp2_with fail
      refine hc.mono ?_
      rintro r w6 ⟨rfl, hb6⟩
      have HB6 := Lib.hid (HBL.out.trans (hb6.mono HBL.out.size))
      clear hb6 hc
      go_wp2_with fail
      go_roundw
      case rel => exact ⟨q', by have := HQ.out; omega, by have := HQ.out; first | (congr 1; omega) | go_num, HN.out, HB6.out⟩
      case measure => have := HQ.out; simp [intOf]; omega
    · have HQ : Hid (backK rs i k0 = q) := Lib.hid (by rw [HBK.out, HX.out hp])
      rw [HQ.out] at HR
      have e1 : (p == 1) = false := by rw [beq_eq_false_iff_ne]; exact hp
      obtain ⟨ad, A3, m3, c3, rfl, hab, hqq, -, -, -⟩ := (I4.out.below HBL.out).e.at (j := q) (by omega)
      have i1 : (0 : Int) ≤ (q : Int) := by omega
      have i2 : (q : Int) < (n' : Int) := by omega
      have hIB := (I4.out.below HBL.out).B
      have HQ6 := Lib.hid (fun y (hy : Below wr.heap.size wr y) => (hqq.below hy (by omega)).c0)
      clear HX HG hqq
      go_wp2_with fail
      refine hc.mono ?_
      rintro r w6 ⟨rfl, hb6⟩
      have HB6 := Lib.hid (HBL.out.trans (hb6.mono HBL.out.size))
      have y0 := HQ6.out _ hb6
      clear hb6 hc
      have x0 := cell1w ((HB6.out.block _ (lt_of_block HK4.out)).trans HK4.out)
      generalize (entA rs q).second = sc at *
      go_wp2_with fail
      go_ret
      exact ⟨by rw [HR.out, IntWalk.i64_left]; try rfl, HB4.out.trans (HB6.out.mono HB4.out.size)⟩
end Go.Proofs.Ytmpcbkonelcceaa

/- Chapter 28: the model's witnesses: l28At, ShownAt, LightShown, CountChanges, GreenSince. -/
namespace Go.Proofs.Ytmpcbkonelcceaa
open Go.RowKit
set_option linter.unusedVariables false

theorem isRec_none {zs : List Ent} (h : isRec zs = false) : 0 < zs.length := by
  rcases zs with _ | ⟨z, zs⟩
  · cases h
  · simp
set_option maxHeartbeats 2000000 in
theorem spec_l28At (A : Option Addr) (n c B : Nat) (zs : List Ent) (s : Int) (w : World) (h : EntsAt w B A n zs) (hB : B ≤ w.heap.size) (hn : n ≤ 4294967296) (hm : ∀ j, j < n → (entA zs j).lights.length ≤ 1048576) :
    Calls Try.prog 55 #[.slice A n c, .int .i64 s] w fun e w' => e = .returned (.int .i64 (atE zs s)) ∧ Below w.heap.size w w' := by
  have hl := h.1
  have hcc := fun y (hy : Below w.heap.size w y) => spec_IsRecord A n c B zs y (h.below hB hy) (by have := hy.size; omega) hn hm
  cases hr : isRec zs
  · have HV := Lib.hid (atE_no (s := s) hr)
    have hpos : 0 < n := by have := isRec_none hr; omega
    have i1 : (0 : Int) < (n : Int) := by omega
    have i2 : decide ((0 : Int) < (n : Int)) = true := decide_eq_true i1
    rw [hr] at hcc
    have hc0 := hcc w (Below.refl _ _)
    clear hcc hr
    go_enter Try.func55, Try.ntmps55
    go_wp2_with fail
    go_loopw [5, 6] (fun v i wr => v = .int .i64 (-1) ∧ i = .int .i64 0 ∧ w = wr) (fun _ _ _ => 0)
    case atStart => exact ⟨rfl, rfl, rfl⟩
    case round =>
      obtain ⟨rfl, rfl, rfl⟩ := hrel
      go_wp2_with fail
      refine hc0.mono ?_
      rintro r w1 ⟨rfl, hb1⟩
      have HB1 := Lib.hid hb1
      clear hb1 hc0
      go_wp2_with fail
      go_ret
      exact ⟨by rw [HV.out]; try rfl, HB1.out⟩
  · have HV : Hid (atE zs s = atK zs s n) := Lib.hid (by rw [atE_yes hr, hl])
    rw [hr] at hcc
    have HCC := Lib.hid hcc
    have HE := Lib.hid h
    have hn60 : n ≤ 60 := by have := (isRec_parts hr).1; omega
    clear hcc hr h hm
    go_enter Try.func55, Try.ntmps55
    go_wp2_with fail
    go_loopw [5, 6] (fun v i wr => ∃ k : Nat, k ≤ n ∧ i = .int .i64 k ∧ v = .int .i64 (atK zs s k) ∧ Below w.heap.size w wr) (fun _ i _ => n - (intOf i).toNat)
    case atStart => exact ⟨0, Nat.zero_le _, rfl, rfl, Below.refl _ _⟩
    case round =>
      obtain ⟨k, hk, rfl, rfl, hbl⟩ := hrel
      have HB := Lib.hid hbl
      by_cases hlt : k < n
      · have hc0 := HCC.out _ hbl
        obtain ⟨ad, A', m, c', rfl, hab, hq, -, -, -⟩ := HE.out.at hlt
        have HQ := Lib.hid (fun y (hy : Below w.heap.size w y) => (hq.below hy (by omega)).c0)
        have i1 : (0 : Int) ≤ (k : Int) := by omega
        have i2 : (k : Int) < (n : Int) := by omega
        have i3 : decide ((k : Int) < (n : Int)) = true := decide_eq_true i2
        have HS : Hid (atK zs s (k + 1) = if (entA zs k).second ≤ s then (k : Int) else atK zs s k) := Lib.hid rfl
        clear hq hbl
        generalize (entA zs k).second = sc at *
        generalize atK zs s k = p at *
        by_cases hs : sc ≤ s
        · have HN : Hid (atK zs s (k + 1) = k) := Lib.hid (by rw [HS.out, if_pos hs])
          clear HS
          go_wp2_with fail
          refine hc0.mono ?_
          rintro r w1 ⟨rfl, hb1⟩
          have HB1 := Lib.hid (HB.out.trans (hb1.mono HB.out.size))
          have y0 := HQ.out _ HB1.out
          clear hb1 hc0
          go_wp2_with fail
          go_roundw
          case rel => exact ⟨k + 1, by omega, by go_num, by rw [HN.out], HB1.out⟩
          case measure => simp [intOf]; omega
        · have HN : Hid (atK zs s (k + 1) = p) := Lib.hid (by rw [HS.out, if_neg hs])
          clear HS
          go_wp2_with fail
          refine hc0.mono ?_
          rintro r w1 ⟨rfl, hb1⟩
          have HB1 := Lib.hid (HB.out.trans (hb1.mono HB.out.size))
          have y0 := HQ.out _ HB1.out
          clear hb1 hc0
          go_wp2_with fail
          go_roundw
          case rel => exact ⟨k + 1, by omega, by go_num, by rw [HN.out], HB1.out⟩
          case measure => simp [intOf]; omega
      · obtain rfl : k = n := by omega
        have i3 : decide ((k : Int) < (k : Int)) = false := decide_eq_false (by omega)
        go_wp2_with fail
        go_ret
        exact ⟨by rw [HV.out]; try rfl, hbl⟩
set_option maxHeartbeats 2000000 in
theorem spec_ShownAt (A : Option Addr) (n c B : Nat) (zs : List Ent) (s : Int) (w : World) (h : EntsAt w B A n zs) (hB : B ≤ w.heap.size) (hn : n ≤ 4294967296) (hm : ∀ j, j < n → (entA zs j).lights.length ≤ 1048576) :
    Calls Try.prog 22 #[.slice A n c, .int .i64 s] w fun e w' => ∃ v, e = .returned (.tuple #[v, .bool (shownA zs s).2]) ∧ Own .i64 3 w' w.heap.size v (shownA zs s).1 ∧ Below w.heap.size w w' := by
  have hl := h.1
  have hcc := spec_l28At A n c B zs s w h hB hn hm
  have HV : Hid (shownA zs s = if atE zs s < 0 then ([], false) else ((entA zs (atE zs s).toNat).lights, true)) := Lib.hid rfl
  obtain ⟨b1, b2⟩ := atE_bound zs s
  have HE := Lib.hid h
  generalize atE zs s = k at *
  generalize shownA zs s = q at *
  by_cases h0 : k < 0
  · rw [if_pos h0] at HV
    obtain rfl : q = ([], false) := HV.out
    clear h HE HV hm
    go_enter Try.func22, Try.ntmps22
    go_wp2_with fail
    refine hcc.mono ?_
    rintro r w1 ⟨rfl, hb1⟩
    have HB1 := Lib.hid hb1
    have HOW := Lib.hid (own_bare .i64 3 w1)
    clear hb1 hcc
    go_wp2_with fail
    go_ret2
    exact ⟨_, rfl, HOW.out.mono HB1.out.size, HB1.out.alloc HB1.out.size _⟩
  · rw [if_neg h0] at HV
    obtain ⟨j, rfl⟩ : ∃ j : Nat, k = j := ⟨k.toNat, by omega⟩
    obtain rfl : q = ((entA zs j).lights, true) := by rw [HV.out]; rfl
    obtain ⟨ad, A', m, c', rfl, hab, hq, hi, hmc, hnil⟩ := h.at (j := j) (by omega)
    have HQ := Lib.hid (fun y (hy : Below w.heap.size w y) => (hq.below hy (by omega)).c1)
    have HI := Lib.hid (fun y (hy : Below w.heap.size w y) => hi.keep (w' := y) (fun p hp => hy.cell (by omega)))
    have hlm := hi.1
    have hmj := hm j (by omega)
    have i1 : (0 : Int) ≤ (j : Int) := by omega
    have i2 : (j : Int) < (n : Int) := by omega
    clear h HE HV hm hq hi
    generalize (entA zs j).lights = ls at *
    go_enter Try.func22, Try.ntmps22
    go_wp2_with fail
    refine hcc.mono ?_
    rintro r w1 ⟨rfl, hb1⟩
    have HB1 := Lib.hid hb1
    have hbA := hb1.alloc hb1.size (.cells #[] 3)
    have y1 := HQ.out _ hb1
    have y2 := HQ.out _ hbA
    have HIA := HI.out _ hbA
    have HOW := own_bare .i64 3 w1
    have lta : (ad.add (j * 3)).block < w1.heap.size := by have := hb1.size; omega
    have hsz := hb1.size
    clear hb1 hcc
    go_wp2_with (at_builtin; refine wpList_app rfl _ _ 22 22 rfl .i64 3 3 8 Try.underlying22 Try.underlying22 info_i64 w1.heap.size _ [] rfl HOW A' m c' B ls rfl HIA hnil (by decide) (by simp; omega) (by simp) ?_; intro v1 wq hown1 hgrow1 hat1; have hb1 := HOW.push hsz hbA (by simp; omega) hgrow1; clear hgrow1 hat1)
    go_ret2
    rw [List.nil_append] at hown1
    exact ⟨_, rfl, hown1.mono hsz, hb1⟩
set_option maxHeartbeats 2000000 in
theorem spec_LightShown (A : Option Addr) (n c B : Nat) (zs : List Ent) (i s : Int) (w : World) (h : EntsAt w B A n zs) (hB : B ≤ w.heap.size) (hn : n ≤ 4294967296) (hm : ∀ j, j < n → (entA zs j).lights.length ≤ 1048576) :
    Calls Try.prog 20 #[.slice A n c, .int .i64 i, .int .i64 s] w fun e w' => e = .returned (.int .i64 (shownL zs i s)) ∧ Below w.heap.size w w' := by
  have hl := h.1
  have hcc := spec_ShownAt A n c B zs s w h hB hn hm
  obtain ⟨b1, b2⟩ := atE_bound zs s
  have HV : Hid (shownL zs i s = if inB i 0 (((shownA zs s).1.length : Int) - 1) then (shownA zs s).1.getD i.toNat 0 else -1) := Lib.hid (by
    unfold shownL shownA
    by_cases h0 : atE zs s < 0
    · rw [litE_neg h0, if_pos h0, if_neg (by intro h; have := inB_t h; simp at this; omega)]
    · rw [if_neg h0]
      have hr : isRec zs = true := by
        cases e : isRec zs
        · rw [atE_no e] at h0; omega
        · rfl
      obtain ⟨k, hk⟩ : ∃ k : Nat, atE zs s = k := ⟨(atE zs s).toNat, by omega⟩
      rw [hk, Int.toNat_natCast]
      have e1 := rec_len (isRec_parts hr).2 k (by omega)
      show litE zs i k = if inB i 0 (((entA zs k).lights.length : Int) - 1) = true then (entA zs k).lights.getD i.toNat 0 else -1
      rw [e1]
      cases hh : hasL zs i
      · rw [litE_no hh]
        unfold hasL at hh
        rw [hh]
        rfl
      · have h2 := inB_t hh
        obtain ⟨j, rfl⟩ : ∃ j : Nat, i = j := ⟨i.toNat, by omega⟩
        rw [litE_yes hh]
        unfold hasL at hh
        rw [hh, if_pos rfl, Int.toNat_natCast])
  have HLN : Hid ((shownA zs s).1.length ≤ 1048576) := Lib.hid (by
    unfold shownA
    split
    · simp
    · exact hm _ (by omega))
  generalize shownA zs s = q at *
  obtain ⟨ls, b⟩ := q
  simp only at *
  clear h hm
  go_enter Try.func20, Try.ntmps20
  go_wp2_with fail
  refine hcc.mono ?_
  rintro r w1 ⟨v, rfl, ho, hb1⟩
  obtain ⟨Av, cv, rfl⟩ := ho.sliced
  have HB1 := Lib.hid hb1
  have hi := ho.ints
  have hln := HLN.out
  have wl : IntKind.i64.wrap ((ls.length : Int) - 1) = (ls.length : Int) - 1 := by rw [IntKind.wrap_i64]; omega
  clear hb1 hcc ho
  cases g : inB i 0 ((ls.length : Int) - 1)
  · have HR : Hid (shownL zs i s = -1) := Lib.hid (by rw [HV.out, g]; rfl)
    have G := Lib.hid g
    clear g HV HLN
    generalize ls.length = m at *
    go_wp2_with (go_at_call 47; refine (spec_l1In _ _ _ _).mono ?_; rintro e w' ⟨rfl, rfl⟩; rw [G.out])
    go_ret
    exact ⟨by rw [HR.out]; try rfl, HB1.out⟩
  · have h2 := inB_t g
    obtain ⟨j, rfl⟩ : ∃ j : Nat, i = j := ⟨i.toNat, by omega⟩
    have HR : Hid (shownL zs j s = ls.getD j 0) := Lib.hid (by rw [HV.out, g, if_pos rfl, Int.toNat_natCast])
    have G := Lib.hid g
    obtain ⟨ad, rfl, hab, hcell⟩ := hi.2 (by omega)
    have hcj := hcell j (by omega)
    have j1 : (0 : Int) ≤ (j : Int) := by omega
    have j2 : (j : Int) < (ls.length : Int) := by omega
    clear g HV HLN hcell hi
    generalize ls.getD j 0 = z at *
    generalize ls.length = m at *
    go_wp2_with (go_at_call 47; refine (spec_l1In _ _ _ _).mono ?_; rintro e w' ⟨rfl, rfl⟩; rw [G.out])
    go_ret
    exact ⟨by rw [HR.out]; try rfl, HB1.out⟩
theorem chgN_few {zs : List Ent} {i : Int} (h : zs.length ≤ 1) : chgN zs i = 0 := by
  unfold chgN
  have := recZ_le zs
  rcases Nat.eq_zero_or_pos (recZ zs).length with h0 | h0
  · rw [h0]; rfl
  · have e : (recZ zs).length = 1 := by omega
    rw [e, chgK_no (.inl rfl)]; rfl
set_option maxHeartbeats 4000000 in
set_option maxRecDepth 100000 in
theorem spec_CountChanges (A : Option Addr) (n c B : Nat) (zs : List Ent) (i : Int) (w : World) (h : EntsAt w B A n zs) (hB : B ≤ w.heap.size) (hn : n ≤ 4294967296) (hm : ∀ j, j < n → (entA zs j).lights.length ≤ 1048576) :
    Calls Try.prog 27 #[.slice A n c, .int .i64 i] w fun e w' => e = .returned (.int .i64 (chgN zs i)) ∧ Below w.heap.size w w' := by
  have hl := h.1
  by_cases h1 : n ≤ 1
  · have HV := Lib.hid (chgN_few (zs := zs) (i := i) (by omega))
    have i3 : decide ((1 : Int) < (n : Int)) = false := decide_eq_false (by omega)
    have i4 : ¬ (1 : Int) < (n : Int) := by omega
    go_enter Try.func27, Try.ntmps27
    go_wp2_with fail
    go_loopw [5, 6] (fun v i wr => v = .int .i64 0 ∧ i = .int .i64 1 ∧ w = wr) (fun _ _ _ => 0)
    case atStart => exact ⟨rfl, rfl, rfl⟩
    case round =>
      obtain ⟨rfl, rfl, rfl⟩ := hrel
      go_wp2_with fail
      go_ret
      exact ⟨by rw [HV.out]; try rfl, Below.refl _ _⟩
  have hcc := fun y (hy : Below w.heap.size w y) => spec_IsRecord A n c B zs y (h.below hB hy) (by have := hy.size; omega) hn hm
  cases hr : isRec zs
  · have HV : Hid (chgN zs i = 0) := Lib.hid (by unfold chgN; rw [recZ_no hr]; rfl)
    have i1 : (1 : Int) < (n : Int) := by omega
    have i2 : decide ((1 : Int) < (n : Int)) = true := decide_eq_true i1
    rw [hr] at hcc
    have hc0 := hcc w (Below.refl _ _)
    clear hcc hr
    go_enter Try.func27, Try.ntmps27
    go_wp2_with fail
    go_loopw [5, 6] (fun v i wr => v = .int .i64 0 ∧ i = .int .i64 1 ∧ w = wr) (fun _ _ _ => 0)
    case atStart => exact ⟨rfl, rfl, rfl⟩
    case round =>
      obtain ⟨rfl, rfl, rfl⟩ := hrel
      go_wp2_with fail
      refine hc0.mono ?_
      rintro r w1 ⟨rfl, hb1⟩
      have HB1 := Lib.hid hb1
      clear hb1 hc0
      go_wp2_with fail
      go_ret
      exact ⟨by rw [HV.out]; try rfl, HB1.out⟩
  · have HV : Hid (chgN zs i = chgK zs i n) := Lib.hid (by unfold chgN; rw [recZ_yes hr, hl])
    rw [hr] at hcc
    have HCC := Lib.hid hcc
    have HE := Lib.hid h
    have hn60 : n ≤ 60 := by have := (isRec_parts hr).1; omega
    have HLN := Lib.hid (fun j (hj : j < n) => rec_len (isRec_parts hr).2 j (by omega))
    have H12 : (entA zs 0).lights.length ≤ 12 := (entOk_parts ((isRec_parts hr).2 0 (by omega))).1.2.1
    clear hcc hr h hm
    go_enter Try.func27, Try.ntmps27
    go_wp2_with fail
    go_loopw [5, 6] (fun v x wr => ∃ k : Nat, 1 ≤ k ∧ k ≤ n ∧ x = .int .i64 k ∧ v = .int .i64 (chgK zs i k) ∧ Below w.heap.size w wr) (fun _ x _ => n - (intOf x).toNat)
    case atStart => exact ⟨1, Nat.le_refl _, by omega, rfl, by rw [chgK_no (.inl rfl)]; rfl, Below.refl _ _⟩
    case round =>
      obtain ⟨k, hk1, hk, rfl, rfl, hbl⟩ := hrel
      have HB := Lib.hid hbl
      obtain ⟨d1, d2⟩ := chgK_bound zs i k
      by_cases hlt : k < n
      · have hc0 := HCC.out _ hbl
        obtain ⟨ad, A', m, c', rfl, hab, hq, hi, -, -⟩ := HE.out.at hlt
        obtain ⟨p, hp⟩ : ∃ p : Nat, p + 1 = k := ⟨k - 1, by omega⟩
        obtain ⟨ad2, A2, m2, c2, e, hab2, hq2, hi2, -, -⟩ := HE.out.at (j := p) (by omega)
        injection e with e
        subst e
        have HQ := Lib.hid (fun y (hy : Below w.heap.size w y) => (hq.below hy (by omega)).c1)
        have HQP := Lib.hid (fun y (hy : Below w.heap.size w y) => (hq2.below hy (by omega)).c1)
        have hlm := hi.1
        have hlm2 := hi2.1
        have e1 := HLN.out k hlt
        have e2 := HLN.out p (by omega)
        have i1 : (0 : Int) ≤ (k : Int) := by omega
        have i2 : (k : Int) < (n : Int) := by omega
        have i3 : decide ((k : Int) < (n : Int)) = true := decide_eq_true i2
        have m1 : (0 : Int) ≤ (p : Int) := by omega
        have m2' : (p : Int) < (n : Int) := by omega
        have wk1 : IntKind.i64.wrap ((k : Int) - 1) = (p : Int) := by rw [IntKind.wrap_i64]; omega
        have wk2 : wrap64 ((k : Int) - 1) = (p : Int) := by rw [IntWalk.wrap64_in _ (by omega)]; omega
        have wm1 : IntKind.i64.wrap ((m : Int) - 1) = (m : Int) - 1 := by rw [IntKind.wrap_i64]; omega
        have wm2 : wrap64 ((m : Int) - 1) = (m : Int) - 1 := IntWalk.wrap64_in _ (by omega)
        have hin := fun y => spec_l1In i 0 ((m : Int) - 1) y
        have HH : Hid (hasL zs i = inB i 0 ((m : Int) - 1)) := Lib.hid (by unfold hasL; rw [← e1, hlm])
        clear hq hq2 hbl
        cases hh : inB i 0 ((m : Int) - 1)
        · have HN : Hid (chgK zs i (k + 1) = chgK zs i k) := Lib.hid (chgK_no (.inr (by rw [litE_no (HH.out.trans hh), litE_no (HH.out.trans hh)])))
          rw [hh] at hin
          clear hh HH hi hi2 hp HLN H12
          generalize chgK zs i k = q at *
          go_wp2_with fail
          refine hc0.mono ?_
          rintro r w1 ⟨rfl, hb1⟩
          have HB1 := Lib.hid (HB.out.trans (hb1.mono HB.out.size))
          have lts := HB1.out.size
          have y1 := fun y : GW w1 => HQ.out y.val (HB1.out.trans (y.ok.mono HB1.out.size))
          clear hb1 hc0
          go_wp2_with fail
          refine wp_region_grow (by kernel_rfl) (by kernel_rfl) ?_
          repeat (go_big_quiet_step (first | (go_at_call 47; first | with_reducible exact calls_gw_same _ (hin _))))
          refine wpQuiet_nil ?_
          intro x3
          have HB3 := Lib.hid (HB1.out.trans (x3.ok.mono HB1.out.size))
          clear y1 hin
          generalize x3.val = w3 at *
          clear x3
          go_wp2_with fail
          go_roundw
          case rel => exact ⟨k + 1, by omega, by omega, by go_num, by rw [HN.out], HB3.out⟩
          case measure => simp [intOf]; omega
        · have h2 := inB_t hh
          obtain ⟨j, rfl⟩ : ∃ j : Nat, i = j := ⟨i.toNat, by omega⟩
          obtain ⟨a3, rfl, hab3, hc3⟩ := hi.2 (by omega)
          obtain ⟨a4, rfl, hab4, hc4⟩ := hi2.2 (by omega)
          have HC := Lib.hid (fun y (hy : Below w.heap.size w y) => (hy.cell (p := a3.add j) (by rw [add_block]; omega)).trans (hc3 j (by omega)))
          have HCP := Lib.hid (fun y (hy : Below w.heap.size w y) => (hy.cell (p := a4.add j) (by rw [add_block]; omega)).trans (hc4 j (by omega)))
          have j1 : (0 : Int) ≤ (j : Int) := by omega
          have j2 : (j : Int) < (m : Int) := by omega
          have j3 : (j : Int) < (m2 : Int) := by omega
          have HL1 := Lib.hid (litE_yes (k := k) (HH.out.trans hh))
          have HL2 : Hid (litE zs j ((k : Int) - 1) = (entA zs p).lights.getD j 0) := Lib.hid (by rw [show ((k : Int) - 1) = (p : Int) by omega]; exact litE_yes (HH.out.trans hh))
          have HY := Lib.hid (chgK_yes (zs := zs) (i := j) (k := k) (by omega))
          have HNO := Lib.hid (fun h => chgK_no (zs := zs) (i := j) (k := k) (.inr h))
          rw [HL1.out, HL2.out] at HY HNO
          rw [hh] at hin
          clear hh HH hi hi2 hp hc3 hc4 h2 HL1 HL2 HLN H12 hlm hlm2 e1 e2
          generalize (entA zs k).lights.getD j 0 = z1 at *
          generalize (entA zs p).lights.getD j 0 = z2 at *
          generalize chgK zs j k = q at *
          by_cases he : z1 = z2
          · have HN := Lib.hid (HNO.out he)
            have g1 : (z1 == z2) = true := by rw [beq_iff_eq]; exact he
            have g2 : (z1 != z2) = false := by rw [bne_eq_false_iff_eq]; exact he
            clear HY HNO he
            go_wp2_with fail
            refine hc0.mono ?_
            rintro r w1 ⟨rfl, hb1⟩
            have HB1 := Lib.hid (HB.out.trans (hb1.mono HB.out.size))
            have lts := HB1.out.size
            have y1 := fun y : GW w1 => HQ.out y.val (HB1.out.trans (y.ok.mono HB1.out.size))
            have y2 := fun y : GW w1 => HQP.out y.val (HB1.out.trans (y.ok.mono HB1.out.size))
            have y3 := fun y : GW w1 => HC.out y.val (HB1.out.trans (y.ok.mono HB1.out.size))
            have y4 := fun y : GW w1 => HCP.out y.val (HB1.out.trans (y.ok.mono HB1.out.size))
            clear hb1 hc0
            go_wp2_with fail
            refine wp_region_grow (by kernel_rfl) (by kernel_rfl) ?_
            repeat (go_big_quiet_step (first | (go_at_call 47; first | with_reducible exact calls_gw_same _ (hin _))))
            refine wpQuiet_nil ?_
            intro x3
            have HB3 := Lib.hid (HB1.out.trans (x3.ok.mono HB1.out.size))
            clear y1 y2 y3 y4 hin
            generalize x3.val = w3 at *
            clear x3
            go_wp2_with fail
            go_roundw
            case rel => exact ⟨k + 1, by omega, by omega, by go_num, by rw [HN.out], HB3.out⟩
            case measure => simp [intOf]; omega
          · have HN := Lib.hid (HY.out he)
            have g1 : (z1 == z2) = false := by rw [beq_eq_false_iff_ne]; exact he
            have g2 : (z1 != z2) = true := by rw [bne_iff_ne]; exact he
            clear HY HNO he
            go_wp2_with fail
            refine hc0.mono ?_
            rintro r w1 ⟨rfl, hb1⟩
            have HB1 := Lib.hid (HB.out.trans (hb1.mono HB.out.size))
            have lts := HB1.out.size
            have y1 := fun y : GW w1 => HQ.out y.val (HB1.out.trans (y.ok.mono HB1.out.size))
            have y2 := fun y : GW w1 => HQP.out y.val (HB1.out.trans (y.ok.mono HB1.out.size))
            have y3 := fun y : GW w1 => HC.out y.val (HB1.out.trans (y.ok.mono HB1.out.size))
            have y4 := fun y : GW w1 => HCP.out y.val (HB1.out.trans (y.ok.mono HB1.out.size))
            clear hb1 hc0
            go_wp2_with fail
            refine wp_region_grow (by kernel_rfl) (by kernel_rfl) ?_
            repeat (go_big_quiet_step (first | (go_at_call 47; first | with_reducible exact calls_gw_same _ (hin _))))
            refine wpQuiet_nil ?_
            intro x3
            have HB3 := Lib.hid (HB1.out.trans (x3.ok.mono HB1.out.size))
            clear y1 y2 y3 y4 hin
            generalize x3.val = w3 at *
            clear x3
            go_wp2_with fail
            go_roundw
            case rel => exact ⟨k + 1, by omega, by omega, by go_num, by rw [HN.out], HB3.out⟩
            case measure => simp [intOf]; omega
      · obtain rfl : k = n := by omega
        have i3 : decide ((k : Int) < (k : Int)) = false := decide_eq_false (by omega)
        go_wp2_with fail
        go_ret
        exact ⟨by rw [HV.out]; try rfl, hbl⟩
theorem backK_yesM {zs : List Ent} {i : Int} {k : Nat} (h : litE zs i k = 1) : backK zs i (k + 1) = backK zs i k := by show (if _ then _ else _) = _; rw [if_pos h]
theorem backK_noM {zs : List Ent} {i : Int} {k : Nat} (h : litE zs i k ≠ 1) : backK zs i (k + 1) = k + 1 := by show (if _ then _ else _) = _; rw [if_neg h]
set_option maxHeartbeats 4000000 in
theorem spec_GreenSince (A : Option Addr) (n c B : Nat) (zs : List Ent) (i s : Int) (w : World) (h : EntsAt w B A n zs) (hB : B ≤ w.heap.size) (hn : n ≤ 4294967296) (hm : ∀ j, j < n → (entA zs j).lights.length ≤ 1048576) :
    Calls Try.prog 29 #[.slice A n c, .int .i64 i, .int .i64 s] w fun e w' => e = .returned (.int .i64 (sinceG zs i s)) ∧ Below w.heap.size w w' := by
  have hl := h.1
  have hcc := spec_LightShown A n c B zs i s w h hB hn hm
  have HV : Hid (sinceG zs i s = if shownL zs i s = 1 then IntKind.i64.wrap (s - (entA zs (backK zs i (atE zs s).toNat)).second) else -1) := Lib.hid rfl
  by_cases hp : shownL zs i s = 1
  rotate_left
  · have HR : Hid (sinceG zs i s = -1) := Lib.hid (by rw [HV.out, if_neg hp])
    generalize shownL zs i s = p at *
    have e1 : (p == 1) = false := by rw [beq_eq_false_iff_ne]; exact hp
    have e2 : (p != 1) = true := by rw [bne_iff_ne]; exact hp
    clear hp HV h hm
    go_enter Try.func29, Try.ntmps29
    go_wp2_with fail
    refine hcc.mono ?_
    rintro r w5 ⟨rfl, hb5⟩
    have HB5 := Lib.hid hb5
    clear hb5 hcc
    go_wp2_with fail
    go_ret
    exact ⟨by rw [HR.out]; try rfl, HB5.out⟩
  obtain ⟨hr, k0, hk0, hek, hh, -⟩ := shown_is hp
  have HR : Hid (sinceG zs i s = IntKind.i64.wrap (s - (entA zs (backK zs i k0)).second)) := Lib.hid (by rw [HV.out, if_pos hp, hek]; rfl)
  have hc2 := fun y (hy : Below w.heap.size w y) => spec_l28At A n c B zs s y (h.below hB hy) (by have := hy.size; omega) hn hm
  rw [hek] at hc2
  rw [hp] at hcc
  have HC2 := Lib.hid hc2
  have HE := Lib.hid h
  have hln := fun j (hj : j < n) => rec_len (isRec_parts hr).2 j (by omega)
  obtain ⟨t1, t2⟩ := inB_t hh
  obtain ⟨j, rfl⟩ : ∃ j : Nat, i = j := ⟨i.toNat, by omega⟩
  have HL : Hid (∀ q : Nat, litE zs j q = (entA zs q).lights.getD j 0) := Lib.hid (fun q => litE_yes hh)
  have HLN := Lib.hid hln
  have hjl : j < (entA zs 0).lights.length := by omega
  clear hc2 HV hm h hek hp hh hr hln t1 t2
  go_enter Try.func29, Try.ntmps29
  go_wp2_with fail
  refine hcc.mono ?_
  rintro r w5 ⟨rfl, hb5⟩
  have HB5 := Lib.hid hb5
  clear hb5 hcc
  go_wp2_with fail
  refine (HC2.out _ HB5.out).mono ?_
  rintro r w6 ⟨rfl, hb6⟩
  have HB6 := Lib.hid (HB5.out.trans (hb6.mono HB5.out.size))
  clear hb6 HC2 HB5
  go_wp2_with fail
  go_loopw [7] (fun x wr => ∃ q : Nat, q ≤ k0 ∧ x = .int .i64 q ∧ backK zs j k0 = backK zs j q ∧ w6 = wr) (fun x _ => (intOf x).toNat)
  case atStart => exact ⟨k0, Nat.le_refl _, rfl, rfl, rfl⟩
  case round =>
    obtain ⟨q, hq, rfl, hbk, rfl⟩ := hrel
    have HBK := Lib.hid hbk
    clear hbk
    obtain ⟨ad, A3, m3, c3, rfl, hab, hqq, -, -, -⟩ := HE.out.at (j := q) (by omega)
    have i1 : (0 : Int) ≤ (q : Int) := by omega
    have i2 : (q : Int) < (n : Int) := by omega
    have y0 := (hqq.below HB6.out (by omega)).c0
    clear hqq
    rcases Nat.eq_zero_or_pos q with h0 | h0
    · have HQ : Hid (backK zs j k0 = q) := Lib.hid (by rw [HBK.out, h0]; rfl)
      rw [HQ.out] at HR
      have e00 : decide ((0 : Int) < (q : Int)) = false := decide_eq_false (by omega)
      have e01 : decide (0 < q) = false := decide_eq_false (by omega)
      have e02 : ¬ (q : Int) > 0 := by omega
      clear h0
      generalize (entA zs q).second = sc at *
      go_wp2_with fail
      go_ret
      exact ⟨by rw [HR.out, IntWalk.i64_left]; try rfl, HB6.out⟩
    · obtain ⟨p, rfl⟩ : ∃ p, q = p + 1 := ⟨q - 1, by omega⟩
      obtain ⟨ad2, A2, m2, c2, e, hab2, hq2, hi2, -, -⟩ := HE.out.at (j := p) (by omega)
      injection e with e
      subst e
      have hlm := hi2.1
      have hlp := HLN.out p (by omega)
      obtain ⟨a4, rfl, hab4, hc4⟩ := hi2.2 (by omega)
      have y1 := (hq2.below HB6.out (by omega)).c1
      have y2 := (HB6.out.cell (p := a4.add j) (by rw [add_block]; omega)).trans (hc4 j (by omega))
      have e0 : (((p + 1 : Nat) : Int) > 0) := by omega
      have e00 : decide ((0 : Int) < ((p + 1 : Nat) : Int)) = true := decide_eq_true (by omega)
      have e01 : decide (0 < p + 1) = true := decide_eq_true (by omega)
      have e3 : IntKind.i64.wrap (((p + 1 : Nat) : Int) - 1) = (p : Int) := by rw [IntKind.wrap_i64]; omega
      have e4 : (((p + 1 : Nat) : Int) - 1) = (p : Int) := by omega
      have m1 : (0 : Int) ≤ (p : Int) := by omega
      have mm2 : (p : Int) < (n : Int) := by omega
      have j1 : (0 : Int) ≤ (j : Int) := by omega
      have j2 : (j : Int) < (m2 : Int) := by omega
      have HLP := Lib.hid (HL.out p)
      have HY := Lib.hid (fun h => backK_yesM (zs := zs) (i := (j : Int)) (k := p) h)
      have HN := Lib.hid (fun h => backK_noM (zs := zs) (i := (j : Int)) (k := p) h)
      rw [HLP.out] at HY HN
      clear hq2 hi2 hc4 hlm hlp HLP
      generalize (entA zs p).lights.getD j 0 = z at *
      obtain ⟨pp, hpp⟩ : ∃ pp : Nat, pp = p + 1 := ⟨_, rfl⟩
      by_cases hz : z = 1
      · have HB := Lib.hid (HBK.out.trans (HY.out hz))
        subst hz
        clear HY HN
        go_wp2_with fail
        go_roundw
        case rel => exact ⟨p, by omega, by first | rfl | (congr 1; omega) | go_num, HB.out, by first | trivial | rfl⟩
        case measure => simp [intOf]
      · have HB := Lib.hid (HBK.out.trans (HN.out hz))
        rw [HB.out] at HR
        have e5 : (z == 1) = false := by rw [beq_eq_false_iff_ne]; exact hz
        clear HY HN hz
        generalize (entA zs (p + 1)).second = sc at *
        go_wp2_with fail
        go_ret
        exact ⟨by rw [HR.out, IntWalk.i64_left]; try rfl, HB6.out⟩
end Go.Proofs.Ytmpcbkonelcceaa

/- LightShown, CountChanges, GreenSince as exact laws meet them. -/
namespace Go.Proofs.Ytmpcbkonelcceaa
open Go.RowKit
set_option linter.unusedVariables false

theorem sp_LightShown (A0 : Option Addr) (n0 c0 : Nat) (zs0 : List Ent) (a1 : Int) (a2 : Int) (w : World) (h0 : SlEnt w A0 n0 c0 zs0) (hs0 : SmallEnt zs0) (wa1 : (Lit.int .i64 a1).wf = true) (wa2 : (Lit.int .i64 a2).wf = true) (r : Int) (hr : shownL zs0 a1 a2 = r) :
    Calls Try.prog 20 #[.slice A0 n0 c0, .int .i64 a1, .int .i64 a2] w fun e w' => e = .returned (.int .i64 r) ∧ Below w.heap.size w w' := by
  subst hr
  have hq0 := h0.pths.1
  have hz0 := hs0.1
  exact spec_LightShown A0 n0 c0 _ zs0 a1 a2 w h0.pths (Nat.le_refl _) (by omega) (fun j hj => hs0.2 j (by omega))
theorem im_LightShown (A0 : Option Addr) (n0 c0 : Nat) (zs0 : List Ent) (a1 : Int) (a2 : Int) (w : World) (h0 : SlEnt w A0 n0 c0 zs0) (hs0 : SmallEnt zs0) (wa1 : (Lit.int .i64 a1).wf = true) (wa2 : (Lit.int .i64 a2).wf = true) (r : Int) (hr : shownL zs0 a1 a2 = r) :
    Calls Try.prog 21 #[.slice A0 n0 c0, .int .i64 a1, .int .i64 a2] w fun e w' => e = .returned (.int .i64 r) ∧ Below w.heap.size w w' := by
  subst hr
  have hq0 := h0.pths.1
  have hz0 := hs0.1
  exact impl_LightShown A0 n0 c0 _ zs0 a1 a2 w h0.pths (Nat.le_refl _) (by omega) (fun j hj => hs0.2 j (by omega))
theorem sp_CountChanges (A0 : Option Addr) (n0 c0 : Nat) (zs0 : List Ent) (a1 : Int) (w : World) (h0 : SlEnt w A0 n0 c0 zs0) (hs0 : SmallEnt zs0) (wa1 : (Lit.int .i64 a1).wf = true) (r : Int) (hr : chgN zs0 a1 = r) :
    Calls Try.prog 27 #[.slice A0 n0 c0, .int .i64 a1] w fun e w' => e = .returned (.int .i64 r) ∧ Below w.heap.size w w' := by
  subst hr
  have hq0 := h0.pths.1
  have hz0 := hs0.1
  exact spec_CountChanges A0 n0 c0 _ zs0 a1 w h0.pths (Nat.le_refl _) (by omega) (fun j hj => hs0.2 j (by omega))
theorem im_CountChanges (A0 : Option Addr) (n0 c0 : Nat) (zs0 : List Ent) (a1 : Int) (w : World) (h0 : SlEnt w A0 n0 c0 zs0) (hs0 : SmallEnt zs0) (wa1 : (Lit.int .i64 a1).wf = true) (r : Int) (hr : chgN zs0 a1 = r) :
    Calls Try.prog 28 #[.slice A0 n0 c0, .int .i64 a1] w fun e w' => e = .returned (.int .i64 r) ∧ Below w.heap.size w w' := by
  subst hr
  have hq0 := h0.pths.1
  have hz0 := hs0.1
  exact impl_CountChanges A0 n0 c0 _ zs0 a1 w h0.pths (Nat.le_refl _) (by omega) (fun j hj => hs0.2 j (by omega))
theorem sp_GreenSince (A0 : Option Addr) (n0 c0 : Nat) (zs0 : List Ent) (a1 : Int) (a2 : Int) (w : World) (h0 : SlEnt w A0 n0 c0 zs0) (hs0 : SmallEnt zs0) (wa1 : (Lit.int .i64 a1).wf = true) (wa2 : (Lit.int .i64 a2).wf = true) (r : Int) (hr : sinceG zs0 a1 a2 = r) :
    Calls Try.prog 29 #[.slice A0 n0 c0, .int .i64 a1, .int .i64 a2] w fun e w' => e = .returned (.int .i64 r) ∧ Below w.heap.size w w' := by
  subst hr
  have hq0 := h0.pths.1
  have hz0 := hs0.1
  exact spec_GreenSince A0 n0 c0 _ zs0 a1 a2 w h0.pths (Nat.le_refl _) (by omega) (fun j hj => hs0.2 j (by omega))
theorem im_GreenSince (A0 : Option Addr) (n0 c0 : Nat) (zs0 : List Ent) (a1 : Int) (a2 : Int) (w : World) (h0 : SlEnt w A0 n0 c0 zs0) (hs0 : SmallEnt zs0) (wa1 : (Lit.int .i64 a1).wf = true) (wa2 : (Lit.int .i64 a2).wf = true) (r : Int) (hr : sinceG zs0 a1 a2 = r) :
    Calls Try.prog 30 #[.slice A0 n0 c0, .int .i64 a1, .int .i64 a2] w fun e w' => e = .returned (.int .i64 r) ∧ Below w.heap.size w w' := by
  subst hr
  have hq0 := h0.pths.1
  have hz0 := hs0.1
  exact impl_GreenSince A0 n0 c0 _ zs0 a1 a2 w h0.pths (Nat.le_refl _) (by omega) (fun j hj => hs0.2 j (by omega))
end Go.Proofs.Ytmpcbkonelcceaa

/- A law's arguments that are rows of Entry (written by genrow.py). -/
namespace Go.Proofs.Ytmpcbkonelcceaa
open Go.ChangeShapes Go.WideShapes Go.ChangeAt Go.RowKit Go.Joins
open Go.Deep (oneCellFields open_slice hone_of)
set_option linter.unusedVariables false

section
variable {H : Type} {enc : TypeId × Value → H} {P : Program}
theorem arg_ent {t i : TypeId} {f0 f1 f2 : Field} {W : World} {base : Nat} {v : Value} {d : DataW H} {ps : List MemPlace} (hs : P.underlying t = some (.struct #[f0, f1, f2])) (hone : oneCellFields P #[f0, f1, f2] = true) (hC : P.cellsOf t = 3)
    (h0 : P.underlying f0.type = some (.int .i64)) (h1 : P.underlying f1.type = some (.slice i)) (hi : P.underlying i = some (.int .i64)) (hci : P.cellsOf i = 1) (h2 : P.underlying f2.type = some (.int .i64))
    (hval : Value.okWide P W .any base t v) (hd : DataW.Trod enc P W 0 (fun _ => true) true t v d ps) (hlt : ∀ x ∈ ps, x.block < W.heap.size) :
    ∃ (A : Option Addr) (n c : Nat) (zs : List Int) (x0 x2 : Int), v = .agg #[.int .i64 x0, .slice A n c, .int .i64 x2] ∧ (IntsAt .i64 W W.heap.size A n zs ∧ (∀ z ∈ zs, (Lit.int .i64 z).wf = true) ∧ n ≤ c ∧ c ≤ maxLen) ∧ (Lit.int .i64 x0).wf = true ∧ (Lit.int .i64 x2).wf = true := by
  obtain ⟨v0, v1, v2, y0, y1, y2, n, rfl, -, hps, t0, t1, t2⟩ := open_agg3 hs hone hC hval hd
  obtain ⟨x0, rfl, w0, -⟩ := cell_int h0 t0
  obtain ⟨x2, rfl, w2, -⟩ := cell_int h2 t2
  rcases open_ints h1 hi hci t1 with ⟨h2, _⟩ | ⟨b, l2, cp2, zs, h2, _, hl2, hm2, hzl2, hx2, hc2, hwf2⟩
  · simp only [List.cons.injEq, and_true] at h2
    subst h2
    exact ⟨none, 0, 0, [], _, _, rfl, ⟨⟨rfl, fun h => absurd h (by omega)⟩, by simp, Nat.le_refl _, Nat.zero_le _⟩, w0, w2⟩
  · simp only [List.cons.injEq, and_true] at h2
    subst h2
    rw [if_pos rfl] at hzl2
    refine ⟨some b, l2, cp2, zs.take l2, _, _, rfl, ⟨⟨by simp only [List.length_take]; omega, fun hn => ⟨b, rfl, ?_, fun q hq => ?_⟩⟩, fun z hzm => hwf2 z (List.mem_of_mem_take hzm), hl2, hm2⟩, w0, w2⟩
    · have hmem : MemPlace.cell b.block (b.off + 0) ∈ ps := by
        rw [hps]
        have e2 : y1.2 = MemPlace.row b zs.length := congrArg Prod.snd hx2
        have hin : MemPlace.cell b.block (b.off + 0) ∈ y1.2 := by
          rw [e2]
          exact List.mem_map.2 ⟨0, List.mem_range.2 (by omega), rfl⟩
        simp only [List.mem_append]
        first | exact hin | exact Or.inl hin | exact Or.inr hin | exact Or.inr (Or.inl hin) | exact Or.inr (Or.inr hin)
      exact hlt _ hmem
    · rw [hc2 q (by omega)]
      simp [List.getD_eq_getElem?_getD, hq]
theorem arg_ents {t e i : TypeId} {f0 f1 f2 : Field} {W : World} {base : Nat} {v : Value} {d : DataW H} {ps : List MemPlace} (ht : P.underlying t = some (.slice e)) (he : P.underlying e = some (.struct #[f0, f1, f2])) (hone : oneCellFields P #[f0, f1, f2] = true) (hC : P.cellsOf e = 3)
    (h0 : P.underlying f0.type = some (.int .i64)) (h1 : P.underlying f1.type = some (.slice i)) (hi : P.underlying i = some (.int .i64)) (hci : P.cellsOf i = 1) (h2 : P.underlying f2.type = some (.int .i64))
    (hval : Value.okWide P W .any base t v) (hd : DataW.Trod enc P W 0 (fun _ => true) true t v d ps) (hlt : ∀ x ∈ ps, x.block < W.heap.size) :
    ∃ (A : Option Addr) (n c : Nat) (zs : List Ent), v = .slice A n c ∧ (EntsAt W W.heap.size A n zs ∧ (∀ z ∈ zs, z.wf) ∧ n ≤ c ∧ c ≤ maxLen) := by
  obtain ⟨a, len, cap, rfl⟩ := okWide_slice ht hval
  obtain ⟨fuel, hf⟩ := hd
  rcases open_slice_fields ht he hone (by rw [hC]; rfl) hf with ⟨h1, _⟩ | ⟨a', len', cap', m, D, Pl, hcs, _, hl, hm, hmm, hx, hii⟩
  · have h1' : [Value.slice a len cap] = [Value.slice none 0 0] := h1
    simp only [List.cons.injEq, and_true] at h1'
    exact ⟨none, 0, 0, [], h1', ⟨rfl, fun h => absurd h (by omega)⟩, by simp, Nat.le_refl _, Nat.zero_le _⟩
  · have h1' : [Value.slice a len cap] = [Value.slice (some a') len' cap'] := hcs
    simp only [List.cons.injEq, and_true] at h1'
    rw [if_pos rfl] at hmm
    subst hmm
    have hps : ps = MemPlace.row a' (m * 3) ++ (List.range m).flatMap Pl := congrArg Prod.snd hx
    obtain ⟨zs, hzl, hz⟩ := choose_upto (n := len') (R := fun j (p : Ent) => p.wf ∧ ∃ A' m' c', EntAt W (a'.add (j * 3)) (.slice A' m' c') p ∧ IntsAt .i64 W W.heap.size A' m' p.lights ∧ (m' ≤ c' ∧ c' ≤ maxLen) ∧ (A' = none → m' = 0 ∧ c' = 0)) (fun j hjl => by
      obtain ⟨ys, n, _, hPl, _, hj⟩ := hii j (by omega)
      obtain ⟨v0, y0, c0, g0, t0⟩ := hj 0 f0 rfl
      obtain ⟨v1, y1, c1, g1, t1⟩ := hj 1 f1 rfl
      obtain ⟨v2, y2, c2, g2, t2⟩ := hj 2 f2 rfl
      obtain ⟨x0, rfl, w0, -⟩ := cell_int h0 t0
      obtain ⟨x2, rfl, w2, -⟩ := cell_int h2 t2
      have d1 : W.cell? ⟨(a'.add (j * 3)).block, (a'.add (j * 3)).off + 1, none⟩ = some v1 := by
        rw [← add_plusF _ 1 (by decide), add_add]
        exact c1
      have d2 : W.cell? ⟨(a'.add (j * 3)).block, (a'.add (j * 3)).off + 2, none⟩ = some (.int .i64 x2) := by
        rw [← add_plusF _ 2 (by decide), add_add]
        exact c2
      have d0 := c0
      rcases open_ints h1 hi hci t1 with ⟨h2, _⟩ | ⟨b, l2, cp2, zs, h2, _, hl2, hm2, hzl2, hx2, hc2, hwf2⟩
      · simp only [List.cons.injEq, and_true] at h2
        exact ⟨⟨x0, [], x2⟩, ⟨Nat.zero_le _, by simp, w0, w2⟩, none, 0, 0, ⟨d0, by rw [← h2]; exact d1, d2⟩, ⟨rfl, fun h => absurd h (by omega)⟩, ⟨Nat.le_refl _, Nat.zero_le _⟩, fun _ => ⟨rfl, rfl⟩⟩
      · simp only [List.cons.injEq, and_true] at h2
        rw [if_pos rfl] at hzl2
        refine ⟨⟨x0, zs.take l2, x2⟩, ⟨by simp only [List.length_take]; omega, fun z hzm => hwf2 z (List.mem_of_mem_take hzm), w0, w2⟩, some b, l2, cp2, ⟨d0, by rw [← h2]; exact d1, d2⟩, ⟨by simp only [List.length_take]; omega, fun hn => ⟨b, rfl, ?_, fun q hq => ?_⟩⟩, ⟨hl2, hm2⟩, by simp⟩
        · have hmem : MemPlace.cell b.block (b.off + 0) ∈ ps := by
            rw [hps]
            refine List.mem_append_right _ (List.mem_flatMap.2 ⟨j, List.mem_range.2 (by omega), ?_⟩)
            rw [hPl]
            refine List.mem_flatMap.2 ⟨y1, List.mem_of_getElem? g1, ?_⟩
            have e2 : y1.2 = MemPlace.row b zs.length := congrArg Prod.snd hx2
            rw [e2]
            exact List.mem_map.2 ⟨0, List.mem_range.2 (by omega), rfl⟩
          exact hlt _ hmem
        · rw [hc2 q (by omega)]
          simp [List.getD_eq_getElem?_getD, hq])
    refine ⟨some a', len', m, zs, h1', ⟨hzl, fun hn => ⟨a', rfl, ?_, fun j hj => ?_⟩⟩, fun z hzm => ?_, hl, hm⟩
    · have hmem : MemPlace.cell a'.block (a'.off + 0) ∈ ps := by
        rw [hps]
        exact List.mem_append_left _ (List.mem_map.2 ⟨0, List.mem_range.2 (by omega), rfl⟩)
      exact hlt _ hmem
    · exact (hz j _ (entA_get (by omega))).2
    · obtain ⟨j, hj, rfl⟩ := List.getElem_of_mem hzm
      exact (hz j _ (List.getElem?_eq_getElem hj)).1
end
end Go.Proofs.Ytmpcbkonelcceaa
