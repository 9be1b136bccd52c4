/- Texts of one chain, put together: WitI WitF OpSh RcdM WitM OpShM LawOpS Law LawPth LawEnt FindI Bit PathI InterI ConfI Pri Wdw Tly Small PriI PriA PthM LawPriA LawDet0 LawPri. -/
import Derived.Deep.RegionHeld3
import Derived.Test.YtblilnfkpfjclaaRows
import Derived.WalkKit
import Derived.ProofKit
import Derived.OpenShut
import Derived.Carry
import Derived.Lib.SmallJoins
import Derived.Deep.Slices
import Derived.Deep.Fields
import Derived.ChangeSame
import Derived.Laws.BitsLemmas
import Derived.BigQuiet
import Derived.Deep.QuietTactic
import Derived.Deep.DrawnRows
import Derived.Deep.RegionWith
import Derived.Laws.StructEq
import Derived.Handy
import Derived.Test.YtblilnfkpfjclaaBndlA
set_option linter.unusedSimpArgs false
/- Chapter 28: the program's witness: witnessOf, hasLight, lightIn, at. -/
namespace Go.Proofs.Ytblilnfkpfjclaa
open Go.RowKit
set_option linter.unusedVariables false

theorem cell1w {w : World} {g : Nat} {v : Value} {E : TypeId} {fr : Nat × Nat} (h : w.heap[g]? = some (.cells #[v] E fr)) : w.cell? ⟨g, 0, none⟩ = some v := by rw [cell_of_row w g 0 _ E fr h]; rfl
theorem entsAt_nil (w : World) (B : Nat) : EntsAt w B none 0 [] := ⟨rfl, fun h => absurd h (by omega)⟩
/-- what a witness is handed: its entries, a record. -/
structure WitIn (w : World) (A : Option Addr) (n c B : Nat) (zs : List Ent) : Prop where
  e : EntsAt w B A n zs
  ok : ∀ i, i < n → entOk zs i = true
  n60 : n ≤ 60
  B : B ≤ w.heap.size
theorem WitIn.below {w w' : World} {A : Option Addr} {n c B : Nat} {zs : List Ent} (h : WitIn w A n c B zs) (hb : Below w.heap.size w w') : WitIn w' A n c B zs := ⟨h.e.below h.B hb, h.ok, h.n60, Nat.le_trans h.B hb.size⟩
set_option maxHeartbeats 1000000 in
theorem impl_witnessOf (A : Option Addr) (n c B : Nat) (zs : List Ent) (w : World) (h : EntsAt w B A n zs) (hB : B ≤ w.heap.size) (hn : n ≤ 4294967296) (hm : ∀ j, j < n → (entA zs j).lights.length ≤ 1048576) :
    Calls Try.prog 70 #[.slice A n c] w fun e w' => ∃ A' n' c', e = .returned (.agg #[.slice A' n' c']) ∧ WitIn w' A' n' c' B (recZ zs) ∧ Below w.heap.size w w' := by
  have hl := h.1
  obtain ⟨wA, hwA⟩ : ∃ wA, wA = w.alloc (.cells #[.slice none 0 0] 96) := ⟨_, rfl⟩
  obtain ⟨hk0, hsz, hBA⟩ := one_block hwA
  have hcc := impl_IsRecord A n c B zs wA (h.keep (hBA.mono hB)) (by omega) hn hm
  have HK := Lib.hid hk0
  have HBA := Lib.hid hBA
  have HE := Lib.hid h
  have lt0 : w.heap.size < wA.heap.size := by omega
  clear hk0 hsz hBA h hm
  cases hr : isRec zs
  · have HZ := Lib.hid (recZ_no hr)
    rw [hr] at hcc
    clear hr
    go_enter Try.func70, Try.ntmps70
    go_wp2_with fail
    rw [← hwA]
    clear hwA
    refine hcc.mono ?_
    rintro e w1 ⟨rfl, hb1⟩
    have hk1 := (hb1.block _ lt0).trans HK.out
    have z0 := cell1w hk1
    have fz : ∀ j, w1.frozen? ⟨w.heap.size, j, none⟩ = false := fun j => frozen_of_row _ _ j _ _ hk1
    have lt1 := lt_of_block hk1
    have HB1 := Lib.hid (HBA.out.trans (hb1.mono HBA.out.size))
    clear hb1 hcc hk1
    go_wp2
    refine bodyPost_ret (by rw [results_cell rfl]; go_simp; try rfl) rfl ?_
    have hbf := HB1.out.setCell (p := ⟨w.heap.size, 0, none⟩) (Nat.le_refl _) (.slice none 0 0)
    exact ⟨none, 0, 0, rfl, by rw [HZ.out]; exact ⟨entsAt_nil _ _, fun i hi => absurd hi (by omega), by omega, Nat.le_trans hB hbf.size⟩, hbf⟩
  · have HZ := Lib.hid (recZ_yes hr)
    have HP := Lib.hid (isRec_parts hr)
    rw [hr] at hcc
    clear hr
    go_enter Try.func70, Try.ntmps70
    go_wp2_with fail
    rw [← hwA]
    clear hwA
    refine hcc.mono ?_
    rintro e w1 ⟨rfl, hb1⟩
    have hk1 := (hb1.block _ lt0).trans HK.out
    have z0 := cell1w hk1
    have fz : ∀ j, w1.frozen? ⟨w.heap.size, j, none⟩ = false := fun j => frozen_of_row _ _ j _ _ hk1
    have lt1 := lt_of_block hk1
    have HB1 := Lib.hid (HBA.out.trans (hb1.mono HBA.out.size))
    clear hb1 hcc hk1
    go_wp2
    refine bodyPost_ret (by rw [results_cell rfl]; go_simp; try rfl) rfl ?_
    have hbf := HB1.out.setCell (p := ⟨w.heap.size, 0, none⟩) (Nat.le_refl _) (.slice A n c)
    exact ⟨A, n, c, rfl, by rw [HZ.out]; exact ⟨HE.out.keep (hbf.mono hB), fun i hi => HP.out.2 i (by omega), by have := HP.out.1; omega, Nat.le_trans hB hbf.size⟩, hbf⟩
set_option maxHeartbeats 1000000 in
theorem impl_hasLight (A : Option Addr) (n c B : Nat) (zs : List Ent) (i : Int) (w : World) (I : WitIn w A n c B zs) :
    Calls Try.prog 71 #[.agg #[.slice A n c], .int .i64 i] w fun e w' => e = .returned (.bool (hasL zs i)) ∧ Below w.heap.size w w' := by
  have hl := I.e.1
  have hn := I.n60
  obtain ⟨wA, hwA⟩ : ∃ wA, wA = w.alloc (.cells #[.slice A n c] 96) := ⟨_, rfl⟩
  obtain ⟨hk0, hsz, hBA⟩ := one_block hwA
  have HBA := Lib.hid hBA
  have k0 := cell1w hk0
  have lt0 : w.heap.size < wA.heap.size := by omega
  rcases Nat.eq_zero_or_pos n with h0 | hpos
  · have HV : Hid (hasL zs i = false) := Lib.hid (by rw [List.eq_nil_of_length_eq_zero (by omega : zs.length = 0)]; exact hasL_nil i)
    subst h0
    clear I hl hk0 hsz hBA
    go_enter Try.func71, Try.ntmps71
    go_wp2_with ((with_reducible show wpList _ _ _ _ _ _); rw [← hwA]; clear hwA; fail)
    go_ret
    exact ⟨by rw [HV.out]; rfl, (Below.refl _ _).alloc (Nat.le_refl _) _⟩
  · obtain ⟨ad, A', m, c', rfl, hab, hq, hi, hmc, hnil⟩ := I.e.at (j := 0) hpos
    have hz0 : ad.add (0 * 3) = ad := by simp [Addr.add]
    rw [hz0] at hq hab
    have hB := I.B
    have y1 := hq.c1
    have lta : ad.block < w.heap.size := by omega
    have hlm := hi.1
    have ho := I.ok 0 hpos
    have hm12 := (entOk_parts ho).1.2.1
    have HV : Hid (hasL zs i = inB i 0 ((m : Int) - 1)) := Lib.hid (by unfold hasL; rw [hlm])
    have i4 : (0 : Int) < (n : Int) := by omega
    have i5 : decide ((0 : Int) < (n : Int)) = true := decide_eq_true i4
    have i6 : decide (0 < n) = true := decide_eq_true hpos
    have wm : IntKind.i64.wrap ((m : Int) - 1) = (m : Int) - 1 := by rw [IntKind.wrap_i64]; omega
    have hin := fun y => impl_InRange i 0 ((m : Int) - 1) y
    clear hq hi hk0 hsz hBA I ho hnil hmc hwA k0 HBA lt0 hz0
    go_enter Try.func71, Try.ntmps71
    go_wp2_with (go_at_call 72; refine (hin _).mono ?_; rintro e w' ⟨rfl, rfl⟩)
    go_ret
    exact ⟨by rw [HV.out]; rfl, (Below.refl _ _).alloc (Nat.le_refl _) _⟩
theorem half_sum {lo hi : Nat} (h : lo + hi ≤ 1000) : IntKind.i64.wrap ((lo : Int) + (hi : Int)) = (lo : Int) + (hi : Int) := by rw [IntKind.wrap_i64]; omega
theorem half_div {lo hi : Nat} : ((lo : Int) + (hi : Int)).tdiv 2 = (((lo + hi) / 2 : Nat) : Int) := by rw [Int.tdiv_eq_ediv_of_nonneg (by omega)]; omega
theorem half_wrap {lo hi : Nat} (h : lo + hi ≤ 1000) : IntKind.i64.wrap (((lo : Int) + (hi : Int)).tdiv 2) = (((lo + hi) / 2 : Nat) : Int) := by rw [half_div, IntKind.wrap_i64]; omega
set_option maxHeartbeats 2000000 in
theorem impl_witAt (A : Option Addr) (n c B : Nat) (zs : List Ent) (s : Int) (w : World) (I : WitIn w A n c B zs) :
    Calls Try.prog 78 #[.agg #[.slice A n c], .int .i64 s] w fun e w' => e = .returned (.int .i64 (atK zs s n)) ∧ Below w.heap.size w w' := by
  have hl := I.e.1
  have hn := I.n60
  have HS := Lib.hid (fun i j (h1 : i < j) (h2 : j < n) => rec_sec (zs := zs) (k := n) I.ok i j h1 h2)
  obtain ⟨wA, hwA⟩ : ∃ wA, wA = w.alloc (.cells #[.slice A n c] 96) := ⟨_, rfl⟩
  obtain ⟨hk0, hsz, hBA⟩ := one_block hwA
  have HBA := Lib.hid hBA
  have lt0 : w.heap.size < wA.heap.size := by omega
  have y0 := fun y : GW wA => cell1w ((y.ok.block _ lt0).trans hk0)
  have HK := Lib.hid hk0
  have IE := Lib.hid I.e
  have hB := I.B
  clear hk0 hsz hBA I
  go_enter Try.func78, Try.ntmps78
  go_wp2
  rw [← hwA]
  clear hwA
  refine wp_region_grow (by kernel_rfl) (by kernel_rfl) ?_
  repeat (go_big_quiet_step (first | fail))
  refine wpQuiet_nil ?_
  intro x3
  have hk3 := Lib.hid ((x3.ok.block _ lt0).trans HK.out)
  have HB3 := Lib.hid (HBA.out.trans (x3.ok.mono HBA.out.size))
  clear y0
  generalize x3.val = w3 at *
  clear x3
  go_wp2
  go_loopw [5, 6] (fun a b wr => ∃ lo hi : Nat, a = .int .i64 lo ∧ b = .int .i64 hi ∧ lo ≤ hi ∧ hi ≤ n ∧ (∀ j, j < lo → (entA zs j).second ≤ s) ∧ (∀ j, hi ≤ j → j < n → ¬ (entA zs j).second ≤ s) ∧ w3 = wr) (fun a b _ => (intOf b).toNat - (intOf a).toNat)
  case atStart => exact ⟨0, n, rfl, rfl, Nat.zero_le _, Nat.le_refl _, fun j hj => absurd hj (by omega), fun j h1 h2 => absurd h2 (by omega), rfl⟩
  case round =>
    obtain ⟨lo, hi, rfl, rfl, hlh, hhn, hlo, hhi, rfl⟩ := hrel
    have HLO := Lib.hid hlo
    have HHI := Lib.hid hhi
    clear hlo hhi
    by_cases hlt : lo < hi
    · obtain ⟨md, hmd⟩ : ∃ md, md = (lo + hi) / 2 := ⟨_, rfl⟩
      have hm1 : lo ≤ md := by omega
      have hm2 : md < hi := by omega
      have e1 : (lo : Int) < (hi : Int) := by omega
      have e2 := half_sum (lo := lo) (hi := hi) (by omega)
      have e3 := half_div (lo := lo) (hi := hi)
      have e4 := half_wrap (lo := lo) (hi := hi) (by omega)
      rw [← hmd] at e3 e4
      obtain ⟨ad, A', m, c', rfl, hab, hq, -, -, -⟩ := IE.out.at (j := md) (by omega)
      have c0 := (hq.below HB3.out (by omega)).c0
      have x0 := cell1w hk3.out
      have j1 : (0 : Int) ≤ (md : Int) := by omega
      have j2 : (md : Int) < (n : Int) := by omega
      clear hq hmd
      by_cases hs : (entA zs md).second ≤ s
      · have HN : Hid (∀ j, j < md + 1 → (entA zs j).second ≤ s) := Lib.hid (fun j hj => by
          by_cases e : j = md
          · subst e; exact hs
          · have := HS.out j md (by omega) (by omega)
            omega)
        go_wp2
        go_roundw
        case rel => exact ⟨md + 1, hi, by go_num, rfl, by omega, hhn, HN.out, HHI.out, by first | trivial | rfl⟩
        case measure => simp [intOf]; omega
      · have HN : Hid (∀ j, md ≤ j → j < n → ¬ (entA zs j).second ≤ s) := Lib.hid (fun j hj hjn => by
          by_cases e : j = md
          · subst e; exact hs
          · have := HS.out md j (by omega) hjn
            omega)
        go_wp2
        go_roundw
        case rel => exact ⟨lo, md, rfl, rfl, hm1, by omega, HLO.out, HN.out, by first | trivial | rfl⟩
        case measure => simp [intOf]; omega
    · obtain rfl : lo = hi := by omega
      have HV : Hid (atK zs s n = (lo : Int) - 1) := Lib.hid (atK_cut hhn HLO.out HHI.out)
      have e2 : IntKind.i64.wrap ((lo : Int) - 1) = (lo : Int) - 1 := by rw [IntKind.wrap_i64]; omega
      go_wp2
      go_ret
      exact ⟨by rw [HV.out]; try rfl, HB3.out⟩
/-- the closure's two cells. -/
structure LitAt (w : World) (g : Nat) (A : Option Addr) (n c : Nat) (i : Int) : Prop where
  k0 : w.heap[g]? = some (.cells #[.slice A n c] 96)
  k1 : w.heap[g + 1]? = some (.cells #[.int .i64 i] 3)
theorem LitAt.below {w w' : World} {g : Nat} {A : Option Addr} {n c : Nat} {i : Int} (h : LitAt w g A n c i) (hb : Below w.heap.size w w') : LitAt w' g A n c i :=
  ⟨(hb.block _ (lt_of_block h.k0)).trans h.k0, (hb.block _ (lt_of_block h.k1)).trans h.k1⟩
/-- the function value that lightIn answers. -/
def litF (g : Nat) : Value := .func (.func 152) #[] #[.pointer (some ⟨g, 0, none⟩), .pointer (some ⟨g + 1, 0, none⟩)]
theorem impl_lightIn (A : Option Addr) (n c : Nat) (i : Int) (w : World) :
    Calls Try.prog 122 #[.agg #[.slice A n c], .int .i64 i] w fun e w' => e = .returned (litF w.heap.size) ∧ LitAt w' w.heap.size A n c i ∧ Below w.heap.size w w' := by
  obtain ⟨wA, hwA⟩ : ∃ wA, wA = (w.alloc (.cells #[.slice A n c] 96)).alloc (.cells #[.int .i64 i] 3) := ⟨_, rfl⟩
  obtain ⟨hk0, hk1, hsz, hBA⟩ := two_blocks hwA
  have HL : Hid (LitAt wA w.heap.size A n c i) := Lib.hid ⟨hk0, hk1⟩
  have HB := Lib.hid hBA
  clear hk0 hk1 hsz hBA
  unfold litF
  go_enter Try.func122, Try.ntmps122
  go_wp2
  rw [← hwA]
  go_ret
  exact ⟨rfl, HL.out, HB.out⟩
set_option maxHeartbeats 1000000 in
theorem impl_lightIn1 (g : Nat) (A : Option Addr) (n c B : Nat) (zs : List Ent) (i e : Int) (w : World) (I : WitIn w A n c B zs) (L : LitAt w g A n c i) (he : e < (n : Int)) :
    Calls Try.prog 152 #[.int .i64 e, .pointer (some ⟨g, 0, none⟩), .pointer (some ⟨g + 1, 0, none⟩)] w fun r w' => r = .returned (.int .i64 (litE zs i e)) ∧ Below w.heap.size w w' := by
  have hn := I.n60
  have hcc := impl_hasLight A n c B zs i w I
  have c0 := cell1w L.k0
  have c1 := cell1w L.k1
  cases hh : hasL zs i
  · have HV := Lib.hid (litE_no (e := e) hh)
    rw [hh] at hcc
    clear I L hh
    go_enter Try.func152, Try.ntmps152
    go_wp2_with fail
    refine hcc.mono ?_
    rintro r w1 ⟨rfl, hb1⟩
    have HB1 := Lib.hid hb1
    clear hb1 hcc
    go_wp2
    go_ret
    exact ⟨by rw [HV.out]; try rfl, HB1.out⟩
  rw [hh] at hcc
  by_cases h0 : e < 0
  · have HV := Lib.hid (litE_neg (zs := zs) (i := i) h0)
    have d0 : decide (e < 0) = true := decide_eq_true h0
    clear I L hh
    go_enter Try.func152, Try.ntmps152
    go_wp2_with fail
    refine hcc.mono ?_
    rintro r w1 ⟨rfl, hb1⟩
    have HB1 := Lib.hid hb1
    clear hb1 hcc
    go_wp2
    go_ret
    exact ⟨by rw [HV.out]; try rfl, HB1.out⟩
  · obtain ⟨k, rfl⟩ : ∃ k : Nat, e = k := ⟨e.toNat, by omega⟩
    have d0 : decide ((k : Int) < 0) = false := decide_eq_false h0
    have hi2 := inB_t hh
    obtain ⟨j, rfl⟩ : ∃ j : Nat, i = j := ⟨i.toNat, by omega⟩
    have HV := Lib.hid (litE_yes (k := k) hh)
    obtain ⟨ad, A', m, c', rfl, hab, hq, hi, hmc, hnil⟩ := I.e.at (j := k) (by omega)
    have hlm := hi.1
    have hln := rec_len I.ok k (by omega)
    obtain ⟨ad2, rfl, hab2, hcell⟩ := hi.2 (by omega)
    have hcj := hcell j (by omega)
    have i1 : (0 : Int) ≤ (k : Int) := by omega
    have i2 : (k : Int) < (n : Int) := by omega
    have j1 : (0 : Int) ≤ (j : Int) := by omega
    have j2 : (j : Int) < (m : Int) := by omega
    have hB := I.B
    have y1 := hq.c1
    have HY1 := Lib.hid (fun y : World => fun hy : Below w.heap.size w y => (hy.cell (p := ⟨(ad.add (k * 3)).block, (ad.add (k * 3)).off + 1, none⟩) (by simp only; omega)).trans hq.c1)
    have HCJ := Lib.hid (fun y : World => fun hy : Below w.heap.size w y => (hy.cell (p := ad2.add j) (by rw [add_block]; omega)).trans hcj)
    have HK0 := Lib.hid (fun y : World => fun hy : Below w.heap.size w y => (hy.block _ (lt_of_block L.k0)).trans L.k0)
    have HK1 := Lib.hid (fun y : World => fun hy : Below w.heap.size w y => (hy.block _ (lt_of_block L.k1)).trans L.k1)
    rw [litE_yes hh]
    clear I L hh hcell hi hq hln hlm hi2 hnil hmc HV
    generalize (entA zs k).lights.getD j 0 = z at *
    go_enter Try.func152, Try.ntmps152
    go_wp2_with fail
    refine hcc.mono ?_
    rintro r w1 ⟨rfl, hb1⟩
    have HB1 := Lib.hid hb1
    have y0 := fun y : GW w1 => cell1w (HK0.out y.val (hb1.trans (y.ok.mono hb1.size)))
    have yi := fun y : GW w1 => cell1w (HK1.out y.val (hb1.trans (y.ok.mono hb1.size)))
    have yl := fun y : GW w1 => HY1.out y.val (hb1.trans (y.ok.mono hb1.size))
    have yc := fun y : GW w1 => HCJ.out y.val (hb1.trans (y.ok.mono hb1.size))
    clear hb1 hcc c0 c1 y1 hcj
    go_wp2
    refine wp_region_grow (by kernel_rfl) (by kernel_rfl) ?_
    iterate 10 (go_big_quiet_step (first | fail))
    refine wpQuiet_nil ?_
    intro x3
    have HB3 := Lib.hid (HB1.out.trans (x3.ok.mono HB1.out.size))
    clear y0 yi yl yc
    generalize x3.val = w3 at *
    clear x3 HY1 HCJ HK0 HK1 HB1
    go_wp2
    go_ret
    exact ⟨rfl, HB3.out⟩
end Go.Proofs.Ytblilnfkpfjclaa

/- Chapter 28: LightShown, CountChanges, GreenSince of the program. -/
namespace Go.Proofs.Ytblilnfkpfjclaa
open Go.RowKit
set_option linter.unusedVariables false

end Go.Proofs.Ytblilnfkpfjclaa

/- Chapter 37: OpenShare of the program. -/
namespace Go.Proofs.Ytblilnfkpfjclaa
open Go.RowKit
set_option linter.unusedVariables false

/-- until when what an entry shows is shown, at most until a second. -/
def endK (zs : List Ent) (u : Int) (k : Nat) : Int := if k + 1 < zs.length then minI u (entA zs (k + 1)).second else u
/-- for how many seconds the light was green in the first k entries. -/
def grnU (zs : List Ent) (i u : Int) : Nat → Int
  | 0 => 0
  | k + 1 => if litE zs i k = 1 then grnU zs i u k + maxI 0 (endK zs u k - (entA zs k).second) else grnU zs i u k
/-- what OpenShare answers. -/
def openS (zs : List Ent) (i u : Int) : Int := if hasL (recZ zs) i && inB u ((entA (recZ zs) 0).second + 1) 1000000 then (100 * grnU (recZ zs) i u (recZ zs).length).tdiv (u - (entA (recZ zs) 0).second) else 0
theorem grnU_succ (zs : List Ent) (i u : Int) (k : Nat) : grnU zs i u (k + 1) = if litE zs i k = 1 then grnU zs i u k + maxI 0 (endK zs u k - (entA zs k).second) else grnU zs i u k := rfl
/-- one more entry. -/
def grnS (zs : List Ent) (i u q : Int) (k : Nat) : Int := if litE zs i k = 1 then q + maxI 0 (endK zs u k - (entA zs k).second) else q
theorem grnU_step (zs : List Ent) (i u : Int) (k : Nat) : grnU zs i u (k + 1) = grnS zs i u (grnU zs i u k) k := rfl
theorem sec_bound {zs : List Ent} {k : Nat} (h : entOk zs k = true) : 0 ≤ (entA zs k).second ∧ (entA zs k).second ≤ 1000000 := inB_t (entOk_parts h).1.1
theorem endK_bound {zs : List Ent} {u : Int} {k : Nat} (hu : 0 ≤ u ∧ u ≤ 1000000) (h : ∀ i, i < zs.length → entOk zs i = true) : 0 ≤ endK zs u k ∧ endK zs u k ≤ 1000000 := by
  unfold endK
  split
  · rename_i hk
    have := sec_bound (h (k + 1) hk)
    unfold minI
    split <;> omega
  · exact hu
theorem grnU_bound {zs : List Ent} {i u : Int} (hu : 0 ≤ u ∧ u ≤ 1000000) (h : ∀ i, i < zs.length → entOk zs i = true) : ∀ k : Nat, k ≤ zs.length → 0 ≤ grnU zs i u k ∧ grnU zs i u k ≤ k * 1000000
  | 0, _ => by simp [grnU]
  | k + 1, hk => by
    have ih := grnU_bound (i := i) hu h k (by omega)
    have h1 := endK_bound (k := k) hu h
    have h2 := sec_bound (h k (by omega))
    rw [grnU_succ]
    split
    · unfold maxI
      split <;> omega
    · omega
/-- the cells of greenUntil's closure. -/
structure GuAt (w : World) (gu gw gl g2 : Nat) (A : Option Addr) (n c : Nat) (i u : Int) : Prop where
  k0 : w.heap[gu]? = some (.cells #[.int .i64 u] 3)
  k1 : w.heap[gw]? = some (.cells #[.slice A n c] 96)
  k2 : w.heap[gl]? = some (.cells #[litF g2] 102)
  L : LitAt w g2 A n c i
theorem GuAt.below {w w' : World} {gu gw gl g2 : Nat} {A : Option Addr} {n c : Nat} {i u : Int} (h : GuAt w gu gw gl g2 A n c i u) (hb : Below w.heap.size w w') : GuAt w' gu gw gl g2 A n c i u :=
  ⟨(hb.block _ (lt_of_block h.k0)).trans h.k0, (hb.block _ (lt_of_block h.k1)).trans h.k1, (hb.block _ (lt_of_block h.k2)).trans h.k2, h.L.below hb⟩
theorem wrap_succ {k : Nat} (h : k ≤ 1000) : IntKind.i64.wrap ((k : Int) + 1) = (k : Int) + 1 := by rw [IntKind.wrap_i64]; omega
theorem wrap64_succ {k : Nat} (h : k ≤ 1000) : wrap64 ((k : Int) + 1) = (k : Int) + 1 := IntWalk.wrap64_in _ (by omega)
set_option maxHeartbeats 2000000 in
theorem impl_greenUntil1 (gu gw gl g2 : Nat) (A : Option Addr) (n c B : Nat) (zs : List Ent) (i u q : Int) (k : Nat) (w : World) (I : WitIn w A n c B zs) (G : GuAt w gu gw gl g2 A n c i u) (hk : k < n) (hu : 0 ≤ u ∧ u ≤ 1000000) (hq : 0 ≤ q ∧ q ≤ 100000000) :
    Calls Try.prog 124 #[.int .i64 q, .int .i64 k, .pointer (some ⟨gu, 0, none⟩), .pointer (some ⟨gw, 0, none⟩), .pointer (some ⟨gl, 0, none⟩)] w fun e w' => e = .returned (.int .i64 (grnS zs i u q k)) ∧ Below w.heap.size w w' := by
  have hl := I.e.1
  have hn := I.n60
  have hB := I.B
  have c0 := cell1w G.k0
  have c1 := cell1w G.k1
  have HG := Lib.hid G
  have HI := Lib.hid I
  have HGS : Hid (grnS zs i u q k = if litE zs i k = 1 then q + maxI 0 (endK zs u k - (entA zs k).second) else q) := Lib.hid rfl
  generalize grnS zs i u q k = ans at *
  have heb := endK_bound (k := k) (zs := zs) hu (fun i hi => I.ok i (by omega))
  have hsb := sec_bound (I.ok k hk)
  obtain ⟨ad, A1, m1, d1, rfl, hab, hqk, -, -, -⟩ := I.e.at hk
  have HQK := Lib.hid (fun y (hy : Below w.heap.size w y) => (hqk.below hy (by omega)).c0)
  have k1 : (0 : Int) ≤ (k : Int) := by omega
  have k2 : (k : Int) < (n : Int) := by omega
  have HLT := Lib.hid (fun y (hy : Below w.heap.size w y) => impl_lightIn1 g2 (some ad) n c B zs i k y (I.below hy) (G.L.below hy) (by omega))
  clear I G hqk
  by_cases h1 : k + 1 < n
  · obtain ⟨ad2, A3, m3, d3, e, hab3, hq3, -, -, -⟩ := HI.out.e.at (j := k + 1) h1
    injection e with e
    subst e
    have HEV : Hid (endK zs u k = minI u (entA zs (k + 1)).second) := Lib.hid (by unfold endK; rw [if_pos (by omega)])
    rw [HEV.out] at heb HGS
    have k3 : (k : Int) + 1 < (n : Int) := by omega
    have y0 := fun y : GW w => cell1w ((y.ok.block _ (lt_of_block HG.out.k0)).trans HG.out.k0)
    have y1 := fun y : GW w => cell1w ((y.ok.block _ (lt_of_block HG.out.k1)).trans HG.out.k1)
    have y2 := fun y : GW w => (hq3.below y.ok (by omega)).c0
    have hmn := fun y : GW w => impl_Min u (entA zs (k + 1)).second y.val
    clear hq3
    generalize minI u (entA zs (k + 1)).second = ev at *
    generalize (entA zs (k + 1)).second = s2 at *
    generalize (entA zs k).second = s1 at *
    go_enter Try.func124, Try.ntmps124
    obtain ⟨p, hp⟩ : ∃ p, litE zs i k = p := ⟨_, rfl⟩
    go_wp2_with fail
    refine wp_region_grow (by kernel_rfl) (by kernel_rfl) ?_
    repeat (go_big_quiet_step (first | (go_at_call 125; first | with_reducible exact calls_gw _ (hmn _))))
    refine wpQuiet_nil ?_
    intro x3
    have HB3 := Lib.hid x3.ok
    clear y0 y1 y2 hmn
    generalize x3.val = w3 at *
    clear x3
    have HLK : Hid (litE zs i k = p) := Lib.hid hp
    have hlt := HLT.out _ HB3.out
    rw [hp] at hlt
    have hl3 := cell1w ((HB3.out.block _ (lt_of_block HG.out.k2)).trans HG.out.k2)
    unfold litF at hl3
    by_cases h5 : p = 1
    · have HV : Hid (ans = q + maxI 0 (ev - s1)) := Lib.hid (by rw [HGS.out, if_pos (by rw [HLK.out]; exact h5)])
      have e1 : (p != 1) = false := by rw [bne_eq_false_iff_eq]; exact h5
      have e2 : (p == 1) = true := by rw [beq_iff_eq]; exact h5
      clear h5 hp c0 c1
      go_wp2_with fail
      refine hlt.mono ?_
      rintro r w4 ⟨rfl, hb4⟩
      have HB4 := Lib.hid (HB3.out.trans (hb4.mono HB3.out.size))
      have x1 := cell1w ((HB4.out.block _ (lt_of_block HG.out.k1)).trans HG.out.k1)
      have x2 := HQK.out _ HB4.out
      have HMX := Lib.hid (fun y => impl_Max 0 (ev - s1) y)
      have hmxb : 0 ≤ maxI 0 (ev - s1) ∧ maxI 0 (ev - s1) ≤ 1000000 := by unfold maxI; split <;> omega
      generalize maxI 0 (ev - s1) = mx at *
      clear hb4 hlt hl3
      go_wp2_with fail
      refine (HMX.out _).mono ?_
      rintro r w5 ⟨rfl, hb5⟩
      have HB5 := Lib.hid (HB4.out.trans (hb5.mono HB4.out.size))
      clear hb5 x1 x2
      go_wp2_with fail
      go_ret
      exact ⟨by rw [HV.out]; try rfl, HB5.out⟩
    · have HV : Hid (ans = q) := Lib.hid (by rw [HGS.out, if_neg (by rw [HLK.out]; exact h5)])
      have e1 : (p != 1) = true := by rw [bne_iff_ne]; exact h5
      have e2 : (p == 1) = false := by rw [beq_eq_false_iff_ne]; exact h5
      clear h5 hp c0 c1
      go_wp2_with fail
      refine hlt.mono ?_
      rintro r w4 ⟨rfl, hb4⟩
      have HB4 := Lib.hid (HB3.out.trans (hb4.mono HB3.out.size))
      clear hb4 hlt hl3
      go_wp2_with fail
      go_ret
      exact ⟨by rw [HV.out]; try rfl, HB4.out⟩
  · have HEV : Hid (endK zs u k = u) := Lib.hid (by unfold endK; rw [if_neg (by omega)])
    rw [HEV.out] at heb HGS
    have k3 : ¬ (k : Int) + 1 < (n : Int) := by omega
    generalize (entA zs k).second = s1 at *
    obtain ⟨p, hp⟩ : ∃ p, litE zs i k = p := ⟨_, rfl⟩
    have HB3 := Lib.hid (Below.refl w.heap.size w)
    go_enter Try.func124, Try.ntmps124
    have HLK : Hid (litE zs i k = p) := Lib.hid hp
    have hlt := HLT.out _ HB3.out
    rw [hp] at hlt
    have hl3 := cell1w ((HB3.out.block _ (lt_of_block HG.out.k2)).trans HG.out.k2)
    unfold litF at hl3
    by_cases h5 : p = 1
    · have HV : Hid (ans = q + maxI 0 (u - s1)) := Lib.hid (by rw [HGS.out, if_pos (by rw [HLK.out]; exact h5)])
      have e1 : (p != 1) = false := by rw [bne_eq_false_iff_eq]; exact h5
      have e2 : (p == 1) = true := by rw [beq_iff_eq]; exact h5
      clear h5 hp
      go_wp2_with fail
      refine hlt.mono ?_
      rintro r w4 ⟨rfl, hb4⟩
      have HB4 := Lib.hid (HB3.out.trans (hb4.mono HB3.out.size))
      have x1 := cell1w ((HB4.out.block _ (lt_of_block HG.out.k1)).trans HG.out.k1)
      have x2 := HQK.out _ HB4.out
      have HMX := Lib.hid (fun y => impl_Max 0 (u - s1) y)
      have hmxb : 0 ≤ maxI 0 (u - s1) ∧ maxI 0 (u - s1) ≤ 1000000 := by unfold maxI; split <;> omega
      generalize maxI 0 (u - s1) = mx at *
      clear hb4 hlt hl3
      go_wp2_with fail
      refine (HMX.out _).mono ?_
      rintro r w5 ⟨rfl, hb5⟩
      have HB5 := Lib.hid (HB4.out.trans (hb5.mono HB4.out.size))
      clear hb5 x1 x2
      go_wp2_with fail
      go_ret
      exact ⟨by rw [HV.out]; try rfl, HB5.out⟩
    · have HV : Hid (ans = q) := Lib.hid (by rw [HGS.out, if_neg (by rw [HLK.out]; exact h5)])
      have e1 : (p != 1) = true := by rw [bne_iff_ne]; exact h5
      have e2 : (p == 1) = false := by rw [beq_eq_false_iff_ne]; exact h5
      clear h5 hp
      go_wp2_with fail
      refine hlt.mono ?_
      rintro r w4 ⟨rfl, hb4⟩
      have HB4 := Lib.hid (HB3.out.trans (hb4.mono HB3.out.size))
      clear hb4 hlt hl3
      go_wp2_with fail
      go_ret
      exact ⟨by rw [HV.out]; try rfl, HB4.out⟩
set_option maxHeartbeats 2000000 in
theorem impl_carryG (gu gw gl g2 : Nat) (A : Option Addr) (n c B : Nat) (zs : List Ent) (i u : Int) (w : World) (I : WitIn w A n c B zs) (G : GuAt w gu gw gl g2 A n c i u) (hu : 0 ≤ u ∧ u ≤ 1000000) :
    Calls Try.prog 123 #[.int .i64 n, .int .i64 0, .func (.func 124) #[] #[.pointer (some ⟨gu, 0, none⟩), .pointer (some ⟨gw, 0, none⟩), .pointer (some ⟨gl, 0, none⟩)]] w fun e w' => e = .returned (.int .i64 (grnU zs i u n)) ∧ Below w.heap.size w w' := by
  have hl := I.e.1
  have hn := I.n60
  have HCL := Lib.hid (fun (q : Int) (k : Nat) y (hy : Below w.heap.size w y) (hk : k < n) (hq : 0 ≤ q ∧ q ≤ 100000000) => impl_greenUntil1 gu gw gl g2 A n c B zs i u q k y (I.below hy) (G.below hy) hk hu hq)
  have HBD := Lib.hid (fun (k : Nat) (hk : k ≤ n) => grnU_bound (zs := zs) (i := i) (u := u) hu (fun j hj => I.ok j (by omega)) k (by omega))
  clear I G
  go_enter Try.func123, Try.ntmps123
  go_wp2
  go_loopw [1, 9] (fun t x wr => ∃ k : Nat, k ≤ n ∧ x = .int .i64 k ∧ t = .int .i64 (grnU zs i u k) ∧ Below w.heap.size w wr) (fun _ x _ => n - (intOf x).toNat)
  case atStart => exact ⟨0, Nat.zero_le _, rfl, rfl, Below.refl _ _⟩
  case round =>
    obtain ⟨k, hk, rfl, rfl, hbl⟩ := hrel
    have HB := Lib.hid hbl
    have hbd := HBD.out k hk
    by_cases hlt : k < n
    · have hcc := HCL.out (grnU zs i u k) k wr hbl hlt (by omega)
      rw [← grnU_step] at hcc
      clear hbl hbd
      go_wp2_with fail
      refine hcc.mono ?_
      rintro r w2 ⟨rfl, hb2⟩
      have HB2 := Lib.hid (HB.out.trans (hb2.mono HB.out.size))
      clear hb2 hcc
      go_wp2_with fail
      go_roundw
      case rel => exact ⟨k + 1, by omega, by go_num, rfl, HB2.out⟩
      case measure => simp [intOf]; omega
    · obtain rfl : k = n := by omega
      go_wp2_with fail
      go_ret
      exact ⟨rfl, hbl⟩
set_option maxHeartbeats 2000000 in
theorem impl_greenUntil (A : Option Addr) (n c B : Nat) (zs : List Ent) (i u : Int) (w : World) (I : WitIn w A n c B zs) (hu : 0 ≤ u ∧ u ≤ 1000000) :
    Calls Try.prog 73 #[.agg #[.slice A n c], .int .i64 i, .int .i64 u] w fun e w' => e = .returned (.int .i64 (grnU zs i u n)) ∧ Below w.heap.size w w' := by
  obtain ⟨wA, hwA⟩ : ∃ wA, wA = (w.alloc (.cells #[.slice A n c] 96)).alloc (.cells #[.int .i64 u] 3) := ⟨_, rfl⟩
  obtain ⟨hk0, hk1, hsz, hBA⟩ := two_blocks hwA
  have HK0 := Lib.hid hk0
  have HK1 := Lib.hid hk1
  have HB := Lib.hid hBA
  have HI := Lib.hid (I.below hBA)
  clear hk0 hk1 hsz hBA I
  go_enter Try.func73, Try.ntmps73
  go_wp2_with fail
  rw [← hwA]
  refine (impl_lightIn A n c i wA).mono ?_
  rintro r w3 ⟨rfl, L, hb3⟩
  unfold litF
  have HK3 := Lib.hid ((hb3.block _ (lt_of_block HK0.out)).trans HK0.out)
  have HK4 := Lib.hid ((hb3.block _ (lt_of_block HK1.out)).trans HK1.out)
  have HI3 := Lib.hid (HI.out.below hb3)
  have HL3 := Lib.hid L
  have HB3 := Lib.hid (HB.out.trans (hb3.mono HB.out.size))
  clear hwA L hb3 HK0 HK1 HI HB
  generalize wA.heap.size = g2 at *
  obtain ⟨wz, hwz⟩ : ∃ wz, wz = w3.alloc (.cells #[Value.nilFunc] 102) := ⟨_, rfl⟩
  obtain ⟨hkz, -, hbz⟩ := one_block hwz
  have czz := cell1w hkz
  have fzz : wz.frozen? ⟨w3.heap.size, 0, none⟩ = false := frozen_of_row _ _ 0 _ _ hkz
  obtain ⟨w4, hw4⟩ : ∃ w4, w4 = wz.setCell ⟨w3.heap.size, 0, none⟩ (litF g2) := ⟨_, rfl⟩
  have hst : (store ⟨w3.heap.size, 0, none⟩ (litF g2)).run Try.prog wz = .ok () w4 := by
    rw [run_store _ _ _ _ _ rfl, czz, hw4]
    simp [fzz]
  have hk5 : w4.heap[w3.heap.size]? = some (.cells #[litF g2] 102 (0, 0)) := by rw [hw4]; exact heap_set hkz 0 _
  have hb4 : Below w3.heap.size w3 w4 := by rw [hw4]; exact hbz.setCell (Nat.le_refl _) _
  have HG : Hid (GuAt w4 (w.heap.size + 1) w.heap.size w3.heap.size g2 A n c i u) := Lib.hid ⟨(hb4.block _ (lt_of_block HK4.out)).trans HK4.out, (hb4.block _ (lt_of_block HK3.out)).trans HK3.out, hk5, HL3.out.below hb4⟩
  have HI4 := Lib.hid (HI3.out.below hb4)
  have HB4 := Lib.hid (HB3.out.trans (hb4.mono HB3.out.size))
  have x0 := cell1w HG.out.k1
  have ltx := lt_of_block HG.out.k1
  have hCG := impl_carryG (w.heap.size + 1) w.heap.size w3.heap.size g2 A n c B zs i u w4 HI4.out HG.out hu
  have HCG := Lib.hid hCG
  unfold litF at hst
  rw [hwz] at hst
  clear hk5 hb4 hCG hkz hbz czz fzz hw4 hwz
  go_wp2_with fail
  refine HCG.out.mono ?_
  rintro r w5 ⟨rfl, hb5⟩
  have HB5 := Lib.hid (HB4.out.trans (hb5.mono HB4.out.size))
  clear hb5
  go_wp2
  go_ret
  exact ⟨rfl, HB5.out⟩
theorem quo_wrap {a b : Int} (h1 : 0 ≤ a ∧ a ≤ 100000000000) (h2 : 0 < b) : IntKind.i64.wrap (a.tdiv b) = a.tdiv b := by
  have e : a.tdiv b = a / b := Int.tdiv_eq_ediv_of_nonneg h1.1
  have e1 : 0 ≤ a / b := Int.ediv_nonneg h1.1 (by omega)
  have e2 : a / b ≤ a := Int.ediv_le_self b h1.1
  rw [e, IntKind.wrap_i64]
  omega
set_option maxHeartbeats 4000000 in
set_option maxRecDepth 100000 in
theorem impl_OpenShare (A : Option Addr) (n c B : Nat) (zs : List Ent) (i u : Int) (w : World) (h : EntsAt w B A n zs) (hB : B ≤ w.heap.size) (hn : n ≤ 4294967296) (hm : ∀ j, j < n → (entA zs j).lights.length ≤ 1048576) :
    Calls Try.prog 24 #[.slice A n c, .int .i64 i, .int .i64 u] w fun e w' => e = .returned (.int .i64 (openS zs i u)) ∧ Below w.heap.size w w' := by
  have hcc := impl_witnessOf A n c B zs w h hB hn hm
  have HV : Hid (openS zs i u = if hasL (recZ zs) i && inB u ((entA (recZ zs) 0).second + 1) 1000000 then (100 * grnU (recZ zs) i u (recZ zs).length).tdiv (u - (entA (recZ zs) 0).second) else 0) := Lib.hid rfl
  generalize recZ zs = rs at *
  clear h hm
  go_enter Try.func24, Try.ntmps24
  go_wp2_with fail
  refine hcc.mono ?_
  rintro r w1 ⟨A', n', c', rfl, I, hb1⟩
  obtain ⟨w2, hw2⟩ : ∃ w2, w2 = w1.alloc (.cells #[.slice A' n' c'] 96) := ⟨_, rfl⟩
  obtain ⟨hk2, -, hb2⟩ := one_block hw2
  have I2 := Lib.hid (I.below hb2)
  have HB2 := Lib.hid (hb1.trans (hb2.mono hb1.size))
  have HK2 := Lib.hid hk2
  have hlr := I.e.1
  have h60 := I.n60
  have hHL := impl_hasLight A' n' c' B rs i w2 I2.out
  clear hcc I hb1 hk2 hb2
  go_wp2_with fail
  rw [← hw2]
  generalize w1.heap.size = g1 at *
  clear hw2
  refine hHL.mono ?_
  rintro r w3 ⟨rfl, hb3⟩
  have HK3 := Lib.hid ((hb3.block _ (lt_of_block HK2.out)).trans HK2.out)
  have I3 := Lib.hid (I2.out.below hb3)
  have HB3 := Lib.hid (HB2.out.trans (hb3.mono HB2.out.size))
  clear hb3 HK2 I2 HB2 hHL
  cases hh : hasL rs i
  · have HR : Hid (openS zs i u = 0) := Lib.hid (by rw [HV.out, hh]; rfl)
    clear hh HV
    go_wp2_with fail
    go_ret
    exact ⟨by rw [HR.out]; try rfl, HB3.out⟩
  have hpos : 0 < n' := by
    rcases Nat.eq_zero_or_pos n' with h0 | h0
    · rw [List.eq_nil_of_length_eq_zero (by omega : rs.length = 0), hasL_nil] at hh
      cases hh
    · exact h0
  obtain ⟨ad, A3, m3, d3, rfl, hab, hq, -, -, -⟩ := I3.out.e.at (j := 0) hpos
  have hz0 : ad.add (0 * 3) = ad := by simp [Addr.add]
  rw [hz0] at hab hq
  have hIB := I3.out.B
  have c0 := hq.c0
  have ltad : ad.block < w3.heap.size := by omega
  have x0 := cell1w HK3.out
  have hsb := sec_bound (I3.out.ok 0 hpos)
  have HY0 := Lib.hid (fun y (hy : Below w3.heap.size w3 y) => (hq.below hy (by omega)).c0)
  have p1 : (0 : Int) < (n' : Int) := by omega
  have HOK := Lib.hid (fun j (hj : j < rs.length) => I3.out.ok j (by omega))
  clear hz0 hq
  obtain ⟨s1, s2⟩ := hsb
  generalize (entA rs 0).second = s0 at *
  cases hu : inB u (s0 + 1) 1000000
  · have HR : Hid (openS zs i u = 0) := Lib.hid (by rw [HV.out, hh, hu]; rfl)
    have HU := Lib.hid hu
    clear hh hu HV
    go_wp2_with (go_at_call 72; refine (impl_InRange _ _ _ _).mono ?_; rintro e w' ⟨rfl, rfl⟩; rw [HU.out])
    go_ret
    exact ⟨by rw [HR.out]; try rfl, HB3.out⟩
  · have HR : Hid (openS zs i u = (100 * grnU rs i u n').tdiv (u - s0)) := Lib.hid (by rw [HV.out, hh, hu, hlr]; rfl)
    have HU := Lib.hid hu
    obtain ⟨u1, u2⟩ := inB_t hu
    have hgb := grnU_bound (zs := rs) (i := i) (u := u) (by omega) HOK.out n' (by omega)
    have hGU := fun y : GW w3 => impl_greenUntil (some ad) n' c' B rs i u y.val (I3.out.below y.ok) (by omega)
    have y0 := fun y : GW w3 => HY0.out y.val y.ok
    have y1 := fun y : GW w3 => cell1w ((y.ok.block _ (lt_of_block HK3.out)).trans HK3.out)
    have hqw := quo_wrap (a := 100 * grnU rs i u n') (b := u - s0) (by omega) (by omega)
    have hne : (u - s0 == 0) = false := by rw [beq_eq_false_iff_ne]; omega
    have hne2 : u - s0 ≠ 0 := by omega
    have hgb2 : grnU rs i u n' ≤ 60000000 := by omega
    have hgb1 := hgb.1
    clear hh hu HV hgb HY0
    generalize grnU rs i u n' = gq at *
    go_wp2_with (go_at_call 72; refine (impl_InRange _ _ _ _).mono ?_; rintro e w' ⟨rfl, rfl⟩; rw [HU.out])
    refine wp_region_grow (by kernel_rfl) (by kernel_rfl) ?_
    repeat (go_big_quiet_step (first | (go_at_call 73; first | with_reducible exact calls_gw _ (hGU _))))
    refine wpQuiet_nil ?_
    intro x3
    have HB4 := Lib.hid (HB3.out.trans (x3.ok.mono HB3.out.size))
    clear y0 y1 hGU c0 x0
    generalize x3.val = w4 at *
    clear x3
    go_wp2
    go_ret
    exact ⟨by rw [HR.out]; try rfl, HB4.out⟩
end Go.Proofs.Ytblilnfkpfjclaa

/- Chapter 27: IsRecord of the model (written by genrcd.py). -/
namespace Go.Proofs.Ytblilnfkpfjclaa
open Go.RowKit
set_option linter.unusedVariables false

set_option maxHeartbeats 8000000 in
set_option maxRecDepth 100000 in
theorem spec_IsRecord (A : Option Addr) (n c B : Nat) (zs : List Ent) (w : World) (h : EntsAt w B A n zs) (hB : B ≤ w.heap.size) (hn : n ≤ 4294967296) (hm : ∀ j, j < n → (entA zs j).lights.length ≤ 1048576) :
    Calls Try.prog 65 #[.slice A n c] w fun e w' => e = .returned (.bool (isRec zs)) ∧ Below w.heap.size w w' := by
  have hl := h.1
  by_cases h60 : 60 < n
  · have HV := Lib.hid (isRec_long (zs := zs) (by omega))
    have e1 : ¬ (n : Int) ≤ 60 := by omega
    have e3 : decide ((n : Int) ≤ 60) = false := decide_eq_false e1
    have e4 : (0 : Int) < (n : Int) := by omega
    have e5 : decide ((0 : Int) < (n : Int)) = true := decide_eq_true e4
    have e6 : 0 < n := by omega
    go_enter Try.func65, Try.ntmps65
    go_wp2
    go_loopw [3, 4] (fun v i wr => v = .int .i64 0 ∧ i = .int .i64 0 ∧ w = wr) (fun _ _ _ => 0)
    case atStart => exact ⟨rfl, rfl, rfl⟩
    case round =>
      obtain ⟨rfl, rfl, rfl⟩ := hrel
      go_wp2
      go_ret
      exact ⟨by rw [HV.out]; rfl, Below.refl _ _⟩
  have e1 : (n : Int) ≤ 60 := by omega
  have e3 : decide ((n : Int) ≤ 60) = true := decide_eq_true e1
  have HEND : Hid ((∀ i, i < n → entOk zs i = true) → isRec zs = true) := Lib.hid (fun hg => by rw [isRec_end (fun i hi => hg i (by omega)), hl, decide_eq_true (by omega)])
  have HNO : Hid (∀ i, i < n → entOk zs i = false → isRec zs = false) := Lib.hid (fun i hi hg => isRec_no (by omega) hg)
  have HM := Lib.hid hm
  clear hl hm
  go_enter Try.func65, Try.ntmps65
  go_wp2
  go_loopw [3, 4] (fun v i wr => ∃ k : Nat, k ≤ n ∧ v = .int .i64 (prevM zs k) ∧ i = .int .i64 k ∧ (∀ j, j < k → entOk zs j = true) ∧ Below w.heap.size w wr) (fun _ i _ => n - (intOf i).toNat)
  case atStart => exact ⟨0, Nat.zero_le _, rfl, rfl, fun j hj => absurd hj (by omega), Below.refl _ _⟩
  case round =>
    obtain ⟨k, hk, rfl, rfl, hgo, hbl⟩ := hrel
    have HG := Lib.hid hgo
    have HBL := Lib.hid hbl
    have hsz := hbl.size
    have hrl := rec_len hgo
    clear hgo
    by_cases hlt : k < n
    · obtain ⟨ad, A', m, c', rfl, hab, hq, hi, hmc, hnil⟩ := h.at hlt
      obtain ⟨ad2, A0, m0, c0', e, hab0, hq0, hi0, hmc0, hnil0⟩ := h.at (j := 0) (by omega)
      injection e with e
      subst e
      have hz0 : ad.add (0 * 3) = ad := by simp [Addr.add]
      rw [hz0] at hq0 hab0
      have i1 : (0 : Int) ≤ (k : Int) := by omega
      have i2 : (k : Int) < (n : Int) := by omega
      have i3 : decide ((k : Int) < (n : Int)) = true := decide_eq_true i2
      have i4 : (0 : Int) < (n : Int) := by omega
      have hlm := hi.1
      have hlm0 := hi0.1
      have hmk := HM.out k hlt
      have hqq := hq.below hbl (by omega)
      have hqq0 := hq0.below hbl (by omega)
      have hcn : (ad.add (k * 3)).block < wr.heap.size := by omega
      have hcn0 : ad.block < wr.heap.size := by omega
      have y0 := fun y : GW wr => (hqq.below y.ok hcn).c0
      have y1 := fun y : GW wr => (hqq.below y.ok hcn).c1
      have y2 := fun y : GW wr => (hqq.below y.ok hcn).c2
      have v1 := fun y : GW wr => (hqq0.below y.ok hcn0).c1
      have hiw := hi.keep (w' := wr) (fun p hp => hbl.cell (by omega))
      have hse := fun y : GW wr => spec_SealOf (prevM zs k) (entA zs k).second A' m c' B (entA zs k).lights y.val (hiw.keep fun p hp => y.ok.cell (by omega)) hnil (by have := y.ok.size; omega) (by omega)
      have hmm : (∀ j, j < k → m = m0 ∨ True) := fun _ _ => .inr trivial
      have HL0 : Hid (k = 0 → m = m0) := Lib.hid (fun e => by subst e; omega)
      have HLP : Hid (k ≠ 0 → (entA zs (k - 1)).lights.length = m0) := Lib.hid (fun e => by rw [hrl (k - 1) (by omega)]; exact hlm0)
      have HE1 : Hid (inB (entA zs k).second 0 1000000 = false → isRec zs = false) := Lib.hid (fun e => HNO.out k hlt (entOk_sec e))
      have HE2 : Hid (12 < m → isRec zs = false) := Lib.hid (fun e => HNO.out k hlt (entOk_len (by omega)))
      have HE3 : Hid (m ≠ m0 → isRec zs = false) := Lib.hid (fun e => HNO.out k hlt (by
        by_cases hk0 : k = 0
        · exact absurd (HL0.out hk0) e
        · exact entOk_beh hk0 (fun h => e (by have := HLP.out hk0; have := h.2; omega))))
      have HE4 : Hid ((entA zs k).mac ≠ sealI (prevM zs k) (entA zs k).second (entA zs k).lights → isRec zs = false) := Lib.hid (fun e => HNO.out k hlt (entOk_mac e))
      have HE5 : Hid (k ≠ 0 → ¬ (entA zs (k - 1)).second < (entA zs k).second → isRec zs = false) := Lib.hid (fun e e2 => HNO.out k hlt (entOk_beh e (fun h => e2 h.1)))
      have HE6 : Hid (litsOk (entA zs k).lights = false → isRec zs = false) := Lib.hid (fun e => HNO.out k hlt (entOk_lit e))
      have HOK : Hid (inB (entA zs k).second 0 1000000 = true → m ≤ 12 → m = m0 → (entA zs k).mac = sealI (prevM zs k) (entA zs k).second (entA zs k).lights → (k = 0 ∨ (entA zs (k - 1)).second < (entA zs k).second) → litsOk (entA zs k).lights = true → ∀ j, j < k + 1 → entOk zs j = true) := Lib.hid (fun h1 h2 h3 h4 h5 h6 j hj => by
        by_cases e : j = k
        · subst e
          refine entOk_mk h1 (by omega) h6 ?_ h4
          by_cases hk0 : j = 0
          · exact .inl hk0
          · rcases h5 with h5 | h5
            · exact .inl h5
            · exact .inr ⟨h5, by rw [HLP.out hk0]; omega⟩
        · exact HG.out j (by omega))
      have HPM : Hid (prevM zs (k + 1) = (entA zs k).mac) := Lib.hid (by unfold prevM; rw [if_neg (by omega), Nat.add_sub_cancel])
      have HI := Lib.hid hiw
      have HLN : Hid ((∀ j, j < m → inB ((entA zs k).lights.getD j 0) 0 2 = true) → litsOk (entA zs k).lights = true) := Lib.hid (fun h => litsOk_yes (fun j hj => h j (by omega)))
      have HLF : Hid (∀ j, j < m → inB ((entA zs k).lights.getD j 0) 0 2 = false → litsOk (entA zs k).lights = false) := Lib.hid (fun j hj h => litsOk_no (by omega) h)
      have hpr : k ≠ 0 → ∃ m : Nat, m + 1 = k := fun e => ⟨k - 1, by omega⟩
      have H1 := Lib.hid h
      clear hi hi0 hq hq0 hqq0 hiw hrl hmm hz0 hmc hmc0 hnil hnil0
      generalize hr : sealI (prevM zs k) (entA zs k).second (entA zs k).lights = r at *
      clear hr
      have hin := fun y : GW wr => spec_l1In (entA zs k).second 0 1000000 y.val
      cases g1 : inB (entA zs k).second 0 1000000
      · have HV := Lib.hid (HE1.out g1)
        rw [g1] at hin
        clear g1 HE1 HE2 HE3 HE4 HE5 HE6 HOK HPM HLN HLF hpr
        go_wp2
        refine wp_region_grow (by kernel_rfl) (by kernel_rfl) ?_
        repeat (go_big_quiet_step (first | (go_at_call 80; first | with_reducible exact calls_gw _ (hse _))))
        refine wpQuiet_nil ?_
        intro x3
        have hb3 := x3.ok
        have z0 : ∀ y : GW x3.val, y.val.cell? (ad.add (k * 3)) = _ := fun y => y0 ⟨y.val, hb3.trans (y.ok.mono hb3.size)⟩
        have z1 : ∀ y : GW x3.val, y.val.cell? ⟨(ad.add (k * 3)).block, (ad.add (k * 3)).off + 1, none⟩ = _ := fun y => y1 ⟨y.val, hb3.trans (y.ok.mono hb3.size)⟩
        have z2 : ∀ y : GW x3.val, y.val.cell? ⟨(ad.add (k * 3)).block, (ad.add (k * 3)).off + 2, none⟩ = _ := fun y => y2 ⟨y.val, hb3.trans (y.ok.mono hb3.size)⟩
        have u1 : ∀ y : GW x3.val, y.val.cell? ⟨ad.block, ad.off + 1, none⟩ = _ := fun y => v1 ⟨y.val, hb3.trans (y.ok.mono hb3.size)⟩
        have zin := fun y : GW x3.val => hin ⟨y.val, hb3.trans (y.ok.mono hb3.size)⟩
        simp only at zin
        clear y0 y1 y2 v1 hse hin
        have HB3 := Lib.hid (HBL.out.trans (hb3.mono hsz))
        clear hb3
        generalize x3.val = w3 at *
        clear x3
        go_wp2
        refine wp_region_grow (by kernel_rfl) (by kernel_rfl) ?_
        repeat (go_big_quiet_step (first | (go_at_call 66; first | with_reducible exact calls_gw_same _ (zin _))))
        refine wpQuiet_nil ?_
        intro x4
        have hb4 := x4.ok
        have HB4 := Lib.hid (HB3.out.trans (hb4.mono HB3.out.size))

        generalize x4.val = w4 at *
        go_wp2
        go_ret
        exact ⟨by rw [HV.out]; rfl, HB4.out⟩
      have G1 := Lib.hid g1
      rw [g1] at hin
      clear g1
      by_cases g2 : 12 < m
      · have HV := Lib.hid (HE2.out g2)
        have d1 : (m : Int) > 12 := by omega
        have d2 : decide (12 < (m : Int)) = true := decide_eq_true (by omega)
        have d3 : decide (12 < m) = true := decide_eq_true (by omega)
        clear HE1 HE2 HE3 HE4 HE5 HE6 HOK HPM HLN HLF hpr
        go_wp2
        refine wp_region_grow (by kernel_rfl) (by kernel_rfl) ?_
        repeat (go_big_quiet_step (first | (go_at_call 80; first | with_reducible exact calls_gw _ (hse _))))
        refine wpQuiet_nil ?_
        intro x3
        have hb3 := x3.ok
        have z0 : ∀ y : GW x3.val, y.val.cell? (ad.add (k * 3)) = _ := fun y => y0 ⟨y.val, hb3.trans (y.ok.mono hb3.size)⟩
        have z1 : ∀ y : GW x3.val, y.val.cell? ⟨(ad.add (k * 3)).block, (ad.add (k * 3)).off + 1, none⟩ = _ := fun y => y1 ⟨y.val, hb3.trans (y.ok.mono hb3.size)⟩
        have z2 : ∀ y : GW x3.val, y.val.cell? ⟨(ad.add (k * 3)).block, (ad.add (k * 3)).off + 2, none⟩ = _ := fun y => y2 ⟨y.val, hb3.trans (y.ok.mono hb3.size)⟩
        have u1 : ∀ y : GW x3.val, y.val.cell? ⟨ad.block, ad.off + 1, none⟩ = _ := fun y => v1 ⟨y.val, hb3.trans (y.ok.mono hb3.size)⟩
        have zin := fun y : GW x3.val => hin ⟨y.val, hb3.trans (y.ok.mono hb3.size)⟩
        simp only at zin
        clear y0 y1 y2 v1 hse hin
        have HB3 := Lib.hid (HBL.out.trans (hb3.mono hsz))
        clear hb3
        generalize x3.val = w3 at *
        clear x3
        go_wp2
        refine wp_region_grow (by kernel_rfl) (by kernel_rfl) ?_
        repeat (go_big_quiet_step (first | (go_at_call 66; first | with_reducible exact calls_gw_same _ (zin _))))
        refine wpQuiet_nil ?_
        intro x4
        have hb4 := x4.ok
        have HB4 := Lib.hid (HB3.out.trans (hb4.mono HB3.out.size))

        generalize x4.val = w4 at *
        go_wp2
        go_ret
        exact ⟨by rw [HV.out]; rfl, HB4.out⟩
      have d1 : ¬ (m : Int) > 12 := by omega
      have d2 : decide (12 < (m : Int)) = false := decide_eq_false (by omega)
      have d3 : decide (12 < m) = false := decide_eq_false (by omega)
      by_cases g3 : m = m0
      rotate_left
      · have HV := Lib.hid (HE3.out g3)
        have d4 : ((m : Int) == (m0 : Int)) = false := by rw [beq_eq_false_iff_ne]; omega
        have d5 : ((m : Int) != (m0 : Int)) = true := by rw [bne_iff_ne]; omega
        clear HE1 HE2 HE3 HE4 HE5 HE6 HOK HPM HLN HLF hpr
        go_wp2
        refine wp_region_grow (by kernel_rfl) (by kernel_rfl) ?_
        repeat (go_big_quiet_step (first | (go_at_call 80; first | with_reducible exact calls_gw _ (hse _))))
        refine wpQuiet_nil ?_
        intro x3
        have hb3 := x3.ok
        have z0 : ∀ y : GW x3.val, y.val.cell? (ad.add (k * 3)) = _ := fun y => y0 ⟨y.val, hb3.trans (y.ok.mono hb3.size)⟩
        have z1 : ∀ y : GW x3.val, y.val.cell? ⟨(ad.add (k * 3)).block, (ad.add (k * 3)).off + 1, none⟩ = _ := fun y => y1 ⟨y.val, hb3.trans (y.ok.mono hb3.size)⟩
        have z2 : ∀ y : GW x3.val, y.val.cell? ⟨(ad.add (k * 3)).block, (ad.add (k * 3)).off + 2, none⟩ = _ := fun y => y2 ⟨y.val, hb3.trans (y.ok.mono hb3.size)⟩
        have u1 : ∀ y : GW x3.val, y.val.cell? ⟨ad.block, ad.off + 1, none⟩ = _ := fun y => v1 ⟨y.val, hb3.trans (y.ok.mono hb3.size)⟩
        have zin := fun y : GW x3.val => hin ⟨y.val, hb3.trans (y.ok.mono hb3.size)⟩
        simp only at zin
        clear y0 y1 y2 v1 hse hin
        have HB3 := Lib.hid (HBL.out.trans (hb3.mono hsz))
        clear hb3
        generalize x3.val = w3 at *
        clear x3
        go_wp2
        refine wp_region_grow (by kernel_rfl) (by kernel_rfl) ?_
        repeat (go_big_quiet_step (first | (go_at_call 66; first | with_reducible exact calls_gw_same _ (zin _))))
        refine wpQuiet_nil ?_
        intro x4
        have hb4 := x4.ok
        have HB4 := Lib.hid (HB3.out.trans (hb4.mono HB3.out.size))

        generalize x4.val = w4 at *
        go_wp2
        go_ret
        exact ⟨by rw [HV.out]; rfl, HB4.out⟩
      have d4 : ((m : Int) == (m0 : Int)) = true := by rw [beq_iff_eq]; omega
      have d5 : ((m : Int) != (m0 : Int)) = false := by rw [bne_eq_false_iff_eq]; omega
      have G3 := Lib.hid g3
      clear g3
      by_cases g4 : (entA zs k).mac = r
      rotate_left
      · have HV := Lib.hid (HE4.out g4)
        have d6 : ((entA zs k).mac == r) = false := by rw [beq_eq_false_iff_ne]; exact g4
        have d7 : ((entA zs k).mac != r) = true := by rw [bne_iff_ne]; exact g4
        clear HE1 HE2 HE3 HE4 HE5 HE6 HOK HPM HLN HLF hpr
        go_wp2
        refine wp_region_grow (by kernel_rfl) (by kernel_rfl) ?_
        repeat (go_big_quiet_step (first | (go_at_call 80; first | with_reducible exact calls_gw _ (hse _))))
        refine wpQuiet_nil ?_
        intro x3
        have hb3 := x3.ok
        have z0 : ∀ y : GW x3.val, y.val.cell? (ad.add (k * 3)) = _ := fun y => y0 ⟨y.val, hb3.trans (y.ok.mono hb3.size)⟩
        have z1 : ∀ y : GW x3.val, y.val.cell? ⟨(ad.add (k * 3)).block, (ad.add (k * 3)).off + 1, none⟩ = _ := fun y => y1 ⟨y.val, hb3.trans (y.ok.mono hb3.size)⟩
        have z2 : ∀ y : GW x3.val, y.val.cell? ⟨(ad.add (k * 3)).block, (ad.add (k * 3)).off + 2, none⟩ = _ := fun y => y2 ⟨y.val, hb3.trans (y.ok.mono hb3.size)⟩
        have u1 : ∀ y : GW x3.val, y.val.cell? ⟨ad.block, ad.off + 1, none⟩ = _ := fun y => v1 ⟨y.val, hb3.trans (y.ok.mono hb3.size)⟩
        have zin := fun y : GW x3.val => hin ⟨y.val, hb3.trans (y.ok.mono hb3.size)⟩
        simp only at zin
        clear y0 y1 y2 v1 hse hin
        have HB3 := Lib.hid (HBL.out.trans (hb3.mono hsz))
        clear hb3
        generalize x3.val = w3 at *
        clear x3
        go_wp2
        refine wp_region_grow (by kernel_rfl) (by kernel_rfl) ?_
        repeat (go_big_quiet_step (first | (go_at_call 66; first | with_reducible exact calls_gw_same _ (zin _))))
        refine wpQuiet_nil ?_
        intro x4
        have hb4 := x4.ok
        have HB4 := Lib.hid (HB3.out.trans (hb4.mono HB3.out.size))

        generalize x4.val = w4 at *
        go_wp2
        go_ret
        exact ⟨by rw [HV.out]; rfl, HB4.out⟩
      have d6 : ((entA zs k).mac == r) = true := by rw [beq_iff_eq]; exact g4
      have d7 : ((entA zs k).mac != r) = false := by rw [bne_eq_false_iff_eq]; exact g4
      have HRM : Hid (Value.int .i64 r = Value.int .i64 (prevM zs (k + 1))) := Lib.hid (by rw [HPM.out, g4])
      have HOK2 : Hid ((k = 0 ∨ (entA zs (k - 1)).second < (entA zs k).second) → litsOk (entA zs k).lights = true → ∀ j, j < k + 1 → entOk zs j = true) := Lib.hid (fun b c => HOK.out G1.out (by omega) G3.out g4 b c)
      clear g4 HOK HPM
      by_cases g5 : k = 0
      · have HOK3 : Hid (litsOk (entA zs k).lights = true → ∀ j, j < k + 1 → entOk zs j = true) := Lib.hid (fun c => HOK2.out (.inl g5) c)
        have d8 : decide ((0 : Int) < (k : Int)) = false := decide_eq_false (by omega)
        have d9 : decide (0 < k) = false := decide_eq_false (by omega)
        have d10 : ¬ (k : Int) > 0 := by omega
        clear g5 HOK2 hpr
        go_wp2
        refine wp_region_grow (by kernel_rfl) (by kernel_rfl) ?_
        repeat (go_big_quiet_step (first | (go_at_call 80; first | with_reducible exact calls_gw _ (hse _))))
        refine wpQuiet_nil ?_
        intro x3
        have hb3 := x3.ok
        have z0 : ∀ y : GW x3.val, y.val.cell? (ad.add (k * 3)) = _ := fun y => y0 ⟨y.val, hb3.trans (y.ok.mono hb3.size)⟩
        have z1 : ∀ y : GW x3.val, y.val.cell? ⟨(ad.add (k * 3)).block, (ad.add (k * 3)).off + 1, none⟩ = _ := fun y => y1 ⟨y.val, hb3.trans (y.ok.mono hb3.size)⟩
        have z2 : ∀ y : GW x3.val, y.val.cell? ⟨(ad.add (k * 3)).block, (ad.add (k * 3)).off + 2, none⟩ = _ := fun y => y2 ⟨y.val, hb3.trans (y.ok.mono hb3.size)⟩
        have u1 : ∀ y : GW x3.val, y.val.cell? ⟨ad.block, ad.off + 1, none⟩ = _ := fun y => v1 ⟨y.val, hb3.trans (y.ok.mono hb3.size)⟩
        have zin := fun y : GW x3.val => hin ⟨y.val, hb3.trans (y.ok.mono hb3.size)⟩
        simp only at zin
        clear y0 y1 y2 v1 hse hin
        have HB3 := Lib.hid (HBL.out.trans (hb3.mono hsz))
        have HB3R := Lib.hid hb3
        clear hb3
        generalize x3.val = w3 at *
        clear x3
        go_wp2
        refine wp_region_grow (by kernel_rfl) (by kernel_rfl) ?_
        repeat (go_big_quiet_step (first | (go_at_call 66; first | with_reducible exact calls_gw_same _ (zin _))))
        refine wpQuiet_nil ?_
        intro x4
        have hb4 := x4.ok
        have HB4 := Lib.hid (HB3.out.trans (hb4.mono HB3.out.size))

        have x1 : x4.val.cell? ⟨(ad.add (k * 3)).block, (ad.add (k * 3)).off + 1, none⟩ = some (.slice A' m c') := z1 ⟨x4.val, hb4⟩
        have X1 := Lib.hid x1
        clear z0 z1 z2 u1 zin x1 HE1 HE2 HE3 HE4 HE5
        have HW4 := Lib.hid (HI.out.keep (w' := x4.val) (fun p hp => (HB3R.out.trans (hb4.mono HB3R.out.size)).cell (by omega)))
        clear hb4
        generalize x4.val = w4 at *
        clear x4
        have lt4 : (ad.add (k * 3)).block < w4.heap.size := by have := HB4.out.size; omega
        go_wp2_with fail
        go_loopw [5] (fun i wq => ∃ j : Nat, j ≤ m ∧ i = .int .i64 j ∧ (∀ q, q < j → inB ((entA zs k).lights.getD q 0) 0 2 = true) ∧ w4 = wq) (fun i _ => m - (intOf i).toNat)
        case atStart => exact ⟨0, Nat.zero_le _, rfl, fun j hj => absurd hj (by omega), rfl⟩
        case round =>
          obtain ⟨j, hj, rfl, hjo, rfl⟩ := hrel
          have HJ := Lib.hid hjo
          have x1 := X1.out
          clear hjo
          by_cases hjl : j < m
          · obtain ⟨ad3, rfl, hab3, hcell⟩ := HW4.out.2 (by omega)
            have hcj := hcell j hjl
            have j1 : (0 : Int) ≤ (j : Int) := by omega
            have j2 : (j : Int) < (m : Int) := by omega
            have HJK : Hid (inB ((entA zs k).lights.getD j 0) 0 2 = true → ∀ q, q < j + 1 → inB ((entA zs k).lights.getD q 0) 0 2 = true) := Lib.hid (fun h q hq => by
              by_cases e : q = j
              · subst e; exact h
              · exact HJ.out q (by omega))
            have HJF := Lib.hid (fun e => HE6.out (HLF.out j hjl e))
            clear hcell
            generalize (entA zs k).lights.getD j 0 = z at *
            cases g : inB z 0 2
            · have HV := Lib.hid (HJF.out g)
              have G := Lib.hid g
              clear g HJK HJF
              go_wp2_with (go_at_call 66; refine (spec_l1In _ _ _ _).mono ?_; rintro e w' ⟨rfl, rfl⟩; rw [G.out])
              go_ret
              exact ⟨by rw [HV.out]; rfl, HB4.out⟩
            · have HV := Lib.hid (HJK.out g)
              have G := Lib.hid g
              clear g HJK HJF
              go_wp2_with (go_at_call 66; refine (spec_l1In _ _ _ _).mono ?_; rintro e w' ⟨rfl, rfl⟩; rw [G.out])
              go_roundw
              case rel => exact ⟨j + 1, by omega, by go_num, HV.out, by first | trivial | rfl⟩
              case measure => simp [intOf]; omega
          · obtain rfl : j = m := by omega
            have HF := Lib.hid (HOK3.out (HLN.out HJ.out))
            go_wp2_with fail
            go_roundw
            case rel => exact ⟨k + 1, by omega, HRM.out, by go_num, HF.out, HB4.out⟩
            case measure => simp [intOf]; omega
      have d8 : decide ((0 : Int) < (k : Int)) = true := decide_eq_true (by omega)
      have d9 : decide (0 < k) = true := decide_eq_true (by omega)
      have d10 : (k : Int) > 0 := by omega
      obtain ⟨q, hqk⟩ := hpr g5
      obtain ⟨ad2, Ap, mp, cp, e, habp, hqp, -, -, -⟩ := H1.out.at (j := q) (by omega)
      injection e with e
      subst e
      have hcnp : (ad.add (q * 3)).block < wr.heap.size := by omega
      have hqqp := hqp.below HBL.out (by omega)
      have p0 := fun y : GW wr => (hqqp.below y.ok hcnp).c0
      have m1 : (0 : Int) ≤ (q : Int) := by omega
      have m2 : (q : Int) < (n : Int) := by omega
      have wq1 : IntKind.i64.wrap ((k : Int) - 1) = (q : Int) := by rw [IntKind.wrap_i64]; omega
      have wq2 : wrap64 ((k : Int) - 1) = (q : Int) := by rw [IntWalk.wrap64_in _ (by omega)]; omega
      have HK1 : Hid (entA zs (k - 1) = entA zs q) := Lib.hid (by rw [← hqk, Nat.add_sub_cancel])
      rw [HK1.out] at HOK2 HE5
      have HE5' := Lib.hid (HE5.out g5)
      clear hqk hqp hqqp hpr HK1
      by_cases g6 : (entA zs q).second < (entA zs k).second
      rotate_left
      · have HV := Lib.hid (HE5'.out g6)
        have d11 : decide ((entA zs k).second ≤ (entA zs q).second) = true := decide_eq_true (by omega)
        have d12 : (entA zs q).second ≥ (entA zs k).second := by omega
        clear g5 g6 HE1 HE2 HE3 HE4 HE5 HE5' HE6 HOK2 HLN HLF HRM
        go_wp2
        refine wp_region_grow (by kernel_rfl) (by kernel_rfl) ?_
        repeat (go_big_quiet_step (first | (go_at_call 80; first | with_reducible exact calls_gw _ (hse _))))
        refine wpQuiet_nil ?_
        intro x3
        have hb3 := x3.ok
        have z0 : ∀ y : GW x3.val, y.val.cell? (ad.add (k * 3)) = _ := fun y => y0 ⟨y.val, hb3.trans (y.ok.mono hb3.size)⟩
        have z1 : ∀ y : GW x3.val, y.val.cell? ⟨(ad.add (k * 3)).block, (ad.add (k * 3)).off + 1, none⟩ = _ := fun y => y1 ⟨y.val, hb3.trans (y.ok.mono hb3.size)⟩
        have z2 : ∀ y : GW x3.val, y.val.cell? ⟨(ad.add (k * 3)).block, (ad.add (k * 3)).off + 2, none⟩ = _ := fun y => y2 ⟨y.val, hb3.trans (y.ok.mono hb3.size)⟩
        have u1 : ∀ y : GW x3.val, y.val.cell? ⟨ad.block, ad.off + 1, none⟩ = _ := fun y => v1 ⟨y.val, hb3.trans (y.ok.mono hb3.size)⟩
        have zp : ∀ y : GW x3.val, y.val.cell? (ad.add (q * 3)) = _ := fun y => p0 ⟨y.val, hb3.trans (y.ok.mono hb3.size)⟩
        have zin := fun y : GW x3.val => hin ⟨y.val, hb3.trans (y.ok.mono hb3.size)⟩
        simp only at zin
        clear y0 y1 y2 v1 hse hin p0
        have HB3 := Lib.hid (HBL.out.trans (hb3.mono hsz))
        clear hb3
        generalize x3.val = w3 at *
        clear x3
        go_wp2
        refine wp_region_grow (by kernel_rfl) (by kernel_rfl) ?_
        repeat (go_big_quiet_step (first | (go_at_call 66; first | with_reducible exact calls_gw_same _ (zin _))))
        refine wpQuiet_nil ?_
        intro x4
        have hb4 := x4.ok
        have HB4 := Lib.hid (HB3.out.trans (hb4.mono HB3.out.size))

        generalize x4.val = w4 at *
        go_wp2
        go_ret
        exact ⟨by rw [HV.out]; rfl, HB4.out⟩
      have HOK3 : Hid (litsOk (entA zs k).lights = true → ∀ j, j < k + 1 → entOk zs j = true) := Lib.hid (fun c => HOK2.out (.inr g6) c)
      have d11 : decide ((entA zs k).second ≤ (entA zs q).second) = false := decide_eq_false (by omega)
      have d12 : ¬ (entA zs q).second ≥ (entA zs k).second := by omega
      clear g5 g6 HOK2 HE5'
      go_wp2
      refine wp_region_grow (by kernel_rfl) (by kernel_rfl) ?_
      repeat (go_big_quiet_step (first | (go_at_call 80; first | with_reducible exact calls_gw _ (hse _))))
      refine wpQuiet_nil ?_
      intro x3
      have hb3 := x3.ok
      have z0 : ∀ y : GW x3.val, y.val.cell? (ad.add (k * 3)) = _ := fun y => y0 ⟨y.val, hb3.trans (y.ok.mono hb3.size)⟩
      have z1 : ∀ y : GW x3.val, y.val.cell? ⟨(ad.add (k * 3)).block, (ad.add (k * 3)).off + 1, none⟩ = _ := fun y => y1 ⟨y.val, hb3.trans (y.ok.mono hb3.size)⟩
      have z2 : ∀ y : GW x3.val, y.val.cell? ⟨(ad.add (k * 3)).block, (ad.add (k * 3)).off + 2, none⟩ = _ := fun y => y2 ⟨y.val, hb3.trans (y.ok.mono hb3.size)⟩
      have u1 : ∀ y : GW x3.val, y.val.cell? ⟨ad.block, ad.off + 1, none⟩ = _ := fun y => v1 ⟨y.val, hb3.trans (y.ok.mono hb3.size)⟩
      have zp : ∀ y : GW x3.val, y.val.cell? (ad.add (q * 3)) = _ := fun y => p0 ⟨y.val, hb3.trans (y.ok.mono hb3.size)⟩
      have zin := fun y : GW x3.val => hin ⟨y.val, hb3.trans (y.ok.mono hb3.size)⟩
      simp only at zin
      clear y0 y1 y2 v1 hse hin p0
      have HB3 := Lib.hid (HBL.out.trans (hb3.mono hsz))
      have HB3R := Lib.hid hb3
      clear hb3
      generalize x3.val = w3 at *
      clear x3
      go_wp2
      refine wp_region_grow (by kernel_rfl) (by kernel_rfl) ?_
      repeat (go_big_quiet_step (first | (go_at_call 66; first | with_reducible exact calls_gw_same _ (zin _))))
      refine wpQuiet_nil ?_
      intro x4
      have hb4 := x4.ok
      have HB4 := Lib.hid (HB3.out.trans (hb4.mono HB3.out.size))

      have x1 : x4.val.cell? ⟨(ad.add (k * 3)).block, (ad.add (k * 3)).off + 1, none⟩ = some (.slice A' m c') := z1 ⟨x4.val, hb4⟩
      have X1 := Lib.hid x1
      clear z0 z1 z2 u1 zin x1 HE1 HE2 HE3 HE4 HE5 zp
      have HW4 := Lib.hid (HI.out.keep (w' := x4.val) (fun p hp => (HB3R.out.trans (hb4.mono HB3R.out.size)).cell (by omega)))
      clear hb4
      generalize x4.val = w4 at *
      clear x4
      have lt4 : (ad.add (k * 3)).block < w4.heap.size := by have := HB4.out.size; omega
      go_wp2_with fail
      go_loopw [5] (fun i wq => ∃ j : Nat, j ≤ m ∧ i = .int .i64 j ∧ (∀ q, q < j → inB ((entA zs k).lights.getD q 0) 0 2 = true) ∧ w4 = wq) (fun i _ => m - (intOf i).toNat)
      case atStart => exact ⟨0, Nat.zero_le _, rfl, fun j hj => absurd hj (by omega), rfl⟩
      case round =>
        obtain ⟨j, hj, rfl, hjo, rfl⟩ := hrel
        have HJ := Lib.hid hjo
        have x1 := X1.out
        clear hjo
        by_cases hjl : j < m
        · obtain ⟨ad3, rfl, hab3, hcell⟩ := HW4.out.2 (by omega)
          have hcj := hcell j hjl
          have j1 : (0 : Int) ≤ (j : Int) := by omega
          have j2 : (j : Int) < (m : Int) := by omega
          have HJK : Hid (inB ((entA zs k).lights.getD j 0) 0 2 = true → ∀ q, q < j + 1 → inB ((entA zs k).lights.getD q 0) 0 2 = true) := Lib.hid (fun h q hq => by
            by_cases e : q = j
            · subst e; exact h
            · exact HJ.out q (by omega))
          have HJF := Lib.hid (fun e => HE6.out (HLF.out j hjl e))
          clear hcell
          generalize (entA zs k).lights.getD j 0 = z at *
          cases g : inB z 0 2
          · have HV := Lib.hid (HJF.out g)
            have G := Lib.hid g
            clear g HJK HJF
            go_wp2_with (go_at_call 66; refine (spec_l1In _ _ _ _).mono ?_; rintro e w' ⟨rfl, rfl⟩; rw [G.out])
            go_ret
            exact ⟨by rw [HV.out]; rfl, HB4.out⟩
          · have HV := Lib.hid (HJK.out g)
            have G := Lib.hid g
            clear g HJK HJF
            go_wp2_with (go_at_call 66; refine (spec_l1In _ _ _ _).mono ?_; rintro e w' ⟨rfl, rfl⟩; rw [G.out])
            go_roundw
            case rel => exact ⟨j + 1, by omega, by go_num, HV.out, by first | trivial | rfl⟩
            case measure => simp [intOf]; omega
        · obtain rfl : j = m := by omega
          have HF := Lib.hid (HOK3.out (HLN.out HJ.out))
          go_wp2_with fail
          go_roundw
          case rel => exact ⟨k + 1, by omega, HRM.out, by go_num, HF.out, HB4.out⟩
          case measure => simp [intOf]; omega
    · obtain rfl : k = n := by omega
      have HR := Lib.hid (HEND.out HG.out)
      have i3 : decide ((k : Int) < (k : Int)) = false := decide_eq_false (by omega)
      go_wp2
      go_ret
      exact ⟨by rw [HR.out]; rfl, hbl⟩
end Go.Proofs.Ytblilnfkpfjclaa

/- Chapter 28: the model's witnesses: l28At, ShownAt, LightShown, CountChanges, GreenSince. -/
namespace Go.Proofs.Ytblilnfkpfjclaa
open Go.RowKit
set_option linter.unusedVariables false

theorem isRec_none {zs : List Ent} (h : isRec zs = false) : 0 < zs.length := by
  rcases zs with _ | ⟨z, zs⟩
  · cases h
  · simp
set_option maxHeartbeats 2000000 in
theorem spec_l28At (A : Option Addr) (n c B : Nat) (zs : List Ent) (s : Int) (w : World) (h : EntsAt w B A n zs) (hB : B ≤ w.heap.size) (hn : n ≤ 4294967296) (hm : ∀ j, j < n → (entA zs j).lights.length ≤ 1048576) :
    Calls Try.prog 116 #[.slice A n c, .int .i64 s] w fun e w' => e = .returned (.int .i64 (atE zs s)) ∧ Below w.heap.size w w' := by
  have hl := h.1
  have hcc := fun y (hy : Below w.heap.size w y) => spec_IsRecord A n c B zs y (h.below hB hy) (by have := hy.size; omega) hn hm
  cases hr : isRec zs
  · have HV := Lib.hid (atE_no (s := s) hr)
    have hpos : 0 < n := by have := isRec_none hr; omega
    have i1 : (0 : Int) < (n : Int) := by omega
    have i2 : decide ((0 : Int) < (n : Int)) = true := decide_eq_true i1
    rw [hr] at hcc
    have hc0 := hcc w (Below.refl _ _)
    clear hcc hr
    go_enter Try.func116, Try.ntmps116
    go_wp2_with fail
    go_loopw [5, 6] (fun v i wr => v = .int .i64 (-1) ∧ i = .int .i64 0 ∧ w = wr) (fun _ _ _ => 0)
    case atStart => exact ⟨rfl, rfl, rfl⟩
    case round =>
      obtain ⟨rfl, rfl, rfl⟩ := hrel
      go_wp2_with fail
      refine hc0.mono ?_
      rintro r w1 ⟨rfl, hb1⟩
      have HB1 := Lib.hid hb1
      clear hb1 hc0
      go_wp2_with fail
      go_ret
      exact ⟨by rw [HV.out]; try rfl, HB1.out⟩
  · have HV : Hid (atE zs s = atK zs s n) := Lib.hid (by rw [atE_yes hr, hl])
    rw [hr] at hcc
    have HCC := Lib.hid hcc
    have HE := Lib.hid h
    have hn60 : n ≤ 60 := by have := (isRec_parts hr).1; omega
    clear hcc hr h hm
    go_enter Try.func116, Try.ntmps116
    go_wp2_with fail
    go_loopw [5, 6] (fun v i wr => ∃ k : Nat, k ≤ n ∧ i = .int .i64 k ∧ v = .int .i64 (atK zs s k) ∧ Below w.heap.size w wr) (fun _ i _ => n - (intOf i).toNat)
    case atStart => exact ⟨0, Nat.zero_le _, rfl, rfl, Below.refl _ _⟩
    case round =>
      obtain ⟨k, hk, rfl, rfl, hbl⟩ := hrel
      have HB := Lib.hid hbl
      by_cases hlt : k < n
      · have hc0 := HCC.out _ hbl
        obtain ⟨ad, A', m, c', rfl, hab, hq, -, -, -⟩ := HE.out.at hlt
        have HQ := Lib.hid (fun y (hy : Below w.heap.size w y) => (hq.below hy (by omega)).c0)
        have i1 : (0 : Int) ≤ (k : Int) := by omega
        have i2 : (k : Int) < (n : Int) := by omega
        have i3 : decide ((k : Int) < (n : Int)) = true := decide_eq_true i2
        have HS : Hid (atK zs s (k + 1) = if (entA zs k).second ≤ s then (k : Int) else atK zs s k) := Lib.hid rfl
        clear hq hbl
        generalize (entA zs k).second = sc at *
        generalize atK zs s k = p at *
        by_cases hs : sc ≤ s
        · have HN : Hid (atK zs s (k + 1) = k) := Lib.hid (by rw [HS.out, if_pos hs])
          clear HS
          go_wp2_with fail
          refine hc0.mono ?_
          rintro r w1 ⟨rfl, hb1⟩
          have HB1 := Lib.hid (HB.out.trans (hb1.mono HB.out.size))
          have y0 := HQ.out _ HB1.out
          clear hb1 hc0
          go_wp2_with fail
          go_roundw
          case rel => exact ⟨k + 1, by omega, by go_num, by rw [HN.out], HB1.out⟩
          case measure => simp [intOf]; omega
        · have HN : Hid (atK zs s (k + 1) = p) := Lib.hid (by rw [HS.out, if_neg hs])
          clear HS
          go_wp2_with fail
          refine hc0.mono ?_
          rintro r w1 ⟨rfl, hb1⟩
          have HB1 := Lib.hid (HB.out.trans (hb1.mono HB.out.size))
          have y0 := HQ.out _ HB1.out
          clear hb1 hc0
          go_wp2_with fail
          go_roundw
          case rel => exact ⟨k + 1, by omega, by go_num, by rw [HN.out], HB1.out⟩
          case measure => simp [intOf]; omega
      · obtain rfl : k = n := by omega
        have i3 : decide ((k : Int) < (k : Int)) = false := decide_eq_false (by omega)
        go_wp2_with fail
        go_ret
        exact ⟨by rw [HV.out]; try rfl, hbl⟩
set_option maxHeartbeats 2000000 in
theorem spec_ShownAt (A : Option Addr) (n c B : Nat) (zs : List Ent) (s : Int) (w : World) (h : EntsAt w B A n zs) (hB : B ≤ w.heap.size) (hn : n ≤ 4294967296) (hm : ∀ j, j < n → (entA zs j).lights.length ≤ 1048576) :
    Calls Try.prog 56 #[.slice A n c, .int .i64 s] w fun e w' => ∃ v, e = .returned (.tuple #[v, .bool (shownA zs s).2]) ∧ Own .i64 3 w' w.heap.size v (shownA zs s).1 ∧ Below w.heap.size w w' := by
  have hl := h.1
  have hcc := spec_l28At A n c B zs s w h hB hn hm
  have HV : Hid (shownA zs s = if atE zs s < 0 then ([], false) else ((entA zs (atE zs s).toNat).lights, true)) := Lib.hid rfl
  obtain ⟨b1, b2⟩ := atE_bound zs s
  have HE := Lib.hid h
  generalize atE zs s = k at *
  generalize shownA zs s = q at *
  by_cases h0 : k < 0
  · rw [if_pos h0] at HV
    obtain rfl : q = ([], false) := HV.out
    clear h HE HV hm
    go_enter Try.func56, Try.ntmps56
    go_wp2_with fail
    refine hcc.mono ?_
    rintro r w1 ⟨rfl, hb1⟩
    have HB1 := Lib.hid hb1
    have HOW := Lib.hid (own_bare .i64 3 w1)
    clear hb1 hcc
    go_wp2_with fail
    go_ret2
    exact ⟨_, rfl, HOW.out.mono HB1.out.size, HB1.out.alloc HB1.out.size _⟩
  · rw [if_neg h0] at HV
    obtain ⟨j, rfl⟩ : ∃ j : Nat, k = j := ⟨k.toNat, by omega⟩
    obtain rfl : q = ((entA zs j).lights, true) := by rw [HV.out]; rfl
    obtain ⟨ad, A', m, c', rfl, hab, hq, hi, hmc, hnil⟩ := h.at (j := j) (by omega)
    have HQ := Lib.hid (fun y (hy : Below w.heap.size w y) => (hq.below hy (by omega)).c1)
    have HI := Lib.hid (fun y (hy : Below w.heap.size w y) => hi.keep (w' := y) (fun p hp => hy.cell (by omega)))
    have hlm := hi.1
    have hmj := hm j (by omega)
    have i1 : (0 : Int) ≤ (j : Int) := by omega
    have i2 : (j : Int) < (n : Int) := by omega
    clear h HE HV hm hq hi
    generalize (entA zs j).lights = ls at *
    go_enter Try.func56, Try.ntmps56
    go_wp2_with fail
    refine hcc.mono ?_
    rintro r w1 ⟨rfl, hb1⟩
    have HB1 := Lib.hid hb1
    have hbA := hb1.alloc hb1.size (.cells #[] 3)
    have y1 := HQ.out _ hb1
    have y2 := HQ.out _ hbA
    have HIA := HI.out _ hbA
    have HOW := own_bare .i64 3 w1
    have lta : (ad.add (j * 3)).block < w1.heap.size := by have := hb1.size; omega
    have hsz := hb1.size
    clear hb1 hcc
    go_wp2_with (at_builtin; refine wpList_app rfl _ _ 42 42 rfl .i64 3 3 8 Try.underlying42 Try.underlying42 info_i64 w1.heap.size _ [] rfl HOW A' m c' B ls rfl HIA hnil (by decide) (by simp; omega) (by simp) ?_; intro v1 wq hown1 hgrow1 hat1; have hb1 := HOW.push hsz hbA (by simp; omega) hgrow1; clear hgrow1 hat1)
    go_ret2
    rw [List.nil_append] at hown1
    exact ⟨_, rfl, hown1.mono hsz, hb1⟩
end Go.Proofs.Ytblilnfkpfjclaa

/- Chapter 37: OpenShare of the model. -/
namespace Go.Proofs.Ytblilnfkpfjclaa
open Go.RowKit
set_option linter.unusedVariables false

set_option maxHeartbeats 4000000 in
set_option maxRecDepth 100000 in
theorem spec_OpenShare (A : Option Addr) (n c B : Nat) (zs : List Ent) (i u : Int) (w : World) (h : EntsAt w B A n zs) (hB : B ≤ w.heap.size) (hn : n ≤ 4294967296) (hm : ∀ j, j < n → (entA zs j).lights.length ≤ 1048576) :
    Calls Try.prog 22 #[.slice A n c, .int .i64 i, .int .i64 u] w fun e w' => e = .returned (.int .i64 (openS zs i u)) ∧ Below w.heap.size w w' := by
  have hl := h.1
  have hcc := spec_IsRecord A n c B zs w h hB hn hm
  have HV : Hid (openS zs i u = if hasL (recZ zs) i && inB u ((entA (recZ zs) 0).second + 1) 1000000 then (100 * grnU (recZ zs) i u (recZ zs).length).tdiv (u - (entA (recZ zs) 0).second) else 0) := Lib.hid rfl
  cases hr : isRec zs
  · have HR : Hid (openS zs i u = 0) := Lib.hid (by rw [HV.out, recZ_no hr, hasL_nil]; rfl)
    rw [hr] at hcc
    clear hr HV h hm
    go_enter Try.func22, Try.ntmps22
    go_wp2_with fail
    refine hcc.mono ?_
    rintro r w1 ⟨rfl, hb1⟩
    have HB1 := Lib.hid hb1
    clear hb1 hcc
    go_wp2_with fail
    go_ret
    exact ⟨by rw [HR.out]; try rfl, HB1.out⟩
  rw [recZ_yes hr, hl] at HV
  rw [hr] at hcc
  rcases Nat.eq_zero_or_pos n with h0 | hpos
  · have HR : Hid (openS zs i u = 0) := Lib.hid (by rw [HV.out, List.eq_nil_of_length_eq_zero (by omega : zs.length = 0), hasL_nil]; rfl)
    have e0 : ((n : Int) == 0) = true := by rw [beq_iff_eq]; omega
    clear hr HV h hm h0
    go_enter Try.func22, Try.ntmps22
    go_wp2_with fail
    refine hcc.mono ?_
    rintro r w1 ⟨rfl, hb1⟩
    have HB1 := Lib.hid hb1
    clear hb1 hcc
    go_wp2_with fail
    go_ret
    exact ⟨by rw [HR.out]; try rfl, HB1.out⟩
  have e0 : ((n : Int) == 0) = false := by rw [beq_eq_false_iff_ne]; omega
  obtain ⟨ad, A3, m, d3, rfl, hab, hq, hi, -, -⟩ := h.at (j := 0) hpos
  have hz0 : ad.add (0 * 3) = ad := by simp [Addr.add]
  rw [hz0] at hab hq
  have hlm := hi.1
  have HOK := Lib.hid (isRec_parts hr).2
  have hsb := sec_bound (HOK.out 0 (by omega))
  have h12 := (entOk_parts (HOK.out 0 (by omega))).1.2.1
  have h60 : n ≤ 60 := by have := (isRec_parts hr).1; omega
  have HY0 := Lib.hid (fun y (hy : Below w.heap.size w y) => (hq.below hy (by omega)).c0)
  have HY1 := Lib.hid (fun y (hy : Below w.heap.size w y) => (hq.below hy (by omega)).c1)
  have HHL : Hid (hasL zs i = inB i 0 ((m : Int) - 1)) := Lib.hid (by unfold hasL; rw [hlm])
  have HLN := Lib.hid (rec_len (k := n) (fun j hj => HOK.out j (by omega)))
  have p1 : (0 : Int) < (n : Int) := by omega
  have wm1 : IntKind.i64.wrap ((m : Int) - 1) = (m : Int) - 1 := by rw [IntKind.wrap_i64]; omega
  obtain ⟨s1, s2⟩ := hsb
  have HS0 : Hid ((entA zs 0).second = (entA zs 0).second) := Lib.hid rfl
  have HEN := Lib.hid h
  rw [hlm] at h12
  clear hr h hm hq hi hz0
  obtain ⟨s0, hs0⟩ : ∃ s0, s0 = (entA zs 0).second := ⟨_, rfl⟩
  rw [← hs0] at HV HY0 s1 s2
  have HSE := Lib.hid hs0
  clear hs0 HS0
  go_enter Try.func22, Try.ntmps22
  go_wp2_with fail
  refine hcc.mono ?_
  rintro r w1 ⟨rfl, hb1⟩
  have HB1 := Lib.hid hb1
  have y0 := HY0.out _ hb1
  have y1 := HY1.out _ hb1
  clear hb1 hcc
  by_cases u1 : u > 1000000
  · have HR : Hid (openS zs i u = 0) := Lib.hid (by rw [HV.out, show inB u (s0 + 1) 1000000 = false by (cases e : inB u (s0 + 1) 1000000; rfl; have := inB_t e; omega)]; simp)
    have d1 : decide (1000000 < u) = true := decide_eq_true (by omega)
    clear HV
    go_wp2_with fail
    go_ret
    exact ⟨by rw [HR.out]; try rfl, HB1.out⟩
  have d1 : decide (1000000 < u) = false := decide_eq_false (by omega)
  by_cases u2 : u ≤ s0
  · have HR : Hid (openS zs i u = 0) := Lib.hid (by rw [HV.out, show inB u (s0 + 1) 1000000 = false by (cases e : inB u (s0 + 1) 1000000; rfl; have := inB_t e; omega)]; simp)
    have d2 : decide (u ≤ s0) = true := decide_eq_true (by omega)
    clear HV
    go_wp2_with fail
    go_ret
    exact ⟨by rw [HR.out]; try rfl, HB1.out⟩
  have d2 : decide (u ≤ s0) = false := decide_eq_false (by omega)
  have HIU : Hid (inB u (s0 + 1) 1000000 = true) := Lib.hid (by unfold inB; simp; omega)
  cases hh : inB i 0 ((m : Int) - 1)
  · have HR : Hid (openS zs i u = 0) := Lib.hid (by rw [HV.out, HHL.out, hh]; rfl)
    have HU := Lib.hid hh
    clear HV hh
    go_wp2_with (go_at_call 66; refine (spec_l1In _ _ _ _).mono ?_; rintro e w' ⟨rfl, rfl⟩; rw [HU.out])
    go_ret
    exact ⟨by rw [HR.out]; try rfl, HB1.out⟩
  have HR : Hid (openS zs i u = (100 * grnU zs i u n).tdiv (u - s0)) := Lib.hid (by rw [HV.out, HHL.out, hh, HIU.out]; rfl)
  have HU := Lib.hid hh
  have h2 := inB_t hh
  obtain ⟨j, rfl⟩ : ∃ j : Nat, i = j := ⟨i.toNat, by omega⟩
  have HLT : Hid (∀ k : Nat, litE zs j k = (entA zs k).lights.getD j 0) := Lib.hid (fun k => litE_yes (HHL.out.trans hh))
  have hjm : j < m := by omega
  clear HV hh h2 HIU
  go_wp2_with (go_at_call 66; refine (spec_l1In _ _ _ _).mono ?_; rintro e w' ⟨rfl, rfl⟩; rw [HU.out])
  clear y0 y1
  go_loopw [7, 8] (fun v x wr => ∃ k : Nat, k ≤ n ∧ x = .int .i64 k ∧ v = .int .i64 (grnU zs j u k) ∧ Below w.heap.size w wr) (fun _ x _ => n - (intOf x).toNat)
  case atStart => exact ⟨0, Nat.zero_le _, rfl, rfl, HB1.out⟩
  case round =>
    obtain ⟨k, hk, rfl, rfl, hbl⟩ := hrel
    have hbd := grnU_bound (zs := zs) (i := (j : Int)) (u := u) (by omega) HOK.out k (by omega)
    obtain ⟨g1, g2⟩ := hbd
    have HB := Lib.hid hbl
    by_cases hlt : k < n
    · obtain ⟨ad2, A4, m4, d4, e, hab4, hq4, hi4, -, -⟩ := HEN.out.at hlt
      injection e with e
      subst e
      have x0 := (hq4.below hbl (by omega)).c0
      have x1 := (hq4.below hbl (by omega)).c1
      have hl4 := hi4.1
      have hlk := HLN.out k hlt
      obtain ⟨a5, rfl, hab5, hc5⟩ := hi4.2 (by omega)
      have x2 := (hbl.cell (p := a5.add j) (by rw [add_block]; omega)).trans (hc5 j (by omega))
      have heb := endK_bound (k := k) (zs := zs) (u := u) (by omega) HOK.out
      have hsk := sec_bound (HOK.out k (by omega))
      have i1 : (0 : Int) ≤ (k : Int) := by omega
      have i2 : (k : Int) < (n : Int) := by omega
      have j1 : (0 : Int) ≤ (j : Int) := by omega
      have j2 : (j : Int) < (m4 : Int) := by omega
      have HLK := Lib.hid (HLT.out k)
      have HST : Hid (grnU zs j u (k + 1) = if litE zs j k = 1 then grnU zs j u k + maxI 0 (endK zs u k - (entA zs k).second) else grnU zs j u k) := Lib.hid (grnU_succ _ _ _ _)
      rw [HLK.out] at HST
      have hx0w := x0
      have hx1w := x1
      have hx2w := x2
      have HX : Hid (wr.cell? (ad.add (k * 3)) = some (.int .i64 (entA zs k).second) ∧ wr.cell? ⟨(ad.add (k * 3)).block, (ad.add (k * 3)).off + 1, none⟩ = some (.slice (some a5) m4 d4) ∧ wr.cell? (a5.add j) = some (.int .i64 ((entA zs k).lights.getD j 0))) := Lib.hid ⟨x0, x1, x2⟩
      clear hq4 hi4 hc5 hbl hl4 hlk hx0w hx1w hx2w
      generalize grnU zs j u k = q at *
      generalize (entA zs k).lights.getD j 0 = z at *
      generalize (entA zs k).second = sk at *
      by_cases h1 : k + 1 < n
      · obtain ⟨ad3, A6, m6, d6, e, hab6, hq6, -, -, -⟩ := HEN.out.at (j := k + 1) h1
        injection e with e
        subst e
        have HEV : Hid (endK zs u k = minI u (entA zs (k + 1)).second) := Lib.hid (by unfold endK; rw [if_pos (by omega)])
        rw [HEV.out] at heb HST
        have x3 := (hq6.below HB.out (by omega)).c0
        have k3 : (k : Int) + 1 < (n : Int) := by omega
        clear hq6
        generalize (entA zs (k + 1)).second = s3 at *
        have hmn := fun y => spec_Min u s3 y
        generalize minI u s3 = ev at *
        go_wp2_with fail
        refine (hmn _).mono ?_
        rintro r w2 ⟨rfl, rfl⟩
        clear hmn x3
        by_cases h5 : z = 1
        · have HN : Hid (grnU zs j u (k + 1) = q + maxI 0 (ev - sk)) := Lib.hid (by rw [HST.out, if_pos h5])
          have e1 : (z == 1) = true := by rw [beq_iff_eq]; exact h5
          have HMX := Lib.hid (fun y => spec_Max 0 (ev - sk) y)
          have hmxb : 0 ≤ maxI 0 (ev - sk) ∧ maxI 0 (ev - sk) ≤ 1000000 := by unfold maxI; split <;> omega
          generalize maxI 0 (ev - sk) = mx at *
          clear h5 HST
          go_wp2_with fail
          refine (HMX.out _).mono ?_
          rintro r w3 ⟨rfl, rfl⟩
          go_wp2_with fail
          go_roundw
          case rel => exact ⟨k + 1, by omega, by go_num, by rw [HN.out], HB.out⟩
          case measure => simp [intOf]; omega
        · have HN : Hid (grnU zs j u (k + 1) = q) := Lib.hid (by rw [HST.out, if_neg h5])
          have e1 : (z == 1) = false := by rw [beq_eq_false_iff_ne]; exact h5
          clear h5 HST
          go_wp2_with fail
          go_roundw
          case rel => exact ⟨k + 1, by omega, by go_num, by rw [HN.out], HB.out⟩
          case measure => simp [intOf]; omega
      · have HEV : Hid (endK zs u k = u) := Lib.hid (by unfold endK; rw [if_neg (by omega)])
        rw [HEV.out] at heb HST
        have k3 : ¬ (k : Int) + 1 < (n : Int) := by omega
        by_cases h5 : z = 1
        · have HN : Hid (grnU zs j u (k + 1) = q + maxI 0 (u - sk)) := Lib.hid (by rw [HST.out, if_pos h5])
          have e1 : (z == 1) = true := by rw [beq_iff_eq]; exact h5
          have HMX := Lib.hid (fun y => spec_Max 0 (u - sk) y)
          have hmxb : 0 ≤ maxI 0 (u - sk) ∧ maxI 0 (u - sk) ≤ 1000000 := by unfold maxI; split <;> omega
          generalize maxI 0 (u - sk) = mx at *
          clear h5 HST
          go_wp2_with fail
          refine (HMX.out _).mono ?_
          rintro r w3 ⟨rfl, rfl⟩
          go_wp2_with fail
          go_roundw
          case rel => exact ⟨k + 1, by omega, by go_num, by rw [HN.out], HB.out⟩
          case measure => simp [intOf]; omega
        · have HN : Hid (grnU zs j u (k + 1) = q) := Lib.hid (by rw [HST.out, if_neg h5])
          have e1 : (z == 1) = false := by rw [beq_eq_false_iff_ne]; exact h5
          clear h5 HST
          go_wp2_with fail
          go_roundw
          case rel => exact ⟨k + 1, by omega, by go_num, by rw [HN.out], HB.out⟩
          case measure => simp [intOf]; omega
    · obtain rfl : k = n := by omega
      have x0 := HY0.out _ hbl
      have hqw := quo_wrap (a := 100 * grnU zs j u k) (b := u - s0) (by omega) (by omega)
      have hne : (u - s0 == 0) = false := by rw [beq_eq_false_iff_ne]; omega
      have hne2 : u - s0 ≠ 0 := by omega
      have hg3 : grnU zs j u k ≤ 60000000 := by omega
      generalize grnU zs j u k = q at *
      go_wp2_with fail
      go_ret
      exact ⟨by rw [HR.out]; try rfl, HB.out⟩
end Go.Proofs.Ytblilnfkpfjclaa

/- OpenShare as exact laws meet them. -/
namespace Go.Proofs.Ytblilnfkpfjclaa
open Go.RowKit
set_option linter.unusedVariables false

theorem sp_OpenShare (A0 : Option Addr) (n0 c0 : Nat) (zs0 : List Ent) (a1 : Int) (a2 : Int) (w : World) (h0 : SlEnt w A0 n0 c0 zs0) (hs0 : SmallEnt zs0) (wa1 : (Lit.int .i64 a1).wf = true) (wa2 : (Lit.int .i64 a2).wf = true) (r : Int) (hr : openS zs0 a1 a2 = r) :
    Calls Try.prog 22 #[.slice A0 n0 c0, .int .i64 a1, .int .i64 a2] w fun e w' => e = .returned (.int .i64 r) ∧ Below w.heap.size w w' := by
  subst hr
  have hq0 := h0.pths.1
  have hz0 := hs0.1
  exact spec_OpenShare A0 n0 c0 _ zs0 a1 a2 w h0.pths (Nat.le_refl _) (by omega) (fun j hj => hs0.2 j (by omega))
theorem im_OpenShare (A0 : Option Addr) (n0 c0 : Nat) (zs0 : List Ent) (a1 : Int) (a2 : Int) (w : World) (h0 : SlEnt w A0 n0 c0 zs0) (hs0 : SmallEnt zs0) (wa1 : (Lit.int .i64 a1).wf = true) (wa2 : (Lit.int .i64 a2).wf = true) (r : Int) (hr : openS zs0 a1 a2 = r) :
    Calls Try.prog 24 #[.slice A0 n0 c0, .int .i64 a1, .int .i64 a2] w fun e w' => e = .returned (.int .i64 r) ∧ Below w.heap.size w w' := by
  subst hr
  have hq0 := h0.pths.1
  have hz0 := hs0.1
  exact impl_OpenShare A0 n0 c0 _ zs0 a1 a2 w h0.pths (Nat.le_refl _) (by omega) (fun j hj => hs0.2 j (by omega))
end Go.Proofs.Ytblilnfkpfjclaa

/- One step for every law of a seat: out of a walk that ends in 'true' and leaves all that was there as it was, the lifted statement of its row. -/
namespace Go.Proofs.Ytblilnfkpfjclaa
open Go.ChangeShapes Go.WideShapes Go.ChangeAt Go.RowKit

theorem knobless : ownKnob Try.prog.godebug = none := by kernel_rfl
theorem laidOutAll : laidOutB Try.prog = true := by kernel_rfl

section
variable {H : Type} {enc : TypeId × Value → H} {P : Program}

theorem trodAll_stays (hl : laidOutB P = true) {W W' : World} (hb : Below W.heap.size W W') :
    ∀ (ts : List TypeId) (vs : List Value) (ds : List (DataW H)) (ps : List MemPlace), (ts.all fun t => P.readableRec t && decide (t < P.types.size)) = true →
      DataW.TrodAll enc P W 0 (fun _ => true) true ts vs ds ps → (∀ x ∈ ps, x.block < W.heap.size) → DataW.TrodAll enc P W' 0 (fun b => decide (b < W.heap.size)) true ts vs ds ps
  | [], [], [], _, _, h, _ => h
  | [], _ :: _, _, _, _, h, _ => by simp [DataW.TrodAll] at h
  | [], [], _ :: _, _, _, h, _ => by simp [DataW.TrodAll] at h
  | _ :: _, [], _, _, _, h, _ => by simp [DataW.TrodAll] at h
  | _ :: _, _ :: _, [], _, _, h, _ => by simp [DataW.TrodAll] at h
  | t :: ts, v :: vs, d :: ds, ps, hr, h, hlt => by
    obtain ⟨p, q, h1, h2, rfl⟩ := h
    simp only [List.all_cons, Bool.and_eq_true, decide_eq_true_eq] at hr
    exact ⟨p, q, Below.trod hl hr.1.1 hr.1.2 h1 hb (fun x hx => hlt x (List.mem_append_left _ hx)),
      trodAll_stays hl hb ts vs ds q (by simpa using hr.2) h2 (fun x hx => hlt x (List.mem_append_right _ hx)), rfl⟩

theorem trodAll_length {W : World} {base : Nat} {sp : Nat → Bool} {hd : Bool} :
    ∀ (ts : List TypeId) (vs : List Value) (ds : List (DataW H)) (ps : List MemPlace), DataW.TrodAll enc P W base sp hd ts vs ds ps → ds.length = ts.length
  | [], [], [], _, _ => rfl
  | [], _ :: _, _, _, h => by simp [DataW.TrodAll] at h
  | [], [], _ :: _, _, h => by simp [DataW.TrodAll] at h
  | _ :: _, [], _, _, h => by simp [DataW.TrodAll] at h
  | _ :: _, _ :: _, [], _, h => by simp [DataW.TrodAll] at h
  | _ :: ts, _ :: vs, _ :: ds, ps, h => by
    obtain ⟨_, q, _, h2, _⟩ := h
    simp [trodAll_length ts vs ds q h2]

/-- A slice of integers that came in. -/
theorem arg_ints {t e : TypeId} {k : IntKind} {W : World} {base : Nat} {v : Value} {d : DataW H} {ps : List MemPlace} (ht : P.underlying t = some (.slice e)) (he : P.underlying e = some (.int k)) (hc : P.cellsOf e = 1)
    (hval : Value.okWide P W .any base t v) (hd : DataW.Trod enc P W 0 (fun _ => true) true t v d ps) (hlt : ∀ x ∈ ps, x.block < W.heap.size) :
    ∃ (A : Option Addr) (n c : Nat) (zs : List Int), v = .slice A n c ∧ (IntsAt k W W.heap.size A n zs ∧ (∀ z ∈ zs, (Lit.int k z).wf = true) ∧ n ≤ c ∧ c ≤ maxLen) := by
  obtain ⟨a, len, cap, rfl⟩ := okWide_slice ht hval
  obtain ⟨fuel, hf⟩ := hd
  rcases open_ints ht he hc hf with ⟨h1, _⟩ | ⟨a', len', cap', zs, h1, _, hl, hm, hzl, hx, hcell, hwf⟩
  · have h1' : [Value.slice a len cap] = [Value.slice none 0 0] := h1
    simp only [List.cons.injEq, and_true] at h1'
    exact ⟨none, 0, 0, [], h1', ⟨rfl, fun h => absurd h (by omega)⟩, by simp, Nat.le_refl _, Nat.zero_le _⟩
  · have h1' : [Value.slice a len cap] = [Value.slice (some a') len' cap'] := h1
    simp only [List.cons.injEq, and_true] at h1'
    rw [if_pos rfl] at hzl
    refine ⟨some a', len', cap', zs.take len', h1', ⟨by simp; omega, fun hn => ⟨a', rfl, ?_, fun j hj => ?_⟩⟩, fun z hz => hwf z (List.mem_of_mem_take hz), hl, hm⟩
    · have hmem : MemPlace.cell a'.block (a'.off + 0) ∈ ps := by
        have e := congrArg Prod.snd hx
        simp only at e
        rw [e]
        exact List.mem_map.2 ⟨0, List.mem_range.2 (by omega), rfl⟩
      exact hlt _ hmem
    · rw [hcell j (by omega)]
      simp [List.getD_eq_getElem?_getD, hj]
theorem u8_of_wf {n : Int} (h : (Lit.int .u8 n).wf = true) : 0 ≤ n ∧ n ≤ 255 := by
  have h' : (decide (IntKind.u8.min ≤ n) && decide (n ≤ IntKind.u8.max)) = true := h
  simp only [Bool.and_eq_true, decide_eq_true_eq] at h'
  exact h'

/-- What the row asks of a law: its answer is true, its arguments read as they did. -/
theorem post_law {f : Func} {s : ChangeSpec} {tb : TypeId} {W W' : World} {args : Array Value} {ds gs : List (DataW H)} {before : List MemPlace}
    (hv : s.vars = []) (hf : f.resultTypes = #[tb]) (ub : P.underlying tb = some .bool) (hl : laidOutB P = true)
    (hr : (f.params.toList.all fun t => P.readableRec t && decide (t < P.types.size)) = true)
    (hW : DataW.Whole enc P f.params.toList s.vars false W args.toList ds gs before)
    (hs : s.fn H (ds ++ gs) = { results := [.lit (.bool true)], args := ds }) (hb : Below W.heap.size W W') :
    s.post enc P f false true false false W args (.bool true) W' := by
  have hW0 := hW
  obtain ⟨p, q, hA, hV, rfl, hz, hn⟩ := hW
  rw [hv] at hV
  have hgs : gs = [] ∧ q = [] := by
    cases gs with
    | nil => exact ⟨rfl, hV⟩
    | cons g r => exact absurd hV (by intro h; cases h)
  obtain ⟨rfl, rfl⟩ := hgs
  have hlt : ∀ x ∈ p ++ [], x.block < W.heap.size := fun x hx => hW0.lt x hx
  refine ⟨ds, [], _, [], p, [], hW0, ?_, ?_, ?_, hb.frame _, fun h => by cases h⟩
  · rw [hs, hf]
    exact trodAll_mk1 (shut_bool ub true)
  · rw [hs]
    exact trodAll_stays hl hb _ _ _ _ hr hA (fun x hx => hlt x (by simpa using hx))
  · rw [hs, hv]
    rfl
end

/-- The law's row, lifted, out of its walk. -/
theorem law_lifted {H : Type} {enc : TypeId × Value → H} {C : Checked} {os : Os} {k : FuncId} {fn : Func} {s : ChangeSpec} {tb : TypeId}
    (own : ownKnob C.prog.godebug = none) (started : os.Started) (noInit : C.prog.inits.idxOf? k = none) (hfn : C.prog.funcs[k]? = some fn)
    (witness : ∃ (w : World) (tape : Tape) (i : Input), w.os = os ∧ (w.forCall tape i).Shaped C.prog ∧ i.vars = [] ∧ Input.okWide C.prog (w.forCall tape i) .any w.heap.size k i ∧
      s.pre6 enc C.prog fn [] false (w.forCall tape i).memory i.args ∧ Assume.holds {} C.prog (lone (Frame.enter C.prog k i.args .normal) [] (w.forCall tape i)))
    (hv : s.vars = []) (hf : fn.resultTypes = #[tb]) (ub : C.prog.underlying tb = some .bool) (hl : laidOutB C.prog = true)
    (hr : (fn.params.toList.all fun t => C.prog.readableRec t && decide (t < C.prog.types.size)) = true)
    (hs : ∀ ds : List (DataW H), ds.length = fn.params.size → s.fn H ds = { results := [.lit (.bool true)], args := ds })
    (walk : ∀ (W : World) (base : Nat) (args : Array Value) (ds : List (DataW H)) (ps : List MemPlace),
      (∀ (j : Nat) t v, fn.params[j]? = some t → args[j]? = some v → Value.okWide C.prog W .any base t v) →
      DataW.TrodAll enc C.prog W 0 (fun _ => true) true fn.params.toList args.toList ds ps → (∀ x ∈ ps, x.block < W.heap.size) → W.noneFrozen ps →
      Calls C.prog k args W fun e W' => e = .returned (.bool true) ∧ Below W.heap.size W W') :
    ReturnsInHanded {} C os k .any (s.pre6 enc C.prog fn [] false) (s.post enc C.prog fn false true false false) := by
  refine returnsInHanded_of_change (C := C) own started noInit hfn witness ?_
  intro W base args ds gs before hval hW _ _
  have hW0 := hW
  obtain ⟨p, q, hA, hV, rfl, hz, _⟩ := hW
  have hgs : gs = [] ∧ q = [] := by
    rw [hv] at hV
    cases gs with
    | nil => exact ⟨rfl, hV⟩
    | cons g r => exact absurd hV (by intro h; cases h)
  obtain ⟨rfl, rfl⟩ := hgs
  have hlt : ∀ x ∈ p, x.block < W.heap.size := fun x hx => hW0.lt x (by simpa using hx)
  refine (walk W base args ds p hval hA hlt (by simpa using hz)).mono fun e W' ⟨he, hb⟩ => ?_
  subst he
  exact ⟨_, rfl, post_law hv hf ub hl hr hW0 (by rw [List.append_nil]; exact hs ds (by rw [trodAll_length _ _ _ _ hA]; simp)) hb⟩

end Go.Proofs.Ytblilnfkpfjclaa

/- A law's arguments that are paths or rows of paths. -/
namespace Go.Proofs.Ytblilnfkpfjclaa
open Go.ChangeShapes Go.WideShapes Go.ChangeAt Go.RowKit Go.Joins
open Go.Deep (oneCellFields open_slice hone_of)

section
variable {H : Type} {enc : TypeId × Value → H} {P : Program}
theorem cell_int {W : World} {b0 : Nat} {sp : Nat → Bool} {hd : Bool} {n : Nat} {t : TypeId} {v : Value} {y : DataW H × List MemPlace} (ht : P.underlying t = some (.int .i64)) (h : DataW.trod enc P W b0 sp hd n t [v] = some y) : ∃ a : Int, v = .int .i64 a ∧ (Lit.int .i64 a).wf = true ∧ y.2 = [] := by
  obtain ⟨a, h1, h2, h3⟩ := DataW.trod_int ht h
  simp at h1
  exact ⟨a, h1, h3, by rw [h2]⟩
theorem arg_path {t : TypeId} {f0 f1 f2 f3 : Field} {W : World} {base : Nat} {v : Value} {d : DataW H} {ps : List MemPlace} (hs : P.underlying t = some (.struct #[f0, f1, f2, f3])) (hone : oneCellFields P #[f0, f1, f2, f3] = true) (hC : P.cellsOf t = 4)
    (h0 : P.underlying f0.type = some (.int .i64)) (h1 : P.underlying f1.type = some (.int .i64)) (h2 : P.underlying f2.type = some (.int .i64)) (h3 : P.underlying f3.type = some (.int .i64))
    (hval : Value.okWide P W .any base t v) (hd : DataW.Trod enc P W 0 (fun _ => true) true t v d ps) : ∃ p : Pth, v = p.val ∧ p.wf := by
  obtain ⟨v0, v1, v2, v3, y0, y1, y2, y3, n, rfl, -, -, t0, t1, t2, t3⟩ := open_agg4 hs hone hC hval hd
  obtain ⟨a, rfl, wa, -⟩ := cell_int h0 t0
  obtain ⟨b, rfl, wb, -⟩ := cell_int h1 t1
  obtain ⟨c, rfl, wc, -⟩ := cell_int h2 t2
  obtain ⟨e, rfl, we, -⟩ := cell_int h3 t3
  exact ⟨⟨a, b, c, e⟩, rfl, wa, wb, wc, we⟩
/-- the elements' fields of a slice of structs. -/
theorem open_slice_fields {w : World} {base : Nat} {spare : Nat → Bool} {held : Bool} {t e : TypeId} {fs : Array Field} {fuel : Nat} {cs : List Value} {x : DataW H × List MemPlace} (ht : P.underlying t = some (.slice e)) (he : P.underlying e = some (.struct fs))
    (hone : oneCellFields P fs = true) (hC : P.cellsOf e = fs.size) (h : DataW.trod enc P w base spare held fuel t cs = some x) :
    (cs = [.slice none 0 0] ∧ x = (.nil, [])) ∨
    ∃ (a : Addr) (len cap m : Nat) (D : Nat → DataW H) (Pl : Nat → List MemPlace), cs = [.slice (some a) len cap] ∧ base ≤ a.block ∧ len ≤ cap ∧ cap ≤ maxLen ∧ m = (if spare a.block then cap else len) ∧
      x = (.slice ((List.range len).map D) ((List.range (m - len)).map fun j => D (len + j)), MemPlace.row a (m * fs.size) ++ (List.range m).flatMap Pl) ∧
      ∀ i, i < m → ∃ (ys : List (DataW H × List MemPlace)) (n : Nat), D i = .agg (ys.map (·.1)) ∧ Pl i = ys.flatMap (·.2) ∧ ys.length = fs.size ∧
        ∀ (j : Nat) (f : Field), fs[j]? = some f → ∃ (v : Value) (y : DataW H × List MemPlace), w.cell? (a.add (i * fs.size + j)) = some v ∧ ys[j]? = some y ∧ DataW.trod enc P w base spare held n f.type [v] = some y := by
  rcases open_slice ht h with h0 | ⟨a, len, cap, m, n, D, Pl, hcs, hb, hl, hm, hmm, hx, hi⟩
  · exact .inl h0
  · refine .inr ⟨a, len, cap, m, D, Pl, hcs, hb, hl, hm, hmm, by rw [hC] at hx; exact hx, fun i him => ?_⟩
    obtain ⟨cs', hc, ht'⟩ := hi i him
    rw [hC] at hc
    obtain ⟨ys, n', hn', hy, hlen, hyl, hf⟩ := DataW.trod_struct he ht'
    obtain ⟨_, hcl, hat⟩ := World.cells?_some hc
    simp only [Prod.mk.injEq] at hy
    refine ⟨ys, n', hy.1, hy.2, hyl, fun j f hj => ?_⟩
    obtain ⟨ho, hk⟩ := hone_of hone j f hj
    have hjl : j < fs.size := (Array.getElem?_eq_some_iff.1 hj).1
    have hcell := hat j hjl
    have hv : cs'[j]? = some (cs'[j]'(by omega)) := List.getElem?_eq_getElem (by omega)
    have h1 := hf j f hj
    rw [ho, hk] at h1
    have hone' : (cs'.drop j).take 1 = [cs'[j]'(by omega)] := by
      rw [List.drop_eq_getElem_cons (by omega)]
      rfl
    rw [hone'] at h1
    have hys : ys[j]? = some (ys[j]'(by omega)) := List.getElem?_eq_getElem (by omega)
    refine ⟨_, _, ?_, hys, h1.trans hys⟩
    rw [← Go.Deep.add_add, hcell, hv]
theorem choose_upto {α : Type} {n : Nat} {R : Nat → α → Prop} (h : ∀ i, i < n → ∃ x, R i x) : ∃ l : List α, l.length = n ∧ ∀ (i : Nat) x, l[i]? = some x → R i x := by
  induction n with
  | zero => exact ⟨[], rfl, fun i x hi => by simp at hi⟩
  | succ n ih =>
    obtain ⟨l, hl, hR⟩ := ih fun i hi => h i (by omega)
    obtain ⟨x, hx⟩ := h n (by omega)
    refine ⟨l ++ [x], by simp [hl], fun i y hy => ?_⟩
    rw [List.getElem?_append] at hy
    split at hy
    · exact hR i y hy
    · rename_i hge
      have hi : i = n := by
        have := (List.getElem?_eq_some_iff.1 hy).1
        simp at this
        omega
      subst hi
      simp [hl] at hy
      subst hy
      exact hx
/-- A slice of paths that came in. -/
theorem arg_paths {t e : TypeId} {f0 f1 f2 f3 : Field} {W : World} {base : Nat} {v : Value} {d : DataW H} {ps : List MemPlace} (ht : P.underlying t = some (.slice e)) (he : P.underlying e = some (.struct #[f0, f1, f2, f3])) (hone : oneCellFields P #[f0, f1, f2, f3] = true) (hC : P.cellsOf e = 4)
    (h0 : P.underlying f0.type = some (.int .i64)) (h1 : P.underlying f1.type = some (.int .i64)) (h2 : P.underlying f2.type = some (.int .i64)) (h3 : P.underlying f3.type = some (.int .i64))
    (hval : Value.okWide P W .any base t v) (hd : DataW.Trod enc P W 0 (fun _ => true) true t v d ps) (hlt : ∀ x ∈ ps, x.block < W.heap.size) :
    ∃ (A : Option Addr) (n c : Nat) (zs : List Pth), v = .slice A n c ∧ (PthsAt W W.heap.size A n zs ∧ (∀ z ∈ zs, z.wf) ∧ n ≤ c ∧ c ≤ maxLen) := by
  obtain ⟨a, len, cap, rfl⟩ := okWide_slice ht hval
  obtain ⟨fuel, hf⟩ := hd
  rcases open_slice_fields ht he hone (by rw [hC]; rfl) hf with ⟨h1, _⟩ | ⟨a', len', cap', m, D, Pl, hcs, _, hl, hm, hmm, hx, hi⟩
  · have h1' : [Value.slice a len cap] = [Value.slice none 0 0] := h1
    simp only [List.cons.injEq, and_true] at h1'
    exact ⟨none, 0, 0, [], h1', ⟨rfl, rfl, fun h => absurd h (by omega)⟩, by simp, Nat.le_refl _, Nat.zero_le _⟩
  · have h1' : [Value.slice a len cap] = [Value.slice (some a') len' cap'] := hcs
    simp only [List.cons.injEq, and_true] at h1'
    rw [if_pos rfl] at hmm
    subst hmm
    obtain ⟨zs, hzl, hz⟩ := choose_upto (n := len') (R := fun i (p : Pth) => p.wf ∧ ∀ (j : Nat) u, p.cells[j]? = some u → W.cell? (a'.add (i * 4 + j)) = some u) (fun i hil => by
      obtain ⟨ys, n, _, _, _, hj⟩ := hi i (by omega)
      obtain ⟨v0, y0, c0, _, t0⟩ := hj 0 f0 rfl
      obtain ⟨v1, y1, c1, _, t1⟩ := hj 1 f1 rfl
      obtain ⟨v2, y2, c2, _, t2⟩ := hj 2 f2 rfl
      obtain ⟨v3, y3, c3, _, t3⟩ := hj 3 f3 rfl
      obtain ⟨x0, rfl, w0, -⟩ := cell_int h0 t0
      obtain ⟨x1, rfl, w1, -⟩ := cell_int h1 t1
      obtain ⟨x2, rfl, w2, -⟩ := cell_int h2 t2
      obtain ⟨x3, rfl, w3, -⟩ := cell_int h3 t3
      refine ⟨⟨x0, x1, x2, x3⟩, ⟨w0, w1, w2, w3⟩, fun j u hu => ?_⟩
      match j, hu with
      | 0, hu => simp [Pth.cells] at hu; subst hu; exact c0
      | 1, hu => simp [Pth.cells] at hu; subst hu; exact c1
      | 2, hu => simp [Pth.cells] at hu; subst hu; exact c2
      | 3, hu => simp [Pth.cells] at hu; subst hu; exact c3
      | j + 4, hu => simp [Pth.cells] at hu)
    refine ⟨some a', len', m, zs, h1', ⟨hzl, by rw [pcells_length, hzl], fun hn => ⟨a', rfl, ?_, fun j u hu => ?_⟩⟩, fun z hzm => ?_, hl, hm⟩
    · have hmem : MemPlace.cell a'.block (a'.off + 0) ∈ ps := by
        have e := congrArg Prod.snd hx
        simp only at e
        rw [e]
        exact List.mem_append_left _ (List.mem_map.2 ⟨0, List.mem_range.2 (by simp; omega), rfl⟩)
      exact hlt _ hmem
    · have hlen : j < zs.length * 4 := by
        have := (List.getElem?_eq_some_iff.1 hu).1
        rwa [pcells_length] at this
      have hd4 : j / 4 < zs.length := by omega
      have hp : zs[j / 4]? = some zs[j / 4] := List.getElem?_eq_getElem hd4
      have hg := flat_get (s := 4) (f := Pth.cells) (fun _ => rfl) zs (j / 4) (j % 4) _ hp (by omega)
      have ej : j / 4 * 4 + j % 4 = j := by clear hi hz hx; omega
      rw [ej] at hg
      have := (hz _ _ hp).2 (j % 4) u (hg.symm.trans hu)
      rwa [ej] at this
    · obtain ⟨i, hil, rfl⟩ := List.getElem_of_mem hzm
      exact (hz i _ (List.getElem?_eq_getElem hil)).1
end
end Go.Proofs.Ytblilnfkpfjclaa

/- A law's arguments that are rows of Entry (written by genrow.py). -/
namespace Go.Proofs.Ytblilnfkpfjclaa
open Go.ChangeShapes Go.WideShapes Go.ChangeAt Go.RowKit Go.Joins
open Go.Deep (oneCellFields open_slice hone_of)
set_option linter.unusedVariables false

section
variable {H : Type} {enc : TypeId × Value → H} {P : Program}
theorem arg_ent {t i : TypeId} {f0 f1 f2 : Field} {W : World} {base : Nat} {v : Value} {d : DataW H} {ps : List MemPlace} (hs : P.underlying t = some (.struct #[f0, f1, f2])) (hone : oneCellFields P #[f0, f1, f2] = true) (hC : P.cellsOf t = 3)
    (h0 : P.underlying f0.type = some (.int .i64)) (h1 : P.underlying f1.type = some (.slice i)) (hi : P.underlying i = some (.int .i64)) (hci : P.cellsOf i = 1) (h2 : P.underlying f2.type = some (.int .i64))
    (hval : Value.okWide P W .any base t v) (hd : DataW.Trod enc P W 0 (fun _ => true) true t v d ps) (hlt : ∀ x ∈ ps, x.block < W.heap.size) :
    ∃ (A : Option Addr) (n c : Nat) (zs : List Int) (x0 x2 : Int), v = .agg #[.int .i64 x0, .slice A n c, .int .i64 x2] ∧ (IntsAt .i64 W W.heap.size A n zs ∧ (∀ z ∈ zs, (Lit.int .i64 z).wf = true) ∧ n ≤ c ∧ c ≤ maxLen) ∧ (Lit.int .i64 x0).wf = true ∧ (Lit.int .i64 x2).wf = true := by
  obtain ⟨v0, v1, v2, y0, y1, y2, n, rfl, -, hps, t0, t1, t2⟩ := open_agg3 hs hone hC hval hd
  obtain ⟨x0, rfl, w0, -⟩ := cell_int h0 t0
  obtain ⟨x2, rfl, w2, -⟩ := cell_int h2 t2
  rcases open_ints h1 hi hci t1 with ⟨h2, _⟩ | ⟨b, l2, cp2, zs, h2, _, hl2, hm2, hzl2, hx2, hc2, hwf2⟩
  · simp only [List.cons.injEq, and_true] at h2
    subst h2
    exact ⟨none, 0, 0, [], _, _, rfl, ⟨⟨rfl, fun h => absurd h (by omega)⟩, by simp, Nat.le_refl _, Nat.zero_le _⟩, w0, w2⟩
  · simp only [List.cons.injEq, and_true] at h2
    subst h2
    rw [if_pos rfl] at hzl2
    refine ⟨some b, l2, cp2, zs.take l2, _, _, rfl, ⟨⟨by simp only [List.length_take]; omega, fun hn => ⟨b, rfl, ?_, fun q hq => ?_⟩⟩, fun z hzm => hwf2 z (List.mem_of_mem_take hzm), hl2, hm2⟩, w0, w2⟩
    · have hmem : MemPlace.cell b.block (b.off + 0) ∈ ps := by
        rw [hps]
        have e2 : y1.2 = MemPlace.row b zs.length := congrArg Prod.snd hx2
        have hin : MemPlace.cell b.block (b.off + 0) ∈ y1.2 := by
          rw [e2]
          exact List.mem_map.2 ⟨0, List.mem_range.2 (by omega), rfl⟩
        simp only [List.mem_append]
        first | exact hin | exact Or.inl hin | exact Or.inr hin | exact Or.inr (Or.inl hin) | exact Or.inr (Or.inr hin)
      exact hlt _ hmem
    · rw [hc2 q (by omega)]
      simp [List.getD_eq_getElem?_getD, hq]
theorem arg_ents {t e i : TypeId} {f0 f1 f2 : Field} {W : World} {base : Nat} {v : Value} {d : DataW H} {ps : List MemPlace} (ht : P.underlying t = some (.slice e)) (he : P.underlying e = some (.struct #[f0, f1, f2])) (hone : oneCellFields P #[f0, f1, f2] = true) (hC : P.cellsOf e = 3)
    (h0 : P.underlying f0.type = some (.int .i64)) (h1 : P.underlying f1.type = some (.slice i)) (hi : P.underlying i = some (.int .i64)) (hci : P.cellsOf i = 1) (h2 : P.underlying f2.type = some (.int .i64))
    (hval : Value.okWide P W .any base t v) (hd : DataW.Trod enc P W 0 (fun _ => true) true t v d ps) (hlt : ∀ x ∈ ps, x.block < W.heap.size) :
    ∃ (A : Option Addr) (n c : Nat) (zs : List Ent), v = .slice A n c ∧ (EntsAt W W.heap.size A n zs ∧ (∀ z ∈ zs, z.wf) ∧ n ≤ c ∧ c ≤ maxLen) := by
  obtain ⟨a, len, cap, rfl⟩ := okWide_slice ht hval
  obtain ⟨fuel, hf⟩ := hd
  rcases open_slice_fields ht he hone (by rw [hC]; rfl) hf with ⟨h1, _⟩ | ⟨a', len', cap', m, D, Pl, hcs, _, hl, hm, hmm, hx, hii⟩
  · have h1' : [Value.slice a len cap] = [Value.slice none 0 0] := h1
    simp only [List.cons.injEq, and_true] at h1'
    exact ⟨none, 0, 0, [], h1', ⟨rfl, fun h => absurd h (by omega)⟩, by simp, Nat.le_refl _, Nat.zero_le _⟩
  · have h1' : [Value.slice a len cap] = [Value.slice (some a') len' cap'] := hcs
    simp only [List.cons.injEq, and_true] at h1'
    rw [if_pos rfl] at hmm
    subst hmm
    have hps : ps = MemPlace.row a' (m * 3) ++ (List.range m).flatMap Pl := congrArg Prod.snd hx
    obtain ⟨zs, hzl, hz⟩ := choose_upto (n := len') (R := fun j (p : Ent) => p.wf ∧ ∃ A' m' c', EntAt W (a'.add (j * 3)) (.slice A' m' c') p ∧ IntsAt .i64 W W.heap.size A' m' p.lights ∧ (m' ≤ c' ∧ c' ≤ maxLen) ∧ (A' = none → m' = 0 ∧ c' = 0)) (fun j hjl => by
      obtain ⟨ys, n, _, hPl, _, hj⟩ := hii j (by omega)
      obtain ⟨v0, y0, c0, g0, t0⟩ := hj 0 f0 rfl
      obtain ⟨v1, y1, c1, g1, t1⟩ := hj 1 f1 rfl
      obtain ⟨v2, y2, c2, g2, t2⟩ := hj 2 f2 rfl
      obtain ⟨x0, rfl, w0, -⟩ := cell_int h0 t0
      obtain ⟨x2, rfl, w2, -⟩ := cell_int h2 t2
      have d1 : W.cell? ⟨(a'.add (j * 3)).block, (a'.add (j * 3)).off + 1, none⟩ = some v1 := by
        rw [← add_plusF _ 1 (by decide), add_add]
        exact c1
      have d2 : W.cell? ⟨(a'.add (j * 3)).block, (a'.add (j * 3)).off + 2, none⟩ = some (.int .i64 x2) := by
        rw [← add_plusF _ 2 (by decide), add_add]
        exact c2
      have d0 := c0
      rcases open_ints h1 hi hci t1 with ⟨h2, _⟩ | ⟨b, l2, cp2, zs, h2, _, hl2, hm2, hzl2, hx2, hc2, hwf2⟩
      · simp only [List.cons.injEq, and_true] at h2
        exact ⟨⟨x0, [], x2⟩, ⟨Nat.zero_le _, by simp, w0, w2⟩, none, 0, 0, ⟨d0, by rw [← h2]; exact d1, d2⟩, ⟨rfl, fun h => absurd h (by omega)⟩, ⟨Nat.le_refl _, Nat.zero_le _⟩, fun _ => ⟨rfl, rfl⟩⟩
      · simp only [List.cons.injEq, and_true] at h2
        rw [if_pos rfl] at hzl2
        refine ⟨⟨x0, zs.take l2, x2⟩, ⟨by simp only [List.length_take]; omega, fun z hzm => hwf2 z (List.mem_of_mem_take hzm), w0, w2⟩, some b, l2, cp2, ⟨d0, by rw [← h2]; exact d1, d2⟩, ⟨by simp only [List.length_take]; omega, fun hn => ⟨b, rfl, ?_, fun q hq => ?_⟩⟩, ⟨hl2, hm2⟩, by simp⟩
        · have hmem : MemPlace.cell b.block (b.off + 0) ∈ ps := by
            rw [hps]
            refine List.mem_append_right _ (List.mem_flatMap.2 ⟨j, List.mem_range.2 (by omega), ?_⟩)
            rw [hPl]
            refine List.mem_flatMap.2 ⟨y1, List.mem_of_getElem? g1, ?_⟩
            have e2 : y1.2 = MemPlace.row b zs.length := congrArg Prod.snd hx2
            rw [e2]
            exact List.mem_map.2 ⟨0, List.mem_range.2 (by omega), rfl⟩
          exact hlt _ hmem
        · rw [hc2 q (by omega)]
          simp [List.getD_eq_getElem?_getD, hq])
    refine ⟨some a', len', m, zs, h1', ⟨hzl, fun hn => ⟨a', rfl, ?_, fun j hj => ?_⟩⟩, fun z hzm => ?_, hl, hm⟩
    · have hmem : MemPlace.cell a'.block (a'.off + 0) ∈ ps := by
        rw [hps]
        exact List.mem_append_left _ (List.mem_map.2 ⟨0, List.mem_range.2 (by omega), rfl⟩)
      exact hlt _ hmem
    · exact (hz j _ (entA_get (by omega))).2
    · obtain ⟨j, hj, rfl⟩ := List.getElem_of_mem hzm
      exact (hz j _ (List.getElem?_eq_getElem hj)).1
end
end Go.Proofs.Ytblilnfkpfjclaa

/- FindPath: the program (slices.IndexFunc with a closure). -/
namespace Go.Proofs.Ytblilnfkpfjclaa
open Go.RowKit
set_option linter.unusedVariables false

theorem findI_hit {ps : List Pth} {id : Int} {k : Nat} {p : Pth} (hno : ∀ j q, j < k → ps[j]? = some q → q.id ≠ id) (hp : ps[k]? = some p) (he : p.id = id) : findI id ps = (k : Int) := by unfold findI; rw [findK_some hno hp he]
theorem findI_none {ps : List Pth} {id : Int} (hno : ∀ (j : Nat) q, ps[j]? = some q → q.id ≠ id) : findI id ps = -1 := by unfold findI; rw [findK_none hno]
theorem impl_find1 (g : Nat) (p : Pth) (id : Int) (w : World) (h : w.cell? ⟨g, 0, none⟩ = some (.int .i64 id)) (hg : g < w.heap.size) :
    Calls Try.prog 151 #[p.val, .pointer (some ⟨g, 0, none⟩)] w fun e w' => e = .returned (.bool (p.id == id)) ∧ Below w.heap.size w w' := by
  obtain ⟨a, b, c, d⟩ := p
  simp only [Pth.val]
  go_enter Try.func151, Try.ntmps151
  go_wp2
  go_ret
  exact ⟨rfl, (Below.refl _ _).alloc (Nat.le_refl _) _⟩
set_option maxHeartbeats 1000000 in
theorem impl_IndexFunc (g : Nat) (A : Option Addr) (n c B : Nat) (ps : List Pth) (id : Int) (w : World) (h : PthsAt w B A n ps) (hB : B ≤ w.heap.size) (hn : n ≤ 4294967296) (hc : w.cell? ⟨g, 0, none⟩ = some (.int .i64 id)) (hg : g < w.heap.size) :
    Calls Try.prog 150 #[.slice A n c, .func (.func 151) #[] #[.pointer (some ⟨g, 0, none⟩)]] w fun e w' => e = .returned (.int .i64 (findI id ps)) ∧ Below w.heap.size w w' := by
  have hl := h.1
  go_enter Try.func150, Try.ntmps150
  go_wp2
  go_loopw [8] (fun i wr => ∃ k : Nat, k ≤ n ∧ i = .int .i64 k ∧ (∀ j q, j < k → ps[j]? = some q → q.id ≠ id) ∧ Below w.heap.size w wr) (fun i _ => n - (intOf i).toNat)
  case atStart => exact ⟨0, Nat.zero_le _, rfl, fun j q hj => absurd hj (by omega), Below.refl _ _⟩
  case round =>
    obtain ⟨k, hk, rfl, hno, hbl⟩ := hrel
    have hsz := hbl.size
    by_cases hlt : k < n
    · obtain ⟨ad, p, rfl, hab, hp, hq⟩ := h.at hlt
      obtain ⟨c0, c1, c2, c3⟩ := hq.below hbl (by omega)
      have hcw := (hbl.cell (p := ⟨g, 0, none⟩) hg).trans hc
      have HN := Lib.hid hno
      have hv : p.val = .agg #[.int .i64 p.id, .int .i64 p.kind, .int .i64 p.frm, .int .i64 p.to] := rfl
      have hcc := impl_find1 g p id wr hcw (by omega)
      rw [hv] at hcc
      have HB := Lib.hid hbl
      clear hno hq hcw hc hbl hv
      go_wp2_with fail
      refine hcc.mono ?_
      rintro e w1 ⟨rfl, hb⟩
      have HB1 := Lib.hid (HB.out.trans (hb.mono HB.out.size))
      clear hb hcc
      by_cases he : p.id = id
      · have HR := Lib.hid (findI_hit HN.out hp he)
        have e1 : (p.id == id) = true := by simpa using he
        clear he
        go_wp2
        go_ret
        exact ⟨by rw [HR.out]; rfl, HB1.out⟩
      · have HN2 : Hid (∀ j q, j < k + 1 → ps[j]? = some q → q.id ≠ id) := Lib.hid (fun j q hj hq => by
          by_cases e : j = k
          · subst e; rw [hp] at hq; cases hq; exact he
          · exact HN.out j q (by omega) hq)
        have e1 : (p.id == id) = false := by simpa using he
        clear he
        go_wp2
        go_roundw
        case rel => exact ⟨k + 1, by omega, by go_num, HN2.out, HB1.out⟩
        case measure => simp [intOf]; omega
    · obtain rfl : k = n := by omega
      have HR := Lib.hid (findI_none (ps := ps) (id := id) (fun j q hq => hno j q (by have := (List.getElem?_eq_some_iff.1 hq).1; omega) hq))
      clear hno
      go_wp2
      go_ret
      exact ⟨by rw [HR.out]; rfl, hbl⟩
theorem impl_FindPath (A : Option Addr) (n c B : Nat) (ps : List Pth) (id : Int) (w : World) (h : PthsAt w B A n ps) (hB : B ≤ w.heap.size) (hn : n ≤ 4294967296) :
    Calls Try.prog 120 #[.slice A n c, .int .i64 id] w fun e w' => e = .returned (.int .i64 (findI id ps)) ∧ Below w.heap.size w w' := by
  have hmf : ∀ (fn : Fn) (first cap : Array Value) (w : World), (Instr.makeFunc fn first cap).run Try.prog w = .ok (.func fn first cap) w := fun _ _ _ _ => rfl
  have HP := Lib.hid ((h.below ((Below.refl w.heap.size w).alloc (Nat.le_refl _) (.cells #[.int .i64 id] 3) |>.mono hB)).up (B' := (w.alloc (.cells #[.int .i64 id] 3)).heap.size) (by simp; omega))
  go_enter Try.func120, Try.ntmps120
  go_wp2_with fail
  refine (impl_IndexFunc w.heap.size A n c _ ps id _ HP.out (Nat.le_refl _) hn (by go_simp) (by simp)).mono ?_
  rintro e w1 ⟨rfl, hb⟩
  go_wp2
  go_ret
  exact ⟨rfl, ((Below.refl _ _).alloc (Nat.le_refl _) _).trans (hb.mono (by simp))⟩
end Go.Proofs.Ytblilnfkpfjclaa

/- Bit operations on numbers that are not negative; a path packed into one number. No program. -/
namespace Go.Proofs.Ytblilnfkpfjclaa
open Go.RowKit

theorem i64_wraps (n : Int) (h0 : 0 ≤ n) (h1 : n < 2 ^ 63) : IntKind.i64.wrap n = n := by
  have e : (2 : Int) ^ 63 = 9223372036854775808 := by decide
  rw [e] at h1
  rw [IntKind.wrap_i64]
  omega
theorem and3 (x : Int) (h0 : 0 ≤ x) (h1 : x < 65536) : bits .and .i64 x 3 = x % 4 := by
  have e : (2 : Int) ^ 63 = 9223372036854775808 := by decide
  have h := bits_mask .i64 63 (by decide) i64_wraps 2 (by decide) x h0 (by rw [e]; omega)
  have e2 : ((2 : Int) ^ 2 - 1) = 3 := by decide
  have e3 : ((2 : Int) ^ 2) = 4 := by decide
  rw [e2, e3] at h
  exact h
theorem or4 (x y : Int) (h0 : 0 ≤ x) (h1 : x < 65536) (hx : x % 4 = 0) (hy : 0 ≤ y) (hy1 : y < 4) : bits .or .i64 x y = x + y := by
  have e : (2 : Int) ^ 63 = 9223372036854775808 := by decide
  have e3 : ((2 : Int) ^ 2) = 4 := by decide
  exact bits_join .i64 63 (by decide) i64_wraps 2 x y h0 (by rw [e3]; exact hx) (by rw [e]; omega) hy (by rw [e3]; exact hy1) (by rw [e]; omega)
/-- a valid path as one number, in bits. -/
def packN (p : Pth) : Int := if isP p then ((p.id * 4 + p.kind) * 4 + p.frm) * 4 + p.to else 0
theorem packN_no {p : Pth} (h : isP p = false) : packN p = 0 := by unfold packN; rw [h]; rfl
theorem packN_yes {p : Pth} (h : isP p = true) : packN p = ((p.id * 4 + p.kind) * 4 + p.frm) * 4 + p.to ∧ 64 ≤ packN p ∧ packN p < 2048 := by
  have hf := isP_facts p h
  have e : packN p = ((p.id * 4 + p.kind) * 4 + p.frm) * 4 + p.to := by unfold packN; rw [h]; rfl
  refine ⟨e, ?_, ?_⟩ <;> rw [e] <;> omega
theorem packN_to {p : Pth} (h : isP p = true) : packN p % 4 = p.to := by have := isP_facts p h; rw [(packN_yes h).1]; omega
theorem packN_frm {p : Pth} (h : isP p = true) : packN p / 4 % 4 = p.frm := by have := isP_facts p h; rw [(packN_yes h).1]; omega
theorem packN_kind {p : Pth} (h : isP p = true) : packN p / 16 % 4 = p.kind := by have := isP_facts p h; rw [(packN_yes h).1]; omega
theorem packN_id {p : Pth} (h : isP p = true) : packN p / 64 = p.id := by have := isP_facts p h; rw [(packN_yes h).1]; omega
end Go.Proofs.Ytblilnfkpfjclaa

/- Chapter 4's functions of the program: valid paths, places, packed paths. -/
namespace Go.Proofs.Ytblilnfkpfjclaa
open Go.RowKit
set_option linter.unusedVariables false

theorem impl_isArm (a : Int) (w : World) : Calls Try.prog 159 #[.int .i64 a] w fun e w' => e = .returned (.bool (inB a 0 3)) ∧ w = w' := by
  go_enter Try.func159, Try.ntmps159
  go_wp2_with fail
  refine (impl_InRange _ _ _ _).mono ?_
  rintro e w1 ⟨rfl, rfl⟩
  go_wp2
  go_ret
  exact ⟨rfl, rfl⟩
theorem impl_IsPath (p : Pth) (w : World) : Calls Try.prog 149 #[p.val] w fun e w' => e = .returned (.bool (isP p)) ∧ Below w.heap.size w w' := by
  obtain ⟨a, b, c, d⟩ := p
  simp only [Pth.val]
  have HI : Hid (isP ⟨a, b, c, d⟩ = (inB a 1 20 && inB b 1 3 && inB c 0 3 && inB d 0 3 && (decide (c = d) == decide (b = 2)))) := Lib.hid rfl
  go_enter Try.func149, Try.ntmps149
  go_wp2_with fail
  refine (impl_InRange _ _ _ _).mono ?_
  rintro e w1 ⟨rfl, rfl⟩
  cases h0 : inB a 1 20
  · rw [h0] at HI
    go_wp2
    go_ret
    exact ⟨by rw [HI.out]; simp, (Below.refl _ _).alloc (Nat.le_refl _) _⟩
  · rw [h0] at HI
    go_wp2_with fail
    refine (impl_InRange _ _ _ _).mono ?_
    rintro e w1 ⟨rfl, rfl⟩
    cases h1 : inB b 1 3
    · rw [h1] at HI
      go_wp2
      go_ret
      exact ⟨by rw [HI.out]; simp, (Below.refl _ _).alloc (Nat.le_refl _) _⟩
    · rw [h1] at HI
      go_wp2_with fail
      refine (impl_isArm _ _).mono ?_
      rintro e w1 ⟨rfl, rfl⟩
      cases h2 : inB c 0 3
      · rw [h2] at HI
        go_wp2
        go_ret
        exact ⟨by rw [HI.out]; simp, (Below.refl _ _).alloc (Nat.le_refl _) _⟩
      · rw [h2] at HI
        go_wp2_with fail
        refine (impl_isArm _ _).mono ?_
        rintro e w1 ⟨rfl, rfl⟩
        cases h3 : inB d 0 3
        · rw [h3] at HI
          go_wp2
          go_ret
          exact ⟨by rw [HI.out]; first | (simp; done) | (simp; rfl), (Below.refl _ _).alloc (Nat.le_refl _) _⟩
        · rw [h3] at HI
          go_wp2
          go_ret
          exact ⟨by rw [HI.out]; first | (simp; done) | (simp; rfl), (Below.refl _ _).alloc (Nat.le_refl _) _⟩
end Go.Proofs.Ytblilnfkpfjclaa

/- Interleave: the program. -/
namespace Go.Proofs.Ytblilnfkpfjclaa
open Go.RowKit
set_option linter.unusedVariables false

/-- four different places. -/
def diff4 (a b c d : Int) : Bool := decide (a ≠ b ∧ a ≠ c ∧ a ≠ d ∧ b ≠ c ∧ b ≠ d ∧ c ≠ d) && inB a 0 7 && inB b 0 7 && inB c 0 7 && inB d 0 7
theorem inter_diff (a b c d : Int) : inter a b c d = (diff4 a b c d && (betw a c b != betw a d b)) := rfl
theorem diff4_four {a b c d : Int} (h : okNs [a, b, c, d] 4) : diff4 a b c d = true := by
  obtain ⟨⟨h0, h1, h2, h3⟩, h4⟩ := okNs_four h
  unfold diff4
  rw [h0, h1, h2, h3, decide_eq_true h4]
  rfl
theorem diff4_eq {a b c d : Int} {j k : Nat} (hk : k < j) (hj : j < 4) (h : [a, b, c, d].getD j 0 = [a, b, c, d].getD k 0) : diff4 a b c d = false := by
  have h4 : ¬ (a ≠ b ∧ a ≠ c ∧ a ≠ d ∧ b ≠ c ∧ b ≠ d ∧ c ≠ d) := by
    rintro ⟨e1, e2, e3, e4, e5, e6⟩
    match j, k, hk, hj with
    | 1, 0, _, _ => exact e1 (by simpa using h.symm)
    | 2, 0, _, _ => exact e2 (by simpa using h.symm)
    | 2, 1, _, _ => exact e4 (by simpa using h.symm)
    | 3, 0, _, _ => exact e3 (by simpa using h.symm)
    | 3, 1, _, _ => exact e5 (by simpa using h.symm)
    | 3, 2, _, _ => exact e6 (by simpa using h.symm)
  unfold diff4
  rw [decide_eq_false h4]
  simp
theorem diff4_out {a b c d : Int} {j : Nat} (hj : j < 4) (h : inB ([a, b, c, d].getD j 0) 0 7 = false) : diff4 a b c d = false := by
  unfold diff4
  match j, hj with
  | 0, _ => simp at h; simp [h]
  | 1, _ => simp at h; simp [h]
  | 2, _ => simp at h; simp [h]
  | 3, _ => simp at h; simp [h]
/-- which places the first k of these numbers have taken. -/
def takenL (l : List Int) (k : Nat) : List Value := (List.range 8).map fun (j : Nat) => Value.bool (decide ((j : Int) ∈ l.take k))
theorem takenL_length (l : List Int) (k : Nat) : (takenL l k).length = 8 := by simp [takenL]
theorem takenL_at (l : List Int) (k j : Nat) (h : j < 8) : (takenL l k)[j]? = some (Value.bool (decide ((j : Int) ∈ l.take k))) := by
  simp [takenL, h]
theorem takenL_set {l : List Int} {k : Nat} (h : k < l.length) {j : Nat} (hj : l.getD k 0 = j) : (takenL l k).set j (.bool true) = takenL l (k + 1) := by
  have e : l.take (k + 1) = l.take k ++ [(j : Int)] := by
    rw [List.take_add_one, List.getElem?_eq_getElem h]
    rw [List.getD_eq_getElem?_getD, List.getElem?_eq_getElem h] at hj
    simp at hj
    simp [hj]
  apply List.ext_getElem?
  intro i
  by_cases hi : i < 8
  · rw [takenL_at _ _ _ hi, e, List.getElem?_set]
    by_cases hij : j = i
    · subst hij
      rw [if_pos rfl, if_pos (by rw [takenL_length]; exact hi)]
      simp
    · rw [if_neg hij, takenL_at _ _ _ hi]
      have : ¬ ((i : Int) = (j : Int)) := by omega
      simp [this]
  · rw [List.getElem?_eq_none (by rw [List.length_set, takenL_length]; omega), List.getElem?_eq_none (by rw [takenL_length]; omega)]
theorem take_mem {l : List Int} {k : Nat} {x : Int} (h : x ∈ l.take k) : ∃ j, j < k ∧ l.getD j 0 = x := by
  obtain ⟨j, hj, e⟩ := List.getElem_of_mem h
  rw [List.length_take] at hj
  refine ⟨j, by omega, ?_⟩
  rw [List.getElem_take] at e
  rw [List.getD_eq_getElem?_getD, List.getElem?_eq_getElem (by omega)]
  simpa using e
theorem not_take {l : List Int} {k : Nat} (hk : k ≤ l.length) {x : Int} (h : ¬ x ∈ l.take k) : ∀ j, j < k → x ≠ l.getD j 0 := by
  intro j hj e
  apply h
  rw [List.getD_eq_getElem?_getD, List.getElem?_eq_getElem (by omega)] at e
  simp at e
  rw [e]
  exact List.mem_iff_getElem.2 ⟨j, by rw [List.length_take]; omega, by rw [List.getElem_take]⟩
end Go.Proofs.Ytblilnfkpfjclaa

/- Chapter 5's program: lists of paths, conflicts. -/
namespace Go.Proofs.Ytblilnfkpfjclaa
open Go.RowKit
set_option linter.unusedVariables false

/-- the Id of the path before the k-th. -/
def lastI (ps : List Pth) : Nat → Int
  | 0 => 0
  | m + 1 => match ps[m]? with | none => 0 | some q => q.id
theorem lastI_succ {ps : List Pth} {k : Nat} {p : Pth} (h : ps[k]? = some p) : lastI ps (k + 1) = p.id := by simp [lastI, h]
theorem goodAt_last {ps : List Pth} {k : Nat} {p : Pth} (h : ps[k]? = some p) : goodAt ps k = (isP p && decide (lastI ps k < p.id)) := by
  unfold goodAt
  rw [h]
  have hlt := (List.getElem?_eq_some_iff.1 h).1
  cases k with
  | zero =>
    cases hv : isP p
    · simp [hv]
    · have h1 := (isP_facts p hv).1
      have h0 : lastI ps 0 < p.id := by show (0 : Int) < p.id; omega
      rw [decide_eq_true h0]
      simp [hv]
  | succ m =>
    have h2 : ps[m]? = some ps[m] := List.getElem?_eq_getElem (by omega)
    simp [lastI, h2]
theorem goodAt_step {ps : List Pth} {k : Nat} (h : ∀ j, j < k → goodAt ps j = true) (h2 : goodAt ps k = true) : ∀ j, j < k + 1 → goodAt ps j = true := by
  intro j hj
  by_cases e : j = k
  · subst e; exact h2
  · exact h j (by omega)
theorem arePs_big {ps : List Pth} (h : 12 < ps.length) : arePs ps = false := by
  unfold arePs
  rw [decide_eq_false (by omega), Bool.and_false]
theorem PthAt.plain {w : World} {q : Addr} {p : Pth} (h : PthAt w q p) : w.cell? q = some (.int .i64 p.id) ∧ w.cell? ⟨q.block, q.off + 1, none⟩ = some (.int .i64 p.kind) ∧ w.cell? ⟨q.block, q.off + 2, none⟩ = some (.int .i64 p.frm) ∧ w.cell? ⟨q.block, q.off + 3, none⟩ = some (.int .i64 p.to) := ⟨h.c0, h.c1, h.c2, h.c3⟩
set_option maxHeartbeats 1000000 in
set_option maxRecDepth 100000 in
theorem impl_ArePaths (A : Option Addr) (n c B : Nat) (ps : List Pth) (w : World) (h : PthsAt w B A n ps) (hB : B ≤ w.heap.size) (hn : n ≤ 4294967296) :
    Calls Try.prog 119 #[.slice A n c] w fun e w' => e = .returned (.bool (arePs ps)) ∧ Below w.heap.size w w' := by
  have hl := h.1
  by_cases hbig : 12 < n
  · have HR := Lib.hid (arePs_big (ps := ps) (by omega))
    go_enter Try.func119, Try.ntmps119
    go_wp2
    go_ret
    exact ⟨by rw [HR.out]; rfl, Below.refl _ _⟩
  · go_enter Try.func119, Try.ntmps119
    go_wp2
    go_loopw [11, 3] (fun i x wr => ∃ k : Nat, k ≤ n ∧ i = .int .i64 k ∧ x = .int .i64 (lastI ps k) ∧ (∀ j, j < k → goodAt ps j = true) ∧ Below w.heap.size w wr) (fun i _ _ => n - (intOf i).toNat)
    case atStart => exact ⟨0, Nat.zero_le _, rfl, rfl, fun j hj => absurd hj (by omega), Below.refl _ _⟩
    case round =>
      obtain ⟨k, hk, rfl, rfl, hgo, hbl⟩ := hrel
      have hsz := hbl.size
      by_cases hlt : k < n
      · obtain ⟨ad, p, rfl, hab, hp, hq⟩ := h.at hlt
        obtain ⟨c0, c1, c2, c3⟩ := (hq.below hbl (by omega)).plain
        have i1 : (0 : Int) ≤ (k : Int) := by omega
        have i2 : (k : Int) < (n : Int) := by omega
        have HG := Lib.hid (goodAt_last hp)
        have HL := Lib.hid (lastI_succ hp)
        have hv : p.val = .agg #[.int .i64 p.id, .int .i64 p.kind, .int .i64 p.frm, .int .i64 p.to] := rfl
        obtain ⟨y, hy⟩ : ∃ y, lastI ps k = y := ⟨_, rfl⟩
        rw [hy] at HG
        have HB0 := Lib.hid hbl
        have HGO := Lib.hid hgo
        have hcc := fun x => impl_IsPath p x
        rw [hv] at hcc
        rw [hy]
        clear hq hy hbl hgo hv
        go_wp2_with fail
        refine (hcc _).mono ?_
        rintro e w1 ⟨rfl, hb⟩
        have hb1 := hb.cell (p := ⟨wr.heap.size, 0, none⟩) (by simp)
        have hB1 := Lib.hid (HB0.out.trans ((((Below.refl _ _).alloc (Nat.le_refl _) _).trans (hb.mono (by simp))).mono HB0.out.size))
        have d0 : w1.cell? ⟨wr.heap.size, 0, none⟩ = some (.int .i64 p.id) := hb1.trans (by go_simp)
        clear hb hb1 hcc
        cases hvp : isP p
        · have HR := Lib.hid (arePs_no (ps := ps) (k := k) (by omega) (by rw [HG.out, hvp]; rfl))
          clear HG
          go_wp2
          go_ret
          exact ⟨by rw [HR.out]; rfl, hB1.out⟩
        · by_cases hle : p.id ≤ y
          · have HR := Lib.hid (arePs_no (ps := ps) (k := k) (by omega) (by rw [HG.out, decide_eq_false (by omega)]; simp))
            clear HG
            go_wp2
            go_ret
            exact ⟨by rw [HR.out]; rfl, hB1.out⟩
          · have HN := Lib.hid (goodAt_step HGO.out (by rw [HG.out, hvp, decide_eq_true (by omega)]; rfl))
            clear HG
            go_wp2
            go_roundw
            case rel => exact ⟨k + 1, by omega, by go_num, by rw [HL.out], HN.out, hB1.out⟩
            case measure => simp [intOf]; omega
      · obtain rfl : k = n := by omega
        have HR := Lib.hid (arePs_end (ps := ps) (fun j hj => hgo j (by omega)))
        clear hgo
        go_wp2
        go_ret
        exact ⟨by rw [HR.out, hl, decide_eq_true (p := k ≤ 12) (by omega)]; rfl, hbl⟩
end Go.Proofs.Ytblilnfkpfjclaa

/- Prio as Lean data; rows of them, and the laws' helpers for these (written by gentype.py). -/
namespace Go.Proofs.Ytblilnfkpfjclaa
open Go.RowKit
set_option linter.unusedVariables false

structure Pri where
  path : Int
  left : Int
deriving DecidableEq
def Pri.cells (p : Pri) : List Value := [.int .i64 p.path, .int .i64 p.left]
def Pri.val (p : Pri) : Value := .agg #[.int .i64 p.path, .int .i64 p.left]
def Pri.wf (p : Pri) : Prop := (Lit.int .i64 p.path).wf = true ∧ (Lit.int .i64 p.left).wf = true
def pricells (ps : List Pri) : List Value := ps.flatMap Pri.cells
theorem pricells_length (ps : List Pri) : (pricells ps).length = ps.length * 2 := flat_length (f := Pri.cells) (fun _ => rfl) ps
theorem pricells_take {ps : List Pri} {k : Nat} {p : Pri} (h : ps[k]? = some p) : pricells (ps.take (k + 1)) = pricells (ps.take k) ++ p.cells := by
  unfold pricells
  rw [List.take_add_one, h, List.flatMap_append]
  simp
theorem pricells_one (ps : List Pri) : ∀ u ∈ pricells ps, u.oneCell' = true := by
  intro u hu
  obtain ⟨p, _, hp⟩ := List.mem_flatMap.1 hu
  simp only [Pri.cells, List.mem_cons, List.not_mem_nil, or_false] at hp
  rcases hp with rfl | rfl <;> rfl
theorem pricells_put {ps : List Pri} {zs : List Value} {k : Nat} {p : Pri} (h : ps[k]? = some p) (hz : k * 2 + 2 ≤ zs.length) :
    ((pricells (ps.take k) ++ zs.drop (k * 2)).set (k * 2) (.int .i64 p.path)).set (k * 2 + 1) (.int .i64 p.left) = pricells (ps.take (k + 1)) ++ zs.drop ((k + 1) * 2) := by
  obtain ⟨z0, z1, hd⟩ := drop2 hz
  have hk := (List.getElem?_eq_some_iff.1 h).1
  rw [hd, set2 (by rw [pricells_length, List.length_take]; omega), pricells_take h]
  simp [Pri.cells, Nat.add_mul]
def PrisAt (w : World) (B : Nat) (A : Option Addr) (n : Nat) (ps : List Pri) : Prop := ps.length = n ∧ CellsAt w B A (n * 2) (pricells ps)
theorem PrisAt.keep {w w' : World} {B : Nat} {A : Option Addr} {n : Nat} {ps : List Pri} (h : PrisAt w B A n ps) (hk : ∀ p : Addr, p.block < B → w'.cell? p = w.cell? p) : PrisAt w' B A n ps := ⟨h.1, h.2.keep hk⟩
theorem PrisAt.below {w w' : World} {B : Nat} {A : Option Addr} {n : Nat} {ps : List Pri} (h : PrisAt w B A n ps) (hb : Below B w w') : PrisAt w' B A n ps := ⟨h.1, h.2.below hb⟩
theorem PrisAt.up {w : World} {B B' : Nat} {A : Option Addr} {n : Nat} {ps : List Pri} (h : PrisAt w B A n ps) (hB : B ≤ B') : PrisAt w B' A n ps := ⟨h.1, h.2.up hB⟩
structure PriAt (w : World) (q : Addr) (p : Pri) : Prop where
  c0 : w.cell? q = some (.int .i64 p.path)
  c1 : w.cell? ⟨q.block, q.off + 1, none⟩ = some (.int .i64 p.left)
theorem PriAt.keep {w w' : World} {q : Addr} {p : Pri} (h : PriAt w q p) (e : w'.heap[q.block]? = w.heap[q.block]?) : PriAt w' q p :=
  ⟨(World.cell?_of_block e).trans h.c0, (World.cell?_of_block (a := ⟨q.block, q.off + 1, none⟩) e).trans h.c1⟩
theorem PriAt.below {w w' : World} {q : Addr} {p : Pri} {B : Nat} (h : PriAt w q p) (hb : Below B w w') (hB : q.block < B) : PriAt w' q p := h.keep (hb.block _ hB)
theorem pri_head {w : World} {g : Nat} {p : Pri} (h : PriAt w ⟨g, 0, none⟩ p) : w.cell? ⟨g, 0, none⟩ = some (.int .i64 p.path) ∧ w.cell? ⟨g, 1, none⟩ = some (.int .i64 p.left) := ⟨h.c0, h.c1⟩
theorem pri_of_block {w : World} {g : Nat} {p : Pri} {E : TypeId} {fr : Nat × Nat} (h : w.heap[g]? = some (.cells #[.int .i64 p.path, .int .i64 p.left] E fr)) : PriAt w ⟨g, 0, none⟩ p :=
  ⟨by rw [cell_of_row w g 0 _ E fr h]; rfl, by rw [cell_of_row w g _ _ E fr h]; rfl⟩
theorem PrisAt.at {w : World} {B : Nat} {A : Option Addr} {n : Nat} {ps : List Pri} (h : PrisAt w B A n ps) {k : Nat} (hk : k < n) : ∃ ad p, A = some ad ∧ (ad.add (k * 2)).block < B ∧ ps[k]? = some p ∧ PriAt w (ad.add (k * 2)) p := by
  obtain ⟨hl, _, hc⟩ := h
  obtain ⟨ad, e, hb, hc⟩ := hc (by omega)
  have hp : ps[k]? = some ps[k] := List.getElem?_eq_getElem (by omega)
  have hg := fun i (hi : i < 2) => flat_get (f := Pri.cells) (fun _ => rfl) ps k i _ hp hi
  have ha := fun i (hi : 0 < i) => (add_add ad (k * 2) i).symm.trans (add_plusF _ i hi)
  refine ⟨ad, ps[k], e, by rw [add_block]; exact hb, hp, hc _ _ (hg 0 (by decide)), ?_⟩
  · rw [← ha 1 (by decide)]; exact hc _ _ (hg 1 (by decide))
theorem law_toPrio (p : Pri) (w : World) : Calls Try.prog 17 #[p.val] w fun e w' => e = .returned p.val ∧ Below w.heap.size w w' := by
  obtain ⟨a, b⟩ := p
  simp only [Pri.val]
  go_enter Try.func17, Try.ntmps17
  go_wp2
  refine bodyPost_ret (by rw [results_cell rfl]; go_simp; try rfl) rfl ?_
  exact ⟨rfl, ((((Below.refl _ _).alloc (Nat.le_refl _) _).alloc (by simp) _).alloc (by simp; omega) _)⟩
theorem law_eqPrio (p q : Pri) (w : World) : Calls Try.prog 19 #[p.val, q.val] w fun e w' => e = .returned (.bool (decide (p = q))) ∧ Below w.heap.size w w' := by
  obtain ⟨a, b⟩ := p
  obtain ⟨a', b'⟩ := q
  simp only [Pri.val, Pri.mk.injEq]
  have hb0 := ((Below.refl w.heap.size w).alloc (Nat.le_refl _) (.cells #[.int .i64 a, .int .i64 b] 26)).alloc (by simp) (.cells #[.int .i64 a', .int .i64 b'] 26)
  have HB := Lib.hid hb0
  clear hb0
  by_cases h0 : a = a'
  rotate_left
  · have e0 : (a != a') = true := by simpa using h0
    go_enter Try.func19, Try.ntmps19
    go_wp2
    go_ret
    exact ⟨by simp [h0], HB.out⟩
  subst h0
  by_cases h1 : b = b'
  rotate_left
  · have e0 : (b != b') = true := by simpa using h1
    go_enter Try.func19, Try.ntmps19
    go_wp2
    go_ret
    exact ⟨by simp [h1], HB.out⟩
  subst h1
  go_enter Try.func19, Try.ntmps19
  go_wp2
  go_ret
  exact ⟨by simp, HB.out⟩
theorem same_pri (p : Pri) (w : World) : Calls Try.prog 19 #[p.val, p.val] w fun e w' => e = .returned (.bool true) ∧ Below w.heap.size w w' := (law_eqPrio p p w).mono fun e w' ⟨he, hb⟩ => ⟨by rw [he, decide_eq_true rfl], hb⟩
structure SlPri (w : World) (A : Option Addr) (n c : Nat) (ps : List Pri) : Prop where
  pths : PrisAt w w.heap.size A n ps
  bare : A = none → n = 0 ∧ c = 0
  small : n ≤ 4294967296
  cap : n ≤ c ∧ c ≤ maxLen
  wf : ∀ p ∈ ps, p.wf
theorem SlPri.len {w : World} {A : Option Addr} {n c : Nat} {ps : List Pri} (h : SlPri w A n c ps) : ps.length = n := h.pths.1
theorem SlPri.below {w w' : World} {A : Option Addr} {n c : Nat} {ps : List Pri} (h : SlPri w A n c ps) (hb : Below w.heap.size w w') : SlPri w' A n c ps :=
  ⟨(h.pths.below hb).up hb.size, h.bare, h.small, h.cap, h.wf⟩
structure OwPri (E : TypeId) (w : World) (lo hi : Nat) (v : Value) (ps : List Pri) : Prop where
  own : w.ownsRow lo E 2 v ps.length (pricells ps)
  lt : ∀ g, v.ownBlock = some g → g < hi
  top : hi ≤ w.heap.size
theorem OwPri.new {E : TypeId} {w : World} {lo : Nat} {v : Value} {ps : List Pri} (h : w.ownsRow lo E 2 v ps.length (pricells ps)) : OwPri E w lo w.heap.size v ps := ⟨h, fun g e => (ownr_block h g e).2, Nat.le_refl _⟩
theorem OwPri.below {E : TypeId} {w w' : World} {lo hi : Nat} {v : Value} {ps : List Pri} (h : OwPri E w lo hi v ps) (hb : Below w.heap.size w w') : OwPri E w' lo hi v ps := ⟨ownr_below h.own hb, h.lt, Nat.le_trans h.top hb.size⟩
theorem OwPri.ints {E : TypeId} {w : World} {lo hi : Nat} {A : Option Addr} {n c : Nat} {ps : List Pri} (h : OwPri E w lo hi (.slice A n c) ps) : PrisAt w w.heap.size A n ps := by
  have hn := ownr_len h.own
  subst hn
  exact ⟨rfl, ownr_cells h.own⟩
theorem OwPri.sl {E : TypeId} {w : World} {lo hi : Nat} {A : Option Addr} {n c : Nat} {ps : List Pri} (h : OwPri E w lo hi (.slice A n c) ps) (hn : n ≤ 4294967296) (hw : ∀ p ∈ ps, p.wf) : SlPri w A n c ps :=
  ⟨h.ints, ownr_nilcap h.own, hn, ownr_cap h.own, hw⟩
theorem OwPri.part {E : TypeId} {w w' : World} {lo hi l h' : Nat} {v : Value} {ps : List Pri} (h : OwPri E w lo hi v ps) (hp : Part l h' w w') (hd : hi ≤ l ∨ h' ≤ lo) : OwPri E w' lo hi v ps := by
  refine ⟨⟨h.own.1, ?_⟩, h.lt, Nat.le_trans h.top hp.size⟩
  rcases h.own.2 with h2 | ⟨g, cap, cur, rfl, hl, hg, r⟩
  · exact .inl h2
  · have hlt := h.lt g rfl
    have htop := h.top
    exact .inr ⟨g, cap, cur, rfl, hl, (hp.block g (by omega) (by omega)).trans hg, r⟩
end Go.Proofs.Ytblilnfkpfjclaa

/- Window as Lean data; rows of them, and the laws' helpers for these (written by gentype.py). -/
namespace Go.Proofs.Ytblilnfkpfjclaa
open Go.RowKit
set_option linter.unusedVariables false

structure Wdw where
  frm : Int
  long : Int
deriving DecidableEq
def Wdw.cells (p : Wdw) : List Value := [.int .i64 p.frm, .int .i64 p.long]
def Wdw.val (p : Wdw) : Value := .agg #[.int .i64 p.frm, .int .i64 p.long]
def Wdw.wf (p : Wdw) : Prop := (Lit.int .i64 p.frm).wf = true ∧ (Lit.int .i64 p.long).wf = true
def wdwcells (ps : List Wdw) : List Value := ps.flatMap Wdw.cells
theorem wdwcells_length (ps : List Wdw) : (wdwcells ps).length = ps.length * 2 := flat_length (f := Wdw.cells) (fun _ => rfl) ps
theorem wdwcells_take {ps : List Wdw} {k : Nat} {p : Wdw} (h : ps[k]? = some p) : wdwcells (ps.take (k + 1)) = wdwcells (ps.take k) ++ p.cells := by
  unfold wdwcells
  rw [List.take_add_one, h, List.flatMap_append]
  simp
theorem wdwcells_one (ps : List Wdw) : ∀ u ∈ wdwcells ps, u.oneCell' = true := by
  intro u hu
  obtain ⟨p, _, hp⟩ := List.mem_flatMap.1 hu
  simp only [Wdw.cells, List.mem_cons, List.not_mem_nil, or_false] at hp
  rcases hp with rfl | rfl <;> rfl
theorem wdwcells_put {ps : List Wdw} {zs : List Value} {k : Nat} {p : Wdw} (h : ps[k]? = some p) (hz : k * 2 + 2 ≤ zs.length) :
    ((wdwcells (ps.take k) ++ zs.drop (k * 2)).set (k * 2) (.int .i64 p.frm)).set (k * 2 + 1) (.int .i64 p.long) = wdwcells (ps.take (k + 1)) ++ zs.drop ((k + 1) * 2) := by
  obtain ⟨z0, z1, hd⟩ := drop2 hz
  have hk := (List.getElem?_eq_some_iff.1 h).1
  rw [hd, set2 (by rw [wdwcells_length, List.length_take]; omega), wdwcells_take h]
  simp [Wdw.cells, Nat.add_mul]
def WdwsAt (w : World) (B : Nat) (A : Option Addr) (n : Nat) (ps : List Wdw) : Prop := ps.length = n ∧ CellsAt w B A (n * 2) (wdwcells ps)
theorem WdwsAt.keep {w w' : World} {B : Nat} {A : Option Addr} {n : Nat} {ps : List Wdw} (h : WdwsAt w B A n ps) (hk : ∀ p : Addr, p.block < B → w'.cell? p = w.cell? p) : WdwsAt w' B A n ps := ⟨h.1, h.2.keep hk⟩
theorem WdwsAt.below {w w' : World} {B : Nat} {A : Option Addr} {n : Nat} {ps : List Wdw} (h : WdwsAt w B A n ps) (hb : Below B w w') : WdwsAt w' B A n ps := ⟨h.1, h.2.below hb⟩
theorem WdwsAt.up {w : World} {B B' : Nat} {A : Option Addr} {n : Nat} {ps : List Wdw} (h : WdwsAt w B A n ps) (hB : B ≤ B') : WdwsAt w B' A n ps := ⟨h.1, h.2.up hB⟩
structure WdwAt (w : World) (q : Addr) (p : Wdw) : Prop where
  c0 : w.cell? q = some (.int .i64 p.frm)
  c1 : w.cell? ⟨q.block, q.off + 1, none⟩ = some (.int .i64 p.long)
theorem WdwAt.keep {w w' : World} {q : Addr} {p : Wdw} (h : WdwAt w q p) (e : w'.heap[q.block]? = w.heap[q.block]?) : WdwAt w' q p :=
  ⟨(World.cell?_of_block e).trans h.c0, (World.cell?_of_block (a := ⟨q.block, q.off + 1, none⟩) e).trans h.c1⟩
theorem WdwAt.below {w w' : World} {q : Addr} {p : Wdw} {B : Nat} (h : WdwAt w q p) (hb : Below B w w') (hB : q.block < B) : WdwAt w' q p := h.keep (hb.block _ hB)
theorem wdw_head {w : World} {g : Nat} {p : Wdw} (h : WdwAt w ⟨g, 0, none⟩ p) : w.cell? ⟨g, 0, none⟩ = some (.int .i64 p.frm) ∧ w.cell? ⟨g, 1, none⟩ = some (.int .i64 p.long) := ⟨h.c0, h.c1⟩
theorem wdw_of_block {w : World} {g : Nat} {p : Wdw} {E : TypeId} {fr : Nat × Nat} (h : w.heap[g]? = some (.cells #[.int .i64 p.frm, .int .i64 p.long] E fr)) : WdwAt w ⟨g, 0, none⟩ p :=
  ⟨by rw [cell_of_row w g 0 _ E fr h]; rfl, by rw [cell_of_row w g _ _ E fr h]; rfl⟩
theorem WdwsAt.at {w : World} {B : Nat} {A : Option Addr} {n : Nat} {ps : List Wdw} (h : WdwsAt w B A n ps) {k : Nat} (hk : k < n) : ∃ ad p, A = some ad ∧ (ad.add (k * 2)).block < B ∧ ps[k]? = some p ∧ WdwAt w (ad.add (k * 2)) p := by
  obtain ⟨hl, _, hc⟩ := h
  obtain ⟨ad, e, hb, hc⟩ := hc (by omega)
  have hp : ps[k]? = some ps[k] := List.getElem?_eq_getElem (by omega)
  have hg := fun i (hi : i < 2) => flat_get (f := Wdw.cells) (fun _ => rfl) ps k i _ hp hi
  have ha := fun i (hi : 0 < i) => (add_add ad (k * 2) i).symm.trans (add_plusF _ i hi)
  refine ⟨ad, ps[k], e, by rw [add_block]; exact hb, hp, hc _ _ (hg 0 (by decide)), ?_⟩
  · rw [← ha 1 (by decide)]; exact hc _ _ (hg 1 (by decide))
theorem law_toWindow (p : Wdw) (w : World) : Calls Try.prog 39 #[p.val] w fun e w' => e = .returned p.val ∧ Below w.heap.size w w' := by
  obtain ⟨a, b⟩ := p
  simp only [Wdw.val]
  go_enter Try.func39, Try.ntmps39
  go_wp2
  refine bodyPost_ret (by rw [results_cell rfl]; go_simp; try rfl) rfl ?_
  exact ⟨rfl, ((((Below.refl _ _).alloc (Nat.le_refl _) _).alloc (by simp) _).alloc (by simp; omega) _)⟩
theorem info_wdw : (Try.prog.info? 55).map (fun i => (i.zero, i.size, i.bytes)) = some (some (.agg #[.int .i64 0, .int .i64 0]), 2, 16) := by kernel_rfl
theorem made_wdw (n : Nat) : (madeCells (Value.agg #[Value.int .i64 0, Value.int .i64 0]).cells (n * 2)).toList = wdwcells (List.replicate n ⟨0, 0⟩) := by
  have h : (Value.agg #[Value.int .i64 0, Value.int .i64 0]).cells = #[Value.int .i64 0, Value.int .i64 0] := rfl
  rw [h]
  apply List.ext_getElem?
  intro i
  simp only [madeCells, Array.toList_map, List.getElem?_map]
  by_cases hi : i < n * 2
  · have hg := flat_get (f := Wdw.cells) (fun _ => rfl) (List.replicate n ⟨0, 0⟩) (i / 2) (i % 2) ⟨0, 0⟩ (by rw [List.getElem?_replicate, if_pos (by omega)]) (Nat.mod_lt _ (by decide))
    rw [show i / 2 * 2 + i % 2 = i by omega] at hg
    unfold wdwcells
    rw [hg]
    have h4 : i % 2 = 0 ∨ i % 2 = 1 := by omega
    rcases h4 with h4 | h4 <;> simp [hi, h4, Wdw.cells]
  · rw [List.getElem?_eq_none (l := wdwcells _) (by rw [wdwcells_length, List.length_replicate]; omega)]
    simp [hi]
theorem law_toWindowS (A : Option Addr) (n c B : Nat) (ps : List Wdw) (w : World) (h : WdwsAt w B A n ps) (hB : B ≤ w.heap.size) (hn : n ≤ 4294967296) :
    Calls Try.prog 45 #[.slice A n c] w fun e w' => e = .returned (.slice (some ⟨w.heap.size, 0, none⟩) n n) ∧ w'.ownsRow w.heap.size 55 2 (.slice (some ⟨w.heap.size, 0, none⟩) n n) n (wdwcells ps) ∧ Below w.heap.size w w' := by
  have hl := h.1
  go_enter Try.func45, Try.ntmps45
  go_wp2_with ((with_reducible show wpList _ _ _ _ _ _); refine wpList_mkR rfl _ _ _ rfl 55 _ 2 _ Try.underlying63 info_wdw (by decide) (n : Int) (n : Int) n rfl rfl rfl rfl (by omega) ?_; intro w1 hown hgrow)
  go_loopw [4] (fun i wr => ∃ k : Nat, k ≤ n ∧ i = .int .i64 k ∧ wr.ownsRow w.heap.size 55 2 (.slice (some ⟨w.heap.size, 0, none⟩) n n) n (wdwcells (ps.take k) ++ (wdwcells (List.replicate n ⟨0, 0⟩)).drop (k * 2)) ∧ Below w.heap.size w wr) (fun i _ => n - (intOf i).toNat)
  case atStart => exact ⟨0, Nat.zero_le _, rfl, by rw [made_wdw] at hown; simpa [wdwcells] using hown, below_grown hgrow⟩
  case round =>
    obtain ⟨k, hk, rfl, hown, hbl⟩ := hrel
    by_cases hlt : k < n
    · obtain ⟨ad, p, rfl, hab, hp, hq⟩ := h.at hlt
      obtain ⟨c0, c1⟩ := hq.below hbl (by omega)
      go_wp2_with fail
      refine (law_toWindow p _).mono ?_
      rintro e w2 ⟨rfl, hb2⟩
      have hown2 := ownr_below hown hb2
      obtain ⟨x0, hx0⟩ := ownr_some hown2 (j := k * 2) (by omega)
      obtain ⟨x1, hx1⟩ := ownr_some hown2 (j := k * 2 + 1) (by omega)
      have f0 := World.ownsRow.frozenAt hown2
      have hst := (World.ownsRow.stored (World.ownsRow.stored hown2 (k * 2) (.int .i64 p.frm)).1 (k * 2 + 1) (.int .i64 p.long)).1
      rw [wdwcells_put hp (by rw [wdwcells_length, List.length_replicate]; omega)] at hst
      have HS := Lib.hid hst
      have HB := Lib.hid (hbl.trans (hb2.mono hbl.size))
      simp only [Wdw.val]
      clear hown hown2 hbl hb2 hst hq
      go_wp2
      go_roundw
      case rel => exact ⟨k + 1, by omega, by go_num, HS.out, ((HB.out.setCell (Nat.le_refl _) _).setCell (Nat.le_refl _) _)⟩
      case measure => simp [intOf]; omega
    · obtain rfl : k = n := by omega
      rw [List.take_of_length_le (by omega), List.drop_of_length_le (by rw [wdwcells_length, List.length_replicate]; exact Nat.le_refl _), List.append_nil] at hown
      go_wp2
      go_ret
      exact ⟨rfl, hown, hbl⟩
theorem law_eqWindow (p q : Wdw) (w : World) : Calls Try.prog 103 #[p.val, q.val] w fun e w' => e = .returned (.bool (decide (p = q))) ∧ Below w.heap.size w w' := by
  obtain ⟨a, b⟩ := p
  obtain ⟨a', b'⟩ := q
  simp only [Wdw.val, Wdw.mk.injEq]
  have hb0 := ((Below.refl w.heap.size w).alloc (Nat.le_refl _) (.cells #[.int .i64 a, .int .i64 b] 55)).alloc (by simp) (.cells #[.int .i64 a', .int .i64 b'] 55)
  have HB := Lib.hid hb0
  clear hb0
  by_cases h0 : a = a'
  rotate_left
  · have e0 : (a != a') = true := by simpa using h0
    go_enter Try.func103, Try.ntmps103
    go_wp2
    go_ret
    exact ⟨by simp [h0], HB.out⟩
  subst h0
  by_cases h1 : b = b'
  rotate_left
  · have e0 : (b != b') = true := by simpa using h1
    go_enter Try.func103, Try.ntmps103
    go_wp2
    go_ret
    exact ⟨by simp [h1], HB.out⟩
  subst h1
  go_enter Try.func103, Try.ntmps103
  go_wp2
  go_ret
  exact ⟨by simp, HB.out⟩
theorem same_wdw (p : Wdw) (w : World) : Calls Try.prog 103 #[p.val, p.val] w fun e w' => e = .returned (.bool true) ∧ Below w.heap.size w w' := (law_eqWindow p p w).mono fun e w' ⟨he, hb⟩ => ⟨by rw [he, decide_eq_true rfl], hb⟩
theorem law_eqWindowS (A : Option Addr) (n c B : Nat) (ps : List Wdw) (A2 : Option Addr) (n2 c2 B2 : Nat) (qs : List Wdw) (w : World) (h : WdwsAt w B A n ps) (h2 : WdwsAt w B2 A2 n2 qs) (hB : B ≤ w.heap.size) (hB2 : B2 ≤ w.heap.size) (hn : n ≤ 4294967296) (hn2 : n2 ≤ 4294967296) :
    Calls Try.prog 47 #[.slice A n c, .slice A2 n2 c2] w fun e w' => e = .returned (.bool (decide (ps = qs))) ∧ Below w.heap.size w w' := by
  have hl := h.1
  have hl2 := h2.1
  by_cases hne : n = n2
  · subst hne
    go_enter Try.func47, Try.ntmps47
    go_wp2
    go_loopw [5] (fun i wr => ∃ k : Nat, k ≤ n ∧ i = .int .i64 k ∧ ps.take k = qs.take k ∧ Below w.heap.size w wr) (fun i _ => n - (intOf i).toNat)
    case atStart => exact ⟨0, Nat.zero_le _, rfl, by simp, Below.refl _ _⟩
    case round =>
      obtain ⟨k, hk, rfl, hsame, hbl⟩ := hrel
      by_cases hlt : k < n
      · obtain ⟨ad, p, rfl, hab, hp, hq⟩ := h.at hlt
        obtain ⟨ad2, q, rfl, hab2, hp2, hq2⟩ := h2.at hlt
        replace hq := hq.below hbl (by omega)
        replace hq2 := hq2.below hbl (by omega)
        have i1 : (0 : Int) ≤ (k : Int) := by omega
        have i2 : (k : Int) < (n : Int) := by omega
        have hsz := hbl.size
        go_wp2
        go_region_held3 (fun W' => W'.cell? (ad.add (k * 2)) = some (.int .i64 p.frm) ∧ W'.cell? ⟨(ad.add (k * 2)).block, (ad.add (k * 2)).off + 1, none⟩ = some (.int .i64 p.long) ∧
            W'.cell? (ad2.add (k * 2)) = some (.int .i64 q.frm) ∧ W'.cell? ⟨(ad2.add (k * 2)).block, (ad2.add (k * 2)).off + 1, none⟩ = some (.int .i64 q.long))
          (first | exact ⟨hq.c0, hq.c1, hq2.c0, hq2.c1⟩ | exact ⟨hr.c0, hr.c1, hr2.c0, hr2.c1⟩ | fail "keep")
          (first
            | (go_at_call 103; refine (law_eqWindow p q _).mono ?_; rintro e w3 ⟨rfl, hb3⟩; have hb3' : Below wr.heap.size wr w3 := below_undrew hb3; have hr := hq.below hb3' (by omega); have hr2 := hq2.below hb3' (by omega)))
        have HB := Lib.hid (hbl.trans (hb3'.mono hsz))
        clear hq hq2 hr hr2 hb3 hb3' hbl
        by_cases hpq : p = q
        · have HT : Hid (ps.take (k + 1) = qs.take (k + 1)) := Lib.hid (by rw [List.take_add_one, List.take_add_one, hsame, hp, hp2, hpq])
          rw [decide_eq_true hpq]
          clear hsame hp hp2
          go_wp2
          go_roundw
          case rel => exact ⟨k + 1, by omega, by go_num, HT.out, HB.out⟩
          case measure => simp [intOf]; omega
        · have HN : Hid (decide (ps = qs) = false) := Lib.hid (by rw [decide_eq_false_iff_not]; rintro rfl; rw [hp] at hp2; exact hpq (Option.some.inj hp2))
          rw [decide_eq_false hpq]
          clear hsame hp hp2
          go_wp2
          go_ret
          exact ⟨by rw [HN.out]; rfl, HB.out⟩
      · obtain rfl : k = n := by omega
        have HN : Hid (decide (ps = qs) = true) := Lib.hid (by rw [decide_eq_true_eq]; rwa [List.take_of_length_le (by omega), List.take_of_length_le (by omega)] at hsame)
        go_wp2
        go_ret
        exact ⟨by rw [HN.out]; rfl, hbl⟩
  · have HN : Hid (decide (ps = qs) = false) := Lib.hid (by rw [decide_eq_false_iff_not]; rintro rfl; omega)
    go_enter Try.func47, Try.ntmps47
    go_wp2
    go_ret
    exact ⟨by rw [HN.out]; rfl, Below.refl _ _⟩
theorem sz_wdw (A : Option Addr) (n c : Nat) (left : Int) (w : World) (hn : n ≤ 9223372036854775807) (hl : 0 ≤ left ∧ left ≤ 1048576) :
    Calls Try.prog 43 #[.slice A n c, .int .i64 left] w fun e w' => e = .returned (.int .i64 (if (n : Int) ≤ left then left - (n : Int) else -1)) ∧ w = w' := by
  obtain ⟨l1, l2⟩ := hl
  by_cases h : (n : Int) ≤ left
  · rw [if_pos h]
    go_enter Try.func43, Try.ntmps43
    go_wp2
    go_ret
    exact ⟨rfl, rfl⟩
  · rw [if_neg h]
    go_enter Try.func43, Try.ntmps43
    go_wp2
    go_ret
    exact ⟨rfl, rfl⟩
theorem law_markWindowS (A : Option Addr) (n c lo s : Nat) (vs : List Value) (w : World) (h : w.ownsRow lo 55 2 (.slice A n c) n vs) (hn : n ≤ 4294967296) (hs : s ≤ 70368744177664) :
    Calls Try.prog 50 #[.slice A n c, .int .i64 s] w fun e w' => e = .returned (.int .i64 ((s + n * 2 : Nat) : Int)) ∧ w.grownBy w' (Value.ownBlock (.slice A n c)) := by
  go_enter Try.func50, Try.ntmps50
  go_wp2
  go_loopw [1, 5] (fun x i wr => ∃ k : Nat, k ≤ n ∧ i = .int .i64 k ∧ x = .int .i64 ((s + k * 2 : Nat) : Int) ∧ (∃ vs', wr.ownsRow lo 55 2 (.slice A n c) n vs') ∧ w.grownBy wr (Value.ownBlock (.slice A n c))) (fun _ i _ => n - (intOf i).toNat)
  case atStart => exact ⟨0, Nat.zero_le _, rfl, by simp, ⟨vs, h⟩, World.grownBy.refl _ _⟩
  case round =>
    obtain ⟨k, hk, rfl, rfl, ⟨vs', hown⟩, hbl⟩ := hrel
    by_cases hlt : k < n
    · rcases ownr_shape hown with ⟨e, he⟩ | ⟨g, cap, e, hg, hgs, _⟩
      · omega
      injection e with e1 _ e3
      obtain rfl := e1
      obtain ⟨x0, hx0⟩ := ownr_some hown (j := k * 2) (by omega)
      obtain ⟨x1, hx1⟩ := ownr_some hown (j := k * 2 + 1) (by omega)
      have f0 := World.ownsRow.frozenAt hown
      have hst := (World.ownsRow.stored (World.ownsRow.stored hown (k * 2) (.int .i64 ((s : Int) + (k : Int) * 2))).1 (k * 2 + 1) (.int .i64 ((s : Int) + (k : Int) * 2 + 1))).1
      have HS := Lib.hid hst
      have HG := Lib.hid hbl
      clear hown hbl hst
      go_wp2
      go_roundw
      case rel => exact ⟨k + 1, by omega, by go_num, by go_num, ⟨_, HS.out⟩, (only_setCell (only_setCell HG.out _ _) _ _)⟩
      case measure => simp [intOf]; omega
    · obtain rfl : k = n := by omega
      go_wp2
      go_ret
      exact ⟨rfl, hbl⟩
structure SlWdw (w : World) (A : Option Addr) (n c : Nat) (ps : List Wdw) : Prop where
  pths : WdwsAt w w.heap.size A n ps
  bare : A = none → n = 0 ∧ c = 0
  small : n ≤ 4294967296
  cap : n ≤ c ∧ c ≤ maxLen
  wf : ∀ p ∈ ps, p.wf
theorem SlWdw.len {w : World} {A : Option Addr} {n c : Nat} {ps : List Wdw} (h : SlWdw w A n c ps) : ps.length = n := h.pths.1
theorem SlWdw.below {w w' : World} {A : Option Addr} {n c : Nat} {ps : List Wdw} (h : SlWdw w A n c ps) (hb : Below w.heap.size w w') : SlWdw w' A n c ps :=
  ⟨(h.pths.below hb).up hb.size, h.bare, h.small, h.cap, h.wf⟩
structure OwWdw (E : TypeId) (w : World) (lo hi : Nat) (v : Value) (ps : List Wdw) : Prop where
  own : w.ownsRow lo E 2 v ps.length (wdwcells ps)
  lt : ∀ g, v.ownBlock = some g → g < hi
  top : hi ≤ w.heap.size
theorem OwWdw.new {E : TypeId} {w : World} {lo : Nat} {v : Value} {ps : List Wdw} (h : w.ownsRow lo E 2 v ps.length (wdwcells ps)) : OwWdw E w lo w.heap.size v ps := ⟨h, fun g e => (ownr_block h g e).2, Nat.le_refl _⟩
theorem OwWdw.below {E : TypeId} {w w' : World} {lo hi : Nat} {v : Value} {ps : List Wdw} (h : OwWdw E w lo hi v ps) (hb : Below w.heap.size w w') : OwWdw E w' lo hi v ps := ⟨ownr_below h.own hb, h.lt, Nat.le_trans h.top hb.size⟩
theorem OwWdw.ints {E : TypeId} {w : World} {lo hi : Nat} {A : Option Addr} {n c : Nat} {ps : List Wdw} (h : OwWdw E w lo hi (.slice A n c) ps) : WdwsAt w w.heap.size A n ps := by
  have hn := ownr_len h.own
  subst hn
  exact ⟨rfl, ownr_cells h.own⟩
theorem OwWdw.sl {E : TypeId} {w : World} {lo hi : Nat} {A : Option Addr} {n c : Nat} {ps : List Wdw} (h : OwWdw E w lo hi (.slice A n c) ps) (hn : n ≤ 4294967296) (hw : ∀ p ∈ ps, p.wf) : SlWdw w A n c ps :=
  ⟨h.ints, ownr_nilcap h.own, hn, ownr_cap h.own, hw⟩
theorem OwWdw.part {E : TypeId} {w w' : World} {lo hi l h' : Nat} {v : Value} {ps : List Wdw} (h : OwWdw E w lo hi v ps) (hp : Part l h' w w') (hd : hi ≤ l ∨ h' ≤ lo) : OwWdw E w' lo hi v ps := by
  refine ⟨⟨h.own.1, ?_⟩, h.lt, Nat.le_trans h.top hp.size⟩
  rcases h.own.2 with h2 | ⟨g, cap, cur, rfl, hl, hg, r⟩
  · exact .inl h2
  · have hlt := h.lt g rfl
    have htop := h.top
    exact .inr ⟨g, cap, cur, rfl, hl, (hp.block g (by omega) (by omega)).trans hg, r⟩
theorem to_wdw (A : Option Addr) (n c B : Nat) (ps : List Wdw) (w : World) (h : WdwsAt w B A n ps) (hB : B ≤ w.heap.size) (hn : n ≤ 1048576) :
    Calls Try.prog 45 #[.slice A n c] w fun e w' => e = .returned (.slice (some ⟨w.heap.size, 0, none⟩) n n) ∧ w'.ownsRow w.heap.size 55 2 (.slice (some ⟨w.heap.size, 0, none⟩) n n) ps.length (wdwcells ps) ∧ Below w.heap.size w w' := by
  have hl := h.1
  refine (law_toWindowS A n c B ps w h hB (by omega)).mono fun e w' ⟨h1, h2, h3⟩ => ⟨h1, ?_, h3⟩
  rw [hl]
  exact h2
theorem eqs_wdw (A : Option Addr) (n c : Nat) (ps : List Wdw) (A2 : Option Addr) (n2 c2 : Nat) (w : World) (h : WdwsAt w w.heap.size A n ps) (h2 : WdwsAt w w.heap.size A2 n2 ps) (hn : n ≤ 1048576) (hn2 : n2 ≤ 1048576) :
    Calls Try.prog 47 #[.slice A n c, .slice A2 n2 c2] w fun e w' => e = .returned (.bool true) ∧ Below w.heap.size w w' :=
  (law_eqWindowS A n c _ ps A2 n2 c2 _ ps w h h2 (Nat.le_refl _) (Nat.le_refl _) (by omega) (by omega)).mono fun e w' ⟨he, hb⟩ => ⟨by rw [he, decide_eq_true rfl], hb⟩
theorem marked_wdw (A : Option Addr) (n c lo hi s : Nat) (ps : List Wdw) (w : World) (h : OwWdw 55 w lo hi (.slice A n c) ps) (hn : n ≤ 1048576) (hs : s ≤ 70368744177664) :
    Calls Try.prog 50 #[.slice A n c, .int .i64 s] w fun e w' => e = .returned (.int .i64 ((s + n * 2 : Nat) : Int)) ∧ Part lo hi w w' := by
  have hl := ownr_len h.own
  refine (law_markWindowS A n c lo s (wdwcells ps) w (by have h2 := h.own; rw [← hl] at h2; exact h2) (by omega) hs).mono fun e w' ⟨he, hg⟩ => ⟨he, ⟨hg.os, hg.tape, hg.output, hg.size, fun i hi' hd => hg.block i hi' fun e => ?_⟩⟩
  have h1 := h.lt i e.symm
  have h2 := (ownr_block h.own i e.symm).1
  omega
end Go.Proofs.Ytblilnfkpfjclaa

/- Tally as Lean data; rows of them, and the laws' helpers for these (written by gentype.py). -/
namespace Go.Proofs.Ytblilnfkpfjclaa
open Go.RowKit
set_option linter.unusedVariables false

structure Tly where
  inn : Int
  out : Int
  room : Int
deriving DecidableEq
def Tly.cells (p : Tly) : List Value := [.int .i64 p.inn, .int .i64 p.out, .int .i64 p.room]
def Tly.val (p : Tly) : Value := .agg #[.int .i64 p.inn, .int .i64 p.out, .int .i64 p.room]
def Tly.wf (p : Tly) : Prop := (Lit.int .i64 p.inn).wf = true ∧ (Lit.int .i64 p.out).wf = true ∧ (Lit.int .i64 p.room).wf = true
def tlycells (ps : List Tly) : List Value := ps.flatMap Tly.cells
theorem tlycells_length (ps : List Tly) : (tlycells ps).length = ps.length * 3 := flat_length (f := Tly.cells) (fun _ => rfl) ps
theorem tlycells_take {ps : List Tly} {k : Nat} {p : Tly} (h : ps[k]? = some p) : tlycells (ps.take (k + 1)) = tlycells (ps.take k) ++ p.cells := by
  unfold tlycells
  rw [List.take_add_one, h, List.flatMap_append]
  simp
theorem tlycells_one (ps : List Tly) : ∀ u ∈ tlycells ps, u.oneCell' = true := by
  intro u hu
  obtain ⟨p, _, hp⟩ := List.mem_flatMap.1 hu
  simp only [Tly.cells, List.mem_cons, List.not_mem_nil, or_false] at hp
  rcases hp with rfl | rfl | rfl <;> rfl
theorem tlycells_put {ps : List Tly} {zs : List Value} {k : Nat} {p : Tly} (h : ps[k]? = some p) (hz : k * 3 + 3 ≤ zs.length) :
    (((tlycells (ps.take k) ++ zs.drop (k * 3)).set (k * 3) (.int .i64 p.inn)).set (k * 3 + 1) (.int .i64 p.out)).set (k * 3 + 2) (.int .i64 p.room) = tlycells (ps.take (k + 1)) ++ zs.drop ((k + 1) * 3) := by
  obtain ⟨z0, z1, z2, hd⟩ := drop3 hz
  have hk := (List.getElem?_eq_some_iff.1 h).1
  rw [hd, set3 (by rw [tlycells_length, List.length_take]; omega), tlycells_take h]
  simp [Tly.cells, Nat.add_mul]
def TlysAt (w : World) (B : Nat) (A : Option Addr) (n : Nat) (ps : List Tly) : Prop := ps.length = n ∧ CellsAt w B A (n * 3) (tlycells ps)
theorem TlysAt.keep {w w' : World} {B : Nat} {A : Option Addr} {n : Nat} {ps : List Tly} (h : TlysAt w B A n ps) (hk : ∀ p : Addr, p.block < B → w'.cell? p = w.cell? p) : TlysAt w' B A n ps := ⟨h.1, h.2.keep hk⟩
theorem TlysAt.below {w w' : World} {B : Nat} {A : Option Addr} {n : Nat} {ps : List Tly} (h : TlysAt w B A n ps) (hb : Below B w w') : TlysAt w' B A n ps := ⟨h.1, h.2.below hb⟩
theorem TlysAt.up {w : World} {B B' : Nat} {A : Option Addr} {n : Nat} {ps : List Tly} (h : TlysAt w B A n ps) (hB : B ≤ B') : TlysAt w B' A n ps := ⟨h.1, h.2.up hB⟩
structure TlyAt (w : World) (q : Addr) (p : Tly) : Prop where
  c0 : w.cell? q = some (.int .i64 p.inn)
  c1 : w.cell? ⟨q.block, q.off + 1, none⟩ = some (.int .i64 p.out)
  c2 : w.cell? ⟨q.block, q.off + 2, none⟩ = some (.int .i64 p.room)
theorem TlyAt.keep {w w' : World} {q : Addr} {p : Tly} (h : TlyAt w q p) (e : w'.heap[q.block]? = w.heap[q.block]?) : TlyAt w' q p :=
  ⟨(World.cell?_of_block e).trans h.c0, (World.cell?_of_block (a := ⟨q.block, q.off + 1, none⟩) e).trans h.c1, (World.cell?_of_block (a := ⟨q.block, q.off + 2, none⟩) e).trans h.c2⟩
theorem TlyAt.below {w w' : World} {q : Addr} {p : Tly} {B : Nat} (h : TlyAt w q p) (hb : Below B w w') (hB : q.block < B) : TlyAt w' q p := h.keep (hb.block _ hB)
theorem tly_head {w : World} {g : Nat} {p : Tly} (h : TlyAt w ⟨g, 0, none⟩ p) : w.cell? ⟨g, 0, none⟩ = some (.int .i64 p.inn) ∧ w.cell? ⟨g, 1, none⟩ = some (.int .i64 p.out) ∧ w.cell? ⟨g, 2, none⟩ = some (.int .i64 p.room) := ⟨h.c0, h.c1, h.c2⟩
theorem tly_of_block {w : World} {g : Nat} {p : Tly} {E : TypeId} {fr : Nat × Nat} (h : w.heap[g]? = some (.cells #[.int .i64 p.inn, .int .i64 p.out, .int .i64 p.room] E fr)) : TlyAt w ⟨g, 0, none⟩ p :=
  ⟨by rw [cell_of_row w g 0 _ E fr h]; rfl, by rw [cell_of_row w g _ _ E fr h]; rfl, by rw [cell_of_row w g _ _ E fr h]; rfl⟩
theorem TlysAt.at {w : World} {B : Nat} {A : Option Addr} {n : Nat} {ps : List Tly} (h : TlysAt w B A n ps) {k : Nat} (hk : k < n) : ∃ ad p, A = some ad ∧ (ad.add (k * 3)).block < B ∧ ps[k]? = some p ∧ TlyAt w (ad.add (k * 3)) p := by
  obtain ⟨hl, _, hc⟩ := h
  obtain ⟨ad, e, hb, hc⟩ := hc (by omega)
  have hp : ps[k]? = some ps[k] := List.getElem?_eq_getElem (by omega)
  have hg := fun i (hi : i < 3) => flat_get (f := Tly.cells) (fun _ => rfl) ps k i _ hp hi
  have ha := fun i (hi : 0 < i) => (add_add ad (k * 3) i).symm.trans (add_plusF _ i hi)
  refine ⟨ad, ps[k], e, by rw [add_block]; exact hb, hp, hc _ _ (hg 0 (by decide)), ?_, ?_⟩
  · rw [← ha 1 (by decide)]; exact hc _ _ (hg 1 (by decide))
  · rw [← ha 2 (by decide)]; exact hc _ _ (hg 2 (by decide))
structure SlTly (w : World) (A : Option Addr) (n c : Nat) (ps : List Tly) : Prop where
  pths : TlysAt w w.heap.size A n ps
  bare : A = none → n = 0 ∧ c = 0
  small : n ≤ 4294967296
  cap : n ≤ c ∧ c ≤ maxLen
  wf : ∀ p ∈ ps, p.wf
theorem SlTly.len {w : World} {A : Option Addr} {n c : Nat} {ps : List Tly} (h : SlTly w A n c ps) : ps.length = n := h.pths.1
theorem SlTly.below {w w' : World} {A : Option Addr} {n c : Nat} {ps : List Tly} (h : SlTly w A n c ps) (hb : Below w.heap.size w w') : SlTly w' A n c ps :=
  ⟨(h.pths.below hb).up hb.size, h.bare, h.small, h.cap, h.wf⟩
structure OwTly (E : TypeId) (w : World) (lo hi : Nat) (v : Value) (ps : List Tly) : Prop where
  own : w.ownsRow lo E 3 v ps.length (tlycells ps)
  lt : ∀ g, v.ownBlock = some g → g < hi
  top : hi ≤ w.heap.size
theorem OwTly.new {E : TypeId} {w : World} {lo : Nat} {v : Value} {ps : List Tly} (h : w.ownsRow lo E 3 v ps.length (tlycells ps)) : OwTly E w lo w.heap.size v ps := ⟨h, fun g e => (ownr_block h g e).2, Nat.le_refl _⟩
theorem OwTly.below {E : TypeId} {w w' : World} {lo hi : Nat} {v : Value} {ps : List Tly} (h : OwTly E w lo hi v ps) (hb : Below w.heap.size w w') : OwTly E w' lo hi v ps := ⟨ownr_below h.own hb, h.lt, Nat.le_trans h.top hb.size⟩
theorem OwTly.ints {E : TypeId} {w : World} {lo hi : Nat} {A : Option Addr} {n c : Nat} {ps : List Tly} (h : OwTly E w lo hi (.slice A n c) ps) : TlysAt w w.heap.size A n ps := by
  have hn := ownr_len h.own
  subst hn
  exact ⟨rfl, ownr_cells h.own⟩
theorem OwTly.sl {E : TypeId} {w : World} {lo hi : Nat} {A : Option Addr} {n c : Nat} {ps : List Tly} (h : OwTly E w lo hi (.slice A n c) ps) (hn : n ≤ 4294967296) (hw : ∀ p ∈ ps, p.wf) : SlTly w A n c ps :=
  ⟨h.ints, ownr_nilcap h.own, hn, ownr_cap h.own, hw⟩
theorem OwTly.part {E : TypeId} {w w' : World} {lo hi l h' : Nat} {v : Value} {ps : List Tly} (h : OwTly E w lo hi v ps) (hp : Part l h' w w') (hd : hi ≤ l ∨ h' ≤ lo) : OwTly E w' lo hi v ps := by
  refine ⟨⟨h.own.1, ?_⟩, h.lt, Nat.le_trans h.top hp.size⟩
  rcases h.own.2 with h2 | ⟨g, cap, cur, rfl, hl, hg, r⟩
  · exact .inl h2
  · have hlt := h.lt g rfl
    have htop := h.top
    exact .inr ⟨g, cap, cur, rfl, hl, (hp.block g (by omega) (by omega)).trans hg, r⟩
end Go.Proofs.Ytblilnfkpfjclaa

/- Small functions of chapters 16, 21, 26: PrioEnds, IsWindow, InWindow, GreatestBand, IsTally, Inside: program and model. -/
namespace Go.Proofs.Ytblilnfkpfjclaa
open Go.RowKit
set_option linter.unusedVariables false

/-- what PrioEnds answers. -/
def prioEnds (r : Pri) : Int := if r.path = 0 then 0 else r.left
/-- what IsWindow answers. -/
def isWin (x : Wdw) (c : Int) : Bool := inB c 1 200 && inB x.frm 0 (c - 1) && inB x.long 0 c
theorem spec_IsWindow (x : Wdw) (c : Int) (w : World) : Calls Try.prog 91 #[x.val, .int .i64 c] w fun e w' => e = .returned (.bool (isWin x c)) ∧ Below w.heap.size w w' := by
  obtain ⟨a, b⟩ := x
  have HR : Hid (isWin ⟨a, b⟩ c = (inB c 1 200 && inB a 0 (c - 1) && inB b 0 c)) := Lib.hid rfl
  simp only [Wdw.val]
  have HB := Lib.hid ((Below.refl w.heap.size w).alloc (Nat.le_refl _) (.cells #[.int .i64 a, .int .i64 b] 55))
  cases h1 : inB c 1 200
  · have H1 := Lib.hid h1
    rw [h1] at HR
    clear h1
    go_enter Try.func91, Try.ntmps91
    go_wp2_with (go_at_call 66; refine (spec_l1In _ _ _ _).mono ?_; rintro e w' ⟨rfl, rfl⟩; rw [H1.out])
    go_ret
    exact ⟨by rw [HR.out]; rfl, HB.out⟩
  obtain ⟨l1, l2⟩ := inB_t h1
  have hwr : IntKind.i64.wrap (c - 1) = c - 1 := by rw [IntKind.wrap_i64]; omega
  cases h2 : inB a 0 (c - 1)
  rotate_left
  cases h3 : inB b 0 c
  all_goals
    rw [h1, h2] at HR
    try rw [h3] at HR
    have H1 := Lib.hid h1
    have H2 := Lib.hid h2
    try have H3 := Lib.hid h3
    clear h1 h2
    try clear h3
    go_enter Try.func91, Try.ntmps91
    go_wp2_with (go_at_call 66; refine (spec_l1In _ _ _ _).mono ?_; rintro e w' ⟨rfl, rfl⟩; first | rw [H1.out] | rw [H2.out] | rw [H3.out])
    go_ret
    exact ⟨by rw [HR.out]; rfl, HB.out⟩
theorem impl_IsWindow (x : Wdw) (c : Int) (w : World) : Calls Try.prog 139 #[x.val, .int .i64 c] w fun e w' => e = .returned (.bool (isWin x c)) ∧ Below w.heap.size w w' := by
  obtain ⟨a, b⟩ := x
  have HR : Hid (isWin ⟨a, b⟩ c = (inB c 1 200 && inB a 0 (c - 1) && inB b 0 c)) := Lib.hid rfl
  simp only [Wdw.val]
  have HB := Lib.hid ((Below.refl w.heap.size w).alloc (Nat.le_refl _) (.cells #[.int .i64 a, .int .i64 b] 55))
  cases h1 : inB c 1 200
  · have H1 := Lib.hid h1
    rw [h1] at HR
    clear h1
    go_enter Try.func139, Try.ntmps139
    go_wp2_with (go_at_call 72; refine (impl_InRange _ _ _ _).mono ?_; rintro e w' ⟨rfl, rfl⟩; rw [H1.out])
    go_ret
    exact ⟨by rw [HR.out]; rfl, HB.out⟩
  obtain ⟨l1, l2⟩ := inB_t h1
  have hwr : IntKind.i64.wrap (c - 1) = c - 1 := by rw [IntKind.wrap_i64]; omega
  cases h2 : inB a 0 (c - 1)
  rotate_left
  cases h3 : inB b 0 c
  all_goals
    rw [h1, h2] at HR
    try rw [h3] at HR
    have H1 := Lib.hid h1
    have H2 := Lib.hid h2
    try have H3 := Lib.hid h3
    clear h1 h2
    try clear h3
    go_enter Try.func139, Try.ntmps139
    go_wp2_with (go_at_call 72; refine (impl_InRange _ _ _ _).mono ?_; rintro e w' ⟨rfl, rfl⟩; first | rw [H1.out] | rw [H2.out] | rw [H3.out])
    go_ret
    exact ⟨by rw [HR.out]; rfl, HB.out⟩
/-- what InWindow answers. -/
def inWin (x : Wdw) (c o s : Int) : Bool := isWin x c && inB o (-1000000) 1000000 && inB s (-1000000) 1000000 && decide (modI (s - o - x.frm) c < x.long)
theorem isWin_facts {x : Wdw} {c : Int} (h : isWin x c = true) : (1 ≤ c ∧ c ≤ 200) ∧ (0 ≤ x.frm ∧ x.frm ≤ c - 1) ∧ 0 ≤ x.long ∧ x.long ≤ c := by
  simp only [isWin, Bool.and_eq_true] at h
  exact ⟨inB_t h.1.1, inB_t h.1.2, inB_t h.2⟩
/-- what GreatestBand answers. -/
def greatB (x y : Wdw) (c : Int) : Int := if isWin x c && isWin y c then minI x.long y.long else 0
end Go.Proofs.Ytblilnfkpfjclaa

/- Chapter 16: IsPrio, AskPrio: program and model. -/
namespace Go.Proofs.Ytblilnfkpfjclaa
open Go.RowKit
set_option linter.unusedVariables false

/-- the kind of the path with this Id is a bus's. -/
def isBusP (ps : List Pth) (id : Int) : Bool := match findK id ps with | none => false | some k => decide ((ps.getD k ⟨0, 0, 0, 0⟩).kind = 3)
/-- what IsPrio answers. -/
def isPri (ps : List Pth) (r : Pri) : Bool := arePs ps && (decide (r = ⟨0, 0⟩) || (isBusP ps r.path && inB r.left 1 20))
set_option maxHeartbeats 1000000 in
theorem impl_isBus (A : Option Addr) (n c B : Nat) (ps : List Pth) (id : Int) (w : World) (h : PthsAt w B A n ps) (hB : B ≤ w.heap.size) (hn : n ≤ 4294967296) :
    Calls Try.prog 62 #[.slice A n c, .int .i64 id] w fun e w' => e = .returned (.bool (isBusP ps id)) ∧ Below w.heap.size w w' := by
  have hf := impl_FindPath A n c B ps id w h hB hn
  have HL := Lib.hid h.1
  cases hk : findK id ps with
  | none =>
    have HV : Hid (isBusP ps id = false) := Lib.hid (by unfold isBusP; rw [hk])
    have hi : findI id ps = -1 := by unfold findI; rw [hk]
    rw [hi] at hf
    clear hk hi
    go_enter Try.func62, Try.ntmps62
    go_wp2_with fail
    refine hf.mono ?_
    rintro e w1 ⟨rfl, hb1⟩
    go_wp2
    go_ret
    exact ⟨by rw [HV.out]; rfl, hb1⟩
  | some k =>
    obtain ⟨p0, hp0, -, -⟩ := findK_at hk
    have hkl : k < n := by have := (List.getElem?_eq_some_iff.1 hp0).1; have := HL.out; omega
    have HV : Hid (isBusP ps id = decide (p0.kind = 3)) := Lib.hid (by unfold isBusP; rw [hk]; simp only [List.getD_eq_getElem?_getD, hp0]; rfl)
    have hi : findI id ps = (k : Int) := by unfold findI; rw [hk]
    rw [hi] at hf
    obtain ⟨ad, p, rfl, hab, hp, hq⟩ := h.at hkl
    rw [hp0] at hp
    cases hp
    have i1 : (0 : Int) ≤ (k : Int) := by omega
    have i2 : (k : Int) < (n : Int) := by omega
    have HQ := Lib.hid hq
    clear hk hi hp0 hq h
    by_cases h3 : p0.kind = 3
    all_goals
      go_enter Try.func62, Try.ntmps62
      go_wp2_with fail
      refine hf.mono ?_
      rintro e w1 ⟨rfl, hb1⟩
      obtain ⟨c0, c1, c2, c3⟩ := HQ.out.below hb1 (by omega)
      have e3 := h3
      go_wp2
      go_ret
      exact ⟨by rw [HV.out]; simp [h3], hb1⟩
theorem eql_pri (a b : Int) (hz : ¬ (a = 0 ∧ b = 0)) (x : World) : (binOp .eql 26 (.agg #[.int .i64 a, .int .i64 b]) (.agg #[.int .i64 0, .int .i64 0])).run Try.prog x = .ok (.bool false) x := by
  have hS : Try.prog.underlying 26 = some (.struct (Try.prog.fieldsOf 26)) := by kernel_rfl
  have hp : Try.prog.stoodInHeld 26 = false := by kernel_rfl
  have u3 := Try.underlying3
  have z3 : Try.prog.cellsOf 3 = 1 := by kernel_rfl
  rw [run_eql_struct, show (10000 : Nat) = 9999 + 1 from rfl, run_equalIn_agg x 9999 26 _ _ hS hp]
  simp only [Program.fieldsOf, Try.underlying26]
  go_simp
  by_cases h1 : a = 0
  · have h2 : ¬ b = 0 := fun e => hz ⟨h1, e⟩
    simp [h1, h2]
  · simp [h1]
set_option maxHeartbeats 2000000 in
theorem impl_IsPrio (A : Option Addr) (n c B : Nat) (ps : List Pth) (r : Pri) (w : World) (h : PthsAt w B A n ps) (hB : B ≤ w.heap.size) (hn : n ≤ 4294967296) :
    Calls Try.prog 60 #[.slice A n c, r.val] w fun e w' => e = .returned (.bool (isPri ps r)) ∧ Below w.heap.size w w' := by
  obtain ⟨a, b⟩ := r
  have HR : Hid (isPri ps ⟨a, b⟩ = (arePs ps && (decide ((⟨a, b⟩ : Pri) = ⟨0, 0⟩) || (isBusP ps a && inB b 1 20)))) := Lib.hid rfl
  simp only [Pri.val]
  obtain ⟨wA, hwA⟩ : ∃ wA, wA = w.alloc (.cells #[.int .i64 a, .int .i64 b] 26) := ⟨_, rfl⟩
  obtain ⟨hk, hsz, hBA⟩ := one_block hwA
  have hA := impl_ArePaths A n c B ps wA (h.below (hBA.mono hB)) (Nat.le_trans hB hBA.size) hn
  have HH := Lib.hid h
  have HK := Lib.hid hk
  have HB := Lib.hid hBA
  have lt0 : w.heap.size < wA.heap.size := by omega
  clear hk hsz hBA h
  cases ha : arePs ps
  · rw [ha] at hA HR
    clear ha
    go_enter Try.func60, Try.ntmps60
    go_wp2_with fail
    rw [← hwA]
    refine hA.mono ?_
    rintro e w1 ⟨rfl, hb1⟩
    clear hwA
    go_wp2
    go_ret
    exact ⟨by rw [HR.out]; rfl, HB.out.trans (hb1.mono HB.out.size)⟩
  rw [ha, Bool.true_and] at HR
  rw [ha] at hA
  clear ha
  by_cases hz : a = 0 ∧ b = 0
  · obtain ⟨rfl, rfl⟩ := hz
    rw [decide_eq_true rfl] at HR
    go_enter Try.func60, Try.ntmps60
    go_wp2_with fail
    rw [← hwA]
    refine hA.mono ?_
    rintro e w1 ⟨rfl, hb1⟩
    clear hwA
    obtain ⟨x0, x1⟩ := pri_head (pri_of_block (p := ⟨0, 0⟩) ((hb1.block _ lt0).trans HK.out))
    simp only at x0 x1
    have HB1 := Lib.hid (HB.out.trans (hb1.mono HB.out.size))
    clear hb1
    go_wp2
    go_ret
    exact ⟨by rw [HR.out]; rfl, HB1.out⟩
  · have hne : (decide ((⟨a, b⟩ : Pri) = ⟨0, 0⟩)) = false := decide_eq_false (by simpa using hz)
    rw [hne, Bool.false_or] at HR
    have heq : ∀ x, (binOp .eql 26 (.agg #[.int .i64 a, .int .i64 b]) (.agg #[.int .i64 0, .int .i64 0])).run Try.prog x = .ok (.bool false) x := fun x => by
      have hS : Try.prog.underlying 26 = some (.struct (Try.prog.fieldsOf 26)) := by kernel_rfl
      have hp : Try.prog.stoodInHeld 26 = false := by kernel_rfl
      have u3 := Try.underlying3
      have z3 : Try.prog.cellsOf 3 = 1 := by kernel_rfl
      rw [run_eql_struct, show (10000 : Nat) = 9999 + 1 from rfl, run_equalIn_agg x 9999 26 _ _ hS hp]
      simp only [Program.fieldsOf, Try.underlying26]
      go_simp
      by_cases h1 : a = 0
      · have h2 : ¬ b = 0 := fun e => hz ⟨h1, e⟩
        simp [h1, h2]
      · simp [h1]
    clear hne hz
    cases hb : isBusP ps a
    · rw [hb] at HR
      go_enter Try.func60, Try.ntmps60
      go_wp2_with fail
      rw [← hwA]
      refine hA.mono ?_
      rintro e w1 ⟨rfl, hb1⟩
      clear hwA
      obtain ⟨x0, x1⟩ := pri_head (pri_of_block (p := ⟨a, b⟩) ((hb1.block _ lt0).trans HK.out))
      simp only at x0 x1
      have HB1 := Lib.hid (HB.out.trans (hb1.mono HB.out.size))
      have hbus := impl_isBus A n c B ps a w1 (HH.out.below (HB1.out.mono hB)) (Nat.le_trans hB HB1.out.size) hn
      rw [hb] at hbus
      clear hb1 hA hb
      go_wp2_with fail
      refine hbus.mono ?_
      rintro e w2 ⟨rfl, hb2⟩
      clear x0 x1
      go_wp2
      go_ret
      exact ⟨by rw [HR.out]; rfl, HB1.out.trans (hb2.mono HB1.out.size)⟩
    · rw [hb, Bool.true_and] at HR
      generalize hv : inB b 1 20 = v at HR
      have HV := Lib.hid hv
      clear hv
      go_enter Try.func60, Try.ntmps60
      go_wp2_with fail
      rw [← hwA]
      refine hA.mono ?_
      rintro e w1 ⟨rfl, hb1⟩
      clear hwA
      obtain ⟨x0, x1⟩ := pri_head (pri_of_block (p := ⟨a, b⟩) ((hb1.block _ lt0).trans HK.out))
      simp only at x0 x1
      have HB1 := Lib.hid (HB.out.trans (hb1.mono HB.out.size))
      have hbus := impl_isBus A n c B ps a w1 (HH.out.below (HB1.out.mono hB)) (Nat.le_trans hB HB1.out.size) hn
      rw [hb] at hbus
      have HK1 := Lib.hid ((hb1.block _ lt0).trans HK.out)
      clear hb1 hA hb
      go_wp2_with fail
      refine hbus.mono ?_
      rintro e w2 ⟨rfl, hb2⟩
      clear x0 x1
      obtain ⟨x0, x1⟩ := pri_head (pri_of_block (p := ⟨a, b⟩) ((hb2.block _ (lt_of_block HK1.out)).trans HK1.out))
      simp only at x0 x1
      have HB2 := Lib.hid (HB1.out.trans (hb2.mono HB1.out.size))
      clear hb2
      go_wp2_with (go_at_call 72; refine (impl_InRange _ _ _ _).mono ?_; rintro e w' ⟨rfl, rfl⟩; rw [HV.out])
      go_ret
      exact ⟨by rw [HR.out]; try rfl, HB2.out⟩
set_option maxHeartbeats 4000000 in
theorem spec_IsPrio (A : Option Addr) (n c B : Nat) (ps : List Pth) (r : Pri) (w : World) (h : PthsAt w B A n ps) (hB : B ≤ w.heap.size) (hn : n ≤ 4294967296) :
    Calls Try.prog 58 #[.slice A n c, r.val] w fun e w' => e = .returned (.bool (isPri ps r)) ∧ Below w.heap.size w w' := by
  obtain ⟨a, b⟩ := r
  have HR : Hid (isPri ps ⟨a, b⟩ = (arePs ps && (decide ((⟨a, b⟩ : Pri) = ⟨0, 0⟩) || (isBusP ps a && inB b 1 20)))) := Lib.hid rfl
  simp only [Pri.val]
  obtain ⟨wA, hwA⟩ : ∃ wA, wA = w.alloc (.cells #[.int .i64 a, .int .i64 b] 26) := ⟨_, rfl⟩
  obtain ⟨hk, hsz, hBA⟩ := one_block hwA
  have hP := h.below (hBA.mono hB)
  have hA := spec_ArePaths A n c B ps wA hP (Nat.le_trans hB hBA.size) hn
  have hF := spec_FindPath A n c B ps a wA hP hn
  have HL := Lib.hid h.1
  have HK := Lib.hid hk
  have HB := Lib.hid hBA
  have lt0 : w.heap.size < wA.heap.size := by omega
  clear hk hsz hBA h
  by_cases hz : a = 0 ∧ b = 0
  · obtain ⟨rfl, rfl⟩ := hz
    rw [decide_eq_true rfl, Bool.true_or, Bool.and_true] at HR
    clear hF
    go_enter Try.func58, Try.ntmps58
    go_wp2_with fail
    rw [← hwA]
    refine hA.mono ?_
    rintro e w1 ⟨rfl, hb1⟩
    clear hwA
    go_wp2
    go_ret
    exact ⟨by rw [HR.out]; rfl, HB.out.trans (hb1.mono HB.out.size)⟩
  have hne : (decide ((⟨a, b⟩ : Pri) = ⟨0, 0⟩)) = false := decide_eq_false (by simpa using hz)
  have heq := fun x => eql_pri a b hz x
  rw [hne, Bool.false_or] at HR
  clear hne hz
  cases ha : arePs ps
  · rw [ha] at hA HR
    clear ha
    go_enter Try.func58, Try.ntmps58
    go_wp2_with fail
    rw [← hwA]
    refine hF.mono ?_
    rintro e w1 ⟨rfl, rfl⟩
    clear hwA
    go_wp2_with fail
    refine hA.mono ?_
    rintro e w1 ⟨rfl, hb1⟩
    go_wp2
    go_ret
    exact ⟨by rw [HR.out]; rfl, HB.out.trans (hb1.mono HB.out.size)⟩
  rw [ha, Bool.true_and] at HR
  rw [ha] at hA
  clear ha
  cases hk : findK a ps with
  | none =>
    have HV : Hid (isPri ps ⟨a, b⟩ = false) := Lib.hid (by rw [HR.out]; unfold isBusP; rw [hk]; rfl)
    have hi : findI a ps = -1 := by unfold findI; rw [hk]
    rw [hi] at hF
    clear hk hi HR
    go_enter Try.func58, Try.ntmps58
    go_wp2_with fail
    rw [← hwA]
    refine hF.mono ?_
    rintro e w1 ⟨rfl, rfl⟩
    clear hwA
    go_wp2_with fail
    refine hA.mono ?_
    rintro e w1 ⟨rfl, hb1⟩
    go_wp2
    go_ret
    exact ⟨by rw [HV.out]; rfl, HB.out.trans (hb1.mono HB.out.size)⟩
  | some k =>
    obtain ⟨p0, hp0, -, -⟩ := findK_at hk
    have hkl : k < n := by have := (List.getElem?_eq_some_iff.1 hp0).1; have := HL.out; omega
    have hbv : isBusP ps a = decide (p0.kind = 3) := by unfold isBusP; rw [hk]; simp only [List.getD_eq_getElem?_getD, hp0]; rfl
    rw [hbv] at HR
    have hi : findI a ps = (k : Int) := by unfold findI; rw [hk]
    rw [hi] at hF
    obtain ⟨ad, p, rfl, hab, hp, hq⟩ := hP.at hkl
    rw [hp0] at hp
    cases hp
    have i1 : (0 : Int) ≤ (k : Int) := by omega
    have i2 : (k : Int) < (n : Int) := by omega
    have HQ := Lib.hid hq
    generalize hv : inB b 1 20 = v at HR
    have HV := Lib.hid hv
    clear hv hk hi hp0 hq hP hbv
    by_cases h3 : p0.kind = 3
    all_goals
      go_enter Try.func58, Try.ntmps58
      go_wp2_with fail
      rw [← hwA]
      refine hF.mono ?_
      rintro e w1 ⟨rfl, rfl⟩
      clear hwA
      go_wp2_with fail
      refine hA.mono ?_
      rintro e w1 ⟨rfl, hb1⟩
      obtain ⟨x0, x1⟩ := pri_head (pri_of_block (p := ⟨a, b⟩) ((hb1.block _ lt0).trans HK.out))
      simp only at x0 x1
      obtain ⟨c0, c1, c2, c3⟩ := HQ.out.below hb1 (by omega)
      have HB1 := Lib.hid (HB.out.trans (hb1.mono HB.out.size))
      clear hb1 hA hF
      go_wp2_with (go_at_call 66; refine (spec_l1In _ _ _ _).mono ?_; rintro e w' ⟨rfl, rfl⟩; rw [HV.out])
      go_ret
      exact ⟨by rw [HR.out]; simp [h3], HB1.out⟩
/-- what AskPrio answers. -/
def askP (ps : List Pth) (r : Pri) (id : Int) : Pri × Bool := if isPri ps r && decide (r.path = 0) && isPri ps ⟨id, 20⟩ then (⟨id, 20⟩, true) else (r, false)
end Go.Proofs.Ytblilnfkpfjclaa

/- Chapter 16: AskPrio: program and model. -/
namespace Go.Proofs.Ytblilnfkpfjclaa
open Go.RowKit
set_option linter.unusedVariables false

theorem cell_allocF {w : World} {a : Addr} {v : Value} (o : Obj) (h : w.cell? a = some v) : (w.alloc o).cell? a = some v := (World.cell?_alloc_some w a o (by rw [h]; rfl)).trans h
theorem farF2 {w : World} {g : Nat} {a b x : Value} {p : Addr} (h : w.cell? p = some x) (hk : p.block ≠ g) : ((w.setCell ⟨g, 0, none⟩ a).setCell ⟨g, 1, none⟩ b).cell? p = some x := by
  rw [World.cell?_setCell_far _ _ _ _ (fun e => hk e.symm), World.cell?_setCell_far _ _ _ _ (fun e => hk e.symm)]
  exact h
theorem isPri_new {ps : List Pth} (id : Int) (h : arePs ps = true) : isPri ps ⟨id, 20⟩ = isBusP ps id := by
  unfold isPri
  rw [h, decide_eq_false (by intro e; cases e), show inB 20 1 20 = true from rfl]
  simp
theorem isPri_are {ps : List Pth} {r : Pri} (h : isPri ps r = true) : arePs ps = true := by
  unfold isPri at h
  simp only [Bool.and_eq_true] at h
  exact h.1
theorem askP_no1 {ps : List Pth} {r : Pri} {id : Int} (h : isPri ps r = false) : askP ps r id = (r, false) := by unfold askP; rw [h]; rfl
theorem askP_no2 {ps : List Pth} {r : Pri} {id : Int} (h : ¬ r.path = 0) : askP ps r id = (r, false) := by unfold askP; rw [decide_eq_false h, Bool.and_false]; rfl
theorem askP_no3 {ps : List Pth} {r : Pri} {id : Int} (h : isPri ps ⟨id, 20⟩ = false) : askP ps r id = (r, false) := by unfold askP; rw [h, Bool.and_false]; rfl
theorem askP_yes {ps : List Pth} {r : Pri} {id : Int} (h : isPri ps r = true) (h2 : r.path = 0) (h3 : isPri ps ⟨id, 20⟩ = true) : askP ps r id = (⟨id, 20⟩, true) := by unfold askP; rw [h, decide_eq_true h2, h3]; rfl
set_option maxHeartbeats 4000000 in
theorem spec_AskPrio (A : Option Addr) (n c B : Nat) (ps : List Pth) (r : Pri) (id : Int) (w : World) (h : PthsAt w B A n ps) (hB : B ≤ w.heap.size) (hn : n ≤ 4294967296) :
    Calls Try.prog 15 #[.slice A n c, r.val, .int .i64 id] w fun e w' => e = .returned (.tuple #[(askP ps r id).1.val, .bool (askP ps r id).2]) ∧ Below w.heap.size w w' := by
  have hA := fun y (hb : Below w.heap.size w y) => spec_IsPrio A n c B ps r y (h.below (hb.mono hB)) (Nat.le_trans hB hb.size) hn
  have hX := fun y (hb : Below w.heap.size w y) => spec_IsPrio A n c B ps ⟨id, 20⟩ y (h.below (hb.mono hB)) (Nat.le_trans hB hb.size) hn
  have hn1 := @askP_no1 ps r id
  have hn2 := @askP_no2 ps r id
  have hn3 := @askP_no3 ps r id
  have hy := @askP_yes ps r id
  generalize askP ps r id = q at hn1 hn2 hn3 hy ⊢
  obtain ⟨a, b⟩ := r
  simp only [Pri.val] at *
  obtain ⟨wA, hwA⟩ : ∃ wA, wA = ((w.alloc (.cells #[.int .i64 a, .int .i64 b] 26)).alloc (.cells #[.int .i64 0, .int .i64 0] 26)).alloc (.cells #[.int .i64 id, .int .i64 20] 26) := ⟨_, rfl⟩
  obtain ⟨hk, hz, hx, hsz, hBA⟩ := three_blocks hwA
  have HSZ := Lib.hid hsz
  have HK := Lib.hid hk
  have HZ := Lib.hid hz
  have HX := Lib.hid hx
  have HB := Lib.hid hBA
  have HAFT := Lib.hid (fun (w1 : World) (hb1 : Below wA.heap.size wA w1) => (⟨(hb1.block _ (by have := HSZ.out; omega)).trans HK.out, (hb1.block _ (by have := HSZ.out; omega)).trans HZ.out, (hb1.block _ (by have := HSZ.out; omega)).trans HX.out, HB.out.trans (hb1.mono HB.out.size)⟩ : w1.heap[w.heap.size]? = _ ∧ w1.heap[w.heap.size + 1]? = _ ∧ w1.heap[w.heap.size + 1 + 1]? = _ ∧ Below w.heap.size w w1))
  have hA1 := hA wA HB.out
  clear hA hk hz hx hsz hBA HSZ HK HZ HX h
  cases h1 : isPri ps ⟨a, b⟩
  · obtain rfl := hn1 h1
    rw [h1] at hA1
    clear hn1 hn2 hn3 hy h1 hX
    go_enter Try.func15, Try.ntmps15
    go_wp2_with fail
    rw [← hwA]
    refine hA1.mono ?_
    rintro e w1 ⟨rfl, hb1⟩
    obtain ⟨hk, hz, hx, hBW⟩ := HAFT.out w1 hb1
    obtain ⟨k0, k1⟩ := pri_head (pri_of_block (p := ⟨a, b⟩) hk)
    obtain ⟨z0, z1⟩ := pri_head (pri_of_block (p := ⟨0, 0⟩) hz)
    simp only at k0 k1 z0 z1
    have fz : ∀ j, w1.frozen? ⟨w.heap.size + 1, j, none⟩ = false := fun j => frozen_of_row _ _ j _ _ hz
    have lt0 : w.heap.size + 1 < w1.heap.size := lt_of_block hz
    have HBW := Lib.hid hBW
    clear hk hz hx hBW hb1 hwA
    go_wp2
    refine bodyPost_ret (by rw [results_cell_tmpF rfl]; go_simp; try rfl) rfl ?_
    exact ⟨rfl, (HBW.out.setCell (Nat.le_succ _) _).setCell (Nat.le_succ _) _⟩
  rw [h1] at hA1
  clear hn1
  by_cases h2 : a = 0
  rotate_left
  · obtain rfl := hn2 h2
    have e1 : (a != 0) = true := by simpa using h2
    clear hn2 hn3 hy h1 hX
    go_enter Try.func15, Try.ntmps15
    go_wp2_with fail
    rw [← hwA]
    refine hA1.mono ?_
    rintro e w1 ⟨rfl, hb1⟩
    obtain ⟨hk, hz, hx, hBW⟩ := HAFT.out w1 hb1
    obtain ⟨k0, k1⟩ := pri_head (pri_of_block (p := ⟨a, b⟩) hk)
    obtain ⟨z0, z1⟩ := pri_head (pri_of_block (p := ⟨0, 0⟩) hz)
    simp only at k0 k1 z0 z1
    have fz : ∀ j, w1.frozen? ⟨w.heap.size + 1, j, none⟩ = false := fun j => frozen_of_row _ _ j _ _ hz
    have lt0 : w.heap.size + 1 < w1.heap.size := lt_of_block hz
    have HBW := Lib.hid hBW
    clear hk hz hx hBW hb1 hwA
    go_wp2
    refine bodyPost_ret (by rw [results_cell_tmpF rfl]; go_simp; try rfl) rfl ?_
    exact ⟨rfl, (HBW.out.setCell (Nat.le_succ _) _).setCell (Nat.le_succ _) _⟩
  subst h2
  cases h3 : isPri ps ⟨id, 20⟩
  · obtain rfl := hn3 h3
    clear hn2 hn3 hy h1
    go_enter Try.func15, Try.ntmps15
    go_wp2_with fail
    rw [← hwA]
    refine hA1.mono ?_
    rintro e w1 ⟨rfl, hb1⟩
    obtain ⟨hk, hz, hx, hBW⟩ := HAFT.out w1 hb1
    obtain ⟨k0, k1⟩ := pri_head (pri_of_block (p := ⟨0, b⟩) hk)
    obtain ⟨x0, x1⟩ := pri_head (pri_of_block (p := ⟨id, 20⟩) hx)
    simp only at k0 k1 x0 x1
    have hX1 := hX w1 hBW
    rw [h3] at hX1
    have HB1 := Lib.hid hb1
    clear hk hz hx hBW hb1 hwA hX h3
    go_wp2_with fail
    refine hX1.mono ?_
    rintro e w2 ⟨rfl, hb2⟩
    obtain ⟨hk, hz, hx, hBW⟩ := HAFT.out w2 (HB1.out.trans (hb2.mono HB1.out.size))
    clear k0 k1 x0 x1
    obtain ⟨k0, k1⟩ := pri_head (pri_of_block (p := ⟨0, b⟩) hk)
    obtain ⟨z0, z1⟩ := pri_head (pri_of_block (p := ⟨0, 0⟩) hz)
    simp only at k0 k1 z0 z1
    have fz : ∀ j, w2.frozen? ⟨w.heap.size + 1, j, none⟩ = false := fun j => frozen_of_row _ _ j _ _ hz
    have lt0 : w.heap.size + 1 < w2.heap.size := lt_of_block hz
    have HBW := Lib.hid hBW
    clear hk hz hx hBW hb2
    go_wp2
    refine bodyPost_ret (by rw [results_cell_tmpF rfl]; go_simp; try rfl) rfl ?_
    exact ⟨rfl, (HBW.out.setCell (Nat.le_succ _) _).setCell (Nat.le_succ _) _⟩
  · obtain rfl := hy h1 rfl h3
    clear hn2 hn3 hy h1
    go_enter Try.func15, Try.ntmps15
    go_wp2_with fail
    rw [← hwA]
    refine hA1.mono ?_
    rintro e w1 ⟨rfl, hb1⟩
    obtain ⟨hk, hz, hx, hBW⟩ := HAFT.out w1 hb1
    obtain ⟨k0, k1⟩ := pri_head (pri_of_block (p := ⟨0, b⟩) hk)
    obtain ⟨x0, x1⟩ := pri_head (pri_of_block (p := ⟨id, 20⟩) hx)
    simp only at k0 k1 x0 x1
    have hX1 := hX w1 hBW
    rw [h3] at hX1
    have HB1 := Lib.hid hb1
    clear hk hz hx hBW hb1 hwA hX h3
    go_wp2_with fail
    refine hX1.mono ?_
    rintro e w2 ⟨rfl, hb2⟩
    obtain ⟨hk, hz, hx, hBW⟩ := HAFT.out w2 (HB1.out.trans (hb2.mono HB1.out.size))
    clear k0 k1 x0 x1
    obtain ⟨x0, x1⟩ := pri_head (pri_of_block (p := ⟨id, 20⟩) hx)
    obtain ⟨z0, z1⟩ := pri_head (pri_of_block (p := ⟨0, 0⟩) hz)
    simp only at x0 x1 z0 z1
    have fz : ∀ j, w2.frozen? ⟨w.heap.size + 1, j, none⟩ = false := fun j => frozen_of_row _ _ j _ _ hz
    have lt0 : w.heap.size + 1 < w2.heap.size := lt_of_block hz
    have HBW := Lib.hid hBW
    clear hk hz hx hBW hb2
    go_wp2
    refine bodyPost_ret (by rw [results_cell_tmpF rfl]; go_simp; try rfl) rfl ?_
    exact ⟨rfl, (HBW.out.setCell (Nat.le_succ _) _).setCell (Nat.le_succ _) _⟩
theorem impl_isThereA (r : Pri) (w : World) : Calls Try.prog 61 #[r.val] w fun e w' => e = .returned (.bool (decide (r.path ≠ 0))) ∧ Below w.heap.size w w' := by
  obtain ⟨a, b⟩ := r
  simp only [Pri.val]
  have HB := Lib.hid ((Below.refl w.heap.size w).alloc (Nat.le_refl _) (.cells #[.int .i64 a, .int .i64 b] 26))
  by_cases h : a = 0
  · subst h
    go_enter Try.func61, Try.ntmps61
    go_wp2
    go_ret
    exact ⟨rfl, HB.out⟩
  · have e1 : (a != 0) = true := by simpa using h
    rw [decide_eq_true h]
    go_enter Try.func61, Try.ntmps61
    go_wp2
    go_ret
    exact ⟨rfl, HB.out⟩
set_option maxHeartbeats 4000000 in
theorem impl_AskPrio (A : Option Addr) (n c B : Nat) (ps : List Pth) (r : Pri) (id : Int) (w : World) (h : PthsAt w B A n ps) (hB : B ≤ w.heap.size) (hn : n ≤ 4294967296) :
    Calls Try.prog 18 #[.slice A n c, r.val, .int .i64 id] w fun e w' => e = .returned (.tuple #[(askP ps r id).1.val, .bool (askP ps r id).2]) ∧ Below w.heap.size w w' := by
  have hA := fun y (hb : Below w.heap.size w y) => impl_IsPrio A n c B ps r y (h.below (hb.mono hB)) (Nat.le_trans hB hb.size) hn
  have hX := fun y (hb : Below w.heap.size w y) => impl_isBus A n c B ps id y (h.below (hb.mono hB)) (Nat.le_trans hB hb.size) hn
  have hT := fun y => impl_isThereA r y
  have hn1 := @askP_no1 ps r id
  have hn2 := @askP_no2 ps r id
  have hn3 := @askP_no3 ps r id
  have hy := @askP_yes ps r id
  generalize askP ps r id = q at hn1 hn2 hn3 hy ⊢
  obtain ⟨a, b⟩ := r
  simp only [Pri.val] at *
  obtain ⟨wA, hwA⟩ : ∃ wA, wA = (w.alloc (.cells #[.int .i64 a, .int .i64 b] 26)).alloc (.cells #[.int .i64 0, .int .i64 0] 26) := ⟨_, rfl⟩
  obtain ⟨hk, hz, hsz, hBA⟩ := two_blocks hwA
  have HSZ := Lib.hid hsz
  have HK := Lib.hid hk
  have HZ := Lib.hid hz
  have HB := Lib.hid hBA
  have HAFT := Lib.hid (fun (w1 : World) (hb1 : Below wA.heap.size wA w1) => (⟨(hb1.block _ (by have := HSZ.out; omega)).trans HK.out, (hb1.block _ (by have := HSZ.out; omega)).trans HZ.out, HB.out.trans (hb1.mono HB.out.size)⟩ : w1.heap[w.heap.size]? = _ ∧ w1.heap[w.heap.size + 1]? = _ ∧ Below w.heap.size w w1))
  have hA1 := hA wA HB.out
  clear hA hk hz hsz hBA HSZ HK HZ h
  cases h1 : isPri ps ⟨a, b⟩
  · obtain rfl := hn1 h1
    rw [h1] at hA1
    clear hn1 hn2 hn3 hy h1 hX hT
    go_enter Try.func18, Try.ntmps18
    go_wp2_with fail
    rw [← hwA]
    refine hA1.mono ?_
    rintro e w1 ⟨rfl, hb1⟩
    clear hwA
    have HB1 := Lib.hid hb1
    clear hb1
    obtain ⟨hk, hz, hBW⟩ := HAFT.out w1 HB1.out
    obtain ⟨k0, k1⟩ := pri_head (pri_of_block (p := ⟨a, b⟩) hk)
    obtain ⟨z0, z1⟩ := pri_head (pri_of_block (p := ⟨0, 0⟩) hz)
    simp only at k0 k1 z0 z1
    have fz : ∀ j, w1.frozen? ⟨w.heap.size + 1, j, none⟩ = false := fun j => frozen_of_row _ _ j _ _ hz
    have lt0 : w.heap.size + 1 < w1.heap.size := lt_of_block hz
    have HBW := Lib.hid hBW
    clear hk hz hBW
    go_wp2
    refine bodyPost_ret (by rw [results_cell_tmpF rfl]; go_simp; try rfl) rfl ?_
    exact ⟨rfl, (HBW.out.setCell (Nat.le_succ _) _).setCell (Nat.le_succ _) _⟩
  rw [h1] at hA1
  clear hn1
  by_cases h2 : a = 0
  rotate_left
  · obtain rfl := hn2 h2
    rw [decide_eq_true h2] at hT
    clear hn2 hn3 hy h1 hX
    go_enter Try.func18, Try.ntmps18
    go_wp2_with fail
    rw [← hwA]
    refine hA1.mono ?_
    rintro e w1 ⟨rfl, hb1⟩
    clear hwA
    have HB1 := Lib.hid hb1
    clear hb1
    obtain ⟨hk, hz, hBW⟩ := HAFT.out w1 HB1.out
    obtain ⟨k0, k1⟩ := pri_head (pri_of_block (p := ⟨a, b⟩) hk)
    obtain ⟨z0, z1⟩ := pri_head (pri_of_block (p := ⟨0, 0⟩) hz)
    simp only at k0 k1 z0 z1
    have fz : ∀ j, w1.frozen? ⟨w.heap.size + 1, j, none⟩ = false := fun j => frozen_of_row _ _ j _ _ hz
    have lt0 : w.heap.size + 1 < w1.heap.size := lt_of_block hz
    have HBW := Lib.hid hBW
    clear hk hz hBW
    go_wp2_with fail
    refine (hT _).mono ?_
    rintro e w2 ⟨rfl, hb2⟩
    have HB2 := Lib.hid (HB1.out.trans (hb2.mono HB1.out.size))
    clear hb2 k0 k1 z0 z1 fz lt0 HBW
    obtain ⟨hk, hz, hBW⟩ := HAFT.out w2 HB2.out
    obtain ⟨k0, k1⟩ := pri_head (pri_of_block (p := ⟨a, b⟩) hk)
    obtain ⟨z0, z1⟩ := pri_head (pri_of_block (p := ⟨0, 0⟩) hz)
    simp only at k0 k1 z0 z1
    have fz : ∀ j, w2.frozen? ⟨w.heap.size + 1, j, none⟩ = false := fun j => frozen_of_row _ _ j _ _ hz
    have lt0 : w.heap.size + 1 < w2.heap.size := lt_of_block hz
    have HBW := Lib.hid hBW
    clear hk hz hBW
    go_wp2
    refine bodyPost_ret (by rw [results_cell_tmpF rfl]; go_simp; try rfl) rfl ?_
    exact ⟨rfl, (HBW.out.setCell (Nat.le_succ _) _).setCell (Nat.le_succ _) _⟩
  subst h2
  rw [decide_eq_false (by decide)] at hT
  have hnew := isPri_new id (isPri_are h1)
  cases h4 : isBusP ps id
  · obtain rfl := hn3 (by rw [hnew, h4])
    clear hn2 hn3 hy h1 hnew
    go_enter Try.func18, Try.ntmps18
    go_wp2_with fail
    rw [← hwA]
    refine hA1.mono ?_
    rintro e w1 ⟨rfl, hb1⟩
    clear hwA
    have HB1 := Lib.hid hb1
    clear hb1
    obtain ⟨hk, hz, hBW⟩ := HAFT.out w1 HB1.out
    obtain ⟨k0, k1⟩ := pri_head (pri_of_block (p := ⟨0, b⟩) hk)
    obtain ⟨z0, z1⟩ := pri_head (pri_of_block (p := ⟨0, 0⟩) hz)
    simp only at k0 k1 z0 z1
    have fz : ∀ j, w1.frozen? ⟨w.heap.size + 1, j, none⟩ = false := fun j => frozen_of_row _ _ j _ _ hz
    have lt0 : w.heap.size + 1 < w1.heap.size := lt_of_block hz
    have HBW := Lib.hid hBW
    clear hk hz hBW
    go_wp2_with fail
    refine (hT _).mono ?_
    rintro e w2 ⟨rfl, hb2⟩
    have HB2 := Lib.hid (HB1.out.trans (hb2.mono HB1.out.size))
    clear hb2 k0 k1 z0 z1 fz lt0 HBW
    obtain ⟨hk, hz, hBW⟩ := HAFT.out w2 HB2.out
    obtain ⟨k0, k1⟩ := pri_head (pri_of_block (p := ⟨0, b⟩) hk)
    obtain ⟨z0, z1⟩ := pri_head (pri_of_block (p := ⟨0, 0⟩) hz)
    simp only at k0 k1 z0 z1
    have fz : ∀ j, w2.frozen? ⟨w.heap.size + 1, j, none⟩ = false := fun j => frozen_of_row _ _ j _ _ hz
    have lt0 : w.heap.size + 1 < w2.heap.size := lt_of_block hz
    have HBW := Lib.hid hBW
    clear hk hz hBW
    have hX1 := hX w2 HBW.out
    rw [h4] at hX1
    go_wp2_with fail
    refine hX1.mono ?_
    rintro e w3 ⟨rfl, hb3⟩
    have HB3 := Lib.hid (HB2.out.trans (hb3.mono HB2.out.size))
    clear hb3 k0 k1 z0 z1 fz lt0 HBW hX1
    obtain ⟨hk, hz, hBW⟩ := HAFT.out w3 HB3.out
    obtain ⟨k0, k1⟩ := pri_head (pri_of_block (p := ⟨0, b⟩) hk)
    obtain ⟨z0, z1⟩ := pri_head (pri_of_block (p := ⟨0, 0⟩) hz)
    simp only at k0 k1 z0 z1
    have fz : ∀ j, w3.frozen? ⟨w.heap.size + 1, j, none⟩ = false := fun j => frozen_of_row _ _ j _ _ hz
    have lt0 : w.heap.size + 1 < w3.heap.size := lt_of_block hz
    have HBW := Lib.hid hBW
    clear hk hz hBW
    go_wp2
    refine bodyPost_ret (by rw [results_cell_tmpF rfl]; go_simp; try rfl) rfl ?_
    exact ⟨rfl, (HBW.out.setCell (Nat.le_succ _) _).setCell (Nat.le_succ _) _⟩
  · obtain rfl := hy h1 rfl (by rw [hnew, h4])
    clear hn2 hn3 hy h1 hnew
    go_enter Try.func18, Try.ntmps18
    go_wp2_with fail
    rw [← hwA]
    refine hA1.mono ?_
    rintro e w1 ⟨rfl, hb1⟩
    clear hwA
    have HB1 := Lib.hid hb1
    clear hb1
    obtain ⟨hk, hz, hBW⟩ := HAFT.out w1 HB1.out
    obtain ⟨k0, k1⟩ := pri_head (pri_of_block (p := ⟨0, b⟩) hk)
    obtain ⟨z0, z1⟩ := pri_head (pri_of_block (p := ⟨0, 0⟩) hz)
    simp only at k0 k1 z0 z1
    have fz : ∀ j, w1.frozen? ⟨w.heap.size + 1, j, none⟩ = false := fun j => frozen_of_row _ _ j _ _ hz
    have lt0 : w.heap.size + 1 < w1.heap.size := lt_of_block hz
    have HBW := Lib.hid hBW
    clear hk hz hBW
    go_wp2_with fail
    refine (hT _).mono ?_
    rintro e w2 ⟨rfl, hb2⟩
    have HB2 := Lib.hid (HB1.out.trans (hb2.mono HB1.out.size))
    clear hb2 k0 k1 z0 z1 fz lt0 HBW
    obtain ⟨hk, hz, hBW⟩ := HAFT.out w2 HB2.out
    obtain ⟨k0, k1⟩ := pri_head (pri_of_block (p := ⟨0, b⟩) hk)
    obtain ⟨z0, z1⟩ := pri_head (pri_of_block (p := ⟨0, 0⟩) hz)
    simp only at k0 k1 z0 z1
    have fz : ∀ j, w2.frozen? ⟨w.heap.size + 1, j, none⟩ = false := fun j => frozen_of_row _ _ j _ _ hz
    have lt0 : w.heap.size + 1 < w2.heap.size := lt_of_block hz
    have HBW := Lib.hid hBW
    clear hk hz hBW
    have hX1 := hX w2 HBW.out
    rw [h4] at hX1
    go_wp2_with fail
    refine hX1.mono ?_
    rintro e w3 ⟨rfl, hb3⟩
    have HB3 := Lib.hid (HB2.out.trans (hb3.mono HB2.out.size))
    clear hb3 k0 k1 z0 z1 fz lt0 HBW hX1
    obtain ⟨hk, hz, hBW⟩ := HAFT.out w3 HB3.out
    obtain ⟨k0, k1⟩ := pri_head (pri_of_block (p := ⟨0, b⟩) hk)
    obtain ⟨z0, z1⟩ := pri_head (pri_of_block (p := ⟨0, 0⟩) hz)
    simp only at k0 k1 z0 z1
    have fz : ∀ j, w3.frozen? ⟨w.heap.size + 1, j, none⟩ = false := fun j => frozen_of_row _ _ j _ _ hz
    have lt0 : w.heap.size + 1 < w3.heap.size := lt_of_block hz
    have HBW := Lib.hid hBW
    clear hk hz hBW
    go_wp2
    refine bodyPost_ret (by rw [results_cell_tmpF rfl]; go_simp; try rfl) rfl ?_
    exact ⟨rfl, (HBW.out.setCell (Nat.le_succ _) _).setCell (Nat.le_succ _) _⟩
end Go.Proofs.Ytblilnfkpfjclaa

/- Rows of paths as a law's walk knows them. -/
namespace Go.Proofs.Ytblilnfkpfjclaa
open Go.RowKit
set_option linter.unusedVariables false

/-- a slice of paths that may be read. -/
structure SlP (w : World) (A : Option Addr) (n c : Nat) (ps : List Pth) : Prop where
  pths : PthsAt w w.heap.size A n ps
  bare : A = none → n = 0 ∧ c = 0
  small : n ≤ 4294967296
  cap : n ≤ c ∧ c ≤ maxLen
  wf : ∀ p ∈ ps, p.wf
theorem SlP.len {w : World} {A : Option Addr} {n c : Nat} {ps : List Pth} (h : SlP w A n c ps) : ps.length = n := h.pths.1
theorem SlP.below {w w' : World} {A : Option Addr} {n c : Nat} {ps : List Pth} (h : SlP w A n c ps) (hb : Below w.heap.size w w') : SlP w' A n c ps :=
  ⟨(h.pths.below hb).up hb.size, h.bare, h.small, h.cap, h.wf⟩
/-- a row of paths of the call's own, between two block numbers. -/
structure OwP (E : TypeId) (w : World) (lo hi : Nat) (v : Value) (ps : List Pth) : Prop where
  own : w.ownsRow lo E 4 v ps.length (pcells ps)
  lt : ∀ g, v.ownBlock = some g → g < hi
  top : hi ≤ w.heap.size
theorem OwP.new {E : TypeId} {w : World} {lo : Nat} {v : Value} {ps : List Pth} (h : w.ownsRow lo E 4 v ps.length (pcells ps)) : OwP E w lo w.heap.size v ps := ⟨h, fun g e => (ownr_block h g e).2, Nat.le_refl _⟩
theorem OwP.below {E : TypeId} {w w' : World} {lo hi : Nat} {v : Value} {ps : List Pth} (h : OwP E w lo hi v ps) (hb : Below w.heap.size w w') : OwP E w' lo hi v ps := ⟨ownr_below h.own hb, h.lt, Nat.le_trans h.top hb.size⟩
theorem OwP.ints {E : TypeId} {w : World} {lo hi : Nat} {A : Option Addr} {n c : Nat} {ps : List Pth} (h : OwP E w lo hi (.slice A n c) ps) : PthsAt w w.heap.size A n ps := by
  have hn := ownr_len h.own
  subst hn
  exact ⟨rfl, ownr_cells h.own⟩
theorem OwP.sl {E : TypeId} {w : World} {lo hi : Nat} {A : Option Addr} {n c : Nat} {ps : List Pth} (h : OwP E w lo hi (.slice A n c) ps) (hn : n ≤ 4294967296) (hw : ∀ p ∈ ps, p.wf) : SlP w A n c ps :=
  ⟨h.ints, ownr_nilcap h.own, hn, ownr_cap h.own, hw⟩
theorem OwP.part {E : TypeId} {w w' : World} {lo hi l h' : Nat} {v : Value} {ps : List Pth} (h : OwP E w lo hi v ps) (hp : Part l h' w w') (hd : hi ≤ l ∨ h' ≤ lo) : OwP E w' lo hi v ps := by
  refine ⟨⟨h.own.1, ?_⟩, h.lt, Nat.le_trans h.top hp.size⟩
  rcases h.own.2 with h2 | ⟨g, cap, cur, rfl, hl, hg, r⟩
  · exact .inl h2
  · have hlt := h.lt g rfl
    have htop := h.top
    exact .inr ⟨g, cap, cur, rfl, hl, (hp.block g (by omega) (by omega)).trans hg, r⟩
theorem to_pth (A : Option Addr) (n c B : Nat) (ps : List Pth) (w : World) (h : PthsAt w B A n ps) (hB : B ≤ w.heap.size) (hn : n ≤ 1048576) :
    Calls Try.prog 16 #[.slice A n c] w fun e w' => e = .returned (.slice (some ⟨w.heap.size, 0, none⟩) n n) ∧ w'.ownsRow w.heap.size 81 4 (.slice (some ⟨w.heap.size, 0, none⟩) n n) ps.length (pcells ps) ∧ Below w.heap.size w w' := by
  have hl := h.1
  refine (law_toPathS A n c B ps w h hB (by omega)).mono fun e w' ⟨h1, h2, h3⟩ => ⟨h1, ?_, h3⟩
  rw [hl]
  exact h2
theorem eqs_pth (A : Option Addr) (n c : Nat) (ps : List Pth) (A2 : Option Addr) (n2 c2 : Nat) (w : World) (h : PthsAt w w.heap.size A n ps) (h2 : PthsAt w w.heap.size A2 n2 ps) (hn : n ≤ 1048576) (hn2 : n2 ≤ 1048576) :
    Calls Try.prog 20 #[.slice A n c, .slice A2 n2 c2] w fun e w' => e = .returned (.bool true) ∧ Below w.heap.size w w' :=
  (law_eqPathS A n c _ ps A2 n2 c2 _ ps w h h2 (Nat.le_refl _) (Nat.le_refl _) (by omega) (by omega)).mono fun e w' ⟨he, hb⟩ => ⟨by rw [he, decide_eq_true rfl], hb⟩
theorem sz_pth (A : Option Addr) (n c : Nat) (left : Int) (w : World) (hn : n ≤ 9223372036854775807) (hl : 0 ≤ left ∧ left ≤ 1048576) :
    Calls Try.prog 14 #[.slice A n c, .int .i64 left] w fun e w' => e = .returned (.int .i64 (if (n : Int) ≤ left then left - (n : Int) else -1)) ∧ w = w' := by
  obtain ⟨l1, l2⟩ := hl
  by_cases h : (n : Int) ≤ left
  · rw [if_pos h]
    go_enter Try.func14, Try.ntmps14
    go_wp2
    go_ret
    exact ⟨rfl, rfl⟩
  · rw [if_neg h]
    go_enter Try.func14, Try.ntmps14
    go_wp2
    go_ret
    exact ⟨rfl, rfl⟩
end Go.Proofs.Ytblilnfkpfjclaa

/- AskPrio as its exact law meets it. -/
namespace Go.Proofs.Ytblilnfkpfjclaa
open Go.RowKit
set_option linter.unusedVariables false

theorem sp_AskPrio (A0 : Option Addr) (n0 c0 : Nat) (zs0 : List Pth) (p1 : Pri) (a2 : Int) (w : World) (h0 : SlP w A0 n0 c0 zs0) (hs0 : n0 ≤ 1048576) (wp1 : p1.wf) (wa2 : (Lit.int .i64 a2).wf = true) (r0 : Pri) (r1 : Bool) (hr : askP zs0 p1 a2 = (r0, r1)) :
    Calls Try.prog 15 #[.slice A0 n0 c0, p1.val, .int .i64 a2] w fun e w' => e = .returned (.tuple #[r0.val, .bool r1]) ∧ Below w.heap.size w w' := by
  obtain rfl : (askP zs0 p1 a2).1 = r0 := by rw [hr]
  obtain rfl : (askP zs0 p1 a2).2 = r1 := by rw [hr]
  clear hr
  exact spec_AskPrio A0 n0 c0 _ zs0 p1 a2 w h0.pths (Nat.le_refl _) (by omega)
theorem im_AskPrio (A0 : Option Addr) (n0 c0 : Nat) (zs0 : List Pth) (p1 : Pri) (a2 : Int) (w : World) (h0 : SlP w A0 n0 c0 zs0) (hs0 : n0 ≤ 1048576) (wp1 : p1.wf) (wa2 : (Lit.int .i64 a2).wf = true) (r0 : Pri) (r1 : Bool) (hr : askP zs0 p1 a2 = (r0, r1)) :
    Calls Try.prog 18 #[.slice A0 n0 c0, p1.val, .int .i64 a2] w fun e w' => e = .returned (.tuple #[r0.val, .bool r1]) ∧ Below w.heap.size w w' := by
  obtain rfl : (askP zs0 p1 a2).1 = r0 := by rw [hr]
  obtain rfl : (askP zs0 p1 a2).2 = r1 := by rw [hr]
  clear hr
  exact impl_AskPrio A0 n0 c0 _ zs0 p1 a2 w h0.pths (Nat.le_refl _) (by omega)
end Go.Proofs.Ytblilnfkpfjclaa

/- A cell of a law's argument that is a bool. -/
namespace Go.Proofs.Ytblilnfkpfjclaa
open Go.ChangeShapes Go.WideShapes Go.ChangeAt Go.RowKit Go.Joins
open Go.Deep (oneCellFields open_slice hone_of)

theorem cell_boolF {H : Type} {enc : TypeId × Value → H} {P : Program} {W : World} {b0 : Nat} {sp : Nat → Bool} {hd : Bool} {n : Nat} {t : TypeId} {v : Value} {y : DataW H × List MemPlace} (ht : P.underlying t = some .bool) (h : DataW.trod enc P W b0 sp hd n t [v] = some y) : ∃ a : Bool, v = .bool a ∧ y.2 = [] := by
  obtain ⟨a, h1, h2⟩ := DataW.trod_bool ht h
  simp at h1
  exact ⟨a, h1, by rw [h2]⟩
end Go.Proofs.Ytblilnfkpfjclaa

/- A law's arguments that are Prio or rows of them (written by gentype.py). -/
namespace Go.Proofs.Ytblilnfkpfjclaa
open Go.ChangeShapes Go.WideShapes Go.ChangeAt Go.RowKit Go.Joins
open Go.Deep (oneCellFields open_slice hone_of)
set_option linter.unusedVariables false

section
variable {H : Type} {enc : TypeId × Value → H} {P : Program}
theorem arg_pri {t : TypeId} {f0 f1 : Field} {W : World} {base : Nat} {v : Value} {d : DataW H} {ps : List MemPlace} (hs : P.underlying t = some (.struct #[f0, f1])) (hone : oneCellFields P #[f0, f1] = true) (hC : P.cellsOf t = 2)
    (h0 : P.underlying f0.type = some (.int .i64)) (h1 : P.underlying f1.type = some (.int .i64))
    (hval : Value.okWide P W .any base t v) (hd : DataW.Trod enc P W 0 (fun _ => true) true t v d ps) : ∃ p : Pri, v = p.val ∧ p.wf := by
  obtain ⟨v0, v1, y0, y1, n, rfl, -, -, t0, t1⟩ := open_agg2 hs hone hC hval hd
  obtain ⟨a, rfl, w0, -⟩ := cell_int h0 t0
  obtain ⟨b, rfl, w1, -⟩ := cell_int h1 t1
  exact ⟨⟨a, b⟩, rfl, w0, w1⟩
theorem arg_pris {t e : TypeId} {f0 f1 : Field} {W : World} {base : Nat} {v : Value} {d : DataW H} {ps : List MemPlace} (ht : P.underlying t = some (.slice e)) (he : P.underlying e = some (.struct #[f0, f1])) (hone : oneCellFields P #[f0, f1] = true) (hC : P.cellsOf e = 2)
    (h0 : P.underlying f0.type = some (.int .i64)) (h1 : P.underlying f1.type = some (.int .i64))
    (hval : Value.okWide P W .any base t v) (hd : DataW.Trod enc P W 0 (fun _ => true) true t v d ps) (hlt : ∀ x ∈ ps, x.block < W.heap.size) :
    ∃ (A : Option Addr) (n c : Nat) (zs : List Pri), v = .slice A n c ∧ (PrisAt W W.heap.size A n zs ∧ (∀ z ∈ zs, z.wf) ∧ n ≤ c ∧ c ≤ maxLen) := by
  obtain ⟨a, len, cap, rfl⟩ := okWide_slice ht hval
  obtain ⟨fuel, hf⟩ := hd
  rcases open_slice_fields ht he hone (by rw [hC]; rfl) hf with ⟨h1, _⟩ | ⟨a', len', cap', m, D, Pl, hcs, _, hl, hm, hmm, hx, hi⟩
  · have h1' : [Value.slice a len cap] = [Value.slice none 0 0] := h1
    simp only [List.cons.injEq, and_true] at h1'
    exact ⟨none, 0, 0, [], h1', ⟨rfl, rfl, fun h => absurd h (by omega)⟩, by simp, Nat.le_refl _, Nat.zero_le _⟩
  · have h1' : [Value.slice a len cap] = [Value.slice (some a') len' cap'] := hcs
    simp only [List.cons.injEq, and_true] at h1'
    rw [if_pos rfl] at hmm
    subst hmm
    obtain ⟨zs, hzl, hz⟩ := choose_upto (n := len') (R := fun i (p : Pri) => p.wf ∧ ∀ (j : Nat) u, p.cells[j]? = some u → W.cell? (a'.add (i * 2 + j)) = some u) (fun i hil => by
      obtain ⟨ys, n, _, _, _, hj⟩ := hi i (by omega)
      obtain ⟨v0, y0, c0, _, t0⟩ := hj 0 f0 rfl
      obtain ⟨v1, y1, c1, _, t1⟩ := hj 1 f1 rfl
      obtain ⟨x0, rfl, w0, -⟩ := cell_int h0 t0
      obtain ⟨x1, rfl, w1, -⟩ := cell_int h1 t1
      refine ⟨⟨x0, x1⟩, ⟨w0, w1⟩, fun j u hu => ?_⟩
      match j, hu with
      | 0, hu => simp [Pri.cells] at hu; subst hu; exact c0
      | 1, hu => simp [Pri.cells] at hu; subst hu; exact c1
      | j + 2, hu => simp [Pri.cells] at hu)
    refine ⟨some a', len', m, zs, h1', ⟨hzl, by rw [pricells_length, hzl], fun hn => ⟨a', rfl, ?_, fun j u hu => ?_⟩⟩, fun z hzm => ?_, hl, hm⟩
    · have hmem : MemPlace.cell a'.block (a'.off + 0) ∈ ps := by
        have e := congrArg Prod.snd hx
        simp only at e
        rw [e]
        exact List.mem_append_left _ (List.mem_map.2 ⟨0, List.mem_range.2 (by simp; omega), rfl⟩)
      exact hlt _ hmem
    · have hlen : j < zs.length * 2 := by
        have := (List.getElem?_eq_some_iff.1 hu).1
        rwa [pricells_length] at this
      have hd4 : j / 2 < zs.length := by omega
      have hp : zs[j / 2]? = some zs[j / 2] := List.getElem?_eq_getElem hd4
      have hg := flat_get (s := 2) (f := Pri.cells) (fun _ => rfl) zs (j / 2) (j % 2) _ hp (by omega)
      have ej : j / 2 * 2 + j % 2 = j := by clear hi hz hx; omega
      rw [ej] at hg
      have := (hz _ _ hp).2 (j % 2) u (hg.symm.trans hu)
      rwa [ej] at this
    · obtain ⟨i, hil, rfl⟩ := List.getElem_of_mem hzm
      exact (hz i _ (List.getElem?_eq_getElem hil)).1
end
end Go.Proofs.Ytblilnfkpfjclaa
