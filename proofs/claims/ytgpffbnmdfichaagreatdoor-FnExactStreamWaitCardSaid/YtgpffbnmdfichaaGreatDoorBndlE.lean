/- Texts of one chain, put together: PlnM LgtM RowM NxtI NxtM Cal Step1 Srv SortC Gth SortF Wta PrtM LawWta Bls Opn Q Qrn QrnI Stm Stms. -/
import Derived.BigQuiet
import Derived.Deep.RegionHeld3
import Derived.Deep.DrawnRows
import Derived.Deep.AppendLies
import Derived.Lib.SlicesCompact
import Derived.Test.YtgpffbnmdfichaaGreatDoorProg
import Derived.Shelf.Lay
import Derived.Shelf.Sort.Plain
import Derived.Shelf.Slices.In.SortNone
import Derived.Shelf.Slices.CompactI
import Derived.Ground.NamesProg
import Derived.Ground.Names2Prog
import Derived.Sort.OwnSortedInts
import Derived.Laws.StructEq
import Derived.RangeFuncNested
import Derived.RangeFuncBound
import Derived.RangeFuncCalls
import Derived.RangeFuncLeaves
import Derived.RangeFuncBox
import Derived.RangeFuncFrom
import Derived.Shelf.Abstract
import Derived.Shelf.RegionOpen
import Derived.WalkKit
import Derived.OwnWalkIn
import Derived.TacticsInMore
import Derived.LoopNIn
import Derived.LoopIn
import Derived.Test.YtgpffbnmdfichaaGreatDoorBndlD
set_option linter.unusedSimpArgs false
/- Chapter 8's model: IsPlan, Cycle, StartOf. -/
namespace Go.Proofs.YtgpffbnmdfichaaGreatDoor
open Go.RowKit
set_option linter.unusedVariables false

theorem own_row0 (w : World) (E : TypeId) (s : Nat) : (w.alloc (.cells #[] E)).ownsRow w.heap.size E s (.slice (some ⟨w.heap.size, 0, none⟩) 0 0) 0 [] := ⟨by simp, .inr ⟨w.heap.size, 0, #[], rfl, Nat.le_refl _, heap_alloc_new w _, Nat.le_refl _, by decide, by simp, by simp⟩⟩
theorem IntsAt.two' {w wr x : World} {B : Nat} {A : Option Addr} {n : Nat} {zs : List Int} (h : IntsAt .i64 w B A n zs) (hB : B ≤ w.heap.size) (hb : Below w.heap.size w wr) (hx : Below wr.heap.size wr x) : IntsAt .i64 x B A n zs := (h.laid hB hb).laid (Nat.le_trans hB hb.size) hx
set_option maxHeartbeats 2000000 in
theorem spec_l8Stages (A : Option Addr) (n c B : Nat) (p : List Prt) (w : World) (h : PrtsAt w B A n p) (hB : B ≤ w.heap.size) (hn : n ≤ 1048576) :
    Calls Tryz.prog 121 #[.slice A n c] w fun e w' => ∃ A' c', e = .returned (.slice A' n c') ∧ SSAt w' w'.heap.size A' n (stgsOf p) ∧ Below w.heap.size w w' := by
  have hl := h.1
  have hr0 : (w.alloc (.cells #[] 24)).ownsRow w.heap.size 24 1 (.slice (some ⟨w.heap.size, 0, none⟩) 0 0) 0 [] := own_row0 _ _ _
  have hb0 : Below w.heap.size w (w.alloc (.cells #[] 24)) := (Below.refl _ _).alloc (Nat.le_refl _) _
  go_enter Tryz.func121, Tryz.ntmps121
  go_wp2
  go_loopw [3, 4] (fun v i wr => ∃ (k : Nat) (us : List Value), k ≤ n ∧ i = .int .i64 k ∧ wr.ownsRow w.heap.size 24 1 v k us ∧ (∀ j, j < k → ∃ A' m c', us[j]? = some (.slice A' m c') ∧ IntsAt .i64 w B A' m (prAt p j).stage ∧ m ≤ c' ∧ (A' = none → m = 0 ∧ c' = 0)) ∧ Below w.heap.size w wr) (fun _ i _ => n - (intOf i).toNat)
  case atStart => exact ⟨0, [], Nat.zero_le _, rfl, hr0, fun j hj => absurd hj (by omega), hb0⟩
  case round =>
    clear hr0 hb0
    obtain ⟨k, us, hk, rfl, hown, heach, hbl⟩ := hrel
    have hsz := hbl.size
    have HE := Lib.hid heach
    clear heach
    by_cases hlt : k < n
    · obtain ⟨ad, A', m, c', rfl, hab, hq, hi, hmc, hnil⟩ := h.at hlt
      obtain ⟨c0, c1⟩ := hq.below hbl (by omega)
      have hul : us.length = k := by have := hown.1; omega
      have HE2 : Hid (∀ j, j < k + 1 → ∃ A'' m' c'', (us ++ [.slice A' m c'])[j]? = some (.slice A'' m' c'') ∧ IntsAt .i64 w B A'' m' (prAt p j).stage ∧ m' ≤ c'' ∧ (A'' = none → m' = 0 ∧ c'' = 0)) := Lib.hid (fun j hj => by
        by_cases e : j < k
        · obtain ⟨A1, m1, c1, q1, q2⟩ := HE.out j e
          exact ⟨A1, m1, c1, by rw [List.getElem?_append_left (by omega)]; exact q1, q2⟩
        · obtain rfl : j = k := by omega
          exact ⟨A', m, c', by rw [List.getElem?_append_right (by omega), hul, Nat.sub_self]; rfl, hi, hmc.1, hnil⟩)
      clear hq hi hul
      go_wp2_with (at_builtin; refine wpList_appR1 rfl _ _ 76 rfl 24 (.slice none 0 0) 1 24 Tryz.underlying76 info_ints rfl (by decide) (by decide) w.heap.size _ _ _ rfl hown (by omega) [.slice A' m c'] rfl (by simp [Value.oneCell']) _ _ wr.heap.size hsz rfl (by simp) ?_; intro v4 w4 hown4 hgrow4 hat4)
      have hb4 := ownr_push hown (Nat.le_refl _) (hbl.alloc hsz _) (by simp; omega) hgrow4
      clear hgrow4 hat4 hown hbl
      go_roundw
      case rel => exact ⟨k + 1, _, by omega, by go_num, hown4, HE2.out, hb4⟩
      case measure => simp [intOf]; omega
    · obtain rfl : k = n := by omega
      obtain ⟨Av, cv, rfl⟩ := ownr_sliced hown
      have HSS : Hid (SSAt wr wr.heap.size Av k (stgsOf p)) := Lib.hid ⟨by rw [stgsOf_len]; exact hl, fun h0 => by
        obtain ⟨ad, e, hb, hc⟩ := (ownr_cells hown).2 (by omega)
        refine ⟨ad, e, hb, fun j hj => ?_⟩
        obtain ⟨A1, m1, c1, q1, q2, q3, q4⟩ := HE.out j hj
        exact ⟨A1, m1, c1, hc _ _ q1, by rw [stgsOf_at (by omega)]; exact (q2.laid hB hbl).up (Nat.le_trans hB hsz), q3, q4⟩⟩
      go_wp2
      go_ret
      exact ⟨_, _, rfl, HSS.out, hbl⟩
set_option maxHeartbeats 4000000 in
set_option maxRecDepth 100000 in
theorem spec_IsPlan (A : Option Addr) (n c B : Nat) (ps : List Pth) (A2 : Option Addr) (n2 c2 B2 : Nat) (p : List Prt) (w : World) (h : PthsAt w B A n ps) (hB : B ≤ w.heap.size) (hn : n ≤ 4294967296) (h2 : PrtsAt w B2 A2 n2 p) (hB2 : B2 ≤ w.heap.size) (hn2 : n2 ≤ 1048576) (hm : ∀ j, j < n2 → (prAt p j).stage.length ≤ 1048576) :
    Calls Tryz.prog 70 #[.slice A n c, .slice A2 n2 c2] w fun e w' => e = .returned (.bool (isPlan ps p)) ∧ Below w.heap.size w w' := by
  have hl2 := h2.1
  have HM := Lib.hid hm
  have HNO := Lib.hid (fun j (hj : j < n2) hh => isPlan_no (ps := ps) (p := p) (j := j) (by omega) hh)
  have HS8 := Lib.hid (fun x (hx : Below w.heap.size w x) => spec_l8Stages A2 n2 c2 B2 p x (h2.below hB2 hx) (Nat.le_trans hB2 hx.size) hn2)
  clear hm
  cases hin : inB (p.length : Int) 1 6
  · have HR := Lib.hid (isPlan_len (ps := ps) hin)
    have HI := Lib.hid (spec_l1In (n2 : Int) 1 6 w)
    rw [← hl2] at HI
    have HIN := Lib.hid hin
    clear hin
    go_enter Tryz.func70, Tryz.ntmps70
    go_wp2_with fail
    rw [← hl2]
    refine HI.out.mono ?_
    rw [HIN.out]
    rintro e w1 ⟨rfl, rfl⟩
    go_wp2
    go_ret
    exact ⟨by rw [HR.out]; try rfl, Below.refl _ _⟩
  have HEND := Lib.hid (fun hh => isPlan_end (ps := ps) hin hh)
  have hin6 := inB_t hin
  have HIN : Hid (inB (n2 : Int) 1 6 = true) := Lib.hid (by rw [← hl2]; exact hin)
  have HL2 := Lib.hid hl2
  clear hin hl2
  go_enter Tryz.func70, Tryz.ntmps70
  go_wp2_with fail
  refine (spec_l1In _ _ _ _).mono ?_
  rw [HIN.out]
  rintro e w1 ⟨rfl, rfl⟩
  go_wp2
  go_loopw [5] (fun i wr => ∃ k : Nat, k ≤ n2 ∧ i = .int .i64 k ∧ (∀ j, j < k → okPrt ps (prAt p j) = true) ∧ Below w.heap.size w wr) (fun i _ => n2 - (intOf i).toNat)
  case atStart => exact ⟨0, Nat.zero_le _, rfl, fun j hj => absurd hj (by omega), Below.refl _ _⟩
  case round =>
    obtain ⟨k, hk, rfl, hgo, hbl⟩ := hrel
    have hsz := hbl.size
    have HG := Lib.hid hgo
    clear hgo
    by_cases hlt : k < n2
    · obtain ⟨ad, A', m, c', rfl, hab, hq, hi, hmc, hnil⟩ := h2.at hlt
      have hmk := HM.out k hlt
      have hlz := hi.1
      have hok : okPrt ps (prAt p k) = (!decide ((prAt p k).stage.length = 0) && isTog ps (prAt p k).stage && inB (prAt p k).green (leastG ps (prAt p k).stage) 60) := rfl
      have HOK := Lib.hid hok
      have HNK := Lib.hid (HNO.out k hlt)
      have HGK : Hid (okPrt ps (prAt p k) = true → ∀ j, j < k + 1 → okPrt ps (prAt p j) = true) := Lib.hid (fun hh j hj => by
        by_cases e : j = k
        · subst e; exact hh
        · exact HG.out j (by omega))
      have c0 := fun x : GW wr => ((hq.below hbl (by omega)).below x.ok (by omega)).c0
      have c1 := fun x : GW wr => ((hq.below hbl (by omega)).below x.ok (by omega)).c1
      have HIX := Lib.hid (fun x : GW wr => hi.two' hB2 hbl x.ok)
      have HWX := Lib.hid (fun x : GW wr => hbl.trans (x.ok.mono hsz))
      have i1 : (0 : Int) ≤ (k : Int) := by omega
      have i2 : (k : Int) < (n2 : Int) := by omega
      clear hq hi hok
      generalize (prAt p k).stage = zs at *
      generalize (prAt p k).green = g at *
      have hT := fun x : GW wr => spec_IsTogether A n c B ps A' m c' B2 zs x.val (h.below ((HWX.out x).mono hB)) (HIX.out x) (Nat.le_trans hB (HWX.out x).size) (Nat.le_trans hB2 (HWX.out x).size) hn (by omega)
      have hLG := fun x : GW wr => spec_LeastGreen A n c B ps A' m c' B2 zs x.val (h.below ((HWX.out x).mono hB)) (HIX.out x) (Nat.le_trans hB (HWX.out x).size) (Nat.le_trans hB2 (HWX.out x).size) hn (by omega)
      have hIN := fun x : GW wr => spec_l1In g (leastG ps zs) 60 x.val
      rw [hlz] at HOK
      clear hlz hmk HIX HWX
      by_cases hm0 : m = 0
      · have HR := Lib.hid (HNK.out (by rw [HOK.out, decide_eq_true hm0]; rfl))
        have e1 : ((m : Int) == 0) = true := by simp [hm0]
        clear hm0
        go_wp2
        refine wp_region_grow (by kernel_rfl) (by kernel_rfl) ?_
        repeat (go_big_quiet_step (first | (go_at_call 119; exact calls_gw _ (hT _)) | (go_at_call 90; exact calls_gw _ (hLG _)) | (go_at_call 101; exact calls_gw_same _ (hIN _))))
        refine wpQuiet_nil ?_
        intro x3
        have hb3 := x3.ok
        clear c0 c1 hT hLG hIN
        generalize x3.val = w3 at *
        go_wp2
        go_ret
        exact ⟨by rw [HR.out]; try rfl, hbl.trans (hb3.mono hsz)⟩
      have e1 : ((m : Int) == 0) = false := by simpa using hm0
      cases ht : isTog ps zs
      · have HR := Lib.hid (HNK.out (by rw [HOK.out, ht, Bool.and_false]; rfl))
        rw [ht] at hT
        clear ht hm0
        go_wp2
        refine wp_region_grow (by kernel_rfl) (by kernel_rfl) ?_
        repeat (go_big_quiet_step (first | (go_at_call 119; exact calls_gw _ (hT _)) | (go_at_call 90; exact calls_gw _ (hLG _)) | (go_at_call 101; exact calls_gw_same _ (hIN _))))
        refine wpQuiet_nil ?_
        intro x3
        have hb3 := x3.ok
        clear c0 c1 hT hLG hIN
        generalize x3.val = w3 at *
        go_wp2
        go_ret
        exact ⟨by rw [HR.out]; try rfl, hbl.trans (hb3.mono hsz)⟩
      cases hg : inB g (leastG ps zs) 60
      · have HR := Lib.hid (HNK.out (by rw [HOK.out, hg, Bool.and_false]))
        rw [ht] at hT
        rw [hg] at hIN
        clear ht hm0 hg
        generalize leastG ps zs = lg at *
        go_wp2
        refine wp_region_grow (by kernel_rfl) (by kernel_rfl) ?_
        repeat (go_big_quiet_step (first | (go_at_call 119; exact calls_gw _ (hT _)) | (go_at_call 90; exact calls_gw _ (hLG _)) | (go_at_call 101; exact calls_gw_same _ (hIN _))))
        refine wpQuiet_nil ?_
        intro x3
        have hb3 := x3.ok
        clear c0 c1 hT hLG hIN
        generalize x3.val = w3 at *
        go_wp2
        go_ret
        exact ⟨by rw [HR.out]; try rfl, hbl.trans (hb3.mono hsz)⟩
      · have HR := Lib.hid (HGK.out (by rw [HOK.out, ht, hg, decide_eq_false hm0]; rfl))
        rw [ht] at hT
        rw [hg] at hIN
        clear ht hm0 hg
        generalize leastG ps zs = lg at *
        go_wp2
        refine wp_region_grow (by kernel_rfl) (by kernel_rfl) ?_
        repeat (go_big_quiet_step (first | (go_at_call 119; exact calls_gw _ (hT _)) | (go_at_call 90; exact calls_gw _ (hLG _)) | (go_at_call 101; exact calls_gw_same _ (hIN _))))
        refine wpQuiet_nil ?_
        intro x3
        have hb3 := x3.ok
        clear c0 c1 hT hLG hIN
        generalize x3.val = w3 at *
        go_wp2
        go_roundw
        case rel => exact ⟨k + 1, by omega, by go_num, HR.out, hbl.trans (hb3.mono hsz)⟩
        case measure => simp [intOf]; omega
    · obtain rfl : k = n2 := by omega
      have HR := Lib.hid (HEND.out fun j hj => HG.out j (by have := HL2.out; omega))
      have HS := Lib.hid (HS8.out wr hbl)
      have HBL := Lib.hid hbl
      clear hbl
      go_wp2_with fail
      refine HS.out.mono ?_
      rintro e w3 ⟨A4, c4, rfl, hss, hb3⟩
      have HB3 := Lib.hid (HBL.out.trans (hb3.mono HBL.out.size))
      have HCV := Lib.hid (spec_Covers A n c B ps A4 k c4 w3.heap.size (stgsOf p) w3 (h.below (HB3.out.mono hB)) hss (Nat.le_trans hB HB3.out.size) (Nat.le_refl _) hn (by omega) (fun j hj => by rw [stgsOf_at (by have := HL2.out; omega)]; have := HM.out j hj; omega))
      clear hb3 hss
      go_wp2_with fail
      refine HCV.out.mono ?_
      rintro e w4 ⟨rfl, hb4⟩
      go_wp2
      go_ret
      exact ⟨by rw [HR.out]; try rfl, HB3.out.trans (hb4.mono HB3.out.size)⟩
set_option maxHeartbeats 2000000 in
theorem spec_l8Long (A : Option Addr) (n c B : Nat) (ps : List Pth) (A2 : Option Addr) (n2 c2 B2 : Nat) (p : List Prt) (k : Nat) (w : World) (h : PthsAt w B A n ps) (hB : B ≤ w.heap.size) (hn : n ≤ 4294967296) (h2 : PrtsAt w B2 A2 n2 p) (hB2 : B2 ≤ w.heap.size) (hn2 : n2 ≤ 1048576) (hm : ∀ j, j < n2 → (prAt p j).stage.length ≤ 1048576) (hk : k < n2) (hg : -1000 ≤ (prAt p k).green ∧ (prAt p k).green ≤ 1000) :
    Calls Tryz.prog 148 #[.slice A n c, .slice A2 n2 c2, .int .i64 k] w fun e w' => e = .returned (.int .i64 (longAt ps p k)) ∧ Below w.heap.size w w' := by
  have hl2 := h2.1
  have hnx : nextJ p k < n2 := by have := nextJ_lt (p := p) (j := k) (by omega); omega
  have e1 : IntKind.i64.wrap ((k : Int) + 1) = (k : Int) + 1 := by rw [IntKind.wrap_i64]; omega
  have e2 : ((k : Int) + 1).tmod (n2 : Int) = ((nextJ p k : Nat) : Int) := by
    unfold nextJ
    rw [hl2, Int.tmod_eq_emod_of_nonneg (by omega), Int.natCast_emod, Int.natCast_add]
    rfl
  have hcb := clrAt_bound ps p k
  have e3 : IntKind.i64.wrap ((prAt p k).green + clrAt ps p k) = longAt ps p k := by
    unfold longAt
    rw [IntKind.wrap_i64]
    omega
  have HL : Hid (clrAt ps p k = clrB ps (prAt p k).stage (prAt p (nextJ p k)).stage) := Lib.hid rfl
  have hm1 := hm k hk
  have hm2 := hm _ hnx
  obtain ⟨ad, A', m, c', rfl, hab, hq, hi, hmc, hnil⟩ := h2.at hk
  obtain ⟨ad', A3, m3, c3, ea, hab3, hq3, hi3, hmc3, hnil3⟩ := h2.at hnx
  obtain rfl : ad = ad' := by injection ea
  clear ea
  have hlz := hi.1
  have hlz3 := hi3.1
  have HIX := Lib.hid (fun x : GW w => hi.laid hB2 x.ok)
  have HIX3 := Lib.hid (fun x : GW w => hi3.laid hB2 x.ok)
  have c0 := fun x : GW w => (hq.below x.ok (by omega)).c0
  have c1 := fun x : GW w => (hq.below x.ok (by omega)).c1
  have d0 := fun x : GW w => (hq3.below x.ok (by omega)).c0
  have i1 : (0 : Int) ≤ (k : Int) := by omega
  have i2 : (k : Int) < (n2 : Int) := by omega
  have z1 : ¬ n2 = 0 := by omega
  have z2 : ¬ (n2 : Int) = 0 := by omega
  generalize nextJ p k = nx at *
  have i3 : (0 : Int) ≤ (nx : Int) := by omega
  have i4 : (nx : Int) < (n2 : Int) := by omega
  generalize (prAt p nx).stage = zb at *
  generalize (prAt p k).stage = za at *
  generalize (prAt p k).green = g at *
  have hCB := fun x : GW w => spec_ClearBetween A n c B ps A' m c' B2 za A3 m3 c3 B2 zb x.val (h.below (x.ok.mono hB)) (Nat.le_trans hB x.ok.size) hn (HIX.out x) (Nat.le_trans hB2 x.ok.size) (by omega) (HIX3.out x) (Nat.le_trans hB2 x.ok.size) (by omega)
  rw [← HL.out] at hCB
  generalize clrAt ps p k = cl at *
  generalize longAt ps p k = r at *
  clear HL hlz hlz3 hm1 hm2 HIX HIX3 hq hi hq3 hi3 hl2 hm hg hcb hmc hmc3 hnil hnil3 hk hnx
  go_enter Tryz.func148, Tryz.ntmps148
  go_wp2
  refine wp_region_grow (by kernel_rfl) (by kernel_rfl) ?_
  repeat (go_big_quiet_step (first | (go_at_call 140; exact calls_gw _ (hCB _))))
  refine wpQuiet_nil ?_
  intro x3
  have hb3 := x3.ok
  clear c0 c1 d0 hCB
  generalize x3.val = w3 at *
  go_wp2
  go_ret
  exact ⟨rfl, hb3⟩
theorem plan_green {ps : List Pth} {p : List Prt} (h : isPlan ps p = true) {k : Nat} (hk : k < p.length) : -1000 ≤ (prAt p k).green ∧ (prAt p k).green ≤ 1000 := by
  obtain ⟨_, _, _, h4⟩ := isPlan_parts h
  obtain ⟨_, _, h5, h6⟩ := okPrt_parts (h4 k hk)
  have := leastG_bound ps (prAt p k).stage
  omega
theorem sum_wrap {ps : List Pth} {p : List Prt} (h : isPlan ps p = true) {k : Nat} (hk : k < p.length) : wrap64 (sumTo ps p k + longAt ps p k) = sumTo ps p (k + 1) := by
  obtain ⟨⟨_, h6⟩, _⟩ := isPlan_parts h
  have h1 := sumTo_bound h k (by omega)
  have h2 := longAt_bound h hk
  show _ = sumTo ps p k + longAt ps p k
  unfold wrap64
  omega
theorem isPlan_zero {ps : List Pth} {p : List Prt} (h : p.length = 0) : isPlan ps p = false := isPlan_len (by rw [h]; rfl)
set_option maxHeartbeats 2000000 in
theorem spec_Cycle (A : Option Addr) (n c B : Nat) (ps : List Pth) (A2 : Option Addr) (n2 c2 B2 : Nat) (p : List Prt) (w : World) (h : PthsAt w B A n ps) (hB : B ≤ w.heap.size) (hn : n ≤ 4294967296) (h2 : PrtsAt w B2 A2 n2 p) (hB2 : B2 ≤ w.heap.size) (hn2 : n2 ≤ 1048576) (hm : ∀ j, j < n2 → (prAt p j).stage.length ≤ 1048576) :
    Calls Tryz.prog 130 #[.slice A n c, .slice A2 n2 c2] w fun e w' => e = .returned (.int .i64 (cycleP ps p)) ∧ Below w.heap.size w w' := by
  have hl2 := h2.1
  have HIP := Lib.hid (fun x (hx : Below w.heap.size w x) => spec_IsPlan A n c B ps A2 n2 c2 B2 p x (h.below (hx.mono hB)) (Nat.le_trans hB hx.size) hn (h2.below hB2 hx) (Nat.le_trans hB2 hx.size) hn2 hm)
  have HL8 := Lib.hid (fun k x (hx : Below w.heap.size w x) (hk : k < n2) hg => spec_l8Long A n c B ps A2 n2 c2 B2 p k x (h.below (hx.mono hB)) (Nat.le_trans hB hx.size) hn (h2.below hB2 hx) (Nat.le_trans hB2 hx.size) hn2 hm hk hg)
  have HGR := Lib.hid (fun (hh : isPlan ps p = true) k (hk : k < n2) => plan_green hh (show k < p.length by omega))
  have HSM := Lib.hid (fun (hh : isPlan ps p = true) k (hk : k < n2) => sum_wrap hh (show k < p.length by omega))
  have HY : Hid (isPlan ps p = true → cycleP ps p = sumTo ps p n2) := Lib.hid (fun hh => by rw [cycle_yes hh, hl2])
  have HN := Lib.hid (fun (hh : isPlan ps p = false) => cycle_no hh)
  have HZ : Hid (n2 = 0 → isPlan ps p = false) := Lib.hid (fun hh => isPlan_zero (by omega))
  clear hl2 hm h h2 hB hB2
  go_enter Tryz.func130, Tryz.ntmps130
  go_wp2
  go_loopw [5, 6] (fun x i wr => ∃ (k : Nat) (q : Int), k ≤ n2 ∧ i = .int .i64 k ∧ x = .int .i64 q ∧ q = sumTo ps p k ∧ (0 < k → isPlan ps p = true) ∧ Below w.heap.size w wr) (fun _ i _ => n2 - (intOf i).toNat)
  case atStart => exact ⟨0, 0, Nat.zero_le _, rfl, rfl, rfl, fun hh => absurd hh (by omega), Below.refl _ _⟩
  case round =>
    obtain ⟨k, q, hk, rfl, rfl, hq, hgo, hbl⟩ := hrel
    have HGO := Lib.hid hgo
    have HQ := Lib.hid hq
    have HBW := Lib.hid hbl
    clear hgo hq hbl
    by_cases hlt : k < n2
    · go_wp2_with fail
      refine (HIP.out wr HBW.out).mono ?_
      cases hp : isPlan ps p
      · have HR : Hid (cycleP ps p = q) := Lib.hid (by
          rw [HN.out hp, HQ.out]
          by_cases e : 0 < k
          · have := HGO.out e
            rw [hp] at this
            cases this
          · obtain rfl : k = 0 := by omega
            rfl)
        rintro e w3 ⟨rfl, hb3⟩
        have HB3 := Lib.hid (HBW.out.trans (hb3.mono HBW.out.size))
        clear hb3 hp
        go_wp2
        go_ret
        exact ⟨by rw [HR.out]; try rfl, HB3.out⟩
      · rintro e w3 ⟨rfl, hb3⟩
        have HB3 := Lib.hid (HBW.out.trans (hb3.mono HBW.out.size))
        have HL := Lib.hid (HL8.out k w3 HB3.out hlt (HGR.out hp k hlt))
        have hS := HSM.out hp k hlt
        rw [← HQ.out] at hS
        have HS := Lib.hid hS
        have HP := Lib.hid hp
        clear hb3 hp hS
        generalize longAt ps p k = lo at *
        go_wp2_with fail
        refine HL.out.mono ?_
        rintro e w4 ⟨rfl, hb4⟩
        have HB4 := Lib.hid (HB3.out.trans (hb4.mono HB3.out.size))
        clear hb4
        go_wp2
        go_roundw
        case rel => exact ⟨k + 1, _, by omega, by go_num, rfl, HS.out, fun _ => HP.out, HB4.out⟩
        case measure => simp [intOf]; omega
    · obtain rfl : k = n2 := by omega
      have HR : Hid (cycleP ps p = q) := Lib.hid (by
        rw [HQ.out]
        by_cases e : 0 < k
        · exact HY.out (HGO.out e)
        · obtain rfl : k = 0 := by omega
          exact HN.out (HZ.out rfl))
      go_wp2
      go_ret
      exact ⟨by rw [HR.out]; try rfl, HBW.out⟩
end Go.Proofs.YtgpffbnmdfichaaGreatDoor

/- Chapter 9's model: PartAt. -/
namespace Go.Proofs.YtgpffbnmdfichaaGreatDoor
open Go.RowKit
set_option linter.unusedVariables false

theorem part_off {ps : List Pth} {p : List Prt} {t : Int} (h : (isPlan ps p && inB t 0 1000000) = false) : partP ps p t = (-1, 0) := by unfold partP; rw [h]; rfl
theorem part_on {ps : List Pth} {p : List Prt} {t : Int} (h : isPlan ps p = true) (ht : inB t 0 1000000 = true) {k : Nat} {q : Int} (hk : k < p.length) (hq : q = t % sumTo ps p p.length - sumTo ps p k) (h0 : 0 ≤ q) (h1 : q < longAt ps p k) : partP ps p t = ((k : Int), q) := by
  have e : locP ps p (t % sumTo ps p p.length) = k := locD_eq h (by omega) (by show _ < sumTo ps p k + longAt ps p k; omega) (by omega) (by omega)
  unfold partP
  rw [h, ht, e, ← hq]
  rfl
set_option maxHeartbeats 4000000 in
set_option maxRecDepth 100000 in
theorem spec_l9Light (A : Option Addr) (n c B : Nat) (ps : List Pth) (A2 : Option Addr) (n2 c2 B2 : Nat) (p : List Prt) (k : Nat) (s id : Int) (m : Nat) (w : World) (h : PthsAt w B A n ps) (hB : B ≤ w.heap.size) (hn : n ≤ 4294967296) (h2 : PrtsAt w B2 A2 n2 p) (hB2 : B2 ≤ w.heap.size) (hn2 : n2 ≤ 1048576) (hm : ∀ j, j < n2 → (prAt p j).stage.length ≤ 1048576) (hk : k < n2) (hf : findK id ps = some m) (hs : -1000000 ≤ s ∧ s ≤ 1000000) (hg : -1000 ≤ (prAt p k).green ∧ (prAt p k).green ≤ 1000) :
    Calls Tryz.prog 149 #[.slice A n c, .slice A2 n2 c2, .int .i64 k, .int .i64 s, .int .i64 id] w fun e w' => e = .returned (.int .i64 (lightJ ps p k s id)) ∧ Below w.heap.size w w' := by
  have hl := h.1
  have hl2 := h2.1
  have hnx : nextJ p k < n2 := by have := nextJ_lt (p := p) (j := k) (by omega); omega
  have e1 : IntKind.i64.wrap ((k : Int) + 1) = (k : Int) + 1 := by rw [IntKind.wrap_i64]; omega
  have e2 : ((k : Int) + 1).tmod (n2 : Int) = ((nextJ p k : Nat) : Int) := by
    unfold nextJ
    rw [hl2, Int.tmod_eq_emod_of_nonneg (by omega), Int.natCast_emod, Int.natCast_add]
    rfl
  have hlj : lightJ ps p k s id = if hasI (prAt p k).stage id then (if decide (s < (prAt p k).green) || hasI (prAt p (nextJ p k)).stage id then 1 else if s < (prAt p k).green + clearN (pAt ps m) then 2 else 0) else 0 := by unfold lightJ idP; rw [hf]; rfl
  have HLJ := Lib.hid hlj
  have hml := findK_at hf
  have hfi : findI id ps = (m : Int) := by unfold findI; rw [hf]
  have hmn : m < n := by
    obtain ⟨q, hq, _⟩ := hml
    have := (List.getElem?_eq_some_iff.1 hq).1
    omega
  have hcb := clearN_bound (pAt ps m)
  have hm1 := hm k hk
  have hm2 := hm _ hnx
  obtain ⟨ad, A', mm, c', rfl, hab, hq, hi, hmc, hnil⟩ := h2.at hk
  obtain ⟨ad', A3, m3, c3, ea, hab3, hq3, hi3, hmc3, hnil3⟩ := h2.at hnx
  obtain rfl : ad = ad' := by injection ea
  clear ea
  have hlz := hi.1
  have hlz3 := hi3.1
  have c0 := hq.c0
  have c1 := hq.c1
  have d0 := hq3.c0
  have g1 := fun x : GW w => (hq.below x.ok (by omega)).c1
  have hH1 := spec_l6Has A' mm c' B2 (prAt p k).stage id w hi (by omega)
  have hH2 := spec_l6Has A3 m3 c3 B2 (prAt p (nextJ p k)).stage id w hi3 (by omega)
  have i1 : (0 : Int) ≤ (k : Int) := by omega
  have i2 : (k : Int) < (n2 : Int) := by omega
  have z1 : ¬ n2 = 0 := by omega
  have z2 : ¬ (n2 : Int) = 0 := by omega
  have e3 : IntKind.i64.wrap ((prAt p k).green + clearN (pAt ps m)) = (prAt p k).green + clearN (pAt ps m) := by rw [IntKind.wrap_i64]; omega
  generalize nextJ p k = nx at *
  have i3 : (0 : Int) ≤ (nx : Int) := by omega
  have i4 : (nx : Int) < (n2 : Int) := by omega
  generalize (prAt p nx).stage = zb at *
  generalize (prAt p k).stage = za at *
  generalize (prAt p k).green = g at *
  have hFP := fun x : GW w => spec_FindPath A n c x.val.heap.size ps id x.val ((h.below (x.ok.mono hB)).up (Nat.le_trans hB x.ok.size)) hn
  rw [hfi] at hFP
  obtain ⟨pd, pp0, rfl, hpb, hpe, hpc⟩ := h.at hmn
  obtain rfl : pAt ps m = pp0 := pAt_some hpe
  clear hpe
  have q0 := fun x : GW w => (hpc.below x.ok (by omega)).c0
  have q1 := fun x : GW w => (hpc.below x.ok (by omega)).c1
  have q2 := fun x : GW w => (hpc.below x.ok (by omega)).c2
  have q3 := fun x : GW w => (hpc.below x.ok (by omega)).c3
  have j1 : (0 : Int) ≤ (m : Int) := by omega
  have j2 : (m : Int) < (n : Int) := by omega
  generalize pAt ps m = pp at *
  have hCO := fun x : GW w => spec_ClearOf pp x.val
  unfold Pth.val at hCO
  generalize clearN pp = cl at *
  clear hlj hml hfi hcb hm1 hm2 hq hi hq3 hi3 hmc hmc3 hnil hnil3 hm hlz hlz3 hl hl2 hpc hnx hk hf hg h h2
  have H1 := Lib.hid hH1
  have H2 := Lib.hid hH2
  clear hH1 hH2
  go_enter Tryz.func149, Tryz.ntmps149
  go_wp2_with fail
  refine H1.out.mono ?_
  cases ha : hasI za id
  · have HR : Hid (lightJ ps p k s id = 0) := Lib.hid (by rw [HLJ.out, ha]; rfl)
    rintro e w1 ⟨rfl, rfl⟩
    clear ha HLJ
    go_wp2
    refine wp_region_grow (by kernel_rfl) (by kernel_rfl) ?_
    repeat (go_big_quiet_step (first | (go_at_call 177; exact calls_gw _ (hCO _)) | (go_at_call 117; exact calls_gw_same _ (hFP _))))
    refine wpQuiet_nil ?_
    intro x3
    have hb3 := x3.ok
    clear q0 q1 q2 q3 hCO hFP
    generalize x3.val = w3 at *
    go_wp2
    go_ret
    exact ⟨by rw [HR.out]; try rfl, hb3⟩
  by_cases hlt : s < g
  · have HR : Hid (lightJ ps p k s id = 1) := Lib.hid (by rw [HLJ.out, ha, decide_eq_true hlt]; rfl)
    rintro e w1 ⟨rfl, rfl⟩
    clear ha HLJ g1 q0 q1 q2 q3 hCO hFP
    go_wp2
    go_ret
    exact ⟨by rw [HR.out]; try rfl, Below.refl _ _⟩
  rintro e w1 ⟨rfl, rfl⟩
  go_wp2_with fail
  refine H2.out.mono ?_
  cases hb : hasI zb id
  · rintro e w1 ⟨rfl, rfl⟩
    by_cases h5 : s < g + cl
    · have HR : Hid (lightJ ps p k s id = 2) := Lib.hid (by rw [HLJ.out, ha, hb, decide_eq_false (show ¬ s < g by omega), if_pos rfl, if_neg (by decide), if_pos h5])
      clear ha hb HLJ
      go_wp2
      refine wp_region_grow (by kernel_rfl) (by kernel_rfl) ?_
      repeat (go_big_quiet_step (first | (go_at_call 177; exact calls_gw _ (hCO _)) | (go_at_call 117; exact calls_gw_same _ (hFP _))))
      refine wpQuiet_nil ?_
      intro x3
      have hb3 := x3.ok
      clear q0 q1 q2 q3 hCO hFP
      generalize x3.val = w3 at *
      go_wp2
      go_ret
      exact ⟨by rw [HR.out]; try rfl, hb3⟩
    · have HR : Hid (lightJ ps p k s id = 0) := Lib.hid (by rw [HLJ.out, ha, hb, decide_eq_false (show ¬ s < g by omega), if_pos rfl, if_neg (by decide), if_neg (show ¬ s < g + cl by omega)])
      clear ha hb HLJ
      go_wp2
      refine wp_region_grow (by kernel_rfl) (by kernel_rfl) ?_
      repeat (go_big_quiet_step (first | (go_at_call 177; exact calls_gw _ (hCO _)) | (go_at_call 117; exact calls_gw_same _ (hFP _))))
      refine wpQuiet_nil ?_
      intro x3
      have hb3 := x3.ok
      clear q0 q1 q2 q3 hCO hFP
      generalize x3.val = w3 at *
      go_wp2
      go_ret
      exact ⟨by rw [HR.out]; try rfl, hb3⟩
  · have HR : Hid (lightJ ps p k s id = 1) := Lib.hid (by rw [HLJ.out, ha, hb, Bool.or_true]; rfl)
    rintro e w1 ⟨rfl, rfl⟩
    clear ha hb HLJ g1 q0 q1 q2 q3 hCO hFP
    go_wp2
    go_ret
    exact ⟨by rw [HR.out]; try rfl, Below.refl _ _⟩
theorem part_yes {ps : List Pth} {p : List Prt} {t : Int} (h : isPlan ps p = true) (ht : inB t 0 1000000 = true) (id : Int) : ∃ (k : Nat) (q : Int), k < p.length ∧ partP ps p t = ((k : Int), q) ∧ 0 ≤ q ∧ q ≤ 65 ∧ lightP ps p t id = if (findK id ps).isSome then lightJ ps p k q id else 0 := by
  have hb := cycle_bound h
  rw [cycle_yes h] at hb
  have h0 := Int.emod_nonneg t (show sumTo ps p p.length ≠ 0 by omega)
  have h1 := Int.emod_lt_of_pos t (show 0 < sumTo ps p p.length by omega)
  have hs := locP_spec h h0 h1
  have hl := locP_lt h (t % sumTo ps p p.length)
  have hlb := longAt_bound h hl
  refine ⟨locP ps p (t % sumTo ps p p.length), _, hl, by unfold partP; rw [h, ht]; rfl, by omega, by omega, ?_⟩
  unfold lightP
  rw [h, ht, Bool.true_and, Bool.true_and]
theorem light_off {ps : List Pth} {p : List Prt} {t : Int} (h : (isPlan ps p && inB t 0 1000000) = false) (id : Int) : lightP ps p t id = 0 := by unfold lightP; rw [h, Bool.false_and]; rfl
end Go.Proofs.YtgpffbnmdfichaaGreatDoor

/- Chapter 9's model, the rest: l9Row, GreenOf, WaitOf. -/
namespace Go.Proofs.YtgpffbnmdfichaaGreatDoor
open Go.RowKit
set_option linter.unusedVariables false

/-- the first k parts' lights and m of the next. -/
def rowS (ps : List Pth) (p : List Prt) (id : Int) (k m : Nat) : List Int := rowTo ps p id k ++ (List.range m).map fun (s : Nat) => lightJ ps p k s id
theorem rowS_zero (ps : List Pth) (p : List Prt) (id : Int) (k : Nat) : rowS ps p id k 0 = rowTo ps p id k := by simp [rowS]
theorem rowS_push (ps : List Pth) (p : List Prt) (id : Int) (k m : Nat) : rowS ps p id k (m + 1) = rowS ps p id k m ++ [lightJ ps p k m id] := by simp [rowS, List.range_succ]
theorem rowS_full {ps : List Pth} {p : List Prt} (id : Int) (k : Nat) {m : Nat} (h : (m : Int) = longAt ps p k) : rowS ps p id k m = rowTo ps p id (k + 1) := by
  unfold rowS
  show _ = rowTo ps p id k ++ rowJ ps p id k
  unfold rowJ
  rw [← h]
  rfl
theorem rowS_len {ps : List Pth} {p : List Prt} (h : isPlan ps p = true) (id : Int) {k m : Nat} (hk : k < p.length) (hm : (m : Int) ≤ longAt ps p k) : (rowS ps p id k m).length ≤ 1000 := by
  have h1 := rowTo_len h id k (by omega)
  have h2 := sumTo_bound h k (by omega)
  have h3 := longAt_bound h hk
  obtain ⟨⟨_, h6⟩, _⟩ := isPlan_parts h
  unfold rowS
  rw [List.length_append, List.length_map, List.length_range]
  omega
theorem rowP_fullM {ps : List Pth} {p : List Prt} {id : Int} (hp : isPlan ps p = true) {i : Nat} (hi : findK id ps = some i) : rowP ps p id = rowTo ps p id p.length := by
  unfold rowP
  rw [hp, hi]
  rfl
theorem rowP_offM {ps : List Pth} {p : List Prt} {id : Int} (h : (isPlan ps p && (findK id ps).isSome) = false) : rowP ps p id = [] := by
  unfold rowP
  rw [h]
  rfl
theorem find_negM {ps : List Pth} {id : Int} (h : findK id ps = none) : findI id ps = -1 := by unfold findI; rw [h]
theorem find_posM {ps : List Pth} {id : Int} {i : Nat} (h : findK id ps = some i) : findI id ps = (i : Int) := by unfold findI; rw [h]
set_option maxHeartbeats 4000000 in
theorem spec_l9Row (A : Option Addr) (n c B : Nat) (ps : List Pth) (A2 : Option Addr) (n2 c2 B2 : Nat) (p : List Prt) (id : Int) (w : World) (h : PthsAt w B A n ps) (hB : B ≤ w.heap.size) (hn : n ≤ 4294967296) (h2 : PrtsAt w B2 A2 n2 p) (hB2 : B2 ≤ w.heap.size) (hn2 : n2 ≤ 1048576) (hm : ∀ j, j < n2 → (prAt p j).stage.length ≤ 1048576) :
    Calls Tryz.prog 102 #[.slice A n c, .slice A2 n2 c2, .int .i64 id] w fun e w' => ∃ v, e = .returned v ∧ Own .i64 3 w' w.heap.size v (rowP ps p id) ∧ Below w.heap.size w w' := by
  have hl2 := h2.1
  have HIP := Lib.hid (fun x (hx : Below w.heap.size w x) => spec_IsPlan A n c B ps A2 n2 c2 B2 p x (h.below (hx.mono hB)) (Nat.le_trans hB hx.size) hn (h2.below hB2 hx) (Nat.le_trans hB2 hx.size) hn2 hm)
  have HFP := Lib.hid (fun x (hx : Below w.heap.size w x) => spec_FindPath A n c B ps id x (h.below (hx.mono hB)) hn)
  have HL8 := Lib.hid (fun k x (hx : Below w.heap.size w x) (hk : k < n2) hg => spec_l8Long A n c B ps A2 n2 c2 B2 p k x (h.below (hx.mono hB)) (Nat.le_trans hB hx.size) hn (h2.below hB2 hx) (Nat.le_trans hB2 hx.size) hn2 hm hk hg)
  have HL9 := Lib.hid (fun k s m x (hx : Below w.heap.size w x) (hk : k < n2) hf hs hg => spec_l9Light A n c B ps A2 n2 c2 B2 p k s id m x (h.below (hx.mono hB)) (Nat.le_trans hB hx.size) hn (h2.below hB2 hx) (Nat.le_trans hB2 hx.size) hn2 hm hk hf hs hg)
  have own0 := own_bare .i64 3 w
  have hb0 : Below w.heap.size w (w.alloc (.cells #[] 3)) := (Below.refl _ _).alloc (Nat.le_refl _) _
  have HO0 := Lib.hid own0
  have HB0 := Lib.hid hb0
  have HL2 := Lib.hid hl2
  clear h h2 hm own0 hb0 hl2
  cases hp : isPlan ps p
  · have HR := Lib.hid (rowP_offM (ps := ps) (p := p) (id := id) (by rw [hp]; rfl))
    have HP := Lib.hid hp
    clear hp
    go_enter Tryz.func102, Tryz.ntmps102
    go_wp2_with fail
    refine (HIP.out _ HB0.out).mono ?_
    rw [HP.out]
    rintro e w1 ⟨rfl, hb1⟩
    have HO1 := Lib.hid (HO0.out.below hb1)
    have HB1 := Lib.hid (HB0.out.trans (hb1.mono HB0.out.size))
    clear hb1
    go_wp2
    go_ret
    exact ⟨_, rfl, by rw [HR.out]; exact HO1.out, HB1.out⟩
  · have HP := Lib.hid hp
    clear hp
    cases hf : findK id ps
    · have HR := Lib.hid (rowP_offM (ps := ps) (p := p) (id := id) (by rw [HP.out, hf]; rfl))
      have HN := Lib.hid (find_negM hf)
      clear hf
      go_enter Tryz.func102, Tryz.ntmps102
      go_wp2_with fail
      refine (HIP.out _ HB0.out).mono ?_
      rw [HP.out]
      rintro e w1 ⟨rfl, hb1⟩
      have HO1 := Lib.hid (HO0.out.below hb1)
      have HB1 := Lib.hid (HB0.out.trans (hb1.mono HB0.out.size))
      clear hb1
      go_wp2_with fail
      refine (HFP.out _ HB1.out).mono ?_
      rw [HN.out]
      rintro e w2 ⟨rfl, rfl⟩
      go_wp2
      go_ret
      exact ⟨_, rfl, by rw [HR.out]; exact HO1.out, HB1.out⟩
    · rename_i q
      have HR := Lib.hid (rowP_fullM HP.out hf)
      have HN := Lib.hid (find_posM hf)
      have HF := Lib.hid hf
      rw [HL2.out] at HR
      clear hf
      go_enter Tryz.func102, Tryz.ntmps102
      go_wp2_with fail
      refine (HIP.out _ HB0.out).mono ?_
      rw [HP.out]
      rintro e w1 ⟨rfl, hb1⟩
      have HO1 := Lib.hid (HO0.out.below hb1)
      have HB1 := Lib.hid (HB0.out.trans (hb1.mono HB0.out.size))
      clear hb1
      go_wp2_with fail
      refine (HFP.out _ HB1.out).mono ?_
      rw [HN.out]
      rintro e w2 ⟨rfl, rfl⟩
      go_wp2
      go_loopw [7, 8] (fun v i wr => ∃ k : Nat, k ≤ n2 ∧ i = .int .i64 k ∧ Own .i64 3 wr w.heap.size v (rowTo ps p id k) ∧ Below w.heap.size w wr) (fun _ i _ => n2 - (intOf i).toNat)
      case atStart => exact ⟨0, Nat.zero_le _, rfl, HO1.out, HB1.out⟩
      case round =>
        clear HO1 HB1
        obtain ⟨k, hk, rfl, hown, hbl⟩ := hrel
        have HOW := Lib.hid hown
        have HBL := Lib.hid hbl
        clear hown hbl
        by_cases hlt : k < n2
        · have hg := plan_green HP.out (k := k) (by rw [HL2.out]; exact hlt)
          have HG := Lib.hid hg
          have hlb := longAt_bound HP.out (j := k) (by rw [HL2.out]; exact hlt)
          have HSL := Lib.hid (fun m hm => rowS_len HP.out id (k := k) (m := m) (by rw [HL2.out]; exact hlt) hm)
          have HSF := Lib.hid (fun m hm => rowS_full (ps := ps) (p := p) id k (m := m) hm)
          have HLL := Lib.hid (fun x (hx : Below w.heap.size w x) => HL8.out k x hx hlt hg)
          clear hg
          generalize longAt ps p k = lo at *
          obtain ⟨wo, rfl⟩ : ∃ wo : World, wo = wr := ⟨_, rfl⟩
          go_wp2
          go_loopw [7, 9] (fun v s wr => ∃ m : Nat, (m : Int) ≤ lo ∧ s = .int .i64 m ∧ Own .i64 3 wr w.heap.size v (rowS ps p id k m) ∧ Below w.heap.size w wr) (fun _ s _ => lo.toNat - (intOf s).toNat)
          case atStart => exact ⟨0, by omega, rfl, by rw [rowS_zero]; exact HOW.out, HBL.out⟩
          case round =>
            clear HOW HBL
            obtain ⟨m, hm, rfl, hown, hbl⟩ := hrel
            have HO2 := Lib.hid hown
            have HB2 := Lib.hid hbl
            clear hown hbl
            have HLC := Lib.hid (HLL.out wr HB2.out)
            go_wp2_with fail
            refine HLC.out.mono ?_
            rintro e w3 ⟨rfl, hb3⟩
            have hO3 := HO2.out.below hb3
            have hB3 := HB2.out.trans (hb3.mono HB2.out.size)
            have HO3 := Lib.hid hO3
            have HB3 := Lib.hid hB3
            clear hb3 hO3 hB3
            by_cases hlm : (m : Int) < lo
            · have HC9 := Lib.hid (HL9.out k (m : Int) q w3 HB3.out hlt HF.out (by omega) HG.out)
              have HPU := Lib.hid (rowS_push ps p id k m)
              have hsl := HSL.out m (by omega)
              generalize rowS ps p id k m = l at *
              generalize lightJ ps p k (m : Int) id = li at *
              go_wp2_with fail
              refine HC9.out.mono ?_
              rintro e w4 ⟨rfl, hb4⟩
              have hO4 := HO3.out.below hb4
              have hB4 := HB3.out.trans (hb4.mono HB3.out.size)
              have hs4 := hB4.size
              clear hb4
              go_wp2_with (at_builtin; refine wpList_app1 rfl _ _ 24 rfl .i64 3 8 Tryz.underlying24 info_i64 w.heap.size _ l rfl hO4 (by decide) (by omega) _ _ _ w4.heap.size hs4 rfl (by simp) ?_; intro v5 w5 hown5 hgrow5 hat5)
              have HB5 := Lib.hid (hO4.push (Nat.le_refl _) (hB4.alloc hs4 _) (by simp; omega) hgrow5)
              have HO5 := Lib.hid hown5
              clear hgrow5 hat5 hO4 hB4 hown5
              go_roundw
              case rel => exact ⟨m + 1, by omega, by go_num, by rw [HPU.out]; exact HO5.out, HB5.out⟩
              case measure => simp [intOf]; omega
            · have hmm : (m : Int) = lo := by omega
              have HO4 : Hid (Own .i64 3 w3 w.heap.size _ (rowTo ps p id (k + 1))) := Lib.hid (by rw [← HSF.out m hmm]; exact HO3.out)
              clear hmm
              go_wp2
              go_roundw
              case rel => exact ⟨k + 1, by omega, by go_num, HO4.out, HB3.out⟩
              case measure => simp [intOf]; omega
        · obtain rfl : k = n2 := by omega
          go_wp2
          go_ret
          exact ⟨_, rfl, by rw [HR.out]; exact HOW.out, HBL.out⟩
set_option maxHeartbeats 2000000 in
theorem spec_GreenOf (A : Option Addr) (n c B : Nat) (ps : List Pth) (A2 : Option Addr) (n2 c2 B2 : Nat) (p : List Prt) (id : Int) (w : World) (h : PthsAt w B A n ps) (hB : B ≤ w.heap.size) (hn : n ≤ 4294967296) (h2 : PrtsAt w B2 A2 n2 p) (hB2 : B2 ≤ w.heap.size) (hn2 : n2 ≤ 1048576) (hm : ∀ j, j < n2 → (prAt p j).stage.length ≤ 1048576) :
    Calls Tryz.prog 128 #[.slice A n c, .slice A2 n2 c2, .int .i64 id] w fun e w' => e = .returned (.int .i64 (greenP ps p id)) ∧ Below w.heap.size w w' := by
  have HC := Lib.hid (spec_l9Row A n c B ps A2 n2 c2 B2 p id w h hB hn h2 hB2 hn2 hm)
  have HR : Hid (greenP ps p id = grnTo (rowP ps p id) (rowP ps p id).length) := Lib.hid grn_sum
  have hlen := rowP_len (ps := ps) (p := p) id
  clear h h2 hm hB hB2 hn hn2
  generalize rowP ps p id = zs at *
  go_enter Tryz.func128, Tryz.ntmps128
  go_wp2_with fail
  refine HC.out.mono ?_
  rintro e w1 ⟨v, rfl, hv, hb⟩
  obtain ⟨Av, cv, rfl⟩ := hv.sliced
  have hi := hv.ints
  have HB := Lib.hid hb
  clear hv hb
  obtain ⟨m, hm⟩ : ∃ m, m = zs.length := ⟨_, rfl⟩
  rw [← hm] at hi HR hlen ⊢
  clear hm
  have hl1 := hi.1
  go_wp2
  go_loop [7, 9] (fun x i => ∃ (k : Nat) (q : Int), k ≤ m ∧ i = .int .i64 k ∧ x = .int .i64 q ∧ q = grnTo zs k) (fun _ i => m - (intOf i).toNat)
  case atStart => exact ⟨0, 0, Nat.zero_le _, rfl, rfl, rfl⟩
  case round =>
    obtain ⟨k, q, hk, rfl, rfl, hq⟩ := hrel
    have hqb := grnTo_bound zs k
    rw [← hq] at hqb
    by_cases hlt : k < m
    · obtain ⟨ad, rfl, hab, hcell⟩ := hi.2 (by omega)
      have hc := hcell k hlt
      have i1 : (0 : Int) ≤ (k : Int) := by omega
      have i2 : (k : Int) < (m : Int) := by omega
      by_cases h1 : zs.getD k 0 = 1
      · have HS : Hid (grnTo zs (k + 1) = q + 1) := Lib.hid (by show grnTo zs k + _ = _; rw [if_pos h1, hq])
        have e0 : (zs.getD k 0 == 1) = true := by rw [h1]; rfl
        clear hcell hq h1 hl1
        generalize zs.getD k 0 = z at *
        go_wp2
        go_round
        case rel => exact ⟨k + 1, q + 1, by omega, by go_num, rfl, HS.out.symm⟩
        case measure => simp [intOf]; omega
      · have HS : Hid (grnTo zs (k + 1) = q) := Lib.hid (by show grnTo zs k + _ = _; rw [if_neg h1, Int.add_zero, hq])
        have e0 : (zs.getD k 0 == 1) = false := by generalize zs.getD k 0 = z at h1; simpa using h1
        clear hcell hq h1 hl1
        generalize zs.getD k 0 = z at *
        go_wp2
        go_round
        case rel => exact ⟨k + 1, q, by omega, by go_num, rfl, HS.out.symm⟩
        case measure => simp [intOf]; omega
    · obtain rfl : k = m := by omega
      have HQ := Lib.hid hq
      clear hq hl1
      go_wp2
      go_ret
      exact ⟨by rw [HR.out, ← HQ.out]; try rfl, HB.out⟩
set_option maxHeartbeats 4000000 in
theorem spec_WaitOf (A : Option Addr) (n c B : Nat) (ps : List Pth) (A2 : Option Addr) (n2 c2 B2 : Nat) (p : List Prt) (id : Int) (w : World) (h : PthsAt w B A n ps) (hB : B ≤ w.heap.size) (hn : n ≤ 4294967296) (h2 : PrtsAt w B2 A2 n2 p) (hB2 : B2 ≤ w.heap.size) (hn2 : n2 ≤ 1048576) (hm : ∀ j, j < n2 → (prAt p j).stage.length ≤ 1048576) :
    Calls Tryz.prog 129 #[.slice A n c, .slice A2 n2 c2, .int .i64 id] w fun e w' => e = .returned (.int .i64 (waitP ps p id)) ∧ Below w.heap.size w w' := by
  have HC := Lib.hid (spec_l9Row A n c B ps A2 n2 c2 B2 p id w h hB hn h2 hB2 hn2 hm)
  have HR : Hid (waitP ps p id = minI (waitTo (rowP ps p id) (2 * (rowP ps p id).length)).2 (rowP ps p id).length) := Lib.hid rfl
  have hlen := rowP_len (ps := ps) (p := p) id
  clear h h2 hm hB hB2 hn hn2
  generalize rowP ps p id = zs at *
  go_enter Tryz.func129, Tryz.ntmps129
  go_wp2_with fail
  refine HC.out.mono ?_
  rintro e w1 ⟨v, rfl, hv, hb⟩
  obtain ⟨Av, cv, rfl⟩ := hv.sliced
  have hi := hv.ints
  have HB := Lib.hid hb
  clear hv hb
  obtain ⟨n3, hn3⟩ : ∃ n3, n3 = zs.length := ⟨_, rfl⟩
  rw [← hn3] at hi HR hlen ⊢
  clear hn3
  have hl := hi.1
  have HL := Lib.hid hl
  have HI := Lib.hid hi
  have hm2 : IntKind.i64.wrap (2 * (n3 : Int)) = ((2 * n3 : Nat) : Int) := by rw [IntKind.wrap_i64]; omega
  obtain ⟨m, hm⟩ : ∃ m, m = 2 * n3 := ⟨_, rfl⟩
  rw [← hm] at hm2 HR
  have HMM := Lib.hid hm
  have hmn : m ≤ 2000000 := by omega
  clear hm hl hi
  go_wp2
  go_loopw [8, 9, 10] (fun x y i wr => ∃ (k : Nat) (q r : Int), k ≤ m ∧ i = .int .i64 k ∧ x = .int .i64 q ∧ y = .int .i64 r ∧ q = (waitTo zs k).2 ∧ r = (waitTo zs k).1 ∧ w1 = wr) (fun _ _ i _ => m - (intOf i).toNat)
  case atStart => exact ⟨0, 0, 0, Nat.zero_le _, rfl, rfl, rfl, rfl, rfl, rfl⟩
  case round =>
    obtain ⟨k, q, r, hk, rfl, rfl, rfl, hq, hr, rfl⟩ := hrel
    have hqb := waitTo_bound zs k
    rw [← hq, ← hr] at hqb
    obtain ⟨⟨hr1, hr2⟩, hq1, hq2⟩ := hqb
    by_cases hlt : k < m
    · have hn0 : 0 < n3 := by have := HMM.out; omega
      obtain ⟨ad, rfl, hab, hcell⟩ := HI.out.2 (by omega)
      have hc := hcell (k % n3) (Nat.mod_lt _ hn0)
      have em : ((k : Nat) : Int).tmod (n3 : Int) = ((k % n3 : Nat) : Int) := by rw [Int.tmod_eq_emod_of_nonneg (by omega), Int.natCast_emod]
      have z1 : ¬ n3 = 0 := by omega
      have z2 : ¬ (n3 : Int) = 0 := by omega
      have hltm : k % n3 < n3 := Nat.mod_lt _ hn0
      have HL2 := HL.out
      clear hcell
      by_cases h1 : zs.getD (k % n3) 0 = 1
      · have HS : Hid ((waitTo zs (k + 1)).2 = maxI q 0 ∧ (waitTo zs (k + 1)).1 = 0) := Lib.hid (by unfold waitTo; rw [HL2, if_pos h1, ← hq]; exact ⟨rfl, rfl⟩)
        have e0 : (zs.getD (k % n3) 0 == 1) = true := by rw [h1]; rfl
        clear hq hr h1 HL2
        generalize zs.getD (k % n3) 0 = z at *
        generalize k % n3 = y at *
        have i1 : (0 : Int) ≤ (y : Int) := by omega
        have i2 : (y : Int) < (n3 : Int) := by omega
        go_wp2_with fail
        refine (spec_Max _ _ _).mono ?_
        generalize maxI q 0 = mx at *
        rintro e w2 ⟨rfl, rfl⟩
        go_wp2
        go_roundw
        case rel => exact ⟨k + 1, mx, 0, by omega, by go_num, rfl, rfl, HS.out.1.symm, HS.out.2.symm, trivial⟩
        case measure => simp [intOf]; omega
      · have HS : Hid ((waitTo zs (k + 1)).2 = maxI q (r + 1) ∧ (waitTo zs (k + 1)).1 = r + 1) := Lib.hid (by unfold waitTo; rw [HL2, if_neg h1, ← hq, ← hr]; exact ⟨rfl, rfl⟩)
        have e0 : (zs.getD (k % n3) 0 == 1) = false := by generalize zs.getD (k % n3) 0 = z at h1; simpa using h1
        clear hq hr h1 HL2
        generalize zs.getD (k % n3) 0 = z at *
        generalize k % n3 = y at *
        have i1 : (0 : Int) ≤ (y : Int) := by omega
        have i2 : (y : Int) < (n3 : Int) := by omega
        go_wp2_with fail
        refine (spec_Max _ _ _).mono ?_
        generalize maxI q (r + 1) = mx at *
        rintro e w2 ⟨rfl, rfl⟩
        go_wp2
        go_roundw
        case rel => exact ⟨k + 1, mx, r + 1, by omega, by go_num, rfl, rfl, HS.out.1.symm, HS.out.2.symm, trivial⟩
        case measure => simp [intOf]; omega
    · obtain rfl : k = m := by omega
      rw [← hq] at HR
      clear hq hr
      go_wp2_with fail
      refine (spec_Min _ _ _).mono ?_
      rintro e w2 ⟨rfl, rfl⟩
      go_wp2
      go_ret
      exact ⟨by rw [HR.out]; try rfl, HB.out⟩
end Go.Proofs.YtgpffbnmdfichaaGreatDoor

/- answer, NextGreen: the program. -/
namespace Go.Proofs.YtgpffbnmdfichaaGreatDoor
open Go.RowKit
set_option linter.unusedVariables false

theorem tab_find {ps : List Pth} {p : List Prt} {id : Int} {i : Nat} (h : findK id (tabPs ps p) = some i) : isPlan ps p = true ∧ findK id ps = some i := by
  cases hp : isPlan ps p
  · rw [tab_off hp] at h; cases h
  · rw [tab_on hp] at h; exact ⟨rfl, h⟩
theorem tab_none {ps : List Pth} {p : List Prt} {id : Int} (h : findK id (tabPs ps p) = none) : (isPlan ps p && (findK id ps).isSome) = false := by
  cases hp : isPlan ps p
  · rfl
  · rw [tab_on hp] at h; rw [h]; rfl
theorem TabIn.below {w w' : World} {B : Nat} {ps : List Pth} {p : List Prt} {At : Option Addr} {nt : Nat} {Aw : Option Addr} (h : TabIn w B ps p At nt Aw) (hB : B ≤ w.heap.size) (hb : Below w.heap.size w w') : TabIn w' B ps p At nt Aw :=
  ⟨h.1, h.2.1.below (hb.mono hB), h.2.2.keep fun q hq => hb.cell (Nat.lt_of_lt_of_le hq hB)⟩
theorem tab_small (ps : List Pth) (p : List Prt) : (tabPs ps p).length ≤ 12 := by
  cases hp : isPlan ps p
  · rw [tab_off hp]; simp
  · rw [tab_on hp]; exact arePs_len12 (isPlan_parts hp).2.1
set_option maxHeartbeats 4000000 in
theorem impl_answer {ps : List Pth} {p : List Prt} {At : Option Addr} {nt ct : Nat} {Aw : Option Addr} {cw B : Nat} (id t : Int) (w : World) (h : TabIn w B ps p At nt Aw) (hB : B ≤ w.heap.size) :
    Calls Tryz.prog 125 #[.agg #[.slice At nt ct, .slice Aw nt cw], .agg #[.int .i64 id, .int .i64 t]] w fun e w' => e = .returned (.int .i64 (nextP ps p id t)) ∧ Below w.heap.size w w' := by
  have hnt := tab_small ps p
  rw [← h.1] at hnt
  obtain ⟨wA, hwA⟩ : ∃ wA, wA = (w.alloc (.cells #[.slice At nt ct, .slice Aw nt cw] 162)).alloc (.cells #[.int .i64 id, .int .i64 t] 100) := ⟨_, rfl⟩
  obtain ⟨hk0, hk1, hsz, hbA⟩ := two_blocks hwA
  have HF := Lib.hid (impl_FindPath At nt ct B (tabPs ps p) id wA (h.2.1.below (hbA.mono hB)) (Nat.le_trans hB hbA.size) (by omega))
  have HA := Lib.hid (h.below hB hbA)
  have HBA := Lib.hid hbA
  have HK0 := Lib.hid hk0
  have HK1 := Lib.hid hk1
  have y0 : wA.cell? ⟨w.heap.size, 0, none⟩ = some (.slice At nt ct) := by rw [cell_of_row wA _ 0 _ _ _ hk0]; rfl
  have z0 : wA.cell? ⟨w.heap.size + 1, 0, none⟩ = some (.int .i64 id) := by rw [cell_of_row wA _ 0 _ _ _ hk1]; rfl
  have la0 : w.heap.size < wA.heap.size := by omega
  have la1 : w.heap.size + 1 < wA.heap.size := by omega
  have hBA : B ≤ wA.heap.size := by omega
  clear hk0 hk1 hsz hbA h
  cases hf : findK id (tabPs ps p)
  · have HN := Lib.hid (find_negM hf)
    have HR := Lib.hid (nextP_off (ps := ps) (p := p) (id := id) (f := t) (by rw [tab_none hf]; rfl))
    clear hf
    go_enter Tryz.func125, Tryz.ntmps125
    go_wp2_with fail
    rw [← hwA]
    refine HF.out.mono ?_
    rw [HN.out]
    rintro e w1 ⟨rfl, hb⟩
    clear hwA y0 z0
    go_wp2
    go_ret
    exact ⟨by rw [HR.out]; try rfl, HBA.out.trans (hb.mono HBA.out.size)⟩
  · rename_i i
    obtain ⟨hp, hfi⟩ := tab_find hf
    have HN := Lib.hid (find_posM hf)
    have HOF := Lib.hid (fun hh => nextP_off (ps := ps) (p := p) (id := id) (f := t) hh)
    have hbs : (isPlan ps p && (findK id ps).isSome) = true := by rw [hp, hfi]; rfl
    have HON := Lib.hid (fun (f : Nat) h2 => nextP_on (f := f) hbs h2)
    have hrl := rowP_len (ps := ps) (p := p) id
    obtain ⟨_, hr0⟩ := rowP_pos hbs
    obtain ⟨hin, hid⟩ := idAt_find hfi
    have hnn : nt = ps.length := by rw [HA.out.1, tab_on hp]
    have hit : i < nt := by omega
    have HRA : Hid ((awyRows ps p nt).getD i [] = awayL (rowP ps p id)) := Lib.hid (by rw [awyRows_at hit, hid])
    have HNX := Lib.hid (fun s (hs : s < (rowP ps p id).length) => awayL_at hs)
    have HNM := Lib.hid (fun s => nextD_mod (rowP ps p id) s)
    have HNL := Lib.hid (fun s => nextD_lt (r := rowP ps p id) (s := s) hr0)
    have HLL := Lib.hid (awayL_len (rowP ps p id))
    clear hf hfi hbs hin hid hp hnn
    generalize rowP ps p id = zs at *
    cases ht : inB t 0 100000
    · have HR := Lib.hid (HOF.out (by rw [ht, Bool.and_false]))
      have HT := Lib.hid ht
      clear ht
      have i0 : ¬ (i : Int) < 0 := by omega
      go_enter Tryz.func125, Tryz.ntmps125
      go_wp2_with fail
      rw [← hwA]
      refine HF.out.mono ?_
      rw [HN.out]
      rintro e w1 ⟨rfl, hb⟩
      have HB1 := Lib.hid (HBA.out.trans (hb.mono HBA.out.size))
      have z1 : w1.cell? ⟨w.heap.size + 1, 1, none⟩ = some (.int .i64 t) := by rw [cell_of_row w1 _ 1 _ _ _ ((hb.block _ la1).trans HK1.out)]; rfl
      clear hwA y0 z0 hb
      go_wp2_with fail
      refine (impl_InRange _ _ _ _).mono ?_
      rw [HT.out]
      rintro e w2 ⟨rfl, rfl⟩
      go_wp2
      go_ret
      exact ⟨by rw [HR.out]; try rfl, HB1.out⟩
    · have htb := inB_t ht
      obtain ⟨f, rfl⟩ : ∃ g : Nat, t = (g : Int) := ⟨t.toNat, by omega⟩
      have HR := Lib.hid (HON.out f ht)
      have HT := Lib.hid ht
      clear ht HOF HON
      have i0 : ¬ (i : Int) < 0 := by omega
      go_enter Tryz.func125, Tryz.ntmps125
      go_wp2_with fail
      rw [← hwA]
      refine HF.out.mono ?_
      rw [HN.out]
      rintro e w1 ⟨rfl, hb⟩
      have HB1 := Lib.hid (HBA.out.trans (hb.mono HBA.out.size))
      have x1 : w1.cell? ⟨w.heap.size, 1, none⟩ = some (.slice Aw nt cw) := by rw [cell_of_row w1 _ 1 _ _ _ ((hb.block _ la0).trans HK0.out)]; rfl
      have z1 : w1.cell? ⟨w.heap.size + 1, 1, none⟩ = some (.int .i64 (f : Int)) := by rw [cell_of_row w1 _ 1 _ _ _ ((hb.block _ la1).trans HK1.out)]; rfl
      have HA1 := Lib.hid (HA.out.below hBA hb)
      have ls1 := hb.size
      clear hwA y0 z0 hb
      obtain ⟨aw, rfl, hab, hrow⟩ := HA1.out.2.2.2 (by omega)
      obtain ⟨A', m, c', hci, hi, hmc, hnil⟩ := hrow i hit
      rw [HRA.out] at hi
      have hm := hi.1
      rw [HLL.out] at hm
      obtain ⟨ad, rfl, hab2, hcell⟩ := hi.2 (by omega)
      have hltm : f % m < m := Nat.mod_lt _ (by omega)
      have hcz := hcell (f % m) hltm
      have hnx := HNX.out (f % m) (by omega)
      have hnm := HNM.out f
      have hnl := HNL.out f
      rw [hm] at hnm
      rw [hnx, hnm] at hcz
      have e8 : IntKind.i64.wrap ((f : Int) + (nextD zs f : Int)) = (f : Int) + (nextD zs f : Int) := by rw [IntKind.wrap_i64]; omega
      have em : (f : Int).tmod (m : Int) = ((f % m : Nat) : Int) := by rw [Int.tmod_eq_emod_of_nonneg (by omega), Int.natCast_emod]
      have z2 : ¬ m = 0 := by omega
      have z3 : ¬ (m : Int) = 0 := by omega
      have l0 : w.heap.size < w1.heap.size := by omega
      have l1 : w.heap.size + 1 < w1.heap.size := by omega
      clear hcell hi hrow hnx hnm
      generalize f % m = y at *
      generalize (nextD zs f : Int) = d at *
      have i1 : (0 : Int) ≤ (y : Int) := by omega
      have i2 : (y : Int) < (m : Int) := by omega
      have j1 : (0 : Int) ≤ (i : Int) := by omega
      have j2 : (i : Int) < (nt : Int) := by omega
      go_wp2_with fail
      refine (impl_InRange _ _ _ _).mono ?_
      rw [HT.out]
      rintro e w2 ⟨rfl, rfl⟩
      go_wp2
      go_quiet (fail)
      go_wp2
      go_ret
      exact ⟨by rw [HR.out]; try rfl, belowN HB1.out _⟩
end Go.Proofs.YtgpffbnmdfichaaGreatDoor

/- NextGreen: the model. -/
namespace Go.Proofs.YtgpffbnmdfichaaGreatDoor
open Go.RowKit
set_option linter.unusedVariables false

set_option maxHeartbeats 4000000 in
theorem spec_NextGreen (A : Option Addr) (n c B : Nat) (ps : List Pth) (A2 : Option Addr) (n2 c2 B2 : Nat) (p : List Prt) (id f : Int) (w : World) (h : PthsAt w B A n ps) (hB : B ≤ w.heap.size) (hn : n ≤ 4294967296) (h2 : PrtsAt w B2 A2 n2 p) (hB2 : B2 ≤ w.heap.size) (hn2 : n2 ≤ 1048576) (hm : ∀ j, j < n2 → (prAt p j).stage.length ≤ 1048576) :
    Calls Tryz.prog 73 #[.slice A n c, .slice A2 n2 c2, .int .i64 id, .int .i64 f] w fun e w' => e = .returned (.int .i64 (nextP ps p id f)) ∧ Below w.heap.size w w' := by
  have HC := Lib.hid (spec_l9Row A n c B ps A2 n2 c2 B2 p id w h hB hn h2 hB2 hn2 hm)
  have hlen := rowP_len (ps := ps) (p := p) id
  have HOF := Lib.hid (fun hh => nextP_off (ps := ps) (p := p) (id := id) (f := f) hh)
  clear h h2 hm hB hB2 hn hn2
  cases hb : (isPlan ps p && (findK id ps).isSome)
  · have HR := Lib.hid (HOF.out (by rw [hb]; rfl))
    have hz := rowP_offM hb
    rw [hz] at HC
    clear hb hz hlen HOF
    go_enter Tryz.func73, Tryz.ntmps73
    go_wp2_with fail
    refine HC.out.mono ?_
    rintro e w1 ⟨v, rfl, hv, hb⟩
    obtain ⟨Av, cv, rfl⟩ := hv.sliced
    have HB := Lib.hid hb
    clear hb hv
    simp only [List.length_nil]
    go_wp2
    go_loopw [10] (fun i wr => i = .int .i64 0 ∧ w1 = wr) (fun i _ => 0)
    case atStart => exact ⟨rfl, rfl⟩
    case round =>
      obtain ⟨rfl, rfl⟩ := hrel
      go_wp2
      go_ret
      exact ⟨by rw [HR.out]; try rfl, HB.out⟩
  · obtain ⟨hrl, hr0⟩ := rowP_pos hb
    have HPB := Lib.hid hb
    have HGR := Lib.hid (rowP_gr hb)
    have HON := Lib.hid (fun (f : Nat) h2 => nextP_on (f := f) hb h2)
    clear hb hrl
    generalize rowP ps p id = zs at *
    cases hf : inB f 0 100000
    · have HR := Lib.hid (HOF.out (by rw [hf, Bool.and_false]))
      have HF := Lib.hid hf
      clear hf HOF
      go_enter Tryz.func73, Tryz.ntmps73
      go_wp2_with fail
      refine HC.out.mono ?_
      rintro e w1 ⟨v, rfl, hv, hb⟩
      obtain ⟨Av, cv, rfl⟩ := hv.sliced
      have HB := Lib.hid hb
      clear hb hv
      obtain ⟨m, hm⟩ : ∃ m, m = zs.length := ⟨_, rfl⟩
      rw [← hm] at hr0 ⊢
      clear hm
      go_wp2
      go_loopw [10] (fun i wr => i = .int .i64 0 ∧ w1 = wr) (fun i _ => 0)
      case atStart => exact ⟨rfl, rfl⟩
      case round =>
        obtain ⟨rfl, rfl⟩ := hrel
        go_wp2_with fail
        refine (spec_l1In _ _ _ _).mono ?_
        rw [HF.out]
        rintro e w2 ⟨rfl, rfl⟩
        go_wp2
        go_ret
        exact ⟨by rw [HR.out]; try rfl, HB.out⟩
    · have hfb := inB_t hf
      obtain ⟨f, rfl⟩ : ∃ g : Nat, f = (g : Int) := ⟨f.toNat, by omega⟩
      have HR := Lib.hid (HON.out f hf)
      have HF := Lib.hid hf
      clear hf HOF HON
      go_enter Tryz.func73, Tryz.ntmps73
      go_wp2_with fail
      refine HC.out.mono ?_
      rintro e w1 ⟨v, rfl, hv, hb⟩
      obtain ⟨Av, cv, rfl⟩ := hv.sliced
      have HI := Lib.hid hv.ints
      have HB := Lib.hid hb
      clear hb hv
      obtain ⟨m, hm⟩ : ∃ m, m = zs.length := ⟨_, rfl⟩
      have HM := Lib.hid hm
      rw [← hm] at hr0 hlen HI ⊢
      clear hm
      go_wp2
      go_loopw [10] (fun i wr => ∃ k : Nat, k ≤ m ∧ i = .int .i64 k ∧ (∀ e, e < k → isGr zs (f + e) = false) ∧ w1 = wr) (fun i _ => m - (intOf i).toNat)
      case atStart => exact ⟨0, Nat.zero_le _, rfl, fun e he => absurd he (by omega), rfl⟩
      case round =>
        obtain ⟨k, hk, rfl, hno, rfl⟩ := hrel
        have HNO := Lib.hid hno
        clear hno
        by_cases hlt : k < m
        · obtain ⟨ad, rfl, hab, hcell⟩ := HI.out.2 (by omega)
          have hc := hcell ((f + k) % m) (Nat.mod_lt _ hr0)
          have e8 : IntKind.i64.wrap ((f : Int) + (k : Int)) = (f : Int) + (k : Int) := by rw [IntKind.wrap_i64]; omega
          have em : ((f : Int) + (k : Int)).tmod (m : Int) = (((f + k) % m : Nat) : Int) := by rw [Int.tmod_eq_emod_of_nonneg (by omega), Int.natCast_emod, Int.natCast_add]
          have z1 : ¬ m = 0 := by omega
          have z2 : ¬ (m : Int) = 0 := by omega
          have hltm : (f + k) % m < m := Nat.mod_lt _ hr0
          have HGK : Hid (isGr zs (f + k) = decide (zs.getD ((f + k) % m) 0 = 1)) := Lib.hid (by unfold isGr; rw [← HM.out])
          clear hcell
          generalize zs.getD ((f + k) % m) 0 = z at *
          generalize (f + k) % m = y at *
          have i1 : (0 : Int) ≤ (y : Int) := by omega
          have i2 : (y : Int) < (m : Int) := by omega
          by_cases h1 : z = 1
          · have HR2 : Hid (nextP ps p id (f : Int) = (f : Int) + (k : Int)) := Lib.hid (by rw [HR.out, nextD_eq (d := k) (by rw [← HM.out]; exact hlt) (by rw [HGK.out, h1]; rfl) HNO.out])
            subst h1
            go_wp2_with fail
            refine (spec_l1In _ _ _ _).mono ?_
            rw [HF.out]
            rintro e w2 ⟨rfl, rfl⟩
            go_wp2
            go_ret
            exact ⟨by rw [HR2.out]; try rfl, HB.out⟩
          · have e0 : (z == 1) = false := by simpa using h1
            have HN2 : Hid (∀ e, e < k + 1 → isGr zs (f + e) = false) := Lib.hid (fun e he => by
              by_cases q : e = k
              · rw [q, HGK.out]; exact decide_eq_false h1
              · exact HNO.out e (by omega))
            clear h1
            go_wp2_with fail
            refine (spec_l1In _ _ _ _).mono ?_
            rw [HF.out]
            rintro e w2 ⟨rfl, rfl⟩
            go_wp2
            go_roundw
            case rel => exact ⟨k + 1, by omega, by go_num, HN2.out, trivial⟩
            case measure => simp [intOf]; omega
        · exfalso
          obtain ⟨e, h3, h4⟩ := gr_from HGR.out f
          have := HNO.out e (by have := HM.out; omega)
          rw [h4] at this
          cases this
end Go.Proofs.YtgpffbnmdfichaaGreatDoor

/- Call as Lean data; rows of them, and the laws' helpers for these (written by gentype.py). -/
namespace Go.Proofs.YtgpffbnmdfichaaGreatDoor
open Go.RowKit
set_option linter.unusedVariables false

structure Cal where
  path : Int
  sec : Int
deriving DecidableEq
def Cal.cells (p : Cal) : List Value := [.int .i64 p.path, .int .i64 p.sec]
def Cal.val (p : Cal) : Value := .agg #[.int .i64 p.path, .int .i64 p.sec]
def Cal.wf (p : Cal) : Prop := (Lit.int .i64 p.path).wf = true ∧ (Lit.int .i64 p.sec).wf = true
def calcells (ps : List Cal) : List Value := ps.flatMap Cal.cells
theorem calcells_length (ps : List Cal) : (calcells ps).length = ps.length * 2 := flat_length (f := Cal.cells) (fun _ => rfl) ps
theorem calcells_take {ps : List Cal} {k : Nat} {p : Cal} (h : ps[k]? = some p) : calcells (ps.take (k + 1)) = calcells (ps.take k) ++ p.cells := by
  unfold calcells
  rw [List.take_add_one, h, List.flatMap_append]
  simp
theorem calcells_one (ps : List Cal) : ∀ u ∈ calcells ps, u.oneCell' = true := by
  intro u hu
  obtain ⟨p, _, hp⟩ := List.mem_flatMap.1 hu
  simp only [Cal.cells, List.mem_cons, List.not_mem_nil, or_false] at hp
  rcases hp with rfl | rfl <;> rfl
theorem calcells_put {ps : List Cal} {zs : List Value} {k : Nat} {p : Cal} (h : ps[k]? = some p) (hz : k * 2 + 2 ≤ zs.length) :
    ((calcells (ps.take k) ++ zs.drop (k * 2)).set (k * 2) (.int .i64 p.path)).set (k * 2 + 1) (.int .i64 p.sec) = calcells (ps.take (k + 1)) ++ zs.drop ((k + 1) * 2) := by
  obtain ⟨z0, z1, hd⟩ := drop2 hz
  have hk := (List.getElem?_eq_some_iff.1 h).1
  rw [hd, set2 (by rw [calcells_length, List.length_take]; omega), calcells_take h]
  simp [Cal.cells, Nat.add_mul]
def CalsAt (w : World) (B : Nat) (A : Option Addr) (n : Nat) (ps : List Cal) : Prop := ps.length = n ∧ CellsAt w B A (n * 2) (calcells ps)
theorem CalsAt.keep {w w' : World} {B : Nat} {A : Option Addr} {n : Nat} {ps : List Cal} (h : CalsAt w B A n ps) (hk : ∀ p : Addr, p.block < B → w'.cell? p = w.cell? p) : CalsAt w' B A n ps := ⟨h.1, h.2.keep hk⟩
theorem CalsAt.below {w w' : World} {B : Nat} {A : Option Addr} {n : Nat} {ps : List Cal} (h : CalsAt w B A n ps) (hb : Below B w w') : CalsAt w' B A n ps := ⟨h.1, h.2.below hb⟩
theorem CalsAt.up {w : World} {B B' : Nat} {A : Option Addr} {n : Nat} {ps : List Cal} (h : CalsAt w B A n ps) (hB : B ≤ B') : CalsAt w B' A n ps := ⟨h.1, h.2.up hB⟩
structure CalAt (w : World) (q : Addr) (p : Cal) : Prop where
  c0 : w.cell? q = some (.int .i64 p.path)
  c1 : w.cell? ⟨q.block, q.off + 1, none⟩ = some (.int .i64 p.sec)
theorem CalAt.keep {w w' : World} {q : Addr} {p : Cal} (h : CalAt w q p) (e : w'.heap[q.block]? = w.heap[q.block]?) : CalAt w' q p :=
  ⟨(World.cell?_of_block e).trans h.c0, (World.cell?_of_block (a := ⟨q.block, q.off + 1, none⟩) e).trans h.c1⟩
theorem CalAt.below {w w' : World} {q : Addr} {p : Cal} {B : Nat} (h : CalAt w q p) (hb : Below B w w') (hB : q.block < B) : CalAt w' q p := h.keep (hb.block _ hB)
theorem cal_head {w : World} {g : Nat} {p : Cal} (h : CalAt w ⟨g, 0, none⟩ p) : w.cell? ⟨g, 0, none⟩ = some (.int .i64 p.path) ∧ w.cell? ⟨g, 1, none⟩ = some (.int .i64 p.sec) := ⟨h.c0, h.c1⟩
theorem cal_of_block {w : World} {g : Nat} {p : Cal} {E : TypeId} {fr : Nat × Nat} (h : w.heap[g]? = some (.cells #[.int .i64 p.path, .int .i64 p.sec] E fr)) : CalAt w ⟨g, 0, none⟩ p :=
  ⟨by rw [cell_of_row w g 0 _ E fr h]; rfl, by rw [cell_of_row w g _ _ E fr h]; rfl⟩
theorem CalsAt.at {w : World} {B : Nat} {A : Option Addr} {n : Nat} {ps : List Cal} (h : CalsAt w B A n ps) {k : Nat} (hk : k < n) : ∃ ad p, A = some ad ∧ (ad.add (k * 2)).block < B ∧ ps[k]? = some p ∧ CalAt w (ad.add (k * 2)) p := by
  obtain ⟨hl, _, hc⟩ := h
  obtain ⟨ad, e, hb, hc⟩ := hc (by omega)
  have hp : ps[k]? = some ps[k] := List.getElem?_eq_getElem (by omega)
  have hg := fun i (hi : i < 2) => flat_get (f := Cal.cells) (fun _ => rfl) ps k i _ hp hi
  have ha := fun i (hi : 0 < i) => (add_add ad (k * 2) i).symm.trans (add_plusF _ i hi)
  refine ⟨ad, ps[k], e, by rw [add_block]; exact hb, hp, hc _ _ (hg 0 (by decide)), ?_⟩
  · rw [← ha 1 (by decide)]; exact hc _ _ (hg 1 (by decide))
theorem law_toCall (p : Cal) (w : World) : Calls Tryz.prog 75 #[p.val] w fun e w' => e = .returned p.val ∧ Below w.heap.size w w' := by
  obtain ⟨a, b⟩ := p
  simp only [Cal.val]
  go_enter Tryz.func75, Tryz.ntmps75
  go_wp2
  refine bodyPost_ret (by rw [results_cell rfl]; go_simp; try rfl) rfl ?_
  exact ⟨rfl, ((((Below.refl _ _).alloc (Nat.le_refl _) _).alloc (by simp) _).alloc (by simp; omega) _)⟩
theorem info_cal : (Tryz.prog.info? 100).map (fun i => (i.zero, i.size, i.bytes)) = some (some (.agg #[.int .i64 0, .int .i64 0]), 2, 16) := by kernel_rfl
theorem made_cal (n : Nat) : (madeCells (Value.agg #[Value.int .i64 0, Value.int .i64 0]).cells (n * 2)).toList = calcells (List.replicate n ⟨0, 0⟩) := by
  have h : (Value.agg #[Value.int .i64 0, Value.int .i64 0]).cells = #[Value.int .i64 0, Value.int .i64 0] := rfl
  rw [h]
  apply List.ext_getElem?
  intro i
  simp only [madeCells, Array.toList_map, List.getElem?_map]
  by_cases hi : i < n * 2
  · have hg := flat_get (f := Cal.cells) (fun _ => rfl) (List.replicate n ⟨0, 0⟩) (i / 2) (i % 2) ⟨0, 0⟩ (by rw [List.getElem?_replicate, if_pos (by omega)]) (Nat.mod_lt _ (by decide))
    rw [show i / 2 * 2 + i % 2 = i by omega] at hg
    unfold calcells
    rw [hg]
    have h4 : i % 2 = 0 ∨ i % 2 = 1 := by omega
    rcases h4 with h4 | h4 <;> simp [hi, h4, Cal.cells]
  · rw [List.getElem?_eq_none (l := calcells _) (by rw [calcells_length, List.length_replicate]; omega)]
    simp [hi]
theorem law_toCallS (A : Option Addr) (n c B : Nat) (ps : List Cal) (w : World) (h : CalsAt w B A n ps) (hB : B ≤ w.heap.size) (hn : n ≤ 4294967296) :
    Calls Tryz.prog 28 #[.slice A n c] w fun e w' => e = .returned (.slice (some ⟨w.heap.size, 0, none⟩) n n) ∧ w'.ownsRow w.heap.size 100 2 (.slice (some ⟨w.heap.size, 0, none⟩) n n) n (calcells ps) ∧ Below w.heap.size w w' := by
  have hl := h.1
  go_enter Tryz.func28, Tryz.ntmps28
  go_wp2_with ((with_reducible show wpList _ _ _ _ _ _); refine wpList_mkR rfl _ _ _ rfl 100 _ 2 _ Tryz.underlying51 info_cal (by decide) (n : Int) (n : Int) n rfl rfl rfl rfl (by omega) ?_; intro w1 hown hgrow)
  go_loopw [4] (fun i wr => ∃ k : Nat, k ≤ n ∧ i = .int .i64 k ∧ wr.ownsRow w.heap.size 100 2 (.slice (some ⟨w.heap.size, 0, none⟩) n n) n (calcells (ps.take k) ++ (calcells (List.replicate n ⟨0, 0⟩)).drop (k * 2)) ∧ Below w.heap.size w wr) (fun i _ => n - (intOf i).toNat)
  case atStart => exact ⟨0, Nat.zero_le _, rfl, by rw [made_cal] at hown; simpa [calcells] using hown, below_grown hgrow⟩
  case round =>
    obtain ⟨k, hk, rfl, hown, hbl⟩ := hrel
    by_cases hlt : k < n
    · obtain ⟨ad, p, rfl, hab, hp, hq⟩ := h.at hlt
      obtain ⟨c0, c1⟩ := hq.below hbl (by omega)
      go_wp2_with fail
      refine (law_toCall p _).mono ?_
      rintro e w2 ⟨rfl, hb2⟩
      have hown2 := ownr_below hown hb2
      obtain ⟨x0, hx0⟩ := ownr_some hown2 (j := k * 2) (by omega)
      obtain ⟨x1, hx1⟩ := ownr_some hown2 (j := k * 2 + 1) (by omega)
      have f0 := World.ownsRow.frozenAt hown2
      have hst := (World.ownsRow.stored (World.ownsRow.stored hown2 (k * 2) (.int .i64 p.path)).1 (k * 2 + 1) (.int .i64 p.sec)).1
      rw [calcells_put hp (by rw [calcells_length, List.length_replicate]; omega)] at hst
      have HS := Lib.hid hst
      have HB := Lib.hid (hbl.trans (hb2.mono hbl.size))
      simp only [Cal.val]
      clear hown hown2 hbl hb2 hst hq
      go_wp2
      go_roundw
      case rel => exact ⟨k + 1, by omega, by go_num, HS.out, ((HB.out.setCell (Nat.le_refl _) _).setCell (Nat.le_refl _) _)⟩
      case measure => simp [intOf]; omega
    · obtain rfl : k = n := by omega
      rw [List.take_of_length_le (by omega), List.drop_of_length_le (by rw [calcells_length, List.length_replicate]; exact Nat.le_refl _), List.append_nil] at hown
      go_wp2
      go_ret
      exact ⟨rfl, hown, hbl⟩
theorem law_eqCall (p q : Cal) (w : World) : Calls Tryz.prog 79 #[p.val, q.val] w fun e w' => e = .returned (.bool (decide (p = q))) ∧ Below w.heap.size w w' := by
  obtain ⟨a, b⟩ := p
  obtain ⟨a', b'⟩ := q
  simp only [Cal.val, Cal.mk.injEq]
  have hb0 := ((Below.refl w.heap.size w).alloc (Nat.le_refl _) (.cells #[.int .i64 a, .int .i64 b] 100)).alloc (by simp) (.cells #[.int .i64 a', .int .i64 b'] 100)
  have HB := Lib.hid hb0
  clear hb0
  by_cases h0 : a = a'
  rotate_left
  · have e0 : (a != a') = true := by simpa using h0
    go_enter Tryz.func79, Tryz.ntmps79
    go_wp2
    go_ret
    exact ⟨by simp [h0], HB.out⟩
  subst h0
  by_cases h1 : b = b'
  rotate_left
  · have e0 : (b != b') = true := by simpa using h1
    go_enter Tryz.func79, Tryz.ntmps79
    go_wp2
    go_ret
    exact ⟨by simp [h1], HB.out⟩
  subst h1
  go_enter Tryz.func79, Tryz.ntmps79
  go_wp2
  go_ret
  exact ⟨by simp, HB.out⟩
theorem same_cal (p : Cal) (w : World) : Calls Tryz.prog 79 #[p.val, p.val] w fun e w' => e = .returned (.bool true) ∧ Below w.heap.size w w' := (law_eqCall p p w).mono fun e w' ⟨he, hb⟩ => ⟨by rw [he, decide_eq_true rfl], hb⟩
theorem law_eqCallS (A : Option Addr) (n c B : Nat) (ps : List Cal) (A2 : Option Addr) (n2 c2 B2 : Nat) (qs : List Cal) (w : World) (h : CalsAt w B A n ps) (h2 : CalsAt w B2 A2 n2 qs) (hB : B ≤ w.heap.size) (hB2 : B2 ≤ w.heap.size) (hn : n ≤ 4294967296) (hn2 : n2 ≤ 4294967296) :
    Calls Tryz.prog 31 #[.slice A n c, .slice A2 n2 c2] w fun e w' => e = .returned (.bool (decide (ps = qs))) ∧ Below w.heap.size w w' := by
  have hl := h.1
  have hl2 := h2.1
  by_cases hne : n = n2
  · subst hne
    go_enter Tryz.func31, Tryz.ntmps31
    go_wp2
    go_loopw [5] (fun i wr => ∃ k : Nat, k ≤ n ∧ i = .int .i64 k ∧ ps.take k = qs.take k ∧ Below w.heap.size w wr) (fun i _ => n - (intOf i).toNat)
    case atStart => exact ⟨0, Nat.zero_le _, rfl, by simp, Below.refl _ _⟩
    case round =>
      obtain ⟨k, hk, rfl, hsame, hbl⟩ := hrel
      by_cases hlt : k < n
      · obtain ⟨ad, p, rfl, hab, hp, hq⟩ := h.at hlt
        obtain ⟨ad2, q, rfl, hab2, hp2, hq2⟩ := h2.at hlt
        replace hq := hq.below hbl (by omega)
        replace hq2 := hq2.below hbl (by omega)
        have i1 : (0 : Int) ≤ (k : Int) := by omega
        have i2 : (k : Int) < (n : Int) := by omega
        have hsz := hbl.size
        go_wp2
        go_region_held3 (fun W' => W'.cell? (ad.add (k * 2)) = some (.int .i64 p.path) ∧ W'.cell? ⟨(ad.add (k * 2)).block, (ad.add (k * 2)).off + 1, none⟩ = some (.int .i64 p.sec) ∧
            W'.cell? (ad2.add (k * 2)) = some (.int .i64 q.path) ∧ W'.cell? ⟨(ad2.add (k * 2)).block, (ad2.add (k * 2)).off + 1, none⟩ = some (.int .i64 q.sec))
          (first | exact ⟨hq.c0, hq.c1, hq2.c0, hq2.c1⟩ | exact ⟨hr.c0, hr.c1, hr2.c0, hr2.c1⟩ | fail "keep")
          (first
            | (go_at_call 79; refine (law_eqCall p q _).mono ?_; rintro e w3 ⟨rfl, hb3⟩; have hb3' : Below wr.heap.size wr w3 := below_undrew hb3; have hr := hq.below hb3' (by omega); have hr2 := hq2.below hb3' (by omega)))
        have HB := Lib.hid (hbl.trans (hb3'.mono hsz))
        clear hq hq2 hr hr2 hb3 hb3' hbl
        by_cases hpq : p = q
        · have HT : Hid (ps.take (k + 1) = qs.take (k + 1)) := Lib.hid (by rw [List.take_add_one, List.take_add_one, hsame, hp, hp2, hpq])
          rw [decide_eq_true hpq]
          clear hsame hp hp2
          go_wp2
          go_roundw
          case rel => exact ⟨k + 1, by omega, by go_num, HT.out, HB.out⟩
          case measure => simp [intOf]; omega
        · have HN : Hid (decide (ps = qs) = false) := Lib.hid (by rw [decide_eq_false_iff_not]; rintro rfl; rw [hp] at hp2; exact hpq (Option.some.inj hp2))
          rw [decide_eq_false hpq]
          clear hsame hp hp2
          go_wp2
          go_ret
          exact ⟨by rw [HN.out]; rfl, HB.out⟩
      · obtain rfl : k = n := by omega
        have HN : Hid (decide (ps = qs) = true) := Lib.hid (by rw [decide_eq_true_eq]; rwa [List.take_of_length_le (by omega), List.take_of_length_le (by omega)] at hsame)
        go_wp2
        go_ret
        exact ⟨by rw [HN.out]; rfl, hbl⟩
  · have HN : Hid (decide (ps = qs) = false) := Lib.hid (by rw [decide_eq_false_iff_not]; rintro rfl; omega)
    go_enter Tryz.func31, Tryz.ntmps31
    go_wp2
    go_ret
    exact ⟨by rw [HN.out]; rfl, Below.refl _ _⟩
theorem sz_cal (A : Option Addr) (n c : Nat) (left : Int) (w : World) (hn : n ≤ 9223372036854775807) (hl : 0 ≤ left ∧ left ≤ 1048576) :
    Calls Tryz.prog 26 #[.slice A n c, .int .i64 left] w fun e w' => e = .returned (.int .i64 (if (n : Int) ≤ left then left - (n : Int) else -1)) ∧ w = w' := by
  obtain ⟨l1, l2⟩ := hl
  by_cases h : (n : Int) ≤ left
  · rw [if_pos h]
    go_enter Tryz.func26, Tryz.ntmps26
    go_wp2
    go_ret
    exact ⟨rfl, rfl⟩
  · rw [if_neg h]
    go_enter Tryz.func26, Tryz.ntmps26
    go_wp2
    go_ret
    exact ⟨rfl, rfl⟩
theorem law_markCallS (A : Option Addr) (n c lo s : Nat) (vs : List Value) (w : World) (h : w.ownsRow lo 100 2 (.slice A n c) n vs) (hn : n ≤ 4294967296) (hs : s ≤ 70368744177664) :
    Calls Tryz.prog 34 #[.slice A n c, .int .i64 s] w fun e w' => e = .returned (.int .i64 ((s + n * 2 : Nat) : Int)) ∧ w.grownBy w' (Value.ownBlock (.slice A n c)) := by
  go_enter Tryz.func34, Tryz.ntmps34
  go_wp2
  go_loopw [1, 5] (fun x i wr => ∃ k : Nat, k ≤ n ∧ i = .int .i64 k ∧ x = .int .i64 ((s + k * 2 : Nat) : Int) ∧ (∃ vs', wr.ownsRow lo 100 2 (.slice A n c) n vs') ∧ w.grownBy wr (Value.ownBlock (.slice A n c))) (fun _ i _ => n - (intOf i).toNat)
  case atStart => exact ⟨0, Nat.zero_le _, rfl, by simp, ⟨vs, h⟩, World.grownBy.refl _ _⟩
  case round =>
    obtain ⟨k, hk, rfl, rfl, ⟨vs', hown⟩, hbl⟩ := hrel
    by_cases hlt : k < n
    · rcases ownr_shape hown with ⟨e, he⟩ | ⟨g, cap, e, hg, hgs, _⟩
      · omega
      injection e with e1 _ e3
      obtain rfl := e1
      obtain ⟨x0, hx0⟩ := ownr_some hown (j := k * 2) (by omega)
      obtain ⟨x1, hx1⟩ := ownr_some hown (j := k * 2 + 1) (by omega)
      have f0 := World.ownsRow.frozenAt hown
      have hst := (World.ownsRow.stored (World.ownsRow.stored hown (k * 2) (.int .i64 ((s : Int) + (k : Int) * 2))).1 (k * 2 + 1) (.int .i64 ((s : Int) + (k : Int) * 2 + 1))).1
      have HS := Lib.hid hst
      have HG := Lib.hid hbl
      clear hown hbl hst
      go_wp2
      go_roundw
      case rel => exact ⟨k + 1, by omega, by go_num, by go_num, ⟨_, HS.out⟩, (only_setCell (only_setCell HG.out _ _) _ _)⟩
      case measure => simp [intOf]; omega
    · obtain rfl : k = n := by omega
      go_wp2
      go_ret
      exact ⟨rfl, hbl⟩
structure SlCal (w : World) (A : Option Addr) (n c : Nat) (ps : List Cal) : Prop where
  pths : CalsAt w w.heap.size A n ps
  bare : A = none → n = 0 ∧ c = 0
  small : n ≤ 4294967296
  cap : n ≤ c ∧ c ≤ maxLen
  wf : ∀ p ∈ ps, p.wf
theorem SlCal.len {w : World} {A : Option Addr} {n c : Nat} {ps : List Cal} (h : SlCal w A n c ps) : ps.length = n := h.pths.1
theorem SlCal.below {w w' : World} {A : Option Addr} {n c : Nat} {ps : List Cal} (h : SlCal w A n c ps) (hb : Below w.heap.size w w') : SlCal w' A n c ps :=
  ⟨(h.pths.below hb).up hb.size, h.bare, h.small, h.cap, h.wf⟩
structure OwCal (E : TypeId) (w : World) (lo hi : Nat) (v : Value) (ps : List Cal) : Prop where
  own : w.ownsRow lo E 2 v ps.length (calcells ps)
  lt : ∀ g, v.ownBlock = some g → g < hi
  top : hi ≤ w.heap.size
theorem OwCal.new {E : TypeId} {w : World} {lo : Nat} {v : Value} {ps : List Cal} (h : w.ownsRow lo E 2 v ps.length (calcells ps)) : OwCal E w lo w.heap.size v ps := ⟨h, fun g e => (ownr_block h g e).2, Nat.le_refl _⟩
theorem OwCal.below {E : TypeId} {w w' : World} {lo hi : Nat} {v : Value} {ps : List Cal} (h : OwCal E w lo hi v ps) (hb : Below w.heap.size w w') : OwCal E w' lo hi v ps := ⟨ownr_below h.own hb, h.lt, Nat.le_trans h.top hb.size⟩
theorem OwCal.ints {E : TypeId} {w : World} {lo hi : Nat} {A : Option Addr} {n c : Nat} {ps : List Cal} (h : OwCal E w lo hi (.slice A n c) ps) : CalsAt w w.heap.size A n ps := by
  have hn := ownr_len h.own
  subst hn
  exact ⟨rfl, ownr_cells h.own⟩
theorem OwCal.sl {E : TypeId} {w : World} {lo hi : Nat} {A : Option Addr} {n c : Nat} {ps : List Cal} (h : OwCal E w lo hi (.slice A n c) ps) (hn : n ≤ 4294967296) (hw : ∀ p ∈ ps, p.wf) : SlCal w A n c ps :=
  ⟨h.ints, ownr_nilcap h.own, hn, ownr_cap h.own, hw⟩
theorem OwCal.part {E : TypeId} {w w' : World} {lo hi l h' : Nat} {v : Value} {ps : List Cal} (h : OwCal E w lo hi v ps) (hp : Part l h' w w') (hd : hi ≤ l ∨ h' ≤ lo) : OwCal E w' lo hi v ps := by
  refine ⟨⟨h.own.1, ?_⟩, h.lt, Nat.le_trans h.top hp.size⟩
  rcases h.own.2 with h2 | ⟨g, cap, cur, rfl, hl, hg, r⟩
  · exact .inl h2
  · have hlt := h.lt g rfl
    have htop := h.top
    exact .inr ⟨g, cap, cur, rfl, hl, (hp.block g (by omega) (by omega)).trans hg, r⟩
theorem to_cal (A : Option Addr) (n c B : Nat) (ps : List Cal) (w : World) (h : CalsAt w B A n ps) (hB : B ≤ w.heap.size) (hn : n ≤ 1048576) :
    Calls Tryz.prog 28 #[.slice A n c] w fun e w' => e = .returned (.slice (some ⟨w.heap.size, 0, none⟩) n n) ∧ w'.ownsRow w.heap.size 100 2 (.slice (some ⟨w.heap.size, 0, none⟩) n n) ps.length (calcells ps) ∧ Below w.heap.size w w' := by
  have hl := h.1
  refine (law_toCallS A n c B ps w h hB (by omega)).mono fun e w' ⟨h1, h2, h3⟩ => ⟨h1, ?_, h3⟩
  rw [hl]
  exact h2
theorem eqs_cal (A : Option Addr) (n c : Nat) (ps : List Cal) (A2 : Option Addr) (n2 c2 : Nat) (w : World) (h : CalsAt w w.heap.size A n ps) (h2 : CalsAt w w.heap.size A2 n2 ps) (hn : n ≤ 1048576) (hn2 : n2 ≤ 1048576) :
    Calls Tryz.prog 31 #[.slice A n c, .slice A2 n2 c2] w fun e w' => e = .returned (.bool true) ∧ Below w.heap.size w w' :=
  (law_eqCallS A n c _ ps A2 n2 c2 _ ps w h h2 (Nat.le_refl _) (Nat.le_refl _) (by omega) (by omega)).mono fun e w' ⟨he, hb⟩ => ⟨by rw [he, decide_eq_true rfl], hb⟩
theorem marked_cal (A : Option Addr) (n c lo hi s : Nat) (ps : List Cal) (w : World) (h : OwCal 100 w lo hi (.slice A n c) ps) (hn : n ≤ 1048576) (hs : s ≤ 70368744177664) :
    Calls Tryz.prog 34 #[.slice A n c, .int .i64 s] w fun e w' => e = .returned (.int .i64 ((s + n * 2 : Nat) : Int)) ∧ Part lo hi w w' := by
  have hl := ownr_len h.own
  refine (law_markCallS A n c lo s (calcells ps) w (by have h2 := h.own; rw [← hl] at h2; exact h2) (by omega) hs).mono fun e w' ⟨he, hg⟩ => ⟨he, ⟨hg.os, hg.tape, hg.output, hg.size, fun i hi' hd => hg.block i hi' fun e => ?_⟩⟩
  have h1 := h.lt i e.symm
  have h2 := (ownr_block h.own i e.symm).1
  omega
end Go.Proofs.YtgpffbnmdfichaaGreatDoor

/- append of one number at a step of a drawn region. -/
namespace Go.Proofs.YtgpffbnmdfichaaGreatDoor
open Go.RowKit
set_option linter.unusedVariables false

/-- 'append(v, x)', one number, at a step of a region that draws its order. -/
theorem step_app1 {P : Program} {w : World} {ops : Array Oper} {o : Oper} {a : Act} {K : Act → World → Prop} {Q : Exit → Act → World → Prop} {F : Prop} (hgd : o.guard = none) (s x : Operand) (t : TypeId)
    (ho : o.op = .call { callee := .builtin .append, args := #[s, x], argTypes := #[t, t] })
    (k : IntKind) (E : TypeId) (bytes : Nat) (ht : P.underlying t = some (.slice E)) (hi : (P.info? E).map (fun i => (i.zero, i.size, i.bytes)) = some (some (.int k 0), 1, bytes))
    (lo : Nat) (v : Value) (xs : List Int) (hs : a.eval s = v) (hown : Own k E w lo v xs) (hb : bytes ≤ 8) (hbytes : xs.length < 4398046511104)
    (z : Int) (H : Nat) (hlo : lo ≤ w.heap.size) (hx : a.eval x = .slice (some ⟨H, 0, none⟩) 1 1) (hc : w.cell? ⟨H, 0, none⟩ = some (.int k z))
    (h : ∀ v' w', Own k E w' lo v' (xs ++ [z]) → w.grownBy w' v.ownBlock → K (a.put o.dst v') w') :
    if Region.wanted o (yielded ops a.tmps) = true then Oper.wp P o a w K Q else F := by
  obtain ⟨i, hi1, hz, hsz, hby⟩ := info_parts hi
  refine step_append_lies w hgd s x t ho lo E i (.int k 0) 1 bytes ht hi1 hz hsz hby rfl (by omega) v xs.length _ hs hown ⟨H, 0, none⟩ 1 1 [.int k z] hx rfl ?_ (by simp [Value.oneCell']) (by omega) (by unfold maxLen; omega)
    (by have : (xs.length + 1) * bytes ≤ (xs.length + 1) * 8 := Nat.mul_le_mul_left _ hb; omega) hlo _ rfl ?_
  · intro j u hu
    match j with
    | 0 => simp at hu; subst hu; rw [add_head]; exact hc
    | j + 1 => simp at hu
  · intro g cap w' h1 h2 _ _
    refine h _ w' ?_ h2
    unfold Own
    rw [List.length_append, List.map_append]
    exact h1
end Go.Proofs.YtgpffbnmdfichaaGreatDoor

/- ServedAt, IsWithin: the model and the program. -/
namespace Go.Proofs.YtgpffbnmdfichaaGreatDoor
open Go.RowKit
set_option linter.unusedVariables false

/-- the second at which a call is served. -/
def servC (ps : List Pth) (p : List Prt) (c : Cal) : Int := nextP ps p c.path c.sec
/-- what ServedAt answers. -/
def servedP (ps : List Pth) (p : List Prt) (cs : List Cal) : List Int := cs.map (servC ps p)
theorem servedP_len (ps : List Pth) (p : List Prt) (cs : List Cal) : (servedP ps p cs).length = cs.length := by simp [servedP]
/-- is this call served in time? -/
def inTime (ps : List Pth) (p : List Prt) (b : Int) (c : Cal) : Bool := !(decide (servC ps p c < 0) || decide (b < servC ps p c - c.sec))
/-- what IsWithin answers. -/
def withinP (ps : List Pth) (p : List Prt) (cs : List Cal) (b : Int) : Bool := cs.all (inTime ps p b)
theorem nextP_bound (ps : List Pth) (p : List Prt) (id f : Int) : -1 ≤ nextP ps p id f ∧ nextP ps p id f ≤ 101000 := by
  cases h : (isPlan ps p && (findK id ps).isSome && inB f 0 100000)
  · rw [nextP_off h]; omega
  · rw [Bool.and_eq_true] at h
    have hb := inB_t h.2
    obtain ⟨_, hr0⟩ := rowP_pos h.1
    have hl := rowP_len (ps := ps) (p := p) id
    obtain ⟨g, rfl⟩ : ∃ g : Nat, f = (g : Int) := ⟨f.toNat, by omega⟩
    rw [nextP_on h.1 h.2]
    have := nextD_lt (r := rowP ps p id) (s := g) hr0
    omega
theorem nextP_neg {ps : List Pth} {p : List Prt} {id f : Int} (h : nextP ps p id f < 0) : nextP ps p id f = -1 := by have := nextP_bound ps p id f; omega
/-- a call that is served is made at a second in range. -/
theorem nextP_sec {ps : List Pth} {p : List Prt} {id f : Int} (h : ¬ nextP ps p id f < 0) : 0 ≤ f ∧ f ≤ 100000 := by
  cases h1 : (isPlan ps p && (findK id ps).isSome && inB f 0 100000)
  · rw [nextP_off h1] at h; exact absurd (by decide) h
  · rw [Bool.and_eq_true] at h1
    exact inB_t h1.2
theorem served_push {ps : List Pth} {p : List Prt} {cs : List Cal} {k : Nat} {c : Cal} (h : cs[k]? = some c) : servedP ps p (cs.take (k + 1)) = servedP ps p (cs.take k) ++ [servC ps p c] := by
  unfold servedP
  rw [List.take_add_one, h, List.map_append]
  rfl
theorem within_no {ps : List Pth} {p : List Prt} {cs : List Cal} {b : Int} {k : Nat} {c : Cal} (h : cs[k]? = some c) (hf : inTime ps p b c = false) : withinP ps p cs b = false :=
  List.all_eq_false.2 ⟨c, List.mem_of_getElem? h, by rw [hf]; decide⟩
theorem within_yes {ps : List Pth} {p : List Prt} {cs : List Cal} {b : Int} (h : ∀ (k : Nat) (c : Cal), cs[k]? = some c → inTime ps p b c = true) : withinP ps p cs b = true :=
  List.all_eq_true.2 fun c hc => by
    obtain ⟨k, hk, e⟩ := List.getElem_of_mem hc
    exact h k c (by rw [List.getElem?_eq_getElem hk, e])
/-- the first k answers, the rest still 0. -/
def srvTo (ps : List Pth) (p : List Prt) (cs : List Cal) (k : Nat) : List Int := servedP ps p (cs.take k) ++ List.replicate (cs.length - k) 0
theorem srvTo_zero (ps : List Pth) (p : List Prt) (cs : List Cal) : srvTo ps p cs 0 = List.replicate cs.length 0 := by simp [srvTo, servedP]
theorem srvTo_full (ps : List Pth) (p : List Prt) (cs : List Cal) : srvTo ps p cs cs.length = servedP ps p cs := by simp [srvTo]
theorem srvTo_len (ps : List Pth) (p : List Prt) (cs : List Cal) (k : Nat) (h : k ≤ cs.length) : (srvTo ps p cs k).length = cs.length := by
  unfold srvTo
  rw [List.length_append, servedP_len, List.length_take, List.length_replicate]
  omega
theorem srvTo_set {ps : List Pth} {p : List Prt} {cs : List Cal} {k : Nat} {c : Cal} (h : cs[k]? = some c) : (srvTo ps p cs k).set k (servC ps p c) = srvTo ps p cs (k + 1) := by
  have hk := (List.getElem?_eq_some_iff.1 h).1
  unfold srvTo
  rw [served_push h, List.set_append_right _ _ (by rw [servedP_len, List.length_take]; omega), servedP_len, List.length_take, Nat.min_eq_left (by omega), Nat.sub_self, show cs.length - k = (cs.length - (k + 1)) + 1 by omega, List.replicate_succ, List.set_cons_zero, List.append_assoc]
  rfl
set_option maxHeartbeats 4000000 in
set_option maxRecDepth 100000 in
theorem impl_ServedAt {w : World} {A : Option Addr} {n c B : Nat} {ps : List Pth} {A2 : Option Addr} {n2 c2 B2 : Nat} {p : List Prt} (I : PlnIn w A n c B ps A2 n2 c2 B2 p) (A3 : Option Addr) (n3 c3 B3 : Nat) (cs : List Cal) (h3 : CalsAt w B3 A3 n3 cs) (hB3 : B3 ≤ w.heap.size) (hn3 : n3 ≤ 1048576) :
    Calls Tryz.prog 76 #[.slice A n c, .slice A2 n2 c2, .slice A3 n3 c3] w fun e w' => ∃ v, e = .returned v ∧ Own .i64 3 w' w.heap.size v (servedP ps p cs) ∧ Below w.heap.size w w' := by
  have hl3 := h3.1
  have HC := Lib.hid (impl_callTableFor I)
  have H3 := Lib.hid h3
  have HL3 := Lib.hid hl3
  clear I h3 hl3
  go_enter Tryz.func76, Tryz.ntmps76
  go_wp2_with fail
  refine HC.out.mono ?_
  rintro e w1 ⟨At, nt, ct, Aw, cw, rfl, ht, hb1⟩
  obtain ⟨w2, hw2⟩ : ∃ w2, w2 = w1.alloc (.cells #[.slice At nt ct, .slice Aw nt cw] 162) := ⟨_, rfl⟩
  obtain ⟨hk2, hsz2, hb12⟩ := one_block hw2
  have HT2 := Lib.hid (ht.below (Nat.le_refl _) hb12)
  have HK2 := Lib.hid hk2
  have HB2 := Lib.hid (hb1.trans (hb12.mono hb1.size))
  have hs12 : w1.heap.size < w2.heap.size := by omega
  have HS2 := Lib.hid hsz2
  have hs01 := hb1.size
  clear ht hb1 hk2 hsz2 hb12
  go_wp2_with ((with_reducible show wpList _ _ _ _ _ _); rw [← hw2]; refine wpList_mk rfl _ _ _ rfl .i64 3 8 Tryz.underlying24 info_int1 (by decide) (n3 : Int) (n3 : Int) n3 rfl rfl rfl rfl (by omega) ?_; intro w4 hown hgrow)
  have HBM := Lib.hid (below_grown hgrow)
  have HOM : Hid (Own .i64 3 w4 w2.heap.size (.slice (some ⟨w1.heap.size + 1, 0, none⟩) n3 n3) (srvTo ps p cs 0)) := Lib.hid (by rw [srvTo_zero, HL3.out, ← HS2.out]; exact hown)
  clear hown hgrow hw2
  go_loopw [19] (fun i wr => ∃ k : Nat, k ≤ n3 ∧ i = .int .i64 k ∧ Own .i64 3 wr w2.heap.size (.slice (some ⟨w1.heap.size + 1, 0, none⟩) n3 n3) (srvTo ps p cs k) ∧ Below w2.heap.size w2 wr) (fun i _ => n3 - (intOf i).toNat)
  case atStart => exact ⟨0, Nat.zero_le _, rfl, HOM.out, HBM.out⟩
  case round =>
    clear HOM HBM
    obtain ⟨k, hk, rfl, hown, hbl⟩ := hrel
    have HOW := Lib.hid hown
    have HBL := Lib.hid hbl
    have HBW := Lib.hid (HB2.out.trans (hbl.mono HB2.out.size))
    have hszr := hbl.size
    clear hown hbl
    by_cases hlt : k < n3
    · obtain ⟨ad, q, rfl, hab, hp, hq⟩ := H3.out.at hlt
      obtain ⟨c0, c1⟩ := hq.below (HBW.out.mono hB3) hab
      have HST := Lib.hid (srvTo_set (ps := ps) (p := p) hp)
      have hkl : k < cs.length := by have := HL3.out; omega
      obtain ⟨wf, hwf⟩ : ∃ wf, wf = wr.alloc (.cells #[.int .i64 q.path, .int .i64 q.sec] 100) := ⟨_, rfl⟩
      obtain ⟨hkf, hszf, hbf⟩ := one_block hwf
      have HBF := Lib.hid (HBL.out.trans (hbf.mono hszr))
      have HOF := Lib.hid (HOW.out.below hbf)
      have HAN := Lib.hid (fun (ct cw : Nat) => impl_answer (ct := ct) (cw := cw) q.path q.sec wf (HT2.out.below (by omega) HBF.out) (by omega))
      have t0 : wr.cell? ⟨w1.heap.size, 0, none⟩ = some (.slice At nt ct) := by rw [cell_of_row wr _ 0 _ _ _ ((HBL.out.block _ hs12).trans HK2.out)]; rfl
      have t1 : wr.cell? ⟨w1.heap.size, 1, none⟩ = some (.slice Aw nt cw) := by rw [cell_of_row wr _ 1 _ _ _ ((HBL.out.block _ hs12).trans HK2.out)]; rfl
      have lf0 : w1.heap.size < wr.heap.size := by omega
      have hszf2 : w2.heap.size ≤ wf.heap.size := by omega
      have hsv : servC ps p q = nextP ps p q.path q.sec := rfl
      rw [hsv] at HST
      have i1 : (0 : Int) ≤ (k : Int) := by omega
      have i2 : (k : Int) < (n3 : Int) := by omega
      clear hq hp hsv hbf hkf hszf
      generalize nextP ps p q.path q.sec = z at *
      generalize q.path = a1 at *
      generalize q.sec = a2 at *
      go_wp2_with fail
      rw [← hwf]
      refine (HAN.out _ _).mono ?_
      rintro e w6 ⟨rfl, hb6⟩
      have HB6 := Lib.hid (HBF.out.trans (hb6.mono hszf2))
      have hO6 := HOF.out.below hb6
      have hc6 := hO6.cell k (by rw [srvTo_len _ _ _ _ (by omega)]; exact hkl)
      have hf6 := hO6.free k
      have hst := hO6.stored k z
      rw [HST.out] at hst
      have HO7 := Lib.hid hst
      clear hb6 hO6 hst t0 t1 c0 c1 hwf
      go_wp2
      go_roundw
      case rel => exact ⟨k + 1, by omega, by go_num, HO7.out, HB6.out.setCell (by rw [HS2.out]; exact Nat.le_refl _) _⟩
      case measure => simp [intOf]; omega
    · obtain rfl : k = n3 := by omega
      have HE : Hid (servedP ps p cs = srvTo ps p cs k) := Lib.hid (by rw [← HL3.out, srvTo_full])
      go_wp2
      go_ret
      exact ⟨_, rfl, by rw [HE.out]; exact HOW.out.mono HB2.out.size, HBW.out⟩
end Go.Proofs.YtgpffbnmdfichaaGreatDoor

/- What slices.Sort and slices.Compact make of a list, and what putting one by one makes of it. No program. -/
namespace Go.Proofs.YtgpffbnmdfichaaGreatDoor
set_option linter.unusedVariables false

/-- two strictly ascending lists with the same members are one. -/
theorem asc_same : ∀ {a b : List Int}, a.Pairwise (· < ·) → b.Pairwise (· < ·) → (∀ x, x ∈ a ↔ x ∈ b) → a = b
  | [], [], _, _, _ => rfl
  | [], y :: b, _, _, h => by have := (h y).2 List.mem_cons_self; cases this
  | x :: a, [], _, _, h => by have := (h x).1 List.mem_cons_self; cases this
  | x :: a, y :: b, ha, hb, h => by
    rw [List.pairwise_cons] at ha hb
    have hxy : x = y := by
      rcases List.mem_cons.1 ((h x).1 List.mem_cons_self) with e | e
      · exact e
      · rcases List.mem_cons.1 ((h y).2 List.mem_cons_self) with e2 | e2
        · exact e2.symm
        · have h1 := hb.1 x e
          have h2 := ha.1 y e2
          omega
    subst hxy
    rw [asc_same ha.2 hb.2 fun z => ?_]
    constructor
    · intro hz
      rcases List.mem_cons.1 ((h z).1 (List.mem_cons_of_mem _ hz)) with e | e
      · have := ha.1 z hz; omega
      · exact e
    · intro hz
      rcases List.mem_cons.1 ((h z).2 (List.mem_cons_of_mem _ hz)) with e | e
      · have := hb.1 z hz; omega
      · exact e
theorem cmp_up (d : Array Int) (hs : ∀ j, j + 1 < d.size → d[j]! ≤ d[j + 1]!) : ∀ m, m ≤ d.size →
    (Lib.compactUpTo d m).Pairwise (· < ·) ∧ (∀ x, x ∈ Lib.compactUpTo d m ↔ ∃ j, j < m ∧ d[j]! = x) ∧ (∀ x ∈ Lib.compactUpTo d m, x ≤ d[m - 1]!)
  | 0, _ => by
    refine ⟨by simp [Lib.compactUpTo], fun x => ⟨fun h => by simp [Lib.compactUpTo] at h, fun ⟨j, hj, _⟩ => absurd hj (by omega)⟩, fun x h => by simp [Lib.compactUpTo] at h⟩
  | m + 1, hm => by
    obtain ⟨h1, h2, h3⟩ := cmp_up d hs m (by omega)
    rw [Lib.compactUpTo_succ]
    have hle : 0 < m → d[m - 1]! ≤ d[m]! := fun h0 => by
      have := hs (m - 1) (by omega)
      rwa [Nat.sub_add_cancel h0] at this
    cases hk : Lib.keeps d m
    · have hm0 : 0 < m := by
        rcases Nat.eq_zero_or_pos m with e | e
        · subst e
          rw [Lib.keeps_lt_one d 0 (by decide)] at hk
          cases hk
        · exact e
      have he : d[m]! = d[m - 1]! := by
        by_cases e : d[m]! = d[m - 1]!
        · exact e
        · rw [Lib.keeps_pos e] at hk
          cases hk
      simp only [Bool.false_eq_true, if_false, List.append_nil]
      refine ⟨h1, fun x => (h2 x).trans ⟨fun ⟨j, hj, e⟩ => ⟨j, by omega, e⟩, fun ⟨j, hj, e⟩ => ?_⟩, fun x hx => by rw [Nat.add_sub_cancel, he]; exact h3 x hx⟩
      by_cases hjm : j < m
      · exact ⟨j, hjm, e⟩
      · obtain rfl : j = m := by omega
        exact ⟨j - 1, by omega, he.symm.trans e⟩
    · simp only [if_true]
      have hlt : ∀ x ∈ Lib.compactUpTo d m, x < d[m]! := fun x hx => by
        obtain ⟨j, hj, _⟩ := (h2 x).1 hx
        have hx2 := h3 x hx
        have hl := hle (by omega)
        rcases Int.lt_or_eq_of_le (Int.le_trans hx2 hl) with e | e
        · exact e
        · exfalso
          have : d[m]! = d[m - 1]! := by omega
          rw [Lib.keeps_neg (by omega) this] at hk
          cases hk
      refine ⟨?_, fun x => ?_, fun x hx => ?_⟩
      · rw [List.pairwise_append]
        exact ⟨h1, List.pairwise_singleton _ _, fun a ha b hb => by rw [List.mem_singleton.1 hb]; exact hlt a ha⟩
      · rw [List.mem_append, h2 x, List.mem_singleton]
        constructor
        · rintro (⟨j, hj, e⟩ | e)
          · exact ⟨j, by omega, e⟩
          · exact ⟨m, by omega, e.symm⟩
        · rintro ⟨j, hj, e⟩
          by_cases hjm : j < m
          · exact .inl ⟨j, hjm, e⟩
          · obtain rfl : j = m := by omega
            exact .inr e.symm
      · rw [Nat.add_sub_cancel]
        rcases List.mem_append.1 hx with h | h
        · exact Int.le_of_lt (hlt x h)
        · rw [List.mem_singleton.1 h]
          exact Int.le_refl _
/-- sorted, then compacted: strictly ascending, with the same members. -/
theorem cmp_sort (zs : List Int) : (Lib.compact (zs.mergeSort fun x y => decide (x ≤ y))).Pairwise (· < ·) ∧ ∀ x, x ∈ Lib.compact (zs.mergeSort fun x y => decide (x ≤ y)) ↔ x ∈ zs := by
  have hp : (zs.mergeSort fun x y => decide (x ≤ y)).Pairwise (fun a b => decide (a ≤ b) = true) := List.pairwise_mergeSort (le := fun x y : Int => decide (x ≤ y)) (fun a b c h1 h2 => by simp only [decide_eq_true_eq] at *; omega) (fun a b => by simp only [Bool.or_eq_true, decide_eq_true_eq]; omega) zs
  have hm : ∀ x, x ∈ (zs.mergeSort fun x y => decide (x ≤ y)) ↔ x ∈ zs := fun x => List.mem_mergeSort
  generalize (zs.mergeSort fun x y => decide (x ≤ y)) = ys at *
  have h := cmp_up ys.toArray (fun j hj => by
    have hj' : j + 1 < ys.length := by simpa using hj
    have := List.pairwise_iff_getElem.1 hp j (j + 1) (by omega) hj' (by omega)
    simp only [decide_eq_true_eq] at this
    simpa [hj', Nat.lt_of_succ_lt hj'] using this) ys.length (by simp)
  refine ⟨h.1, fun x => ?_⟩
  unfold Lib.compact
  rw [h.2.1 x, ← hm x]
  constructor
  · rintro ⟨j, hj, e⟩
    rw [← e]
    simp [hj]
  · intro hx
    obtain ⟨j, hj, e⟩ := List.getElem_of_mem hx
    exact ⟨j, hj, by rw [← e]; simp [hj]⟩
end Go.Proofs.YtgpffbnmdfichaaGreatDoor

/- What is gathered one by one and sorted behind, and what is put into its place one by one: data. No program. -/
namespace Go.Proofs.YtgpffbnmdfichaaGreatDoor
open Go.RowKit
set_option linter.unusedVariables false

theorem putI_nilG (n : Int) : putI [] n = [n] := by simp [putI, lowN]
theorem putI_consG (z : Int) (zs : List Int) (n : Int) : putI (z :: zs) n = if z < n then z :: putI zs n else if z = n then z :: zs else n :: z :: zs := by
  unfold putI lowN
  by_cases h : z < n
  · rw [if_pos h, List.takeWhile_cons_of_pos (by simpa using h)]
    simp only [List.length_cons, List.getElem?_cons_succ, List.take_succ_cons, List.drop_succ_cons, List.cons_append]
    split <;> rfl
  · rw [if_neg h, List.takeWhile_cons_of_neg (by simpa using h)]
    simp only [List.length_nil, List.getElem?_cons_zero, List.take_zero, List.drop_zero, List.nil_append, Option.some.injEq]
theorem put_memG (n : Int) : ∀ (zs : List Int) (x : Int), x ∈ putI zs n ↔ x ∈ zs ∨ x = n
  | [], x => by rw [putI_nilG]; simp
  | z :: zs, x => by
    rw [putI_consG]
    split
    · rw [List.mem_cons, put_memG n zs x, List.mem_cons, or_assoc]
    · split
      · rename_i h
        subst h
        simp only [List.mem_cons]
        constructor
        · exact fun h => .inl h
        · rintro (h | h)
          · exact h
          · exact .inl h
      · simp only [List.mem_cons]
        constructor
        · rintro (h | h | h)
          · exact .inr h
          · exact .inl (.inl h)
          · exact .inl (.inr h)
        · rintro ((h | h) | h)
          · exact .inr (.inl h)
          · exact .inr (.inr h)
          · exact .inl h
theorem put_ascG (n : Int) : ∀ {zs : List Int}, zs.Pairwise (· < ·) → (putI zs n).Pairwise (· < ·)
  | [], _ => by rw [putI_nilG]; simp
  | z :: zs, h => by
    obtain ⟨h1, h2⟩ := List.pairwise_cons.1 h
    rw [putI_consG]
    split
    · rename_i hlt
      refine List.pairwise_cons.2 ⟨fun y hy => ?_, put_ascG n h2⟩
      rcases (put_memG n zs y).1 hy with h3 | rfl
      · exact h1 y h3
      · exact hlt
    · split
      · exact h
      · refine List.pairwise_cons.2 ⟨fun y hy => ?_, h⟩
        rcases List.mem_cons.1 hy with rfl | h3
        · omega
        · have := h1 y h3; omega
theorem putI_lengthG (zs : List Int) (n : Int) : (putI zs n).length ≤ zs.length + 1 := by
  unfold putI
  split
  · omega
  · rw [List.length_append, List.length_cons, List.length_take, List.length_drop]
    omega
/-- what is gathered of those below k that count. -/
def gthT (P : Nat → Bool) (f : Nat → Int) : Nat → List Int
  | 0 => []
  | k + 1 => if P k then gthT P f k ++ [f k] else gthT P f k
/-- each put into its place. -/
def gthP (P : Nat → Bool) (f : Nat → Int) : Nat → List Int
  | 0 => []
  | k + 1 => if P k then putI (gthP P f k) (f k) else gthP P f k
theorem gthT_yes {P : Nat → Bool} {f : Nat → Int} {k : Nat} (h : P k = true) : gthT P f (k + 1) = gthT P f k ++ [f k] := by show (if P k then _ else _) = _; rw [if_pos h]
theorem gthT_no {P : Nat → Bool} {f : Nat → Int} {k : Nat} (h : P k = false) : gthT P f (k + 1) = gthT P f k := by show (if P k then _ else _) = _; rw [h]; rfl
theorem gthP_yes {P : Nat → Bool} {f : Nat → Int} {k : Nat} (h : P k = true) : gthP P f (k + 1) = putI (gthP P f k) (f k) := by show (if P k then _ else _) = _; rw [if_pos h]
theorem gthP_no {P : Nat → Bool} {f : Nat → Int} {k : Nat} (h : P k = false) : gthP P f (k + 1) = gthP P f k := by show (if P k then _ else _) = _; rw [h]; rfl
theorem gthT_len (P : Nat → Bool) (f : Nat → Int) : ∀ k, (gthT P f k).length ≤ k
  | 0 => by simp [gthT]
  | k + 1 => by
    have := gthT_len P f k
    unfold gthT
    split
    · simp; omega
    · omega
theorem gthP_len (P : Nat → Bool) (f : Nat → Int) : ∀ k, (gthP P f k).length ≤ k
  | 0 => by simp [gthP]
  | k + 1 => by
    have := gthP_len P f k
    unfold gthP
    split
    · have := putI_lengthG (gthP P f k) (f k)
      omega
    · omega
theorem gth_mem (P : Nat → Bool) (f : Nat → Int) : ∀ k x, x ∈ gthP P f k ↔ x ∈ gthT P f k
  | 0, x => by simp [gthP, gthT]
  | k + 1, x => by
    unfold gthP gthT
    split
    · rw [put_memG, gth_mem P f k x]; simp
    · exact gth_mem P f k x
theorem gth_asc (P : Nat → Bool) (f : Nat → Int) : ∀ k, (gthP P f k).Pairwise (· < ·)
  | 0 => by simp [gthP]
  | k + 1 => by
    unfold gthP
    split
    · exact put_ascG _ (gth_asc P f k)
    · exact gth_asc P f k
theorem gth_eq (P : Nat → Bool) (f : Nat → Int) (k : Nat) : Lib.compact ((gthT P f k).mergeSort fun x y => decide (x ≤ y)) = gthP P f k := by
  obtain ⟨h1, h2⟩ := cmp_sort (gthT P f k)
  exact asc_same h1 (gth_asc P f k) fun x => by rw [h2, gth_mem]
end Go.Proofs.YtgpffbnmdfichaaGreatDoor

/- slices.Sort and slices.Compact at []int: the shelf's contracts, laid here. -/
namespace Go.Proofs.YtgpffbnmdfichaaGreatDoor
open Go.RowKit Go.Shelf Go.Sort
set_option linter.unusedVariables false

shelf_lay Lays.n189 Nm 189 at Tryz as laysSort
shelf_lay Lays2.n20 Nm2 20 at Tryz as laysCompact
/-- a row is its block. -/
theorem own_cells {w : World} {lo : Nat} {g n c : Nat} {zs : List Int} (h : Own .i64 3 w lo (.slice (some ⟨g, 0, none⟩) n c) zs) :
    n = zs.length ∧ lo ≤ g ∧ ∃ cur, w.heap[g]? = some (.cells cur 3 (0, 0)) ∧ zs.length ≤ c ∧ c ≤ maxLen ∧ cur.size = c * 1 ∧ cur.toList.take zs.length = zs.map (Value.int .i64) := by
  rcases h.2 with ⟨h', _⟩ | ⟨g', cap', cur, h', hb, hg, hnc, hcm, hcs, htake⟩
  · simp at h'
  · simp only [Value.slice.injEq, Option.some.injEq, Addr.mk.injEq, and_true] at h'
    obtain ⟨rfl, rfl, rfl⟩ := h'
    exact ⟨rfl, hb, cur, hg, hnc, hcm, hcs, by rw [Nat.mul_one] at htake; exact htake⟩
theorem lib_SortF (A : Option Addr) (n c lo : Nat) (zs : List Int) (w : World) (h : Own .i64 3 w lo (.slice A n c) zs) (hn : n ≤ 4294967296) :
    Calls Tryz.prog 77 #[.slice A n c] w fun e w' => e = .returned (.tuple #[]) ∧ Own .i64 3 w' lo (.slice A n c) (zs.mergeSort fun x y => decide (x ≤ y)) ∧ w.grownBy w' (Value.slice A n c).ownBlock := by
  rcases h.shape with ⟨e, rfl⟩ | ⟨g, cap, e, hlo, hlt, h1, h2⟩
  · injection e with e1 e2 e3
    subst e1; subst e2; subst e3
    refine (Any.slices_Sort_int_none laysSort none 0 w).mono ?_
    rintro e w' ⟨rfl, rfl⟩
    exact ⟨rfl, by simpa using h, World.grownBy.refl _ _⟩
  · injection e with e1 e2 e3
    subst e1; subst e3
    obtain ⟨hl, _, cur, hb, hc1, hc2, hcs, ht⟩ := own_cells h
    subst hl
    refine (Any.slices_Sort_int laysSort g 0 c zs w (holds_of_blockI hb ht) hlt (by omega)).mono ?_
    rintro e w' ⟨rfl, q, os, rfl⟩
    refine ⟨rfl, ?_, grownBy_sortedI _⟩
    have hlen : (zs.mergeSort fun x y => decide (x ≤ y)).length = zs.length := List.length_mergeSort _
    have := ownsRow_sortedI (w := w) (base := lo) (n := q) (os := os) hlen hlo hb hc1 hc2 hcs
    unfold Own
    rw [hlen]
    exact this
theorem own_short {w : World} {lo g n c : Nat} {xs ys : List Int} (h : Own .i64 3 w lo (.slice (some ⟨g, 0, none⟩) n c) (xs ++ ys)) : Own .i64 3 w lo (.slice (some ⟨g, 0, none⟩) xs.length c) xs := by
  obtain ⟨hl, hlo, cur, hb, hc1, hc2, hcs, ht⟩ := own_cells h
  have e1 : List.take xs.length (List.take (xs ++ ys).length cur.toList) = List.take xs.length cur.toList := by rw [List.take_take, List.length_append, Nat.min_eq_left (by omega)]
  have e2 : List.take xs.length ((xs ++ ys).map (Value.int .i64)) = xs.map (Value.int .i64) := by
    rw [List.map_append]
    exact List.take_left' (by simp)
  have e := e1.symm.trans ((congrArg (List.take xs.length) ht).trans e2)
  rw [List.length_append] at hc1
  exact ⟨by simp, .inr ⟨g, c, cur, rfl, hlo, hb, by omega, hc2, hcs, by rw [Nat.mul_one]; exact e⟩⟩
theorem compact_len (zs : List Int) : (Lib.compact zs).length ≤ zs.length := by
  unfold Lib.compact Lib.compactUpTo
  rw [List.length_map]
  exact Nat.le_trans (List.length_filter_le _ _) (by simp)
theorem lib_CompactF (A : Option Addr) (n c lo : Nat) (zs : List Int) (w : World) (h : Own .i64 3 w lo (.slice A n c) zs) (hn : n ≤ 4294967296) :
    Calls Tryz.prog 78 #[.slice A n c] w fun e w' => e = .returned (.slice A (Lib.compact zs).length c) ∧ Own .i64 3 w' lo (.slice A (Lib.compact zs).length c) (Lib.compact zs) ∧ w.grownBy w' (Value.slice A n c).ownBlock := by
  rcases h.shape with ⟨e, rfl⟩ | ⟨g, cap, e, hlo, hlt, h1, h2⟩
  · injection e with e1 e2 e3
    subst e1; subst e2; subst e3
    refine (Any.slices_Compact_int_empty laysCompact none 0 w).mono ?_
    rintro e w' ⟨rfl, rfl⟩
    exact ⟨rfl, h, World.grownBy.refl _ _⟩
  · injection e with e1 e2 e3
    subst e1; subst e3
    obtain ⟨hl, _, cur, hb, hc1, hc2, hcs, ht⟩ := own_cells h
    subst hl
    refine (Any.slices_Compact_int laysCompact g 0 c zs w (holds_of_blockI hb ht) (by omega) hc1).mono ?_
    rintro e w' ⟨rfl, q, rfl⟩
    have hcl := compact_len zs
    have hlen : (Lib.compact zs ++ List.replicate (zs.length - (Lib.compact zs).length) (0 : Int)).length = zs.length := by rw [List.length_append, List.length_replicate]; omega
    have h3 := ownsRow_sortedI (w := w) (base := lo) (n := q) (os := #[]) hlen hlo hb hc1 hc2 hcs
    rw [grow_empty] at h3
    have h4 : w.grownBy (putRow (Value.int .i64) (Sort.ahead w q) g 0 (Lib.compact zs ++ List.replicate (zs.length - (Lib.compact zs).length) (0 : Int)).toArray) (some g) := by
      have := grownBy_sortedI (w := w) (g := g) (n := q) (os := #[]) (Lib.compact zs ++ List.replicate (zs.length - (Lib.compact zs).length) (0 : Int)).toArray
      rwa [grow_empty] at this
    refine ⟨rfl, own_short (n := zs.length) (ys := List.replicate (zs.length - (Lib.compact zs).length) (0 : Int)) ?_, h4⟩
    unfold Own
    rw [hlen]
    exact h3
end Go.Proofs.YtgpffbnmdfichaaGreatDoor

/- Chapter 13: WaitingAt: the model and the program. -/
namespace Go.Proofs.YtgpffbnmdfichaaGreatDoor
open Go.RowKit
set_option linter.unusedVariables false

def calG (cs : List Cal) (k : Nat) : Cal := cs.getD k ⟨0, 0⟩
theorem calG_some {cs : List Cal} {k : Nat} {x : Cal} (h : cs[k]? = some x) : calG cs k = x := by unfold calG; rw [List.getD_eq_getElem?_getD, h]; rfl
/-- is the k-th call made by this second, and served behind it? -/
def wtaP (ps : List Pth) (p : List Prt) (cs : List Cal) (s : Int) (k : Nat) : Bool := decide ((calG cs k).sec ≤ s) && decide (s < nextP ps p (calG cs k).path (calG cs k).sec)
def wtaF (cs : List Cal) (k : Nat) : Int := (calG cs k).path
/-- what WaitingAt answers. -/
def wtaR (ps : List Pth) (p : List Prt) (cs : List Cal) (s : Int) : List Int := gthP (wtaP ps p cs s) (wtaF cs) cs.length
theorem wtaR_len (ps : List Pth) (p : List Prt) (cs : List Cal) (s : Int) : (wtaR ps p cs s).length ≤ cs.length := gthP_len _ _ _
theorem wtaP_no1 {ps : List Pth} {p : List Prt} {cs : List Cal} {s : Int} {k : Nat} {q : Cal} (hq : cs[k]? = some q) (h : ¬ q.sec ≤ s) : wtaP ps p cs s k = false := by unfold wtaP; rw [calG_some hq, decide_eq_false h]; rfl
theorem wtaP_no2 {ps : List Pth} {p : List Prt} {cs : List Cal} {s : Int} {k : Nat} {q : Cal} (hq : cs[k]? = some q) (h : ¬ s < nextP ps p q.path q.sec) : wtaP ps p cs s k = false := by unfold wtaP; rw [calG_some hq, decide_eq_false h, Bool.and_false]
theorem wtaP_yes {ps : List Pth} {p : List Prt} {cs : List Cal} {s : Int} {k : Nat} {q : Cal} (hq : cs[k]? = some q) (h : q.sec ≤ s) (h2 : s < nextP ps p q.path q.sec) : wtaP ps p cs s k = true := by unfold wtaP; rw [calG_some hq, decide_eq_true h, decide_eq_true h2]; rfl
theorem wtaF_at {cs : List Cal} {k : Nat} {q : Cal} (hq : cs[k]? = some q) : wtaF cs k = q.path := by unfold wtaF; rw [calG_some hq]
set_option maxHeartbeats 4000000 in
theorem spec_WaitingAt (A : Option Addr) (n c B : Nat) (ps : List Pth) (A2 : Option Addr) (n2 c2 B2 : Nat) (p : List Prt) (A3 : Option Addr) (n3 c3 B3 : Nat) (cs : List Cal) (b : Int) (w : World) (h : PthsAt w B A n ps) (hB : B ≤ w.heap.size) (hn : n ≤ 4294967296) (h2 : PrtsAt w B2 A2 n2 p) (hB2 : B2 ≤ w.heap.size) (hn2 : n2 ≤ 1048576) (hm : ∀ j, j < n2 → (prAt p j).stage.length ≤ 1048576) (h3 : CalsAt w B3 A3 n3 cs) (hB3 : B3 ≤ w.heap.size) (hn3 : n3 ≤ 1048576) :
    Calls Tryz.prog 27 #[.slice A n c, .slice A2 n2 c2, .slice A3 n3 c3, .int .i64 b] w fun e w' => ∃ v, e = .returned v ∧ Own .i64 3 w' w.heap.size v (wtaR ps p cs b) ∧ Below w.heap.size w w' := by
  have hl3 := h3.1
  have HNG := Lib.hid (fun id f x (hx : Below w.heap.size w x) => spec_NextGreen A n c B ps A2 n2 c2 B2 p id f x (h.below (hx.mono hB)) (Nat.le_trans hB hx.size) hn (h2.below hB2 hx) (Nat.le_trans hB2 hx.size) hn2 hm)
  have H3 := Lib.hid h3
  have HV : Hid (wtaR ps p cs b = gthP (wtaP ps p cs b) (wtaF cs) n3) := Lib.hid (by unfold wtaR; rw [hl3])
  have own0 := own_bare .i64 3 w
  clear h h2 h3 hm hl3
  go_enter Tryz.func27, Tryz.ntmps27
  go_wp2
  go_loopw [9, 10] (fun v i wr => ∃ k : Nat, k ≤ n3 ∧ i = .int .i64 k ∧ Own .i64 3 wr w.heap.size v (gthP (wtaP ps p cs b) (wtaF cs) k) ∧ Below w.heap.size w wr) (fun _ i _ => n3 - (intOf i).toNat)
  case atStart => exact ⟨0, Nat.zero_le _, rfl, own0, (Below.refl _ _).alloc (Nat.le_refl _) _⟩
  case round =>
    clear own0
    obtain ⟨k, hk, rfl, ho, hbl⟩ := hrel
    have HBL := Lib.hid hbl
    have HO := Lib.hid ho
    have hsz := hbl.size
    have hln := gthP_len (wtaP ps p cs b) (wtaF cs) k
    clear ho hbl
    by_cases hlt : k < n3
    · obtain ⟨ad, q, rfl, hab, hp, hq⟩ := H3.out.at hlt
      have HKP := Lib.hid (fun X (hX : Below w.heap.size w X) => hq.below (hX.mono hB3) hab)
      have c0 := fun x : GW wr => (HKP.out x.val (HBL.out.trans (x.ok.mono hsz))).c0
      have c1 := fun x : GW wr => (HKP.out x.val (HBL.out.trans (x.ok.mono hsz))).c1
      have hcc := fun x : GW wr => HNG.out q.path q.sec x.val (HBL.out.trans (x.ok.mono hsz))
      have HN1 := Lib.hid (fun hh => gthP_no (f := wtaF cs) (wtaP_no1 (ps := ps) (p := p) (s := b) hp hh))
      have HN2 := Lib.hid (fun hh => gthP_no (f := wtaF cs) (wtaP_no2 (ps := ps) (p := p) (s := b) hp hh))
      have HY := Lib.hid (fun hh hh2 => (gthP_yes (f := wtaF cs) (wtaP_yes (ps := ps) (p := p) (s := b) hp hh hh2)).trans (by rw [wtaF_at hp]))
      have i1 : (0 : Int) ≤ (k : Int) := by omega
      have i2 : (k : Int) < (n3 : Int) := by omega
      obtain ⟨ys, hys⟩ : ∃ ys, gthP (wtaP ps p cs b) (wtaF cs) k = ys := ⟨_, rfl⟩
      rw [hys] at HO HN1 HN2 HY hln
      clear hp hq hys
      obtain ⟨Av, cv, rfl⟩ := HO.out.sliced
      generalize nextP ps p q.path q.sec = z at *
      by_cases ht : q.sec ≤ b
      · by_cases hz : b < z
        · have HL := Lib.hid (HY.out ht hz)
          clear HN1 HN2 HY
          go_wp2
          refine wp_region_grow (by kernel_rfl) (by kernel_rfl) ?_
          repeat (go_big_quiet_step (first | (go_at_call 73; exact calls_gw _ (hcc _))))
          refine wpQuiet_nil ?_
          intro x5
          have HB5 := Lib.hid (HBL.out.trans (x5.ok.mono hsz))
          have HO5 := Lib.hid (HO.out.below x5.ok)
          have hs5 := HB5.out.size
          clear c0 c1 hcc
          generalize x5.val = w5 at *
          have d0 := (HKP.out w5 HB5.out).c0
          have hpt := spec_l6Put Av ys.length cv w5.heap.size ys q.path w5 HO5.out.ints (Nat.le_refl _) (by omega) HO5.out.cap.1 HO5.out.nilcap'
          go_wp2_with fail
          refine hpt.mono ?_
          rintro e w6 ⟨v6, rfl, ho6, hb6⟩
          have HB6 := Lib.hid (HB5.out.trans (hb6.mono hs5))
          have HO6 := Lib.hid (ho6.mono hs5)
          clear hpt d0 hb6 ho6
          go_wp2
          go_roundw
          case rel => exact ⟨k + 1, by omega, by go_num, by rw [HL.out]; exact HO6.out, HB6.out⟩
          case measure => simp [intOf]; omega
        · have HL := Lib.hid (HN2.out hz)
          clear HN1 HN2 HY
          go_wp2
          refine wp_region_grow (by kernel_rfl) (by kernel_rfl) ?_
          repeat (go_big_quiet_step (first | (go_at_call 73; exact calls_gw _ (hcc _))))
          refine wpQuiet_nil ?_
          intro x5
          have HB5 := Lib.hid (HBL.out.trans (x5.ok.mono hsz))
          have HO5 := Lib.hid (HO.out.below x5.ok)
          clear c0 c1 hcc
          generalize x5.val = w5 at *
          go_wp2
          go_roundw
          case rel => exact ⟨k + 1, by omega, by go_num, by rw [HL.out]; exact HO5.out, HB5.out⟩
          case measure => simp [intOf]; omega
      · have HL := Lib.hid (HN1.out ht)
        have hd : decide (q.sec ≤ b) = false := by simp only [ht, decide_false]
        clear HN1 HN2 HY ht
        go_wp2
        refine wp_region_grow (by kernel_rfl) (by kernel_rfl) ?_
        repeat (go_big_quiet_step (first | (go_at_call 73; exact calls_gw _ (hcc _))))
        refine wpQuiet_nil ?_
        intro x5
        have HB5 := Lib.hid (HBL.out.trans (x5.ok.mono hsz))
        have HO5 := Lib.hid (HO.out.below x5.ok)
        clear c0 c1 hcc
        generalize x5.val = w5 at *
        go_wp2
        go_roundw
        case rel => exact ⟨k + 1, by omega, by go_num, by rw [HL.out]; exact HO5.out, HB5.out⟩
        case measure => simp [intOf]; omega
    · obtain rfl : k = n3 := by omega
      go_wp2
      go_ret
      exact ⟨_, rfl, by rw [HV.out]; exact HO.out, HBL.out⟩
theorem heap_size_allocW (w : World) (o : Obj) : (w.alloc o).heap.size = w.heap.size + 1 := by simp
set_option maxHeartbeats 4000000 in
set_option maxRecDepth 100000 in
theorem impl_WaitingAt {w : World} {A : Option Addr} {n c B : Nat} {ps : List Pth} {A2 : Option Addr} {n2 c2 B2 : Nat} {p : List Prt} (I : PlnIn w A n c B ps A2 n2 c2 B2 p) (A3 : Option Addr) (n3 c3 B3 : Nat) (cs : List Cal) (b : Int) (h3 : CalsAt w B3 A3 n3 cs) (hB3 : B3 ≤ w.heap.size) (hn3 : n3 ≤ 1048576) :
    Calls Tryz.prog 29 #[.slice A n c, .slice A2 n2 c2, .slice A3 n3 c3, .int .i64 b] w fun e w' => ∃ v, e = .returned v ∧ Own .i64 3 w' w.heap.size v (wtaR ps p cs b) ∧ Below w.heap.size w w' := by
  have hl3 := h3.1
  have own0 := own_bare .i64 3 w
  have hb0 : Below w.heap.size w (w.alloc (.cells #[] 3)) := (Below.refl _ _).alloc (Nat.le_refl _) _
  have hs0 := hb0.size
  have HC := Lib.hid (impl_ServedAt (I.below hb0) A3 n3 c3 B3 cs (h3.below (hb0.mono hB3)) (Nat.le_trans hB3 hs0) hn3)
  have H3 := Lib.hid h3
  have HL3 := Lib.hid hl3
  have HV : Hid (wtaR ps p cs b = gthP (wtaP ps p cs b) (wtaF cs) n3) := Lib.hid (by unfold wtaR; rw [hl3])
  have HO0 := Lib.hid own0
  have HB0 := Lib.hid hb0
  clear I h3 hl3 own0 hb0
  go_enter Tryz.func29, Tryz.ntmps29
  go_wp2_with fail
  refine HC.out.mono ?_
  rintro e w1 ⟨v, rfl, ho, hb1⟩
  obtain ⟨Av, cv, rfl⟩ := ho.sliced
  have hsl := servedP_len ps p cs
  rw [HL3.out] at hsl
  rw [hsl] at ho ⊢
  have HAP0 : Hid (∀ r, (Value.slice (some ⟨w.heap.size, 0, none⟩) 0 0).ownBlock = some r → (Value.slice Av n3 cv).ownBlock ≠ some r) := Lib.hid (fun r e e' => by
    have h1 : w.heap.size = r := Option.some.inj e
    have h2 := (ho.block r (by simpa [Value.ownBlock] using e')).1
    rw [heap_size_allocW] at h2
    omega)
  have HSV := Lib.hid (ho.mono (lo' := w.heap.size) hs0)
  have HB := Lib.hid (HB0.out.trans (hb1.mono hs0))
  have HO1 := Lib.hid (HO0.out.below hb1)
  have hs1 := HB.out.size
  clear ho hb1 hsl HC
  go_wp2
  go_loopw [9, 18] (fun v i wr => ∃ k : Nat, k ≤ n3 ∧ i = .int .i64 k ∧ Own .i64 3 wr w.heap.size v (gthT (wtaP ps p cs b) (wtaF cs) k) ∧ (∀ r, v.ownBlock = some r → (Value.slice Av n3 cv).ownBlock ≠ some r) ∧ Own .i64 3 wr w.heap.size (.slice Av n3 cv) (servedP ps p cs) ∧ Below w.heap.size w wr) (fun _ i _ => n3 - (intOf i).toNat)
  case atStart => exact ⟨0, Nat.zero_le _, rfl, HO1.out, HAP0.out, HSV.out, HB.out⟩
  case round =>
    clear HO1 HO0 HB0 HSV HAP0
    obtain ⟨k, hk, rfl, ho, hap, hsv, hbl⟩ := hrel
    have HBL := Lib.hid hbl
    have HO := Lib.hid ho
    have HAP := Lib.hid hap
    have HSV := Lib.hid hsv
    have HI := Lib.hid hsv.ints
    have hsz := hbl.size
    have hln := gthT_len (wtaP ps p cs b) (wtaF cs) k
    clear ho hbl hap hsv
    by_cases hlt : k < n3
    · obtain ⟨ad, q, rfl, hab, hp, hq⟩ := H3.out.at hlt
      obtain ⟨c0, c1⟩ := hq.below (HBL.out.mono hB3) hab
      obtain ⟨av, rfl, hav, hcell⟩ := HI.out.2 (by omega)
      have hcv := hcell k hlt
      have hval : (servedP ps p cs).getD k 0 = nextP ps p q.path q.sec := by
        unfold servedP
        rw [List.getD_eq_getElem?_getD, List.getElem?_map, hp]
        rfl
      rw [hval] at hcv
      have HN1 := Lib.hid (fun hh => gthT_no (f := wtaF cs) (wtaP_no1 (ps := ps) (p := p) (s := b) hp hh))
      have HN2 := Lib.hid (fun hh => gthT_no (f := wtaF cs) (wtaP_no2 (ps := ps) (p := p) (s := b) hp hh))
      have HY := Lib.hid (fun hh hh2 => (gthT_yes (f := wtaF cs) (wtaP_yes (ps := ps) (p := p) (s := b) hp hh hh2)).trans (by rw [wtaF_at hp]))
      have i1 : (0 : Int) ≤ (k : Int) := by omega
      have i2 : (k : Int) < (n3 : Int) := by omega
      obtain ⟨ys, hys⟩ : ∃ ys, gthT (wtaP ps p cs b) (wtaF cs) k = ys := ⟨_, rfl⟩
      rw [hys] at HO HN1 HN2 HY hln
      clear hp hq hys hcell hval
      obtain ⟨Aw, cw, rfl⟩ := HO.out.sliced
      generalize nextP ps p q.path q.sec = z at *
      by_cases ht : q.sec ≤ b
      · by_cases hz : b < z
        · have HL := Lib.hid (HY.out ht hz)
          have HOQ := HO.out
          clear HN1 HN2 HY
          go_wp2_with (at_builtin; refine wpList_app1 rfl _ _ 24 rfl .i64 3 8 Tryz.underlying24 info_i64 w.heap.size _ _ rfl HOQ (by decide) (by omega) _ _ _ wr.heap.size hsz rfl (by simp) ?_; intro v7 w7 hown7 hgrow7 hat7)
          have HB7 : Hid (Below w.heap.size w w7) := Lib.hid (HO.out.push (Nat.le_refl _) (HBL.out.alloc hsz (.cells #[.int .i64 q.path] 3)) (by simp; omega) hgrow7)
          have HO7 := Lib.hid hown7
          have HSV7 := Lib.hid ((HSV.out.alloc (.cells #[.int .i64 q.path] 3)).grown hgrow7 (fun r e e' => HAP.out r e' e))
          have HAP7 : Hid (∀ r, v7.ownBlock = some r → (Value.slice (some av) n3 cv).ownBlock ≠ some r) := Lib.hid (fun r e e' => by
            rcases hat7 with h | h
            · rw [h] at e; exact HAP.out r e e'
            · rw [h] at e
              have h1 : wr.heap.size + 1 = r := Option.some.inj e
              have h2 := (HSV.out.block r e').2
              omega)
          clear hown7 hgrow7 hat7 HOQ
          go_roundw
          case rel => exact ⟨k + 1, by omega, by go_num, by rw [HL.out]; exact HO7.out, HAP7.out, HSV7.out, HB7.out⟩
          case measure => simp [intOf]; omega
        · have HL := Lib.hid (HN2.out hz)
          clear HN1 HN2 HY
          go_wp2
          go_roundw
          case rel => exact ⟨k + 1, by omega, by go_num, by rw [HL.out]; exact HO.out, HAP.out, HSV.out, HBL.out⟩
          case measure => simp [intOf]; omega
      · have HL := Lib.hid (HN1.out ht)
        have hd : decide (q.sec ≤ b) = false := by simp only [ht, decide_false]
        clear HN1 HN2 HY ht
        go_wp2
        go_roundw
        case rel => exact ⟨k + 1, by omega, by go_num, by rw [HL.out]; exact HO.out, HAP.out, HSV.out, HBL.out⟩
        case measure => simp [intOf]; omega
    · obtain rfl : k = n3 := by omega
      obtain ⟨ys, hys⟩ : ∃ ys, gthT (wtaP ps p cs b) (wtaF cs) k = ys := ⟨_, rfl⟩
      have HEQ := Lib.hid (gth_eq (wtaP ps p cs b) (wtaF cs) k)
      rw [hys] at HO HEQ hln
      clear hys HI HSV HAP
      obtain ⟨Aw, cw, rfl⟩ := HO.out.sliced
      have hcc := lib_SortF Aw _ cw w.heap.size ys wr HO.out (by omega)
      go_wp2_with fail
      refine hcc.mono ?_
      rintro e w3 ⟨rfl, ho1, hg1⟩
      have hls : (ys.mergeSort fun x y => decide (x ≤ y)).length = ys.length := List.length_mergeSort _
      generalize (ys.mergeSort fun x y => decide (x ≤ y)) = qs at *
      have hcc2 := lib_CompactF Aw _ cw w.heap.size qs w3 ho1 (by omega)
      have HB1 : Hid (Below w.heap.size w w3) := Lib.hid (HO.out.push (Nat.le_refl _) HBL.out hsz hg1)
      have HB1S := Lib.hid HB1.out.size
      clear hcc
      have HO3 := Lib.hid ho1
      clear ho1
      go_wp2_with fail
      refine hcc2.mono ?_
      rintro e w4 ⟨rfl, ho2, hg2⟩
      have hb2 : Below w.heap.size w w4 := HO3.out.push (Nat.le_refl _) HB1.out HB1S.out hg2
      clear hcc2 hg2 hg1
      go_wp2
      go_ret
      exact ⟨_, rfl, by rw [HV.out, ← HEQ.out]; exact ho2, hb2⟩
end Go.Proofs.YtgpffbnmdfichaaGreatDoor

/- The laws' helpers for rows of parts. -/
namespace Go.Proofs.YtgpffbnmdfichaaGreatDoor
open Go.RowKit
set_option linter.unusedVariables false

set_option maxHeartbeats 1000000 in
theorem to_prt (A : Option Addr) (n c B : Nat) (ps : List Prt) (w : World) (h : PrtsAt w B A n ps) (hB : B ≤ w.heap.size) (hn : n ≤ 1048576) (hm : ∀ j, j < n → (prAt ps j).stage.length ≤ 1048576) :
    Calls Tryz.prog 15 #[.slice A n c] w fun e w' => e = .returned (.slice (some ⟨w.heap.size, 0, none⟩) n n) ∧ (∃ xs, OwnPr w' w.heap.size (.slice (some ⟨w.heap.size, 0, none⟩) n n) xs ps) ∧ Below w.heap.size w w' := by
  have hl := h.1
  go_enter Tryz.func15, Tryz.ntmps15
  go_wp2_with ((with_reducible show wpList _ _ _ _ _ _); refine wpList_mkR rfl _ _ _ rfl 92 _ 2 _ Tryz.underlying33 info_prt (by decide) (n : Int) (n : Int) n rfl rfl rfl rfl (by omega) ?_; intro w1 hown hgrow)
  rw [made_prt] at hown
  go_loopw [4] (fun i wr => ∃ (k : Nat) (xs : List (Value × Int)), k ≤ n ∧ xs.length = k ∧ i = .int .i64 k ∧ wr.ownsRow w.heap.size 92 2 (.slice (some ⟨w.heap.size, 0, none⟩) n n) n (prow xs ++ prow (List.replicate (n - xs.length) (.slice none 0 0, 0))) ∧
      (∀ j, j < k → ∃ u, xs[j]? = some (u, (prAt ps j).green) ∧ Own .i64 3 wr w.heap.size u (prAt ps j).stage) ∧ ApartL (xs.map (·.1)) ∧ Below w.heap.size w wr) (fun i _ => n - (intOf i).toNat)
  case atStart => exact ⟨0, [], Nat.zero_le _, rfl, rfl, by simpa [prow] using hown, fun j hj => absurd hj (by omega), ApartL.nil, below_grown hgrow⟩
  case round =>
    clear hown hgrow
    obtain ⟨k, xs, hk, hul, rfl, hrow, heach, hap, hbl⟩ := hrel
    have hsz := hbl.size
    by_cases hlt : k < n
    · obtain ⟨ad, A', m, c', rfl, hab, hq, hi, hmc, hnil⟩ := h.at hlt
      obtain ⟨q0, q1⟩ := hq.below hbl (by omega)
      have hml := hi.1
      have hmk := hm k hlt
      have hiw := hi.keep (w' := wr) (fun p hp => hbl.cell (by omega))
      clear hq hi
      obtain ⟨zs, hzs⟩ : ∃ zs, (prAt ps k).stage = zs := ⟨_, rfl⟩
      obtain ⟨g, hgr⟩ : ∃ g, (prAt ps k).green = g := ⟨_, rfl⟩
      rw [hzs] at hml hmk hiw
      rw [hgr] at q1
      have HZS := Lib.hid hzs
      have HG := Lib.hid hgr
      clear hzs hgr
      go_wp2_with fail
      refine (law_toPart A' m c' B zs g wr hiw (by omega) (by omega)).mono ?_
      rintro e w2 ⟨a, rfl, ho, hb2⟩
      have hrow2 := ownr_below hrow hb2
      obtain ⟨x0, hx0⟩ := ownr_some hrow2 (j := k * 2) (by omega)
      obtain ⟨x1, hx1⟩ := ownr_some hrow2 (j := k * 2 + 1) (by omega)
      have f0 := World.ownsRow.frozenAt hrow2
      have hst := (World.ownsRow.stored (World.ownsRow.stored hrow2 (k * 2) (.slice (some a) m m)).1 (k * 2 + 1) (.int .i64 g)).1
      have hb3 := hbl.trans (hb2.mono hsz)
      have hgs : w2.grownBy ((w2.setCell ⟨w.heap.size, k * 2, none⟩ (.slice (some a) m m)).setCell ⟨w.heap.size, k * 2 + 1, none⟩ (.int .i64 g)) (some w.heap.size) := only_setCell (only_setCell (World.grownBy.refl _ _) _ _) _ _
      have hkept : ∀ {x : Value} {xs : List Int} {l : Nat}, Own .i64 3 w2 l x xs → Own .i64 3 ((w2.setCell ⟨w.heap.size, k * 2, none⟩ (.slice (some a) m m)).setCell ⟨w.heap.size, k * 2 + 1, none⟩ (.int .i64 g)) l x xs := fun hx => hx.grown hgs (fun g hg e => own_apartP hx hrow2 g hg e)
      have hsn : xs.length < n := by omega
      rw [← hul, prow_next xs n _ (.slice (some a) m m, g) hsn, hul] at hst
      have HR := Lib.hid hst
      have HE : Hid (∀ j, j < k + 1 → ∃ u, (xs ++ [(.slice (some a) m m, g)])[j]? = some (u, (prAt ps j).green) ∧ Own .i64 3 ((w2.setCell ⟨w.heap.size, k * 2, none⟩ (.slice (some a) m m)).setCell ⟨w.heap.size, k * 2 + 1, none⟩ (.int .i64 g)) w.heap.size u (prAt ps j).stage) := Lib.hid (by
        intro j hj
        by_cases hjk : j < k
        · obtain ⟨u, h1, h2⟩ := heach j hjk
          exact ⟨u, by rw [List.getElem?_append_left (by omega)]; exact h1, hkept (h2.below hb2)⟩
        · obtain rfl : j = xs.length := by omega
          refine ⟨_, (List.getElem?_append_right (Nat.le_refl _)).trans (by rw [Nat.sub_self, show xs.length = k from hul, HG.out]; rfl), ?_⟩
          rw [show xs.length = k from hul, HZS.out]
          exact hkept (ho.mono hsz))
      have HA : Hid (ApartL ((xs ++ [((Value.slice (some a) m m), g)]).map (·.1))) := Lib.hid (by
        rw [List.map_append]
        refine hap.snoc (b := wr.heap.size) (fun x hx g hg => ?_) (fun g hg => (ho.block g hg).1)
        obtain ⟨y, hy, rfl⟩ := List.mem_map.1 hx
        obtain ⟨j, hj, rfl⟩ := List.getElem_of_mem hy
        obtain ⟨u, h1, h2⟩ := heach j (by omega)
        rw [List.getElem?_eq_getElem hj] at h1
        injection h1 with h1
        rw [h1] at hg
        exact (h2.block g hg).2)
      have HB := Lib.hid hb3
      clear hrow heach hap hbl hb2 hb3 hgs hkept hst hrow2 ho hiw
      go_wp2
      go_roundw
      case rel => exact ⟨k + 1, xs ++ [(.slice (some a) m m, g)], by omega, by rw [List.length_append, hul]; rfl, by go_num, HR.out, HE.out, HA.out, (HB.out.setCell (Nat.le_refl _) _).setCell (Nat.le_refl _) _⟩
      case measure => simp [intOf]; omega
    · obtain rfl : k = n := by omega
      rw [hul, Nat.sub_self, List.replicate_zero] at hrow
      have HO : Hid (OwnPr wr w.heap.size (.slice (some ⟨w.heap.size, 0, none⟩) k k) xs ps) := Lib.hid ⟨by rw [hl]; simpa [prow] using hrow, fun j hj => heach j (by omega), hap⟩
      clear hrow heach hap
      go_wp2
      go_ret
      exact ⟨rfl, ⟨xs, HO.out⟩, hbl⟩
set_option maxHeartbeats 1000000 in
theorem law_eqPart (A : Option Addr) (n c B : Nat) (zs : List Int) (g : Int) (A2 : Option Addr) (n2 c2 : Nat) (w : World) (h : IntsAt .i64 w B A n zs) (h2 : IntsAt .i64 w B A2 n2 zs) (hB : B ≤ w.heap.size) (hn : n ≤ 4398046511104) :
    Calls Tryz.prog 68 #[.agg #[.slice A n c, .int .i64 g], .agg #[.slice A2 n2 c2, .int .i64 g]] w fun e w' => e = .returned (.bool true) ∧ Below w.heap.size w w' := by
  have hl := h.1
  have hl2 := h2.1
  have hq := fun w' (hb : Below w.heap.size w w') => eqs_i64 A n c zs A2 n2 c2 w' ((h.laid hB hb).up (by have := hb.size; omega)) ((h2.laid hB hb).up (by have := hb.size; omega)) (by omega) (by omega)
  have hb0 := ((Below.refl w.heap.size w).alloc (Nat.le_refl _) (.cells #[.slice A n c, .int .i64 g] 92)).alloc (by simp) (.cells #[.slice A2 n2 c2, .int .i64 g] 92)
  have HQ := Lib.hid hq
  have HB0 := Lib.hid hb0
  clear hq hb0 h h2
  have e1 : (g != g) = false := by simp
  have e2 : (!(g == g)) = false := by simp
  go_enter Tryz.func68, Tryz.ntmps68
  go_wp2_with fail
  refine (HQ.out _ HB0.out).mono ?_
  rintro e w2 ⟨rfl, hb2⟩
  have HB := Lib.hid (HB0.out.trans (hb2.mono HB0.out.size))
  have k0 : w2.cell? ⟨w.heap.size, 1, none⟩ = some (.int .i64 g) := (hb2.cell (p := ⟨w.heap.size, 1, none⟩) (by simp; omega)).trans (by go_simp)
  have k1 : w2.cell? ⟨w.heap.size + 1, 1, none⟩ = some (.int .i64 g) := (hb2.cell (p := ⟨w.heap.size + 1, 1, none⟩) (by simp)).trans (by go_simp)
  clear hb2
  go_wp2
  go_ret
  exact ⟨rfl, HB.out⟩
set_option maxHeartbeats 1000000 in
theorem eqs_prt (A : Option Addr) (n c : Nat) (ps : List Prt) (A2 : Option Addr) (n2 c2 : Nat) (w : World) (h : PrtsAt w w.heap.size A n ps) (h2 : PrtsAt w w.heap.size A2 n2 ps) (hn : n ≤ 4398046511104) (hn2 : n2 ≤ 4398046511104) (hm : ∀ j, j < n → (prAt ps j).stage.length ≤ 4398046511104) :
    Calls Tryz.prog 19 #[.slice A n c, .slice A2 n2 c2] w fun e w' => e = .returned (.bool true) ∧ Below w.heap.size w w' := by
  have hl := h.1
  have hl2 := h2.1
  obtain rfl : n = n2 := by omega
  go_enter Tryz.func19, Tryz.ntmps19
  go_wp2
  go_loopw [5] (fun i wr => ∃ k : Nat, k ≤ n ∧ i = .int .i64 k ∧ Below w.heap.size w wr) (fun i _ => n - (intOf i).toNat)
  case atStart => exact ⟨0, Nat.zero_le _, rfl, Below.refl _ _⟩
  case round =>
    obtain ⟨k, hk, rfl, hbl⟩ := hrel
    have hsz := hbl.size
    by_cases hlt : k < n
    · obtain ⟨ad, A', m, c', rfl, hab, hq, hi, hmc, hnil⟩ := h.at hlt
      obtain ⟨ad2, A2', m2, c2', rfl, hab2, hq2, hi2, hmc2, hnil2⟩ := h2.at hlt
      have hqq := fun x (hx : Below wr.heap.size wr x) => (hq.below hbl (by omega)).below hx (by omega)
      have hqq2 := fun x (hx : Below wr.heap.size wr x) => (hq2.below hbl (by omega)).below hx (by omega)
      have hmk := hm k hlt
      have hml := hi.1
      have hml2 := hi2.1
      have hiw := hi.keep (w' := wr) (fun p hp => hbl.cell (by omega))
      have hiw2 := hi2.keep (w' := wr) (fun p hp => hbl.cell (by omega))
      clear hq hq2 hi hi2
      generalize (prAt ps k).stage = zs at *
      generalize (prAt ps k).green = g at *
      have hcc := fun x (hx : Below wr.heap.size wr x) => law_eqPart A' m c' w.heap.size zs g A2' m2 c2' x (hiw.keep (w' := x) fun p hp => hx.cell (by omega)) (hiw2.keep (w' := x) fun p hp => hx.cell (by omega)) (by have := hx.size; omega) (by omega)
      have x1 : (0 : Int) ≤ (k : Int) := by omega
      have x2 : (k : Int) < (n : Int) := by omega
      have hdr : Below wr.heap.size wr wr.drew := ⟨rfl, rfl, rfl, Nat.le_refl _, fun _ _ => rfl⟩
      obtain ⟨y0, y1⟩ := hqq _ hdr
      obtain ⟨z0, z1⟩ := hqq2 _ hdr
      have HQ := Lib.hid hcc
      have HC := Lib.hid hqq
      have HC2 := Lib.hid hqq2
      clear hqq hqq2 hcc hiw hiw2
      go_wp2
      go_region_held3 (fun W' => W'.cell? (ad.add (k * 2)) = some (.slice A' m c') ∧ W'.cell? ⟨(ad.add (k * 2)).block, (ad.add (k * 2)).off + 1, none⟩ = some (.int .i64 g) ∧ W'.cell? (ad2.add (k * 2)) = some (.slice A2' m2 c2') ∧ W'.cell? ⟨(ad2.add (k * 2)).block, (ad2.add (k * 2)).off + 1, none⟩ = some (.int .i64 g)) (first | exact ⟨y0, y1, z0, z1⟩ | exact ⟨hy.c0, hy.c1, hz.c0, hz.c1⟩ | fail "keep")
        (first
          | (go_at_call 68; refine (HQ.out _ hdr).mono ?_; rintro e w3 ⟨rfl, hb3⟩; have hb4 := hdr.trans hb3; have hy := HC.out _ hb4; have hz := HC2.out _ hb4))
      have HB := Lib.hid (hbl.trans (hb4.mono hsz))
      clear hb3 hb4 y0 z0 y1 z1 hy hz hbl HQ HC HC2 hdr
      go_wp2
      go_roundw
      case rel => exact ⟨k + 1, by omega, by go_num, HB.out⟩
      case measure => simp [intOf]; omega
    · obtain rfl : k = n := by omega
      go_wp2
      go_ret
      exact ⟨rfl, hbl⟩
theorem sz_part (A : Option Addr) (n c : Nat) (g : Int) (left : Int) (w : World) (hn : n ≤ 9223372036854775807) (hl : 0 ≤ left ∧ left ≤ 1048576) :
    Calls Tryz.prog 56 #[.agg #[.slice A n c, .int .i64 g], .int .i64 left] w fun e w' => e = .returned (.int .i64 (if (n : Int) ≤ left then left - (n : Int) else -1)) ∧ Below w.heap.size w w' := by
  have HB := Lib.hid ((Below.refl w.heap.size w).alloc (Nat.le_refl _) (.cells #[.slice A n c, .int .i64 g] 83))
  by_cases h : (n : Int) ≤ left
  · have hz := fun x => sz_ints A n c left x hn hl
    simp only [if_pos h] at hz ⊢
    have HZ := Lib.hid hz
    clear hz
    go_enter Tryz.func56, Tryz.ntmps56
    go_wp2_with fail
    refine (HZ.out _).mono ?_
    rintro e w' ⟨rfl, rfl⟩
    go_wp2
    go_ret
    exact ⟨rfl, HB.out⟩
  · have hz := fun x => sz_ints A n c left x hn hl
    simp only [if_neg h] at hz ⊢
    have HZ := Lib.hid hz
    clear hz
    go_enter Tryz.func56, Tryz.ntmps56
    go_wp2_with fail
    refine (HZ.out _).mono ?_
    rintro e w' ⟨rfl, rfl⟩
    go_wp2
    go_ret
    exact ⟨rfl, HB.out⟩
/-- what szPartS says. -/
def szSaidP (left : Int) (n : Nat) (ps : List Prt) (r : Int) : Prop := r < 0 ∨ (0 ≤ r ∧ r ≤ left ∧ (n : Int) ≤ left ∧ ∀ j, j < n → ((prAt ps j).stage.length : Int) ≤ left)
set_option maxHeartbeats 1000000 in
theorem sz_prt (A : Option Addr) (n c B : Nat) (ps : List Prt) (left : Int) (w : World) (h : PrtsAt w B A n ps) (hB : B ≤ w.heap.size) (hn : n ≤ 9223372036854775807) (hm : ∀ j, j < n → (prAt ps j).stage.length ≤ 9223372036854775807) (hl : 0 ≤ left ∧ left ≤ 1048576) :
    Calls Tryz.prog 11 #[.slice A n c, .int .i64 left] w fun e w' => (∃ r : Int, e = .returned (.int .i64 r) ∧ szSaidP left n ps r) ∧ Below w.heap.size w w' := by
  have hl0 := h.1
  obtain ⟨l1, l2⟩ := hl
  by_cases hlt0 : (n : Int) ≤ left
  · go_enter Tryz.func11, Tryz.ntmps11
    go_wp2
    go_loopw [1, 5] (fun r i wr => ∃ (k : Nat) (q : Int), k ≤ n ∧ i = .int .i64 k ∧ r = .int .i64 q ∧ 0 ≤ q ∧ q ≤ left ∧ (∀ j, j < k → ((prAt ps j).stage.length : Int) ≤ left) ∧ Below w.heap.size w wr) (fun _ i _ => n - (intOf i).toNat)
    case atStart => exact ⟨0, left - n, Nat.zero_le _, rfl, rfl, by omega, by omega, fun j hj => absurd hj (by omega), Below.refl _ _⟩
    case round =>
      obtain ⟨k, q, hk, rfl, rfl, hq0, hq1, hall, hbl⟩ := hrel
      have HALL := Lib.hid hall
      clear hall
      by_cases hlt : k < n
      · obtain ⟨ad, A', m, c', rfl, hab, hq, hi, hmc, hnil⟩ := h.at hlt
        obtain ⟨y0, y1⟩ := hq.below hbl (by omega)
        have hml := hi.1
        have hmk := hm k hlt
        go_wp2_with fail
        refine (sz_part A' m c' _ q _ (by omega) ⟨hq0, by omega⟩).mono ?_
        rintro e w' ⟨rfl, hb2⟩
        have HB := Lib.hid (hbl.trans (hb2.mono hbl.size))
        clear hb2
        by_cases hle : (m : Int) ≤ q
        · rw [if_pos hle]
          have HK : Hid (((prAt ps k).stage.length : Int) ≤ left) := Lib.hid (by omega)
          clear hi hml hmk
          go_wp2
          go_roundw
          case rel => exact ⟨k + 1, q - m, by omega, by go_num, rfl, by omega, by omega, (fun j hj => by
            by_cases e : j < k
            · exact HALL.out j e
            · obtain rfl : j = k := by omega
              exact HK.out), HB.out⟩
          case measure => simp [intOf]; omega
        · rw [if_neg hle]
          go_wp2
          go_ret
          exact ⟨⟨-1, rfl, .inl (by decide)⟩, HB.out⟩
      · obtain rfl : k = n := by omega
        go_wp2
        go_ret
        exact ⟨⟨q, rfl, .inr ⟨hq0, hq1, hlt0, HALL.out⟩⟩, hbl⟩
  · go_enter Tryz.func11, Tryz.ntmps11
    go_wp2
    go_ret
    exact ⟨⟨-1, rfl, .inl (by decide)⟩, Below.refl _ _⟩
/-- how many marks the first k parts take. -/
def totP (ps : List Prt) (k : Nat) : Nat := ((ps.take k).map fun p => p.stage.length + 1).sum
theorem totP_zero (ps : List Prt) : totP ps 0 = 0 := by simp [totP]
theorem totP_succ {ps : List Prt} {k : Nat} (h : k < ps.length) : totP ps (k + 1) = totP ps k + ((prAt ps k).stage.length + 1) := by
  unfold totP
  rw [List.take_add_one, prAt_get h, List.map_append, List.sum_append]
  simp
theorem totP_le {ps : List Prt} (h : SmallP ps) : ∀ k, k ≤ ps.length → totP ps k ≤ k * 1048577
  | 0, _ => by rw [totP_zero]; exact Nat.zero_le _
  | k + 1, hk => by
    have ih := totP_le h k (by omega)
    have := h.2 k (by omega)
    rw [totP_succ (by omega)]
    omega
theorem totP_top {ps : List Prt} (h : SmallP ps) {k : Nat} (hk : k ≤ ps.length) : totP ps k ≤ 1099512676352 := by
  have h1 := totP_le h k hk
  have h2 := h.1
  have : k * 1048577 ≤ 1048576 * 1048577 := Nat.mul_le_mul_right _ (by omega)
  omega
/-- the j-th part when it is marked. -/
def mkP (s : Nat) (ps : List Prt) (j : Nat) : Prt := ⟨marks .i64 ((s + totP ps j : Nat) : Int) (prAt ps j).stage.length, ((s + totP ps j + (prAt ps j).stage.length : Nat) : Int)⟩
/-- the first k parts marked. -/
def mixP (s : Nat) (ps : List Prt) (k : Nat) : List Prt := (List.range ps.length).map fun j => if j < k then mkP s ps j else prAt ps j
theorem mixP_len (s : Nat) (ps : List Prt) (k : Nat) : (mixP s ps k).length = ps.length := by simp [mixP]
theorem mixP_at (s : Nat) (ps : List Prt) (k : Nat) {j : Nat} (h : j < ps.length) : prAt (mixP s ps k) j = if j < k then mkP s ps j else prAt ps j := prAt_some (by simp [mixP, h])
theorem mixP_zero (s : Nat) (ps : List Prt) : mixP s ps 0 = ps := by
  apply List.ext_getElem?
  intro i
  by_cases h : i < ps.length
  · rw [prAt_get h]
    simp [mixP, h]
  · rw [List.getElem?_eq_none (by rw [mixP_len]; omega), List.getElem?_eq_none (by omega)]
theorem set_atP {α : Type} {pre rest : List α} {z a : α} {m : Nat} (h : pre.length = m) : (pre ++ z :: rest).set m a = pre ++ a :: rest := by
  subst h
  rw [List.set_append_right _ _ (Nat.le_refl _), Nat.sub_self, List.set_cons_zero]
theorem prow_green {xs : List (Value × Int)} {k : Nat} {u : Value} {g : Int} (h : xs[k]? = some (u, g)) (g' : Int) : (prow xs).set (k * 2 + 1) (.int .i64 g') = prow (xs.set k (u, g')) := by
  have hk := (List.getElem?_eq_some_iff.1 h).1
  have hx := (List.getElem?_eq_some_iff.1 h).2
  have e : xs = xs.take k ++ (u, g) :: xs.drop (k + 1) := by
    rw [← hx, ← List.drop_eq_getElem_cons hk, List.take_append_drop]
  have hl : (xs.take k).length = k := by rw [List.length_take]; omega
  have e2 : xs.set k (u, g') = xs.take k ++ (u, g') :: xs.drop (k + 1) := by
    conv => lhs; rw [e]
    exact set_atP hl
  have e3 : prow xs = (prow (xs.take k) ++ [u]) ++ .int .i64 g :: prow (xs.drop (k + 1)) := by
    conv => lhs; rw [e, prow_append]
    simp [prow]
  rw [e2, e3, set_at (by rw [List.length_append, prow_length, hl]; rfl), prow_append]
  simp [prow]
theorem fst_set {xs : List (Value × Int)} {k : Nat} {u : Value} {g : Int} (h : xs[k]? = some (u, g)) (g' : Int) : (xs.set k (u, g')).map (·.1) = xs.map (·.1) := by
  apply List.ext_getElem?
  intro i
  rw [List.getElem?_map, List.getElem?_map, List.getElem?_set]
  by_cases e : k = i
  · subst e
    rw [if_pos rfl, h, if_pos (List.getElem?_eq_some_iff.1 h).1]
    rfl
  · rw [if_neg e]
set_option maxHeartbeats 1000000 in
set_option maxRecDepth 100000 in
theorem marked_prt (A : Option Addr) (n c lo hi s : Nat) (xs : List (Value × Int)) (ps : List Prt) (w : World) (h : OwQ w lo hi (.slice A n c) xs ps) (hap : ApartL (xs.map (·.1))) (hz : SmallP ps) (hs : s ≤ 2199023255552) :
    Calls Tryz.prog 33 #[.slice A n c, .int .i64 s] w fun e w' => e = .returned (.int .i64 ((s + totP ps n : Nat) : Int)) ∧ (∃ xs', OwQ w' lo hi (.slice A n c) xs' (mixP s ps n)) ∧ Part lo hi w w' := by
  have hl : ps.length = n := (ownr_len h.own.row).symm
  have hz1 := hz.1
  go_enter Tryz.func33, Tryz.ntmps33
  go_wp2
  go_loopw [1, 5] (fun x i wr => ∃ (k q : Nat) (xs' : List (Value × Int)), k ≤ n ∧ i = .int .i64 k ∧ x = .int .i64 (q : Int) ∧ q = s + totP ps k ∧ xs'.map (·.1) = xs.map (·.1) ∧ OwQ wr lo hi (.slice A n c) xs' (mixP s ps k) ∧ Part lo hi w wr) (fun _ i _ => n - (intOf i).toNat)
  case atStart => exact ⟨0, s, xs, Nat.zero_le _, rfl, rfl, by rw [totP_zero]; rfl, rfl, by rw [mixP_zero]; exact h, ⟨rfl, rfl, rfl, Nat.le_refl _, fun _ _ _ => rfl⟩⟩
  case round =>
    clear h
    obtain ⟨k, q, xs', hk, rfl, rfl, hq, hxs, ho, hp⟩ := hrel
    have HQ := Lib.hid hq
    clear hq
    by_cases hlt : k < n
    · have hml := mixP_len s ps k
      obtain ⟨u, hu, hown⟩ := ho.own.each k (by omega)
      have hmk := mixP_at s ps k (j := k) (by omega)
      rw [if_neg (Nat.lt_irrefl k)] at hmk
      obtain ⟨zs, hzs⟩ : ∃ zs, (prAt ps k).stage = zs := ⟨_, rfl⟩
      obtain ⟨gr, hgr⟩ : ∃ gr, (prAt ps k).green = gr := ⟨_, rfl⟩
      rw [hmk, hzs] at hown
      rw [hmk, hgr] at hu
      have hlen := hz.2 k (by omega)
      rw [hzs] at hlen
      have htt := totP_top hz (k := k) (by omega)
      have hts := totP_succ (ps := ps) (k := k) (by omega)
      rw [hzs] at hts
      have HZS := Lib.hid hzs
      have hqb : q ≤ 4398046511104 := by have := HQ.out; omega
      have HQ2 : Hid (q + zs.length + 1 = s + totP ps (k + 1)) := Lib.hid (by have := HQ.out; omega)
      clear hts htt hzs
      obtain ⟨A', c', rfl⟩ := hown.sliced
      rcases ownr_shape ho.own.row with ⟨e, he⟩ | ⟨g, cap, e, hg, hgs, _⟩
      · exfalso; omega
      injection e with e1 e2 e3
      clear e2 e3
      obtain rfl := e1
      have hrow := ho.own.row
      rw [mixP_len, hl] at hrow
      have hca := World.ownsRow.cellAt hrow (k * 2)
      have q0 := (hca (by omega)).trans (prow_at0 hu)
      clear hca
      have HO := Lib.hid ho
      have HP := Lib.hid hp
      have HU := Lib.hid hu
      have HMK := Lib.hid hmk
      have HXS := Lib.hid hxs
      clear ho hp hu hmk hxs hrow
      go_wp2_with fail
      refine (mark_i64 A' _ c' lo q zs wr hown (by omega) (by omega)).mono ?_
      rintro e w3 ⟨rfl, ho3, hg3⟩
      have hrow3 := ownr_grown HO.out.own.row hg3 (fun g hg e => own_apartP hown HO.out.own.row g e hg)
      rw [mixP_len, hl] at hrow3
      have hf := World.ownsRow.frozenAt hrow3
      obtain ⟨x1, hx1⟩ := ownr_some hrow3 (j := k * 2 + 1) (by omega)
      have hca := World.ownsRow.cellAt hrow3 (k * 2)
      have q0' := (hca (by omega)).trans (prow_at0 HU.out)
      clear hca
      have hst := (World.ownsRow.stored hrow3 (k * 2 + 1) (.int .i64 ((q + zs.length : Nat) : Int))).1
      rw [prow_green HU.out] at hst
      have hgs3 : w3.grownBy (w3.setCell ⟨g, k * 2 + 1, none⟩ (.int .i64 ((q + zs.length : Nat) : Int))) (some g) := only_setCell (World.grownBy.refl _ _) _ _
      have hkept : ∀ {x : Value} {ys : List Int} {l : Nat}, Own .i64 3 w3 l x ys → Own .i64 3 (w3.setCell ⟨g, k * 2 + 1, none⟩ (.int .i64 ((q + zs.length : Nat) : Int))) l x ys := fun hx => hx.grown hgs3 (fun g' hg' e => own_apartP hx hrow3 g' hg' e)
      have HO3 : Hid (OwQ (w3.setCell ⟨g, k * 2 + 1, none⟩ (.int .i64 ((q + zs.length : Nat) : Int))) lo hi (.slice (some ⟨g, 0, none⟩) n c) (xs'.set k (.slice A' zs.length c', ((q + zs.length : Nat) : Int))) (mixP s ps (k + 1))) := Lib.hid ⟨⟨by
          rw [mixP_len, hl]
          exact hst, fun j hj => by
          rw [mixP_len] at hj
          rw [mixP_at s ps (k + 1) hj]
          by_cases hjk : j = k
          · subst hjk
            rw [if_pos (Nat.lt_succ_self _)]
            refine ⟨.slice A' zs.length c', ?_, ?_⟩
            · rw [List.getElem?_set_self (List.getElem?_eq_some_iff.1 HU.out).1]
              unfold mkP
              simp only [HZS.out, ← HQ.out]
            · unfold mkP
              simp only [HZS.out, ← HQ.out]
              exact hkept ho3
          · obtain ⟨x, h1, h2⟩ := HO.out.own.each j (by rw [mixP_len]; exact hj)
            rw [mixP_at s ps k hj] at h1 h2
            have hif : (if j < k + 1 then mkP s ps j else prAt ps j) = (if j < k then mkP s ps j else prAt ps j) := by
              by_cases hj2 : j < k
              · rw [if_pos hj2, if_pos (by omega)]
              · rw [if_neg hj2, if_neg (by omega)]
            rw [hif]
            refine ⟨x, ?_, hkept (h2.grown hg3 (fun g' hg' e => ?_))⟩
            · rw [List.getElem?_set_ne (fun e => hjk e.symm)]
              exact h1
            · have f1 : (xs'.map (·.1))[j]? = some x := by rw [List.getElem?_map, h1]; rfl
              have f2 : (xs'.map (·.1))[k]? = some (.slice A' zs.length c') := by rw [List.getElem?_map, HU.out]; rfl
              rw [HXS.out] at f1 f2
              exact hap j k _ _ hjk f1 f2 g' hg' e⟩, HO.out.lt, fun y hy g' hg' => by
          have hy1 : y.1 ∈ xs'.map (·.1) := by
            rw [← fst_set HU.out ((q + zs.length : Nat) : Int)]
            exact List.mem_map_of_mem hy
          obtain ⟨z, hz, e⟩ := List.mem_map.1 hy1
          exact HO.out.ltu z hz g' (by rw [e]; exact hg'), Nat.le_trans HO.out.top (Nat.le_trans hg3.size hgs3.size)⟩
      have hglt := HO.out.lt g rfl
      have HP3 : Hid (Part lo hi w (w3.setCell ⟨g, k * 2 + 1, none⟩ (.int .i64 ((q + zs.length : Nat) : Int)))) := Lib.hid ⟨hgs3.os.trans (hg3.os.trans HP.out.os), hgs3.tape.trans (hg3.tape.trans HP.out.tape), hgs3.output.trans (hg3.output.trans HP.out.output), Nat.le_trans HP.out.size (Nat.le_trans hg3.size hgs3.size), fun i hi' hd => ((hgs3.block i (Nat.lt_of_lt_of_le hi' (Nat.le_trans HP.out.size hg3.size)) (fun e => by
        have e' : i = g := Option.some.inj e
        omega)).trans (hg3.block i (Nat.lt_of_lt_of_le hi' HP.out.size) (fun e => by
        have := HO.out.ltu _ (List.mem_of_getElem? HU.out) i e.symm
        omega))).trans (HP.out.block i hi' hd)⟩
      have HX3 : Hid ((xs'.set k (.slice A' zs.length c', ((q + zs.length : Nat) : Int))).map (·.1) = xs.map (·.1)) := Lib.hid ((fst_set HU.out _).trans HXS.out)
      have HQ3 := Lib.hid HQ2.out
      have hq2b : q + zs.length ≤ 8796093022208 := by omega
      generalize q + zs.length = q2 at *
      clear ho3 hg3 hown HO HP HU hgs3 hkept hst hrow3
      go_wp2
      go_roundw
      case rel => exact ⟨k + 1, q2 + 1, _, by omega, by go_num, by go_num, HQ3.out, HX3.out, HO3.out, HP3.out⟩
      case measure => simp [intOf]; omega
    · obtain rfl : k = n := by omega
      have HO := Lib.hid ho
      have HP := Lib.hid hp
      clear ho hp
      go_wp2
      go_ret
      exact ⟨by first | (rw [← HQ.out]; rfl) | (rw [show ((s : Int) + (totP ps k : Int)) = ((q : Nat) : Int) by rw [HQ.out]; simp]; rfl), ⟨_, HO.out⟩, HP.out⟩
set_option maxHeartbeats 1000000 in
set_option maxRecDepth 100000 in
theorem held_prt (A : Option Addr) (n c s : Nat) (ps : List Prt) (w : World) (h : PrtsAt w w.heap.size A n (mixP s ps n)) (hn : n = ps.length) (hz : SmallP ps) (hs : s ≤ 2199023255552) :
    Calls Tryz.prog 50 #[.slice A n c, .int .i64 s] w fun e w' => e = .returned (.int .i64 ((s + totP ps n : Nat) : Int)) ∧ Below w.heap.size w w' := by
  have hz1 := hz.1
  have hn' := hn.symm
  clear hn
  go_enter Tryz.func50, Tryz.ntmps50
  go_wp2
  go_loopw [1, 5] (fun x i wr => ∃ k q : Nat, k ≤ n ∧ i = .int .i64 k ∧ x = .int .i64 (q : Int) ∧ q = s + totP ps k ∧ Below w.heap.size w wr) (fun _ i _ => n - (intOf i).toNat)
  case atStart => exact ⟨0, s, Nat.zero_le _, rfl, rfl, by rw [totP_zero]; rfl, Below.refl _ _⟩
  case round =>
    obtain ⟨k, q, hk, rfl, rfl, hq, hbl⟩ := hrel
    have HQ := Lib.hid hq
    clear hq
    by_cases hlt : k < n
    · obtain ⟨ad, A', m, c', rfl, hab, hpa, hi, hmc, hnil⟩ := h.at hlt
      have hmk := mixP_at s ps n (j := k) (by omega)
      rw [if_pos hlt] at hmk
      obtain ⟨zs, hzs⟩ : ∃ zs, (prAt ps k).stage = zs := ⟨_, rfl⟩
      rw [hmk] at hi hpa
      unfold mkP at hi hpa
      simp only [hzs, ← HQ.out] at hi hpa
      have hml := hi.1
      rw [marks_length] at hml
      subst hml
      have hlen := hz.2 k (by omega)
      rw [hzs] at hlen
      have htt := totP_top hz (k := k) (by omega)
      have hts := totP_succ (ps := ps) (k := k) (by omega)
      rw [hzs] at hts
      have HZS := Lib.hid hzs
      have hqb : q ≤ 4398046511104 := by have := HQ.out; omega
      have HQ2 : Hid (q + zs.length + 1 = s + totP ps (k + 1)) := Lib.hid (by have := HQ.out; omega)
      clear hts htt hzs
      obtain ⟨q0, q1⟩ := hpa.below hbl (by omega)
      have hiw := hi.keep (w' := wr) (fun p hp => hbl.cell (by omega))
      have HB := Lib.hid hbl
      have habw := Nat.lt_of_lt_of_le hab hbl.size
      clear hi hbl hmk hpa
      go_wp2_with fail
      refine (held_i64 A' _ c' w.heap.size q wr hiw (by omega) (by omega)).mono ?_
      rintro e w3 ⟨rfl, hb3⟩
      have HB3 := Lib.hid (HB.out.trans (hb3.mono HB.out.size))
      have HQ3 := Lib.hid HQ2.out
      have r0 := (hb3.cell habw).trans q0
      have r1 := (hb3.cell (p := ⟨(ad.add (k * 2)).block, (ad.add (k * 2)).off + 1, none⟩) habw).trans q1
      have hq2b : q + zs.length ≤ 8796093022208 := by omega
      have e1 : ((((q + zs.length : Nat)) : Int) != ((q + zs.length : Nat) : Int)) = false := by simp
      have e3 : ((((q + zs.length : Nat)) : Int) == ((q + zs.length : Nat) : Int)) = true := by simp
      generalize q + zs.length = q2 at *
      clear hb3 hiw q0 q1
      go_wp2
      go_roundw
      case rel => exact ⟨k + 1, q2 + 1, by omega, by go_num, by go_num, HQ3.out, HB3.out⟩
      case measure => simp [intOf]; omega
    · obtain rfl : k = n := by omega
      go_wp2
      go_ret
      exact ⟨by first | (rw [← HQ.out]; rfl) | (rw [show ((s : Int) + (totP ps k : Int)) = ((q : Nat) : Int) by rw [HQ.out]; simp]; rfl), hbl⟩
end Go.Proofs.YtgpffbnmdfichaaGreatDoor

/- WaitingAt as its exact law meets it. -/
namespace Go.Proofs.YtgpffbnmdfichaaGreatDoor
open Go.RowKit
set_option linter.unusedVariables false

theorem sp_WaitingAt (A0 : Option Addr) (n0 c0 : Nat) (zs0 : List Pth) (A1 : Option Addr) (n1 c1 : Nat) (zs1 : List Prt) (A2 : Option Addr) (n2 c2 : Nat) (zs2 : List Cal) (a3 : Int) (w : World) (h0 : SlP w A0 n0 c0 zs0) (hs0 : n0 ≤ 1048576) (h1 : SlQ w A1 n1 c1 zs1) (hs1 : SmallP zs1) (h2 : SlCal w A2 n2 c2 zs2) (hs2 : n2 ≤ 1048576) (wa3 : (Lit.int .i64 a3).wf = true) (r : List Int) (hr : wtaR zs0 zs1 zs2 a3 = r) :
    Calls Tryz.prog 27 #[.slice A0 n0 c0, .slice A1 n1 c1, .slice A2 n2 c2, .int .i64 a3] w fun e w' => ∃ v, e = .returned v ∧ Own .i64 3 w' w.heap.size v r ∧ Below w.heap.size w w' ∧ r.length ≤ 1048576 := by
  subst hr
  have hq1 := h1.prts.1
  have hz1 := hs1.1
  have hq2 := h2.pths.1
  refine (spec_WaitingAt A0 n0 c0 _ zs0 A1 n1 c1 _ zs1 A2 n2 c2 _ zs2 a3 w h0.pths (Nat.le_refl _) (by omega) h1.prts (Nat.le_refl _) (by omega) (hs1.at _ _ hq1.symm (Nat.le_refl _)) h2.pths (Nat.le_refl _) (by omega)).mono fun e w' ⟨v, h1, h2, h3⟩ => ⟨v, h1, h2, h3, ?_⟩
  have := wtaR_len zs0 zs1 zs2 a3
  omega
theorem im_WaitingAt (A0 : Option Addr) (n0 c0 : Nat) (zs0 : List Pth) (A1 : Option Addr) (n1 c1 : Nat) (zs1 : List Prt) (A2 : Option Addr) (n2 c2 : Nat) (zs2 : List Cal) (a3 : Int) (w : World) (h0 : SlP w A0 n0 c0 zs0) (hs0 : n0 ≤ 1048576) (h1 : SlQ w A1 n1 c1 zs1) (hs1 : SmallP zs1) (h2 : SlCal w A2 n2 c2 zs2) (hs2 : n2 ≤ 1048576) (wa3 : (Lit.int .i64 a3).wf = true) (hv0 : Brus w) (hv1 : Clrs w) (r : List Int) (hr : wtaR zs0 zs1 zs2 a3 = r) :
    Calls Tryz.prog 29 #[.slice A0 n0 c0, .slice A1 n1 c1, .slice A2 n2 c2, .int .i64 a3] w fun e w' => ∃ v, e = .returned v ∧ Own .i64 3 w' w.heap.size v r ∧ Below w.heap.size w w' ∧ r.length ≤ 1048576 := by
  subst hr
  have hq1 := h1.prts.1
  have hz1 := hs1.1
  have hq2 := h2.pths.1
  refine (impl_WaitingAt ⟨h0.pths, Nat.le_refl _, h0.cap, by omega, h1.prts, Nat.le_refl _, by omega, hs1.at _ _ hq1.symm (Nat.le_refl _), hv0, hv1⟩ A2 n2 c2 _ zs2 a3 h2.pths (Nat.le_refl _) (by omega)).mono fun e w' ⟨v, h1, h2, h3⟩ => ⟨v, h1, h2, h3, ?_⟩
  have := wtaR_len zs0 zs1 zs2 a3
  omega
end Go.Proofs.YtgpffbnmdfichaaGreatDoor

/- Rows of bools; the laws' helpers for these. -/
namespace Go.Proofs.YtgpffbnmdfichaaGreatDoor
open Go.RowKit
set_option linter.unusedVariables false

def bAt (bs : List Bool) (j : Nat) : Bool := bs.getD j false
theorem bAt_get {bs : List Bool} {j : Nat} (h : j < bs.length) : bs[j]? = some (bAt bs j) := by
  rw [List.getElem?_eq_getElem h]
  simp [bAt, List.getD, List.getElem?_eq_getElem h]
/-- A slice value that holds these bools, in a block below B. -/
def BlsAt (w : World) (B : Nat) (A : Option Addr) (n : Nat) (bs : List Bool) : Prop :=
  bs.length = n ∧ (0 < n → ∃ ad, A = some ad ∧ ad.block < B ∧ ∀ j, j < n → w.cell? (ad.add j) = some (.bool (bAt bs j)))
theorem BlsAt.keep {w w' : World} {B : Nat} {A : Option Addr} {n : Nat} {bs : List Bool} (h : BlsAt w B A n bs) (hb : Below B w w') : BlsAt w' B A n bs :=
  ⟨h.1, fun h0 => by
    obtain ⟨ad, e, hB, hc⟩ := h.2 h0
    exact ⟨ad, e, hB, fun j hj => (hb.cell (by rw [add_block]; exact hB)).trans (hc j hj)⟩⟩
theorem BlsAt.up {w : World} {B B' : Nat} {A : Option Addr} {n : Nat} {bs : List Bool} (h : BlsAt w B A n bs) (hB : B ≤ B') : BlsAt w B' A n bs :=
  ⟨h.1, fun h0 => by
    obtain ⟨ad, e, hb, hc⟩ := h.2 h0
    exact ⟨ad, e, by omega, hc⟩⟩
theorem set_prefixB {zs ys : List Bool} {j : Nat} {x : Bool} (h : j < zs.length) (hx : ys[j]? = some x) : (ys.take j ++ zs.drop j).set j x = ys.take (j + 1) ++ zs.drop (j + 1) := by
  have hj := (List.getElem?_eq_some_iff.1 hx).1
  have hl : (ys.take j).length = j := by rw [List.length_take]; omega
  rw [List.set_append_right _ _ (by omega), hl, Nat.sub_self, List.drop_eq_getElem_cons h, List.set_cons_zero, List.take_add_one, hx]
  simp
theorem made_bls (n : Nat) : (madeCells (Value.bool false).cells (n * 1)).toList = (List.replicate n false).map Value.bool := by
  simp only [madeCells, Value.cells]
  apply List.ext_getElem?
  intro i
  simp only [Array.toList_map, List.getElem?_map, Nat.mul_one]
  by_cases h : i < n
  · simp [h, Nat.mod_one]
  · simp [h]
/-- a row of bools of the call's own. -/
def OwnB (E : TypeId) (w : World) (lo : Nat) (v : Value) (bs : List Bool) : Prop := w.ownsRow lo E 1 v bs.length (bs.map Value.bool)
theorem OwnB.bls {E : TypeId} {w : World} {lo : Nat} {A : Option Addr} {n c : Nat} {bs : List Bool} (h : OwnB E w lo (.slice A n c) bs) : BlsAt w w.heap.size A n bs := by
  have hn := ownr_len h
  subst hn
  refine ⟨rfl, fun h0 => ?_⟩
  obtain ⟨ad, e, hb, hc⟩ := (ownr_cells h).2 (by omega)
  refine ⟨ad, e, hb, fun j hj => hc j _ ?_⟩
  rw [List.getElem?_map, bAt_get hj]
  rfl
theorem OwnB.below {E : TypeId} {w w' : World} {lo : Nat} {v : Value} {bs : List Bool} (h : OwnB E w lo v bs) (hb : Below w.heap.size w w') : OwnB E w' lo v bs := ownr_below h hb
theorem OwnB.mono {E : TypeId} {w : World} {lo lo' : Nat} {v : Value} {bs : List Bool} (h : OwnB E w lo v bs) (hl : lo' ≤ lo) : OwnB E w lo' v bs := ownr_mono h hl
theorem OwnB.sliced {E : TypeId} {w : World} {lo : Nat} {v : Value} {bs : List Bool} (h : OwnB E w lo v bs) : ∃ A c, v = .slice A bs.length c := ownr_sliced h
/-- the same between two block numbers. -/
structure OwB (E : TypeId) (w : World) (lo hi : Nat) (v : Value) (bs : List Bool) : Prop where
  own : OwnB E w lo v bs
  lt : ∀ g, v.ownBlock = some g → g < hi
  top : hi ≤ w.heap.size
theorem OwB.new {E : TypeId} {w : World} {lo : Nat} {v : Value} {bs : List Bool} (h : OwnB E w lo v bs) : OwB E w lo w.heap.size v bs := ⟨h, fun g e => (ownr_block h g e).2, Nat.le_refl _⟩
theorem OwB.below {E : TypeId} {w w' : World} {lo hi : Nat} {v : Value} {bs : List Bool} (h : OwB E w lo hi v bs) (hb : Below w.heap.size w w') : OwB E w' lo hi v bs := ⟨h.own.below hb, h.lt, Nat.le_trans h.top hb.size⟩
theorem OwB.ints {E : TypeId} {w : World} {lo hi : Nat} {A : Option Addr} {n c : Nat} {bs : List Bool} (h : OwB E w lo hi (.slice A n c) bs) : BlsAt w w.heap.size A n bs := h.own.bls
theorem OwB.part {E : TypeId} {w w' : World} {lo hi l h' : Nat} {v : Value} {bs : List Bool} (h : OwB E w lo hi v bs) (hp : Part l h' w w') (hd : hi ≤ l ∨ h' ≤ lo) : OwB E w' lo hi v bs := by
  refine ⟨⟨h.own.1, ?_⟩, h.lt, Nat.le_trans h.top hp.size⟩
  rcases h.own.2 with h2 | ⟨g, cap, cur, rfl, hl, hg, r⟩
  · exact .inl h2
  · have hlt := h.lt g rfl
    have htop := h.top
    exact .inr ⟨g, cap, cur, rfl, hl, (hp.block g (by omega) (by omega)).trans hg, r⟩
/-- a slice of bools that a call is given. -/
structure SlB (w : World) (A : Option Addr) (n c : Nat) (bs : List Bool) : Prop where
  bls : BlsAt w w.heap.size A n bs
  bare : A = none → n = 0 ∧ c = 0
  cap : n ≤ c ∧ c ≤ maxLen
theorem OwB.sl {E : TypeId} {w : World} {lo hi : Nat} {A : Option Addr} {n c : Nat} {bs : List Bool} (h : OwB E w lo hi (.slice A n c) bs) : SlB w A n c bs := ⟨h.ints, ownr_nilcap h.own, ownr_cap h.own⟩
theorem SlB.below {w w' : World} {A : Option Addr} {n c : Nat} {bs : List Bool} (h : SlB w A n c bs) (hb : Below w.heap.size w w') : SlB w' A n c bs := ⟨(h.bls.keep hb).up hb.size, h.bare, h.cap⟩
/-- the laws' marks of bools. -/
def marksB (s : Nat) (n : Nat) : List Bool := (List.range n).map fun j => decide ((s + j) % 3 = 0)
theorem marksB_length (s n : Nat) : (marksB s n).length = n := by simp [marksB]
theorem marksB_get {s n j : Nat} (h : j < n) : (marksB s n)[j]? = some (decide ((s + j) % 3 = 0)) := by simp [marksB, h]
theorem tmod_three (m : Nat) : (((m : Nat) : Int).tmod 3 == 0) = decide (m % 3 = 0) := by
  have e : ((m : Nat) : Int).tmod 3 = ((m % 3 : Nat) : Int) := by rw [Int.tmod_eq_emod_of_nonneg (by omega)]; omega
  rw [e]
  by_cases h : m % 3 = 0
  · simp [h]
  · rw [decide_eq_false h]
    rw [beq_eq_false_iff_ne]
    omega
end Go.Proofs.YtgpffbnmdfichaaGreatDoor

/- OpenIn: the model and the program. -/
namespace Go.Proofs.YtgpffbnmdfichaaGreatDoor
open Go.RowKit
set_option linter.unusedVariables false

/-- what OpenIn answers. -/
def opnAt (r : List Int) (f i : Nat) : Bool := decide (r.getD ((f + i) % r.length) 0 = 1)
def openP (ps : List Pth) (p : List Prt) (id f s : Int) : List Bool :=
  if isPlan ps p && (findK id ps).isSome && inB f 0 100000 && inB s 0 1000 then (List.range s.toNat).map (opnAt (rowP ps p id) f.toNat) else []
theorem openP_len (ps : List Pth) (p : List Prt) (id f s : Int) : (openP ps p id f s).length ≤ 1000 := by
  unfold openP
  split
  · rename_i h
    rw [Bool.and_eq_true] at h
    have := inB_t h.2
    simp only [List.length_map, List.length_range]
    omega
  · simp
theorem openP_off {ps : List Pth} {p : List Prt} {id f s : Int} (h : (isPlan ps p && (findK id ps).isSome && inB f 0 100000 && inB s 0 1000) = false) : openP ps p id f s = [] := by unfold openP; rw [h]; rfl
theorem openP_on {ps : List Pth} {p : List Prt} {id : Int} {f s : Nat} (h : (isPlan ps p && (findK id ps).isSome) = true) (h2 : inB (f : Int) 0 100000 = true) (h3 : inB (s : Int) 0 1000 = true) : openP ps p id f s = (List.range s).map (opnAt (rowP ps p id) f) := by
  unfold openP
  rw [h, h2, h3]
  rfl
/-- the first k of n answers, and false. -/
def litB (f : Nat → Bool) (n k : Nat) : List Bool := (List.range n).map fun j => if j < k then f j else false
theorem litB_len (f : Nat → Bool) (n k : Nat) : (litB f n k).length = n := by simp [litB]
theorem litB_zero (f : Nat → Bool) (n : Nat) : litB f n 0 = List.replicate n false := by
  unfold litB
  apply List.ext_getElem
  · simp
  · intro k h1 h2
    simp
theorem litB_full (f : Nat → Bool) (n : Nat) : litB f n n = (List.range n).map f := by
  unfold litB
  apply List.ext_getElem
  · simp
  · intro k h1 h2
    have hk : k < n := by simpa using h1
    simp [hk]
theorem litB_set (f : Nat → Bool) {n k : Nat} (hk : k < n) : (litB f n k).set k (f k) = litB f n (k + 1) := by
  unfold litB
  apply List.ext_getElem
  · simp
  · intro j h1 h2
    rw [List.getElem_set]
    by_cases e : k = j
    · subst e
      simp
    · rw [if_neg e]
      simp only [List.getElem_map, List.getElem_range]
      by_cases h3 : j < k
      · rw [if_pos h3, if_pos (by omega)]
      · rw [if_neg h3, if_neg (by omega)]
theorem info_boolR : (Tryz.prog.info? 4).map (fun i => (i.zero, i.size, i.bytes)) = some (some (.bool false), 1, 1) := by kernel_rfl
set_option maxHeartbeats 4000000 in
set_option maxRecDepth 100000 in
theorem impl_OpenIn {w : World} {A : Option Addr} {n c B : Nat} {ps : List Pth} {A2 : Option Addr} {n2 c2 B2 : Nat} {p : List Prt} (I : PlnIn w A n c B ps A2 n2 c2 B2 p) (id f s : Int) :
    Calls Tryz.prog 66 #[.slice A n c, .slice A2 n2 c2, .int .i64 id, .int .i64 f, .int .i64 s] w fun e w' => ∃ v, e = .returned v ∧ OwnB 4 w' w.heap.size v (openP ps p id f s) ∧ Below w.heap.size w w' := by
  have HC := Lib.hid (impl_rowFor I id)
  have hlen := rowP_len (ps := ps) (p := p) id
  have HOF := Lib.hid (fun hh => openP_off (ps := ps) (p := p) (id := id) (f := f) (s := s) hh)
  have hE : ∀ u : World, OwnB 4 (u.alloc (.cells #[] 4)) u.heap.size (.slice (some ⟨u.heap.size, 0, none⟩) 0 0) [] := fun u => own_row0 u _ _
  have HE := Lib.hid hE
  clear hE I
  cases hb : (isPlan ps p && (findK id ps).isSome)
  · have HR := Lib.hid (HOF.out (by rw [hb]; rfl))
    rw [hb] at HC
    clear hb
    go_enter Tryz.func66, Tryz.ntmps66
    go_wp2_with fail
    refine HC.out.mono ?_
    rintro e w1 ⟨v, rfl, -, hb⟩
    have HB := Lib.hid hb
    have HO := Lib.hid ((HE.out w1).mono hb.size)
    clear hb
    go_wp2
    go_ret
    exact ⟨_, rfl, by rw [HR.out]; exact HO.out, HB.out.alloc HB.out.size _⟩
  · obtain ⟨hrl, hr0⟩ := rowP_pos hb
    have HB0 := Lib.hid hb
    rw [hb] at HC
    clear hb hrl
    cases hf : inB f 0 100000
    · have HR := Lib.hid (HOF.out (by rw [HB0.out, hf]; rfl))
      have HF := Lib.hid hf
      clear hf
      go_enter Tryz.func66, Tryz.ntmps66
      go_wp2_with fail
      refine HC.out.mono ?_
      rintro e w1 ⟨v, rfl, -, hb⟩
      have HB := Lib.hid hb
      have HO := Lib.hid ((HE.out w1).mono hb.size)
      clear hb
      go_wp2_with fail
      refine (impl_InRange _ _ _ _).mono ?_
      rw [HF.out]
      rintro e w2 ⟨rfl, rfl⟩
      go_wp2
      go_ret
      exact ⟨_, rfl, by rw [HR.out]; exact HO.out, HB.out.alloc HB.out.size _⟩
    · have hfb := inB_t hf
      obtain ⟨f, rfl⟩ : ∃ g : Nat, f = (g : Int) := ⟨f.toNat, by omega⟩
      cases hs : inB s 0 1000
      · have HR := Lib.hid (HOF.out (by rw [hs, Bool.and_false]))
        have HF := Lib.hid hf
        have HS := Lib.hid hs
        clear hf hs
        go_enter Tryz.func66, Tryz.ntmps66
        go_wp2_with fail
        refine HC.out.mono ?_
        rintro e w1 ⟨v, rfl, -, hb⟩
        have HB := Lib.hid hb
        have HO := Lib.hid ((HE.out w1).mono hb.size)
        clear hb
        go_wp2_with fail
        refine (impl_InRange _ _ _ _).mono ?_
        rw [HF.out]
        rintro e w2 ⟨rfl, rfl⟩
        go_wp2_with fail
        refine (impl_InRange _ _ _ _).mono ?_
        rw [HS.out]
        rintro e w2 ⟨rfl, rfl⟩
        go_wp2
        go_ret
        exact ⟨_, rfl, by rw [HR.out]; exact HO.out, HB.out.alloc HB.out.size _⟩
      · have hsb := inB_t hs
        obtain ⟨s, rfl⟩ : ∃ g : Nat, s = (g : Int) := ⟨s.toNat, by omega⟩
        have HR := Lib.hid (openP_on HB0.out hf hs)
        have HF := Lib.hid hf
        have HS := Lib.hid hs
        clear hf hs
        generalize rowP ps p id = zs at *
        go_enter Tryz.func66, Tryz.ntmps66
        go_wp2_with fail
        refine HC.out.mono ?_
        rintro e w1 ⟨v, rfl, hv, hb⟩
        obtain ⟨Av, cv, rfl⟩ := ownr_sliced hv
        have HIV := Lib.hid (Own.ints (k := .i64) (E := 3) hv)
        have HB := Lib.hid hb
        clear hv hb
        go_wp2_with fail
        refine (impl_InRange _ _ _ _).mono ?_
        rw [HF.out]
        rintro e w2 ⟨rfl, rfl⟩
        go_wp2_with fail
        refine (impl_InRange _ _ _ _).mono ?_
        rw [HS.out]
        rintro e w2 ⟨rfl, rfl⟩
        go_wp2_with ((with_reducible show wpList _ _ _ _ _ _); refine wpList_mkR rfl _ _ _ rfl 4 _ 1 _ Tryz.underlying86 info_boolR (by decide) (s : Int) (s : Int) s rfl rfl rfl rfl (by omega) ?_; intro w2 hown hgrow)
        rw [made_bls] at hown
        have HB2 := Lib.hid (below_grown hgrow)
        have HO2 : Hid (OwnB 4 w2 w1.heap.size (.slice (some ⟨w1.heap.size, 0, none⟩) s s) (litB (opnAt zs f) s 0)) := Lib.hid (by
          unfold OwnB
          rw [litB_zero, List.length_replicate]
          exact hown)
        clear hown hgrow
        go_loopw [39] (fun i wr => ∃ k : Nat, k ≤ s ∧ i = .int .i64 k ∧ OwnB 4 wr w1.heap.size (.slice (some ⟨w1.heap.size, 0, none⟩) s s) (litB (opnAt zs f) s k) ∧ Below w1.heap.size w1 wr) (fun i _ => s - (intOf i).toNat)
        case atStart => exact ⟨0, Nat.zero_le _, rfl, HO2.out, HB2.out⟩
        case round =>
          clear HO2 HB2
          obtain ⟨k, hk, rfl, hown, hbl⟩ := hrel
          have HOW := Lib.hid hown
          have HBL := Lib.hid hbl
          have hsz := hbl.size
          clear hown hbl
          by_cases hlt : k < s
          · have HRA := Lib.hid (impl_rowAt Av _ cv _ zs (f + k) wr (HIV.out.laid (Nat.le_refl _) HBL.out) hr0 (by omega) (by omega))
            have e8 : IntKind.i64.wrap ((f : Int) + (k : Int)) = ((f + k : Nat) : Int) := by rw [IntKind.wrap_i64]; omega
            have HST := Lib.hid (litB_set (opnAt zs f) hlt)
            have HOP : Hid (opnAt zs f k = decide (zs.getD ((f + k) % zs.length) 0 = 1)) := Lib.hid rfl
            have hO4' : wr.ownsRow w1.heap.size 4 1 (.slice (some ⟨w1.heap.size, 0, none⟩) s s) s ((litB (opnAt zs f) s k).map Value.bool) := by
              have := HOW.out
              unfold OwnB at this
              rwa [litB_len] at this
            have hf := World.ownsRow.frozenAt hO4' k
            obtain ⟨x0, hx0⟩ := ownr_some hO4' (j := k) (by omega)
            have i1 : (0 : Int) ≤ (k : Int) := by omega
            have i2 : (k : Int) < (s : Int) := by omega
            have HO5 : Hid (∀ b, opnAt zs f k = b → OwnB 4 (wr.setCell ⟨w1.heap.size, k, none⟩ (.bool b)) w1.heap.size (.slice (some ⟨w1.heap.size, 0, none⟩) s s) (litB (opnAt zs f) s (k + 1))) := Lib.hid (fun b hb => by
              unfold OwnB
              rw [← HST.out, List.map_set, List.length_set, litB_len, hb]
              exact (World.ownsRow.stored hO4' k (.bool b)).1)
            have HB5 := Lib.hid (fun b => HBL.out.setCell (p := ⟨w1.heap.size, k, none⟩) (Nat.le_refl _) (.bool b))
            clear hO4'
            by_cases h1 : zs.getD ((f + k) % zs.length) 0 = 1
            · have e0 : (zs.getD ((f + k) % zs.length) 0 == 1) = true := by rw [h1]; rfl
              have HOK := Lib.hid (HO5.out true (by rw [HOP.out, h1]; rfl))
              clear h1
              generalize zs.getD ((f + k) % zs.length) 0 = z at *
              go_wp2_with fail
              refine HRA.out.mono ?_
              rintro e w3 ⟨rfl, rfl⟩
              go_wp2
              go_roundw
              case rel => exact ⟨k + 1, by omega, by go_num, HOK.out, HB5.out _⟩
              case measure => simp [intOf]; omega
            · have e0 : (zs.getD ((f + k) % zs.length) 0 == 1) = false := by generalize zs.getD ((f + k) % zs.length) 0 = z at h1; simpa using h1
              have HOK := Lib.hid (HO5.out false (by rw [HOP.out]; exact decide_eq_false h1))
              clear h1
              generalize zs.getD ((f + k) % zs.length) 0 = z at *
              go_wp2_with fail
              refine HRA.out.mono ?_
              rintro e w3 ⟨rfl, rfl⟩
              go_wp2
              go_roundw
              case rel => exact ⟨k + 1, by omega, by go_num, HOK.out, HB5.out _⟩
              case measure => simp [intOf]; omega
          · obtain rfl : k = s := by omega
            have HO4 := Lib.hid (HOW.out.mono HB.out.size)
            go_wp2
            go_ret
            exact ⟨_, rfl, by rw [HR.out, ← litB_full]; exact HO4.out, HB.out.trans (HBL.out.mono HB.out.size)⟩
theorem info_boolS : (Tryz.prog.info? 4).map (fun i => (i.zero, i.size, i.bytes)) = some (some (.bool false), 1, 1) := by kernel_rfl
theorem opn_push (r : List Int) (f k : Nat) : (List.range (k + 1)).map (opnAt r f) = (List.range k).map (opnAt r f) ++ [opnAt r f k] := by simp [List.range_succ]
set_option maxHeartbeats 4000000 in
set_option maxRecDepth 100000 in
theorem spec_OpenIn (A : Option Addr) (n c B : Nat) (ps : List Pth) (A2 : Option Addr) (n2 c2 B2 : Nat) (p : List Prt) (id f s : Int) (w : World) (h : PthsAt w B A n ps) (hB : B ≤ w.heap.size) (hn : n ≤ 4294967296) (h2 : PrtsAt w B2 A2 n2 p) (hB2 : B2 ≤ w.heap.size) (hn2 : n2 ≤ 1048576) (hm : ∀ j, j < n2 → (prAt p j).stage.length ≤ 1048576) :
    Calls Tryz.prog 60 #[.slice A n c, .slice A2 n2 c2, .int .i64 id, .int .i64 f, .int .i64 s] w fun e w' => ∃ v, e = .returned v ∧ OwnB 4 w' w.heap.size v (openP ps p id f s) ∧ Below w.heap.size w w' := by
  have hE : OwnB 4 (w.alloc (.cells #[] 4)) w.heap.size (.slice (some ⟨w.heap.size, 0, none⟩) 0 0) [] := own_row0 w _ _
  have hb0 : Below w.heap.size w (w.alloc (.cells #[] 4)) := (Below.refl _ _).alloc (Nat.le_refl _) _
  have HC := Lib.hid (spec_l9Row A n c B ps A2 n2 c2 B2 p id _ (h.below (hb0.mono hB)) (Nat.le_trans hB hb0.size) hn (h2.below hB2 hb0) (Nat.le_trans hB2 hb0.size) hn2 hm)
  have HO0 := Lib.hid hE
  have HB0 := Lib.hid hb0
  have hlen := rowP_len (ps := ps) (p := p) id
  have HOF := Lib.hid (fun hh => openP_off (ps := ps) (p := p) (id := id) (f := f) (s := s) hh)
  clear h h2 hm hB hB2 hn hn2 hE hb0
  cases hb : (isPlan ps p && (findK id ps).isSome)
  · have HR := Lib.hid (HOF.out (by rw [hb]; rfl))
    have hz := rowP_offM hb
    rw [hz] at HC
    clear hb hz hlen
    go_enter Tryz.func60, Tryz.ntmps60
    go_wp2_with fail
    refine HC.out.mono ?_
    rintro e w1 ⟨v, rfl, hv, hb⟩
    obtain ⟨Av, cv, rfl⟩ := hv.sliced
    have HB := Lib.hid (HB0.out.trans (hb.mono HB0.out.size))
    have HO := Lib.hid (HO0.out.below hb)
    clear hb hv
    simp only [List.length_nil]
    go_wp2
    go_ret
    exact ⟨_, rfl, by rw [HR.out]; exact HO.out, HB.out⟩
  · obtain ⟨hrl, hr0⟩ := rowP_pos hb
    have HPB := Lib.hid hb
    have HF0 : Hid (inB f 0 100000 = false → openP ps p id f s = []) := Lib.hid (fun hh => HOF.out (by rw [hh, Bool.and_false, Bool.false_and]))
    have HS0 : Hid (inB s 0 1000 = false → openP ps p id f s = []) := Lib.hid (fun hh => HOF.out (by rw [hh, Bool.and_false]))
    have HON := Lib.hid (fun (f s : Nat) h2 h3 => openP_on (f := f) (s := s) hb h2 h3)
    clear hb hrl HOF
    generalize rowP ps p id = zs at *
    have hr1 : ((zs.length : Int) == 0) = false := by
      have : ¬ (zs.length = 0) := by omega
      simpa using this
    go_enter Tryz.func60, Tryz.ntmps60
    go_wp2_with fail
    refine HC.out.mono ?_
    rintro e w1 ⟨v, rfl, hv, hb⟩
    obtain ⟨Av, cv, rfl⟩ := hv.sliced
    have HB := Lib.hid (HB0.out.trans (hb.mono HB0.out.size))
    have HO := Lib.hid (HO0.out.below hb)
    have hrv := hv.mono (lo' := w.heap.size) (by simp)
    unfold Own at hrv
    clear hb hv
    obtain ⟨m, hm⟩ : ∃ m, m = zs.length := ⟨_, rfl⟩
    have HM := Lib.hid hm
    rw [← hm] at hr0 hr1 hlen hrv ⊢
    have HRV := Lib.hid hrv
    clear hm hrv
    cases hf : inB f 0 100000
    · have HR := Lib.hid (HF0.out hf)
      have HF := Lib.hid hf
      clear hf
      go_wp2_with fail
      refine (spec_l1In _ _ _ _).mono ?_
      rw [HF.out]
      rintro e w2 ⟨rfl, rfl⟩
      go_wp2
      go_ret
      exact ⟨_, rfl, by rw [HR.out]; exact HO.out, HB.out⟩
    · have hfb := inB_t hf
      have HF := Lib.hid hf
      clear hf
      cases hs : inB s 0 1000
      · have HR := Lib.hid (HS0.out hs)
        have HS := Lib.hid hs
        clear hs
        go_wp2_with fail
        refine (spec_l1In _ _ _ _).mono ?_
        rw [HF.out]
        rintro e w2 ⟨rfl, rfl⟩
        go_wp2_with fail
        refine (spec_l1In _ _ _ _).mono ?_
        rw [HS.out]
        rintro e w2 ⟨rfl, rfl⟩
        go_wp2
        go_ret
        exact ⟨_, rfl, by rw [HR.out]; exact HO.out, HB.out⟩
      · have hsb := inB_t hs
        have HS := Lib.hid hs
        clear hs
        go_wp2_with fail
        refine (spec_l1In _ _ _ _).mono ?_
        rw [HF.out]
        rintro e w2 ⟨rfl, rfl⟩
        go_wp2_with fail
        refine (spec_l1In _ _ _ _).mono ?_
        rw [HS.out]
        rintro e w2 ⟨rfl, rfl⟩
        obtain ⟨s, rfl⟩ : ∃ g : Nat, s = (g : Int) := ⟨s.toNat, by omega⟩
        obtain ⟨f, rfl⟩ : ∃ g : Nat, f = (g : Int) := ⟨f.toNat, by omega⟩
        have HR := Lib.hid (HON.out f s HF.out HS.out)
        go_wp2
        go_loopw [11, 13] (fun v i wr => ∃ k : Nat, k ≤ s ∧ i = .int .i64 k ∧ OwnB 4 wr w.heap.size v ((List.range k).map (opnAt zs f)) ∧ wr.ownsRow w.heap.size 3 1 (.slice Av m cv) m (zs.map (Value.int .i64)) ∧ Below w.heap.size w wr) (fun _ i _ => s - (intOf i).toNat)
        case atStart => exact ⟨0, Nat.zero_le _, rfl, HO.out, HRV.out, HB.out⟩
        case round =>
          obtain ⟨k, hk, rfl, hown, hbl1, hbl⟩ := hrel
          have HOW := Lib.hid hown
          have HB1 := Lib.hid hbl1
          have HBL := Lib.hid hbl
          have hsz := hbl.size
          clear hown hbl1 hbl
          by_cases hlt : k < s
          · have hiv : IntsAt .i64 wr wr.heap.size Av m zs := Own.ints (E := 3) (lo := w.heap.size) (c := cv) (by unfold Own; rw [← HM.out]; exact HB1.out)
            obtain ⟨ad, rfl, hab, hcell⟩ := hiv.2 (by omega)
            have hc := hcell ((f + k) % m) (Nat.mod_lt _ hr0)
            have e8 : IntKind.i64.wrap ((f : Int) + (k : Int)) = (f : Int) + (k : Int) := by rw [IntKind.wrap_i64]; omega
            have em : ((f : Int) + (k : Int)).tmod (m : Int) = (((f + k) % m : Nat) : Int) := by rw [Int.tmod_eq_emod_of_nonneg (by omega), Int.natCast_emod, Int.natCast_add]
            have z1 : ¬ m = 0 := by omega
            have z2 : ¬ (m : Int) = 0 := by omega
            have hltm : (f + k) % m < m := Nat.mod_lt _ hr0
            have HPU := Lib.hid (opn_push zs f k)
            have hop : opnAt zs f k = decide (zs.getD ((f + k) % m) 0 = 1) := by unfold opnAt; rw [← HM.out]
            have hbq : (zs.getD ((f + k) % m) 0 == 1) = opnAt zs f k := by rw [hop]; rfl
            have hrl : ((List.range k).map (opnAt zs f)).length = k := by simp
            have HW := Lib.hid HOW.out
            clear hcell hop hiv
            generalize zs.getD ((f + k) % m) 0 = z at *
            generalize (f + k) % m = y at *
            generalize opnAt zs f k = b at *
            have i1 : (0 : Int) ≤ (y : Int) := by omega
            have i2 : (y : Int) < (m : Int) := by omega
            have hW2 := HW.out
            unfold OwnB at hW2
            rw [hrl] at hW2
            have HWW := Lib.hid hW2
            clear hW2 hrl
            go_wp2_with (at_builtin; refine wpList_appR1 rfl _ _ 86 rfl 4 (.bool false) 1 1 Tryz.underlying86 info_boolS rfl (by decide) (by decide) w.heap.size _ _ _ rfl HWW.out (by omega) [.bool b] rfl (by simp [Value.oneCell']) _ _ wr.heap.size hsz rfl (by simp) ?_; intro v4 w4 hown4 hgrow4 hat4)
            have hB4 := Lib.hid (ownr_push HWW.out (Nat.le_refl w.heap.size) (HBL.out.alloc hsz _) (by simp; omega) hgrow4)
            have hR4 := Lib.hid (ownr_grown (ownr_below HB1.out ((Below.refl wr.heap.size wr).alloc (Nat.le_refl _) _)) hgrow4 (fun q e h' => apart_types HB1.out HWW.out (by decide) q e h'))
            have hO4 : Hid (OwnB 4 w4 w.heap.size v4 ((List.range (k + 1)).map (opnAt zs f))) := Lib.hid (by
              unfold OwnB
              rw [HPU.out]
              simp only [List.length_append, List.length_map, List.length_range, List.length_cons, List.length_nil, List.map_append, List.map_cons, List.map_nil]
              simpa using hown4)
            clear hgrow4 hat4 hown4
            go_roundw
            case rel => exact ⟨k + 1, by omega, by go_num, hO4.out, hR4.out, hB4.out⟩
            case measure => simp [intOf]; omega
          · obtain rfl : k = s := by omega
            go_wp2
            go_ret
            exact ⟨_, rfl, by rw [HR.out]; exact HOW.out, HBL.out⟩
end Go.Proofs.YtgpffbnmdfichaaGreatDoor

/- Chapter 12: a second of a queue, the sum of a queue, and its end: program and model. -/
namespace Go.Proofs.YtgpffbnmdfichaaGreatDoor
open Go.RowKit
set_option linter.unusedVariables false

/-- next to n between 0 and hi. -/
def clampN (n hi : Int) : Int := maxI 0 (minI hi n)
theorem minI_comm (a b : Int) : minI a b = minI b a := by unfold minI; split <;> split <;> omega
theorem clampN_bound (n hi : Int) (h : 0 ≤ hi) : 0 ≤ clampN n hi ∧ clampN n hi ≤ hi := by
  unfold clampN minI maxI
  split <;> split <;> omega
/-- what QueueStep answers. -/
def qstep (a b : Int) (o : Bool) : Int := if inB a 0 10000 && inB b 0 10000 then clampN (a + b - (if o then 1 else 0)) 10000 else 0
theorem qstep_in {a b : Int} {o : Bool} (ha : inB a 0 10000 = true) (hb : inB b 0 10000 = true) : qstep a b o = clampN (a + b - (if o then 1 else 0)) 10000 := by unfold qstep; rw [ha, hb]; rfl
theorem qstep_out {a b : Int} {o : Bool} (h : (inB a 0 10000 && inB b 0 10000) = false) : qstep a b o = 0 := by unfold qstep; rw [h]; rfl
theorem qstep_bound (a b : Int) (o : Bool) : 0 ≤ qstep a b o ∧ qstep a b o ≤ 10000 := by
  unfold qstep
  split
  · exact clampN_bound _ _ (by decide)
  · omega
/-- the sum of the first k, each between 0 and hi. -/
def sumC (hi : Int) (zs : List Int) : Nat → Int
  | 0 => 0
  | k + 1 => sumC hi zs k + clampN (zs.getD k 0) hi
theorem sumC_bound (hi : Int) (h : 0 ≤ hi) (zs : List Int) : ∀ k : Nat, 0 ≤ sumC hi zs k ∧ sumC hi zs k ≤ k * hi
  | 0 => by simp [sumC]
  | k + 1 => by
    obtain ⟨h1, h2⟩ := sumC_bound hi h zs k
    obtain ⟨h3, h4⟩ := clampN_bound (zs.getD k 0) hi h
    have e : (((k + 1 : Nat) : Int)) * hi = k * hi + hi := by rw [Int.natCast_add, Int.add_mul]; simp
    show 0 ≤ sumC hi zs k + _ ∧ sumC hi zs k + _ ≤ _
    omega
/-- what TotalWait answers. -/
def totW (zs : List Int) : Int := sumC 10000 zs zs.length
/-- what IsServed answers. -/
def isSrv (zs : List Int) : Bool := decide (zs.length = 0) || decide (zs.getD (zs.length - 1) 0 = 0)
theorem spec_QueueStep (a b : Int) (o : Bool) (w : World) : Calls Tryz.prog 112 #[.int .i64 a, .int .i64 b, .bool o] w fun e w' => e = .returned (.int .i64 (qstep a b o)) ∧ w = w' := by
  cases h1 : inB a 0 10000
  · have HR : Hid (qstep a b o = 0) := Lib.hid (qstep_out (by rw [h1]; rfl))
    have H1 := Lib.hid h1
    clear h1
    go_enter Tryz.func112, Tryz.ntmps112
    go_wp2_with (go_at_call 101; refine (spec_l1In _ _ _ _).mono ?_; rintro e w' ⟨rfl, rfl⟩; rw [H1.out])
    go_ret
    exact ⟨by rw [HR.out]; rfl, rfl⟩
  · cases h2 : inB b 0 10000
    · have HR : Hid (qstep a b o = 0) := Lib.hid (qstep_out (by rw [h1, h2]; rfl))
      have H1 := Lib.hid h1
      have H2 := Lib.hid h2
      clear h1 h2
      go_enter Tryz.func112, Tryz.ntmps112
      go_wp2_with fail
      refine (spec_l1In _ _ _ _).mono ?_
      rintro e w' ⟨rfl, rfl⟩
      rw [H1.out]
      go_wp2_with fail
      refine (spec_l1In _ _ _ _).mono ?_
      rintro e w' ⟨rfl, rfl⟩
      rw [H2.out]
      go_wp2
      go_ret
      exact ⟨by rw [HR.out]; rfl, rfl⟩
    · obtain ⟨ha1, ha2⟩ := inB_t h1
      obtain ⟨hb1, hb2⟩ := inB_t h2
      have HR : Hid (qstep a b o = clampN (a + b - (if o then 1 else 0)) 10000) := Lib.hid (qstep_in h1 h2)
      have H1 := Lib.hid h1
      have H2 := Lib.hid h2
      clear h1 h2
      cases o
      all_goals
        go_enter Tryz.func112, Tryz.ntmps112
        go_wp2_with fail
        refine (spec_l1In _ _ _ _).mono ?_
        rintro e w' ⟨rfl, rfl⟩
        rw [H1.out]
        go_wp2_with fail
        refine (spec_l1In _ _ _ _).mono ?_
        rintro e w' ⟨rfl, rfl⟩
        rw [H2.out]
        go_wp2_with (first | (go_at_call 91; refine (spec_Min _ _ _).mono ?_; rintro e w' ⟨rfl, rfl⟩) | (go_at_call 111; refine (spec_Max _ _ _).mono ?_; rintro e w' ⟨rfl, rfl⟩))
        go_ret
        refine ⟨ret_i ?_, rfl⟩
        rw [HR.out]
        unfold clampN
        try rw [IntWalk.wrap64_in _ (by omega)]
        simp
theorem impl_limit (n lo hi : Int) (w : World) : Calls Tryz.prog 113 #[.int .i64 n, .int .i64 lo, .int .i64 hi] w fun e w' => e = .returned (.int .i64 (maxI lo (minI n hi))) ∧ Below w.heap.size w w' := by
  go_enter Tryz.func113, Tryz.ntmps113
  go_wp2_with fail
  refine (impl_Min _ _ _).mono ?_
  rintro e w1 ⟨rfl, hb1⟩
  go_wp2_with fail
  refine (impl_Max _ _ _).mono ?_
  rintro e w2 ⟨rfl, hb2⟩
  go_wp2
  go_ret
  exact ⟨rfl, hb1.trans (hb2.mono hb1.size)⟩
theorem limit_clamp (n hi : Int) : maxI 0 (minI n hi) = clampN n hi := by unfold clampN; rw [minI_comm]
theorem impl_isQueue (n : Int) (w : World) : Calls Tryz.prog 152 #[.int .i64 n] w fun e w' => e = .returned (.bool (inB n 0 10000)) ∧ w = w' := by
  go_enter Tryz.func152, Tryz.ntmps152
  go_wp2_with fail
  refine (impl_InRange _ _ _ _).mono ?_
  rintro e w1 ⟨rfl, rfl⟩
  go_wp2
  go_ret
  exact ⟨rfl, rfl⟩
/-- a second of a queue. -/
def stepQ (t a : Int) (o : Bool) : Int := clampN (t + a - (if o then 1 else 0)) 10000
theorem stepQ_still {t : Int} (h : 0 ≤ t ∧ t ≤ 10000) : stepQ t 0 false = t := by
  unfold stepQ clampN minI maxI
  simp only [Bool.false_eq_true, if_false]
  split <;> split <;> omega
theorem stepQ_bound (t a : Int) (o : Bool) : 0 ≤ stepQ t a o ∧ stepQ t a o ≤ 10000 := clampN_bound _ _ (by decide)
theorem eq_moment (a : Int) (o : Bool) (w : World) : (binOp .eql 194 (.agg #[.int .i64 a, .bool o]) (.agg #[.int .i64 0, .bool false])).run Tryz.prog w = .ok (.bool (decide (a = 0) && !o)) w := by
  have hS : Tryz.prog.underlying 194 = some (.struct (Tryz.prog.fieldsOf 194)) := by kernel_rfl
  have hp : Tryz.prog.stoodInHeld 194 = false := by kernel_rfl
  have u3 := Tryz.underlying3
  have u4 := Tryz.underlying4
  have z3 : Tryz.prog.cellsOf 3 = 1 := by kernel_rfl
  have z4 : Tryz.prog.cellsOf 4 = 1 := by kernel_rfl
  rw [run_eql_struct, show (10000 : Nat) = 9999 + 1 from rfl, run_equalIn_agg w 9999 194 _ _ hS hp]
  simp only [Program.fieldsOf, Tryz.underlying194]
  go_simp
  by_cases h1 : a = 0 <;> cases o <;> simp [h1]
theorem impl_after (a t : Int) (o : Bool) (w : World) (ha : inB a 0 10000 = true) (ht : 0 ≤ t ∧ t ≤ 10000) : Calls Tryz.prog 154 #[.agg #[.int .i64 a, .bool o], .int .i64 t] w fun e w' => e = .returned (.int .i64 (stepQ t a o)) ∧ Below w.heap.size w w' := by
  obtain ⟨ha1, ha2⟩ := inB_t ha
  clear ha
  have HEQ := Lib.hid (eq_moment a o)
  have HST := Lib.hid (stepQ_still ht)
  obtain ⟨ht1, ht2⟩ := ht
  have hb0 := (Below.refl w.heap.size w).alloc (Nat.le_refl _) (.cells #[.int .i64 a, .bool o] 194)
  have HB0 := Lib.hid hb0
  clear hb0
  by_cases hz : a = 0 ∧ o = false
  · obtain ⟨rfl, rfl⟩ := hz
    have hq := HEQ.out
    rw [show (decide ((0 : Int) = 0) && !false) = true from rfl] at hq
    go_enter Tryz.func154, Tryz.ntmps154
    go_wp2
    go_ret
    exact ⟨by rw [HST.out]; try rfl, HB0.out⟩
  · have hq := HEQ.out
    have hn : (decide (a = 0) && !o) = false := by
      by_cases h1 : a = 0
      · cases o
        · exact absurd ⟨h1, rfl⟩ hz
        · simp
      · simp [h1]
    rw [hn] at hq
    clear hn hz HEQ HST
    have HSQ : Hid (stepQ t a o = maxI 0 (minI (t + a - (if o then 1 else 0)) 10000)) := Lib.hid (limit_clamp _ _).symm
    cases o
    · go_enter Tryz.func154, Tryz.ntmps154
      go_wp2_with fail
      refine (impl_limit _ _ _ _).mono ?_
      rintro e w2 ⟨rfl, hb2⟩
      go_wp2
      go_ret
      exact ⟨by rw [HSQ.out]; simp; try rfl, HB0.out.trans (hb2.mono HB0.out.size)⟩
    · go_enter Tryz.func154, Tryz.ntmps154
      go_wp2_with fail
      refine (impl_limit _ _ _ _).mono ?_
      rintro e w2 ⟨rfl, hb2⟩
      go_wp2
      go_ret
      exact ⟨by rw [HSQ.out]; rfl, HB0.out.trans (hb2.mono HB0.out.size)⟩
set_option maxHeartbeats 1000000 in
theorem spec_TotalWait (A : Option Addr) (n c B : Nat) (zs : List Int) (w : World) (h : IntsAt .i64 w B A n zs) (hB : B ≤ w.heap.size) (hn : n ≤ 1048576) :
    Calls Tryz.prog 58 #[.slice A n c] w fun e w' => e = .returned (.int .i64 (totW zs)) ∧ Below w.heap.size w w' := by
  have hl := h.1
  go_enter Tryz.func58, Tryz.ntmps58
  go_wp2
  go_loopw [3, 4] (fun x i wr => ∃ (k : Nat) (q : Int), k ≤ n ∧ i = .int .i64 k ∧ x = .int .i64 q ∧ q = sumC 10000 zs k ∧ Below w.heap.size w wr) (fun _ i _ => n - (intOf i).toNat)
  case atStart => exact ⟨0, 0, Nat.zero_le _, rfl, rfl, rfl, Below.refl _ _⟩
  case round =>
    obtain ⟨k, q, hk, rfl, rfl, hq, hbl⟩ := hrel
    by_cases hlt : k < n
    · obtain ⟨ad, rfl, hab, hcell⟩ := h.2 (by omega)
      have hc := (hbl.cell (by rw [add_block]; omega)).trans (hcell k hlt)
      have hqb := sumC_bound 10000 (by decide) zs k
      rw [← hq] at hqb
      obtain ⟨hq1, hq2⟩ := hqb
      have HS : Hid (sumC 10000 zs (k + 1) = q + maxI 0 (minI 10000 (zs.getD k 0))) := Lib.hid (by rw [hq]; rfl)
      have hcb := clampN_bound (zs.getD k 0) 10000 (by decide)
      unfold clampN at hcb
      clear hcell hq
      generalize zs.getD k 0 = z at *
      generalize hy : maxI 0 (minI 10000 z) = y at *
      obtain ⟨hy1, hy2⟩ := hcb
      have HY := Lib.hid hy
      clear hy
      go_wp2_with fail
      refine (spec_Min _ _ _).mono ?_
      rintro e w1 ⟨rfl, rfl⟩
      go_wp2_with fail
      refine (spec_Max _ _ _).mono ?_
      rw [HY.out]
      rintro e w1 ⟨rfl, rfl⟩
      go_wp2
      go_roundw
      case rel => exact ⟨k + 1, q + y, by omega, by go_num, rfl, HS.out.symm, hbl⟩
      case measure => simp [intOf]; omega
    · obtain rfl : k = n := by omega
      have HR : Hid (totW zs = q) := Lib.hid (by unfold totW; rw [hl, hq])
      clear hq
      go_wp2
      go_ret
      exact ⟨by rw [HR.out]; try rfl, hbl⟩
set_option maxHeartbeats 1000000 in
theorem impl_TotalWait (A : Option Addr) (n c B : Nat) (zs : List Int) (w : World) (h : IntsAt .i64 w B A n zs) (hB : B ≤ w.heap.size) (hn : n ≤ 1048576) :
    Calls Tryz.prog 64 #[.slice A n c] w fun e w' => e = .returned (.int .i64 (totW zs)) ∧ Below w.heap.size w w' := by
  have hl := h.1
  go_enter Tryz.func64, Tryz.ntmps64
  go_wp2
  go_loopw [3, 8] (fun x i wr => ∃ (k : Nat) (q : Int), k ≤ n ∧ i = .int .i64 k ∧ x = .int .i64 q ∧ q = sumC 10000 zs k ∧ Below w.heap.size w wr) (fun _ i _ => n - (intOf i).toNat)
  case atStart => exact ⟨0, 0, Nat.zero_le _, rfl, rfl, rfl, Below.refl _ _⟩
  case round =>
    obtain ⟨k, q, hk, rfl, rfl, hq, hbl⟩ := hrel
    have hsz := hbl.size
    by_cases hlt : k < n
    · obtain ⟨ad, rfl, hab, hcell⟩ := h.2 (by omega)
      have hc := (hbl.cell (by rw [add_block]; omega)).trans (hcell k hlt)
      have hqb := sumC_bound 10000 (by decide) zs k
      rw [← hq] at hqb
      obtain ⟨hq1, hq2⟩ := hqb
      have HS : Hid (sumC 10000 zs (k + 1) = q + clampN (zs.getD k 0) 10000) := Lib.hid (by rw [hq]; rfl)
      have hcb := clampN_bound (zs.getD k 0) 10000 (by decide)
      clear hcell hq
      generalize zs.getD k 0 = z at *
      have HC := Lib.hid (limit_clamp z 10000)
      generalize clampN z 10000 = y at *
      obtain ⟨hy1, hy2⟩ := hcb
      go_wp2_with fail
      refine (impl_limit _ _ _ _).mono ?_
      rw [HC.out]
      rintro e w1 ⟨rfl, hb1⟩
      go_wp2
      go_roundw
      case rel => exact ⟨k + 1, q + y, by omega, by go_num, rfl, HS.out.symm, hbl.trans (hb1.mono hsz)⟩
      case measure => simp [intOf]; omega
    · obtain rfl : k = n := by omega
      have HR : Hid (totW zs = q) := Lib.hid (by unfold totW; rw [hl, hq])
      clear hq
      go_wp2
      go_ret
      exact ⟨by rw [HR.out]; try rfl, hbl⟩
end Go.Proofs.YtgpffbnmdfichaaGreatDoor

/- Chapter 12: QueueRun: data, the model, what the program's helpers answer. -/
namespace Go.Proofs.YtgpffbnmdfichaaGreatDoor
open Go.RowKit
set_option linter.unusedVariables false

/-- the queue after k seconds. -/
def queK (zs : List Int) (bs : List Bool) : Nat → Int
  | 0 => 0
  | k + 1 => stepQ (queK zs bs k) (zs.getD k 0) (bAt bs k)
theorem queK_bound (zs : List Int) (bs : List Bool) : ∀ k, 0 ≤ queK zs bs k ∧ queK zs bs k ≤ 10000
  | 0 => by simp [queK]
  | k + 1 => stepQ_bound _ _ _
def allQ (zs : List Int) : Bool := zs.all fun z => inB z 0 10000
theorem allQ_no {zs : List Int} {k : Nat} (hk : k < zs.length) (h : inB (zs.getD k 0) 0 10000 = false) : allQ zs = false := by
  unfold allQ
  rw [Bool.eq_false_iff]
  intro ha
  have := List.all_eq_true.1 ha (zs.getD k 0) (by rw [List.getD_eq_getElem?_getD, List.getElem?_eq_getElem hk]; exact List.getElem_mem hk)
  rw [h] at this
  cases this
theorem allQ_yes {zs : List Int} (h : ∀ k, k < zs.length → inB (zs.getD k 0) 0 10000 = true) : allQ zs = true := by
  unfold allQ
  refine List.all_eq_true.2 fun z hz => ?_
  obtain ⟨k, hk, rfl⟩ := List.mem_iff_getElem.1 hz
  have := h k hk
  rwa [List.getD_eq_getElem?_getD, List.getElem?_eq_getElem hk] at this
theorem allQ_at {zs : List Int} (h : allQ zs = true) {k : Nat} (hk : k < zs.length) : inB (zs.getD k 0) 0 10000 = true := by
  cases e : inB (zs.getD k 0) 0 10000 with
  | true => rfl
  | false => rw [allQ_no hk e] at h; cases h
/-- the queues after each of the first k seconds. -/
def queTo (zs : List Int) (bs : List Bool) (k : Nat) : List Int := (List.range k).map fun j => queK zs bs (j + 1)
theorem queTo_len (zs : List Int) (bs : List Bool) (k : Nat) : (queTo zs bs k).length = k := by simp [queTo]
theorem queTo_succ (zs : List Int) (bs : List Bool) (k : Nat) : queTo zs bs (k + 1) = queTo zs bs k ++ [queK zs bs (k + 1)] := by simp [queTo, List.range_succ]
/-- what QueueRun answers. -/
def queR (zs : List Int) (bs : List Bool) : List Int := if decide (zs.length = bs.length) && decide (zs.length ≤ 1000) && allQ zs then queTo zs bs zs.length else []
theorem queR_no {zs : List Int} {bs : List Bool} (h : (decide (zs.length = bs.length) && decide (zs.length ≤ 1000) && allQ zs) = false) : queR zs bs = [] := by unfold queR; rw [h]; rfl
theorem queR_yes {zs : List Int} {bs : List Bool} (h : zs.length = bs.length) (h2 : zs.length ≤ 1000) (h3 : allQ zs = true) : queR zs bs = queTo zs bs zs.length := by unfold queR; rw [decide_eq_true h, decide_eq_true h2, h3]; rfl
theorem queR_len (zs : List Int) (bs : List Bool) : (queR zs bs).length ≤ zs.length := by
  unfold queR
  split
  · rw [queTo_len]; exact Nat.le_refl _
  · exact Nat.zero_le _
set_option maxHeartbeats 2000000 in
theorem spec_QueueRun (A : Option Addr) (n c B : Nat) (zs : List Int) (A2 : Option Addr) (n2 c2 B2 : Nat) (bs : List Bool) (w : World) (h : IntsAt .i64 w B A n zs) (hB : B ≤ w.heap.size) (hn : n ≤ 4294967296) (h2 : BlsAt w B2 A2 n2 bs) (hB2 : B2 ≤ w.heap.size) (hn2 : n2 ≤ 4294967296) :
    Calls Tryz.prog 59 #[.slice A n c, .slice A2 n2 c2] w fun e w' => ∃ v, e = .returned v ∧ Own .i64 3 w' w.heap.size v (queR zs bs) ∧ Below w.heap.size w w' := by
  have hl := h.1
  have hl2 := h2.1
  have HNO := Lib.hid (fun hh => queR_no (zs := zs) (bs := bs) hh)
  have HYES := Lib.hid (fun a b hh => queR_yes (zs := zs) (bs := bs) a b hh)
  have own0 := own_bare .i64 3 w
  have HB0 : Hid (Below w.heap.size w (w.alloc (.cells #[] 3))) := Lib.hid ((Below.refl _ _).alloc (Nat.le_refl _) _)
  by_cases hne : n = n2
  rotate_left
  · have HR := Lib.hid (HNO.out (by rw [decide_eq_false (by omega)]; rfl))
    have e1 : ((n : Int) != (n2 : Int)) = true := by rw [bne_iff_ne]; omega
    clear h h2 hne hl hl2
    go_enter Tryz.func59, Tryz.ntmps59
    go_wp2
    go_ret
    exact ⟨_, rfl, by rw [HR.out]; exact own0, HB0.out⟩
  subst hne
  have e1 : ((n : Int) != (n : Int)) = false := by simp
  by_cases hbig : (1000 : Int) < (n : Int)
  · have HR := Lib.hid (HNO.out (by rw [decide_eq_false (show ¬ zs.length ≤ 1000 by omega)]; simp))
    clear h h2 hl hl2
    go_enter Tryz.func59, Tryz.ntmps59
    go_wp2
    go_ret
    exact ⟨_, rfl, by rw [HR.out]; exact own0, HB0.out⟩
  have HALL : Hid ((∀ j, j < n → inB (zs.getD j 0) 0 10000 = true) → queR zs bs = queTo zs bs n) := Lib.hid (fun hh => by
    have := HYES.out (by omega) (by omega) (allQ_yes (by rw [hl]; exact hh))
    rwa [hl] at this)
  have HBAD : Hid (∀ k, k < n → inB (zs.getD k 0) 0 10000 = false → queR zs bs = []) := Lib.hid (fun k hk hh => HNO.out (by rw [allQ_no (by omega) hh, Bool.and_false]))
  have H := Lib.hid h
  have H2 := Lib.hid h2
  have hn3 : n ≤ 1000 := by omega
  clear h h2 hl hl2 HNO HYES
  go_enter Tryz.func59, Tryz.ntmps59
  go_wp2
  go_loopw [5, 6, 7] (fun v q i wr => ∃ k : Nat, k ≤ n ∧ i = .int .i64 k ∧ q = .int .i64 (queK zs bs k) ∧ Own .i64 3 wr w.heap.size v (queTo zs bs k) ∧ (∀ j, j < k → inB (zs.getD j 0) 0 10000 = true) ∧ Below w.heap.size w wr) (fun _ _ i _ => n - (intOf i).toNat)
  case atStart => exact ⟨0, Nat.zero_le _, rfl, rfl, own0, fun j hj => absurd hj (by omega), HB0.out⟩
  case round =>
    clear own0 HB0
    obtain ⟨k, hk, rfl, rfl, ho, hall, hbl⟩ := hrel
    have hsz := hbl.size
    have HO := Lib.hid ho
    have HB := Lib.hid hbl
    have HAL := Lib.hid hall
    clear hall hbl ho
    by_cases hlt : k < n
    · obtain ⟨ad, rfl, hab, hcell⟩ := H.out.2 (by omega)
      obtain ⟨ad2, rfl, hab2, hcell2⟩ := H2.out.2 (by omega)
      have HC := Lib.hid (fun x (hx : Below w.heap.size w x) => (hx.cell (p := ad.add k) (by rw [add_block]; omega)).trans (hcell k hlt))
      have HC2 := Lib.hid (fun x (hx : Below w.heap.size w x) => (hx.cell (p := ad2.add k) (by rw [add_block]; omega)).trans (hcell2 k hlt))
      have hc := HC.out wr HB.out
      have i1 : (0 : Int) ≤ (k : Int) := by omega
      have i2 : (k : Int) < (n : Int) := by omega
      have hqb := queK_bound zs bs k
      have HS : Hid (queTo zs bs (k + 1) = queTo zs bs k ++ [stepQ (queK zs bs k) (zs.getD k 0) (bAt bs k)]) := Lib.hid (queTo_succ zs bs k)
      have HS2 : Hid (queK zs bs (k + 1) = stepQ (queK zs bs k) (zs.getD k 0) (bAt bs k)) := Lib.hid rfl
      have HBK := Lib.hid (HBAD.out k hlt)
      have hln := queTo_len zs bs k
      obtain ⟨z, hz⟩ : ∃ z, zs.getD k 0 = z := ⟨_, rfl⟩
      obtain ⟨b, hb⟩ : ∃ b, bAt bs k = b := ⟨_, rfl⟩
      obtain ⟨ys, hys⟩ : ∃ ys, queTo zs bs k = ys := ⟨_, rfl⟩
      obtain ⟨q, hq⟩ : ∃ q, queK zs bs k = q := ⟨_, rfl⟩
      have HZ := Lib.hid hz
      rw [hz] at hc HC HBK
      rw [hb] at HC2
      rw [hys, hq, hz, hb] at HS
      rw [hq, hz, hb] at HS2
      rw [hys] at HO hln
      rw [hq] at hqb ⊢
      clear hcell hcell2 hz hb hys hq
      have hly : ys.length ≤ 1000 := by omega
      clear hln
      obtain ⟨Av, cv, rfl⟩ := HO.out.sliced
      cases hin : inB z 0 10000
      · have HR := Lib.hid (HBK.out hin)
        have HIN := Lib.hid hin
        clear hin
        go_wp2_with fail
        refine (spec_l1In _ _ _ _).mono ?_
        rw [HIN.out]
        rintro e w2 ⟨rfl, rfl⟩
        go_wp2
        go_ret
        exact ⟨_, rfl, by rw [HR.out]; exact (own_bare .i64 3 wr).mono hsz, HB.out.alloc hsz _⟩
      · have HIN := Lib.hid hin
        have hst : qstep q z b = stepQ q z b := qstep_in (show inB q 0 10000 = true by unfold inB; simp; omega) hin
        rw [← hst] at HS HS2
        clear hin hst
        have g1 := fun x : GW wr => HC.out x.val (HB.out.trans (x.ok.mono hsz))
        have g2 := fun x : GW wr => HC2.out x.val (HB.out.trans (x.ok.mono hsz))
        have g3 := fun x : GW wr => spec_QueueStep q z b x.val
        generalize qstep q z b = r at *
        go_wp2_with fail
        refine (spec_l1In _ _ _ _).mono ?_
        rw [HIN.out]
        rintro e w2 ⟨rfl, rfl⟩
        go_wp2
        refine wp_region_grow (by kernel_rfl) (by kernel_rfl) ?_
        repeat (go_big_quiet_step (exact calls_gw_same _ (g3 _)))
        refine wpQuiet_nil ?_
        intro x
        have hox := HO.out.below x.ok
        have hbx := HB.out.trans (x.ok.mono hsz)
        have hsx := hbx.size
        clear g1 g2 g3 hc
        generalize x.val = wx at *
        go_wp2_with (at_builtin; refine wpList_app1 rfl _ _ 24 rfl .i64 3 8 Tryz.underlying24 info_i64 w.heap.size _ _ rfl hox (by decide) (by omega) _ _ _ wx.heap.size hsx rfl (by simp) ?_; intro v7 w7 hown7 hgrow7 hat7)
        have HB7 : Hid (Below w.heap.size w w7) := Lib.hid (hox.push (Nat.le_refl _) (hbx.alloc hsx (.cells #[.int .i64 r] 3)) (by simp; omega) hgrow7)
        have HO7 := Lib.hid hown7
        clear hown7 hgrow7 hat7 hox hbx
        go_roundw
        case rel => exact ⟨k + 1, by omega, by go_num, by rw [HS2.out], by rw [HS.out]; exact HO7.out, fun j hj => by
          by_cases e : j = k
          · subst e; rw [HZ.out]; exact HIN.out
          · exact HAL.out j (by omega), HB7.out⟩
        case measure => simp [intOf]; omega
    · obtain rfl : k = n := by omega
      have HR := Lib.hid (HALL.out HAL.out)
      go_wp2
      go_ret
      exact ⟨_, rfl, by rw [HR.out]; exact HO.out, HB.out⟩
set_option maxHeartbeats 2000000 in
theorem impl_areArrivals (A : Option Addr) (n c B : Nat) (zs : List Int) (w : World) (h : IntsAt .i64 w B A n zs) (hB : B ≤ w.heap.size) (hn : n ≤ 4294967296) :
    Calls Tryz.prog 114 #[.slice A n c] w fun e w' => e = .returned (.bool (allQ zs)) ∧ Below w.heap.size w w' := by
  have hl := h.1
  have HBAD : Hid (∀ k, k < n → inB (zs.getD k 0) 0 10000 = false → allQ zs = false) := Lib.hid (fun k hk hh => allQ_no (by omega) hh)
  have HALL : Hid ((∀ j, j < n → inB (zs.getD j 0) 0 10000 = true) → allQ zs = true) := Lib.hid (fun hh => allQ_yes (by rw [hl]; exact hh))
  have H := Lib.hid h
  clear h hl
  go_enter Tryz.func114, Tryz.ntmps114
  go_wp2
  go_loopw [7] (fun i wr => ∃ k : Nat, k ≤ n ∧ i = .int .i64 k ∧ (∀ j, j < k → inB (zs.getD j 0) 0 10000 = true) ∧ Below w.heap.size w wr) (fun i _ => n - (intOf i).toNat)
  case atStart => exact ⟨0, Nat.zero_le _, rfl, fun j hj => absurd hj (by omega), Below.refl _ _⟩
  case round =>
    obtain ⟨k, hk, rfl, hall, hbl⟩ := hrel
    have HB := Lib.hid hbl
    have HAL := Lib.hid hall
    by_cases hlt : k < n
    · obtain ⟨ad, rfl, hab, hcell⟩ := H.out.2 (by omega)
      have hc := (hbl.cell (p := ad.add k) (by rw [add_block]; omega)).trans (hcell k hlt)
      have i1 : (0 : Int) ≤ (k : Int) := by omega
      have i2 : (k : Int) < (n : Int) := by omega
      have HBK := Lib.hid (HBAD.out k hlt)
      obtain ⟨z, hz⟩ : ∃ z, zs.getD k 0 = z := ⟨_, rfl⟩
      have HZ := Lib.hid hz
      rw [hz] at hc HBK
      clear hcell hz hbl hall
      cases hin : inB z 0 10000
      · have HR := Lib.hid (HBK.out hin)
        have HIN := Lib.hid hin
        clear hin
        go_wp2_with fail
        refine (impl_isQueue _ _).mono ?_
        rw [HIN.out]
        rintro e w2 ⟨rfl, rfl⟩
        go_wp2
        go_ret
        exact ⟨by rw [HR.out]; try rfl, HB.out⟩
      · have HIN := Lib.hid hin
        clear hin
        go_wp2_with fail
        refine (impl_isQueue _ _).mono ?_
        rw [HIN.out]
        rintro e w2 ⟨rfl, rfl⟩
        go_wp2
        go_roundw
        case rel => exact ⟨k + 1, by omega, by go_num, fun j hj => by
          by_cases e : j = k
          · subst e; rw [HZ.out]; exact HIN.out
          · exact HAL.out j (by omega), HB.out⟩
        case measure => simp [intOf]; omega
    · obtain rfl : k = n := by omega
      have HR := Lib.hid (HALL.out HAL.out)
      go_wp2
      go_ret
      exact ⟨by rw [HR.out]; try rfl, hbl⟩
end Go.Proofs.YtgpffbnmdfichaaGreatDoor

/- Chapter 12: QueueRun: the program: a range over a function of two values. -/
namespace Go.Proofs.YtgpffbnmdfichaaGreatDoor
open Go.RowKit Go.Shelf
attribute [local go_sem] Oper.semAt_some
set_option linter.unusedVariables false

/-- the seconds below n. -/
abbrev IdxQ (n : Nat) := {i : Nat // i < n}
def preI (n : Nat) : (k : Nat) → k ≤ n → List (IdxQ n)
  | 0, _ => []
  | k + 1, h => preI n k (by omega) ++ [⟨k, by omega⟩]
theorem preI_len (n : Nat) : ∀ (k : Nat) (h : k ≤ n), (preI n k h).length = k
  | 0, _ => rfl
  | k + 1, h => by simp [preI, preI_len n k (by omega)]
theorem preI_pre (n : Nat) : ∀ (m : Nat) (hm : m ≤ n) (k : Nat) (hk : k ≤ m), preI n k (by omega) <+: preI n m hm
  | 0, _, k, hk => by
    obtain rfl : k = 0 := by omega
    exact List.prefix_refl _
  | m + 1, hm, k, hk => by
    by_cases e : k = m + 1
    · subst e; exact List.prefix_refl _
    · exact (preI_pre n m (by omega) k (by omega)).trans ⟨[⟨m, by omega⟩], rfl⟩
/-- what the iterator hands over. -/
def encQ (zs : List Int) (bs : List Bool) {n : Nat} (x : IdxQ n) : Array Value := #[.int .i64 (x.val : Int), .int .i64 (queK zs bs (x.val + 1))]
/-- what a round keeps: what lay below n₀, and the box b. -/
def keepQ (n₀ b : Nat) (W W' : World) : Prop := Below n₀ W W' ∧ W'.heap[b]? = W.heap[b]?
theorem keepQ_t {n₀ b : Nat} {A B C : World} (h : keepQ n₀ b A B) (k : keepQ n₀ b B C) : keepQ n₀ b A C := ⟨h.1.trans k.1, k.2.trans h.2⟩
theorem keepQ_b {n₀ b : Nat} {w : World} (hn : n₀ ≤ w.heap.size) (hb : b < w.heap.size) (W : World) (l : Nat) (o o' : Obj) (hl : w.heap.size ≤ l) (h : W.heap[l]? = some o) (h2 : o.isCells = false) (h3 : o.isWalk = false) : keepQ n₀ b W (W.putObj l o') :=
  ⟨belowK_b hn W l o o' hl h h2 h3, World.putObj_heap_other (by omega)⟩
theorem cellQ {w : World} {g : Nat} {x : Value} {E : TypeId} {fr : Nat × Nat} (h : w.heap[g]? = some (.cells #[x] E fr)) : w.cell? ⟨g, 0, none⟩ = some x := by
  rw [cell_of_row w g 0 _ _ _ h]; rfl
set_option maxHeartbeats 2000000 in
set_option maxRecDepth 100000 in
theorem que_in (m : Nat) (hm : 2 ≤ m) (l b0 b1 n₀ : Nat) (A : Option Addr) (n c : Nat) (zs : List Int) (A2 : Option Addr) (c2 : Nat) (bs : List Bool) (hn : n ≤ 1000) (hall : allQ zs = true) (J Jx : List (IdxQ n) → World → Prop)
    (W : World) (hJ : AbidesFrom W.heap.size J) (h0 : W.heap[b0]? = some (.cells #[.slice A n c] 24)) (h1 : W.heap[b1]? = some (.cells #[.slice A2 n c2] 86)) (hz : IntsAt .i64 W n₀ A n zs) (hb : BlsAt W n₀ A2 n bs) (hn₀ : n₀ ≤ W.heap.size)
    (hY : ∀ pre x W1, J pre W1 → pre.length < 1000 → YieldAt Fence.wide (m - 1) Tryz.prog l (encQ zs bs x) W1 fun e W' =>
      (e = .returned (.bool true) ∧ J (pre ++ [x]) W' ∧ keepQ n₀ b1 W1 W') ∨ (e = .returned (.bool false) ∧ Jx (pre ++ [x]) W'))
    (hj0 : J [] W) :
    CallsIn Fence.wide m Tryz.prog 153 #[.func (.yield l) #[] #[], .pointer (some ⟨b0, 0, none⟩), .pointer (some ⟨b1, 0, none⟩)] W fun e W' => (∃ v, e = .returned v) ∧
      ((∃ ys, ys = preI n n (Nat.le_refl _) ∧ J ys W') ∨ (∃ pre, pre <+: preI n n (Nat.le_refl _) ∧ Jx pre W')) := by
  refine callsIn_of_wp Tryz.func153 rfl trivial ?_ rfl
  simp only [Tryz.ntmps153, List.size_toArray, List.length_cons, List.length_nil, Nat.reduceAdd, Nat.reduceSub, Array.replicate_succ, Array.replicate_zero, List.push_toArray, List.append_toArray, List.nil_append, List.cons_append]
  have x0 := cellQ h0
  have HL := Lib.hid hz.1
  have HBZ := Lib.hid (fun (V : World) (hV : Below n₀ W V) => hz.keep fun p hp => hV.cell hp)
  have HBB := Lib.hid (fun (V : World) (hV : Below n₀ W V) => hb.keep hV)
  have HBX := Lib.hid h1
  have HN0 := Lib.hid hn₀
  have HALL := Lib.hid (fun k (hk : k < n) => allQ_at hall (k := k) (by rw [hz.1]; exact hk))
  clear h0 h1 hz hb hall
  gi_wp2
  gi_loopw [9, 4] (fun i q wr => ∃ (k : Nat) (hk : k ≤ n), i = .int .i64 k ∧ q = .int .i64 (queK zs bs k) ∧ keepQ n₀ b1 W wr ∧ W.heap.size ≤ wr.heap.size ∧ J (preI n k hk) wr)
    (fun i _ _ => n - (intOf i).toNat)
  case atStart =>
    exact ⟨0, Nat.zero_le _, rfl, rfl, ⟨Below.refl _ _, rfl⟩, Nat.le_refl _, hj0⟩
  case round =>
    clear x0 hj0
    obtain ⟨k, hk, rfl, rfl, hkp, hsz, hJs⟩ := hrel
    by_cases hlt : k < n
    · obtain ⟨ad, rfl, hab, hcell⟩ := (HBZ.out _ hkp.1).2 (by omega)
      obtain ⟨ad2, rfl, hab2, hcell2⟩ := (HBB.out _ hkp.1).2 (by omega)
      have hc := hcell k hlt
      have hbx := hkp.2.trans HBX.out
      have x1 := cellQ hbx
      have hc2 := hcell2 k hlt
      have i1 : (0 : Int) ≤ (k : Int) := by omega
      have i2 : (k : Int) < (n : Int) := by omega
      have hin := HALL.out k hlt
      have hqb := queK_bound zs bs k
      have HS : Hid (queK zs bs (k + 1) = stepQ (queK zs bs k) (zs.getD k 0) (bAt bs k)) := Lib.hid rfl
      have hlen : (preI n k hk).length < 1000 := by rw [preI_len]; omega
      have HPR : Hid (preI n k hk ++ [⟨k, hlt⟩] = preI n (k + 1) hlt) := Lib.hid rfl
      have HKP := Lib.hid hkp
      have lt1 : b1 < wr.heap.size := lt_of_block hbx
      have lta : (ad.add k).block < wr.heap.size := by rw [add_block]; omega
      have lta2 : (ad2.add k).block < wr.heap.size := by rw [add_block]; omega
      generalize queK zs bs k = q at *
      have hAF := impl_after (zs.getD k 0) q (bAt bs k) wr hin hqb
      rw [← HS.out] at hAF
      generalize zs.getD k 0 = z at *
      generalize bAt bs k = b at *
      have HAF := Lib.hid hAF
      have HJs := Lib.hid hJs
      clear hcell hcell2 hin hAF hbx hkp hJs
      gi_wp2
      refine ⟨trivial, fun _ => by omega, ?_⟩
      refine (callsIn_wide.2 HAF.out).mono ?_
      rintro e w2 ⟨rfl, hb2⟩
      have hJ2 : J (preI n k hk) w2 := hJ _ _ _ none HJs.out (only_of_below hb2 none) (fun r e => by cases e)
      obtain ⟨fn, tmps, assign, body, hy, hR⟩ := hY (preI n k hk) ⟨k, hlt⟩ w2 hJ2 hlen
      have HK2 : Hid (keepQ n₀ b1 W w2) := Lib.hid (keepQ_t HKP.out ⟨hb2.mono (by omega), hb2.block _ lt1⟩)
      have hs2 : W.heap.size ≤ w2.heap.size := Nat.le_trans hsz hb2.size
      unfold encQ at hy
      dsimp only at hy
      clear hb2 x1 hc hc2
      gi_wp2
      refine ⟨fun _ => by omega, ?_⟩
      refine hR.mono ?_
      rintro e W3 (⟨rfl, hJ3, hk3⟩ | ⟨rfl, hJx3⟩)
      · have HK3 := Lib.hid (keepQ_t HK2.out hk3)
        have hs3 : W.heap.size ≤ W3.heap.size := Nat.le_trans hs2 hk3.1.size
        rw [HPR.out] at hJ3
        have HJ := Lib.hid hJ3
        clear hR hy hJ3 hk3 hJ2 hY
        gi_wp2
        go_roundw
        case rel => exact ⟨k + 1, hlt, by go_num, rfl, HK3.out, hs3, HJ.out⟩
        case measure => simp [intOf]; omega
      · rw [HPR.out] at hJx3
        have HJ := Lib.hid hJx3
        clear hR hy hJx3 hJ2 hY
        gi_wp2
        refine bodyPost_ret (results_none rfl _ _ _) rfl ?_
        exact ⟨⟨_, rfl⟩, .inr ⟨preI n (k + 1) hlt, preI_pre n n (Nat.le_refl _) (k + 1) hlt, HJ.out⟩⟩
    · obtain rfl : k = n := by omega
      gi_wp2
      go_end0
      exact ⟨⟨_, rfl⟩, .inl ⟨_, rfl, hJs⟩⟩
theorem impl_queueOver (A : Option Addr) (n c : Nat) (A2 : Option Addr) (n2 c2 : Nat) (w : World) : Calls Tryz.prog 115 #[.slice A n c, .slice A2 n2 c2] w fun e w' => e = .returned (.func (.func 153) #[] #[.pointer (some ⟨w.heap.size, 0, none⟩), .pointer (some ⟨w.heap.size + 1, 0, none⟩)]) ∧ w' = (w.alloc (.cells #[.slice A n c] 24)).alloc (.cells #[.slice A2 n2 c2] 86) := by
  have hmf : ∀ (fn : Fn) (first cap : Array Value) (w : World), (Instr.makeFunc fn first cap).run Tryz.prog w = .ok (.func fn first cap) w := fun _ _ _ _ => rfl
  go_enter Tryz.func115, Tryz.ntmps115
  go_wp2
  go_ret
  exact ⟨rfl, rfl⟩
theorem que_stops (m : Nat) (hm : 2 ≤ m) (b0 b1 n₀ : Nat) (A : Option Addr) (n c : Nat) (zs : List Int) (A2 : Option Addr) (c2 : Nat) (bs : List Bool) (hn : n ≤ 1000) (hall : allQ zs = true) (w : World)
    (h0 : w.heap[b0]? = some (.cells #[.slice A n c] 24)) (h1 : w.heap[b1]? = some (.cells #[.slice A2 n c2] 86)) (hz : IntsAt .i64 w n₀ A n zs) (hb : BlsAt w n₀ A2 n bs) (hn₀ : n₀ ≤ w.heap.size) :
    SeqStopsK Fence.wide m Tryz.prog 153 #[.pointer (some ⟨b0, 0, none⟩), .pointer (some ⟨b1, 0, none⟩)] (encQ zs bs (n := n)) (keepQ n₀ b1) (fun ys => ys = preI n n (Nat.le_refl _)) (fun pre => pre <+: preI n n (Nat.le_refl _)) 1000 w := fun l J Jx W hW hJ _ hY hj0 =>
  que_in m hm l b0 b1 n₀ A n c zs A2 c2 bs hn hall J Jx W hJ ((hW.block _ (lt_of_block h0)).trans h0) ((hW.block _ (lt_of_block h1)).trans h1) (hz.keep fun p hp => hW.cell (by omega)) (hb.keep (hW.mono hn₀)) (Nat.le_trans hn₀ hW.size) hY hj0
/-- 'make([]T, n)' inside a fence. -/
theorem wpListIn_mkF {F : Fence} {N : Nat} {P : Program} {w : World} {ops : Array Oper} {rest : List Oper} {o : Oper} {a : Act} {Q : Exit → Act → World → Prop}
    (hg : o.guard = none) (l c : Operand) (t : TypeId) (hop : o.op = Op.makeSlice t l c)
    (k : IntKind) (E : TypeId) (bytes : Nat) (ht : P.underlying t = some (.slice E)) (hi : (P.info? E).map (fun i => (i.zero, i.size, i.bytes)) = some (some (.int k 0), 1, bytes)) (hb : bytes ≤ 8)
    (L C : Int) (n : Nat) (hl : a.eval l = .int .i64 L) (hc : a.eval c = .int .i64 C) (hL : L = (n : Int)) (hC : C = (n : Int)) (hn : n ≤ 4398046511104)
    (hK : ∀ w', Own k E w' w.heap.size (.slice (some ⟨w.heap.size, 0, none⟩) n n) (List.replicate n 0) → w.grownBy w' none → wpListIn F N P ops Q rest (a.put o.dst (.slice (some ⟨w.heap.size, 0, none⟩) n n)) w') :
    wpListIn F N P ops Q (o :: rest) a w := by
  obtain ⟨i, hi1, hz, hsz, hby⟩ := info_parts hi
  refine wpListIn_plain hg fun K hK' => ?_
  obtain ⟨w', hrun, r1, r2⟩ := run_make_full (P := P) w w.heap.size t E i (.int k 0) 1 ht hi1 hz hsz .i64 .i64 n (by rw [hby]; have : bytes * n ≤ 8 * n := Nat.mul_le_mul_right _ hb; omega) (by unfold maxLen; omega) (Nat.le_refl _)
  subst hL
  subst hC
  unfold Oper.wpIn
  refine ⟨?_, ?_⟩
  · simp [Oper.about, hop]
  · rw [Oper.semAt_plain F _ _ (by rw [hop]; intro c hc'; cases hc')]
    simp [execOp, hop, hl, hc, hrun, Result.andThen]
    refine hK' _ _ (hK w' ?_ r2)
    unfold Own
    rw [made_ints] at r1
    simpa using r1
/-- the row behind some seconds. -/
def rowQ (zs : List Int) (bs : List Bool) {n : Nat} (pre : List (IdxQ n)) : List Int := pre.foldl (fun r x => r.set x.val (queK zs bs (x.val + 1))) (List.replicate n 0)
theorem rowQ_snoc (zs : List Int) (bs : List Bool) {n : Nat} (pre : List (IdxQ n)) (x : IdxQ n) : rowQ zs bs (pre ++ [x]) = (rowQ zs bs pre).set x.val (queK zs bs (x.val + 1)) := by simp [rowQ]
theorem rowQ_len (zs : List Int) (bs : List Bool) {n : Nat} (pre : List (IdxQ n)) : (rowQ zs bs pre).length = n := by
  unfold rowQ
  have : ∀ (l : List (IdxQ n)) (r : List Int), r.length = n → (l.foldl (fun r x => r.set x.val (queK zs bs (x.val + 1))) r).length = n := by
    intro l
    induction l with
    | nil => intro r h; exact h
    | cons x l ih => intro r h; exact ih _ (by rw [List.length_set]; exact h)
  exact this pre _ (by simp)
theorem rowQ_pre (zs : List Int) (bs : List Bool) (n : Nat) : ∀ (k : Nat) (hk : k ≤ n) (j : Nat), j < n → (rowQ zs bs (preI n k hk))[j]? = some (if j < k then queK zs bs (j + 1) else 0)
  | 0, hk, j, hj => by simp [rowQ, preI, hj]
  | k + 1, hk, j, hj => by
    show (rowQ zs bs (preI n k (by omega) ++ [⟨k, by omega⟩]))[j]? = _
    rw [rowQ_snoc, List.getElem?_set]
    have hl := rowQ_len zs bs (preI n k (by omega))
    simp only
    by_cases e : k = j
    · subst e
      rw [if_pos rfl, if_pos (by omega), if_pos (by omega)]
    · rw [if_neg e, rowQ_pre zs bs n k (by omega) j hj]
      by_cases h2 : j < k
      · rw [if_pos h2, if_pos (by omega)]
      · rw [if_neg h2, if_neg (by omega)]
theorem rowQ_all (zs : List Int) (bs : List Bool) (n : Nat) : rowQ zs bs (preI n n (Nat.le_refl _)) = queTo zs bs n := by
  apply List.ext_getElem?
  intro j
  by_cases hj : j < n
  · rw [rowQ_pre zs bs n n (Nat.le_refl _) j hj, if_pos hj]
    simp [queTo, hj]
  · rw [List.getElem?_eq_none (by rw [rowQ_len]; omega), List.getElem?_eq_none (by rw [queTo_len]; omega)]
theorem own_abide {k : IntKind} {E : TypeId} {W W' : World} {lo : Nat} {v : Value} {zs : List Int} {row : Option Nat} (h : Own k E W lo v zs) (hg : W.grownBy W' row) (hr : ∀ r, row = some r → ∃ o : Obj, W.heap[r]? = some o ∧ o.isCells = false) : Own k E W' lo v zs := by
  refine h.grown hg fun g e e' => ?_
  obtain ⟨o, ho, hc⟩ := hr g e'
  rcases h.2 with ⟨rfl, _⟩ | ⟨g', cap, cur, rfl, _, hgb, _⟩
  · cases e
  · have : g' = g := by simpa [Value.ownBlock] using e
    subst this
    rw [hgb] at ho
    cases ho
    cases hc
theorem box_abide {W W' : World} {g : Nat} {cs : Array Value} {E : TypeId} {row : Option Nat} (h : W.heap[g]? = some (.cells cs E)) (hg : W.grownBy W' row) (hr : ∀ r, row = some r → ∃ o : Obj, W.heap[r]? = some o ∧ o.isCells = false) : W'.heap[g]? = some (.cells cs E) := by
  refine (hg.block g (lt_of_block h) fun e => ?_).trans h
  obtain ⟨o, ho, hc⟩ := hr g e.symm
  rw [h] at ho
  cases ho
  cases hc
set_option maxHeartbeats 4000000 in
set_option maxRecDepth 100000 in
theorem impl_QueueRun (A : Option Addr) (n c B : Nat) (zs : List Int) (A2 : Option Addr) (n2 c2 B2 : Nat) (bs : List Bool) (w : World) (h : IntsAt .i64 w B A n zs) (hB : B ≤ w.heap.size) (hn : n ≤ 4294967296) (h2 : BlsAt w B2 A2 n2 bs) (hB2 : B2 ≤ w.heap.size) (hn2 : n2 ≤ 4294967296) :
    Calls Tryz.prog 65 #[.slice A n c, .slice A2 n2 c2] w fun e w' => ∃ v, e = .returned v ∧ Own .i64 3 w' w.heap.size v (queR zs bs) ∧ Below w.heap.size w w' := by
  have hl := h.1
  have hl2 := h2.1
  have HNO := Lib.hid (fun hh => queR_no (zs := zs) (bs := bs) hh)
  have HYES := Lib.hid (fun a b hh => queR_yes (zs := zs) (bs := bs) a b hh)
  have own0 := own_bare .i64 3 w
  have HB0 : Hid (Below w.heap.size w (w.alloc (.cells #[] 3))) := Lib.hid ((Below.refl _ _).alloc (Nat.le_refl _) _)
  by_cases hne : n = n2
  rotate_left
  · have HR := Lib.hid (HNO.out (by rw [decide_eq_false (by omega)]; rfl))
    have e1 : ((n : Int) != (n2 : Int)) = true := by rw [bne_iff_ne]; omega
    clear h h2 hne hl hl2
    go_enter Tryz.func65, Tryz.ntmps65
    go_wp2
    go_ret
    exact ⟨_, rfl, by rw [HR.out]; exact own0, HB0.out⟩
  subst hne
  have e1 : ((n : Int) != (n : Int)) = false := by simp
  by_cases hbig : (1000 : Int) < (n : Int)
  · have HR := Lib.hid (HNO.out (by rw [decide_eq_false (show ¬ zs.length ≤ 1000 by omega)]; simp))
    clear h h2 hl hl2
    go_enter Tryz.func65, Tryz.ntmps65
    go_wp2
    go_ret
    exact ⟨_, rfl, by rw [HR.out]; exact own0, HB0.out⟩
  have hAA := impl_areArrivals A n c B zs w h hB hn
  cases hall : allQ zs
  · have HR := Lib.hid (HNO.out (by rw [hall, Bool.and_false]))
    rw [hall] at hAA
    clear h h2 hl hl2 hall own0 HB0
    go_enter Tryz.func65, Tryz.ntmps65
    go_wp2_with fail
    refine hAA.mono ?_
    rintro e w1 ⟨rfl, hb1⟩
    have hsz := hb1.size
    go_wp2
    go_ret
    exact ⟨_, rfl, by rw [HR.out]; exact (own_bare .i64 3 w1).mono hsz, hb1.alloc hsz _⟩
  have HR : Hid (queR zs bs = queTo zs bs n) := Lib.hid (by rw [HYES.out (by omega) (by omega) hall, hl])
  rw [hall] at hAA
  have H := Lib.hid h
  have H2 := Lib.hid h2
  have HAL := Lib.hid hall
  have HAA := Lib.hid hAA
  clear own0 HB0 HNO HYES h h2 hl hl2 hall hAA
  refine (callsIn_wide (n := 4)).1 ?_
  refine callsIn_of_wp_marks Tryz.func65 rfl trivial ?_ rfl
  simp only [Tryz.ntmps65, List.size_toArray, List.length_cons, List.length_nil, Nat.reduceAdd, Nat.reduceSub, Array.replicate_succ, Array.replicate_zero, List.push_toArray, List.append_toArray, List.nil_append, List.cons_append]
  gi_wp2
  refine ⟨trivial, (callsIn_wide.2 HAA.out).mono ?_⟩
  rintro e w1 ⟨rfl, hb1⟩
  have hs1 := hb1.size
  gi_wp2_with (gi_at_make; refine wpListIn_mkF rfl _ _ 24 rfl .i64 3 8 Tryz.underlying24 info_i64 (by decide) _ _ n rfl rfl rfl rfl (by omega) ?_; intro w2 hown2 hgrow2)
  refine ⟨trivial, (callsIn_wide.2 (impl_queueOver A n c A2 n c2 _)).mono ?_⟩
  rintro e w' ⟨rfl, rfl⟩
  obtain ⟨w3, hw3⟩ : ∃ w3, w3 = ((w2.alloc (.cells #[.slice (some ⟨w1.heap.size, 0, none⟩) n n] 24)).alloc (.cells #[.slice A n c] 24)).alloc (.cells #[.slice A2 n c2] 86) := ⟨_, rfl⟩
  obtain ⟨q0, q1, q2, hs3, hb3⟩ := three_blocks hw3
  have hb2 : Below w.heap.size w w2 := hb1.grown hgrow2 hs1 (fun k e => by cases e)
  have hB3 : Below w.heap.size w w3 := hb2.trans (hb3.mono hb2.size)
  have ho3 : Own .i64 3 w3 w.heap.size (.slice (some ⟨w1.heap.size, 0, none⟩) n n) (rowQ zs bs ([] : List (IdxQ n))) := (hown2.mono hs1).below hb3
  have lg : w1.heap.size < w2.heap.size := (hown2.block _ rfl).2
  have HZ3 := (H.out.keep (w' := w3) fun p hp => hB3.cell (by omega)).up (show B ≤ w.heap.size by omega)
  have HB3 := (H2.out.keep (w' := w3) (hB3.mono hB2)).up (show B2 ≤ w.heap.size by omega)
  have hst := que_stops (4 - 1) (by omega) (w2.heap.size + 1) (w2.heap.size + 1 + 1) w.heap.size A n c zs A2 c2 bs (by omega) HAL.out w3 q1 q2 HZ3 HB3 hB3.size
  have hz2 : ((w2.alloc (.cells #[.slice (some ⟨w1.heap.size, 0, none⟩) n n] 24)).heap.size) = w2.heap.size + 1 := heap_size_allocF _ _
  rw [hz2]
  gi_wp2
  rw [← hw3]
  clear hw3 hown2 hgrow2 hb1 hb2 hb3 q1 q2 HZ3 HB3
  refine wpIn_rangeFunc_ownF rfl (by omega) (gf := 153) (lb := #[.pointer (some ⟨w2.heap.size + 1, 0, none⟩), .pointer (some ⟨w2.heap.size + 1 + 1, 0, none⟩)]) rfl trivial (enters_of Tryz.func153 (by kernel_rfl) rfl)
    hst keepQ_t (keepQ_b hB3.size (by omega)) (Below.refl _ _) (fun _ => rfl)
    (fun pre W => (W.heap[w2.heap.size]? = some (.cells #[.slice (some ⟨w1.heap.size, 0, none⟩) n n] 24) ∧ Own .i64 3 W w.heap.size (.slice (some ⟨w1.heap.size, 0, none⟩) n n) (rowQ zs bs pre)) ∧ Below w.heap.size w W)
    (fun _ _ _ => False)
    (OwnFrom.and (Own.from (fun s A B row hs hg hr => ⟨box_abide hs.1 hg hr, own_abide hs.2 hg hr⟩) _) (ownFrom_below (Nat.le_refl _) (by omega)))
    (fun _ _ _ _ _ hs _ _ => hs)
    ⟨⟨q0, ho3⟩, hB3⟩
    (fun x => { tmps := #[.slice A n c, .slice A2 n c2, undef, undef, .slice none 0 0, .pointer (some ⟨w2.heap.size, 0, none⟩), .int .i64 (x.val : Int), .int .i64 (queK zs bs (x.val + 1)), .slice A n c, .int .i64 (n : Int), .slice A2 n c2, .int .i64 (n : Int), .bool false, .bool false, .slice A n c, .int .i64 (n : Int), .bool false, .bool false, .bool false, .slice A n c, .bool true, .bool false, .bool false, undef, .slice A n c, .int .i64 (n : Int), .slice (some ⟨w1.heap.size, 0, none⟩) n n, .slice A n c, .slice A2 n c2, .func (.func 153) #[] #[.pointer (some ⟨w2.heap.size + 1, 0, none⟩), .pointer (some ⟨w2.heap.size + 1 + 1, 0, none⟩)], .int .i64 (x.val : Int), .int .i64 (queK zs bs (x.val + 1)), undef, undef, undef, undef, undef], defers := [] }) ?assign ?body ?done ?stop
  case assign =>
    intro l x W K hK
    simp only [encQ]
    gi_wp2
    exact hK
  case body =>
    rintro l pre x W ⟨⟨hbx, ho⟩, hBW⟩ _
    have HSN := Lib.hid (rowQ_snoc zs bs pre x)
    have hlr := rowQ_len zs bs pre
    obtain ⟨k, hk⟩ := x
    simp only at *
    have x0 := cellQ hbx
    have c0 := ho.cell k (by rw [hlr]; exact hk)
    have f0 := ho.free k
    have i1 : (0 : Int) ≤ (k : Int) := by omega
    have i2 : (k : Int) < (n : Int) := by omega
    have lb : w2.heap.size < W.heap.size := lt_of_block hbx
    have lr : w1.heap.size < W.heap.size := (ho.block _ rfl).2
    have hs := ho.stored k (queK zs bs (k + 1))
    have HO := Lib.hid hs
    have HBX := Lib.hid hbx
    have HBW := Lib.hid hBW
    have HKB : Hid (∀ v : Value, W.heap.size ≤ (W.setCell ⟨w1.heap.size, k, none⟩ v).heap.size) := Lib.hid (fun v => ((Below.refl 0 W).setCell (p := ⟨w1.heap.size, k, none⟩) (Nat.zero_le _) v).size)
    clear hs ho hbx hBW hlr hst
    generalize queK zs bs (k + 1) = q at *
    gi_wp2
    have hn1 : w2.heap.size ≠ w1.heap.size := by omega
    have hn2 : w2.heap.size + 1 + 1 ≠ w1.heap.size := by omega
    refine ⟨KeepsOthers.setCell _ _ _, ⟨(Below.refl _ W).setCell (p := ⟨w1.heap.size, k, none⟩) hs1 _, heap_setCell_other W ⟨w1.heap.size, k, none⟩ _ _ hn2⟩, ⟨(heap_setCell_other W ⟨w1.heap.size, k, none⟩ _ _ hn1).trans HBX.out, by rw [HSN.out]; exact HO.out⟩, HBW.out.setCell (p := ⟨w1.heap.size, k, none⟩) hs1 _⟩
  case done =>
    rintro D ys W hD rfl ⟨⟨hbx, ho⟩, hBW⟩ hK
    rw [rowQ_all] at ho
    have x0 := cellQ hbx
    have lb : w2.heap.size < W.heap.size := lt_of_block hbx
    have HO := Lib.hid ho
    have HBW := Lib.hid hBW
    clear ho hst hBW
    gi_wp2
    refine ⟨by simp, .inl ⟨_, _, rfl, run_takeDeferred hK, ?_⟩⟩
    exact ⟨_, results_tmp rfl _ _ _, ⟨_, rfl, by rw [HR.out]; exact own_abide HO.out (grownBy_putObj' W D _) (fun r e => by cases e; exact ⟨_, hK, rfl⟩), HBW.out.trans (belowK_b (w := w) (Nat.le_refl _) W D _ _ (by omega) hK rfl rfl)⟩⟩
  case stop =>
    rintro D c pre W _ _ h _
    exact h.elim
end Go.Proofs.YtgpffbnmdfichaaGreatDoor

/- Stream as Lean data; rows of them, and the laws' helpers for these (written by genrow.py). -/
namespace Go.Proofs.YtgpffbnmdfichaaGreatDoor
open Go.RowKit
set_option linter.unusedVariables false

structure Stm where
  path : Int
  arrivals : List Int
deriving DecidableEq
def stm0 : Stm := ⟨0, []⟩
def Stm.wf (p : Stm) : Prop := p.arrivals.length ≤ maxLen ∧ (∀ z ∈ p.arrivals, (Lit.int .i64 z).wf = true) ∧ (Lit.int .i64 p.path).wf = true
/-- the j-th one. -/
def stmA (ps : List Stm) (j : Nat) : Stm := ps.getD j stm0
theorem stmA_some {ps : List Stm} {k : Nat} {p : Stm} (h : ps[k]? = some p) : stmA ps k = p := by simp [stmA, List.getD, h]
theorem stmA_get {ps : List Stm} {k : Nat} (h : k < ps.length) : ps[k]? = some (stmA ps k) := by
  rw [List.getElem?_eq_getElem h]
  simp [stmA, List.getD, List.getElem?_eq_getElem h]
theorem stmA_mem {ps : List Stm} {k : Nat} (h : k < ps.length) : stmA ps k ∈ ps := List.mem_of_getElem? (stmA_get h)
/-- one lies at q: the slice and the ints. -/
structure StmAt (w : World) (q : Addr) (u : Value) (p : Stm) : Prop where
  c0 : w.cell? q = some (.int .i64 p.path)
  c1 : w.cell? ⟨q.block, q.off + 1, none⟩ = some u
theorem StmAt.keep {w w' : World} {q : Addr} {u : Value} {p : Stm} (h : StmAt w q u p) (e : w'.heap[q.block]? = w.heap[q.block]?) : StmAt w' q u p :=
  ⟨(World.cell?_of_block e).trans h.c0, (World.cell?_of_block (a := ⟨q.block, q.off + 1, none⟩) e).trans h.c1⟩
theorem StmAt.below {w w' : World} {q : Addr} {u : Value} {p : Stm} {B : Nat} (h : StmAt w q u p) (hb : Below B w w') (hB : q.block < B) : StmAt w' q u p := h.keep (hb.block _ hB)
/-- A slice value that holds these, all in blocks below B. -/
def StmsAt (w : World) (B : Nat) (A : Option Addr) (n : Nat) (ps : List Stm) : Prop :=
  ps.length = n ∧ (0 < n → ∃ ad, A = some ad ∧ ad.block < B ∧ ∀ j, j < n → ∃ A' m c, StmAt w (ad.add (j * 2)) (.slice A' m c) (stmA ps j) ∧ IntsAt .i64 w B A' m (stmA ps j).arrivals ∧ (m ≤ c ∧ c ≤ maxLen) ∧ (A' = none → m = 0 ∧ c = 0))
theorem StmsAt.at {w : World} {B : Nat} {A : Option Addr} {n : Nat} {ps : List Stm} (h : StmsAt w B A n ps) {j : Nat} (hj : j < n) :
    ∃ ad A' m c, A = some ad ∧ (ad.add (j * 2)).block < B ∧ StmAt w (ad.add (j * 2)) (.slice A' m c) (stmA ps j) ∧ IntsAt .i64 w B A' m (stmA ps j).arrivals ∧ (m ≤ c ∧ c ≤ maxLen) ∧ (A' = none → m = 0 ∧ c = 0) := by
  obtain ⟨ad, e, hb, hc⟩ := h.2 (by omega)
  obtain ⟨A', m, c, h1⟩ := hc j hj
  exact ⟨ad, A', m, c, e, by rw [add_block]; exact hb, h1⟩
theorem StmsAt.keep {w w' : World} {B : Nat} {A : Option Addr} {n : Nat} {ps : List Stm} (h : StmsAt w B A n ps) (hb : Below B w w') : StmsAt w' B A n ps := by
  refine ⟨h.1, fun h0 => ?_⟩
  obtain ⟨ad, e, hB, hc⟩ := h.2 h0
  refine ⟨ad, e, hB, fun j hj => ?_⟩
  obtain ⟨A', m, c, h1, h2, h3, h4⟩ := hc j hj
  exact ⟨A', m, c, h1.below hb (by rw [add_block]; exact hB), h2.keep (fun p hp => hb.cell hp), h3, h4⟩
theorem StmsAt.below {w w' : World} {B : Nat} {A : Option Addr} {n : Nat} {ps : List Stm} (h : StmsAt w B A n ps) (hB : B ≤ w.heap.size) (hb : Below w.heap.size w w') : StmsAt w' B A n ps := h.keep (hb.mono hB)
theorem StmsAt.up {w : World} {B B' : Nat} {A : Option Addr} {n : Nat} {ps : List Stm} (h : StmsAt w B A n ps) (hB : B ≤ B') : StmsAt w B' A n ps := by
  refine ⟨h.1, fun h0 => ?_⟩
  obtain ⟨ad, e, hb, hc⟩ := h.2 h0
  refine ⟨ad, e, by omega, fun j hj => ?_⟩
  obtain ⟨A', m, c, h1, h2, h3, h4⟩ := hc j hj
  exact ⟨A', m, c, h1, h2.up hB, h3, h4⟩
/-- the cells of a row. -/
def stmrow (xs : List (Value × Stm)) : List Value := xs.flatMap fun x => [.int .i64 x.2.path, x.1]
theorem stmrow_length (xs : List (Value × Stm)) : (stmrow xs).length = xs.length * 2 := flat_length (f := fun x : Value × Stm => [.int .i64 x.2.path, x.1]) (fun _ => rfl) xs
theorem stmrow_at0 {xs : List (Value × Stm)} {j : Nat} {x : Value × Stm} (h : xs[j]? = some x) : (stmrow xs)[j * 2]? = some (.int .i64 x.2.path) := by
  exact flat_get (f := fun x : Value × Stm => [.int .i64 x.2.path, x.1]) (s := 2) (fun _ => rfl) xs j 0 x h (by decide)
theorem stmrow_at1 {xs : List (Value × Stm)} {j : Nat} {x : Value × Stm} (h : xs[j]? = some x) : (stmrow xs)[j * 2 + 1]? = some x.1 := by
  exact flat_get (f := fun x : Value × Stm => [.int .i64 x.2.path, x.1]) (s := 2) (fun _ => rfl) xs j 1 x h (by decide)
theorem stmrow_append (xs ys : List (Value × Stm)) : stmrow (xs ++ ys) = stmrow xs ++ stmrow ys := by simp [stmrow]
theorem stmrow_next (xs : List (Value × Stm)) (n : Nat) (z x : Value × Stm) (h : xs.length < n) :
    (((stmrow xs ++ stmrow (List.replicate (n - xs.length) z)).set (xs.length * 2) (.int .i64 x.2.path)).set (xs.length * 2 + 1) x.1) = stmrow (xs ++ [x]) ++ stmrow (List.replicate (n - (xs ++ [x]).length) z) := by
  obtain ⟨m, hm⟩ : ∃ m, n - xs.length = m + 1 := ⟨n - xs.length - 1, by omega⟩
  have e2 : n - (xs ++ [x]).length = m := by rw [List.length_append, List.length_singleton]; omega
  rw [e2, hm, List.replicate_succ]
  have e3 : stmrow (z :: List.replicate m z) = .int .i64 z.2.path :: z.1 :: stmrow (List.replicate m z) := rfl
  rw [e3, set2 (stmrow_length xs), stmrow_append]
  simp [stmrow]
theorem made_stm (n : Nat) : (madeCells (Value.agg #[Value.int .i64 0, Value.slice none 0 0]).cells (n * 2)).toList = stmrow (List.replicate n (Value.slice none 0 0, stm0)) := by
  have h : (Value.agg #[Value.int .i64 0, Value.slice none 0 0]).cells = #[Value.int .i64 0, Value.slice none 0 0] := rfl
  rw [h]
  apply List.ext_getElem?
  intro i
  simp only [madeCells, Array.toList_map, List.getElem?_map]
  by_cases hi : i < n * 2
  · have hx : (List.replicate n ((Value.slice none 0 0, stm0) : Value × Stm))[i / 2]? = some (Value.slice none 0 0, stm0) := by rw [List.getElem?_replicate, if_pos (by omega)]
    have h2 : i % 2 = 0 ∨ i % 2 = 1 := by omega
    rcases h2 with h2 | h2
    · have := stmrow_at0 hx
      rw [show i / 2 * 2 = i by omega] at this
      rw [this]
      simp [hi, h2, stm0]
    · have := stmrow_at1 hx
      rw [show i / 2 * 2 + 1 = i by omega] at this
      rw [this]
      simp [hi, h2]
  · rw [List.getElem?_eq_none (l := stmrow _) (by rw [stmrow_length, List.length_replicate]; omega)]
    simp [hi]
theorem info_stm : (Tryz.prog.info? 35).map (fun i => (i.zero, i.size, i.bytes)) = some (some (.agg #[.int .i64 0, .slice none 0 0]), 2, 32) := by kernel_rfl
/-- rows of other types lie in other blocks. -/
theorem own_apart_stm {w : World} {lo lo2 : Nat} {u v : Value} {zs : List Int} {n : Nat} {vs : List Value} (h : Own .i64 3 w lo u zs) (h2 : w.ownsRow lo2 35 2 v n vs) : ∀ g, u.ownBlock = some g → v.ownBlock ≠ some g := by
  intro g hg e
  rcases h.2 with ⟨rfl, _⟩ | ⟨g1, cap, cur, rfl, hb, hg1, r⟩
  · cases hg
  · rcases h2.2 with ⟨rfl, _⟩ | ⟨g2, cap2, cur2, rfl, hb2, hg2, r2⟩
    · cases e
    · have e1 : g1 = g := Option.some.inj hg
      have e2 : g2 = g := Option.some.inj e
      subst e1
      subst e2
      rw [hg1] at hg2
      injection hg2 with hg2
      injection hg2 with _ ht
      exact absurd ht (by decide)
/-- a row of the call's own. -/
structure OwnStm (w : World) (lo : Nat) (v : Value) (xs : List (Value × Stm)) (ps : List Stm) : Prop where
  row : w.ownsRow lo 35 2 v ps.length (stmrow xs)
  each : ∀ j, j < ps.length → ∃ u, xs[j]? = some (u, stmA ps j) ∧ Own .i64 3 w lo u (stmA ps j).arrivals
  apart : ApartL (xs.map (·.1))
theorem OwnStm.len {w : World} {lo : Nat} {v : Value} {xs : List (Value × Stm)} {ps : List Stm} (h : OwnStm w lo v xs ps) : xs.length = ps.length := by
  have := h.row.1
  rw [stmrow_length] at this
  omega
theorem OwnStm.below {w w' : World} {lo : Nat} {v : Value} {xs : List (Value × Stm)} {ps : List Stm} (h : OwnStm w lo v xs ps) (hb : Below w.heap.size w w') : OwnStm w' lo v xs ps :=
  ⟨ownr_below h.row hb, fun j hj => by obtain ⟨u, h1, h2⟩ := h.each j hj; exact ⟨u, h1, h2.below hb⟩, h.apart⟩
theorem OwnStm.ss {w : World} {lo : Nat} {A : Option Addr} {n c : Nat} {xs : List (Value × Stm)} {ps : List Stm} (h : OwnStm w lo (.slice A n c) xs ps) : StmsAt w w.heap.size A n ps := by
  have hn := ownr_len h.row
  subst hn
  refine ⟨rfl, fun h0 => ?_⟩
  obtain ⟨ad, e, hb, hc⟩ := (ownr_cells h.row).2 (by omega)
  refine ⟨ad, e, hb, fun j hj => ?_⟩
  obtain ⟨u, h1, h2⟩ := h.each j hj
  obtain ⟨A', c', rfl⟩ := h2.sliced
  refine ⟨A', _, c', ⟨hc _ _ (stmrow_at0 h1), ?_⟩, h2.ints, h2.cap, h2.nilcap'⟩
  · rw [← add_plusF _ 1 (by decide), add_add]
    exact hc _ _ (stmrow_at1 h1)
/-- rows between two block numbers. -/
structure OwStm (w : World) (lo hi : Nat) (v : Value) (xs : List (Value × Stm)) (ps : List Stm) : Prop where
  own : OwnStm w lo v xs ps
  lt : ∀ g, v.ownBlock = some g → g < hi
  top : hi ≤ w.heap.size
theorem OwStm.new {w : World} {lo : Nat} {v : Value} {xs : List (Value × Stm)} {ps : List Stm} (h : OwnStm w lo v xs ps) : OwStm w lo w.heap.size v xs ps :=
  ⟨h, fun g e => (ownr_block h.row g e).2, Nat.le_refl _⟩
theorem OwStm.below {w w' : World} {lo hi : Nat} {v : Value} {xs : List (Value × Stm)} {ps : List Stm} (h : OwStm w lo hi v xs ps) (hb : Below w.heap.size w w') : OwStm w' lo hi v xs ps := ⟨h.own.below hb, h.lt, Nat.le_trans h.top hb.size⟩
theorem OwStm.ints {w : World} {lo hi : Nat} {A : Option Addr} {n c : Nat} {xs : List (Value × Stm)} {ps : List Stm} (h : OwStm w lo hi (.slice A n c) xs ps) : StmsAt w w.heap.size A n ps := h.own.ss
/-- a slice that a call is given. -/
structure SlStm (w : World) (A : Option Addr) (n c : Nat) (ps : List Stm) : Prop where
  pths : StmsAt w w.heap.size A n ps
  bare : A = none → n = 0 ∧ c = 0
  cap : n ≤ c ∧ c ≤ maxLen
  wf : ∀ p ∈ ps, p.wf
theorem OwStm.sl {w : World} {lo hi : Nat} {A : Option Addr} {n c : Nat} {xs : List (Value × Stm)} {ps : List Stm} (h : OwStm w lo hi (.slice A n c) xs ps) (hw : ∀ p ∈ ps, p.wf) : SlStm w A n c ps := ⟨h.ints, ownr_nilcap h.own.row, ownr_cap h.own.row, hw⟩
theorem SlStm.below {w w' : World} {A : Option Addr} {n c : Nat} {ps : List Stm} (h : SlStm w A n c ps) (hb : Below w.heap.size w w') : SlStm w' A n c ps :=
  ⟨(h.pths.keep hb).up hb.size, h.bare, h.cap, h.wf⟩
/-- few and short. -/
def SmallStm (ps : List Stm) : Prop := ps.length ≤ 1048576 ∧ ∀ j, j < ps.length → (stmA ps j).arrivals.length ≤ 1048576
theorem SmallStm.at {ps : List Stm} (h : SmallStm ps) (n M : Nat) (hn : n = ps.length) (hM : 1048576 ≤ M) : ∀ j, j < n → (stmA ps j).arrivals.length ≤ M := fun j hj => Nat.le_trans (h.2 j (by omega)) hM
theorem law_toStream (A : Option Addr) (n c B : Nat) (zs : List Int) (x0 : Int) (w : World) (h : IntsAt .i64 w B A n zs) (hB : B ≤ w.heap.size) (hn : n ≤ 1048576) :
    Calls Tryz.prog 16 #[.agg #[.int .i64 x0, .slice A n c]] w fun e w' => ∃ a, e = .returned (.agg #[.int .i64 x0, .slice (some a) n n]) ∧ Own .i64 3 w' w.heap.size (.slice (some a) n n) zs ∧ Below w.heap.size w w' := by
  have hi := fun w' (hb : Below w.heap.size w w') => h.laid hB hb
  have hb0 := (((Below.refl w.heap.size w).alloc (Nat.le_refl _) (.cells #[.int .i64 x0, .slice A n c] 26)).alloc (by simp) (.cells #[.int .i64 0, .slice none 0 0] 35)).alloc (by simp; omega) (.cells #[.int .i64 x0, .slice none 0 0] 35)
  have hs0 := hb0.size
  have HI := Lib.hid hi
  have HB0 := Lib.hid hb0
  clear hi
  go_enter Tryz.func16, Tryz.ntmps16
  go_wp2_with fail
  refine (to_i64 A n c B zs _ (HI.out _ HB0.out) (by have := HB0.out.size; omega) (by omega)).mono ?_
  rintro e w2 ⟨rfl, ho, hb2⟩
  have HB := Lib.hid (HB0.out.trans (hb2.mono hs0))
  have k0 : w2.cell? ⟨w.heap.size + 1, 0, none⟩ = some (.int .i64 0) := (hb2.cell (p := ⟨w.heap.size + 1, 0, none⟩) (by simp; try omega)).trans (by go_simp)
  have k1 : w2.cell? ⟨w.heap.size + 1, 1, none⟩ = some (.slice none 0 0) := (hb2.cell (p := ⟨w.heap.size + 1, 1, none⟩) (by simp; try omega)).trans (by go_simp)
  have k2 : w2.cell? ⟨w.heap.size + 1 + 1, 0, none⟩ = some (.int .i64 x0) := (hb2.cell (p := ⟨w.heap.size + 1 + 1, 0, none⟩) (by simp; try omega)).trans (by go_simp)
  have k3 : w2.cell? ⟨w.heap.size + 1 + 1, 1, none⟩ = some (.slice none 0 0) := (hb2.cell (p := ⟨w.heap.size + 1 + 1, 1, none⟩) (by simp; try omega)).trans (by go_simp)
  have fa0 : w2.frozen? ⟨w.heap.size + 1, 0, none⟩ = false := (hb2.frozen (p := ⟨w.heap.size + 1, 0, none⟩) (by simp; try omega)).trans (by go_simp)
  have fa1 : w2.frozen? ⟨w.heap.size + 1, 1, none⟩ = false := (hb2.frozen (p := ⟨w.heap.size + 1, 1, none⟩) (by simp; try omega)).trans (by go_simp)
  have fb1 : w2.frozen? ⟨w.heap.size + 1 + 1, 1, none⟩ = false := (hb2.frozen (p := ⟨w.heap.size + 1 + 1, 1, none⟩) (by simp; try omega)).trans (by go_simp)
  have ho2 : Own .i64 3 w2 w.heap.size (.slice (some ⟨w.heap.size + 1 + 1 + 1, 0, none⟩) n n) zs := by
    have h2 := ho.mono hs0
    simp only [alloc_heap, Array.size_push] at h2
    exact h2
  have HO2 := Lib.hid ho2
  clear hb2 hb0 ho hs0 ho2
  go_wp2
  refine bodyPost_ret (v := .agg #[.int .i64 x0, .slice (some ⟨w.heap.size + 1 + 1 + 1, 0, none⟩) n n]) (by rw [results_cell rfl]; go_simp; try rfl) rfl ?_
  refine ⟨_, rfl, (HO2.out.grown (only_setCell (World.grownBy.refl _ _) _ _) (fun g' e e2 => ?_)).grown (only_setCell (only_setCell (World.grownBy.refl _ _) _ _) _ _) (fun g' e e2 => ?_), (((HB.out.setCell (by simp only; omega) _).setCell (by simp only; omega) _).setCell (by simp only; omega) _)⟩
  · have h1 : w.heap.size + 1 + 1 + 1 = g' := Option.some.inj e
    have h2 := Option.some.inj e2
    omega
  · have h1 : w.heap.size + 1 + 1 + 1 = g' := Option.some.inj e
    have h2 := Option.some.inj e2
    omega
set_option maxHeartbeats 1000000 in
theorem to_stm (A : Option Addr) (n c B : Nat) (ps : List Stm) (w : World) (h : StmsAt w B A n ps) (hB : B ≤ w.heap.size) (hn : n ≤ 1048576) (hm : ∀ j, j < n → (stmA ps j).arrivals.length ≤ 1048576) :
    Calls Tryz.prog 23 #[.slice A n c] w fun e w' => e = .returned (.slice (some ⟨w.heap.size, 0, none⟩) n n) ∧ (∃ xs, OwnStm w' w.heap.size (.slice (some ⟨w.heap.size, 0, none⟩) n n) xs ps) ∧ Below w.heap.size w w' := by
  have hl := h.1
  go_enter Tryz.func23, Tryz.ntmps23
  go_wp2_with ((with_reducible show wpList _ _ _ _ _ _); refine wpList_mkR rfl _ _ _ rfl 35 _ 2 _ Tryz.underlying44 info_stm (by decide) (n : Int) (n : Int) n rfl rfl rfl rfl (by omega) ?_; intro w1 hown hgrow)
  rw [made_stm] at hown
  go_loopw [4] (fun i wr => ∃ (k : Nat) (xs : List (Value × Stm)), k ≤ n ∧ xs.length = k ∧ i = .int .i64 k ∧ wr.ownsRow w.heap.size 35 2 (.slice (some ⟨w.heap.size, 0, none⟩) n n) n (stmrow xs ++ stmrow (List.replicate (n - xs.length) (.slice none 0 0, stm0))) ∧
      (∀ j, j < k → ∃ u, xs[j]? = some (u, stmA ps j) ∧ Own .i64 3 wr w.heap.size u (stmA ps j).arrivals) ∧ ApartL (xs.map (·.1)) ∧ Below w.heap.size w wr) (fun i _ => n - (intOf i).toNat)
  case atStart => exact ⟨0, [], Nat.zero_le _, rfl, rfl, by simpa [stmrow] using hown, fun j hj => absurd hj (by omega), ApartL.nil, below_grown hgrow⟩
  case round =>
    clear hown hgrow
    obtain ⟨k, xs, hk, hul, rfl, hrow, heach, hap, hbl⟩ := hrel
    have hsz := hbl.size
    by_cases hlt : k < n
    · obtain ⟨ad, A', m, c', rfl, hab, hq, hi, hmc, hnil⟩ := h.at hlt
      obtain ⟨q0, q1⟩ := hq.below hbl (by omega)
      have hml := hi.1
      have hmk := hm k hlt
      have hiw := hi.keep (w' := wr) (fun p hp => hbl.cell (by omega))
      clear hq hi
      go_wp2_with fail
      refine (law_toStream A' m c' B (stmA ps k).arrivals (stmA ps k).path wr hiw (by omega) (by omega)).mono ?_
      rintro e w2 ⟨a, rfl, ho, hb2⟩
      have hrow2 := ownr_below hrow hb2
      obtain ⟨y0, hy0⟩ := ownr_some hrow2 (j := k * 2) (by omega)
      obtain ⟨y1, hy1⟩ := ownr_some hrow2 (j := k * 2 + 1) (by omega)
      have f0 := World.ownsRow.frozenAt hrow2
      have hst := (World.ownsRow.stored (World.ownsRow.stored hrow2 (k * 2) (.int .i64 (stmA ps k).path)).1 (k * 2 + 1) (.slice (some a) m m)).1
      have hb3 := hbl.trans (hb2.mono hsz)
      have hgs : w2.grownBy ((w2.setCell ⟨w.heap.size, k * 2, none⟩ (.int .i64 (stmA ps k).path)).setCell ⟨w.heap.size, k * 2 + 1, none⟩ (.slice (some a) m m)) (some w.heap.size) := only_setCell (only_setCell (World.grownBy.refl _ _) _ _) _ _
      have hkept : ∀ {x : Value} {xs : List Int} {l : Nat}, Own .i64 3 w2 l x xs → Own .i64 3 ((w2.setCell ⟨w.heap.size, k * 2, none⟩ (.int .i64 (stmA ps k).path)).setCell ⟨w.heap.size, k * 2 + 1, none⟩ (.slice (some a) m m)) l x xs := fun hx => hx.grown hgs (fun g hg e => own_apart_stm hx hrow2 g hg e)
      have hsn : xs.length < n := by omega
      have hnx := stmrow_next xs n (.slice none 0 0, stm0) (.slice (some a) m m, stmA ps k) hsn
      rw [hul] at hnx
      simp only at hnx
      rw [hul] at hst
      rw [hnx] at hst
      have HR := Lib.hid hst
      have HE : Hid (∀ j, j < k + 1 → ∃ u, (xs ++ [(.slice (some a) m m, stmA ps k)])[j]? = some (u, stmA ps j) ∧ Own .i64 3 ((w2.setCell ⟨w.heap.size, k * 2, none⟩ (.int .i64 (stmA ps k).path)).setCell ⟨w.heap.size, k * 2 + 1, none⟩ (.slice (some a) m m)) w.heap.size u (stmA ps j).arrivals) := Lib.hid (by
        intro j hj
        by_cases hjk : j < k
        · obtain ⟨u, h1, h2⟩ := heach j hjk
          exact ⟨u, by rw [List.getElem?_append_left (by omega)]; exact h1, hkept (h2.below hb2)⟩
        · obtain rfl : j = xs.length := by omega
          refine ⟨_, (List.getElem?_append_right (Nat.le_refl _)).trans (by rw [Nat.sub_self, show xs.length = k from hul]; rfl), ?_⟩
          rw [show xs.length = k from hul]
          exact hkept (ho.mono hsz))
      have HA : Hid (ApartL ((xs ++ [((Value.slice (some a) m m), stmA ps k)]).map (·.1))) := Lib.hid (by
        rw [List.map_append]
        refine hap.snoc (b := wr.heap.size) (fun x hx g hg => ?_) (fun g hg => (ho.block g hg).1)
        obtain ⟨y, hy, rfl⟩ := List.mem_map.1 hx
        obtain ⟨j, hj, rfl⟩ := List.getElem_of_mem hy
        obtain ⟨u, h1, h2⟩ := heach j (by omega)
        rw [List.getElem?_eq_getElem hj] at h1
        injection h1 with h1
        rw [h1] at hg
        exact (h2.block g hg).2)
      have HB := Lib.hid hb3
      clear hrow heach hap hbl hb2 hb3 hgs hkept hst hrow2 ho hiw hnx
      go_wp2
      go_roundw
      case rel => exact ⟨k + 1, xs ++ [(.slice (some a) m m, stmA ps k)], by omega, by rw [List.length_append, hul]; rfl, by go_num, HR.out, HE.out, HA.out, ((HB.out.setCell (Nat.le_refl _) _).setCell (Nat.le_refl _) _)⟩
      case measure => simp [intOf]; omega
    · obtain rfl : k = n := by omega
      rw [hul, Nat.sub_self, List.replicate_zero] at hrow
      have HO : Hid (OwnStm wr w.heap.size (.slice (some ⟨w.heap.size, 0, none⟩) k k) xs ps) := Lib.hid ⟨by rw [hl]; simpa [stmrow] using hrow, fun j hj => heach j (by omega), hap⟩
      clear hrow heach hap
      go_wp2
      go_ret
      exact ⟨rfl, ⟨xs, HO.out⟩, hbl⟩
set_option maxHeartbeats 1000000 in
theorem law_eqStream (A : Option Addr) (n c B : Nat) (zs : List Int) (x0 : Int) (A2 : Option Addr) (n2 c2 : Nat) (w : World) (h : IntsAt .i64 w B A n zs) (h2 : IntsAt .i64 w B A2 n2 zs) (hB : B ≤ w.heap.size) (hn : n ≤ 4398046511104) :
    Calls Tryz.prog 20 #[.agg #[.int .i64 x0, .slice A n c], .agg #[.int .i64 x0, .slice A2 n2 c2]] w fun e w' => e = .returned (.bool true) ∧ Below w.heap.size w w' := by
  have hl := h.1
  have hl2 := h2.1
  have hq := fun w' (hb : Below w.heap.size w w') => eqs_i64 A n c zs A2 n2 c2 w' ((h.laid hB hb).up (by have := hb.size; omega)) ((h2.laid hB hb).up (by have := hb.size; omega)) (by omega) (by omega)
  have hb0 := ((Below.refl w.heap.size w).alloc (Nat.le_refl _) (.cells #[.int .i64 x0, .slice A n c] 35)).alloc (by simp) (.cells #[.int .i64 x0, .slice A2 n2 c2] 35)
  have HQ := Lib.hid hq
  have HB0 := Lib.hid hb0
  clear hq hb0 h h2
  have e0 : (x0 != x0) = false := by simp
  have g0 : (!(x0 == x0)) = false := by simp
  go_enter Tryz.func20, Tryz.ntmps20
  go_wp2_with fail
  refine (HQ.out _ HB0.out).mono ?_
  rintro e w2 ⟨rfl, hb2⟩
  have HB := Lib.hid (HB0.out.trans (hb2.mono HB0.out.size))
  clear hb2
  go_wp2
  go_ret
  exact ⟨rfl, HB.out⟩
set_option maxHeartbeats 1000000 in
theorem eqs_stm (A : Option Addr) (n c : Nat) (ps : List Stm) (A2 : Option Addr) (n2 c2 : Nat) (w : World) (h : StmsAt w w.heap.size A n ps) (h2 : StmsAt w w.heap.size A2 n2 ps) (hn : n ≤ 4398046511104) (hn2 : n2 ≤ 4398046511104) (hm : ∀ j, j < n → (stmA ps j).arrivals.length ≤ 4398046511104) :
    Calls Tryz.prog 25 #[.slice A n c, .slice A2 n2 c2] w fun e w' => e = .returned (.bool true) ∧ Below w.heap.size w w' := by
  have hl := h.1
  have hl2 := h2.1
  obtain rfl : n = n2 := by omega
  go_enter Tryz.func25, Tryz.ntmps25
  go_wp2
  go_loopw [5] (fun i wr => ∃ k : Nat, k ≤ n ∧ i = .int .i64 k ∧ Below w.heap.size w wr) (fun i _ => n - (intOf i).toNat)
  case atStart => exact ⟨0, Nat.zero_le _, rfl, Below.refl _ _⟩
  case round =>
    obtain ⟨k, hk, rfl, hbl⟩ := hrel
    have hsz := hbl.size
    by_cases hlt : k < n
    · obtain ⟨ad, A', m, c', rfl, hab, hq, hi, hmc, hnil⟩ := h.at hlt
      obtain ⟨ad2, A2', m2, c2', rfl, hab2, hq2, hi2, hmc2, hnil2⟩ := h2.at hlt
      have hqq := fun x (hx : Below wr.heap.size wr x) => (hq.below hbl (by omega)).below hx (by omega)
      have hqq2 := fun x (hx : Below wr.heap.size wr x) => (hq2.below hbl (by omega)).below hx (by omega)
      have hmk := hm k hlt
      have hml := hi.1
      have hml2 := hi2.1
      have hiw := hi.keep (w' := wr) (fun p hp => hbl.cell (by omega))
      have hiw2 := hi2.keep (w' := wr) (fun p hp => hbl.cell (by omega))
      clear hq hq2 hi hi2
      generalize stmA ps k = pk at *
      obtain ⟨x0, zs⟩ := pk
      simp only at *
      have hcc := fun x (hx : Below wr.heap.size wr x) => law_eqStream A' m c' w.heap.size zs x0 A2' m2 c2' x (hiw.keep (w' := x) fun p hp => hx.cell (by omega)) (hiw2.keep (w' := x) fun p hp => hx.cell (by omega)) (by have := hx.size; omega) (by omega)
      have i1 : (0 : Int) ≤ (k : Int) := by omega
      have i2 : (k : Int) < (n : Int) := by omega
      have hdr : Below wr.heap.size wr wr.drew := ⟨rfl, rfl, rfl, Nat.le_refl _, fun _ _ => rfl⟩
      obtain ⟨y0, y1⟩ := hqq _ hdr
      obtain ⟨z0, z1⟩ := hqq2 _ hdr
      have HQ := Lib.hid hcc
      have HC := Lib.hid hqq
      have HC2 := Lib.hid hqq2
      clear hqq hqq2 hcc hiw hiw2
      go_wp2
      go_region_held3 (fun W' => W'.cell? (ad.add (k * 2)) = some (.int .i64 x0) ∧ W'.cell? ⟨(ad.add (k * 2)).block, (ad.add (k * 2)).off + 1, none⟩ = some (.slice A' m c') ∧ W'.cell? (ad2.add (k * 2)) = some (.int .i64 x0) ∧ W'.cell? ⟨(ad2.add (k * 2)).block, (ad2.add (k * 2)).off + 1, none⟩ = some (.slice A2' m2 c2')) (first | exact ⟨y0, y1, z0, z1⟩ | exact ⟨hy.c0, hy.c1, hz.c0, hz.c1⟩ | fail "keep")
        (first
          | (go_at_call 20; refine (HQ.out _ hdr).mono ?_; rintro e w3 ⟨rfl, hb3⟩; have hb4 := hdr.trans hb3; have hy := HC.out _ hb4; have hz := HC2.out _ hb4))
      have HB := Lib.hid (hbl.trans (hb4.mono hsz))
      clear hb3 hb4 y0 y1 z0 z1 hy hz hbl HQ HC HC2 hdr
      go_wp2
      go_roundw
      case rel => exact ⟨k + 1, by omega, by go_num, HB.out⟩
      case measure => simp [intOf]; omega
    · obtain rfl : k = n := by omega
      go_wp2
      go_ret
      exact ⟨rfl, hbl⟩
theorem sz1_stm (A : Option Addr) (n c : Nat) (x0 : Int) (left : Int) (w : World) (hn : n ≤ 9223372036854775807) (hl : 0 ≤ left ∧ left ≤ 1048576) :
    Calls Tryz.prog 12 #[.agg #[.int .i64 x0, .slice A n c], .int .i64 left] w fun e w' => e = .returned (.int .i64 (if (n : Int) ≤ left then left - (n : Int) else -1)) ∧ Below w.heap.size w w' := by
  have HB := Lib.hid ((Below.refl w.heap.size w).alloc (Nat.le_refl _) (.cells #[.int .i64 x0, .slice A n c] 26))
  by_cases h : (n : Int) ≤ left
  · have hz := fun x => sz_ints A n c left x hn hl
    simp only [if_pos h] at hz ⊢
    have HZ := Lib.hid hz
    clear hz
    go_enter Tryz.func12, Tryz.ntmps12
    go_wp2_with fail
    refine (HZ.out _).mono ?_
    rintro e w' ⟨rfl, rfl⟩
    go_wp2
    go_ret
    exact ⟨rfl, HB.out⟩
  · have hz := fun x => sz_ints A n c left x hn hl
    simp only [if_neg h] at hz ⊢
    have HZ := Lib.hid hz
    clear hz
    go_enter Tryz.func12, Tryz.ntmps12
    go_wp2_with fail
    refine (HZ.out _).mono ?_
    rintro e w' ⟨rfl, rfl⟩
    go_wp2
    go_ret
    exact ⟨rfl, HB.out⟩
/-- what sz says of a row. -/
def szSaidStm (left : Int) (n : Nat) (ps : List Stm) (r : Int) : Prop := r < 0 ∨ (0 ≤ r ∧ r ≤ left ∧ (n : Int) ≤ left ∧ ∀ j, j < n → ((stmA ps j).arrivals.length : Int) ≤ left)
set_option maxHeartbeats 1000000 in
theorem sz_stm (A : Option Addr) (n c B : Nat) (ps : List Stm) (left : Int) (w : World) (h : StmsAt w B A n ps) (hB : B ≤ w.heap.size) (hn : n ≤ 9223372036854775807) (hm : ∀ j, j < n → (stmA ps j).arrivals.length ≤ 9223372036854775807) (hl : 0 ≤ left ∧ left ≤ 1048576) :
    Calls Tryz.prog 21 #[.slice A n c, .int .i64 left] w fun e w' => (∃ r : Int, e = .returned (.int .i64 r) ∧ szSaidStm left n ps r) ∧ Below w.heap.size w w' := by
  have hl0 := h.1
  obtain ⟨l1, l2⟩ := hl
  by_cases hlt0 : (n : Int) ≤ left
  · go_enter Tryz.func21, Tryz.ntmps21
    go_wp2
    go_loopw [1, 5] (fun r i wr => ∃ (k : Nat) (q : Int), k ≤ n ∧ i = .int .i64 k ∧ r = .int .i64 q ∧ 0 ≤ q ∧ q ≤ left ∧ (∀ j, j < k → ((stmA ps j).arrivals.length : Int) ≤ left) ∧ Below w.heap.size w wr) (fun _ i _ => n - (intOf i).toNat)
    case atStart => exact ⟨0, left - n, Nat.zero_le _, rfl, rfl, by omega, by omega, fun j hj => absurd hj (by omega), Below.refl _ _⟩
    case round =>
      obtain ⟨k, q, hk, rfl, rfl, hq0, hq1, hall, hbl⟩ := hrel
      have HALL := Lib.hid hall
      clear hall
      by_cases hlt : k < n
      · obtain ⟨ad, A', m, c', rfl, hab, hq, hi, hmc, hnil⟩ := h.at hlt
        obtain ⟨y0, y1⟩ := hq.below hbl (by omega)
        have hml := hi.1
        have hmk := hm k hlt
        go_wp2_with fail
        refine (sz1_stm A' m c' _ q _ (by omega) ⟨hq0, by omega⟩).mono ?_
        rintro e w' ⟨rfl, hb2⟩
        have HB := Lib.hid (hbl.trans (hb2.mono hbl.size))
        clear hb2
        by_cases hle : (m : Int) ≤ q
        · rw [if_pos hle]
          have HK : Hid (((stmA ps k).arrivals.length : Int) ≤ left) := Lib.hid (by omega)
          clear hi hml hmk
          go_wp2
          go_roundw
          case rel => exact ⟨k + 1, q - m, by omega, by go_num, rfl, by omega, by omega, (fun j hj => by
            by_cases e : j < k
            · exact HALL.out j e
            · obtain rfl : j = k := by omega
              exact HK.out), HB.out⟩
          case measure => simp [intOf]; omega
        · rw [if_neg hle]
          go_wp2
          go_ret
          exact ⟨⟨-1, rfl, .inl (by decide)⟩, HB.out⟩
      · obtain rfl : k = n := by omega
        go_wp2
        go_ret
        exact ⟨⟨q, rfl, .inr ⟨hq0, hq1, hlt0, HALL.out⟩⟩, hbl⟩
  · go_enter Tryz.func21, Tryz.ntmps21
    go_wp2
    go_ret
    exact ⟨⟨-1, rfl, .inl (by decide)⟩, Below.refl _ _⟩
end Go.Proofs.YtgpffbnmdfichaaGreatDoor

/- Chapter 30: AreStreams: program and model. -/
namespace Go.Proofs.YtgpffbnmdfichaaGreatDoor
open Go.RowKit
set_option linter.unusedVariables false

/-- whether a stream is for a path, and has as many arrivals as are allowed, each in range. -/
def forS (ps : List Pth) (x : Stm) : Bool := decide (¬ findI x.path ps < 0) && (decide (x.arrivals.length ≤ 300) && x.arrivals.all fun z => inB z 0 20)
def goodM (ps : List Pth) (zs : List Stm) (k : Nat) : Bool := forS ps (stmA zs k) && decide ((stmA zs k).arrivals.length = (stmA zs 0).arrivals.length)
/-- what AreStreams answers. -/
def areM (ps : List Pth) (zs : List Stm) : Bool := arePs ps && (decide (zs.length ≤ 12) && (List.range zs.length).all (goodM ps zs))
theorem areM_no {ps : List Pth} {zs : List Stm} {k : Nat} (hk : k < zs.length) (h : goodM ps zs k = false) : areM ps zs = false := by
  unfold areM
  rw [List.all_eq_false.2 ⟨k, List.mem_range.2 hk, by rw [h]; simp⟩, Bool.and_false, Bool.and_false]
theorem areM_end {ps : List Pth} {zs : List Stm} (h : ∀ i, i < zs.length → goodM ps zs i = true) : areM ps zs = (arePs ps && decide (zs.length ≤ 12)) := by
  unfold areM
  rw [List.all_eq_true.2 (fun i hi => h i (List.mem_range.1 hi)), Bool.and_true]
theorem areM_ps {ps : List Pth} {zs : List Stm} (h : arePs ps = false) : areM ps zs = false := by unfold areM; rw [h, Bool.false_and]
theorem areM_long {ps : List Pth} {zs : List Stm} (h : 12 < zs.length) : areM ps zs = false := by unfold areM; rw [decide_eq_false (by omega), Bool.false_and, Bool.and_false]
theorem forS1 {ps : List Pth} {x : Stm} (h : findI x.path ps < 0) : forS ps x = false := by unfold forS; rw [decide_eq_false (by simpa using h), Bool.false_and]
theorem forS2 {ps : List Pth} {x : Stm} (h : 300 < x.arrivals.length) : forS ps x = false := by unfold forS; rw [decide_eq_false (show ¬ x.arrivals.length ≤ 300 by omega), Bool.false_and, Bool.and_false]
theorem forS3 {ps : List Pth} {x : Stm} (h : (x.arrivals.all fun z => inB z 0 20) = false) : forS ps x = false := by unfold forS; rw [h, Bool.and_false, Bool.and_false]
theorem forS4 {ps : List Pth} {x : Stm} (h1 : ¬ findI x.path ps < 0) (h2 : x.arrivals.length ≤ 300) (h3 : (x.arrivals.all fun z => inB z 0 20) = true) : forS ps x = true := by unfold forS; rw [decide_eq_true h1, decide_eq_true h2, h3]; rfl
theorem goodM1 {ps : List Pth} {zs : List Stm} {k : Nat} (h : forS ps (stmA zs k) = false) : goodM ps zs k = false := by unfold goodM; rw [h, Bool.false_and]
theorem goodM2 {ps : List Pth} {zs : List Stm} {k : Nat} (h : (stmA zs k).arrivals.length ≠ (stmA zs 0).arrivals.length) : goodM ps zs k = false := by unfold goodM; rw [decide_eq_false h, Bool.and_false]
theorem goodM3 {ps : List Pth} {zs : List Stm} {k : Nat} (h : forS ps (stmA zs k) = true) (h2 : (stmA zs k).arrivals.length = (stmA zs 0).arrivals.length) : goodM ps zs k = true := by unfold goodM; rw [h, decide_eq_true h2]; rfl
theorem StmsAt.first {w : World} {B : Nat} {ad : Addr} {n : Nat} {zs : List Stm} (h : StmsAt w B (some ad) n zs) (h0 : 0 < n) : ∃ A m c, ad.block < B ∧ StmAt w ad (.slice A m c) (stmA zs 0) ∧ IntsAt .i64 w B A m (stmA zs 0).arrivals := by
  obtain ⟨ad2, A', m, c', e, hab, hq, hi, hmc, hnil⟩ := h.at h0
  injection e with e
  subst e
  have ha0 : ad.add (0 * 2) = ad := by simp [Addr.add]
  rw [ha0] at hq hab
  exact ⟨A', m, c', hab, hq, hi⟩
set_option maxHeartbeats 4000000 in
set_option maxRecDepth 100000 in
theorem spec_AreStreams (A : Option Addr) (n c B : Nat) (ps : List Pth) (A2 : Option Addr) (n2 c2 B2 : Nat) (zs : List Stm) (w : World) (h : PthsAt w B A n ps) (h2 : StmsAt w B2 A2 n2 zs) (hB : B ≤ w.heap.size) (hB2 : B2 ≤ w.heap.size) (hn : n ≤ 4294967296) (hn2 : n2 ≤ 4294967296) (hm : ∀ j, j < n2 → (stmA zs j).arrivals.length ≤ 4294967296) :
    Calls Tryz.prog 69 #[.slice A n c, .slice A2 n2 c2] w fun e w' => e = .returned (.bool (areM ps zs)) ∧ Below w.heap.size w w' := by
  have hl2 := h2.1
  have HEND : Hid ((∀ i, i < n2 → goodM ps zs i = true) → areM ps zs = (arePs ps && decide (n2 ≤ 12))) := Lib.hid (fun hg => by rw [areM_end (fun i hi => hg i (by omega)), hl2])
  have HNO : Hid (∀ i, i < n2 → goodM ps zs i = false → areM ps zs = false) := Lib.hid (fun i hi hg => areM_no (by omega) hg)
  clear hl2
  go_enter Tryz.func69, Tryz.ntmps69
  go_wp2
  go_loopw [5] (fun i wr => ∃ k : Nat, k ≤ n2 ∧ i = .int .i64 k ∧ (∀ j, j < k → goodM ps zs j = true) ∧ Below w.heap.size w wr) (fun i _ => n2 - (intOf i).toNat)
  case atStart => exact ⟨0, Nat.zero_le _, rfl, fun j hj => absurd hj (by omega), Below.refl _ _⟩
  case round =>
    obtain ⟨k, hk, rfl, hgo, hbl⟩ := hrel
    have hsz := hbl.size
    have HG := Lib.hid hgo
    clear hgo
    by_cases hlt : k < n2
    · obtain ⟨ad, A', m, c', rfl, hab, hq, hi, hmc, hnil⟩ := h2.at hlt
      obtain ⟨A0, m0, c0, hab0, hq0, hi0⟩ := h2.first (by omega)
      have hqw := hq.below hbl (by omega)
      have hqw0 := hq0.below hbl (by omega)
      have y0 := fun y : GW wr => (hqw.below y.ok (by omega)).c0
      have y1 := fun y : GW wr => (hqw.below y.ok (by omega)).c1
      have z1 := fun y : GW wr => (hqw0.below y.ok (by omega)).c1
      have hfp := fun y : GW wr => spec_FindPath A n c B ps (stmA zs k).path y.val (h.below ((hbl.trans (y.ok.mono hsz)).mono hB)) hn
      have i1 : (0 : Int) ≤ (k : Int) := by omega
      have i2 : (k : Int) < (n2 : Int) := by omega
      have i0 : (0 : Int) < (n2 : Int) := by omega
      have hmk := hm k hlt
      have hml := hi.1
      have hml0 := hi0.1
      have HK1 : Hid (findI (stmA zs k).path ps < 0 → areM ps zs = false) := Lib.hid (fun e => HNO.out k hlt (goodM1 (forS1 e)))
      have HK2 : Hid (m ≠ m0 → areM ps zs = false) := Lib.hid (fun e => HNO.out k hlt (goodM2 (by rw [hml, hml0]; exact e)))
      have HK3 : Hid (300 < m → areM ps zs = false) := Lib.hid (fun e => HNO.out k hlt (goodM1 (forS2 (by rw [hml]; exact e))))
      have HK4 : Hid (((stmA zs k).arrivals.all fun z => inB z 0 20) = false → areM ps zs = false) := Lib.hid (fun e => HNO.out k hlt (goodM1 (forS3 e)))
      have HK5 : Hid (¬ findI (stmA zs k).path ps < 0 → m = m0 → m ≤ 300 → ((stmA zs k).arrivals.all fun z => inB z 0 20) = true → goodM ps zs k = true) := Lib.hid (fun e1 e2 e3 e4 => goodM3 (forS4 e1 (by rw [hml]; exact e3) e4) (by rw [hml, hml0]; exact e2))
      have HI := Lib.hid hi
      have HQ := Lib.hid hq
      generalize (stmA zs k).path = xp at *
      generalize findI xp ps = fi at *
      clear hq hq0 hqw hqw0 hi hi0
      by_cases hf : fi < 0
      · have HV := Lib.hid (HK1.out hf)
        have e1 : decide (fi < 0) = true := decide_eq_true hf
        clear HK1 HK2 HK3 HK4 HK5 hml hml0
        go_wp2
        refine wp_region_grow (by kernel_rfl) (by kernel_rfl) ?_
        repeat (go_big_quiet_step (first | (go_at_call 117; exact calls_gw_same _ (hfp _))))
        refine wpQuiet_nil ?_
        intro x3
        have hb3 := x3.ok
        generalize x3.val = w3 at *
        go_wp2
        go_ret
        exact ⟨by rw [HV.out]; rfl, hbl.trans (hb3.mono hsz)⟩
      have e1 : decide (fi < 0) = false := decide_eq_false hf
      by_cases hmm : m = m0
      rotate_left
      · have HV := Lib.hid (HK2.out hmm)
        have e2 : ((m : Int) != (m0 : Int)) = true := by simp; omega
        clear HK1 HK2 HK3 HK4 HK5 hml hml0
        go_wp2
        refine wp_region_grow (by kernel_rfl) (by kernel_rfl) ?_
        repeat (go_big_quiet_step (first | (go_at_call 117; exact calls_gw_same _ (hfp _))))
        refine wpQuiet_nil ?_
        intro x3
        have hb3 := x3.ok
        generalize x3.val = w3 at *
        go_wp2
        go_ret
        exact ⟨by rw [HV.out]; rfl, hbl.trans (hb3.mono hsz)⟩
      have e2 : ((m : Int) != (m0 : Int)) = false := by simp; omega
      by_cases h3 : 300 < m
      · have HV := Lib.hid (HK3.out h3)
        have e3 : decide ((300 : Int) < (m : Int)) = true := decide_eq_true (by omega)
        have e3' : (m : Int) > 300 := by omega
        clear HK1 HK2 HK3 HK4 HK5 hml hml0
        go_wp2
        refine wp_region_grow (by kernel_rfl) (by kernel_rfl) ?_
        repeat (go_big_quiet_step (first | (go_at_call 117; exact calls_gw_same _ (hfp _))))
        refine wpQuiet_nil ?_
        intro x3
        have hb3 := x3.ok
        generalize x3.val = w3 at *
        go_wp2
        go_ret
        exact ⟨by rw [HV.out]; rfl, hbl.trans (hb3.mono hsz)⟩
      have e3 : decide ((300 : Int) < (m : Int)) = false := decide_eq_false (by omega)
      have e3' : ¬ (m : Int) > 300 := by omega
      have HK6 := Lib.hid (HK5.out hf hmm (by omega))
      clear HK1 HK2 HK3 HK5 hml0
      go_wp2
      refine wp_region_grow (by kernel_rfl) (by kernel_rfl) ?_
      repeat (go_big_quiet_step (first | (go_at_call 117; exact calls_gw_same _ (hfp _))))
      refine wpQuiet_nil ?_
      intro x3
      have hb3 := x3.ok
      generalize x3.val = w3 at *
      have hbw := hbl.trans (hb3.mono hsz)
      clear y0 y1 z1 hfp e1 e2 e3 e3' hb3
      generalize (stmA zs k).arrivals = rs at *
      go_wp2
      go_loopw [6] (fun i wq => ∃ j : Nat, j ≤ m ∧ i = .int .i64 j ∧ ((rs.take j).all fun z => inB z 0 20) = true ∧ Below w.heap.size w wq) (fun i _ => m - (intOf i).toNat)
      case atStart => exact ⟨0, Nat.zero_le _, rfl, rfl, hbw⟩
      case round =>
        clear hbw
        obtain ⟨j, hj, rfl, hall, hb2⟩ := hrel
        obtain ⟨q0, q1⟩ := HQ.out.below hb2 (by omega)
        have HA := Lib.hid hall
        clear hall
        by_cases hlt2 : j < m
        · obtain ⟨ad2, rfl, hab2, hcell⟩ := HI.out.2 (by omega)
          have hc := (hb2.cell (by rw [add_block]; omega)).trans (hcell j hlt2)
          have hz : rs[j]? = some (rs.getD j 0) := by rw [List.getD_eq_getElem?_getD, List.getElem?_eq_getElem (by omega)]; rfl
          generalize rs.getD j 0 = z at *
          have HZ := Lib.hid hz
          have j1 : (0 : Int) ≤ (j : Int) := by omega
          have j2 : (j : Int) < (m : Int) := by omega
          clear hcell hz
          cases h4 : inB z 0 20
          · have HV := Lib.hid (HK4.out (List.all_eq_false.2 ⟨z, List.mem_of_getElem? HZ.out, by rw [h4]; decide⟩))
            have H4 := Lib.hid h4
            clear h4 HK4 HK6
            go_wp2_with (go_at_call 101; refine (spec_l1In _ _ _ _).mono ?_; rintro e w' ⟨rfl, rfl⟩; rw [H4.out])
            go_ret
            exact ⟨by rw [HV.out]; rfl, hb2⟩
          · have HA2 := Lib.hid (show ((rs.take (j + 1)).all fun z => inB z 0 20) = true by rw [List.take_add_one, HZ.out, List.all_append, HA.out]; simp [h4])
            have H4 := Lib.hid h4
            clear h4
            go_wp2_with (go_at_call 101; refine (spec_l1In _ _ _ _).mono ?_; rintro e w' ⟨rfl, rfl⟩; rw [H4.out])
            go_roundw
            case rel => exact ⟨j + 1, by omega, by go_num, HA2.out, hb2⟩
            case measure => simp [intOf]; omega
        · obtain rfl : j = m := by omega
          have HGK : Hid (∀ i, i < k + 1 → goodM ps zs i = true) := Lib.hid (fun i hi => by
            by_cases e : i = k
            · subst e
              exact HK6.out (by have := HA.out; rwa [List.take_of_length_le (by omega)] at this)
            · exact HG.out i (by omega))
          go_wp2
          go_roundw
          case rel => exact ⟨k + 1, by omega, by go_num, HGK.out, hb2⟩
          case measure => simp [intOf]; omega
    · obtain rfl : k = n2 := by omega
      have HR := Lib.hid (HEND.out HG.out)
      have hap := spec_ArePaths A n c B ps wr (h.below (hbl.mono hB)) (Nat.le_trans hB hsz) hn
      cases ha : arePs ps
      · rw [ha] at hap HR
        clear ha
        go_wp2_with fail
        refine hap.mono ?_
        rintro e w1 ⟨rfl, hb1⟩
        go_wp2
        go_ret
        exact ⟨by rw [HR.out]; rfl, hbl.trans (hb1.mono hsz)⟩
      · rw [ha] at hap HR
        clear ha
        by_cases h12 : k ≤ 12
        · have e1 : ((k : Int) ≤ 12) := by omega
          go_wp2_with fail
          refine hap.mono ?_
          rintro e w1 ⟨rfl, hb1⟩
          go_wp2
          go_ret
          exact ⟨by rw [HR.out, decide_eq_true h12]; first | rfl | (simp; omega), hbl.trans (hb1.mono hsz)⟩
        · have e1 : ¬ ((k : Int) ≤ 12) := by omega
          go_wp2_with fail
          refine hap.mono ?_
          rintro e w1 ⟨rfl, hb1⟩
          go_wp2
          go_ret
          exact ⟨by rw [HR.out, decide_eq_false h12]; first | rfl | (simp; omega), hbl.trans (hb1.mono hsz)⟩
end Go.Proofs.YtgpffbnmdfichaaGreatDoor
