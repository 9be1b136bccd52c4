/- IsFullStage: the program; its exact law's contracts. -/
import Derived.Test.YtgdficjihkglpabDoorFillI
import Derived.Test.YtgdficjihkglpabDoorTogI
namespace Go.Proofs.YtgdficjihkglpabDoor
open Go.RowKit
set_option linter.unusedVariables false

theorem isFull_off {ps : List Pth} {zs : List Int} (h : isTog ps zs = false) : isFull ps zs = false := by unfold isFull; rw [h]; simp
set_option maxHeartbeats 1000000 in
set_option maxRecDepth 100000 in
theorem impl_IsFullStage (A : Option Addr) (n c B : Nat) (ps : List Pth) (A2 : Option Addr) (n2 c2 : Nat) (zs : List Int) (w : World) (h : PthsAt w B A n ps) (hB : B ≤ w.heap.size) (hn : n ≤ c ∧ c ≤ maxLen) (hn1 : n ≤ 4294967296) (h2 : IntsAt .i64 w w.heap.size A2 n2 zs) (hn2 : n2 ≤ 4294967296) (hw : Brus w) :
    Calls Tryd.prog 23 #[.slice A n c, .slice A2 n2 c2] w fun e w' => e = .returned (.bool (isFull ps zs)) ∧ Below w.heap.size w w' := by
  have hl := h.1
  obtain ⟨A', n', c', m, f, hV, hyes⟩ := amongV_parts A n c ps h.1 zs
  have HC := Lib.hid (fun x hx1 hx2 hx3 hx4 => impl_stageAmong A n c B ps A2 n2 c2 zs x hx1 hx2 hn hn1 hx3 hn2 hx4)
  have HP := Lib.hid h
  have HI := Lib.hid h2
  have HW := Lib.hid hw
  clear h h2 hw
  cases hr : isTog ps zs
  · have HR := Lib.hid (isFull_off hr)
    rw [hr] at hV
    have HV := Lib.hid hV
    clear hV hr hyes
    go_enter Tryd.func23, Tryd.ntmps23
    go_wp2_with fail
    refine (HC.out w HP.out hB HI.out HW.out).mono ?_
    rw [HV.out, cross_lit]
    rintro e w1 ⟨rfl, hb⟩
    go_wp2
    go_ret
    exact ⟨by rw [HR.out]; rfl, hb.alloc hb.size _⟩
  · obtain ⟨rfl, rfl, rfl, rfl, hst⟩ := hyes hr
    obtain ⟨ha, m', hm, hz, hfr, hst'⟩ := tog_stage hr
    subst hl
    rw [hst] at hst'
    injection hst' with hst'
    subst hst'
    have h12 := arePs_len12 ha
    have hp12 := pow_le12 h12
    have HR : Hid (isFull ps zs = decide (agL (rowSt ps ps.length 0) (idxs m) ||| m = 2 ^ ps.length - 1)) := Lib.hid (by rw [hz]; exact full_mask ha hm hfr)
    have hF := fun x hx => impl_isFull A' ps.length c' (rowSt ps ps.length 0) (rowSt_lt ps ps.length 0) m (by omega) x h12 hx
    have HZ : Hid (decide (agL (rowSt ps ps.length 0) (idxs m) &&& m = 0) = true) := Lib.hid (decide_eq_true hfr)
    have hln : (xcells A' ps.length c' (rowSt ps ps.length 0)).length = 13 := xcells_length _ _ _ _
    have hinf : (Tryd.prog.info? 55).map (·.size) = some (xcells A' ps.length c' (rowSt ps ps.length 0)).length := by rw [hln]; exact info_cross
    have hlit := cross_lit A' ps.length c' (rowSt ps ps.length 0)
    generalize isFull ps zs = r at *
    rw [hr] at hV
    have HV := Lib.hid hV
    have HF := Lib.hid hF
    have HLT := Lib.hid hlit
    clear hV hr hyes hst hz hfr hF hlit hm
    generalize (xcells A' ps.length c' (rowSt ps ps.length 0)) = xs at *
    generalize decide (agL (rowSt ps ps.length 0) (idxs m) ||| m = 2 ^ ps.length - 1) = q at *
    generalize decide (agL (rowSt ps ps.length 0) (idxs m) &&& m = 0) = p at *
    generalize rowSt ps ps.length 0 = f at *
    go_enter Tryd.func23, Tryd.ntmps23
    go_wp2_with fail
    refine (HC.out w HP.out hB HI.out HW.out).mono ?_
    rw [HV.out, HLT.out]
    rintro e w1 ⟨rfl, hb⟩
    have hX := heap_alloc_new w1 (.cells xs.toArray 55)
    have hR1 := range_block hX
    have hB1 : Below w.heap.size w (w1.alloc (.cells xs.toArray 55)) := hb.alloc hb.size _
    obtain ⟨w2, hw2⟩ : ∃ w2, w2 = w1.alloc (.cells xs.toArray 55) := ⟨_, rfl⟩
    rw [← hw2] at hR1 hB1
    have HB1 := Lib.hid hB1
    have HR1 := Lib.hid hR1
    rw [HLT.out] at hw2
    have HFW := Lib.hid (HF.out w2 (HW.out.below HB1.out (Nat.le_refl _)))
    have HW2 := Lib.hid hw2
    clear hX hR1 hB1 hw2 hb HF
    go_wp2_with (refine wpList_want (by rfl) ?_; rw [← HW2.out]; refine wpList_load_mid rfl 55 _ rfl w1.heap.size 0 rfl xs _ HR1.out Tryd.underlying55 rfl hinf ?_)
    refine HFW.out.mono ?_
    rintro e w3 ⟨rfl, hb3⟩
    go_wp2
    go_ret
    exact ⟨by rw [HR.out, HZ.out]; simp, HB1.out.trans (hb3.mono HB1.out.size)⟩
theorem sp_IsFullStage (A0 : Option Addr) (n0 c0 : Nat) (zs0 : List Pth) (A1 : Option Addr) (n1 c1 : Nat) (zs1 : List Int) (w : World) (h0 : SlP w A0 n0 c0 zs0) (hs0 : n0 ≤ 1048576) (h1 : Sl .i64 w A1 n1 c1 zs1) (hs1 : n1 ≤ 1048576) (r : Bool) (hr : isFull zs0 zs1 = r) :
    Calls Tryd.prog 22 #[.slice A0 n0 c0, .slice A1 n1 c1] w fun e w' => e = .returned (.bool r) ∧ Below w.heap.size w w' := by
  subst hr
  exact spec_IsFullStage A0 n0 c0 _ zs0 A1 n1 c1 _ zs1 w h0.pths h1.ints (Nat.le_refl _) (Nat.le_refl _) h0.small (by omega) h1.cap.1 h1.bare
theorem im_IsFullStage (A0 : Option Addr) (n0 c0 : Nat) (zs0 : List Pth) (A1 : Option Addr) (n1 c1 : Nat) (zs1 : List Int) (w : World) (h0 : SlP w A0 n0 c0 zs0) (hs0 : n0 ≤ 1048576) (h1 : Sl .i64 w A1 n1 c1 zs1) (hs1 : n1 ≤ 1048576) (hv : Brus w) (r : Bool) (hr : isFull zs0 zs1 = r) :
    Calls Tryd.prog 23 #[.slice A0 n0 c0, .slice A1 n1 c1] w fun e w' => e = .returned (.bool r) ∧ Below w.heap.size w w' := by
  subst hr
  exact impl_IsFullStage A0 n0 c0 _ zs0 A1 n1 c1 zs1 w h0.pths (Nat.le_refl _) h0.cap h0.small h1.ints (by omega) hv
end Go.Proofs.YtgdficjihkglpabDoor
