/- AddToStage: the program; its exact law's contracts. -/
import Derived.Test.YtgdficjihkglpabDoorFullI
import Derived.Test.YtgdficjihkglpabDoorIdsI
import Derived.Test.YtgdficjihkglpabDoorSS
import Derived.Deep.RegionHeld3
namespace Go.Proofs.YtgdficjihkglpabDoor
open Go.RowKit
set_option linter.unusedVariables false

theorem addS_off {ps : List Pth} {zs : List Int} (h : isTog ps zs = false) : addS ps zs = zs := by unfold addS; rw [h]; rfl
theorem below_cells {B : Nat} {w w' : World} (h : Below B w w') {g : Nat} (hg : g < B) {xs : List Value} (hr : w.rangeAt g 0 xs) : w'.rangeAt g 0 xs := fun j v hj => (h.cell (p := ⟨g, 0 + j, none⟩) hg).trans (hr j v hj)
theorem drew_below {a w : World} (h : Below a.heap.size a w) : Below a.heap.size a w.drew := ⟨h.os, h.tape, h.output, h.size, h.block⟩
theorem lib_Clone (A : Option Addr) (n c B : Nat) (zs : List Int) (w : World) (h : IntsAt .i64 w B A n zs) (hB : B ≤ w.heap.size) (hA : A = none → n = 0 ∧ c = 0) (hn : n ≤ 4294967296) :
    Calls Tryd.prog 48 #[.slice A n c] w fun e w' => ∃ v, e = .returned v ∧ Own .i64 3 w' w.heap.size v zs ∧ Below w.heap.size w w' := by
  have hl := h.1
  cases A with
  | none =>
    obtain ⟨rfl, rfl⟩ := hA rfl
    obtain rfl : zs = [] := List.eq_nil_of_length_eq_zero hl
    have hnil : ∀ W, (binOp .eql 33 (.slice none 0 0) (.slice none 0 0)).run Tryd.prog W = .ok (.bool true) W := fun W => eql_slice_nil Tryd.underlying33 _ _ _ W
    go_enter Tryd.func48, Tryd.ntmps48
    go_wp2
    go_ret
    exact ⟨_, rfl, own_nil _ _ _ _, Below.refl _ _⟩
  | some ad =>
    have hnil : ∀ W, (binOp .eql 33 (.slice (some ad) n c) (.slice none 0 0)).run Tryd.prog W = .ok (.bool false) W := fun W => eql_slice_nil Tryd.underlying33 _ _ _ W
    go_enter Tryd.func48, Tryd.ntmps48
    go_wp2_with (at_builtin; refine wpList_app rfl _ _ 33 33 rfl .i64 3 3 8 Tryd.underlying33 Tryd.underlying33 info_i64 w.heap.size _ [] rfl (own_bare _ _ w) (some ad) n c B zs rfl (h.keep fun p hp => World.cell?_of_block (Below.heap_alloc w _ _ (by omega))) hA (by decide) (by simp; omega) (by simp) ?_; intro v1 w1 hown1 hgrow1 hat1)
    go_ret
    exact ⟨v1, rfl, by simpa using hown1, (own_bare .i64 3 w).push (Nat.le_refl _) ((Below.refl _ _).alloc (Nat.le_refl _) _) (by simp) hgrow1⟩
set_option maxHeartbeats 1000000 in
set_option maxRecDepth 100000 in
theorem impl_AddToStage (A : Option Addr) (n c B : Nat) (ps : List Pth) (A2 : Option Addr) (n2 c2 : Nat) (zs : List Int) (w : World) (h : PthsAt w B A n ps) (hB : B ≤ w.heap.size) (hn : n ≤ c ∧ c ≤ maxLen) (hn1 : n ≤ 4294967296) (h2 : IntsAt .i64 w w.heap.size A2 n2 zs) (hn2 : n2 ≤ 4294967296) (hnil2 : A2 = none → n2 = 0 ∧ c2 = 0) (hw : Brus w) :
    Calls Tryd.prog 25 #[.slice A n c, .slice A2 n2 c2] w fun e w' => ∃ v, e = .returned v ∧ Own .i64 3 w' w.heap.size v (addS ps zs) ∧ Below w.heap.size w w' := by
  have hl := h.1
  obtain ⟨A', n', c', m, f, hV, hyes⟩ := amongV_parts A n c ps h.1 zs
  have HC := Lib.hid (fun x hx1 hx2 hx3 hx4 => impl_stageAmong A n c B ps A2 n2 c2 zs x hx1 hx2 hn hn1 hx3 hn2 hx4)
  have HP := Lib.hid h
  have HI := Lib.hid h2
  have HW := Lib.hid hw
  clear h h2 hw
  cases hr : isTog ps zs
  · have HR := Lib.hid (addS_off hr)
    rw [hr] at hV
    have HV := Lib.hid hV
    clear hV hr hyes
    go_enter Tryd.func25, Tryd.ntmps25
    go_wp2_with fail
    refine (HC.out w HP.out hB HI.out HW.out).mono ?_
    rw [HV.out, cross_lit]
    rintro e w1 ⟨rfl, hb⟩
    have HB1 := Lib.hid (hb.alloc hb.size (.cells #[.slice A' n' c', .int .u16 (f 0 : Nat), .int .u16 (f 1 : Nat), .int .u16 (f 2 : Nat), .int .u16 (f 3 : Nat), .int .u16 (f 4 : Nat), .int .u16 (f 5 : Nat), .int .u16 (f 6 : Nat), .int .u16 (f 7 : Nat), .int .u16 (f 8 : Nat), .int .u16 (f 9 : Nat), .int .u16 (f 10 : Nat), .int .u16 (f 11 : Nat)] 55))
    have HK := Lib.hid (lib_Clone A2 n2 c2 w.heap.size zs _ (HI.out.keep fun p hp => HB1.out.cell hp) HB1.out.size hnil2 hn2)
    have HS := Lib.hid HB1.out.size
    clear hb
    go_wp2_with fail
    refine HK.out.mono ?_
    rintro e w3 ⟨v, rfl, ho, hb3⟩
    go_wp2
    go_ret
    exact ⟨_, rfl, by rw [HR.out]; exact ho.mono HS.out, HB1.out.trans (hb3.mono HS.out)⟩
  · obtain ⟨rfl, rfl, rfl, rfl, hst⟩ := hyes hr
    obtain ⟨ha, m', hm, hz, hfr, hst'⟩ := tog_stage hr
    subst hl
    rw [hst] at hst'
    injection hst' with hst'
    subst hst'
    have h12 := arePs_len12 ha
    have hp12 := pow_le12 h12
    have HR : Hid (addS ps zs = idsM ps (fillTo (rowSt ps ps.length 0) m ps.length)) := Lib.hid (by rw [hz]; exact add_stage ha hm hfr)
    have hF := fun x => impl_fill A' ps.length c' (rowSt ps ps.length 0) (rowSt_lt ps ps.length 0) m x h12 hm
    have hQ := fill_lt (f := rowSt ps ps.length 0) hm ps.length (Nat.le_refl _)
    have hI := fun x hx hxB hxw => impl_idsOf A' ps.length c' B ps (rowSt ps ps.length 0) (fillTo (rowSt ps ps.length 0) m ps.length) x hx hxB h12 hQ hxw
    have hln : (xcells A' ps.length c' (rowSt ps ps.length 0)).length = 13 := xcells_length _ _ _ _
    have hinf : (Tryd.prog.info? 55).map (·.size) = some (xcells A' ps.length c' (rowSt ps ps.length 0)).length := by rw [hln]; exact info_cross
    have hlit := cross_lit A' ps.length c' (rowSt ps ps.length 0)
    generalize addS ps zs = r at *
    rw [hr] at hV
    have HV := Lib.hid hV
    have HF := Lib.hid hF
    have HIO := Lib.hid hI
    have HLT := Lib.hid hlit
    clear hV hr hyes hst hz hfr hF hI hlit hm hQ
    generalize fillTo (rowSt ps ps.length 0) m ps.length = q at *
    generalize (xcells A' ps.length c' (rowSt ps ps.length 0)) = xs at *
    generalize rowSt ps ps.length 0 = f at *
    go_enter Tryd.func25, Tryd.ntmps25
    go_wp2_with fail
    refine (HC.out w HP.out hB HI.out HW.out).mono ?_
    rw [HV.out, HLT.out]
    rintro e w1 ⟨rfl, hb⟩
    have hX := heap_alloc_new w1 (.cells xs.toArray 55)
    have hR1 := range_block hX
    have hB1 : Below w.heap.size w (w1.alloc (.cells xs.toArray 55)) := hb.alloc hb.size _
    have hs2 : w1.heap.size < (w1.alloc (.cells xs.toArray 55)).heap.size := by simp
    obtain ⟨w2, hw2⟩ : ∃ w2, w2 = w1.alloc (.cells xs.toArray 55) := ⟨_, rfl⟩
    rw [← hw2] at hR1 hB1 hs2
    have HB1 := Lib.hid hB1
    have HR1 := Lib.hid hR1
    have HS2 := Lib.hid hs2
    rw [HLT.out] at hw2
    have hmx : Tryd.prog.follows .mixedOrders = true := by kernel_rfl
    clear hX hR1 hB1 hs2 hb
    go_wp2
    rw [← hw2]
    clear hw2
    refine wp_region_held_drew (S := fun W' => W'.rangeAt w1.heap.size 0 xs) hmx HR1.out (fun hH => ?_)
    refine wpAnyH_take (i := 0) (v := .agg xs.toArray) rfl (by kernel_rfl) (by kernel_rfl) (by kernel_rfl) (fun _ _ _ h => h) (yieldsIf_load_mid (by rfl) 55 _ rfl w1.heap.size 0 rfl xs _ (fun _ h => h) Tryd.underlying55 rfl hinf) hH ?_
    try simp only [Act.put, List.setIfInBounds_toArray, List.set_cons_zero, List.set_cons_succ]
    refine wpAnyH_take (i := 1) (v := .agg xs.toArray) rfl (by kernel_rfl) (by kernel_rfl) (by kernel_rfl) (fun _ _ _ h => h) (yieldsIf_load_mid (by rfl) 55 _ rfl w1.heap.size 0 rfl xs _ (fun _ h => h) Tryd.underlying55 rfl hinf) hH ?_
    try simp only [Act.put, List.setIfInBounds_toArray, List.set_cons_zero, List.set_cons_succ]
    refine wpAnyH_ready (rs := [2]) (by decide +kernel) (by simp) (AllReadyH.cons rfl (fun K hK => ?_) AllReadyH.nil)
    go_simp
    refine hK.out _ _ hH (fun _ => ?_)
    clear hK K
    try simp only [Act.put, List.setIfInBounds_toArray, List.set_cons_zero, List.set_cons_succ]
    refine wpAnyH_ready (rs := [3]) (by decide +kernel) (by simp) (AllReadyH.cons rfl (fun K hK => ?_) AllReadyH.nil)
    go_simp
    refine (HF.out _).mono ?_
    rintro e w3 ⟨rfl, hb3⟩
    go_wp2_with fail
    have hB3 : Below w.heap.size w w3 := (drew_below HB1.out).trans (hb3.mono HB1.out.size)
    have hR3 := below_cells hb3 HS2.out hH
    have HB3 := Lib.hid hB3
    have HSZ : Hid (w1.heap.size < w3.heap.size) := Lib.hid (Nat.lt_of_lt_of_le HS2.out hb3.size)
    have HIW := Lib.hid (HIO.out w3 (HP.out.below (hB3.mono hB)) (Nat.le_trans hB hB3.size) (HW.out.below hB3 (Nat.le_refl _)))
    refine hK.out _ _ hR3 (fun _ => ?_)
    clear hK K hb3 hH HF HIO HB1 HS2 HR1
    try simp only [Act.put, List.setIfInBounds_toArray, List.set_cons_zero, List.set_cons_succ]
    refine wpAnyH_ready (rs := [4]) (by decide +kernel) (by simp) (AllReadyH.cons rfl (fun K hK => ?_) AllReadyH.nil)
    go_simp
    refine HIW.out.mono ?_
    rintro e w4 ⟨v, rfl, ho, hb4⟩
    go_wp2_with fail
    have hR4 := below_cells hb4 (show w1.heap.size < w3.heap.size from HSZ.out) hR3
    have HB4 := Lib.hid (HB3.out.trans (hb4.mono HB3.out.size))
    have HO := Lib.hid (ho.mono HB3.out.size)
    refine hK.out _ _ hR4 (fun _ => ?_)
    clear hK K hb4 ho HIW HB3
    try simp only [Act.put, List.setIfInBounds_toArray, List.set_cons_zero, List.set_cons_succ]
    refine wpAnyH_ready (rs := [5]) (by decide +kernel) (by simp) (AllReadyH.cons rfl (fun K hK => ?_) AllReadyH.nil)
    go_simp
    refine hK.out _ _ hR4 (fun _ => ?_)
    clear hK K
    try simp only [Act.put, List.setIfInBounds_toArray, List.set_cons_zero, List.set_cons_succ]
    refine wpAnyH_done (by decide +kernel) ?_ _
    go_wp2
    go_ret
    exact ⟨_, rfl, by rw [HR.out]; exact HO.out, HB4.out⟩
theorem sp_AddToStage (A0 : Option Addr) (n0 c0 : Nat) (zs0 : List Pth) (A1 : Option Addr) (n1 c1 : Nat) (zs1 : List Int) (w : World) (h0 : SlP w A0 n0 c0 zs0) (hs0 : n0 ≤ 1048576) (h1 : Sl .i64 w A1 n1 c1 zs1) (hs1 : n1 ≤ 1048576) (r : List Int) (hr : addS zs0 zs1 = r) :
    Calls Tryd.prog 24 #[.slice A0 n0 c0, .slice A1 n1 c1] w fun e w' => ∃ v, e = .returned v ∧ Own .i64 3 w' w.heap.size v r ∧ Below w.heap.size w w' ∧ r.length ≤ 4398046511104 := by
  have hl := addS_length zs0 zs1
  have := h0.pths.1
  have := h1.len
  subst hr
  exact (spec_AddToStage A0 n0 c0 _ zs0 A1 n1 c1 _ zs1 w h0.pths h1.ints (Nat.le_refl _) (Nat.le_refl _) (by omega) (by omega) h1.cap.1 h1.bare).mono fun e w' ⟨v, h1, h2, h3⟩ => ⟨v, h1, h2, h3, by omega⟩
theorem im_AddToStage (A0 : Option Addr) (n0 c0 : Nat) (zs0 : List Pth) (A1 : Option Addr) (n1 c1 : Nat) (zs1 : List Int) (w : World) (h0 : SlP w A0 n0 c0 zs0) (hs0 : n0 ≤ 1048576) (h1 : Sl .i64 w A1 n1 c1 zs1) (hs1 : n1 ≤ 1048576) (hv : Brus w) (r : List Int) (hr : addS zs0 zs1 = r) :
    Calls Tryd.prog 25 #[.slice A0 n0 c0, .slice A1 n1 c1] w fun e w' => ∃ v, e = .returned v ∧ Own .i64 3 w' w.heap.size v r ∧ Below w.heap.size w w' ∧ r.length ≤ 4398046511104 := by
  have hl := addS_length zs0 zs1
  have := h0.pths.1
  have := h1.len
  subst hr
  exact (impl_AddToStage A0 n0 c0 _ zs0 A1 n1 c1 zs1 w h0.pths (Nat.le_refl _) h0.cap h0.small h1.ints (by omega) h1.bare hv).mono fun e w' ⟨v, h1, h2, h3⟩ => ⟨v, h1, h2, h3, by omega⟩
end Go.Proofs.YtgdficjihkglpabDoor
