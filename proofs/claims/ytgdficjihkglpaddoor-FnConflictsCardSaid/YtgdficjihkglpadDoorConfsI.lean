/- ConflictsOf: the program; its exact law's contracts. -/
import Derived.Test.YtgdficjihkglpadDoorIdsI
import Derived.Test.YtgdficjihkglpadDoorFindI
import Derived.Test.YtgdficjihkglpadDoorStageI
import Derived.Test.YtgdficjihkglpadDoorPthM
import Derived.Deep.RegionHeld3
namespace Go.Proofs.YtgdficjihkglpadDoor
open Go.RowKit
set_option linter.unusedVariables false

theorem confs_off {ps : List Pth} (h : arePs ps = false) (id : Int) : confsOf ps id = [] := by
  unfold confsOf
  rw [h]
  cases findK id ps <;> rfl
theorem confs_none {ps : List Pth} {id : Int} (h : findK id ps = none) : confsOf ps id = [] := by unfold confsOf; rw [h]
theorem confs_some {ps : List Pth} {id : Int} {k : Nat} (ha : arePs ps = true) (h : findK id ps = some k) : confsOf ps id = idsM ps (rowSt ps ps.length 0 k) := by
  rw [confs_mask ha (idAt_find h).1]
  unfold confsOf
  rw [h]
  simp only [ha, if_true]
theorem confs_len (ps : List Pth) (id : Int) : (confsOf ps id).length ≤ ps.length := by
  unfold confsOf
  cases findK id ps with
  | none => simp
  | some k =>
    simp only
    split
    · exact confTo_len ps k ps.length
    · simp
theorem cells_below {B : Nat} {w w' : World} (h : Below B w w') {g : Nat} (hg : g < B) {xs : List Value} (hr : w.rangeAt g 0 xs) : w'.rangeAt g 0 xs := fun j v hj => (h.cell (p := ⟨g, 0 + j, none⟩) hg).trans (hr j v hj)
theorem below_drew {a w : World} (h : Below a.heap.size a w) : Below a.heap.size a w.drew := ⟨h.os, h.tape, h.output, h.size, h.block⟩
set_option maxHeartbeats 1000000 in
set_option maxRecDepth 100000 in
theorem impl_ConflictsOf (A : Option Addr) (n c B : Nat) (ps : List Pth) (id : Int) (w : World) (h : PthsAt w B A n ps) (hB : B ≤ w.heap.size) (hn : n ≤ c ∧ c ≤ maxLen) (hn1 : n ≤ 4294967296) (hw : Brus w) :
    Calls Tryd.prog 29 #[.slice A n c, .int .i64 id] w fun e w' => ∃ v, e = .returned v ∧ Own .i64 3 w' w.heap.size v (confsOf ps id) ∧ Below w.heap.size w w' := by
  have hl := h.1
  have HP := Lib.hid h
  have HW := Lib.hid hw
  have HFP := Lib.hid (fun x hx hb => impl_FindPath A n c B ps id x hx hb hn1)
  cases ha : arePs ps
  · have HR := Lib.hid (confs_off ha id)
    have HC := Lib.hid (impl_crossingOf_no A n c B ps w h hB hn1 ha)
    clear h hw ha
    go_enter Tryd.func29, Tryd.ntmps29
    go_wp2_with fail
    refine HC.out.mono ?_
    rw [cross_lit]
    rintro e w1 ⟨rfl, hb⟩
    have HB1 := Lib.hid (hb.alloc hb.size (.cells #[.slice none 0 0, .int .u16 0, .int .u16 0, .int .u16 0, .int .u16 0, .int .u16 0, .int .u16 0, .int .u16 0, .int .u16 0, .int .u16 0, .int .u16 0, .int .u16 0, .int .u16 0] 67))
    have HF := Lib.hid (HFP.out _ (HP.out.below (HB1.out.mono hB)) (Nat.le_trans hB HB1.out.size))
    clear hb
    go_wp2_with fail
    refine HF.out.mono ?_
    rintro e w2 ⟨rfl, hb2⟩
    have HB2 := Lib.hid (HB1.out.trans (hb2.mono HB1.out.size))
    clear hb2
    go_wp2
    go_ret
    exact ⟨_, rfl, by rw [HR.out]; exact (own_bare .i64 3 w2).mono HB2.out.size, HB2.out.alloc HB2.out.size _⟩
  · subst hl
    have h12 := arePs_len12 ha
    have hp12 := pow_le12 h12
    have HC := Lib.hid (impl_crossingOf A ps.length c B ps w h hB hn ha)
    have HRN := Lib.hid (fun hf => confs_none (ps := ps) (id := id) hf)
    have HRS := Lib.hid (fun k hf => confs_some (id := id) (k := k) ha hf)
    have HLK := Lib.hid (fun k (hf : findK id ps = some k) => (idAt_find hf).1)
    have HRL := Lib.hid (fun k (hk : k < ps.length) => row_lt hk)
    have HFI := Lib.hid (fun (hf : findK id ps = none) => findI_no hf)
    have HFS := Lib.hid (fun k (hf : findK id ps = some k) => findI_some hf)
    have hln : (xcells A ps.length c (rowSt ps ps.length 0)).length = 13 := xcells_length _ _ _ _
    have hinf : (Tryd.prog.info? 67).map (·.size) = some (xcells A ps.length c (rowSt ps ps.length 0)).length := by rw [hln]; exact info_cross
    have HI := Lib.hid (fun m x hx hxB hm hxw => impl_idsOf A ps.length c B ps (rowSt ps ps.length 0) m x hx hxB h12 hm hxw)
    have HXR := Lib.hid (fun k hk => xcells_row A ps.length c (rowSt ps ps.length 0) k hk)
    have HLT := Lib.hid (cross_lit A ps.length c (rowSt ps ps.length 0))
    generalize (xcells A ps.length c (rowSt ps ps.length 0)) = xs at *
    generalize rowSt ps ps.length 0 = f at *
    clear h hw ha
    go_enter Tryd.func29, Tryd.ntmps29
    go_wp2_with fail
    refine HC.out.mono ?_
    rw [HLT.out]
    rintro e w1 ⟨rfl, hb⟩
    have hX := heap_alloc_new w1 (.cells xs.toArray 67)
    have hR1 := range_block hX
    have hB1 : Below w.heap.size w (w1.alloc (.cells xs.toArray 67)) := hb.alloc hb.size _
    have hs2 : w1.heap.size < (w1.alloc (.cells xs.toArray 67)).heap.size := by simp
    obtain ⟨w2, hw2⟩ : ∃ w2, w2 = w1.alloc (.cells xs.toArray 67) := ⟨_, rfl⟩
    rw [← hw2] at hR1 hB1 hs2
    rw [HLT.out] at hw2
    have HW2 := Lib.hid hw2
    have HR1 := Lib.hid hR1
    have HS2 := Lib.hid hs2
    have HB1 := Lib.hid hB1
    have HF := Lib.hid (HFP.out w2 (HP.out.below (HB1.out.mono hB)) (Nat.le_trans hB HB1.out.size))
    clear hX hR1 hB1 hs2 hb hw2 HFP HC
    go_wp2_with fail
    rw [← HW2.out]
    refine HF.out.mono ?_
    cases hf : findK id ps with
    | none =>
      have HR := Lib.hid (HRN.out hf)
      rw [HFI.out hf]
      rintro e w3 ⟨rfl, hb3⟩
      have HB3 := Lib.hid (HB1.out.trans (hb3.mono HB1.out.size))
      clear hb3 hf
      go_wp2
      go_ret
      exact ⟨_, rfl, by rw [HR.out]; exact (own_bare .i64 3 w3).mono HB3.out.size, HB3.out.alloc HB3.out.size _⟩
    | some k =>
      have HR := Lib.hid (HRS.out k hf)
      have hk := HLK.out k hf
      have hrl := HRL.out k hk
      rw [HFS.out k hf]
      rintro e w3 ⟨rfl, hb3⟩
      have hB3 : Below w.heap.size w w3 := HB1.out.trans (hb3.mono HB1.out.size)
      have hR3 := cells_below hb3 HS2.out HR1.out
      have hS3 : w1.heap.size < w3.heap.size := Nat.lt_of_lt_of_le HS2.out hb3.size
      have hrow : w3.cell? ⟨w1.heap.size, 1 + k, none⟩ = some (.int .u16 (f k : Nat)) := by
        have := hR3 (1 + k) _ (HXR.out k (by omega))
        rwa [Nat.zero_add] at this
      have x1 : (0 : Int) ≤ (k : Int) := by omega
      have x2 : (k : Int) < 12 := by omega
      have hmx : Tryd.prog.follows .mixedOrders = true := by kernel_rfl
      have HIW := Lib.hid (HI.out (f k) w3.drew (HP.out.below ((below_drew hB3).mono hB)) (Nat.le_trans hB hB3.size) hrl (HW.out.below (below_drew hB3) (Nat.le_refl _)))
      have HB3 := Lib.hid (below_drew hB3)
      have HS3 := Lib.hid hS3
      clear hb3 hf HRN HRS HLK HRL HFI HFS HI HXR HF HR1 HS2 HB1 hS3 hB3
      generalize hfk : f k = r at *
      clear hfk
      go_wp2
      refine wp_region_held_drew (S := fun W' => W'.rangeAt w1.heap.size 0 xs ∧ W'.cell? ⟨w1.heap.size, 1 + k, none⟩ = some (.int .u16 (r : Nat))) hmx ⟨hR3, hrow⟩ (fun hH => ?_)
      refine wpAnyH_take (i := 0) (v := .agg xs.toArray) rfl (by kernel_rfl) (by kernel_rfl) (by kernel_rfl) (fun _ _ _ h => h) (yieldsIf_load_mid (by rfl) 67 _ rfl w1.heap.size 0 rfl xs _ (fun _ h => h.1) Tryd.underlying67 rfl hinf) hH ?_
      try simp only [Act.put, List.setIfInBounds_toArray, List.set_cons_zero, List.set_cons_succ]
      refine wpAnyH_take (i := 1) (v := .int .i64 (k : Int)) rfl (by kernel_rfl) (by kernel_rfl) (by kernel_rfl) (fun _ _ _ h => h) (Or.inl ⟨by rfl, by intro w hSw; go_simp⟩) hH ?_
      try simp only [Act.put, List.setIfInBounds_toArray, List.set_cons_zero, List.set_cons_succ]
      refine wpAnyH_take (i := 2) (v := .pointer (some ⟨w1.heap.size, 1, none⟩)) rfl (by kernel_rfl) (by kernel_rfl) (by kernel_rfl) (fun _ _ _ h => h) (Or.inl ⟨by rfl, by intro w hSw; go_simp⟩) hH ?_
      try simp only [Act.put, List.setIfInBounds_toArray, List.set_cons_zero, List.set_cons_succ]
      refine wpAnyH_take (i := 3) (v := .pointer (some ⟨w1.heap.size, 1 + k, none⟩)) rfl (by kernel_rfl) (by kernel_rfl) (by kernel_rfl) (fun _ _ _ h => h) (Or.inl ⟨by rfl, by intro w hSw; go_simp⟩) hH ?_
      try simp only [Act.put, List.setIfInBounds_toArray, List.set_cons_zero, List.set_cons_succ]
      refine wpAnyH_take (i := 4) (v := .int .u16 (r : Nat)) rfl (by kernel_rfl) (by kernel_rfl) (by kernel_rfl) (fun _ _ _ h => h) (Or.inl ⟨by rfl, by intro w hSw; have hSw2 := hSw.2; clear hSw; go_simp⟩) hH ?_
      try simp only [Act.put, List.setIfInBounds_toArray, List.set_cons_zero, List.set_cons_succ]
      refine wpAnyH_ready (rs := [5]) (by decide +kernel) (by simp) (AllReadyH.cons rfl (fun K hK => ?_) AllReadyH.nil)
      go_simp
      refine HIW.out.mono ?_
      rintro e w4 ⟨v, rfl, ho, hb4⟩
      go_wp2_with fail
      have hH4 : w4.rangeAt w1.heap.size 0 xs ∧ w4.cell? ⟨w1.heap.size, 1 + k, none⟩ = some (.int .u16 (r : Nat)) := ⟨cells_below hb4 HS3.out hH.1, (hb4.cell (p := ⟨w1.heap.size, 1 + k, none⟩) HS3.out).trans hH.2⟩
      have HB4 := Lib.hid (HB3.out.trans (hb4.mono HB3.out.size))
      have HO := Lib.hid (ho.mono HB3.out.size)
      refine hK.out _ _ hH4 (fun _ => ?_)
      clear hK K hb4 ho HIW HB3
      try simp only [Act.put, List.setIfInBounds_toArray, List.set_cons_zero, List.set_cons_succ]
      refine wpAnyH_ready (rs := [6]) (by decide +kernel) (by simp) (AllReadyH.cons rfl (fun K hK => ?_) AllReadyH.nil)
      go_simp
      refine hK.out _ _ hH4 (fun _ => ?_)
      clear hK K
      try simp only [Act.put, List.setIfInBounds_toArray, List.set_cons_zero, List.set_cons_succ]
      refine wpAnyH_done (by decide +kernel) ?_ _
      go_wp2
      go_ret
      exact ⟨_, rfl, by rw [HR.out]; exact HO.out, HB4.out⟩
end Go.Proofs.YtgdficjihkglpadDoor
