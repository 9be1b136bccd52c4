/- The walk of FnConflicts. -/
import Derived.Test.YtgdficjihkglpadDoorFnC
import Derived.Test.YtgdficjihkglpadDoorDraw5b
import Derived.Test.YtgdficjihkglpadDoorGrow
import Derived.Test.YtgdficjihkglpadDoorConf
import Derived.Deep.RegionHeld3
namespace Go.Proofs.YtgdficjihkglpadDoor
open Go.RowKit
set_option linter.unusedVariables false

theorem rowP {w : World} {lo : Nat} {A : Option Addr} {c : Nat} {ps : List Pth} (h : w.ownsRow lo 43 4 (.slice A ps.length c) ps.length (pcells ps)) : PthsAt w w.heap.size A ps.length ps := ⟨rfl, ownr_cells h⟩
theorem pair_ints (w : World) (x y : Int) : IntsAt .i64 (w.alloc (.cells #[.int .i64 x, .int .i64 y] 3)) (w.alloc (.cells #[.int .i64 x, .int .i64 y] 3)).heap.size (some ⟨w.heap.size, 0, none⟩) 2 [x, y] := (own_lit (k := .i64) (E := 3) w [x, y] 2 (Nat.le_refl _) (by decide) rfl).ints
set_option maxHeartbeats 8000000 in
set_option maxRecDepth 100000 in
theorem walk_FnConflicts (W : World) (A : Option Addr) (n c : Nat) (zs : List Int) (ha : IntsAt .u8 W W.heap.size A n zs ∧ (∀ z ∈ zs, (Lit.int .u8 z).wf = true) ∧ n ≤ c ∧ c ≤ maxLen) (hv : Brus W) :
    Calls Tryd.prog 5 #[.slice A n c] W fun e w' => e = .returned (.bool true) ∧ Below W.heap.size W w' := by
  obtain ⟨ha1, ha2, ha3, ha4⟩ := ha
  unfold maxLen at ha4
  have hb : Bytes W W.heap.size A n zs := ⟨ha1, fun z hz => u8_of_wf (ha2 z hz)⟩
  have HB := Lib.hid hb
  have HV := Lib.hid hv
  have hmx : Tryd.prog.follows .mixedOrders = true := by kernel_rfl
  clear ha1 ha2 hb hv
  by_cases hbig : 1048576 < n
  · go_enter Tryd.func5, Tryd.ntmps5
    go_wp2_with fail
    refine (laws_big _ _ _ _ (by omega)).mono ?_
    rintro e w' ⟨rfl, rfl⟩
    go_wp2
    go_ret
    exact ⟨rfl, Below.refl _ _⟩
  · go_enter Tryd.func5, Tryd.ntmps5
    go_wp2_with fail
    refine (laws_big _ _ _ _ (by omega)).mono ?_
    rintro e w' ⟨rfl, rfl⟩
    go_wp2_with fail
    refine (spec_DrawConflict A n c _ zs _ HB.out (Nat.le_refl _) (by omega)).mono ?_
    rintro e w1 ⟨p, q, -, -, rfl, hb1⟩
    have HPQ : Hid (∀ x, Calls Tryd.prog 27 #[p.val, q.val] x fun e w' => e = .returned (.bool (conf p q)) ∧ Below x.heap.size x w') := Lib.hid fun x => impl_Conflict p q x
    have HQP : Hid (∀ x, Calls Tryd.prog 27 #[q.val, p.val] x fun e w' => e = .returned (.bool (conf p q)) ∧ Below x.heap.size x w') := Lib.hid fun x => conf_symm q p ▸ impl_Conflict q p x
    have HPP : Hid (∀ x, Calls Tryd.prog 27 #[p.val, p.val] x fun e w' => e = .returned (.bool false) ∧ Below x.heap.size x w') := Lib.hid fun x => conf_self p ▸ impl_Conflict p p x
    generalize conf p q = r at *
    obtain ⟨p0, p1, p2, p3⟩ := p
    obtain ⟨q0, q1, q2, q3⟩ := q
    simp only [Pth.val] at *
    have hba := (hb1.alloc hb1.size (.cells #[.int .i64 p0, .int .i64 p1, .int .i64 p2, .int .i64 p3] 43)).alloc (Nat.le_trans hb1.size (by simp)) (.cells #[.int .i64 q0, .int .i64 q1, .int .i64 q2, .int .i64 q3] 43)
    have hXp := (Below.heap_alloc (w1.alloc (.cells #[.int .i64 p0, .int .i64 p1, .int .i64 p2, .int .i64 p3] 43)) (.cells #[.int .i64 q0, .int .i64 q1, .int .i64 q2, .int .i64 q3] 43) w1.heap.size (by simp)).trans (heap_alloc_new w1 (.cells #[.int .i64 p0, .int .i64 p1, .int .i64 p2, .int .i64 p3] 43))
    have hXq := heap_alloc_new (w1.alloc (.cells #[.int .i64 p0, .int .i64 p1, .int .i64 p2, .int .i64 p3] 43)) (.cells #[.int .i64 q0, .int .i64 q1, .int .i64 q2, .int .i64 q3] 43)
    rw [World.size_alloc] at hXq
    obtain ⟨w2, hw2⟩ : ∃ w2, w2 = (w1.alloc (.cells #[.int .i64 p0, .int .i64 p1, .int .i64 p2, .int .i64 p3] 43)).alloc (.cells #[.int .i64 q0, .int .i64 q1, .int .i64 q2, .int .i64 q3] 43) := ⟨_, rfl⟩
    rw [← hw2] at hba hXp hXq
    have hsp := lt_of_block hXp
    have hsq := lt_of_block hXq
    have c0 := fun x : GW w2 => (x.ok.cell (p := ⟨w1.heap.size, 0, none⟩) hsp).trans (cell_of_row w2 _ 0 _ _ _ hXp)
    have c1 := fun x : GW w2 => (x.ok.cell (p := ⟨w1.heap.size, 1, none⟩) hsp).trans (cell_of_row w2 _ 1 _ _ _ hXp)
    have c2 := fun x : GW w2 => (x.ok.cell (p := ⟨w1.heap.size, 2, none⟩) hsp).trans (cell_of_row w2 _ 2 _ _ _ hXp)
    have c3 := fun x : GW w2 => (x.ok.cell (p := ⟨w1.heap.size, 3, none⟩) hsp).trans (cell_of_row w2 _ 3 _ _ _ hXp)
    have d0 := fun x : GW w2 => (x.ok.cell (p := ⟨w1.heap.size + 1, 0, none⟩) hsq).trans (cell_of_row w2 _ 0 _ _ _ hXq)
    have d1 := fun x : GW w2 => (x.ok.cell (p := ⟨w1.heap.size + 1, 1, none⟩) hsq).trans (cell_of_row w2 _ 1 _ _ _ hXq)
    have d2 := fun x : GW w2 => (x.ok.cell (p := ⟨w1.heap.size + 1, 2, none⟩) hsq).trans (cell_of_row w2 _ 2 _ _ _ hXq)
    have d3 := fun x : GW w2 => (x.ok.cell (p := ⟨w1.heap.size + 1, 3, none⟩) hsq).trans (cell_of_row w2 _ 3 _ _ _ hXq)
    simp only [List.getElem?_toArray, List.getElem?_cons_succ, List.getElem?_cons_zero] at c0 c1 c2 c3 d0 d1 d2 d3
    have hne : (r != r) = false := by cases r <;> rfl
    have HBA := Lib.hid hba
    have HW2 := Lib.hid hw2
    clear hba hXp hXq hsp hsq hb1 hw2
    go_wp2
    rw [← HW2.out]
    refine wp_region_grow (by kernel_rfl) (by kernel_rfl) ?_
    repeat (go_big_quiet_step (first
      | (go_at_call 27; (first | with_reducible exact calls_gw _ (HPQ.out _) | with_reducible exact calls_gw _ (HQP.out _) | with_reducible exact calls_gw _ (HPP.out _)))))
    refine wpQuiet_nil ?_
    intro x5
    have HB5 := Lib.hid (HBA.out.trans (x5.ok.mono HBA.out.size))
    clear c0 c1 c2 c3 d0 d1 d2 d3 HW2 HBA HPQ HQP HPP
    generalize x5.val = w5 at *
    clear x5
    go_wp2_with fail
    refine (spec_DrawCountConflicts A n c _ zs _ (HB.out.below HB5.out) HB5.out.size (by omega)).mono ?_
    rintro e w6 ⟨v, ps, rfl, hrow, -, hp0, hp7, hb6⟩
    have hb6' := HB5.out.trans (hb6.mono HB5.out.size)
    have HCN := Lib.hid (fun x B A c h hB hn => impl_CountConflicts A ps.length c B ps x h hB hn (by omega))
    have HCS := Lib.hid (fun x B A c h hB => spec_CountConflicts A ps.length c B ps x h hB (by omega))
    have HCO := Lib.hid (fun id x B A c h hB hn hw => impl_ConflictsOf A ps.length c B ps id x h hB hn (by omega) hw)
    have HTG := Lib.hid (fun x y B A c A2 c2 w h hB hn h2 hw => impl_IsTogether A ps.length c B ps A2 2 c2 [x, y] w h hB hn (by omega) h2 (by decide) hw)
    have HFP := Lib.hid (fun id x B A c h hB => impl_FindPath A ps.length c B ps id x h hB (by omega))
    obtain ⟨Al, cl, rfl⟩ := ownr_sliced hrow
    have hcap := ownr_cap hrow
    have HSC := Lib.hid (sumC_all ps)
    have HS0 : Hid (sumC ps 0 = 0) := Lib.hid rfl
    have HSL := Lib.hid (sumC_le ps)
    have HALL := Lib.hid (fun i (hi : i < ps.length) z hz => confs_all hi (z := z) hz)
    have HCL := Lib.hid (confs_len ps)
    clear hb6 HB5
    go_wp2
    go_loopw [6, 7] (fun s i wr => ∃ k : Nat, k ≤ ps.length ∧ i = .int .i64 k ∧ s = .int .i64 (sumC ps k : Nat) ∧ wr.ownsRow w5.heap.size 43 4 (.slice Al ps.length cl) ps.length (pcells ps) ∧ Below W.heap.size W wr) (fun _ i _ => ps.length - (intOf i).toNat)
    case atStart => exact ⟨0, Nat.zero_le _, rfl, by rw [HS0.out]; rfl, hrow, hb6'⟩
    case round =>
      clear hrow hb6'
      obtain ⟨k, hk, rfl, rfl, hrow, hbl⟩ := hrel
      have hsz := hbl.size
      by_cases hlt : k < ps.length
      · obtain ⟨ad, p, rfl, hA, hpk, hpt⟩ := (rowP hrow).at hlt
        obtain ⟨ci, -, -, -⟩ := hpt
        have hzi : idAt ps k = p.id := by unfold idAt; rw [pAt_some hpk]
        have HZI := Lib.hid hzi
        generalize p.id = zi at *
        have HAK := Lib.hid (fun z hz => HALL.out k hlt z hz)
        have HSK := Lib.hid (sumC_succ ps k)
        have hsk := HSL.out k
        have hck := HCL.out zi
        have hmul : k * ps.length ≤ 7 * 7 := Nat.mul_le_mul (by omega) (by omega)
        have HCW := Lib.hid (HCO.out zi wr _ _ _ (rowP hrow) (Nat.le_refl _) hcap (HV.out.below hbl (Nat.le_refl _)))
        clear hpk hzi
        go_wp2_with fail
        refine HCW.out.mono ?_
        rintro e w7 ⟨vc, rfl, ho, hb7⟩
        obtain ⟨Ac, cc, rfl⟩ := ho.sliced
        have hrow7 := ownr_below hrow hb7
        have hbl7 := hbl.trans (hb7.mono hsz)
        have ci7 := (hb7.cell (p := ad.add (k * 4)) hA).trans ci
        have hA7 : (ad.add (k * 4)).block < w7.heap.size := Nat.lt_of_lt_of_le hA hb7.size
        have HSS : Hid (sumC ps k + (confsOf ps zi).length = sumC ps (k + 1)) := Lib.hid (by rw [HSK.out, HZI.out])
        have hst : sumC ps k + (confsOf ps zi).length ≤ 1000 := by omega
        have HAZ : Hid (∀ z, z ∈ confsOf ps zi → hasI (confsOf ps z) zi = true ∧ isTog ps [zi, z] = false ∧ 0 ≤ findI z ps) := Lib.hid (fun z hz => by have := HAK.out z (by rw [HZI.out]; exact hz); rw [HZI.out] at this; exact this)
        have HLZ := Lib.hid HCL.out
        clear hrow hbl hb7 ci hA hsk hmul HCW HAK HSK
        generalize hcz : confsOf ps zi = lc at *
        generalize hsq : sumC ps k = sq at *
        clear hcz hsq
        have ho0 := ho.mono (Nat.zero_le _)
        clear ho
        have HO0 := Lib.hid ho0
        have HR0 := Lib.hid hrow7
        have HB0 := Lib.hid hbl7
        have HC0 := Lib.hid ci7
        have HA0 := Lib.hid hA7
        clear ho0 hrow7 hbl7 ci7 hA7
        go_wp2
        go_loopw [9] (fun j wr => ∃ m : Nat, m ≤ lc.length ∧ j = .int .i64 m ∧ wr.ownsRow w5.heap.size 43 4 (.slice (some ad) ps.length cl) ps.length (pcells ps) ∧ Own .i64 3 wr 0 (.slice Ac lc.length cc) lc ∧ wr.cell? (ad.add (k * 4)) = some (.int .i64 zi) ∧ (ad.add (k * 4)).block < wr.heap.size ∧ Below W.heap.size W wr) (fun j _ => lc.length - (intOf j).toNat)
        case atStart => exact ⟨0, Nat.zero_le _, rfl, HR0.out, HO0.out, HC0.out, HA0.out, HB0.out⟩
        case round =>
          clear HR0 HO0 HC0 HA0 HB0
          obtain ⟨m, hm, rfl, hrow, ho, ci, hA, hbl⟩ := hrel
          by_cases hltm : m < lc.length
          · obtain ⟨ac, rfl, hC, hcell⟩ := ho.ints.2 (by omega)
            have cj := hcell m hltm
            have hzm : lc.getD m 0 ∈ lc := by rw [List.getD_eq_getElem?_getD, List.getElem?_eq_getElem hltm]; exact List.getElem_mem _
            have hCj : (ac.add m).block < wr.heap.size := by rw [add_block]; exact hC
            replace hC := hCj
            clear hcell hCj
            generalize lc.getD m 0 = zj at *
            obtain ⟨hz1, hz2, hz3⟩ := HAZ.out zj hzm
            have hdr : Below wr.heap.size wr wr.drew := ⟨rfl, rfl, rfl, Nat.le_refl _, fun _ _ => rfl⟩
            have HRW := Lib.hid hrow
            have HOW := Lib.hid ho
            have HBW := Lib.hid hbl
            have HCO2 : Hid (∀ x, Below wr.heap.size wr x → Calls Tryd.prog 29 #[.slice (some ad) ps.length cl, .int .i64 zj] x fun e w' => ∃ v, e = .returned v ∧ Own .i64 3 w' x.heap.size v (confsOf ps zj) ∧ Below x.heap.size x w') := Lib.hid (fun x hx => HCO.out zj x _ _ _ (rowP (ownr_below HRW.out hx)) (Nat.le_refl _) hcap (HV.out.below (HBW.out.trans (hx.mono HBW.out.size)) (Nat.le_refl _)))
            have hcl := HCL.out zj
            have HCNT : Hid (∀ (x : World) (A3 : Option Addr) (n3 c3 : Nat), IntsAt .i64 x x.heap.size A3 n3 (confsOf ps zj) → Calls Tryd.prog 30 #[.slice A3 n3 c3, .int .i64 zi] x fun e w' => e = .returned (.bool true) ∧ x = w') := Lib.hid (fun x A3 n3 c3 h => hz1 ▸ law_contains A3 n3 c3 _ _ zi x h (by have := h.1; omega))
            have HTG2 : Hid (∀ x, Below wr.heap.size wr x → ∀ b, b < x.heap.size → IntsAt .i64 x x.heap.size (some ⟨b, 0, none⟩) 2 [zi, zj] → Calls Tryd.prog 25 #[.slice (some ad) ps.length cl, .slice (some ⟨b, 0, none⟩) 2 2] x fun e w' => e = .returned (.bool false) ∧ Below x.heap.size x w') := Lib.hid (fun x hx b hb h => hz2 ▸ HTG.out zi zj _ _ _ _ 2 x (rowP (ownr_below HRW.out hx)) (Nat.le_refl _) hcap h (HV.out.below (HBW.out.trans (hx.mono HBW.out.size)) (Nat.le_refl _)))
            have HFP2 : Hid (∀ x, Below wr.heap.size wr x → Calls Tryd.prog 31 #[.slice (some ad) ps.length cl, .int .i64 zj] x fun e w' => e = .returned (.int .i64 (findI zj ps)) ∧ Below x.heap.size x w') := Lib.hid (fun x hx => HFP.out zj x _ _ _ (rowP (ownr_below HRW.out hx)) (Nat.le_refl _))
            have CI := Lib.hid ci
            clear hz1 hz2 hrow ho hbl hcl hzm
            generalize findI zj ps = fj at *
            have x1 : (0 : Int) ≤ (m : Int) := by omega
            have x2 : (m : Int) < (lc.length : Int) := by omega
            have x3 : (0 : Int) ≤ (k : Int) := by omega
            have x4 : (k : Int) < (ps.length : Int) := by omega
            go_wp2
            refine wp_region_held_drew (S := fun W' => Below wr.heap.size wr W') hmx hdr (fun hS => ?_)
            refine wpAnyH_take (i := 0) (v := ?_) rfl (by decide +kernel) (by decide +kernel) (by decide +kernel) (fun _ _ _ h => h) (Or.inl ⟨by rfl, ?_⟩) hS ?_
            rotate_left
            · intro W' hW
              clear hW; go_simp
              try with_reducible rfl
            try simp only [Act.put, List.setIfInBounds_toArray, List.set_cons_zero, List.set_cons_succ]
            refine wpAnyH_take (i := 1) (v := ?_) rfl (by decide +kernel) (by decide +kernel) (by decide +kernel) (fun _ _ _ h => h) (Or.inl ⟨by rfl, ?_⟩) hS ?_
            rotate_left
            · intro W' hW
              clear hW; go_simp
              try with_reducible rfl
            try simp only [Act.put, List.setIfInBounds_toArray, List.set_cons_zero, List.set_cons_succ]
            refine wpAnyH_take (i := 2) (v := ?_) rfl (by decide +kernel) (by decide +kernel) (by decide +kernel) (fun _ _ _ h => h) (Or.inl ⟨by rfl, ?_⟩) hS ?_
            rotate_left
            · intro W' hW
              clear hW; go_simp
              try with_reducible rfl
            try simp only [Act.put, List.setIfInBounds_toArray, List.set_cons_zero, List.set_cons_succ]
            refine wpAnyH_take (i := 3) (v := ?_) rfl (by decide +kernel) (by decide +kernel) (by decide +kernel) (fun _ _ _ h => h) (Or.inl ⟨by rfl, ?_⟩) hS ?_
            rotate_left
            · intro W' hW
              clear hW; go_simp
              try with_reducible rfl
            try simp only [Act.put, List.setIfInBounds_toArray, List.set_cons_zero, List.set_cons_succ]
            refine wpAnyH_take (i := 4) (v := ?_) rfl (by decide +kernel) (by decide +kernel) (by decide +kernel) (fun _ _ _ h => h) (Or.inl ⟨by rfl, ?_⟩) hS ?_
            rotate_left
            · intro W' hW
              have hw := (hW.cell (p := ac.add m) hC).trans cj; clear hW; go_simp
              try with_reducible rfl
            try simp only [Act.put, List.setIfInBounds_toArray, List.set_cons_zero, List.set_cons_succ]
            refine wpAnyH_take (i := 6) (v := ?_) rfl (by decide +kernel) (by decide +kernel) (by decide +kernel) (fun _ _ _ h => h) (Or.inl ⟨by rfl, ?_⟩) hS ?_
            rotate_left
            · intro W' hW
              clear hW; go_simp
              try with_reducible rfl
            try simp only [Act.put, List.setIfInBounds_toArray, List.set_cons_zero, List.set_cons_succ]
            refine wpAnyH_take (i := 7) (v := ?_) rfl (by decide +kernel) (by decide +kernel) (by decide +kernel) (fun _ _ _ h => h) (Or.inl ⟨by rfl, ?_⟩) hS ?_
            rotate_left
            · intro W' hW
              clear hW; go_simp
              try with_reducible rfl
            try simp only [Act.put, List.setIfInBounds_toArray, List.set_cons_zero, List.set_cons_succ]
            refine wpAnyH_take (i := 8) (v := ?_) rfl (by decide +kernel) (by decide +kernel) (by decide +kernel) (fun _ _ _ h => h) (Or.inl ⟨by rfl, ?_⟩) hS ?_
            rotate_left
            · intro W' hW
              clear hW; go_simp
              try with_reducible rfl
            try simp only [Act.put, List.setIfInBounds_toArray, List.set_cons_zero, List.set_cons_succ]
            refine wpAnyH_take (i := 9) (v := ?_) rfl (by decide +kernel) (by decide +kernel) (by decide +kernel) (fun _ _ _ h => h) (Or.inl ⟨by rfl, ?_⟩) hS ?_
            rotate_left
            · intro W' hW
              clear hW; go_simp
              try with_reducible rfl
            try simp only [Act.put, List.setIfInBounds_toArray, List.set_cons_zero, List.set_cons_succ]
            refine wpAnyH_take (i := 10) (v := ?_) rfl (by decide +kernel) (by decide +kernel) (by decide +kernel) (fun _ _ _ h => h) (Or.inl ⟨by rfl, ?_⟩) hS ?_
            rotate_left
            · intro W' hW
              have hw := (hW.cell (p := ad.add (k * 4)) hA).trans ci; clear hW; go_simp
              try with_reducible rfl
            try simp only [Act.put, List.setIfInBounds_toArray, List.set_cons_zero, List.set_cons_succ]
            refine wpAnyH_ready (rs := [5]) (by decide +kernel) (by simp) (AllReadyH.cons rfl (fun K hK => ?_) AllReadyH.nil)
            go_simp
            refine (HCO2.out _ hS).mono ?_
            rintro e x3 ⟨v3, rfl, ho3, hb3⟩
            obtain ⟨A3, c3, rfl⟩ := ho3.sliced
            go_wp2_with fail
            have hS' := hS.trans (hb3.mono hS.size)
            have HCN := Lib.hid (HCNT.out x3 A3 _ c3 ho3.ints)
            clear ho3
            refine hK.out _ _ hS' (fun _ => ?_)
            clear hK K hS hb3
            have hS := hS'
            clear hS'
            try simp only [Act.put, List.setIfInBounds_toArray, List.set_cons_zero, List.set_cons_succ]
            refine wpAnyH_ready (rs := [11]) (by decide +kernel) (by simp) (AllReadyH.cons rfl (fun K hK => ?_) AllReadyH.nil)
            go_simp
            refine HCN.out.mono ?_
            rintro e w' ⟨rfl, rfl⟩
            go_wp2_with fail
            refine hK.out _ _ hS (fun _ => ?_)
            clear hK K
            try simp only [Act.put, List.setIfInBounds_toArray, List.set_cons_zero, List.set_cons_succ]
            refine wpAnyH_ready (rs := [12]) (by decide +kernel) (by simp) (AllReadyH.cons rfl (fun K hK => ?_) AllReadyH.nil)
            go_simp
            refine hK.out _ _ hS (fun _ => ?_)
            clear hK K
            try simp only [Act.put, List.setIfInBounds_toArray, List.set_cons_zero, List.set_cons_succ]
            refine wpAnyH_ready (rs := [13]) (by decide +kernel) (by simp) (AllReadyH.cons rfl (fun K hK => ?_) AllReadyH.nil)
            go_simp
            refine hK.out _ _ hS (fun _ => ?_)
            clear hK K
            try simp only [Act.put, List.setIfInBounds_toArray, List.set_cons_zero, List.set_cons_succ]
            refine wpAnyH_take (i := 14) (v := ?_) rfl (by decide +kernel) (by decide +kernel) (by decide +kernel) (fun _ _ _ h => h) (Or.inl ⟨by kernel_rfl, ?_⟩) hS ?_
            rotate_left
            · intro W' hW
              clear hW; go_simp
              try with_reducible rfl
            try simp only [Act.put, List.setIfInBounds_toArray, List.set_cons_zero, List.set_cons_succ]
            refine wpAnyH_take (i := 15) (v := ?_) rfl (by decide +kernel) (by decide +kernel) (by decide +kernel) (fun _ _ _ h => h) (Or.inl ⟨by kernel_rfl, ?_⟩) hS ?_
            rotate_left
            · intro W' hW
              clear hW; go_simp
              try with_reducible rfl
            try simp only [Act.put, List.setIfInBounds_toArray, List.set_cons_zero, List.set_cons_succ]
            refine wpAnyH_take (i := 16) (v := ?_) rfl (by decide +kernel) (by decide +kernel) (by decide +kernel) (fun _ _ _ h => h) (Or.inl ⟨by kernel_rfl, ?_⟩) hS ?_
            rotate_left
            · intro W' hW
              clear hW; go_simp
              try with_reducible rfl
            try simp only [Act.put, List.setIfInBounds_toArray, List.set_cons_zero, List.set_cons_succ]
            refine wpAnyH_take (i := 17) (v := ?_) rfl (by decide +kernel) (by decide +kernel) (by decide +kernel) (fun _ _ _ h => h) (Or.inl ⟨by kernel_rfl, ?_⟩) hS ?_
            rotate_left
            · intro W' hW
              clear hW; go_simp
              try with_reducible rfl
            try simp only [Act.put, List.setIfInBounds_toArray, List.set_cons_zero, List.set_cons_succ]
            refine wpAnyH_take (i := 18) (v := ?_) rfl (by decide +kernel) (by decide +kernel) (by decide +kernel) (fun _ _ _ h => h) (Or.inl ⟨by kernel_rfl, ?_⟩) hS ?_
            rotate_left
            · intro W' hW
              clear hW; go_simp
              try with_reducible rfl
            try simp only [Act.put, List.setIfInBounds_toArray, List.set_cons_zero, List.set_cons_succ]
            refine wpAnyH_take (i := 19) (v := ?_) rfl (by decide +kernel) (by decide +kernel) (by decide +kernel) (fun _ _ _ h => h) (Or.inl ⟨by kernel_rfl, ?_⟩) hS ?_
            rotate_left
            · intro W' hW
              have hw := (hW.cell (p := ad.add (k * 4)) hA).trans ci; clear hW; go_simp
              try with_reducible rfl
            try simp only [Act.put, List.setIfInBounds_toArray, List.set_cons_zero, List.set_cons_succ]
            refine wpAnyH_take (i := 20) (v := ?_) rfl (by decide +kernel) (by decide +kernel) (by decide +kernel) (fun _ _ _ h => h) (Or.inl ⟨by kernel_rfl, ?_⟩) hS ?_
            rotate_left
            · intro W' hW
              clear hW; go_simp
              try with_reducible rfl
            try simp only [Act.put, List.setIfInBounds_toArray, List.set_cons_zero, List.set_cons_succ]
            refine wpAnyH_take (i := 21) (v := ?_) rfl (by decide +kernel) (by decide +kernel) (by decide +kernel) (fun _ _ _ h => h) (Or.inl ⟨by kernel_rfl, ?_⟩) hS ?_
            rotate_left
            · intro W' hW
              clear hW; go_simp
              try with_reducible rfl
            try simp only [Act.put, List.setIfInBounds_toArray, List.set_cons_zero, List.set_cons_succ]
            refine wpAnyH_take (i := 22) (v := ?_) rfl (by decide +kernel) (by decide +kernel) (by decide +kernel) (fun _ _ _ h => h) (Or.inl ⟨by kernel_rfl, ?_⟩) hS ?_
            rotate_left
            · intro W' hW
              clear hW; go_simp
              try with_reducible rfl
            try simp only [Act.put, List.setIfInBounds_toArray, List.set_cons_zero, List.set_cons_succ]
            refine wpAnyH_take (i := 23) (v := ?_) rfl (by decide +kernel) (by decide +kernel) (by decide +kernel) (fun _ _ _ h => h) (Or.inl ⟨by kernel_rfl, ?_⟩) hS ?_
            rotate_left
            · intro W' hW
              have hw := (hW.cell (p := ac.add m) hC).trans cj; clear hW; go_simp
              try with_reducible rfl
            try simp only [Act.put, List.setIfInBounds_toArray, List.set_cons_zero, List.set_cons_succ]
            refine wpAnyH_ready (rs := [24]) (by decide +kernel) (by simp) (AllReadyH.cons rfl (fun K hK => ?_) AllReadyH.nil)
            go_simp
            refine hK.out _ _ (hS.alloc hS.size _) (fun _ => ?_)
            have HTW := Lib.hid (HTG2.out _ (hS.alloc hS.size (.cells #[.int .i64 zi, .int .i64 zj] 3)) x3.heap.size (by simp) (pair_ints x3 zi zj))
            have hS' := hS.alloc hS.size (.cells #[.int .i64 zi, .int .i64 zj] 3)
            clear hK K hS
            have hS := hS'
            clear hS'
            try simp only [Act.put, List.setIfInBounds_toArray, List.set_cons_zero, List.set_cons_succ]
            refine wpAnyH_ready (rs := [25]) (by decide +kernel) (by simp) (AllReadyH.cons rfl (fun K hK => ?_) AllReadyH.nil)
            go_simp
            refine HTW.out.mono ?_
            rintro e x4 ⟨rfl, hb3⟩
            go_wp2_with fail
            have hS' := hS.trans (hb3.mono hS.size)
            refine hK.out _ _ hS' (fun _ => ?_)
            clear hK K hS hb3
            have hS := hS'
            clear hS'
            try simp only [Act.put, List.setIfInBounds_toArray, List.set_cons_zero, List.set_cons_succ]
            refine wpAnyH_ready (rs := [26]) (by decide +kernel) (by simp) (AllReadyH.cons rfl (fun K hK => ?_) AllReadyH.nil)
            go_simp
            refine hK.out _ _ hS (fun _ => ?_)
            clear hK K
            try simp only [Act.put, List.setIfInBounds_toArray, List.set_cons_zero, List.set_cons_succ]
            refine wpAnyH_ready (rs := [27]) (by decide +kernel) (by simp) (AllReadyH.cons rfl (fun K hK => ?_) AllReadyH.nil)
            go_simp
            refine hK.out _ _ hS (fun _ => ?_)
            clear hK K
            try simp only [Act.put, List.setIfInBounds_toArray, List.set_cons_zero, List.set_cons_succ]
            refine wpAnyH_take (i := 28) (v := ?_) rfl (by decide +kernel) (by decide +kernel) (by decide +kernel) (fun _ _ _ h => h) (Or.inl ⟨by kernel_rfl, ?_⟩) hS ?_
            rotate_left
            · intro W' hW
              clear hW; go_simp
              try with_reducible rfl
            try simp only [Act.put, List.setIfInBounds_toArray, List.set_cons_zero, List.set_cons_succ]
            refine wpAnyH_take (i := 29) (v := ?_) rfl (by decide +kernel) (by decide +kernel) (by decide +kernel) (fun _ _ _ h => h) (Or.inl ⟨by kernel_rfl, ?_⟩) hS ?_
            rotate_left
            · intro W' hW
              clear hW; go_simp
              try with_reducible rfl
            try simp only [Act.put, List.setIfInBounds_toArray, List.set_cons_zero, List.set_cons_succ]
            refine wpAnyH_take (i := 30) (v := ?_) rfl (by decide +kernel) (by decide +kernel) (by decide +kernel) (fun _ _ _ h => h) (Or.inl ⟨by kernel_rfl, ?_⟩) hS ?_
            rotate_left
            · intro W' hW
              clear hW; go_simp
              try with_reducible rfl
            try simp only [Act.put, List.setIfInBounds_toArray, List.set_cons_zero, List.set_cons_succ]
            refine wpAnyH_take (i := 31) (v := ?_) rfl (by decide +kernel) (by decide +kernel) (by decide +kernel) (fun _ _ _ h => h) (Or.inl ⟨by kernel_rfl, ?_⟩) hS ?_
            rotate_left
            · intro W' hW
              clear hW; go_simp
              try with_reducible rfl
            try simp only [Act.put, List.setIfInBounds_toArray, List.set_cons_zero, List.set_cons_succ]
            refine wpAnyH_take (i := 32) (v := ?_) rfl (by decide +kernel) (by decide +kernel) (by decide +kernel) (fun _ _ _ h => h) (Or.inl ⟨by kernel_rfl, ?_⟩) hS ?_
            rotate_left
            · intro W' hW
              have hw := (hW.cell (p := ac.add m) hC).trans cj; clear hW; go_simp
              try with_reducible rfl
            try simp only [Act.put, List.setIfInBounds_toArray, List.set_cons_zero, List.set_cons_succ]
            refine wpAnyH_ready (rs := [33]) (by decide +kernel) (by simp) (AllReadyH.cons rfl (fun K hK => ?_) AllReadyH.nil)
            go_simp
            refine (HFP2.out _ hS).mono ?_
            rintro e x5 ⟨rfl, hb3⟩
            go_wp2_with fail
            have hS' := hS.trans (hb3.mono hS.size)
            refine hK.out _ _ hS' (fun _ => ?_)
            clear hK K hS hb3
            have hS := hS'
            clear hS'
            try simp only [Act.put, List.setIfInBounds_toArray, List.set_cons_zero, List.set_cons_succ]
            refine wpAnyH_ready (rs := [34]) (by decide +kernel) (by simp) (AllReadyH.cons rfl (fun K hK => ?_) AllReadyH.nil)
            go_simp
            refine hK.out _ _ hS (fun _ => ?_)
            clear hK K
            try simp only [Act.put, List.setIfInBounds_toArray, List.set_cons_zero, List.set_cons_succ]
            refine wpAnyH_ready (rs := [35]) (by decide +kernel) (by simp) (AllReadyH.cons rfl (fun K hK => ?_) AllReadyH.nil)
            go_simp
            refine hK.out _ _ hS (fun _ => ?_)
            clear hK K
            try simp only [Act.put, List.setIfInBounds_toArray, List.set_cons_zero, List.set_cons_succ]
            refine wpAnyH_done (by decide +kernel) ?_ _
            go_wp2
            go_roundw
            case rel => exact ⟨m + 1, by omega, by go_num, ownr_below HRW.out hS, HOW.out.below hS, (hS.cell (p := ad.add (k * 4)) hA).trans CI.out, Nat.lt_of_lt_of_le hA hS.size, HBW.out.trans (hS.mono HBW.out.size)⟩
            case measure => simp [intOf]; omega
          · obtain rfl : m = lc.length := by omega
            have HRW := Lib.hid hrow
            have HBW := Lib.hid hbl
            clear hrow hbl ho ci hA
            go_wp2
            go_roundw
            case rel => exact ⟨k + 1, by omega, by go_num, by rw [← HSS.out]; go_num, HRW.out, HBW.out⟩
            case measure => simp [intOf]; omega
      · obtain rfl : k = ps.length := by omega
        have hsc := HSC.out
        have hsl := HSL.out ps.length
        have hmul : ps.length * ps.length ≤ 7 * 7 := Nat.mul_le_mul hp7 hp7
        have HC1 := Lib.hid (fun x hx => HCN.out x _ _ _ (rowP (ownr_below hrow hx)) (Nat.le_refl _) hcap)
        have HC2 := Lib.hid (fun x hx => HCS.out x _ _ cl (rowP (ownr_below hrow hx)) (Nat.le_refl _))
        have HBW := Lib.hid hbl
        clear hrow hbl HALL HCO HTG HFP HCN HCS HSC HSL HCL HS0
        generalize sumC ps ps.length = sq at *
        generalize countCs ps = cc at *
        have hcc : 0 ≤ cc ∧ cc ≤ 100 := by omega
        have hn2 : ((sq : Int) != 2 * cc) = false := by simp; omega
        go_wp2_with fail
        refine (HC1.out wr (Below.refl _ _)).mono ?_
        rintro e w7 ⟨rfl, hb7⟩
        go_wp2_with fail
        refine (HC2.out w7 hb7).mono ?_
        rintro e w8 ⟨rfl, hb8⟩
        have hb9 := hb7.trans (hb8.mono hb7.size)
        clear hb7 hb8
        go_wp2_with fail
        refine (HC1.out w8 hb9).mono ?_
        rintro e w9 ⟨rfl, hb10⟩
        have HBX := Lib.hid (HBW.out.trans ((hb9.trans (hb10.mono hb9.size)).mono HBW.out.size))
        clear hb9 hb10 HC1 HC2 HBW
        go_wp2_with fail
        refine (spec_DrawIsTogether A n c _ zs _ (HB.out.below HBX.out) HBX.out.size (by omega)).mono ?_
        rintro e w10 ⟨v2, qs, u2, ids, rfl, hrow2, -, hq7, ho2, hi8, hb11⟩
        have hbl12 := HBX.out.trans (hb11.mono HBX.out.size)
        obtain ⟨Aq, cq, rfl⟩ := ownr_sliced hrow2
        have hcap2 := ownr_cap hrow2
        obtain ⟨Ai, ci2, rfl⟩ := ho2.sliced
        have hrow3 := ownr_mono hrow2 (Nat.zero_le _)
        have ho3 := ho2.mono (Nat.zero_le _)
        have HTG3 := Lib.hid (fun x h hB h2 hw => impl_IsTogether Aq qs.length cq x.heap.size qs Ai ids.length ci2 ids x h hB hcap2 (by omega) h2 (by omega) hw)
        have HCO3 := Lib.hid (fun id x h hB hw => impl_ConflictsOf Aq qs.length cq x.heap.size qs id x h hB hcap2 (by omega) hw)
        have HFREE := Lib.hid (fun (h : isTog qs ids = true) a (ha : a ∈ ids) z hz => stage_free h ha (z := z) hz)
        have HCL3 := Lib.hid (confs_len qs)
        clear hrow2 ho2 hb11 HBX hsc hsl hmul hcc hn2
        go_wp2
        go_loopw [12] (fun j wr => ∃ m : Nat, m ≤ ids.length ∧ j = .int .i64 m ∧ wr.ownsRow 0 43 4 (.slice Aq qs.length cq) qs.length (pcells qs) ∧ Own .i64 3 wr 0 (.slice Ai ids.length ci2) ids ∧ Below W.heap.size W wr) (fun j _ => ids.length - (intOf j).toNat)
        case atStart => exact ⟨0, Nat.zero_le _, rfl, hrow3, ho3, hbl12⟩
        case round =>
          clear hrow3 ho3 hbl12
          obtain ⟨m, hm, rfl, hrow, ho, hbl⟩ := hrel
          by_cases hltm : m < ids.length
          · have HTW := Lib.hid (HTG3.out wr (rowP hrow) (Nat.le_refl _) ho.ints (HV.out.below hbl (Nat.le_refl _)))
            have HRW := Lib.hid hrow
            have HOW := Lib.hid ho
            have HBW := Lib.hid hbl
            clear hrow ho hbl
            cases ht : isTog qs ids
            · rw [ht] at HTW
              clear ht
              go_wp2_with fail
              refine HTW.out.mono ?_
              rintro e x3 ⟨rfl, hb3⟩
              have HB3 := Lib.hid (HBW.out.trans (hb3.mono HBW.out.size))
              clear hb3
              go_wp2
              go_ret
              exact ⟨rfl, HB3.out⟩
            · have HFR := Lib.hid (HFREE.out ht)
              rw [ht] at HTW
              clear ht
              go_wp2_with fail
              refine HTW.out.mono ?_
              rintro e x3 ⟨rfl, hb3⟩
              have hrow4 := ownr_below HRW.out hb3
              have ho4 := HOW.out.below hb3
              have hbl4 := HBW.out.trans (hb3.mono HBW.out.size)
              obtain ⟨ai, rfl, hC, hcell⟩ := ho4.ints.2 (by omega)
              have cj := hcell m hltm
              have hzm : ids.getD m 0 ∈ ids := by rw [List.getD_eq_getElem?_getD, List.getElem?_eq_getElem hltm]; exact List.getElem_mem _
              clear hcell hb3 HRW HOW HBW
              generalize ids.getD m 0 = zi at *
              have HCW := Lib.hid (HCO3.out zi x3 (rowP hrow4) (Nat.le_refl _) (HV.out.below hbl4 (Nat.le_refl _)))
              have hlc := HCL3.out zi
              have HFZ := Lib.hid (HFR.out zi hzm)
              have HRW := Lib.hid hrow4
              have HOW := Lib.hid ho4
              have HBW := Lib.hid hbl4
              have x1 : (0 : Int) ≤ (m : Int) := by omega
              have x2 : (m : Int) < (ids.length : Int) := by omega
              clear hrow4 ho4 hbl4 hzm HFR
              go_wp2_with fail
              refine HCW.out.mono ?_
              rintro e x4 ⟨vc, rfl, hoc, hb4⟩
              obtain ⟨Ac, cc2, rfl⟩ := hoc.sliced
              have HRX := Lib.hid (ownr_below HRW.out hb4)
              have HOX := Lib.hid (HOW.out.below hb4)
              have HBX := Lib.hid (HBW.out.trans (hb4.mono HBW.out.size))
              have HOC := Lib.hid (hoc.mono (Nat.zero_le _))
              clear hoc hb4 HRW HOW HBW HCW cj
              generalize confsOf qs zi = lc at *
              go_wp2
              go_loopw [14] (fun j wr => ∃ l : Nat, l ≤ lc.length ∧ j = .int .i64 l ∧ wr.ownsRow 0 43 4 (.slice Aq qs.length cq) qs.length (pcells qs) ∧ Own .i64 3 wr 0 (.slice (some ai) ids.length ci2) ids ∧ Own .i64 3 wr 0 (.slice Ac lc.length cc2) lc ∧ Below W.heap.size W wr) (fun j _ => lc.length - (intOf j).toNat)
              case atStart => exact ⟨0, Nat.zero_le _, rfl, HRX.out, HOX.out, HOC.out, HBX.out⟩
              case round =>
                clear HRX HOX HOC HBX
                obtain ⟨l, hl, rfl, hrow, ho, hoc, hbl⟩ := hrel
                by_cases hltl : l < lc.length
                · obtain ⟨ac, rfl, hC2, hcell2⟩ := hoc.ints.2 (by omega)
                  have cj := hcell2 l hltl
                  have hzl : lc.getD l 0 ∈ lc := by rw [List.getD_eq_getElem?_getD, List.getElem?_eq_getElem hltl]; exact List.getElem_mem _
                  clear hcell2
                  generalize lc.getD l 0 = zl at *
                  have hno := HFZ.out zl hzl
                  have HCT := Lib.hid (hno ▸ law_contains (some ai) ids.length ci2 _ ids zl wr ho.ints (by omega))
                  have HRW := Lib.hid hrow
                  have HOW := Lib.hid ho
                  have HOC := Lib.hid hoc
                  have HBW := Lib.hid hbl
                  clear hrow ho hoc hbl hno hzl
                  go_wp2_with fail
                  refine HCT.out.mono ?_
                  rintro e w' ⟨rfl, rfl⟩
                  go_wp2
                  go_roundw
                  case rel => exact ⟨l + 1, by omega, by go_num, HRW.out, HOW.out, HOC.out, HBW.out⟩
                  case measure => simp [intOf]; omega
                · obtain rfl : l = lc.length := by omega
                  have HRW := Lib.hid hrow
                  have HOW := Lib.hid ho
                  have HBW := Lib.hid hbl
                  clear hrow ho hoc hbl
                  go_wp2
                  go_roundw
                  case rel => exact ⟨m + 1, by omega, by go_num, HRW.out, HOW.out, HBW.out⟩
                  case measure => simp [intOf]; omega
          · obtain rfl : m = ids.length := by omega
            have HBW := Lib.hid hbl
            clear hrow ho hbl
            go_wp2
            go_ret
            exact ⟨rfl, HBW.out⟩
end Go.Proofs.YtgdficjihkglpadDoor
