/- stagesOf, isCovered, Covers: the program. -/
import Derived.Test.YtgdficjihkglpabDoorFillI
import Derived.Test.YtgdficjihkglpabDoorTogI
import Derived.Test.YtgdficjihkglpabDoorSSM
import Derived.Test.YtgdficjihkglpabDoorMskP
namespace Go.Proofs.YtgdficjihkglpabDoor
open Go.RowKit
set_option linter.unusedVariables false

/-- all of these are stages. -/
def stsB (ps : List Pth) (zss : List (List Int)) : Bool := zss.all fun zs => (stI ps (rowSt ps ps.length 0) zs).isSome
/-- their sets. -/
def mskI (ps : List Pth) (zss : List (List Int)) : List Int := zss.map fun zs => ((maskL ps zs : Nat) : Int)
theorem mskI_len (ps : List Pth) (zss : List (List Int)) : (mskI ps zss).length = zss.length := by simp [mskI]
theorem mskI_at {ps : List Pth} {zss : List (List Int)} {k : Nat} (h : k < zss.length) : (mskI ps zss).getD k 0 = ((maskL ps (zss.getD k []) : Nat) : Int) := by
  unfold mskI
  rw [List.getD_eq_getElem?_getD, List.getElem?_map, List.getD_eq_getElem?_getD, List.getElem?_eq_getElem h]
  rfl
theorem maskL_some {ps : List Pth} {zs : List Int} {m : Nat} (h : stI ps (rowSt ps ps.length 0) zs = some m) : maskL ps zs = m := by unfold maskL; rw [h]; rfl
theorem stsB_no {ps : List Pth} {zss : List (List Int)} {k : Nat} (hk : k < zss.length) (h : stI ps (rowSt ps ps.length 0) (zss.getD k []) = none) : stsB ps zss = false := by
  unfold stsB
  rw [Bool.eq_false_iff]
  intro ha
  have := List.all_eq_true.1 ha (zss.getD k []) (by rw [List.getD_eq_getElem?_getD, List.getElem?_eq_getElem hk]; exact List.getElem_mem hk)
  rw [h] at this
  cases this
theorem stsB_yes {ps : List Pth} {zss : List (List Int)} (h : ∀ k, k < zss.length → (stI ps (rowSt ps ps.length 0) (zss.getD k [])).isSome = true) : stsB ps zss = true := List.all_eq_true.2 fun zs hz => by
  obtain ⟨j, hj, e⟩ := List.getElem_of_mem hz
  have := h j hj
  rw [List.getD_eq_getElem?_getD, List.getElem?_eq_getElem hj] at this
  rw [← e]
  exact this
theorem stsB_tog {ps : List Pth} (ha : arePs ps = true) {zss : List (List Int)} : stsB ps zss = true ↔ ∀ zs ∈ zss, isTog ps zs = true := by
  unfold stsB
  rw [List.all_eq_true]
  constructor
  · intro h zs hz
    have := h zs hz
    rw [← togI_eq]
    unfold togI
    rw [ha, Bool.true_and]
    exact this
  · intro h zs hz
    obtain ⟨_, _, _, _, h5⟩ := tog_maskL (h zs hz)
    rw [h5]
    rfl
theorem stI_lt {ps : List Pth} {f : Nat → Nat} {zs : List Int} {m : Nat} (h12 : ps.length ≤ 12) (h : stI ps f zs = some m) : m < 4096 := by
  unfold stI at h
  cases hg : goI ps 0 zs with
  | none => rw [hg] at h; cases h
  | some q =>
    rw [hg] at h
    simp only at h
    split at h
    · injection h with h
      subst h
      exact goI_lt h12 (by decide) hg
    · cases h
theorem orM_nat (ps : List Pth) (zss : List (List Int)) {k : Nat} (h : k < zss.length) : orM ((zss.map (maskL ps)).take (k + 1)) = orM ((zss.map (maskL ps)).take k) ||| maskL ps (zss.getD k []) := by
  rw [orM_succ (by rw [List.length_map]; exact h), List.getD_eq_getElem?_getD, List.getElem?_map, List.getD_eq_getElem?_getD, List.getElem?_eq_getElem h]
  rfl
theorem maskL_lt (ps : List Pth) (zs : List Int) (h12 : ps.length ≤ 12) : maskL ps zs < 4096 := by
  unfold maskL
  cases h : stI ps (rowSt ps ps.length 0) zs with
  | none => decide
  | some m => exact stI_lt h12 h
theorem orM_lt (ps : List Pth) (zss : List (List Int)) (h12 : ps.length ≤ 12) : ∀ k, k ≤ zss.length → orM ((zss.map (maskL ps)).take k) < 4096
  | 0, _ => by rw [List.take_zero]; exact (by decide : (0 : Nat) < 4096)
  | k + 1, hk => by
    rw [orM_nat ps zss (by omega)]
    exact or_lt (orM_lt ps zss h12 k (by omega)) (maskL_lt _ _ h12)
theorem info_mask : (Tryd.prog.info? 52).map (fun i => (i.zero, i.size, i.bytes)) = some (some (.int .u16 0), 1, 2) := by kernel_rfl
set_option maxHeartbeats 2000000 in
set_option maxRecDepth 100000 in
theorem impl_stagesOf (A : Option Addr) (n c B : Nat) (ps : List Pth) (A2 : Option Addr) (n2 c2 B2 : Nat) (zss : List (List Int)) (w : World) (h : PthsAt w B A n ps) (hB : B ≤ w.heap.size) (ha : arePs ps = true) (h2 : SSAt w B2 A2 n2 zss) (hB2 : B2 ≤ w.heap.size) (hn2 : n2 ≤ 4294967296) (hm : ∀ j, j < n2 → (zss.getD j []).length ≤ 4294967296) (hw : Brus w) :
    Calls Tryd.prog 52 #[.agg (xcells A n c (rowSt ps n 0)).toArray, .slice A2 n2 c2] w fun e w' => ∃ v, e = .returned (.tuple #[v, .bool (stsB ps zss)]) ∧ (stsB ps zss = true → ∃ g, v = .slice (some ⟨g, 0, none⟩) n2 n2 ∧ Own .u16 52 w' w.heap.size v (mskI ps zss)) ∧ Below w.heap.size w w' := by
  have hl := h.1
  have hl2 := h2.1
  subst hl
  have h12 := arePs_len12 ha
  have HP := Lib.hid h
  have HW := Lib.hid hw
  have HNO := Lib.hid (fun k (hk : k < n2) (hf : stI ps (rowSt ps ps.length 0) (zss.getD k []) = none) => stsB_no (ps := ps) (zss := zss) (k := k) (by omega) hf)
  have HYES := Lib.hid (fun (hf : ∀ k, k < n2 → (stI ps (rowSt ps ps.length 0) (zss.getD k [])).isSome = true) => stsB_yes (ps := ps) (zss := zss) (fun k hk => hf k (by omega)))
  have HMA := Lib.hid (fun k (hk : k < n2) => mskI_at (ps := ps) (zss := zss) (k := k) (by omega))
  have HML : Hid ((mskI ps zss).length = n2) := Lib.hid (by rw [mskI_len]; exact hl2)
  have HSM := Lib.hid (fun zs m (hf : stI ps (rowSt ps ps.length 0) zs = some m) => maskL_some hf)
  have HLT := Lib.hid (fun zs m (hf : stI ps (rowSt ps ps.length 0) zs = some m) => stI_lt h12 hf)
  have hln : (xcells A ps.length c (rowSt ps ps.length 0)).length = 13 := xcells_length _ _ _ _
  have hinf : (Tryd.prog.info? 55).map (·.size) = some (xcells A ps.length c (rowSt ps ps.length 0)).length := by rw [hln]; exact info_cross
  have HS := Lib.hid (fun A' m c' zs x hx hxB hxi hxm hxw => impl_stageOf A ps.length c B ps (rowSt ps ps.length 0) (rowSt_lt ps ps.length 0) A' m c' zs x hx hxB h12 hxi hxm hxw)
  have hX := heap_alloc_new w (.cells (xcells A ps.length c (rowSt ps ps.length 0)).toArray 55)
  have hB1 : Below w.heap.size w (w.alloc (.cells (xcells A ps.length c (rowSt ps ps.length 0)).toArray 55)) := (Below.refl _ _).alloc (Nat.le_refl _) _
  have hs2 : (w.alloc (.cells (xcells A ps.length c (rowSt ps ps.length 0)).toArray 55)).heap.size = w.heap.size + 1 := by simp
  generalize (xcells A ps.length c (rowSt ps ps.length 0)) = xs at *
  generalize hst : stI ps (rowSt ps ps.length 0) = st at *
  clear hst h hw
  obtain ⟨w2, hw2⟩ : ∃ w2, w2 = w.alloc (.cells xs.toArray 55) := ⟨_, rfl⟩
  rw [← hw2] at hX hB1 hs2
  have HX := Lib.hid hX
  have HB1 := Lib.hid hB1
  have HS2 := Lib.hid hs2
  have hlt2 : w.heap.size < w2.heap.size := by omega
  clear hX hB1 hs2
  go_enter Tryd.func52, Tryd.ntmps52
  go_wp2_with ((with_reducible show wpList _ _ _ _ _ _); rw [← hw2]; refine wpList_mk rfl _ _ _ rfl .u16 52 2 Tryd.underlying70 info_mask (by decide) (n2 : Int) (n2 : Int) n2 rfl rfl rfl rfl (by omega) ?_; intro w3 hown3 hgrow3)
  have hb3 := below_grown hgrow3
  have HX3 := Lib.hid ((hb3.block w.heap.size hlt2).trans HX.out)
  have HB3 := Lib.hid (HB1.out.trans (hb3.mono HB1.out.size))
  have HO3 := Lib.hid hown3
  have hlt3 : w2.heap.size < w3.heap.size := (hown3.block _ rfl).2
  rw [HS2.out] at hlt3
  have HO4 : Hid (Own .u16 52 w3 (w.heap.size + 1) (.slice (some ⟨w.heap.size + 1, 0, none⟩) n2 n2) (List.replicate n2 0)) := Lib.hid (by rw [← HS2.out]; exact hown3)
  clear hown3 hgrow3 hb3 hw2 HO3
  go_loopw [16] (fun i wr => ∃ k : Nat, k ≤ n2 ∧ i = .int .i64 k ∧ Own .u16 52 wr (w.heap.size + 1) (.slice (some ⟨w.heap.size + 1, 0, none⟩) n2 n2) ((mskI ps zss).take k ++ (List.replicate n2 0).drop k) ∧ (∀ j, j < k → (st (zss.getD j [])).isSome = true) ∧ wr.heap[w.heap.size]? = some (.cells xs.toArray 55) ∧ Below w.heap.size w wr) (fun i _ => n2 - (intOf i).toNat)
  case atStart => exact ⟨0, Nat.zero_le _, rfl, by simpa using HO4.out, fun j hj => absurd hj (by omega), HX3.out, HB3.out⟩
  case round =>
    clear HO4 HX3 HB3
    obtain ⟨k, hk, rfl, hown, hall, hxb, hbl⟩ := hrel
    have HALL := Lib.hid hall
    have hRg : wr.rangeAt w.heap.size 0 xs := range_block hxb
    have hsz := hbl.size
    clear hall
    by_cases hlt : k < n2
    · obtain ⟨ad, A', m, c', rfl, hab, hc, hi, hmc, hnil⟩ := h2.at hlt
      have hcw : wr.cell? (ad.add k) = some (.slice A' m c') := (hbl.cell (by omega)).trans hc
      have hml := hi.1
      have hmk := hm k hlt
      have HSW := Lib.hid (HS.out A' m c' (zss.getD k []) wr (HP.out.below (hbl.mono hB)) (Nat.le_trans hB hbl.size) ((hi.keep fun p hp => hbl.cell (by omega)).up (Nat.le_trans hB2 hbl.size)) (by omega) (HW.out.below hbl (Nat.le_refl _)))
      have HNO' := Lib.hid (fun hf => HNO.out k hlt hf)
      have HMA' := Lib.hid (HMA.out k hlt)
      have HSM' := Lib.hid (fun q hf => HSM.out (zss.getD k []) q hf)
      have HLT' := Lib.hid (fun q hf => HLT.out (zss.getD k []) q hf)
      clear hc hi hml hmk hnil hmc
      have HBL := Lib.hid hbl
      have HXB := Lib.hid hxb
      have HOW := Lib.hid hown
      have hgl := (hown.block _ rfl).2
      clear hbl hxb hown
      have HK : Hid ((st (zss.getD k [])).isSome = true → ∀ j, j < k + 1 → (st (zss.getD j [])).isSome = true) := Lib.hid (fun hh j hj => by
        by_cases e : j = k
        · subst e; exact hh
        · exact HALL.out j (by omega))
      generalize st (zss.getD k []) = q at *
      go_wp2_with ((with_reducible show wpList _ _ _ _ _ _); refine wpList_load_mid rfl 55 _ rfl w.heap.size 0 rfl xs _ hRg Tryd.underlying55 rfl hinf ?_)
      refine HSW.out.mono ?_
      cases q with
      | none =>
        have HR := Lib.hid (HNO'.out rfl)
        rw [show maskV none = Value.tuple #[.int .u16 0, .bool false] from rfl]
        rintro e w4 ⟨rfl, hb4⟩
        have HB4 := Lib.hid (HBL.out.trans (hb4.mono HBL.out.size))
        clear hb4
        go_wp2
        go_ret2
        exact ⟨_, by rw [HR.out]; rfl, (fun hh => by rw [HR.out] at hh; cases hh), HB4.out⟩
      | some q =>
        have hq := HLT'.out q rfl
        have hqm : (mskI ps zss).getD k 0 = ((q : Nat) : Int) := by rw [HMA'.out, HSM'.out q rfl]
        rw [show maskV (some q) = Value.tuple #[.int .u16 (q : Nat), .bool true] from rfl]
        rintro e w4 ⟨rfl, hb4⟩
        have ho4 := HOW.out.below hb4
        have HB4 := Lib.hid (HBL.out.trans (hb4.mono HBL.out.size))
        have HX4 := Lib.hid ((hb4.block w.heap.size (by omega)).trans HXB.out)
        have hf := ho4.free k
        have hlen : k < ((mskI ps zss).take k ++ (List.replicate n2 (0 : Int)).drop k).length := by rw [List.length_append, List.length_take, List.length_drop, List.length_replicate, HML.out]; omega
        have hc2 := ho4.cell k hlen
        have hs := ho4.stored k (q : Int)
        rw [set_prefix (by simp; omega) hqm (by rw [HML.out]; exact hlt)] at hs
        have HST := Lib.hid hs
        have HKK := Lib.hid (HK.out rfl)
        clear hb4 hs ho4 hqm hlen
        go_wp2
        go_roundw
        case rel => exact ⟨k + 1, by omega, by go_num, HST.out, HKK.out, (Below.heap_setCell _ _ _ _ (by simp only; omega)).trans HX4.out, HB4.out.setCell (by simp only; omega) _⟩
        case measure => simp [intOf]; omega
    · obtain rfl : k = n2 := by omega
      have HR := Lib.hid (HYES.out HALL.out)
      rw [take_all HML.out _ (by simp)] at hown
      have HO := Lib.hid (hown.mono (show w.heap.size ≤ w.heap.size + 1 by omega))
      have HBL := Lib.hid hbl
      clear hbl hown hxb
      go_wp2
      go_ret2
      exact ⟨_, by rw [HR.out]; rfl, fun _ => ⟨_, rfl, HO.out⟩, HBL.out⟩
theorem covers_off {ps : List Pth} (h : arePs ps = false) (zss : List (List Int)) : coversP ps zss = false := by unfold coversP; rw [h]; simp
theorem covers_sts {ps : List Pth} (ha : arePs ps = true) (zss : List (List Int)) : coversP ps zss = (stsB ps zss && decide (orM (zss.map (maskL ps)) = 2 ^ ps.length - 1)) := by
  cases hs : stsB ps zss
  · have : ¬ (zss.all (isTog ps) = true) := fun h => by
      have := (stsB_tog ha).2 fun zs hz => List.all_eq_true.1 h zs hz
      rw [hs] at this
      cases this
    unfold coversP
    rw [Bool.eq_false_iff.2 this]
    rfl
  · rw [covers_masks ha ((stsB_tog ha).1 hs)]
    rfl
set_option maxHeartbeats 1000000 in
set_option maxRecDepth 100000 in
theorem impl_isCovered (A : Option Addr) (n c : Nat) (ps : List Pth) (hl : ps.length = n) (f : Nat → Nat) (h12 : n ≤ 12) (A2 : Option Addr) (n2 c2 B2 : Nat) (zss : List (List Int)) (w : World) (h2 : IntsAt .u16 w B2 A2 n2 (mskI ps zss)) (hB2 : B2 ≤ w.heap.size) (hn2 : n2 ≤ 4294967296) :
    Calls Tryd.prog 53 #[.agg (xcells A n c f).toArray, .slice A2 n2 c2] w fun e w' => e = .returned (.bool (decide (orM (zss.map (maskL ps)) = 2 ^ n - 1))) ∧ Below w.heap.size w w' := by
  have hl2 := h2.1
  rw [mskI_len] at hl2
  have HMA := Lib.hid (fun k (hk : k < n2) => mskI_at (ps := ps) (zss := zss) (k := k) (by omega))
  have HOS := Lib.hid (fun k (hk : k < n2) => orM_nat ps zss (k := k) (by omega))
  have HOL := Lib.hid (fun k (hk : k ≤ n2) => orM_lt ps zss (by omega) k (by omega))
  have HML := Lib.hid (fun zs => maskL_lt ps zs (by omega))
  have HEND : Hid (orM ((zss.map (maskL ps)).take n2) = orM (zss.map (maskL ps))) := Lib.hid (by rw [List.take_of_length_le (by rw [List.length_map]; omega)])
  have hln : (xcells A n c f).length = 13 := xcells_length _ _ _ _
  have hinf : (Tryd.prog.info? 55).map (·.size) = some (xcells A n c f).length := by rw [hln]; exact info_cross
  have HAL := Lib.hid (fun x => impl_all A n c f x h12)
  have hX := heap_alloc_new w (.cells (xcells A n c f).toArray 55)
  have hB1 : Below w.heap.size w (w.alloc (.cells (xcells A n c f).toArray 55)) := (Below.refl _ _).alloc (Nat.le_refl _) _
  generalize (xcells A n c f) = xs at *
  generalize maskL ps = mk at *
  obtain ⟨w2, hw2⟩ : ∃ w2, w2 = w.alloc (.cells xs.toArray 55) := ⟨_, rfl⟩
  rw [← hw2] at hX hB1
  have HX := Lib.hid hX
  have HB1 := Lib.hid hB1
  have HL := Lib.hid hl
  clear hX hB1 hl hl2
  go_enter Tryd.func53, Tryd.ntmps53
  go_wp2
  rw [← hw2]
  clear hw2
  go_loopw [5, 10] (fun s i wr => ∃ k d : Nat, k ≤ n2 ∧ i = .int .i64 k ∧ s = .int .u16 (d : Nat) ∧ d < 4096 ∧ d = orM ((zss.map mk).take k) ∧ wr.heap[w.heap.size]? = some (.cells xs.toArray 55) ∧ Below w.heap.size w wr) (fun _ i _ => n2 - (intOf i).toNat)
  case atStart => exact ⟨0, 0, Nat.zero_le _, rfl, rfl, by decide, rfl, HX.out, HB1.out⟩
  case round =>
    obtain ⟨k, d, hk, rfl, rfl, hd, hdo, hxb, hbl⟩ := hrel
    have HDO := Lib.hid hdo
    have hRg : wr.rangeAt w.heap.size 0 xs := range_block hxb
    clear hdo
    by_cases hlt : k < n2
    · obtain ⟨ad, rfl, hab, hcell⟩ := h2.2 (by omega)
      have hc := (hbl.cell (by rw [add_block]; omega)).trans (hcell k hlt)
      rw [HMA.out k hlt] at hc
      have hq := HML.out (zss.getD k [])
      have HN := Lib.hid (HOS.out k hlt)
      rw [← HDO.out] at HN
      clear hcell
      generalize mk (zss.getD k []) = q at *
      have ho : bits .or .u16 (d : Int) (q : Int) = ((d ||| q : Nat) : Int) := u16_or_nat _ _ (by omega) (by omega)
      have hol := or_lt hd hq
      generalize d ||| q = y at *
      go_wp2
      go_roundw
      case rel => exact ⟨k + 1, y, by omega, by go_num, rfl, hol, HN.out.symm, hxb, hbl⟩
      case measure => simp [intOf]; omega
    · obtain rfl : k = n2 := by omega
      have HR := Lib.hid (HDO.out.trans HEND.out)
      have HA := Lib.hid (HAL.out wr)
      have hp0 := Nat.two_pow_pos n
      clear hxb
      have HBL := Lib.hid hbl
      clear hbl
      generalize hb1 : 2 ^ n - 1 = b1 at *
      have HBB := Lib.hid hb1
      clear hb1
      go_wp2_with ((with_reducible show wpList _ _ _ _ _ _); refine wpList_load_mid rfl 55 _ rfl w.heap.size 0 rfl xs _ hRg Tryd.underlying55 rfl hinf ?_)
      refine HA.out.mono ?_
      rintro e w3 ⟨rfl, hb3⟩
      have HB4 := Lib.hid (HBL.out.trans (hb3.mono HBL.out.size))
      clear hb3
      go_wp2
      go_ret
      refine ⟨?_, HB4.out⟩
      rw [← HR.out, HBB.out]
      by_cases e : d = b1
      · subst e; simp
      · have : ¬ (d : Int) = (b1 : Int) := by omega
        simp [e, this]
set_option maxHeartbeats 2000000 in
set_option maxRecDepth 100000 in
theorem impl_Covers (A : Option Addr) (n c B : Nat) (ps : List Pth) (A2 : Option Addr) (n2 c2 B2 : Nat) (zss : List (List Int)) (w : World) (h : PthsAt w B A n ps) (h2 : SSAt w B2 A2 n2 zss) (hB : B ≤ w.heap.size) (hB2 : B2 ≤ w.heap.size) (hn : n ≤ c ∧ c ≤ maxLen) (hn1 : n ≤ 4294967296) (hn2 : n2 ≤ 4294967296) (hm : ∀ j, j < n2 → (zss.getD j []).length ≤ 4294967296) (hw : Brus w) :
    Calls Tryd.prog 31 #[.slice A n c, .slice A2 n2 c2] w fun e w' => e = .returned (.bool (coversP ps zss)) ∧ Below w.heap.size w w' := by
  have hl := h.1
  have HP := Lib.hid h
  have HW := Lib.hid hw
  cases ha : arePs ps
  · have HR := Lib.hid (covers_off ha zss)
    have HC := Lib.hid (impl_crossingOf_no A n c B ps w h hB hn1 ha)
    clear h hw ha
    go_enter Tryd.func31, Tryd.ntmps31
    go_wp2_with fail
    refine HC.out.mono ?_
    rw [cross_lit]
    rintro e w1 ⟨rfl, hb⟩
    go_wp2
    go_ret
    exact ⟨by rw [HR.out]; rfl, hb.alloc hb.size _⟩
  · subst hl
    have h12 := arePs_len12 ha
    have HC := Lib.hid (impl_crossingOf A ps.length c B ps w h hB hn ha)
    have HR := Lib.hid (covers_sts ha zss)
    have HST := Lib.hid (fun x hx hxB h2x hxB2 hxw => impl_stagesOf A ps.length c B ps A2 n2 c2 B2 zss x hx hxB ha h2x hxB2 hn2 hm hxw)
    have HIC := Lib.hid (fun A' c' x hx hxB => impl_isCovered A ps.length c ps rfl (rowSt ps ps.length 0) h12 A' n2 c' x.heap.size zss x hx hxB hn2)
    have hln : (xcells A ps.length c (rowSt ps ps.length 0)).length = 13 := xcells_length _ _ _ _
    have hinf : (Tryd.prog.info? 55).map (·.size) = some (xcells A ps.length c (rowSt ps ps.length 0)).length := by rw [hln]; exact info_cross
    have HCL := Lib.hid (cross_lit A ps.length c (rowSt ps ps.length 0))
    generalize (xcells A ps.length c (rowSt ps ps.length 0)) = xs at *
    generalize decide (orM (zss.map (maskL ps)) = 2 ^ ps.length - 1) = rb at *
    clear h hw ha
    go_enter Tryd.func31, Tryd.ntmps31
    go_wp2_with fail
    refine HC.out.mono ?_
    rw [HCL.out]
    rintro e w1 ⟨rfl, hb⟩
    have hX := heap_alloc_new w1 (.cells xs.toArray 55)
    have hB1 : Below w.heap.size w (w1.alloc (.cells xs.toArray 55)) := hb.alloc hb.size _
    have hs2 : (w1.alloc (.cells xs.toArray 55)).heap.size = w1.heap.size + 1 := by simp
    obtain ⟨w2, hw2⟩ : ∃ w2, w2 = w1.alloc (.cells xs.toArray 55) := ⟨_, rfl⟩
    rw [← hw2] at hX hB1 hs2
    rw [HCL.out] at hw2
    have HX := Lib.hid hX
    have HB1 := Lib.hid hB1
    have hlt2 : w1.heap.size < w2.heap.size := by omega
    have hR2 : w2.rangeAt w1.heap.size 0 xs := range_block hX
    have HSW := Lib.hid (HST.out w2 (HP.out.below (hB1.mono hB)) (Nat.le_trans hB hB1.size) ⟨h2.1, fun h0 => by
      obtain ⟨ad, e, hb2, hc⟩ := h2.2 h0
      refine ⟨ad, e, hb2, fun j hj => ?_⟩
      obtain ⟨A', m, c', q1, q2, q3, q4⟩ := hc j hj
      exact ⟨A', m, c', (hB1.cell (by rw [add_block]; omega)).trans q1, q2.keep (fun p hp => hB1.cell (by omega)), q3, q4⟩⟩ (Nat.le_trans hB2 hB1.size) (HW.out.below hB1 (Nat.le_refl _)))
    clear hX hB1 hb HC hs2
    go_wp2_with ((with_reducible show wpList _ _ _ _ _ _); rw [← hw2]; refine wpList_load_mid rfl 55 _ rfl w1.heap.size 0 rfl xs _ hR2 Tryd.underlying55 rfl hinf ?_)
    rw [← hw2]
    clear hw2
    refine HSW.out.mono ?_
    cases hsb : stsB ps zss
    · rw [hsb] at HR
      rintro e w3 ⟨v, rfl, -, hb3⟩
      have HB3 := Lib.hid (HB1.out.trans (hb3.mono HB1.out.size))
      clear hb3 hR2
      go_wp2
      go_ret
      exact ⟨by rw [HR.out]; rfl, HB3.out⟩
    · rw [hsb] at HR
      rintro e w3 ⟨v, rfl, hv, hb3⟩
      obtain ⟨g, rfl, hown⟩ := hv rfl
      have HB3 := Lib.hid (HB1.out.trans (hb3.mono HB1.out.size))
      have hR3 : w3.rangeAt w1.heap.size 0 xs := range_block ((hb3.block w1.heap.size hlt2).trans HX.out)
      have HI3 := Lib.hid (HIC.out _ n2 w3 (by have := hown.ints; exact this) (Nat.le_refl _))
      clear hb3 hown hv hR2
      go_wp2_with (refine wpList_want (by rfl) ?_; refine wpList_load_mid rfl 55 _ rfl w1.heap.size 0 rfl xs _ hR3 Tryd.underlying55 rfl hinf ?_)
      refine HI3.out.mono ?_
      rintro e w4 ⟨rfl, hb4⟩
      have HB4 := Lib.hid (HB3.out.trans (hb4.mono HB3.out.size))
      clear hb4
      cases rb
      all_goals
        go_wp2
        go_ret
        exact ⟨by rw [HR.out]; rfl, HB4.out⟩
end Go.Proofs.YtgdficjihkglpabDoor
