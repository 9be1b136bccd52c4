/- Covers: the program; its exact law's contracts. -/
import Derived.Test.YteilcbmpmeggcabDoorFillI
import Derived.Test.YteilcbmpmeggcabDoorTogI
import Derived.Test.YteilcbmpmeggcabDoorSSM
namespace Go.Proofs.YteilcbmpmeggcabDoor
open Go.RowKit
set_option linter.unusedVariables false

theorem covers_off {ps : List Pth} (h : arePs ps = false) (zss : List (List Int)) : coversP ps zss = false := by unfold coversP; rw [h]; simp
theorem stI_lt {ps : List Pth} {f : Nat → Nat} {zs : List Int} {m : Nat} (h12 : ps.length ≤ 12) (h : stI ps f zs = some m) : m < 4096 := by
  unfold stI at h
  cases hg : goI ps 0 zs with
  | none => rw [hg] at h; cases h
  | some q =>
    rw [hg] at h
    simp only at h
    split at h
    · injection h with h
      subst h
      exact goI_lt h12 (by decide) hg
    · cases h
theorem covS_drop_none {ps : List Pth} {zss : List (List Int)} {d k : Nat} (hk : k < zss.length) (h : stI ps (rowSt ps ps.length 0) (zss.getD k []) = none) : covS ps d (zss.drop k) = none := by
  rw [List.drop_eq_getElem_cons hk]
  unfold covS
  rw [List.getD_eq_getElem?_getD, List.getElem?_eq_getElem hk] at h
  simp only [Option.getD_some] at h
  rw [h]
theorem covS_drop_some {ps : List Pth} {zss : List (List Int)} {d k m : Nat} (hk : k < zss.length) (h : stI ps (rowSt ps ps.length 0) (zss.getD k []) = some m) : covS ps d (zss.drop k) = covS ps (d ||| m) (zss.drop (k + 1)) := by
  rw [List.drop_eq_getElem_cons hk]
  conv => lhs; unfold covS
  rw [List.getD_eq_getElem?_getD, List.getElem?_eq_getElem hk] at h
  simp only [Option.getD_some] at h
  rw [h]
theorem covers_none {ps : List Pth} {zss : List (List Int)} (h : covS ps 0 zss = none) : coversP ps zss = false := by
  rw [← covers_eq]
  unfold coversI
  rw [h]
  simp
theorem covers_some {ps : List Pth} {zss : List (List Int)} {d : Nat} (ha : arePs ps = true) (h : covS ps 0 zss = some d) : coversP ps zss = decide (d = 2 ^ ps.length - 1) := by
  rw [← covers_eq]
  unfold coversI
  rw [h, ha]
  simp
set_option maxHeartbeats 2000000 in
set_option maxRecDepth 100000 in
theorem impl_Covers (A : Option Addr) (n c B : Nat) (ps : List Pth) (A2 : Option Addr) (n2 c2 B2 : Nat) (zss : List (List Int)) (w : World) (h : PthsAt w B A n ps) (h2 : SSAt w B2 A2 n2 zss) (hB : B ≤ w.heap.size) (hB2 : B2 ≤ w.heap.size) (hn : n ≤ c ∧ c ≤ maxLen) (hn1 : n ≤ 4294967296) (hn2 : n2 ≤ 4294967296) (hm : ∀ j, j < n2 → (zss.getD j []).length ≤ 4294967296) (hw : Brus w) :
    Calls Tryd.prog 33 #[.slice A n c, .slice A2 n2 c2] w fun e w' => e = .returned (.bool (coversP ps zss)) ∧ Below w.heap.size w w' := by
  have hl := h.1
  have hl2 := h2.1
  have HP := Lib.hid h
  have HW := Lib.hid hw
  cases ha : arePs ps
  · have HR := Lib.hid (covers_off ha zss)
    have HC := Lib.hid (impl_crossingOf_no A n c B ps w h hB hn1 ha)
    clear h hw ha
    go_enter Tryd.func33, Tryd.ntmps33
    go_wp2_with fail
    refine HC.out.mono ?_
    rw [cross_lit]
    rintro e w1 ⟨rfl, hb⟩
    go_wp2
    go_ret
    exact ⟨by rw [HR.out]; rfl, hb.alloc hb.size _⟩
  · subst hl
    have h12 := arePs_len12 ha
    have hp12 := pow_le12 h12
    have HC := Lib.hid (impl_crossingOf A ps.length c B ps w h hB hn ha)
    have HRN := Lib.hid (fun hf => covers_none (ps := ps) (zss := zss) hf)
    have HRS := Lib.hid (fun d hf => covers_some (zss := zss) (d := d) ha hf)
    have HDN := Lib.hid (fun d k hk hf => covS_drop_none (ps := ps) (zss := zss) (d := d) (k := k) hk hf)
    have HDS := Lib.hid (fun d k m hk hf => covS_drop_some (ps := ps) (zss := zss) (d := d) (k := k) (m := m) hk hf)
    have HLT := Lib.hid (fun zs m (hf : stI ps (rowSt ps ps.length 0) zs = some m) => stI_lt h12 hf)
    have hln : (xcells A ps.length c (rowSt ps ps.length 0)).length = 13 := xcells_length _ _ _ _
    have hinf : (Tryd.prog.info? 53).map (·.size) = some (xcells A ps.length c (rowSt ps ps.length 0)).length := by rw [hln]; exact info_cross
    have HS := Lib.hid (fun A' m c' zs x hx hxB hxi hxm hxw => impl_stageOf A ps.length c B ps (rowSt ps ps.length 0) (rowSt_lt ps ps.length 0) A' m c' zs x hx hxB h12 hxi hxm hxw)
    have HAL := Lib.hid (fun x => impl_all A ps.length c (rowSt ps ps.length 0) x h12)
    have HCL := Lib.hid (cross_lit A ps.length c (rowSt ps ps.length 0))
    have HZ : Hid (covS ps 0 zss = covS ps 0 (zss.drop 0)) := Lib.hid rfl
    have HND : Hid (∀ d, covS ps d (zss.drop n2) = some d) := Lib.hid (fun d => by rw [List.drop_of_length_le (by omega)]; rfl)
    generalize (xcells A ps.length c (rowSt ps ps.length 0)) = xs at *
    generalize hst : stI ps (rowSt ps ps.length 0) = st at *
    clear hst h hw ha
    go_enter Tryd.func33, Tryd.ntmps33
    go_wp2_with fail
    refine HC.out.mono ?_
    rw [HCL.out]
    rintro e w1 ⟨rfl, hb⟩
    have hX := heap_alloc_new w1 (.cells xs.toArray 53)
    have hB1 : Below w.heap.size w (w1.alloc (.cells xs.toArray 53)) := hb.alloc hb.size _
    have hs2 : (w1.alloc (.cells xs.toArray 53)).heap.size = w1.heap.size + 1 := by simp
    obtain ⟨w2, hw2⟩ : ∃ w2, w2 = w1.alloc (.cells xs.toArray 53) := ⟨_, rfl⟩
    rw [← hw2] at hX hB1 hs2
    rw [HCL.out] at hw2
    have HX := Lib.hid hX
    have HB1 := Lib.hid hB1
    clear hX hB1 hb HC
    go_wp2
    rw [← hw2]
    clear hw2
    go_loopw [7, 21] (fun s i wr => ∃ k d : Nat, k ≤ n2 ∧ i = .int .i64 k ∧ s = .int .u16 (d : Nat) ∧ d < 4096 ∧ covS ps 0 zss = covS ps d (zss.drop k) ∧ Below w2.heap.size w2 wr) (fun _ i _ => n2 - (intOf i).toNat)
    case atStart => exact ⟨0, 0, Nat.zero_le _, rfl, rfl, by decide, HZ.out, Below.refl _ _⟩
    case round =>
      obtain ⟨k, d, hk, rfl, rfl, hd, hcv, hbl⟩ := hrel
      have HCV := Lib.hid hcv
      have hB3 := HB1.out.trans (hbl.mono HB1.out.size)
      have hRg : wr.rangeAt w1.heap.size 0 xs := range_block ((hbl.block w1.heap.size (by omega)).trans HX.out)
      have hsz := hbl.size
      clear hcv
      by_cases hlt : k < n2
      · obtain ⟨ad, A', m, c', rfl, hab, hc, hi, hmc, hnil⟩ := h2.at hlt
        have hcw : wr.cell? (ad.add k) = some (.slice A' m c') := (hB3.cell (by omega)).trans hc
        have hml := hi.1
        have hmk := hm k hlt
        have HSW := Lib.hid (HS.out A' m c' (zss.getD k []) wr (HP.out.below (hB3.mono hB)) (Nat.le_trans hB hB3.size) ((hi.keep fun p hp => hB3.cell (by omega)).up (Nat.le_trans hB2 hB3.size)) (by omega) (HW.out.below hB3 (Nat.le_refl _)))
        have HDN' := Lib.hid (fun hf => HDN.out d k (by omega) hf)
        have HDS' := Lib.hid (fun q hf => HDS.out d k q (by omega) hf)
        have HLT' := Lib.hid (fun q hf => HLT.out (zss.getD k []) q hf)
        clear hc hi hml hmk hnil hmc
        have HBL := Lib.hid hbl
        have HB3 := Lib.hid hB3
        clear hbl hB3
        generalize st (zss.getD k []) = q at *
        go_wp2_with ((with_reducible show wpList _ _ _ _ _ _); refine wpList_load_mid rfl 53 _ rfl w1.heap.size 0 rfl xs _ hRg Tryd.underlying53 rfl hinf ?_)
        refine HSW.out.mono ?_
        cases q with
        | none =>
          have HR := Lib.hid (HRN.out (HCV.out.trans (HDN'.out rfl)))
          rw [show maskV none = Value.tuple #[.int .u16 0, .bool false] from rfl]
          rintro e w3 ⟨rfl, hb3⟩
          have HB4 := Lib.hid (HB3.out.trans (hb3.mono HB3.out.size))
          clear hb3
          go_wp2
          go_ret
          exact ⟨by rw [HR.out]; rfl, HB4.out⟩
        | some q =>
          have hq := HLT'.out q rfl
          have HN := Lib.hid (HCV.out.trans (HDS'.out q rfl))
          have ho : bits .or .u16 (d : Int) (q : Int) = ((d ||| q : Nat) : Int) := u16_or_nat _ _ (by omega) (by omega)
          have hol := or_lt hd hq
          rw [show maskV (some q) = Value.tuple #[.int .u16 (q : Nat), .bool true] from rfl]
          rintro e w3 ⟨rfl, hb3⟩
          have HB4 := Lib.hid (HBL.out.trans (hb3.mono HBL.out.size))
          clear hb3
          generalize d ||| q = y at *
          go_wp2
          go_roundw
          case rel => exact ⟨k + 1, y, by omega, by go_num, rfl, hol, HN.out, HB4.out⟩
          case measure => simp [intOf]; omega
      · obtain rfl : k = n2 := by omega
        have HR := Lib.hid (HRS.out d (HCV.out.trans (HND.out d)))
        have HA := Lib.hid (HAL.out wr)
        have HB3 := Lib.hid hB3
        have hp0 := Nat.two_pow_pos ps.length
        clear hbl hB3
        generalize 2 ^ ps.length - 1 = b1 at *
        go_wp2_with ((with_reducible show wpList _ _ _ _ _ _); refine wpList_load_mid rfl 53 _ rfl w1.heap.size 0 rfl xs _ hRg Tryd.underlying53 rfl hinf ?_)
        refine HA.out.mono ?_
        rintro e w3 ⟨rfl, hb3⟩
        have HB4 := Lib.hid (HB3.out.trans (hb3.mono HB3.out.size))
        clear hb3
        go_wp2
        go_ret
        refine ⟨?_, HB4.out⟩
        rw [HR.out]
        by_cases e : d = b1
        · subst e; simp
        · have : ¬ (d : Int) = (b1 : Int) := by omega
          simp [e, this]
end Go.Proofs.YteilcbmpmeggcabDoor
