/- Texts of one chain, put together: RowM LawPln4. -/
import Derived.Test.YtmbbmffoihhdfaaDoorBndlD
set_option linter.unusedSimpArgs false
/- Chapter 9's model, the rest: l9Row, GreenOf, WaitOf. -/
namespace Go.Proofs.YtmbbmffoihhdfaaDoor
open Go.RowKit
set_option linter.unusedVariables false

/-- the first k parts' lights and m of the next. -/
def rowS (ps : List Pth) (p : List Prt) (id : Int) (k m : Nat) : List Int := rowTo ps p id k ++ (List.range m).map fun (s : Nat) => lightJ ps p k s id
theorem rowS_zero (ps : List Pth) (p : List Prt) (id : Int) (k : Nat) : rowS ps p id k 0 = rowTo ps p id k := by simp [rowS]
theorem rowS_push (ps : List Pth) (p : List Prt) (id : Int) (k m : Nat) : rowS ps p id k (m + 1) = rowS ps p id k m ++ [lightJ ps p k m id] := by simp [rowS, List.range_succ]
theorem rowS_full {ps : List Pth} {p : List Prt} (id : Int) (k : Nat) {m : Nat} (h : (m : Int) = longAt ps p k) : rowS ps p id k m = rowTo ps p id (k + 1) := by
  unfold rowS
  show _ = rowTo ps p id k ++ rowJ ps p id k
  unfold rowJ
  rw [← h]
  rfl
theorem rowS_len {ps : List Pth} {p : List Prt} (h : isPlan ps p = true) (id : Int) {k m : Nat} (hk : k < p.length) (hm : (m : Int) ≤ longAt ps p k) : (rowS ps p id k m).length ≤ 1000 := by
  have h1 := rowTo_len h id k (by omega)
  have h2 := sumTo_bound h k (by omega)
  have h3 := longAt_bound h hk
  obtain ⟨⟨_, h6⟩, _⟩ := isPlan_parts h
  unfold rowS
  rw [List.length_append, List.length_map, List.length_range]
  omega
theorem rowP_fullM {ps : List Pth} {p : List Prt} {id : Int} (hp : isPlan ps p = true) {i : Nat} (hi : findK id ps = some i) : rowP ps p id = rowTo ps p id p.length := by
  unfold rowP
  rw [hp, hi]
  rfl
theorem rowP_offM {ps : List Pth} {p : List Prt} {id : Int} (h : (isPlan ps p && (findK id ps).isSome) = false) : rowP ps p id = [] := by
  unfold rowP
  rw [h]
  rfl
theorem find_negM {ps : List Pth} {id : Int} (h : findK id ps = none) : findI id ps = -1 := by unfold findI; rw [h]
theorem find_posM {ps : List Pth} {id : Int} {i : Nat} (h : findK id ps = some i) : findI id ps = (i : Int) := by unfold findI; rw [h]
set_option maxHeartbeats 4000000 in
theorem spec_l9Row (A : Option Addr) (n c B : Nat) (ps : List Pth) (A2 : Option Addr) (n2 c2 B2 : Nat) (p : List Prt) (id : Int) (w : World) (h : PthsAt w B A n ps) (hB : B ≤ w.heap.size) (hn : n ≤ 4294967296) (h2 : PrtsAt w B2 A2 n2 p) (hB2 : B2 ≤ w.heap.size) (hn2 : n2 ≤ 1048576) (hm : ∀ j, j < n2 → (prAt p j).stage.length ≤ 1048576) :
    Calls Tryd.prog 77 #[.slice A n c, .slice A2 n2 c2, .int .i64 id] w fun e w' => ∃ v, e = .returned v ∧ Own .i64 3 w' w.heap.size v (rowP ps p id) ∧ Below w.heap.size w w' := by
  have hl2 := h2.1
  have HIP := Lib.hid (fun x (hx : Below w.heap.size w x) => spec_IsPlan A n c B ps A2 n2 c2 B2 p x (h.below (hx.mono hB)) (Nat.le_trans hB hx.size) hn (h2.below hB2 hx) (Nat.le_trans hB2 hx.size) hn2 hm)
  have HFP := Lib.hid (fun x (hx : Below w.heap.size w x) => spec_FindPath A n c B ps id x (h.below (hx.mono hB)) hn)
  have HL8 := Lib.hid (fun k x (hx : Below w.heap.size w x) (hk : k < n2) hg => spec_l8Long A n c B ps A2 n2 c2 B2 p k x (h.below (hx.mono hB)) (Nat.le_trans hB hx.size) hn (h2.below hB2 hx) (Nat.le_trans hB2 hx.size) hn2 hm hk hg)
  have HL9 := Lib.hid (fun k s m x (hx : Below w.heap.size w x) (hk : k < n2) hf hs hg => spec_l9Light A n c B ps A2 n2 c2 B2 p k s id m x (h.below (hx.mono hB)) (Nat.le_trans hB hx.size) hn (h2.below hB2 hx) (Nat.le_trans hB2 hx.size) hn2 hm hk hf hs hg)
  have own0 := own_bare .i64 3 w
  have hb0 : Below w.heap.size w (w.alloc (.cells #[] 3)) := (Below.refl _ _).alloc (Nat.le_refl _) _
  have HO0 := Lib.hid own0
  have HB0 := Lib.hid hb0
  have HL2 := Lib.hid hl2
  clear h h2 hm own0 hb0 hl2
  cases hp : isPlan ps p
  · have HR := Lib.hid (rowP_offM (ps := ps) (p := p) (id := id) (by rw [hp]; rfl))
    have HP := Lib.hid hp
    clear hp
    go_enter Tryd.func77, Tryd.ntmps77
    go_wp2_with fail
    refine (HIP.out _ HB0.out).mono ?_
    rw [HP.out]
    rintro e w1 ⟨rfl, hb1⟩
    have HO1 := Lib.hid (HO0.out.below hb1)
    have HB1 := Lib.hid (HB0.out.trans (hb1.mono HB0.out.size))
    clear hb1
    go_wp2
    go_ret
    exact ⟨_, rfl, by rw [HR.out]; exact HO1.out, HB1.out⟩
  · have HP := Lib.hid hp
    clear hp
    cases hf : findK id ps
    · have HR := Lib.hid (rowP_offM (ps := ps) (p := p) (id := id) (by rw [HP.out, hf]; rfl))
      have HN := Lib.hid (find_negM hf)
      clear hf
      go_enter Tryd.func77, Tryd.ntmps77
      go_wp2_with fail
      refine (HIP.out _ HB0.out).mono ?_
      rw [HP.out]
      rintro e w1 ⟨rfl, hb1⟩
      have HO1 := Lib.hid (HO0.out.below hb1)
      have HB1 := Lib.hid (HB0.out.trans (hb1.mono HB0.out.size))
      clear hb1
      go_wp2_with fail
      refine (HFP.out _ HB1.out).mono ?_
      rw [HN.out]
      rintro e w2 ⟨rfl, rfl⟩
      go_wp2
      go_ret
      exact ⟨_, rfl, by rw [HR.out]; exact HO1.out, HB1.out⟩
    · rename_i q
      have HR := Lib.hid (rowP_fullM HP.out hf)
      have HN := Lib.hid (find_posM hf)
      have HF := Lib.hid hf
      rw [HL2.out] at HR
      clear hf
      go_enter Tryd.func77, Tryd.ntmps77
      go_wp2_with fail
      refine (HIP.out _ HB0.out).mono ?_
      rw [HP.out]
      rintro e w1 ⟨rfl, hb1⟩
      have HO1 := Lib.hid (HO0.out.below hb1)
      have HB1 := Lib.hid (HB0.out.trans (hb1.mono HB0.out.size))
      clear hb1
      go_wp2_with fail
      refine (HFP.out _ HB1.out).mono ?_
      rw [HN.out]
      rintro e w2 ⟨rfl, rfl⟩
      go_wp2
      go_loopw [7, 8] (fun v i wr => ∃ k : Nat, k ≤ n2 ∧ i = .int .i64 k ∧ Own .i64 3 wr w.heap.size v (rowTo ps p id k) ∧ Below w.heap.size w wr) (fun _ i _ => n2 - (intOf i).toNat)
      case atStart => exact ⟨0, Nat.zero_le _, rfl, HO1.out, HB1.out⟩
      case round =>
        clear HO1 HB1
        obtain ⟨k, hk, rfl, hown, hbl⟩ := hrel
        have HOW := Lib.hid hown
        have HBL := Lib.hid hbl
        clear hown hbl
        by_cases hlt : k < n2
        · have hg := plan_green HP.out (k := k) (by rw [HL2.out]; exact hlt)
          have HG := Lib.hid hg
          have hlb := longAt_bound HP.out (j := k) (by rw [HL2.out]; exact hlt)
          have HSL := Lib.hid (fun m hm => rowS_len HP.out id (k := k) (m := m) (by rw [HL2.out]; exact hlt) hm)
          have HSF := Lib.hid (fun m hm => rowS_full (ps := ps) (p := p) id k (m := m) hm)
          have HLL := Lib.hid (fun x (hx : Below w.heap.size w x) => HL8.out k x hx hlt hg)
          clear hg
          generalize longAt ps p k = lo at *
          obtain ⟨wo, rfl⟩ : ∃ wo : World, wo = wr := ⟨_, rfl⟩
          go_wp2
          go_loopw [7, 9] (fun v s wr => ∃ m : Nat, (m : Int) ≤ lo ∧ s = .int .i64 m ∧ Own .i64 3 wr w.heap.size v (rowS ps p id k m) ∧ Below w.heap.size w wr) (fun _ s _ => lo.toNat - (intOf s).toNat)
          case atStart => exact ⟨0, by omega, rfl, by rw [rowS_zero]; exact HOW.out, HBL.out⟩
          case round =>
            clear HOW HBL
            obtain ⟨m, hm, rfl, hown, hbl⟩ := hrel
            have HO2 := Lib.hid hown
            have HB2 := Lib.hid hbl
            clear hown hbl
            have HLC := Lib.hid (HLL.out wr HB2.out)
            go_wp2_with fail
            refine HLC.out.mono ?_
            rintro e w3 ⟨rfl, hb3⟩
            have hO3 := HO2.out.below hb3
            have hB3 := HB2.out.trans (hb3.mono HB2.out.size)
            have HO3 := Lib.hid hO3
            have HB3 := Lib.hid hB3
            clear hb3 hO3 hB3
            by_cases hlm : (m : Int) < lo
            · have HC9 := Lib.hid (HL9.out k (m : Int) q w3 HB3.out hlt HF.out (by omega) HG.out)
              have HPU := Lib.hid (rowS_push ps p id k m)
              have hsl := HSL.out m (by omega)
              generalize rowS ps p id k m = l at *
              generalize lightJ ps p k (m : Int) id = li at *
              go_wp2_with fail
              refine HC9.out.mono ?_
              rintro e w4 ⟨rfl, hb4⟩
              have hO4 := HO3.out.below hb4
              have hB4 := HB3.out.trans (hb4.mono HB3.out.size)
              have hs4 := hB4.size
              clear hb4
              go_wp2_with (at_builtin; refine wpList_app1 rfl _ _ 45 rfl .i64 3 8 Tryd.underlying45 info_i64 w.heap.size _ l rfl hO4 (by decide) (by omega) _ _ _ w4.heap.size hs4 rfl (by simp) ?_; intro v5 w5 hown5 hgrow5 hat5)
              have HB5 := Lib.hid (hO4.push (Nat.le_refl _) (hB4.alloc hs4 _) (by simp; omega) hgrow5)
              have HO5 := Lib.hid hown5
              clear hgrow5 hat5 hO4 hB4 hown5
              go_roundw
              case rel => exact ⟨m + 1, by omega, by go_num, by rw [HPU.out]; exact HO5.out, HB5.out⟩
              case measure => simp [intOf]; omega
            · have hmm : (m : Int) = lo := by omega
              have HO4 : Hid (Own .i64 3 w3 w.heap.size _ (rowTo ps p id (k + 1))) := Lib.hid (by rw [← HSF.out m hmm]; exact HO3.out)
              clear hmm
              go_wp2
              go_roundw
              case rel => exact ⟨k + 1, by omega, by go_num, HO4.out, HB3.out⟩
              case measure => simp [intOf]; omega
        · obtain rfl : k = n2 := by omega
          go_wp2
          go_ret
          exact ⟨_, rfl, by rw [HR.out]; exact HOW.out, HBL.out⟩
set_option maxHeartbeats 2000000 in
theorem spec_GreenOf (A : Option Addr) (n c B : Nat) (ps : List Pth) (A2 : Option Addr) (n2 c2 B2 : Nat) (p : List Prt) (id : Int) (w : World) (h : PthsAt w B A n ps) (hB : B ≤ w.heap.size) (hn : n ≤ 4294967296) (h2 : PrtsAt w B2 A2 n2 p) (hB2 : B2 ≤ w.heap.size) (hn2 : n2 ≤ 1048576) (hm : ∀ j, j < n2 → (prAt p j).stage.length ≤ 1048576) :
    Calls Tryd.prog 41 #[.slice A n c, .slice A2 n2 c2, .int .i64 id] w fun e w' => e = .returned (.int .i64 (greenP ps p id)) ∧ Below w.heap.size w w' := by
  have HC := Lib.hid (spec_l9Row A n c B ps A2 n2 c2 B2 p id w h hB hn h2 hB2 hn2 hm)
  have HR : Hid (greenP ps p id = grnTo (rowP ps p id) (rowP ps p id).length) := Lib.hid grn_sum
  have hlen := rowP_len (ps := ps) (p := p) id
  clear h h2 hm hB hB2 hn hn2
  generalize rowP ps p id = zs at *
  go_enter Tryd.func41, Tryd.ntmps41
  go_wp2_with fail
  refine HC.out.mono ?_
  rintro e w1 ⟨v, rfl, hv, hb⟩
  obtain ⟨Av, cv, rfl⟩ := hv.sliced
  have hi := hv.ints
  have HB := Lib.hid hb
  clear hv hb
  obtain ⟨m, hm⟩ : ∃ m, m = zs.length := ⟨_, rfl⟩
  rw [← hm] at hi HR hlen ⊢
  clear hm
  have hl1 := hi.1
  go_wp2
  go_loop [7, 9] (fun x i => ∃ (k : Nat) (q : Int), k ≤ m ∧ i = .int .i64 k ∧ x = .int .i64 q ∧ q = grnTo zs k) (fun _ i => m - (intOf i).toNat)
  case atStart => exact ⟨0, 0, Nat.zero_le _, rfl, rfl, rfl⟩
  case round =>
    obtain ⟨k, q, hk, rfl, rfl, hq⟩ := hrel
    have hqb := grnTo_bound zs k
    rw [← hq] at hqb
    by_cases hlt : k < m
    · obtain ⟨ad, rfl, hab, hcell⟩ := hi.2 (by omega)
      have hc := hcell k hlt
      have i1 : (0 : Int) ≤ (k : Int) := by omega
      have i2 : (k : Int) < (m : Int) := by omega
      by_cases h1 : zs.getD k 0 = 1
      · have HS : Hid (grnTo zs (k + 1) = q + 1) := Lib.hid (by show grnTo zs k + _ = _; rw [if_pos h1, hq])
        have e0 : (zs.getD k 0 == 1) = true := by rw [h1]; rfl
        clear hcell hq h1 hl1
        generalize zs.getD k 0 = z at *
        go_wp2
        go_round
        case rel => exact ⟨k + 1, q + 1, by omega, by go_num, rfl, HS.out.symm⟩
        case measure => simp [intOf]; omega
      · have HS : Hid (grnTo zs (k + 1) = q) := Lib.hid (by show grnTo zs k + _ = _; rw [if_neg h1, Int.add_zero, hq])
        have e0 : (zs.getD k 0 == 1) = false := by generalize zs.getD k 0 = z at h1; simpa using h1
        clear hcell hq h1 hl1
        generalize zs.getD k 0 = z at *
        go_wp2
        go_round
        case rel => exact ⟨k + 1, q, by omega, by go_num, rfl, HS.out.symm⟩
        case measure => simp [intOf]; omega
    · obtain rfl : k = m := by omega
      have HQ := Lib.hid hq
      clear hq hl1
      go_wp2
      go_ret
      exact ⟨by rw [HR.out, ← HQ.out]; try rfl, HB.out⟩
set_option maxHeartbeats 4000000 in
theorem spec_WaitOf (A : Option Addr) (n c B : Nat) (ps : List Pth) (A2 : Option Addr) (n2 c2 B2 : Nat) (p : List Prt) (id : Int) (w : World) (h : PthsAt w B A n ps) (hB : B ≤ w.heap.size) (hn : n ≤ 4294967296) (h2 : PrtsAt w B2 A2 n2 p) (hB2 : B2 ≤ w.heap.size) (hn2 : n2 ≤ 1048576) (hm : ∀ j, j < n2 → (prAt p j).stage.length ≤ 1048576) :
    Calls Tryd.prog 43 #[.slice A n c, .slice A2 n2 c2, .int .i64 id] w fun e w' => e = .returned (.int .i64 (waitP ps p id)) ∧ Below w.heap.size w w' := by
  have HC := Lib.hid (spec_l9Row A n c B ps A2 n2 c2 B2 p id w h hB hn h2 hB2 hn2 hm)
  have HR : Hid (waitP ps p id = minI (waitTo (rowP ps p id) (2 * (rowP ps p id).length)).2 (rowP ps p id).length) := Lib.hid rfl
  have hlen := rowP_len (ps := ps) (p := p) id
  clear h h2 hm hB hB2 hn hn2
  generalize rowP ps p id = zs at *
  go_enter Tryd.func43, Tryd.ntmps43
  go_wp2_with fail
  refine HC.out.mono ?_
  rintro e w1 ⟨v, rfl, hv, hb⟩
  obtain ⟨Av, cv, rfl⟩ := hv.sliced
  have hi := hv.ints
  have HB := Lib.hid hb
  clear hv hb
  obtain ⟨n3, hn3⟩ : ∃ n3, n3 = zs.length := ⟨_, rfl⟩
  rw [← hn3] at hi HR hlen ⊢
  clear hn3
  have hl := hi.1
  have HL := Lib.hid hl
  have HI := Lib.hid hi
  have hm2 : IntKind.i64.wrap (2 * (n3 : Int)) = ((2 * n3 : Nat) : Int) := by rw [IntKind.wrap_i64]; omega
  obtain ⟨m, hm⟩ : ∃ m, m = 2 * n3 := ⟨_, rfl⟩
  rw [← hm] at hm2 HR
  have HMM := Lib.hid hm
  have hmn : m ≤ 2000000 := by omega
  clear hm hl hi
  go_wp2
  go_loopw [8, 9, 10] (fun x y i wr => ∃ (k : Nat) (q r : Int), k ≤ m ∧ i = .int .i64 k ∧ x = .int .i64 q ∧ y = .int .i64 r ∧ q = (waitTo zs k).2 ∧ r = (waitTo zs k).1 ∧ w1 = wr) (fun _ _ i _ => m - (intOf i).toNat)
  case atStart => exact ⟨0, 0, 0, Nat.zero_le _, rfl, rfl, rfl, rfl, rfl, rfl⟩
  case round =>
    obtain ⟨k, q, r, hk, rfl, rfl, rfl, hq, hr, rfl⟩ := hrel
    have hqb := waitTo_bound zs k
    rw [← hq, ← hr] at hqb
    obtain ⟨⟨hr1, hr2⟩, hq1, hq2⟩ := hqb
    by_cases hlt : k < m
    · have hn0 : 0 < n3 := by have := HMM.out; omega
      obtain ⟨ad, rfl, hab, hcell⟩ := HI.out.2 (by omega)
      have hc := hcell (k % n3) (Nat.mod_lt _ hn0)
      have em : ((k : Nat) : Int).tmod (n3 : Int) = ((k % n3 : Nat) : Int) := by rw [Int.tmod_eq_emod_of_nonneg (by omega), Int.natCast_emod]
      have z1 : ¬ n3 = 0 := by omega
      have z2 : ¬ (n3 : Int) = 0 := by omega
      have hltm : k % n3 < n3 := Nat.mod_lt _ hn0
      have HL2 := HL.out
      clear hcell
      by_cases h1 : zs.getD (k % n3) 0 = 1
      · have HS : Hid ((waitTo zs (k + 1)).2 = maxI q 0 ∧ (waitTo zs (k + 1)).1 = 0) := Lib.hid (by unfold waitTo; rw [HL2, if_pos h1, ← hq]; exact ⟨rfl, rfl⟩)
        have e0 : (zs.getD (k % n3) 0 == 1) = true := by rw [h1]; rfl
        clear hq hr h1 HL2
        generalize zs.getD (k % n3) 0 = z at *
        generalize k % n3 = y at *
        have i1 : (0 : Int) ≤ (y : Int) := by omega
        have i2 : (y : Int) < (n3 : Int) := by omega
        go_wp2_with fail
        refine (spec_Max _ _ _).mono ?_
        generalize maxI q 0 = mx at *
        rintro e w2 ⟨rfl, rfl⟩
        go_wp2
        go_roundw
        case rel => exact ⟨k + 1, mx, 0, by omega, by go_num, rfl, rfl, HS.out.1.symm, HS.out.2.symm, trivial⟩
        case measure => simp [intOf]; omega
      · have HS : Hid ((waitTo zs (k + 1)).2 = maxI q (r + 1) ∧ (waitTo zs (k + 1)).1 = r + 1) := Lib.hid (by unfold waitTo; rw [HL2, if_neg h1, ← hq, ← hr]; exact ⟨rfl, rfl⟩)
        have e0 : (zs.getD (k % n3) 0 == 1) = false := by generalize zs.getD (k % n3) 0 = z at h1; simpa using h1
        clear hq hr h1 HL2
        generalize zs.getD (k % n3) 0 = z at *
        generalize k % n3 = y at *
        have i1 : (0 : Int) ≤ (y : Int) := by omega
        have i2 : (y : Int) < (n3 : Int) := by omega
        go_wp2_with fail
        refine (spec_Max _ _ _).mono ?_
        generalize maxI q (r + 1) = mx at *
        rintro e w2 ⟨rfl, rfl⟩
        go_wp2
        go_roundw
        case rel => exact ⟨k + 1, mx, r + 1, by omega, by go_num, rfl, rfl, HS.out.1.symm, HS.out.2.symm, trivial⟩
        case measure => simp [intOf]; omega
    · obtain rfl : k = m := by omega
      rw [← hq] at HR
      clear hq hr
      go_wp2_with fail
      refine (spec_Min _ _ _).mono ?_
      rintro e w2 ⟨rfl, rfl⟩
      go_wp2
      go_ret
      exact ⟨by rw [HR.out]; try rfl, HB.out⟩
end Go.Proofs.YtmbbmffoihhdfaaDoor

/- GreenOf, WaitOf as their exact laws meet them. -/
namespace Go.Proofs.YtmbbmffoihhdfaaDoor
open Go.RowKit
set_option linter.unusedVariables false

theorem sp_GreenOf (A0 : Option Addr) (n0 c0 : Nat) (zs0 : List Pth) (A1 : Option Addr) (n1 c1 : Nat) (zs1 : List Prt) (a2 : Int) (w : World) (h0 : SlP w A0 n0 c0 zs0) (hs0 : n0 ≤ 1048576) (h1 : SlQ w A1 n1 c1 zs1) (hs1 : SmallP zs1) (wa2 : (Lit.int .i64 a2).wf = true) (r : Int) (hr : greenP zs0 zs1 a2 = r) :
    Calls Tryd.prog 41 #[.slice A0 n0 c0, .slice A1 n1 c1, .int .i64 a2] w fun e w' => e = .returned (.int .i64 r) ∧ Below w.heap.size w w' := by
  subst hr
  have hq1 := h1.prts.1
  have hz1 := hs1.1
  exact spec_GreenOf A0 n0 c0 _ zs0 A1 n1 c1 _ zs1 a2 w h0.pths (Nat.le_refl _) (by omega) h1.prts (Nat.le_refl _) (by omega) (hs1.at _ _ hq1.symm (Nat.le_refl _))
theorem im_GreenOf (A0 : Option Addr) (n0 c0 : Nat) (zs0 : List Pth) (A1 : Option Addr) (n1 c1 : Nat) (zs1 : List Prt) (a2 : Int) (w : World) (h0 : SlP w A0 n0 c0 zs0) (hs0 : n0 ≤ 1048576) (h1 : SlQ w A1 n1 c1 zs1) (hs1 : SmallP zs1) (wa2 : (Lit.int .i64 a2).wf = true) (hv0 : Brus w) (hv1 : Clrs w) (r : Int) (hr : greenP zs0 zs1 a2 = r) :
    Calls Tryd.prog 42 #[.slice A0 n0 c0, .slice A1 n1 c1, .int .i64 a2] w fun e w' => e = .returned (.int .i64 r) ∧ Below w.heap.size w w' := by
  subst hr
  have hq1 := h1.prts.1
  have hz1 := hs1.1
  exact impl_GreenOf ⟨h0.pths, Nat.le_refl _, h0.cap, by omega, h1.prts, Nat.le_refl _, by omega, hs1.at _ _ hq1.symm (Nat.le_refl _), hv0, hv1⟩ a2
theorem sp_WaitOf (A0 : Option Addr) (n0 c0 : Nat) (zs0 : List Pth) (A1 : Option Addr) (n1 c1 : Nat) (zs1 : List Prt) (a2 : Int) (w : World) (h0 : SlP w A0 n0 c0 zs0) (hs0 : n0 ≤ 1048576) (h1 : SlQ w A1 n1 c1 zs1) (hs1 : SmallP zs1) (wa2 : (Lit.int .i64 a2).wf = true) (r : Int) (hr : waitP zs0 zs1 a2 = r) :
    Calls Tryd.prog 43 #[.slice A0 n0 c0, .slice A1 n1 c1, .int .i64 a2] w fun e w' => e = .returned (.int .i64 r) ∧ Below w.heap.size w w' := by
  subst hr
  have hq1 := h1.prts.1
  have hz1 := hs1.1
  exact spec_WaitOf A0 n0 c0 _ zs0 A1 n1 c1 _ zs1 a2 w h0.pths (Nat.le_refl _) (by omega) h1.prts (Nat.le_refl _) (by omega) (hs1.at _ _ hq1.symm (Nat.le_refl _))
theorem im_WaitOf (A0 : Option Addr) (n0 c0 : Nat) (zs0 : List Pth) (A1 : Option Addr) (n1 c1 : Nat) (zs1 : List Prt) (a2 : Int) (w : World) (h0 : SlP w A0 n0 c0 zs0) (hs0 : n0 ≤ 1048576) (h1 : SlQ w A1 n1 c1 zs1) (hs1 : SmallP zs1) (wa2 : (Lit.int .i64 a2).wf = true) (hv0 : Brus w) (hv1 : Clrs w) (r : Int) (hr : waitP zs0 zs1 a2 = r) :
    Calls Tryd.prog 44 #[.slice A0 n0 c0, .slice A1 n1 c1, .int .i64 a2] w fun e w' => e = .returned (.int .i64 r) ∧ Below w.heap.size w w' := by
  subst hr
  have hq1 := h1.prts.1
  have hz1 := hs1.1
  exact impl_WaitOf ⟨h0.pths, Nat.le_refl _, h0.cap, by omega, h1.prts, Nat.le_refl _, by omega, hs1.at _ _ hq1.symm (Nat.le_refl _), hv0, hv1⟩ a2
end Go.Proofs.YtmbbmffoihhdfaaDoor
