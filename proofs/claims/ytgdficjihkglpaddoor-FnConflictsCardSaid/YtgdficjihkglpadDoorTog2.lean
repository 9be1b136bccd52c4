/- Chapter 5's model: IsTogether. -/
import Derived.Test.YtgdficjihkglpadDoorTog
namespace Go.Proofs.YtgdficjihkglpadDoor
open Go.RowKit
set_option linter.unusedVariables false

/-- the path with the k-th Id. -/
def idPth (ps : List Pth) (ids : List Int) (k : Nat) : Pth := pAt ps ((findK (ids.getD k 0) ps).getD 0)
/-- the i-th Id is a path's, is beyond the one before, and its path conflicts with none of those before. -/
def togAt (ps : List Pth) (ids : List Int) (i : Nat) : Bool := (findK (ids.getD i 0) ps).isSome && (i == 0 || decide (ids.getD (i - 1) 0 < ids.getD i 0)) && (List.range i).all (fun k => !conf (idPth ps ids i) (idPth ps ids k))
/-- what IsTogether answers. -/
def isTog (ps : List Pth) (ids : List Int) : Bool := (List.range ids.length).all (togAt ps ids) && arePs ps
theorem isTog_no {ps : List Pth} {ids : List Int} {i : Nat} (hi : i < ids.length) (h : togAt ps ids i = false) : isTog ps ids = false := by
  unfold isTog
  have : (List.range ids.length).all (togAt ps ids) = false := by
    rw [Bool.eq_false_iff]
    intro ha
    have := List.all_eq_true.1 ha i (List.mem_range.2 hi)
    rw [h] at this
    cases this
  rw [this]
  rfl
theorem isTog_end {ps : List Pth} {ids : List Int} (h : ∀ i, i < ids.length → togAt ps ids i = true) : isTog ps ids = arePs ps := by
  unfold isTog
  have : (List.range ids.length).all (togAt ps ids) = true := List.all_eq_true.2 fun k hk => h k (List.mem_range.1 hk)
  rw [this]
  simp
theorem togAt_none {ps : List Pth} {ids : List Int} {i : Nat} (h : findK (ids.getD i 0) ps = none) : togAt ps ids i = false := by unfold togAt; rw [h]; rfl
theorem togAt_low {ps : List Pth} {ids : List Int} {i : Nat} (h0 : i ≠ 0) (h : ¬ ids.getD (i - 1) 0 < ids.getD i 0) : togAt ps ids i = false := by
  unfold togAt
  have e1 : (i == 0) = false := by simpa using h0
  rw [e1, decide_eq_false h]
  simp
theorem togAt_conf {ps : List Pth} {ids : List Int} {i k : Nat} (hk : k < i) (h : conf (idPth ps ids i) (idPth ps ids k) = true) : togAt ps ids i = false := by
  unfold togAt
  have : (List.range i).all (fun k => !conf (idPth ps ids i) (idPth ps ids k)) = false := by
    rw [Bool.eq_false_iff]
    intro ha
    have := List.all_eq_true.1 ha k (List.mem_range.2 hk)
    rw [h] at this
    cases this
  rw [this]
  simp
theorem togAt_yes {ps : List Pth} {ids : List Int} {i m : Nat} (h : findK (ids.getD i 0) ps = some m) (h1 : i = 0 ∨ ids.getD (i - 1) 0 < ids.getD i 0) (h2 : ∀ k, k < i → conf (idPth ps ids i) (idPth ps ids k) = false) : togAt ps ids i = true := by
  unfold togAt
  have : (List.range i).all (fun k => !conf (idPth ps ids i) (idPth ps ids k)) = true := List.all_eq_true.2 fun k hk => by rw [h2 k (List.mem_range.1 hk)]; rfl
  rw [this, h]
  rcases h1 with rfl | h1
  · rfl
  · rw [decide_eq_true h1]; simp
theorem togAt_some {ps : List Pth} {ids : List Int} {i : Nat} (h : togAt ps ids i = true) : ∃ m p, findK (ids.getD i 0) ps = some m ∧ ps[m]? = some p ∧ idPth ps ids i = p := by
  unfold togAt at h
  cases e : findK (ids.getD i 0) ps with
  | none => rw [e] at h; simp at h
  | some m =>
    obtain ⟨p, hp, _, _⟩ := findK_at e
    exact ⟨m, p, rfl, hp, by unfold idPth; rw [e]; exact pAt_some hp⟩
set_option maxHeartbeats 1000000 in
set_option maxRecDepth 100000 in
theorem spec_IsTogether (A : Option Addr) (n c B : Nat) (ps : List Pth) (A2 : Option Addr) (n2 c2 B2 : Nat) (zs : List Int) (w : World) (h : PthsAt w B A n ps) (h2 : IntsAt .i64 w B2 A2 n2 zs) (hB : B ≤ w.heap.size) (hB2 : B2 ≤ w.heap.size) (hn : n ≤ 4294967296) (hn2 : n2 ≤ 4294967296) :
    Calls Tryd.prog 136 #[.slice A n c, .slice A2 n2 c2] w fun e w' => e = .returned (.bool (isTog ps zs)) ∧ Below w.heap.size w w' := by
  have hl := h.1
  have hl2 := h2.1
  go_enter Tryd.func136, Tryd.ntmps136
  go_wp2
  go_loopw [5] (fun i wr => ∃ j : Nat, j ≤ n2 ∧ i = .int .i64 j ∧ (∀ i', i' < j → togAt ps zs i' = true) ∧ Below w.heap.size w wr) (fun i _ => n2 - (intOf i).toNat)
  case atStart => exact ⟨0, Nat.zero_le _, rfl, fun i' hi => absurd hi (by omega), Below.refl _ _⟩
  case round =>
    obtain ⟨j, hj, rfl, hgo, hbl⟩ := hrel
    have hsz := hbl.size
    by_cases hlt : j < n2
    · obtain ⟨ad2, rfl, hab2, hcell⟩ := h2.2 (by omega)
      have hc := (hbl.cell (by rw [add_block]; omega)).trans (hcell j hlt)
      have hx := fun (k : Nat) (hk : k < n2) (x : GW wr) => (x.ok.cell (by rw [add_block]; omega)).trans ((hbl.cell (by rw [add_block]; omega)).trans (hcell k hk))
      have HG := Lib.hid hgo
      have HX := Lib.hid hx
      have HC := Lib.hid hcell
      clear hgo hcell hx
      generalize hz : zs.getD j 0 = z at hc
      have HZ := Lib.hid hz
      clear hz
      go_wp2_with fail
      refine (spec_FindPath A n c B ps z wr (h.below (hbl.mono hB)) hn).mono ?_
      rintro e w1 ⟨rfl, rfl⟩
      cases hf : findK z ps with
      | none =>
        have HR : Hid (isTog ps zs = false) := Lib.hid (isTog_no (by omega) (togAt_none (i := j) (by rw [HZ.out]; exact hf)))
        have hi : findI z ps = -1 := by simp [findI, hf]
        rw [hi]
        clear hf hi
        go_wp2
        refine wp_region_grow (by kernel_rfl) (by kernel_rfl) ?_
        repeat (go_big_quiet_step (fail))
        refine wpQuiet_nil ?_
        intro x3
        have hb3 := x3.ok
        generalize x3.val = w3 at *
        go_wp2
        go_ret
        exact ⟨by rw [HR.out]; rfl, hbl.trans (hb3.mono hsz)⟩
      | some m =>
        obtain ⟨p, hp, hqi, hqn⟩ := findK_at hf
        have hmn : m < n := by have := (List.getElem?_eq_some_iff.1 hp).1; omega
        have hi : findI z ps = (m : Int) := by simp [findI, hf]
        rw [hi]
        have HF : Hid (findK (zs.getD j 0) ps = some m) := Lib.hid (by rw [HZ.out]; exact hf)
        have HI : Hid (idPth ps zs j = p) := Lib.hid (by unfold idPth; rw [HF.out]; exact pAt_some hp)
        clear hf hi hqi hqn
        obtain ⟨ad, p', rfl, hab, hp', hq1⟩ := h.at hmn
        obtain rfl : p' = p := by rw [hp] at hp'; exact (Option.some.inj hp').symm
        clear hp hp'
        have t0 : decide ((m : Int) < 0) = false := decide_eq_false (by omega)
        by_cases hbad : j ≠ 0 ∧ ¬ zs.getD (j - 1) 0 < zs.getD j 0
        · obtain ⟨hj0, hle⟩ := hbad
          have HR : Hid (isTog ps zs = false) := Lib.hid (isTog_no (by omega) (togAt_low hj0 hle))
          obtain ⟨k, hk⟩ : ∃ k, k + 1 = j := ⟨j - 1, by omega⟩
          have e1 : zs.getD (j - 1) 0 = zs.getD k 0 := by rw [← hk]; rfl
          rw [e1, HZ.out] at hle
          have b0 := HX.out j hlt
          have b1 := HX.out k (by omega)
          rw [HZ.out] at b0
          generalize zs.getD k 0 = y at *
          have d0 : decide ((0 : Int) < (j : Int)) = true := decide_eq_true (by omega)
          have dn : decide (0 < j) = true := decide_eq_true (by omega)
          have d1 : decide (z ≤ y) = true := decide_eq_true (by omega)
          have i1 : (0 : Int) ≤ (j : Int) := by omega
          have i2 : (j : Int) < (n2 : Int) := by omega
          have j1 : (0 : Int) ≤ (k : Int) := by omega
          have j2 : (k : Int) < (n2 : Int) := by omega
          have w0 : IntKind.i64.wrap ((j : Int) - 1) = (k : Int) := by rw [IntKind.wrap_i64]; omega
          have w1 : wrap64 ((j : Int) - 1) = (k : Int) := by rw [IntWalk.wrap64_in _ (by omega)]; omega
          clear hk e1 hle
          go_wp2
          refine wp_region_grow (by kernel_rfl) (by kernel_rfl) ?_
          repeat (go_big_quiet_step (fail))
          refine wpQuiet_nil ?_
          intro x3
          have hb3 := x3.ok
          generalize x3.val = w3 at *
          go_wp2
          go_ret
          exact ⟨by rw [HR.out]; rfl, hbl.trans (hb3.mono hsz)⟩
        · have HJ : Hid (j = 0 ∨ zs.getD (j - 1) 0 < zs.getD j 0) := Lib.hid (by
            by_cases e : j = 0
            · exact Or.inl e
            · exact Or.inr (Classical.byContradiction fun e2 => hbad ⟨e, e2⟩))
          clear hbad
          by_cases hj0 : j = 0
          case' pos =>
            have d0 : decide ((0 : Int) < (j : Int)) = false := decide_eq_false (by omega)
            have dn : decide (0 < j) = false := decide_eq_false (by omega)
            clear hj0
            go_wp2
            refine wp_region_grow (by kernel_rfl) (by kernel_rfl) ?_
            repeat (go_big_quiet_step (fail))
            refine wpQuiet_nil ?_
            intro x3
            have hb3 := x3.ok
            generalize x3.val = w3 at *
            clear dn d0
          case' neg =>
            obtain ⟨k, hk⟩ : ∃ k, k + 1 = j := ⟨j - 1, by omega⟩
            have e1 : zs.getD (j - 1) 0 = zs.getD k 0 := by rw [← hk]; rfl
            have hle := HJ.out.resolve_left hj0
            rw [e1, HZ.out] at hle
            have b0 := HX.out j hlt
            have b1 := HX.out k (by omega)
            rw [HZ.out] at b0
            generalize zs.getD k 0 = y at *
            have d0 : decide ((0 : Int) < (j : Int)) = true := decide_eq_true (by omega)
            have dn : decide (0 < j) = true := decide_eq_true (by omega)
            have d1 : decide (z ≤ y) = false := decide_eq_false (by omega)
            have i1 : (0 : Int) ≤ (j : Int) := by omega
            have i2 : (j : Int) < (n2 : Int) := by omega
            have j1 : (0 : Int) ≤ (k : Int) := by omega
            have j2 : (k : Int) < (n2 : Int) := by omega
            have w0 : IntKind.i64.wrap ((j : Int) - 1) = (k : Int) := by rw [IntKind.wrap_i64]; omega
            have w1 : wrap64 ((j : Int) - 1) = (k : Int) := by rw [IntWalk.wrap64_in _ (by omega)]; omega
            clear hk e1 hle hj0
            go_wp2
            refine wp_region_grow (by kernel_rfl) (by kernel_rfl) ?_
            repeat (go_big_quiet_step (fail))
            refine wpQuiet_nil ?_
            intro x3
            have hb3 := x3.ok
            generalize x3.val = w3 at *
            clear dn d0 d1 b0 b1 i1 i2 j1 j2 w0 w1
          all_goals
            have hbl3 := hbl.trans (hb3.mono hsz)
            clear hb3 hc
            go_wp2
            go_loopw [7] (fun i wr2 => ∃ k : Nat, k ≤ j ∧ i = .int .i64 k ∧ (∀ i', i' < k → conf (idPth ps zs j) (idPth ps zs i') = false) ∧ Below w.heap.size w wr2) (fun i _ => j - (intOf i).toNat)
            case atStart => exact ⟨0, Nat.zero_le _, rfl, fun i' hi => absurd hi (by omega), hbl3⟩
            case round =>
              clear hbl3
              obtain ⟨k, hk, rfl, hno, hbl4⟩ := hrel
              have hs4 := hbl4.size
              have HN := Lib.hid hno
              clear hno
              by_cases hlt4 : k < j
              · obtain ⟨m2, q, hf2, hq, hidq⟩ := togAt_some (HG.out k hlt4)
                have HQ := Lib.hid hidq
                have hm2 : m2 < n := by have := (List.getElem?_eq_some_iff.1 hq).1; omega
                obtain ⟨ad', q', e, hab4, hq', hq4⟩ := h.at hm2
                injection e with e
                subst e
                obtain rfl : q' = q := by rw [hq] at hq'; exact (Option.some.inj hq').symm
                have hc4 := (hbl4.cell (by rw [add_block]; omega)).trans (HC.out k (by omega))
                have HF2 := Lib.hid hf2
                generalize zs.getD k 0 = y at *
                have hx2 := fun x : GW wr => (x.ok.cell (by rw [add_block]; omega)).trans hc4
                have hcf := fun x : GW wr => spec_FindPath (some ad) n c B ps y x.val ((h.below (hbl4.mono hB)).below (x.ok.mono (by omega))) hn
                have hfy : findI y ps = (m2 : Int) := by unfold findI; rw [HF2.out]
                rw [hfy] at hcf
                replace hq4 := hq4.below hbl4 (by omega)
                have hp4 := hq1.below hbl4 (by omega)
                have c0 := fun x : GW wr => (hp4.below x.ok (by omega)).c0
                have c1 := fun x : GW wr => (hp4.below x.ok (by omega)).c1
                have c2 := fun x : GW wr => (hp4.below x.ok (by omega)).c2
                have c3 := fun x : GW wr => (hp4.below x.ok (by omega)).c3
                have b0 := fun x : GW wr => (hq4.below x.ok (by omega)).c0
                have b1 := fun x : GW wr => (hq4.below x.ok (by omega)).c1
                have b2 := fun x : GW wr => (hq4.below x.ok (by omega)).c2
                have b3 := fun x : GW wr => (hq4.below x.ok (by omega)).c3
                have hcc := fun x : GW wr => spec_Conflict p' q' x.val
                have i1 : (0 : Int) ≤ (m : Int) := by omega
                have i2 : (m : Int) < (n : Int) := by omega
                have j1 : (0 : Int) ≤ (k : Int) := by omega
                have j2 : (k : Int) < (n2 : Int) := by omega
                have k1 : (0 : Int) ≤ (m2 : Int) := by omega
                have k2 : (m2 : Int) < (n : Int) := by omega
                clear hf2 hq hq' hidq hfy hc4
                cases hv : conf p' q'
                · rw [hv] at hcc
                  have HV : Hid (conf (idPth ps zs j) (idPth ps zs k) = false) := Lib.hid (by rw [HI.out, HQ.out]; exact hv)
                  clear hv
                  go_wp2
                  refine wp_region_grow (by kernel_rfl) (by kernel_rfl) ?_
                  repeat (go_big_quiet_step (first | (go_at_call 149; exact calls_gw_same _ (hcf _)) | (go_at_call 46; exact calls_gw _ (hcc _))))
                  refine wpQuiet_nil ?_
                  intro x5
                  have hb5 := x5.ok
                  generalize x5.val = w5 at *
                  go_wp2
                  go_roundw
                  case rel => exact ⟨k + 1, by omega, by go_num, (fun i' hi => by
                    by_cases e : i' = k
                    · subst e; exact HV.out
                    · exact HN.out i' (by omega)), hbl4.trans (hb5.mono hs4)⟩
                  case measure => simp [intOf]; omega
                · rw [hv] at hcc
                  have HR : Hid (isTog ps zs = false) := Lib.hid (isTog_no (by omega) (togAt_conf (i := j) (k := k) hlt4 (by rw [HI.out, HQ.out]; exact hv)))
                  clear hv
                  go_wp2
                  refine wp_region_grow (by kernel_rfl) (by kernel_rfl) ?_
                  repeat (go_big_quiet_step (first | (go_at_call 149; exact calls_gw_same _ (hcf _)) | (go_at_call 46; exact calls_gw _ (hcc _))))
                  refine wpQuiet_nil ?_
                  intro x5
                  have hb5 := x5.ok
                  generalize x5.val = w5 at *
                  go_wp2
                  go_ret
                  exact ⟨by rw [HR.out]; rfl, hbl4.trans (hb5.mono hs4)⟩
              · obtain rfl : k = j := by omega
                have HT : Hid (togAt ps zs k = true) := Lib.hid (togAt_yes HF.out HJ.out (fun k' hk' => HN.out k' hk'))
                go_wp2
                go_roundw
                case rel => exact ⟨k + 1, by omega, by go_num, (fun i' hi => by
                  by_cases e : i' = k
                  · subst e; exact HT.out
                  · exact HG.out i' (by omega)), hbl4⟩
                case measure => simp [intOf]; omega
    · obtain rfl : j = n2 := by omega
      have HR : Hid (isTog ps zs = arePs ps) := Lib.hid (isTog_end (fun i hi => hgo i (by omega)))
      clear hgo
      go_wp2_with fail
      refine (spec_ArePaths A n c B ps wr (h.below (hbl.mono hB)) (by omega) hn).mono ?_
      rintro e w1 ⟨rfl, hb1⟩
      go_wp2
      go_ret
      exact ⟨by rw [HR.out]; rfl, hbl.trans (hb1.mono hsz)⟩
end Go.Proofs.YtgdficjihkglpadDoor
