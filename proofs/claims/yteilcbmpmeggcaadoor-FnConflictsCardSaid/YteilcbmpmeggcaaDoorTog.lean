/- Chapter 5's model: conflicts among the paths of a list. -/
import Derived.Test.YteilcbmpmeggcaaDoorConf2

namespace Go.Proofs.YteilcbmpmeggcaaDoor
open Go.RowKit
set_option linter.unusedVariables false

/-- the k-th path. -/
def pAt (ps : List Pth) (k : Nat) : Pth := ps.getD k ⟨0, 0, 0, 0⟩
theorem pAt_some {ps : List Pth} {k : Nat} {p : Pth} (h : ps[k]? = some p) : pAt ps k = p := by simp [pAt, List.getD, h]
/-- how many of the first k paths the i-th one conflicts with. -/
def cntTo (ps : List Pth) (i k : Nat) : Nat := ((ps.take k).filter (fun q => conf (pAt ps i) q)).length
def cntAll (ps : List Pth) : Nat → Nat
  | 0 => 0
  | i + 1 => cntAll ps i + cntTo ps i i
/-- what CountConflicts answers. -/
def countCs (ps : List Pth) : Int := if arePs ps then (cntAll ps ps.length : Int) else 0
theorem cntTo_zero (ps : List Pth) (i : Nat) : cntTo ps i 0 = 0 := by simp [cntTo]
theorem cntTo_yes {ps : List Pth} {i k : Nat} {p q : Pth} (hp : ps[i]? = some p) (hq : ps[k]? = some q) (h : conf p q = true) : cntTo ps i (k + 1) = cntTo ps i k + 1 := by
  unfold cntTo
  rw [List.take_add_one, hq, List.filter_append, pAt_some hp]
  simp [h]
theorem cntTo_no {ps : List Pth} {i k : Nat} {p q : Pth} (hp : ps[i]? = some p) (hq : ps[k]? = some q) (h : conf p q = false) : cntTo ps i (k + 1) = cntTo ps i k := by
  unfold cntTo
  rw [List.take_add_one, hq, List.filter_append, pAt_some hp]
  simp [h]
theorem cntTo_le (ps : List Pth) (i k : Nat) : cntTo ps i k ≤ k := by
  unfold cntTo
  exact Nat.le_trans (List.length_filter_le _ _) (by rw [List.length_take]; omega)
theorem cntAll_le (ps : List Pth) : ∀ i, i ≤ 12 → cntAll ps i ≤ 12 * i
  | 0, _ => Nat.le_refl _
  | i + 1, h => by
    have h1 := cntAll_le ps i (by omega)
    have h2 := cntTo_le ps i i
    show cntAll ps i + cntTo ps i i ≤ _
    omega
theorem arePs_len {ps : List Pth} (h : arePs ps = true) : ps.length ≤ 12 := by
  unfold arePs at h
  simp at h
  exact h.2
/-- the Ids of those of the first i paths that conflict with the k-th. -/
def confTo (ps : List Pth) (k i : Nat) : List Int := ((ps.take i).filter (fun q => conf q (pAt ps k))).map Pth.id
/-- what ConflictsOf answers. -/
def confsOf (ps : List Pth) (id : Int) : List Int := match findK id ps with
  | none => []
  | some k => if arePs ps then confTo ps k ps.length else []
theorem confTo_zero (ps : List Pth) (k : Nat) : confTo ps k 0 = [] := by simp [confTo]
theorem confTo_yes {ps : List Pth} {i k : Nat} {p q : Pth} (hp : ps[i]? = some p) (hq : ps[k]? = some q) (h : conf p q = true) : confTo ps k (i + 1) = confTo ps k i ++ [p.id] := by
  unfold confTo
  rw [List.take_add_one, hp, List.filter_append, pAt_some hq]
  simp [h]
theorem confTo_no {ps : List Pth} {i k : Nat} {p q : Pth} (hp : ps[i]? = some p) (hq : ps[k]? = some q) (h : conf p q = false) : confTo ps k (i + 1) = confTo ps k i := by
  unfold confTo
  rw [List.take_add_one, hp, List.filter_append, pAt_some hq]
  simp [h]
theorem confTo_len (ps : List Pth) (k i : Nat) : (confTo ps k i).length ≤ i := by
  unfold confTo
  rw [List.length_map]
  exact Nat.le_trans (List.length_filter_le _ _) (by rw [List.length_take]; omega)
set_option maxHeartbeats 1000000 in
set_option maxRecDepth 100000 in
theorem spec_CountConflicts (A : Option Addr) (n c B : Nat) (ps : List Pth) (w : World) (h : PthsAt w B A n ps) (hB : B ≤ w.heap.size) (hn : n ≤ 4294967296) :
    Calls Tryd.prog 27 #[.slice A n c] w fun e w' => e = .returned (.int .i64 (countCs ps)) ∧ Below w.heap.size w w' := by
  have hl := h.1
  go_enter Tryd.func27, Tryd.ntmps27
  go_wp2
  go_loopw [3, 4] (fun s i wr => ∃ j : Nat, j ≤ n ∧ i = .int .i64 j ∧ s = .int .i64 (cntAll ps j : Nat) ∧ (0 < j → arePs ps = true) ∧ Below w.heap.size w wr) (fun _ i _ => n - (intOf i).toNat)
  case atStart => exact ⟨0, Nat.zero_le _, rfl, rfl, fun hj => absurd hj (by omega), Below.refl _ _⟩
  case round =>
    obtain ⟨j, hj, rfl, rfl, hgo, hbl⟩ := hrel
    have hsz := hbl.size
    by_cases hlt : j < n
    · have HG := Lib.hid hgo
      clear hgo
      go_wp2_with fail
      refine (spec_ArePaths A n c B ps wr (h.below (hbl.mono hB)) (by omega) hn).mono ?_
      rintro e w1 ⟨rfl, hb1⟩
      have hs1 := hb1.size
      cases ha : arePs ps
      · have HR : Hid (j = 0 ∧ countCs ps = 0) := Lib.hid ⟨by
          have := HG.out
          rw [ha] at this
          by_cases e : 0 < j
          · cases this e
          · omega, by simp [countCs, ha]⟩
        clear ha
        obtain ⟨hj0, hr0⟩ := HR.out
        clear HR
        have HR := Lib.hid hr0
        clear hr0
        subst hj0
        go_wp2
        go_ret
        exact ⟨by rw [HR.out]; rfl, hbl.trans (hb1.mono hsz)⟩
      · have h12 := arePs_len ha
        have hA := cntAll_le ps j (by omega)
        have HA := Lib.hid ha
        clear ha
        have hbl1 := hbl.trans (hb1.mono hsz)
        clear hb1 hbl
        obtain ⟨ad, p, rfl, hab, hp, hq⟩ := h.at hlt
        have HP := Lib.hid hp
        clear hp
        have HC : Hid (cntTo ps j 0 = 0) := Lib.hid (cntTo_zero _ _)
        go_wp2
        go_loopw [3, 5] (fun s k wr2 => ∃ m : Nat, m ≤ j ∧ k = .int .i64 m ∧ s = .int .i64 ((cntAll ps j : Nat) + (cntTo ps j m : Nat) : Int) ∧ Below w.heap.size w wr2) (fun _ k _ => j - (intOf k).toNat)
        case atStart => exact ⟨0, Nat.zero_le _, rfl, by rw [HC.out]; simp, hbl1⟩
        case round =>
          obtain ⟨m, hm, rfl, rfl, hbl2⟩ := hrel
          have hsz2 := hbl2.size
          have hT := cntTo_le ps j m
          by_cases hlt2 : m < j
          · obtain ⟨ad', q, e, hab2, hp2, hq2⟩ := h.at (k := m) (by omega)
            injection e with e
            subst e
            replace hq2 := hq2.below hbl2 (by omega)
            have hq1 := hq.below hbl2 (by omega)
            have c0 := fun x : GW wr => (hq1.below x.ok (by omega)).c0
            have c1 := fun x : GW wr => (hq1.below x.ok (by omega)).c1
            have c2 := fun x : GW wr => (hq1.below x.ok (by omega)).c2
            have c3 := fun x : GW wr => (hq1.below x.ok (by omega)).c3
            have d0 := fun x : GW wr => (hq2.below x.ok (by omega)).c0
            have d1 := fun x : GW wr => (hq2.below x.ok (by omega)).c1
            have d2 := fun x : GW wr => (hq2.below x.ok (by omega)).c2
            have d3 := fun x : GW wr => (hq2.below x.ok (by omega)).c3
            have hcc := fun x : GW wr => spec_Conflict p q x.val
            have i1 : (0 : Int) ≤ (j : Int) := by omega
            have i2 : (j : Int) < (n : Int) := by omega
            have j1 : (0 : Int) ≤ (m : Int) := by omega
            have j2 : (m : Int) < (n : Int) := by omega
            cases hv : conf p q
            · rw [hv] at hcc
              have HS := Lib.hid (cntTo_no HP.out hp2 hv)
              clear hv hp2
              go_wp2
              refine wp_region_grow (by kernel_rfl) (by kernel_rfl) ?_
              repeat (go_big_quiet_step (first | (go_at_call 75; exact calls_gw _ (hcc _))))
              refine wpQuiet_nil ?_
              intro x3
              have hb3 := x3.ok
              generalize x3.val = w3 at *
              go_wp2
              go_roundw
              case rel => exact ⟨m + 1, by omega, by go_num, by rw [HS.out], hbl2.trans (hb3.mono hsz2)⟩
              case measure => simp [intOf]; omega
            · rw [hv] at hcc
              have HS := Lib.hid (cntTo_yes HP.out hp2 hv)
              clear hv hp2
              go_wp2
              refine wp_region_grow (by kernel_rfl) (by kernel_rfl) ?_
              repeat (go_big_quiet_step (first | (go_at_call 75; exact calls_gw _ (hcc _))))
              refine wpQuiet_nil ?_
              intro x3
              have hb3 := x3.ok
              generalize x3.val = w3 at *
              go_wp2
              go_roundw
              case rel => exact ⟨m + 1, by omega, by go_num, by rw [HS.out]; go_num, hbl2.trans (hb3.mono hsz2)⟩
              case measure => simp [intOf]; omega
          · obtain rfl : m = j := by omega
            go_wp2
            go_roundw
            case rel => exact ⟨m + 1, by omega, by go_num, by show _ = Value.int .i64 ((cntAll ps m + cntTo ps m m : Nat) : Int); rw [Int.natCast_add], fun _ => HA.out, hbl2⟩
            case measure => simp [intOf]; omega
    · obtain rfl : j = n := by omega
      have HR : Hid (countCs ps = (cntAll ps j : Int)) := Lib.hid (by
        unfold countCs
        cases ha : arePs ps
        · by_cases e : 0 < j
          · rw [hgo e] at ha; cases ha
          · obtain rfl : j = 0 := by omega
            rfl
        · rw [hl]; simp)
      clear hgo
      go_wp2
      go_ret
      exact ⟨by rw [HR.out]; rfl, hbl⟩
set_option maxHeartbeats 1000000 in
set_option maxRecDepth 100000 in
theorem spec_ConflictsOf (A : Option Addr) (n c B : Nat) (ps : List Pth) (id : Int) (w : World) (h : PthsAt w B A n ps) (hB : B ≤ w.heap.size) (hn : n ≤ 4294967296) :
    Calls Tryd.prog 43 #[.slice A n c, .int .i64 id] w fun e w' => ∃ v, e = .returned v ∧ Own .i64 3 w' w.heap.size v (confsOf ps id) ∧ Below w.heap.size w w' := by
  have hl := h.1
  have own0 := own_bare .i64 3 w
  have hb0 : Below w.heap.size w (w.alloc (.cells #[] 3)) := (Below.refl _ _).alloc (Nat.le_refl _) _
  go_enter Tryd.func43, Tryd.ntmps43
  go_wp2_with fail
  refine (spec_FindPath A n c B ps id _ (h.below (hb0.mono hB)) hn).mono ?_
  rintro e w1 ⟨rfl, rfl⟩
  cases hf : findK id ps with
  | none =>
    have HR : Hid (confsOf ps id = []) := Lib.hid (by simp [confsOf, hf])
    have hi : findI id ps = -1 := by simp [findI, hf]
    rw [hi]
    clear hf hi
    go_wp2
    go_loopw [5, 7] (fun v i wr => v = .slice (some ⟨w.heap.size, 0, none⟩) 0 0 ∧ i = .int .i64 0 ∧ wr = w.alloc (.cells #[] 3)) (fun _ _ _ => 0)
    case atStart => exact ⟨rfl, rfl, rfl⟩
    case round =>
      obtain ⟨rfl, rfl, rfl⟩ := hrel
      by_cases hlt : 0 < n
      · go_wp2
        go_ret
        exact ⟨_, rfl, by rw [HR.out]; exact own0, hb0⟩
      · go_wp2
        go_ret
        exact ⟨_, rfl, by rw [HR.out]; exact own0, hb0⟩
  | some m =>
    obtain ⟨q, hq, hqi, hqn⟩ := findK_at hf
    clear hqi hqn
    have hi : findI id ps = (m : Int) := by simp [findI, hf]
    rw [hi]
    have HR : Hid (confsOf ps id = if arePs ps then confTo ps m ps.length else []) := Lib.hid (by simp [confsOf, hf])
    clear hf hi
    have hmn : m < n := by have := (List.getElem?_eq_some_iff.1 hq).1; omega
    have HQ := Lib.hid hq
    have HZ := Lib.hid (confTo_zero ps m)
    clear hq
    go_wp2
    go_loopw [5, 7] (fun v i wr => ∃ j : Nat, j ≤ n ∧ i = .int .i64 j ∧ Own .i64 3 wr w.heap.size v (confTo ps m j) ∧ (0 < j → arePs ps = true) ∧ Below w.heap.size w wr) (fun _ i _ => n - (intOf i).toNat)
    case atStart => exact ⟨0, Nat.zero_le _, rfl, by rw [HZ.out]; exact own0, fun hj => absurd hj (by omega), hb0⟩
    case round =>
      clear own0 hb0
      obtain ⟨j, hj, rfl, hown, hgo, hbl⟩ := hrel
      have hsz := hbl.size
      by_cases hlt : j < n
      · have HG := Lib.hid hgo
        clear hgo
        go_wp2_with fail
        refine (spec_ArePaths A n c B ps wr (h.below (hbl.mono hB)) (by omega) hn).mono ?_
        rintro e w1 ⟨rfl, hb1⟩
        have hs1 := hb1.size
        have hown1 := hown.below hb1
        have hbl1 := hbl.trans (hb1.mono hsz)
        clear hb1 hbl hown
        cases ha : arePs ps
        · have hj0 : j = 0 := by
            have := HG.out
            rw [ha] at this
            by_cases e : 0 < j
            · cases this e
            · omega
          have HR1 : Hid (confsOf ps id = []) := Lib.hid (by rw [HR.out, ha]; rfl)
          subst hj0
          rw [HZ.out] at hown1
          clear ha HR HG
          go_wp2
          go_ret
          exact ⟨_, rfl, by rw [HR1.out]; exact hown1, hbl1⟩
        · have h12 := arePs_len ha
          have hL := confTo_len ps m j
          have HA := Lib.hid ha
          clear ha HG
          obtain ⟨ad, p, rfl, hab, hp, hp1⟩ := h.at hlt
          obtain ⟨ad', q', e, hab2, hq', hq1⟩ := h.at hmn
          injection e with e
          subst e
          obtain rfl : q' = q := by have := HQ.out; rw [this] at hq'; exact (Option.some.inj hq').symm
          replace hp1 := hp1.below hbl1 (by omega)
          replace hq1 := hq1.below hbl1 (by omega)
          have c0 := fun x : GW w1 => (hp1.below x.ok (by omega)).c0
          have c1 := fun x : GW w1 => (hp1.below x.ok (by omega)).c1
          have c2 := fun x : GW w1 => (hp1.below x.ok (by omega)).c2
          have c3 := fun x : GW w1 => (hp1.below x.ok (by omega)).c3
          have d0 := fun x : GW w1 => (hq1.below x.ok (by omega)).c0
          have d1 := fun x : GW w1 => (hq1.below x.ok (by omega)).c1
          have d2 := fun x : GW w1 => (hq1.below x.ok (by omega)).c2
          have d3 := fun x : GW w1 => (hq1.below x.ok (by omega)).c3
          have hcc := fun x : GW w1 => spec_Conflict p q' x.val
          have i1 : (0 : Int) ≤ (j : Int) := by omega
          have i2 : (j : Int) < (n : Int) := by omega
          have j1 : (0 : Int) ≤ (m : Int) := by omega
          have j2 : (m : Int) < (n : Int) := by omega
          cases hv : conf p q'
          · rw [hv] at hcc
            have HS := Lib.hid (confTo_no hp hq' hv)
            clear hv hp hq'
            go_wp2
            refine wp_region_grow (by kernel_rfl) (by kernel_rfl) ?_
            repeat (go_big_quiet_step (first | (go_at_call 75; exact calls_gw _ (hcc _))))
            refine wpQuiet_nil ?_
            intro x3
            have hb3 := x3.ok
            have hown3 := hown1.below hb3
            generalize x3.val = w3 at *
            go_wp2
            go_roundw
            case rel => exact ⟨j + 1, by omega, by go_num, by rw [HS.out]; exact hown3, fun _ => HA.out, hbl1.trans (hb3.mono (by omega))⟩
            case measure => simp [intOf]; omega
          · rw [hv] at hcc
            have HS := Lib.hid (confTo_yes hp hq' hv)
            clear hv hp hq'
            generalize confTo ps m j = l at *
            go_wp2
            refine wp_region_grow (by kernel_rfl) (by kernel_rfl) ?_
            repeat (go_big_quiet_step (first | (go_at_call 75; exact calls_gw _ (hcc _))))
            refine wpQuiet_nil ?_
            intro x3
            have hb3 := x3.ok
            have hown3 := hown1.below hb3
            have hp3 := (hp1.below hb3 (by omega)).c0
            generalize x3.val = w3 at *
            have hbl3 := hbl1.trans (hb3.mono (by omega))
            have hs3 := hbl3.size
            clear c0 c1 c2 c3 d0 d1 d2 d3 hcc hown1 hbl1 hb3
            go_wp2_with (at_builtin; refine wpList_app1 rfl _ _ 39 rfl .i64 3 8 Tryd.underlying39 info_i64 w.heap.size _ l rfl hown3 (by decide) (by omega) _ _ _ w3.heap.size hs3 rfl (by simp) ?_; intro v4 w4 hown4 hgrow4 hat4)
            have hb4 := hown3.push (Nat.le_refl _) (hbl3.alloc hs3 _) (by simp; omega) hgrow4
            clear hgrow4 hat4 hown3 hbl3
            go_roundw
            case rel => exact ⟨j + 1, by omega, by go_num, by rw [HS.out]; exact hown4, fun _ => HA.out, hb4⟩
            case measure => simp [intOf]; omega
      · obtain rfl : j = n := by omega
        have HR1 : Hid (confsOf ps id = confTo ps m j) := Lib.hid (by
          rw [HR.out]
          cases ha : arePs ps
          · rw [hgo (by omega)] at ha; cases ha
          · rw [hl]; simp)
        clear hgo HR
        go_wp2
        go_ret
        exact ⟨_, rfl, by rw [HR1.out]; exact hown, hbl⟩
end Go.Proofs.YteilcbmpmeggcaaDoor
