/- Chapter 5's model: conflicts among the paths of a list. -/
import Derived.Test.YtgdficjihkglpadDoorConf2

namespace Go.Proofs.YtgdficjihkglpadDoor
open Go.RowKit
set_option linter.unusedVariables false

/-- the k-th path. -/
def pAt (ps : List Pth) (k : Nat) : Pth := ps.getD k ⟨0, 0, 0, 0⟩
theorem pAt_some {ps : List Pth} {k : Nat} {p : Pth} (h : ps[k]? = some p) : pAt ps k = p := by simp [pAt, List.getD, h]
/-- how many of the first k paths the i-th one conflicts with. -/
def cntTo (ps : List Pth) (i k : Nat) : Nat := ((ps.take k).filter (fun q => conf (pAt ps i) q)).length
def cntAll (ps : List Pth) : Nat → Nat
  | 0 => 0
  | i + 1 => cntAll ps i + cntTo ps i i
/-- what CountConflicts answers. -/
def countCs (ps : List Pth) : Int := if arePs ps then (cntAll ps ps.length : Int) else 0
theorem cntTo_zero (ps : List Pth) (i : Nat) : cntTo ps i 0 = 0 := by simp [cntTo]
theorem cntTo_yes {ps : List Pth} {i k : Nat} {p q : Pth} (hp : ps[i]? = some p) (hq : ps[k]? = some q) (h : conf p q = true) : cntTo ps i (k + 1) = cntTo ps i k + 1 := by
  unfold cntTo
  rw [List.take_add_one, hq, List.filter_append, pAt_some hp]
  simp [h]
theorem cntTo_no {ps : List Pth} {i k : Nat} {p q : Pth} (hp : ps[i]? = some p) (hq : ps[k]? = some q) (h : conf p q = false) : cntTo ps i (k + 1) = cntTo ps i k := by
  unfold cntTo
  rw [List.take_add_one, hq, List.filter_append, pAt_some hp]
  simp [h]
theorem cntTo_le (ps : List Pth) (i k : Nat) : cntTo ps i k ≤ k := by
  unfold cntTo
  exact Nat.le_trans (List.length_filter_le _ _) (by rw [List.length_take]; omega)
theorem cntAll_le (ps : List Pth) : ∀ i, i ≤ 12 → cntAll ps i ≤ 12 * i
  | 0, _ => Nat.le_refl _
  | i + 1, h => by
    have h1 := cntAll_le ps i (by omega)
    have h2 := cntTo_le ps i i
    show cntAll ps i + cntTo ps i i ≤ _
    omega
theorem arePs_len {ps : List Pth} (h : arePs ps = true) : ps.length ≤ 12 := by
  unfold arePs at h
  simp at h
  exact h.2
/-- the Ids of those of the first i paths that conflict with the k-th. -/
def confTo (ps : List Pth) (k i : Nat) : List Int := ((ps.take i).filter (fun q => conf q (pAt ps k))).map Pth.id
/-- what ConflictsOf answers. -/
def confsOf (ps : List Pth) (id : Int) : List Int := match findK id ps with
  | none => []
  | some k => if arePs ps then confTo ps k ps.length else []
theorem confTo_zero (ps : List Pth) (k : Nat) : confTo ps k 0 = [] := by simp [confTo]
theorem confTo_yes {ps : List Pth} {i k : Nat} {p q : Pth} (hp : ps[i]? = some p) (hq : ps[k]? = some q) (h : conf p q = true) : confTo ps k (i + 1) = confTo ps k i ++ [p.id] := by
  unfold confTo
  rw [List.take_add_one, hp, List.filter_append, pAt_some hq]
  simp [h]
theorem confTo_no {ps : List Pth} {i k : Nat} {p q : Pth} (hp : ps[i]? = some p) (hq : ps[k]? = some q) (h : conf p q = false) : confTo ps k (i + 1) = confTo ps k i := by
  unfold confTo
  rw [List.take_add_one, hp, List.filter_append, pAt_some hq]
  simp [h]
theorem confTo_len (ps : List Pth) (k i : Nat) : (confTo ps k i).length ≤ i := by
  unfold confTo
  rw [List.length_map]
  exact Nat.le_trans (List.length_filter_le _ _) (by rw [List.length_take]; omega)
set_option maxHeartbeats 1000000 in
set_option maxRecDepth 100000 in
theorem spec_CountConflicts (A : Option Addr) (n c B : Nat) (ps : List Pth) (w : World) (h : PthsAt w B A n ps) (hB : B ≤ w.heap.size) (hn : n ≤ 4294967296) :
    Calls Tryd.prog 33 #[.slice A n c] w fun e w' => e = .returned (.int .i64 (countCs ps)) ∧ Below w.heap.size w w' := by
  have hl := h.1
  go_enter Tryd.func33, Tryd.ntmps33
  go_wp2
  go_loopw [3, 4] (fun s i wr => ∃ j : Nat, j ≤ n ∧ i = .int .i64 j ∧ s = .int .i64 (cntAll ps j : Nat) ∧ (0 < j → arePs ps = true) ∧ Below w.heap.size w wr) (fun _ i _ => n - (intOf i).toNat)
  case atStart => exact ⟨0, Nat.zero_le _, rfl, rfl, fun hj => absurd hj (by omega), Below.refl _ _⟩
  case round =>
    obtain ⟨j, hj, rfl, rfl, hgo, hbl⟩ := hrel
    have hsz := hbl.size
    by_cases hlt : j < n
    · have HG := Lib.hid hgo
      clear hgo
      go_wp2_with fail
      refine (spec_ArePaths A n c B ps wr (h.below (hbl.mono hB)) (by omega) hn).mono ?_
      rintro e w1 ⟨rfl, hb1⟩
      have hs1 := hb1.size
      cases ha : arePs ps
      · have HR : Hid (j = 0 ∧ countCs ps = 0) := Lib.hid ⟨by
          have := HG.out
          rw [ha] at this
          by_cases e : 0 < j
          · cases this e
          · omega, by simp [countCs, ha]⟩
        clear ha
        obtain ⟨hj0, hr0⟩ := HR.out
        clear HR
        have HR := Lib.hid hr0
        clear hr0
        subst hj0
        go_wp2
        go_ret
        exact ⟨by rw [HR.out]; rfl, hbl.trans (hb1.mono hsz)⟩
      · have h12 := arePs_len ha
        have hA := cntAll_le ps j (by omega)
        have HA := Lib.hid ha
        clear ha
        have hbl1 := hbl.trans (hb1.mono hsz)
        clear hb1 hbl
        obtain ⟨ad, p, rfl, hab, hp, hq⟩ := h.at hlt
        have HP := Lib.hid hp
        clear hp
        have HC : Hid (cntTo ps j 0 = 0) := Lib.hid (cntTo_zero _ _)
        go_wp2
        go_loopw [3, 5] (fun s k wr2 => ∃ m : Nat, m ≤ j ∧ k = .int .i64 m ∧ s = .int .i64 ((cntAll ps j : Nat) + (cntTo ps j m : Nat) : Int) ∧ Below w.heap.size w wr2) (fun _ k _ => j - (intOf k).toNat)
        case atStart => exact ⟨0, Nat.zero_le _, rfl, by rw [HC.out]; simp, hbl1⟩
        case round =>
          obtain ⟨m, hm, rfl, rfl, hbl2⟩ := hrel
          have hsz2 := hbl2.size
          have hT := cntTo_le ps j m
          by_cases hlt2 : m < j
          · obtain ⟨ad', q, e, hab2, hp2, hq2⟩ := h.at (k := m) (by omega)
            injection e with e
            subst e
            replace hq2 := hq2.below hbl2 (by omega)
            have hq1 := hq.below hbl2 (by omega)
            have c0 := fun x : GW wr => (hq1.below x.ok (by omega)).c0
            have c1 := fun x : GW wr => (hq1.below x.ok (by omega)).c1
            have c2 := fun x : GW wr => (hq1.below x.ok (by omega)).c2
            have c3 := fun x : GW wr => (hq1.below x.ok (by omega)).c3
            have d0 := fun x : GW wr => (hq2.below x.ok (by omega)).c0
            have d1 := fun x : GW wr => (hq2.below x.ok (by omega)).c1
            have d2 := fun x : GW wr => (hq2.below x.ok (by omega)).c2
            have d3 := fun x : GW wr => (hq2.below x.ok (by omega)).c3
            have hcc := fun x : GW wr => spec_Conflict p q x.val
            have i1 : (0 : Int) ≤ (j : Int) := by omega
            have i2 : (j : Int) < (n : Int) := by omega
            have j1 : (0 : Int) ≤ (m : Int) := by omega
            have j2 : (m : Int) < (n : Int) := by omega
            cases hv : conf p q
            · rw [hv] at hcc
              have HS := Lib.hid (cntTo_no HP.out hp2 hv)
              clear hv hp2
              go_wp2
              refine wp_region_grow (by kernel_rfl) (by kernel_rfl) ?_
              repeat (go_big_quiet_step (first | (go_at_call 46; exact calls_gw _ (hcc _))))
              refine wpQuiet_nil ?_
              intro x3
              have hb3 := x3.ok
              generalize x3.val = w3 at *
              go_wp2
              go_roundw
              case rel => exact ⟨m + 1, by omega, by go_num, by rw [HS.out], hbl2.trans (hb3.mono hsz2)⟩
              case measure => simp [intOf]; omega
            · rw [hv] at hcc
              have HS := Lib.hid (cntTo_yes HP.out hp2 hv)
              clear hv hp2
              go_wp2
              refine wp_region_grow (by kernel_rfl) (by kernel_rfl) ?_
              repeat (go_big_quiet_step (first | (go_at_call 46; exact calls_gw _ (hcc _))))
              refine wpQuiet_nil ?_
              intro x3
              have hb3 := x3.ok
              generalize x3.val = w3 at *
              go_wp2
              go_roundw
              case rel => exact ⟨m + 1, by omega, by go_num, by rw [HS.out]; go_num, hbl2.trans (hb3.mono hsz2)⟩
              case measure => simp [intOf]; omega
          · obtain rfl : m = j := by omega
            go_wp2
            go_roundw
            case rel => exact ⟨m + 1, by omega, by go_num, by show _ = Value.int .i64 ((cntAll ps m + cntTo ps m m : Nat) : Int); rw [Int.natCast_add], fun _ => HA.out, hbl2⟩
            case measure => simp [intOf]; omega
    · obtain rfl : j = n := by omega
      have HR : Hid (countCs ps = (cntAll ps j : Int)) := Lib.hid (by
        unfold countCs
        cases ha : arePs ps
        · by_cases e : 0 < j
          · rw [hgo e] at ha; cases ha
          · obtain rfl : j = 0 := by omega
            rfl
        · rw [hl]; simp)
      clear hgo
      go_wp2
      go_ret
      exact ⟨by rw [HR.out]; rfl, hbl⟩
end Go.Proofs.YtgdficjihkglpadDoor
