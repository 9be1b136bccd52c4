/- Chapter 7's model: ClearOf, StaysOpen, Closes, LongestClear. -/
import Derived.Test.YtdgpodopkfnpeabDoorClrP
namespace Go.Proofs.YtdgpodopkfnpeabDoor
open Go.RowKit
set_option linter.unusedVariables false

theorem spec_ClearOf (p : Pth) (w : World) : Calls Tryd.prog 23 #[p.val] w fun e w' => e = .returned (.int .i64 (clearN p)) ∧ Below w.heap.size w w' := by
  have hr := isP_facts p
  have hcc := fun x => spec_IsPath p x
  have HR : Hid (clearN p = if isP p then (if p.kind = 1 then 2 else if p.kind = 2 then 5 else 3) else 0) := Lib.hid rfl
  obtain ⟨a, b, c, d⟩ := p
  simp only [Pth.val] at *
  have hb0 := (Below.refl w.heap.size w).alloc (Nat.le_refl _) (.cells #[.int .i64 a, .int .i64 b, .int .i64 c, .int .i64 d] 41)
  have HB0 := Lib.hid hb0
  clear hb0
  go_enter Tryd.func23, Tryd.ntmps23
  go_wp2_with fail
  refine (hcc _).mono ?_
  rintro e w1 ⟨rfl, hb1⟩
  have HB := Lib.hid (HB0.out.trans (hb1.mono HB0.out.size))
  have k0 : w1.cell? ⟨w.heap.size, 1, none⟩ = some (.int .i64 b) := (hb1.cell (p := ⟨w.heap.size, 1, none⟩) (by simp)).trans (by go_simp)
  have hlt : w.heap.size < w1.heap.size := by have := hb1.size; simp at this; omega
  clear hb1 hcc
  cases hp : isP ⟨a, b, c, d⟩
  · rw [hp] at HR
    clear hr hp
    go_wp2
    go_ret
    exact ⟨by rw [HR.out]; rfl, HB.out⟩
  · rw [hp] at HR
    obtain ⟨_, ⟨b1, b2⟩, _⟩ := hr hp
    clear hr hp
    have hb : b = 1 ∨ b = 2 ∨ b = 3 := by omega
    rcases hb with rfl | rfl | rfl
    all_goals
      go_wp2
      go_ret
      exact ⟨by rw [HR.out]; rfl, HB.out.alloc HB.out.size _⟩
set_option maxHeartbeats 1000000 in
theorem spec_LongestClear (A : Option Addr) (n c B : Nat) (ps : List Pth) (w : World) (h : PthsAt w B A n ps) (hB : B ≤ w.heap.size) (hn : n ≤ 4294967296) :
    Calls Tryd.prog 16 #[.slice A n c] w fun e w' => e = .returned (.int .i64 (longC ps)) ∧ Below w.heap.size w w' := by
  have hl := h.1
  go_enter Tryd.func16, Tryd.ntmps16
  go_wp2
  go_loopw [3, 4] (fun x i wr => ∃ k : Nat, k ≤ n ∧ i = .int .i64 k ∧ x = .int .i64 (mostTo ps k) ∧ (0 < k → arePs ps = true) ∧ Below w.heap.size w wr) (fun _ i _ => n - (intOf i).toNat)
  case atStart => exact ⟨0, Nat.zero_le _, rfl, rfl, fun h => absurd h (by omega), Below.refl _ _⟩
  case round =>
    obtain ⟨k, hk, rfl, rfl, hgo, hbl⟩ := hrel
    have hsz := hbl.size
    have HG := Lib.hid hgo
    clear hgo
    by_cases hlt : k < n
    · go_wp2_with fail
      refine (spec_ArePaths A n c B ps wr (h.below (hbl.mono hB)) (by omega) hn).mono ?_
      rintro e w1 ⟨rfl, hb1⟩
      have hbl1 := hbl.trans (hb1.mono hsz)
      have hs1 := hbl1.size
      clear hb1 hbl
      cases ha : arePs ps
      · have hj0 : k = 0 := by
          have := HG.out
          rw [ha] at this
          by_cases e : 0 < k
          · cases this e
          · omega
        have HR : Hid (longC ps = mostTo ps 0) := Lib.hid (by unfold longC; rw [ha]; rfl)
        subst hj0
        clear ha
        go_wp2
        go_ret
        exact ⟨by rw [HR.out]; rfl, hbl1⟩
      · have HA := Lib.hid ha
        clear ha
        obtain ⟨ad, p, rfl, hab, hp, hq⟩ := h.at hlt
        obtain ⟨c0, c1, c2, c3⟩ := hq.below hbl1 (by omega)
        have HM : Hid (mostTo ps (k + 1) = maxI (mostTo ps k) (clearN p)) := Lib.hid (by show maxI _ (clearN (pAt ps k)) = _; rw [pAt_some hp])
        have hcc := spec_ClearOf p w1
        have hv : p.val = .agg #[.int .i64 p.id, .int .i64 p.kind, .int .i64 p.frm, .int .i64 p.to] := rfl
        rw [hv] at hcc
        generalize mostTo ps k = m at *
        clear hp hq hv
        go_wp2_with fail
        refine hcc.mono ?_
        rintro e w2 ⟨rfl, hb2⟩
        have hbl2 := hbl1.trans (hb2.mono hs1)
        clear hb2 hcc
        generalize clearN p = cn at *
        go_wp2_with (go_at_call 22; refine (spec_Max _ _ _).mono ?_; rintro e w' ⟨rfl, rfl⟩)
        go_roundw
        case rel => exact ⟨k + 1, by omega, by go_num, by rw [HM.out], fun _ => HA.out, hbl2⟩
        case measure => simp [intOf]; omega
    · obtain rfl : k = n := by omega
      have HR : Hid (longC ps = mostTo ps k) := Lib.hid (by
        unfold longC
        cases ha : arePs ps
        · by_cases e : 0 < k
          · rw [HG.out e] at ha; cases ha
          · obtain rfl : k = 0 := by omega
            rfl
        · rw [hl]; rfl)
      go_wp2
      go_ret
      exact ⟨by rw [HR.out]; try rfl, hbl⟩
end Go.Proofs.YtdgpodopkfnpeabDoor
