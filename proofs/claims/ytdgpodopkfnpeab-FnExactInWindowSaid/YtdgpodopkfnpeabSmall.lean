/- Small functions of chapters 16, 21, 26: PrioEnds, IsWindow, InWindow, GreatestBand, IsTally, Inside: program and model. -/
import Derived.Test.YtdgpodopkfnpeabInts
import Derived.Test.YtdgpodopkfnpeabPri
import Derived.Test.YtdgpodopkfnpeabWdw
import Derived.Test.YtdgpodopkfnpeabTly
import Derived.BigQuiet
import Derived.Deep.QuietTactic
import Derived.Deep.RegionWith
import Derived.Deep.RegionHeld3
namespace Go.Proofs.Ytdgpodopkfnpeab
open Go.RowKit
set_option linter.unusedVariables false

/-- what PrioEnds answers. -/
def prioEnds (r : Pri) : Int := if r.path = 0 then 0 else r.left
/-- what IsWindow answers. -/
def isWin (x : Wdw) (c : Int) : Bool := inB c 1 200 && inB x.frm 0 (c - 1) && inB x.long 0 c
theorem spec_IsWindow (x : Wdw) (c : Int) (w : World) : Calls Try.prog 59 #[x.val, .int .i64 c] w fun e w' => e = .returned (.bool (isWin x c)) ∧ Below w.heap.size w w' := by
  obtain ⟨a, b⟩ := x
  have HR : Hid (isWin ⟨a, b⟩ c = (inB c 1 200 && inB a 0 (c - 1) && inB b 0 c)) := Lib.hid rfl
  simp only [Wdw.val]
  have HB := Lib.hid ((Below.refl w.heap.size w).alloc (Nat.le_refl _) (.cells #[.int .i64 a, .int .i64 b] 25))
  cases h1 : inB c 1 200
  · have H1 := Lib.hid h1
    rw [h1] at HR
    clear h1
    go_enter Try.func59, Try.ntmps59
    go_wp2_with (go_at_call 60; refine (spec_l1In _ _ _ _).mono ?_; rintro e w' ⟨rfl, rfl⟩; rw [H1.out])
    go_ret
    exact ⟨by rw [HR.out]; rfl, HB.out⟩
  obtain ⟨l1, l2⟩ := inB_t h1
  have hwr : IntKind.i64.wrap (c - 1) = c - 1 := by rw [IntKind.wrap_i64]; omega
  cases h2 : inB a 0 (c - 1)
  rotate_left
  cases h3 : inB b 0 c
  all_goals
    rw [h1, h2] at HR
    try rw [h3] at HR
    have H1 := Lib.hid h1
    have H2 := Lib.hid h2
    try have H3 := Lib.hid h3
    clear h1 h2
    try clear h3
    go_enter Try.func59, Try.ntmps59
    go_wp2_with (go_at_call 60; refine (spec_l1In _ _ _ _).mono ?_; rintro e w' ⟨rfl, rfl⟩; first | rw [H1.out] | rw [H2.out] | rw [H3.out])
    go_ret
    exact ⟨by rw [HR.out]; rfl, HB.out⟩
theorem impl_IsWindow (x : Wdw) (c : Int) (w : World) : Calls Try.prog 62 #[x.val, .int .i64 c] w fun e w' => e = .returned (.bool (isWin x c)) ∧ Below w.heap.size w w' := by
  obtain ⟨a, b⟩ := x
  have HR : Hid (isWin ⟨a, b⟩ c = (inB c 1 200 && inB a 0 (c - 1) && inB b 0 c)) := Lib.hid rfl
  simp only [Wdw.val]
  have HB := Lib.hid ((Below.refl w.heap.size w).alloc (Nat.le_refl _) (.cells #[.int .i64 a, .int .i64 b] 25))
  cases h1 : inB c 1 200
  · have H1 := Lib.hid h1
    rw [h1] at HR
    clear h1
    go_enter Try.func62, Try.ntmps62
    go_wp2_with (go_at_call 80; refine (impl_InRange _ _ _ _).mono ?_; rintro e w' ⟨rfl, rfl⟩; rw [H1.out])
    go_ret
    exact ⟨by rw [HR.out]; rfl, HB.out⟩
  obtain ⟨l1, l2⟩ := inB_t h1
  have hwr : IntKind.i64.wrap (c - 1) = c - 1 := by rw [IntKind.wrap_i64]; omega
  cases h2 : inB a 0 (c - 1)
  rotate_left
  cases h3 : inB b 0 c
  all_goals
    rw [h1, h2] at HR
    try rw [h3] at HR
    have H1 := Lib.hid h1
    have H2 := Lib.hid h2
    try have H3 := Lib.hid h3
    clear h1 h2
    try clear h3
    go_enter Try.func62, Try.ntmps62
    go_wp2_with (go_at_call 80; refine (impl_InRange _ _ _ _).mono ?_; rintro e w' ⟨rfl, rfl⟩; first | rw [H1.out] | rw [H2.out] | rw [H3.out])
    go_ret
    exact ⟨by rw [HR.out]; rfl, HB.out⟩
/-- what InWindow answers. -/
def inWin (x : Wdw) (c o s : Int) : Bool := isWin x c && inB o (-1000000) 1000000 && inB s (-1000000) 1000000 && decide (modI (s - o - x.frm) c < x.long)
theorem isWin_facts {x : Wdw} {c : Int} (h : isWin x c = true) : (1 ≤ c ∧ c ≤ 200) ∧ (0 ≤ x.frm ∧ x.frm ≤ c - 1) ∧ 0 ≤ x.long ∧ x.long ≤ c := by
  simp only [isWin, Bool.and_eq_true] at h
  exact ⟨inB_t h.1.1, inB_t h.1.2, inB_t h.2⟩
theorem impl_isShift (n : Int) (w : World) : Calls Try.prog 63 #[.int .i64 n] w fun e w' => e = .returned (.bool (inB n (-1000000) 1000000)) ∧ w = w' := by
  go_enter Try.func63, Try.ntmps63
  go_wp2_with fail
  refine (impl_InRange _ _ _ _).mono ?_
  rintro e w1 ⟨rfl, rfl⟩
  go_wp2
  go_ret
  exact ⟨rfl, rfl⟩
set_option maxHeartbeats 1000000 in
theorem impl_InWindow (x : Wdw) (c o s : Int) (w : World) : Calls Try.prog 15 #[x.val, .int .i64 c, .int .i64 o, .int .i64 s] w fun e w' => e = .returned (.bool (inWin x c o s)) ∧ Below w.heap.size w w' := by
  have hcc := fun y => impl_IsWindow x c y
  have hfa := @isWin_facts x c
  obtain ⟨a, b⟩ := x
  have HR : Hid (inWin ⟨a, b⟩ c o s = (isWin ⟨a, b⟩ c && inB o (-1000000) 1000000 && inB s (-1000000) 1000000 && decide (modI (s - o - a) c < b))) := Lib.hid rfl
  simp only [Wdw.val] at *
  obtain ⟨wA, hwA⟩ : ∃ wA, wA = w.alloc (.cells #[.int .i64 a, .int .i64 b] 25) := ⟨_, rfl⟩
  obtain ⟨hk, hsz, hB⟩ := one_block hwA
  have HK := Lib.hid hk
  have HSZ := Lib.hid hsz
  have HB := Lib.hid hB
  clear hk hsz hB
  cases h0 : isWin ⟨a, b⟩ c
  · rw [h0] at hcc HR
    clear h0 hfa
    go_enter Try.func15, Try.ntmps15
    go_wp2_with fail
    rw [← hwA]
    refine (hcc _).mono ?_
    rintro e w1 ⟨rfl, hb1⟩
    clear hwA
    go_wp2
    go_ret
    exact ⟨by rw [HR.out]; rfl, HB.out.trans (hb1.mono HB.out.size)⟩
  obtain ⟨⟨f1, f2⟩, ⟨f3, f4⟩, f5, f6⟩ := hfa h0
  rw [h0] at hcc HR
  clear h0 hfa
  cases h1 : inB o (-1000000) 1000000
  rotate_left
  cases h2 : inB s (-1000000) 1000000
  rotate_left
  · obtain ⟨g1, g2⟩ := inB_t h1
    obtain ⟨g3, g4⟩ := inB_t h2
    have HV : Hid (inWin ⟨a, b⟩ c o s = decide (modI (s - o - a) c < b)) := Lib.hid (by rw [HR.out, h1, h2]; rfl)
    have H1 := Lib.hid h1
    have H2 := Lib.hid h2
    have hw1 : IntKind.i64.wrap (s - o) = s - o := by rw [IntKind.wrap_i64]; omega
    have hw2 : IntKind.i64.wrap (s - o - a) = s - o - a := by rw [IntKind.wrap_i64]; omega
    clear h1 h2 HR
    go_enter Try.func15, Try.ntmps15
    go_wp2_with fail
    rw [← hwA]
    refine (hcc _).mono ?_
    rintro e w1 ⟨rfl, hb1⟩
    clear hwA
    have hk1 := (hb1.block _ (by have := HSZ.out; omega)).trans HK.out
    obtain ⟨k0, k1⟩ := wdw_head (wdw_of_block (p := ⟨a, b⟩) hk1)
    simp only at k0 k1
    have HB1 := Lib.hid (HB.out.trans (hb1.mono HB.out.size))
    clear hk1 hb1 hcc
    go_wp2_with (go_at_call 63; refine (impl_isShift _ _).mono ?_; rintro e w' ⟨rfl, rfl⟩; first | rw [H1.out] | rw [H2.out])
    have hm := fun y => impl_Mod (s - o - a) c y
    go_quiet ((go_at_call 64; exact Calls.quiet_of_same ((hm _).mono fun e w' h => ⟨h.1, h.2.symm⟩)))
    go_wp2
    go_ret
    exact ⟨by rw [HV.out]; rfl, belowN HB1.out _⟩
  all_goals
    have HV : Hid (inWin ⟨a, b⟩ c o s = false) := Lib.hid (by rw [HR.out, h1]; first | rfl | (rw [h2]; rfl))
    have H1 := Lib.hid h1
    try have H2 := Lib.hid h2
    clear h1 HR
    try clear h2
    go_enter Try.func15, Try.ntmps15
    go_wp2_with fail
    rw [← hwA]
    refine (hcc _).mono ?_
    rintro e w1 ⟨rfl, hb1⟩
    clear hwA hcc
    go_wp2_with (go_at_call 63; refine (impl_isShift _ _).mono ?_; rintro e w' ⟨rfl, rfl⟩; first | rw [H1.out] | rw [H2.out])
    go_ret
    exact ⟨by rw [HV.out]; rfl, HB.out.trans (hb1.mono HB.out.size)⟩
/-- what GreatestBand answers. -/
def greatB (x y : Wdw) (c : Int) : Int := if isWin x c && isWin y c then minI x.long y.long else 0
end Go.Proofs.Ytdgpodopkfnpeab
