/- Small functions of chapters 16, 21, 26: PrioEnds, IsWindow, InWindow, GreatestBand, IsTally, Inside: program and model. -/
import Derived.Test.YtnlffefekpjbcabInts
import Derived.Test.YtnlffefekpjbcabPri
import Derived.Test.YtnlffefekpjbcabWdw
import Derived.Test.YtnlffefekpjbcabTly
import Derived.BigQuiet
import Derived.Deep.QuietTactic
import Derived.Deep.RegionWith
import Derived.Deep.RegionHeld3
namespace Go.Proofs.Ytnlffefekpjbcab
open Go.RowKit
set_option linter.unusedVariables false

/-- what PrioEnds answers. -/
def prioEnds (r : Pri) : Int := if r.path = 0 then 0 else r.left
theorem spec_PrioEnds (r : Pri) (w : World) : Calls Try.prog 48 #[r.val] w fun e w' => e = .returned (.int .i64 (prioEnds r)) ∧ Below w.heap.size w w' := by
  obtain ⟨a, b⟩ := r
  simp only [Pri.val, prioEnds]
  have HB := Lib.hid ((Below.refl w.heap.size w).alloc (Nat.le_refl _) (.cells #[.int .i64 a, .int .i64 b] 70))
  by_cases h : a = 0
  · subst h
    go_enter Try.func48, Try.ntmps48
    go_wp2
    go_ret
    exact ⟨rfl, HB.out⟩
  · have e1 : (a == 0) = false := by simpa using h
    rw [if_neg h]
    go_enter Try.func48, Try.ntmps48
    go_wp2
    go_ret
    exact ⟨rfl, HB.out⟩
theorem impl_isThere (r : Pri) (w : World) : Calls Try.prog 91 #[r.val] w fun e w' => e = .returned (.bool (decide (r.path ≠ 0))) ∧ Below w.heap.size w w' := by
  obtain ⟨a, b⟩ := r
  simp only [Pri.val]
  have HB := Lib.hid ((Below.refl w.heap.size w).alloc (Nat.le_refl _) (.cells #[.int .i64 a, .int .i64 b] 70))
  by_cases h : a = 0
  · subst h
    go_enter Try.func91, Try.ntmps91
    go_wp2
    go_ret
    exact ⟨rfl, HB.out⟩
  · have e1 : (a != 0) = true := by simpa using h
    rw [decide_eq_true h]
    go_enter Try.func91, Try.ntmps91
    go_wp2
    go_ret
    exact ⟨rfl, HB.out⟩
theorem impl_PrioEnds (r : Pri) (w : World) : Calls Try.prog 50 #[r.val] w fun e w' => e = .returned (.int .i64 (prioEnds r)) ∧ Below w.heap.size w w' := by
  have hcc := fun x => impl_isThere r x
  obtain ⟨a, b⟩ := r
  simp only [Pri.val, prioEnds] at *
  obtain ⟨wA, hwA⟩ : ∃ wA, wA = w.alloc (.cells #[.int .i64 a, .int .i64 b] 70) := ⟨_, rfl⟩
  obtain ⟨hk, hsz, hB⟩ := one_block hwA
  have HK := Lib.hid hk
  have HSZ := Lib.hid hsz
  have HB := Lib.hid hB
  clear hk hsz hB
  by_cases h : a = 0
  · subst h
    rw [if_pos rfl]
    rw [decide_eq_false (by decide)] at hcc
    go_enter Try.func50, Try.ntmps50
    go_wp2_with fail
    rw [← hwA]
    refine (hcc _).mono ?_
    rintro e w1 ⟨rfl, hb1⟩
    clear hwA
    go_wp2
    go_ret
    exact ⟨rfl, HB.out.trans (hb1.mono HB.out.size)⟩
  · rw [if_neg h]
    rw [decide_eq_true h] at hcc
    go_enter Try.func50, Try.ntmps50
    go_wp2_with fail
    rw [← hwA]
    refine (hcc _).mono ?_
    rintro e w1 ⟨rfl, hb1⟩
    clear hwA
    have hk1 := (hb1.block _ (by have := HSZ.out; omega)).trans HK.out
    obtain ⟨k0, k1⟩ := pri_head (pri_of_block (p := ⟨a, b⟩) hk1)
    simp only at k0 k1
    clear hk1
    go_wp2
    go_ret
    exact ⟨rfl, HB.out.trans (hb1.mono HB.out.size)⟩
/-- what IsWindow answers. -/
def isWin (x : Wdw) (c : Int) : Bool := inB c 1 200 && inB x.frm 0 (c - 1) && inB x.long 0 c
theorem spec_IsWindow (x : Wdw) (c : Int) (w : World) : Calls Try.prog 30 #[x.val, .int .i64 c] w fun e w' => e = .returned (.bool (isWin x c)) ∧ Below w.heap.size w w' := by
  obtain ⟨a, b⟩ := x
  have HR : Hid (isWin ⟨a, b⟩ c = (inB c 1 200 && inB a 0 (c - 1) && inB b 0 c)) := Lib.hid rfl
  simp only [Wdw.val]
  have HB := Lib.hid ((Below.refl w.heap.size w).alloc (Nat.le_refl _) (.cells #[.int .i64 a, .int .i64 b] 47))
  cases h1 : inB c 1 200
  · have H1 := Lib.hid h1
    rw [h1] at HR
    clear h1
    go_enter Try.func30, Try.ntmps30
    go_wp2_with (go_at_call 79; refine (spec_l1In _ _ _ _).mono ?_; rintro e w' ⟨rfl, rfl⟩; rw [H1.out])
    go_ret
    exact ⟨by rw [HR.out]; rfl, HB.out⟩
  obtain ⟨l1, l2⟩ := inB_t h1
  have hwr : IntKind.i64.wrap (c - 1) = c - 1 := by rw [IntKind.wrap_i64]; omega
  cases h2 : inB a 0 (c - 1)
  rotate_left
  cases h3 : inB b 0 c
  all_goals
    rw [h1, h2] at HR
    try rw [h3] at HR
    have H1 := Lib.hid h1
    have H2 := Lib.hid h2
    try have H3 := Lib.hid h3
    clear h1 h2
    try clear h3
    go_enter Try.func30, Try.ntmps30
    go_wp2_with (go_at_call 79; refine (spec_l1In _ _ _ _).mono ?_; rintro e w' ⟨rfl, rfl⟩; first | rw [H1.out] | rw [H2.out] | rw [H3.out])
    go_ret
    exact ⟨by rw [HR.out]; rfl, HB.out⟩
theorem impl_IsWindow (x : Wdw) (c : Int) (w : World) : Calls Try.prog 32 #[x.val, .int .i64 c] w fun e w' => e = .returned (.bool (isWin x c)) ∧ Below w.heap.size w w' := by
  obtain ⟨a, b⟩ := x
  have HR : Hid (isWin ⟨a, b⟩ c = (inB c 1 200 && inB a 0 (c - 1) && inB b 0 c)) := Lib.hid rfl
  simp only [Wdw.val]
  have HB := Lib.hid ((Below.refl w.heap.size w).alloc (Nat.le_refl _) (.cells #[.int .i64 a, .int .i64 b] 47))
  cases h1 : inB c 1 200
  · have H1 := Lib.hid h1
    rw [h1] at HR
    clear h1
    go_enter Try.func32, Try.ntmps32
    go_wp2_with (go_at_call 78; refine (impl_InRange _ _ _ _).mono ?_; rintro e w' ⟨rfl, rfl⟩; rw [H1.out])
    go_ret
    exact ⟨by rw [HR.out]; rfl, HB.out⟩
  obtain ⟨l1, l2⟩ := inB_t h1
  have hwr : IntKind.i64.wrap (c - 1) = c - 1 := by rw [IntKind.wrap_i64]; omega
  cases h2 : inB a 0 (c - 1)
  rotate_left
  cases h3 : inB b 0 c
  all_goals
    rw [h1, h2] at HR
    try rw [h3] at HR
    have H1 := Lib.hid h1
    have H2 := Lib.hid h2
    try have H3 := Lib.hid h3
    clear h1 h2
    try clear h3
    go_enter Try.func32, Try.ntmps32
    go_wp2_with (go_at_call 78; refine (impl_InRange _ _ _ _).mono ?_; rintro e w' ⟨rfl, rfl⟩; first | rw [H1.out] | rw [H2.out] | rw [H3.out])
    go_ret
    exact ⟨by rw [HR.out]; rfl, HB.out⟩
/-- what InWindow answers. -/
def inWin (x : Wdw) (c o s : Int) : Bool := isWin x c && inB o (-1000000) 1000000 && inB s (-1000000) 1000000 && decide (modI (s - o - x.frm) c < x.long)
theorem isWin_facts {x : Wdw} {c : Int} (h : isWin x c = true) : (1 ≤ c ∧ c ≤ 200) ∧ (0 ≤ x.frm ∧ x.frm ≤ c - 1) ∧ 0 ≤ x.long ∧ x.long ≤ c := by
  simp only [isWin, Bool.and_eq_true] at h
  exact ⟨inB_t h.1.1, inB_t h.1.2, inB_t h.2⟩
theorem impl_isShift (n : Int) (w : World) : Calls Try.prog 82 #[.int .i64 n] w fun e w' => e = .returned (.bool (inB n (-1000000) 1000000)) ∧ w = w' := by
  go_enter Try.func82, Try.ntmps82
  go_wp2_with fail
  refine (impl_InRange _ _ _ _).mono ?_
  rintro e w1 ⟨rfl, rfl⟩
  go_wp2
  go_ret
  exact ⟨rfl, rfl⟩
set_option maxHeartbeats 1000000 in
theorem impl_InWindow (x : Wdw) (c o s : Int) (w : World) : Calls Try.prog 34 #[x.val, .int .i64 c, .int .i64 o, .int .i64 s] w fun e w' => e = .returned (.bool (inWin x c o s)) ∧ Below w.heap.size w w' := by
  have hcc := fun y => impl_IsWindow x c y
  have hfa := @isWin_facts x c
  obtain ⟨a, b⟩ := x
  have HR : Hid (inWin ⟨a, b⟩ c o s = (isWin ⟨a, b⟩ c && inB o (-1000000) 1000000 && inB s (-1000000) 1000000 && decide (modI (s - o - a) c < b))) := Lib.hid rfl
  simp only [Wdw.val] at *
  obtain ⟨wA, hwA⟩ : ∃ wA, wA = w.alloc (.cells #[.int .i64 a, .int .i64 b] 47) := ⟨_, rfl⟩
  obtain ⟨hk, hsz, hB⟩ := one_block hwA
  have HK := Lib.hid hk
  have HSZ := Lib.hid hsz
  have HB := Lib.hid hB
  clear hk hsz hB
  cases h0 : isWin ⟨a, b⟩ c
  · rw [h0] at hcc HR
    clear h0 hfa
    go_enter Try.func34, Try.ntmps34
    go_wp2_with fail
    rw [← hwA]
    refine (hcc _).mono ?_
    rintro e w1 ⟨rfl, hb1⟩
    clear hwA
    go_wp2
    go_ret
    exact ⟨by rw [HR.out]; rfl, HB.out.trans (hb1.mono HB.out.size)⟩
  obtain ⟨⟨f1, f2⟩, ⟨f3, f4⟩, f5, f6⟩ := hfa h0
  rw [h0] at hcc HR
  clear h0 hfa
  cases h1 : inB o (-1000000) 1000000
  rotate_left
  cases h2 : inB s (-1000000) 1000000
  rotate_left
  · obtain ⟨g1, g2⟩ := inB_t h1
    obtain ⟨g3, g4⟩ := inB_t h2
    have HV : Hid (inWin ⟨a, b⟩ c o s = decide (modI (s - o - a) c < b)) := Lib.hid (by rw [HR.out, h1, h2]; rfl)
    have H1 := Lib.hid h1
    have H2 := Lib.hid h2
    have hw1 : IntKind.i64.wrap (s - o) = s - o := by rw [IntKind.wrap_i64]; omega
    have hw2 : IntKind.i64.wrap (s - o - a) = s - o - a := by rw [IntKind.wrap_i64]; omega
    clear h1 h2 HR
    go_enter Try.func34, Try.ntmps34
    go_wp2_with fail
    rw [← hwA]
    refine (hcc _).mono ?_
    rintro e w1 ⟨rfl, hb1⟩
    clear hwA
    have hk1 := (hb1.block _ (by have := HSZ.out; omega)).trans HK.out
    obtain ⟨k0, k1⟩ := wdw_head (wdw_of_block (p := ⟨a, b⟩) hk1)
    simp only at k0 k1
    have HB1 := Lib.hid (HB.out.trans (hb1.mono HB.out.size))
    clear hk1 hb1 hcc
    go_wp2_with (go_at_call 82; refine (impl_isShift _ _).mono ?_; rintro e w' ⟨rfl, rfl⟩; first | rw [H1.out] | rw [H2.out])
    have hm := fun y => impl_Mod (s - o - a) c y
    go_quiet ((go_at_call 83; exact Calls.quiet_of_same ((hm _).mono fun e w' h => ⟨h.1, h.2.symm⟩)))
    go_wp2
    go_ret
    exact ⟨by rw [HV.out]; rfl, belowN HB1.out _⟩
  all_goals
    have HV : Hid (inWin ⟨a, b⟩ c o s = false) := Lib.hid (by rw [HR.out, h1]; first | rfl | (rw [h2]; rfl))
    have H1 := Lib.hid h1
    try have H2 := Lib.hid h2
    clear h1 HR
    try clear h2
    go_enter Try.func34, Try.ntmps34
    go_wp2_with fail
    rw [← hwA]
    refine (hcc _).mono ?_
    rintro e w1 ⟨rfl, hb1⟩
    clear hwA hcc
    go_wp2_with (go_at_call 82; refine (impl_isShift _ _).mono ?_; rintro e w' ⟨rfl, rfl⟩; first | rw [H1.out] | rw [H2.out])
    go_ret
    exact ⟨by rw [HV.out]; rfl, HB.out.trans (hb1.mono HB.out.size)⟩
/-- what GreatestBand answers. -/
def greatB (x y : Wdw) (c : Int) : Int := if isWin x c && isWin y c then minI x.long y.long else 0
set_option maxHeartbeats 1000000 in
theorem spec_GreatestBand (x y : Wdw) (c : Int) (w : World) : Calls Try.prog 35 #[x.val, y.val, .int .i64 c] w fun e w' => e = .returned (.int .i64 (greatB x y c)) ∧ Below w.heap.size w w' := by
  have hX := fun z => spec_IsWindow x c z
  have hY := fun z => spec_IsWindow y c z
  obtain ⟨a, b⟩ := x
  obtain ⟨a', b'⟩ := y
  have HR : Hid (greatB ⟨a, b⟩ ⟨a', b'⟩ c = if isWin ⟨a, b⟩ c && isWin ⟨a', b'⟩ c then minI b b' else 0) := Lib.hid rfl
  simp only [Wdw.val] at *
  obtain ⟨wA, hwA⟩ : ∃ wA, wA = (w.alloc (.cells #[.int .i64 a, .int .i64 b] 47)).alloc (.cells #[.int .i64 a', .int .i64 b'] 47) := ⟨_, rfl⟩
  obtain ⟨hk, hy, hsz, hB⟩ := two_blocks hwA
  have HSZ := Lib.hid hsz
  have HK := Lib.hid hk
  have HY := Lib.hid hy
  have HB := Lib.hid hB
  clear hk hy hsz hB
  have HAFT := Lib.hid (fun (w1 : World) (hb1 : Below wA.heap.size wA w1) => (⟨(hb1.block _ (by have := HSZ.out; omega)).trans HK.out, (hb1.block _ (by have := HSZ.out; omega)).trans HY.out, HB.out.trans (hb1.mono HB.out.size)⟩ : w1.heap[w.heap.size]? = _ ∧ w1.heap[w.heap.size + 1]? = _ ∧ Below w.heap.size w w1))
  clear HSZ HK HY HB
  cases h1 : isWin ⟨a, b⟩ c
  · rw [h1] at hX HR
    clear h1 hY
    go_enter Try.func35, Try.ntmps35
    go_wp2_with fail
    rw [← hwA]
    refine (hX _).mono ?_
    rintro e w1 ⟨rfl, hb1⟩
    clear hwA
    go_wp2
    go_ret
    exact ⟨by rw [HR.out]; rfl, (HAFT.out _ hb1).2.2⟩
  cases h2 : isWin ⟨a', b'⟩ c
  all_goals
    rw [h1] at hX HR
    rw [h2] at hY HR
    clear h1 h2
    go_enter Try.func35, Try.ntmps35
    go_wp2_with fail
    rw [← hwA]
    refine (hX _).mono ?_
    rintro e w1 ⟨rfl, hb1⟩
    clear hwA
    obtain ⟨hk, hy, hB⟩ := HAFT.out _ hb1
    obtain ⟨k0, k1⟩ := wdw_head (wdw_of_block (p := ⟨a, b⟩) hk)
    obtain ⟨y0, y1⟩ := wdw_head (wdw_of_block (p := ⟨a', b'⟩) hy)
    simp only at k0 k1 y0 y1
    have HB1 := Lib.hid hb1
    clear hk hy hB hb1
    go_wp2_with fail
    refine (hY _).mono ?_
    rintro e w2 ⟨rfl, hb2⟩
    have HB2 := Lib.hid (HB1.out.trans (hb2.mono HB1.out.size))
    clear hb2 k0 k1 y0 y1
    obtain ⟨hk, hy, hB⟩ := HAFT.out _ HB2.out
    obtain ⟨k0, k1⟩ := wdw_head (wdw_of_block (p := ⟨a, b⟩) hk)
    obtain ⟨y0, y1⟩ := wdw_head (wdw_of_block (p := ⟨a', b'⟩) hy)
    simp only at k0 k1 y0 y1
    have HBW := Lib.hid hB
    clear hk hy hB
    go_wp2_with (go_at_call 84; refine (spec_Min _ _ _).mono ?_; rintro e w' ⟨rfl, rfl⟩)
    go_ret
    exact ⟨by rw [HR.out]; rfl, HBW.out⟩
set_option maxHeartbeats 1000000 in
theorem impl_areWindows (x y : Wdw) (c : Int) (w : World) : Calls Try.prog 85 #[x.val, y.val, .int .i64 c] w fun e w' => e = .returned (.bool (isWin x c && isWin y c)) ∧ Below w.heap.size w w' := by
  have hX := fun z => impl_IsWindow x c z
  have hY := fun z => impl_IsWindow y c z
  generalize isWin x c = v1 at hX ⊢
  generalize isWin y c = v2 at hY ⊢
  obtain ⟨a, b⟩ := x
  obtain ⟨a', b'⟩ := y
  simp only [Wdw.val] at *
  obtain ⟨wA, hwA⟩ : ∃ wA, wA = (w.alloc (.cells #[.int .i64 a, .int .i64 b] 47)).alloc (.cells #[.int .i64 a', .int .i64 b'] 47) := ⟨_, rfl⟩
  obtain ⟨hk, hy, hsz, hB⟩ := two_blocks hwA
  have HSZ := Lib.hid hsz
  have HY := Lib.hid hy
  have HB := Lib.hid hB
  clear hk hy hsz hB
  cases v1
  · go_enter Try.func85, Try.ntmps85
    go_wp2_with fail
    rw [← hwA]
    refine (hX _).mono ?_
    rintro e w1 ⟨rfl, hb1⟩
    clear hwA
    go_wp2
    go_ret
    exact ⟨rfl, HB.out.trans (hb1.mono HB.out.size)⟩
  · go_enter Try.func85, Try.ntmps85
    go_wp2_with fail
    rw [← hwA]
    refine (hX _).mono ?_
    rintro e w1 ⟨rfl, hb1⟩
    clear hwA
    have hy := (hb1.block _ (by have := HSZ.out; omega)).trans HY.out
    obtain ⟨y0, y1⟩ := wdw_head (wdw_of_block (p := ⟨a', b'⟩) hy)
    simp only at y0 y1
    have HB1 := Lib.hid (HB.out.trans (hb1.mono HB.out.size))
    clear hy hb1
    go_wp2_with fail
    refine (hY _).mono ?_
    rintro e w2 ⟨rfl, hb2⟩
    clear y0 y1
    go_wp2
    go_ret
    exact ⟨by cases v2 <;> rfl, HB1.out.trans (hb2.mono HB1.out.size)⟩
set_option maxHeartbeats 1000000 in
theorem impl_GreatestBand (x y : Wdw) (c : Int) (w : World) : Calls Try.prog 36 #[x.val, y.val, .int .i64 c] w fun e w' => e = .returned (.int .i64 (greatB x y c)) ∧ Below w.heap.size w w' := by
  have hX := fun z => impl_areWindows x y c z
  obtain ⟨a, b⟩ := x
  obtain ⟨a', b'⟩ := y
  have HR : Hid (greatB ⟨a, b⟩ ⟨a', b'⟩ c = if isWin ⟨a, b⟩ c && isWin ⟨a', b'⟩ c then minI b b' else 0) := Lib.hid rfl
  simp only [Wdw.val] at *
  obtain ⟨wA, hwA⟩ : ∃ wA, wA = (w.alloc (.cells #[.int .i64 a, .int .i64 b] 47)).alloc (.cells #[.int .i64 a', .int .i64 b'] 47) := ⟨_, rfl⟩
  obtain ⟨hk, hy, hsz, hB⟩ := two_blocks hwA
  have HSZ := Lib.hid hsz
  have HK := Lib.hid hk
  have HY := Lib.hid hy
  have HB := Lib.hid hB
  clear hk hy hsz hB
  cases h1 : (isWin ⟨a, b⟩ c && isWin ⟨a', b'⟩ c)
  all_goals
    rw [h1] at hX HR
    clear h1
    go_enter Try.func36, Try.ntmps36
    go_wp2_with fail
    rw [← hwA]
    refine (hX _).mono ?_
    rintro e w1 ⟨rfl, hb1⟩
    clear hwA
    have hk := (hb1.block _ (by have := HSZ.out; omega)).trans HK.out
    have hy := (hb1.block _ (by have := HSZ.out; omega)).trans HY.out
    obtain ⟨k0, k1⟩ := wdw_head (wdw_of_block (p := ⟨a, b⟩) hk)
    obtain ⟨y0, y1⟩ := wdw_head (wdw_of_block (p := ⟨a', b'⟩) hy)
    simp only at k0 k1 y0 y1
    have HB1 := Lib.hid (HB.out.trans (hb1.mono HB.out.size))
    clear hk hy hb1
    go_wp2_with (go_at_call 86; refine (impl_Min _ _ _).mono ?_; rintro e w2 ⟨rfl, hb2⟩)
    go_ret
    exact ⟨by rw [HR.out]; rfl, by first | exact HB1.out | exact HB1.out.trans (hb2.mono HB1.out.size)⟩
end Go.Proofs.Ytnlffefekpjbcab
