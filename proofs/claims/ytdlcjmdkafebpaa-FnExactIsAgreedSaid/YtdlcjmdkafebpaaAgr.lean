/- Chapter 24: IsAgreed, PlanAfter: program and model. -/
import Derived.Test.YtdlcjmdkafebpaaBalT
import Derived.Test.YtdlcjmdkafebpaaGrow
namespace Go.Proofs.Ytdlcjmdkafebpaa
open Go.RowKit
set_option linter.unusedVariables false

/-- what IsAgreed answers: the votes first, then Plan and At. -/
def isAgr (zs : List Int) (p a : Int) : Bool := isTrn p a zs && decide (cntV zs 1 = (zs.length : Int))
def planAft (zs : List Int) (p a before now : Int) : Int := if isAgr zs p a = true ∧ now ≥ a then p else before
set_option maxHeartbeats 1000000 in
set_option maxRecDepth 100000 in
theorem spec_IsAgreed (p a : Int) (A : Option Addr) (n c B : Nat) (zs : List Int) (w : World) (h : IntsAt .i64 w B A n zs) (hB : B ≤ w.heap.size) (hn : n ≤ 4294967296) (hw : ∀ z ∈ zs, (Lit.int .i64 z).wf = true) :
    Calls Try.prog 16 #[trnV p a (.slice A n c)] w fun e w' => e = .returned (.bool (isAgr zs p a)) ∧ Below w.heap.size w w' := by
  have hl := h.1
  have HR : Hid (isAgr zs p a = (isTrn p a zs && decide (cntV zs 1 = (n : Int)))) := Lib.hid (by unfold isAgr; rw [hl])
  obtain ⟨wA, hwA⟩ : ∃ wA, wA = w.alloc (.cells #[.int .i64 p, .int .i64 a, .slice A n c] 27) := ⟨_, rfl⟩
  obtain ⟨hk, hsz, acc⟩ := one_block hwA
  have lt0 : w.heap.size < wA.heap.size := by omega
  have hbx := fun y : GW wA => cells3 ((y.ok.block _ lt0).trans hk)
  have y0 := fun y : GW wA => (hbx y).1
  have y1 := fun y : GW wA => (hbx y).2.1
  have y2 := fun y : GW wA => (hbx y).2.2
  have hit := fun y : GW wA => spec_IsTurn p a A n c B zs y.val (h.keep fun _ hp => (acc.trans (y.ok.mono acc.size)).cell (Nat.lt_of_lt_of_le hp hB)) (Nat.le_trans hB (Nat.le_trans acc.size y.ok.size)) hn
  have hcv := fun y : GW wA => spec_CountVotes p a A n c B zs 1 y.val (h.keep fun _ hp => (acc.trans (y.ok.mono acc.size)).cell (Nat.lt_of_lt_of_le hp hB)) (Nat.le_trans hB (Nat.le_trans acc.size y.ok.size)) hn
  have HB := Lib.hid acc
  generalize isAgr zs p a = v at *
  simp only [trnV] at *
  clear hk hsz h hbx acc
  cases h1 : isTrn p a zs
  · rw [h1] at hit HR
    have HV : Hid (v = false) := Lib.hid (by rw [HR.out]; rfl)
    clear h1 HR hcv
    go_enter Try.func16, Try.ntmps16
    go_wp2
    rw [← hwA]
    clear hwA
    refine wp_region_grow (by kernel_rfl) (by kernel_rfl) ?_
    repeat (go_big_quiet_step (first | (go_at_call 77; exact calls_gw _ (hit _)) | (go_at_call 78; exact calls_gw _ (hcv _))))
    refine wpQuiet_nil ?_
    intro x3
    have hb3 := x3.ok
    generalize x3.val = w3 at *
    go_wp2
    go_ret
    exact ⟨by rw [HV.out]; try rfl, HB.out.trans (hb3.mono HB.out.size)⟩
  · rw [h1] at hit HR
    clear h1
    have HV : Hid (v = decide (cntV zs 1 = (n : Int))) := Lib.hid (by rw [HR.out]; rfl)
    generalize cntV zs 1 = m at *
    clear HR
    by_cases he : m = (n : Int)
    · have e1 : (m == (n : Int)) = true := by simpa using he
      have HV : Hid (v = true) := Lib.hid (by rw [HV.out, decide_eq_true he])
      clear he
      go_enter Try.func16, Try.ntmps16
      go_wp2
      rw [← hwA]
      clear hwA
      refine wp_region_grow (by kernel_rfl) (by kernel_rfl) ?_
      repeat (go_big_quiet_step (first | (go_at_call 77; exact calls_gw _ (hit _)) | (go_at_call 78; exact calls_gw _ (hcv _))))
      refine wpQuiet_nil ?_
      intro x3
      have hb3 := x3.ok
      generalize x3.val = w3 at *
      go_wp2
      go_ret
      exact ⟨by rw [HV.out]; try rfl, HB.out.trans (hb3.mono HB.out.size)⟩
    · have e1 : (m == (n : Int)) = false := by simpa using he
      have HV : Hid (v = false) := Lib.hid (by rw [HV.out, decide_eq_false he])
      clear he
      go_enter Try.func16, Try.ntmps16
      go_wp2
      rw [← hwA]
      clear hwA
      refine wp_region_grow (by kernel_rfl) (by kernel_rfl) ?_
      repeat (go_big_quiet_step (first | (go_at_call 77; exact calls_gw _ (hit _)) | (go_at_call 78; exact calls_gw _ (hcv _))))
      refine wpQuiet_nil ?_
      intro x3
      have hb3 := x3.ok
      generalize x3.val = w3 at *
      go_wp2
      go_ret
      exact ⟨by rw [HV.out]; try rfl, HB.out.trans (hb3.mono HB.out.size)⟩
theorem spec_PlanAfter (p a : Int) (A : Option Addr) (n c B : Nat) (zs : List Int) (before now : Int) (w : World) (h : IntsAt .i64 w B A n zs) (hB : B ≤ w.heap.size) (hn : n ≤ 4294967296) (hw : ∀ z ∈ zs, (Lit.int .i64 z).wf = true) :
    Calls Try.prog 20 #[trnV p a (.slice A n c), .int .i64 before, .int .i64 now] w fun e w' => e = .returned (.int .i64 (planAft zs p a before now)) ∧ Below w.heap.size w w' := by
  have HR : Hid (planAft zs p a before now = if isAgr zs p a = true ∧ now ≥ a then p else before) := Lib.hid rfl
  obtain ⟨wA, hwA⟩ : ∃ wA, wA = w.alloc (.cells #[.int .i64 p, .int .i64 a, .slice A n c] 27) := ⟨_, rfl⟩
  obtain ⟨hk, hsz, acc⟩ := one_block hwA
  have lt0 : w.heap.size < wA.heap.size := by omega
  obtain ⟨k0, k1, k2⟩ := cells3 hk
  have hcc := spec_IsAgreed p a A n c B zs wA (h.keep fun _ hp => acc.cell (Nat.lt_of_lt_of_le hp hB)) (Nat.le_trans hB acc.size) hn hw
  have HB := Lib.hid acc
  generalize planAft zs p a before now = v at *
  simp only [trnV] at *
  clear hsz h acc
  cases h1 : isAgr zs p a
  · rw [h1] at hcc HR
    have HV : Hid (v = before) := Lib.hid (by rw [HR.out, if_neg (by simp)])
    clear h1 HR
    go_enter Try.func20, Try.ntmps20
    go_wp2_with fail
    rw [← hwA]
    refine hcc.mono ?_
    rintro e w1 ⟨rfl, hb1⟩
    clear hwA hcc
    go_wp2
    go_ret
    exact ⟨by rw [HV.out]; try rfl, HB.out.trans (hb1.mono HB.out.size)⟩
  · rw [h1] at hcc HR
    clear h1
    by_cases hna : now ≥ a
    · have HV : Hid (v = p) := Lib.hid (by rw [HR.out, if_pos ⟨rfl, hna⟩])
      clear HR
      go_enter Try.func20, Try.ntmps20
      go_wp2_with fail
      rw [← hwA]
      refine hcc.mono ?_
      rintro e w1 ⟨rfl, hb1⟩
      obtain ⟨j0, j1, j2⟩ := cells3 ((hb1.block _ lt0).trans hk)
      clear hwA hcc
      go_wp2
      go_ret
      exact ⟨by rw [HV.out]; try rfl, HB.out.trans (hb1.mono HB.out.size)⟩
    · have HV : Hid (v = before) := Lib.hid (by rw [HR.out, if_neg (fun h => hna h.2)])
      clear HR
      go_enter Try.func20, Try.ntmps20
      go_wp2_with fail
      rw [← hwA]
      refine hcc.mono ?_
      rintro e w1 ⟨rfl, hb1⟩
      obtain ⟨j0, j1, j2⟩ := cells3 ((hb1.block _ lt0).trans hk)
      clear hwA hcc
      go_wp2
      go_ret
      exact ⟨by rw [HV.out]; try rfl, HB.out.trans (hb1.mono HB.out.size)⟩
set_option maxHeartbeats 1000000 in
set_option maxRecDepth 100000 in
theorem impl_IsAgreed (p a : Int) (A : Option Addr) (n c B : Nat) (zs : List Int) (w : World) (h : IntsAt .i64 w B A n zs) (hB : B ≤ w.heap.size) (hn : n ≤ 4294967296) (hw : ∀ z ∈ zs, (Lit.int .i64 z).wf = true) :
    Calls Try.prog 18 #[trnV p a (.slice A n c)] w fun e w' => e = .returned (.bool (isAgr zs p a)) ∧ Below w.heap.size w w' := by
  have hl := h.1
  have HR : Hid (isAgr zs p a = (isTrn p a zs && decide (cntV zs 1 = (n : Int)))) := Lib.hid (by unfold isAgr; rw [hl])
  obtain ⟨wA, hwA⟩ : ∃ wA, wA = w.alloc (.cells #[.int .i64 p, .int .i64 a, .slice A n c] 27) := ⟨_, rfl⟩
  obtain ⟨hk, hsz, acc⟩ := one_block hwA
  have lt0 : w.heap.size < wA.heap.size := by omega
  have hbx := fun y : GW wA => cells3 ((y.ok.block _ lt0).trans hk)
  have y0 := fun y : GW wA => (hbx y).1
  have y1 := fun y : GW wA => (hbx y).2.1
  have y2 := fun y : GW wA => (hbx y).2.2
  have hit := fun y : GW wA => impl_IsTurn p a A n c B zs y.val (h.keep fun _ hp => (acc.trans (y.ok.mono acc.size)).cell (Nat.lt_of_lt_of_le hp hB)) (Nat.le_trans hB (Nat.le_trans acc.size y.ok.size)) hn hw
  have hcv := fun y : GW wA => impl_CountVotes p a A n c B zs 1 y.val (h.keep fun _ hp => (acc.trans (y.ok.mono acc.size)).cell (Nat.lt_of_lt_of_le hp hB)) (Nat.le_trans hB (Nat.le_trans acc.size y.ok.size)) hn hw (by decide)
  have HB := Lib.hid acc
  generalize isAgr zs p a = v at *
  simp only [trnV] at *
  clear hk hsz h hbx acc
  cases h1 : isTrn p a zs
  · rw [h1] at hit HR
    have HV : Hid (v = false) := Lib.hid (by rw [HR.out]; rfl)
    clear h1 HR hcv
    go_enter Try.func18, Try.ntmps18
    go_wp2
    rw [← hwA]
    clear hwA
    refine wp_region_grow (by kernel_rfl) (by kernel_rfl) ?_
    repeat (go_big_quiet_step (first | (go_at_call 79; exact calls_gw _ (hit _)) | (go_at_call 80; exact calls_gw _ (hcv _))))
    refine wpQuiet_nil ?_
    intro x3
    have hb3 := x3.ok
    generalize x3.val = w3 at *
    go_wp2
    go_ret
    exact ⟨by rw [HV.out]; try rfl, HB.out.trans (hb3.mono HB.out.size)⟩
  · rw [h1] at hit HR
    clear h1
    have HV : Hid (v = decide (cntV zs 1 = (n : Int))) := Lib.hid (by rw [HR.out]; rfl)
    generalize cntV zs 1 = m at *
    clear HR
    by_cases he : m = (n : Int)
    · have e1 : (m == (n : Int)) = true := by simpa using he
      have HV : Hid (v = true) := Lib.hid (by rw [HV.out, decide_eq_true he])
      clear he
      go_enter Try.func18, Try.ntmps18
      go_wp2
      rw [← hwA]
      clear hwA
      refine wp_region_grow (by kernel_rfl) (by kernel_rfl) ?_
      repeat (go_big_quiet_step (first | (go_at_call 79; exact calls_gw _ (hit _)) | (go_at_call 80; exact calls_gw _ (hcv _))))
      refine wpQuiet_nil ?_
      intro x3
      have hb3 := x3.ok
      generalize x3.val = w3 at *
      go_wp2
      go_ret
      exact ⟨by rw [HV.out]; try rfl, HB.out.trans (hb3.mono HB.out.size)⟩
    · have e1 : (m == (n : Int)) = false := by simpa using he
      have HV : Hid (v = false) := Lib.hid (by rw [HV.out, decide_eq_false he])
      clear he
      go_enter Try.func18, Try.ntmps18
      go_wp2
      rw [← hwA]
      clear hwA
      refine wp_region_grow (by kernel_rfl) (by kernel_rfl) ?_
      repeat (go_big_quiet_step (first | (go_at_call 79; exact calls_gw _ (hit _)) | (go_at_call 80; exact calls_gw _ (hcv _))))
      refine wpQuiet_nil ?_
      intro x3
      have hb3 := x3.ok
      generalize x3.val = w3 at *
      go_wp2
      go_ret
      exact ⟨by rw [HV.out]; try rfl, HB.out.trans (hb3.mono HB.out.size)⟩
theorem impl_PlanAfter (p a : Int) (A : Option Addr) (n c B : Nat) (zs : List Int) (before now : Int) (w : World) (h : IntsAt .i64 w B A n zs) (hB : B ≤ w.heap.size) (hn : n ≤ 4294967296) (hw : ∀ z ∈ zs, (Lit.int .i64 z).wf = true) :
    Calls Try.prog 21 #[trnV p a (.slice A n c), .int .i64 before, .int .i64 now] w fun e w' => e = .returned (.int .i64 (planAft zs p a before now)) ∧ Below w.heap.size w w' := by
  have HR : Hid (planAft zs p a before now = if isAgr zs p a = true ∧ now ≥ a then p else before) := Lib.hid rfl
  obtain ⟨wA, hwA⟩ : ∃ wA, wA = w.alloc (.cells #[.int .i64 p, .int .i64 a, .slice A n c] 27) := ⟨_, rfl⟩
  obtain ⟨hk, hsz, acc⟩ := one_block hwA
  have lt0 : w.heap.size < wA.heap.size := by omega
  obtain ⟨k0, k1, k2⟩ := cells3 hk
  have hcc := impl_IsAgreed p a A n c B zs wA (h.keep fun _ hp => acc.cell (Nat.lt_of_lt_of_le hp hB)) (Nat.le_trans hB acc.size) hn hw
  have HB := Lib.hid acc
  generalize planAft zs p a before now = v at *
  simp only [trnV] at *
  clear hsz h acc
  cases h1 : isAgr zs p a
  · rw [h1] at hcc HR
    have HV : Hid (v = before) := Lib.hid (by rw [HR.out, if_neg (by simp)])
    clear h1 HR
    go_enter Try.func21, Try.ntmps21
    go_wp2_with fail
    rw [← hwA]
    refine hcc.mono ?_
    rintro e w1 ⟨rfl, hb1⟩
    clear hwA hcc
    go_wp2
    go_ret
    exact ⟨by rw [HV.out]; try rfl, HB.out.trans (hb1.mono HB.out.size)⟩
  · rw [h1] at hcc HR
    clear h1
    by_cases hna : now ≥ a
    · have HV : Hid (v = p) := Lib.hid (by rw [HR.out, if_pos ⟨rfl, hna⟩])
      clear HR
      go_enter Try.func21, Try.ntmps21
      go_wp2_with fail
      rw [← hwA]
      refine hcc.mono ?_
      rintro e w1 ⟨rfl, hb1⟩
      obtain ⟨j0, j1, j2⟩ := cells3 ((hb1.block _ lt0).trans hk)
      clear hwA hcc
      go_wp2
      go_ret
      exact ⟨by rw [HV.out]; try rfl, HB.out.trans (hb1.mono HB.out.size)⟩
    · have HV : Hid (v = before) := Lib.hid (by rw [HR.out, if_neg (fun h => hna h.2)])
      clear HR
      go_enter Try.func21, Try.ntmps21
      go_wp2_with fail
      rw [← hwA]
      refine hcc.mono ?_
      rintro e w1 ⟨rfl, hb1⟩
      obtain ⟨j0, j1, j2⟩ := cells3 ((hb1.block _ lt0).trans hk)
      clear hwA hcc
      go_wp2
      go_ret
      exact ⟨by rw [HV.out]; try rfl, HB.out.trans (hb1.mono HB.out.size)⟩
end Go.Proofs.Ytdlcjmdkafebpaa
