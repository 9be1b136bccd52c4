/- Stages: the program. -/
import Derived.Test.YtgdficjihkglpadDoorMaskI
namespace Go.Proofs.YtgdficjihkglpadDoor
open Go.RowKit
set_option linter.unusedVariables false

/-- the stage's mask. -/
def stI (ps : List Pth) (f : Nat → Nat) (ids : List Int) : Option Nat := match goI ps 0 ids with
  | none => none
  | some m => if agL f (idxs m) &&& m = 0 then some m else none
theorem stI_none {ps : List Pth} {f : Nat → Nat} {ids : List Int} (h : goI ps 0 ids = none) : stI ps f ids = none := by unfold stI; rw [h]
theorem stI_bad {ps : List Pth} {f : Nat → Nat} {ids : List Int} {m : Nat} (h : goI ps 0 ids = some m) (h2 : ¬ agL f (idxs m) &&& m = 0) : stI ps f ids = none := by unfold stI; rw [h]; exact if_neg h2
theorem stI_good {ps : List Pth} {f : Nat → Nat} {ids : List Int} {m : Nat} (h : goI ps 0 ids = some m) (h2 : agL f (idxs m) &&& m = 0) : stI ps f ids = some m := by unfold stI; rw [h]; exact if_pos h2
theorem goI_lt {ps : List Pth} (h : ps.length ≤ 12) : ∀ {ids : List Int} {m q : Nat}, q < 4096 → goI ps q ids = some m → m < 4096
  | [], m, q, hq, e => by simp [goI] at e; omega
  | id :: ids, m, q, hq, e => by
    unfold goI at e
    cases hf : findK id ps with
    | none => rw [hf] at e; cases e
    | some i =>
      rw [hf] at e
      simp only at e
      have hi := findK_lt hf
      by_cases hle : 2 ^ i ≤ q
      · rw [if_pos hle] at e; cases e
      · rw [if_neg hle] at e
        exact goI_lt h (or_lt hq (Nat.lt_of_lt_of_le (Nat.pow_lt_pow_right (by decide) (show i < 12 by omega)) (by decide))) e
theorem range_block {w : World} {g : Nat} {cs : List Value} {t : TypeId} {fr : Nat × Nat} (h : w.heap[g]? = some (.cells cs.toArray t fr)) : w.rangeAt g 0 cs := fun j v hj => by
  rw [Nat.zero_add, cell_of_row w g j cs.toArray t fr h]
  simpa using hj
set_option maxHeartbeats 1000000 in
set_option maxRecDepth 100000 in
theorem impl_isPeaceful (A : Option Addr) (n c : Nat) (f : Nat → Nat) (hf : ∀ k, f k < 4096) (m : Nat) (hm : m < 4096) (w : World) (hw : Brus w) :
    Calls Tryd.prog 51 #[.agg (xcells A n c f).toArray, .int .u16 (m : Nat)] w fun e w' => e = .returned (.bool (decide (agL f (idxs m) &&& m = 0))) ∧ Below w.heap.size w w' := by
  have hX := heap_alloc_new w (.cells (xcells A n c f).toArray 67)
  have hB0 : Below w.heap.size w (w.alloc (.cells (xcells A n c f).toArray 67)) := (Below.refl _ _).alloc (Nat.le_refl _) _
  have hR0 := range_block hX
  have HA := Lib.hid (impl_against A n c f hf m hm (w.alloc (.cells (xcells A n c f).toArray 67)) (hw.below hB0 (Nat.le_refl _)))
  have HB0 := Lib.hid hB0
  have ha := agL_lt hf (idxs m)
  have hab : bits .and .u16 ((agL f (idxs m) : Nat) : Int) (m : Int) = ((agL f (idxs m) &&& m : Nat) : Int) := u16_and_nat _ _ (by omega) (by omega)
  have hln : (xcells A n c f).length = 13 := xcells_length _ _ _ _
  have hinf : (Tryd.prog.info? 67).map (·.size) = some (xcells A n c f).length := by rw [hln]; exact info_cross
  generalize xcells A n c f = xs at *
  generalize agL f (idxs m) &&& m = r at *
  generalize agL f (idxs m) = a at *
  obtain ⟨w0, hw0⟩ : ∃ w0, w0 = w.alloc (.cells xs.toArray 67) := ⟨_, rfl⟩
  rw [← hw0] at hR0 HB0 HA
  clear hX hB0 hw
  go_enter Tryd.func51, Tryd.ntmps51
  go_wp2_with ((with_reducible show wpList _ _ _ _ _ _); rw [← hw0]; refine wpList_load_mid rfl 67 _ rfl w.heap.size 0 rfl xs _ hR0 Tryd.underlying67 rfl hinf ?_)
  rw [← hw0]
  refine HA.out.mono ?_
  rintro e w1 ⟨rfl, hb⟩
  have HB1 := Lib.hid (HB0.out.trans (hb.mono HB0.out.size))
  clear hb hR0
  by_cases hr : r = 0
  · subst hr
    go_wp2
    go_ret
    exact ⟨by simp, HB1.out⟩
  · have hne : ((r : Int) == 0) = false := by simp; omega
    have HR : Hid (decide (r = 0) = false) := Lib.hid (decide_eq_false hr)
    go_wp2
    go_ret
    exact ⟨by rw [HR.out]; try rfl, HB1.out⟩
set_option maxHeartbeats 1000000 in
set_option maxRecDepth 100000 in
theorem impl_stageOf (A : Option Addr) (n c B : Nat) (ps : List Pth) (f : Nat → Nat) (hf : ∀ k, f k < 4096) (A2 : Option Addr) (n2 c2 : Nat) (zs : List Int) (w : World) (h : PthsAt w B A n ps) (hB : B ≤ w.heap.size) (h12 : n ≤ 12) (h2 : IntsAt .i64 w w.heap.size A2 n2 zs) (hn2 : n2 ≤ 4294967296) (hw : Brus w) :
    Calls Tryd.prog 92 #[.agg (xcells A n c f).toArray, .slice A2 n2 c2] w fun e w' => e = .returned (maskV (stI ps f zs)) ∧ Below w.heap.size w w' := by
  have hl := h.1
  have hX := heap_alloc_new w (.cells (xcells A n c f).toArray 67)
  have hB0 : Below w.heap.size w (w.alloc (.cells (xcells A n c f).toArray 67)) := (Below.refl _ _).alloc (Nat.le_refl _) _
  have hs0 : (w.alloc (.cells (xcells A n c f).toArray 67)).heap.size = w.heap.size + 1 := by simp
  have hR0 := range_block hX
  have HM := Lib.hid (fun x hx0 hx1 hx2 => impl_maskOf A n c B ps f A2 n2 c2 zs x hx0 hx1 h12 hx2 hn2)
  have HA := Lib.hid (fun m hm x hx => impl_isPeaceful A n c f hf m hm x hx)
  have HP := Lib.hid (h.below (hB0.mono hB))
  have HI := Lib.hid ((h2.keep fun p hp => hB0.cell hp).up (B' := w.heap.size + 1) (by omega))
  have HW := Lib.hid hw
  have HB0 := Lib.hid hB0
  have HX := Lib.hid hX
  have hln : (xcells A n c f).length = 13 := xcells_length _ _ _ _
  have hinf : (Tryd.prog.info? 67).map (·.size) = some (xcells A n c f).length := by rw [hln]; exact info_cross
  generalize xcells A n c f = xs at *
  obtain ⟨w0, hw0⟩ : ∃ w0, w0 = w.alloc (.cells xs.toArray 67) := ⟨_, rfl⟩
  rw [← hw0] at hR0 HP HI HB0 HX hs0
  clear hX hB0 hw h h2
  go_enter Tryd.func92, Tryd.ntmps92
  go_wp2_with ((with_reducible show wpList _ _ _ _ _ _); rw [← hw0]; refine wpList_load_mid rfl 67 _ rfl w.heap.size 0 rfl xs _ hR0 Tryd.underlying67 rfl hinf ?_)
  rw [← hw0]
  refine (HM.out _ HP.out (by omega) (by rw [hs0]; exact HI.out)).mono ?_
  cases hg : goI ps 0 zs
  · have HR := Lib.hid (stI_none (f := f) hg)
    rw [show maskV none = Value.tuple #[.int .u16 0, .bool false] from rfl]
    rintro e w1 ⟨rfl, hb⟩
    have HB1 := Lib.hid (HB0.out.trans (hb.mono HB0.out.size))
    clear hb hg
    go_wp2
    go_ret2
    exact ⟨by rw [HR.out]; rfl, HB1.out⟩
  · rename_i m
    have hm := goI_lt (by omega) (by decide) hg
    rw [show maskV (some m) = Value.tuple #[.int .u16 (m : Nat), .bool true] from rfl]
    rintro e w1 ⟨rfl, hb⟩
    have HB1 := Lib.hid (HB0.out.trans (hb.mono HB0.out.size))
    have hR1 : w1.rangeAt w.heap.size 0 xs := range_block ((hb.block w.heap.size (by omega)).trans HX.out)
    have HW1 := Lib.hid (HW.out.below HB1.out (Nat.le_refl _))
    have hbad := fun h => Lib.hid (stI_bad (f := f) hg h)
    have hgood := fun h => Lib.hid (stI_good (f := f) hg h)
    have HA1 := Lib.hid (HA.out m hm w1 HW1.out)
    clear hb hg HM HX HP HI hR0
    generalize agL f (idxs m) &&& m = r at *
    go_wp2_with (refine wpList_want (by rfl) ?_; refine wpList_load_mid rfl 67 _ rfl w.heap.size 0 rfl xs _ hR1 Tryd.underlying67 rfl hinf ?_)
    refine HA1.out.mono ?_
    by_cases hr : r = 0
    · have HR := hgood hr
      subst hr
      rw [show decide (0 = 0) = true from rfl]
      rintro e w2 ⟨rfl, hb2⟩
      have HB2 := Lib.hid (HB1.out.trans (hb2.mono HB1.out.size))
      clear hb2 hbad hgood
      go_wp2
      go_ret2
      exact ⟨by rw [HR.out]; rfl, HB2.out⟩
    · have HR := hbad hr
      rw [decide_eq_false hr]
      rintro e w2 ⟨rfl, hb2⟩
      have HB2 := Lib.hid (HB1.out.trans (hb2.mono HB1.out.size))
      clear hb2 hbad hgood
      go_wp2
      go_ret2
      exact ⟨by rw [HR.out]; rfl, HB2.out⟩
end Go.Proofs.YtgdficjihkglpadDoor
