/- Texts of one chain, put together: CtlB Ctl CtlM Mach MachE CtlN LawCtl. -/
import Derived.Handy
import Derived.Test.YtcbccbefkpklkaaDoorBndlF
set_option linter.unusedSimpArgs false
/- Controllers, as Lean data. No walk. -/
namespace Go.Proofs.YtcbccbefkpklkaaDoor
open Go.RowKit
set_option linter.unusedVariables false

structure Ctl where
  stage : List Int
  since : Int
  next : List Int
  left : Int
/-- what IsControl answers. -/
def isCtl (ps : List Pth) (x : Ctl) : Bool :=
  !decide (x.stage.length = 0) && isTog ps x.stage && isTog ps x.next && inB x.since 0 1000000 && (if x.next.length = 0 then decide (x.left = 0) else inB x.left 1 (clrB ps x.stage x.next))
theorem ctl_parts {ps : List Pth} {x : Ctl} (h : isCtl ps x = true) : arePs ps = true ∧ x.stage.length ≠ 0 ∧ isTog ps x.stage = true ∧ isTog ps x.next = true ∧ (0 ≤ x.since ∧ x.since ≤ 1000000) ∧ (if x.next.length = 0 then x.left = 0 else 1 ≤ x.left ∧ x.left ≤ clrB ps x.stage x.next) := by
  unfold isCtl at h
  simp only [Bool.and_eq_true] at h
  obtain ⟨⟨⟨⟨h1, h2⟩, h3⟩, h4⟩, h5⟩ := h
  refine ⟨(tog_maskL h2).1, by simpa using h1, h2, h3, inB_t h4, ?_⟩
  split at h5
  · rename_i e; rw [if_pos e]; simpa using h5
  · rename_i e; rw [if_neg e]; exact inB_t h5
theorem ctl_mask {ps : List Pth} {x : Ctl} (h1 : isTog ps x.stage = true) (h2 : isTog ps x.next = true) : isCtl ps x = (!decide (maskL ps x.stage = 0) && inB x.since 0 1000000 && (if maskL ps x.next = 0 then decide (x.left = 0) else inB x.left 1 (clrS ps (rowSt ps ps.length 0) (maskL ps x.stage) (maskL ps x.next)))) := by
  unfold isCtl
  rw [h1, h2, Bool.and_true, Bool.and_true, clr_maskL h1 h2]
  congr 1
  · congr 2
    exact decide_eq_decide.2 (maskL_empty h1).symm
  · by_cases e : x.next.length = 0
    · rw [if_pos e, if_pos ((maskL_empty h2).2 e)]
    · rw [if_neg e, if_neg (fun q => e ((maskL_empty h2).1 q))]
theorem ctl_no {ps : List Pth} {x : Ctl} (h : (isTog ps x.stage && isTog ps x.next) = false) : isCtl ps x = false := by
  unfold isCtl
  rw [Bool.and_assoc (!decide (x.stage.length = 0)), h]
  simp
/-- what CanEnd answers. -/
def canE (ps : List Pth) (x : Ctl) : Bool := isCtl ps x && decide (x.next.length = 0) && decide (leastG ps x.stage ≤ x.since)
/-- what a controller shows to a path. -/
def lightC (x : Ctl) (id : Int) : Int := if hasI x.stage id then (if x.next.length = 0 then 1 else if hasI x.next id then 1 else 2) else 0
theorem lightC_bound (x : Ctl) (id : Int) : 0 ≤ lightC x id ∧ lightC x id ≤ 2 := by
  unfold lightC
  split
  · split
    · decide
    · split <;> decide
  · decide
/-- what LightsOf answers. -/
def lightsC (ps : List Pth) (x : Ctl) : List Int := if isCtl ps x then ps.map fun q => lightC x q.id else []
theorem lightsC_len (ps : List Pth) (x : Ctl) : (lightsC ps x).length ≤ ps.length := by
  unfold lightsC
  split <;> simp
/-- a path's light by sets. -/
theorem lightC_mask {ps : List Pth} {x : Ctl} (h1 : isTog ps x.stage = true) (h2 : isTog ps x.next = true) {i : Nat} (hi : i < ps.length) : lightC x (idAt ps i) = if (maskL ps x.stage).testBit i then (if maskL ps x.next = 0 then 1 else if (maskL ps x.next).testBit i then 1 else 2) else 0 := by
  obtain ⟨ha, a1, a2, _, _⟩ := tog_maskL h1
  obtain ⟨_, b1, b2, _, _⟩ := tog_maskL h2
  have e1 : hasI x.stage (idAt ps i) = (maskL ps x.stage).testBit i := by
    have := has_ids ha a1 hi
    rwa [← a2] at this
  have e2 : hasI x.next (idAt ps i) = (maskL ps x.next).testBit i := by
    have := has_ids ha b1 hi
    rwa [← b2] at this
  unfold lightC
  rw [e1, e2]
  by_cases e : x.next.length = 0
  · rw [if_pos e, if_pos ((maskL_empty h2).2 e)]
  · rw [if_neg e, if_neg (fun q => e ((maskL_empty h2).1 q))]
end Go.Proofs.YtcbccbefkpklkaaDoor

/- A controller as a value; the laws' helpers for it. -/
namespace Go.Proofs.YtcbccbefkpklkaaDoor
open Go.RowKit
set_option linter.unusedVariables false

/-- a controller, as a value. -/
def ctlV (v : Value) (s : Int) (v' : Value) (l : Int) : Value := .agg #[v, .int .i64 s, v', .int .i64 l]
theorem cells4 {w : World} {g : Nat} {x0 x1 x2 x3 : Value} {E : TypeId} {fr : Nat × Nat} (h : w.heap[g]? = some (.cells #[x0, x1, x2, x3] E fr)) : w.cell? ⟨g, 0, none⟩ = some x0 ∧ w.cell? ⟨g, 1, none⟩ = some x1 ∧ w.cell? ⟨g, 2, none⟩ = some x2 ∧ w.cell? ⟨g, 3, none⟩ = some x3 :=
  ⟨by rw [cell_of_row w g 0 _ E fr h]; rfl, by rw [cell_of_row w g _ _ E fr h]; rfl, by rw [cell_of_row w g _ _ E fr h]; rfl, by rw [cell_of_row w g _ _ E fr h]; rfl⟩
set_option maxHeartbeats 1000000 in
theorem to_ctl (A : Option Addr) (n c B : Nat) (zs : List Int) (s : Int) (A' : Option Addr) (n' c' B' : Nat) (zs' : List Int) (l : Int) (w : World) (h : IntsAt .i64 w B A n zs) (hB : B ≤ w.heap.size) (hn : n ≤ 1048576) (h' : IntsAt .i64 w B' A' n' zs') (hB' : B' ≤ w.heap.size) (hn' : n' ≤ 1048576) :
    Calls Tryd.prog 46 #[ctlV (.slice A n c) s (.slice A' n' c') l] w fun e w' => ∃ A1 c1 A2 c2, e = .returned (ctlV (.slice A1 n c1) s (.slice A2 n' c2) l) ∧ Own .i64 3 w' w.heap.size (.slice A1 n c1) zs ∧ Own .i64 3 w' w.heap.size (.slice A2 n' c2) zs' ∧ (∀ g, (Value.slice A1 n c1).ownBlock = some g → (Value.slice A2 n' c2).ownBlock ≠ some g) ∧ Below w.heap.size w w' := by
  simp only [ctlV]
  obtain ⟨wA, hwA⟩ : ∃ wA, wA = ((w.alloc (.cells #[.slice A n c, .int .i64 s, .slice A' n' c', .int .i64 l] 58)).alloc (.cells #[.slice none 0 0, .int .i64 0, .slice none 0 0, .int .i64 0] 61)).alloc (.cells #[.slice none 0 0, .int .i64 0, .slice none 0 0, .int .i64 0] 61) := ⟨_, rfl⟩
  obtain ⟨hk0, hk1, hk2, hsz, hBA⟩ := three_blocks hwA
  have HT := Lib.hid (to_i64 A n c B zs wA (h.keep fun _ hp => hBA.cell (by omega)) (Nat.le_trans hB hBA.size) (by omega))
  have HT' := Lib.hid (fun x (hx : Below w.heap.size w x) => to_i64 A' n' c' B' zs' x (h'.keep fun _ hp => hx.cell (by omega)) (Nat.le_trans hB' hx.size) (by omega))
  have HB := Lib.hid hBA
  have HK0 := Lib.hid hk0
  have HK1 := Lib.hid hk1
  have HK2 := Lib.hid hk2
  obtain ⟨x0, x1, x2, x3⟩ := cells4 hk0
  have la : w.heap.size + 1 + 1 < wA.heap.size := by omega
  have la0 : w.heap.size < wA.heap.size := by omega
  have la1 : w.heap.size + 1 < wA.heap.size := by omega
  clear hk0 hk1 hk2 hsz hBA h h'
  go_enter Tryd.func46, Tryd.ntmps46
  go_wp2_with fail
  rw [← hwA]
  refine HT.out.mono ?_
  rintro e w1 ⟨rfl, ho, hb1⟩
  clear hwA
  have HO1 := Lib.hid ho
  have HB1 := Lib.hid (HB.out.trans (hb1.mono HB.out.size))
  have HX0 := Lib.hid ((hb1.block _ la0).trans HK0.out)
  have HX1 := Lib.hid ((hb1.block _ la1).trans HK1.out)
  have HX2 := Lib.hid ((hb1.block _ la).trans HK2.out)
  have lb := lt_of_block HX2.out
  clear x0 x1 x2 x3 ho hb1
  obtain ⟨x0, x1, x2, x3⟩ := cells4 HX0.out
  obtain ⟨z0, z1, z2, z3⟩ := cells4 HX2.out
  have fz : ∀ j, w1.frozen? ⟨w.heap.size + 1 + 1, j, none⟩ = false := fun j => frozen_of_row _ _ j _ _ HX2.out
  have la' := lb
  go_wp2_with fail
  obtain ⟨wS, hwS⟩ : ∃ wS, wS = (w1.setCell ⟨w.heap.size + 1 + 1, 0, none⟩ (.slice (some ⟨wA.heap.size, 0, none⟩) n n)).setCell ⟨w.heap.size + 1 + 1, 1, none⟩ (.int .i64 s) := ⟨_, rfl⟩
  have hss : wS.heap.size = w1.heap.size := by rw [hwS]; simp
  have y0 : wS.heap[w.heap.size]? = some (.cells #[.slice A n c, .int .i64 s, .slice A' n' c', .int .i64 l] 58) := (by rw [hwS]; exact unstored2 HX0.out (by omega))
  have y1 : wS.heap[w.heap.size + 1]? = some (.cells #[.slice none 0 0, .int .i64 0, .slice none 0 0, .int .i64 0] 61) := (by rw [hwS]; exact unstored2 HX1.out (by omega))
  have y2 : wS.heap[w.heap.size + 1 + 1]? = some (.cells #[.slice (some ⟨wA.heap.size, 0, none⟩) n n, .int .i64 s, .slice none 0 0, .int .i64 0] 61) := (by rw [hwS, heap_setCell_same _ _ _ _ _ _ (by exact heap_setCell_same _ _ _ _ _ _ HX2.out)]; rfl)
  have hbS : Below w.heap.size w wS := (by rw [hwS]; exact (HB1.out.setCell (show w.heap.size ≤ w.heap.size + 1 + 1 by omega) _).setCell (show w.heap.size ≤ w.heap.size + 1 + 1 by omega) _)
  have hoS : Own .i64 3 wS wA.heap.size (.slice (some ⟨wA.heap.size, 0, none⟩) n n) zs := (by
    rw [hwS]
    exact HO1.out.grown (only_setCell (only_setCell (World.grownBy.refl w1 (some (w.heap.size + 1 + 1))) 0 _) 1 _) (fun g e => by have := (HO1.out.block g e).1; intro h; injection h; omega))
  have HTS := Lib.hid (HT'.out wS hbS)
  have HBS := Lib.hid hbS
  have HY0 := Lib.hid y0
  have HY1 := Lib.hid y1
  have HY2 := Lib.hid y2
  have HOS := Lib.hid hoS
  have lc := lt_of_block HY2.out
  have lsz := HBS.out.size
  clear hoS hbS y0 y1 y2 hss z0 z1 z2 z3 fz x0 x1 x2 x3
  rw [← hwS]
  clear hwS
  refine HTS.out.mono ?_
  rintro e w3 ⟨rfl, ho3, hb3⟩
  have HO3 := Lib.hid ho3
  have HOS3 := Lib.hid (HOS.out.below hb3)
  have HB3 := Lib.hid (HBS.out.trans (hb3.mono HBS.out.size))
  have HZ0 := Lib.hid ((hb3.block _ (by omega)).trans HY0.out)
  have HZ1 := Lib.hid ((hb3.block _ (by omega)).trans HY1.out)
  have HZ2 := Lib.hid ((hb3.block _ lc).trans HY2.out)
  have ld := lt_of_block HZ2.out
  have ld1 := lt_of_block HZ1.out
  have HLS := Lib.hid ((HOS.out.block _ rfl).2)
  have lse := HOS.out.block wA.heap.size rfl
  obtain ⟨x0, x1, x2, x3⟩ := cells4 HZ0.out
  obtain ⟨z0, z1, z2, z3⟩ := cells4 HZ2.out
  obtain ⟨q0, q1, q2, q3⟩ := cells4 HZ1.out
  have fz : ∀ j, w3.frozen? ⟨w.heap.size + 1 + 1, j, none⟩ = false := fun j => frozen_of_row _ _ j _ _ HZ2.out
  have fq : ∀ j, w3.frozen? ⟨w.heap.size + 1, j, none⟩ = false := fun j => frozen_of_row _ _ j _ _ HZ1.out
  clear ho3 hb3
  go_wp2
  refine bodyPost_ret (by rw [results_cell rfl]; go_simp; try rfl) rfl ?_
  have key : ∀ {lo : Nat} {v : Value} {ys : List Int} (x1 x2 x3 x4 x5 x6 : Value), Own .i64 3 w3 lo v ys → w.heap.size + 1 + 1 < lo → Own .i64 3 ((((((w3.setCell ⟨w.heap.size + 1 + 1, 2, none⟩ x1).setCell ⟨w.heap.size + 1 + 1, 3, none⟩ x2).setCell ⟨w.heap.size + 1, 0, none⟩ x3).setCell ⟨w.heap.size + 1, 1, none⟩ x4).setCell ⟨w.heap.size + 1, 2, none⟩ x5).setCell ⟨w.heap.size + 1, 3, none⟩ x6) lo v ys := fun {lo v ys} x1 x2 x3 x4 x5 x6 h hl => by
    have h2 := h.grown (only_setCell (only_setCell (World.grownBy.refl w3 (some (w.heap.size + 1 + 1))) 2 x1) 3 x2) (fun g e => by have := (h.block g e).1; intro h; injection h; omega)
    exact h2.grown (only_setCell (only_setCell (only_setCell (only_setCell (World.grownBy.refl _ (some (w.heap.size + 1))) 0 x3) 1 x4) 2 x5) 3 x6) (fun g e => by have := (h2.block g e).1; intro h; injection h; omega)
  refine ⟨_, _, _, _, rfl, (key _ _ _ _ _ _ HOS3.out (by omega)).mono (by omega), (key _ _ _ _ _ _ HO3.out (by omega)).mono (by omega), fun g h1 h2 => ?_, ?_⟩
  · have e1 : wA.heap.size = g := Option.some.inj h1
    have e2 : wS.heap.size = g := Option.some.inj h2
    omega
  · exact ((((((HB3.out.setCell (show w.heap.size ≤ w.heap.size + 1 + 1 by omega) _).setCell (show w.heap.size ≤ w.heap.size + 1 + 1 by omega) _).setCell (show w.heap.size ≤ w.heap.size + 1 by omega) _).setCell (show w.heap.size ≤ w.heap.size + 1 by omega) _).setCell (show w.heap.size ≤ w.heap.size + 1 by omega) _).setCell (show w.heap.size ≤ w.heap.size + 1 by omega) _)
theorem sz_ctl (A : Option Addr) (n c : Nat) (s : Int) (A' : Option Addr) (n' c' : Nat) (l : Int) (left : Int) (w : World) (hn : n ≤ 9223372036854775807) (hn' : n' ≤ 9223372036854775807) (hl : 0 ≤ left ∧ left ≤ 1048576) :
    Calls Tryd.prog 44 #[ctlV (.slice A n c) s (.slice A' n' c') l, .int .i64 left] w fun e w' => e = .returned (.int .i64 (if (n : Int) + n' ≤ left then left - n - n' else -1)) ∧ Below w.heap.size w w' := by
  simp only [ctlV]
  obtain ⟨wA, hwA⟩ : ∃ wA, wA = w.alloc (.cells #[.slice A n c, .int .i64 s, .slice A' n' c', .int .i64 l] 58) := ⟨_, rfl⟩
  obtain ⟨hk0, hsz, hBA⟩ := one_block hwA
  obtain ⟨x0, x1, x2, x3⟩ := cells4 hk0
  have HB := Lib.hid hBA
  clear hk0 hsz hBA
  by_cases h : (n : Int) ≤ left
  · have HS := Lib.hid (sz_ints A n c left wA hn hl)
    rw [if_pos h] at HS
    have HS' := Lib.hid (sz_ints A' n' c' (left - n) wA hn' ⟨by omega, by omega⟩)
    have h2 : ¬ left - (n : Int) < 0 := by omega
    by_cases h' : (n : Int) + n' ≤ left
    · rw [if_pos (show (n' : Int) ≤ left - n by omega)] at HS'
      rw [if_pos h']
      have h3 : ¬ left - (n : Int) - (n' : Int) < 0 := by omega
      go_enter Tryd.func44, Tryd.ntmps44
      go_wp2_with fail
      rw [← hwA]
      refine HS.out.mono ?_
      rintro e w1 ⟨rfl, rfl⟩
      clear hwA
      go_wp2_with fail
      refine HS'.out.mono ?_
      rintro e w1 ⟨rfl, rfl⟩
      go_wp2
      go_ret
      exact ⟨rfl, HB.out⟩
    · rw [if_neg (show ¬ (n' : Int) ≤ left - n by omega)] at HS'
      rw [if_neg h']
      go_enter Tryd.func44, Tryd.ntmps44
      go_wp2_with fail
      rw [← hwA]
      refine HS.out.mono ?_
      rintro e w1 ⟨rfl, rfl⟩
      clear hwA
      go_wp2_with fail
      refine HS'.out.mono ?_
      rintro e w1 ⟨rfl, rfl⟩
      go_wp2
      go_ret
      exact ⟨rfl, HB.out⟩
  · have HS := Lib.hid (sz_ints A n c left wA hn hl)
    rw [if_neg h] at HS
    rw [if_neg (show ¬ (n : Int) + n' ≤ left by omega)]
    go_enter Tryd.func44, Tryd.ntmps44
    go_wp2_with fail
    rw [← hwA]
    refine HS.out.mono ?_
    rintro e w1 ⟨rfl, rfl⟩
    clear hwA
    go_wp2
    go_ret
    exact ⟨rfl, HB.out⟩
theorem same_ctl (s l : Int) (A : Option Addr) (n c : Nat) (A2 : Option Addr) (n2 c2 : Nat) (zs : List Int) (A' : Option Addr) (n' c' : Nat) (A2' : Option Addr) (n2' c2' : Nat) (zs' : List Int) (w : World) (h : IntsAt .i64 w w.heap.size A n zs) (h2 : IntsAt .i64 w w.heap.size A2 n2 zs) (hn : n ≤ 1048576) (hn2 : n2 ≤ 1048576) (h' : IntsAt .i64 w w.heap.size A' n' zs') (h2' : IntsAt .i64 w w.heap.size A2' n2' zs') (hn' : n' ≤ 1048576) (hn2' : n2' ≤ 1048576) :
    Calls Tryd.prog 48 #[ctlV (.slice A n c) s (.slice A' n' c') l, ctlV (.slice A2 n2 c2) s (.slice A2' n2' c2') l] w fun e w' => e = .returned (.bool true) ∧ Below w.heap.size w w' := by
  simp only [ctlV]
  obtain ⟨wA, hwA⟩ : ∃ wA, wA = (w.alloc (.cells #[.slice A n c, .int .i64 s, .slice A' n' c', .int .i64 l] 61)).alloc (.cells #[.slice A2 n2 c2, .int .i64 s, .slice A2' n2' c2', .int .i64 l] 61) := ⟨_, rfl⟩
  obtain ⟨hk, hx, hsz, hB⟩ := two_blocks hwA
  have HCC := Lib.hid (eqs_i64 A n c zs A2 n2 c2 wA ((h.keep fun _ hp => hB.cell hp).up hB.size) ((h2.keep fun _ hp => hB.cell hp).up hB.size) (by omega) (by omega))
  have HCC' := Lib.hid (fun x (hx : Below w.heap.size w x) => eqs_i64 A' n' c' zs' A2' n2' c2' x ((h'.keep fun _ hp => hx.cell hp).up hx.size) ((h2'.keep fun _ hp => hx.cell hp).up hx.size) (by omega) (by omega))
  have HB := Lib.hid hB
  have HK := Lib.hid hk
  have HX := Lib.hid hx
  obtain ⟨x0, x1, x2, x3⟩ := cells4 hk
  obtain ⟨y0, y1, y2, y3⟩ := cells4 hx
  have l0 : w.heap.size < wA.heap.size := by omega
  have l1 : w.heap.size + 1 < wA.heap.size := by omega
  clear hk hx hsz hB h h2 h' h2'
  go_enter Tryd.func48, Tryd.ntmps48
  go_wp2_with fail
  rw [← hwA]
  refine HCC.out.mono ?_
  rintro e w1 ⟨rfl, hb1⟩
  clear hwA x0 x1 x2 x3 y0 y1 y2 y3
  have HB1 := Lib.hid (HB.out.trans (hb1.mono HB.out.size))
  have HK1 := Lib.hid ((hb1.block _ l0).trans HK.out)
  have HX1 := Lib.hid ((hb1.block _ l1).trans HX.out)
  obtain ⟨x0, x1, x2, x3⟩ := cells4 HK1.out
  obtain ⟨y0, y1, y2, y3⟩ := cells4 HX1.out
  have m0 := lt_of_block HK1.out
  have m1 := lt_of_block HX1.out
  clear hb1
  go_wp2_with fail
  refine (HCC'.out _ HB1.out).mono ?_
  rintro e w2 ⟨rfl, hb2⟩
  clear x0 x1 x2 x3 y0 y1 y2 y3
  have HB2 := Lib.hid (HB1.out.trans (hb2.mono HB1.out.size))
  obtain ⟨x0, x1, x2, x3⟩ := cells4 ((hb2.block _ m0).trans HK1.out)
  obtain ⟨y0, y1, y2, y3⟩ := cells4 ((hb2.block _ m1).trans HX1.out)
  clear hb2
  go_wp2
  go_ret
  exact ⟨rfl, HB2.out⟩
end Go.Proofs.YtcbccbefkpklkaaDoor

/- Chapter 14: the model: IsControl, CanEnd, LightsOf. -/
namespace Go.Proofs.YtcbccbefkpklkaaDoor
open Go.RowKit
set_option linter.unusedVariables false

/-- what a function of a controller is handed. -/
structure CtlIn (w : World) (A : Option Addr) (n c : Nat) (ps : List Pth) (A2 : Option Addr) (n2 c2 : Nat) (A3 : Option Addr) (n3 c3 : Nat) (x : Ctl) : Prop where
  p : SlP w A n c ps
  s : Sl .i64 w A2 n2 c2 x.stage
  hs : n2 ≤ 1048576
  t : Sl .i64 w A3 n3 c3 x.next
  ht : n3 ≤ 1048576
  ws : -9223372036854775808 ≤ x.since ∧ x.since ≤ 9223372036854775807
  wl : -9223372036854775808 ≤ x.left ∧ x.left ≤ 9223372036854775807
theorem CtlIn.below {w w' : World} {A : Option Addr} {n c : Nat} {ps : List Pth} {A2 : Option Addr} {n2 c2 : Nat} {A3 : Option Addr} {n3 c3 : Nat} {x : Ctl} (I : CtlIn w A n c ps A2 n2 c2 A3 n3 c3 x) (hb : Below w.heap.size w w') : CtlIn w' A n c ps A2 n2 c2 A3 n3 c3 x :=
  ⟨I.p.below hb, I.s.below hb, I.hs, I.t.below hb, I.ht, I.ws, I.wl⟩
set_option maxHeartbeats 4000000 in
theorem spec_IsControl {w : World} {A : Option Addr} {n c : Nat} {ps : List Pth} {A2 : Option Addr} {n2 c2 : Nat} {A3 : Option Addr} {n3 c3 : Nat} {x : Ctl} (I : CtlIn w A n c ps A2 n2 c2 A3 n3 c3 x) :
    Calls Tryd.prog 45 #[.slice A n c, ctlV (.slice A2 n2 c2) x.since (.slice A3 n3 c3) x.left] w fun e w' => e = .returned (.bool (isCtl ps x)) ∧ Below w.heap.size w w' := by
  simp only [ctlV]
  have hls := I.s.len
  have hlt := I.t.len
  have hs2 := I.hs
  have ht2 := I.ht
  have HT2 := Lib.hid (fun y (hy : Below w.heap.size w y) => have J := I.below hy; spec_IsTogether A n c _ ps A2 n2 c2 _ x.stage y J.p.pths J.s.ints (Nat.le_refl _) (Nat.le_refl _) J.p.small (by omega))
  have HT3 := Lib.hid (fun y (hy : Below w.heap.size w y) => have J := I.below hy; spec_IsTogether A n c _ ps A3 n3 c3 _ x.next y J.p.pths J.t.ints (Nat.le_refl _) (Nat.le_refl _) J.p.small (by omega))
  have HCB := Lib.hid (fun y (hy : Below w.heap.size w y) => have J := I.below hy; spec_ClearBetween A n c _ ps A2 n2 c2 _ x.stage A3 n3 c3 _ x.next y J.p.pths (Nat.le_refl _) J.p.small J.s.ints (Nat.le_refl _) (by omega) J.t.ints (Nat.le_refl _) (by omega))
  have HV : Hid (isCtl ps x = (!decide (n2 = 0) && isTog ps x.stage && isTog ps x.next && inB x.since 0 1000000 && (if n3 = 0 then decide (x.left = 0) else inB x.left 1 (clrB ps x.stage x.next)))) := Lib.hid (by unfold isCtl; rw [hls, hlt])
  clear I hls hlt
  obtain ⟨zs, si, zs3, lf⟩ := x
  simp only at HT2 HT3 HCB HV ⊢
  generalize isCtl ps ⟨zs, si, zs3, lf⟩ = r at *
  generalize clrB ps zs zs3 = cb at *
  obtain ⟨wA, hwA⟩ : ∃ wA, wA = w.alloc (.cells #[.slice A2 n2 c2, .int .i64 si, .slice A3 n3 c3, .int .i64 lf] 61) := ⟨_, rfl⟩
  obtain ⟨hk, hsz, hBA⟩ := one_block hwA
  have HK := Lib.hid hk
  have HBA := Lib.hid hBA
  have hltA : w.heap.size < wA.heap.size := by omega
  have k0 := cells4 hk
  clear hk hsz hBA
  by_cases h0 : n2 = 0
  · have HR : Hid (r = false) := Lib.hid (by rw [HV.out, decide_eq_true h0]; rfl)
    have e1 : ((n2 : Int) == 0) = true := by simp [h0]
    obtain ⟨k0, k1, k2, k3⟩ := k0
    go_enter Tryd.func45, Tryd.ntmps45
    go_wp2
    go_ret
    exact ⟨by rw [HR.out]; try rfl, (Below.refl _ _).alloc (Nat.le_refl _) _⟩
  have e1 : ((n2 : Int) == 0) = false := by simpa using h0
  rw [decide_eq_false h0] at HV
  obtain ⟨k0, k1, k2, k3⟩ := k0
  cases h1 : isTog ps zs
  · have HR : Hid (r = false) := Lib.hid (by rw [HV.out, h1]; rfl)
    rw [h1] at HT2
    clear HV h1
    go_enter Tryd.func45, Tryd.ntmps45
    go_wp2_with fail
    rw [← hwA]
    refine (HT2.out _ HBA.out).mono ?_
    rintro e w1 ⟨rfl, hb1⟩
    clear hwA
    go_wp2
    go_ret
    exact ⟨by rw [HR.out]; try rfl, HBA.out.trans (hb1.mono HBA.out.size)⟩
  · rw [h1] at HT2 HV
    cases h2 : isTog ps zs3
    · have HR : Hid (r = false) := Lib.hid (by rw [HV.out, h2]; rfl)
      rw [h2] at HT3
      clear HV h1 h2
      go_enter Tryd.func45, Tryd.ntmps45
      go_wp2_with fail
      rw [← hwA]
      refine (HT2.out _ HBA.out).mono ?_
      rintro e w1 ⟨rfl, hb1⟩
      have HB1 := Lib.hid (HBA.out.trans (hb1.mono HBA.out.size))
      obtain ⟨m0, m1, m2, m3⟩ := cells4 ((hb1.block _ hltA).trans HK.out)
      clear hwA hb1 k0 k1 k2 k3
      go_wp2_with fail
      refine (HT3.out _ HB1.out).mono ?_
      rintro e w2 ⟨rfl, hb2⟩
      clear m0 m1 m2 m3
      go_wp2
      go_ret
      exact ⟨by rw [HR.out]; try rfl, HB1.out.trans (hb2.mono HB1.out.size)⟩
    · rw [h2] at HT3 HV
      cases h3 : inB si 0 1000000
      · have HR : Hid (r = false) := Lib.hid (by rw [HV.out, h3]; rfl)
        have H3 := Lib.hid h3
        clear HV h1 h2 h3
        go_enter Tryd.func45, Tryd.ntmps45
        go_wp2_with fail
        rw [← hwA]
        refine (HT2.out _ HBA.out).mono ?_
        rintro e w1 ⟨rfl, hb1⟩
        have HB1 := Lib.hid (HBA.out.trans (hb1.mono HBA.out.size))
        have HK1 := Lib.hid ((hb1.block _ hltA).trans HK.out)
        obtain ⟨m0, m1, m2, m3⟩ := cells4 HK1.out
        have hlt1 : w.heap.size < w1.heap.size := lt_of_block HK1.out
        clear hwA hb1 k0 k1 k2 k3
        go_wp2_with fail
        refine (HT3.out _ HB1.out).mono ?_
        rintro e w2 ⟨rfl, hb2⟩
        have HB2 := Lib.hid (HB1.out.trans (hb2.mono HB1.out.size))
        obtain ⟨l0, l1, l2, l3⟩ := cells4 ((hb2.block _ hlt1).trans HK1.out)
        clear hb2 m0 m1 m2 m3
        go_wp2_with fail
        refine (spec_l1In _ _ _ _).mono ?_
        rw [H3.out]
        rintro e w3 ⟨rfl, rfl⟩
        go_wp2
        go_ret
        exact ⟨by rw [HR.out]; try rfl, HB2.out⟩
      · rw [h3] at HV
        have H3 := Lib.hid h3
        clear h1 h2 h3
        by_cases h4 : n3 = 0
        · have HR : Hid (r = decide (lf = 0)) := Lib.hid (by rw [HV.out, if_pos h4]; rfl)
          have e2 : ((n3 : Int) == 0) = true := by simp [h4]
          clear HV h4
          go_enter Tryd.func45, Tryd.ntmps45
          go_wp2_with fail
          rw [← hwA]
          refine (HT2.out _ HBA.out).mono ?_
          rintro e w1 ⟨rfl, hb1⟩
          have HB1 := Lib.hid (HBA.out.trans (hb1.mono HBA.out.size))
          have HK1 := Lib.hid ((hb1.block _ hltA).trans HK.out)
          obtain ⟨m0, m1, m2, m3⟩ := cells4 HK1.out
          have hlt1 : w.heap.size < w1.heap.size := lt_of_block HK1.out
          clear hwA hb1 k0 k1 k2 k3
          go_wp2_with fail
          refine (HT3.out _ HB1.out).mono ?_
          rintro e w2 ⟨rfl, hb2⟩
          have HB2 := Lib.hid (HB1.out.trans (hb2.mono HB1.out.size))
          obtain ⟨l0, l1, l2, l3⟩ := cells4 ((hb2.block _ hlt1).trans HK1.out)
          clear hb2 m0 m1 m2 m3
          go_wp2_with fail
          refine (spec_l1In _ _ _ _).mono ?_
          rw [H3.out]
          rintro e w3 ⟨rfl, rfl⟩
          go_wp2
          go_ret
          exact ⟨by rw [HR.out]; try rfl, HB2.out⟩
        · have HR : Hid (r = inB lf 1 cb) := Lib.hid (by rw [HV.out, if_neg h4]; rfl)
          have e2 : ((n3 : Int) == 0) = false := by simpa using h4
          clear HV
          go_enter Tryd.func45, Tryd.ntmps45
          go_wp2_with fail
          rw [← hwA]
          refine (HT2.out _ HBA.out).mono ?_
          rintro e w1 ⟨rfl, hb1⟩
          have HB1 := Lib.hid (HBA.out.trans (hb1.mono HBA.out.size))
          have HK1 := Lib.hid ((hb1.block _ hltA).trans HK.out)
          obtain ⟨m0, m1, m2, m3⟩ := cells4 HK1.out
          have hlt1 : w.heap.size < w1.heap.size := lt_of_block HK1.out
          clear hwA hb1 k0 k1 k2 k3
          go_wp2_with fail
          refine (HT3.out _ HB1.out).mono ?_
          rintro e w2 ⟨rfl, hb2⟩
          have HB2 := Lib.hid (HB1.out.trans (hb2.mono HB1.out.size))
          have HK2 := Lib.hid ((hb2.block _ hlt1).trans HK1.out)
          obtain ⟨l0, l1, l2, l3⟩ := cells4 HK2.out
          clear hb2 m0 m1 m2 m3
          go_wp2_with fail
          refine (spec_l1In _ _ _ _).mono ?_
          rw [H3.out]
          rintro e w3 ⟨rfl, rfl⟩
          have hlt2 : w.heap.size < w2.heap.size := lt_of_block HK2.out
          have q0 := fun y : GW w2 => (cells4 ((y.ok.block _ hlt2).trans HK2.out)).1
          have q2 := fun y : GW w2 => (cells4 ((y.ok.block _ hlt2).trans HK2.out)).2.2.1
          have q3 := fun y : GW w2 => (cells4 ((y.ok.block _ hlt2).trans HK2.out)).2.2.2
          have hcb := fun y : GW w2 => HCB.out y.val (HB2.out.trans (y.ok.mono HB2.out.size))
          have hin := fun y : GW w2 => spec_l1In lf 1 cb y.val
          generalize inB lf 1 cb = u at *
          go_wp2
          refine wp_region_grow (by kernel_rfl) (by kernel_rfl) ?_
          repeat (go_big_quiet_step (first | (go_at_call 95; exact calls_gw _ (hcb _)) | (go_at_call 58; exact calls_gw_same _ (hin _))))
          refine wpQuiet_nil ?_
          intro x5
          have hb5 := HB2.out.trans (x5.ok.mono HB2.out.size)
          clear q0 q2 q3 hcb hin l0 l1 l2 l3
          generalize x5.val = w5 at *
          go_wp2
          go_ret
          exact ⟨by rw [HR.out]; try rfl, hb5⟩
end Go.Proofs.YtcbccbefkpklkaaDoor

/- Chapter 14's machine: state, isValid, machineOf, IsControl: the program (written by genmach.py). -/
namespace Go.Proofs.YtcbccbefkpklkaaDoor
open Go.RowKit
set_option linter.unusedVariables false

/-- the cells of a machine. -/
def t17 (A : Option Addr) (n c : Nat) (f : Nat → Nat) (st nx : Nat) (s l : Int) : Array Value := #[.slice A n c, .int .u16 (f 0 : Nat), .int .u16 (f 1 : Nat), .int .u16 (f 2 : Nat), .int .u16 (f 3 : Nat), .int .u16 (f 4 : Nat), .int .u16 (f 5 : Nat), .int .u16 (f 6 : Nat), .int .u16 (f 7 : Nat), .int .u16 (f 8 : Nat), .int .u16 (f 9 : Nat), .int .u16 (f 10 : Nat), .int .u16 (f 11 : Nat), .int .u16 (st : Nat), .int .u16 (nx : Nat), .int .i64 s, .int .i64 l]
def m17 (A : Option Addr) (n c : Nat) (f : Nat → Nat) (st nx : Nat) (s l : Int) : List Value := xcells A n c f ++ [.int .u16 (st : Nat), .int .u16 (nx : Nat), .int .i64 s, .int .i64 l]
theorem t17_list (A : Option Addr) (n c : Nat) (f : Nat → Nat) (st nx : Nat) (s l : Int) : (m17 A n c f st nx s l).toArray = t17 A n c f st nx s l := rfl
theorem m17_len (A : Option Addr) (n c : Nat) (f : Nat → Nat) (st nx : Nat) (s l : Int) : (m17 A n c f st nx s l).length = 17 := by unfold m17; rw [List.length_append, xcells_length]; rfl
theorem m17_pre {A : Option Addr} {n c : Nat} {f : Nat → Nat} {st nx : Nat} {s l : Int} {w : World} {g : Nat} (h : w.rangeAt g 0 (m17 A n c f st nx s l)) : w.rangeAt g 0 (xcells A n c f) := fun j v hj => h j v (by unfold m17; rw [List.getElem?_append_left (List.getElem?_eq_some_iff.1 hj).1]; exact hj)
theorem m17_at {A : Option Addr} {n c : Nat} {f : Nat → Nat} {st nx : Nat} {s l : Int} {w : World} {g : Nat} (h : w.rangeAt g 0 (m17 A n c f st nx s l)) : w.cell? ⟨g, 0, none⟩ = some (.slice A n c) ∧ w.cell? ⟨g, 13, none⟩ = some (.int .u16 (st : Nat)) ∧ w.cell? ⟨g, 14, none⟩ = some (.int .u16 (nx : Nat)) ∧ w.cell? ⟨g, 15, none⟩ = some (.int .i64 s) ∧ w.cell? ⟨g, 16, none⟩ = some (.int .i64 l) :=
  ⟨h 0 _ rfl, h 13 _ rfl, h 14 _ rfl, h 15 _ rfl, h 16 _ rfl⟩
/-- is the machine's state in order? -/
def valM (ps : List Pth) (f : Nat → Nat) (st nx : Nat) (s l : Int) : Bool := !decide (st = 0) && inB s 0 1000000 && (if nx = 0 then decide (l = 0) else inB l 1 (clrS ps f st nx))
theorem info_mach : (Tryd.prog.info? 126).map (·.size) = some 17 := by kernel_rfl
set_option maxHeartbeats 1000000 in
theorem impl_state (A : Option Addr) (n c : Nat) (f : Nat → Nat) (st nx : Nat) (s l : Int) (w : World) :
    Calls Tryd.prog 141 #[.agg (t17 A n c f st nx s l)] w fun e w' => e = .returned (.int .i64 (if nx = 0 then 0 else 1)) ∧ Below w.heap.size w w' := by
  unfold t17
  by_cases h : nx = 0
  · subst h
    go_enter Tryd.func141, Tryd.ntmps141
    go_wp2
    go_ret
    exact ⟨rfl, (Below.refl _ _).alloc (Nat.le_refl _) _⟩
  · have e0 : ((nx : Int) == 0) = false := beq_eq_false_iff_ne.2 (by omega)
    rw [if_neg h]
    go_enter Tryd.func141, Tryd.ntmps141
    go_wp2
    go_ret
    exact ⟨rfl, (Below.refl _ _).alloc (Nat.le_refl _) _⟩
set_option maxHeartbeats 4000000 in
set_option maxRecDepth 100000 in
theorem impl_isValidM (A : Option Addr) (n c B : Nat) (ps : List Pth) (f : Nat → Nat) (hf : ∀ k, f k < 4096) (st nx : Nat) (hst : st < 4096) (hnx : nx < 4096) (s l : Int) (h12 : n ≤ 12) (w : World) (h : PthsAt w B A n ps) (hB : B ≤ w.heap.size) (ht : Clrs w) :
    Calls Tryd.prog 138 #[.agg (t17 A n c f st nx s l)] w fun e w' => e = .returned (.bool (valM ps f st nx s l)) ∧ Below w.heap.size w w' := by
  obtain ⟨wA, hwA⟩ : ∃ wA, wA = w.alloc (.cells (t17 A n c f st nx s l) 126) := ⟨_, rfl⟩
  have hk : wA.heap[w.heap.size]? = some (.cells (m17 A n c f st nx s l).toArray 126) := by rw [hwA, t17_list]; exact heap_alloc_new _ _
  have hbA : Below w.heap.size w wA := by rw [hwA]; exact (Below.refl _ _).alloc (Nat.le_refl _) _
  have hrng := range_block hk
  obtain ⟨k0, k13, k14, k15, k16⟩ := m17_at hrng
  have hlA : w.heap.size < wA.heap.size := lt_of_block hk
  have hinf : (Tryd.prog.info? 126).map (·.size) = some (m17 A n c f st nx s l).length := by rw [m17_len]; exact info_mach
  have hinf13 : (Tryd.prog.info? 79).map (·.size) = some (xcells A n c f).length := by rw [xcells_length]; exact info_cross
  have HST := Lib.hid (impl_state A n c f st nx s l wA)
  have HCB := Lib.hid (fun x (hx : Below w.heap.size w x) => impl_clearB A n c B ps f hf st nx hst hnx h12 x (h.below (hx.mono hB)) (Nat.le_trans hB hx.size) (ht.below hx (Nat.le_refl _)))
  have HV : Hid (valM ps f st nx s l = (!decide (st = 0) && inB s 0 1000000 && (if nx = 0 then decide (l = 0) else inB l 1 (clrS ps f st nx)))) := Lib.hid rfl
  have HPRE := Lib.hid (fun (W : World) (hW : W.rangeAt w.heap.size 0 (m17 A n c f st nx s l)) => m17_pre hW)
  have HAT := Lib.hid (fun (W : World) (hW : W.rangeAt w.heap.size 0 (m17 A n c f st nx s l)) => m17_at hW)
  have HK := Lib.hid hk
  have HBA := Lib.hid hbA
  have hmx : Tryd.prog.follows .mixedOrders = true := by kernel_rfl
  rw [← t17_list] at HST
  clear h ht hf hk hbA
  generalize valM ps f st nx s l = r at *
  generalize clrS ps f st nx = cb at *
  unfold t17 at hwA ⊢
  by_cases h0 : st = 0
  · have HR : Hid (r = false) := Lib.hid (by rw [HV.out, decide_eq_true h0]; rfl)
    subst h0
    clear hrng
    go_enter Tryd.func138, Tryd.ntmps138
    go_wp2
    go_ret
    exact ⟨by rw [HR.out]; try rfl, (Below.refl _ _).alloc (Nat.le_refl _) _⟩
  have e0 : ((st : Int) == 0) = false := beq_eq_false_iff_ne.2 (by omega)
  rw [decide_eq_false h0] at HV
  cases h1 : inB s 0 1000000
  · have HR : Hid (r = false) := Lib.hid (by rw [HV.out, h1]; rfl)
    have H1 := Lib.hid h1
    clear h1 hrng
    go_enter Tryd.func138, Tryd.ntmps138
    go_wp2_with fail
    refine (impl_InRange _ _ _ _).mono ?_
    rw [H1.out]
    rintro e w1 ⟨rfl, rfl⟩
    go_wp2
    go_ret
    exact ⟨by rw [HR.out]; try rfl, (Below.refl _ _).alloc (Nat.le_refl _) _⟩
  have H1 := Lib.hid h1
  rw [h1] at HV
  clear h1
  by_cases h2 : nx = 0
  · have HR : Hid (r = decide (l = 0)) := Lib.hid (by rw [HV.out, if_pos h2]; rfl)
    rw [if_pos h2] at HST
    generalize m17 A n c f st nx s l = cs at *
    have e2 : ((nx : Int) == 0) = true := by rw [h2]; rfl
    clear h2
    go_enter Tryd.func138, Tryd.ntmps138
    go_wp2_with fail
    rw [← hwA]
    clear hwA
    refine (impl_InRange _ _ _ _).mono ?_
    rw [H1.out]
    rintro e w1 ⟨rfl, rfl⟩
    go_wp2_with ((with_reducible show wpList _ _ _ _ _ _); refine wpList_load_mid rfl 126 _ rfl w.heap.size 0 rfl cs _ hrng Tryd.underlying126 rfl hinf ?_)
    refine HST.out.mono ?_
    rintro e w2 ⟨rfl, hb2⟩
    have HB2 := Lib.hid (HBA.out.trans (hb2.mono HBA.out.size))
    have m16 := (hb2.cell (p := ⟨w.heap.size, 16, none⟩) hlA).trans k16
    have l2 : w.heap.size < w2.heap.size := by have := hb2.size; omega
    clear hb2 k0 k13 k14 k15 k16 hrng
    go_wp2
    go_ret
    exact ⟨by rw [HR.out]; try rfl, HB2.out⟩
  · have HR : Hid (r = inB l 1 cb) := Lib.hid (by rw [HV.out, if_neg h2]; rfl)
    rw [if_neg h2] at HST
    generalize m17 A n c f st nx s l = cs at *
    go_enter Tryd.func138, Tryd.ntmps138
    go_wp2_with fail
    rw [← hwA]
    clear hwA
    refine (impl_InRange _ _ _ _).mono ?_
    rw [H1.out]
    rintro e w1 ⟨rfl, rfl⟩
    go_wp2_with ((with_reducible show wpList _ _ _ _ _ _); refine wpList_load_mid rfl 126 _ rfl w.heap.size 0 rfl cs _ hrng Tryd.underlying126 rfl hinf ?_)
    refine HST.out.mono ?_
    rintro e w2 ⟨rfl, hb2⟩
    have HB2 := Lib.hid (HBA.out.trans (hb2.mono HBA.out.size))
    have hk2 := (hb2.block _ hlA).trans HK.out
    have hr2 := range_block hk2
    have HC2 := Lib.hid (HCB.out w2.drew ⟨HB2.out.os, HB2.out.tape, HB2.out.output, HB2.out.size, HB2.out.block⟩)
    clear hb2 k0 k13 k14 k15 k16 hrng
    go_wp2
    refine wp_region_held_drew (S := fun W' => W'.rangeAt w.heap.size 0 cs) hmx hr2 (fun hH => ?_)
    refine wpAnyH_take (i := 0) (v := .pointer (some ⟨w.heap.size, 16, none⟩)) rfl (by kernel_rfl) (by kernel_rfl) (by kernel_rfl) (fun _ _ _ h => h) (Or.inl ⟨by rfl, by intro W hSw; go_simp⟩) hH ?_
    try simp only [Act.put, List.setIfInBounds_toArray, List.set_cons_zero, List.set_cons_succ]
    refine wpAnyH_take (i := 1) (v := .int .i64 l) rfl (by kernel_rfl) (by kernel_rfl) (by kernel_rfl) (fun _ _ _ h => h) (Or.inl ⟨by rfl, by intro W hSw; have hx := (HAT.out W hSw).2.2.2.2; have hy : w.heap.size < W.heap.size := World.block_lt_of_cell? _ _ hx; go_simp⟩) hH ?_
    try simp only [Act.put, List.setIfInBounds_toArray, List.set_cons_zero, List.set_cons_succ]
    refine wpAnyH_take (i := 2) (v := .pointer (some ⟨w.heap.size, 0, none⟩)) rfl (by kernel_rfl) (by kernel_rfl) (by kernel_rfl) (fun _ _ _ h => h) (Or.inl ⟨by rfl, by intro W hSw; go_simp⟩) hH ?_
    try simp only [Act.put, List.setIfInBounds_toArray, List.set_cons_zero, List.set_cons_succ]
    refine wpAnyH_take (i := 3) (v := .agg (xcells A n c f).toArray) rfl (by kernel_rfl) (by kernel_rfl) (by kernel_rfl) (fun _ _ _ h => h) (yieldsIf_load_mid (by rfl) 79 _ rfl w.heap.size 0 rfl (xcells A n c f) _ (fun W hW => HPRE.out W hW) Tryd.underlying79 rfl hinf13) hH ?_
    try simp only [Act.put, List.setIfInBounds_toArray, List.set_cons_zero, List.set_cons_succ]
    refine wpAnyH_take (i := 4) (v := .pointer (some ⟨w.heap.size, 13, none⟩)) rfl (by kernel_rfl) (by kernel_rfl) (by kernel_rfl) (fun _ _ _ h => h) (Or.inl ⟨by rfl, by intro W hSw; go_simp⟩) hH ?_
    try simp only [Act.put, List.setIfInBounds_toArray, List.set_cons_zero, List.set_cons_succ]
    refine wpAnyH_take (i := 5) (v := .int .u16 (st : Nat)) rfl (by kernel_rfl) (by kernel_rfl) (by kernel_rfl) (fun _ _ _ h => h) (Or.inl ⟨by rfl, by intro W hSw; have hx := (HAT.out W hSw).2.1; have hy : w.heap.size < W.heap.size := World.block_lt_of_cell? _ _ hx; go_simp⟩) hH ?_
    try simp only [Act.put, List.setIfInBounds_toArray, List.set_cons_zero, List.set_cons_succ]
    refine wpAnyH_take (i := 6) (v := .pointer (some ⟨w.heap.size, 14, none⟩)) rfl (by kernel_rfl) (by kernel_rfl) (by kernel_rfl) (fun _ _ _ h => h) (Or.inl ⟨by rfl, by intro W hSw; go_simp⟩) hH ?_
    try simp only [Act.put, List.setIfInBounds_toArray, List.set_cons_zero, List.set_cons_succ]
    refine wpAnyH_take (i := 7) (v := .int .u16 (nx : Nat)) rfl (by kernel_rfl) (by kernel_rfl) (by kernel_rfl) (fun _ _ _ h => h) (Or.inl ⟨by rfl, by intro W hSw; have hx := (HAT.out W hSw).2.2.1; have hy : w.heap.size < W.heap.size := World.block_lt_of_cell? _ _ hx; go_simp⟩) hH ?_
    try simp only [Act.put, List.setIfInBounds_toArray, List.set_cons_zero, List.set_cons_succ]
    refine wpAnyH_ready (rs := [8]) (by decide +kernel) (by simp) (AllReadyH.cons rfl (fun K hK => ?_) AllReadyH.nil)
    go_simp
    refine HC2.out.mono ?_
    rintro e w3 ⟨rfl, hb3⟩
    have hb3' : Below w2.heap.size w2 w3 := ⟨hb3.os, hb3.tape, hb3.output, hb3.size, hb3.block⟩
    have HB3 := Lib.hid (HB2.out.trans (hb3'.mono HB2.out.size))
    have hr3 := range_block ((hb3'.block _ (lt_of_block hk2)).trans hk2)
    clear hb3 hb3'
    go_wp2_with fail
    refine hK.out _ _ hr3 (fun _ => ?_)
    clear hK K
    try simp only [Act.put, List.setIfInBounds_toArray, List.set_cons_zero, List.set_cons_succ]
    refine wpAnyH_ready (rs := [9]) (by decide +kernel) (by simp) (AllReadyH.cons rfl (fun K hK => ?_) AllReadyH.nil)
    go_simp
    refine (impl_InRange _ _ _ _).mono ?_
    rw [← HR.out]
    rintro e w4 ⟨rfl, rfl⟩
    go_wp2_with fail
    refine hK.out _ _ hr3 (fun _ => ?_)
    clear hK K
    try simp only [Act.put, List.setIfInBounds_toArray, List.set_cons_zero, List.set_cons_succ]
    refine wpAnyH_ready (rs := [10]) (by decide +kernel) (by simp) (AllReadyH.cons rfl (fun K hK => ?_) AllReadyH.nil)
    go_simp
    refine hK.out _ _ hr3 (fun _ => ?_)
    clear hK K
    try simp only [Act.put, List.setIfInBounds_toArray, List.set_cons_zero, List.set_cons_succ]
    refine wpAnyH_done (by decide +kernel) ?_ _
    go_wp2
    go_ret
    exact ⟨rfl, HB3.out⟩
theorem ctl_arePs {ps : List Pth} {x : Ctl} (h : arePs ps = false) : isCtl ps x = false := by
  rw [Bool.eq_false_iff]
  intro hc
  have := (ctl_parts hc).1
  rw [h] at this
  cases this
def z17 : List Value := [.slice none 0 0, .int .u16 0, .int .u16 0, .int .u16 0, .int .u16 0, .int .u16 0, .int .u16 0, .int .u16 0, .int .u16 0, .int .u16 0, .int .u16 0, .int .u16 0, .int .u16 0, .int .u16 0, .int .u16 0, .int .i64 0, .int .i64 0]
theorem z17_one : ∀ u ∈ z17, u.oneCell' = true := by decide
theorem t17_zero : z17.toArray = t17 none 0 0 (fun _ => 0) 0 0 0 0 := rfl
theorem m17_one (A : Option Addr) (n c : Nat) (f : Nat → Nat) (st nx : Nat) (s l : Int) : ∀ u ∈ m17 A n c f st nx s l, u.oneCell' = true := by
  intro u hu
  unfold m17 at hu
  rw [List.mem_append] at hu
  rcases hu with hu | hu
  · exact xcells_one A n c f u hu
  · simp only [List.mem_cons, List.not_mem_nil, or_false] at hu
    rcases hu with rfl | rfl | rfl | rfl <;> rfl
theorem two_ss {w : World} {g : Nat} {A2 : Option Addr} {n2 c2 : Nat} {zs : List Int} {A3 : Option Addr} {n3 c3 : Nat} {zs3 : List Int} {E : TypeId} {fr : Nat × Nat} (hb : w.heap[g]? = some (.cells #[.slice A2 n2 c2, .slice A3 n3 c3] E fr)) (h2 : Sl .i64 w A2 n2 c2 zs) (h3 : Sl .i64 w A3 n3 c3 zs3) : SSAt w w.heap.size (some ⟨g, 0, none⟩) 2 [zs, zs3] := by
  refine ⟨rfl, fun _ => ⟨⟨g, 0, none⟩, rfl, lt_of_block hb, fun j hj => ?_⟩⟩
  rcases (show j = 0 ∨ j = 1 by omega) with rfl | rfl
  · exact ⟨A2, n2, c2, by show w.cell? ⟨g, 0, none⟩ = _; rw [cell_of_row w g 0 _ E fr hb]; rfl, h2.ints, h2.cap.1, h2.bare⟩
  · exact ⟨A3, n3, c3, by show w.cell? ⟨g, 1, none⟩ = _; rw [cell_of_row w g 1 _ E fr hb]; rfl, h3.ints, h3.cap.1, h3.bare⟩
theorem sts_two {ps : List Pth} (ha : arePs ps = true) {a b : List Int} : stsB ps [a, b] = (isTog ps a && isTog ps b) := by
  have := stsB_tog (zss := [a, b]) ha
  rw [Bool.eq_iff_iff, this, Bool.and_eq_true]
  simp
set_option maxHeartbeats 3000000 in
set_option maxRecDepth 100000 in
theorem impl_machineOf_off {w : World} {A : Option Addr} {n c : Nat} {ps : List Pth} {A2 : Option Addr} {n2 c2 : Nat} {A3 : Option Addr} {n3 c3 : Nat} {x : Ctl} (I : CtlIn w A n c ps A2 n2 c2 A3 n3 c3 x) (ha : arePs ps = false) :
    Calls Tryd.prog 96 #[.slice A n c, ctlV (.slice A2 n2 c2) x.since (.slice A3 n3 c3) x.left] w fun e w' => e = .returned (.tuple #[.agg (t17 none 0 0 (fun _ => 0) 0 0 0 0), .bool false]) ∧ Below w.heap.size w w' := by
  simp only [ctlV]
  rw [show t17 none 0 0 (fun _ => 0) 0 0 0 0 = z17.toArray from rfl]
  obtain ⟨wA, hwA⟩ : ∃ wA, wA = (w.alloc (.cells #[.slice A2 n2 c2, .int .i64 x.since, .slice A3 n3 c3, .int .i64 x.left] 61)).alloc (.cells #[.slice none 0 0, .int .u16 0, .int .u16 0, .int .u16 0, .int .u16 0, .int .u16 0, .int .u16 0, .int .u16 0, .int .u16 0, .int .u16 0, .int .u16 0, .int .u16 0, .int .u16 0, .int .u16 0, .int .u16 0, .int .i64 0, .int .i64 0] 126) := ⟨_, rfl⟩
  obtain ⟨hk, hr, hsz, hbA⟩ := two_blocks hwA
  have HR := Lib.hid hr
  have HBA := Lib.hid hbA
  have lA1 : w.heap.size + 1 < wA.heap.size := by omega
  have J := I.below hbA
  have HC := Lib.hid (impl_crossingOf_no A n c _ ps wA J.p.pths (Nat.le_refl _) J.p.small ha)
  clear ha hk hr hsz hbA I J
  go_enter Tryd.func96, Tryd.ntmps96
  go_wp2_with fail
  rw [← hwA]
  clear hwA
  refine HC.out.mono ?_
  rw [cross_lit]
  rintro e w1 ⟨rfl, hb1⟩
  have HB1 := Lib.hid (HBA.out.trans (hb1.mono HBA.out.size))
  have hr1 := (hb1.block _ lA1).trans HR.out
  have lz : w.heap.size + 1 < w1.heap.size := lt_of_block hr1
  have HTH := Lib.hid (fun o : Obj => (there_block ((Below.heap_alloc w1 o _ lz).trans hr1) 17 rfl : (w1.alloc o).there (w.heap.size + 1) 0 17))
  clear hb1 hr1
  have HTZ : Hid (∀ o, (w1.alloc o).there (w.heap.size + 1) 0 z17.toArray.size) := Lib.hid HTH.out
  have HIZ : Hid ((Tryd.prog.info? 126).map (·.size) = some z17.toArray.size) := Lib.hid info_mach
  have HOZ := Lib.hid (all_oneCell_toArray z17_one)
  go_wp2_with ((with_reducible show wpList _ _ _ _ _ _); (refine wpList_store_mid rfl 126 _ _ rfl (w.heap.size + 1) 0 z17.toArray rfl rfl (HTZ.out _) HIZ.out HOZ.out ?_); generalize hzz : z17 = zz at *)
  refine bodyPost_ret (v := .tuple #[.agg zz.toArray, .bool false]) (by
        have hload := fun o => run_loadVar_mid (P := Tryd.prog) ((w1.alloc o).setCells (w.heap.size + 1) 0 zz) (w.heap.size + 1) 0 126 zz _ (World.rangeAt_setCells_same _ _ _ _ (by have := HTZ.out o; simpa using this)) Tryd.underlying126 rfl (by have := HIZ.out; simpa using this)
        rw [results_cell_tmp rfl]
        simp [asAddr, hload, Result.andThen]) rfl ⟨by rw [hzz], ?_⟩
  exact below_setCells _ (Nat.le_succ _) _ _ _ (HB1.out.alloc HB1.out.size _)
theorem ctl_val {ps : List Pth} {x : Ctl} (h1 : isTog ps x.stage = true) (h2 : isTog ps x.next = true) {n : Nat} (hn : ps.length = n) : isCtl ps x = valM ps (rowSt ps n 0) (maskL ps x.stage) (maskL ps x.next) x.since x.left := by
  rw [ctl_mask h1 h2, hn]
  rfl
set_option maxHeartbeats 3000000 in
set_option maxRecDepth 100000 in
theorem impl_machineOf_on {w : World} {A : Option Addr} {n c : Nat} {ps : List Pth} {A2 : Option Addr} {n2 c2 : Nat} {A3 : Option Addr} {n3 c3 : Nat} {x : Ctl} (I : CtlIn w A n c ps A2 n2 c2 A3 n3 c3 x) (hw : Brus w) (ht : Clrs w) (ha : arePs ps = true) (mv : Value) (hm1 : (isTog ps x.stage && isTog ps x.next) = true → mv = .tuple #[.agg (t17 A n c (rowSt ps n 0) (maskL ps x.stage) (maskL ps x.next) x.since x.left), .bool (isCtl ps x)]) (hm0 : (isTog ps x.stage && isTog ps x.next) = false → mv = .tuple #[.agg z17.toArray, .bool false]) :
    Calls Tryd.prog 96 #[.slice A n c, ctlV (.slice A2 n2 c2) x.since (.slice A3 n3 c3) x.left] w fun e w' => e = .returned mv ∧ Below w.heap.size w w' := by
  simp only [ctlV]
  have HM1 := Lib.hid hm1
  have HM0 := Lib.hid hm0
  clear hm1 hm0
  have hlp := I.p.len
  have h12 : n ≤ 12 := by have := arePs_len12 ha; omega
  have hs2 := I.hs
  have ht2 := I.ht
  have hlz : x.stage.length ≤ 1048576 := by rw [I.s.len]; exact hs2
  have hlz3 : x.next.length ≤ 1048576 := by rw [I.t.len]; exact ht2
  obtain ⟨wA, hwA⟩ : ∃ wA, wA = (w.alloc (.cells #[.slice A2 n2 c2, .int .i64 x.since, .slice A3 n3 c3, .int .i64 x.left] 61)).alloc (.cells #[.slice none 0 0, .int .u16 0, .int .u16 0, .int .u16 0, .int .u16 0, .int .u16 0, .int .u16 0, .int .u16 0, .int .u16 0, .int .u16 0, .int .u16 0, .int .u16 0, .int .u16 0, .int .u16 0, .int .u16 0, .int .i64 0, .int .i64 0] 126) := ⟨_, rfl⟩
  obtain ⟨hk, hr, hsz, hbA⟩ := two_blocks hwA
  have HK := Lib.hid hk
  have HR := Lib.hid hr
  have HBA := Lib.hid hbA
  have lA0 : w.heap.size < wA.heap.size := by omega
  have lA1 : w.heap.size + 1 < wA.heap.size := by omega
  have HI := Lib.hid (fun y (hy : Below w.heap.size w y) => I.below hy)
  have HWW := Lib.hid (fun y (hy : Below w.heap.size w y) => (⟨hw.below hy (Nat.le_refl _), ht.below hy (Nat.le_refl _)⟩ : Brus y ∧ Clrs y))
  have HC := Lib.hid (impl_crossingOf A n c _ ps wA (I.below hbA).p.pths (Nat.le_refl _) I.p.cap ha)
  have HSO := Lib.hid (fun y (hy : Below w.heap.size w y) (g : Nat) (hss : SSAt y y.heap.size (some ⟨g, 0, none⟩) 2 [x.stage, x.next]) => impl_stagesOf A n c _ ps (some ⟨g, 0, none⟩) 2 2 _ [x.stage, x.next] y (I.below hy).p.pths (Nat.le_refl _) ha hss (Nat.le_refl _) (by omega) (fun j hj => by
    rcases (show j = 0 ∨ j = 1 by omega) with rfl | rfl
    · show x.stage.length ≤ _; omega
    · show x.next.length ≤ _; omega) (hw.below hy (Nat.le_refl _)))
  have hmk : mskI ps [x.stage, x.next] = [((maskL ps x.stage : Nat) : Int), ((maskL ps x.next : Nat) : Int)] := rfl
  have hm1 := maskL_lt ps x.stage (by rw [hlp]; exact h12)
  have hm2 := maskL_lt ps x.next (by rw [hlp]; exact h12)
  have HIV := Lib.hid (fun y (hy : Below w.heap.size w y) => impl_isValidM A n c _ ps (rowSt ps n 0) (rowSt_lt ps n 0) (maskL ps x.stage) (maskL ps x.next) hm1 hm2 x.since x.left h12 y (I.below hy).p.pths (Nat.le_refl _) (ht.below hy (Nat.le_refl _)))
  have HVAL := Lib.hid (fun h1 h2 => ctl_val (ps := ps) (x := x) h1 h2 hlp)
  have HST := Lib.hid (sts_two ha (a := x.stage) (b := x.next))
  rw [hmk] at HSO
  obtain ⟨zs, si, zs3, lf⟩ := x
  simp only at *
  generalize maskL ps zs = st at *
  generalize maskL ps zs3 = nx at *
  have hln : (xcells A n c (rowSt ps n 0)).length = 13 := xcells_length _ _ _ _
  have hinf : (Tryd.prog.info? 79).map (·.size) = some (xcells A n c (rowSt ps n 0)).length := by rw [hln]; exact info_cross
  have HCL := Lib.hid (cross_lit A n c (rowSt ps n 0))
  generalize rowSt ps n 0 = f at *
  have hL17 : Hid (m17 A n c f st nx si lf = xcells A n c f ++ [.int .u16 (st : Nat), .int .u16 (nx : Nat), .int .i64 si, .int .i64 lf]) := Lib.hid rfl
  generalize hxs : xcells A n c f = xs at *
  clear I hw ht ha hk hr hsz hbA hmk hln hlz hlz3
  go_enter Tryd.func96, Tryd.ntmps96
  go_wp2_with fail
  rw [← hwA]
  clear hwA
  refine HC.out.mono ?_
  rw [HCL.out]
  rintro e w1 ⟨rfl, hb1⟩
  obtain ⟨w2, hw2⟩ : ∃ w2, w2 = w1.alloc (.cells xs.toArray 79) := ⟨_, rfl⟩
  obtain ⟨hx2, hsz2, hb12⟩ := one_block hw2
  have HB2 := Lib.hid (HBA.out.trans ((hb1.trans (hb12.mono hb1.size)).mono HBA.out.size))
  have HX2 := Lib.hid hx2
  have HK2 := Lib.hid (((hb1.trans (hb12.mono hb1.size)).block _ lA0).trans HK.out)
  have HR2 := Lib.hid (((hb1.trans (hb12.mono hb1.size)).block _ lA1).trans HR.out)
  have l12 : w1.heap.size < w2.heap.size := by omega
  have l0A : w.heap.size + 1 < w1.heap.size := by have := hb1.size; omega
  have hrx := range_block hx2
  obtain ⟨k0, k1, k2, k3⟩ := cells4 HK2.out
  have l02 : w.heap.size < w2.heap.size := by omega
  rw [HCL.out] at hw2
  clear hb1 hb12 hx2 hsz2
  go_wp2_with ((with_reducible show wpList _ _ _ _ _ _); rw [← hw2]; clear hw2; refine wpList_load_mid rfl 79 _ rfl w1.heap.size 0 rfl xs _ hrx Tryd.underlying79 rfl hinf ?_)
  obtain ⟨w3, hw3⟩ : ∃ w3, w3 = w2.alloc (.cells #[.slice A2 n2 c2, .slice A3 n3 c3] 23) := ⟨_, rfl⟩
  rw [← hw3]
  obtain ⟨hk3, hsz3, hb23⟩ := one_block hw3
  have HB3 := Lib.hid (HB2.out.trans (hb23.mono HB2.out.size))
  have HX3 := Lib.hid ((hb23.block _ l12).trans HX2.out)
  have HK3 := Lib.hid ((hb23.block _ l02).trans HK2.out)
  have HR3 := Lib.hid ((hb23.block _ (by omega)).trans HR2.out)
  have HSS := Lib.hid (two_ss hk3 (HI.out w3 HB3.out).s (HI.out w3 HB3.out).t)
  have HC3 := Lib.hid (HSO.out w3 HB3.out _ HSS.out)
  rw [HST.out] at HC3
  have l23 : w2.heap.size < w3.heap.size := by omega
  clear hw3 hk3 hsz3 hb23 k0 k1 k2 k3 hrx
  refine HC3.out.mono ?_
  cases hs : (isTog ps zs && isTog ps zs3)
  · have HMV := Lib.hid (HM0.out hs)
    clear hs
    rintro e w4 ⟨v, rfl, -, hb4⟩
    have HB4 := Lib.hid (HB3.out.trans (hb4.mono HB3.out.size))
    have hr4 := (hb4.block _ (by omega)).trans HR3.out
    have HTZ : Hid (w4.there (w.heap.size + 1) 0 z17.toArray.size) := Lib.hid (there_block hr4 17 rfl)
    have HIZ : Hid ((Tryd.prog.info? 126).map (·.size) = some z17.toArray.size) := Lib.hid info_mach
    have HOZ := Lib.hid (all_oneCell_toArray z17_one)
    clear hb4 hr4
    go_wp2_with ((with_reducible show wpList _ _ _ _ _ _); (refine wpList_store_mid rfl 126 _ _ rfl (w.heap.size + 1) 0 z17.toArray rfl rfl HTZ.out HIZ.out HOZ.out ?_); generalize hzz : z17 = zz at *)
    all_goals
      refine bodyPost_ret (v := .tuple #[.agg zz.toArray, .bool false]) (by
          have hload := run_loadVar_mid (P := Tryd.prog) (w4.setCells (w.heap.size + 1) 0 zz) (w.heap.size + 1) 0 126 zz _ (World.rangeAt_setCells_same _ _ _ _ (by have := HTZ.out; simpa using this)) Tryd.underlying126 rfl (by have := HIZ.out; simpa using this)
          rw [results_cell_tmp rfl]
          simp [asAddr, hload, Result.andThen]) rfl ⟨by rw [HMV.out], ?_⟩
      exact below_setCells _ (Nat.le_succ _) _ _ _ HB4.out
  · rw [Bool.and_eq_true] at hs
    have HVV := Lib.hid (HVAL.out hs.1 hs.2)
    have HMV := Lib.hid (HM1.out (by rw [hs.1, hs.2]; rfl))
    clear hs
    rintro e w4 ⟨v, rfl, hm, hb4⟩
    obtain ⟨g, rfl, hown⟩ := hm rfl
    have HB4 := Lib.hid (HB3.out.trans (hb4.mono HB3.out.size))
    have HX4 := Lib.hid ((hb4.block _ (by omega)).trans HX3.out)
    have HK4 := Lib.hid ((hb4.block _ (by omega)).trans HK3.out)
    have HR4 := Lib.hid ((hb4.block _ (by omega)).trans HR3.out)
    have hg0 := hown.cell 0 (by simp)
    have hg1 := hown.cell 1 (by simp)
    have hgb := (hown.block g rfl).2
    have hrx := range_block HX4.out
    obtain ⟨k0, k1, k2, k3⟩ := cells4 HK4.out
    have hg0' : w4.cell? ⟨g, 0, none⟩ = some (.int .u16 (st : Nat)) := hg0
    have hg1' : w4.cell? ⟨g, 1, none⟩ = some (.int .u16 (nx : Nat)) := hg1
    have lz0 : w.heap.size < w4.heap.size := lt_of_block HK4.out
    have lz1 : w1.heap.size < w4.heap.size := lt_of_block HX4.out
    have hmx : Tryd.prog.follows .mixedOrders = true := by kernel_rfl
    clear hown hb4 hm hg0 hg1
    have hS0 : w4.rangeAt w1.heap.size 0 xs ∧ w4.cell? ⟨g, 0, none⟩ = some (.int .u16 (st : Nat)) ∧ w4.cell? ⟨g, 1, none⟩ = some (.int .u16 (nx : Nat)) ∧ w4.cell? ⟨w.heap.size, 1, none⟩ = some (.int .i64 si) ∧ w4.cell? ⟨w.heap.size, 3, none⟩ = some (.int .i64 lf) := ⟨hrx, hg0', hg1', k1, k3⟩
    have HS0 := Lib.hid hS0
    clear k0 k1 k2 k3 hg0' hg1' hrx
    go_wp2
    refine wp_region_held_drew (S := fun W' => W'.rangeAt w1.heap.size 0 xs ∧ W'.cell? ⟨g, 0, none⟩ = some (.int .u16 (st : Nat)) ∧ W'.cell? ⟨g, 1, none⟩ = some (.int .u16 (nx : Nat)) ∧ W'.cell? ⟨w.heap.size, 1, none⟩ = some (.int .i64 si) ∧ W'.cell? ⟨w.heap.size, 3, none⟩ = some (.int .i64 lf)) hmx hS0 (fun hH => ?_)
    refine wpAnyH_take (i := 0) (v := .agg #[.slice A n c, .int .u16 (f 0 : Nat), .int .u16 (f 1 : Nat), .int .u16 (f 2 : Nat), .int .u16 (f 3 : Nat), .int .u16 (f 4 : Nat), .int .u16 (f 5 : Nat), .int .u16 (f 6 : Nat), .int .u16 (f 7 : Nat), .int .u16 (f 8 : Nat), .int .u16 (f 9 : Nat), .int .u16 (f 10 : Nat), .int .u16 (f 11 : Nat)]) rfl (by kernel_rfl) (by kernel_rfl) (by kernel_rfl) (fun _ _ _ h => h) (by rw [← HCL.out]; exact yieldsIf_load_mid (by rfl) 79 _ rfl w1.heap.size 0 rfl xs _ (fun _ h => h.1) Tryd.underlying79 rfl hinf) hH ?_
    try simp only [Act.put, List.setIfInBounds_toArray, List.set_cons_zero, List.set_cons_succ]
    refine wpAnyH_take (i := 1) (v := .slice (some ⟨g, 0, none⟩) 2 2) rfl (by kernel_rfl) (by kernel_rfl) (by kernel_rfl) (fun _ _ _ h => h) (Or.inl ⟨by rfl, by intro W hSw; go_simp⟩) hH ?_
    try simp only [Act.put, List.setIfInBounds_toArray, List.set_cons_zero, List.set_cons_succ]
    refine wpAnyH_take (i := 2) (v := .pointer (some ⟨g, 0, none⟩)) rfl (by kernel_rfl) (by kernel_rfl) (by kernel_rfl) (fun _ _ _ h => h) (Or.inl ⟨by rfl, by intro W hSw; go_simp⟩) hH ?_
    try simp only [Act.put, List.setIfInBounds_toArray, List.set_cons_zero, List.set_cons_succ]
    refine wpAnyH_take (i := 3) (v := .int .u16 (st : Nat)) rfl (by kernel_rfl) (by kernel_rfl) (by kernel_rfl) (fun _ _ _ h => h) (Or.inl ⟨by rfl, by intro W hSw; have hx := hSw.2.1; have hy := World.block_lt_of_cell? _ _ hx; go_simp⟩) hH ?_
    try simp only [Act.put, List.setIfInBounds_toArray, List.set_cons_zero, List.set_cons_succ]
    refine wpAnyH_take (i := 4) (v := .slice (some ⟨g, 0, none⟩) 2 2) rfl (by kernel_rfl) (by kernel_rfl) (by kernel_rfl) (fun _ _ _ h => h) (Or.inl ⟨by rfl, by intro W hSw; go_simp⟩) hH ?_
    try simp only [Act.put, List.setIfInBounds_toArray, List.set_cons_zero, List.set_cons_succ]
    refine wpAnyH_take (i := 5) (v := .pointer (some ⟨g, 1, none⟩)) rfl (by kernel_rfl) (by kernel_rfl) (by kernel_rfl) (fun _ _ _ h => h) (Or.inl ⟨by rfl, by intro W hSw; go_simp⟩) hH ?_
    try simp only [Act.put, List.setIfInBounds_toArray, List.set_cons_zero, List.set_cons_succ]
    refine wpAnyH_take (i := 6) (v := .int .u16 (nx : Nat)) rfl (by kernel_rfl) (by kernel_rfl) (by kernel_rfl) (fun _ _ _ h => h) (Or.inl ⟨by rfl, by intro W hSw; have hx := hSw.2.2.1; have hy := World.block_lt_of_cell? _ _ hx; go_simp⟩) hH ?_
    try simp only [Act.put, List.setIfInBounds_toArray, List.set_cons_zero, List.set_cons_succ]
    refine wpAnyH_take (i := 7) (v := .pointer (some ⟨w.heap.size, 1, none⟩)) rfl (by kernel_rfl) (by kernel_rfl) (by kernel_rfl) (fun _ _ _ h => h) (Or.inl ⟨by rfl, by intro W hSw; go_simp⟩) hH ?_
    try simp only [Act.put, List.setIfInBounds_toArray, List.set_cons_zero, List.set_cons_succ]
    refine wpAnyH_take (i := 8) (v := .int .i64 si) rfl (by kernel_rfl) (by kernel_rfl) (by kernel_rfl) (fun _ _ _ h => h) (Or.inl ⟨by rfl, by intro W hSw; have hx := hSw.2.2.2.1; have hy := World.block_lt_of_cell? _ _ hx; go_simp⟩) hH ?_
    try simp only [Act.put, List.setIfInBounds_toArray, List.set_cons_zero, List.set_cons_succ]
    refine wpAnyH_take (i := 9) (v := .pointer (some ⟨w.heap.size, 3, none⟩)) rfl (by kernel_rfl) (by kernel_rfl) (by kernel_rfl) (fun _ _ _ h => h) (Or.inl ⟨by rfl, by intro W hSw; go_simp⟩) hH ?_
    try simp only [Act.put, List.setIfInBounds_toArray, List.set_cons_zero, List.set_cons_succ]
    refine wpAnyH_take (i := 10) (v := .int .i64 lf) rfl (by kernel_rfl) (by kernel_rfl) (by kernel_rfl) (fun _ _ _ h => h) (Or.inl ⟨by rfl, by intro W hSw; have hx := hSw.2.2.2.2; have hy := World.block_lt_of_cell? _ _ hx; go_simp⟩) hH ?_
    try simp only [Act.put, List.setIfInBounds_toArray, List.set_cons_zero, List.set_cons_succ]
    refine wpAnyH_take (i := 11) (v := .agg #[.slice A n c, .int .u16 (f 0 : Nat), .int .u16 (f 1 : Nat), .int .u16 (f 2 : Nat), .int .u16 (f 3 : Nat), .int .u16 (f 4 : Nat), .int .u16 (f 5 : Nat), .int .u16 (f 6 : Nat), .int .u16 (f 7 : Nat), .int .u16 (f 8 : Nat), .int .u16 (f 9 : Nat), .int .u16 (f 10 : Nat), .int .u16 (f 11 : Nat), .int .u16 (st : Nat), .int .u16 (nx : Nat), .int .i64 si, .int .i64 lf]) rfl (by kernel_rfl) (by kernel_rfl) (by kernel_rfl) (fun _ _ _ h => h) (Or.inl ⟨by rfl, by intro W hSw; go_simp⟩) hH ?_
    try simp only [Act.put, List.setIfInBounds_toArray, List.set_cons_zero, List.set_cons_succ]
    refine wpAnyH_ready (rs := [12]) (by decide +kernel) (by simp) (AllReadyH.cons rfl (fun K hK => ?_) AllReadyH.nil)
    go_simp
    have HB4d : Hid (Below w4.heap.size w4 (w4.alloc (.cells #[.slice none 0 0, .int .u16 0, .int .u16 0, .int .u16 0, .int .u16 0, .int .u16 0, .int .u16 0, .int .u16 0, .int .u16 0, .int .u16 0, .int .u16 0, .int .u16 0, .int .u16 0, .int .u16 0, .int .u16 0, .int .i64 0, .int .i64 0] 126)).drew) := Lib.hid (by
      have h := (Below.refl w4.heap.size w4).alloc (Nat.le_refl _) (.cells #[.slice none 0 0, .int .u16 0, .int .u16 0, .int .u16 0, .int .u16 0, .int .u16 0, .int .u16 0, .int .u16 0, .int .u16 0, .int .u16 0, .int .u16 0, .int .u16 0, .int .u16 0, .int .u16 0, .int .u16 0, .int .i64 0, .int .i64 0] 126)
      exact ⟨h.os, h.tape, h.output, h.size, h.block⟩)
    obtain ⟨w5, hw5⟩ : ∃ w5, w5 = (w4.alloc (.cells #[.slice none 0 0, .int .u16 0, .int .u16 0, .int .u16 0, .int .u16 0, .int .u16 0, .int .u16 0, .int .u16 0, .int .u16 0, .int .u16 0, .int .u16 0, .int .u16 0, .int .u16 0, .int .u16 0, .int .u16 0, .int .i64 0, .int .i64 0] 126)).drew := ⟨_, rfl⟩
    have hk5 : w5.heap[w4.heap.size]? = some (.cells #[.slice none 0 0, .int .u16 0, .int .u16 0, .int .u16 0, .int .u16 0, .int .u16 0, .int .u16 0, .int .u16 0, .int .u16 0, .int .u16 0, .int .u16 0, .int .u16 0, .int .u16 0, .int .u16 0, .int .u16 0, .int .i64 0, .int .i64 0] 126 (0, 0)) := by rw [hw5]; exact heap_alloc_new w4 _
    rw [← hw5] at HB4d ⊢
    clear hw5
    have HKP := Lib.hid (fun (X : World) (hX : Below w4.heap.size w4 X) => (⟨fun j v hj => (hX.cell (p := ⟨w1.heap.size, 0 + j, none⟩) lz1).trans (HS0.out.1 j v hj), (hX.cell (p := ⟨g, 0, none⟩) hgb).trans HS0.out.2.1, (hX.cell (p := ⟨g, 1, none⟩) hgb).trans HS0.out.2.2.1, (hX.cell (p := ⟨w.heap.size, 1, none⟩) lz0).trans HS0.out.2.2.2.1, (hX.cell (p := ⟨w.heap.size, 3, none⟩) lz0).trans HS0.out.2.2.2.2⟩ : X.rangeAt w1.heap.size 0 xs ∧ X.cell? ⟨g, 0, none⟩ = some (.int .u16 (st : Nat)) ∧ X.cell? ⟨g, 1, none⟩ = some (.int .u16 (nx : Nat)) ∧ X.cell? ⟨w.heap.size, 1, none⟩ = some (.int .i64 si) ∧ X.cell? ⟨w.heap.size, 3, none⟩ = some (.int .i64 lf)))
    refine hK.out _ _ (HKP.out _ HB4d.out) (fun _ => ?_)
    clear hK K hH
    try simp only [Act.put, List.setIfInBounds_toArray, List.set_cons_zero, List.set_cons_succ]
    refine wpAnyH_ready (rs := [13]) (by decide +kernel) (by simp) (AllReadyH.cons rfl (fun K hK => ?_) AllReadyH.nil)
    have hth := there_block hk5 17 rfl
    have HEQ : Hid ((m17 A n c f st nx si lf).toArray = #[.slice A n c, .int .u16 (f 0 : Nat), .int .u16 (f 1 : Nat), .int .u16 (f 2 : Nat), .int .u16 (f 3 : Nat), .int .u16 (f 4 : Nat), .int .u16 (f 5 : Nat), .int .u16 (f 6 : Nat), .int .u16 (f 7 : Nat), .int .u16 (f 8 : Nat), .int .u16 (f 9 : Nat), .int .u16 (f 10 : Nat), .int .u16 (f 11 : Nat), .int .u16 (st : Nat), .int .u16 (nx : Nat), .int .i64 si, .int .i64 lf]) := Lib.hid rfl
    rw [if_pos (by rfl)]
    refine wp_store_mid 126 _ _ rfl w4.heap.size 0 (m17 A n c f st nx si lf).toArray rfl rfl hth info_mach (all_oneCell_toArray (m17_one _ _ _ _ _ _ _ _)) ?_
    obtain ⟨w6, hw6⟩ : ∃ w6, w6 = w5.setCells w4.heap.size 0 (m17 A n c f st nx si lf).toArray.toList := ⟨_, rfl⟩
    have hb46 : Below w4.heap.size w4 w6 := by rw [hw6]; exact below_setCells _ (Nat.le_refl _) _ _ _ HB4d.out
    have hm6 : w6.rangeAt w4.heap.size 0 (m17 A n c f st nx si lf) := by rw [hw6]; exact World.rangeAt_setCells_same _ _ _ _ (by rw [List.toList_toArray, m17_len]; exact hth)
    have l46 : w4.heap.size < w6.heap.size := World.block_lt_of_cell? _ _ (m17_at hm6).1
    have HB46 := Lib.hid hb46
    have HM6 := Lib.hid hm6
    rw [← hw6]
    clear hw6 hb46 hm6 hth HEQ hk5
    refine hK.out _ _ (HKP.out _ HB46.out) (fun _ => ?_)
    clear hK K
    try simp only [Act.put, List.setIfInBounds_toArray, List.set_cons_zero, List.set_cons_succ]
    refine wpAnyH_done (by decide +kernel) ?_ _
    have HB6 := Lib.hid (HB4.out.trans (HB46.out.mono HB4.out.size))
    have HR6 := Lib.hid ((HB46.out.block _ (lt_of_block HR4.out)).trans HR4.out)
    have HIV6 := Lib.hid (HIV.out w6.drew ⟨HB6.out.os, HB6.out.tape, HB6.out.output, HB6.out.size, HB6.out.block⟩)
    rw [← t17_list] at HIV6 HMV
    rw [← HVV.out] at HIV6
    have hL := m17_len A n c f st nx si lf
    have HON := Lib.hid (m17_one A n c f st nx si lf)
    generalize m17 A n c f st nx si lf = ms at *
    generalize isCtl ps ⟨zs, si, zs3, lf⟩ = r at *
    have hinf17 : (Tryd.prog.info? 126).map (·.size) = some ms.length := by rw [hL]; exact info_mach
    have hrm := HM6.out
    clear hL17 HKP HB4d
    go_wp2
    refine wp_region_held_drew (S := fun W' => W'.rangeAt w4.heap.size 0 ms) hmx hrm (fun hH => ?_)
    refine wpAnyH_take (i := 0) (v := .agg ms.toArray) rfl (by kernel_rfl) (by kernel_rfl) (by kernel_rfl) (fun _ _ _ h => h) (yieldsIf_load_mid (by rfl) 126 _ rfl w4.heap.size 0 rfl ms _ (fun _ h => h) Tryd.underlying126 rfl hinf17) hH ?_
    try simp only [Act.put, List.setIfInBounds_toArray, List.set_cons_zero, List.set_cons_succ]
    refine wpAnyH_take (i := 1) (v := .agg ms.toArray) rfl (by kernel_rfl) (by kernel_rfl) (by kernel_rfl) (fun _ _ _ h => h) (yieldsIf_load_mid (by rfl) 126 _ rfl w4.heap.size 0 rfl ms _ (fun _ h => h) Tryd.underlying126 rfl hinf17) hH ?_
    try simp only [Act.put, List.setIfInBounds_toArray, List.set_cons_zero, List.set_cons_succ]
    refine wpAnyH_ready (rs := [2]) (by decide +kernel) (by simp) (AllReadyH.cons rfl (fun K hK => ?_) AllReadyH.nil)
    go_simp
    refine HIV6.out.mono ?_
    rintro e w7 ⟨rfl, hb7⟩
    have hb7' : Below w6.heap.size w6 w7 := ⟨hb7.os, hb7.tape, hb7.output, hb7.size, hb7.block⟩
    have HB7 := Lib.hid (HB6.out.trans (hb7'.mono HB6.out.size))
    have hr7 : w7.rangeAt w4.heap.size 0 ms := fun j v hj => (hb7'.cell (p := ⟨w4.heap.size, 0 + j, none⟩) l46).trans (hrm j v hj)
    have hz7 := (hb7'.block _ (lt_of_block HR6.out)).trans HR6.out
    have hth7 : w7.there (w.heap.size + 1) 0 ms.toArray.size := there_block hz7 _ (by simp [hL])
    have hne : w4.heap.size ≠ w.heap.size + 1 := by have := lt_of_block HR4.out; omega
    have HON2 := all_oneCell_toArray HON.out
    clear hb7 hb7' hz7
    go_wp2_with fail
    refine hK.out _ _ hr7 (fun _ => ?_)
    clear hK K
    try simp only [Act.put, List.setIfInBounds_toArray, List.set_cons_zero, List.set_cons_succ]
    refine wpAnyH_ready (rs := [3]) (by decide +kernel) (by simp) (AllReadyH.cons rfl (fun K hK => ?_) AllReadyH.nil)
    rw [if_pos (by rfl)]
    refine wp_store_mid 126 _ _ rfl (w.heap.size + 1) 0 ms.toArray rfl rfl hth7 (by rw [List.size_toArray]; exact hinf17) HON2 ?_
    have hr8 : (w7.setCells (w.heap.size + 1) 0 ms.toArray.toList).rangeAt w4.heap.size 0 ms := World.rangeAt_setCells_apart hr7 _ _ _ (.inl hne)
    refine hK.out _ _ hr8 (fun _ => ?_)
    clear hK K
    try simp only [Act.put, List.setIfInBounds_toArray, List.set_cons_zero, List.set_cons_succ]
    refine wpAnyH_ready (rs := [4]) (by decide +kernel) (by simp) (AllReadyH.cons rfl (fun K hK => ?_) AllReadyH.nil)
    go_simp
    refine hK.out _ _ (by simpa using hr8) (fun _ => ?_)
    clear hK K
    try simp only [Act.put, List.setIfInBounds_toArray, List.set_cons_zero, List.set_cons_succ]
    refine wpAnyH_done (by decide +kernel) ?_ _
    go_wp2
    refine bodyPost_ret (v := .tuple #[.agg ms.toArray, .bool r]) (by
        have hload := run_loadVar_mid (P := Tryd.prog) (w7.setCells (w.heap.size + 1) 0 ms) (w.heap.size + 1) 0 126 ms _ (World.rangeAt_setCells_same _ _ _ _ (by simpa using hth7)) Tryd.underlying126 rfl hinf17
        rw [results_cell_tmp rfl]
        simp [asAddr, hload, Result.andThen]) rfl ⟨by rw [HMV.out], ?_⟩
    exact below_setCells _ (Nat.le_succ _) _ _ _ HB7.out
/-- what machineOf answers. -/
def machV (A : Option Addr) (n c : Nat) (ps : List Pth) (x : Ctl) : Value :=
  if (arePs ps && (isTog ps x.stage && isTog ps x.next)) = true then .tuple #[.agg (t17 A n c (rowSt ps n 0) (maskL ps x.stage) (maskL ps x.next) x.since x.left), .bool (isCtl ps x)] else .tuple #[.agg z17.toArray, .bool false]
theorem impl_machineOf {w : World} {A : Option Addr} {n c : Nat} {ps : List Pth} {A2 : Option Addr} {n2 c2 : Nat} {A3 : Option Addr} {n3 c3 : Nat} {x : Ctl} (I : CtlIn w A n c ps A2 n2 c2 A3 n3 c3 x) (hw : Brus w) (ht : Clrs w) :
    Calls Tryd.prog 96 #[.slice A n c, ctlV (.slice A2 n2 c2) x.since (.slice A3 n3 c3) x.left] w fun e w' => e = .returned (machV A n c ps x) ∧ Below w.heap.size w w' := by
  cases ha : arePs ps
  · refine (impl_machineOf_off I ha).mono fun e w' h => ⟨?_, h.2⟩
    rw [h.1]
    unfold machV
    rw [ha]
    rfl
  · exact impl_machineOf_on I hw ht ha (machV A n c ps x) (fun h => by unfold machV; rw [ha, h]; rfl) (fun h => by unfold machV; rw [ha, h]; rfl)
/-- for a controller in order. -/
theorem machV_on {A : Option Addr} {n c : Nat} {ps : List Pth} {x : Ctl} (h : isCtl ps x = true) : machV A n c ps x = .tuple #[.agg (t17 A n c (rowSt ps n 0) (maskL ps x.stage) (maskL ps x.next) x.since x.left), .bool true] := by
  obtain ⟨ha, _, h1, h2, _⟩ := ctl_parts h
  unfold machV
  rw [ha, h1, h2, h]
  rfl
theorem machV_off {A : Option Addr} {n c : Nat} {ps : List Pth} {x : Ctl} (h : isCtl ps x = false) : ∃ A' n' c' f st nx s l, machV A n c ps x = .tuple #[.agg (t17 A' n' c' f st nx s l), .bool false] := by
  unfold machV
  split
  · rw [h]; exact ⟨_, _, _, _, _, _, _, _, rfl⟩
  · exact ⟨none, 0, 0, fun _ => 0, 0, 0, 0, 0, rfl⟩
theorem machV_any (A : Option Addr) (n c : Nat) (ps : List Pth) (x : Ctl) : ∃ A' n' c' f st nx s l, machV A n c ps x = .tuple #[.agg (t17 A' n' c' f st nx s l), .bool (isCtl ps x)] := by
  cases h : isCtl ps x
  · exact machV_off h
  · exact ⟨_, _, _, _, _, _, _, _, machV_on h⟩
set_option maxHeartbeats 2000000 in
set_option maxRecDepth 100000 in
theorem impl_IsControl {w : World} {A : Option Addr} {n c : Nat} {ps : List Pth} {A2 : Option Addr} {n2 c2 : Nat} {A3 : Option Addr} {n3 c3 : Nat} {x : Ctl} (I : CtlIn w A n c ps A2 n2 c2 A3 n3 c3 x) (hw : Brus w) (ht : Clrs w) :
    Calls Tryd.prog 47 #[.slice A n c, ctlV (.slice A2 n2 c2) x.since (.slice A3 n3 c3) x.left] w fun e w' => e = .returned (.bool (isCtl ps x)) ∧ Below w.heap.size w w' := by
  obtain ⟨wA, hwA⟩ : ∃ wA, wA = w.alloc (.cells #[.slice A2 n2 c2, .int .i64 x.since, .slice A3 n3 c3, .int .i64 x.left] 61) := ⟨_, rfl⟩
  obtain ⟨hk, hsz, hbA⟩ := one_block hwA
  obtain ⟨A', n', c', f, st, nx, s, l, hv⟩ := machV_any A n c ps x
  have HC := impl_machineOf (I.below hbA) (hw.below hbA (Nat.le_refl _)) (ht.below hbA (Nat.le_refl _))
  rw [hv] at HC
  simp only [ctlV] at HC ⊢
  unfold t17 at HC
  have HCC := Lib.hid HC
  have HBA := Lib.hid hbA
  generalize isCtl ps x = r at *
  clear hk hsz hbA HC hv I hw ht
  go_enter Tryd.func47, Tryd.ntmps47
  go_wp2_with fail
  rw [← hwA]
  clear hwA
  refine HCC.out.mono ?_
  rintro e w1 ⟨rfl, hb1⟩
  have HB1 := Lib.hid (HBA.out.trans (hb1.mono HBA.out.size))
  clear hb1
  go_wp2
  go_ret
  exact ⟨rfl, HB1.out.alloc HB1.out.size _⟩
set_option maxHeartbeats 2000000 in
set_option maxRecDepth 100000 in
theorem impl_lasts (A : Option Addr) (n c : Nat) (f : Nat → Nat) (st nx : Nat) (s l k : Int) (w : World) :
    Calls Tryd.prog 139 #[.agg (t17 A n c f st nx s l), .int .i64 k] w fun e w' => e = .returned (.bool (decide (nx = 0) && decide (k ≤ s))) ∧ Below w.heap.size w w' := by
  obtain ⟨wA, hwA⟩ : ∃ wA, wA = w.alloc (.cells (t17 A n c f st nx s l) 126) := ⟨_, rfl⟩
  have hk : wA.heap[w.heap.size]? = some (.cells (m17 A n c f st nx s l).toArray 126) := by rw [hwA, t17_list]; exact heap_alloc_new _ _
  have hbA : Below w.heap.size w wA := by rw [hwA]; exact (Below.refl _ _).alloc (Nat.le_refl _) _
  have hrng := range_block hk
  have hlA : w.heap.size < wA.heap.size := lt_of_block hk
  have k15 := (m17_at hrng).2.2.2.1
  have hinf : (Tryd.prog.info? 126).map (·.size) = some (m17 A n c f st nx s l).length := by rw [m17_len]; exact info_mach
  have HST := Lib.hid (impl_state A n c f st nx s l wA)
  have HBA := Lib.hid hbA
  rw [← t17_list] at HST
  generalize m17 A n c f st nx s l = cs at *
  unfold t17 at hwA ⊢
  clear hk hbA
  by_cases h : nx = 0
  · rw [if_pos h] at HST
    have HD : Hid ((decide (nx = 0) && decide (k ≤ s)) = decide (k ≤ s)) := Lib.hid (by rw [decide_eq_true h]; rfl)
    clear h
    by_cases hks : k ≤ s
    · have HD2 := Lib.hid (HD.out.trans (decide_eq_true hks))
      go_enter Tryd.func139, Tryd.ntmps139
      go_wp2_with ((with_reducible show wpList _ _ _ _ _ _); rw [← hwA]; clear hwA; refine wpList_load_mid rfl 126 _ rfl w.heap.size 0 rfl cs _ hrng Tryd.underlying126 rfl hinf ?_)
      refine HST.out.mono ?_
      rintro e w2 ⟨rfl, hb2⟩
      have HB2 := Lib.hid (HBA.out.trans (hb2.mono HBA.out.size))
      have m15 := (hb2.cell (p := ⟨w.heap.size, 15, none⟩) hlA).trans k15
      have l2 : w.heap.size < w2.heap.size := by have := hb2.size; omega
      clear hb2 k15 hrng
      go_wp2
      go_ret
      exact ⟨by rw [HD2.out]; try rfl, HB2.out⟩
    · have HD2 := Lib.hid HD.out
      go_enter Tryd.func139, Tryd.ntmps139
      go_wp2_with ((with_reducible show wpList _ _ _ _ _ _); rw [← hwA]; clear hwA; refine wpList_load_mid rfl 126 _ rfl w.heap.size 0 rfl cs _ hrng Tryd.underlying126 rfl hinf ?_)
      refine HST.out.mono ?_
      rintro e w2 ⟨rfl, hb2⟩
      have HB2 := Lib.hid (HBA.out.trans (hb2.mono HBA.out.size))
      have m15 := (hb2.cell (p := ⟨w.heap.size, 15, none⟩) hlA).trans k15
      have l2 : w.heap.size < w2.heap.size := by have := hb2.size; omega
      clear hb2 k15 hrng
      go_wp2
      go_ret
      exact ⟨by rw [HD2.out]; try rfl, HB2.out⟩
  · rw [if_neg h] at HST
    have HD : Hid ((decide (nx = 0) && decide (k ≤ s)) = false) := Lib.hid (by rw [decide_eq_false h]; rfl)
    clear h
    go_enter Tryd.func139, Tryd.ntmps139
    go_wp2_with ((with_reducible show wpList _ _ _ _ _ _); rw [← hwA]; clear hwA; refine wpList_load_mid rfl 126 _ rfl w.heap.size 0 rfl cs _ hrng Tryd.underlying126 rfl hinf ?_)
    refine HST.out.mono ?_
    rintro e w2 ⟨rfl, hb2⟩
    have HB2 := Lib.hid (HBA.out.trans (hb2.mono HBA.out.size))
    clear hb2 k15 hrng
    go_wp2
    go_ret
    exact ⟨by rw [HD.out]; try rfl, HB2.out⟩
set_option maxHeartbeats 4000000 in
set_option maxRecDepth 100000 in
theorem impl_canEndM (A : Option Addr) (n c B : Nat) (ps : List Pth) (f : Nat → Nat) (st nx : Nat) (s l : Int) (h12 : n ≤ 12) (hst : st < 2 ^ n) (w : World) (h : PthsAt w B A n ps) (hB : B ≤ w.heap.size) (hw : Brus w) :
    Calls Tryd.prog 98 #[.agg (t17 A n c f st nx s l)] w fun e w' => e = .returned (.bool (decide (nx = 0) && decide (leastG ps (idsM ps st) ≤ s))) ∧ Below w.heap.size w w' := by
  obtain ⟨wA, hwA⟩ : ∃ wA, wA = w.alloc (.cells (t17 A n c f st nx s l) 126) := ⟨_, rfl⟩
  have hk : wA.heap[w.heap.size]? = some (.cells (m17 A n c f st nx s l).toArray 126) := by rw [hwA, t17_list]; exact heap_alloc_new _ _
  have hbA : Below w.heap.size w wA := by rw [hwA]; exact (Below.refl _ _).alloc (Nat.le_refl _) _
  have hbD : Below w.heap.size w wA.drew := ⟨hbA.os, hbA.tape, hbA.output, hbA.size, hbA.block⟩
  have hrng := range_block hk
  have hlA : w.heap.size < wA.heap.size := lt_of_block hk
  have hinf : (Tryd.prog.info? 126).map (·.size) = some (m17 A n c f st nx s l).length := by rw [m17_len]; exact info_mach
  have hinf13 : (Tryd.prog.info? 79).map (·.size) = some (xcells A n c f).length := by rw [xcells_length]; exact info_cross
  have HPRE := Lib.hid (fun (W : World) (hW : W.rangeAt w.heap.size 0 (m17 A n c f st nx s l)) => m17_pre hW)
  have HAT := Lib.hid (fun (W : World) (hW : W.rangeAt w.heap.size 0 (m17 A n c f st nx s l)) => m17_at hW)
  have HID := Lib.hid (impl_idsOf A n c B ps f st wA.drew (h.below (hbD.mono hB)) (Nat.le_trans hB hbD.size) h12 hst (hw.below hbD (Nat.le_refl _)))
  have HLG := Lib.hid (fun y (hy : Below w.heap.size w y) (A4 : Option Addr) (n4 c4 : Nat) (h4 : IntsAt .i64 y y.heap.size A4 n4 (idsM ps st)) (hn4 : n4 ≤ 4294967296) => impl_LeastGreen A n c B ps A4 n4 c4 y.heap.size (idsM ps st) y (h.below (hy.mono hB)) h4 (Nat.le_trans hB hy.size) (Nat.le_refl _) (by omega) hn4)
  have HLA := Lib.hid (fun k y => impl_lasts A n c f st nx s l k y)
  have hli : (idsM ps st).length ≤ 4096 := by
    unfold idsM
    rw [List.length_map]
    have := idxs_len st
    omega
  have HBA := Lib.hid hbA
  have HBD := Lib.hid hbD
  have hmx : Tryd.prog.follows .mixedOrders = true := by kernel_rfl
  rw [← t17_list] at HLA
  generalize m17 A n c f st nx s l = ms at *
  generalize leastG ps (idsM ps st) = lg at *
  generalize idsM ps st = zs at *
  unfold t17 at hwA ⊢
  obtain ⟨u, hu⟩ : ∃ u, u = (decide (nx = 0) && decide (lg ≤ s)) := ⟨_, rfl⟩
  have HU := Lib.hid hu
  rw [← hu]
  clear h hw hbA hbD hk hu
  go_enter Tryd.func98, Tryd.ntmps98
  go_wp2
  rw [← hwA]
  clear hwA
  refine wp_region_held_drew (S := fun W' => W'.rangeAt w.heap.size 0 ms) hmx hrng (fun hH => ?_)
  refine wpAnyH_take (i := 0) (v := .agg ms.toArray) rfl (by kernel_rfl) (by kernel_rfl) (by kernel_rfl) (fun _ _ _ h => h) (yieldsIf_load_mid (by rfl) 126 _ rfl w.heap.size 0 rfl ms _ (fun _ h => h) Tryd.underlying126 rfl hinf) hH ?_
  try simp only [Act.put, List.setIfInBounds_toArray, List.set_cons_zero, List.set_cons_succ]
  refine wpAnyH_take (i := 1) (v := .pointer (some ⟨w.heap.size, 0, none⟩)) rfl (by kernel_rfl) (by kernel_rfl) (by kernel_rfl) (fun _ _ _ h => h) (Or.inl ⟨by rfl, by intro W hSw; go_simp⟩) hH ?_
  try simp only [Act.put, List.setIfInBounds_toArray, List.set_cons_zero, List.set_cons_succ]
  refine wpAnyH_take (i := 2) (v := .pointer (some ⟨w.heap.size, 0, none⟩)) rfl (by kernel_rfl) (by kernel_rfl) (by kernel_rfl) (fun _ _ _ h => h) (Or.inl ⟨by rfl, by intro W hSw; go_simp⟩) hH ?_
  try simp only [Act.put, List.setIfInBounds_toArray, List.set_cons_zero, List.set_cons_succ]
  refine wpAnyH_take (i := 3) (v := .slice A n c) rfl (by kernel_rfl) (by kernel_rfl) (by kernel_rfl) (fun _ _ _ h => h) (Or.inl ⟨by rfl, by intro W hSw; have hx := (HAT.out W hSw).1; have hy : w.heap.size < W.heap.size := World.block_lt_of_cell? _ _ hx; go_simp⟩) hH ?_
  try simp only [Act.put, List.setIfInBounds_toArray, List.set_cons_zero, List.set_cons_succ]
  refine wpAnyH_take (i := 4) (v := .pointer (some ⟨w.heap.size, 0, none⟩)) rfl (by kernel_rfl) (by kernel_rfl) (by kernel_rfl) (fun _ _ _ h => h) (Or.inl ⟨by rfl, by intro W hSw; go_simp⟩) hH ?_
  try simp only [Act.put, List.setIfInBounds_toArray, List.set_cons_zero, List.set_cons_succ]
  refine wpAnyH_take (i := 5) (v := .agg (xcells A n c f).toArray) rfl (by kernel_rfl) (by kernel_rfl) (by kernel_rfl) (fun _ _ _ h => h) (yieldsIf_load_mid (by rfl) 79 _ rfl w.heap.size 0 rfl (xcells A n c f) _ (fun W hW => HPRE.out W hW) Tryd.underlying79 rfl hinf13) hH ?_
  try simp only [Act.put, List.setIfInBounds_toArray, List.set_cons_zero, List.set_cons_succ]
  refine wpAnyH_take (i := 6) (v := .pointer (some ⟨w.heap.size, 13, none⟩)) rfl (by kernel_rfl) (by kernel_rfl) (by kernel_rfl) (fun _ _ _ h => h) (Or.inl ⟨by rfl, by intro W hSw; go_simp⟩) hH ?_
  try simp only [Act.put, List.setIfInBounds_toArray, List.set_cons_zero, List.set_cons_succ]
  refine wpAnyH_take (i := 7) (v := .int .u16 (st : Nat)) rfl (by kernel_rfl) (by kernel_rfl) (by kernel_rfl) (fun _ _ _ h => h) (Or.inl ⟨by rfl, by intro W hSw; have hx := (HAT.out W hSw).2.1; have hy : w.heap.size < W.heap.size := World.block_lt_of_cell? _ _ hx; go_simp⟩) hH ?_
  try simp only [Act.put, List.setIfInBounds_toArray, List.set_cons_zero, List.set_cons_succ]
  refine wpAnyH_ready (rs := [8]) (by decide +kernel) (by simp) (AllReadyH.cons rfl (fun K hK => ?_) AllReadyH.nil)
  go_simp
  refine HID.out.mono ?_
  rintro e w3 ⟨v, rfl, hv, hb3⟩
  obtain ⟨Av, cv, rfl⟩ := hv.sliced
  have HI3 := Lib.hid hv.ints
  have HB3 := Lib.hid (HBD.out.trans (hb3.mono HBD.out.size))
  have hr3 : w3.rangeAt w.heap.size 0 ms := fun j v hj => (hb3.cell (p := ⟨w.heap.size, 0 + j, none⟩) hlA).trans (hrng j v hj)
  have lw3 : w.heap.size < w3.heap.size := by have := hb3.size; exact Nat.lt_of_lt_of_le hlA this
  clear hb3 hv
  go_wp2_with fail
  refine hK.out _ _ hr3 (fun _ => ?_)
  clear hK K
  try simp only [Act.put, List.setIfInBounds_toArray, List.set_cons_zero, List.set_cons_succ]
  refine wpAnyH_ready (rs := [9]) (by decide +kernel) (by simp) (AllReadyH.cons rfl (fun K hK => ?_) AllReadyH.nil)
  go_simp
  refine (HLG.out w3 HB3.out _ _ _ HI3.out (by omega)).mono ?_
  rintro e w4 ⟨rfl, hb4⟩
  have HB4 := Lib.hid (HB3.out.trans (hb4.mono HB3.out.size))
  have hr4 : w4.rangeAt w.heap.size 0 ms := fun j v hj => (hb4.cell (p := ⟨w.heap.size, 0 + j, none⟩) lw3).trans (hr3 j v hj)
  have lw4 : w.heap.size < w4.heap.size := by have := hb4.size; omega
  clear hb4
  go_wp2_with fail
  refine hK.out _ _ hr4 (fun _ => ?_)
  clear hK K
  try simp only [Act.put, List.setIfInBounds_toArray, List.set_cons_zero, List.set_cons_succ]
  refine wpAnyH_ready (rs := [10]) (by decide +kernel) (by simp) (AllReadyH.cons rfl (fun K hK => ?_) AllReadyH.nil)
  go_simp
  refine (HLA.out lg w4).mono ?_
  rw [← HU.out]
  rintro e w5 ⟨rfl, hb5⟩
  have HB5 := Lib.hid (HB4.out.trans (hb5.mono HB4.out.size))
  have hr5 : w5.rangeAt w.heap.size 0 ms := fun j v hj => (hb5.cell (p := ⟨w.heap.size, 0 + j, none⟩) lw4).trans (hr4 j v hj)
  clear hb5
  go_wp2_with fail
  refine hK.out _ _ hr5 (fun _ => ?_)
  clear hK K
  try simp only [Act.put, List.setIfInBounds_toArray, List.set_cons_zero, List.set_cons_succ]
  refine wpAnyH_ready (rs := [11]) (by decide +kernel) (by simp) (AllReadyH.cons rfl (fun K hK => ?_) AllReadyH.nil)
  go_simp
  refine hK.out _ _ hr5 (fun _ => ?_)
  clear hK K
  try simp only [Act.put, List.setIfInBounds_toArray, List.set_cons_zero, List.set_cons_succ]
  refine wpAnyH_done (by decide +kernel) ?_ _
  go_wp2
  go_ret
  exact ⟨rfl, HB5.out⟩
end Go.Proofs.YtcbccbefkpklkaaDoor

/- CanEnd: the program. -/
namespace Go.Proofs.YtcbccbefkpklkaaDoor
open Go.RowKit
set_option linter.unusedVariables false

theorem canE_off {ps : List Pth} {x : Ctl} (h : isCtl ps x = false) : canE ps x = false := by unfold canE; rw [h]; rfl
theorem canE_on {ps : List Pth} {x : Ctl} (h : isCtl ps x = true) : canE ps x = (decide (maskL ps x.next = 0) && decide (leastG ps (idsM ps (maskL ps x.stage)) ≤ x.since)) := by
  obtain ⟨_, _, h1, h2, _⟩ := ctl_parts h
  obtain ⟨_, _, a2, _, _⟩ := tog_maskL h1
  unfold canE
  rw [h, Bool.true_and, ← a2]
  congr 1
  exact decide_eq_decide.2 (maskL_empty h2).symm
set_option maxHeartbeats 4000000 in
set_option maxRecDepth 100000 in
theorem impl_CanEnd {w : World} {A : Option Addr} {n c : Nat} {ps : List Pth} {A2 : Option Addr} {n2 c2 : Nat} {A3 : Option Addr} {n3 c3 : Nat} {x : Ctl} (I : CtlIn w A n c ps A2 n2 c2 A3 n3 c3 x) (hw : Brus w) (ht : Clrs w) :
    Calls Tryd.prog 50 #[.slice A n c, ctlV (.slice A2 n2 c2) x.since (.slice A3 n3 c3) x.left] w fun e w' => e = .returned (.bool (canE ps x)) ∧ Below w.heap.size w w' := by
  obtain ⟨wA, hwA⟩ : ∃ wA, wA = w.alloc (.cells #[.slice A2 n2 c2, .int .i64 x.since, .slice A3 n3 c3, .int .i64 x.left] 61) := ⟨_, rfl⟩
  obtain ⟨hk, hsz, hbA⟩ := one_block hwA
  have HC := impl_machineOf (I.below hbA) (hw.below hbA (Nat.le_refl _)) (ht.below hbA (Nat.le_refl _))
  have HBA := Lib.hid hbA
  cases hr : isCtl ps x
  · obtain ⟨A', n', c', f, st, nx, s, l, hv⟩ := machV_off (A := A) (n := n) (c := c) hr
    have HR := Lib.hid (canE_off hr)
    rw [hv] at HC
    simp only [ctlV] at HC ⊢
    unfold t17 at HC
    have HCC := Lib.hid HC
    clear hk hsz hbA HC hv I hw ht hr
    go_enter Tryd.func50, Tryd.ntmps50
    go_wp2_with fail
    rw [← hwA]
    clear hwA
    refine HCC.out.mono ?_
    rintro e w1 ⟨rfl, hb1⟩
    have HB1 := Lib.hid (HBA.out.trans (hb1.mono HBA.out.size))
    clear hb1
    go_wp2
    go_ret
    exact ⟨by rw [HR.out]; try rfl, HB1.out.alloc HB1.out.size _⟩
  · have hv := machV_on (A := A) (n := n) (c := c) hr
    have HR := Lib.hid (canE_on hr)
    obtain ⟨ha, _, h1, h2, _⟩ := ctl_parts hr
    obtain ⟨_, hm1, _, _, _⟩ := tog_maskL h1
    rw [I.p.len] at hm1
    have h12 : n ≤ 12 := by have := arePs_len12 ha; have := I.p.len; omega
    have HM := Lib.hid (fun y (hy : Below w.heap.size w y) => impl_canEndM A n c _ ps (rowSt ps n 0) (maskL ps x.stage) (maskL ps x.next) x.since x.left h12 hm1 y (I.below hy).p.pths (Nat.le_refl _) (hw.below hy (Nat.le_refl _)))
    rw [hv, ← t17_list] at HC
    rw [← t17_list] at HM
    have hL := m17_len A n c (rowSt ps n 0) (maskL ps x.stage) (maskL ps x.next) x.since x.left
    have HON := Lib.hid (all_oneCell_toArray (m17_one A n c (rowSt ps n 0) (maskL ps x.stage) (maskL ps x.next) x.since x.left))
    simp only [ctlV] at HC ⊢
    have HCC := Lib.hid HC
    generalize m17 A n c (rowSt ps n 0) (maskL ps x.stage) (maskL ps x.next) x.since x.left = ms at *
    have hinf17 : (Tryd.prog.info? 126).map (·.size) = some ms.length := by rw [hL]; exact info_mach
    have HIA : Hid ((Tryd.prog.info? 126).map (·.size) = some ms.toArray.size) := Lib.hid (by rw [List.size_toArray]; exact hinf17)
    clear hk hsz hbA HC hv I hw ht hr ha h1 h2 hm1
    generalize canE ps x = ce at *
    generalize (decide (maskL ps x.next = 0) && decide (leastG ps (idsM ps (maskL ps x.stage)) ≤ x.since)) = ce2 at *
    go_enter Tryd.func50, Tryd.ntmps50
    go_wp2_with fail
    rw [← hwA]
    clear hwA
    refine HCC.out.mono ?_
    rintro e w1 ⟨rfl, hb1⟩
    have HB1 := Lib.hid (HBA.out.trans (hb1.mono HBA.out.size))
    have HTH := Lib.hid (there_block (heap_alloc_new w1 (.cells #[.slice none 0 0, .int .u16 0, .int .u16 0, .int .u16 0, .int .u16 0, .int .u16 0, .int .u16 0, .int .u16 0, .int .u16 0, .int .u16 0, .int .u16 0, .int .u16 0, .int .u16 0, .int .u16 0, .int .u16 0, .int .i64 0, .int .i64 0] 126)) ms.toArray.size (by simp [hL]))
    obtain ⟨wz, hwz⟩ : ∃ wz, wz = w1.alloc (.cells #[.slice none 0 0, .int .u16 0, .int .u16 0, .int .u16 0, .int .u16 0, .int .u16 0, .int .u16 0, .int .u16 0, .int .u16 0, .int .u16 0, .int .u16 0, .int .u16 0, .int .u16 0, .int .u16 0, .int .u16 0, .int .i64 0, .int .i64 0] 126) := ⟨_, rfl⟩
    obtain ⟨w2, hw2⟩ : ∃ w2, w2 = wz.setCells w1.heap.size 0 ms := ⟨_, rfl⟩
    have HRG : Hid (w2.rangeAt w1.heap.size 0 ms) := Lib.hid (by rw [hw2, hwz]; exact World.rangeAt_setCells_same _ _ _ _ (by have := HTH.out; simpa using this))
    have HB2 : Hid (Below w.heap.size w w2) := Lib.hid (by rw [hw2, hwz]; exact below_setCells _ (by have := HB1.out.size; exact this) _ _ _ (HB1.out.alloc HB1.out.size _))
    have HE2 : Hid ((w1.alloc (.cells #[.slice none 0 0, .int .u16 0, .int .u16 0, .int .u16 0, .int .u16 0, .int .u16 0, .int .u16 0, .int .u16 0, .int .u16 0, .int .u16 0, .int .u16 0, .int .u16 0, .int .u16 0, .int .u16 0, .int .u16 0, .int .i64 0, .int .i64 0] 126)).setCells w1.heap.size 0 ms.toArray.toList = w2) := Lib.hid (by rw [hw2, hwz])
    clear hb1 hwz hw2
    go_wp2_with (first
      | ((with_reducible show wpList _ _ _ _ _ _); refine wpList_store_mid rfl 126 _ _ rfl w1.heap.size 0 ms.toArray rfl rfl HTH.out HIA.out HON.out ?_; rw [HE2.out])
      | ((with_reducible show wpList _ _ _ _ _ _); refine wpList_want (by rfl) ?_; refine wpList_load_mid rfl 126 _ rfl w1.heap.size 0 rfl ms _ HRG.out Tryd.underlying126 rfl hinf17 ?_))
    refine (HM.out _ HB2.out).mono ?_
    rintro e w3 ⟨rfl, hb3⟩
    have HB3 := Lib.hid (HB2.out.trans (hb3.mono HB2.out.size))
    clear hb3
    go_wp2
    go_ret
    exact ⟨by rw [HR.out]; try rfl, HB3.out⟩
end Go.Proofs.YtcbccbefkpklkaaDoor

/- Chapter 14: the model: CanEnd. -/
namespace Go.Proofs.YtcbccbefkpklkaaDoor
open Go.RowKit
set_option linter.unusedVariables false

theorem canE_offM {ps : List Pth} {x : Ctl} (h : isCtl ps x = false) : canE ps x = false := by unfold canE; rw [h]; rfl
set_option maxHeartbeats 4000000 in
set_option maxRecDepth 100000 in
theorem spec_CanEnd {w : World} {A : Option Addr} {n c : Nat} {ps : List Pth} {A2 : Option Addr} {n2 c2 : Nat} {A3 : Option Addr} {n3 c3 : Nat} {x : Ctl} (I : CtlIn w A n c ps A2 n2 c2 A3 n3 c3 x) :
    Calls Tryd.prog 49 #[.slice A n c, ctlV (.slice A2 n2 c2) x.since (.slice A3 n3 c3) x.left] w fun e w' => e = .returned (.bool (canE ps x)) ∧ Below w.heap.size w w' := by
  have hlt := I.t.len
  have hs2 := I.hs
  obtain ⟨wA, hwA⟩ : ∃ wA, wA = w.alloc (.cells #[.slice A2 n2 c2, .int .i64 x.since, .slice A3 n3 c3, .int .i64 x.left] 61) := ⟨_, rfl⟩
  obtain ⟨hk, hsz, hBA⟩ := one_block hwA
  have HIC := Lib.hid (fun y : GW wA => spec_IsControl (I.below (hBA.trans (y.ok.mono hBA.size))))
  have HLG := Lib.hid (fun y : GW wA => have J := I.below (hBA.trans (y.ok.mono hBA.size)); spec_LeastGreen A n c _ ps A2 n2 c2 _ x.stage y.val J.p.pths J.s.ints (Nat.le_refl _) (Nat.le_refl _) J.p.small (by omega))
  have hltA : w.heap.size < wA.heap.size := by omega
  have q0 := fun y : GW wA => (cells4 ((y.ok.block _ hltA).trans hk)).1
  have q1 := fun y : GW wA => (cells4 ((y.ok.block _ hltA).trans hk)).2.1
  have q2 := fun y : GW wA => (cells4 ((y.ok.block _ hltA).trans hk)).2.2.1
  have q3 := fun y : GW wA => (cells4 ((y.ok.block _ hltA).trans hk)).2.2.2
  have HV : Hid (canE ps x = (isCtl ps x && decide (n3 = 0) && decide (leastG ps x.stage ≤ x.since))) := Lib.hid (by unfold canE; rw [hlt])
  have HBA := Lib.hid hBA
  simp only [ctlV] at HIC ⊢
  obtain ⟨zs, si, zs3, lf⟩ := x
  simp only at *
  generalize canE ps ⟨zs, si, zs3, lf⟩ = r at *
  generalize leastG ps zs = lg at *
  clear I hk hsz hBA hlt
  cases h1 : isCtl ps ⟨zs, si, zs3, lf⟩
  · have HR : Hid (r = false) := Lib.hid (by rw [HV.out, h1]; rfl)
    rw [h1] at HIC
    have hic := HIC.out
    have hlg := HLG.out
    clear h1
    go_enter Tryd.func49, Tryd.ntmps49
    go_wp2
    rw [← hwA]
    clear hwA
    refine wp_region_grow (by kernel_rfl) (by kernel_rfl) ?_
    repeat (go_big_quiet_step (first | (go_at_call 45; exact calls_gw _ (hic _)) | (go_at_call 97; exact calls_gw _ (hlg _))))
    refine wpQuiet_nil ?_
    intro x5
    have hb5 := HBA.out.trans (x5.ok.mono HBA.out.size)
    clear q0 q1 q2 q3 hic hlg
    generalize x5.val = w5 at *
    go_wp2
    go_ret
    exact ⟨by rw [HR.out]; try rfl, hb5⟩
  · rw [h1] at HIC HV
    have hic := HIC.out
    have hlg := HLG.out
    clear h1
    by_cases h3 : n3 = 0
    · have e3 : ((n3 : Int) == 0) = true := by rw [h3]; rfl
      have HR : Hid (r = decide (lg ≤ si)) := Lib.hid (by rw [HV.out, decide_eq_true h3]; rfl)
      clear h3
      go_enter Tryd.func49, Tryd.ntmps49
      go_wp2
      rw [← hwA]
      clear hwA
      refine wp_region_grow (by kernel_rfl) (by kernel_rfl) ?_
      repeat (go_big_quiet_step (first | (go_at_call 45; exact calls_gw _ (hic _)) | (go_at_call 97; exact calls_gw _ (hlg _))))
      refine wpQuiet_nil ?_
      intro x5
      have hb5 := HBA.out.trans (x5.ok.mono HBA.out.size)
      clear q0 q1 q2 q3 hic hlg
      generalize x5.val = w5 at *
      go_wp2
      go_ret
      exact ⟨by rw [HR.out]; try rfl, hb5⟩
    · have e3 : ((n3 : Int) == 0) = false := beq_eq_false_iff_ne.2 (by omega)
      have HR : Hid (r = false) := Lib.hid (by rw [HV.out, decide_eq_false h3]; rfl)
      clear h3
      go_enter Tryd.func49, Tryd.ntmps49
      go_wp2
      rw [← hwA]
      clear hwA
      refine wp_region_grow (by kernel_rfl) (by kernel_rfl) ?_
      repeat (go_big_quiet_step (first | (go_at_call 45; exact calls_gw _ (hic _)) | (go_at_call 97; exact calls_gw _ (hlg _))))
      refine wpQuiet_nil ?_
      intro x5
      have hb5 := HBA.out.trans (x5.ok.mono HBA.out.size)
      clear q0 q1 q2 q3 hic hlg
      generalize x5.val = w5 at *
      go_wp2
      go_ret
      exact ⟨by rw [HR.out]; try rfl, hb5⟩
end Go.Proofs.YtcbccbefkpklkaaDoor

/- A law's argument that is a controller. -/
namespace Go.Proofs.YtcbccbefkpklkaaDoor
open Go.ChangeShapes Go.WideShapes Go.ChangeAt Go.RowKit Go.Joins
open Go.Deep (oneCellFields open_slice hone_of)
set_option linter.unusedVariables false

section
variable {H : Type} {enc : TypeId × Value → H} {P : Program}
theorem row_of_trod {ft i : TypeId} {W : World} {n : Nat} {v : Value} {y : DataW H × List MemPlace} (h2 : P.underlying ft = some (.slice i)) (hi : P.underlying i = some (.int .i64)) (hci : P.cellsOf i = 1)
    (t2 : DataW.trod enc P W 0 (fun _ => true) true n ft [v] = some y) (hlt : ∀ x ∈ y.2, x.block < W.heap.size) :
    ∃ (A : Option Addr) (n c : Nat) (zs : List Int), v = .slice A n c ∧ (IntsAt .i64 W W.heap.size A n zs ∧ (∀ z ∈ zs, (Lit.int .i64 z).wf = true) ∧ n ≤ c ∧ c ≤ maxLen) := by
  rcases open_ints h2 hi hci t2 with ⟨h2, _⟩ | ⟨b, l2, cp2, zs, h2, _, hl2, hm2, hzl2, hx2, hc2, hwf2⟩
  · simp only [List.cons.injEq, and_true] at h2
    subst h2
    exact ⟨none, 0, 0, [], rfl, ⟨rfl, fun h => absurd h (by omega)⟩, by simp, Nat.le_refl _, Nat.zero_le _⟩
  · simp only [List.cons.injEq, and_true] at h2
    subst h2
    rw [if_pos rfl] at hzl2
    refine ⟨some b, l2, cp2, zs.take l2, rfl, ⟨by simp only [List.length_take]; omega, fun hn => ⟨b, rfl, ?_, fun q hq => ?_⟩⟩, fun z hzm => hwf2 z (List.mem_of_mem_take hzm), hl2, hm2⟩
    · have hmem : MemPlace.cell b.block (b.off + 0) ∈ y.2 := by
        have e2 : y.2 = MemPlace.row b zs.length := congrArg Prod.snd hx2
        rw [e2]
        exact List.mem_map.2 ⟨0, List.mem_range.2 (by omega), rfl⟩
      exact hlt _ hmem
    · rw [hc2 q (by omega)]
      simp [List.getD_eq_getElem?_getD, hq]
theorem arg_ctl {t i : TypeId} {f0 f1 f2 f3 : Field} {W : World} {base : Nat} {v : Value} {d : DataW H} {ps : List MemPlace} (hs : P.underlying t = some (.struct #[f0, f1, f2, f3])) (hone : oneCellFields P #[f0, f1, f2, f3] = true) (hC : P.cellsOf t = 4)
    (h0 : P.underlying f0.type = some (.slice i)) (h1 : P.underlying f1.type = some (.int .i64)) (h2 : P.underlying f2.type = some (.slice i)) (h3 : P.underlying f3.type = some (.int .i64)) (hi : P.underlying i = some (.int .i64)) (hci : P.cellsOf i = 1)
    (hval : Value.okWide P W .any base t v) (hd : DataW.Trod enc P W 0 (fun _ => true) true t v d ps) (hlt : ∀ x ∈ ps, x.block < W.heap.size) :
    ∃ (A : Option Addr) (n c : Nat) (zs : List Int) (A' : Option Addr) (n' c' : Nat) (zs' : List Int) (x0 x1 : Int), v = .agg #[.slice A n c, .int .i64 x0, .slice A' n' c', .int .i64 x1] ∧ (IntsAt .i64 W W.heap.size A n zs ∧ (∀ z ∈ zs, (Lit.int .i64 z).wf = true) ∧ n ≤ c ∧ c ≤ maxLen) ∧ (IntsAt .i64 W W.heap.size A' n' zs' ∧ (∀ z ∈ zs', (Lit.int .i64 z).wf = true) ∧ n' ≤ c' ∧ c' ≤ maxLen) ∧ (Lit.int .i64 x0).wf = true ∧ (Lit.int .i64 x1).wf = true := by
  obtain ⟨v0, v1, v2, v3, y0, y1, y2, y3, n, rfl, -, hps, t0, t1, t2, t3⟩ := open_agg4 hs hone hC hval hd
  obtain ⟨x0, rfl, w0, -⟩ := cell_int h1 t1
  obtain ⟨x1, rfl, w1, -⟩ := cell_int h3 t3
  obtain ⟨A, m, c, zs, rfl, f0⟩ := row_of_trod h0 hi hci t0 (fun x hx => hlt x (by rw [hps]; simp only [List.mem_append]; exact Or.inl hx))
  obtain ⟨A', m', c', zs', rfl, f2⟩ := row_of_trod h2 hi hci t2 (fun x hx => hlt x (by rw [hps]; simp only [List.mem_append]; exact Or.inr (Or.inr (Or.inl hx))))
  exact ⟨A, m, c, zs, A', m', c', zs', x0, x1, rfl, f0, f2, w0, w1⟩
end
end Go.Proofs.YtcbccbefkpklkaaDoor
