/- Texts of one chain, put together: PlnJ PlnK ClrM ClrS PlnM PrtM LawPln LawVars LawPth LawPrt. -/
import Derived.Deep.RegionHeld3
import Derived.OpenVars
import Derived.RowKitTokens
import Derived.Lib.SmallJoins
import Derived.Deep.Slices
import Derived.Deep.Fields
import Derived.ChangeSame
import Derived.Test.YtmbbmffoihhdfaaDoorBndlB
set_option linter.unusedSimpArgs false
/- timePlan: the program. -/
namespace Go.Proofs.YtmbbmffoihhdfaaDoor
open Go.RowKit
set_option linter.unusedVariables false

def z16 : List Value := [.slice none 0 0, .int .u16 0, .int .u16 0, .int .u16 0, .int .u16 0, .int .u16 0, .int .u16 0, .int .u16 0, .int .u16 0, .int .u16 0, .int .u16 0, .int .u16 0, .int .u16 0, .slice none 0 0, .slice none 0 0, .int .i64 0]
/-- what timePlan leaves. -/
def TimedAt (w' : World) (lo : Nat) (A : Option Addr) (n c : Nat) (ps : List Pth) (p : List Prt) (cs : List Value) : Prop :=
  (isPlan ps p = false → cs = z16) ∧ (isPlan ps p = true → ∃ v1 v2, cs = xcells A n c (rowSt ps n 0) ++ [v1, v2, .int .i64 (sumTo ps p p.length)] ∧
    w'.ownsRow lo 87 5 v1 p.length ((phsTo ps p p.length).flatMap Phs.cells) ∧ w'.ownsRow lo 3 1 v2 p.length ((begTo ps p p.length).map (Value.int .i64)))
theorem sumTo_ok {ps : List Pth} {p : List Prt} : ∀ k, (∀ j, j < k → okPrt ps (prAt p j) = true) → 0 ≤ sumTo ps p k ∧ sumTo ps p k ≤ 65 * k
  | 0, _ => by simp [sumTo]
  | k + 1, h => by
    have ih := sumTo_ok k fun j hj => h j (by omega)
    obtain ⟨_, _, h5, h6⟩ := okPrt_parts (h k (by omega))
    have := leastG_bound ps (prAt p k).stage
    have := clrAt_bound ps p k
    show 0 ≤ sumTo ps p k + ((prAt p k).green + clrAt ps p k) ∧ sumTo ps p k + ((prAt p k).green + clrAt ps p k) ≤ _
    omega
theorem grown_setCells {a : World} {b : Nat} : ∀ (vs : List Value) (o : Nat) (w : World), a.grownBy w (some b) → a.grownBy (w.setCells b o vs) (some b)
  | [], _, _, h => h
  | u :: vs, o, w, h => grown_setCells vs (o + 1) _ (only_setCell h o u)
theorem info_timed : (Tryd.prog.info? 78).map (·.size) = some 16 := by kernel_rfl
theorem z16_one : ∀ u ∈ z16, u.oneCell' = true := by decide
theorem stored5P {w : World} {g : Nat} {x0 x1 x2 x3 x4 a b c d e : Value} {E : TypeId} (h : w.heap[g]? = some (.cells #[x0, x1, x2, x3, x4] E)) : (((((w.setCell ⟨g, 0, none⟩ a).setCell ⟨g, 1, none⟩ b).setCell ⟨g, 2, none⟩ c).setCell ⟨g, 3, none⟩ d).setCell ⟨g, 4, none⟩ e).heap[g]? = some (.cells #[a, b, c, d, e] E) :=
  heap_setCell_same _ g 4 _ E e (heap_setCell_same _ g 3 _ E d (heap_setCell_same _ g 2 _ E c (heap_setCell_same _ g 1 _ E b (heap_setCell_same w g 0 _ E a h))))
theorem below5P {w u : World} {B g : Nat} {a b c d e : Value} (h : Below B w u) (hg : B ≤ g) : Below B w (((((u.setCell ⟨g, 0, none⟩ a).setCell ⟨g, 1, none⟩ b).setCell ⟨g, 2, none⟩ c).setCell ⟨g, 3, none⟩ d).setCell ⟨g, 4, none⟩ e) :=
  ((((h.setCell (p := ⟨g, 0, none⟩) hg a).setCell (p := ⟨g, 1, none⟩) hg b).setCell (p := ⟨g, 2, none⟩) hg c).setCell (p := ⟨g, 3, none⟩) hg d).setCell (p := ⟨g, 4, none⟩) hg e
set_option maxHeartbeats 4000000 in
set_option maxRecDepth 100000 in
theorem impl_timePlan_no (A : Option Addr) (n c B : Nat) (ps : List Pth) (A2 : Option Addr) (n2 c2 B2 : Nat) (p : List Prt) (w : World) (h : PthsAt w B A n ps) (hB : B ≤ w.heap.size) (hn : n ≤ 4294967296) (h2 : PrtsAt w B2 A2 n2 p) (hB2 : B2 ≤ w.heap.size) (hn2 : n2 ≤ 1048576) (ha : arePs ps = false) :
    Calls Tryd.prog 62 #[.slice A n c, .slice A2 n2 c2] w fun e w' => ∃ cs, e = .returned (.tuple #[.agg cs.toArray, .bool (isPlan ps p)]) ∧ TimedAt w' w.heap.size A n c ps p cs ∧ Below w.heap.size w w' := by
  have hl2 := h2.1
  have HPN := Lib.hid (plan_off (p := p) ha)
  have HC := Lib.hid (fun x (hx : Below w.heap.size w x) => impl_crossingOf_no A n c B ps x (h.below (hx.mono hB)) (Nat.le_trans hB hx.size) hn ha)
  have hxz : (xcells none 0 0 fun _ => 0).toArray = #[.slice none 0 0, .int .u16 0, .int .u16 0, .int .u16 0, .int .u16 0, .int .u16 0, .int .u16 0, .int .u16 0, .int .u16 0, .int .u16 0, .int .u16 0, .int .u16 0, .int .u16 0] := rfl
  rw [hxz] at HC
  have hb0 : Below w.heap.size w (w.alloc (.cells z16.toArray 78)) := (Below.refl _ _).alloc (Nat.le_refl _) _
  have HC0 := Lib.hid (HC.out _ hb0)
  have hz : z16.toArray = #[.slice none 0 0, .int .u16 0, .int .u16 0, .int .u16 0, .int .u16 0, .int .u16 0, .int .u16 0, .int .u16 0, .int .u16 0, .int .u16 0, .int .u16 0, .int .u16 0, .int .u16 0, .slice none 0 0, .slice none 0 0, .int .i64 0] := rfl
  rw [hz] at HC0 hb0
  clear h h2 HC hxz
  go_enter Tryd.func62, Tryd.ntmps62
  go_wp2_with fail
  refine HC0.out.mono ?_
  rintro e w1 ⟨rfl, hb⟩
  have hRz := (hb.block w.heap.size (by simp)).trans (heap_alloc_new w (.cells #[.slice none 0 0, .int .u16 0, .int .u16 0, .int .u16 0, .int .u16 0, .int .u16 0, .int .u16 0, .int .u16 0, .int .u16 0, .int .u16 0, .int .u16 0, .int .u16 0, .int .u16 0, .slice none 0 0, .slice none 0 0, .int .i64 0] 78))
  have hlt1 : w.heap.size < w1.heap.size := by have := hb.size; simp at this; omega
  have hth : ∀ o : Obj, (w1.alloc o).there w.heap.size 0 16 := fun o => there_block ((Below.heap_alloc w1 o _ hlt1).trans hRz) 16 rfl
  have HTH := Lib.hid hth
  have HB1 := Lib.hid (hb0.trans (hb.mono hb0.size))
  clear hth hb hRz hb0 HC0
  go_wp2_with ((with_reducible show wpList _ _ _ _ _ _); refine wpList_store_mid rfl 78 _ _ rfl w.heap.size 0 z16.toArray rfl rfl (HTH.out _) info_timed (all_oneCell_toArray z16_one) ?_)
  refine bodyPost_ret (v := .tuple #[.agg z16.toArray, .bool false]) (by
        have hload := fun o => run_loadVar_mid (P := Tryd.prog) ((w1.alloc o).setCells w.heap.size 0 z16) w.heap.size 0 78 z16 _ (World.rangeAt_setCells_same _ _ _ _ (HTH.out o)) Tryd.underlying78 rfl info_timed
        rw [results_cell_tmp rfl]
        simp [asAddr, hload, Result.andThen]) rfl ⟨z16, by rw [HPN.out], ⟨fun _ => rfl, fun hh => by rw [HPN.out] at hh; cases hh⟩, ?_⟩
  exact below_setCells _ (Nat.le_refl _) _ _ _ (HB1.out.alloc HB1.out.size _)
set_option maxHeartbeats 40000000 in
set_option maxRecDepth 100000 in
theorem impl_timePlan_yes (A : Option Addr) (n c B : Nat) (ps : List Pth) (A2 : Option Addr) (n2 c2 B2 : Nat) (p : List Prt) (w : World) (h : PthsAt w B A n ps) (hB : B ≤ w.heap.size) (hn : n ≤ c ∧ c ≤ maxLen) (h2 : PrtsAt w B2 A2 n2 p) (hB2 : B2 ≤ w.heap.size) (hn2 : n2 ≤ 1048576) (hm : ∀ j, j < n2 → (prAt p j).stage.length ≤ 1048576) (ha : arePs ps = true) (hw : Brus w) (ht : Clrs w) :
    Calls Tryd.prog 62 #[.slice A n c, .slice A2 n2 c2] w fun e w' => ∃ cs, e = .returned (.tuple #[.agg cs.toArray, .bool (isPlan ps p)]) ∧ TimedAt w' w.heap.size A n c ps p cs ∧ Below w.heap.size w w' := by
  have hl := h.1
  have hl2 := h2.1
  subst hl
  have h12 := arePs_len12 ha
  have HP := Lib.hid h
  have H2 := Lib.hid h2
  have HW := Lib.hid hw
  have HT := Lib.hid ht
  have HA := Lib.hid ha
  have HM := Lib.hid hm
  have hln : (xcells A ps.length c (rowSt ps ps.length 0)).length = 13 := xcells_length _ _ _ _
  have hinf : (Tryd.prog.info? 73).map (·.size) = some (xcells A ps.length c (rowSt ps ps.length 0)).length := by rw [hln]; exact info_cross
  have HCL := Lib.hid (cross_lit A ps.length c (rowSt ps ps.length 0))
  have HSI := Lib.hid (fun x (hx : Below w.heap.size w x) => impl_stagesIn A2 n2 c2 B2 p x (h2.below hB2 hx) (Nat.le_trans hB2 hx.size) hn2)
  have HSO := Lib.hid (fun A4 c4 x (hx : Below w.heap.size w x) hss hxw => impl_stagesOf A ps.length c B ps A4 n2 c4 x.heap.size (stgsOf p) x (h.below (hx.mono hB)) (Nat.le_trans hB hx.size) ha hss (Nat.le_refl _) (by omega) (fun j hj => by rw [stgsOf_at (by omega)]; have := hm j hj; omega) hxw)
  have hb0 : Below w.heap.size w (w.alloc (.cells #[.slice none 0 0, .int .u16 0, .int .u16 0, .int .u16 0, .int .u16 0, .int .u16 0, .int .u16 0, .int .u16 0, .int .u16 0, .int .u16 0, .int .u16 0, .int .u16 0, .int .u16 0, .slice none 0 0, .slice none 0 0, .int .i64 0] 78)) := (Below.refl _ _).alloc (Nat.le_refl _) _
  have HC0 := Lib.hid (impl_crossingOf A ps.length c B ps _ (h.below (hb0.mono hB)) (Nat.le_trans hB hb0.size) hn ha)
  generalize hxs : (xcells A ps.length c (rowSt ps ps.length 0)) = xs at *
  generalize hfs : rowSt ps ps.length 0 = f at *
  have HXS := Lib.hid hxs
  have HFS := Lib.hid hfs
  clear h hw ht hm ha h2 hxs hfs
  go_enter Tryd.func62, Tryd.ntmps62
  go_wp2_with fail
  refine HC0.out.mono ?_
  rw [HCL.out]
  rintro e w1 ⟨rfl, hb⟩
  have hRz := (hb.block w.heap.size (by simp)).trans (heap_alloc_new w (.cells #[.slice none 0 0, .int .u16 0, .int .u16 0, .int .u16 0, .int .u16 0, .int .u16 0, .int .u16 0, .int .u16 0, .int .u16 0, .int .u16 0, .int .u16 0, .int .u16 0, .int .u16 0, .slice none 0 0, .slice none 0 0, .int .i64 0] 78))
  have hlt1 : w.heap.size < w1.heap.size := by have := hb.size; simp at this; omega
  have hX := heap_alloc_new w1 (.cells xs.toArray 73)
  have hB1 : Below w.heap.size w (w1.alloc (.cells xs.toArray 73)) := (hb0.trans (hb.mono hb0.size)).alloc (by omega) _
  have hs2 : (w1.alloc (.cells xs.toArray 73)).heap.size = w1.heap.size + 1 := by simp
  have hRz2 := (Below.heap_alloc w1 (.cells xs.toArray 73) _ hlt1).trans hRz
  obtain ⟨w2, hw2⟩ : ∃ w2, w2 = w1.alloc (.cells xs.toArray 73) := ⟨_, rfl⟩
  rw [← hw2] at hX hB1 hs2 hRz2
  rw [HCL.out] at hw2
  clear hb hRz hb0 HC0
  have HRZ := Lib.hid hRz2
  have HB1 := Lib.hid hB1
  have HX := Lib.hid hX
  clear hRz2 hB1 hX
  go_wp2_with fail
  rw [← hw2]
  refine (impl_InRange _ _ _ _).mono ?_
  cases hin : inB (n2 : Int) 1 6
  · have HPN : Hid (isPlan ps p = false) := Lib.hid (isPlan_len (by rw [hl2]; exact hin))
    have hth : w2.there w.heap.size 0 16 := there_block HRZ.out 16 rfl
    rintro e w3 ⟨rfl, rfl⟩
    clear hin hw2
    go_wp2_with ((with_reducible show wpList _ _ _ _ _ _); refine wpList_store_mid rfl 78 _ _ rfl w.heap.size 0 z16.toArray rfl rfl hth info_timed (all_oneCell_toArray z16_one) ?_)
    refine bodyPost_ret (v := .tuple #[.agg z16.toArray, .bool false]) (by
        have hload := run_loadVar_mid (P := Tryd.prog) (w2.setCells w.heap.size 0 z16) w.heap.size 0 78 z16 _ (World.rangeAt_setCells_same _ _ _ _ hth) Tryd.underlying78 rfl info_timed
        rw [results_cell_tmp rfl]
        simp [asAddr, hload, Result.andThen]) rfl ⟨z16, by rw [HPN.out], ⟨fun _ => rfl, fun hh => by rw [HPN.out] at hh; cases hh⟩, ?_⟩
    exact below_setCells _ (Nat.le_refl _) _ _ _ HB1.out
  rintro e w3 ⟨rfl, rfl⟩
  clear hw2
  have hin6 := inB_t hin
  have HIN := Lib.hid hin
  clear hin
  have hlt2 : w1.heap.size < w2.heap.size := by omega
  have hmx : Tryd.prog.follows .mixedOrders = true := by kernel_rfl
  have hR2 : w2.rangeAt w1.heap.size 0 xs := range_block HX.out
  have HIW := Lib.hid (HSI.out w2.drew (below_drewD HB1.out))
  clear HSI
  go_wp2
  refine wp_region_held_drew (S := fun W' => W'.rangeAt w1.heap.size 0 xs) hmx hR2 (fun hH => ?_)
  refine wpAnyH_take (i := 0) (v := .agg xs.toArray) rfl (by kernel_rfl) (by kernel_rfl) (by kernel_rfl) (fun _ _ _ h => h) (yieldsIf_load_mid (by rfl) 73 _ rfl w1.heap.size 0 rfl xs _ (fun _ h => h) Tryd.underlying73 rfl hinf) hH ?_
  try simp only [Act.put, List.setIfInBounds_toArray, List.set_cons_zero, List.set_cons_succ]
  refine wpAnyH_take (i := 1) (v := .slice A2 n2 c2) rfl (by kernel_rfl) (by kernel_rfl) (by kernel_rfl) (fun _ _ _ h => h) (Or.inl ⟨by rfl, by intro w hSw; go_simp⟩) hH ?_
  try simp only [Act.put, List.setIfInBounds_toArray, List.set_cons_zero, List.set_cons_succ]
  refine wpAnyH_ready (rs := [2]) (by decide +kernel) (by simp) (AllReadyH.cons rfl (fun K hK => ?_) AllReadyH.nil)
  go_simp
  refine HIW.out.mono ?_
  rintro e w3 ⟨A4, c4, rfl, hss, hb3⟩
  go_wp2_with fail
  have hH3 : w3.rangeAt w1.heap.size 0 xs := cells_belowD hb3 hlt2 hH
  have HB3 := Lib.hid ((below_drewD HB1.out).trans (hb3.mono HB1.out.size))
  have HSW := Lib.hid (HSO.out A4 c4 w3 HB3.out hss (HW.out.below HB3.out (Nat.le_refl _)))
  have HRZ3 := Lib.hid ((hb3.block w.heap.size (by show w.heap.size < w2.heap.size; omega)).trans HRZ.out)
  have HX3 := Lib.hid ((hb3.block w1.heap.size hlt2).trans HX.out)
  have hlt3 : w1.heap.size < w3.heap.size := Nat.lt_of_lt_of_le hlt2 hb3.size
  refine hK.out _ _ hH3 (fun _ => ?_)
  clear hK K hb3 hss HIW HSO hR2
  try simp only [Act.put, List.setIfInBounds_toArray, List.set_cons_zero, List.set_cons_succ]
  refine wpAnyH_ready (rs := [3]) (by decide +kernel) (by simp) (AllReadyH.cons rfl (fun K hK => ?_) AllReadyH.nil)
  go_simp
  refine HSW.out.mono ?_
  rintro e w4 ⟨v, rfl, hv, hb4⟩
  go_wp2_with fail
  have hH4 : w4.rangeAt w1.heap.size 0 xs := cells_belowD hb4 hlt3 hH3
  have HB4 := Lib.hid (HB3.out.trans (hb4.mono HB3.out.size))
  have HRZ4 := Lib.hid ((hb4.block w.heap.size (by omega)).trans HRZ3.out)
  have HX4 := Lib.hid ((hb4.block w1.heap.size hlt3).trans HX3.out)
  have hlt4 : w1.heap.size < w4.heap.size := Nat.lt_of_lt_of_le hlt3 hb4.size
  have hsz4 := hb4.size
  have HV := Lib.hid hv
  refine hK.out _ _ hH4 (fun _ => ?_)
  clear hK K hb4 hv HSW HRZ HX HRZ3 HX3 hH3 hH
  try simp only [Act.put, List.setIfInBounds_toArray, List.set_cons_zero, List.set_cons_succ]
  generalize hsb : stsB ps (stgsOf p) = sb at *
  refine wpAnyH_take (i := 4) (v := .tuple #[v, .bool sb]) rfl (by kernel_rfl) (by kernel_rfl) (by kernel_rfl) (fun _ _ _ h => h) (Or.inl ⟨by rfl, by intro w hSw; go_simp⟩) hH4 ?_
  try simp only [Act.put, List.setIfInBounds_toArray, List.set_cons_zero, List.set_cons_succ]
  refine wpAnyH_take (i := 5) (v := v) rfl (by kernel_rfl) (by kernel_rfl) (by kernel_rfl) (fun _ _ _ h => h) (Or.inl ⟨by rfl, by intro w hSw; go_simp⟩) hH4 ?_
  try simp only [Act.put, List.setIfInBounds_toArray, List.set_cons_zero, List.set_cons_succ]
  refine wpAnyH_take (i := 6) (v := .bool sb) rfl (by kernel_rfl) (by kernel_rfl) (by kernel_rfl) (fun _ _ _ h => h) (Or.inl ⟨by rfl, by intro w hSw; go_simp⟩) hH4 ?_
  try simp only [Act.put, List.setIfInBounds_toArray, List.set_cons_zero, List.set_cons_succ]
  refine wpAnyH_ready (rs := [7]) (by decide +kernel) (by simp) (AllReadyH.cons rfl (fun K hK => ?_) AllReadyH.nil)
  go_simp
  refine hK.out _ _ hH4 (fun _ => ?_)
  clear hK K
  try simp only [Act.put, List.setIfInBounds_toArray, List.set_cons_zero, List.set_cons_succ]
  refine wpAnyH_ready (rs := [8]) (by decide +kernel) (by simp) (AllReadyH.cons rfl (fun K hK => ?_) AllReadyH.nil)
  go_simp
  refine hK.out _ _ hH4 (fun _ => ?_)
  clear hK K
  try simp only [Act.put, List.setIfInBounds_toArray, List.set_cons_zero, List.set_cons_succ]
  refine wpAnyH_done (by decide +kernel) ?_ _
  cases sb
  · have HPN : Hid (isPlan ps p = false) := Lib.hid (plan_tog HA.out hsb)
    have hth : w4.there w.heap.size 0 16 := there_block HRZ4.out 16 rfl
    clear hsb
    go_wp2_with ((with_reducible show wpList _ _ _ _ _ _); refine wpList_store_mid rfl 78 _ _ rfl w.heap.size 0 z16.toArray rfl rfl hth info_timed (all_oneCell_toArray z16_one) ?_)
    refine bodyPost_ret (v := .tuple #[.agg z16.toArray, .bool false]) (by
        have hload := run_loadVar_mid (P := Tryd.prog) (w4.setCells w.heap.size 0 z16) w.heap.size 0 78 z16 _ (World.rangeAt_setCells_same _ _ _ _ hth) Tryd.underlying78 rfl info_timed
        rw [results_cell_tmp rfl]
        simp [asAddr, hload, Result.andThen]) rfl ⟨z16, by rw [HPN.out], ⟨fun _ => rfl, fun hh => by rw [HPN.out] at hh; cases hh⟩, ?_⟩
    exact below_setCells _ (Nat.le_refl _) _ _ _ HB4.out
  obtain ⟨g, rfl, hown⟩ := HV.out rfl
  have hints := hown.ints
  have hga := hown.block g rfl
  have HOWN := Lib.hid hown
  have HIC0 := impl_isCovered A ps.length c ps rfl f h12 (some ⟨g, 0, none⟩) n2 n2 w4.heap.size (stgsOf p) w4 hints (Nat.le_refl _) (by omega)
  rw [HXS.out, HCL.out] at HIC0
  have hcv : coversP ps (stgsOf p) = decide (orM ((stgsOf p).map (maskL ps)) = 2 ^ ps.length - 1) := covers_masks HA.out ((stsB_tog HA.out).1 hsb)
  rw [← hcv] at HIC0
  have HIC := Lib.hid HIC0
  have HSB := Lib.hid hsb
  have hxl : xs = [.slice A ps.length c, .int .u16 (f 0 : Nat), .int .u16 (f 1 : Nat), .int .u16 (f 2 : Nat), .int .u16 (f 3 : Nat), .int .u16 (f 4 : Nat), .int .u16 (f 5 : Nat), .int .u16 (f 6 : Nat), .int .u16 (f 7 : Nat), .int .u16 (f 8 : Nat), .int .u16 (f 9 : Nat), .int .u16 (f 10 : Nat), .int .u16 (f 11 : Nat)] := by have := congrArg Array.toList HCL.out; simpa using this
  have d0 : w4.cell? ⟨w1.heap.size, 0, none⟩ = some (.slice A ps.length c) := by simpa using hH4 0 _ (by rw [hxl]; rfl)
  have d1 : w4.cell? ⟨w1.heap.size, 1, none⟩ = some (.int .u16 (f 0 : Nat)) := by simpa using hH4 1 _ (by rw [hxl]; rfl)
  have d2 : w4.cell? ⟨w1.heap.size, 2, none⟩ = some (.int .u16 (f 1 : Nat)) := by simpa using hH4 2 _ (by rw [hxl]; rfl)
  have d3 : w4.cell? ⟨w1.heap.size, 3, none⟩ = some (.int .u16 (f 2 : Nat)) := by simpa using hH4 3 _ (by rw [hxl]; rfl)
  have d4 : w4.cell? ⟨w1.heap.size, 4, none⟩ = some (.int .u16 (f 3 : Nat)) := by simpa using hH4 4 _ (by rw [hxl]; rfl)
  have d5 : w4.cell? ⟨w1.heap.size, 5, none⟩ = some (.int .u16 (f 4 : Nat)) := by simpa using hH4 5 _ (by rw [hxl]; rfl)
  have d6 : w4.cell? ⟨w1.heap.size, 6, none⟩ = some (.int .u16 (f 5 : Nat)) := by simpa using hH4 6 _ (by rw [hxl]; rfl)
  have d7 : w4.cell? ⟨w1.heap.size, 7, none⟩ = some (.int .u16 (f 6 : Nat)) := by simpa using hH4 7 _ (by rw [hxl]; rfl)
  have d8 : w4.cell? ⟨w1.heap.size, 8, none⟩ = some (.int .u16 (f 7 : Nat)) := by simpa using hH4 8 _ (by rw [hxl]; rfl)
  have d9 : w4.cell? ⟨w1.heap.size, 9, none⟩ = some (.int .u16 (f 8 : Nat)) := by simpa using hH4 9 _ (by rw [hxl]; rfl)
  have d10 : w4.cell? ⟨w1.heap.size, 10, none⟩ = some (.int .u16 (f 9 : Nat)) := by simpa using hH4 10 _ (by rw [hxl]; rfl)
  have d11 : w4.cell? ⟨w1.heap.size, 11, none⟩ = some (.int .u16 (f 10 : Nat)) := by simpa using hH4 11 _ (by rw [hxl]; rfl)
  have d12 : w4.cell? ⟨w1.heap.size, 12, none⟩ = some (.int .u16 (f 11 : Nat)) := by simpa using hH4 12 _ (by rw [hxl]; rfl)
  clear HIC0 hcv hints hown HV hsb hxl
  go_wp2_with fail
  refine HIC.out.mono ?_
  cases hcp : coversP ps (stgsOf p)
  · rintro e w5 ⟨rfl, hb5⟩
    have HPN : Hid (isPlan ps p = false) := Lib.hid (plan_cov hcp)
    have hth : w5.there w.heap.size 0 16 := there_block ((hb5.block w.heap.size (by omega)).trans HRZ4.out) 16 rfl
    have HB5 := Lib.hid (HB4.out.trans (hb5.mono HB4.out.size))
    clear hcp hb5 d0 d1 d2 d3 d4 d5 d6 d7 d8 d9 d10 d11 d12
    go_wp2_with ((with_reducible show wpList _ _ _ _ _ _); refine wpList_store_mid rfl 78 _ _ rfl w.heap.size 0 z16.toArray rfl rfl hth info_timed (all_oneCell_toArray z16_one) ?_)
    refine bodyPost_ret (v := .tuple #[.agg z16.toArray, .bool false]) (by
        have hload := run_loadVar_mid (P := Tryd.prog) (w5.setCells w.heap.size 0 z16) w.heap.size 0 78 z16 _ (World.rangeAt_setCells_same _ _ _ _ hth) Tryd.underlying78 rfl info_timed
        rw [results_cell_tmp rfl]
        simp [asAddr, hload, Result.andThen]) rfl ⟨z16, by rw [HPN.out], ⟨fun _ => rfl, fun hh => by rw [HPN.out] at hh; cases hh⟩, ?_⟩
    exact below_setCells _ (Nat.le_refl _) _ _ _ HB5.out
  rintro e w5 ⟨rfl, hb5⟩
  have HCP := Lib.hid hcp
  have e0 := (hb5.cell (p := ⟨w1.heap.size, 0, none⟩) hlt4).trans d0
  have e1 := (hb5.cell (p := ⟨w1.heap.size, 1, none⟩) hlt4).trans d1
  have e2 := (hb5.cell (p := ⟨w1.heap.size, 2, none⟩) hlt4).trans d2
  have e3 := (hb5.cell (p := ⟨w1.heap.size, 3, none⟩) hlt4).trans d3
  have e4 := (hb5.cell (p := ⟨w1.heap.size, 4, none⟩) hlt4).trans d4
  have e5 := (hb5.cell (p := ⟨w1.heap.size, 5, none⟩) hlt4).trans d5
  have e6 := (hb5.cell (p := ⟨w1.heap.size, 6, none⟩) hlt4).trans d6
  have e7 := (hb5.cell (p := ⟨w1.heap.size, 7, none⟩) hlt4).trans d7
  have e8 := (hb5.cell (p := ⟨w1.heap.size, 8, none⟩) hlt4).trans d8
  have e9 := (hb5.cell (p := ⟨w1.heap.size, 9, none⟩) hlt4).trans d9
  have e10 := (hb5.cell (p := ⟨w1.heap.size, 10, none⟩) hlt4).trans d10
  have e11 := (hb5.cell (p := ⟨w1.heap.size, 11, none⟩) hlt4).trans d11
  have e12 := (hb5.cell (p := ⟨w1.heap.size, 12, none⟩) hlt4).trans d12
  have hlt5 : w1.heap.size < w5.heap.size := Nat.lt_of_lt_of_le hlt4 hb5.size
  have HB5 := Lib.hid (HB4.out.trans (hb5.mono HB4.out.size))
  have HRZ5 := Lib.hid ((hb5.block w.heap.size (by omega)).trans HRZ4.out)
  have HX5 := Lib.hid ((hb5.block w1.heap.size hlt4).trans HX4.out)
  have HOW5 := Lib.hid (HOWN.out.below hb5)
  have hg5 : g < w5.heap.size := Nat.lt_of_lt_of_le hga.2 hb5.size
  have hxl : xs = [.slice A ps.length c, .int .u16 (f 0 : Nat), .int .u16 (f 1 : Nat), .int .u16 (f 2 : Nat), .int .u16 (f 3 : Nat), .int .u16 (f 4 : Nat), .int .u16 (f 5 : Nat), .int .u16 (f 6 : Nat), .int .u16 (f 7 : Nat), .int .u16 (f 8 : Nat), .int .u16 (f 9 : Nat), .int .u16 (f 10 : Nat), .int .u16 (f 11 : Nat)] := by have := congrArg Array.toList HCL.out; simpa using this
  have hT0 : (w5.alloc (.cells #[.slice A ps.length c, .int .u16 (f 0 : Nat), .int .u16 (f 1 : Nat), .int .u16 (f 2 : Nat), .int .u16 (f 3 : Nat), .int .u16 (f 4 : Nat), .int .u16 (f 5 : Nat), .int .u16 (f 6 : Nat), .int .u16 (f 7 : Nat), .int .u16 (f 8 : Nat), .int .u16 (f 9 : Nat), .int .u16 (f 10 : Nat), .int .u16 (f 11 : Nat), .slice none 0 0, .slice none 0 0, .int .i64 0] 78)).ownsRow w5.heap.size 78 1 (.slice (some ⟨w5.heap.size, 0, none⟩) 16 16) 16 (xs ++ [.slice none 0 0, .slice none 0 0, .int .i64 0]) := by
    rw [hxl]
    exact World.ownsRow_lit (base := w5.heap.size) (e := 78) (size := 1) w5 #[.slice A ps.length c, .int .u16 (f 0 : Nat), .int .u16 (f 1 : Nat), .int .u16 (f 2 : Nat), .int .u16 (f 3 : Nat), .int .u16 (f 4 : Nat), .int .u16 (f 5 : Nat), .int .u16 (f 6 : Nat), .int .u16 (f 7 : Nat), .int .u16 (f 8 : Nat), .int .u16 (f 9 : Nat), .int .u16 (f 10 : Nat), .int .u16 (f 11 : Nat), .slice none 0 0, .slice none 0 0, .int .i64 0] 16 (Nat.le_refl _) (by decide) rfl
  have HT0 := Lib.hid hT0
  have HBT : Hid (Below w5.heap.size w5 (w5.alloc (.cells #[.slice A ps.length c, .int .u16 (f 0 : Nat), .int .u16 (f 1 : Nat), .int .u16 (f 2 : Nat), .int .u16 (f 3 : Nat), .int .u16 (f 4 : Nat), .int .u16 (f 5 : Nat), .int .u16 (f 6 : Nat), .int .u16 (f 7 : Nat), .int .u16 (f 8 : Nat), .int .u16 (f 9 : Nat), .int .u16 (f 10 : Nat), .int .u16 (f 11 : Nat), .slice none 0 0, .slice none 0 0, .int .i64 0] 78))) := Lib.hid ((Below.refl _ _).alloc (Nat.le_refl _) _)
  clear hcp d0 d1 d2 d3 d4 d5 d6 d7 d8 d9 d10 d11 d12 hb5 hT0 HRZ4 HX4 HOWN hH4 hxl hga
  go_wp2
  clear e0 e1 e2 e3 e4 e5 e6 e7 e8 e9 e10 e11 e12
  go_loopw [48] (fun i wr => ∃ (k : Nat) (v1 v2 : Value), k ≤ n2 ∧ i = .int .i64 k ∧ wr.ownsRow w5.heap.size 78 1 (.slice (some ⟨w5.heap.size, 0, none⟩) 16 16) 16 (xs ++ [v1, v2, .int .i64 (sumTo ps p k)]) ∧
      wr.ownsRow (w5.heap.size + 1) 87 5 v1 k ((phsTo ps p k).flatMap Phs.cells) ∧ wr.ownsRow (w5.heap.size + 1) 3 1 v2 k ((begTo ps p k).map (Value.int .i64)) ∧ (∀ j, j < k → okPrt ps (prAt p j) = true) ∧ Below w5.heap.size w5 wr) (fun i _ => n2 - (intOf i).toNat)
  case atStart => exact ⟨0, _, _, Nat.zero_le _, rfl, HT0.out, ownr_nil _ _ _ _, ownr_nil _ _ _ _, fun j hj => absurd hj (by omega), HBT.out⟩
  case round =>
    clear HT0 HBT
    obtain ⟨k, v1, v2, hk, rfl, ht16, hph, hbg, hgo, hbl⟩ := hrel
    have HT16 := Lib.hid ht16
    have HPH := Lib.hid hph
    have HBG := Lib.hid hbg
    have HG := Lib.hid hgo
    have HBL := Lib.hid hbl
    have hsz := hbl.size
    clear ht16 hph hbg hgo hbl
    by_cases hlt : k < n2
    · obtain ⟨ad, A', m, c', rfl, hab, hq, hi, hmc, hnil⟩ := H2.out.at hlt
      have hnx : nextJ p k < n2 := by have := nextJ_lt (p := p) (j := k) (by omega); omega
      have e1 : IntKind.i64.wrap ((k : Int) + 1) = (k : Int) + 1 := by rw [IntKind.wrap_i64]; omega
      have e2 : ((k : Int) + 1).tmod (n2 : Int) = ((nextJ p k : Nat) : Int) := by
        unfold nextJ
        rw [hl2, Int.tmod_eq_emod_of_nonneg (by omega), Int.natCast_emod, Int.natCast_add]
        rfl
      have htog := tog_at HA.out HSB.out (show k < p.length by omega)
      have htogN := tog_at HA.out HSB.out (show nextJ p k < p.length by omega)
      have HOK := Lib.hid (okPrt_mask (q := prAt p k) htog)
      have HNO := Lib.hid (fun hh => isPlan_no (ps := ps) (p := p) (j := k) (by omega) hh)
      have HCK : Hid (clrS ps f (maskL ps (prAt p k).stage) (maskL ps (prAt p (nextJ p k)).stage) = clrAt ps p k) := Lib.hid (by rw [← HFS.out]; exact clr_mask2 htog htogN)
      have HMA := Lib.hid (maskL_lt ps (prAt p k).stage h12)
      have HMB := Lib.hid (maskL_lt ps (prAt p (nextJ p k)).stage h12)
      have hBW := HB5.out.trans (HBL.out.mono HB5.out.size)
      obtain ⟨c0, c1⟩ := hq.below hBW (by omega)
      have hil : (mskI ps (stgsOf p)).length = n2 := by rw [mskI_len, stgsOf_len]; exact hl2
      have mk : wr.cell? ⟨g, k, none⟩ = some (.int .u16 (maskL ps (prAt p k).stage : Nat)) := by
        rw [HBL.out.cell (p := ⟨g, k, none⟩) hg5, HOW5.out.cell k (by omega), mskI_at (by rw [stgsOf_len]; omega), stgsOf_at (by omega)]
      have mn : wr.cell? ⟨g, nextJ p k, none⟩ = some (.int .u16 (maskL ps (prAt p (nextJ p k)).stage : Nat)) := by
        rw [HBL.out.cell (p := ⟨g, nextJ p k, none⟩) hg5, HOW5.out.cell (nextJ p k) (by omega), mskI_at (by rw [stgsOf_len]; omega), stgsOf_at (by omega)]
      have HI := Lib.hid hi
      have hm1 := HM.out k hlt
      have hlz := hi.1
      have HPS := Lib.hid (phs_push ps p k)
      have HLA : Hid (longAt ps p k = (prAt p k).green + clrAt ps p k) := Lib.hid rfl
      generalize (prAt p k).green = gr at *
      generalize (prAt p k).stage = za at *
      generalize maskL ps (prAt p (nextJ p k)).stage = mb at *
      generalize maskL ps za = ma at *
      generalize nextJ p k = nx at *
      have hbA := (Below.refl wr.heap.size wr).alloc (Nat.le_refl _) (.cells #[.slice A' m c', .int .i64 gr] 58)
      have mn' := (hbA.cell (p := ⟨g, nx, none⟩) (by show g < _; omega)).trans mn
      have mk' := (hbA.cell (p := ⟨g, k, none⟩) (by show g < _; omega)).trans mk
      have hgA := heap_alloc_new wr (.cells #[.slice A' m c', .int .i64 gr] 58)
      have p0 : (wr.alloc (.cells #[.slice A' m c', .int .i64 gr] 58)).cell? ⟨wr.heap.size, 0, none⟩ = some (.slice A' m c') := (cell_of_row _ _ 0 _ _ _ hgA).trans rfl
      have p1 : (wr.alloc (.cells #[.slice A' m c', .int .i64 gr] 58)).cell? ⟨wr.heap.size, 1, none⟩ = some (.int .i64 gr) := (cell_of_row _ _ 1 _ _ _ hgA).trans rfl
      have r6 := range_block ((hbA.block w1.heap.size (by omega)).trans ((HBL.out.block w1.heap.size hlt5).trans HX5.out))
      have t6 := Lib.hid (ownr_below HT16.out hbA)
      have f6 := Lib.hid (ownr_below HPH.out hbA)
      have s6 := Lib.hid (ownr_below HBG.out hbA)
      have b6 := Lib.hid (HBL.out.trans (hbA.mono hsz))
      have hs6 : wr.heap.size < (wr.alloc (.cells #[.slice A' m c', .int .i64 gr] 58)).heap.size := by simp
      have i1 : (0 : Int) ≤ (k : Int) := by omega
      have i2 : (k : Int) < (n2 : Int) := by omega
      have i3 : (0 : Int) ≤ (nx : Int) := by omega
      have i4 : (nx : Int) < (n2 : Int) := by omega
      have z1 : ¬ n2 = 0 := by omega
      have z2 : ¬ (n2 : Int) = 0 := by omega
      clear hq hi htog htogN hil mk mn hmc hnil hbA hgA HT16 HPH HBG hBW
      go_wp2
      clear c0 c1 mn' e1 e2 i3 i4 z1 z2
      generalize hw6 : wr.alloc (.cells #[.slice A' m c', .int .i64 gr] 58) = w6 at *
      clear hw6
      have HSK : Hid (∀ W, Below w6.heap.size w6 W → W.rangeAt w1.heap.size 0 xs ∧ W.cell? ⟨g, k, none⟩ = some (.int .u16 (ma : Nat)) ∧ W.cell? ⟨wr.heap.size, 0, none⟩ = some (.slice A' m c') ∧ W.cell? ⟨wr.heap.size, 1, none⟩ = some (.int .i64 gr)) := Lib.hid (fun W hW => ⟨cells_belowD hW (by omega) r6, (hW.cell (p := ⟨g, k, none⟩) (by show g < _; omega)).trans mk', (hW.cell (p := ⟨wr.heap.size, 0, none⟩) hs6).trans p0, (hW.cell (p := ⟨wr.heap.size, 1, none⟩) hs6).trans p1⟩)
      have HW6 := Lib.hid (HB5.out.trans (b6.out.mono HB5.out.size))
      have HBX : Hid (∀ W, Below w6.heap.size w6 W → Below w.heap.size w W) := Lib.hid (fun W hW => HW6.out.trans (hW.mono HW6.out.size))
      have HCC : Hid (∀ W, Below w6.heap.size w6 W → Calls Tryd.prog 93 #[.agg xs.toArray, .int .u16 (ma : Nat), .int .u16 (mb : Nat)] W fun e w' => e = .returned (.int .i64 (clrAt ps p k)) ∧ Below W.heap.size W w') := Lib.hid (fun W hW => by
        have hb := HBX.out W hW
        have := impl_clearB A ps.length c B ps f (fun j => by rw [← HFS.out]; exact rowSt_lt _ _ _ _) ma mb HMA.out HMB.out h12 W (HP.out.below (hb.mono hB)) (Nat.le_trans hB hb.size) (HT.out.below hb (Nat.le_refl _))
        rw [HXS.out, HCK.out] at this
        exact this)
      have HLC : Hid (∀ W, Below w6.heap.size w6 W → Calls Tryd.prog 69 #[.slice A ps.length c, .slice A' m c'] W fun e w' => e = .returned (.int .i64 (leastG ps za)) ∧ Below W.heap.size W w') := Lib.hid (fun W hW => by
        have hb := HBX.out W hW
        exact impl_LeastGreen A ps.length c B ps A' m c' B2 za W (HP.out.below (hb.mono hB)) (HI.out.laid hB2 hb) (Nat.le_trans hB hb.size) (Nat.le_trans hB2 hb.size) (by omega) (by omega))
      clear mk' p0 p1 r6
      refine wp_region_held_drew (S := fun W => W.rangeAt w1.heap.size 0 xs ∧ W.cell? ⟨g, k, none⟩ = some (.int .u16 (ma : Nat)) ∧ W.cell? ⟨wr.heap.size, 0, none⟩ = some (.slice A' m c') ∧ W.cell? ⟨wr.heap.size, 1, none⟩ = some (.int .i64 gr)) hmx (HSK.out _ (below_drewD (Below.refl _ _))) (fun hH => ?_)
      refine wpAnyH_take (i := 0) (v := .slice (some ⟨g, 0, none⟩) n2 n2) rfl (by kernel_rfl) (by kernel_rfl) (by kernel_rfl) (fun _ _ _ h => h) (Or.inl ⟨by rfl, by intro w hSw; go_simp⟩) hH ?_
      try simp only [Act.put, List.setIfInBounds_toArray, List.set_cons_zero, List.set_cons_succ]
      refine wpAnyH_take (i := 1) (v := .int .i64 (k : Int)) rfl (by kernel_rfl) (by kernel_rfl) (by kernel_rfl) (fun _ _ _ h => h) (Or.inl ⟨by rfl, by intro w hSw; go_simp⟩) hH ?_
      try simp only [Act.put, List.setIfInBounds_toArray, List.set_cons_zero, List.set_cons_succ]
      refine wpAnyH_take (i := 2) (v := .pointer (some ⟨g, k, none⟩)) rfl (by kernel_rfl) (by kernel_rfl) (by kernel_rfl) (fun _ _ _ h => h) (Or.inl ⟨by rfl, by intro w hSw; go_simp⟩) hH ?_
      try simp only [Act.put, List.setIfInBounds_toArray, List.set_cons_zero, List.set_cons_succ]
      refine wpAnyH_take (i := 3) (v := .int .u16 (ma : Nat)) rfl (by kernel_rfl) (by kernel_rfl) (by kernel_rfl) (fun _ _ _ h => h) (Or.inl ⟨by rfl, by intro w hSw; have hSw2 := hSw.2.1; clear hSw; go_simp⟩) hH ?_
      try simp only [Act.put, List.setIfInBounds_toArray, List.set_cons_zero, List.set_cons_succ]
      refine wpAnyH_take (i := 4) (v := .int .u16 (mb : Nat)) rfl (by kernel_rfl) (by kernel_rfl) (by kernel_rfl) (fun _ _ _ h => h) (Or.inl ⟨by rfl, by intro w hSw; go_simp⟩) hH ?_
      try simp only [Act.put, List.setIfInBounds_toArray, List.set_cons_zero, List.set_cons_succ]
      refine wpAnyH_take (i := 5) (v := .pointer (some ⟨wr.heap.size, 1, none⟩)) rfl (by kernel_rfl) (by kernel_rfl) (by kernel_rfl) (fun _ _ _ h => h) (Or.inl ⟨by rfl, by intro w hSw; go_simp⟩) hH ?_
      try simp only [Act.put, List.setIfInBounds_toArray, List.set_cons_zero, List.set_cons_succ]
      refine wpAnyH_take (i := 6) (v := .int .i64 gr) rfl (by kernel_rfl) (by kernel_rfl) (by kernel_rfl) (fun _ _ _ h => h) (Or.inl ⟨by rfl, by intro w hSw; have hSw2 := hSw.2.2.2; clear hSw; go_simp⟩) hH ?_
      try simp only [Act.put, List.setIfInBounds_toArray, List.set_cons_zero, List.set_cons_succ]
      refine wpAnyH_take (i := 7) (v := .agg xs.toArray) rfl (by kernel_rfl) (by kernel_rfl) (by kernel_rfl) (fun _ _ _ h => h) (yieldsIf_load_mid (by rfl) 73 _ rfl w1.heap.size 0 rfl xs _ (fun _ h => h.1) Tryd.underlying73 rfl hinf) hH ?_
      try simp only [Act.put, List.setIfInBounds_toArray, List.set_cons_zero, List.set_cons_succ]
      refine wpAnyH_take (i := 8) (v := .slice (some ⟨g, 0, none⟩) n2 n2) rfl (by kernel_rfl) (by kernel_rfl) (by kernel_rfl) (fun _ _ _ h => h) (Or.inl ⟨by rfl, by intro w hSw; go_simp⟩) hH ?_
      try simp only [Act.put, List.setIfInBounds_toArray, List.set_cons_zero, List.set_cons_succ]
      refine wpAnyH_take (i := 9) (v := .int .i64 (k : Int)) rfl (by kernel_rfl) (by kernel_rfl) (by kernel_rfl) (fun _ _ _ h => h) (Or.inl ⟨by rfl, by intro w hSw; go_simp⟩) hH ?_
      try simp only [Act.put, List.setIfInBounds_toArray, List.set_cons_zero, List.set_cons_succ]
      refine wpAnyH_take (i := 10) (v := .pointer (some ⟨g, k, none⟩)) rfl (by kernel_rfl) (by kernel_rfl) (by kernel_rfl) (fun _ _ _ h => h) (Or.inl ⟨by rfl, by intro w hSw; go_simp⟩) hH ?_
      try simp only [Act.put, List.setIfInBounds_toArray, List.set_cons_zero, List.set_cons_succ]
      refine wpAnyH_take (i := 11) (v := .int .u16 (ma : Nat)) rfl (by kernel_rfl) (by kernel_rfl) (by kernel_rfl) (fun _ _ _ h => h) (Or.inl ⟨by rfl, by intro w hSw; have hSw2 := hSw.2.1; clear hSw; go_simp⟩) hH ?_
      try simp only [Act.put, List.setIfInBounds_toArray, List.set_cons_zero, List.set_cons_succ]
      refine wpAnyH_take (i := 12) (v := .int .u16 (mb : Nat)) rfl (by kernel_rfl) (by kernel_rfl) (by kernel_rfl) (fun _ _ _ h => h) (Or.inl ⟨by rfl, by intro w hSw; go_simp⟩) hH ?_
      try simp only [Act.put, List.setIfInBounds_toArray, List.set_cons_zero, List.set_cons_succ]
      refine wpAnyH_take (i := 14) (v := .slice A ps.length c) rfl (by kernel_rfl) (by kernel_rfl) (by kernel_rfl) (fun _ _ _ h => h) (Or.inl ⟨by rfl, by intro w hSw; go_simp⟩) hH ?_
      try simp only [Act.put, List.setIfInBounds_toArray, List.set_cons_zero, List.set_cons_succ]
      refine wpAnyH_take (i := 15) (v := .pointer (some ⟨wr.heap.size, 0, none⟩)) rfl (by kernel_rfl) (by kernel_rfl) (by kernel_rfl) (fun _ _ _ h => h) (Or.inl ⟨by rfl, by intro w hSw; go_simp⟩) hH ?_
      try simp only [Act.put, List.setIfInBounds_toArray, List.set_cons_zero, List.set_cons_succ]
      refine wpAnyH_take (i := 16) (v := .slice A' m c') rfl (by kernel_rfl) (by kernel_rfl) (by kernel_rfl) (fun _ _ _ h => h) (Or.inl ⟨by rfl, by intro w hSw; have hSw2 := hSw.2.2.1; clear hSw; go_simp⟩) hH ?_
      try simp only [Act.put, List.setIfInBounds_toArray, List.set_cons_zero, List.set_cons_succ]
      refine wpAnyH_ready (rs := [13, 19]) (by decide +kernel) (by simp) (AllReadyH.cons rfl (fun K hK => ?_) (AllReadyH.cons rfl (fun K hK => ?_) AllReadyH.nil))
      focus
        go_simp
        refine (HCC.out _ (below_drewD (Below.refl _ _))).mono ?_
        rintro e w7 ⟨rfl, hbc⟩
        have hbd := below_drewD (Below.refl w6.heap.size w6)
        have hb67 := hbd.trans (hbc.mono hbd.size)
        clear hbc
        go_wp2_with fail
        refine hK.out _ _ (HSK.out _ hb67) (fun hH7 => ?_)
        clear hK K
        try simp only [Act.put, List.setIfInBounds_toArray, List.set_cons_zero, List.set_cons_succ]
        refine wpAnyH_ready (rs := [17, 19]) (by decide +kernel) (by simp) (AllReadyH.cons rfl (fun K hK => ?_) (AllReadyH.cons rfl (fun K hK => ?_) AllReadyH.nil))
        focus
          go_simp
          refine (HLC.out _ hb67).mono ?_
          rintro e w8 ⟨rfl, hbc⟩
          have hb68 := hb67.trans (hbc.mono hb67.size)
          clear hbc
          go_wp2_with fail
          refine hK.out _ _ (HSK.out _ hb68) (fun hH8 => ?_)
          clear hK K
          try simp only [Act.put, List.setIfInBounds_toArray, List.set_cons_zero, List.set_cons_succ]
          refine wpAnyH_take (i := 18) (v := .agg #[.int .u16 (ma : Nat), .int .u16 (mb : Nat), .int .i64 gr, .int .i64 (clrAt ps p k), .int .i64 (leastG ps za)]) rfl (by kernel_rfl) (by kernel_rfl) (by kernel_rfl) (fun _ _ _ h => h) (Or.inl ⟨by rfl, by intro w hSw; go_simp⟩) hH8 ?_
          try simp only [Act.put, List.setIfInBounds_toArray, List.set_cons_zero, List.set_cons_succ]
          refine wpAnyH_ready (rs := [19]) (by decide +kernel) (by simp) (AllReadyH.cons rfl (fun K hK => ?_) AllReadyH.nil)
          go_simp
          have hb69 := hb68.alloc hb68.size (.cells #[.int .u16 0, .int .u16 0, .int .i64 0, .int .i64 0, .int .i64 0] 87)
          refine hK.out _ _ (HSK.out _ hb69) (fun hH9 => ?_)
          clear hK K
          try simp only [Act.put, List.setIfInBounds_toArray, List.set_cons_zero, List.set_cons_succ]
          refine wpAnyH_ready (rs := [20]) (by decide +kernel) (by simp) (AllReadyH.cons rfl (fun K hK => ?_) AllReadyH.nil)
          go_simp
          have hb6a := hb68.alloc hb68.size (.cells #[.int .u16 (ma : Nat), .int .u16 (mb : Nat), .int .i64 gr, .int .i64 (clrAt ps p k), .int .i64 (leastG ps za)] 87)
          have hga := heap_alloc_new w8 (.cells #[.int .u16 (ma : Nat), .int .u16 (mb : Nat), .int .i64 gr, .int .i64 (clrAt ps p k), .int .i64 (leastG ps za)] 87)
          have hgz := hb68.size
          refine hK.out _ _ (HSK.out _ hb6a) (fun hHa => ?_)
          clear hK K hHa hH9 hH8 hH7 hb69 hb68 hb67 hbd
          try simp only [Act.put, List.setIfInBounds_toArray, List.set_cons_zero, List.set_cons_succ]
          refine wpAnyH_done (by decide +kernel) ?_ _
          generalize w8.alloc (.cells #[.int .u16 (ma : Nat), .int .u16 (mb : Nat), .int .i64 gr, .int .i64 (clrAt ps p k), .int .i64 (leastG ps za)] 87) = w9 at *
          generalize w8.heap.size = ga at *
        rotate_left
        focus
          go_simp
          have hbz := hb67.alloc hb67.size (.cells #[.int .u16 0, .int .u16 0, .int .i64 0, .int .i64 0, .int .i64 0] 87)
          have hgz := hb67.size
          have hga : (w7.alloc (.cells #[.int .u16 0, .int .u16 0, .int .i64 0, .int .i64 0, .int .i64 0] 87)).heap[w7.heap.size]? = some (.cells #[.int .u16 0, .int .u16 0, .int .i64 0, .int .i64 0, .int .i64 0] 87) := heap_alloc_new w7 (.cells #[.int .u16 0, .int .u16 0, .int .i64 0, .int .i64 0, .int .i64 0] 87)
          have hgl : w7.heap.size < (w7.alloc (.cells #[.int .u16 0, .int .u16 0, .int .i64 0, .int .i64 0, .int .i64 0] 87)).heap.size := by simp
          refine hK.out _ _ (HSK.out _ hbz) (fun hHz => ?_)
          clear hK K
          try simp only [Act.put, List.setIfInBounds_toArray, List.set_cons_zero, List.set_cons_succ]
          generalize w7.alloc (.cells #[.int .u16 0, .int .u16 0, .int .i64 0, .int .i64 0, .int .i64 0] 87) = wz at *
          refine wpAnyH_ready (rs := [17]) (by decide +kernel) (by simp) (AllReadyH.cons rfl (fun K hK => ?_) AllReadyH.nil)
          go_simp
          refine (HLC.out _ hbz).mono ?_
          rintro e w8 ⟨rfl, hbc⟩
          have hb68 := hbz.trans (hbc.mono hbz.size)
          have hga' := (hbc.block _ hgl).trans hga
          have hgl' := Nat.lt_of_lt_of_le hgl hbc.size
          clear hga hgl
          have hga := hga'
          have hgl := hgl'
          clear hga' hgl'
          clear hbc
          go_wp2_with fail
          refine hK.out _ _ (HSK.out _ hb68) (fun hH8 => ?_)
          clear hK K
          try simp only [Act.put, List.setIfInBounds_toArray, List.set_cons_zero, List.set_cons_succ]
          clear hHz hH7
          refine wpAnyH_take (i := 18) (v := .agg #[.int .u16 (ma : Nat), .int .u16 (mb : Nat), .int .i64 gr, .int .i64 (clrAt ps p k), .int .i64 (leastG ps za)]) rfl (by kernel_rfl) (by kernel_rfl) (by kernel_rfl) (fun _ _ _ h => h) (Or.inl ⟨by rfl, by intro w hSw; go_simp⟩) hH8 ?_
          try simp only [Act.put, List.setIfInBounds_toArray, List.set_cons_zero, List.set_cons_succ]
          refine wpAnyH_ready (rs := [20]) (by decide +kernel) (by simp) (AllReadyH.cons rfl (fun K hK => ?_) AllReadyH.nil)
          have z0 : w8.cell? ⟨w7.heap.size, 0, none⟩ = some (.int .u16 0) := (cell_of_row _ _ 0 _ _ _ hga).trans rfl
          have z1 : w8.cell? ⟨w7.heap.size, 1, none⟩ = some (.int .u16 0) := (cell_of_row _ _ 1 _ _ _ hga).trans rfl
          have z2 : w8.cell? ⟨w7.heap.size, 2, none⟩ = some (.int .i64 0) := (cell_of_row _ _ 2 _ _ _ hga).trans rfl
          have z3 : w8.cell? ⟨w7.heap.size, 3, none⟩ = some (.int .i64 0) := (cell_of_row _ _ 3 _ _ _ hga).trans rfl
          have z4 : w8.cell? ⟨w7.heap.size, 4, none⟩ = some (.int .i64 0) := (cell_of_row _ _ 4 _ _ _ hga).trans rfl
          have zf : ∀ j, w8.frozen? ⟨w7.heap.size, j, none⟩ = false := fun j => frozen_of_row _ _ j _ _ hga
          go_simp
          have hgv := stored5P (a := .int .u16 (ma : Nat)) (b := .int .u16 (mb : Nat)) (c := .int .i64 gr) (d := .int .i64 (clrAt ps p k)) (e := .int .i64 (leastG ps za)) hga
          have hb6a := below5P (a := .int .u16 (ma : Nat)) (b := .int .u16 (mb : Nat)) (c := .int .i64 gr) (d := .int .i64 (clrAt ps p k)) (e := .int .i64 (leastG ps za)) hb68 hgz
          clear z0 z1 z2 z3 z4 zf hga hgl
          refine hK.out _ _ (HSK.out _ hb6a) (fun hHa => ?_)
          clear hK K hHa
          try simp only [Act.put, List.setIfInBounds_toArray, List.set_cons_zero, List.set_cons_succ]
          refine wpAnyH_done (by decide +kernel) ?_ _
          have hga := hgv
          clear hgv
          generalize (((((w8.setCell ⟨w7.heap.size, 0, none⟩ (.int .u16 (ma : Nat))).setCell ⟨w7.heap.size, 1, none⟩ (.int .u16 (mb : Nat))).setCell ⟨w7.heap.size, 2, none⟩ (.int .i64 gr)).setCell ⟨w7.heap.size, 3, none⟩ (.int .i64 (clrAt ps p k))).setCell ⟨w7.heap.size, 4, none⟩ (.int .i64 (leastG ps za))) = w9 at *
          obtain ⟨ga, hge⟩ : ∃ ga : Nat, ga = w7.heap.size := ⟨_, rfl⟩
          rw [← hge] at hga ⊢
          have hgz' : w6.heap.size ≤ ga := by omega
          clear hge hgz
          have hgz := hgz'
          clear hgz'
          clear hbz hb67 hb68 hH8 hbd
      rotate_left 2
      focus
        go_simp
        have hbz := below_drewD ((Below.refl w6.heap.size w6).alloc (Nat.le_refl _) (.cells #[.int .u16 0, .int .u16 0, .int .i64 0, .int .i64 0, .int .i64 0] 87))
        have hgz : w6.heap.size ≤ w6.heap.size := Nat.le_refl _
        have hga : (w6.alloc (.cells #[.int .u16 0, .int .u16 0, .int .i64 0, .int .i64 0, .int .i64 0] 87)).drew.heap[w6.heap.size]? = some (.cells #[.int .u16 0, .int .u16 0, .int .i64 0, .int .i64 0, .int .i64 0] 87) := heap_alloc_new w6 (.cells #[.int .u16 0, .int .u16 0, .int .i64 0, .int .i64 0, .int .i64 0] 87)
        have hgl : w6.heap.size < (w6.alloc (.cells #[.int .u16 0, .int .u16 0, .int .i64 0, .int .i64 0, .int .i64 0] 87)).drew.heap.size := by show _ < (w6.alloc (.cells #[.int .u16 0, .int .u16 0, .int .i64 0, .int .i64 0, .int .i64 0] 87)).heap.size; simp
        refine hK.out _ _ (HSK.out _ hbz) (fun hHz => ?_)
        clear hK K
        try simp only [Act.put, List.setIfInBounds_toArray, List.set_cons_zero, List.set_cons_succ]
        generalize (w6.alloc (.cells #[.int .u16 0, .int .u16 0, .int .i64 0, .int .i64 0, .int .i64 0] 87)).drew = wz at *
        refine wpAnyH_ready (rs := [13]) (by decide +kernel) (by simp) (AllReadyH.cons rfl (fun K hK => ?_) AllReadyH.nil)
        go_simp
        refine (HCC.out _ hbz).mono ?_
        rintro e w7 ⟨rfl, hbc⟩
        have hb67 := hbz.trans (hbc.mono hbz.size)
        have hga' := (hbc.block _ hgl).trans hga
        have hgl' := Nat.lt_of_lt_of_le hgl hbc.size
        clear hga hgl
        have hga := hga'
        have hgl := hgl'
        clear hga' hgl'
        clear hbc
        go_wp2_with fail
        refine hK.out _ _ (HSK.out _ hb67) (fun hH7 => ?_)
        clear hK K
        try simp only [Act.put, List.setIfInBounds_toArray, List.set_cons_zero, List.set_cons_succ]
        refine wpAnyH_ready (rs := [17]) (by decide +kernel) (by simp) (AllReadyH.cons rfl (fun K hK => ?_) AllReadyH.nil)
        go_simp
        refine (HLC.out _ hb67).mono ?_
        rintro e w8 ⟨rfl, hbc⟩
        have hb68 := hb67.trans (hbc.mono hb67.size)
        have hga' := (hbc.block _ hgl).trans hga
        have hgl' := Nat.lt_of_lt_of_le hgl hbc.size
        clear hga hgl
        have hga := hga'
        have hgl := hgl'
        clear hga' hgl'
        clear hbc
        go_wp2_with fail
        refine hK.out _ _ (HSK.out _ hb68) (fun hH8 => ?_)
        clear hK K
        try simp only [Act.put, List.setIfInBounds_toArray, List.set_cons_zero, List.set_cons_succ]
        clear hHz hH7
        refine wpAnyH_take (i := 18) (v := .agg #[.int .u16 (ma : Nat), .int .u16 (mb : Nat), .int .i64 gr, .int .i64 (clrAt ps p k), .int .i64 (leastG ps za)]) rfl (by kernel_rfl) (by kernel_rfl) (by kernel_rfl) (fun _ _ _ h => h) (Or.inl ⟨by rfl, by intro w hSw; go_simp⟩) hH8 ?_
        try simp only [Act.put, List.setIfInBounds_toArray, List.set_cons_zero, List.set_cons_succ]
        refine wpAnyH_ready (rs := [20]) (by decide +kernel) (by simp) (AllReadyH.cons rfl (fun K hK => ?_) AllReadyH.nil)
        have z0 : w8.cell? ⟨w6.heap.size, 0, none⟩ = some (.int .u16 0) := (cell_of_row _ _ 0 _ _ _ hga).trans rfl
        have z1 : w8.cell? ⟨w6.heap.size, 1, none⟩ = some (.int .u16 0) := (cell_of_row _ _ 1 _ _ _ hga).trans rfl
        have z2 : w8.cell? ⟨w6.heap.size, 2, none⟩ = some (.int .i64 0) := (cell_of_row _ _ 2 _ _ _ hga).trans rfl
        have z3 : w8.cell? ⟨w6.heap.size, 3, none⟩ = some (.int .i64 0) := (cell_of_row _ _ 3 _ _ _ hga).trans rfl
        have z4 : w8.cell? ⟨w6.heap.size, 4, none⟩ = some (.int .i64 0) := (cell_of_row _ _ 4 _ _ _ hga).trans rfl
        have zf : ∀ j, w8.frozen? ⟨w6.heap.size, j, none⟩ = false := fun j => frozen_of_row _ _ j _ _ hga
        go_simp
        have hgv := stored5P (a := .int .u16 (ma : Nat)) (b := .int .u16 (mb : Nat)) (c := .int .i64 gr) (d := .int .i64 (clrAt ps p k)) (e := .int .i64 (leastG ps za)) hga
        have hb6a := below5P (a := .int .u16 (ma : Nat)) (b := .int .u16 (mb : Nat)) (c := .int .i64 gr) (d := .int .i64 (clrAt ps p k)) (e := .int .i64 (leastG ps za)) hb68 hgz
        clear z0 z1 z2 z3 z4 zf hga hgl
        refine hK.out _ _ (HSK.out _ hb6a) (fun hHa => ?_)
        clear hK K hHa
        try simp only [Act.put, List.setIfInBounds_toArray, List.set_cons_zero, List.set_cons_succ]
        refine wpAnyH_done (by decide +kernel) ?_ _
        have hga := hgv
        clear hgv
        generalize (((((w8.setCell ⟨w6.heap.size, 0, none⟩ (.int .u16 (ma : Nat))).setCell ⟨w6.heap.size, 1, none⟩ (.int .u16 (mb : Nat))).setCell ⟨w6.heap.size, 2, none⟩ (.int .i64 gr)).setCell ⟨w6.heap.size, 3, none⟩ (.int .i64 (clrAt ps p k))).setCell ⟨w6.heap.size, 4, none⟩ (.int .i64 (leastG ps za))) = w9 at *
        obtain ⟨ga, hge⟩ : ∃ ga : Nat, ga = w6.heap.size := ⟨_, rfl⟩
        rw [← hge] at hga ⊢
        have hgz' : w6.heap.size ≤ ga := by omega
        clear hge hgz
        have hgz := hgz'
        clear hgz'
        clear hbz hb67 hb68 hH8
      all_goals
          have q0 : w9.cell? ⟨ga, 0, none⟩ = some (.int .u16 (ma : Nat)) := (cell_of_row _ _ 0 _ _ _ hga).trans rfl
          have q1 : w9.cell? ⟨ga, 1, none⟩ = some (.int .u16 (mb : Nat)) := (cell_of_row _ _ 1 _ _ _ hga).trans rfl
          have q2 : w9.cell? ⟨ga, 2, none⟩ = some (.int .i64 gr) := (cell_of_row _ _ 2 _ _ _ hga).trans rfl
          have q3 : w9.cell? ⟨ga, 3, none⟩ = some (.int .i64 (clrAt ps p k)) := (cell_of_row _ _ 3 _ _ _ hga).trans rfl
          have q4 : w9.cell? ⟨ga, 4, none⟩ = some (.int .i64 (leastG ps za)) := (cell_of_row _ _ 4 _ _ _ hga).trans rfl
          have HB9 := Lib.hid hb6a
          have HW9 := Lib.hid (HBX.out _ hb6a)
          have hcb := clrAt_bound ps p k
          have hlb := leastG_bound ps za
          have HLG : Hid (longAt ps p k = gr + clrAt ps p k) := Lib.hid HLA.out
          clear hb6a hga HCC HLC HSK HBX
          generalize clrAt ps p k = cl at *
          generalize leastG ps za = lg at *
          by_cases hm0 : ma = 0
          · have HPN : Hid (isPlan ps p = false) := Lib.hid (HNO.out (by rw [HOK.out, hm0]; rfl))
            have e0 : ((ma : Int) == 0) = true := by rw [hm0]; rfl
            have hth : w9.there w.heap.size 0 16 := there_block ((HB9.out.block w.heap.size (by omega)).trans ((b6.out.block w.heap.size (by omega)).trans HRZ5.out)) 16 rfl
            go_wp2_with ((with_reducible show wpList _ _ _ _ _ _); refine wpList_store_mid rfl 78 _ _ rfl w.heap.size 0 z16.toArray rfl rfl hth info_timed (all_oneCell_toArray z16_one) ?_)
            refine bodyPost_ret (v := .tuple #[.agg z16.toArray, .bool false]) (by
              have hload := run_loadVar_mid (P := Tryd.prog) (w9.setCells w.heap.size 0 z16) w.heap.size 0 78 z16 _ (World.rangeAt_setCells_same _ _ _ _ hth) Tryd.underlying78 rfl info_timed
              rw [results_cell_tmp rfl]
              simp [asAddr, hload, Result.andThen]) rfl ⟨z16, by rw [HPN.out], ⟨fun _ => rfl, fun hh => by rw [HPN.out] at hh; cases hh⟩, ?_⟩
            exact below_setCells _ (Nat.le_refl _) _ _ _ HW9.out
          · have e0 : ((ma : Int) == 0) = false := by simpa using hm0
            go_wp2_with fail
            refine (impl_InRange _ _ _ _).mono ?_
            cases hir : inB gr lg 60
            · have HPN : Hid (isPlan ps p = false) := Lib.hid (HNO.out (by rw [HOK.out, hir, Bool.and_false]))
              have hth : w9.there w.heap.size 0 16 := there_block ((HB9.out.block w.heap.size (by omega)).trans ((b6.out.block w.heap.size (by omega)).trans HRZ5.out)) 16 rfl
              rintro e wx ⟨rfl, rfl⟩
              clear hir
              go_wp2_with ((with_reducible show wpList _ _ _ _ _ _); refine wpList_store_mid rfl 78 _ _ rfl w.heap.size 0 z16.toArray rfl rfl hth info_timed (all_oneCell_toArray z16_one) ?_)
              refine bodyPost_ret (v := .tuple #[.agg z16.toArray, .bool false]) (by
                have hload := run_loadVar_mid (P := Tryd.prog) (w9.setCells w.heap.size 0 z16) w.heap.size 0 78 z16 _ (World.rangeAt_setCells_same _ _ _ _ hth) Tryd.underlying78 rfl info_timed
                rw [results_cell_tmp rfl]
                simp [asAddr, hload, Result.andThen]) rfl ⟨z16, by rw [HPN.out], ⟨fun _ => rfl, fun hh => by rw [HPN.out] at hh; cases hh⟩, ?_⟩
              exact below_setCells _ (Nat.le_refl _) _ _ _ HW9.out
            · rintro e wx ⟨rfl, rfl⟩
              have hgr := inB_t hir
              have HOKY : Hid (okPrt ps (prAt p k) = true) := Lib.hid (by rw [HOK.out, hir, decide_eq_false hm0]; rfl)
              have e8 : IntKind.i64.wrap (gr + cl) = gr + cl := by rw [IntKind.wrap_i64]; omega
              clear hir
              have hsk := sumTo_ok k HG.out
              have HAD := Lib.hid (impl_tadd w5.heap.size xs hln v1 v2 (sumTo ps p k) (gr + cl) k _ (begTo ps p k) ma mb gr cl lg w9 (ownr_below t6.out HB9.out) (ownr_below f6.out HB9.out) (ownr_below s6.out HB9.out) (by omega) (by omega) (by omega))
              rw [show (phC ma mb gr cl lg).toArray = #[.int .u16 (ma : Nat), .int .u16 (mb : Nat), .int .i64 gr, .int .i64 cl, .int .i64 lg] from rfl, ← HPS.out, ← begTo_succ, show sumTo ps p k + (gr + cl) = sumTo ps p (k + 1) by rw [← HLA.out]; rfl] at HAD
              go_wp2_with fail
              refine HAD.out.mono ?_
              rintro e w10 ⟨rfl, v1', v2', t10, f10, s10, b10⟩
              have T10 := Lib.hid t10
              have F10 := Lib.hid f10
              have S10 := Lib.hid s10
              have B10 := Lib.hid ((b6.out.trans (HB9.out.mono b6.out.size)).trans b10)
              have HG10 : Hid (∀ j, j < k + 1 → okPrt ps (prAt p j) = true) := Lib.hid (fun j hj => by
                by_cases e : j = k
                · subst e; exact HOKY.out
                · exact HG.out j (by omega))
              clear t10 f10 s10 b10 HAD q0 q1 q2 q3 q4 e0 e8 hH
              go_wp2
              go_roundw
              case rel => exact ⟨k + 1, v1', v2', by omega, by go_num, T10.out, F10.out, S10.out, HG10.out, B10.out⟩
              case measure => simp [intOf]; omega
    · obtain rfl : k = n2 := by omega
      have hp : isPlan ps p = true := by rw [isPlan_end (by rw [hl2]; exact HIN.out) (fun j hj => HG.out j (by omega))]; exact HCP.out
      have HPY := Lib.hid hp
      obtain ⟨a1, q1, rfl⟩ := ownr_sliced HPH.out
      obtain ⟨a2, q2, rfl⟩ := ownr_sliced HBG.out
      have hone : ∀ u ∈ xs, u.oneCell' = true := by rw [← HXS.out]; exact xcells_one _ _ _ _
      obtain ⟨cs, hcs⟩ : ∃ cs, cs = xs ++ [.slice a1 k q1, .slice a2 k q2, .int .i64 (sumTo ps p k)] := ⟨_, rfl⟩
      have ht := HT16.out
      rw [← hcs] at ht
      have hclen : cs.length = 16 := ht.1
      have hcone : ∀ u ∈ cs, u.oneCell' = true := fun u hu => by
        rw [hcs, List.mem_append] at hu
        rcases hu with hu | hu
        · exact hone u hu
        · simp only [List.mem_cons, List.not_mem_nil, or_false] at hu
          rcases hu with rfl | rfl | rfl <;> rfl
      have hrng : wr.rangeAt w5.heap.size 0 cs := fun j v hj => by rw [Nat.zero_add]; exact row_cell ht hj
      have hth : wr.there w.heap.size 0 16 := there_block ((HBL.out.block w.heap.size (by omega)).trans HRZ5.out) 16 rfl
      have hinf16 : (Tryd.prog.info? 78).map (·.size) = some cs.length := by rw [hclen]; exact info_timed
      have hth2 : wr.there w.heap.size 0 cs.toArray.size := by rw [show cs.toArray.size = 16 by simpa using hclen]; exact hth
      have hinf2 : (Tryd.prog.info? 78).map (·.size) = some cs.toArray.size := by rw [List.size_toArray]; exact hinf16
      have HCS := Lib.hid hcs
      have hgr := grown_setCells (b := w.heap.size) cs 0 wr (World.grownBy.refl _ _)
      have HPH2 := Lib.hid (ownr_grown HPH.out hgr (fun q e h' => by have := (ownr_block HPH.out q e).1; have := Option.some.inj h'; omega))
      have HBG2 := Lib.hid (ownr_grown HBG.out hgr (fun q e h' => by have := (ownr_block HBG.out q e).1; have := Option.some.inj h'; omega))
      have HBE := Lib.hid (HB5.out.trans (HBL.out.mono HB5.out.size))
      clear hp hone ht hgr hcs
      go_wp2_with
        (first
          | ((with_reducible show wpList _ _ _ _ _ _); refine wpList_load_mid rfl 78 _ rfl w5.heap.size 0 rfl cs _ hrng Tryd.underlying78 rfl hinf16 ?_)
          | ((with_reducible show wpList _ _ _ _ _ _); refine wpList_store_mid rfl 78 _ _ rfl w.heap.size 0 cs.toArray rfl rfl hth2 hinf2 (all_oneCell_toArray hcone) ?_))
      refine bodyPost_ret (v := .tuple #[.agg cs.toArray, .bool true]) (by
        have hload := run_loadVar_mid (P := Tryd.prog) (wr.setCells w.heap.size 0 cs) w.heap.size 0 78 cs _ (World.rangeAt_setCells_same _ _ _ _ (by rw [hclen]; exact hth)) Tryd.underlying78 rfl hinf16
        rw [results_cell_tmp rfl]
        simp [asAddr, hload, Result.andThen]) rfl ⟨cs, by rw [HPY.out], ⟨(fun hh => by rw [HPY.out] at hh; cases hh), fun _ => ⟨_, _, by rw [HCS.out, HFS.out, HXS.out, hl2], by rw [hl2]; exact ownr_mono HPH2.out (by omega), by rw [hl2]; exact ownr_mono HBG2.out (by omega)⟩⟩, ?_⟩
      exact below_setCells _ (Nat.le_refl _) _ _ _ HBE.out
end Go.Proofs.YtmbbmffoihhdfaaDoor

/- timePlan in one piece; IsPlan, Cycle, StartOf of the program. -/
namespace Go.Proofs.YtmbbmffoihhdfaaDoor
open Go.RowKit
set_option linter.unusedVariables false

/-- the cells of a timed plan. -/
def t16 (A : Option Addr) (n c : Nat) (f : Nat → Nat) (v1 v2 : Value) (L : Int) : Array Value := #[.slice A n c, .int .u16 (f 0 : Nat), .int .u16 (f 1 : Nat), .int .u16 (f 2 : Nat), .int .u16 (f 3 : Nat), .int .u16 (f 4 : Nat), .int .u16 (f 5 : Nat), .int .u16 (f 6 : Nat), .int .u16 (f 7 : Nat), .int .u16 (f 8 : Nat), .int .u16 (f 9 : Nat), .int .u16 (f 10 : Nat), .int .u16 (f 11 : Nat), v1, v2, .int .i64 L]
theorem t16_list (A : Option Addr) (n c : Nat) (f : Nat → Nat) (v1 v2 : Value) (L : Int) : (xcells A n c f ++ [v1, v2, .int .i64 L]).toArray = t16 A n c f v1 v2 L := rfl
/-- what a function of a plan is handed. -/
structure PlnIn (w : World) (A : Option Addr) (n c B : Nat) (ps : List Pth) (A2 : Option Addr) (n2 c2 B2 : Nat) (p : List Prt) : Prop where
  h : PthsAt w B A n ps
  hB : B ≤ w.heap.size
  hn : n ≤ c ∧ c ≤ maxLen
  hn4 : n ≤ 4294967296
  h2 : PrtsAt w B2 A2 n2 p
  hB2 : B2 ≤ w.heap.size
  hn2 : n2 ≤ 1048576
  hm : ∀ j, j < n2 → (prAt p j).stage.length ≤ 1048576
  hw : Brus w
  ht : Clrs w
theorem PlnIn.below {w w' : World} {A : Option Addr} {n c B : Nat} {ps : List Pth} {A2 : Option Addr} {n2 c2 B2 : Nat} {p : List Prt} (I : PlnIn w A n c B ps A2 n2 c2 B2 p) (hb : Below w.heap.size w w') : PlnIn w' A n c B ps A2 n2 c2 B2 p :=
  ⟨I.h.below (hb.mono I.hB), Nat.le_trans I.hB hb.size, I.hn, I.hn4, I.h2.below I.hB2 hb, Nat.le_trans I.hB2 hb.size, I.hn2, I.hm, I.hw.below hb (Nat.le_refl _), I.ht.below hb (Nat.le_refl _)⟩
theorem PlnIn.len {w : World} {A : Option Addr} {n c B : Nat} {ps : List Pth} {A2 : Option Addr} {n2 c2 B2 : Nat} {p : List Prt} (I : PlnIn w A n c B ps A2 n2 c2 B2 p) : p.length = n2 := I.h2.1
theorem PlnIn.lenp {w : World} {A : Option Addr} {n c B : Nat} {ps : List Pth} {A2 : Option Addr} {n2 c2 B2 : Nat} {p : List Prt} (I : PlnIn w A n c B ps A2 n2 c2 B2 p) : ps.length = n := I.h.1
/-- what a plan leaves in memory. -/
def PhsIn (w' : World) (lo : Nat) (ps : List Pth) (p : List Prt) (n2 : Nat) (a1 : Option Addr) (q1 : Nat) (a2 : Option Addr) (q2 : Nat) : Prop :=
  w'.ownsRow lo 87 5 (.slice a1 n2 q1) n2 ((phsTo ps p n2).flatMap Phs.cells) ∧ w'.ownsRow lo 3 1 (.slice a2 n2 q2) n2 ((begTo ps p n2).map (Value.int .i64))
theorem PhsIn.below {w w' : World} {lo : Nat} {ps : List Pth} {p : List Prt} {n2 : Nat} {a1 : Option Addr} {q1 : Nat} {a2 : Option Addr} {q2 : Nat} (h : PhsIn w lo ps p n2 a1 q1 a2 q2) (hb : Below w.heap.size w w') : PhsIn w' lo ps p n2 a1 q1 a2 q2 := ⟨ownr_below h.1 hb, ownr_below h.2 hb⟩
theorem impl_timePlan_off {w : World} {A : Option Addr} {n c B : Nat} {ps : List Pth} {A2 : Option Addr} {n2 c2 B2 : Nat} {p : List Prt} (I : PlnIn w A n c B ps A2 n2 c2 B2 p) (hp : isPlan ps p = false) :
    Calls Tryd.prog 62 #[.slice A n c, .slice A2 n2 c2] w fun e w' => e = .returned (.tuple #[.agg (t16 none 0 0 (fun _ => 0) (.slice none 0 0) (.slice none 0 0) 0), .bool false]) ∧ Below w.heap.size w w' := by
  have hl := I.h.1
  subst hl
  cases ha : arePs ps
  · refine (impl_timePlan_no A _ c B ps A2 n2 c2 B2 p w I.h I.hB I.hn4 I.h2 I.hB2 I.hn2 ha).mono ?_
    rintro e w' ⟨cs, rfl, ht, hb⟩
    obtain rfl := ht.1 hp
    exact ⟨by rw [hp]; rfl, hb⟩
  · refine (impl_timePlan_yes A _ c B ps A2 n2 c2 B2 p w I.h I.hB I.hn I.h2 I.hB2 I.hn2 I.hm ha I.hw I.ht).mono ?_
    rintro e w' ⟨cs, rfl, ht, hb⟩
    obtain rfl := ht.1 hp
    exact ⟨by rw [hp]; rfl, hb⟩
theorem impl_timePlan_on {w : World} {A : Option Addr} {n c B : Nat} {ps : List Pth} {A2 : Option Addr} {n2 c2 B2 : Nat} {p : List Prt} (I : PlnIn w A n c B ps A2 n2 c2 B2 p) (hp : isPlan ps p = true) :
    Calls Tryd.prog 62 #[.slice A n c, .slice A2 n2 c2] w fun e w' => ∃ a1 q1 a2 q2, e = .returned (.tuple #[.agg (t16 A n c (rowSt ps n 0) (.slice a1 n2 q1) (.slice a2 n2 q2) (sumTo ps p n2)), .bool true]) ∧ PhsIn w' w.heap.size ps p n2 a1 q1 a2 q2 ∧ Below w.heap.size w w' := by
  have hl := I.h.1
  have hl2 := I.h2.1
  subst hl
  have ha := (isPlan_parts hp).2.1
  refine (impl_timePlan_yes A _ c B ps A2 n2 c2 B2 p w I.h I.hB I.hn I.h2 I.hB2 I.hn2 I.hm ha I.hw I.ht).mono ?_
  rintro e w' ⟨cs, rfl, ht, hb⟩
  obtain ⟨v1, v2, rfl, o1, o2⟩ := ht.2 hp
  rw [hl2] at o1 o2 ⊢
  obtain ⟨a1, q1, rfl⟩ := ownr_sliced o1
  obtain ⟨a2, q2, rfl⟩ := ownr_sliced o2
  exact ⟨a1, q1, a2, q2, by rw [hp]; rfl, ⟨o1, o2⟩, hb⟩
set_option maxHeartbeats 2000000 in
set_option maxRecDepth 100000 in
theorem impl_IsPlan {w : World} {A : Option Addr} {n c B : Nat} {ps : List Pth} {A2 : Option Addr} {n2 c2 B2 : Nat} {p : List Prt} (I : PlnIn w A n c B ps A2 n2 c2 B2 p) :
    Calls Tryd.prog 20 #[.slice A n c, .slice A2 n2 c2] w fun e w' => e = .returned (.bool (isPlan ps p)) ∧ Below w.heap.size w w' := by
  cases hp : isPlan ps p
  · have H := impl_timePlan_off I hp
    unfold t16 at H
    have HC := Lib.hid H
    clear H hp I
    go_enter Tryd.func20, Tryd.ntmps20
    go_wp2_with fail
    refine HC.out.mono ?_
    rintro e w1 ⟨rfl, hb⟩
    have HB := Lib.hid hb
    clear hb
    go_wp2
    go_ret
    exact ⟨rfl, HB.out.alloc HB.out.size _⟩
  · have H := impl_timePlan_on I hp
    unfold t16 at H
    have HC := Lib.hid H
    clear H hp I
    go_enter Tryd.func20, Tryd.ntmps20
    go_wp2_with fail
    refine HC.out.mono ?_
    rintro e w1 ⟨a1, q1, a2, q2, rfl, -, hb⟩
    have HB := Lib.hid hb
    clear hb
    go_wp2
    go_ret
    exact ⟨rfl, HB.out.alloc HB.out.size _⟩
set_option maxHeartbeats 2000000 in
set_option maxRecDepth 100000 in
theorem impl_Cycle {w : World} {A : Option Addr} {n c B : Nat} {ps : List Pth} {A2 : Option Addr} {n2 c2 B2 : Nat} {p : List Prt} (I : PlnIn w A n c B ps A2 n2 c2 B2 p) :
    Calls Tryd.prog 24 #[.slice A n c, .slice A2 n2 c2] w fun e w' => e = .returned (.int .i64 (cycleP ps p)) ∧ Below w.heap.size w w' := by
  cases hp : isPlan ps p
  · have H := impl_timePlan_off I hp
    unfold t16 at H
    have HC := Lib.hid H
    have HR := Lib.hid (cycle_no hp)
    clear H hp I
    go_enter Tryd.func24, Tryd.ntmps24
    go_wp2_with fail
    refine HC.out.mono ?_
    rintro e w1 ⟨rfl, hb⟩
    have HB := Lib.hid hb
    clear hb
    go_wp2
    go_ret
    exact ⟨by rw [HR.out]; try rfl, HB.out.alloc HB.out.size _⟩
  · have H := impl_timePlan_on I hp
    unfold t16 at H
    have HC := Lib.hid H
    have HR := Lib.hid (cycle_yes hp)
    rw [I.len] at HR
    clear H hp I
    generalize sumTo ps p n2 = L at *
    go_enter Tryd.func24, Tryd.ntmps24
    go_wp2_with fail
    refine HC.out.mono ?_
    rintro e w1 ⟨a1, q1, a2, q2, rfl, -, hb⟩
    have HB := Lib.hid hb
    clear hb
    go_wp2
    go_ret
    exact ⟨by rw [HR.out]; try rfl, HB.out.alloc HB.out.size _⟩
set_option maxHeartbeats 4000000 in
set_option maxRecDepth 100000 in
theorem impl_StartOf {w : World} {A : Option Addr} {n c B : Nat} {ps : List Pth} {A2 : Option Addr} {n2 c2 B2 : Nat} {p : List Prt} (I : PlnIn w A n c B ps A2 n2 c2 B2 p) (a : Int) :
    Calls Tryd.prog 26 #[.slice A n c, .slice A2 n2 c2, .int .i64 a] w fun e w' => e = .returned (.int .i64 (startP ps p a)) ∧ Below w.heap.size w w' := by
  have hst : startP ps p a = if isPlan ps p && inB a 0 ((n2 : Int) - 1) then sumTo ps p a.toNat else -1 := by unfold startP; rw [I.len]
  have e1 : IntKind.i64.wrap ((n2 : Int) - 1) = (n2 : Int) - 1 := by have := I.hn2; rw [IntKind.wrap_i64]; omega
  have hn2 := I.hn2
  cases hp : isPlan ps p
  · have H := impl_timePlan_off I hp
    unfold t16 at H
    have HC := Lib.hid H
    have HR : Hid (startP ps p a = -1) := Lib.hid (by rw [hst, hp]; rfl)
    clear H hp I hst
    go_enter Tryd.func26, Tryd.ntmps26
    go_wp2_with fail
    refine HC.out.mono ?_
    rintro e w1 ⟨rfl, hb⟩
    have HB := Lib.hid hb
    clear hb
    go_wp2
    go_ret
    exact ⟨by rw [HR.out]; try rfl, HB.out.alloc HB.out.size _⟩
  · have H := impl_timePlan_on I hp
    unfold t16 at H
    have HC := Lib.hid H
    have HST := Lib.hid hst
    have HP := Lib.hid hp
    have HI := Lib.hid I
    clear H hp I hst
    go_enter Tryd.func26, Tryd.ntmps26
    go_wp2_with fail
    refine HC.out.mono ?_
    rintro e w1 ⟨a1, q1, a2, q2, rfl, hphs, hb⟩
    have HB := Lib.hid hb
    have HPH := Lib.hid hphs
    clear hb hphs
    go_wp2_with fail
    refine (impl_InRange _ _ _ _).mono ?_
    cases hi : inB a 0 ((n2 : Int) - 1)
    · rintro e w2 ⟨rfl, rfl⟩
      have HR : Hid (startP ps p a = -1) := Lib.hid (by rw [HST.out, hi, Bool.and_false]; rfl)
      clear hi
      go_wp2
      go_ret
      exact ⟨by rw [HR.out]; try rfl, HB.out.alloc HB.out.size _⟩
    · rintro e w2 ⟨rfl, rfl⟩
      have hab := inB_t hi
      have HI := Lib.hid hi
      obtain ⟨m, rfl⟩ : ∃ m : Nat, a = (m : Int) := ⟨a.toNat, by omega⟩
      have HR : Hid (startP ps p (m : Int) = sumTo ps p m) := Lib.hid (by rw [HST.out, HP.out, hi]; rfl)
      have hmn : m < n2 := by omega
      obtain ⟨ad, rfl⟩ : ∃ ad, a2 = some ⟨ad, 0, none⟩ := by
        rcases HPH.out.2.2 with ⟨q, _⟩ | ⟨g, cap, cur, hv, _⟩
        · injection q; omega
        · injection hv with h1 h2 h3; exact ⟨_, h1⟩
      have hc0 := row_cell HPH.out.2 (j := m) (u := .int .i64 (sumTo ps p m)) (by rw [List.getElem?_map]; unfold begTo; rw [List.getElem?_map, List.getElem?_range hmn]; rfl)
      have hlt := (ownr_block HPH.out.2 _ rfl).2
      have i1 : (0 : Int) ≤ (m : Int) := by omega
      have i2 : (m : Int) < (n2 : Int) := by omega
      clear hi hab HST
      go_wp2
      go_ret
      exact ⟨by rw [HR.out]; try rfl, HB.out.alloc HB.out.size _⟩
end Go.Proofs.YtmbbmffoihhdfaaDoor

/- Chapter 7's model: ClearOf, StaysOpen, Closes, LongestClear. -/
namespace Go.Proofs.YtmbbmffoihhdfaaDoor
open Go.RowKit
set_option linter.unusedVariables false

set_option maxHeartbeats 1000000 in
theorem spec_Closes (A : Option Addr) (n c B : Nat) (zs : List Int) (A2 : Option Addr) (n2 c2 B2 : Nat) (ys : List Int) (w : World) (h : IntsAt .i64 w B A n zs) (h2 : IntsAt .i64 w B2 A2 n2 ys) (hB : B ≤ w.heap.size) (hB2 : B2 ≤ w.heap.size) (hn : n ≤ 4294967296) (hn2 : n2 ≤ 4294967296) :
    Calls Tryd.prog 104 #[.slice A n c, .slice A2 n2 c2] w fun e w' => ∃ v, e = .returned v ∧ Own .i64 3 w' w.heap.size v (closL zs ys) ∧ Below w.heap.size w w' := by
  have hl := h.1
  have own0 := own_bare .i64 3 w
  have hb0 : Below w.heap.size w (w.alloc (.cells #[] 3)) := (Below.refl _ _).alloc (Nat.le_refl _) _
  go_enter Tryd.func104, Tryd.ntmps104
  go_wp2
  go_loopw [5, 6] (fun v i wr => ∃ k : Nat, k ≤ n ∧ i = .int .i64 k ∧ Own .i64 3 wr w.heap.size v (pickL (zs.take k) ys false) ∧ Below w.heap.size w wr) (fun _ i _ => n - (intOf i).toNat)
  case atStart => exact ⟨0, Nat.zero_le _, rfl, by rw [pick_zero]; exact own0, hb0⟩
  case round =>
    clear own0 hb0
    obtain ⟨k, hk, rfl, hown, hbl⟩ := hrel
    have hsz := hbl.size
    by_cases hlt : k < n
    · obtain ⟨ad, rfl, hab, hcell⟩ := h.2 (by omega)
      have hc := (hbl.cell (by rw [add_block]; omega)).trans (hcell k hlt)
      have hL := pick_len_take zs ys false k
      have hyes := fun h => Lib.hid (pick_yes (zs := zs) (ys := ys) (b := false) (k := k) (by omega) h)
      have hno := fun h => Lib.hid (pick_no (zs := zs) (ys := ys) (b := false) (k := k) (by omega) h)
      clear hcell
      generalize zs.getD k 0 = z at *
      generalize pickL (zs.take k) ys false = l at *
      go_wp2_with fail
      refine (spec_l6Has A2 n2 c2 B2 ys z wr (h2.laid hB2 hbl) hn2).mono ?_
      rintro e w1 ⟨rfl, rfl⟩
      cases hh : hasI ys z
      all_goals
        first
        | (have HS := hyes hh
           clear hh hyes hno
           go_wp2_with (at_builtin; refine wpList_app1 rfl _ _ 45 rfl .i64 3 8 Tryd.underlying45 info_i64 w.heap.size _ l rfl hown (by decide) (by omega) _ _ _ wr.heap.size hsz rfl (by simp) ?_; intro v4 w4 hown4 hgrow4 hat4)
           have hb4 := hown.push (Nat.le_refl _) (hbl.alloc hsz _) (by simp; omega) hgrow4
           clear hgrow4 hat4 hown hbl
           go_roundw
           case rel => exact ⟨k + 1, by omega, by go_num, by rw [HS.out]; exact hown4, hb4⟩
           case measure => simp [intOf]; omega)
        | (have HS := hno hh
           clear hh hyes hno
           go_wp2
           go_roundw
           case rel => exact ⟨k + 1, by omega, by go_num, by rw [HS.out]; exact hown, hbl⟩
           case measure => simp [intOf]; omega)
    · obtain rfl : k = n := by omega
      rw [List.take_of_length_le (by omega), pick_false] at hown
      go_wp2
      go_ret
      exact ⟨_, rfl, hown, hbl⟩
theorem spec_ClearOf (p : Pth) (w : World) : Calls Tryd.prog 101 #[p.val] w fun e w' => e = .returned (.int .i64 (clearN p)) ∧ Below w.heap.size w w' := by
  have hr := isP_facts p
  have hcc := fun x => spec_IsPath p x
  have HR : Hid (clearN p = if isP p then (if p.kind = 1 then 2 else if p.kind = 2 then 5 else 3) else 0) := Lib.hid rfl
  obtain ⟨a, b, c, d⟩ := p
  simp only [Pth.val] at *
  have hb0 := (Below.refl w.heap.size w).alloc (Nat.le_refl _) (.cells #[.int .i64 a, .int .i64 b, .int .i64 c, .int .i64 d] 65)
  have HB0 := Lib.hid hb0
  clear hb0
  go_enter Tryd.func101, Tryd.ntmps101
  go_wp2_with fail
  refine (hcc _).mono ?_
  rintro e w1 ⟨rfl, hb1⟩
  have HB := Lib.hid (HB0.out.trans (hb1.mono HB0.out.size))
  have k0 : w1.cell? ⟨w.heap.size, 1, none⟩ = some (.int .i64 b) := (hb1.cell (p := ⟨w.heap.size, 1, none⟩) (by simp)).trans (by go_simp)
  have hlt : w.heap.size < w1.heap.size := by have := hb1.size; simp at this; omega
  clear hb1 hcc
  cases hp : isP ⟨a, b, c, d⟩
  · rw [hp] at HR
    clear hr hp
    go_wp2
    go_ret
    exact ⟨by rw [HR.out]; rfl, HB.out⟩
  · rw [hp] at HR
    obtain ⟨_, ⟨b1, b2⟩, _⟩ := hr hp
    clear hr hp
    have hb : b = 1 ∨ b = 2 ∨ b = 3 := by omega
    rcases hb with rfl | rfl | rfl
    all_goals
      go_wp2
      go_ret
      exact ⟨by rw [HR.out]; rfl, HB.out.alloc HB.out.size _⟩
end Go.Proofs.YtmbbmffoihhdfaaDoor

/- ClearBetween: the model. -/
namespace Go.Proofs.YtmbbmffoihhdfaaDoor
open Go.RowKit
set_option linter.unusedVariables false

theorem tog_find {ps : List Pth} {ids : List Int} (h : isTog ps ids = true) {x : Int} (hx : x ∈ ids) : ∃ j, findK x ps = some j := by
  obtain ⟨ha, m, hm, e, _, _⟩ := tog_stage h
  rw [e] at hx
  obtain ⟨j, h1, rfl⟩ := (idsM_mem (arePs_len12 ha) hm x).1 hx
  exact ⟨j, findK_of ha (bit_in hm h1)⟩
theorem clos_sub {a b : List Int} {k : Nat} (hk : k < (closL a b).length) : (closL a b).getD k 0 ∈ a := by
  have : (closL a b).getD k 0 ∈ closL a b := by rw [List.getD_eq_getElem?_getD, List.getElem?_eq_getElem hk]; exact List.getElem_mem hk
  exact (List.mem_filter.1 this).1
theorem clos_path {ps : List Pth} {a b : List Int} (h : isTog ps a = true) {k : Nat} (hk : k < (closL a b).length) : ∃ j p, findK ((closL a b).getD k 0) ps = some j ∧ ps[j]? = some p ∧ idP ps ((closL a b).getD k 0) = p := by
  obtain ⟨j, hj⟩ := tog_find h (clos_sub hk)
  obtain ⟨p, hp, _⟩ := findK_at hj
  exact ⟨j, p, hj, hp, by unfold idP; rw [hj]; exact pAt_some hp⟩
theorem fI_of {ps : List Pth} {id : Int} {k : Nat} (h : findK id ps = some k) : findI id ps = (k : Int) := by unfold findI; rw [h]
set_option maxHeartbeats 4000000 in
set_option maxRecDepth 100000 in
theorem spec_ClearBetween (A : Option Addr) (n c B : Nat) (ps : List Pth) (A2 : Option Addr) (n2 c2 B2 : Nat) (za : List Int) (A3 : Option Addr) (n3 c3 B3 : Nat) (zb : List Int) (w : World) (h : PthsAt w B A n ps) (hB : B ≤ w.heap.size) (hn : n ≤ 4294967296) (h2 : IntsAt .i64 w B2 A2 n2 za) (hB2 : B2 ≤ w.heap.size) (hn2 : n2 ≤ 4294967296) (h3 : IntsAt .i64 w B3 A3 n3 zb) (hB3 : B3 ≤ w.heap.size) (hn3 : n3 ≤ 4294967296) :
    Calls Tryd.prog 82 #[.slice A n c, .slice A2 n2 c2, .slice A3 n3 c3] w fun e w' => e = .returned (.int .i64 (clrB ps za zb)) ∧ Below w.heap.size w w' := by
  have hl := h.1
  have hl2 := h2.1
  have hl3 := h3.1
  have hxl : (closL za zb).length ≤ za.length := List.length_filter_le _ _
  have hyl : (closL zb za).length ≤ zb.length := List.length_filter_le _ _
  have HOFF := Lib.hid (fun hh => clrB_off (ps := ps) (a := za) (b := zb) hh)
  have HON := Lib.hid (fun q1 q2 => clrB_on (ps := ps) (a := za) (b := zb) q1 q2)
  have HXP := Lib.hid (fun (q : isTog ps za = true) k hk => clos_path (b := zb) (k := k) q hk)
  have HYP := Lib.hid (fun (q : isTog ps zb = true) k hk => clos_path (b := za) (k := k) q hk)
  have HCA := Lib.hid (spec_Closes A2 n2 c2 B2 za A3 n3 c3 B3 zb w h2 h3 hB2 hB3 hn2 hn3)
  have HTA := Lib.hid (fun x (hx : Below w.heap.size w x) => spec_IsTogether A n c B ps A2 n2 c2 B2 za x (h.below (hx.mono hB)) (h2.laid hB2 hx) (Nat.le_trans hB hx.size) (Nat.le_trans hB2 hx.size) hn hn2)
  have HTB := Lib.hid (fun x (hx : Below w.heap.size w x) => spec_IsTogether A n c B ps A3 n3 c3 B3 zb x (h.below (hx.mono hB)) (h3.laid hB3 hx) (Nat.le_trans hB hx.size) (Nat.le_trans hB3 hx.size) hn hn3)
  have HSS := Lib.hid (fun (ys : List Int) (p : Pth) (m : Nat) (hm : m < ys.length) => hold_succ (ps := ps) (p := p) (ys := ys) (k := m) hm)
  have HCS : Hid (∀ xs ys k, clrTo ps xs ys (k + 1) = clrIn (clrTo ps xs ys k) (idP ps (xs.getD k 0)) (holdTo ps (idP ps (xs.getD k 0)) ys ys.length)) := Lib.hid (fun _ _ _ => rfl)
  go_enter Tryd.func82, Tryd.ntmps82
  go_wp2_with fail
  refine HCA.out.mono ?_
  rintro e w1 ⟨v1, rfl, ho1, hb1⟩
  have HCB := Lib.hid (spec_Closes A3 n3 c3 B3 zb A2 n2 c2 B2 za w1 (h3.laid hB3 hb1) (h2.laid hB2 hb1) (Nat.le_trans hB3 hb1.size) (Nat.le_trans hB2 hb1.size) hn3 hn2)
  have HB1 := Lib.hid hb1
  clear hb1 HCA
  generalize closL za zb = X at *
  generalize closL zb za = Y at *
  go_wp2_with fail
  refine HCB.out.mono ?_
  rintro e w2 ⟨v2, rfl, ho2, hb2⟩
  have ho1' := ho1.below hb2
  obtain ⟨A4, c4, rfl⟩ := ho1'.sliced
  obtain ⟨A5, c5, rfl⟩ := ho2.sliced
  have HB2 := Lib.hid (HB1.out.trans (hb2.mono HB1.out.size))
  have hX := ho1'.ints
  have hY := ho2.ints
  clear hb2 ho1 ho2 ho1' HCB
  have HP := Lib.hid h
  go_wp2
  go_loopw [7, 10] (fun x i wr => ∃ (k : Nat) (q : Int), k ≤ X.length ∧ i = .int .i64 k ∧ x = .int .i64 q ∧ q = clrTo ps X Y k ∧ (0 < k → isTog ps za = true ∧ isTog ps zb = true) ∧ Below w2.heap.size w2 wr) (fun _ i _ => X.length - (intOf i).toNat)
  case atStart => exact ⟨0, 0, Nat.zero_le _, rfl, rfl, rfl, fun hh => absurd hh (by omega), Below.refl _ _⟩
  case round =>
    obtain ⟨k, q, hk, rfl, rfl, hq, hgo, hbl⟩ := hrel
    have hsz := hbl.size
    have HG := Lib.hid hgo
    have HQ := Lib.hid hq
    have HBW := Lib.hid (HB2.out.trans (hbl.mono HB2.out.size))
    clear hgo hq
    by_cases hlt : k < X.length
    · go_wp2_with fail
      refine (HTA.out wr HBW.out).mono ?_
      rintro e w3 ⟨rfl, hb3⟩
      have HB3 := Lib.hid (HBW.out.trans (hb3.mono HBW.out.size))
      have HL3 := Lib.hid (hbl.trans (hb3.mono hsz))
      clear hb3
      cases hta : isTog ps za
      · have hk0 : k = 0 := by
          by_cases e : 0 < k
          · have := (HG.out e).1; rw [hta] at this; cases this
          · omega
        have HR : Hid (clrB ps za zb = q) := Lib.hid (by rw [HOFF.out (by rw [hta]; rfl), HQ.out, hk0]; rfl)
        clear hta hk0
        go_wp2
        go_ret
        exact ⟨by rw [HR.out]; try rfl, HB3.out⟩
      have HA := Lib.hid hta
      clear hta
      go_wp2_with fail
      refine (HTB.out w3 HB3.out).mono ?_
      rintro e w4 ⟨rfl, hb4⟩
      have HB4 := Lib.hid (HB3.out.trans (hb4.mono HB3.out.size))
      have HL4 := Lib.hid (HL3.out.trans (hb4.mono HL3.out.size))
      clear hb4
      cases htb : isTog ps zb
      · have hk0 : k = 0 := by
          by_cases e : 0 < k
          · have := (HG.out e).2; rw [htb] at this; cases this
          · omega
        have HR : Hid (clrB ps za zb = q) := Lib.hid (by rw [HOFF.out (by rw [htb, Bool.and_false]), HQ.out, hk0]; rfl)
        clear htb hk0
        go_wp2
        go_ret
        exact ⟨by rw [HR.out]; try rfl, HB4.out⟩
      have HTB2 := Lib.hid htb
      clear htb hbl
      obtain ⟨j, p, hj, hp, hip⟩ := HXP.out HA.out k hlt
      have HJ := Lib.hid (fI_of hj)
      have HPJ := Lib.hid hp
      have HIP := Lib.hid hip
      have hjl : j < n := by have := (List.getElem?_eq_some_iff.1 hp).1; omega
      have HSK : Hid (clrTo ps X Y (k + 1) = clrIn q p (holdTo ps p Y Y.length)) := Lib.hid (by rw [HCS.out, HIP.out, HQ.out])
      have HZK : Hid (q = clrIn q p (holdTo ps p Y 0)) := Lib.hid (by rw [hold_zero]; rfl)
      clear hj hp hip
      go_wp2
      go_loopw [7, 11] (fun x i wr => ∃ (m : Nat) (t : Int), m ≤ Y.length ∧ i = .int .i64 m ∧ x = .int .i64 t ∧ t = clrIn q p (holdTo ps p Y m) ∧ Below w2.heap.size w2 wr) (fun _ i _ => Y.length - (intOf i).toNat)
      case atStart => exact ⟨0, q, Nat.zero_le _, rfl, rfl, HZK.out, HL4.out⟩
      case round =>
        clear HL4 HB4 HL3 HB3 HBW hsz
        obtain ⟨m, t, hm, rfl, rfl, ht, hbl⟩ := hrel
        have hsz := hbl.size
        have HT := Lib.hid ht
        clear ht
        have HBW := Lib.hid (HB2.out.trans (hbl.mono HB2.out.size))
        by_cases hlt2 : m < Y.length
        · obtain ⟨j2, p2, hj2, hp2, hip2⟩ := HYP.out HTB2.out m hlt2
          have hjl2 : j2 < n := by have := (List.getElem?_eq_some_iff.1 hp2).1; omega
          obtain ⟨ax, eax, hax, hxc⟩ := hX.2 (by omega)
          obtain ⟨ay, eay, hay, hyc⟩ := hY.2 (by omega)
          have hcx := (hbl.cell (p := ax.add k) (by rw [add_block]; omega)).trans (hxc k hlt)
          have hcy := (hbl.cell (p := ay.add m) (by rw [add_block]; omega)).trans (hyc m hlt2)
          obtain ⟨ad, p', ead, hab, hp', hqp⟩ := HP.out.at hjl
          obtain ⟨ad2, p2', ead2, hab2, hp2', hqp2⟩ := HP.out.at hjl2
          rw [HPJ.out] at hp'
          rw [hp2] at hp2'
          injection hp' with hp'
          injection hp2' with hp2'
          subst hp'
          subst hp2'
          subst eax
          subst eay
          subst ead
          injection ead2 with ead2
          subst ead2
          obtain ⟨c0, c1, c2', c3'⟩ := hqp.below HBW.out (by omega)
          have HF1 := Lib.hid (spec_FindPath (some ad) n c B ps (X.getD k 0) wr (HP.out.below (HBW.out.mono hB)) hn)
          have HHS := Lib.hid (HSS.out Y p m hlt2)
          rw [hip2] at HHS
          have HJ2 := Lib.hid (fI_of hj2)
          have HQ2 := Lib.hid hqp2
          have HYC := Lib.hid (hyc m hlt2)
          have HJP := Lib.hid HJ.out
          clear hj2 hp2 hip2 hxc hyc hqp
          generalize X.getD k 0 = x at *
          generalize Y.getD m 0 = y at *
          have hbA := (Below.refl wr.heap.size wr).alloc (Nat.le_refl _) (.cells #[.int .i64 p.id, .int .i64 p.kind, .int .i64 p.frm, .int .i64 p.to] 65)
          have HBA := Lib.hid (hbl.trans (hbA.mono hsz))
          have HBAW := Lib.hid (HBW.out.trans (hbA.mono HBW.out.size))
          have HPB : Hid (PthAt (wr.alloc (.cells #[.int .i64 p.id, .int .i64 p.kind, .int .i64 p.frm, .int .i64 p.to] 65)) ⟨wr.heap.size, 0, none⟩ p) := Lib.hid (pth_of_block (heap_alloc_new wr _))
          have HSA : Hid ((wr.alloc (.cells #[.int .i64 p.id, .int .i64 p.kind, .int .i64 p.frm, .int .i64 p.to] 65)).heap.size = wr.heap.size + 1) := Lib.hid (by simp)
          clear hbA hbl
          go_wp2_with fail
          refine HF1.out.mono ?_
          rw [HJP.out]
          rintro e w5 ⟨rfl, rfl⟩
          obtain ⟨wA, hwA⟩ : ∃ wA, wA = wr.alloc (.cells #[.int .i64 p.id, .int .i64 p.kind, .int .i64 p.frm, .int .i64 p.to] 65) := ⟨_, rfl⟩
          rw [← hwA] at HBA HBAW HPB HSA
          have HPX := Lib.hid (fun x : GW wA => pth_head (HPB.out.below x.ok (by have := HSA.out; simp only; omega)))
          have HWX := Lib.hid (fun x : GW wA => HBAW.out.trans (x.ok.mono HBAW.out.size))
          go_wp2
          rw [← hwA]
          clear hwA c0 c1 c2' c3'
          have b0 := fun x : GW wA => (HPX.out x).1
          have b1 := fun x : GW wA => (HPX.out x).2.1
          have b2 := fun x : GW wA => (HPX.out x).2.2.1
          have b3 := fun x : GW wA => (HPX.out x).2.2.2
          try simp only at b0 b1 b2 b3
          have q0 := fun x : GW wA => (HQ2.out.below (HWX.out x) (by omega)).c0
          have q1 := fun x : GW wA => (HQ2.out.below (HWX.out x) (by omega)).c1
          have q2 := fun x : GW wA => (HQ2.out.below (HWX.out x) (by omega)).c2
          have q3 := fun x : GW wA => (HQ2.out.below (HWX.out x) (by omega)).c3
          have yc := fun x : GW wA => ((HBA.out.trans (x.ok.mono HBA.out.size)).cell (p := ay.add m) (by rw [add_block]; omega)).trans HYC.out
          have hff := fun x : GW wA => spec_FindPath (some ad) n c B ps y x.val (HP.out.below ((HWX.out x).mono hB)) hn
          have hcf := fun x : GW wA => spec_Conflict p p2 x.val
          simp only [HJ2.out] at hff
          simp only [Pth.val] at hcf
          have k1 : (0 : Int) ≤ (j2 : Int) := by omega
          have k2 : (j2 : Int) < (n : Int) := by omega
          have k3 : (0 : Int) ≤ (m : Int) := by omega
          have k4 : (m : Int) < (Y.length : Int) := by omega
          have HMX := Lib.hid (fun (u : Int) => clrIn_yes q p (holdTo ps p Y m))
          cases hcv : conf p p2
          · rw [hcv] at HHS
            have HT2 : Hid (t = clrIn q p (holdTo ps p Y (m + 1))) := Lib.hid (by rw [HHS.out, Bool.or_false]; exact HT.out)
            rw [hcv] at hcf
            clear hcv HHS HMX
            refine wp_region_grow (by kernel_rfl) (by kernel_rfl) ?_
            repeat (go_big_quiet_step (first | (go_at_call 72; exact calls_gw_same _ (hff _)) | (go_at_call 85; exact calls_gw _ (hcf _))))
            refine wpQuiet_nil ?_
            intro x5
            have hb5 := HBA.out.trans (x5.ok.mono HBA.out.size)
            clear b0 b1 b2 b3 q0 q1 q2 q3 yc hff hcf
            generalize x5.val = w5 at *
            go_wp2
            go_roundw
            case rel => exact ⟨m + 1, t, by omega, by go_num, rfl, HT2.out, hb5⟩
            case measure => simp [intOf]; omega
          · rw [hcv] at HHS
            have HT2 : Hid (maxI t (clearN p) = clrIn q p (holdTo ps p Y (m + 1))) := Lib.hid (by rw [HHS.out, Bool.or_true, HT.out]; exact HMX.out 0)
            rw [hcv] at hcf
            clear hcv HHS HMX
            refine wp_region_grow (by kernel_rfl) (by kernel_rfl) ?_
            repeat (go_big_quiet_step (first | (go_at_call 72; exact calls_gw_same _ (hff _)) | (go_at_call 85; exact calls_gw _ (hcf _))))
            refine wpQuiet_nil ?_
            intro x5
            have hb5 := HBA.out.trans (x5.ok.mono HBA.out.size)
            have e0 := b0 x5
            have e1 := b1 x5
            have e2 := b2 x5
            have e3 := b3 x5
            clear b0 b1 b2 b3 q0 q1 q2 q3 yc hff hcf
            generalize x5.val = w5 at *
            have HCO := Lib.hid (spec_ClearOf p w5)
            have HB5 := Lib.hid hb5
            clear hb5
            go_wp2_with fail
            refine HCO.out.mono ?_
            rintro e w6 ⟨rfl, hb6⟩
            have HB6 := Lib.hid (HB5.out.trans (hb6.mono HB5.out.size))
            clear hb6 e0 e1 e2 e3
            generalize clearN p = cn at *
            go_wp2_with fail
            refine (spec_Max _ _ _).mono ?_
            rintro e w7 ⟨rfl, rfl⟩
            go_wp2
            go_roundw
            case rel => exact ⟨m + 1, _, by omega, by go_num, rfl, HT2.out, HB6.out⟩
            case measure => simp [intOf]; omega
        · obtain rfl : m = Y.length := by omega
          have HN : Hid (t = clrTo ps X Y (k + 1)) := Lib.hid (by rw [HSK.out, HT.out])
          go_wp2
          go_roundw
          case rel => exact ⟨k + 1, t, by omega, by go_num, rfl, HN.out, fun _ => ⟨HA.out, HTB2.out⟩, hbl⟩
          case measure => simp [intOf]; omega
    · obtain rfl : k = X.length := by omega
      have HR : Hid (clrB ps za zb = q) := Lib.hid (by
        by_cases e : 0 < X.length
        · rw [HON.out (HG.out e).1 (HG.out e).2, HQ.out]
        · have e0 : X.length = 0 := by omega
          cases hta : isTog ps za
          · rw [HOFF.out (by rw [hta]; rfl), HQ.out, e0]; rfl
          · cases htb : isTog ps zb
            · rw [HOFF.out (by rw [htb, Bool.and_false]), HQ.out, e0]; rfl
            · rw [HON.out hta htb, HQ.out])
      go_wp2
      go_ret
      exact ⟨by rw [HR.out]; try rfl, HBW.out⟩
end Go.Proofs.YtmbbmffoihhdfaaDoor

/- Chapter 8's model: IsPlan, Cycle, StartOf. -/
namespace Go.Proofs.YtmbbmffoihhdfaaDoor
open Go.RowKit
set_option linter.unusedVariables false

theorem own_row0 (w : World) (E : TypeId) (s : Nat) : (w.alloc (.cells #[] E)).ownsRow w.heap.size E s (.slice (some ⟨w.heap.size, 0, none⟩) 0 0) 0 [] := ⟨by simp, .inr ⟨w.heap.size, 0, #[], rfl, Nat.le_refl _, heap_alloc_new w _, Nat.le_refl _, by decide, by simp, by simp⟩⟩
theorem IntsAt.two' {w wr x : World} {B : Nat} {A : Option Addr} {n : Nat} {zs : List Int} (h : IntsAt .i64 w B A n zs) (hB : B ≤ w.heap.size) (hb : Below w.heap.size w wr) (hx : Below wr.heap.size wr x) : IntsAt .i64 x B A n zs := (h.laid hB hb).laid (Nat.le_trans hB hb.size) hx
set_option maxHeartbeats 2000000 in
theorem spec_l8Stages (A : Option Addr) (n c B : Nat) (p : List Prt) (w : World) (h : PrtsAt w B A n p) (hB : B ≤ w.heap.size) (hn : n ≤ 1048576) :
    Calls Tryd.prog 59 #[.slice A n c] w fun e w' => ∃ A' c', e = .returned (.slice A' n c') ∧ SSAt w' w'.heap.size A' n (stgsOf p) ∧ Below w.heap.size w w' := by
  have hl := h.1
  have hr0 : (w.alloc (.cells #[] 45)).ownsRow w.heap.size 45 1 (.slice (some ⟨w.heap.size, 0, none⟩) 0 0) 0 [] := own_row0 _ _ _
  have hb0 : Below w.heap.size w (w.alloc (.cells #[] 45)) := (Below.refl _ _).alloc (Nat.le_refl _) _
  go_enter Tryd.func59, Tryd.ntmps59
  go_wp2
  go_loopw [3, 4] (fun v i wr => ∃ (k : Nat) (us : List Value), k ≤ n ∧ i = .int .i64 k ∧ wr.ownsRow w.heap.size 45 1 v k us ∧ (∀ j, j < k → ∃ A' m c', us[j]? = some (.slice A' m c') ∧ IntsAt .i64 w B A' m (prAt p j).stage ∧ m ≤ c' ∧ (A' = none → m = 0 ∧ c' = 0)) ∧ Below w.heap.size w wr) (fun _ i _ => n - (intOf i).toNat)
  case atStart => exact ⟨0, [], Nat.zero_le _, rfl, hr0, fun j hj => absurd hj (by omega), hb0⟩
  case round =>
    clear hr0 hb0
    obtain ⟨k, us, hk, rfl, hown, heach, hbl⟩ := hrel
    have hsz := hbl.size
    have HE := Lib.hid heach
    clear heach
    by_cases hlt : k < n
    · obtain ⟨ad, A', m, c', rfl, hab, hq, hi, hmc, hnil⟩ := h.at hlt
      obtain ⟨c0, c1⟩ := hq.below hbl (by omega)
      have hul : us.length = k := by have := hown.1; omega
      have HE2 : Hid (∀ j, j < k + 1 → ∃ A'' m' c'', (us ++ [.slice A' m c'])[j]? = some (.slice A'' m' c'') ∧ IntsAt .i64 w B A'' m' (prAt p j).stage ∧ m' ≤ c'' ∧ (A'' = none → m' = 0 ∧ c'' = 0)) := Lib.hid (fun j hj => by
        by_cases e : j < k
        · obtain ⟨A1, m1, c1, q1, q2⟩ := HE.out j e
          exact ⟨A1, m1, c1, by rw [List.getElem?_append_left (by omega)]; exact q1, q2⟩
        · obtain rfl : j = k := by omega
          exact ⟨A', m, c', by rw [List.getElem?_append_right (by omega), hul, Nat.sub_self]; rfl, hi, hmc.1, hnil⟩)
      clear hq hi hul
      go_wp2_with (at_builtin; refine wpList_appR1 rfl _ _ 62 rfl 45 (.slice none 0 0) 1 24 Tryd.underlying62 info_ints rfl (by decide) (by decide) w.heap.size _ _ _ rfl hown (by omega) [.slice A' m c'] rfl (by simp [Value.oneCell']) _ _ wr.heap.size hsz rfl (by simp) ?_; intro v4 w4 hown4 hgrow4 hat4)
      have hb4 := ownr_push hown (Nat.le_refl _) (hbl.alloc hsz _) (by simp; omega) hgrow4
      clear hgrow4 hat4 hown hbl
      go_roundw
      case rel => exact ⟨k + 1, _, by omega, by go_num, hown4, HE2.out, hb4⟩
      case measure => simp [intOf]; omega
    · obtain rfl : k = n := by omega
      obtain ⟨Av, cv, rfl⟩ := ownr_sliced hown
      have HSS : Hid (SSAt wr wr.heap.size Av k (stgsOf p)) := Lib.hid ⟨by rw [stgsOf_len]; exact hl, fun h0 => by
        obtain ⟨ad, e, hb, hc⟩ := (ownr_cells hown).2 (by omega)
        refine ⟨ad, e, hb, fun j hj => ?_⟩
        obtain ⟨A1, m1, c1, q1, q2, q3, q4⟩ := HE.out j hj
        exact ⟨A1, m1, c1, hc _ _ q1, by rw [stgsOf_at (by omega)]; exact (q2.laid hB hbl).up (Nat.le_trans hB hsz), q3, q4⟩⟩
      go_wp2
      go_ret
      exact ⟨_, _, rfl, HSS.out, hbl⟩
set_option maxHeartbeats 4000000 in
set_option maxRecDepth 100000 in
theorem spec_IsPlan (A : Option Addr) (n c B : Nat) (ps : List Pth) (A2 : Option Addr) (n2 c2 B2 : Nat) (p : List Prt) (w : World) (h : PthsAt w B A n ps) (hB : B ≤ w.heap.size) (hn : n ≤ 4294967296) (h2 : PrtsAt w B2 A2 n2 p) (hB2 : B2 ≤ w.heap.size) (hn2 : n2 ≤ 1048576) (hm : ∀ j, j < n2 → (prAt p j).stage.length ≤ 1048576) :
    Calls Tryd.prog 17 #[.slice A n c, .slice A2 n2 c2] w fun e w' => e = .returned (.bool (isPlan ps p)) ∧ Below w.heap.size w w' := by
  have hl2 := h2.1
  have HM := Lib.hid hm
  have HNO := Lib.hid (fun j (hj : j < n2) hh => isPlan_no (ps := ps) (p := p) (j := j) (by omega) hh)
  have HS8 := Lib.hid (fun x (hx : Below w.heap.size w x) => spec_l8Stages A2 n2 c2 B2 p x (h2.below hB2 hx) (Nat.le_trans hB2 hx.size) hn2)
  clear hm
  cases hin : inB (p.length : Int) 1 6
  · have HR := Lib.hid (isPlan_len (ps := ps) hin)
    have HI := Lib.hid (spec_l1In (n2 : Int) 1 6 w)
    rw [← hl2] at HI
    have HIN := Lib.hid hin
    clear hin
    go_enter Tryd.func17, Tryd.ntmps17
    go_wp2_with fail
    rw [← hl2]
    refine HI.out.mono ?_
    rw [HIN.out]
    rintro e w1 ⟨rfl, rfl⟩
    go_wp2
    go_ret
    exact ⟨by rw [HR.out]; try rfl, Below.refl _ _⟩
  have HEND := Lib.hid (fun hh => isPlan_end (ps := ps) hin hh)
  have hin6 := inB_t hin
  have HIN : Hid (inB (n2 : Int) 1 6 = true) := Lib.hid (by rw [← hl2]; exact hin)
  have HL2 := Lib.hid hl2
  clear hin hl2
  go_enter Tryd.func17, Tryd.ntmps17
  go_wp2_with fail
  refine (spec_l1In _ _ _ _).mono ?_
  rw [HIN.out]
  rintro e w1 ⟨rfl, rfl⟩
  go_wp2
  go_loopw [5] (fun i wr => ∃ k : Nat, k ≤ n2 ∧ i = .int .i64 k ∧ (∀ j, j < k → okPrt ps (prAt p j) = true) ∧ Below w.heap.size w wr) (fun i _ => n2 - (intOf i).toNat)
  case atStart => exact ⟨0, Nat.zero_le _, rfl, fun j hj => absurd hj (by omega), Below.refl _ _⟩
  case round =>
    obtain ⟨k, hk, rfl, hgo, hbl⟩ := hrel
    have hsz := hbl.size
    have HG := Lib.hid hgo
    clear hgo
    by_cases hlt : k < n2
    · obtain ⟨ad, A', m, c', rfl, hab, hq, hi, hmc, hnil⟩ := h2.at hlt
      have hmk := HM.out k hlt
      have hlz := hi.1
      have hok : okPrt ps (prAt p k) = (!decide ((prAt p k).stage.length = 0) && isTog ps (prAt p k).stage && inB (prAt p k).green (leastG ps (prAt p k).stage) 60) := rfl
      have HOK := Lib.hid hok
      have HNK := Lib.hid (HNO.out k hlt)
      have HGK : Hid (okPrt ps (prAt p k) = true → ∀ j, j < k + 1 → okPrt ps (prAt p j) = true) := Lib.hid (fun hh j hj => by
        by_cases e : j = k
        · subst e; exact hh
        · exact HG.out j (by omega))
      have c0 := fun x : GW wr => ((hq.below hbl (by omega)).below x.ok (by omega)).c0
      have c1 := fun x : GW wr => ((hq.below hbl (by omega)).below x.ok (by omega)).c1
      have HIX := Lib.hid (fun x : GW wr => hi.two' hB2 hbl x.ok)
      have HWX := Lib.hid (fun x : GW wr => hbl.trans (x.ok.mono hsz))
      have i1 : (0 : Int) ≤ (k : Int) := by omega
      have i2 : (k : Int) < (n2 : Int) := by omega
      clear hq hi hok
      generalize (prAt p k).stage = zs at *
      generalize (prAt p k).green = g at *
      have hT := fun x : GW wr => spec_IsTogether A n c B ps A' m c' B2 zs x.val (h.below ((HWX.out x).mono hB)) (HIX.out x) (Nat.le_trans hB (HWX.out x).size) (Nat.le_trans hB2 (HWX.out x).size) hn (by omega)
      have hLG := fun x : GW wr => spec_LeastGreen A n c B ps A' m c' B2 zs x.val (h.below ((HWX.out x).mono hB)) (HIX.out x) (Nat.le_trans hB (HWX.out x).size) (Nat.le_trans hB2 (HWX.out x).size) hn (by omega)
      have hIN := fun x : GW wr => spec_l1In g (leastG ps zs) 60 x.val
      rw [hlz] at HOK
      clear hlz hmk HIX HWX
      by_cases hm0 : m = 0
      · have HR := Lib.hid (HNK.out (by rw [HOK.out, decide_eq_true hm0]; rfl))
        have e1 : ((m : Int) == 0) = true := by simp [hm0]
        clear hm0
        go_wp2
        refine wp_region_grow (by kernel_rfl) (by kernel_rfl) ?_
        repeat (go_big_quiet_step (first | (go_at_call 56; exact calls_gw _ (hT _)) | (go_at_call 57; exact calls_gw _ (hLG _)) | (go_at_call 55; exact calls_gw_same _ (hIN _))))
        refine wpQuiet_nil ?_
        intro x3
        have hb3 := x3.ok
        clear c0 c1 hT hLG hIN
        generalize x3.val = w3 at *
        go_wp2
        go_ret
        exact ⟨by rw [HR.out]; try rfl, hbl.trans (hb3.mono hsz)⟩
      have e1 : ((m : Int) == 0) = false := by simpa using hm0
      cases ht : isTog ps zs
      · have HR := Lib.hid (HNK.out (by rw [HOK.out, ht, Bool.and_false]; rfl))
        rw [ht] at hT
        clear ht hm0
        go_wp2
        refine wp_region_grow (by kernel_rfl) (by kernel_rfl) ?_
        repeat (go_big_quiet_step (first | (go_at_call 56; exact calls_gw _ (hT _)) | (go_at_call 57; exact calls_gw _ (hLG _)) | (go_at_call 55; exact calls_gw_same _ (hIN _))))
        refine wpQuiet_nil ?_
        intro x3
        have hb3 := x3.ok
        clear c0 c1 hT hLG hIN
        generalize x3.val = w3 at *
        go_wp2
        go_ret
        exact ⟨by rw [HR.out]; try rfl, hbl.trans (hb3.mono hsz)⟩
      cases hg : inB g (leastG ps zs) 60
      · have HR := Lib.hid (HNK.out (by rw [HOK.out, hg, Bool.and_false]))
        rw [ht] at hT
        rw [hg] at hIN
        clear ht hm0 hg
        generalize leastG ps zs = lg at *
        go_wp2
        refine wp_region_grow (by kernel_rfl) (by kernel_rfl) ?_
        repeat (go_big_quiet_step (first | (go_at_call 56; exact calls_gw _ (hT _)) | (go_at_call 57; exact calls_gw _ (hLG _)) | (go_at_call 55; exact calls_gw_same _ (hIN _))))
        refine wpQuiet_nil ?_
        intro x3
        have hb3 := x3.ok
        clear c0 c1 hT hLG hIN
        generalize x3.val = w3 at *
        go_wp2
        go_ret
        exact ⟨by rw [HR.out]; try rfl, hbl.trans (hb3.mono hsz)⟩
      · have HR := Lib.hid (HGK.out (by rw [HOK.out, ht, hg, decide_eq_false hm0]; rfl))
        rw [ht] at hT
        rw [hg] at hIN
        clear ht hm0 hg
        generalize leastG ps zs = lg at *
        go_wp2
        refine wp_region_grow (by kernel_rfl) (by kernel_rfl) ?_
        repeat (go_big_quiet_step (first | (go_at_call 56; exact calls_gw _ (hT _)) | (go_at_call 57; exact calls_gw _ (hLG _)) | (go_at_call 55; exact calls_gw_same _ (hIN _))))
        refine wpQuiet_nil ?_
        intro x3
        have hb3 := x3.ok
        clear c0 c1 hT hLG hIN
        generalize x3.val = w3 at *
        go_wp2
        go_roundw
        case rel => exact ⟨k + 1, by omega, by go_num, HR.out, hbl.trans (hb3.mono hsz)⟩
        case measure => simp [intOf]; omega
    · obtain rfl : k = n2 := by omega
      have HR := Lib.hid (HEND.out fun j hj => HG.out j (by have := HL2.out; omega))
      have HS := Lib.hid (HS8.out wr hbl)
      have HBL := Lib.hid hbl
      clear hbl
      go_wp2_with fail
      refine HS.out.mono ?_
      rintro e w3 ⟨A4, c4, rfl, hss, hb3⟩
      have HB3 := Lib.hid (HBL.out.trans (hb3.mono HBL.out.size))
      have HCV := Lib.hid (spec_Covers A n c B ps A4 k c4 w3.heap.size (stgsOf p) w3 (h.below (HB3.out.mono hB)) hss (Nat.le_trans hB HB3.out.size) (Nat.le_refl _) hn (by omega) (fun j hj => by rw [stgsOf_at (by have := HL2.out; omega)]; have := HM.out j hj; omega))
      clear hb3 hss
      go_wp2_with fail
      refine HCV.out.mono ?_
      rintro e w4 ⟨rfl, hb4⟩
      go_wp2
      go_ret
      exact ⟨by rw [HR.out]; try rfl, HB3.out.trans (hb4.mono HB3.out.size)⟩
set_option maxHeartbeats 2000000 in
theorem spec_l8Long (A : Option Addr) (n c B : Nat) (ps : List Pth) (A2 : Option Addr) (n2 c2 B2 : Nat) (p : List Prt) (k : Nat) (w : World) (h : PthsAt w B A n ps) (hB : B ≤ w.heap.size) (hn : n ≤ 4294967296) (h2 : PrtsAt w B2 A2 n2 p) (hB2 : B2 ≤ w.heap.size) (hn2 : n2 ≤ 1048576) (hm : ∀ j, j < n2 → (prAt p j).stage.length ≤ 1048576) (hk : k < n2) (hg : -1000 ≤ (prAt p k).green ∧ (prAt p k).green ≤ 1000) :
    Calls Tryd.prog 65 #[.slice A n c, .slice A2 n2 c2, .int .i64 k] w fun e w' => e = .returned (.int .i64 (longAt ps p k)) ∧ Below w.heap.size w w' := by
  have hl2 := h2.1
  have hnx : nextJ p k < n2 := by have := nextJ_lt (p := p) (j := k) (by omega); omega
  have e1 : IntKind.i64.wrap ((k : Int) + 1) = (k : Int) + 1 := by rw [IntKind.wrap_i64]; omega
  have e2 : ((k : Int) + 1).tmod (n2 : Int) = ((nextJ p k : Nat) : Int) := by
    unfold nextJ
    rw [hl2, Int.tmod_eq_emod_of_nonneg (by omega), Int.natCast_emod, Int.natCast_add]
    rfl
  have hcb := clrAt_bound ps p k
  have e3 : IntKind.i64.wrap ((prAt p k).green + clrAt ps p k) = longAt ps p k := by
    unfold longAt
    rw [IntKind.wrap_i64]
    omega
  have HL : Hid (clrAt ps p k = clrB ps (prAt p k).stage (prAt p (nextJ p k)).stage) := Lib.hid rfl
  have hm1 := hm k hk
  have hm2 := hm _ hnx
  obtain ⟨ad, A', m, c', rfl, hab, hq, hi, hmc, hnil⟩ := h2.at hk
  obtain ⟨ad', A3, m3, c3, ea, hab3, hq3, hi3, hmc3, hnil3⟩ := h2.at hnx
  obtain rfl : ad = ad' := by injection ea
  clear ea
  have hlz := hi.1
  have hlz3 := hi3.1
  have HIX := Lib.hid (fun x : GW w => hi.laid hB2 x.ok)
  have HIX3 := Lib.hid (fun x : GW w => hi3.laid hB2 x.ok)
  have c0 := fun x : GW w => (hq.below x.ok (by omega)).c0
  have c1 := fun x : GW w => (hq.below x.ok (by omega)).c1
  have d0 := fun x : GW w => (hq3.below x.ok (by omega)).c0
  have i1 : (0 : Int) ≤ (k : Int) := by omega
  have i2 : (k : Int) < (n2 : Int) := by omega
  have z1 : ¬ n2 = 0 := by omega
  have z2 : ¬ (n2 : Int) = 0 := by omega
  generalize nextJ p k = nx at *
  have i3 : (0 : Int) ≤ (nx : Int) := by omega
  have i4 : (nx : Int) < (n2 : Int) := by omega
  generalize (prAt p nx).stage = zb at *
  generalize (prAt p k).stage = za at *
  generalize (prAt p k).green = g at *
  have hCB := fun x : GW w => spec_ClearBetween A n c B ps A' m c' B2 za A3 m3 c3 B2 zb x.val (h.below (x.ok.mono hB)) (Nat.le_trans hB x.ok.size) hn (HIX.out x) (Nat.le_trans hB2 x.ok.size) (by omega) (HIX3.out x) (Nat.le_trans hB2 x.ok.size) (by omega)
  rw [← HL.out] at hCB
  generalize clrAt ps p k = cl at *
  generalize longAt ps p k = r at *
  clear HL hlz hlz3 hm1 hm2 HIX HIX3 hq hi hq3 hi3 hl2 hm hg hcb hmc hmc3 hnil hnil3 hk hnx
  go_enter Tryd.func65, Tryd.ntmps65
  go_wp2
  refine wp_region_grow (by kernel_rfl) (by kernel_rfl) ?_
  repeat (go_big_quiet_step (first | (go_at_call 82; exact calls_gw _ (hCB _))))
  refine wpQuiet_nil ?_
  intro x3
  have hb3 := x3.ok
  clear c0 c1 d0 hCB
  generalize x3.val = w3 at *
  go_wp2
  go_ret
  exact ⟨rfl, hb3⟩
theorem plan_green {ps : List Pth} {p : List Prt} (h : isPlan ps p = true) {k : Nat} (hk : k < p.length) : -1000 ≤ (prAt p k).green ∧ (prAt p k).green ≤ 1000 := by
  obtain ⟨_, _, _, h4⟩ := isPlan_parts h
  obtain ⟨_, _, h5, h6⟩ := okPrt_parts (h4 k hk)
  have := leastG_bound ps (prAt p k).stage
  omega
theorem sum_wrap {ps : List Pth} {p : List Prt} (h : isPlan ps p = true) {k : Nat} (hk : k < p.length) : wrap64 (sumTo ps p k + longAt ps p k) = sumTo ps p (k + 1) := by
  obtain ⟨⟨_, h6⟩, _⟩ := isPlan_parts h
  have h1 := sumTo_bound h k (by omega)
  have h2 := longAt_bound h hk
  show _ = sumTo ps p k + longAt ps p k
  unfold wrap64
  omega
theorem isPlan_zero {ps : List Pth} {p : List Prt} (h : p.length = 0) : isPlan ps p = false := isPlan_len (by rw [h]; rfl)
set_option maxHeartbeats 2000000 in
theorem spec_Cycle (A : Option Addr) (n c B : Nat) (ps : List Pth) (A2 : Option Addr) (n2 c2 B2 : Nat) (p : List Prt) (w : World) (h : PthsAt w B A n ps) (hB : B ≤ w.heap.size) (hn : n ≤ 4294967296) (h2 : PrtsAt w B2 A2 n2 p) (hB2 : B2 ≤ w.heap.size) (hn2 : n2 ≤ 1048576) (hm : ∀ j, j < n2 → (prAt p j).stage.length ≤ 1048576) :
    Calls Tryd.prog 23 #[.slice A n c, .slice A2 n2 c2] w fun e w' => e = .returned (.int .i64 (cycleP ps p)) ∧ Below w.heap.size w w' := by
  have hl2 := h2.1
  have HIP := Lib.hid (fun x (hx : Below w.heap.size w x) => spec_IsPlan A n c B ps A2 n2 c2 B2 p x (h.below (hx.mono hB)) (Nat.le_trans hB hx.size) hn (h2.below hB2 hx) (Nat.le_trans hB2 hx.size) hn2 hm)
  have HL8 := Lib.hid (fun k x (hx : Below w.heap.size w x) (hk : k < n2) hg => spec_l8Long A n c B ps A2 n2 c2 B2 p k x (h.below (hx.mono hB)) (Nat.le_trans hB hx.size) hn (h2.below hB2 hx) (Nat.le_trans hB2 hx.size) hn2 hm hk hg)
  have HGR := Lib.hid (fun (hh : isPlan ps p = true) k (hk : k < n2) => plan_green hh (show k < p.length by omega))
  have HSM := Lib.hid (fun (hh : isPlan ps p = true) k (hk : k < n2) => sum_wrap hh (show k < p.length by omega))
  have HY : Hid (isPlan ps p = true → cycleP ps p = sumTo ps p n2) := Lib.hid (fun hh => by rw [cycle_yes hh, hl2])
  have HN := Lib.hid (fun (hh : isPlan ps p = false) => cycle_no hh)
  have HZ : Hid (n2 = 0 → isPlan ps p = false) := Lib.hid (fun hh => isPlan_zero (by omega))
  clear hl2 hm h h2 hB hB2
  go_enter Tryd.func23, Tryd.ntmps23
  go_wp2
  go_loopw [5, 6] (fun x i wr => ∃ (k : Nat) (q : Int), k ≤ n2 ∧ i = .int .i64 k ∧ x = .int .i64 q ∧ q = sumTo ps p k ∧ (0 < k → isPlan ps p = true) ∧ Below w.heap.size w wr) (fun _ i _ => n2 - (intOf i).toNat)
  case atStart => exact ⟨0, 0, Nat.zero_le _, rfl, rfl, rfl, fun hh => absurd hh (by omega), Below.refl _ _⟩
  case round =>
    obtain ⟨k, q, hk, rfl, rfl, hq, hgo, hbl⟩ := hrel
    have HGO := Lib.hid hgo
    have HQ := Lib.hid hq
    have HBW := Lib.hid hbl
    clear hgo hq hbl
    by_cases hlt : k < n2
    · go_wp2_with fail
      refine (HIP.out wr HBW.out).mono ?_
      cases hp : isPlan ps p
      · have HR : Hid (cycleP ps p = q) := Lib.hid (by
          rw [HN.out hp, HQ.out]
          by_cases e : 0 < k
          · have := HGO.out e
            rw [hp] at this
            cases this
          · obtain rfl : k = 0 := by omega
            rfl)
        rintro e w3 ⟨rfl, hb3⟩
        have HB3 := Lib.hid (HBW.out.trans (hb3.mono HBW.out.size))
        clear hb3 hp
        go_wp2
        go_ret
        exact ⟨by rw [HR.out]; try rfl, HB3.out⟩
      · rintro e w3 ⟨rfl, hb3⟩
        have HB3 := Lib.hid (HBW.out.trans (hb3.mono HBW.out.size))
        have HL := Lib.hid (HL8.out k w3 HB3.out hlt (HGR.out hp k hlt))
        have hS := HSM.out hp k hlt
        rw [← HQ.out] at hS
        have HS := Lib.hid hS
        have HP := Lib.hid hp
        clear hb3 hp hS
        generalize longAt ps p k = lo at *
        go_wp2_with fail
        refine HL.out.mono ?_
        rintro e w4 ⟨rfl, hb4⟩
        have HB4 := Lib.hid (HB3.out.trans (hb4.mono HB3.out.size))
        clear hb4
        go_wp2
        go_roundw
        case rel => exact ⟨k + 1, _, by omega, by go_num, rfl, HS.out, fun _ => HP.out, HB4.out⟩
        case measure => simp [intOf]; omega
    · obtain rfl : k = n2 := by omega
      have HR : Hid (cycleP ps p = q) := Lib.hid (by
        rw [HQ.out]
        by_cases e : 0 < k
        · exact HY.out (HGO.out e)
        · obtain rfl : k = 0 := by omega
          exact HN.out (HZ.out rfl))
      go_wp2
      go_ret
      exact ⟨by rw [HR.out]; try rfl, HBW.out⟩
set_option maxHeartbeats 2000000 in
theorem spec_StartOf (A : Option Addr) (n c B : Nat) (ps : List Pth) (A2 : Option Addr) (n2 c2 B2 : Nat) (p : List Prt) (a : Int) (w : World) (h : PthsAt w B A n ps) (hB : B ≤ w.heap.size) (hn : n ≤ 4294967296) (h2 : PrtsAt w B2 A2 n2 p) (hB2 : B2 ≤ w.heap.size) (hn2 : n2 ≤ 1048576) (hm : ∀ j, j < n2 → (prAt p j).stage.length ≤ 1048576) :
    Calls Tryd.prog 25 #[.slice A n c, .slice A2 n2 c2, .int .i64 a] w fun e w' => e = .returned (.int .i64 (startP ps p a)) ∧ Below w.heap.size w w' := by
  have hl2 := h2.1
  have HIP := Lib.hid (fun x (hx : Below w.heap.size w x) => spec_IsPlan A n c B ps A2 n2 c2 B2 p x (h.below (hx.mono hB)) (Nat.le_trans hB hx.size) hn (h2.below hB2 hx) (Nat.le_trans hB2 hx.size) hn2 hm)
  have HL8 := Lib.hid (fun k x (hx : Below w.heap.size w x) (hk : k < n2) hg => spec_l8Long A n c B ps A2 n2 c2 B2 p k x (h.below (hx.mono hB)) (Nat.le_trans hB hx.size) hn (h2.below hB2 hx) (Nat.le_trans hB2 hx.size) hn2 hm hk hg)
  have HGR := Lib.hid (fun (hh : isPlan ps p = true) k (hk : k < n2) => plan_green hh (show k < p.length by omega))
  have HSM := Lib.hid (fun (hh : isPlan ps p = true) k (hk : k < n2) => sum_wrap hh (show k < p.length by omega))
  have e1 : IntKind.i64.wrap ((n2 : Int) - 1) = (n2 : Int) - 1 := by rw [IntKind.wrap_i64]; omega
  have hst : startP ps p a = if isPlan ps p && inB a 0 ((n2 : Int) - 1) then sumTo ps p a.toNat else -1 := by unfold startP; rw [hl2]
  have HST := Lib.hid hst
  clear hl2 hm h h2 hB hB2 hst
  go_enter Tryd.func25, Tryd.ntmps25
  go_wp2_with fail
  refine (HIP.out w (Below.refl _ _)).mono ?_
  cases hp : isPlan ps p
  · have HR : Hid (startP ps p a = -1) := Lib.hid (by rw [HST.out, hp]; rfl)
    rintro e w3 ⟨rfl, hb3⟩
    clear hp
    go_wp2
    go_ret
    exact ⟨by rw [HR.out]; try rfl, hb3⟩
  rintro e w3 ⟨rfl, hb3⟩
  have HB3 := Lib.hid hb3
  have HP := Lib.hid hp
  clear hb3 hp
  have HIN := Lib.hid (spec_l1In a 0 ((n2 : Int) - 1) w3)
  go_wp2_with fail
  refine HIN.out.mono ?_
  cases hi : inB a 0 ((n2 : Int) - 1)
  · have HR : Hid (startP ps p a = -1) := Lib.hid (by rw [HST.out, hi, Bool.and_false]; rfl)
    rintro e w4 ⟨rfl, rfl⟩
    clear hi
    go_wp2
    go_ret
    exact ⟨by rw [HR.out]; try rfl, HB3.out⟩
  rintro e w4 ⟨rfl, rfl⟩
  have hab := inB_t hi
  obtain ⟨m, rfl⟩ : ∃ m : Nat, a = (m : Int) := ⟨a.toNat, by omega⟩
  have hmn : m < n2 := by omega
  have HR : Hid (startP ps p (m : Int) = sumTo ps p m) := Lib.hid (by rw [HST.out, hi, HP.out]; rfl)
  clear hi hab HST HIN
  go_wp2
  go_loopw [7, 8] (fun x i wr => ∃ (k : Nat) (q : Int), k ≤ m ∧ i = .int .i64 k ∧ x = .int .i64 q ∧ q = sumTo ps p k ∧ Below w.heap.size w wr) (fun _ i _ => m - (intOf i).toNat)
  case atStart => exact ⟨0, 0, Nat.zero_le _, rfl, rfl, rfl, HB3.out⟩
  case round =>
    obtain ⟨k, q, hk, rfl, rfl, hq, hbl⟩ := hrel
    have HQ := Lib.hid hq
    have HBW := Lib.hid hbl
    clear hq hbl
    by_cases hlt : k < m
    · have HL := Lib.hid (HL8.out k wr HBW.out (by omega) (HGR.out HP.out k (by omega)))
      have hS := HSM.out HP.out k (by omega)
      rw [← HQ.out] at hS
      have HS := Lib.hid hS
      clear hS
      generalize longAt ps p k = lo at *
      go_wp2_with fail
      refine HL.out.mono ?_
      rintro e w5 ⟨rfl, hb5⟩
      have HB5 := Lib.hid (HBW.out.trans (hb5.mono HBW.out.size))
      clear hb5
      go_wp2
      go_roundw
      case rel => exact ⟨k + 1, _, by omega, by go_num, rfl, HS.out, HB5.out⟩
      case measure => simp [intOf]; omega
    · obtain rfl : k = m := by omega
      have HR2 : Hid (startP ps p (k : Int) = q) := Lib.hid (by rw [HR.out, HQ.out])
      go_wp2
      go_ret
      exact ⟨by rw [HR2.out]; try rfl, HBW.out⟩
end Go.Proofs.YtmbbmffoihhdfaaDoor

/- The laws' helpers for rows of parts. -/
namespace Go.Proofs.YtmbbmffoihhdfaaDoor
open Go.RowKit
set_option linter.unusedVariables false

set_option maxHeartbeats 1000000 in
theorem to_prt (A : Option Addr) (n c B : Nat) (ps : List Prt) (w : World) (h : PrtsAt w B A n ps) (hB : B ≤ w.heap.size) (hn : n ≤ 1048576) (hm : ∀ j, j < n → (prAt ps j).stage.length ≤ 1048576) :
    Calls Tryd.prog 19 #[.slice A n c] w fun e w' => e = .returned (.slice (some ⟨w.heap.size, 0, none⟩) n n) ∧ (∃ xs, OwnPr w' w.heap.size (.slice (some ⟨w.heap.size, 0, none⟩) n n) xs ps) ∧ Below w.heap.size w w' := by
  have hl := h.1
  go_enter Tryd.func19, Tryd.ntmps19
  go_wp2_with ((with_reducible show wpList _ _ _ _ _ _); refine wpList_mkR rfl _ _ _ rfl 58 _ 2 _ Tryd.underlying29 info_prt (by decide) (n : Int) (n : Int) n rfl rfl rfl rfl (by omega) ?_; intro w1 hown hgrow)
  rw [made_prt] at hown
  go_loopw [4] (fun i wr => ∃ (k : Nat) (xs : List (Value × Int)), k ≤ n ∧ xs.length = k ∧ i = .int .i64 k ∧ wr.ownsRow w.heap.size 58 2 (.slice (some ⟨w.heap.size, 0, none⟩) n n) n (prow xs ++ prow (List.replicate (n - xs.length) (.slice none 0 0, 0))) ∧
      (∀ j, j < k → ∃ u, xs[j]? = some (u, (prAt ps j).green) ∧ Own .i64 3 wr w.heap.size u (prAt ps j).stage) ∧ ApartL (xs.map (·.1)) ∧ Below w.heap.size w wr) (fun i _ => n - (intOf i).toNat)
  case atStart => exact ⟨0, [], Nat.zero_le _, rfl, rfl, by simpa [prow] using hown, fun j hj => absurd hj (by omega), ApartL.nil, below_grown hgrow⟩
  case round =>
    clear hown hgrow
    obtain ⟨k, xs, hk, hul, rfl, hrow, heach, hap, hbl⟩ := hrel
    have hsz := hbl.size
    by_cases hlt : k < n
    · obtain ⟨ad, A', m, c', rfl, hab, hq, hi, hmc, hnil⟩ := h.at hlt
      obtain ⟨q0, q1⟩ := hq.below hbl (by omega)
      have hml := hi.1
      have hmk := hm k hlt
      have hiw := hi.keep (w' := wr) (fun p hp => hbl.cell (by omega))
      clear hq hi
      obtain ⟨zs, hzs⟩ : ∃ zs, (prAt ps k).stage = zs := ⟨_, rfl⟩
      obtain ⟨g, hgr⟩ : ∃ g, (prAt ps k).green = g := ⟨_, rfl⟩
      rw [hzs] at hml hmk hiw
      rw [hgr] at q1
      have HZS := Lib.hid hzs
      have HG := Lib.hid hgr
      clear hzs hgr
      go_wp2_with fail
      refine (law_toPart A' m c' B zs g wr hiw (by omega) (by omega)).mono ?_
      rintro e w2 ⟨a, rfl, ho, hb2⟩
      have hrow2 := ownr_below hrow hb2
      obtain ⟨x0, hx0⟩ := ownr_some hrow2 (j := k * 2) (by omega)
      obtain ⟨x1, hx1⟩ := ownr_some hrow2 (j := k * 2 + 1) (by omega)
      have f0 := World.ownsRow.frozenAt hrow2
      have hst := (World.ownsRow.stored (World.ownsRow.stored hrow2 (k * 2) (.slice (some a) m m)).1 (k * 2 + 1) (.int .i64 g)).1
      have hb3 := hbl.trans (hb2.mono hsz)
      have hgs : w2.grownBy ((w2.setCell ⟨w.heap.size, k * 2, none⟩ (.slice (some a) m m)).setCell ⟨w.heap.size, k * 2 + 1, none⟩ (.int .i64 g)) (some w.heap.size) := only_setCell (only_setCell (World.grownBy.refl _ _) _ _) _ _
      have hkept : ∀ {x : Value} {xs : List Int} {l : Nat}, Own .i64 3 w2 l x xs → Own .i64 3 ((w2.setCell ⟨w.heap.size, k * 2, none⟩ (.slice (some a) m m)).setCell ⟨w.heap.size, k * 2 + 1, none⟩ (.int .i64 g)) l x xs := fun hx => hx.grown hgs (fun g hg e => own_apartP hx hrow2 g hg e)
      have hsn : xs.length < n := by omega
      rw [← hul, prow_next xs n _ (.slice (some a) m m, g) hsn, hul] at hst
      have HR := Lib.hid hst
      have HE : Hid (∀ j, j < k + 1 → ∃ u, (xs ++ [(.slice (some a) m m, g)])[j]? = some (u, (prAt ps j).green) ∧ Own .i64 3 ((w2.setCell ⟨w.heap.size, k * 2, none⟩ (.slice (some a) m m)).setCell ⟨w.heap.size, k * 2 + 1, none⟩ (.int .i64 g)) w.heap.size u (prAt ps j).stage) := Lib.hid (by
        intro j hj
        by_cases hjk : j < k
        · obtain ⟨u, h1, h2⟩ := heach j hjk
          exact ⟨u, by rw [List.getElem?_append_left (by omega)]; exact h1, hkept (h2.below hb2)⟩
        · obtain rfl : j = xs.length := by omega
          refine ⟨_, (List.getElem?_append_right (Nat.le_refl _)).trans (by rw [Nat.sub_self, show xs.length = k from hul, HG.out]; rfl), ?_⟩
          rw [show xs.length = k from hul, HZS.out]
          exact hkept (ho.mono hsz))
      have HA : Hid (ApartL ((xs ++ [((Value.slice (some a) m m), g)]).map (·.1))) := Lib.hid (by
        rw [List.map_append]
        refine hap.snoc (b := wr.heap.size) (fun x hx g hg => ?_) (fun g hg => (ho.block g hg).1)
        obtain ⟨y, hy, rfl⟩ := List.mem_map.1 hx
        obtain ⟨j, hj, rfl⟩ := List.getElem_of_mem hy
        obtain ⟨u, h1, h2⟩ := heach j (by omega)
        rw [List.getElem?_eq_getElem hj] at h1
        injection h1 with h1
        rw [h1] at hg
        exact (h2.block g hg).2)
      have HB := Lib.hid hb3
      clear hrow heach hap hbl hb2 hb3 hgs hkept hst hrow2 ho hiw
      go_wp2
      go_roundw
      case rel => exact ⟨k + 1, xs ++ [(.slice (some a) m m, g)], by omega, by rw [List.length_append, hul]; rfl, by go_num, HR.out, HE.out, HA.out, (HB.out.setCell (Nat.le_refl _) _).setCell (Nat.le_refl _) _⟩
      case measure => simp [intOf]; omega
    · obtain rfl : k = n := by omega
      rw [hul, Nat.sub_self, List.replicate_zero] at hrow
      have HO : Hid (OwnPr wr w.heap.size (.slice (some ⟨w.heap.size, 0, none⟩) k k) xs ps) := Lib.hid ⟨by rw [hl]; simpa [prow] using hrow, fun j hj => heach j (by omega), hap⟩
      clear hrow heach hap
      go_wp2
      go_ret
      exact ⟨rfl, ⟨xs, HO.out⟩, hbl⟩
set_option maxHeartbeats 1000000 in
theorem law_eqPart (A : Option Addr) (n c B : Nat) (zs : List Int) (g : Int) (A2 : Option Addr) (n2 c2 : Nat) (w : World) (h : IntsAt .i64 w B A n zs) (h2 : IntsAt .i64 w B A2 n2 zs) (hB : B ≤ w.heap.size) (hn : n ≤ 4398046511104) :
    Calls Tryd.prog 64 #[.agg #[.slice A n c, .int .i64 g], .agg #[.slice A2 n2 c2, .int .i64 g]] w fun e w' => e = .returned (.bool true) ∧ Below w.heap.size w w' := by
  have hl := h.1
  have hl2 := h2.1
  have hq := fun w' (hb : Below w.heap.size w w') => eqs_i64 A n c zs A2 n2 c2 w' ((h.laid hB hb).up (by have := hb.size; omega)) ((h2.laid hB hb).up (by have := hb.size; omega)) (by omega) (by omega)
  have hb0 := ((Below.refl w.heap.size w).alloc (Nat.le_refl _) (.cells #[.slice A n c, .int .i64 g] 58)).alloc (by simp) (.cells #[.slice A2 n2 c2, .int .i64 g] 58)
  have HQ := Lib.hid hq
  have HB0 := Lib.hid hb0
  clear hq hb0 h h2
  have e1 : (g != g) = false := by simp
  have e2 : (!(g == g)) = false := by simp
  go_enter Tryd.func64, Tryd.ntmps64
  go_wp2_with fail
  refine (HQ.out _ HB0.out).mono ?_
  rintro e w2 ⟨rfl, hb2⟩
  have HB := Lib.hid (HB0.out.trans (hb2.mono HB0.out.size))
  have k0 : w2.cell? ⟨w.heap.size, 1, none⟩ = some (.int .i64 g) := (hb2.cell (p := ⟨w.heap.size, 1, none⟩) (by simp; omega)).trans (by go_simp)
  have k1 : w2.cell? ⟨w.heap.size + 1, 1, none⟩ = some (.int .i64 g) := (hb2.cell (p := ⟨w.heap.size + 1, 1, none⟩) (by simp)).trans (by go_simp)
  clear hb2
  go_wp2
  go_ret
  exact ⟨rfl, HB.out⟩
set_option maxHeartbeats 1000000 in
theorem eqs_prt (A : Option Addr) (n c : Nat) (ps : List Prt) (A2 : Option Addr) (n2 c2 : Nat) (w : World) (h : PrtsAt w w.heap.size A n ps) (h2 : PrtsAt w w.heap.size A2 n2 ps) (hn : n ≤ 4398046511104) (hn2 : n2 ≤ 4398046511104) (hm : ∀ j, j < n → (prAt ps j).stage.length ≤ 4398046511104) :
    Calls Tryd.prog 22 #[.slice A n c, .slice A2 n2 c2] w fun e w' => e = .returned (.bool true) ∧ Below w.heap.size w w' := by
  have hl := h.1
  have hl2 := h2.1
  obtain rfl : n = n2 := by omega
  go_enter Tryd.func22, Tryd.ntmps22
  go_wp2
  go_loopw [5] (fun i wr => ∃ k : Nat, k ≤ n ∧ i = .int .i64 k ∧ Below w.heap.size w wr) (fun i _ => n - (intOf i).toNat)
  case atStart => exact ⟨0, Nat.zero_le _, rfl, Below.refl _ _⟩
  case round =>
    obtain ⟨k, hk, rfl, hbl⟩ := hrel
    have hsz := hbl.size
    by_cases hlt : k < n
    · obtain ⟨ad, A', m, c', rfl, hab, hq, hi, hmc, hnil⟩ := h.at hlt
      obtain ⟨ad2, A2', m2, c2', rfl, hab2, hq2, hi2, hmc2, hnil2⟩ := h2.at hlt
      have hqq := fun x (hx : Below wr.heap.size wr x) => (hq.below hbl (by omega)).below hx (by omega)
      have hqq2 := fun x (hx : Below wr.heap.size wr x) => (hq2.below hbl (by omega)).below hx (by omega)
      have hmk := hm k hlt
      have hml := hi.1
      have hml2 := hi2.1
      have hiw := hi.keep (w' := wr) (fun p hp => hbl.cell (by omega))
      have hiw2 := hi2.keep (w' := wr) (fun p hp => hbl.cell (by omega))
      clear hq hq2 hi hi2
      generalize (prAt ps k).stage = zs at *
      generalize (prAt ps k).green = g at *
      have hcc := fun x (hx : Below wr.heap.size wr x) => law_eqPart A' m c' w.heap.size zs g A2' m2 c2' x (hiw.keep (w' := x) fun p hp => hx.cell (by omega)) (hiw2.keep (w' := x) fun p hp => hx.cell (by omega)) (by have := hx.size; omega) (by omega)
      have x1 : (0 : Int) ≤ (k : Int) := by omega
      have x2 : (k : Int) < (n : Int) := by omega
      have hdr : Below wr.heap.size wr wr.drew := ⟨rfl, rfl, rfl, Nat.le_refl _, fun _ _ => rfl⟩
      obtain ⟨y0, y1⟩ := hqq _ hdr
      obtain ⟨z0, z1⟩ := hqq2 _ hdr
      have HQ := Lib.hid hcc
      have HC := Lib.hid hqq
      have HC2 := Lib.hid hqq2
      clear hqq hqq2 hcc hiw hiw2
      go_wp2
      go_region_held3 (fun W' => W'.cell? (ad.add (k * 2)) = some (.slice A' m c') ∧ W'.cell? ⟨(ad.add (k * 2)).block, (ad.add (k * 2)).off + 1, none⟩ = some (.int .i64 g) ∧ W'.cell? (ad2.add (k * 2)) = some (.slice A2' m2 c2') ∧ W'.cell? ⟨(ad2.add (k * 2)).block, (ad2.add (k * 2)).off + 1, none⟩ = some (.int .i64 g)) (first | exact ⟨y0, y1, z0, z1⟩ | exact ⟨hy.c0, hy.c1, hz.c0, hz.c1⟩ | fail "keep")
        (first
          | (go_at_call 64; refine (HQ.out _ hdr).mono ?_; rintro e w3 ⟨rfl, hb3⟩; have hb4 := hdr.trans hb3; have hy := HC.out _ hb4; have hz := HC2.out _ hb4))
      have HB := Lib.hid (hbl.trans (hb4.mono hsz))
      clear hb3 hb4 y0 z0 y1 z1 hy hz hbl HQ HC HC2 hdr
      go_wp2
      go_roundw
      case rel => exact ⟨k + 1, by omega, by go_num, HB.out⟩
      case measure => simp [intOf]; omega
    · obtain rfl : k = n := by omega
      go_wp2
      go_ret
      exact ⟨rfl, hbl⟩
theorem sz_part (A : Option Addr) (n c : Nat) (g : Int) (left : Int) (w : World) (hn : n ≤ 9223372036854775807) (hl : 0 ≤ left ∧ left ≤ 1048576) :
    Calls Tryd.prog 54 #[.agg #[.slice A n c, .int .i64 g], .int .i64 left] w fun e w' => e = .returned (.int .i64 (if (n : Int) ≤ left then left - (n : Int) else -1)) ∧ Below w.heap.size w w' := by
  have HB := Lib.hid ((Below.refl w.heap.size w).alloc (Nat.le_refl _) (.cells #[.slice A n c, .int .i64 g] 56))
  by_cases h : (n : Int) ≤ left
  · have hz := fun x => sz_ints A n c left x hn hl
    simp only [if_pos h] at hz ⊢
    have HZ := Lib.hid hz
    clear hz
    go_enter Tryd.func54, Tryd.ntmps54
    go_wp2_with fail
    refine (HZ.out _).mono ?_
    rintro e w' ⟨rfl, rfl⟩
    go_wp2
    go_ret
    exact ⟨rfl, HB.out⟩
  · have hz := fun x => sz_ints A n c left x hn hl
    simp only [if_neg h] at hz ⊢
    have HZ := Lib.hid hz
    clear hz
    go_enter Tryd.func54, Tryd.ntmps54
    go_wp2_with fail
    refine (HZ.out _).mono ?_
    rintro e w' ⟨rfl, rfl⟩
    go_wp2
    go_ret
    exact ⟨rfl, HB.out⟩
/-- what szPartS says. -/
def szSaidP (left : Int) (n : Nat) (ps : List Prt) (r : Int) : Prop := r < 0 ∨ (0 ≤ r ∧ r ≤ left ∧ (n : Int) ≤ left ∧ ∀ j, j < n → ((prAt ps j).stage.length : Int) ≤ left)
set_option maxHeartbeats 1000000 in
theorem sz_prt (A : Option Addr) (n c B : Nat) (ps : List Prt) (left : Int) (w : World) (h : PrtsAt w B A n ps) (hB : B ≤ w.heap.size) (hn : n ≤ 9223372036854775807) (hm : ∀ j, j < n → (prAt ps j).stage.length ≤ 9223372036854775807) (hl : 0 ≤ left ∧ left ≤ 1048576) :
    Calls Tryd.prog 16 #[.slice A n c, .int .i64 left] w fun e w' => (∃ r : Int, e = .returned (.int .i64 r) ∧ szSaidP left n ps r) ∧ Below w.heap.size w w' := by
  have hl0 := h.1
  obtain ⟨l1, l2⟩ := hl
  by_cases hlt0 : (n : Int) ≤ left
  · go_enter Tryd.func16, Tryd.ntmps16
    go_wp2
    go_loopw [1, 5] (fun r i wr => ∃ (k : Nat) (q : Int), k ≤ n ∧ i = .int .i64 k ∧ r = .int .i64 q ∧ 0 ≤ q ∧ q ≤ left ∧ (∀ j, j < k → ((prAt ps j).stage.length : Int) ≤ left) ∧ Below w.heap.size w wr) (fun _ i _ => n - (intOf i).toNat)
    case atStart => exact ⟨0, left - n, Nat.zero_le _, rfl, rfl, by omega, by omega, fun j hj => absurd hj (by omega), Below.refl _ _⟩
    case round =>
      obtain ⟨k, q, hk, rfl, rfl, hq0, hq1, hall, hbl⟩ := hrel
      have HALL := Lib.hid hall
      clear hall
      by_cases hlt : k < n
      · obtain ⟨ad, A', m, c', rfl, hab, hq, hi, hmc, hnil⟩ := h.at hlt
        obtain ⟨y0, y1⟩ := hq.below hbl (by omega)
        have hml := hi.1
        have hmk := hm k hlt
        go_wp2_with fail
        refine (sz_part A' m c' _ q _ (by omega) ⟨hq0, by omega⟩).mono ?_
        rintro e w' ⟨rfl, hb2⟩
        have HB := Lib.hid (hbl.trans (hb2.mono hbl.size))
        clear hb2
        by_cases hle : (m : Int) ≤ q
        · rw [if_pos hle]
          have HK : Hid (((prAt ps k).stage.length : Int) ≤ left) := Lib.hid (by omega)
          clear hi hml hmk
          go_wp2
          go_roundw
          case rel => exact ⟨k + 1, q - m, by omega, by go_num, rfl, by omega, by omega, (fun j hj => by
            by_cases e : j < k
            · exact HALL.out j e
            · obtain rfl : j = k := by omega
              exact HK.out), HB.out⟩
          case measure => simp [intOf]; omega
        · rw [if_neg hle]
          go_wp2
          go_ret
          exact ⟨⟨-1, rfl, .inl (by decide)⟩, HB.out⟩
      · obtain rfl : k = n := by omega
        go_wp2
        go_ret
        exact ⟨⟨q, rfl, .inr ⟨hq0, hq1, hlt0, HALL.out⟩⟩, hbl⟩
  · go_enter Tryd.func16, Tryd.ntmps16
    go_wp2
    go_ret
    exact ⟨⟨-1, rfl, .inl (by decide)⟩, Below.refl _ _⟩
/-- how many marks the first k parts take. -/
def totP (ps : List Prt) (k : Nat) : Nat := ((ps.take k).map fun p => p.stage.length + 1).sum
theorem totP_zero (ps : List Prt) : totP ps 0 = 0 := by simp [totP]
theorem totP_succ {ps : List Prt} {k : Nat} (h : k < ps.length) : totP ps (k + 1) = totP ps k + ((prAt ps k).stage.length + 1) := by
  unfold totP
  rw [List.take_add_one, prAt_get h, List.map_append, List.sum_append]
  simp
theorem totP_le {ps : List Prt} (h : SmallP ps) : ∀ k, k ≤ ps.length → totP ps k ≤ k * 1048577
  | 0, _ => by rw [totP_zero]; exact Nat.zero_le _
  | k + 1, hk => by
    have ih := totP_le h k (by omega)
    have := h.2 k (by omega)
    rw [totP_succ (by omega)]
    omega
theorem totP_top {ps : List Prt} (h : SmallP ps) {k : Nat} (hk : k ≤ ps.length) : totP ps k ≤ 1099512676352 := by
  have h1 := totP_le h k hk
  have h2 := h.1
  have : k * 1048577 ≤ 1048576 * 1048577 := Nat.mul_le_mul_right _ (by omega)
  omega
/-- the j-th part when it is marked. -/
def mkP (s : Nat) (ps : List Prt) (j : Nat) : Prt := ⟨marks .i64 ((s + totP ps j : Nat) : Int) (prAt ps j).stage.length, ((s + totP ps j + (prAt ps j).stage.length : Nat) : Int)⟩
/-- the first k parts marked. -/
def mixP (s : Nat) (ps : List Prt) (k : Nat) : List Prt := (List.range ps.length).map fun j => if j < k then mkP s ps j else prAt ps j
theorem mixP_len (s : Nat) (ps : List Prt) (k : Nat) : (mixP s ps k).length = ps.length := by simp [mixP]
theorem mixP_at (s : Nat) (ps : List Prt) (k : Nat) {j : Nat} (h : j < ps.length) : prAt (mixP s ps k) j = if j < k then mkP s ps j else prAt ps j := prAt_some (by simp [mixP, h])
theorem mixP_zero (s : Nat) (ps : List Prt) : mixP s ps 0 = ps := by
  apply List.ext_getElem?
  intro i
  by_cases h : i < ps.length
  · rw [prAt_get h]
    simp [mixP, h]
  · rw [List.getElem?_eq_none (by rw [mixP_len]; omega), List.getElem?_eq_none (by omega)]
theorem set_atP {α : Type} {pre rest : List α} {z a : α} {m : Nat} (h : pre.length = m) : (pre ++ z :: rest).set m a = pre ++ a :: rest := by
  subst h
  rw [List.set_append_right _ _ (Nat.le_refl _), Nat.sub_self, List.set_cons_zero]
theorem prow_green {xs : List (Value × Int)} {k : Nat} {u : Value} {g : Int} (h : xs[k]? = some (u, g)) (g' : Int) : (prow xs).set (k * 2 + 1) (.int .i64 g') = prow (xs.set k (u, g')) := by
  have hk := (List.getElem?_eq_some_iff.1 h).1
  have hx := (List.getElem?_eq_some_iff.1 h).2
  have e : xs = xs.take k ++ (u, g) :: xs.drop (k + 1) := by
    rw [← hx, ← List.drop_eq_getElem_cons hk, List.take_append_drop]
  have hl : (xs.take k).length = k := by rw [List.length_take]; omega
  have e2 : xs.set k (u, g') = xs.take k ++ (u, g') :: xs.drop (k + 1) := by
    conv => lhs; rw [e]
    exact set_atP hl
  have e3 : prow xs = (prow (xs.take k) ++ [u]) ++ .int .i64 g :: prow (xs.drop (k + 1)) := by
    conv => lhs; rw [e, prow_append]
    simp [prow]
  rw [e2, e3, set_at (by rw [List.length_append, prow_length, hl]; rfl), prow_append]
  simp [prow]
theorem fst_set {xs : List (Value × Int)} {k : Nat} {u : Value} {g : Int} (h : xs[k]? = some (u, g)) (g' : Int) : (xs.set k (u, g')).map (·.1) = xs.map (·.1) := by
  apply List.ext_getElem?
  intro i
  rw [List.getElem?_map, List.getElem?_map, List.getElem?_set]
  by_cases e : k = i
  · subst e
    rw [if_pos rfl, h, if_pos (List.getElem?_eq_some_iff.1 h).1]
    rfl
  · rw [if_neg e]
set_option maxHeartbeats 1000000 in
set_option maxRecDepth 100000 in
theorem marked_prt (A : Option Addr) (n c lo hi s : Nat) (xs : List (Value × Int)) (ps : List Prt) (w : World) (h : OwQ w lo hi (.slice A n c) xs ps) (hap : ApartL (xs.map (·.1))) (hz : SmallP ps) (hs : s ≤ 2199023255552) :
    Calls Tryd.prog 30 #[.slice A n c, .int .i64 s] w fun e w' => e = .returned (.int .i64 ((s + totP ps n : Nat) : Int)) ∧ (∃ xs', OwQ w' lo hi (.slice A n c) xs' (mixP s ps n)) ∧ Part lo hi w w' := by
  have hl : ps.length = n := (ownr_len h.own.row).symm
  have hz1 := hz.1
  go_enter Tryd.func30, Tryd.ntmps30
  go_wp2
  go_loopw [1, 5] (fun x i wr => ∃ (k q : Nat) (xs' : List (Value × Int)), k ≤ n ∧ i = .int .i64 k ∧ x = .int .i64 (q : Int) ∧ q = s + totP ps k ∧ xs'.map (·.1) = xs.map (·.1) ∧ OwQ wr lo hi (.slice A n c) xs' (mixP s ps k) ∧ Part lo hi w wr) (fun _ i _ => n - (intOf i).toNat)
  case atStart => exact ⟨0, s, xs, Nat.zero_le _, rfl, rfl, by rw [totP_zero]; rfl, rfl, by rw [mixP_zero]; exact h, ⟨rfl, rfl, rfl, Nat.le_refl _, fun _ _ _ => rfl⟩⟩
  case round =>
    clear h
    obtain ⟨k, q, xs', hk, rfl, rfl, hq, hxs, ho, hp⟩ := hrel
    have HQ := Lib.hid hq
    clear hq
    by_cases hlt : k < n
    · have hml := mixP_len s ps k
      obtain ⟨u, hu, hown⟩ := ho.own.each k (by omega)
      have hmk := mixP_at s ps k (j := k) (by omega)
      rw [if_neg (Nat.lt_irrefl k)] at hmk
      obtain ⟨zs, hzs⟩ : ∃ zs, (prAt ps k).stage = zs := ⟨_, rfl⟩
      obtain ⟨gr, hgr⟩ : ∃ gr, (prAt ps k).green = gr := ⟨_, rfl⟩
      rw [hmk, hzs] at hown
      rw [hmk, hgr] at hu
      have hlen := hz.2 k (by omega)
      rw [hzs] at hlen
      have htt := totP_top hz (k := k) (by omega)
      have hts := totP_succ (ps := ps) (k := k) (by omega)
      rw [hzs] at hts
      have HZS := Lib.hid hzs
      have hqb : q ≤ 4398046511104 := by have := HQ.out; omega
      have HQ2 : Hid (q + zs.length + 1 = s + totP ps (k + 1)) := Lib.hid (by have := HQ.out; omega)
      clear hts htt hzs
      obtain ⟨A', c', rfl⟩ := hown.sliced
      rcases ownr_shape ho.own.row with ⟨e, he⟩ | ⟨g, cap, e, hg, hgs, _⟩
      · exfalso; omega
      injection e with e1 e2 e3
      clear e2 e3
      obtain rfl := e1
      have hrow := ho.own.row
      rw [mixP_len, hl] at hrow
      have hca := World.ownsRow.cellAt hrow (k * 2)
      have q0 := (hca (by omega)).trans (prow_at0 hu)
      clear hca
      have HO := Lib.hid ho
      have HP := Lib.hid hp
      have HU := Lib.hid hu
      have HMK := Lib.hid hmk
      have HXS := Lib.hid hxs
      clear ho hp hu hmk hxs hrow
      go_wp2_with fail
      refine (mark_i64 A' _ c' lo q zs wr hown (by omega) (by omega)).mono ?_
      rintro e w3 ⟨rfl, ho3, hg3⟩
      have hrow3 := ownr_grown HO.out.own.row hg3 (fun g hg e => own_apartP hown HO.out.own.row g e hg)
      rw [mixP_len, hl] at hrow3
      have hf := World.ownsRow.frozenAt hrow3
      obtain ⟨x1, hx1⟩ := ownr_some hrow3 (j := k * 2 + 1) (by omega)
      have hca := World.ownsRow.cellAt hrow3 (k * 2)
      have q0' := (hca (by omega)).trans (prow_at0 HU.out)
      clear hca
      have hst := (World.ownsRow.stored hrow3 (k * 2 + 1) (.int .i64 ((q + zs.length : Nat) : Int))).1
      rw [prow_green HU.out] at hst
      have hgs3 : w3.grownBy (w3.setCell ⟨g, k * 2 + 1, none⟩ (.int .i64 ((q + zs.length : Nat) : Int))) (some g) := only_setCell (World.grownBy.refl _ _) _ _
      have hkept : ∀ {x : Value} {ys : List Int} {l : Nat}, Own .i64 3 w3 l x ys → Own .i64 3 (w3.setCell ⟨g, k * 2 + 1, none⟩ (.int .i64 ((q + zs.length : Nat) : Int))) l x ys := fun hx => hx.grown hgs3 (fun g' hg' e => own_apartP hx hrow3 g' hg' e)
      have HO3 : Hid (OwQ (w3.setCell ⟨g, k * 2 + 1, none⟩ (.int .i64 ((q + zs.length : Nat) : Int))) lo hi (.slice (some ⟨g, 0, none⟩) n c) (xs'.set k (.slice A' zs.length c', ((q + zs.length : Nat) : Int))) (mixP s ps (k + 1))) := Lib.hid ⟨⟨by
          rw [mixP_len, hl]
          exact hst, fun j hj => by
          rw [mixP_len] at hj
          rw [mixP_at s ps (k + 1) hj]
          by_cases hjk : j = k
          · subst hjk
            rw [if_pos (Nat.lt_succ_self _)]
            refine ⟨.slice A' zs.length c', ?_, ?_⟩
            · rw [List.getElem?_set_self (List.getElem?_eq_some_iff.1 HU.out).1]
              unfold mkP
              simp only [HZS.out, ← HQ.out]
            · unfold mkP
              simp only [HZS.out, ← HQ.out]
              exact hkept ho3
          · obtain ⟨x, h1, h2⟩ := HO.out.own.each j (by rw [mixP_len]; exact hj)
            rw [mixP_at s ps k hj] at h1 h2
            have hif : (if j < k + 1 then mkP s ps j else prAt ps j) = (if j < k then mkP s ps j else prAt ps j) := by
              by_cases hj2 : j < k
              · rw [if_pos hj2, if_pos (by omega)]
              · rw [if_neg hj2, if_neg (by omega)]
            rw [hif]
            refine ⟨x, ?_, hkept (h2.grown hg3 (fun g' hg' e => ?_))⟩
            · rw [List.getElem?_set_ne (fun e => hjk e.symm)]
              exact h1
            · have f1 : (xs'.map (·.1))[j]? = some x := by rw [List.getElem?_map, h1]; rfl
              have f2 : (xs'.map (·.1))[k]? = some (.slice A' zs.length c') := by rw [List.getElem?_map, HU.out]; rfl
              rw [HXS.out] at f1 f2
              exact hap j k _ _ hjk f1 f2 g' hg' e⟩, HO.out.lt, fun y hy g' hg' => by
          have hy1 : y.1 ∈ xs'.map (·.1) := by
            rw [← fst_set HU.out ((q + zs.length : Nat) : Int)]
            exact List.mem_map_of_mem hy
          obtain ⟨z, hz, e⟩ := List.mem_map.1 hy1
          exact HO.out.ltu z hz g' (by rw [e]; exact hg'), Nat.le_trans HO.out.top (Nat.le_trans hg3.size hgs3.size)⟩
      have hglt := HO.out.lt g rfl
      have HP3 : Hid (Part lo hi w (w3.setCell ⟨g, k * 2 + 1, none⟩ (.int .i64 ((q + zs.length : Nat) : Int)))) := Lib.hid ⟨hgs3.os.trans (hg3.os.trans HP.out.os), hgs3.tape.trans (hg3.tape.trans HP.out.tape), hgs3.output.trans (hg3.output.trans HP.out.output), Nat.le_trans HP.out.size (Nat.le_trans hg3.size hgs3.size), fun i hi' hd => ((hgs3.block i (Nat.lt_of_lt_of_le hi' (Nat.le_trans HP.out.size hg3.size)) (fun e => by
        have e' : i = g := Option.some.inj e
        omega)).trans (hg3.block i (Nat.lt_of_lt_of_le hi' HP.out.size) (fun e => by
        have := HO.out.ltu _ (List.mem_of_getElem? HU.out) i e.symm
        omega))).trans (HP.out.block i hi' hd)⟩
      have HX3 : Hid ((xs'.set k (.slice A' zs.length c', ((q + zs.length : Nat) : Int))).map (·.1) = xs.map (·.1)) := Lib.hid ((fst_set HU.out _).trans HXS.out)
      have HQ3 := Lib.hid HQ2.out
      have hq2b : q + zs.length ≤ 8796093022208 := by omega
      generalize q + zs.length = q2 at *
      clear ho3 hg3 hown HO HP HU hgs3 hkept hst hrow3
      go_wp2
      go_roundw
      case rel => exact ⟨k + 1, q2 + 1, _, by omega, by go_num, by go_num, HQ3.out, HX3.out, HO3.out, HP3.out⟩
      case measure => simp [intOf]; omega
    · obtain rfl : k = n := by omega
      have HO := Lib.hid ho
      have HP := Lib.hid hp
      clear ho hp
      go_wp2
      go_ret
      exact ⟨by first | (rw [← HQ.out]; rfl) | (rw [show ((s : Int) + (totP ps k : Int)) = ((q : Nat) : Int) by rw [HQ.out]; simp]; rfl), ⟨_, HO.out⟩, HP.out⟩
set_option maxHeartbeats 1000000 in
set_option maxRecDepth 100000 in
theorem held_prt (A : Option Addr) (n c s : Nat) (ps : List Prt) (w : World) (h : PrtsAt w w.heap.size A n (mixP s ps n)) (hn : n = ps.length) (hz : SmallP ps) (hs : s ≤ 2199023255552) :
    Calls Tryd.prog 31 #[.slice A n c, .int .i64 s] w fun e w' => e = .returned (.int .i64 ((s + totP ps n : Nat) : Int)) ∧ Below w.heap.size w w' := by
  have hz1 := hz.1
  have hn' := hn.symm
  clear hn
  go_enter Tryd.func31, Tryd.ntmps31
  go_wp2
  go_loopw [1, 5] (fun x i wr => ∃ k q : Nat, k ≤ n ∧ i = .int .i64 k ∧ x = .int .i64 (q : Int) ∧ q = s + totP ps k ∧ Below w.heap.size w wr) (fun _ i _ => n - (intOf i).toNat)
  case atStart => exact ⟨0, s, Nat.zero_le _, rfl, rfl, by rw [totP_zero]; rfl, Below.refl _ _⟩
  case round =>
    obtain ⟨k, q, hk, rfl, rfl, hq, hbl⟩ := hrel
    have HQ := Lib.hid hq
    clear hq
    by_cases hlt : k < n
    · obtain ⟨ad, A', m, c', rfl, hab, hpa, hi, hmc, hnil⟩ := h.at hlt
      have hmk := mixP_at s ps n (j := k) (by omega)
      rw [if_pos hlt] at hmk
      obtain ⟨zs, hzs⟩ : ∃ zs, (prAt ps k).stage = zs := ⟨_, rfl⟩
      rw [hmk] at hi hpa
      unfold mkP at hi hpa
      simp only [hzs, ← HQ.out] at hi hpa
      have hml := hi.1
      rw [marks_length] at hml
      subst hml
      have hlen := hz.2 k (by omega)
      rw [hzs] at hlen
      have htt := totP_top hz (k := k) (by omega)
      have hts := totP_succ (ps := ps) (k := k) (by omega)
      rw [hzs] at hts
      have HZS := Lib.hid hzs
      have hqb : q ≤ 4398046511104 := by have := HQ.out; omega
      have HQ2 : Hid (q + zs.length + 1 = s + totP ps (k + 1)) := Lib.hid (by have := HQ.out; omega)
      clear hts htt hzs
      obtain ⟨q0, q1⟩ := hpa.below hbl (by omega)
      have hiw := hi.keep (w' := wr) (fun p hp => hbl.cell (by omega))
      have HB := Lib.hid hbl
      have habw := Nat.lt_of_lt_of_le hab hbl.size
      clear hi hbl hmk hpa
      go_wp2_with fail
      refine (held_i64 A' _ c' w.heap.size q wr hiw (by omega) (by omega)).mono ?_
      rintro e w3 ⟨rfl, hb3⟩
      have HB3 := Lib.hid (HB.out.trans (hb3.mono HB.out.size))
      have HQ3 := Lib.hid HQ2.out
      have r0 := (hb3.cell habw).trans q0
      have r1 := (hb3.cell (p := ⟨(ad.add (k * 2)).block, (ad.add (k * 2)).off + 1, none⟩) habw).trans q1
      have hq2b : q + zs.length ≤ 8796093022208 := by omega
      have e1 : ((((q + zs.length : Nat)) : Int) != ((q + zs.length : Nat) : Int)) = false := by simp
      have e3 : ((((q + zs.length : Nat)) : Int) == ((q + zs.length : Nat) : Int)) = true := by simp
      generalize q + zs.length = q2 at *
      clear hb3 hiw q0 q1
      go_wp2
      go_roundw
      case rel => exact ⟨k + 1, q2 + 1, by omega, by go_num, by go_num, HQ3.out, HB3.out⟩
      case measure => simp [intOf]; omega
    · obtain rfl : k = n := by omega
      go_wp2
      go_ret
      exact ⟨by first | (rw [← HQ.out]; rfl) | (rw [show ((s : Int) + (totP ps k : Int)) = ((q : Nat) : Int) by rw [HQ.out]; simp]; rfl), hbl⟩
end Go.Proofs.YtmbbmffoihhdfaaDoor

/- IsPlan, Cycle, StartOf as their exact laws meet them. -/
namespace Go.Proofs.YtmbbmffoihhdfaaDoor
open Go.RowKit
set_option linter.unusedVariables false

theorem sp_IsPlan (A0 : Option Addr) (n0 c0 : Nat) (zs0 : List Pth) (A1 : Option Addr) (n1 c1 : Nat) (zs1 : List Prt) (w : World) (h0 : SlP w A0 n0 c0 zs0) (hs0 : n0 ≤ 1048576) (h1 : SlQ w A1 n1 c1 zs1) (hs1 : SmallP zs1) (r : Bool) (hr : isPlan zs0 zs1 = r) :
    Calls Tryd.prog 17 #[.slice A0 n0 c0, .slice A1 n1 c1] w fun e w' => e = .returned (.bool r) ∧ Below w.heap.size w w' := by
  subst hr
  have hq1 := h1.prts.1
  have hz1 := hs1.1
  exact spec_IsPlan A0 n0 c0 _ zs0 A1 n1 c1 _ zs1 w h0.pths (Nat.le_refl _) (by omega) h1.prts (Nat.le_refl _) (by omega) (hs1.at _ _ hq1.symm (Nat.le_refl _))
theorem im_IsPlan (A0 : Option Addr) (n0 c0 : Nat) (zs0 : List Pth) (A1 : Option Addr) (n1 c1 : Nat) (zs1 : List Prt) (w : World) (h0 : SlP w A0 n0 c0 zs0) (hs0 : n0 ≤ 1048576) (h1 : SlQ w A1 n1 c1 zs1) (hs1 : SmallP zs1) (hv0 : Brus w) (hv1 : Clrs w) (r : Bool) (hr : isPlan zs0 zs1 = r) :
    Calls Tryd.prog 20 #[.slice A0 n0 c0, .slice A1 n1 c1] w fun e w' => e = .returned (.bool r) ∧ Below w.heap.size w w' := by
  subst hr
  have hq1 := h1.prts.1
  have hz1 := hs1.1
  exact impl_IsPlan ⟨h0.pths, Nat.le_refl _, h0.cap, by omega, h1.prts, Nat.le_refl _, by omega, hs1.at _ _ hq1.symm (Nat.le_refl _), hv0, hv1⟩
theorem sp_Cycle (A0 : Option Addr) (n0 c0 : Nat) (zs0 : List Pth) (A1 : Option Addr) (n1 c1 : Nat) (zs1 : List Prt) (w : World) (h0 : SlP w A0 n0 c0 zs0) (hs0 : n0 ≤ 1048576) (h1 : SlQ w A1 n1 c1 zs1) (hs1 : SmallP zs1) (r : Int) (hr : cycleP zs0 zs1 = r) :
    Calls Tryd.prog 23 #[.slice A0 n0 c0, .slice A1 n1 c1] w fun e w' => e = .returned (.int .i64 r) ∧ Below w.heap.size w w' := by
  subst hr
  have hq1 := h1.prts.1
  have hz1 := hs1.1
  exact spec_Cycle A0 n0 c0 _ zs0 A1 n1 c1 _ zs1 w h0.pths (Nat.le_refl _) (by omega) h1.prts (Nat.le_refl _) (by omega) (hs1.at _ _ hq1.symm (Nat.le_refl _))
theorem im_Cycle (A0 : Option Addr) (n0 c0 : Nat) (zs0 : List Pth) (A1 : Option Addr) (n1 c1 : Nat) (zs1 : List Prt) (w : World) (h0 : SlP w A0 n0 c0 zs0) (hs0 : n0 ≤ 1048576) (h1 : SlQ w A1 n1 c1 zs1) (hs1 : SmallP zs1) (hv0 : Brus w) (hv1 : Clrs w) (r : Int) (hr : cycleP zs0 zs1 = r) :
    Calls Tryd.prog 24 #[.slice A0 n0 c0, .slice A1 n1 c1] w fun e w' => e = .returned (.int .i64 r) ∧ Below w.heap.size w w' := by
  subst hr
  have hq1 := h1.prts.1
  have hz1 := hs1.1
  exact impl_Cycle ⟨h0.pths, Nat.le_refl _, h0.cap, by omega, h1.prts, Nat.le_refl _, by omega, hs1.at _ _ hq1.symm (Nat.le_refl _), hv0, hv1⟩
theorem sp_StartOf (A0 : Option Addr) (n0 c0 : Nat) (zs0 : List Pth) (A1 : Option Addr) (n1 c1 : Nat) (zs1 : List Prt) (a2 : Int) (w : World) (h0 : SlP w A0 n0 c0 zs0) (hs0 : n0 ≤ 1048576) (h1 : SlQ w A1 n1 c1 zs1) (hs1 : SmallP zs1) (wa2 : (Lit.int .i64 a2).wf = true) (r : Int) (hr : startP zs0 zs1 a2 = r) :
    Calls Tryd.prog 25 #[.slice A0 n0 c0, .slice A1 n1 c1, .int .i64 a2] w fun e w' => e = .returned (.int .i64 r) ∧ Below w.heap.size w w' := by
  subst hr
  have hq1 := h1.prts.1
  have hz1 := hs1.1
  exact spec_StartOf A0 n0 c0 _ zs0 A1 n1 c1 _ zs1 a2 w h0.pths (Nat.le_refl _) (by omega) h1.prts (Nat.le_refl _) (by omega) (hs1.at _ _ hq1.symm (Nat.le_refl _))
theorem im_StartOf (A0 : Option Addr) (n0 c0 : Nat) (zs0 : List Pth) (A1 : Option Addr) (n1 c1 : Nat) (zs1 : List Prt) (a2 : Int) (w : World) (h0 : SlP w A0 n0 c0 zs0) (hs0 : n0 ≤ 1048576) (h1 : SlQ w A1 n1 c1 zs1) (hs1 : SmallP zs1) (wa2 : (Lit.int .i64 a2).wf = true) (hv0 : Brus w) (hv1 : Clrs w) (r : Int) (hr : startP zs0 zs1 a2 = r) :
    Calls Tryd.prog 26 #[.slice A0 n0 c0, .slice A1 n1 c1, .int .i64 a2] w fun e w' => e = .returned (.int .i64 r) ∧ Below w.heap.size w w' := by
  subst hr
  have hq1 := h1.prts.1
  have hz1 := hs1.1
  exact impl_StartOf ⟨h0.pths, Nat.le_refl _, h0.cap, by omega, h1.prts, Nat.le_refl _, by omega, hs1.at _ _ hq1.symm (Nat.le_refl _), hv0, hv1⟩ a2
end Go.Proofs.YtmbbmffoihhdfaaDoor

/- The same step for a law whose row names package-level variables of the program's own: they read behind the call as before. -/
namespace Go.Proofs.YtmbbmffoihhdfaaDoor
open Go.ChangeShapes Go.WideShapes Go.ChangeAt Go.RowKit Go.WideElems

/-- A variable that can be read, or is of an interface type. -/
def varTold (P : Program) (n : String) : Bool :=
  match (P.globalNamed n).bind (P.globals[·]?) with
  | some gl => (P.readableRec gl.type && decide (gl.type < P.types.size)) || (match P.underlying gl.type with | some (.interface _) => true | _ => false)
  | none => false

theorem trod_iface {H : Type} {enc : TypeId × Value → H} {P : Program} {W W' : World} {t : TypeId} {ms : Array (String × TypeId)} (ht : P.underlying t = some (.interface ms)) {fuel : Nat} {cs : List Value} {y : DataW H × List MemPlace}
    (sp sp' : Nat → Bool) (h : DataW.trod enc P W 0 sp true fuel t cs = some y) : DataW.trod enc P W' 0 sp' true fuel t cs = some y := by
  cases fuel with
  | zero => simp [DataW.trod] at h
  | succ m =>
    simp only [DataW.trod, ht] at h ⊢
    split at h <;> simp_all

theorem trodVars_stays {H : Type} {enc : TypeId × Value → H} {P : Program} (hl : laidOutB P = true) {W W' : World} (hb : Below W.heap.size W W') :
    ∀ {ns : List String} {gs : List (DataW H)} {ps : List MemPlace}, ns.all (varTold P) = true → DataW.TrodVars enc P W (fun _ => true) ns gs ps → DataW.TrodVars enc P W' (fun b => decide (b < W.heap.size)) ns gs ps
  | [], [], _, _, h => h
  | [], _ :: _, _, _, h => h.elim
  | _ :: _, [], _, _, h => h.elim
  | n :: ns, d :: ds, ps, hv, h => by
    have hlt := h.lt
    obtain ⟨g, t, cs, fuel, p, q, h1, h2, h3, h4, hs, e⟩ := h
    simp only [List.all_cons, Bool.and_eq_true] at hv
    have h3' : W'.var? P n = some cs := by
      unfold World.var? at h3 ⊢
      rw [h1] at h3 ⊢
      simp only [Option.bind_some] at h3 ⊢
      have hg : g < W.heap.size := by
        cases hh : W.heap[g]? with
        | none => rw [hh] at h3; cases h3
        | some o => exact (Array.getElem?_eq_some_iff.1 hh).1
      rw [hb.block g hg]; exact h3
    have hp : ∀ x ∈ p, x.block < W.heap.size := fun x hx => hlt x (by rw [e]; simp [hx])
    refine ⟨g, t, cs, fuel, p, q, h1, h2, h3', ?_, trodVars_stays hl hb hv.2 hs, e⟩
    have ht := hv.1
    unfold varTold at ht
    rw [h1, Option.bind_some] at ht
    cases hg : P.globals[g]? with
    | none => rw [hg] at ht; cases ht
    | some gl =>
      rw [hg] at h2 ht
      obtain rfl : gl.type = t := Option.some.inj h2
      simp only [Bool.or_eq_true, Bool.and_eq_true, decide_eq_true_eq] at ht
      rcases ht with ht | ht
      · exact DataW.trod_stays (kids_book hl ht.1) (book_sized ht.1) (fun h => by cases h) ⟨ht.2, book_self gl.type⟩ h4 (fun x hx => hb.same (hp x hx)) (fun x hx => by simpa using hp x hx)
      · split at ht
        · rename_i ms hu
          exact trod_iface hu _ _ h4
        · cases ht

theorem trodVars_length {H : Type} {enc : TypeId × Value → H} {P : Program} {W : World} {sp : Nat → Bool} : ∀ {ns : List String} {gs : List (DataW H)} {ps : List MemPlace}, DataW.TrodVars enc P W sp ns gs ps → gs.length = ns.length
  | [], [], _, _ => rfl
  | [], _ :: _, _, h => h.elim
  | _ :: _, [], _, h => h.elim
  | _ :: _, _ :: _, _, h => by
    obtain ⟨_, _, _, _, _, _, _, _, _, _, hs, _⟩ := h
    simp [trodVars_length hs]

/-- What the row asks of a law: its answer is true, its arguments and the named variables read as they did. -/
theorem post_law_vars {H : Type} {enc : TypeId × Value → H} {P : Program} {f : Func} {s : ChangeSpec} {tb : TypeId} {W W' : World} {args : Array Value} {ds gs : List (DataW H)} {before : List MemPlace}
    (hv : s.vars.all (varTold P) = true) (hf : f.resultTypes = #[tb]) (ub : P.underlying tb = some .bool) (hl : laidOutB P = true)
    (hr : (f.params.toList.all fun t => P.readableRec t && decide (t < P.types.size)) = true)
    (hW : DataW.Whole enc P f.params.toList s.vars false W args.toList ds gs before)
    (hs : s.fn H (ds ++ gs) = { results := [.lit (.bool true)], args := ds, vars := gs }) (hb : Below W.heap.size W W') :
    s.post enc P f false true false false W args (.bool true) W' := by
  have hW0 := hW
  obtain ⟨p, q, hA, hV, rfl, hz, hn⟩ := hW
  have hlt : ∀ x ∈ p ++ q, x.block < W.heap.size := fun x hx => hW0.lt x hx
  refine ⟨ds, gs, _, [], p, q, hW0, ?_, ?_, ?_, hb.frame _, fun h => by cases h⟩
  · rw [hs, hf]
    exact trodAll_mk1 (shut_bool ub true)
  · rw [hs]
    exact trodAll_stays hl hb _ _ _ _ hr hA (fun x hx => hlt x (List.mem_append_left _ hx))
  · rw [hs]
    exact trodVars_stays hl hb hv hV

/-- The law's row, lifted, out of its walk; 'laid' is what the row's variables read as. -/
theorem law_lifted_vars {H : Type} {enc : TypeId × Value → H} {C : Checked} {os : Os} {k : FuncId} {fn : Func} {s : ChangeSpec} {tb : TypeId} {laid : List (String × DataW Unit)}
    (own : ownKnob C.prog.godebug = none) (started : os.Started) (noInit : C.prog.inits.idxOf? k = none) (hfn : C.prog.funcs[k]? = some fn)
    (witness : ∃ (w : World) (tape : Tape) (i : Input), w.os = os ∧ (w.forCall tape i).Shaped C.prog ∧ i.vars = [] ∧ Input.okWide C.prog (w.forCall tape i) .any w.heap.size k i ∧
      ((s.pre enc C.prog fn [] false (w.forCall tape i).memory i.args ∧ laidMetH C.prog laid (w.forCall tape i).memory) ∧ sizedMet enc C.prog fn (OpenSpec.ofChange s) false (w.forCall tape i).memory i.args) ∧
      Assume.holds {} C.prog (lone (Frame.enter C.prog k i.args .normal) [] (w.forCall tape i)))
    (hv : s.vars.all (varTold C.prog) = true) (hf : fn.resultTypes = #[tb]) (ub : C.prog.underlying tb = some .bool) (hl : laidOutB C.prog = true)
    (hr : (fn.params.toList.all fun t => C.prog.readableRec t && decide (t < C.prog.types.size)) = true)
    (hs : ∀ ds gs : List (DataW H), ds.length = fn.params.size → gs.length = s.vars.length → s.fn H (ds ++ gs) = { results := [.lit (.bool true)], args := ds, vars := gs })
    (walk : ∀ (W : World) (base : Nat) (args : Array Value) (ds : List (DataW H)) (ps : List MemPlace),
      (∀ (j : Nat) t v, fn.params[j]? = some t → args[j]? = some v → Value.okWide C.prog W .any base t v) →
      DataW.TrodAll enc C.prog W 0 (fun _ => true) true fn.params.toList args.toList ds ps → (∀ x ∈ ps, x.block < W.heap.size) → W.noneFrozen ps → laidMetH C.prog laid W →
      Calls C.prog k args W fun e W' => e = .returned (.bool true) ∧ Below W.heap.size W W') :
    ReturnsInHanded {} C os k .any (fun w args => (s.pre enc C.prog fn [] false w args ∧ laidMetH C.prog laid w) ∧ sizedMet enc C.prog fn (OpenSpec.ofChange s) false w args)
      (s.post enc C.prog fn false true false false) := by
  refine returnsInHanded_of_change_and (C := C) (X := fun w _ => laidMetH C.prog laid w) (fun _ _ _ hh h => h.of_heap hh) own started noInit hfn witness ?_
  intro W base args ds gs before hval hW _ _ hL _
  have hW0 := hW
  obtain ⟨p, q, hA, hV, rfl, hz, _⟩ := hW
  have hlt : ∀ x ∈ p, x.block < W.heap.size := fun x hx => hW0.lt x (List.mem_append_left _ hx)
  refine (walk W base args ds p hval hA hlt (fun b off hm => hz b off (List.mem_append_left _ hm)) hL).mono fun e W' ⟨he, hb⟩ => ?_
  subst he
  exact ⟨_, rfl, post_law_vars hv hf ub hl hr hW0 (hs ds gs (by rw [trodAll_length _ _ _ _ hA]; simp) (trodVars_length hV)) hb⟩
end Go.Proofs.YtmbbmffoihhdfaaDoor

/- A law's arguments that are paths or rows of paths. -/
namespace Go.Proofs.YtmbbmffoihhdfaaDoor
open Go.ChangeShapes Go.WideShapes Go.ChangeAt Go.RowKit Go.Joins
open Go.Deep (oneCellFields open_slice hone_of)

section
variable {H : Type} {enc : TypeId × Value → H} {P : Program}
theorem cell_int {W : World} {b0 : Nat} {sp : Nat → Bool} {hd : Bool} {n : Nat} {t : TypeId} {v : Value} {y : DataW H × List MemPlace} (ht : P.underlying t = some (.int .i64)) (h : DataW.trod enc P W b0 sp hd n t [v] = some y) : ∃ a : Int, v = .int .i64 a ∧ (Lit.int .i64 a).wf = true ∧ y.2 = [] := by
  obtain ⟨a, h1, h2, h3⟩ := DataW.trod_int ht h
  simp at h1
  exact ⟨a, h1, h3, by rw [h2]⟩
theorem arg_path {t : TypeId} {f0 f1 f2 f3 : Field} {W : World} {base : Nat} {v : Value} {d : DataW H} {ps : List MemPlace} (hs : P.underlying t = some (.struct #[f0, f1, f2, f3])) (hone : oneCellFields P #[f0, f1, f2, f3] = true) (hC : P.cellsOf t = 4)
    (h0 : P.underlying f0.type = some (.int .i64)) (h1 : P.underlying f1.type = some (.int .i64)) (h2 : P.underlying f2.type = some (.int .i64)) (h3 : P.underlying f3.type = some (.int .i64))
    (hval : Value.okWide P W .any base t v) (hd : DataW.Trod enc P W 0 (fun _ => true) true t v d ps) : ∃ p : Pth, v = p.val ∧ p.wf := by
  obtain ⟨v0, v1, v2, v3, y0, y1, y2, y3, n, rfl, -, -, t0, t1, t2, t3⟩ := open_agg4 hs hone hC hval hd
  obtain ⟨a, rfl, wa, -⟩ := cell_int h0 t0
  obtain ⟨b, rfl, wb, -⟩ := cell_int h1 t1
  obtain ⟨c, rfl, wc, -⟩ := cell_int h2 t2
  obtain ⟨e, rfl, we, -⟩ := cell_int h3 t3
  exact ⟨⟨a, b, c, e⟩, rfl, wa, wb, wc, we⟩
/-- the elements' fields of a slice of structs. -/
theorem open_slice_fields {w : World} {base : Nat} {spare : Nat → Bool} {held : Bool} {t e : TypeId} {fs : Array Field} {fuel : Nat} {cs : List Value} {x : DataW H × List MemPlace} (ht : P.underlying t = some (.slice e)) (he : P.underlying e = some (.struct fs))
    (hone : oneCellFields P fs = true) (hC : P.cellsOf e = fs.size) (h : DataW.trod enc P w base spare held fuel t cs = some x) :
    (cs = [.slice none 0 0] ∧ x = (.nil, [])) ∨
    ∃ (a : Addr) (len cap m : Nat) (D : Nat → DataW H) (Pl : Nat → List MemPlace), cs = [.slice (some a) len cap] ∧ base ≤ a.block ∧ len ≤ cap ∧ cap ≤ maxLen ∧ m = (if spare a.block then cap else len) ∧
      x = (.slice ((List.range len).map D) ((List.range (m - len)).map fun j => D (len + j)), MemPlace.row a (m * fs.size) ++ (List.range m).flatMap Pl) ∧
      ∀ i, i < m → ∃ (ys : List (DataW H × List MemPlace)) (n : Nat), D i = .agg (ys.map (·.1)) ∧ Pl i = ys.flatMap (·.2) ∧ ys.length = fs.size ∧
        ∀ (j : Nat) (f : Field), fs[j]? = some f → ∃ (v : Value) (y : DataW H × List MemPlace), w.cell? (a.add (i * fs.size + j)) = some v ∧ ys[j]? = some y ∧ DataW.trod enc P w base spare held n f.type [v] = some y := by
  rcases open_slice ht h with h0 | ⟨a, len, cap, m, n, D, Pl, hcs, hb, hl, hm, hmm, hx, hi⟩
  · exact .inl h0
  · refine .inr ⟨a, len, cap, m, D, Pl, hcs, hb, hl, hm, hmm, by rw [hC] at hx; exact hx, fun i him => ?_⟩
    obtain ⟨cs', hc, ht'⟩ := hi i him
    rw [hC] at hc
    obtain ⟨ys, n', hn', hy, hlen, hyl, hf⟩ := DataW.trod_struct he ht'
    obtain ⟨_, hcl, hat⟩ := World.cells?_some hc
    simp only [Prod.mk.injEq] at hy
    refine ⟨ys, n', hy.1, hy.2, hyl, fun j f hj => ?_⟩
    obtain ⟨ho, hk⟩ := hone_of hone j f hj
    have hjl : j < fs.size := (Array.getElem?_eq_some_iff.1 hj).1
    have hcell := hat j hjl
    have hv : cs'[j]? = some (cs'[j]'(by omega)) := List.getElem?_eq_getElem (by omega)
    have h1 := hf j f hj
    rw [ho, hk] at h1
    have hone' : (cs'.drop j).take 1 = [cs'[j]'(by omega)] := by
      rw [List.drop_eq_getElem_cons (by omega)]
      rfl
    rw [hone'] at h1
    have hys : ys[j]? = some (ys[j]'(by omega)) := List.getElem?_eq_getElem (by omega)
    refine ⟨_, _, ?_, hys, h1.trans hys⟩
    rw [← Go.Deep.add_add, hcell, hv]
theorem choose_upto {α : Type} {n : Nat} {R : Nat → α → Prop} (h : ∀ i, i < n → ∃ x, R i x) : ∃ l : List α, l.length = n ∧ ∀ (i : Nat) x, l[i]? = some x → R i x := by
  induction n with
  | zero => exact ⟨[], rfl, fun i x hi => by simp at hi⟩
  | succ n ih =>
    obtain ⟨l, hl, hR⟩ := ih fun i hi => h i (by omega)
    obtain ⟨x, hx⟩ := h n (by omega)
    refine ⟨l ++ [x], by simp [hl], fun i y hy => ?_⟩
    rw [List.getElem?_append] at hy
    split at hy
    · exact hR i y hy
    · rename_i hge
      have hi : i = n := by
        have := (List.getElem?_eq_some_iff.1 hy).1
        simp at this
        omega
      subst hi
      simp [hl] at hy
      subst hy
      exact hx
/-- A slice of paths that came in. -/
theorem arg_paths {t e : TypeId} {f0 f1 f2 f3 : Field} {W : World} {base : Nat} {v : Value} {d : DataW H} {ps : List MemPlace} (ht : P.underlying t = some (.slice e)) (he : P.underlying e = some (.struct #[f0, f1, f2, f3])) (hone : oneCellFields P #[f0, f1, f2, f3] = true) (hC : P.cellsOf e = 4)
    (h0 : P.underlying f0.type = some (.int .i64)) (h1 : P.underlying f1.type = some (.int .i64)) (h2 : P.underlying f2.type = some (.int .i64)) (h3 : P.underlying f3.type = some (.int .i64))
    (hval : Value.okWide P W .any base t v) (hd : DataW.Trod enc P W 0 (fun _ => true) true t v d ps) (hlt : ∀ x ∈ ps, x.block < W.heap.size) :
    ∃ (A : Option Addr) (n c : Nat) (zs : List Pth), v = .slice A n c ∧ (PthsAt W W.heap.size A n zs ∧ (∀ z ∈ zs, z.wf) ∧ n ≤ c ∧ c ≤ maxLen) := by
  obtain ⟨a, len, cap, rfl⟩ := okWide_slice ht hval
  obtain ⟨fuel, hf⟩ := hd
  rcases open_slice_fields ht he hone (by rw [hC]; rfl) hf with ⟨h1, _⟩ | ⟨a', len', cap', m, D, Pl, hcs, _, hl, hm, hmm, hx, hi⟩
  · have h1' : [Value.slice a len cap] = [Value.slice none 0 0] := h1
    simp only [List.cons.injEq, and_true] at h1'
    exact ⟨none, 0, 0, [], h1', ⟨rfl, rfl, fun h => absurd h (by omega)⟩, by simp, Nat.le_refl _, Nat.zero_le _⟩
  · have h1' : [Value.slice a len cap] = [Value.slice (some a') len' cap'] := hcs
    simp only [List.cons.injEq, and_true] at h1'
    rw [if_pos rfl] at hmm
    subst hmm
    obtain ⟨zs, hzl, hz⟩ := choose_upto (n := len') (R := fun i (p : Pth) => p.wf ∧ ∀ (j : Nat) u, p.cells[j]? = some u → W.cell? (a'.add (i * 4 + j)) = some u) (fun i hil => by
      obtain ⟨ys, n, _, _, _, hj⟩ := hi i (by omega)
      obtain ⟨v0, y0, c0, _, t0⟩ := hj 0 f0 rfl
      obtain ⟨v1, y1, c1, _, t1⟩ := hj 1 f1 rfl
      obtain ⟨v2, y2, c2, _, t2⟩ := hj 2 f2 rfl
      obtain ⟨v3, y3, c3, _, t3⟩ := hj 3 f3 rfl
      obtain ⟨x0, rfl, w0, -⟩ := cell_int h0 t0
      obtain ⟨x1, rfl, w1, -⟩ := cell_int h1 t1
      obtain ⟨x2, rfl, w2, -⟩ := cell_int h2 t2
      obtain ⟨x3, rfl, w3, -⟩ := cell_int h3 t3
      refine ⟨⟨x0, x1, x2, x3⟩, ⟨w0, w1, w2, w3⟩, fun j u hu => ?_⟩
      match j, hu with
      | 0, hu => simp [Pth.cells] at hu; subst hu; exact c0
      | 1, hu => simp [Pth.cells] at hu; subst hu; exact c1
      | 2, hu => simp [Pth.cells] at hu; subst hu; exact c2
      | 3, hu => simp [Pth.cells] at hu; subst hu; exact c3
      | j + 4, hu => simp [Pth.cells] at hu)
    refine ⟨some a', len', m, zs, h1', ⟨hzl, by rw [pcells_length, hzl], fun hn => ⟨a', rfl, ?_, fun j u hu => ?_⟩⟩, fun z hzm => ?_, hl, hm⟩
    · have hmem : MemPlace.cell a'.block (a'.off + 0) ∈ ps := by
        have e := congrArg Prod.snd hx
        simp only at e
        rw [e]
        exact List.mem_append_left _ (List.mem_map.2 ⟨0, List.mem_range.2 (by simp; omega), rfl⟩)
      exact hlt _ hmem
    · have hlen : j < zs.length * 4 := by
        have := (List.getElem?_eq_some_iff.1 hu).1
        rwa [pcells_length] at this
      have hd4 : j / 4 < zs.length := by omega
      have hp : zs[j / 4]? = some zs[j / 4] := List.getElem?_eq_getElem hd4
      have hg := flat_get (s := 4) (f := Pth.cells) (fun _ => rfl) zs (j / 4) (j % 4) _ hp (by omega)
      have ej : j / 4 * 4 + j % 4 = j := by clear hi hz hx; omega
      rw [ej] at hg
      have := (hz _ _ hp).2 (j % 4) u (hg.symm.trans hu)
      rwa [ej] at this
    · obtain ⟨i, hil, rfl⟩ := List.getElem_of_mem hzm
      exact (hz i _ (List.getElem?_eq_getElem hil)).1
end
end Go.Proofs.YtmbbmffoihhdfaaDoor

/- A law's arguments that are rows of parts. -/
namespace Go.Proofs.YtmbbmffoihhdfaaDoor
open Go.ChangeShapes Go.WideShapes Go.ChangeAt Go.RowKit Go.Joins
open Go.Deep (oneCellFields open_slice hone_of)

section
variable {H : Type} {enc : TypeId × Value → H} {P : Program}
/-- A slice of parts that came in. -/
theorem arg_prts {t e i : TypeId} {f0 f1 : Field} {W : World} {base : Nat} {v : Value} {d : DataW H} {ps : List MemPlace} (ht : P.underlying t = some (.slice e)) (he : P.underlying e = some (.struct #[f0, f1])) (hone : oneCellFields P #[f0, f1] = true) (hC : P.cellsOf e = 2)
    (h0 : P.underlying f0.type = some (.slice i)) (hi : P.underlying i = some (.int .i64)) (hci : P.cellsOf i = 1) (h1 : P.underlying f1.type = some (.int .i64))
    (hval : Value.okWide P W .any base t v) (hd : DataW.Trod enc P W 0 (fun _ => true) true t v d ps) (hlt : ∀ x ∈ ps, x.block < W.heap.size) :
    ∃ (A : Option Addr) (n c : Nat) (zs : List Prt), v = .slice A n c ∧ (PrtsAt W W.heap.size A n zs ∧ (∀ z ∈ zs, z.wf) ∧ n ≤ c ∧ c ≤ maxLen) := by
  obtain ⟨a, len, cap, rfl⟩ := okWide_slice ht hval
  obtain ⟨fuel, hf⟩ := hd
  rcases open_slice_fields ht he hone (by rw [hC]; rfl) hf with ⟨h1, _⟩ | ⟨a', len', cap', m, D, Pl, hcs, _, hl, hm, hmm, hx, hii⟩
  · have h1' : [Value.slice a len cap] = [Value.slice none 0 0] := h1
    simp only [List.cons.injEq, and_true] at h1'
    exact ⟨none, 0, 0, [], h1', ⟨rfl, fun h => absurd h (by omega)⟩, by simp, Nat.le_refl _, Nat.zero_le _⟩
  · have h1' : [Value.slice a len cap] = [Value.slice (some a') len' cap'] := hcs
    simp only [List.cons.injEq, and_true] at h1'
    rw [if_pos rfl] at hmm
    subst hmm
    have hps : ps = MemPlace.row a' (m * 2) ++ (List.range m).flatMap Pl := congrArg Prod.snd hx
    obtain ⟨zs, hzl, hz⟩ := choose_upto (n := len') (R := fun j (p : Prt) => p.wf ∧ ∃ A' m' c', PrtAt W (a'.add (j * 2)) (.slice A' m' c') p.green ∧ IntsAt .i64 W W.heap.size A' m' p.stage ∧ (m' ≤ c' ∧ c' ≤ maxLen) ∧ (A' = none → m' = 0 ∧ c' = 0)) (fun j hjl => by
      obtain ⟨ys, n, _, hPl, _, hj⟩ := hii j (by omega)
      obtain ⟨v0, y0, c0, g0, t0⟩ := hj 0 f0 rfl
      obtain ⟨v1, y1, c1, _, t1⟩ := hj 1 f1 rfl
      obtain ⟨x1, rfl, w1, -⟩ := cell_int h1 t1
      have c1' : W.cell? ⟨(a'.add (j * 2)).block, (a'.add (j * 2)).off + 1, none⟩ = some (.int .i64 x1) := by
        rw [← add_plus _ 1 (by decide), add_add]
        exact c1
      rcases open_ints h0 hi hci t0 with ⟨h2, _⟩ | ⟨b, l2, cp2, zs, h2, _, hl2, hm2, hzl2, hx2, hc2, hwf2⟩
      · simp only [List.cons.injEq, and_true] at h2
        exact ⟨⟨[], x1⟩, ⟨Nat.zero_le _, by simp, w1⟩, none, 0, 0, ⟨by rw [← h2]; exact c0, c1'⟩, ⟨rfl, fun h => absurd h (by omega)⟩, ⟨Nat.le_refl _, Nat.zero_le _⟩, fun _ => ⟨rfl, rfl⟩⟩
      · simp only [List.cons.injEq, and_true] at h2
        rw [if_pos rfl] at hzl2
        refine ⟨⟨zs.take l2, x1⟩, ⟨by simp only [List.length_take]; omega, fun z hzm => hwf2 z (List.mem_of_mem_take hzm), w1⟩, some b, l2, cp2, ⟨by rw [← h2]; exact c0, c1'⟩, ⟨by simp only [List.length_take]; omega, fun hn => ⟨b, rfl, ?_, fun q hq => ?_⟩⟩, ⟨hl2, hm2⟩, by simp⟩
        · have hmem : MemPlace.cell b.block (b.off + 0) ∈ ps := by
            rw [hps]
            refine List.mem_append_right _ (List.mem_flatMap.2 ⟨j, List.mem_range.2 (by omega), ?_⟩)
            rw [hPl]
            refine List.mem_flatMap.2 ⟨y0, List.mem_of_getElem? g0, ?_⟩
            have e2 : y0.2 = MemPlace.row b zs.length := congrArg Prod.snd hx2
            rw [e2]
            exact List.mem_map.2 ⟨0, List.mem_range.2 (by omega), rfl⟩
          exact hlt _ hmem
        · rw [hc2 q (by omega)]
          simp [List.getD_eq_getElem?_getD, hq])
    refine ⟨some a', len', m, zs, h1', ⟨hzl, fun hn => ⟨a', rfl, ?_, fun j hj => ?_⟩⟩, fun z hzm => ?_, hl, hm⟩
    · have hmem : MemPlace.cell a'.block (a'.off + 0) ∈ ps := by
        rw [hps]
        exact List.mem_append_left _ (List.mem_map.2 ⟨0, List.mem_range.2 (by omega), rfl⟩)
      exact hlt _ hmem
    · exact (hz j _ (prAt_get (by omega))).2
    · obtain ⟨j, hj, rfl⟩ := List.getElem_of_mem hzm
      exact (hz j _ (List.getElem?_eq_getElem hj)).1
end
end Go.Proofs.YtmbbmffoihhdfaaDoor
