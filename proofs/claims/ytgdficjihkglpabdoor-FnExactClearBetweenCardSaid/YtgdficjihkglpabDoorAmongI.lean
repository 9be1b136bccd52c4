/- stageAmong, IsTogether: the program. -/
import Derived.Test.YtgdficjihkglpabDoorStageI
namespace Go.Proofs.YtgdficjihkglpabDoor
open Go.RowKit
set_option linter.unusedVariables false

theorem results_cell_tmp2 {fn : Func} {p u v : Tmp} {ty : TypeId} (h : fn.results = #[.cell p ty, .tmp u, .tmp v]) (tmps : Array Value) (P : Program) (w : World) :
    (results fn tmps).run P w =
      ((asAddr (tmps.getD p undef)).run P w).andThen fun a w₁ => ((loadVar ty a).run P w₁).andThen fun x w₂ => .ok (.tuple #[x, tmps.getD u undef, tmps.getD v undef]) w₂ := by
  simp only [results, h]
  simp [Sem.run_bind, Result.andThen]
theorem cross_lit (A : Option Addr) (n c : Nat) (f : Nat → Nat) : (xcells A n c f).toArray = #[.slice A n c, .int .u16 (f 0 : Nat), .int .u16 (f 1 : Nat), .int .u16 (f 2 : Nat), .int .u16 (f 3 : Nat), .int .u16 (f 4 : Nat), .int .u16 (f 5 : Nat), .int .u16 (f 6 : Nat), .int .u16 (f 7 : Nat), .int .u16 (f 8 : Nat), .int .u16 (f 9 : Nat), .int .u16 (f 10 : Nat), .int .u16 (f 11 : Nat)] := rfl
/-- what stageAmong answers. -/
def amongV (A : Option Addr) (n c : Nat) (ps : List Pth) (ids : List Int) : Value :=
  if arePs ps then match stI ps (rowSt ps n 0) ids with
    | none => .tuple #[.agg (xcells A n c (rowSt ps n 0)).toArray, .int .u16 0, .bool false]
    | some m => .tuple #[.agg (xcells A n c (rowSt ps n 0)).toArray, .int .u16 (m : Nat), .bool true]
  else .tuple #[.agg (xcells none 0 0 fun _ => 0).toArray, .int .u16 0, .bool false]
theorem zero_block (w : World) : (w.alloc (.cells #[.slice none 0 0, .int .u16 0, .int .u16 0, .int .u16 0, .int .u16 0, .int .u16 0, .int .u16 0, .int .u16 0, .int .u16 0, .int .u16 0, .int .u16 0, .int .u16 0, .int .u16 0] 55)).heap[w.heap.size]? = some (.cells #[.slice none 0 0, .int .u16 0, .int .u16 0, .int .u16 0, .int .u16 0, .int .u16 0, .int .u16 0, .int .u16 0, .int .u16 0, .int .u16 0, .int .u16 0, .int .u16 0, .int .u16 0] 55 (0, 0)) := heap_alloc_new w _
set_option maxHeartbeats 1000000 in
set_option maxRecDepth 100000 in
theorem impl_stageAmong_no (A : Option Addr) (n c B : Nat) (ps : List Pth) (A2 : Option Addr) (n2 c2 : Nat) (zs : List Int) (w : World) (h : PthsAt w B A n ps) (hB : B ≤ w.heap.size) (hn : n ≤ 4294967296) (hp : arePs ps = false) :
    Calls Tryd.prog 44 #[.slice A n c, .slice A2 n2 c2] w fun e w' => e = .returned (amongV A n c ps zs) ∧ Below w.heap.size w w' := by
  have HV : Hid (amongV A n c ps zs = .tuple #[.agg (xcells none 0 0 fun _ => 0).toArray, .int .u16 0, .bool false]) := Lib.hid (by unfold amongV; rw [hp]; rfl)
  have HPA := Lib.hid hp
  have hz := zero_block w
  have hba : Below w.heap.size w (w.alloc (.cells #[.slice none 0 0, .int .u16 0, .int .u16 0, .int .u16 0, .int .u16 0, .int .u16 0, .int .u16 0, .int .u16 0, .int .u16 0, .int .u16 0, .int .u16 0, .int .u16 0, .int .u16 0] 55)) := (Below.refl _ _).alloc (Nat.le_refl _) _
  have hs0 : (w.alloc (.cells #[.slice none 0 0, .int .u16 0, .int .u16 0, .int .u16 0, .int .u16 0, .int .u16 0, .int .u16 0, .int .u16 0, .int .u16 0, .int .u16 0, .int .u16 0, .int .u16 0, .int .u16 0] 55)).heap.size = w.heap.size + 1 := by simp
  have HA := Lib.hid ((h.below (hba.mono hB)).up (B' := w.heap.size + 1) (by omega))
  have HB0 := Lib.hid hba
  have HZ := Lib.hid hz
  have HS0 := Lib.hid hs0
  clear hba hp hz h hs0
  go_enter Tryd.func44, Tryd.ntmps44
  go_wp2_with fail
  refine (impl_crossingOf_no A n c _ ps _ (by rw [HS0.out]; exact HA.out) (Nat.le_refl _) hn HPA.out).mono ?_
  rw [cross_lit]
  rintro e w1 ⟨rfl, hb⟩
  have HB1 := Lib.hid (HB0.out.trans (hb.mono HB0.out.size))
  have hlt : w.heap.size < w1.heap.size := by have := hb.size; rw [HS0.out] at this; omega
  have HZ1 := Lib.hid ((hb.block w.heap.size (by rw [HS0.out]; omega)).trans HZ.out)
  clear hb
  have hth : ∀ o : Obj, (w1.alloc o).there w.heap.size 0 13 := fun o => there_block ((Below.heap_alloc w1 o _ hlt).trans HZ1.out) 13 rfl
  have HTH := Lib.hid hth
  clear hth
  go_wp2_with ((with_reducible show wpList _ _ _ _ _ _); refine wpList_store_mid rfl 55 _ _ rfl w.heap.size 0 (xcells none 0 0 fun _ => 0).toArray rfl rfl (HTH.out _) info_cross (all_oneCell_toArray (xcells_one _ _ _ _)) ?_)
  refine bodyPost_ret (v := .tuple #[.agg (xcells none 0 0 fun _ => 0).toArray, .int .u16 0, .bool false]) (by
        have hload := fun o => run_loadVar_mid (P := Tryd.prog) ((w1.alloc o).setCells w.heap.size 0 (xcells none 0 0 fun _ => 0)) w.heap.size 0 55 (xcells none 0 0 fun _ => 0) _ (World.rangeAt_setCells_same _ _ _ _ (by rw [xcells_length]; exact HTH.out o)) Tryd.underlying55 rfl (by rw [xcells_length]; exact info_cross)
        rw [results_cell_tmp2 rfl]
        simp [asAddr, hload, Result.andThen]) rfl ⟨by rw [HV.out], ?_⟩
  exact below_setCells _ (Nat.le_refl _) _ _ _ (HB1.out.alloc HB1.out.size _)
set_option maxHeartbeats 1000000 in
set_option maxRecDepth 100000 in
theorem impl_stageAmong_yes (A : Option Addr) (n c B : Nat) (ps : List Pth) (A2 : Option Addr) (n2 c2 : Nat) (zs : List Int) (w : World) (h : PthsAt w B A n ps) (hB : B ≤ w.heap.size) (hn : n ≤ c ∧ c ≤ maxLen) (hp : arePs ps = true) (h2 : IntsAt .i64 w w.heap.size A2 n2 zs) (hn2 : n2 ≤ 4294967296) (hw : Brus w) :
    Calls Tryd.prog 44 #[.slice A n c, .slice A2 n2 c2] w fun e w' => e = .returned (amongV A n c ps zs) ∧ Below w.heap.size w w' := by
  have hl := h.1
  have h12 : n ≤ 12 := by have := arePs_len12 hp; omega
  have HV : Hid (amongV A n c ps zs = match stI ps (rowSt ps n 0) zs with
    | none => .tuple #[.agg (xcells A n c (rowSt ps n 0)).toArray, .int .u16 0, .bool false]
    | some m => .tuple #[.agg (xcells A n c (rowSt ps n 0)).toArray, .int .u16 (m : Nat), .bool true]) := Lib.hid (by unfold amongV; rw [hp]; rfl)
  have HPA := Lib.hid hp
  have hz := zero_block w
  have hba : Below w.heap.size w (w.alloc (.cells #[.slice none 0 0, .int .u16 0, .int .u16 0, .int .u16 0, .int .u16 0, .int .u16 0, .int .u16 0, .int .u16 0, .int .u16 0, .int .u16 0, .int .u16 0, .int .u16 0, .int .u16 0] 55)) := (Below.refl _ _).alloc (Nat.le_refl _) _
  have hs0 : (w.alloc (.cells #[.slice none 0 0, .int .u16 0, .int .u16 0, .int .u16 0, .int .u16 0, .int .u16 0, .int .u16 0, .int .u16 0, .int .u16 0, .int .u16 0, .int .u16 0, .int .u16 0, .int .u16 0] 55)).heap.size = w.heap.size + 1 := by simp
  have HA := Lib.hid ((h.below (hba.mono hB)).up (B' := w.heap.size + 1) (by omega))
  have HB0 := Lib.hid hba
  have HZ := Lib.hid hz
  have HS0 := Lib.hid hs0
  have HP0 := Lib.hid h
  have HI0 := Lib.hid h2
  have HW0 := Lib.hid hw
  clear hba hp hz h hs0 h2 hw
  go_enter Tryd.func44, Tryd.ntmps44
  go_wp2_with fail
  refine (impl_crossingOf A n c _ ps _ (by rw [HS0.out]; exact HA.out) (Nat.le_refl _) hn HPA.out).mono ?_
  have hfl := rowSt_lt ps n 0
  have hsg := fun x hx0 hx1 hx2 hx3 => impl_stageOf A n c B ps (rowSt ps n 0) hfl A2 n2 c2 zs x hx0 hx1 h12 hx2 hn2 hx3
  generalize rowSt ps n 0 = f at *
  have hx1c := xcells_one A n c f
  have hxl := xcells_length A n c f
  rw [cross_lit] at hsg ⊢
  have HSG := Lib.hid hsg
  rintro e w1 ⟨rfl, hb⟩
  have HB1 := Lib.hid (HB0.out.trans (hb.mono HB0.out.size))
  have hlt : w.heap.size < w1.heap.size := by have := hb.size; rw [HS0.out] at this; omega
  have HZ1 := Lib.hid ((hb.block w.heap.size (by rw [HS0.out]; omega)).trans HZ.out)
  clear hb hsg
  go_wp2_with fail
  obtain ⟨w2, hw2⟩ : ∃ w2, w2 = w1.alloc (.cells #[.slice A n c, .int .u16 (f 0 : Nat), .int .u16 (f 1 : Nat), .int .u16 (f 2 : Nat), .int .u16 (f 3 : Nat), .int .u16 (f 4 : Nat), .int .u16 (f 5 : Nat), .int .u16 (f 6 : Nat), .int .u16 (f 7 : Nat), .int .u16 (f 8 : Nat), .int .u16 (f 9 : Nat), .int .u16 (f 10 : Nat), .int .u16 (f 11 : Nat)] 55) := ⟨_, rfl⟩
  rw [← hw2]
  have HB2 : Hid (Below w.heap.size w w2) := Lib.hid (by rw [hw2]; exact HB1.out.alloc HB1.out.size _)
  have hXb : w2.heap[w1.heap.size]? = some (.cells (xcells A n c f).toArray 55) := by rw [hw2]; exact heap_alloc_new w1 _
  have hZb : w2.heap[w.heap.size]? = _ := (by rw [hw2]; exact Below.heap_alloc w1 _ _ hlt : w2.heap[w.heap.size]? = w1.heap[w.heap.size]?).trans HZ1.out
  have hlt2 : w1.heap.size < w2.heap.size := by rw [hw2]; simp
  have HXB := Lib.hid hXb
  have HZB := Lib.hid hZb
  clear hXb hZb hw2
  refine (HSG.out w2 (HP0.out.below (HB2.out.mono hB)) (Nat.le_trans hB HB2.out.size) ((HI0.out.keep fun p hp => HB2.out.cell hp).up HB2.out.size) (HW0.out.below HB2.out (Nat.le_refl _))).mono ?_
  cases hst : stI ps f zs
  all_goals
    first
      | rw [show maskV none = Value.tuple #[.int .u16 0, .bool false] from rfl]
      | rw [show ∀ m, maskV (some m) = Value.tuple #[.int .u16 (m : Nat), .bool true] from fun _ => rfl]
    rw [hst] at HV
    rintro e w3 ⟨rfl, hb⟩
    have HB3 := Lib.hid (HB2.out.trans (hb.mono HB2.out.size))
    have hR3 := range_block ((hb.block w1.heap.size hlt2).trans HXB.out)
    have hth := there_block ((hb.block w.heap.size (by omega)).trans HZB.out) 13 rfl
    clear hb hst
    go_wp2_with
      (first
        | ((with_reducible show wpList _ _ _ _ _ _); refine wpList_load_mid rfl 55 _ rfl w1.heap.size 0 rfl (xcells A n c f) _ hR3 Tryd.underlying55 rfl (by rw [hxl]; exact info_cross) ?_)
        | ((with_reducible show wpList _ _ _ _ _ _); refine wpList_store_mid rfl 55 _ _ rfl w.heap.size 0 _ rfl rfl hth info_cross (all_oneCell_toArray hx1c) ?_))
    have hload := run_loadVar_mid (P := Tryd.prog) (w3.setCells w.heap.size 0 (xcells A n c f)) w.heap.size 0 55 (xcells A n c f) _ (World.rangeAt_setCells_same _ _ _ _ (by rw [hxl]; exact hth)) Tryd.underlying55 rfl (by rw [hxl]; exact info_cross)
    refine bodyPost_ret (by
        rw [results_cell_tmp2 rfl]
        simp [asAddr, hload, Result.andThen]
        rfl) rfl ⟨by rw [HV.out], ?_⟩
    exact below_setCells _ (Nat.le_refl _) _ _ _ HB3.out
end Go.Proofs.YtgdficjihkglpabDoor
