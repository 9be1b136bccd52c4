/- What conflicts with a set: the program. -/
import Derived.Test.YtgdficjihkglpabDoorIdxI
import Derived.Test.YtgdficjihkglpabDoorCrossI
import Derived.RangeFuncFrom
namespace Go.Proofs.YtgdficjihkglpabDoor
open Go.RowKit Go.Shelf
attribute [local go_sem] Oper.semAt_some
set_option linter.unusedVariables false

/-- all that conflicts with one of these. -/
def agL (f : Nat → Nat) (l : List Idx) : Nat := l.foldl (fun a i => a ||| f i.val) 0
theorem agL_snoc (f : Nat → Nat) (pre : List Idx) (x : Idx) : agL f (pre ++ [x]) = agL f pre ||| f x.val := by simp [agL]
theorem agL_lt {f : Nat → Nat} (hf : ∀ k, f k < 4096) (l : List Idx) : agL f l < 4096 := by
  have h : ∀ (l : List Idx) (a : Nat), a < 4096 → l.foldl (fun a i => a ||| f i.val) a < 4096 := by
    intro l
    induction l with
    | nil => exact fun _ h => h
    | cons x l ih => exact fun a h => ih _ (or_lt h (hf _))
  exact h l 0 (by decide)
theorem cell_of_box_l {W : World} {B : Nat} {v : Value} {t : TypeId} (h : W.heap[B]? = some (.cells #[v] t (0, 0))) : W.cell? ⟨B, 0, none⟩ = some v ∧ W.frozen? ⟨B, 0, none⟩ = false := by
  constructor <;> simp [World.cell?, World.frozen?, h]
theorem cell_new_l (W : World) (v : Value) (t : TypeId) : (W.alloc (.cells #[v] t)).cell? ⟨W.heap.size, 0, none⟩ = some v ∧ (W.alloc (.cells #[v] t)).frozen? ⟨W.heap.size, 0, none⟩ = false :=
  cell_of_box_l (World.alloc_heap_new W _)
theorem cell_alloc_l {W : World} {a : Addr} {v : Value} (o : Obj) (h : W.cell? a = some v) : (W.alloc o).cell? a = some v := cell_kept h (World.grownBy_alloc W o none) (fun r e => by cases e)
theorem frozen_alloc_l {W : World} {a : Addr} {v : Value} (o : Obj) (h : W.cell? a = some v) (hf : W.frozen? a = false) : (W.alloc o).frozen? a = false := (frozen_kept h (World.grownBy_alloc W o none) (fun r e => by cases e)).trans hf
/-- the rows of a crossing that lies in block b. -/
def RowsIn' (W : World) (b : Nat) (f : Nat → Nat) : Prop := ∀ k, k < 12 → W.cell? ⟨b, 1 + k, none⟩ = some (.int .u16 (f k : Nat))
theorem rows_new (W : World) (A : Option Addr) (n c : Nat) (f : Nat → Nat) (t : TypeId) : RowsIn' (W.alloc (.cells (xcells A n c f).toArray t)) W.heap.size f := fun k hk => by
  rw [cell_of_row _ _ (1 + k) _ t _ (heap_alloc_new W _), List.getElem?_toArray, xcells_row _ _ _ _ _ hk]
set_option maxRecDepth 100000 in
set_option maxHeartbeats 2000000 in
theorem impl_against (A : Option Addr) (n c : Nat) (f : Nat → Nat) (hf : ∀ k, f k < 4096) (m : Nat) (hm : m < 4096) (w : World) (hw : Brus w) :
    Calls Tryd.prog 70 #[.agg (xcells A n c f).toArray, .int .u16 (m : Nat)] w fun e W' => e = .returned (.int .u16 (agL f (idxs m) : Nat)) ∧ Below w.heap.size w W' := by
  refine (callsIn_wide (n := 4)).1 ?_
  refine callsIn_of_wp_marks Tryd.func70 rfl trivial ?_ rfl
  simp only [Tryd.ntmps70, List.size_toArray, List.length_cons, List.length_nil, Nat.reduceAdd, Nat.reduceSub, Array.replicate_succ, Array.replicate_zero, List.push_toArray, List.append_toArray, List.nil_append, List.cons_append]
  have hX := rows_new w A n c f 55
  have HF := Lib.hid hf
  have HX := Lib.hid hX
  generalize hxs : (xcells A n c f).toArray = xs at *
  have HXS := Lib.hid hxs
  clear hX hf hxs
  gi_wp2
  refine ⟨trivial, (callsIn_wide.2 (impl_indexes m _)).mono ?_⟩
  rintro e w' ⟨rfl, rfl⟩
  gi_wp2
  obtain ⟨T1, hT1⟩ : ∃ T, T = w.alloc (.cells xs 55) := ⟨_, rfl⟩
  have hs1 : T1.heap.size = w.heap.size + 1 := by rw [hT1]; simp
  have hR1 : RowsIn' T1 w.heap.size f := by rw [hT1]; exact HX.out
  have hB1 : Below w.heap.size w T1 := by rw [hT1]; exact (Below.refl _ w).alloc (Nat.le_refl _) _
  rw [← hT1]
  have hs := cell_new_l T1 (.int .u16 0) 52
  have hb := cell_new_l (T1.alloc (.cells #[.int .u16 0] 52)) (.int .u16 (m : Nat)) 52
  simp only [World.size_alloc, hs1] at hs hb
  have hB0 : Below w.heap.size w ((T1.alloc (.cells #[.int .u16 0] 52)).alloc (.cells #[.int .u16 (m : Nat)] 52)) := (hB1.alloc hB1.size _).alloc (by simp; omega) _
  have hbru := hw.below hB0 (Nat.le_refl _)
  have hglt := hw.lt
  refine wpIn_rangeFunc_ownF rfl (by omega) (gf := 90) (lb := #[.pointer (some ⟨w.heap.size + 1 + 1, 0, none⟩)]) rfl trivial (enters_of Tryd.func90 (by kernel_rfl) rfl)
    (idx_stops (4 - 1) (by omega) (w.heap.size + 1 + 1) w.heap.size m hm _ (by simp; omega) (by simp; omega) hb.1 hbru hglt) belowK_t (belowK_b (by simp; omega)) (Below.refl _ _) (fun _ => rfl)
    (fun pre W => (W.cell? ⟨w.heap.size + 1, 0, none⟩ = some (.int .u16 (agL f pre : Nat)) ∧ W.frozen? ⟨w.heap.size + 1, 0, none⟩ = false ∧ RowsIn' W w.heap.size f) ∧ Below w.heap.size w W)
    (fun _ _ _ => False)
    (OwnFrom.and (Own.from (fun s A B row hs hg hr => ⟨cell_kept hs.1 hg hr, (frozen_kept hs.1 hg hr).trans hs.2.1, fun k hk => cell_kept (hs.2.2 k hk) hg hr⟩) _) (ownFrom_below (Nat.le_refl _) (by simp; omega)))
    (fun _ _ _ _ _ hs _ _ => hs)
    ⟨⟨cell_alloc_l _ hs.1, frozen_alloc_l _ hs.1 hs.2, fun k hk => cell_alloc_l _ (cell_alloc_l _ (hR1 k hk))⟩, hB0⟩
    (fun x => { tmps := #[.agg xs, .int .u16 (m : Nat), .pointer (some ⟨w.heap.size, 0, none⟩), undef, .int .u16 0, .pointer (some ⟨w.heap.size + 1, 0, none⟩), .int .i64 (x.val : Int), .int .u16 (m : Nat), .func (.func 90) #[] #[.pointer (some ⟨w.heap.size + 1 + 1, 0, none⟩)], .int .i64 (x.val : Int), undef, undef, undef, undef, undef, undef, undef], defers := [] }) ?assign ?body ?done ?stop
  case assign =>
    intro l x W K hK
    simp only [encI]
    gi_wp2
    exact hK
  case body =>
    rintro l pre x W ⟨⟨hc, hfr, hrw⟩, hB⟩ _
    have hx := hrw x.val x.property
    have x1 : (0 : Int) ≤ (x.val : Int) := by omega
    have x2 : (x.val : Int) < 12 := by have := x.property; omega
    have ho : bits .or .u16 ((agL f pre : Nat) : Int) ((f x.val : Nat) : Int) = ((agL f pre ||| f x.val : Nat) : Int) := u16_or_nat _ _ (by have := agL_lt HF.out pre; omega) (by have := HF.out x.val; omega)
    have HSN := Lib.hid (agL_snoc f pre x)
    have hmx : Tryd.prog.follows .mixedOrders = true := by kernel_rfl
    generalize agL f pre ||| f x.val = r at *
    generalize agL f pre = a at *
    generalize f x.val = b at *
    obtain ⟨k, hk⟩ := x
    simp only at *
    gi_wp2
    gi_region_with_o (fail)
    all_goals gi_wp2
    all_goals exact ⟨(KeepsOthers.setCell _ _ _).trans (KeepsOthers.drew _), ((Below.refl w.heap.size W).setCell (p := ⟨w.heap.size + 1, 0, none⟩) (by simp) _).drew,
      ⟨by rw [HSN.out]; exact World.cell?_setCell_same' _ _ _ (by rw [hc]; rfl), (World.frozen?_setCell _ _ _ _).trans hfr, fun j hj => (World.cell?_setCell_other _ _ _ _ (by simp)).trans (hrw j hj)⟩, (hB.setCell (p := ⟨w.heap.size + 1, 0, none⟩) (by simp) _).drew⟩
  case done =>
    rintro D ys W hD rfl ⟨⟨hc, _, _⟩, hB⟩ hK
    gi_wp2
    refine ⟨by simp, .inl ⟨_, _, rfl, run_takeDeferred hK, ?_⟩⟩
    exact ⟨_, results_tmp rfl _ _ _, rfl, hB.trans (belowK_b (w := w) (Nat.le_refl _) W D _ _ (by simp at hD; omega) hK rfl rfl)⟩
  case stop =>
    rintro D c pre W _ _ h _
    exact h.elim
end Go.Proofs.YtgdficjihkglpabDoor
