/- The Ids of a set of paths: the program. -/
import Derived.Test.YtgdficjihkglpadDoorIdxN
import Derived.Test.YtgdficjihkglpadDoorPopI
import Derived.RangeFuncBox
import Derived.Maps.AppendAt
namespace Go.Proofs.YtgdficjihkglpadDoor
open Go.RowKit Go.Shelf
attribute [local go_sem] Oper.semAt_some
set_option linter.unusedVariables false

theorem popc_bits (m : Nat) : popc m = (bitsOf m).length := rfl
/-- 'append(v, ..)' at a step of a region that draws its order, inside a fence. -/
theorem step_append_in {F : Fence} {n : Nat} {P : Program} {w : World} {ops : Array Oper} {o : Oper} {a : Act} {K : Act → World → Prop} {Q : Exit → Act → World → Prop} {G : Prop}
    (hg : o.guard = none) (s x : Operand) (t : TypeId) (hop : o.op = Op.call { callee := Callee.builtin Builtin.append, args := #[s, x], argTypes := #[t, t] })
    (base : Nat) (e : TypeId) (i : TypeInfo) (z : Value) (size bytes : Nat) (h1 : P.underlying t = some (.slice e)) (h2 : P.info? e = some i) (h3 : i.zero = some z) (h4 : i.size = size) (h5 : i.bytes = bytes) (h6 : z.cells.size = size) (h7 : 0 < size)
    (v : Value) (k : Nat) (xs : List Value) (hs : a.eval s = v) (hown : w.ownsRow base e size v k xs) (ad : Addr) (m c : Nat) (news : List Value) (hx : a.eval x = .slice (some ad) m c) (hn : news.length = m * size)
    (hc : ∀ j u, news[j]? = some u → w.cell? (ad.add j) = some u) (h1c : ∀ u ∈ news, u.oneCell' = true) (b1 : k + m ≤ maxLen) (b2 : (k + m) * bytes ≤ 140737488355328) (b3 : base ≤ w.heap.size)
    (hK : ∀ v' w', w'.ownsRow base e size v' (k + m) (xs ++ news) → w.grownBy w' v.ownBlock → (v' = .slice none 0 0 ↔ v = .slice none 0 0 ∧ m = 0) → K (a.put o.dst v') w') :
    if Region.wanted o (yielded ops a.tmps) = true then Oper.wpIn F n P o a w K Q else G := by
  rw [if_pos (by simp [Region.wanted, hg])]
  obtain ⟨v', w', hrun, r1, r2, r3⟩ := run_append_own (P := P) w base t o.type e i z size bytes h1 h2 h3 h4 h5 h6 h7 v k xs hown ad m c news hn hc h1c b1 b2 b3
  unfold Oper.wpIn
  refine ⟨?_, ?_⟩
  · simp [Oper.about, hop, resolve, Target.leads, Sem.run_pure]
  · rw [Oper.semAt_plain F _ _ (by rw [hop]; intro c hc'; cases hc')]
    simp [execOp, hop, resolve, invoke, builtin, hs, hx, hrun, Result.andThen]
    exact hK v' w' r1 r2 r3
theorem info_int' : (Tryd.prog.info? 3).map (fun i => (i.zero, i.size, i.bytes)) = some (some (.int .i64 0), 1, 8) := by kernel_rfl
set_option maxRecDepth 100000 in
set_option maxHeartbeats 2000000 in
theorem impl_idsOf (A : Option Addr) (n c B : Nat) (ps : List Pth) (f : Nat → Nat) (m : Nat) (w : World) (h : PthsAt w B A n ps) (hB : B ≤ w.heap.size) (h12 : n ≤ 12) (hm : m < 2 ^ n) (hw : Brus w) :
    Calls Tryd.prog 62 #[.agg (xcells A n c f).toArray, .int .u16 (m : Nat)] w fun e W' => ∃ v, e = .returned v ∧ Own .i64 3 W' w.heap.size v (idsM ps m) ∧ Below w.heap.size w W' := by
  have hm4 := Nat.lt_of_lt_of_le hm (pow_le12 h12)
  obtain ⟨i0, hi, hz0, hz1, hz2⟩ := info_parts info_int'
  refine (callsIn_wide (n := 4)).1 ?_
  refine callsIn_of_wp_marks Tryd.func62 rfl trivial ?_ rfl
  simp only [Tryd.ntmps62, List.size_toArray, List.length_cons, List.length_nil, Nat.reduceAdd, Nat.reduceSub, Array.replicate_succ, Array.replicate_zero, List.push_toArray, List.append_toArray, List.nil_append, List.cons_append]
  have hX0 : (w.alloc (.cells (xcells A n c f).toArray 67)).heap[w.heap.size]? = some (.cells (xcells A n c f).toArray 67 (0, 0)) := heap_alloc_new w _
  have hx0 : (xcells A n c f).toArray[0]? = some (.slice A n c) := rfl
  have HP := Lib.hid h
  have hp12 := popc_le m
  generalize (xcells A n c f).toArray = xs at *
  have HX0 := Lib.hid hX0
  have HXS := Lib.hid hx0
  clear hX0 hx0 h
  gi_wp2
  refine ⟨trivial, (callsIn_wide.2 (impl_size m _ hm4)).mono ?_⟩
  rintro e w' ⟨rfl, k0, rfl⟩
  generalize hpc : popc m = pc at *
  gi_wp2_with (gi_at_make; refine wpListIn_make_own _ rfl _ _ 23 rfl (w.heap.size + 1) 3 i0 (.int .i64 0) 1 Tryd.underlying23 hi hz0 hz1 .i64 .i64 _ pc rfl rfl rfl (by rw [hz2]; omega) (by unfold maxLen; omega) (by simp) ?_; intro w1 hown1 hgrow1)
  have es : ((w.alloc (.cells xs 67)).drewN k0).heap.size = w.heap.size + 1 := by simp
  try rw [es] at hown1
  have hs1 : w.heap.size + 1 < w1.heap.size := (hown1.lt (w.heap.size + 1) rfl).2
  have hX1 : w1.heap[w.heap.size]? = some (.cells xs 67 (0, 0)) := (hgrow1.block w.heap.size (by simp) (by simp)).trans HX0.out
  have hBa : Below w.heap.size w (w.alloc (.cells xs 67)) := (Below.refl _ w).alloc (Nat.le_refl _) _
  have hBd : Below w.heap.size w ((w.alloc (.cells xs 67)).drewN k0) := ⟨hBa.os, hBa.tape, hBa.output, hBa.size, hBa.block⟩
  have hB1 : Below w.heap.size w w1 := hBd.grown hgrow1 (by simp) (fun k e => by cases e)
  refine ⟨trivial, (callsIn_wide.2 (impl_indexes m _)).mono ?_⟩
  rintro e w' ⟨rfl, rfl⟩
  gi_wp2
  have hcx : w1.cell? ⟨w.heap.size, 0, none⟩ = some (.slice A n c) := by rw [cell_of_row w1 w.heap.size 0 _ _ _ hX1]; exact HXS.out
  have bO := Boxed.new w1 23 (.slice (some ⟨w.heap.size + 1, 0, none⟩) 0 pc)
  have bN := Boxed.new (w1.alloc (.cells #[.slice (some ⟨w.heap.size + 1, 0, none⟩) 0 pc] 23)) 64 (.int .u16 (m : Nat))
  rw [World.size_alloc] at bN
  have hB0 : Below w.heap.size w ((w1.alloc (.cells #[.slice (some ⟨w.heap.size + 1, 0, none⟩) 0 pc] 23)).alloc (.cells #[.int .u16 (m : Nat)] 64)) := (hB1.alloc hB1.size _).alloc (by simp; omega) _
  have hbru := hw.below hB0 (Nat.le_refl _)
  have hglt := hw.lt
  refine wpIn_rangeFunc_ownF rfl (by omega) (gf := 114) (lb := #[.pointer (some ⟨w1.heap.size + 1, 0, none⟩)]) rfl trivial (enters_of Tryd.func114 (by kernel_rfl) rfl)
    (idx_stopsN n h12 (4 - 1) (by omega) (w1.heap.size + 1) w.heap.size m hm _ (by simp) (by simp; omega) bN.cell hbru hglt) belowK_t (belowK_b (by simp; omega)) (Below.refl _ _) (fun _ => rfl)
    (fun pre W => ((∃ v, Boxed W w1.heap.size 23 v ∧ W.ownsRow (w.heap.size + 1) 3 1 v pre.length (pre.map fun i => Value.int .i64 (idAt ps i.val)) ∧ True) ∧ W.cell? ⟨w.heap.size, 0, none⟩ = some (.slice A n c)) ∧ Below w.heap.size w W)
    (fun _ _ _ => False)
    (OwnFrom.and (Own.from (fun s A B row hs hg hr => ⟨holdsRow_own (w.heap.size + 1) w1.heap.size 23 3 1 (fun pre => pre.length) (fun (pre : List (IdxN n)) => pre.map fun i => Value.int .i64 (idAt ps i.val)) (fun _ _ => True) s A B row hs.1 hg hr, cell_kept hs.2 hg hr⟩) _) (ownFrom_below (Nat.le_refl _) (by simp; omega)))
    (fun _ _ _ _ _ hs _ _ => hs)
    ⟨⟨⟨_, bO.alloc _, (hown1.alloc _).alloc _, trivial⟩, cell_alloc_l _ (cell_alloc_l _ hcx)⟩, hB0⟩
    (fun x => { tmps := #[.agg xs, .int .u16 (m : Nat), .pointer (some ⟨w.heap.size, 0, none⟩), undef, .slice none 0 0, .pointer (some ⟨w1.heap.size, 0, none⟩), .int .i64 (x.val : Int), .int .u16 (m : Nat), .int .i64 (pc : Nat), .slice (some ⟨w.heap.size + 1, 0, none⟩) 0 pc, .int .u16 (m : Nat), .func (.func 114) #[] #[.pointer (some ⟨w1.heap.size + 1, 0, none⟩)], .int .i64 (x.val : Int), undef, undef, undef, undef, undef, undef, undef, undef, undef, undef], defers := [] }) ?assign ?body ?done ?stop
  case assign =>
    intro l x W K hK
    simp only [encN]
    gi_wp2
    exact hK
  case body =>
    rintro l pre x W ⟨⟨⟨v, hv, hrow, -⟩, hcx⟩, hB⟩ hlt
    have hc := hv.cell
    have hmx : Tryd.prog.follows .mixedOrders = true := by kernel_rfl
    obtain ⟨ad, p, hA, hab, hp, hpt⟩ := (HP.out.below (hB.mono ‹B ≤ w.heap.size›)).at x.property
    have hid : idAt ps x.val = p.id := by unfold idAt; rw [pAt_some hp]
    subst hA
    obtain ⟨x0, -, -, -⟩ := hpt
    obtain ⟨k, hk⟩ := x
    simp only at *
    have hlW : w1.heap.size < W.heap.size := hv.lt
    have hvD : Boxed W.drew w1.heap.size 23 v := hv
    have hrD : W.drew.ownsRow (w.heap.size + 1) 3 1 v pre.length (pre.map fun i => Value.int .i64 (idAt ps i.val)) := hrow
    have hab2 : (ad.add (k * 4)).block < W.heap.size := by omega
    gi_wp2
    refine wpIn_region_any hmx ?_
    (try change wpAnyIn _ _ _ _ _ _ _ _ _ (World.drew _))
    repeat' (first
      | refine AllReadyIn.cons rfl (fun K hK => ?_) ?_
      | exact AllReadyIn.nil
      | refine wpAnyIn_ready (rs := [0]) (by decide +kernel) (by simp) ?_
      | refine wpAnyIn_ready (rs := [0, 1]) (by decide +kernel) (by simp) ?_
      | refine wpAnyIn_ready (rs := [0, 1, 3]) (by decide +kernel) (by simp) ?_
      | refine wpAnyIn_ready (rs := [0, 2]) (by decide +kernel) (by simp) ?_
      | refine wpAnyIn_ready (rs := [0, 2, 3]) (by decide +kernel) (by simp) ?_
      | refine wpAnyIn_ready (rs := [0, 3]) (by decide +kernel) (by simp) ?_
      | refine wpAnyIn_ready (rs := [0, 4]) (by decide +kernel) (by simp) ?_
      | refine wpAnyIn_ready (rs := [0, 5]) (by decide +kernel) (by simp) ?_
      | refine wpAnyIn_ready (rs := [0, 6]) (by decide +kernel) (by simp) ?_
      | refine wpAnyIn_ready (rs := [0, 7]) (by decide +kernel) (by simp) ?_
      | refine wpAnyIn_ready (rs := [1]) (by decide +kernel) (by simp) ?_
      | refine wpAnyIn_ready (rs := [1, 3]) (by decide +kernel) (by simp) ?_
      | refine wpAnyIn_ready (rs := [2]) (by decide +kernel) (by simp) ?_
      | refine wpAnyIn_ready (rs := [2, 3]) (by decide +kernel) (by simp) ?_
      | refine wpAnyIn_ready (rs := [3]) (by decide +kernel) (by simp) ?_
      | refine wpAnyIn_ready (rs := [4]) (by decide +kernel) (by simp) ?_
      | refine wpAnyIn_ready (rs := [5]) (by decide +kernel) (by simp) ?_
      | refine wpAnyIn_ready (rs := [6]) (by decide +kernel) (by simp) ?_
      | refine wpAnyIn_ready (rs := [7]) (by decide +kernel) (by simp) ?_
      | refine wpAnyIn_ready (rs := [8]) (by decide +kernel) (by simp) ?_
      | refine wpAnyIn_ready (rs := [9]) (by decide +kernel) (by simp) ?_
      | (refine wpAnyIn_done (by decide +kernel) ?_ _; gi_wp2; exact ⟨(KeepsOthers.drew W).trans hk2, (below_undrew hb2).mono (by omega), ⟨⟨_, hv2, by rw [List.length_append, List.map_append, List.map_singleton, hid]; exact hr2, trivial⟩, (hb2.cell (p := ⟨w.heap.size, 0, none⟩) (by simp)).trans hcx⟩, hB.trans ((below_undrew hb2).mono (by omega))⟩)
      | (refine step_append_in rfl _ _ 23 rfl (w.heap.size + 1) 3 i0 (.int .i64 0) 1 8 Tryd.underlying23 hi hz0 hz1 hz2 rfl (by decide) _ _ _ rfl (hrD.alloc _) ⟨W.heap.size, 0, none⟩ 1 1 [.int .i64 p.id] rfl rfl (cell_one_new _ _ _) (by simp [Value.oneCell']) (by unfold maxLen; omega) (by omega) (by simp; omega) ?_
         intro v' w3 hown' hgrow _
         obtain ⟨g', cap', rfl⟩ := ownsRow_succ hown'
         obtain ⟨hv1, hv2, hr2, hk2, hb2⟩ := hvD.appended (by decide) hrD (by simp; omega) (by omega) hown' hgrow
         have hc1 := hv1.cell
         have hf1 := hv1.frozen
         refine hK _ _ ?_
         clear hK K)
      | (go_simp; refine hK _ _ ?_; clear hK K))
  case done =>
    rintro D ys W hD rfl ⟨⟨⟨v, hv, hrow, -⟩, _⟩, hB⟩ hK
    have hc := hv.cell
    gi_wp2
    refine ⟨by simp, .inl ⟨_, _, rfl, run_takeDeferred hK, ?_⟩⟩
    refine ⟨_, results_tmp rfl _ _ _, v, rfl, ?_, hB.trans (belowK_b (w := w) (Nat.le_refl _) W D _ _ (by simp at hD; omega) hK rfl rfl)⟩
    unfold Own
    rw [← idxsN_map h12 hm ps, List.length_map, List.map_map]
    exact ownr_mono (ownsRow_putObj hrow _ hK rfl) (by omega)
  case stop =>
    rintro D c pre W _ _ h _
    exact h.elim
end Go.Proofs.YtgdficjihkglpadDoor
