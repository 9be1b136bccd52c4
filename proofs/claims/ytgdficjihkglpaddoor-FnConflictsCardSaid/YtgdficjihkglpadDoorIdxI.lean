/- The indexes of a mask: the iterator's contract. -/
import Derived.RangeFuncNested
import Derived.RangeFuncBound
import Derived.RangeFuncCalls
import Derived.RangeFuncLeaves
import Derived.Shelf.Abstract
import Derived.Shelf.RegionOpen
import Derived.WalkKit
import Derived.OwnWalkIn
import Derived.TacticsInMore
import Derived.LoopNIn
import Derived.LoopIn
import Derived.Test.YtgdficjihkglpadDoorTrailI
namespace Go.Proofs.YtgdficjihkglpadDoor
open Go.RowKit Go.Shelf
attribute [local go_sem] Oper.semAt_some
set_option linter.unusedVariables false

abbrev Idx := { i : Nat // i < 12 }
/-- the members, each with its bound. -/
def idxs (m : Nat) : List Idx := (List.finRange 12).filterMap fun i => if m.testBit i.val then some ⟨i.val, i.isLt⟩ else none
def encI (i : Idx) : Array Value := #[.int .i64 (i.val : Int)]
theorem idxs_val (m : Nat) : (idxs m).map (·.val) = bitsOf m := by
  unfold idxs bitsOf
  have e : List.range 12 = (List.finRange 12).map (·.val) := by decide
  rw [e]
  generalize List.finRange 12 = l
  induction l with
  | nil => rfl
  | cons i l ih =>
    rw [List.filterMap_cons, List.map_cons, List.filter_cons]
    cases h : m.testBit i.val
    · simpa [h] using ih
    · simpa [h] using ih
theorem idx_inj : ∀ {a b : List Idx}, a.map (·.val) = b.map (·.val) → a = b
  | [], [], _ => rfl
  | [], _ :: _, h => by simp at h
  | _ :: _, [], h => by simp at h
  | x :: a, y :: b, h => by
    simp only [List.map_cons, List.cons.injEq] at h
    rw [Subtype.ext h.1, idx_inj h.2]
theorem idxs_zero : idxs 0 = [] := idx_inj (by rw [idxs_val, bitsOf_zero]; rfl)
theorem idxs_cons {m : Nat} (h : m < 4096) (h0 : m ≠ 0) (hl : lowB m < 12) : idxs m = ⟨lowB m, hl⟩ :: idxs (clr m) := idx_inj (by
  rw [idxs_val, List.map_cons, idxs_val]
  exact (low_ok h h0).bits)
theorem idxs_len (m : Nat) : (idxs m).length ≤ 12 := by
  have h := congrArg List.length (idxs_val m)
  rw [List.length_map] at h
  rw [h]
  unfold bitsOf
  exact Nat.le_trans (List.length_filter_le _ _) (by simp)
set_option maxHeartbeats 1000000 in
set_option maxRecDepth 100000 in
theorem idx1_in (n : Nat) (hn : 2 ≤ n) (l Bn n₀ : Nat) (m : Nat) (hm : m < 4096) (J Jx : List Idx → World → Prop)
    (hY : ∀ pre x W, J pre W → pre.length < 12 → YieldAt Fence.wide (n - 1) Tryd.prog l (encI x) W fun e W' =>
      (e = .returned (.bool true) ∧ J (pre ++ [x]) W' ∧ Below n₀ W W') ∨ (e = .returned (.bool false) ∧ Jx (pre ++ [x]) W'))
    (W : World) (hBn : W.cell? ⟨Bn, 0, none⟩ = some (.int .u16 (m : Nat))) (hw : Brus W) (hg : 1 < n₀) (h0 : J [] W) :
    CallsIn Fence.wide n Tryd.prog 114 #[.func (.yield l) #[] #[], .pointer (some ⟨Bn, 0, none⟩)] W fun e W' => (∃ v, e = .returned v) ∧
      ((∃ ys, ys = idxs m ∧ J ys W') ∨ (∃ pre, pre <+: idxs m ∧ Jx pre W')) := by
  refine callsIn_of_wp Tryd.func114 rfl trivial ?_ rfl
  simp only [Tryd.ntmps114, List.size_toArray, List.length_cons, List.length_nil, Nat.reduceAdd, Nat.reduceSub, Array.replicate_succ, Array.replicate_zero, List.push_toArray, List.append_toArray, List.nil_append, List.cons_append]
  have hml := idxs_len m
  gi_wp2
  gi_loopw [3] (fun p wr => ∃ (pre : List Idx) (q : Nat), p = .int .u16 (q : Nat) ∧ q < 4096 ∧ idxs m = pre ++ idxs q ∧ Brus wr ∧ J pre wr)
    (fun p _ => (intOf p).toNat)
  case atStart =>
    exact ⟨[], m, rfl, hm, rfl, hw, h0⟩
  case round =>
    clear hBn hw h0
    obtain ⟨pre, q, rfl, hq, hx, hws, hJs⟩ := hrel
    by_cases hz : q = 0
    · subst hz
      have HX : Hid (pre = idxs m) := Lib.hid (by rw [hx, idxs_zero, List.append_nil])
      clear hx
      gi_wp2
      go_end0
      exact ⟨⟨_, rfl⟩, .inl ⟨pre, HX.out, hJs⟩⟩
    · obtain ⟨hb, hls, hlo, hng, hdc⟩ := low_ok hq hz
      have hc := idxs_cons hq hz hlo
      have HX : Hid (idxs m = (pre ++ [⟨lowB q, hlo⟩]) ++ idxs (clr q)) := Lib.hid (by rw [hx, hc]; simp)
      have hlen : pre.length < 12 := by
        have := congrArg List.length hx
        rw [hc, List.length_append, List.length_cons] at this
        omega
      obtain ⟨fn, tmps, assign, body, hy, hR⟩ := hY pre ⟨lowB q, hlo⟩ wr hJs hlen
      have ht := impl_Trailing16 q wr hq hz hws
      unfold encI at hy
      dsimp only at hy
      have hne : ((q : Int) != 0) = true := by simp; omega
      have HT := Lib.hid ht
      clear hb hng hc hx ht
      gi_wp2
      refine ⟨trivial, fun _ => by omega, ?_⟩
      refine (callsIn_wide.2 HT.out).mono ?_
      rintro e w' ⟨rfl, rfl⟩
      gi_wp2
      refine ⟨fun _ => by omega, ?_⟩
      refine hR.mono ?_
      have hsub : ((q : Int) - 1) = ((q - 1 : Nat) : Int) := by omega
      have hq0 : (0 : Int) ≤ (q : Int) - 1 := by omega
      rintro e W3 (⟨rfl, hJ3, hk3⟩ | ⟨rfl, hJx3⟩)
      · have hw3 := Lib.hid (hws.under hk3 hg)
        have HJ := Lib.hid hJ3
        have hcq : clr q < 4096 := by omega
        clear hws hJs hR hy hJ3 hk3 hsub HT hY
        gi_wp2
        go_roundw
        case rel => exact ⟨pre ++ [⟨lowB q, hlo⟩], clr q, by first | rfl | (rw [hdc]), hcq, HX.out, hw3.out, HJ.out⟩
        case measure => simp [intOf]; omega
      · have HJ := Lib.hid hJx3
        clear hws hJs hR hy hJx3 hsub HT hY
        gi_wp2
        refine bodyPost_ret (results_none rfl _ _ _) rfl ?_
        exact ⟨⟨_, rfl⟩, .inr ⟨pre ++ [⟨lowB q, hlo⟩], ⟨idxs (clr q), HX.out.symm⟩, HJ.out⟩⟩
theorem idx_stops (n : Nat) (hn : 2 ≤ n) (Bn n₀ m : Nat) (hm : m < 4096) (w : World) (hBn : Bn < w.heap.size) (hn₀ : n₀ ≤ w.heap.size) (hc : w.cell? ⟨Bn, 0, none⟩ = some (.int .u16 (m : Nat))) (hw : Brus w) (hg : 1 < n₀) :
    SeqStopsK Fence.wide n Tryd.prog 114 #[.pointer (some ⟨Bn, 0, none⟩)] encI (Below n₀) (fun ys => ys = idxs m) (fun pre => pre <+: idxs m) 12 w := fun l J Jx W hW _ _ hY h0 =>
  idx1_in n hn l Bn n₀ m hm J Jx hY W ((hW.cell (p := ⟨Bn, 0, none⟩) hBn).trans hc) (hw.under hW (by omega)) hg h0
theorem impl_indexes (m : Nat) (w : World) : Calls Tryd.prog 93 #[.int .u16 (m : Nat)] w fun e w' => e = .returned (.func (.func 114) #[] #[.pointer (some ⟨w.heap.size, 0, none⟩)]) ∧ w' = w.alloc (.cells #[.int .u16 (m : Nat)] 64) := by
  have hmf : ∀ (fn : Fn) (first cap : Array Value) (w : World), (Instr.makeFunc fn first cap).run Tryd.prog w = .ok (.func fn first cap) w := fun _ _ _ _ => rfl
  go_enter Tryd.func93, Tryd.ntmps93
  go_wp2
  go_ret
  exact ⟨rfl, rfl⟩
end Go.Proofs.YtgdficjihkglpadDoor
