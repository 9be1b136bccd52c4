/- The indexes of a mask below a bound: the iterator's contract. -/
import Derived.Test.YtgdficjihkglpadDoorIdxI
import Derived.Test.YtgdficjihkglpadDoorSetEq
namespace Go.Proofs.YtgdficjihkglpadDoor
open Go.RowKit Go.Shelf
attribute [local go_sem] Oper.semAt_some
set_option linter.unusedVariables false

abbrev IdxN (N : Nat) := { i : Nat // i < N }
/-- the members, each with its bound. -/
def idxsN (N m : Nat) : List (IdxN N) := (List.finRange N).filterMap fun i => if m.testBit i.val then some ⟨i.val, i.isLt⟩ else none
def encN {N : Nat} (i : IdxN N) : Array Value := #[.int .i64 (i.val : Int)]
theorem idxsN_mem {N m : Nat} {i : IdxN N} : i ∈ idxsN N m ↔ m.testBit i.val = true := by
  unfold idxsN
  rw [List.mem_filterMap]
  constructor
  · rintro ⟨j, _, h⟩
    split at h
    · rename_i hb
      injection h with h
      rw [← h]
      exact hb
    · cases h
  · intro h
    exact ⟨⟨i.val, i.2⟩, List.mem_finRange _, by rw [if_pos h]⟩
theorem idxsN_asc (N m : Nat) : ((idxsN N m).map (·.val)).Pairwise (· < ·) := by
  unfold idxsN
  rw [List.map_filterMap, List.pairwise_filterMap]
  refine (List.pairwise_lt_finRange (n := N)).imp ?_
  intro a b hab x hx y hy
  simp only [Option.map_eq_some_iff] at hx hy
  obtain ⟨x', hx, rfl⟩ := hx
  obtain ⟨y', hy, rfl⟩ := hy
  split at hx
  · split at hy
    · injection hx with hx
      injection hy with hy
      rw [← hx, ← hy]
      exact hab
    · cases hy
  · cases hx
theorem idxsN_val {N m : Nat} (hN : N ≤ 12) (hm : m < 2 ^ N) : (idxsN N m).map (·.val) = bitsOf m := asc_nat (idxsN_asc N m) (bits_asc m) fun x => by
  rw [bitsOf_mem, List.mem_map]
  constructor
  · rintro ⟨i, h, rfl⟩
    exact ⟨by have := i.2; omega, idxsN_mem.1 h⟩
  · rintro ⟨_, h⟩
    exact ⟨⟨x, bit_in hm h⟩, idxsN_mem.2 h, rfl⟩
theorem idxN_inj {N : Nat} : ∀ {a b : List (IdxN N)}, a.map (·.val) = b.map (·.val) → a = b
  | [], [], _ => rfl
  | [], _ :: _, h => by simp at h
  | _ :: _, [], h => by simp at h
  | x :: a, y :: b, h => by
    simp only [List.map_cons, List.cons.injEq] at h
    rw [Subtype.ext h.1, idxN_inj h.2]
theorem idxsN_zero {N : Nat} : idxsN N 0 = [] := by
  apply List.eq_nil_iff_forall_not_mem.2
  intro i hi
  have := idxsN_mem.1 hi
  rw [Nat.zero_testBit] at this
  cases this
theorem low_in {N m : Nat} (hN : N ≤ 12) (h : m < 2 ^ N) (h0 : m ≠ 0) : lowB m < N := by
  have h12 := pow_le12 hN
  have hb := (low_ok (by omega) h0).bits
  have : lowB m ∈ bitsOf m := by rw [hb]; exact List.mem_cons_self
  exact bit_in h (bitsOf_mem.1 this).2
theorem idxsN_cons {N m : Nat} (hN : N ≤ 12) (h : m < 2 ^ N) (h0 : m ≠ 0) (hl : lowB m < N) : idxsN N m = ⟨lowB m, hl⟩ :: idxsN N (clr m) := idxN_inj (by
  have h12 := pow_le12 hN
  have ho := low_ok (by omega) h0
  rw [idxsN_val hN h, List.map_cons, idxsN_val hN (Nat.lt_trans ho.less h)]
  exact ho.bits)
theorem idxsN_len {N m : Nat} (hN : N ≤ 12) (hm : m < 2 ^ N) : (idxsN N m).length ≤ 12 := by
  have h := congrArg List.length (idxsN_val hN hm)
  rw [List.length_map] at h
  rw [h]
  unfold bitsOf
  exact Nat.le_trans (List.length_filter_le _ _) (by simp)
theorem idxsN_map {N m : Nat} (hN : N ≤ 12) (hm : m < 2 ^ N) (ps : List Pth) : (idxsN N m).map (fun i => idAt ps i.val) = idsM ps m := by
  rw [idsM_bits, ← idxsN_val hN hm, List.map_map]
  rfl
set_option maxHeartbeats 1000000 in
set_option maxRecDepth 100000 in
theorem idx1_inN (N : Nat) (hN : N ≤ 12) (n : Nat) (hn : 2 ≤ n) (l Bn n₀ : Nat) (m : Nat) (hm : m < 2 ^ N) (J Jx : List (IdxN N) → World → Prop)
    (hY : ∀ pre x W, J pre W → pre.length < 12 → YieldAt Fence.wide (n - 1) Tryd.prog l (encN x) W fun e W' =>
      (e = .returned (.bool true) ∧ J (pre ++ [x]) W' ∧ Below n₀ W W') ∨ (e = .returned (.bool false) ∧ Jx (pre ++ [x]) W'))
    (W : World) (hBn : W.cell? ⟨Bn, 0, none⟩ = some (.int .u16 (m : Nat))) (hw : Brus W) (hg : 1 < n₀) (h0 : J [] W) :
    CallsIn Fence.wide n Tryd.prog 114 #[.func (.yield l) #[] #[], .pointer (some ⟨Bn, 0, none⟩)] W fun e W' => (∃ v, e = .returned v) ∧
      ((∃ ys, ys = idxsN N m ∧ J ys W') ∨ (∃ pre, pre <+: idxsN N m ∧ Jx pre W')) := by
  refine callsIn_of_wp Tryd.func114 rfl trivial ?_ rfl
  simp only [Tryd.ntmps114, List.size_toArray, List.length_cons, List.length_nil, Nat.reduceAdd, Nat.reduceSub, Array.replicate_succ, Array.replicate_zero, List.push_toArray, List.append_toArray, List.nil_append, List.cons_append]
  have h12 := pow_le12 hN
  have hml := idxsN_len hN hm
  gi_wp2
  gi_loopw [3] (fun p wr => ∃ (pre : List (IdxN N)) (q : Nat), p = .int .u16 (q : Nat) ∧ q < 2 ^ N ∧ idxsN N m = pre ++ idxsN N q ∧ Brus wr ∧ J pre wr)
    (fun p _ => (intOf p).toNat)
  case atStart =>
    exact ⟨[], m, rfl, hm, rfl, hw, h0⟩
  case round =>
    clear hBn hw h0
    obtain ⟨pre, q, rfl, hq, hx, hws, hJs⟩ := hrel
    by_cases hz : q = 0
    · subst hz
      have HX : Hid (pre = idxsN N m) := Lib.hid (by rw [hx, idxsN_zero, List.append_nil])
      clear hx
      gi_wp2
      go_end0
      exact ⟨⟨_, rfl⟩, .inl ⟨pre, HX.out, hJs⟩⟩
    · obtain ⟨hb, hls, hlo12, hng, hdc⟩ := low_ok (Nat.lt_of_lt_of_le hq h12) hz
      have hlo := low_in hN hq hz
      have hc := idxsN_cons hN hq hz hlo
      have HX : Hid (idxsN N m = (pre ++ [⟨lowB q, hlo⟩]) ++ idxsN N (clr q)) := Lib.hid (by rw [hx, hc]; simp)
      have hlen : pre.length < 12 := by
        have := congrArg List.length hx
        rw [hc, List.length_append, List.length_cons] at this
        omega
      obtain ⟨fn, tmps, assign, body, hy, hR⟩ := hY pre ⟨lowB q, hlo⟩ wr hJs hlen
      have hq4 := Nat.lt_of_lt_of_le hq h12
      have ht := impl_Trailing16 q wr hq4 hz hws
      unfold encN at hy
      dsimp only at hy
      have hne : ((q : Int) != 0) = true := by simp; omega
      have HT := Lib.hid ht
      clear hb hng hc hx ht
      gi_wp2
      refine ⟨trivial, fun _ => by omega, ?_⟩
      refine (callsIn_wide.2 HT.out).mono ?_
      rintro e w' ⟨rfl, rfl⟩
      gi_wp2
      refine ⟨fun _ => by omega, ?_⟩
      refine hR.mono ?_
      have hsub : ((q : Int) - 1) = ((q - 1 : Nat) : Int) := by omega
      have hq0 : (0 : Int) ≤ (q : Int) - 1 := by omega
      rintro e W3 (⟨rfl, hJ3, hk3⟩ | ⟨rfl, hJx3⟩)
      · have hw3 := Lib.hid (hws.under hk3 hg)
        have HJ := Lib.hid hJ3
        have hcq : clr q < 2 ^ N := Nat.lt_trans hls hq
        clear hws hJs hR hy hJ3 hk3 hsub HT hY
        gi_wp2
        go_roundw
        case rel => exact ⟨pre ++ [⟨lowB q, hlo⟩], clr q, by first | rfl | (rw [hdc]), hcq, HX.out, hw3.out, HJ.out⟩
        case measure => simp [intOf]; omega
      · have HJ := Lib.hid hJx3
        clear hws hJs hR hy hJx3 hsub HT hY
        gi_wp2
        refine bodyPost_ret (results_none rfl _ _ _) rfl ?_
        exact ⟨⟨_, rfl⟩, .inr ⟨pre ++ [⟨lowB q, hlo⟩], ⟨idxsN N (clr q), HX.out.symm⟩, HJ.out⟩⟩
theorem idx_stopsN (N : Nat) (hN : N ≤ 12) (n : Nat) (hn : 2 ≤ n) (Bn n₀ m : Nat) (hm : m < 2 ^ N) (w : World) (hBn : Bn < w.heap.size) (hn₀ : n₀ ≤ w.heap.size) (hc : w.cell? ⟨Bn, 0, none⟩ = some (.int .u16 (m : Nat))) (hw : Brus w) (hg : 1 < n₀) :
    SeqStopsK Fence.wide n Tryd.prog 114 #[.pointer (some ⟨Bn, 0, none⟩)] encN (Below n₀) (fun ys => ys = idxsN N m) (fun pre => pre <+: idxsN N m) 12 w := fun l J Jx W hW _ _ hY h0 =>
  idx1_inN N hN n hn l Bn n₀ m hm J Jx hY W ((hW.cell (p := ⟨Bn, 0, none⟩) hBn).trans hc) (hw.under hW (by omega)) hg h0
end Go.Proofs.YtgdficjihkglpadDoor
