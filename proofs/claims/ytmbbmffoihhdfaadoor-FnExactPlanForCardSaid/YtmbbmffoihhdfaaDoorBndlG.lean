/- Texts of one chain, put together: IdxN PopI IdsI Cov CoverI CovX Pfr PfrM LawPfr. -/
import Derived.RangeFuncBox
import Derived.Maps.AppendAt
import Derived.Test.YtmbbmffoihhdfaaDoorBndlF
set_option linter.unusedSimpArgs false
/- The indexes of a mask below a bound: the iterator's contract. -/
namespace Go.Proofs.YtmbbmffoihhdfaaDoor
open Go.RowKit Go.Shelf
attribute [local go_sem] Oper.semAt_some
set_option linter.unusedVariables false

abbrev IdxN (N : Nat) := { i : Nat // i < N }
/-- the members, each with its bound. -/
def idxsN (N m : Nat) : List (IdxN N) := (List.finRange N).filterMap fun i => if m.testBit i.val then some ⟨i.val, i.isLt⟩ else none
def encN {N : Nat} (i : IdxN N) : Array Value := #[.int .i64 (i.val : Int)]
theorem idxsN_mem {N m : Nat} {i : IdxN N} : i ∈ idxsN N m ↔ m.testBit i.val = true := by
  unfold idxsN
  rw [List.mem_filterMap]
  constructor
  · rintro ⟨j, _, h⟩
    split at h
    · rename_i hb
      injection h with h
      rw [← h]
      exact hb
    · cases h
  · intro h
    exact ⟨⟨i.val, i.2⟩, List.mem_finRange _, by rw [if_pos h]⟩
theorem idxsN_asc (N m : Nat) : ((idxsN N m).map (·.val)).Pairwise (· < ·) := by
  unfold idxsN
  rw [List.map_filterMap, List.pairwise_filterMap]
  refine (List.pairwise_lt_finRange (n := N)).imp ?_
  intro a b hab x hx y hy
  simp only [Option.map_eq_some_iff] at hx hy
  obtain ⟨x', hx, rfl⟩ := hx
  obtain ⟨y', hy, rfl⟩ := hy
  split at hx
  · split at hy
    · injection hx with hx
      injection hy with hy
      rw [← hx, ← hy]
      exact hab
    · cases hy
  · cases hx
theorem idxsN_val {N m : Nat} (hN : N ≤ 12) (hm : m < 2 ^ N) : (idxsN N m).map (·.val) = bitsOf m := asc_nat (idxsN_asc N m) (bits_asc m) fun x => by
  rw [bitsOf_mem, List.mem_map]
  constructor
  · rintro ⟨i, h, rfl⟩
    exact ⟨by have := i.2; omega, idxsN_mem.1 h⟩
  · rintro ⟨_, h⟩
    exact ⟨⟨x, bit_in hm h⟩, idxsN_mem.2 h, rfl⟩
theorem idxN_inj {N : Nat} : ∀ {a b : List (IdxN N)}, a.map (·.val) = b.map (·.val) → a = b
  | [], [], _ => rfl
  | [], _ :: _, h => by simp at h
  | _ :: _, [], h => by simp at h
  | x :: a, y :: b, h => by
    simp only [List.map_cons, List.cons.injEq] at h
    rw [Subtype.ext h.1, idxN_inj h.2]
theorem idxsN_zero {N : Nat} : idxsN N 0 = [] := by
  apply List.eq_nil_iff_forall_not_mem.2
  intro i hi
  have := idxsN_mem.1 hi
  rw [Nat.zero_testBit] at this
  cases this
theorem low_in {N m : Nat} (hN : N ≤ 12) (h : m < 2 ^ N) (h0 : m ≠ 0) : lowB m < N := by
  have h12 := pow_le12 hN
  have hb := (low_ok (by omega) h0).bits
  have : lowB m ∈ bitsOf m := by rw [hb]; exact List.mem_cons_self
  exact bit_in h (bitsOf_mem.1 this).2
theorem idxsN_cons {N m : Nat} (hN : N ≤ 12) (h : m < 2 ^ N) (h0 : m ≠ 0) (hl : lowB m < N) : idxsN N m = ⟨lowB m, hl⟩ :: idxsN N (clr m) := idxN_inj (by
  have h12 := pow_le12 hN
  have ho := low_ok (by omega) h0
  rw [idxsN_val hN h, List.map_cons, idxsN_val hN (Nat.lt_trans ho.less h)]
  exact ho.bits)
theorem idxsN_len {N m : Nat} (hN : N ≤ 12) (hm : m < 2 ^ N) : (idxsN N m).length ≤ 12 := by
  have h := congrArg List.length (idxsN_val hN hm)
  rw [List.length_map] at h
  rw [h]
  unfold bitsOf
  exact Nat.le_trans (List.length_filter_le _ _) (by simp)
theorem idxsN_map {N m : Nat} (hN : N ≤ 12) (hm : m < 2 ^ N) (ps : List Pth) : (idxsN N m).map (fun i => idAt ps i.val) = idsM ps m := by
  rw [idsM_bits, ← idxsN_val hN hm, List.map_map]
  rfl
set_option maxHeartbeats 1000000 in
set_option maxRecDepth 100000 in
theorem idx1_inN (N : Nat) (hN : N ≤ 12) (n : Nat) (hn : 2 ≤ n) (l Bn n₀ : Nat) (m : Nat) (hm : m < 2 ^ N) (J Jx : List (IdxN N) → World → Prop)
    (hY : ∀ pre x W, J pre W → pre.length < 12 → YieldAt Fence.wide (n - 1) Tryd.prog l (encN x) W fun e W' =>
      (e = .returned (.bool true) ∧ J (pre ++ [x]) W' ∧ Below n₀ W W') ∨ (e = .returned (.bool false) ∧ Jx (pre ++ [x]) W'))
    (W : World) (hBn : W.cell? ⟨Bn, 0, none⟩ = some (.int .u16 (m : Nat))) (hw : Brus W) (hg : 1 < n₀) (h0 : J [] W) :
    CallsIn Fence.wide n Tryd.prog 133 #[.func (.yield l) #[] #[], .pointer (some ⟨Bn, 0, none⟩)] W fun e W' => (∃ v, e = .returned v) ∧
      ((∃ ys, ys = idxsN N m ∧ J ys W') ∨ (∃ pre, pre <+: idxsN N m ∧ Jx pre W')) := by
  refine callsIn_of_wp Tryd.func133 rfl trivial ?_ rfl
  simp only [Tryd.ntmps133, List.size_toArray, List.length_cons, List.length_nil, Nat.reduceAdd, Nat.reduceSub, Array.replicate_succ, Array.replicate_zero, List.push_toArray, List.append_toArray, List.nil_append, List.cons_append]
  have h12 := pow_le12 hN
  have hml := idxsN_len hN hm
  gi_wp2
  gi_loopw [3] (fun p wr => ∃ (pre : List (IdxN N)) (q : Nat), p = .int .u16 (q : Nat) ∧ q < 2 ^ N ∧ idxsN N m = pre ++ idxsN N q ∧ Brus wr ∧ J pre wr)
    (fun p _ => (intOf p).toNat)
  case atStart =>
    exact ⟨[], m, rfl, hm, rfl, hw, h0⟩
  case round =>
    clear hBn hw h0
    obtain ⟨pre, q, rfl, hq, hx, hws, hJs⟩ := hrel
    by_cases hz : q = 0
    · subst hz
      have HX : Hid (pre = idxsN N m) := Lib.hid (by rw [hx, idxsN_zero, List.append_nil])
      clear hx
      gi_wp2
      go_end0
      exact ⟨⟨_, rfl⟩, .inl ⟨pre, HX.out, hJs⟩⟩
    · obtain ⟨hb, hls, hlo12, hng, hdc⟩ := low_ok (Nat.lt_of_lt_of_le hq h12) hz
      have hlo := low_in hN hq hz
      have hc := idxsN_cons hN hq hz hlo
      have HX : Hid (idxsN N m = (pre ++ [⟨lowB q, hlo⟩]) ++ idxsN N (clr q)) := Lib.hid (by rw [hx, hc]; simp)
      have hlen : pre.length < 12 := by
        have := congrArg List.length hx
        rw [hc, List.length_append, List.length_cons] at this
        omega
      obtain ⟨fn, tmps, assign, body, hy, hR⟩ := hY pre ⟨lowB q, hlo⟩ wr hJs hlen
      have hq4 := Nat.lt_of_lt_of_le hq h12
      have ht := impl_Trailing16 q wr hq4 hz hws
      unfold encN at hy
      dsimp only at hy
      have hne : ((q : Int) != 0) = true := by simp; omega
      have HT := Lib.hid ht
      clear hb hng hc hx ht
      gi_wp2
      refine ⟨trivial, fun _ => by omega, ?_⟩
      refine (callsIn_wide.2 HT.out).mono ?_
      rintro e w' ⟨rfl, rfl⟩
      gi_wp2
      refine ⟨fun _ => by omega, ?_⟩
      refine hR.mono ?_
      have hsub : ((q : Int) - 1) = ((q - 1 : Nat) : Int) := by omega
      have hq0 : (0 : Int) ≤ (q : Int) - 1 := by omega
      rintro e W3 (⟨rfl, hJ3, hk3⟩ | ⟨rfl, hJx3⟩)
      · have hw3 := Lib.hid (hws.under hk3 hg)
        have HJ := Lib.hid hJ3
        have hcq : clr q < 2 ^ N := Nat.lt_trans hls hq
        clear hws hJs hR hy hJ3 hk3 hsub HT hY
        gi_wp2
        go_roundw
        case rel => exact ⟨pre ++ [⟨lowB q, hlo⟩], clr q, by first | rfl | (rw [hdc]), hcq, HX.out, hw3.out, HJ.out⟩
        case measure => simp [intOf]; omega
      · have HJ := Lib.hid hJx3
        clear hws hJs hR hy hJx3 hsub HT hY
        gi_wp2
        refine bodyPost_ret (results_none rfl _ _ _) rfl ?_
        exact ⟨⟨_, rfl⟩, .inr ⟨pre ++ [⟨lowB q, hlo⟩], ⟨idxsN N (clr q), HX.out.symm⟩, HJ.out⟩⟩
theorem idx_stopsN (N : Nat) (hN : N ≤ 12) (n : Nat) (hn : 2 ≤ n) (Bn n₀ m : Nat) (hm : m < 2 ^ N) (w : World) (hBn : Bn < w.heap.size) (hn₀ : n₀ ≤ w.heap.size) (hc : w.cell? ⟨Bn, 0, none⟩ = some (.int .u16 (m : Nat))) (hw : Brus w) (hg : 1 < n₀) :
    SeqStopsK Fence.wide n Tryd.prog 133 #[.pointer (some ⟨Bn, 0, none⟩)] encN (Below n₀) (fun ys => ys = idxsN N m) (fun pre => pre <+: idxsN N m) 12 w := fun l J Jx W hW _ _ hY h0 =>
  idx1_inN N hN n hn l Bn n₀ m hm J Jx hY W ((hW.cell (p := ⟨Bn, 0, none⟩) hBn).trans hc) (hw.under hW (by omega)) hg h0
end Go.Proofs.YtmbbmffoihhdfaaDoor

/- The size of a mask: math/bits.OnesCount16. -/
namespace Go.Proofs.YtmbbmffoihhdfaaDoor
open Go.RowKit
set_option linter.unusedVariables false

/-- how many bits. -/
def popc (m : Nat) : Nat := ((List.range 12).filter m.testBit).length
def bsum (m : Nat) : Nat := ((List.range 8).filter m.testBit).length
/-- the table of the bits of a byte. -/
abbrev popTab : ByteArray := ⟨#[0, 1, 1, 2, 1, 2, 2, 3, 1, 2, 2, 3, 2, 3, 3, 4, 1, 2, 2, 3, 2, 3, 3, 4, 2, 3, 3, 4, 3, 4, 4, 5, 1, 2, 2, 3, 2, 3, 3, 4, 2, 3, 3, 4, 3, 4, 4, 5, 2, 3, 3, 4, 3, 4, 4, 5, 3, 4, 4, 5, 4, 5, 5, 6, 1, 2, 2, 3, 2, 3, 3, 4, 2, 3, 3, 4, 3, 4, 4, 5, 2, 3, 3, 4, 3, 4, 4, 5, 3, 4, 4, 5, 4, 5, 5, 6, 2, 3, 3, 4, 3, 4, 4, 5, 3, 4, 4, 5, 4, 5, 5, 6, 3, 4, 4, 5, 4, 5, 5, 6, 4, 5, 5, 6, 5, 6, 6, 7, 1, 2, 2, 3, 2, 3, 3, 4, 2, 3, 3, 4, 3, 4, 4, 5, 2, 3, 3, 4, 3, 4, 4, 5, 3, 4, 4, 5, 4, 5, 5, 6, 2, 3, 3, 4, 3, 4, 4, 5, 3, 4, 4, 5, 4, 5, 5, 6, 3, 4, 4, 5, 4, 5, 5, 6, 4, 5, 5, 6, 5, 6, 6, 7, 2, 3, 3, 4, 3, 4, 4, 5, 3, 4, 4, 5, 4, 5, 5, 6, 3, 4, 4, 5, 4, 5, 5, 6, 4, 5, 5, 6, 5, 6, 6, 7, 3, 4, 4, 5, 4, 5, 5, 6, 4, 5, 5, 6, 5, 6, 6, 7, 4, 5, 5, 6, 5, 6, 6, 7, 5, 6, 6, 7, 6, 7, 7, 8]⟩
theorem popTab_size : popTab.size = 256 := by kernel_rfl
theorem popTab_at : ∀ b : Fin 256, (popTab[b.val]'(by rw [popTab_size]; exact b.isLt)).toNat = bsum b.val := by decide +kernel
theorem popc_sum (m : Nat) (h : m < 4096) : popc m = bsum (m / 256) + bsum (m % 256) := by
  have e1 : List.range 12 = List.range 8 ++ (List.range 4).map (8 + ·) := by decide
  have e2 : List.range 8 = List.range 4 ++ (List.range 4).map (4 + ·) := by decide
  have h1 : bsum (m % 256) = ((List.range 8).filter m.testBit).length := by
    unfold bsum
    congr 1
    refine List.filter_congr fun j hj => ?_
    have hj8 := List.mem_range.1 hj
    rw [show (256 : Nat) = 2 ^ 8 from rfl, Nat.testBit_mod_two_pow]
    simp [hj8]
  have h2 : bsum (m / 256) = ((List.range 4).filter (fun j => m.testBit (8 + j))).length := by
    unfold bsum
    rw [e2, List.filter_append, List.length_append]
    have z : ((List.range 4).map (4 + ·)).filter (m / 256).testBit = [] := by
      rw [List.filter_eq_nil_iff]
      intro j hj
      obtain ⟨i, _, rfl⟩ := List.mem_map.1 hj
      rw [show (256 : Nat) = 2 ^ 8 from rfl, Nat.testBit_div_two_pow, Nat.testBit_lt_two_pow (Nat.lt_of_lt_of_le h (Nat.pow_le_pow_right (by decide) (by omega) : 2 ^ 12 ≤ _))]
      simp
    rw [z, List.length_nil, Nat.add_zero]
    congr 1
    refine List.filter_congr fun j _ => ?_
    rw [show (256 : Nat) = 2 ^ 8 from rfl, Nat.testBit_div_two_pow, Nat.add_comm]
  rw [h1, h2]
  unfold popc
  rw [e1, List.filter_append, List.length_append, List.filter_map, List.length_map, Nat.add_comm]
  rfl
theorem bsum_le : ∀ b : Fin 256, bsum b.val ≤ 8 := by decide +kernel
theorem popc_le (m : Nat) : popc m ≤ 12 := by
  unfold popc
  exact Nat.le_trans (List.length_filter_le _ _) (by simp)
theorem pop_sum (m x y : Nat) (h : m < 4096) (hx : m % 256 = x) (hy : (m : Int) / 256 = (y : Int)) (p : y < popTab.size) (q : x < popTab.size) :
    (((popTab[y]'p).toNat : Int) + ((popTab[x]'q).toNat : Int)) % 256 = ((popc m : Nat) : Int) := by
  have hy' : m / 256 = y := by omega
  have h1 := popTab_at ⟨y, by omega⟩
  have h2 := popTab_at ⟨x, by omega⟩
  have h3 := popc_sum m h
  have h4 := bsum_le ⟨y, by omega⟩
  have h5 := bsum_le ⟨x, by omega⟩
  simp only at h1 h2 h4 h5
  rw [hx, hy'] at h3
  rw [h1, h2, h3]
  omega
set_option maxRecDepth 100000 in
theorem impl_OnesCount16 (m : Nat) (w : World) (h : m < 4096) : Calls Tryd.prog 132 #[.int .u16 (m : Nat)] w fun e w' => e = .returned (.int .i64 (popc m : Nat)) ∧ ∃ k, w' = w.drewN k := by
  have b1 : bits .and .u16 (m : Int) 255 = ((m % 256 : Nat) : Int) := by
    rw [show (255 : Int) = ((255 : Nat) : Int) from rfl, u16_and_nat m 255 (by omega) (by decide), nat_mask8]
  have i1 : (0 : Int) ≤ (m : Int) / 256 := by omega
  have i2 : (m : Int) / 256 < 256 := by omega
  have i3 : (0 : Int) ≤ ((m % 256 : Nat) : Int) := by omega
  have i4 : ((m % 256 : Nat) : Int) < 256 := by omega
  obtain ⟨x, hx⟩ : ∃ x, m % 256 = x := ⟨_, rfl⟩
  rw [hx] at b1 i3 i4
  have HX := Lib.hid hx
  obtain ⟨y, hy⟩ : ∃ y : Nat, (m : Int) / 256 = (y : Int) := ⟨m / 256, by simp⟩
  rw [hy] at i1 i2
  have HY := Lib.hid hy
  clear hx
  go_enter Tryd.func132, Tryd.ntmps132
  go_wp2
  go_quiet (fail)
  go_wp2
  go_ret
  exact ⟨ret_i (pop_sum m x y h HX.out HY.out (by rw [popTab_size]; omega) (by rw [popTab_size]; omega)), _, rfl⟩
theorem impl_size (m : Nat) (w : World) (h : m < 4096) : Calls Tryd.prog 116 #[.int .u16 (m : Nat)] w fun e w' => e = .returned (.int .i64 (popc m : Nat)) ∧ ∃ k, w' = w.drewN k := by
  go_enter Tryd.func116, Tryd.ntmps116
  go_wp2_with fail
  refine (impl_OnesCount16 m _ h).mono ?_
  rintro e w1 ⟨rfl, k, rfl⟩
  go_wp2
  go_ret
  exact ⟨rfl, k, rfl⟩
end Go.Proofs.YtmbbmffoihhdfaaDoor

/- The Ids of a set of paths: the program. -/
namespace Go.Proofs.YtmbbmffoihhdfaaDoor
open Go.RowKit Go.Shelf
attribute [local go_sem] Oper.semAt_some
set_option linter.unusedVariables false

theorem popc_bits (m : Nat) : popc m = (bitsOf m).length := rfl
/-- 'append(v, ..)' at a step of a region that draws its order, inside a fence. -/
theorem step_append_in {F : Fence} {n : Nat} {P : Program} {w : World} {ops : Array Oper} {o : Oper} {a : Act} {K : Act → World → Prop} {Q : Exit → Act → World → Prop} {G : Prop}
    (hg : o.guard = none) (s x : Operand) (t : TypeId) (hop : o.op = Op.call { callee := Callee.builtin Builtin.append, args := #[s, x], argTypes := #[t, t] })
    (base : Nat) (e : TypeId) (i : TypeInfo) (z : Value) (size bytes : Nat) (h1 : P.underlying t = some (.slice e)) (h2 : P.info? e = some i) (h3 : i.zero = some z) (h4 : i.size = size) (h5 : i.bytes = bytes) (h6 : z.cells.size = size) (h7 : 0 < size)
    (v : Value) (k : Nat) (xs : List Value) (hs : a.eval s = v) (hown : w.ownsRow base e size v k xs) (ad : Addr) (m c : Nat) (news : List Value) (hx : a.eval x = .slice (some ad) m c) (hn : news.length = m * size)
    (hc : ∀ j u, news[j]? = some u → w.cell? (ad.add j) = some u) (h1c : ∀ u ∈ news, u.oneCell' = true) (b1 : k + m ≤ maxLen) (b2 : (k + m) * bytes ≤ 140737488355328) (b3 : base ≤ w.heap.size)
    (hK : ∀ v' w', w'.ownsRow base e size v' (k + m) (xs ++ news) → w.grownBy w' v.ownBlock → (v' = .slice none 0 0 ↔ v = .slice none 0 0 ∧ m = 0) → K (a.put o.dst v') w') :
    if Region.wanted o (yielded ops a.tmps) = true then Oper.wpIn F n P o a w K Q else G := by
  rw [if_pos (by simp [Region.wanted, hg])]
  obtain ⟨v', w', hrun, r1, r2, r3⟩ := run_append_own (P := P) w base t o.type e i z size bytes h1 h2 h3 h4 h5 h6 h7 v k xs hown ad m c news hn hc h1c b1 b2 b3
  unfold Oper.wpIn
  refine ⟨?_, ?_⟩
  · simp [Oper.about, hop, resolve, Target.leads, Sem.run_pure]
  · rw [Oper.semAt_plain F _ _ (by rw [hop]; intro c hc'; cases hc')]
    simp [execOp, hop, resolve, invoke, builtin, hs, hx, hrun, Result.andThen]
    exact hK v' w' r1 r2 r3
theorem info_int' : (Tryd.prog.info? 3).map (fun i => (i.zero, i.size, i.bytes)) = some (some (.int .i64 0), 1, 8) := by kernel_rfl
set_option maxRecDepth 100000 in
set_option maxHeartbeats 2000000 in
theorem impl_idsOf (A : Option Addr) (n c B : Nat) (ps : List Pth) (f : Nat → Nat) (m : Nat) (w : World) (h : PthsAt w B A n ps) (hB : B ≤ w.heap.size) (h12 : n ≤ 12) (hm : m < 2 ^ n) (hw : Brus w) :
    Calls Tryd.prog 99 #[.agg (xcells A n c f).toArray, .int .u16 (m : Nat)] w fun e W' => ∃ v, e = .returned v ∧ Own .i64 3 W' w.heap.size v (idsM ps m) ∧ Below w.heap.size w W' := by
  have hm4 := Nat.lt_of_lt_of_le hm (pow_le12 h12)
  obtain ⟨i0, hi, hz0, hz1, hz2⟩ := info_parts info_int'
  refine (callsIn_wide (n := 4)).1 ?_
  refine callsIn_of_wp_marks Tryd.func99 rfl trivial ?_ rfl
  simp only [Tryd.ntmps99, List.size_toArray, List.length_cons, List.length_nil, Nat.reduceAdd, Nat.reduceSub, Array.replicate_succ, Array.replicate_zero, List.push_toArray, List.append_toArray, List.nil_append, List.cons_append]
  have hX0 : (w.alloc (.cells (xcells A n c f).toArray 73)).heap[w.heap.size]? = some (.cells (xcells A n c f).toArray 73 (0, 0)) := heap_alloc_new w _
  have hx0 : (xcells A n c f).toArray[0]? = some (.slice A n c) := rfl
  have HP := Lib.hid h
  have hp12 := popc_le m
  generalize (xcells A n c f).toArray = xs at *
  have HX0 := Lib.hid hX0
  have HXS := Lib.hid hx0
  clear hX0 hx0 h
  gi_wp2
  refine ⟨trivial, (callsIn_wide.2 (impl_size m _ hm4)).mono ?_⟩
  rintro e w' ⟨rfl, k0, rfl⟩
  generalize hpc : popc m = pc at *
  gi_wp2_with (gi_at_make; refine wpListIn_make_own _ rfl _ _ 45 rfl (w.heap.size + 1) 3 i0 (.int .i64 0) 1 Tryd.underlying45 hi hz0 hz1 .i64 .i64 _ pc rfl rfl rfl (by rw [hz2]; omega) (by unfold maxLen; omega) (by simp) ?_; intro w1 hown1 hgrow1)
  have es : ((w.alloc (.cells xs 73)).drewN k0).heap.size = w.heap.size + 1 := by simp
  try rw [es] at hown1
  have hs1 : w.heap.size + 1 < w1.heap.size := (hown1.lt (w.heap.size + 1) rfl).2
  have hX1 : w1.heap[w.heap.size]? = some (.cells xs 73 (0, 0)) := (hgrow1.block w.heap.size (by simp) (by simp)).trans HX0.out
  have hBa : Below w.heap.size w (w.alloc (.cells xs 73)) := (Below.refl _ w).alloc (Nat.le_refl _) _
  have hBd : Below w.heap.size w ((w.alloc (.cells xs 73)).drewN k0) := ⟨hBa.os, hBa.tape, hBa.output, hBa.size, hBa.block⟩
  have hB1 : Below w.heap.size w w1 := hBd.grown hgrow1 (by simp) (fun k e => by cases e)
  refine ⟨trivial, (callsIn_wide.2 (impl_indexes m _)).mono ?_⟩
  rintro e w' ⟨rfl, rfl⟩
  gi_wp2
  have hcx : w1.cell? ⟨w.heap.size, 0, none⟩ = some (.slice A n c) := by rw [cell_of_row w1 w.heap.size 0 _ _ _ hX1]; exact HXS.out
  have bO := Boxed.new w1 45 (.slice (some ⟨w.heap.size + 1, 0, none⟩) 0 pc)
  have bN := Boxed.new (w1.alloc (.cells #[.slice (some ⟨w.heap.size + 1, 0, none⟩) 0 pc] 45)) 70 (.int .u16 (m : Nat))
  rw [World.size_alloc] at bN
  have hB0 : Below w.heap.size w ((w1.alloc (.cells #[.slice (some ⟨w.heap.size + 1, 0, none⟩) 0 pc] 45)).alloc (.cells #[.int .u16 (m : Nat)] 70)) := (hB1.alloc hB1.size _).alloc (by simp; omega) _
  have hbru := hw.below hB0 (Nat.le_refl _)
  have hglt := hw.lt
  refine wpIn_rangeFunc_ownF rfl (by omega) (gf := 133) (lb := #[.pointer (some ⟨w1.heap.size + 1, 0, none⟩)]) rfl trivial (enters_of Tryd.func133 (by kernel_rfl) rfl)
    (idx_stopsN n h12 (4 - 1) (by omega) (w1.heap.size + 1) w.heap.size m hm _ (by simp) (by simp; omega) bN.cell hbru hglt) belowK_t (belowK_b (by simp; omega)) (Below.refl _ _) (fun _ => rfl)
    (fun pre W => ((∃ v, Boxed W w1.heap.size 45 v ∧ W.ownsRow (w.heap.size + 1) 3 1 v pre.length (pre.map fun i => Value.int .i64 (idAt ps i.val)) ∧ True) ∧ W.cell? ⟨w.heap.size, 0, none⟩ = some (.slice A n c)) ∧ Below w.heap.size w W)
    (fun _ _ _ => False)
    (OwnFrom.and (Own.from (fun s A B row hs hg hr => ⟨holdsRow_own (w.heap.size + 1) w1.heap.size 45 3 1 (fun pre => pre.length) (fun (pre : List (IdxN n)) => pre.map fun i => Value.int .i64 (idAt ps i.val)) (fun _ _ => True) s A B row hs.1 hg hr, cell_kept hs.2 hg hr⟩) _) (ownFrom_below (Nat.le_refl _) (by simp; omega)))
    (fun _ _ _ _ _ hs _ _ => hs)
    ⟨⟨⟨_, bO.alloc _, (hown1.alloc _).alloc _, trivial⟩, cell_alloc_l _ (cell_alloc_l _ hcx)⟩, hB0⟩
    (fun x => { tmps := #[.agg xs, .int .u16 (m : Nat), .pointer (some ⟨w.heap.size, 0, none⟩), undef, .slice none 0 0, .pointer (some ⟨w1.heap.size, 0, none⟩), .int .i64 (x.val : Int), .int .u16 (m : Nat), .int .i64 (pc : Nat), .slice (some ⟨w.heap.size + 1, 0, none⟩) 0 pc, .int .u16 (m : Nat), .func (.func 133) #[] #[.pointer (some ⟨w1.heap.size + 1, 0, none⟩)], .int .i64 (x.val : Int), undef, undef, undef, undef, undef, undef, undef, undef, undef, undef], defers := [] }) ?assign ?body ?done ?stop
  case assign =>
    intro l x W K hK
    simp only [encN]
    gi_wp2
    exact hK
  case body =>
    rintro l pre x W ⟨⟨⟨v, hv, hrow, -⟩, hcx⟩, hB⟩ hlt
    have hc := hv.cell
    have hmx : Tryd.prog.follows .mixedOrders = true := by kernel_rfl
    obtain ⟨ad, p, hA, hab, hp, hpt⟩ := (HP.out.below (hB.mono ‹B ≤ w.heap.size›)).at x.property
    have hid : idAt ps x.val = p.id := by unfold idAt; rw [pAt_some hp]
    subst hA
    obtain ⟨x0, -, -, -⟩ := hpt
    obtain ⟨k, hk⟩ := x
    simp only at *
    have hlW : w1.heap.size < W.heap.size := hv.lt
    have hvD : Boxed W.drew w1.heap.size 45 v := hv
    have hrD : W.drew.ownsRow (w.heap.size + 1) 3 1 v pre.length (pre.map fun i => Value.int .i64 (idAt ps i.val)) := hrow
    have hab2 : (ad.add (k * 4)).block < W.heap.size := by omega
    gi_wp2
    refine wpIn_region_any hmx ?_
    (try change wpAnyIn _ _ _ _ _ _ _ _ _ (World.drew _))
    repeat' (first
      | refine AllReadyIn.cons rfl (fun K hK => ?_) ?_
      | exact AllReadyIn.nil
      | refine wpAnyIn_ready (rs := [0]) (by decide +kernel) (by simp) ?_
      | refine wpAnyIn_ready (rs := [0, 1]) (by decide +kernel) (by simp) ?_
      | refine wpAnyIn_ready (rs := [0, 1, 3]) (by decide +kernel) (by simp) ?_
      | refine wpAnyIn_ready (rs := [0, 2]) (by decide +kernel) (by simp) ?_
      | refine wpAnyIn_ready (rs := [0, 2, 3]) (by decide +kernel) (by simp) ?_
      | refine wpAnyIn_ready (rs := [0, 3]) (by decide +kernel) (by simp) ?_
      | refine wpAnyIn_ready (rs := [0, 4]) (by decide +kernel) (by simp) ?_
      | refine wpAnyIn_ready (rs := [0, 5]) (by decide +kernel) (by simp) ?_
      | refine wpAnyIn_ready (rs := [0, 6]) (by decide +kernel) (by simp) ?_
      | refine wpAnyIn_ready (rs := [0, 7]) (by decide +kernel) (by simp) ?_
      | refine wpAnyIn_ready (rs := [1]) (by decide +kernel) (by simp) ?_
      | refine wpAnyIn_ready (rs := [1, 3]) (by decide +kernel) (by simp) ?_
      | refine wpAnyIn_ready (rs := [2]) (by decide +kernel) (by simp) ?_
      | refine wpAnyIn_ready (rs := [2, 3]) (by decide +kernel) (by simp) ?_
      | refine wpAnyIn_ready (rs := [3]) (by decide +kernel) (by simp) ?_
      | refine wpAnyIn_ready (rs := [4]) (by decide +kernel) (by simp) ?_
      | refine wpAnyIn_ready (rs := [5]) (by decide +kernel) (by simp) ?_
      | refine wpAnyIn_ready (rs := [6]) (by decide +kernel) (by simp) ?_
      | refine wpAnyIn_ready (rs := [7]) (by decide +kernel) (by simp) ?_
      | refine wpAnyIn_ready (rs := [8]) (by decide +kernel) (by simp) ?_
      | refine wpAnyIn_ready (rs := [9]) (by decide +kernel) (by simp) ?_
      | (refine wpAnyIn_done (by decide +kernel) ?_ _; gi_wp2; exact ⟨(KeepsOthers.drew W).trans hk2, (below_undrew hb2).mono (by omega), ⟨⟨_, hv2, by rw [List.length_append, List.map_append, List.map_singleton, hid]; exact hr2, trivial⟩, (hb2.cell (p := ⟨w.heap.size, 0, none⟩) (by simp)).trans hcx⟩, hB.trans ((below_undrew hb2).mono (by omega))⟩)
      | (refine step_append_in rfl _ _ 45 rfl (w.heap.size + 1) 3 i0 (.int .i64 0) 1 8 Tryd.underlying45 hi hz0 hz1 hz2 rfl (by decide) _ _ _ rfl (hrD.alloc _) ⟨W.heap.size, 0, none⟩ 1 1 [.int .i64 p.id] rfl rfl (cell_one_new _ _ _) (by simp [Value.oneCell']) (by unfold maxLen; omega) (by omega) (by simp; omega) ?_
         intro v' w3 hown' hgrow _
         obtain ⟨g', cap', rfl⟩ := ownsRow_succ hown'
         obtain ⟨hv1, hv2, hr2, hk2, hb2⟩ := hvD.appended (by decide) hrD (by simp; omega) (by omega) hown' hgrow
         have hc1 := hv1.cell
         have hf1 := hv1.frozen
         refine hK _ _ ?_
         clear hK K)
      | (go_simp; refine hK _ _ ?_; clear hK K))
  case done =>
    rintro D ys W hD rfl ⟨⟨⟨v, hv, hrow, -⟩, _⟩, hB⟩ hK
    have hc := hv.cell
    gi_wp2
    refine ⟨by simp, .inl ⟨_, _, rfl, run_takeDeferred hK, ?_⟩⟩
    refine ⟨_, results_tmp rfl _ _ _, v, rfl, ?_, hB.trans (belowK_b (w := w) (Nat.le_refl _) W D _ _ (by simp at hD; omega) hK rfl rfl)⟩
    unfold Own
    rw [← idxsN_map h12 hm ps, List.length_map, List.map_map]
    exact ownr_mono (ownsRow_putObj hrow _ hK rfl) (by omega)
  case stop =>
    rintro D c pre W _ _ h _
    exact h.elim
end Go.Proofs.YtmbbmffoihhdfaaDoor

/- Chapter 6's model: CoverOf. -/
namespace Go.Proofs.YtmbbmffoihhdfaaDoor
open Go.RowKit
set_option linter.unusedVariables false

theorem addS_one (ps : List Pth) (x : Int) : (addS ps [x]).length ≤ 1 + ps.length := by
  have := addS_length ps [x]
  rw [List.length_singleton] at this
  exact this
set_option maxHeartbeats 2000000 in
set_option maxRecDepth 100000 in
theorem spec_CoverOf (A : Option Addr) (n c B : Nat) (ps : List Pth) (w : World) (h : PthsAt w B A n ps) (hB : B ≤ w.heap.size) (hn : n ≤ 2147483647) :
    Calls Tryd.prog 67 #[.slice A n c] w fun e w' => ∃ v, e = .returned v ∧ OwnSS w' w.heap.size v (coverP ps) ∧ Below w.heap.size w w' := by
  have hl := h.1
  go_enter Tryd.func67, Tryd.ntmps67
  go_wp2
  go_loopw [3, 4, 5] (fun v d i wr => ∃ j : Nat, j ≤ n ∧ i = .int .i64 j ∧ OwnSS wr w.heap.size v (coverTo ps j).1 ∧ Own .i64 3 wr w.heap.size d (coverTo ps j).2 ∧ (0 < j → arePs ps = true) ∧ Below w.heap.size w wr) (fun _ _ i _ => n - (intOf i).toNat)
  case atStart =>
    exact ⟨0, Nat.zero_le _, rfl, OwnSS.hollow (by (simp only [alloc_heap, drew_heap, Array.getElem?_push, Array.size_push]; (repeat first | rw [if_neg (by omega)] | rw [if_pos (by omega)])); simp) (by (first | omega | (simp only [alloc_heap, drew_heap, Array.size_push]; omega))), own_hollow (by (simp only [alloc_heap, drew_heap, Array.getElem?_push, Array.size_push]; (repeat first | rw [if_neg (by omega)] | rw [if_pos (by omega)])); simp) (by (first | omega | (simp only [alloc_heap, drew_heap, Array.size_push]; omega))), fun hj => absurd hj (by omega), by exact ⟨rfl, rfl, rfl, by (first | omega | (simp only [alloc_heap, drew_heap, Array.size_push]; omega)), fun i hi => by (simp only [alloc_heap, drew_heap, Array.getElem?_push, Array.size_push]; (repeat first | rw [if_neg (by omega)] | rw [if_pos (by omega)]))⟩⟩
  case round =>
    obtain ⟨j, hj, rfl, hout, hdone, hgo, hbl⟩ := hrel
    have hsz := hbl.size
    have HG := Lib.hid hgo
    clear hgo
    by_cases hlt : j < n
    · go_wp2_with fail
      refine (spec_ArePaths A n c B ps wr (h.below (hbl.mono hB)) (by omega) (by omega)).mono ?_
      rintro e w1 ⟨rfl, hb1⟩
      replace hout := hout.below hb1
      replace hdone := hdone.below hb1
      replace hbl := hbl.trans (hb1.mono hsz)
      replace hsz := hbl.size
      clear hb1
      cases ha : arePs ps
      · have hj0 : j = 0 := by
          have := HG.out
          rw [ha] at this
          by_cases e : 0 < j
          · cases this e
          · omega
        have HR : Hid (coverP ps = (coverTo ps 0).1) := Lib.hid (by unfold coverP; rw [ha]; rfl)
        subst hj0
        clear ha HG
        go_wp2
        go_ret
        exact ⟨_, rfl, by rw [HR.out]; exact hout, hbl⟩
      · have HA := Lib.hid ha
        have h12 := arePs_len ha
        clear ha
        obtain ⟨hlo, hld⟩ := coverTo_len ps j
        have hld2 : (coverTo ps j).2.length ≤ 12 * 13 := Nat.le_trans hld (Nat.mul_le_mul (by omega) (by omega))
        clear hld
        obtain ⟨ad, p, rfl, hab, hp, hq⟩ := h.at hlt
        have HP : Hid (pAt ps j = p) := Lib.hid (pAt_some hp)
        have c0 := (hq.below hbl (by omega)).c0
        have HC : Hid (coverTo ps (j + 1) = if hasI (coverTo ps j).2 p.id then coverTo ps j else ((coverTo ps j).1 ++ [addS ps [p.id]], (addS ps [p.id]).foldl putI (coverTo ps j).2)) := Lib.hid (by show (if hasI (coverTo ps j).2 (pAt ps j).id then _ else _) = _; rw [HP.out])
        have HQ := Lib.hid hq
        clear hp hq
        obtain ⟨Ad, cd, rfl⟩ := hdone.sliced
        go_wp2_with fail
        refine (spec_l6Has Ad _ cd _ _ p.id w1 hdone.ints (by omega)).mono ?_
        rintro e w2 ⟨rfl, rfl⟩
        cases hh : hasI (coverTo ps j).2 p.id
        · have HS : Hid (coverTo ps (j + 1) = ((coverTo ps j).1 ++ [addS ps [p.id]], (addS ps [p.id]).foldl putI (coverTo ps j).2)) := Lib.hid (by rw [HC.out, hh]; rfl)
          clear hh HC
          generalize (coverTo ps j).2 = done at *
          generalize (coverTo ps j).1 = out at *
          have own1 : Own .i64 3 (w1.alloc (.cells #[.int .i64 p.id] 3)) w1.heap.size (.slice (some ⟨w1.heap.size, 0, none⟩) 1 1) [p.id] := own_lit w1 [p.id] 1 (Nat.le_refl _) (by decide) rfl
          have hba : Below w1.heap.size w1 (w1.alloc (.cells #[.int .i64 p.id] 3)) := (Below.refl _ _).alloc (Nat.le_refl _) _
          have hi1 := own1.ints
          have hl1 := addS_one ps p.id
          go_wp2_with fail
          refine (spec_AddToStage (some ad) n c B ps _ 1 1 _ [p.id] _ ((h.below (hbl.mono hB)).below (hba.mono (by omega))) hi1 (by (first | omega | (simp only [alloc_heap, drew_heap, Array.size_push]; omega))) (Nat.le_refl _) (by omega) (by decide) (by decide) (by simp)).mono ?_
          rintro e w3 ⟨s, rfl, hs3, hb3⟩
          have hbl3 := hbl.trans ((hba.trans (hb3.mono (by (first | omega | (simp only [alloc_heap, drew_heap, Array.size_push]; omega))))).mono hsz)
          have hs3' := hs3.mono (lo' := w.heap.size) (by (first | omega | (simp only [alloc_heap, drew_heap, Array.size_push]; omega)))
          have hout3 := (hout.below hba).below hb3
          have hdone3 := (hdone.below hba).below hb3
          have hsz3 := hbl3.size
          clear hs3 hb3 own1 hba hi1 hout hdone hbl
          generalize addS ps [p.id] = l at *
          obtain ⟨As, cs, rfl⟩ := hs3'.sliced
          obtain ⟨vs, hr, hi⟩ := hout3
          go_wp2_with (at_builtin; refine wpList_appR1 rfl _ _ 62 rfl 45 (.slice none 0 0) 1 24 Tryd.underlying62 info_ints rfl (by decide) (by decide) w.heap.size _ _ _ rfl hr (by omega) [.slice As l.length cs] rfl (by simp [Value.oneCell']) _ _ w3.heap.size hsz3 rfl (by simp) ?_; intro v4 w4 hr4 hgrow4 hat4)
          have hbx : Below w3.heap.size w3 (w3.alloc (.cells #[.slice As l.length cs] 45)) := (Below.refl _ _).alloc (Nat.le_refl _) _
          have hout4 := OwnSS.put vs hr hi hs3' hbx hr4 hgrow4
          have hs4 := (hs3'.below hbx).grown hgrow4 (own_apart (hs3'.below hbx) (ownr_below hr hbx))
          have hdone4 := (hdone3.below hbx).grown hgrow4 (own_apart (hdone3.below hbx) (ownr_below hr hbx))
          have hbl4 := ownr_push hr (Nat.le_refl _) (hbl3.trans (hbx.mono hsz3)) (by (first | omega | (simp only [alloc_heap, drew_heap, Array.size_push]; omega))) hgrow4
          have hsz4 := hbl4.size
          clear hgrow4 hat4 hr4 hbx hr hi hs3' hdone3 hbl3
          go_wp2
          go_loopw [4, 7] (fun d i wr => ∃ k : Nat, k ≤ l.length ∧ i = .int .i64 k ∧ Own .i64 3 wr w.heap.size d ((l.take k).foldl putI done) ∧ OwnSS wr w.heap.size v4 (out ++ [l]) ∧ Own .i64 3 wr w.heap.size (.slice As l.length cs) l ∧ Below w.heap.size w wr) (fun _ i _ => l.length - (intOf i).toNat)
          case atStart => exact ⟨0, Nat.zero_le _, rfl, hdone4, hout4, hs4, hbl4⟩
          case round =>
            clear hdone4 hout4 hs4 hbl4 hsz4 hsz3 c0 hsz
            obtain ⟨k, hk, rfl, hd, hout, hs, hbl⟩ := hrel
            have hsz := hbl.size
            by_cases hlt2 : k < l.length
            · have hdl := foldl_putI_length (l.take k) done
              rw [List.length_take] at hdl
              obtain ⟨ad2, rfl, hab2, hcell⟩ := hs.ints.2 (by omega)
              have hcw := hcell k hlt2
              have HF : Hid ((l.take (k + 1)).foldl putI done = putI ((l.take k).foldl putI done) (l.getD k 0)) := Lib.hid (by rw [List.take_add_one, List.foldl_append, List.getElem?_eq_getElem hlt2, List.getD_eq_getElem?_getD, List.getElem?_eq_getElem hlt2]; rfl)
              clear hcell
              generalize l.getD k 0 = z at *
              generalize (l.take k).foldl putI done = d at *
              obtain ⟨Ad, cd, rfl⟩ := hd.sliced
              go_wp2_with fail
              refine (spec_l6Put Ad _ cd _ d z wr hd.ints (Nat.le_refl _) (by omega) hd.cap.1 hd.nilcap').mono ?_
              rintro e w5 ⟨d5, rfl, hd5, hb5⟩
              replace hd5 := hd5.mono hsz
              replace hout := hout.below hb5
              replace hs := hs.below hb5
              replace hbl := hbl.trans (hb5.mono hsz)
              clear hd hb5
              go_wp2
              go_roundw
              case rel => exact ⟨k + 1, by omega, by go_num, by rw [HF.out]; exact hd5, hout, hs, hbl⟩
              case measure => simp [intOf]; omega
            · obtain rfl : k = l.length := by omega
              rw [List.take_of_length_le (Nat.le_refl _)] at hd
              go_wp2
              go_roundw
              case rel => exact ⟨j + 1, by omega, by go_num, by rw [HS.out]; exact hout, by rw [HS.out]; exact hd, fun _ => HA.out, hbl⟩
              case measure => simp [intOf]; omega
        · have HS : Hid (coverTo ps (j + 1) = coverTo ps j) := Lib.hid (by rw [HC.out, hh]; rfl)
          clear hh HC
          go_wp2
          go_roundw
          case rel => exact ⟨j + 1, by omega, by go_num, by rw [HS.out]; exact hout, by rw [HS.out]; exact hdone, fun _ => HA.out, hbl⟩
          case measure => simp [intOf]; omega
    · obtain rfl : j = n := by omega
      have HR : Hid (coverP ps = (coverTo ps j).1) := Lib.hid (by
        unfold coverP
        cases ha : arePs ps
        · by_cases e : 0 < j
          · rw [HG.out e] at ha; cases ha
          · obtain rfl : j = 0 := by omega
            rfl
        · rw [hl]; rfl)
      go_wp2
      go_ret
      exact ⟨_, rfl, by rw [HR.out]; exact hout, hbl⟩
end Go.Proofs.YtmbbmffoihhdfaaDoor

/- CoverOf: the program; its exact law's contracts. -/
namespace Go.Proofs.YtmbbmffoihhdfaaDoor
open Go.RowKit
set_option linter.unusedVariables false

theorem OwnD.hollow {W : World} {lo g : Nat} (h : W.heap[g]? = some (.cells #[] 45 (0, 0))) (hl : lo ≤ g) : OwnD W lo (.slice (some ⟨g, 0, none⟩) 0 0) [] [] :=
  ⟨⟨rfl, .inr ⟨g, 0, #[], rfl, hl, h, Nat.le_refl _, by decide, rfl, rfl⟩⟩, fun j hj => absurd hj (by simp), ApartL.nil⟩
theorem OwnD.put {w w1 w' : World} {lo : Nat} {v v' u : Value} {us : List Value} {zss : List (List Int)} {zs : List Int} (h : OwnD w lo v us zss) (h2 : Own .i64 3 w lo u zs) (hb : Below w.heap.size w w1)
    (hr' : w'.ownsRow lo 45 1 v' (zss.length + 1) (us ++ [u])) (hg : w1.grownBy w' v.ownBlock) (hap : ApartL (us ++ [u])) : OwnD w' lo v' (us ++ [u]) (zss ++ [zs]) := by
  have hl := h.len
  have hr1 := ownr_below h.row hb
  have kept : ∀ {x : Value} {xs : List Int}, Own .i64 3 w lo x xs → Own .i64 3 w' lo x xs := fun hx => (hx.below hb).grown hg (own_apart (hx.below hb) hr1)
  refine ⟨by rw [List.length_append]; exact hr', fun j hj => ?_, hap⟩
  rw [List.length_append, List.length_singleton] at hj
  by_cases e : j < zss.length
  · obtain ⟨x, h1, h3⟩ := h.each j e
    refine ⟨x, by rw [List.getElem?_append_left (by omega)]; exact h1, ?_⟩
    rw [List.getD_eq_getElem?_getD, List.getElem?_append_left e, ← List.getD_eq_getElem?_getD]
    exact kept h3
  · obtain rfl : j = zss.length := by omega
    refine ⟨u, by rw [List.getElem?_append_right (by omega)]; simp [hl], ?_⟩
    rw [List.getD_eq_getElem?_getD, List.getElem?_append_right (by omega)]
    simpa using kept h2
theorem row_not {w : World} {lo E s n b : Nat} {v : Value} {xs : List Value} {cs : Array Value} {T : TypeId} (h : w.ownsRow lo E s v n xs) (hb : w.heap[b]? = some (.cells cs T (0, 0))) (hT : T ≠ E) : v.ownBlock ≠ some b := by
  rcases h.2 with ⟨rfl, _⟩ | ⟨g, cap, cur, rfl, _, hg, _⟩
  · simp [Value.ownBlock]
  · intro e
    have e1 : g = b := Option.some.inj e
    subst e1
    rw [hb] at hg
    injection hg with hg
    injection hg with _ ht
    exact hT ht
theorem cov_len (ps : List Pth) : ∀ k, (covI ps k).1.length ≤ k
  | 0 => Nat.le_refl _
  | k + 1 => by
    have ih := cov_len ps k
    unfold covI
    split
    · omega
    · show ((covI ps k).1 ++ [_]).length ≤ _
      rw [List.length_append, List.length_singleton]
      omega
theorem cov_yes {ps : List Pth} {k q : Nat} {L : List Nat} (h : covI ps k = (L, q)) (hb : q.testBit k = true) : covI ps (k + 1) = (L, q) := by
  unfold covI
  rw [h]
  exact if_pos hb
theorem cov_no {ps : List Pth} {k q : Nat} {L : List Nat} (h : covI ps k = (L, q)) (hb : q.testBit k = false) : covI ps (k + 1) = (L ++ [fillTo (rowSt ps ps.length 0) (2 ^ k) ps.length], q ||| fillTo (rowSt ps ps.length 0) (2 ^ k) ps.length) := by
  unfold covI
  rw [h]
  exact if_neg (by rw [hb]; exact Bool.false_ne_true)
theorem and_bit (q k : Nat) : q &&& 2 ^ k = 0 ↔ q.testBit k = false := by
  rw [and_zero]
  constructor
  · intro h
    rw [Bool.eq_false_iff]
    intro hb
    exact h k ⟨hb, by rw [Nat.testBit_two_pow]; simp⟩
  · rintro h i ⟨h1, h2⟩
    rw [Nat.testBit_two_pow, decide_eq_true_eq] at h2
    subst h2
    rw [h] at h1
    cases h1
theorem cover_off {ps : List Pth} (h : arePs ps = false) : coverP ps = [] := by unfold coverP; rw [h]; rfl
theorem cover_on {ps : List Pth} (h : arePs ps = true) : coverP ps = (covI ps ps.length).1.map (idsM ps) := by
  unfold coverP
  rw [h, if_pos rfl]
  exact (cov_eq h _ (Nat.le_refl _)).1
theorem cover_small (ps : List Pth) : SmallSS (coverP ps) := by
  cases h : arePs ps
  · rw [cover_off h]; exact ⟨by simp, fun j hj => absurd hj (by simp)⟩
  · rw [cover_on h]
    have h12 := arePs_len12 h
    have hl := cov_len ps ps.length
    refine ⟨by rw [List.length_map]; omega, fun j hj => ?_⟩
    rw [List.length_map] at hj
    rw [List.getD_eq_getElem?_getD, List.getElem?_map, List.getElem?_eq_getElem hj]
    show ((idxs _).map _).length ≤ _
    rw [List.length_map]
    have := idxs_len ((covI ps ps.length).1[j])
    omega
set_option maxHeartbeats 2000000 in
set_option maxRecDepth 100000 in
theorem impl_CoverOf (A : Option Addr) (n c B : Nat) (ps : List Pth) (w : World) (h : PthsAt w B A n ps) (hB : B ≤ w.heap.size) (hn : n ≤ c ∧ c ≤ maxLen) (hn1 : n ≤ 4294967296) (hw : Brus w) :
    Calls Tryd.prog 68 #[.slice A n c] w fun e w' => ∃ v, e = .returned v ∧ (∃ us, OwnD w' w.heap.size v us (coverP ps)) ∧ Below w.heap.size w w' := by
  have hl := h.1
  have hba : Below w.heap.size w (w.alloc (.cells #[] 45)) := (Below.refl _ _).alloc (Nat.le_refl _) _
  have own0 : OwnD (w.alloc (.cells #[] 45)) w.heap.size (.slice (some ⟨w.heap.size, 0, none⟩) 0 0) [] [] := OwnD.hollow (heap_alloc_new w _) (Nat.le_refl _)
  have hP := h.below (hba.mono hB)
  have hBs : B ≤ (w.alloc (.cells #[] 45)).heap.size := Nat.le_trans hB hba.size
  have HBA := Lib.hid hba
  have HO := Lib.hid own0
  have HW := Lib.hid hw
  have HP := Lib.hid h
  cases ha : arePs ps
  · have HR := Lib.hid (cover_off ha)
    have HC := Lib.hid (impl_crossingOf_no A n c B ps _ hP hBs hn1 ha)
    clear h hw ha hba own0 hP hBs
    go_enter Tryd.func68, Tryd.ntmps68
    go_wp2_with fail
    refine HC.out.mono ?_
    rw [cross_lit]
    rintro e w1 ⟨rfl, hb⟩
    have HO1 := Lib.hid (HO.out.below hb)
    have HB1 := Lib.hid (HBA.out.trans (hb.mono HBA.out.size))
    clear hb
    go_wp2
    go_ret
    exact ⟨_, rfl, ⟨[], by rw [HR.out]; exact HO1.out.below ((Below.refl _ _).alloc (Nat.le_refl _) _)⟩, HB1.out.alloc HB1.out.size _⟩
  · subst hl
    have h12 := arePs_len12 ha
    have hp12 := pow_le12 h12
    have HC := Lib.hid (impl_crossingOf A ps.length c B ps _ hP hBs hn ha)
    have HR := Lib.hid (cover_on ha)
    have HY := Lib.hid (fun k L q h1 h2 => cov_yes (ps := ps) (k := k) (L := L) (q := q) h1 h2)
    have HN := Lib.hid (fun k L q h1 h2 => cov_no (ps := ps) (k := k) (L := L) (q := q) h1 h2)
    have HLEN := Lib.hid (fun k L q (h1 : covI ps k = (L, q)) => show L.length ≤ k by have := cov_len ps k; rw [h1] at this; exact this)
    have hln : (xcells A ps.length c (rowSt ps ps.length 0)).length = 13 := xcells_length _ _ _ _
    have hinf : (Tryd.prog.info? 73).map (·.size) = some (xcells A ps.length c (rowSt ps ps.length 0)).length := by rw [hln]; exact info_cross
    have HF := Lib.hid (fun k (hk : k < ps.length) x => impl_fill A ps.length c (rowSt ps ps.length 0) (rowSt_lt ps ps.length 0) (2 ^ k) x h12 (Nat.pow_lt_pow_right (by decide) hk))
    have HFL := Lib.hid (fun k (hk : k < ps.length) => fill_lt (f := rowSt ps ps.length 0) (m := 2 ^ k) (N := ps.length) (Nat.pow_lt_pow_right (by decide) hk) ps.length (Nat.le_refl _))
    have HI := Lib.hid (fun m x hx hxB hm hxw => impl_idsOf A ps.length c B ps (rowSt ps ps.length 0) m x hx hxB h12 hm hxw)
    have HCL := Lib.hid (cross_lit A ps.length c (rowSt ps ps.length 0))
    have H0 : Hid (covI ps 0 = ([], 0)) := Lib.hid rfl
    generalize (xcells A ps.length c (rowSt ps ps.length 0)) = xs at *
    generalize hfl : (fun k => fillTo (rowSt ps ps.length 0) (2 ^ k) ps.length) = fl at *
    have hfe : ∀ k, fillTo (rowSt ps ps.length 0) (2 ^ k) ps.length = fl k := fun k => by rw [← hfl]
    simp only [hfe] at HN HF HFL
    clear h hw ha hba own0 hP hBs hfl hfe
    go_enter Tryd.func68, Tryd.ntmps68
    go_wp2_with fail
    refine HC.out.mono ?_
    rw [HCL.out]
    rintro e w1 ⟨rfl, hb⟩
    have hX := heap_alloc_new w1 (.cells xs.toArray 73)
    have hB1 := (HBA.out.trans (hb.mono HBA.out.size)).alloc (Nat.le_trans HBA.out.size hb.size) (.cells xs.toArray 73)
    have hO1 := (HO.out.below hb).below ((Below.refl _ _).alloc (Nat.le_refl _) (.cells xs.toArray 73))
    have hs2 : w1.heap.size < (w1.alloc (.cells xs.toArray 73)).heap.size := by simp
    obtain ⟨w2, hw2⟩ : ∃ w2, w2 = w1.alloc (.cells xs.toArray 73) := ⟨_, rfl⟩
    rw [← hw2] at hX hB1 hs2 hO1
    rw [HCL.out] at hw2
    have hmx : Tryd.prog.follows .mixedOrders = true := by kernel_rfl
    clear hb HC HO HBA
    go_wp2
    rw [← hw2]
    clear hw2
    go_loopw [3, 6, 20] (fun v s i wr => ∃ (k q : Nat) (L : List Nat) (us : List Value), k ≤ ps.length ∧ i = .int .i64 k ∧ s = .int .u16 (q : Nat) ∧ q < 4096 ∧ covI ps k = (L, q) ∧ OwnD wr w.heap.size v us (L.map (idsM ps)) ∧ Below w.heap.size w wr ∧ wr.heap[w1.heap.size]? = some (.cells xs.toArray 73 (0, 0))) (fun _ _ i _ => ps.length - (intOf i).toNat)
    case atStart => exact ⟨0, 0, [], [], Nat.zero_le _, rfl, rfl, by decide, H0.out, hO1, hB1, hX⟩
    case round =>
      clear hO1 hB1 hX hs2 H0
      obtain ⟨k, q, L, us, hk, rfl, rfl, hq, hcv, ho, hbl, hx⟩ := hrel
      have HCV := Lib.hid hcv
      have hLl := HLEN.out k L q hcv
      have hsz := hbl.size
      clear hcv
      by_cases hlt : k < ps.length
      · have hmb := Lib.hid (fun x => impl_maskBit k x (by omega))
        have hab : bits .and .u16 (q : Int) ((2 ^ k : Nat) : Int) = ((q &&& 2 ^ k : Nat) : Int) := u16_and_nat _ _ (by omega) (bit_lt (by omega))
        have HAB := Lib.hid (and_bit q k)
        have HFK := Lib.hid (HF.out k hlt)
        have hfl := HFL.out k hlt
        have HYK := Lib.hid (fun h2 => HY.out k L q HCV.out h2)
        have HNK := Lib.hid (fun h2 => HN.out k L q HCV.out h2)
        have HX := Lib.hid hx
        have HO := Lib.hid ho
        have HBL := Lib.hid hbl
        generalize fl k = fk at *
        generalize hand : q &&& 2 ^ k = r at *
        generalize 2 ^ k = bk at *
        clear hx ho hbl
        by_cases hr : r = 0
        · have hR := range_block HX.out
          have HNN := Lib.hid (HNK.out (HAB.out.1 hr))
          subst hr
          have hob : bits .or .u16 (q : Int) (fk : Int) = ((q ||| fk : Nat) : Int) := u16_or_nat _ _ (by omega) (by omega)
          have hol := or_lt hq (show fk < 4096 by omega)
          generalize q ||| fk = y at *
          clear HAB HYK HNK hand
          go_wp2_with fail
          refine (hmb.out wr).mono ?_
          rintro e w' ⟨rfl, rfl⟩
          go_wp2
          refine wp_region_held_drew (S := fun W' => W'.rangeAt w1.heap.size 0 xs) hmx hR (fun hH => ?_)
          refine wpAnyH_take (i := 0) (v := .agg xs.toArray) rfl (by kernel_rfl) (by kernel_rfl) (by kernel_rfl) (fun _ _ _ h => h) (yieldsIf_load_mid (by rfl) 73 _ rfl w1.heap.size 0 rfl xs _ (fun _ h => h) Tryd.underlying73 rfl hinf) hH ?_
          try simp only [Act.put, List.setIfInBounds_toArray, List.set_cons_zero, List.set_cons_succ]
          refine wpAnyH_take (i := 1) (v := .int .i64 (k : Int)) rfl (by kernel_rfl) (by kernel_rfl) (by kernel_rfl) (fun _ _ _ h => h) (Or.inl ⟨by rfl, by intro w hSw; go_simp⟩) hH ?_
          try simp only [Act.put, List.setIfInBounds_toArray, List.set_cons_zero, List.set_cons_succ]
          refine wpAnyH_ready (rs := [2]) (by decide +kernel) (by simp) (AllReadyH.cons rfl (fun K hK => ?_) AllReadyH.nil)
          go_simp
          refine (hmb.out _).mono ?_
          rintro e w' ⟨rfl, rfl⟩
          go_wp2_with fail
          refine hK.out _ _ hH (fun _ => ?_)
          clear hK K
          try simp only [Act.put, List.setIfInBounds_toArray, List.set_cons_zero, List.set_cons_succ]
          refine wpAnyH_ready (rs := [3]) (by decide +kernel) (by simp) (AllReadyH.cons rfl (fun K hK => ?_) AllReadyH.nil)
          go_simp
          refine (HFK.out _).mono ?_
          rintro e w3 ⟨rfl, hb3⟩
          have hb3' : Below wr.heap.size wr w3 := ⟨hb3.os, hb3.tape, hb3.output, hb3.size, hb3.block⟩
          have HX3 := Lib.hid ((hb3'.block w1.heap.size (lt_of_block HX.out)).trans HX.out)
          have hR3 := range_block HX3.out
          have HO3 := Lib.hid (HO.out.below hb3')
          have HBL3 := Lib.hid (HBL.out.trans (hb3'.mono HBL.out.size))
          clear hb3 hb3'
          go_wp2_with fail
          refine hK.out _ _ hR3 (fun _ => ?_)
          clear hK K HX HO HBL hH hR
          try simp only [Act.put, List.setIfInBounds_toArray, List.set_cons_zero, List.set_cons_succ]
          refine wpAnyH_ready (rs := [4]) (by decide +kernel) (by simp) (AllReadyH.cons rfl (fun K hK => ?_) AllReadyH.nil)
          go_simp
          refine hK.out _ _ hR3 (fun _ => ?_)
          clear hK K
          try simp only [Act.put, List.setIfInBounds_toArray, List.set_cons_zero, List.set_cons_succ]
          refine wpAnyH_done (by decide +kernel) ?_ _
          have HIW := Lib.hid (HI.out fk w3 (HP.out.below (HBL3.out.mono hB)) (Nat.le_trans hB HBL3.out.size) hfl (HW.out.below HBL3.out (Nat.le_refl _)))
          go_wp2_with ((with_reducible show wpList _ _ _ _ _ _); refine wpList_load_mid rfl 73 _ rfl w1.heap.size 0 rfl xs _ hR3 Tryd.underlying73 rfl hinf ?_)
          refine HIW.out.mono ?_
          rintro e w4 ⟨u, rfl, hu, hb4⟩
          have HX4 := Lib.hid ((hb4.block w1.heap.size (lt_of_block HX3.out)).trans HX3.out)
          have HO4 := Lib.hid (HO3.out.below hb4)
          have HBL4 := Lib.hid (HBL3.out.trans (hb4.mono HBL3.out.size))
          have HAP : Hid (ApartL (us ++ [u])) := Lib.hid (HO3.out.apart.snoc (b := w3.heap.size) (fun x hx g hg => by
            obtain ⟨zs, hz⟩ := HO3.out.inner hx
            exact (hz.block g hg).2) (fun g hg => (hu.block g hg).1))
          have HU := Lib.hid (hu.mono HBL3.out.size)
          have hlL : (L.map (idsM ps)).length < 274877906944 := by rw [List.length_map]; omega
          have hrow := HO4.out.row
          have hs4 := HBL4.out.size
          obtain ⟨Au, cu, rfl⟩ := hu.sliced
          clear hu hb4 HX3 HO3 HBL3 hR3 HIW
          generalize hids : idsM ps fk = zs at *
          have HIDS := Lib.hid hids
          clear hids
          go_wp2_with (at_builtin; refine wpList_appR1 rfl _ _ 62 rfl 45 (.slice none 0 0) 1 24 Tryd.underlying62 info_ints rfl (by decide) (by decide) w.heap.size _ _ _ rfl hrow hlL [.slice Au zs.length cu] rfl (by simp [Value.oneCell']) _ _ w4.heap.size hs4 rfl (by simp) ?_; intro v5 w5 hr5 hgrow5 hat5)
          have hbx : Below w4.heap.size w4 (w4.alloc (.cells #[.slice Au zs.length cu] 45)) := (Below.refl _ _).alloc (Nat.le_refl _) _
          have HO5 := Lib.hid (HO4.out.put HU.out hbx hr5 hgrow5 HAP.out)
          have HBL5 := Lib.hid (ownr_push hrow (Nat.le_refl _) (HBL4.out.trans (hbx.mono HBL4.out.size)) (by simp; omega) hgrow5)
          have HX5 := Lib.hid ((hgrow5.block w1.heap.size (by have := lt_of_block HX4.out; simp; omega) (fun e => row_not (ownr_below hrow hbx) ((hbx.block w1.heap.size (lt_of_block HX4.out)).trans HX4.out) (by decide) e.symm)).trans ((hbx.block w1.heap.size (lt_of_block HX4.out)).trans HX4.out))
          have HM : Hid (L.map (idsM ps) ++ [zs] = (L ++ [fk]).map (idsM ps)) := Lib.hid (by rw [List.map_append, List.map_singleton, HIDS.out])
          clear hgrow5 hat5 hr5 hbx hrow HX4 HO4 HBL4 HU HAP hlL hs4
          go_wp2
          go_roundw
          case rel => exact ⟨k + 1, y, L ++ [fk], us ++ [.slice Au zs.length cu], by omega, by go_num, rfl, hol, HNN.out, by rw [← HM.out]; exact HO5.out, HBL5.out, HX5.out⟩
          case measure => simp [intOf]; omega
        · have HYY := Lib.hid (HYK.out (by
            cases hb : q.testBit k
            · exact absurd (HAB.out.2 hb) hr
            · rfl))
          have hne : ((r : Int) == 0) = false := by simp; omega
          clear HAB HYK HNK hand
          go_wp2_with fail
          refine (hmb.out wr).mono ?_
          rintro e w' ⟨rfl, rfl⟩
          go_wp2
          go_roundw
          case rel => exact ⟨k + 1, q, L, us, by omega, by go_num, rfl, hq, HYY.out, HO.out, HBL.out, HX.out⟩
          case measure => simp [intOf]; omega
      · obtain rfl : k = ps.length := by omega
        have HRR : Hid (coverP ps = L.map (idsM ps)) := Lib.hid (by rw [HR.out, HCV.out])
        go_wp2
        go_ret
        exact ⟨_, rfl, ⟨us, by rw [HRR.out]; exact ho⟩, hbl⟩
end Go.Proofs.YtmbbmffoihhdfaaDoor

/- CoverOf, Covers: their exact laws' contracts. -/
namespace Go.Proofs.YtmbbmffoihhdfaaDoor
open Go.RowKit
set_option linter.unusedVariables false

theorem sp_CoverOf (A0 : Option Addr) (n0 c0 : Nat) (zs0 : List Pth) (w : World) (h0 : SlP w A0 n0 c0 zs0) (hs0 : n0 ≤ 1048576) (r : List (List Int)) (hr : coverP zs0 = r) :
    Calls Tryd.prog 67 #[.slice A0 n0 c0] w fun e w' => ∃ v, e = .returned v ∧ OwnSS w' w.heap.size v r ∧ Below w.heap.size w w' ∧ SmallSS r := by
  subst hr
  exact (spec_CoverOf A0 n0 c0 _ zs0 w h0.pths (Nat.le_refl _) (by omega)).mono fun e w' ⟨v, h1, h2, h3⟩ => ⟨v, h1, h2, h3, cover_small _⟩
theorem im_CoverOf (A0 : Option Addr) (n0 c0 : Nat) (zs0 : List Pth) (w : World) (h0 : SlP w A0 n0 c0 zs0) (hs0 : n0 ≤ 1048576) (hv : Brus w) (r : List (List Int)) (hr : coverP zs0 = r) :
    Calls Tryd.prog 68 #[.slice A0 n0 c0] w fun e w' => ∃ v, e = .returned v ∧ (∃ us, OwnD w' w.heap.size v us r) ∧ Below w.heap.size w w' ∧ SmallSS r := by
  subst hr
  exact (impl_CoverOf A0 n0 c0 _ zs0 w h0.pths (Nat.le_refl _) h0.cap h0.small hv).mono fun e w' ⟨v, h1, h2, h3⟩ => ⟨v, h1, h2, h3, cover_small _⟩
end Go.Proofs.YtmbbmffoihhdfaaDoor

/- PlanFor: the program. -/
namespace Go.Proofs.YtmbbmffoihhdfaaDoor
open Go.RowKit
set_option linter.unusedVariables false

/-- the first k parts of the plan for these paths. -/
def forTo (ps : List Pth) (k : Nat) : List Prt := ((coverP ps).take k).map fun zs => ⟨zs, leastG ps zs⟩
theorem forTo_len (ps : List Pth) {k : Nat} (h : k ≤ (coverP ps).length) : (forTo ps k).length = k := by simp [forTo]; omega
theorem forTo_all (ps : List Pth) : forTo ps (coverP ps).length = forP ps := by simp [forTo, forP]
theorem forTo_at (ps : List Pth) {k j : Nat} (h : k ≤ (coverP ps).length) (hj : j < k) : prAt (forTo ps k) j = ⟨(coverP ps).getD j [], leastG ps ((coverP ps).getD j [])⟩ := by
  apply prAt_some
  unfold forTo
  rw [List.getElem?_map, List.getElem?_take, if_pos hj, List.getElem?_eq_getElem (by omega), List.getD_eq_getElem?_getD, List.getElem?_eq_getElem (by omega)]
  rfl
/-- the cells of the first k parts: the stages' slices and their greens. -/
def forX (ps : List Pth) (us : List Value) (k : Nat) : List (Value × Int) := (us.take k).mapIdx fun j u => (u, leastG ps ((coverP ps).getD j []))
theorem forX_len (ps : List Pth) {us : List Value} {k : Nat} (h : k ≤ us.length) : (forX ps us k).length = k := by simp [forX]; omega
theorem forX_at (ps : List Pth) {us : List Value} {k j : Nat} {u : Value} (hj : j < k) (hu : us[j]? = some u) : (forX ps us k)[j]? = some (u, leastG ps ((coverP ps).getD j [])) := by
  unfold forX
  rw [List.getElem?_mapIdx, List.getElem?_take, if_pos hj, hu]
  rfl
theorem forX_push (ps : List Pth) {us : List Value} {k : Nat} {u : Value} (hu : us[k]? = some u) : forX ps us (k + 1) = forX ps us k ++ [(u, leastG ps ((coverP ps).getD k []))] := by
  have hk := (List.getElem?_eq_some_iff.1 hu).1
  have he := (List.getElem?_eq_some_iff.1 hu).2
  unfold forX
  rw [List.take_succ_eq_append_getElem hk, List.mapIdx_append, he]
  simp [List.length_take]
  rw [Nat.min_eq_left (by omega)]
theorem own_rowP (w : World) (E : TypeId) (s : Nat) : (w.alloc (.cells #[] E)).ownsRow w.heap.size E s (.slice (some ⟨w.heap.size, 0, none⟩) 0 0) 0 [] := ⟨by simp, .inr ⟨w.heap.size, 0, #[], rfl, Nat.le_refl _, heap_alloc_new w _, Nat.le_refl _, by decide, by simp, by simp⟩⟩
theorem for_row {w : World} {lo : Nat} {ps : List Pth} {v v8 : Value} {us : List Value} {k : Nat} (hr : w.ownsRow lo 58 2 v k (prow (forX ps us k))) (hd : OwnD w lo v8 us (coverP ps)) (hk : k ≤ (coverP ps).length) : OwnPr w lo v (forX ps us k) (forTo ps k) := by
  have hul := hd.len
  refine ⟨by rw [forTo_len ps hk]; exact hr, fun j hj => ?_, fun i j u u' hij h1 h2 => ?_⟩
  · rw [forTo_len ps hk] at hj
    obtain ⟨u, h1, h2⟩ := hd.each j (by omega)
    exact ⟨u, by rw [forTo_at ps hk hj]; exact forX_at ps hj h1, by rw [forTo_at ps hk hj]; exact h2⟩
  · have key : ∀ m x, ((forX ps us k).map (·.1))[m]? = some x → us[m]? = some x := fun m x hx => by
      have hm : m < k := by
        have := (List.getElem?_eq_some_iff.1 hx).1
        rw [List.length_map, forX_len ps (by omega)] at this
        exact this
      obtain ⟨y, hy⟩ : ∃ y, us[m]? = some y := ⟨us[m], List.getElem?_eq_getElem (by omega)⟩
      rw [List.getElem?_map, forX_at ps hm hy] at hx
      rw [hy]
      exact hx
    exact hd.apart i j u u' hij (key i u h1) (key j u' h2)
theorem OwnD.grownP {w w' : World} {lo lo2 : Nat} {v v8 : Value} {us : List Value} {zss : List (List Int)} {n : Nat} {vs : List Value} (h : OwnD w lo v8 us zss) (hr : w.ownsRow lo2 58 2 v n vs) (hg : w.grownBy w' v.ownBlock) : OwnD w' lo v8 us zss :=
  ⟨ownr_grown h.row hg (fun q e h' => apart_types h.row hr (by decide) q e h'), fun j hj => by obtain ⟨u, h1, h2⟩ := h.each j hj; exact ⟨u, h1, h2.grown hg (own_apartP h2 hr)⟩, h.apart⟩
set_option maxHeartbeats 4000000 in
set_option maxRecDepth 100000 in
theorem impl_PlanFor (A : Option Addr) (n c B : Nat) (ps : List Pth) (w : World) (h : PthsAt w B A n ps) (hB : B ≤ w.heap.size) (hn : n ≤ c ∧ c ≤ maxLen) (hn4 : n ≤ 4294967296) (hw : Brus w) (ht : Clrs w) :
    Calls Tryd.prog 28 #[.slice A n c] w fun e w' => ∃ v xs, e = .returned v ∧ OwnPr w' w.heap.size v xs (planFor ps) ∧ Below w.heap.size w w' := by
  have hb0 : Below w.heap.size w (w.alloc (.cells #[] 58)) := (Below.refl _ _).alloc (Nat.le_refl _) _
  have hr0 : (w.alloc (.cells #[] 58)).ownsRow w.heap.size 58 2 (.slice (some ⟨w.heap.size, 0, none⟩) 0 0) 0 [] := own_rowP _ _ _
  have HC := Lib.hid (impl_CoverOf A n c B ps _ (h.below (hb0.mono hB)) (Nat.le_trans hB hb0.size) hn hn4 (hw.below hb0 (Nat.le_refl _)))
  have HP := Lib.hid (fun x (hx : Below w.heap.size w x) => (⟨h.below (hx.mono hB), Nat.le_trans hB hx.size⟩ : PthsAt x B A n ps ∧ B ≤ x.heap.size))
  have HWT := Lib.hid (fun x (hx : Below w.heap.size w x) => (⟨hw.below hx (Nat.le_refl _), ht.below hx (Nat.le_refl _)⟩ : Brus x ∧ Clrs x))
  have hcs := cover_small ps
  have HCS := Lib.hid hcs
  have hK := hcs.1
  have HB0 := Lib.hid hb0
  have HR0 := Lib.hid hr0
  clear h hw ht hb0 hr0 hcs
  go_enter Tryd.func28, Tryd.ntmps28
  go_wp2_with fail
  refine HC.out.mono ?_
  rintro e w1 ⟨v8, rfl, ⟨us, hd⟩, hb1⟩
  obtain ⟨A8, c8, rfl⟩ := hd.ss.sliced
  have HB1 := Lib.hid (HB0.out.trans (hb1.mono HB0.out.size))
  have HR1 := Lib.hid (ownr_below HR0.out hb1)
  have HD1 := Lib.hid (hd.mono (lo' := w.heap.size) HB0.out.size)
  clear hd hb1
  obtain ⟨K, hKe⟩ : ∃ K, K = (coverP ps).length := ⟨_, rfl⟩
  have HKE := Lib.hid hKe
  rw [← hKe] at hK ⊢
  clear hKe
  go_wp2
  go_loopw [3, 10] (fun v i wr => ∃ k : Nat, k ≤ K ∧ i = .int .i64 k ∧ wr.ownsRow w.heap.size 58 2 v k (prow (forX ps us k)) ∧ OwnD wr w.heap.size (.slice A8 K c8) us (coverP ps) ∧ Below w.heap.size w wr) (fun _ i _ => K - (intOf i).toNat)
  case atStart => exact ⟨0, Nat.zero_le _, rfl, HR1.out, by rw [HKE.out]; exact HD1.out, HB1.out⟩
  case round =>
    clear HR1 HD1 HB1 HR0 HB0
    obtain ⟨k, hk, rfl, hrow, hd, hbl⟩ := hrel
    have HRW := Lib.hid hrow
    have HD := Lib.hid hd
    have HBL := Lib.hid hbl
    have hsz := hbl.size
    clear hrow hd hbl
    by_cases hlt : k < K
    · obtain ⟨g8, rfl⟩ : ∃ g, A8 = some ⟨g, 0, none⟩ := by
        rcases HD.out.row.2 with ⟨q, _⟩ | ⟨g, cap, cur, hv, _⟩
        · injection q; omega
        · injection hv with h1 h2 h3; exact ⟨_, h1⟩
      obtain ⟨u, hu, how⟩ := HD.out.each k (by rw [← HKE.out]; exact hlt)
      have hro : wr.ownsRow w.heap.size 45 1 (.slice (some ⟨g8, 0, none⟩) K c8) K us := by
        have := HD.out.row
        rwa [← HKE.out] at this
      have hcell := row_cell hro hu
      have hzl := HCS.out.2 k (by rw [← HKE.out]; exact hlt)
      have HPU : Hid (prow (forX ps us (k + 1)) = prow (forX ps us k) ++ [u, .int .i64 (leastG ps ((coverP ps).getD k []))]) := Lib.hid (by rw [forX_push ps hu, prow_append]; rfl)
      obtain ⟨Au, cu, rfl⟩ := how.sliced
      have HLG := Lib.hid (impl_LeastGreen A n c B ps Au _ cu wr.heap.size _ wr (HP.out wr HBL.out).1 how.ints (HP.out wr HBL.out).2 (Nat.le_refl _) hn4 (by omega))
      generalize leastG ps ((coverP ps).getD k []) = lg at *
      generalize ((coverP ps).getD k []).length = mu at *
      have i1 : (0 : Int) ≤ (k : Int) := by omega
      have i2 : (k : Int) < (K : Int) := by omega
      clear how hro hu
      go_wp2_with fail
      refine HLG.out.mono ?_
      rintro e w2 ⟨rfl, hb2⟩
      have hr2 := ownr_below HRW.out hb2
      have HR2 := Lib.hid hr2
      have HD2 := Lib.hid (HD.out.below hb2)
      have hB2 := HBL.out.trans (hb2.mono hsz)
      have HB2 := Lib.hid hB2
      have hsz2 := hB2.size
      clear hb2 hr2 hB2 hcell
      go_wp2_with (at_builtin; refine wpList_appR1 rfl _ _ 29 rfl 58 (.agg #[.slice none 0 0, .int .i64 0]) 2 32 Tryd.underlying29 info_prt rfl (by decide) (by decide) w.heap.size _ _ _ rfl HR2.out (by omega) [.slice Au mu cu, .int .i64 lg] rfl (by simp [Value.oneCell']) _ _ w2.heap.size hsz2 rfl (by simp) ?_; intro v4 w4 hown4 hgrow4 hat4)
      have hba := (Below.refl w2.heap.size w2).alloc (Nat.le_refl _) (.cells #[.slice Au mu cu, .int .i64 lg] 58)
      have HB4 := Lib.hid (ownr_push HR2.out (Nat.le_refl w.heap.size) (HB2.out.alloc hsz2 _) (by simp; omega) hgrow4)
      have HD4 := Lib.hid ((HD2.out.below hba).grownP (ownr_below HR2.out hba) hgrow4)
      have HR4 : Hid (w4.ownsRow w.heap.size 58 2 v4 (k + 1) (prow (forX ps us (k + 1)))) := Lib.hid (by rw [HPU.out]; exact hown4)
      clear hgrow4 hat4 hown4 hba
      go_roundw
      case rel => exact ⟨k + 1, by omega, by go_num, HR4.out, HD4.out, HB4.out⟩
      case measure => simp [intOf]; omega
    · obtain rfl : k = K := by omega
      obtain ⟨Av, cv, rfl⟩ := ownr_sliced HRW.out
      have hpr := for_row HRW.out HD.out (by rw [HKE.out]; exact Nat.le_refl _)
      rw [HKE.out, forTo_all, ← HKE.out] at hpr
      have hlen : (forP ps).length = k := by rw [← forTo_all, forTo_len ps (Nat.le_refl _), HKE.out]
      have hI : PlnIn wr A n c B ps Av k cv wr.heap.size (forP ps) := ⟨(HP.out wr HBL.out).1, (HP.out wr HBL.out).2, hn, hn4, hpr.pe.prts, Nat.le_refl _, by omega, fun j hj => by
        rw [← forTo_all, forTo_at ps (Nat.le_refl _) (by rw [← HKE.out]; exact hj)]
        exact HCS.out.2 j (by rw [← HKE.out]; exact hj), (HWT.out wr HBL.out).1, (HWT.out wr HBL.out).2⟩
      have HIP := Lib.hid (impl_IsPlan hI)
      have HPR := Lib.hid hpr
      clear hI hpr hlen
      go_wp2_with fail
      refine HIP.out.mono ?_
      cases hip : isPlan ps (forP ps)
      · have HF : Hid (planFor ps = []) := Lib.hid (by unfold planFor; rw [hip]; rfl)
        rintro e w5 ⟨rfl, hb5⟩
        have HB5 := Lib.hid (HBL.out.trans (hb5.mono hsz))
        have hr5 : (w5.alloc (.cells #[] 58)).ownsRow w5.heap.size 58 2 (.slice (some ⟨w5.heap.size, 0, none⟩) 0 0) 0 [] := own_rowP _ _ _
        have HO5 := Lib.hid (ownr_mono hr5 HB5.out.size)
        clear hip hb5 hr5
        go_wp2
        go_ret
        exact ⟨_, [], rfl, by rw [HF.out]; exact ⟨HO5.out, fun j hj => absurd hj (by simp), fun i j u u' _ h1 _ => by simp at h1⟩, HB5.out.alloc HB5.out.size _⟩
      · have HF : Hid (planFor ps = forP ps) := Lib.hid (by unfold planFor; rw [hip]; rfl)
        rintro e w5 ⟨rfl, hb5⟩
        have HB5 := Lib.hid (HBL.out.trans (hb5.mono hsz))
        have HO5 := Lib.hid (HPR.out.below hb5)
        clear hip hb5
        go_wp2
        go_ret
        exact ⟨_, _, rfl, by rw [HF.out]; exact HO5.out, HB5.out⟩
end Go.Proofs.YtmbbmffoihhdfaaDoor

/- PlanFor: the model. -/
namespace Go.Proofs.YtmbbmffoihhdfaaDoor
open Go.RowKit
set_option linter.unusedVariables false

theorem for_rowE {w : World} {lo : Nat} {ps : List Pth} {v : Value} {us : List Value} {k : Nat} (hr : w.ownsRow lo 58 2 v k (prow (forX ps us k))) (hd : ∀ j, j < (coverP ps).length → ∃ u, us[j]? = some u ∧ Own .i64 3 w lo u ((coverP ps).getD j [])) (hk : k ≤ (coverP ps).length) : OwnPe w lo v (forX ps us k) (forTo ps k) := by
  refine ⟨by rw [forTo_len ps hk]; exact hr, fun j hj => ?_⟩
  rw [forTo_len ps hk] at hj
  obtain ⟨u, h1, h2⟩ := hd j (by omega)
  exact ⟨u, by rw [forTo_at ps hk hj]; exact forX_at ps hj h1, by rw [forTo_at ps hk hj]; exact h2⟩
set_option maxHeartbeats 4000000 in
set_option maxRecDepth 100000 in
theorem spec_PlanFor (A : Option Addr) (n c B : Nat) (ps : List Pth) (w : World) (h : PthsAt w B A n ps) (hB : B ≤ w.heap.size) (hn : n ≤ 1048576) :
    Calls Tryd.prog 27 #[.slice A n c] w fun e w' => ∃ v xs, e = .returned v ∧ OwnPe w' w.heap.size v xs (planFor ps) ∧ Below w.heap.size w w' := by
  have hb0 : Below w.heap.size w (w.alloc (.cells #[] 58)) := (Below.refl _ _).alloc (Nat.le_refl _) _
  have hr0 : (w.alloc (.cells #[] 58)).ownsRow w.heap.size 58 2 (.slice (some ⟨w.heap.size, 0, none⟩) 0 0) 0 [] := own_rowP _ _ _
  have HC := Lib.hid (spec_CoverOf A n c B ps _ (h.below (hb0.mono hB)) (Nat.le_trans hB hb0.size) (by omega))
  have HP := Lib.hid (fun x (hx : Below w.heap.size w x) => (⟨h.below (hx.mono hB), Nat.le_trans hB hx.size⟩ : PthsAt x B A n ps ∧ B ≤ x.heap.size))
  have hcs := cover_small ps
  have HCS := Lib.hid hcs
  have hK := hcs.1
  have HB0 := Lib.hid hb0
  have HR0 := Lib.hid hr0
  clear h hb0 hr0 hcs
  have hmx : Tryd.prog.follows .mixedOrders = true := by kernel_rfl
  go_enter Tryd.func27, Tryd.ntmps27
  go_wp2_with fail
  refine HC.out.mono ?_
  rintro e w1 ⟨v8, rfl, hss, hb1⟩
  obtain ⟨A8, c8, rfl⟩ := hss.sliced
  obtain ⟨us, hrow8, heach8⟩ := hss.mono (lo' := w.heap.size) HB0.out.size
  have HB1 := Lib.hid (HB0.out.trans (hb1.mono HB0.out.size))
  have HR1 := Lib.hid (ownr_below HR0.out hb1)
  have HD1 := Lib.hid hrow8
  have HE1 := Lib.hid heach8
  clear hss hb1 hrow8 heach8
  obtain ⟨K, hKe⟩ : ∃ K, K = (coverP ps).length := ⟨_, rfl⟩
  have HKE := Lib.hid hKe
  rw [← hKe] at hK HD1 HE1 ⊢
  clear hKe
  go_wp2
  go_loopw [3, 5] (fun v i wr => ∃ k : Nat, k ≤ K ∧ i = .int .i64 k ∧ wr.ownsRow w.heap.size 58 2 v k (prow (forX ps us k)) ∧ wr.ownsRow w.heap.size 45 1 (.slice A8 K c8) K us ∧ (∀ j, j < K → ∃ u, us[j]? = some u ∧ Own .i64 3 wr w.heap.size u ((coverP ps).getD j [])) ∧ Below w.heap.size w wr) (fun _ i _ => K - (intOf i).toNat)
  case atStart => exact ⟨0, Nat.zero_le _, rfl, HR1.out, HD1.out, HE1.out, HB1.out⟩
  case round =>
    clear HR1 HD1 HE1 HB1 HR0 HB0
    obtain ⟨k, hk, rfl, hrow, hd, he, hbl⟩ := hrel
    obtain ⟨Av, cv, rfl⟩ := ownr_sliced hrow
    have HRW := Lib.hid hrow
    have HD := Lib.hid hd
    have HE := Lib.hid he
    have HBL := Lib.hid hbl
    have hsz := hbl.size
    clear hrow hd he hbl
    by_cases hlt : k < K
    · obtain ⟨g8, rfl⟩ : ∃ g, A8 = some ⟨g, 0, none⟩ := by
        rcases HD.out.2 with ⟨q, _⟩ | ⟨g, cap, cur, hv, _⟩
        · injection q; omega
        · injection hv with h1 h2 h3; exact ⟨_, h1⟩
      obtain ⟨u, hu, how⟩ := HE.out k hlt
      have hcell := row_cell HD.out hu
      have hg8 := (ownr_block HD.out _ rfl).2
      have hzl := HCS.out.2 k (by rw [← HKE.out]; exact hlt)
      have HPU : Hid (prow (forX ps us (k + 1)) = prow (forX ps us k) ++ [u, .int .i64 (leastG ps ((coverP ps).getD k []))]) := Lib.hid (by rw [forX_push ps hu, prow_append]; rfl)
      obtain ⟨Au, cu, rfl⟩ := how.sliced
      have HUU := Lib.hid hu
      have HLG := Lib.hid (spec_LeastGreen A n c B ps Au _ cu wr.drew.heap.size _ wr.drew (HP.out wr.drew (below_drewD HBL.out)).1 (how.below (below_drewD (Below.refl _ _))).ints (HP.out wr.drew (below_drewD HBL.out)).2 (Nat.le_refl _) (by omega) (by omega))
      generalize leastG ps ((coverP ps).getD k []) = lg at *
      generalize ((coverP ps).getD k []).length = mu at *
      have i1 : (0 : Int) ≤ (k : Int) := by omega
      have i2 : (k : Int) < (K : Int) := by omega
      clear how hu
      go_wp2
      have hcd : wr.drew.cell? ⟨g8, k, none⟩ = some (.slice Au mu cu) := hcell
      have hgd : g8 < wr.drew.heap.size := hg8
      have hdd := below_drewD (Below.refl wr.heap.size wr)
      refine wp_region_held_drew (S := fun W => W.cell? ⟨g8, k, none⟩ = some (.slice Au mu cu)) hmx hcd (fun hH => ?_)
      refine wpAnyH_take (i := 1) (v := .slice (some ⟨g8, 0, none⟩) K c8) rfl (by kernel_rfl) (by kernel_rfl) (by kernel_rfl) (fun _ _ _ h => h) (Or.inl ⟨by rfl, by intro W hSw; go_simp⟩) hH ?_
      try simp only [Act.put, List.setIfInBounds_toArray, List.set_cons_zero, List.set_cons_succ]
      refine wpAnyH_take (i := 2) (v := .int .i64 (k : Int)) rfl (by kernel_rfl) (by kernel_rfl) (by kernel_rfl) (fun _ _ _ h => h) (Or.inl ⟨by rfl, by intro W hSw; go_simp⟩) hH ?_
      try simp only [Act.put, List.setIfInBounds_toArray, List.set_cons_zero, List.set_cons_succ]
      refine wpAnyH_take (i := 3) (v := .pointer (some ⟨g8, k, none⟩)) rfl (by kernel_rfl) (by kernel_rfl) (by kernel_rfl) (fun _ _ _ h => h) (Or.inl ⟨by rfl, by intro W hSw; go_simp⟩) hH ?_
      try simp only [Act.put, List.setIfInBounds_toArray, List.set_cons_zero, List.set_cons_succ]
      refine wpAnyH_take (i := 4) (v := .slice Au mu cu) rfl (by kernel_rfl) (by kernel_rfl) (by kernel_rfl) (fun _ _ _ h => h) (Or.inl ⟨by rfl, by intro W hSw; go_simp⟩) hH ?_
      try simp only [Act.put, List.setIfInBounds_toArray, List.set_cons_zero, List.set_cons_succ]
      refine wpAnyH_take (i := 6) (v := .slice (some ⟨g8, 0, none⟩) K c8) rfl (by kernel_rfl) (by kernel_rfl) (by kernel_rfl) (fun _ _ _ h => h) (Or.inl ⟨by rfl, by intro W hSw; go_simp⟩) hH ?_
      try simp only [Act.put, List.setIfInBounds_toArray, List.set_cons_zero, List.set_cons_succ]
      refine wpAnyH_take (i := 7) (v := .int .i64 (k : Int)) rfl (by kernel_rfl) (by kernel_rfl) (by kernel_rfl) (fun _ _ _ h => h) (Or.inl ⟨by rfl, by intro W hSw; go_simp⟩) hH ?_
      try simp only [Act.put, List.setIfInBounds_toArray, List.set_cons_zero, List.set_cons_succ]
      refine wpAnyH_take (i := 8) (v := .pointer (some ⟨g8, k, none⟩)) rfl (by kernel_rfl) (by kernel_rfl) (by kernel_rfl) (fun _ _ _ h => h) (Or.inl ⟨by rfl, by intro W hSw; go_simp⟩) hH ?_
      try simp only [Act.put, List.setIfInBounds_toArray, List.set_cons_zero, List.set_cons_succ]
      refine wpAnyH_take (i := 9) (v := .slice Au mu cu) rfl (by kernel_rfl) (by kernel_rfl) (by kernel_rfl) (fun _ _ _ h => h) (Or.inl ⟨by rfl, by intro W hSw; go_simp⟩) hH ?_
      try simp only [Act.put, List.setIfInBounds_toArray, List.set_cons_zero, List.set_cons_succ]
      refine wpAnyH_take (i := 5) (v := .slice A n c) rfl (by kernel_rfl) (by kernel_rfl) (by kernel_rfl) (fun _ _ _ h => h) (Or.inl ⟨by rfl, by intro W hSw; go_simp⟩) hH ?_
      try simp only [Act.put, List.setIfInBounds_toArray, List.set_cons_zero, List.set_cons_succ]
      refine wpAnyH_take (i := 0) (v := .slice Av k cv) rfl (by kernel_rfl) (by kernel_rfl) (by kernel_rfl) (fun _ _ _ h => h) (Or.inl ⟨by rfl, by intro W hSw; go_simp⟩) hH ?_
      try simp only [Act.put, List.setIfInBounds_toArray, List.set_cons_zero, List.set_cons_succ]
      refine wpAnyH_ready (rs := [10]) (by decide +kernel) (by simp) (AllReadyH.cons rfl (fun K' hK => ?_) AllReadyH.nil)
      go_simp
      refine HLG.out.mono ?_
      rintro e w2 ⟨rfl, hb2⟩
      have hb3 := hdd.trans hb2
      go_wp2_with fail
      have hH2 : w2.cell? ⟨g8, k, none⟩ = some (.slice Au mu cu) := (hb2.cell (p := ⟨g8, k, none⟩) hgd).trans hcd
      refine hK.out _ _ hH2 (fun _ => ?_)
      clear hK K' hb2
      try simp only [Act.put, List.setIfInBounds_toArray, List.set_cons_zero, List.set_cons_succ]
      refine wpAnyH_take (i := 11) (v := .agg #[.slice Au mu cu, .int .i64 lg]) rfl (by kernel_rfl) (by kernel_rfl) (by kernel_rfl) (fun _ _ _ h => h) (Or.inl ⟨by rfl, by intro W hSw; go_simp⟩) hH2 ?_
      try simp only [Act.put, List.setIfInBounds_toArray, List.set_cons_zero, List.set_cons_succ]
      refine wpAnyH_ready (rs := [12]) (by decide +kernel) (by simp) (AllReadyH.cons rfl (fun K' hK => ?_) AllReadyH.nil)
      go_simp
      obtain ⟨w3, hw3⟩ : ∃ w3, w3 = w2.alloc (.cells #[.slice Au mu cu, .int .i64 lg] 58) := ⟨_, rfl⟩
      obtain ⟨hk3, hs3, hba⟩ := one_block hw3
      have hb33 := hb3.trans (hba.mono hb3.size)
      have HB33 := Lib.hid hb33
      have hH3 : w3.cell? ⟨g8, k, none⟩ = some (.slice Au mu cu) := (hb33.cell (p := ⟨g8, k, none⟩) hg8).trans hcell
      have HR3 := Lib.hid (ownr_below HRW.out hb33)
      have HD3 := Lib.hid (ownr_below HD.out hb33)
      have HBL3 := Lib.hid (HBL.out.trans (hb33.mono hsz))
      have hz3 := HBL3.out.size
      have HC3 : Hid (∀ (j : Nat) x, [Value.slice Au mu cu, .int .i64 lg][j]? = some x → w3.cell? ⟨w2.heap.size, j, none⟩ = some x) := Lib.hid (fun j x hx => (cell_of_row _ _ j _ _ _ hk3).trans (by simpa using hx))
      rw [← hw3]
      refine hK.out _ _ hH3 (fun _ => ?_)
      clear hK K' hw3 hk3 hs3 hba hb33 hcd hdd hH hH2
      try simp only [Act.put, List.setIfInBounds_toArray, List.set_cons_zero, List.set_cons_succ]
      refine wpAnyH_ready (rs := [13]) (by decide +kernel) (by simp) (AllReadyH.cons rfl (fun K' hK => ?_) AllReadyH.nil)
      refine step_appR1 rfl _ _ 29 rfl 58 (.agg #[.slice none 0 0, .int .i64 0]) 2 32 Tryd.underlying29 info_prt rfl (by decide) (by decide) w.heap.size (.slice Av k cv) k _ rfl HR3.out (by omega) [.slice Au mu cu, .int .i64 lg] rfl (by simp [Value.oneCell']) w2.heap.size hz3 rfl HC3.out ?_
      intro v4 w4 hown4 hgrow4
      have hH4 : w4.cell? ⟨g8, k, none⟩ = some (.slice Au mu cu) := row_cell (ownr_grown HD3.out hgrow4 (fun q e h' => apart_types HD3.out HR3.out (by decide) q e h')) HUU.out
      have HD4 := Lib.hid (ownr_grown HD3.out hgrow4 (fun q e h' => apart_types HD3.out HR3.out (by decide) q e h'))
      have HE4 : Hid (∀ j, j < K → ∃ u, us[j]? = some u ∧ Own .i64 3 w4 w.heap.size u ((coverP ps).getD j [])) := Lib.hid (fun j hj => by
        obtain ⟨x, hx, ho⟩ := HE.out j hj
        have ho3 := ho.below HB33.out
        exact ⟨x, hx, ho3.grown hgrow4 (own_apartP ho3 HR3.out)⟩)
      have HB4 := Lib.hid (ownr_push HR3.out (Nat.le_refl w.heap.size) HBL3.out hz3 hgrow4)
      have HR4 : Hid (w4.ownsRow w.heap.size 58 2 v4 (k + 1) (prow (forX ps us (k + 1)))) := Lib.hid (by rw [HPU.out]; exact hown4)
      refine hK.out _ _ hH4 (fun _ => ?_)
      clear hK K' hH3 hown4 hgrow4 hcell
      try simp only [Act.put, List.setIfInBounds_toArray, List.set_cons_zero, List.set_cons_succ]
      refine wpAnyH_ready (rs := [14]) (by decide +kernel) (by simp) (AllReadyH.cons rfl (fun K' hK => ?_) AllReadyH.nil)
      go_simp
      refine hK.out _ _ hH4 (fun _ => ?_)
      clear hK K' hH4
      try simp only [Act.put, List.setIfInBounds_toArray, List.set_cons_zero, List.set_cons_succ]
      refine wpAnyH_done (by decide +kernel) ?_ _
      go_wp2
      go_roundw
      case rel => exact ⟨k + 1, by omega, by go_num, HR4.out, HD4.out, HE4.out, HB4.out⟩
      case measure => simp [intOf]; omega
    · obtain rfl : k = K := by omega
      have hpr := for_rowE HRW.out (by rw [← HKE.out]; exact HE.out) (by rw [HKE.out]; exact Nat.le_refl _)
      rw [HKE.out, forTo_all, ← HKE.out] at hpr
      have hlen : (forP ps).length = k := by rw [← forTo_all, forTo_len ps (Nat.le_refl _), HKE.out]
      have HIP := Lib.hid (spec_IsPlan A n c B ps Av k cv wr.heap.size (forP ps) wr (HP.out wr HBL.out).1 (HP.out wr HBL.out).2 (by omega) hpr.prts (Nat.le_refl _) (by omega) (fun j hj => by
        rw [← forTo_all, forTo_at ps (Nat.le_refl _) (by rw [← HKE.out]; exact hj)]
        exact HCS.out.2 j (by rw [← HKE.out]; exact hj)))
      have HPR := Lib.hid hpr
      clear hpr hlen
      go_wp2_with fail
      refine HIP.out.mono ?_
      cases hip : isPlan ps (forP ps)
      · have HF : Hid (planFor ps = []) := Lib.hid (by unfold planFor; rw [hip]; rfl)
        rintro e w5 ⟨rfl, hb5⟩
        have HB5 := Lib.hid (HBL.out.trans (hb5.mono hsz))
        have hr5 : (w5.alloc (.cells #[] 58)).ownsRow w5.heap.size 58 2 (.slice (some ⟨w5.heap.size, 0, none⟩) 0 0) 0 [] := own_rowP _ _ _
        have HO5 := Lib.hid (ownr_mono hr5 HB5.out.size)
        clear hip hb5 hr5
        go_wp2
        go_ret
        exact ⟨_, [], rfl, by rw [HF.out]; exact ⟨HO5.out, fun j hj => absurd hj (by simp)⟩, HB5.out.alloc HB5.out.size _⟩
      · have HF : Hid (planFor ps = forP ps) := Lib.hid (by unfold planFor; rw [hip]; rfl)
        rintro e w5 ⟨rfl, hb5⟩
        have HB5 := Lib.hid (HBL.out.trans (hb5.mono hsz))
        have HO5 := Lib.hid (HPR.out.below hb5)
        clear hip hb5
        go_wp2
        go_ret
        exact ⟨_, _, rfl, by rw [HF.out]; exact HO5.out, HB5.out⟩
end Go.Proofs.YtmbbmffoihhdfaaDoor

/- PlanFor as its exact law meets it. -/
namespace Go.Proofs.YtmbbmffoihhdfaaDoor
open Go.RowKit
set_option linter.unusedVariables false

theorem planFor_small (ps : List Pth) : SmallP (planFor ps) := by
  have hcs := cover_small ps
  unfold planFor
  split
  · have hl : (forP ps).length = (coverP ps).length := by simp [forP]
    refine ⟨by rw [hl]; exact hcs.1, fun j hj => ?_⟩
    rw [hl] at hj
    rw [← forTo_all, forTo_at ps (Nat.le_refl _) hj]
    exact hcs.2 j hj
  · exact ⟨by simp, fun j hj => absurd hj (by simp)⟩
theorem sp_PlanFor (A0 : Option Addr) (n0 c0 : Nat) (zs0 : List Pth) (w : World) (h0 : SlP w A0 n0 c0 zs0) (hs0 : n0 ≤ 1048576) (r : List Prt) (hr : planFor zs0 = r) :
    Calls Tryd.prog 27 #[.slice A0 n0 c0] w fun e w' => ∃ v, e = .returned v ∧ (∃ us, OwnPe w' w.heap.size v us r) ∧ Below w.heap.size w w' ∧ SmallP r := by
  subst hr
  exact (spec_PlanFor A0 n0 c0 _ zs0 w h0.pths (Nat.le_refl _) hs0).mono fun e w' ⟨v, xs, h1, h2, h3⟩ => ⟨v, h1, ⟨xs, h2⟩, h3, planFor_small _⟩
theorem im_PlanFor (A0 : Option Addr) (n0 c0 : Nat) (zs0 : List Pth) (w : World) (h0 : SlP w A0 n0 c0 zs0) (hs0 : n0 ≤ 1048576) (hv0 : Brus w) (hv1 : Clrs w) (r : List Prt) (hr : planFor zs0 = r) :
    Calls Tryd.prog 28 #[.slice A0 n0 c0] w fun e w' => ∃ v, e = .returned v ∧ (∃ us, OwnPr w' w.heap.size v us r) ∧ Below w.heap.size w w' ∧ SmallP r := by
  subst hr
  exact (impl_PlanFor A0 n0 c0 _ zs0 w h0.pths (Nat.le_refl _) h0.cap (by omega) hv0 hv1).mono fun e w' ⟨v, xs, h1, h2, h3⟩ => ⟨v, h1, ⟨xs, h2⟩, h3, planFor_small _⟩
end Go.Proofs.YtmbbmffoihhdfaaDoor
