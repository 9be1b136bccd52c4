/- Chapter 26: CanHold, TotalInside: program and model. -/
import Derived.Test.YtdlcjmdkafebpaaTlyN
namespace Go.Proofs.Ytdlcjmdkafebpaa
open Go.RowKit
set_option linter.unusedVariables false

/-- the tally with an index. -/
def tlyA (zs : List Tly) (k : Nat) : Tly := zs.getD k ⟨0, 0, 0⟩
theorem tlyA_some {zs : List Tly} {k : Nat} {x : Tly} (h : zs[k]? = some x) : tlyA zs k = x := by unfold tlyA; rw [List.getD_eq_getElem?_getD, h]; rfl
/-- what CanHold answers. -/
def holdT (zs : List Tly) (st n : Int) : Bool := inB st 0 ((zs.length : Int) - 1) && (cntIn (tlyA zs st.toNat) n).2
/-- the vehicles inside the first k. -/
def sumIn (zs : List Tly) : Nat → Int
  | 0 => 0
  | k + 1 => sumIn zs k + maxI 0 (insideT (tlyA zs k))
/-- what TotalInside answers. -/
def totIn (zs : List Tly) : Int := sumIn zs zs.length
theorem insideT_le (x : Tly) : insideT x ≤ 100 := by
  unfold insideT
  split
  · rename_i h; have := (isTly_iff _).1 h; omega
  · omega
theorem sumIn_bound (zs : List Tly) : ∀ k : Nat, 0 ≤ sumIn zs k ∧ sumIn zs k ≤ k * 100
  | 0 => by simp [sumIn]
  | k + 1 => by
    obtain ⟨h1, h2⟩ := sumIn_bound zs k
    have h3 := insideT_le (tlyA zs k)
    show 0 ≤ sumIn zs k + maxI 0 _ ∧ sumIn zs k + maxI 0 _ ≤ _
    unfold maxI
    split <;> omega
set_option maxHeartbeats 1000000 in
theorem impl_streetAt (A : Option Addr) (n c B : Nat) (zs : List Tly) (st : Int) (w : World) (h : TlysAt w B A n zs) (hB : B ≤ w.heap.size) (hn : n ≤ 4294967296) :
    Calls Try.prog 121 #[.slice A n c, .int .i64 st] w fun e w' => e = .returned (if inB st 0 ((n : Int) - 1) then cstV (tlyA zs st.toNat) (isTly (tlyA zs st.toNat)) else cstV ⟨0, 0, 0⟩ false) ∧ Below w.heap.size w w' := by
  have hwr : IntKind.i64.wrap ((n : Int) - 1) = (n : Int) - 1 := by rw [IntKind.wrap_i64]; omega
  obtain ⟨wA, hwA⟩ : ∃ wA, wA = w.alloc (.cells #[.int .i64 0, .int .i64 0, .int .i64 0, .bool false] 157) := ⟨_, rfl⟩
  obtain ⟨hz, hsz, hBl⟩ := one_block hwA
  have HZ := Lib.hid hz
  have HSZ := Lib.hid hsz
  have HB := Lib.hid hBl
  clear hz hsz hBl
  cases h1 : inB st 0 ((n : Int) - 1)
  · have H1 := Lib.hid h1
    clear h1
    obtain ⟨z0, z1, z2, z3⟩ := cst_of_block HZ.out
    have fz : ∀ j, wA.frozen? ⟨w.heap.size, j, none⟩ = false := fun j => frozen_of_row _ _ j _ _ HZ.out
    have lt0 : w.heap.size < wA.heap.size := lt_of_block HZ.out
    go_enter Try.func121, Try.ntmps121
    go_wp2_with fail
    rw [← hwA]
    clear hwA
    refine (impl_InRange _ _ _ _).mono ?_
    rintro e w' ⟨rfl, rfl⟩
    rw [H1.out]
    go_wp2
    refine bodyPost_ret (by rw [results_cell rfl]; go_simp; try rfl) rfl ?_
    exact ⟨rfl, ((((HB.out.setCell (Nat.le_refl _) _).setCell (Nat.le_refl _) _).setCell (Nat.le_refl _) _).setCell (Nat.le_refl _) _)⟩
  · obtain ⟨l1, l2⟩ := inB_t h1
    have H1 := Lib.hid h1
    clear h1
    obtain ⟨k, rfl⟩ : ∃ k : Nat, st = k := ⟨st.toNat, by omega⟩
    have hk : k < n := by omega
    obtain ⟨ad, x, rfl, hab, hp, hq⟩ := h.at hk
    rw [show (k : Int).toNat = k from rfl, tlyA_some hp]
    obtain ⟨c0, c1, c2⟩ := hq.below HB.out (by omega)
    have hcc := fun y => impl_streetOf x y
    have hv : x.val = .agg #[.int .i64 x.inn, .int .i64 x.out, .int .i64 x.room] := rfl
    rw [hv] at hcc
    generalize isTly x = u at hcc ⊢
    simp only [cstV] at hcc ⊢
    clear hq hp hv
    go_enter Try.func121, Try.ntmps121
    go_wp2_with fail
    rw [← hwA]
    clear hwA
    refine (impl_InRange _ _ _ _).mono ?_
    rintro e w' ⟨rfl, rfl⟩
    rw [H1.out]
    go_wp2_with fail
    refine (hcc _).mono ?_
    rintro e w1 ⟨rfl, hb1⟩
    have hz1 := (hb1.block _ (by have := HSZ.out; omega)).trans HZ.out
    obtain ⟨z0, z1, z2, z3⟩ := cst_of_block hz1
    have fz : ∀ j, w1.frozen? ⟨w.heap.size, j, none⟩ = false := fun j => frozen_of_row _ _ j _ _ hz1
    have lt0 : w.heap.size < w1.heap.size := lt_of_block hz1
    have HB1 := Lib.hid (HB.out.trans (hb1.mono HB.out.size))
    clear hz1 hb1 hcc c0 c1 c2
    go_wp2
    refine bodyPost_ret (by rw [results_cell rfl]; go_simp; try rfl) rfl ?_
    exact ⟨rfl, ((((HB1.out.setCell (Nat.le_refl _) _).setCell (Nat.le_refl _) _).setCell (Nat.le_refl _) _).setCell (Nat.le_refl _) _)⟩
theorem impl_comeNo (x : Tly) (n : Int) (w : World) : Calls Try.prog 118 #[cstV x false, .int .i64 n] w fun e w' => e = .returned (.tuple #[Tly.val ⟨0, 0, 0⟩, .bool false]) ∧ Below w.heap.size w w' := by
  have hcan := fun y => impl_canCount x false n y
  obtain ⟨a, b, c⟩ := x
  simp only [Tly.val, cstV, Bool.false_and] at *
  obtain ⟨wA, hwA⟩ : ∃ wA, wA = (w.alloc (.cells #[.int .i64 a, .int .i64 b, .int .i64 c, .bool false] 157)).alloc (.cells #[.int .i64 0, .int .i64 0, .int .i64 0] 92) := ⟨_, rfl⟩
  obtain ⟨hk, hz, hsz, hB⟩ := two_blocks hwA
  go_enter Try.func118, Try.ntmps118
  go_wp2_with fail
  rw [← hwA]
  refine (hcan _).mono ?_
  rintro e w1 ⟨rfl, hb1⟩
  clear hwA
  have hz1 := (hb1.block _ (by omega)).trans hz
  obtain ⟨z0, z1, z2⟩ := tly_head (tly_of_block (p := ⟨0, 0, 0⟩) hz1)
  simp only at z0 z1 z2
  have fz : ∀ j, w1.frozen? ⟨w.heap.size + 1, j, none⟩ = false := fun j => frozen_of_row _ _ j _ _ hz1
  have lt0 : w.heap.size + 1 < w1.heap.size := lt_of_block hz1
  have HBW := Lib.hid (hB.trans (hb1.mono hB.size))
  clear hz1 hb1 hk hz hsz hB hcan
  go_wp2
  refine bodyPost_ret (by rw [results_cell_tmpF rfl]; go_simp; try rfl) rfl ?_
  exact ⟨rfl, (((HBW.out.setCell (Nat.le_succ _) _).setCell (Nat.le_succ _) _).setCell (Nat.le_succ _) _)⟩
set_option maxHeartbeats 1000000 in
theorem impl_CanHold (A : Option Addr) (n c B : Nat) (zs : List Tly) (st m : Int) (w : World) (h : TlysAt w B A n zs) (hB : B ≤ w.heap.size) (hn : n ≤ 4294967296) :
    Calls Try.prog 71 #[.slice A n c, .int .i64 st, .int .i64 m] w fun e w' => e = .returned (.bool (holdT zs st m)) ∧ Below w.heap.size w w' := by
  have hs := impl_streetAt A n c B zs st w h hB hn
  have hV : holdT zs st m = (inB st 0 ((n : Int) - 1) && (comeT (tlyA zs st.toNat) m).2) := by
    unfold holdT
    rw [h.1]
    congr 1
    rw [cntIn_come]
    split
    · rename_i e; exact e.symm
    · rename_i e; exact (Bool.not_eq_true _ ▸ e : _ = false).symm
  rw [hV]
  clear hV
  have hc := fun y => impl_comeIn (tlyA zs st.toNat) m y
  have hc0 := fun y => impl_comeNo ⟨0, 0, 0⟩ m y
  generalize tlyA zs st.toNat = x at hs hc ⊢
  generalize comeT x m = r at hc ⊢
  obtain ⟨⟨ra, rb, rc⟩, rv⟩ := r
  generalize isTly x = u at hs hc
  cases h1 : inB st 0 ((n : Int) - 1)
  · rw [h1] at hs
    simp only [Tly.val, cstV, if_true, Bool.false_eq_true, if_false] at hs hc hc0
    clear h1
    go_enter Try.func71, Try.ntmps71
    go_wp2_with fail
    refine hs.mono ?_
    rintro e w1 ⟨rfl, hb1⟩
    go_wp2_with fail
    refine (hc0 _).mono ?_
    rintro e w2 ⟨rfl, hb2⟩
    go_wp2
    go_ret
    exact ⟨rfl, (hb1.trans (hb2.mono hb1.size)).alloc (hb1.trans (hb2.mono hb1.size)).size _⟩
  · rw [h1] at hs
    simp only [Tly.val, cstV, if_true, Bool.false_eq_true, if_false] at hs hc hc0
    clear h1
    go_enter Try.func71, Try.ntmps71
    go_wp2_with fail
    refine hs.mono ?_
    rintro e w1 ⟨rfl, hb1⟩
    go_wp2_with fail
    refine (hc _).mono ?_
    rintro e w2 ⟨rfl, hb2⟩
    go_wp2
    go_ret
    exact ⟨rfl, (hb1.trans (hb2.mono hb1.size)).alloc (hb1.trans (hb2.mono hb1.size)).size _⟩
end Go.Proofs.Ytdlcjmdkafebpaa
