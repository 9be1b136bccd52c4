/- all, fill, isFull: the program. -/
import Derived.Test.YtgdficjihkglpabDoorSetEq
import Derived.Test.YtgdficjihkglpabDoorStageI
namespace Go.Proofs.YtgdficjihkglpabDoor
open Go.RowKit
set_option linter.unusedVariables false

theorem fill_lt {f : Nat → Nat} {m N : Nat} (hm : m < 2 ^ N) : ∀ k, k ≤ N → fillTo f m k < 2 ^ N
  | 0, _ => hm
  | k + 1, h => by
    unfold fillTo
    have ih := fill_lt (f := f) hm k (by omega)
    split
    · exact put_lt ih (by omega)
    · exact ih
theorem fill_yes {f : Nat → Nat} {m k : Nat} (h : f k &&& fillTo f m k = 0) : fillTo f m (k + 1) = fillTo f m k ||| 2 ^ k := if_pos h
theorem fill_no {f : Nat → Nat} {m k : Nat} (h : ¬ f k &&& fillTo f m k = 0) : fillTo f m (k + 1) = fillTo f m k := if_neg h
theorem impl_maskBit12 (i : Nat) (w : World) (h : i ≤ 12) : Calls Tryd.prog 61 #[.int .i64 (i : Nat)] w fun e w' => e = .returned (.int .u16 ((2 ^ i : Nat) : Int)) ∧ w = w' := by
  rcases Nat.lt_or_ge i 12 with h1 | h1
  · exact impl_maskBit i w h1
  · obtain rfl : i = 12 := by omega
    go_enter Tryd.func61, Tryd.ntmps61
    go_wp2
    go_ret
    exact ⟨rfl, rfl⟩
theorem impl_all (A : Option Addr) (n c : Nat) (f : Nat → Nat) (w : World) (h12 : n ≤ 12) :
    Calls Tryd.prog 62 #[.agg (xcells A n c f).toArray] w fun e w' => e = .returned (.int .u16 ((2 ^ n - 1 : Nat) : Int)) ∧ Below w.heap.size w w' := by
  have hp := pow_le12 h12
  have hp0 := Nat.two_pow_pos n
  have hX : (w.alloc (.cells (xcells A n c f).toArray 55)).cell? ⟨w.heap.size, 0, none⟩ = some (.slice A n c) := by
    rw [cell_of_row _ _ 0 _ _ _ (heap_alloc_new w _)]; rfl
  have hmb := fun x => impl_maskBit12 n x h12
  generalize (xcells A n c f).toArray = xs at *
  have hw : IntKind.u16.wrap (((2 ^ n : Nat) : Int) - 1) = ((2 ^ n - 1 : Nat) : Int) := by rw [IntKind.wrap_u16]; omega
  generalize 2 ^ n - 1 = b1 at *
  generalize 2 ^ n = b at *
  have HM := Lib.hid hmb
  clear hmb
  go_enter Tryd.func62, Tryd.ntmps62
  go_wp2_with fail
  refine (HM.out _).mono ?_
  rintro e w1 ⟨rfl, rfl⟩
  go_wp2
  go_ret
  exact ⟨rfl, (Below.refl _ _).alloc (Nat.le_refl _) _⟩
set_option maxHeartbeats 1000000 in
set_option maxRecDepth 100000 in
theorem impl_fill (A : Option Addr) (n c : Nat) (f : Nat → Nat) (hf : ∀ k, f k < 4096) (m : Nat) (w : World) (h12 : n ≤ 12) (hm : m < 2 ^ n) :
    Calls Tryd.prog 50 #[.agg (xcells A n c f).toArray, .int .u16 (m : Nat)] w fun e w' => e = .returned (.int .u16 (fillTo f m n : Nat)) ∧ Below w.heap.size w w' := by
  have hp := pow_le12 h12
  have hX := rows_new w A n c f 55
  have hX0 : (w.alloc (.cells (xcells A n c f).toArray 55)).cell? ⟨w.heap.size, 0, none⟩ = some (.slice A n c) := by
    rw [cell_of_row _ _ 0 _ _ _ (heap_alloc_new w _)]; rfl
  generalize (xcells A n c f).toArray = xs at *
  have hB0 : Below w.heap.size w (w.alloc (.cells xs 55)) := (Below.refl _ _).alloc (Nat.le_refl _) _
  have HB := Lib.hid hB0
  have HX := Lib.hid hX
  clear hX hB0
  have hfl := fun k hk => fill_lt (f := f) hm k hk
  have HFL := Lib.hid hfl
  clear hfl
  have HF := Lib.hid hf
  clear hf
  have H0 : Hid (fillTo f m 0 = m) := Lib.hid rfl
  go_enter Tryd.func50, Tryd.ntmps50
  go_wp2
  obtain ⟨w0, hw0⟩ : ∃ w0, w0 = w.alloc (.cells xs 55) := ⟨_, rfl⟩
  rw [← hw0] at HB HX hX0 ⊢
  clear hw0
  go_loop [1, 9] (fun s i => ∃ k : Nat, k ≤ n ∧ i = .int .i64 k ∧ s = .int .u16 (fillTo f m k : Nat)) (fun _ i => n - (intOf i).toNat)
  case atStart => exact ⟨0, Nat.zero_le _, rfl, by rw [H0.out]⟩
  case round =>
    obtain ⟨k, hk, rfl, rfl⟩ := hrel
    by_cases hlt : k < n
    · have hr := HX.out k (by omega)
      have hs := HFL.out k hk
      have hfk := HF.out k
      have ha : bits .and .u16 ((f k : Nat) : Int) ((fillTo f m k : Nat) : Int) = ((f k &&& fillTo f m k : Nat) : Int) := u16_and_nat _ _ (by omega) (by omega)
      have x1 : (0 : Int) ≤ (k : Int) := by omega
      have x2 : (k : Int) < 12 := by omega
      have x3 : (k : Int) < (n : Int) := by omega
      have HY := Lib.hid (fun h => fill_yes (f := f) (m := m) (k := k) h)
      have HN := Lib.hid (fun h => fill_no (f := f) (m := m) (k := k) h)
      have ho : bits .or .u16 ((fillTo f m k : Nat) : Int) ((2 ^ k : Nat) : Int) = ((fillTo f m k ||| 2 ^ k : Nat) : Int) := or_bit (by omega) (by omega)
      have hmb := Lib.hid (fun x => impl_maskBit k x (by omega))
      generalize hg : f k &&& fillTo f m k = r at *
      generalize hg2 : fillTo f m k ||| 2 ^ k = y at *
      generalize hg3 : fillTo f m k = s at *
      generalize hg4 : f k = fk at *
      generalize hg5 : 2 ^ k = bk at *
      by_cases hz : r = 0
      · have HR := Lib.hid (HY.out hz)
        subst hz
        clear hg hg2 hg3 hg4 hg5 HY HN
        go_wp2_with fail
        refine (hmb.out _).mono ?_
        rintro e w1 ⟨rfl, rfl⟩
        go_wp2
        go_round
        case rel => exact ⟨k + 1, by omega, by go_num, by rw [HR.out]⟩
        case measure => simp [intOf]; omega
      · have HR := Lib.hid (HN.out hz)
        have hne : ((r : Int) == 0) = false := by simp; omega
        clear hg hg2 hg3 hg4 hg5 HY HN
        go_wp2
        go_round
        case rel => exact ⟨k + 1, by omega, by go_num, by rw [HR.out]⟩
        case measure => simp [intOf]; omega
    · obtain rfl : k = n := by omega
      go_wp2
      go_ret
      exact ⟨rfl, HB.out⟩
set_option maxHeartbeats 1000000 in
set_option maxRecDepth 100000 in
theorem impl_isFull (A : Option Addr) (n c : Nat) (f : Nat → Nat) (hf : ∀ k, f k < 4096) (m : Nat) (hm : m < 4096) (w : World) (h12 : n ≤ 12) (hw : Brus w) :
    Calls Tryd.prog 47 #[.agg (xcells A n c f).toArray, .int .u16 (m : Nat)] w fun e w' => e = .returned (.bool (decide (agL f (idxs m) &&& m = 0) && decide (agL f (idxs m) ||| m = 2 ^ n - 1))) ∧ Below w.heap.size w w' := by
  have hX := heap_alloc_new w (.cells (xcells A n c f).toArray 55)
  have hB0 : Below w.heap.size w (w.alloc (.cells (xcells A n c f).toArray 55)) := (Below.refl _ _).alloc (Nat.le_refl _) _
  have hs0 : (w.alloc (.cells (xcells A n c f).toArray 55)).heap.size = w.heap.size + 1 := by simp
  have hR0 := range_block hX
  have HA := Lib.hid (fun x hx => impl_against A n c f hf m hm x hx)
  have HL := Lib.hid (fun x => impl_all A n c f x h12)
  have HW := Lib.hid hw
  have HB0 := Lib.hid hB0
  have HX := Lib.hid hX
  have hln : (xcells A n c f).length = 13 := xcells_length _ _ _ _
  have hinf : (Tryd.prog.info? 55).map (·.size) = some (xcells A n c f).length := by rw [hln]; exact info_cross
  have ha := agL_lt hf (idxs m)
  have hab : bits .and .u16 ((agL f (idxs m) : Nat) : Int) (m : Int) = ((agL f (idxs m) &&& m : Nat) : Int) := u16_and_nat _ _ (by omega) (by omega)
  have hob : bits .or .u16 ((agL f (idxs m) : Nat) : Int) (m : Int) = ((agL f (idxs m) ||| m : Nat) : Int) := u16_or_nat _ _ (by omega) (by omega)
  generalize xcells A n c f = xs at *
  generalize agL f (idxs m) &&& m = r at *
  generalize agL f (idxs m) ||| m = q at *
  generalize agL f (idxs m) = a at *
  generalize 2 ^ n - 1 = b1 at *
  obtain ⟨w0, hw0⟩ : ∃ w0, w0 = w.alloc (.cells xs.toArray 55) := ⟨_, rfl⟩
  rw [← hw0] at hR0 HB0 HX hs0
  have HAW := Lib.hid (HA.out w0 (HW.out.below HB0.out (Nat.le_refl _)))
  clear hX hB0 hw HW HA
  go_enter Tryd.func47, Tryd.ntmps47
  go_wp2_with ((with_reducible show wpList _ _ _ _ _ _); rw [← hw0]; refine wpList_load_mid rfl 55 _ rfl w.heap.size 0 rfl xs _ hR0 Tryd.underlying55 rfl hinf ?_)
  rw [← hw0]
  refine HAW.out.mono ?_
  rintro e w1 ⟨rfl, hb⟩
  have HB1 := Lib.hid (HB0.out.trans (hb.mono HB0.out.size))
  have hR1 : w1.rangeAt w.heap.size 0 xs := range_block ((hb.block w.heap.size (by omega)).trans HX.out)
  have HLW := Lib.hid (HL.out w1)
  clear hb hw0 HAW HL HX hR0 hs0
  by_cases hr : r = 0
  · subst hr
    go_wp2_with (refine wpList_want (by rfl) ?_; refine wpList_load_mid rfl 55 _ rfl w.heap.size 0 rfl xs _ hR1 Tryd.underlying55 rfl hinf ?_)
    refine HLW.out.mono ?_
    rintro e w2 ⟨rfl, hb2⟩
    have HB2 := Lib.hid (HB1.out.trans (hb2.mono HB1.out.size))
    clear hb2
    go_wp2
    go_ret
    refine ⟨?_, HB2.out⟩
    by_cases hq : q = b1
    · subst hq; simp
    · have : ¬ (q : Int) = (b1 : Int) := by omega
      simp [hq, this]
  · have hne : ((r : Int) == 0) = false := by simp; omega
    go_wp2
    go_ret
    refine ⟨?_, HB1.out⟩
    simp [hr]
end Go.Proofs.YtgdficjihkglpabDoor
