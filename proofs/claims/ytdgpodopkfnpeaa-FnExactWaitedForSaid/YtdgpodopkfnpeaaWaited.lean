/- Chapter 31: WaitedFor: program and model. -/
import Derived.Test.YtdgpodopkfnpeaaLast
namespace Go.Proofs.Ytdgpodopkfnpeaa
open Go.RowKit
set_option linter.unusedVariables false

/-- one more list: the longest, and how long it lasts now. -/
def wtStep (zs : List Int) (i : Int) (q : Int × Int) : Int × Int := if grnAt zs i then (maxI q.1 0, 0) else (maxI q.1 (q.2 + 1), q.2 + 1)
def wtK (zss : List (List Int)) (i : Int) : Nat → Int × Int
  | 0 => (0, 0)
  | k + 1 => wtStep (zss.getD k []) i (wtK zss i k)
def waitF (zss : List (List Int)) (i : Int) : Int := (wtK zss i zss.length).1
theorem wtStep_yes {zs : List Int} {i a b : Int} (h : grnAt zs i = true) : wtStep zs i (a, b) = (maxI a 0, 0) := by unfold wtStep; rw [h]; rfl
theorem wtStep_no {zs : List Int} {i a b : Int} (h : grnAt zs i = false) : wtStep zs i (a, b) = (maxI a (b + 1), b + 1) := by unfold wtStep; rw [h]; rfl
theorem maxI_le {a b c : Int} (h : a ≤ c) (h2 : b ≤ c) : maxI a b ≤ c := by unfold maxI; split <;> omega
theorem maxI_ge {a b c : Int} (h : c ≤ a) : c ≤ maxI a b := by unfold maxI; split <;> omega
theorem wtK_bound (zss : List (List Int)) (i : Int) : ∀ k : Nat, 0 ≤ (wtK zss i k).1 ∧ (wtK zss i k).1 ≤ k ∧ 0 ≤ (wtK zss i k).2 ∧ (wtK zss i k).2 ≤ k
  | 0 => by simp [wtK]
  | k + 1 => by
    have ih := wtK_bound zss i k
    show 0 ≤ (wtStep _ _ _).1 ∧ (wtStep _ _ _).1 ≤ ((k + 1 : Nat) : Int) ∧ 0 ≤ (wtStep _ _ _).2 ∧ (wtStep _ _ _).2 ≤ ((k + 1 : Nat) : Int)
    revert ih
    generalize wtK zss i k = q
    obtain ⟨a, b⟩ := q
    intro ih
    simp only at ih
    cases h : grnAt (zss.getD k []) i
    · rw [wtStep_no h]
      exact ⟨maxI_ge (by omega), maxI_le (by omega) (by omega), by simp only; omega, by simp only; omega⟩
    · rw [wtStep_yes h]
      exact ⟨maxI_ge (by omega), maxI_le (by omega) (by omega), by simp only; omega, by simp only; omega⟩
theorem cell1 {w : World} {g : Nat} {v : Value} {E : TypeId} {fr : Nat × Nat} (h : w.heap[g]? = some (.cells #[v] E fr)) : w.cell? ⟨g, 0, none⟩ = some v := by rw [cell_of_row w g 0 _ E fr h]; rfl
/-- the cells of the closure: the index, the longest, how long it lasts now. -/
structure WtAt (w : World) (g : Nat) (i a b : Int) : Prop where
  k0 : w.heap[g]? = some (.cells #[.int .i64 i] 3)
  k1 : w.heap[g + 1]? = some (.cells #[.int .i64 a] 3)
  k2 : w.heap[g + 1 + 1]? = some (.cells #[.int .i64 b] 3)
theorem WtAt.below {w w' : World} {g : Nat} {i a b : Int} (h : WtAt w g i a b) (hb : Below w.heap.size w w') : WtAt w' g i a b :=
  ⟨(hb.block _ (lt_of_block h.k0)).trans h.k0, (hb.block _ (lt_of_block h.k1)).trans h.k1, (hb.block _ (lt_of_block h.k2)).trans h.k2⟩
theorem WtAt.set2 {w : World} {g : Nat} {i a b c : Int} (h : WtAt w g i a b) : WtAt (w.setCell ⟨g + 1 + 1, 0, none⟩ (.int .i64 c)) g i a c :=
  ⟨(heap_setCell_other _ _ g _ (by simp only; omega)).trans h.k0, (heap_setCell_other _ _ (g + 1) _ (by simp only; omega)).trans h.k1, heap_setCell_same w (g + 1 + 1) 0 _ _ _ h.k2⟩
theorem WtAt.set1 {w : World} {g : Nat} {i a b c : Int} (h : WtAt w g i a b) : WtAt (w.setCell ⟨g + 1, 0, none⟩ (.int .i64 c)) g i c b :=
  ⟨(heap_setCell_other _ _ g _ (by simp only; omega)).trans h.k0, heap_setCell_same w (g + 1) 0 _ _ _ h.k1, (heap_setCell_other _ _ (g + 1 + 1) _ (by simp only; omega)).trans h.k2⟩
set_option maxHeartbeats 1000000 in
theorem impl_WaitedFor1 (g B : Nat) (s : Int) (A : Option Addr) (n c : Nat) (zs : List Int) (i a b : Int) (w : World) (hk : WtAt w g i a b) (h : IntsAt .i64 w B A n zs) (hB : B ≤ g) (hn : n ≤ 4294967296) (hb : 0 ≤ b ∧ b ≤ 4294967296) :
    Calls Try.prog 101 #[.int .i64 s, .slice A n c, .pointer (some ⟨g + 1 + 1, 0, none⟩), .pointer (some ⟨g, 0, none⟩), .pointer (some ⟨g + 1, 0, none⟩)] w fun e w' => e = .returned (.bool true) ∧ WtAt w' g i (wtStep zs i (a, b)).1 (wtStep zs i (a, b)).2 ∧ Below g w w' := by
  obtain ⟨b1, b2⟩ := hb
  have lt2 := lt_of_block hk.k2
  have c2 := cell1 hk.k2
  have fz : w.frozen? ⟨g + 1 + 1, 0, none⟩ = false := frozen_of_row _ _ 0 _ _ hk.k2
  have hk1 := hk.set2 (c := b + 1)
  have hB1 : Below g w (w.setCell ⟨g + 1 + 1, 0, none⟩ (.int .i64 (b + 1))) := (Below.refl g w).setCell (by simp only; omega) _
  have hi1 : IntsAt .i64 (w.setCell ⟨g + 1 + 1, 0, none⟩ (.int .i64 (b + 1))) B A n zs := h.keep fun p hp => hB1.cell (by omega)
  have hcc := impl_showsGreen A n c B zs i _ hi1 (by simp; omega) hn
  have d0 := cell1 hk1.k0
  have HK := Lib.hid hk1
  have HBl := Lib.hid hB1
  have HY := Lib.hid (wtStep_yes (zs := zs) (i := i) (a := a) (b := b))
  have HN := Lib.hid (wtStep_no (zs := zs) (i := i) (a := a) (b := b))
  generalize grnAt zs i = v at *
  generalize wtStep zs i (a, b) = q at *
  obtain ⟨q1, q2⟩ := q
  simp only at *
  clear hk1 hB1 hi1 h
  go_enter Try.func101, Try.ntmps101
  go_wp2_with fail
  refine hcc.mono ?_
  rintro e w1 ⟨rfl, rfl⟩
  clear hcc
  cases v
  · have hq := HN.out rfl
    injection hq with e1 e2
    subst e1
    subst e2
    have c1 := cell1 HK.out.k1
    have c2' := cell1 HK.out.k2
    have f1 : (w.setCell ⟨g + 1 + 1, 0, none⟩ (.int .i64 (b + 1))).frozen? ⟨g + 1, 0, none⟩ = false := frozen_of_row _ _ 0 _ _ HK.out.k1
    clear HN HY
    go_wp2_with fail
    refine (impl_Max _ _ _).mono ?_
    rintro e w2 ⟨rfl, hb2⟩
    have HK2 := Lib.hid (HK.out.below hb2)
    have HB2 := Lib.hid (HBl.out.trans (hb2.mono (by simp; omega)))
    have f2 : w2.frozen? ⟨g + 1, 0, none⟩ = false := frozen_of_row _ _ 0 _ _ HK2.out.k1
    have y1 := cell1 HK2.out.k1
    clear hb2
    go_wp2
    go_ret
    exact ⟨rfl, HK2.out.set1, HB2.out.setCell (by simp only; omega) _⟩
  · have hq := HY.out rfl
    injection hq with e1 e2
    subst e1
    subst e2
    have hkz := HK.out.set2 (c := 0)
    have HK := Lib.hid hkz
    have HBz := Lib.hid (HBl.out.setCell (p := ⟨g + 1 + 1, 0, none⟩) (by simp only; omega) (.int .i64 0))
    clear hkz
    have c1 := cell1 HK.out.k1
    have c2' := cell1 HK.out.k2
    clear HN HY
    go_wp2_with fail
    refine (impl_Max _ _ _).mono ?_
    rintro e w2 ⟨rfl, hb2⟩
    have HK2 := Lib.hid (HK.out.below hb2)
    have HB2 := Lib.hid (HBz.out.trans (hb2.mono (by simp; omega)))
    have f2 : w2.frozen? ⟨g + 1, 0, none⟩ = false := frozen_of_row _ _ 0 _ _ HK2.out.k1
    have y1 := cell1 HK2.out.k1
    clear hb2
    go_wp2
    go_ret
    exact ⟨rfl, HK2.out.set1, HB2.out.setCell (by simp only; omega) _⟩
set_option maxHeartbeats 1000000 in
theorem impl_showW (g : Nat) (A : Option Addr) (n c B : Nat) (zss : List (List Int)) (i : Int) (w : World) (hk : WtAt w g i 0 0) (h : SSAt w B A n zss) (hB : B ≤ g) (hn : n ≤ 4294967295) (hm : ∀ j, j < n → (zss.getD j []).length ≤ 4294967296) :
    Calls Try.prog 100 #[.slice A n c, .func (.func 101) #[] #[.pointer (some ⟨g + 1 + 1, 0, none⟩), .pointer (some ⟨g, 0, none⟩), .pointer (some ⟨g + 1, 0, none⟩)]] w fun e w' => e = .returned (.bool true) ∧ (∃ b, WtAt w' g i (waitF zss i) b) ∧ Below g w w' := by
  have hl := h.1
  have HG : Hid (waitF zss i = (wtK zss i n).1) := Lib.hid (by unfold waitF; rw [hl])
  have HK0 := Lib.hid hk
  have ltg := lt_of_block hk.k2
  clear hk
  go_enter Try.func100, Try.ntmps100
  go_wp2
  go_loopw [9] (fun s wr => ∃ k : Nat, k ≤ n ∧ s = .int .i64 k ∧ WtAt wr g i (wtK zss i k).1 (wtK zss i k).2 ∧ Below g w wr) (fun s _ => n - (intOf s).toNat)
  case atStart => exact ⟨0, Nat.zero_le _, rfl, HK0.out, Below.refl _ _⟩
  case round =>
    obtain ⟨k, hk, rfl, hw, hbl⟩ := hrel
    by_cases hlt : k < n
    · obtain ⟨ad, A', m, c', rfl, hab, hc, hi, hmc, hnil⟩ := h.at hlt
      have hcw := (hbl.cell (p := ad.add k) (by omega)).trans hc
      have hiw := hi.keep (w' := wr) (fun p hp => hbl.cell (by omega))
      have hmk := hm k (by omega)
      have hml := hi.1
      have hbd := wtK_bound zss i k
      have hcc := impl_WaitedFor1 g B k A' m c' (zss.getD k []) i (wtK zss i k).1 (wtK zss i k).2 wr hw hiw hB (by omega) (by omega)
      have HS : Hid (wtK zss i (k + 1) = wtStep (zss.getD k []) i ((wtK zss i k).1, (wtK zss i k).2)) := Lib.hid rfl
      rw [← HS.out] at hcc
      have i1 : (0 : Int) ≤ (k : Int) := by omega
      have i2 : (k : Int) < (n : Int) := by omega
      have HB := Lib.hid hbl
      clear hi hiw hw hc hbl
      go_wp2_with fail
      refine hcc.mono ?_
      rintro e w1 ⟨rfl, hw1, hb1⟩
      have HW1 := Lib.hid hw1
      have HB1 := Lib.hid (HB.out.trans hb1)
      clear hw1 hb1 hcc
      go_wp2
      go_roundw
      case rel => exact ⟨k + 1, by omega, by go_num, HW1.out, HB1.out⟩
      case measure => simp [intOf]; omega
    · obtain rfl : k = n := by omega
      rw [← HG.out] at hw
      have HW := Lib.hid hw
      clear hw
      go_wp2
      go_ret
      exact ⟨rfl, ⟨_, HW.out⟩, hbl⟩
theorem impl_WaitedFor (A : Option Addr) (n c B : Nat) (zss : List (List Int)) (i : Int) (w : World) (h : SSAt w B A n zss) (hB : B ≤ w.heap.size) (hn : n ≤ 4294967295) (hm : ∀ j, j < n → (zss.getD j []).length ≤ 4294967296) :
    Calls Try.prog 55 #[.slice A n c, .int .i64 i] w fun e w' => e = .returned (.int .i64 (waitF zss i)) ∧ Below w.heap.size w w' := by
  obtain ⟨wA, hwA⟩ : ∃ wA, wA = ((w.alloc (.cells #[.int .i64 i] 3)).alloc (.cells #[.int .i64 0] 3)).alloc (.cells #[.int .i64 0] 3) := ⟨_, rfl⟩
  obtain ⟨h0, h1, h2, hsz, hBA⟩ := three_blocks hwA
  have hk : WtAt wA w.heap.size i 0 0 := ⟨h0, h1, h2⟩
  have hcc := impl_showW w.heap.size A n c B zss i wA hk (h.keep fun p hp => hBA.cell (by omega)) hB hn hm
  have HB := Lib.hid hBA
  clear h0 h1 h2 hsz hk hBA
  go_enter Try.func55, Try.ntmps55
  go_wp2_with fail
  rw [← hwA]
  refine hcc.mono ?_
  rintro e w1 ⟨rfl, ⟨b, hw⟩, hb1⟩
  have y1 := cell1 hw.k1
  have HB1 := Lib.hid (HB.out.trans hb1)
  clear hwA hcc hw hb1
  go_wp2
  go_ret
  exact ⟨rfl, HB1.out⟩
set_option maxHeartbeats 1000000 in
theorem spec_WaitedFor (A : Option Addr) (n c B : Nat) (zss : List (List Int)) (i : Int) (w : World) (h : SSAt w B A n zss) (hB : B ≤ w.heap.size) (hn : n ≤ 4294967295) (hm : ∀ j, j < n → (zss.getD j []).length ≤ 4294967296) :
    Calls Try.prog 54 #[.slice A n c, .int .i64 i] w fun e w' => e = .returned (.int .i64 (waitF zss i)) ∧ Below w.heap.size w w' := by
  have hl := h.1
  have HG : Hid (waitF zss i = (wtK zss i n).1) := Lib.hid (by unfold waitF; rw [hl])
  go_enter Try.func54, Try.ntmps54
  go_wp2
  go_loopw [5, 6, 7] (fun x y s wr => ∃ k : Nat, k ≤ n ∧ s = .int .i64 k ∧ x = .int .i64 (wtK zss i k).1 ∧ y = .int .i64 (wtK zss i k).2 ∧ Below w.heap.size w wr) (fun _ _ s _ => n - (intOf s).toNat)
  case atStart => exact ⟨0, Nat.zero_le _, rfl, rfl, rfl, Below.refl _ _⟩
  case round =>
    obtain ⟨k, hk, rfl, rfl, rfl, hbl⟩ := hrel
    by_cases hlt : k < n
    · obtain ⟨ad, A', m, c', rfl, hab, hc, hi, hmc, hnil⟩ := h.at hlt
      have hcw := (hbl.cell (by omega)).trans hc
      have hiw := hi.keep (w' := wr) (fun p hp => hbl.cell (by omega))
      have hmk := hm k (by omega)
      have hml := hi.1
      have i1 : (0 : Int) ≤ (k : Int) := by omega
      have i2 : (k : Int) < (n : Int) := by omega
      have hbd := wtK_bound zss i k
      have HS : Hid (wtK zss i (k + 1) = wtStep (zss.getD k []) i ((wtK zss i k).1, (wtK zss i k).2)) := Lib.hid rfl
      have HY := Lib.hid (wtStep_yes (zs := zss.getD k []) (i := i) (a := (wtK zss i k).1) (b := (wtK zss i k).2))
      have HN := Lib.hid (wtStep_no (zs := zss.getD k []) (i := i) (a := (wtK zss i k).1) (b := (wtK zss i k).2))
      generalize wtK zss i k = q at *
      obtain ⟨a, b⟩ := q
      simp only at *
      generalize zss.getD k [] = zs at *
      subst hml
      clear hi hc
      obtain ⟨b1, b2, b3, b4⟩ := hbd
      cases hin : inB i 0 ((zs.length : Int) - 1)
      · have hq := HN.out (grnAt_out hin)
        have HS2 := Lib.hid (HS.out.trans hq)
        clear hq
        have H := Lib.hid hin
        clear hin HY HN HS
        go_wp2_with (go_at_call 66; refine (spec_l1In _ _ _ _).mono ?_; rintro e w' ⟨rfl, rfl⟩; rw [H.out])
        go_wp2_with fail
        refine (spec_Max _ _ _).mono ?_
        rintro e w1 ⟨rfl, rfl⟩
        go_wp2
        go_roundw
        case rel => exact ⟨k + 1, by omega, by go_num, by rw [HS2.out], by rw [HS2.out], hbl⟩
        case measure => simp [intOf]; omega
      · obtain ⟨l1, l2⟩ := inB_t hin
        obtain ⟨j, rfl⟩ : ∃ j : Nat, i = j := ⟨i.toNat, by omega⟩
        have hgr := grnAt_in hin
        have H := Lib.hid hin
        obtain ⟨ad2, rfl, hab2, hcell⟩ := hiw.2 (by omega)
        have hc2 := hcell j (by omega)
        have j1 : (0 : Int) ≤ (j : Int) := by omega
        have j2 : (j : Int) < (zs.length : Int) := by omega
        clear hin hcell hiw
        generalize zs.getD j 0 = y at *
        by_cases hy : y = 1
        · have hq := HY.out (by rw [hgr]; exact decide_eq_true hy)
          have HS2 := Lib.hid (HS.out.trans hq)
          clear hq
          subst hy
          clear HY HN hgr HS
          go_wp2_with (go_at_call 66; refine (spec_l1In _ _ _ _).mono ?_; rintro e w' ⟨rfl, rfl⟩; rw [H.out])
          go_wp2_with fail
          refine (spec_Max _ _ _).mono ?_
          rintro e w1 ⟨rfl, rfl⟩
          go_wp2
          go_roundw
          case rel => exact ⟨k + 1, by omega, by go_num, by rw [HS2.out], by rw [HS2.out], hbl⟩
          case measure => simp [intOf]; omega
        · have hq := HN.out (by rw [hgr]; exact decide_eq_false hy)
          have HS2 := Lib.hid (HS.out.trans hq)
          clear hq
          have e1 : (y == 1) = false := by simpa using hy
          clear HY HN hgr HS
          go_wp2_with (go_at_call 66; refine (spec_l1In _ _ _ _).mono ?_; rintro e w' ⟨rfl, rfl⟩; rw [H.out])
          go_wp2_with fail
          refine (spec_Max _ _ _).mono ?_
          rintro e w1 ⟨rfl, rfl⟩
          go_wp2
          go_roundw
          case rel => exact ⟨k + 1, by omega, by go_num, by rw [HS2.out], by rw [HS2.out], hbl⟩
          case measure => simp [intOf]; omega
    · obtain rfl : k = n := by omega
      go_wp2
      go_ret
      exact ⟨by rw [HG.out]; try rfl, hbl⟩
end Go.Proofs.Ytdgpodopkfnpeaa
