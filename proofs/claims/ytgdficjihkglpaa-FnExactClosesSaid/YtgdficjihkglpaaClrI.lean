/- Chapter 7's program: StaysOpen, Closes. -/
import Derived.Test.YtgdficjihkglpaaClrP
namespace Go.Proofs.Ytgdficjihkglpaa
open Go.RowKit
set_option linter.unusedVariables false

theorem impl_Index (A : Option Addr) (n c B : Nat) (zs : List Int) (x : Int) (w : World) (h : IntsAt .i64 w B A n zs) (hn : n ≤ 4294967296) :
    Calls Try.prog 84 #[.slice A n c, .int .i64 x] w fun e w' => (∃ r : Int, e = .returned (.int .i64 r) ∧ -1 ≤ r ∧ r ≤ 4294967296 ∧ (decide (0 ≤ r)) = hasI zs x) ∧ w = w' := by
  have hl := h.1
  go_enter Try.func84, Try.ntmps84
  go_wp2
  go_loop [8] (fun i => ∃ k : Nat, k ≤ n ∧ i = .int .i64 k ∧ ∀ j, j < k → zs.getD j 0 ≠ x) (fun i => n - (intOf i).toNat)
  case atStart => exact ⟨0, Nat.zero_le _, rfl, fun j hj => absurd hj (by omega)⟩
  case round =>
    obtain ⟨k, hk, rfl, hno⟩ := hrel
    by_cases hlt : k < n
    · obtain ⟨ad, rfl, hab, hcell⟩ := h.2 (by omega)
      have hc := hcell k hlt
      have HN := Lib.hid hno
      clear hno hcell
      by_cases he : zs.getD k 0 = x
      · have HR : Hid (hasI zs x = true) := Lib.hid (hasI_yes (by omega) he)
        rw [he] at hc
        clear he
        go_wp2
        go_ret
        exact ⟨⟨(k : Int), rfl, by omega, by omega, by rw [HR.out]; simp⟩, rfl⟩
      · have HS : Hid (∀ j, j < k + 1 → zs.getD j 0 ≠ x) := Lib.hid (fun j hj => by
          by_cases e : j = k
          · subst e; exact he
          · exact HN.out j (by omega))
        generalize zs.getD k 0 = z at *
        have e1 : (z == x) = false := by simpa using he
        have e2 : (x == z) = false := by simpa using fun e => he e.symm
        clear he
        go_wp2
        go_round
        case rel => exact ⟨k + 1, by omega, by go_num, HS.out⟩
        case measure => simp [intOf]; omega
    · obtain rfl : k = n := by omega
      have HR : Hid (hasI zs x = false) := Lib.hid (hasI_no (fun i hi => hno i (by omega)))
      clear hno
      go_wp2
      go_ret
      exact ⟨⟨-1, rfl, by omega, by omega, by rw [HR.out]; rfl⟩, rfl⟩
theorem impl_Contains (A : Option Addr) (n c B : Nat) (zs : List Int) (x : Int) (w : World) (h : IntsAt .i64 w B A n zs) (hn : n ≤ 4294967296) :
    Calls Try.prog 74 #[.slice A n c, .int .i64 x] w fun e w' => e = .returned (.bool (hasI zs x)) ∧ w = w' := by
  go_enter Try.func74, Try.ntmps74
  go_wp2_with fail
  refine (impl_Index A n c B zs x _ h hn).mono ?_
  rintro e w1 ⟨⟨r, rfl, h1, h2, h3⟩, rfl⟩
  have HR := Lib.hid h3
  clear h3
  by_cases h0 : 0 ≤ r
  · go_wp2
    go_ret
    exact ⟨by rw [← HR.out, decide_eq_true (by omega)]; rfl, rfl⟩
  · go_wp2
    go_ret
    exact ⟨by rw [← HR.out, decide_eq_false (by omega)]; rfl, rfl⟩
set_option maxHeartbeats 1000000 in
theorem impl_pick (A : Option Addr) (n c B : Nat) (zs : List Int) (A2 : Option Addr) (n2 c2 B2 : Nat) (ys : List Int) (b : Bool) (w : World) (h : IntsAt .i64 w B A n zs) (h2 : IntsAt .i64 w B2 A2 n2 ys) (hB : B ≤ w.heap.size) (hB2 : B2 ≤ w.heap.size) (hn : n ≤ 4294967296) (hn2 : n2 ≤ 4294967296) :
    Calls Try.prog 50 #[.slice A n c, .slice A2 n2 c2, .bool b] w fun e w' => ∃ v, e = .returned v ∧ Own .i64 3 w' w.heap.size v (pickL zs ys b) ∧ Below w.heap.size w w' := by
  have hl := h.1
  have own0 := own_bare .i64 3 w
  have hb0 : Below w.heap.size w (w.alloc (.cells #[] 3)) := (Below.refl _ _).alloc (Nat.le_refl _) _
  go_enter Try.func50, Try.ntmps50
  go_wp2
  go_loopw [7, 13] (fun v i wr => ∃ k : Nat, k ≤ n ∧ i = .int .i64 k ∧ Own .i64 3 wr w.heap.size v (pickL (zs.take k) ys b) ∧ Below w.heap.size w wr) (fun _ i _ => n - (intOf i).toNat)
  case atStart => exact ⟨0, Nat.zero_le _, rfl, by rw [pick_zero]; exact own0, hb0⟩
  case round =>
    clear own0 hb0
    obtain ⟨k, hk, rfl, hown, hbl⟩ := hrel
    have hsz := hbl.size
    by_cases hlt : k < n
    · obtain ⟨ad, rfl, hab, hcell⟩ := h.2 (by omega)
      have hc := (hbl.cell (by rw [add_block]; omega)).trans (hcell k hlt)
      have hL := pick_len_take zs ys b k
      have hyes := fun h => Lib.hid (pick_yes (zs := zs) (ys := ys) (b := b) (k := k) (by omega) h)
      have hno := fun h => Lib.hid (pick_no (zs := zs) (ys := ys) (b := b) (k := k) (by omega) h)
      clear hcell
      generalize zs.getD k 0 = z at *
      generalize pickL (zs.take k) ys b = l at *
      by_cases hh : hasI ys z = b
      · have HS := hyes hh
        have e1 : (hasI ys z == b) = true := by rw [hh]; simp
        clear hyes hno hh
        go_wp2_with fail
        refine (impl_Contains A2 n2 c2 B2 ys z wr (h2.laid hB2 hbl) hn2).mono ?_
        rintro e w1 ⟨rfl, rfl⟩
        go_wp2_with (at_builtin; refine wpList_app1 rfl _ _ 22 rfl .i64 3 8 Try.underlying22 info_i64 w.heap.size _ l rfl hown (by decide) (by omega) _ _ _ wr.heap.size hsz rfl (by simp) ?_; intro v4 w4 hown4 hgrow4 hat4)
        have hb4 := hown.push (Nat.le_refl _) (hbl.alloc hsz _) (by simp; omega) hgrow4
        clear hgrow4 hat4 hown hbl
        go_roundw
        case rel => exact ⟨k + 1, by omega, by go_num, by rw [HS.out]; exact hown4, hb4⟩
        case measure => simp [intOf]; omega
      · have HS := hno (by cases b <;> cases hq : hasI ys z <;> simp_all)
        have e1 : (hasI ys z == b) = false := by simpa using hh
        clear hyes hno hh
        go_wp2_with fail
        refine (impl_Contains A2 n2 c2 B2 ys z wr (h2.laid hB2 hbl) hn2).mono ?_
        rintro e w1 ⟨rfl, rfl⟩
        go_wp2
        go_roundw
        case rel => exact ⟨k + 1, by omega, by go_num, by rw [HS.out]; exact hown, hbl⟩
        case measure => simp [intOf]; omega
    · obtain rfl : k = n := by omega
      rw [List.take_of_length_le (by omega)] at hown
      go_wp2
      go_ret
      exact ⟨_, rfl, hown, hbl⟩
theorem impl_StaysOpen (A : Option Addr) (n c B : Nat) (zs : List Int) (A2 : Option Addr) (n2 c2 B2 : Nat) (ys : List Int) (w : World) (h : IntsAt .i64 w B A n zs) (h2 : IntsAt .i64 w B2 A2 n2 ys) (hB : B ≤ w.heap.size) (hB2 : B2 ≤ w.heap.size) (hn : n ≤ 4294967296) (hn2 : n2 ≤ 4294967296) :
    Calls Try.prog 15 #[.slice A n c, .slice A2 n2 c2] w fun e w' => ∃ v, e = .returned v ∧ Own .i64 3 w' w.heap.size v (stayL zs ys) ∧ Below w.heap.size w w' := by
  go_enter Try.func15, Try.ntmps15
  go_wp2_with fail
  refine (impl_pick A n c B zs A2 n2 c2 B2 ys true _ h h2 hB hB2 hn hn2).mono ?_
  rintro e w1 ⟨v, rfl, ho, hb⟩
  rw [pick_true] at ho
  go_wp2
  go_ret
  exact ⟨_, rfl, ho, hb⟩
theorem impl_Closes (A : Option Addr) (n c B : Nat) (zs : List Int) (A2 : Option Addr) (n2 c2 B2 : Nat) (ys : List Int) (w : World) (h : IntsAt .i64 w B A n zs) (h2 : IntsAt .i64 w B2 A2 n2 ys) (hB : B ≤ w.heap.size) (hB2 : B2 ≤ w.heap.size) (hn : n ≤ 4294967296) (hn2 : n2 ≤ 4294967296) :
    Calls Try.prog 20 #[.slice A n c, .slice A2 n2 c2] w fun e w' => ∃ v, e = .returned v ∧ Own .i64 3 w' w.heap.size v (closL zs ys) ∧ Below w.heap.size w w' := by
  go_enter Try.func20, Try.ntmps20
  go_wp2_with fail
  refine (impl_pick A n c B zs A2 n2 c2 B2 ys false _ h h2 hB hB2 hn hn2).mono ?_
  rintro e w1 ⟨v, rfl, ho, hb⟩
  rw [pick_false] at ho
  go_wp2
  go_ret
  exact ⟨_, rfl, ho, hb⟩
end Go.Proofs.Ytgdficjihkglpaa
