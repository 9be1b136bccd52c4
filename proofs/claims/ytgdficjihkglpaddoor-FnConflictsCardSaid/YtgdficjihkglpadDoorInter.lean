/- Interleave: the model. -/
import Derived.Test.YtgdficjihkglpadDoorPath
import Derived.BigQuiet
import Derived.Deep.QuietTactic
namespace Go.Proofs.YtgdficjihkglpadDoor
open Go.RowKit
set_option linter.unusedVariables false

theorem nat_one (m : Nat) : ((m : Int) == 1) = decide (m = 1) := by
  by_cases h : m = 1
  · subst h; rfl
  · rw [decide_eq_false h]
    have h2 : ¬ ((m : Int) = 1) := by omega
    simpa using h2
theorem ret_val {x y : Int} (h : x = y) : Value.int .i64 x = Value.int .i64 y := by rw [h]
theorem spec_Interleave (a b c d : Int) (w : World) : Calls Tryd.prog 84 #[.int .i64 a, .int .i64 b, .int .i64 c, .int .i64 d] w fun e w' => e = .returned (.bool (inter a b c d)) ∧ Below w.heap.size w w' := by
  have own0 : Own .i64 3 (w.alloc (.cells #[.int .i64 a, .int .i64 b, .int .i64 c, .int .i64 d] 3)) w.heap.size (.slice (some ⟨w.heap.size, 0, none⟩) 4 4) [a, b, c, d] := own_lit w [a, b, c, d] 4 (Nat.le_refl _) (by decide) rfl
  have hb0 : Below w.heap.size w (w.alloc (.cells #[.int .i64 a, .int .i64 b, .int .i64 c, .int .i64 d] 3)) := (Below.refl _ _).alloc (Nat.le_refl _) _
  go_enter Tryd.func84, Tryd.ntmps84
  go_wp2
  go_loopw [10] (fun i wr => ∃ j : Nat, j ≤ 4 ∧ i = .int .i64 j ∧ okNs [a, b, c, d] j ∧ Own .i64 3 wr w.heap.size (.slice (some ⟨w.heap.size, 0, none⟩) 4 4) [a, b, c, d] ∧ Below w.heap.size w wr) (fun i _ => 4 - (intOf i).toNat)
  case atStart => exact ⟨0, by omega, rfl, fun j hj => absurd hj (by omega), own0, hb0⟩
  case round =>
    clear own0 hb0
    obtain ⟨j, hj, rfl, hok, hown, hbl⟩ := hrel
    by_cases hlt : j < 4
    · have HOK := Lib.hid hok
      clear hok
      go_wp2
      go_loopw [11] (fun i wr => ∃ k : Nat, k ≤ j ∧ i = .int .i64 k ∧ (∀ k', k' < k → [a, b, c, d].getD j 0 ≠ [a, b, c, d].getD k' 0) ∧ Own .i64 3 wr w.heap.size (.slice (some ⟨w.heap.size, 0, none⟩) 4 4) [a, b, c, d] ∧ Below w.heap.size w wr) (fun i _ => j - (intOf i).toNat)
      case atStart => exact ⟨0, by omega, rfl, fun j hj => absurd hj (by omega), hown, hbl⟩
      case round =>
        clear hown hbl
        obtain ⟨k, hk, rfl, hdi, hown, hbl⟩ := hrel
        by_cases hlt2 : k < j
        · have c1 := hown.cell j (by simpa using hlt)
          have c2 := hown.cell k (by simp; omega)
          have i1 : (0 : Int) ≤ (j : Int) := by omega
          have i2 : (j : Int) < (4 : Int) := by omega
          have i3 : (0 : Int) ≤ (k : Int) := by omega
          have i4 : (k : Int) < (4 : Int) := by omega
          by_cases he : [a, b, c, d].getD j 0 = [a, b, c, d].getD k 0
          · have HR := Lib.hid (inter_eq hlt2 hlt he)
            rw [← he] at c2
            clear hdi hown
            generalize [a, b, c, d].getD j 0 = x at *
            go_wp2
            go_quiet (fail)
            go_wp2
            go_ret
            exact ⟨by rw [HR.out]; rfl, belowN hbl _⟩
          · have HD : Hid (∀ k', k' < k + 1 → [a, b, c, d].getD j 0 ≠ [a, b, c, d].getD k' 0) := Lib.hid (fun k' h' => by
              by_cases e : k' = k
              · subst e; exact he
              · exact hdi k' (by omega))
            have HO := Lib.hid hown
            have e1 : ([a, b, c, d].getD j 0 == [a, b, c, d].getD k 0) = false := by simpa using he
            clear hdi hown he
            generalize [a, b, c, d].getD j 0 = x at *
            generalize [a, b, c, d].getD k 0 = y at *
            go_wp2
            go_quiet (fail)
            go_wp2
            go_roundw
            case rel => exact ⟨k + 1, by omega, by go_num, HD.out, HO.out, belowN hbl _⟩
            case measure => simp [intOf]; omega
        · obtain rfl : k = j := by omega
          have c1 := hown.cell k (by simpa using hlt)
          have i1 : (0 : Int) ≤ (k : Int) := by omega
          have i2 : (k : Int) < (4 : Int) := by omega
          cases hin : inB ([a, b, c, d].getD k 0) 0 7
          · have HR := Lib.hid (inter_out hlt hin)
            have HI := Lib.hid hin
            clear hdi hown hin
            generalize [a, b, c, d].getD k 0 = x at *
            go_wp2_with fail
            refine (spec_l1In _ _ _ _).mono ?_
            rintro e w1 ⟨rfl, rfl⟩
            rw [HI.out]
            go_wp2
            go_ret
            exact ⟨by rw [HR.out]; rfl, hbl⟩
          · have HS := Lib.hid (okNs_step HOK.out hin hdi)
            have HO := Lib.hid hown
            have HI := Lib.hid hin
            clear hdi hown hin
            generalize [a, b, c, d].getD k 0 = x at *
            go_wp2_with fail
            refine (spec_l1In _ _ _ _).mono ?_
            rintro e w1 ⟨rfl, rfl⟩
            rw [HI.out]
            go_wp2
            go_roundw
            case rel => exact ⟨k + 1, by omega, by go_num, HS.out, HO.out, hbl⟩
            case measure => simp [intOf]; omega
    · obtain rfl : j = 4 := by omega
      obtain ⟨⟨h0, h1, h2, h3⟩, n1, n2, n3, n4, n5, n6⟩ := okNs_four hok
      obtain ⟨a1, a2⟩ := inB_t h0
      obtain ⟨b1, b2⟩ := inB_t h1
      obtain ⟨c1, c2⟩ := inB_t h2
      obtain ⟨d1, d2⟩ := inB_t h3
      have HR := Lib.hid ((inter_four hok).trans (met_end a b c d).symm)
      clear hok h0 h1 h2 h3 hown
      go_wp2
      go_loopw [12, 13] (fun x y wr => ∃ p : Nat, 1 ≤ p ∧ (p : Int) ≤ (b - a) % 8 ∧ y = .int .i64 ((a + p) % 8) ∧ x = .int .i64 (met a c d p : Nat) ∧ Below w.heap.size w wr) (fun _ y _ => ((b - intOf y) % 8).toNat)
      case atStart =>
        refine ⟨1, by omega, by omega, by go_num, ?_, hbl⟩
        have e : met a c d 1 = 0 := by unfold met; rw [if_neg (by omega), if_neg (by omega)]
        rw [e]
        rfl
      case round =>
        clear hbl
        obtain ⟨p, hp1, hp2, rfl, rfl, hbl⟩ := hrel
        obtain ⟨q, hq⟩ : ∃ q, (a + (p : Int)) % 8 = q := ⟨_, rfl⟩
        have hm2 : met a c d p ≤ 2 := by unfold met; split <;> split <;> omega
        by_cases hqb : q = b
        · have hp : ((b - a) % 8).toNat = p := by omega
          rw [hp] at HR
          rw [hq]
          subst hqb
          have e0 : (q != q) = false := by simp
          clear hq hp
          generalize met a c d p = m at *
          go_wp2
          go_ret
          exact ⟨by rw [HR.out, ← nat_one]; rfl, hbl⟩
        · have hq1 : 0 ≤ q ∧ q ≤ 7 := by omega
          obtain ⟨q1, q2⟩ := hq1
          have e0 : (q != b) = true := by simpa using hqb
          have hp3 : (p : Int) + 1 ≤ (b - a) % 8 := by omega
          have HN : Hid ((q + 1) % 8 = (a + ((p + 1 : Nat) : Int)) % 8) := Lib.hid (by omega)
          have HM2 : Hid (((b - (q + 1) % 8) % 8).toNat < ((b - q) % 8).toNat) := Lib.hid (by omega)
          have HP3 := Lib.hid hp3
          have HB := Lib.hid hbl
          by_cases hqc : q = c
          · have HM : Hid (met a c d (p + 1) = met a c d p + 1) := Lib.hid (by unfold met; (repeat' split) <;> omega)
            have e1 : (q == c) = true := by simpa using hqc
            rw [hq]
            clear hq hp2 hp3 hqb hqc n1 n2 n3 n4 n5 n6 hbl
            generalize met a c d p = m at *
            go_wp2
            go_roundw
            case rel => exact ⟨p + 1, by omega, by have := HP3.out; omega, ret_val HN.out, by rw [HM.out]; go_num, HB.out⟩
            case measure => simp only [intOf]; exact HM2.out
          · have e1 : (q == c) = false := by simpa using hqc
            by_cases hqd : q = d
            · have HM : Hid (met a c d (p + 1) = met a c d p + 1) := Lib.hid (by unfold met; (repeat' split) <;> omega)
              have e2 : (q == d) = true := by simpa using hqd
              rw [hq]
              clear hq hp2 hp3 hqb hqc hqd n1 n2 n3 n4 n5 n6 hbl
              generalize met a c d p = m at *
              go_wp2
              go_roundw
              case rel => exact ⟨p + 1, by omega, by have := HP3.out; omega, ret_val HN.out, by rw [HM.out]; go_num, HB.out⟩
              case measure => simp only [intOf]; exact HM2.out
            · have HM : Hid (met a c d (p + 1) = met a c d p) := Lib.hid (by unfold met; (repeat' split) <;> omega)
              have e2 : (q == d) = false := by simpa using hqd
              rw [hq]
              clear hq hp2 hp3 hqb hqc hqd n1 n2 n3 n4 n5 n6 hbl
              generalize met a c d p = m at *
              go_wp2
              go_roundw
              case rel => exact ⟨p + 1, by omega, by have := HP3.out; omega, ret_val HN.out, by rw [HM.out], HB.out⟩
              case measure => simp only [intOf]; exact HM2.out
end Go.Proofs.YtgdficjihkglpadDoor
