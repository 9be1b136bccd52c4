/- Texts of one chain, put together: Bit PathI Inter InterI Conf Grow ConfI Mask CrossI. -/
import Derived.Laws.BitsLemmas
import Derived.BigQuiet
import Derived.Deep.QuietTactic
import Derived.Deep.Quiet
import Derived.Laws.BitsAllLaws
import Derived.StillTailTactics
import Derived.Laws.Rows
import Derived.Deep.MidRow
import Derived.Laws.ResultCell
import Derived.Test.YtlpkafhapmkkfaaGreatDoorBndlA
set_option linter.unusedSimpArgs false
/- Bit operations on numbers that are not negative; a path packed into one number. No program. -/
namespace Go.Proofs.YtlpkafhapmkkfaaGreatDoor
open Go.RowKit

theorem i64_wraps (n : Int) (h0 : 0 ≤ n) (h1 : n < 2 ^ 63) : IntKind.i64.wrap n = n := by
  have e : (2 : Int) ^ 63 = 9223372036854775808 := by decide
  rw [e] at h1
  rw [IntKind.wrap_i64]
  omega
theorem and3 (x : Int) (h0 : 0 ≤ x) (h1 : x < 65536) : bits .and .i64 x 3 = x % 4 := by
  have e : (2 : Int) ^ 63 = 9223372036854775808 := by decide
  have h := bits_mask .i64 63 (by decide) i64_wraps 2 (by decide) x h0 (by rw [e]; omega)
  have e2 : ((2 : Int) ^ 2 - 1) = 3 := by decide
  have e3 : ((2 : Int) ^ 2) = 4 := by decide
  rw [e2, e3] at h
  exact h
theorem or4 (x y : Int) (h0 : 0 ≤ x) (h1 : x < 65536) (hx : x % 4 = 0) (hy : 0 ≤ y) (hy1 : y < 4) : bits .or .i64 x y = x + y := by
  have e : (2 : Int) ^ 63 = 9223372036854775808 := by decide
  have e3 : ((2 : Int) ^ 2) = 4 := by decide
  exact bits_join .i64 63 (by decide) i64_wraps 2 x y h0 (by rw [e3]; exact hx) (by rw [e]; omega) hy (by rw [e3]; exact hy1) (by rw [e]; omega)
/-- a valid path as one number, in bits. -/
def packN (p : Pth) : Int := if isP p then ((p.id * 4 + p.kind) * 4 + p.frm) * 4 + p.to else 0
theorem packN_no {p : Pth} (h : isP p = false) : packN p = 0 := by unfold packN; rw [h]; rfl
theorem packN_yes {p : Pth} (h : isP p = true) : packN p = ((p.id * 4 + p.kind) * 4 + p.frm) * 4 + p.to ∧ 64 ≤ packN p ∧ packN p < 2048 := by
  have hf := isP_facts p h
  have e : packN p = ((p.id * 4 + p.kind) * 4 + p.frm) * 4 + p.to := by unfold packN; rw [h]; rfl
  refine ⟨e, ?_, ?_⟩ <;> rw [e] <;> omega
theorem packN_to {p : Pth} (h : isP p = true) : packN p % 4 = p.to := by have := isP_facts p h; rw [(packN_yes h).1]; omega
theorem packN_frm {p : Pth} (h : isP p = true) : packN p / 4 % 4 = p.frm := by have := isP_facts p h; rw [(packN_yes h).1]; omega
theorem packN_kind {p : Pth} (h : isP p = true) : packN p / 16 % 4 = p.kind := by have := isP_facts p h; rw [(packN_yes h).1]; omega
theorem packN_id {p : Pth} (h : isP p = true) : packN p / 64 = p.id := by have := isP_facts p h; rw [(packN_yes h).1]; omega
end Go.Proofs.YtlpkafhapmkkfaaGreatDoor

/- Chapter 4's functions of the program: valid paths, places, packed paths. -/
namespace Go.Proofs.YtlpkafhapmkkfaaGreatDoor
open Go.RowKit
set_option linter.unusedVariables false

theorem impl_isArm (a : Int) (w : World) : Calls Tryz.prog 151 #[.int .i64 a] w fun e w' => e = .returned (.bool (inB a 0 3)) ∧ w = w' := by
  go_enter Tryz.func151, Tryz.ntmps151
  go_wp2_with fail
  refine (impl_InRange _ _ _ _).mono ?_
  rintro e w1 ⟨rfl, rfl⟩
  go_wp2
  go_ret
  exact ⟨rfl, rfl⟩
theorem impl_IsPath (p : Pth) (w : World) : Calls Tryz.prog 129 #[p.val] w fun e w' => e = .returned (.bool (isP p)) ∧ Below w.heap.size w w' := by
  obtain ⟨a, b, c, d⟩ := p
  simp only [Pth.val]
  have HI : Hid (isP ⟨a, b, c, d⟩ = (inB a 1 20 && inB b 1 3 && inB c 0 3 && inB d 0 3 && (decide (c = d) == decide (b = 2)))) := Lib.hid rfl
  go_enter Tryz.func129, Tryz.ntmps129
  go_wp2_with fail
  refine (impl_InRange _ _ _ _).mono ?_
  rintro e w1 ⟨rfl, rfl⟩
  cases h0 : inB a 1 20
  · rw [h0] at HI
    go_wp2
    go_ret
    exact ⟨by rw [HI.out]; simp, (Below.refl _ _).alloc (Nat.le_refl _) _⟩
  · rw [h0] at HI
    go_wp2_with fail
    refine (impl_InRange _ _ _ _).mono ?_
    rintro e w1 ⟨rfl, rfl⟩
    cases h1 : inB b 1 3
    · rw [h1] at HI
      go_wp2
      go_ret
      exact ⟨by rw [HI.out]; simp, (Below.refl _ _).alloc (Nat.le_refl _) _⟩
    · rw [h1] at HI
      go_wp2_with fail
      refine (impl_isArm _ _).mono ?_
      rintro e w1 ⟨rfl, rfl⟩
      cases h2 : inB c 0 3
      · rw [h2] at HI
        go_wp2
        go_ret
        exact ⟨by rw [HI.out]; simp, (Below.refl _ _).alloc (Nat.le_refl _) _⟩
      · rw [h2] at HI
        go_wp2_with fail
        refine (impl_isArm _ _).mono ?_
        rintro e w1 ⟨rfl, rfl⟩
        cases h3 : inB d 0 3
        · rw [h3] at HI
          go_wp2
          go_ret
          exact ⟨by rw [HI.out]; first | (simp; done) | (simp; rfl), (Below.refl _ _).alloc (Nat.le_refl _) _⟩
        · rw [h3] at HI
          go_wp2
          go_ret
          exact ⟨by rw [HI.out]; first | (simp; done) | (simp; rfl), (Below.refl _ _).alloc (Nat.le_refl _) _⟩
theorem impl_InPlace (a : Int) (w : World) : Calls Tryz.prog 156 #[.int .i64 a] w fun e w' => e = .returned (.int .i64 (inPl a)) ∧ w = w' := by
  have HM : Hid (inPl a = if inB a 0 3 then _ else -1) := Lib.hid rfl
  cases h : inB a 0 3
  · rw [h] at HM
    go_enter Tryz.func156, Tryz.ntmps156
    go_wp2_with fail
    refine (impl_isArm _ _).mono ?_
    rintro e w1 ⟨rfl, rfl⟩
    rw [h]
    go_wp2
    go_ret
    exact ⟨by rw [HM.out]; rfl, rfl⟩
  · rw [h] at HM
    obtain ⟨h1, h2⟩ := inB_t h
    go_enter Tryz.func156, Tryz.ntmps156
    go_wp2_with fail
    refine (impl_isArm _ _).mono ?_
    rintro e w1 ⟨rfl, rfl⟩
    rw [h]
    go_wp2
    go_ret
    exact ⟨by rw [HM.out]; rfl, rfl⟩
theorem impl_OutPlace (a : Int) (w : World) : Calls Tryz.prog 157 #[.int .i64 a] w fun e w' => e = .returned (.int .i64 (outPl a)) ∧ w = w' := by
  have HM : Hid (outPl a = if inB a 0 3 then _ else -1) := Lib.hid rfl
  cases h : inB a 0 3
  · rw [h] at HM
    go_enter Tryz.func157, Tryz.ntmps157
    go_wp2_with fail
    refine (impl_isArm _ _).mono ?_
    rintro e w1 ⟨rfl, rfl⟩
    rw [h]
    go_wp2
    go_ret
    exact ⟨by rw [HM.out]; rfl, rfl⟩
  · rw [h] at HM
    obtain ⟨h1, h2⟩ := inB_t h
    go_enter Tryz.func157, Tryz.ntmps157
    go_wp2_with fail
    refine (impl_isArm _ _).mono ?_
    rintro e w1 ⟨rfl, rfl⟩
    rw [h]
    go_wp2
    go_ret
    exact ⟨by rw [HM.out]; rfl, rfl⟩
theorem impl_pack (p : Pth) (w : World) : Calls Tryz.prog 142 #[p.val] w fun e w' => e = .returned (.int .i64 (packN p)) ∧ Below w.heap.size w w' := by
  have hno := fun h => Lib.hid (packN_no (p := p) h)
  have hyes := fun h => (Lib.hid (packN_yes (p := p) h).1)
  have hr := isP_facts p
  obtain ⟨a, b, c, d⟩ := p
  have hv : (Pth.mk a b c d).val = .agg #[.int .i64 a, .int .i64 b, .int .i64 c, .int .i64 d] := rfl
  rw [hv]
  go_enter Tryz.func142, Tryz.ntmps142
  go_wp2_with fail
  refine (impl_IsPath ⟨a, b, c, d⟩ _).mono ?_
  rintro e w1 ⟨rfl, hb⟩
  have hb1 := ((Below.refl _ _).alloc (Nat.le_refl _) _).trans (hb.mono (by simp))
  have c0 : w1.cell? ⟨w.heap.size, 0, none⟩ = some (.int .i64 a) := boxed hb 0
  have c1 : w1.cell? ⟨w.heap.size, 1, none⟩ = some (.int .i64 b) := boxed hb 1
  have c2 : w1.cell? ⟨w.heap.size, 2, none⟩ = some (.int .i64 c) := boxed hb 2
  have c3 : w1.cell? ⟨w.heap.size, 3, none⟩ = some (.int .i64 d) := boxed hb 3
  clear hb
  cases hp : isP ⟨a, b, c, d⟩
  · have HN := hno hp
    clear hno hyes hr
    go_wp2
    go_ret
    exact ⟨by rw [HN.out]; rfl, hb1⟩
  · have HY := hyes hp
    obtain ⟨⟨g1, g2⟩, ⟨g3, g4⟩, ⟨g5, g6⟩, ⟨g7, g8⟩, _⟩ := hr hp
    have o1 : bits .or .i64 (a * 4) b = a * 4 + b := or4 _ _ (by omega) (by omega) (by omega) (by omega) (by omega)
    have o2 : bits .or .i64 ((a * 4 + b) * 4) c = (a * 4 + b) * 4 + c := or4 _ _ (by omega) (by omega) (by omega) (by omega) (by omega)
    have o3 : bits .or .i64 (((a * 4 + b) * 4 + c) * 4) d = ((a * 4 + b) * 4 + c) * 4 + d := or4 _ _ (by omega) (by omega) (by omega) (by omega) (by omega)
    clear hno hyes hr
    go_wp2
    go_ret
    exact ⟨by rw [HY.out]; rfl, hb1⟩
theorem impl_kind (v : Int) (w : World) (h0 : 0 ≤ v) (h1 : v < 65536) : Calls Tryz.prog 143 #[.int .i64 v] w fun e w' => e = .returned (.int .i64 (v / 16 % 4)) ∧ w = w' := by
  have o1 : bits .and .i64 (v / 16) 3 = v / 16 % 4 := and3 _ (by omega) (by omega)
  go_enter Tryz.func143, Tryz.ntmps143
  go_wp2
  go_ret
  exact ⟨rfl, rfl⟩
theorem impl_from (v : Int) (w : World) (h0 : 0 ≤ v) (h1 : v < 65536) : Calls Tryz.prog 145 #[.int .i64 v] w fun e w' => e = .returned (.int .i64 (v / 4 % 4)) ∧ w = w' := by
  have o1 : bits .and .i64 (v / 4) 3 = v / 4 % 4 := and3 _ (by omega) (by omega)
  go_enter Tryz.func145, Tryz.ntmps145
  go_wp2
  go_ret
  exact ⟨rfl, rfl⟩
theorem impl_to (v : Int) (w : World) (h0 : 0 ≤ v) (h1 : v < 65536) : Calls Tryz.prog 154 #[.int .i64 v] w fun e w' => e = .returned (.int .i64 (v % 4)) ∧ w = w' := by
  have o1 : bits .and .i64 v 3 = v % 4 := and3 _ (by omega) (by omega)
  go_enter Tryz.func154, Tryz.ntmps154
  go_wp2
  go_ret
  exact ⟨rfl, rfl⟩
end Go.Proofs.YtlpkafhapmkkfaaGreatDoor

/- Interleave: the model. -/
namespace Go.Proofs.YtlpkafhapmkkfaaGreatDoor
open Go.RowKit
set_option linter.unusedVariables false

theorem nat_one (m : Nat) : ((m : Int) == 1) = decide (m = 1) := by
  by_cases h : m = 1
  · subst h; rfl
  · rw [decide_eq_false h]
    have h2 : ¬ ((m : Int) = 1) := by omega
    simpa using h2
theorem ret_val {x y : Int} (h : x = y) : Value.int .i64 x = Value.int .i64 y := by rw [h]
theorem spec_Interleave (a b c d : Int) (w : World) : Calls Tryz.prog 139 #[.int .i64 a, .int .i64 b, .int .i64 c, .int .i64 d] w fun e w' => e = .returned (.bool (inter a b c d)) ∧ Below w.heap.size w w' := by
  have own0 : Own .i64 3 (w.alloc (.cells #[.int .i64 a, .int .i64 b, .int .i64 c, .int .i64 d] 3)) w.heap.size (.slice (some ⟨w.heap.size, 0, none⟩) 4 4) [a, b, c, d] := own_lit w [a, b, c, d] 4 (Nat.le_refl _) (by decide) rfl
  have hb0 : Below w.heap.size w (w.alloc (.cells #[.int .i64 a, .int .i64 b, .int .i64 c, .int .i64 d] 3)) := (Below.refl _ _).alloc (Nat.le_refl _) _
  go_enter Tryz.func139, Tryz.ntmps139
  go_wp2
  go_loopw [10] (fun i wr => ∃ j : Nat, j ≤ 4 ∧ i = .int .i64 j ∧ okNs [a, b, c, d] j ∧ Own .i64 3 wr w.heap.size (.slice (some ⟨w.heap.size, 0, none⟩) 4 4) [a, b, c, d] ∧ Below w.heap.size w wr) (fun i _ => 4 - (intOf i).toNat)
  case atStart => exact ⟨0, by omega, rfl, fun j hj => absurd hj (by omega), own0, hb0⟩
  case round =>
    clear own0 hb0
    obtain ⟨j, hj, rfl, hok, hown, hbl⟩ := hrel
    by_cases hlt : j < 4
    · have HOK := Lib.hid hok
      clear hok
      go_wp2
      go_loopw [11] (fun i wr => ∃ k : Nat, k ≤ j ∧ i = .int .i64 k ∧ (∀ k', k' < k → [a, b, c, d].getD j 0 ≠ [a, b, c, d].getD k' 0) ∧ Own .i64 3 wr w.heap.size (.slice (some ⟨w.heap.size, 0, none⟩) 4 4) [a, b, c, d] ∧ Below w.heap.size w wr) (fun i _ => j - (intOf i).toNat)
      case atStart => exact ⟨0, by omega, rfl, fun j hj => absurd hj (by omega), hown, hbl⟩
      case round =>
        clear hown hbl
        obtain ⟨k, hk, rfl, hdi, hown, hbl⟩ := hrel
        by_cases hlt2 : k < j
        · have c1 := hown.cell j (by simpa using hlt)
          have c2 := hown.cell k (by simp; omega)
          have i1 : (0 : Int) ≤ (j : Int) := by omega
          have i2 : (j : Int) < (4 : Int) := by omega
          have i3 : (0 : Int) ≤ (k : Int) := by omega
          have i4 : (k : Int) < (4 : Int) := by omega
          by_cases he : [a, b, c, d].getD j 0 = [a, b, c, d].getD k 0
          · have HR := Lib.hid (inter_eq hlt2 hlt he)
            rw [← he] at c2
            clear hdi hown
            generalize [a, b, c, d].getD j 0 = x at *
            go_wp2
            go_quiet (fail)
            go_wp2
            go_ret
            exact ⟨by rw [HR.out]; rfl, belowN hbl _⟩
          · have HD : Hid (∀ k', k' < k + 1 → [a, b, c, d].getD j 0 ≠ [a, b, c, d].getD k' 0) := Lib.hid (fun k' h' => by
              by_cases e : k' = k
              · subst e; exact he
              · exact hdi k' (by omega))
            have HO := Lib.hid hown
            have e1 : ([a, b, c, d].getD j 0 == [a, b, c, d].getD k 0) = false := by simpa using he
            clear hdi hown he
            generalize [a, b, c, d].getD j 0 = x at *
            generalize [a, b, c, d].getD k 0 = y at *
            go_wp2
            go_quiet (fail)
            go_wp2
            go_roundw
            case rel => exact ⟨k + 1, by omega, by go_num, HD.out, HO.out, belowN hbl _⟩
            case measure => simp [intOf]; omega
        · obtain rfl : k = j := by omega
          have c1 := hown.cell k (by simpa using hlt)
          have i1 : (0 : Int) ≤ (k : Int) := by omega
          have i2 : (k : Int) < (4 : Int) := by omega
          cases hin : inB ([a, b, c, d].getD k 0) 0 7
          · have HR := Lib.hid (inter_out hlt hin)
            have HI := Lib.hid hin
            clear hdi hown hin
            generalize [a, b, c, d].getD k 0 = x at *
            go_wp2_with fail
            refine (spec_l1In _ _ _ _).mono ?_
            rintro e w1 ⟨rfl, rfl⟩
            rw [HI.out]
            go_wp2
            go_ret
            exact ⟨by rw [HR.out]; rfl, hbl⟩
          · have HS := Lib.hid (okNs_step HOK.out hin hdi)
            have HO := Lib.hid hown
            have HI := Lib.hid hin
            clear hdi hown hin
            generalize [a, b, c, d].getD k 0 = x at *
            go_wp2_with fail
            refine (spec_l1In _ _ _ _).mono ?_
            rintro e w1 ⟨rfl, rfl⟩
            rw [HI.out]
            go_wp2
            go_roundw
            case rel => exact ⟨k + 1, by omega, by go_num, HS.out, HO.out, hbl⟩
            case measure => simp [intOf]; omega
    · obtain rfl : j = 4 := by omega
      obtain ⟨⟨h0, h1, h2, h3⟩, n1, n2, n3, n4, n5, n6⟩ := okNs_four hok
      obtain ⟨a1, a2⟩ := inB_t h0
      obtain ⟨b1, b2⟩ := inB_t h1
      obtain ⟨c1, c2⟩ := inB_t h2
      obtain ⟨d1, d2⟩ := inB_t h3
      have HR := Lib.hid ((inter_four hok).trans (met_end a b c d).symm)
      clear hok h0 h1 h2 h3 hown
      go_wp2
      go_loopw [12, 13] (fun x y wr => ∃ p : Nat, 1 ≤ p ∧ (p : Int) ≤ (b - a) % 8 ∧ y = .int .i64 ((a + p) % 8) ∧ x = .int .i64 (met a c d p : Nat) ∧ Below w.heap.size w wr) (fun _ y _ => ((b - intOf y) % 8).toNat)
      case atStart =>
        refine ⟨1, by omega, by omega, by go_num, ?_, hbl⟩
        have e : met a c d 1 = 0 := by unfold met; rw [if_neg (by omega), if_neg (by omega)]
        rw [e]
        rfl
      case round =>
        clear hbl
        obtain ⟨p, hp1, hp2, rfl, rfl, hbl⟩ := hrel
        obtain ⟨q, hq⟩ : ∃ q, (a + (p : Int)) % 8 = q := ⟨_, rfl⟩
        have hm2 : met a c d p ≤ 2 := by unfold met; split <;> split <;> omega
        by_cases hqb : q = b
        · have hp : ((b - a) % 8).toNat = p := by omega
          rw [hp] at HR
          rw [hq]
          subst hqb
          have e0 : (q != q) = false := by simp
          clear hq hp
          generalize met a c d p = m at *
          go_wp2
          go_ret
          exact ⟨by rw [HR.out, ← nat_one]; rfl, hbl⟩
        · have hq1 : 0 ≤ q ∧ q ≤ 7 := by omega
          obtain ⟨q1, q2⟩ := hq1
          have e0 : (q != b) = true := by simpa using hqb
          have hp3 : (p : Int) + 1 ≤ (b - a) % 8 := by omega
          have HN : Hid ((q + 1) % 8 = (a + ((p + 1 : Nat) : Int)) % 8) := Lib.hid (by omega)
          have HM2 : Hid (((b - (q + 1) % 8) % 8).toNat < ((b - q) % 8).toNat) := Lib.hid (by omega)
          have HP3 := Lib.hid hp3
          have HB := Lib.hid hbl
          by_cases hqc : q = c
          · have HM : Hid (met a c d (p + 1) = met a c d p + 1) := Lib.hid (by unfold met; (repeat' split) <;> omega)
            have e1 : (q == c) = true := by simpa using hqc
            rw [hq]
            clear hq hp2 hp3 hqb hqc n1 n2 n3 n4 n5 n6 hbl
            generalize met a c d p = m at *
            go_wp2
            go_roundw
            case rel => exact ⟨p + 1, by omega, by have := HP3.out; omega, ret_val HN.out, by rw [HM.out]; go_num, HB.out⟩
            case measure => simp only [intOf]; exact HM2.out
          · have e1 : (q == c) = false := by simpa using hqc
            by_cases hqd : q = d
            · have HM : Hid (met a c d (p + 1) = met a c d p + 1) := Lib.hid (by unfold met; (repeat' split) <;> omega)
              have e2 : (q == d) = true := by simpa using hqd
              rw [hq]
              clear hq hp2 hp3 hqb hqc hqd n1 n2 n3 n4 n5 n6 hbl
              generalize met a c d p = m at *
              go_wp2
              go_roundw
              case rel => exact ⟨p + 1, by omega, by have := HP3.out; omega, ret_val HN.out, by rw [HM.out]; go_num, HB.out⟩
              case measure => simp only [intOf]; exact HM2.out
            · have HM : Hid (met a c d (p + 1) = met a c d p) := Lib.hid (by unfold met; (repeat' split) <;> omega)
              have e2 : (q == d) = false := by simpa using hqd
              rw [hq]
              clear hq hp2 hp3 hqb hqc hqd n1 n2 n3 n4 n5 n6 hbl
              generalize met a c d p = m at *
              go_wp2
              go_roundw
              case rel => exact ⟨p + 1, by omega, by have := HP3.out; omega, ret_val HN.out, by rw [HM.out], HB.out⟩
              case measure => simp only [intOf]; exact HM2.out
end Go.Proofs.YtlpkafhapmkkfaaGreatDoor

/- Interleave: the program. -/
namespace Go.Proofs.YtlpkafhapmkkfaaGreatDoor
open Go.RowKit
set_option linter.unusedVariables false

/-- four different places. -/
def diff4 (a b c d : Int) : Bool := decide (a ≠ b ∧ a ≠ c ∧ a ≠ d ∧ b ≠ c ∧ b ≠ d ∧ c ≠ d) && inB a 0 7 && inB b 0 7 && inB c 0 7 && inB d 0 7
theorem inter_diff (a b c d : Int) : inter a b c d = (diff4 a b c d && (betw a c b != betw a d b)) := rfl
theorem diff4_four {a b c d : Int} (h : okNs [a, b, c, d] 4) : diff4 a b c d = true := by
  obtain ⟨⟨h0, h1, h2, h3⟩, h4⟩ := okNs_four h
  unfold diff4
  rw [h0, h1, h2, h3, decide_eq_true h4]
  rfl
theorem diff4_eq {a b c d : Int} {j k : Nat} (hk : k < j) (hj : j < 4) (h : [a, b, c, d].getD j 0 = [a, b, c, d].getD k 0) : diff4 a b c d = false := by
  have h4 : ¬ (a ≠ b ∧ a ≠ c ∧ a ≠ d ∧ b ≠ c ∧ b ≠ d ∧ c ≠ d) := by
    rintro ⟨e1, e2, e3, e4, e5, e6⟩
    match j, k, hk, hj with
    | 1, 0, _, _ => exact e1 (by simpa using h.symm)
    | 2, 0, _, _ => exact e2 (by simpa using h.symm)
    | 2, 1, _, _ => exact e4 (by simpa using h.symm)
    | 3, 0, _, _ => exact e3 (by simpa using h.symm)
    | 3, 1, _, _ => exact e5 (by simpa using h.symm)
    | 3, 2, _, _ => exact e6 (by simpa using h.symm)
  unfold diff4
  rw [decide_eq_false h4]
  simp
theorem diff4_out {a b c d : Int} {j : Nat} (hj : j < 4) (h : inB ([a, b, c, d].getD j 0) 0 7 = false) : diff4 a b c d = false := by
  unfold diff4
  match j, hj with
  | 0, _ => simp at h; simp [h]
  | 1, _ => simp at h; simp [h]
  | 2, _ => simp at h; simp [h]
  | 3, _ => simp at h; simp [h]
/-- which places the first k of these numbers have taken. -/
def takenL (l : List Int) (k : Nat) : List Value := (List.range 8).map fun (j : Nat) => Value.bool (decide ((j : Int) ∈ l.take k))
theorem takenL_length (l : List Int) (k : Nat) : (takenL l k).length = 8 := by simp [takenL]
theorem takenL_at (l : List Int) (k j : Nat) (h : j < 8) : (takenL l k)[j]? = some (Value.bool (decide ((j : Int) ∈ l.take k))) := by
  simp [takenL, h]
theorem takenL_set {l : List Int} {k : Nat} (h : k < l.length) {j : Nat} (hj : l.getD k 0 = j) : (takenL l k).set j (.bool true) = takenL l (k + 1) := by
  have e : l.take (k + 1) = l.take k ++ [(j : Int)] := by
    rw [List.take_add_one, List.getElem?_eq_getElem h]
    rw [List.getD_eq_getElem?_getD, List.getElem?_eq_getElem h] at hj
    simp at hj
    simp [hj]
  apply List.ext_getElem?
  intro i
  by_cases hi : i < 8
  · rw [takenL_at _ _ _ hi, e, List.getElem?_set]
    by_cases hij : j = i
    · subst hij
      rw [if_pos rfl, if_pos (by rw [takenL_length]; exact hi)]
      simp
    · rw [if_neg hij, takenL_at _ _ _ hi]
      have : ¬ ((i : Int) = (j : Int)) := by omega
      simp [this]
  · rw [List.getElem?_eq_none (by rw [List.length_set, takenL_length]; omega), List.getElem?_eq_none (by rw [takenL_length]; omega)]
theorem take_mem {l : List Int} {k : Nat} {x : Int} (h : x ∈ l.take k) : ∃ j, j < k ∧ l.getD j 0 = x := by
  obtain ⟨j, hj, e⟩ := List.getElem_of_mem h
  rw [List.length_take] at hj
  refine ⟨j, by omega, ?_⟩
  rw [List.getElem_take] at e
  rw [List.getD_eq_getElem?_getD, List.getElem?_eq_getElem (by omega)]
  simpa using e
theorem not_take {l : List Int} {k : Nat} (hk : k ≤ l.length) {x : Int} (h : ¬ x ∈ l.take k) : ∀ j, j < k → x ≠ l.getD j 0 := by
  intro j hj e
  apply h
  rw [List.getD_eq_getElem?_getD, List.getElem?_eq_getElem (by omega)] at e
  simp at e
  rw [e]
  exact List.mem_iff_getElem.2 ⟨j, by rw [List.length_take]; omega, by rw [List.getElem_take]⟩
theorem impl_areDifferentPlaces (b1 : Nat) (a b c d : Int) (w : World) (h : IntsAt .i64 w w.heap.size (some ⟨b1, 0, none⟩) 4 [a, b, c, d]) :
    Calls Tryz.prog 163 #[.slice (some ⟨b1, 0, none⟩) 4 4] w fun e w' => e = .returned (.bool (diff4 a b c d)) ∧ Below w.heap.size w w' := by
  have own0 : (w.alloc (.cells #[.bool false, .bool false, .bool false, .bool false, .bool false, .bool false, .bool false, .bool false] 186)).ownsRow w.heap.size 186 1 (.slice (some ⟨w.heap.size, 0, none⟩) 8 8) 8 (takenL [a, b, c, d] 0) :=
    World.ownsRow_lit (base := w.heap.size) (e := 186) (size := 1) w #[.bool false, .bool false, .bool false, .bool false, .bool false, .bool false, .bool false, .bool false] 8 (Nat.le_refl _) (by decide) rfl
  have hb0 : Below w.heap.size w (w.alloc (.cells #[.bool false, .bool false, .bool false, .bool false, .bool false, .bool false, .bool false, .bool false] 186)) := (Below.refl _ _).alloc (Nat.le_refl _) _
  obtain ⟨ad, e, hab, hcell⟩ := h.2 (by omega)
  injection e with e
  subst e
  simp only at hab
  clear h
  go_enter Tryz.func163, Tryz.ntmps163
  go_wp2
  go_loopw [8] (fun i wr => ∃ k : Nat, k ≤ 4 ∧ i = .int .i64 k ∧ okNs [a, b, c, d] k ∧ wr.ownsRow w.heap.size 186 1 (.slice (some ⟨w.heap.size, 0, none⟩) 8 8) 8 (takenL [a, b, c, d] k) ∧ Below w.heap.size w wr) (fun i _ => 4 - (intOf i).toNat)
  case atStart => exact ⟨0, by omega, rfl, fun j hj => absurd hj (by omega), own0, hb0⟩
  case round =>
    clear own0 hb0
    obtain ⟨k, hk, rfl, hok, hown, hbl⟩ := hrel
    by_cases hlt : k < 4
    · have hcell' := (hbl.cell (by rw [add_block]; exact hab)).trans (hcell k hlt)
      rw [add_head] at hcell'
      have HK := Lib.hid hok
      have HB := Lib.hid hbl
      cases hin : inB ([a, b, c, d].getD k 0) 0 7
      · have HR := Lib.hid (diff4_out hlt hin)
        have HI := Lib.hid hin
        clear hcell hok hown hin hbl
        generalize [a, b, c, d].getD k 0 = x at *
        go_wp2_with fail
        refine (impl_InRange _ _ _ _).mono ?_
        rintro e w1 ⟨rfl, rfl⟩
        rw [HI.out]
        go_wp2
        go_ret
        exact ⟨by rw [HR.out]; rfl, HB.out⟩
      · obtain ⟨x1, x2⟩ := inB_t hin
        obtain ⟨j, hj⟩ : ∃ j : Nat, [a, b, c, d].getD k 0 = (j : Int) := ⟨([a, b, c, d].getD k 0).toNat, by omega⟩
        have hj8 : j < 8 := by omega
        have hc := World.ownsRow.cellAt hown j (by omega)
        rw [takenL_at _ _ _ hj8] at hc
        have hf := World.ownsRow.frozenAt hown j
        have hst := (World.ownsRow.stored hown j (.bool true)).1
        rw [takenL_set (by simpa using hlt) hj] at hst
        have HI := Lib.hid hin
        by_cases hm : (j : Int) ∈ [a, b, c, d].take k
        · obtain ⟨i, hi, e⟩ := take_mem hm
          have HR := Lib.hid (diff4_eq hi hlt (hj.trans e.symm))
          rw [decide_eq_true hm] at hc
          clear hcell hok hown hin hbl hst hm e
          rw [hj] at hcell' HI
          clear hj x1 x2
          go_wp2_with fail
          refine (impl_InRange _ _ _ _).mono ?_
          rintro e w1 ⟨rfl, rfl⟩
          rw [HI.out]
          go_wp2
          go_ret
          exact ⟨by rw [HR.out]; rfl, HB.out⟩
        · have HN := Lib.hid (okNs_step hok hin (fun i hi e => not_take (l := [a, b, c, d]) (by simp; omega) hm i hi (hj.symm.trans e)))
          have HS := Lib.hid hst
          rw [decide_eq_false hm] at hc
          clear hcell hok hown hin hbl hst hm
          rw [hj] at hcell' HI
          clear hj x1 x2
          go_wp2_with fail
          refine (impl_InRange _ _ _ _).mono ?_
          rintro e w1 ⟨rfl, rfl⟩
          rw [HI.out]
          go_wp2
          go_roundw
          case rel => exact ⟨k + 1, by omega, by go_num, HN.out, HS.out, HB.out.setCell (Nat.le_refl _) _⟩
          case measure => simp [intOf]; omega
    · obtain rfl : k = 4 := by omega
      have HR := Lib.hid (diff4_four hok)
      clear hok hown hcell
      go_wp2
      go_ret
      exact ⟨by rw [HR.out]; rfl, hbl⟩
theorem impl_isMet (a b c : Int) (w : World) (ha : 0 ≤ a ∧ a ≤ 7) (hb : 0 ≤ b ∧ b ≤ 7) (hc : 0 ≤ c ∧ c ≤ 7) : Calls Tryz.prog 164 #[.int .i64 a, .int .i64 b, .int .i64 c] w fun e w' => e = .returned (.bool (betw a c b)) ∧ w = w' := by
  obtain ⟨a1, a2⟩ := ha
  obtain ⟨b1, b2⟩ := hb
  obtain ⟨c1, c2⟩ := hc
  have HB : Hid (betw a c b = decide ((c - a) % 8 < (b - a) % 8)) := Lib.hid rfl
  have e1 : Hid (modI (c - a) 8 = (c - a) % 8) := Lib.hid (by unfold modI; rfl)
  have e2 : Hid (modI (b - a) 8 = (b - a) % 8) := Lib.hid (by unfold modI; rfl)
  go_enter Tryz.func164, Tryz.ntmps164
  go_wp2_with fail
  refine (impl_Mod _ _ _).mono ?_
  rintro e w1 ⟨rfl, rfl⟩
  rw [e1.out]
  go_wp2_with fail
  refine (impl_Mod _ _ _).mono ?_
  rintro e w1 ⟨rfl, rfl⟩
  rw [e2.out]
  go_wp2
  go_ret
  exact ⟨by rw [HB.out]; rfl, rfl⟩
theorem impl_Interleave (a b c d : Int) (w : World) : Calls Tryz.prog 155 #[.int .i64 a, .int .i64 b, .int .i64 c, .int .i64 d] w fun e w' => e = .returned (.bool (inter a b c d)) ∧ Below w.heap.size w w' := by
  have own0 : Own .i64 3 (w.alloc (.cells #[.int .i64 a, .int .i64 b, .int .i64 c, .int .i64 d] 3)) w.heap.size (.slice (some ⟨w.heap.size, 0, none⟩) 4 4) [a, b, c, d] := own_lit w [a, b, c, d] 4 (Nat.le_refl _) (by decide) rfl
  have hb0 : Below w.heap.size w (w.alloc (.cells #[.int .i64 a, .int .i64 b, .int .i64 c, .int .i64 d] 3)) := (Below.refl _ _).alloc (Nat.le_refl _) _
  have HI := Lib.hid (inter_diff a b c d)
  have H0 := Lib.hid hb0
  have hd : diff4 a b c d = true → (0 ≤ a ∧ a ≤ 7) ∧ (0 ≤ b ∧ b ≤ 7) ∧ (0 ≤ c ∧ c ≤ 7) ∧ (0 ≤ d ∧ d ≤ 7) := by
    intro h
    simp only [diff4, inB, Bool.and_eq_true, decide_eq_true_eq] at h
    obtain ⟨⟨⟨⟨_, h1⟩, h2⟩, h3⟩, h4⟩ := h
    exact ⟨h1, h2, h3, h4⟩
  have HO := own0.ints
  clear own0 hb0
  go_enter Tryz.func155, Tryz.ntmps155
  go_wp2_with fail
  refine (impl_areDifferentPlaces _ a b c d _ HO).mono ?_
  rintro e w1 ⟨rfl, hb⟩
  have HB := Lib.hid (H0.out.trans (hb.mono H0.out.size))
  clear hb HO
  cases hdd : diff4 a b c d
  · rw [hdd] at HI
    clear hd
    go_wp2
    go_ret
    exact ⟨by rw [HI.out]; rfl, HB.out⟩
  · rw [hdd] at HI
    obtain ⟨ha, hb, hc, hd⟩ := hd hdd
    go_wp2_with fail
    refine (impl_isMet _ _ _ _ ha hb hc).mono ?_
    rintro e w1 ⟨rfl, rfl⟩
    go_wp2_with fail
    refine (impl_isMet _ _ _ _ ha hb hd).mono ?_
    rintro e w1 ⟨rfl, rfl⟩
    go_wp2
    go_ret
    exact ⟨by rw [HI.out]; rfl, HB.out⟩
end Go.Proofs.YtlpkafhapmkkfaaGreatDoor

/- Chapter 5's model. -/
namespace Go.Proofs.YtlpkafhapmkkfaaGreatDoor
open Go.RowKit
set_option linter.unusedVariables false

/-- a path that lies at a block's head. -/
theorem pth_head {w : World} {g : Nat} {p : Pth} (h : PthAt w ⟨g, 0, none⟩ p) : w.cell? ⟨g, 0, none⟩ = some (.int .i64 p.id) ∧ w.cell? ⟨g, 1, none⟩ = some (.int .i64 p.kind) ∧ w.cell? ⟨g, 2, none⟩ = some (.int .i64 p.frm) ∧ w.cell? ⟨g, 3, none⟩ = some (.int .i64 p.to) := ⟨h.c0, h.c1, h.c2, h.c3⟩
theorem heap_size_alloc' (w : World) (o : Obj) : (w.alloc o).heap.size = w.heap.size + 1 := by simp
theorem pth_of_block {w : World} {g : Nat} {p : Pth} {T : TypeId} {fr : Nat × Nat} (h : w.heap[g]? = some (.cells #[.int .i64 p.id, .int .i64 p.kind, .int .i64 p.frm, .int .i64 p.to] T fr)) : PthAt w ⟨g, 0, none⟩ p :=
  ⟨by rw [cell_of_row w g 0 _ T fr h]; rfl, by rw [cell_of_row w g _ _ T fr h]; rfl, by rw [cell_of_row w g _ _ T fr h]; rfl, by rw [cell_of_row w g _ _ T fr h]; rfl⟩
theorem boxed_one {w w1 : World} {p : Pth} {T : TypeId} (hb : Below (w.alloc (.cells #[.int .i64 p.id, .int .i64 p.kind, .int .i64 p.frm, .int .i64 p.to] T)).heap.size (w.alloc (.cells #[.int .i64 p.id, .int .i64 p.kind, .int .i64 p.frm, .int .i64 p.to] T)) w1) :
    PthAt w1 ⟨w.heap.size, 0, none⟩ p ∧ w.heap.size + 1 ≤ w1.heap.size ∧ Below w.heap.size w w1 := by
  have hs := hb.size
  rw [heap_size_alloc'] at hs
  exact ⟨pth_of_block ((hb.block _ (by rw [heap_size_alloc']; omega)).trans (heap_alloc_new w _)), hs, ((Below.refl _ _).alloc (Nat.le_refl _) _).trans (hb.mono (by rw [heap_size_alloc']; omega))⟩
theorem boxed_two {w w1 : World} {p q : Pth} {T T2 : TypeId} (hb : Below ((w.alloc (.cells #[.int .i64 p.id, .int .i64 p.kind, .int .i64 p.frm, .int .i64 p.to] T)).alloc (.cells #[.int .i64 q.id, .int .i64 q.kind, .int .i64 q.frm, .int .i64 q.to] T2)).heap.size ((w.alloc (.cells #[.int .i64 p.id, .int .i64 p.kind, .int .i64 p.frm, .int .i64 p.to] T)).alloc (.cells #[.int .i64 q.id, .int .i64 q.kind, .int .i64 q.frm, .int .i64 q.to] T2)) w1) :
    PthAt w1 ⟨w.heap.size, 0, none⟩ p ∧ PthAt w1 ⟨w.heap.size + 1, 0, none⟩ q ∧ w.heap.size + 2 ≤ w1.heap.size ∧ Below w.heap.size w w1 := by
  have hs := hb.size
  rw [heap_size_alloc', heap_size_alloc'] at hs
  obtain ⟨p0, p1, p2, p3⟩ := p
  obtain ⟨q0, q1, q2, q3⟩ := q
  refine ⟨pth_of_block (T := T) (fr := (0, 0)) ((hb.block _ (by rw [heap_size_alloc', heap_size_alloc']; omega)).trans ((Below.heap_alloc _ _ _ (by rw [heap_size_alloc']; omega)).trans (heap_alloc_new w _))), pth_of_block (T := T2) (fr := (0, 0)) ((hb.block _ (by rw [heap_size_alloc', heap_size_alloc']; omega)).trans ?_), hs, (((Below.refl _ _).alloc (Nat.le_refl _) _).alloc (by rw [heap_size_alloc']; omega) _).trans (hb.mono (by rw [heap_size_alloc', heap_size_alloc']; omega))⟩
  have h := heap_alloc_new (w.alloc (.cells #[.int .i64 p0, .int .i64 p1, .int .i64 p2, .int .i64 p3] T)) (.cells #[.int .i64 q0, .int .i64 q1, .int .i64 q2, .int .i64 q3] T2)
  rwa [heap_size_alloc'] at h
theorem spec_Conflict (p q : Pth) (w : World) : Calls Tryz.prog 118 #[p.val, q.val] w fun e w' => e = .returned (.bool (conf p q)) ∧ Below w.heap.size w w' := by
  obtain ⟨a, b, c, d⟩ := p
  obtain ⟨a', b', c', d'⟩ := q
  have hv : (Pth.mk a b c d).val = .agg #[.int .i64 a, .int .i64 b, .int .i64 c, .int .i64 d] := rfl
  have hv' : (Pth.mk a' b' c' d').val = .agg #[.int .i64 a', .int .i64 b', .int .i64 c', .int .i64 d'] := rfl
  have HC : Hid (conf ⟨a, b, c, d⟩ ⟨a', b', c', d'⟩ = if isP ⟨a, b, c, d⟩ && isP ⟨a', b', c', d'⟩ && !(decide (b = 2) && decide (b' = 2)) then
    (if b = 2 then decide (c' = c) || decide (d' = c) else if b' = 2 then decide (c = c') || decide (d = c') else if c = c' then false else if d = d' then true else inter (inPl c) (outPl d) (inPl c') (outPl d')) else false) := Lib.hid rfl
  rw [hv, hv']
  go_enter Tryz.func118, Tryz.ntmps118
  go_wp2_with fail
  refine (spec_IsPath ⟨a, b, c, d⟩ _).mono ?_
  rintro e w1 ⟨rfl, hb⟩
  obtain ⟨hA, hB, hs1, hb1⟩ := boxed_two (p := ⟨a, b, c, d⟩) (q := ⟨a', b', c', d'⟩) hb
  obtain ⟨x0, x1, x2, x3⟩ := pth_head hA
  obtain ⟨y0, y1, y2, y3⟩ := pth_head hB
  simp only at x0 x1 x2 x3 y0 y1 y2 y3
  clear hb
  cases hp : isP ⟨a, b, c, d⟩
  · rw [hp] at HC
    go_wp2
    go_ret
    exact ⟨by rw [HC.out]; rfl, hb1⟩
  rw [hp] at HC
  go_wp2_with fail
  refine (spec_IsPath ⟨a', b', c', d'⟩ _).mono ?_
  rintro e w2 ⟨rfl, hb⟩
  replace hA := hA.below hb (by simp; omega)
  replace hB := hB.below hb (by simp; omega)
  have hs2 := Nat.le_trans hs1 hb.size
  have lt1 : w.heap.size < w2.heap.size := by omega
  have lt2 : w.heap.size + 1 < w2.heap.size := by omega
  replace hb1 := hb1.trans (hb.mono hb1.size)
  obtain ⟨x0, x1, x2, x3⟩ := pth_head hA
  obtain ⟨y0, y1, y2, y3⟩ := pth_head hB
  simp only at x0 x1 x2 x3 y0 y1 y2 y3
  clear hb
  cases hq : isP ⟨a', b', c', d'⟩
  · rw [hq] at HC
    go_wp2
    go_ret
    exact ⟨by rw [HC.out]; rfl, hb1⟩
  rw [hq] at HC
  by_cases hk : b = 2
  · have e1 : (b == 2) = true := by simpa using hk
    rw [decide_eq_true hk, if_pos hk] at HC
    by_cases hk2 : b' = 2
    · have e2 : (b' == 2) = true := by simpa using hk2
      rw [decide_eq_true hk2] at HC
      clear hk hk2
      go_wp2
      go_ret
      exact ⟨by rw [HC.out]; rfl, hb1⟩
    · have e2 : (b' == 2) = false := by simpa using hk2
      rw [decide_eq_false hk2] at HC
      clear hk hk2
      by_cases h1 : c' = c
      · have e3 : (c' == c) = true := by simpa using h1
        rw [decide_eq_true h1] at HC
        clear h1
        go_wp2
        go_ret
        exact ⟨by rw [HC.out]; rfl, hb1⟩
      · have e3 : (c' == c) = false := by simpa using h1
        have e4 : (d' == c) = decide (d' = c) := rfl
        rw [decide_eq_false h1] at HC
        clear h1
        go_wp2
        go_ret
        exact ⟨by rw [HC.out]; rfl, hb1⟩
  · have e1 : (b == 2) = false := by simpa using hk
    rw [decide_eq_false hk, if_neg hk] at HC
    clear hk
    by_cases hk2 : b' = 2
    · have e2 : (b' == 2) = true := by simpa using hk2
      rw [if_pos hk2] at HC
      clear hk2
      by_cases h1 : c = c'
      · have e3 : (c == c') = true := by simpa using h1
        rw [decide_eq_true h1] at HC
        clear h1
        go_wp2
        go_ret
        exact ⟨by rw [HC.out]; rfl, hb1⟩
      · have e3 : (c == c') = false := by simpa using h1
        rw [decide_eq_false h1] at HC
        clear h1
        go_wp2
        go_ret
        exact ⟨by rw [HC.out]; rfl, hb1⟩
    · have e2 : (b' == 2) = false := by simpa using hk2
      rw [if_neg hk2] at HC
      clear hk2
      by_cases h1 : c = c'
      · have e3 : (c == c') = true := by simpa using h1
        rw [if_pos h1] at HC
        clear h1
        go_wp2
        go_ret
        exact ⟨by rw [HC.out]; rfl, hb1⟩
      · have e3 : (c == c') = false := by simpa using h1
        rw [if_neg h1] at HC
        clear h1
        by_cases h2 : d = d'
        · have e4 : (d == d') = true := by simpa using h2
          rw [if_pos h2] at HC
          clear h2
          go_wp2
          go_ret
          exact ⟨by rw [HC.out]; rfl, hb1⟩
        · have e4 : (d == d') = false := by simpa using h2
          rw [if_neg h2] at HC
          clear h2
          have HS := Lib.hid hb1
          go_wp2
          clear hA hB x0 x1 y0 y1 hs1
          go_region_held3 (fun W' => W'.cell? ⟨w.heap.size, 2, none⟩ = some (.int .i64 c) ∧ W'.cell? ⟨w.heap.size, 3, none⟩ = some (.int .i64 d) ∧ W'.cell? ⟨w.heap.size + 1, 2, none⟩ = some (.int .i64 c') ∧ W'.cell? ⟨w.heap.size + 1, 3, none⟩ = some (.int .i64 d'))
            (first | exact ⟨x2, x3, y2, y3⟩ | exact ⟨(hb3.cell lt1).trans x2, (hb3.cell lt1).trans x3, (hb3.cell lt2).trans y2, (hb3.cell lt2).trans y3⟩ | fail "keep")
            (first
              | (go_at_call 140; refine (spec_InPlace _ _).mono ?_; rintro e w3 ⟨rfl, rfl⟩)
              | (go_at_call 141; refine (spec_OutPlace _ _).mono ?_; rintro e w3 ⟨rfl, rfl⟩)
              | (go_at_call 139; refine (spec_Interleave _ _ _ _ _).mono ?_; rintro e w3 ⟨rfl, hb3⟩; replace hb3 := below_undrew hb3))
          go_wp2
          go_ret
          exact ⟨by rw [HC.out]; rfl, HS.out.trans (hb3.mono HS.out.size)⟩
end Go.Proofs.YtlpkafhapmkkfaaGreatDoor

/- Regions that draw their order, whose operations read old memory and whose callees make new memory alone: one walk of the text's order. No program. -/
namespace Go.Proofs.YtlpkafhapmkkfaaGreatDoor
open Go.RowKit

/-- a world in which only new memory has been made since w. -/
structure GW (w : World) where
  val : World
  ok : Below w.heap.size w val
instance (w : World) : Nonempty (GW w) := ⟨⟨w, Below.refl _ _⟩⟩
theorem wp_region_grow {P : Program} {id : Nat} {Q : Exit → Act → World → Prop} {a : Act} {w : World} {l : List Oper} (hm : P.follows .mixedOrders = true) (hB : Region.lexB .any l.toArray = true)
    (h : wpQuiet P l.toArray (fun w' => ∃ x : GW w, w' = x.val) (fun a' => ∀ x : GW w, Q .normal a' x.val) l a) : (Code.region id l.toArray true).wp P Q a w := by
  refine wp_region_quiet (C := fun w' => ∃ x : GW w, w' = x.val) hm hB ⟨⟨w.drew, ⟨rfl, rfl, rfl, Nat.le_refl _, fun _ _ => rfl⟩⟩, rfl⟩ ?_
  have e : (fun a' => ∀ w', (∃ x : GW w, w' = x.val) → Q .normal a' w') = (fun a' => ∀ x : GW w, Q .normal a' x.val) := by
    funext a'
    exact propext ⟨fun h x => h _ ⟨x, rfl⟩, fun h w' ⟨x, hx⟩ => hx ▸ h x⟩
  rw [e]
  simpa using h
/-- a callee's contract, met in such a world. -/
theorem calls_gw {P : Program} {f : FuncId} {args : Array Value} {w : World} {v : Value} (x : GW w) (h : Calls P f args x.val fun e w'' => e = .returned v ∧ Below x.val.heap.size x.val w'') :
    Calls P f args x.val fun e w'' => e = .returned v ∧ ∃ y : GW w, w'' = y.val := h.mono fun _ w'' ⟨he, hb⟩ => ⟨he, ⟨w'', x.ok.trans (hb.mono x.ok.size)⟩, rfl⟩
theorem calls_gw_same {P : Program} {f : FuncId} {args : Array Value} {w : World} {v : Value} (x : GW w) (h : Calls P f args x.val fun e w'' => e = .returned v ∧ x.val = w'') :
    Calls P f args x.val fun e w'' => e = .returned v ∧ ∃ y : GW w, w'' = y.val := h.mono fun _ _ ⟨he, hb⟩ => ⟨he, x, hb.symm⟩
end Go.Proofs.YtlpkafhapmkkfaaGreatDoor

/- Chapter 5's program: lists of paths, conflicts. -/
namespace Go.Proofs.YtlpkafhapmkkfaaGreatDoor
open Go.RowKit
set_option linter.unusedVariables false

/-- the Id of the path before the k-th. -/
def lastI (ps : List Pth) : Nat → Int
  | 0 => 0
  | m + 1 => match ps[m]? with | none => 0 | some q => q.id
theorem lastI_succ {ps : List Pth} {k : Nat} {p : Pth} (h : ps[k]? = some p) : lastI ps (k + 1) = p.id := by simp [lastI, h]
theorem goodAt_last {ps : List Pth} {k : Nat} {p : Pth} (h : ps[k]? = some p) : goodAt ps k = (isP p && decide (lastI ps k < p.id)) := by
  unfold goodAt
  rw [h]
  have hlt := (List.getElem?_eq_some_iff.1 h).1
  cases k with
  | zero =>
    cases hv : isP p
    · simp [hv]
    · have h1 := (isP_facts p hv).1
      have h0 : lastI ps 0 < p.id := by show (0 : Int) < p.id; omega
      rw [decide_eq_true h0]
      simp [hv]
  | succ m =>
    have h2 : ps[m]? = some ps[m] := List.getElem?_eq_getElem (by omega)
    simp [lastI, h2]
theorem goodAt_step {ps : List Pth} {k : Nat} (h : ∀ j, j < k → goodAt ps j = true) (h2 : goodAt ps k = true) : ∀ j, j < k + 1 → goodAt ps j = true := by
  intro j hj
  by_cases e : j = k
  · subst e; exact h2
  · exact h j (by omega)
theorem arePs_big {ps : List Pth} (h : 12 < ps.length) : arePs ps = false := by
  unfold arePs
  rw [decide_eq_false (by omega), Bool.and_false]
theorem PthAt.plain {w : World} {q : Addr} {p : Pth} (h : PthAt w q p) : w.cell? q = some (.int .i64 p.id) ∧ w.cell? ⟨q.block, q.off + 1, none⟩ = some (.int .i64 p.kind) ∧ w.cell? ⟨q.block, q.off + 2, none⟩ = some (.int .i64 p.frm) ∧ w.cell? ⟨q.block, q.off + 3, none⟩ = some (.int .i64 p.to) := ⟨h.c0, h.c1, h.c2, h.c3⟩
set_option maxHeartbeats 1000000 in
set_option maxRecDepth 100000 in
theorem impl_ArePaths (A : Option Addr) (n c B : Nat) (ps : List Pth) (w : World) (h : PthsAt w B A n ps) (hB : B ≤ w.heap.size) (hn : n ≤ 4294967296) :
    Calls Tryz.prog 106 #[.slice A n c] w fun e w' => e = .returned (.bool (arePs ps)) ∧ Below w.heap.size w w' := by
  have hl := h.1
  by_cases hbig : 12 < n
  · have HR := Lib.hid (arePs_big (ps := ps) (by omega))
    go_enter Tryz.func106, Tryz.ntmps106
    go_wp2
    go_ret
    exact ⟨by rw [HR.out]; rfl, Below.refl _ _⟩
  · go_enter Tryz.func106, Tryz.ntmps106
    go_wp2
    go_loopw [11, 3] (fun i x wr => ∃ k : Nat, k ≤ n ∧ i = .int .i64 k ∧ x = .int .i64 (lastI ps k) ∧ (∀ j, j < k → goodAt ps j = true) ∧ Below w.heap.size w wr) (fun i _ _ => n - (intOf i).toNat)
    case atStart => exact ⟨0, Nat.zero_le _, rfl, rfl, fun j hj => absurd hj (by omega), Below.refl _ _⟩
    case round =>
      obtain ⟨k, hk, rfl, rfl, hgo, hbl⟩ := hrel
      have hsz := hbl.size
      by_cases hlt : k < n
      · obtain ⟨ad, p, rfl, hab, hp, hq⟩ := h.at hlt
        obtain ⟨c0, c1, c2, c3⟩ := (hq.below hbl (by omega)).plain
        have i1 : (0 : Int) ≤ (k : Int) := by omega
        have i2 : (k : Int) < (n : Int) := by omega
        have HG := Lib.hid (goodAt_last hp)
        have HL := Lib.hid (lastI_succ hp)
        have hv : p.val = .agg #[.int .i64 p.id, .int .i64 p.kind, .int .i64 p.frm, .int .i64 p.to] := rfl
        obtain ⟨y, hy⟩ : ∃ y, lastI ps k = y := ⟨_, rfl⟩
        rw [hy] at HG
        have HB0 := Lib.hid hbl
        have HGO := Lib.hid hgo
        have hcc := fun x => impl_IsPath p x
        rw [hv] at hcc
        rw [hy]
        clear hq hy hbl hgo hv
        go_wp2_with fail
        refine (hcc _).mono ?_
        rintro e w1 ⟨rfl, hb⟩
        have hb1 := hb.cell (p := ⟨wr.heap.size, 0, none⟩) (by simp)
        have hB1 := Lib.hid (HB0.out.trans ((((Below.refl _ _).alloc (Nat.le_refl _) _).trans (hb.mono (by simp))).mono HB0.out.size))
        have d0 : w1.cell? ⟨wr.heap.size, 0, none⟩ = some (.int .i64 p.id) := hb1.trans (by go_simp)
        clear hb hb1 hcc
        cases hvp : isP p
        · have HR := Lib.hid (arePs_no (ps := ps) (k := k) (by omega) (by rw [HG.out, hvp]; rfl))
          clear HG
          go_wp2
          go_ret
          exact ⟨by rw [HR.out]; rfl, hB1.out⟩
        · by_cases hle : p.id ≤ y
          · have HR := Lib.hid (arePs_no (ps := ps) (k := k) (by omega) (by rw [HG.out, decide_eq_false (by omega)]; simp))
            clear HG
            go_wp2
            go_ret
            exact ⟨by rw [HR.out]; rfl, hB1.out⟩
          · have HN := Lib.hid (goodAt_step HGO.out (by rw [HG.out, hvp, decide_eq_true (by omega)]; rfl))
            clear HG
            go_wp2
            go_roundw
            case rel => exact ⟨k + 1, by omega, by go_num, by rw [HL.out], HN.out, hB1.out⟩
            case measure => simp [intOf]; omega
      · obtain rfl : k = n := by omega
        have HR := Lib.hid (arePs_end (ps := ps) (fun j hj => hgo j (by omega)))
        clear hgo
        go_wp2
        go_ret
        exact ⟨by rw [HR.out, hl, decide_eq_true (p := k ≤ 12) (by omega)]; rfl, hbl⟩
set_option maxRecDepth 100000 in
theorem impl_isAt (p : Pth) (hp : isP p = true) (arm : Int) (w : World) : Calls Tryz.prog 144 #[.int .i64 (packN p), .int .i64 arm] w fun e w' => e = .returned (.bool (decide (p.frm = arm) || decide (p.to = arm))) ∧ w = w' := by
  obtain ⟨-, h0, h1⟩ := packN_yes hp
  have e1 := Lib.hid (packN_frm hp)
  have e2 := Lib.hid (packN_to hp)
  generalize packN p = v at *
  by_cases ha : p.frm = arm
  · have HE : Hid ((decide (p.frm = arm) || decide (p.to = arm)) = true) := Lib.hid (by simp [ha])
    have b1 : (p.frm == arm) = true := by simpa using ha
    clear ha
    go_enter Tryz.func144, Tryz.ntmps144
    go_wp2_with fail
    refine (impl_from _ _ (by omega) (by omega)).mono ?_
    rintro e w1 ⟨rfl, rfl⟩
    rw [e1.out]
    go_wp2
    go_ret
    exact ⟨by rw [HE.out]; rfl, rfl⟩
  · have HE : Hid ((decide (p.frm = arm) || decide (p.to = arm)) = (p.to == arm)) := Lib.hid (by simp [ha]; rfl)
    have b1 : (p.frm == arm) = false := by simpa using ha
    clear ha
    go_enter Tryz.func144, Tryz.ntmps144
    go_wp2_with fail
    refine (impl_from _ _ (by omega) (by omega)).mono ?_
    rintro e w1 ⟨rfl, rfl⟩
    rw [e1.out]
    go_wp2_with fail
    refine (impl_to _ _ (by omega) (by omega)).mono ?_
    rintro e w1 ⟨rfl, rfl⟩
    rw [e2.out]
    go_wp2
    go_ret
    exact ⟨by rw [HE.out]; rfl, rfl⟩
/-- what meets answers. -/
def meetB (p q : Pth) : Bool := if p.frm ≠ q.frm ∧ p.to = q.to then true else inter (inPl p.frm) (outPl p.to) (inPl q.frm) (outPl q.to)
set_option maxRecDepth 100000 in
theorem impl_meets (p q : Pth) (hp : isP p = true) (hq : isP q = true) (w : World) : Calls Tryz.prog 146 #[.int .i64 (packN p), .int .i64 (packN q)] w fun e w' => e = .returned (.bool (meetB p q)) ∧ Below w.heap.size w w' := by
  obtain ⟨-, h0, h1⟩ := packN_yes hp
  obtain ⟨-, h2, h3⟩ := packN_yes hq
  have e1 := Lib.hid (packN_frm hp)
  have e2 := Lib.hid (packN_to hp)
  have e3 := Lib.hid (packN_frm hq)
  have e4 := Lib.hid (packN_to hq)
  generalize packN p = v at *
  generalize packN q = u at *
  have HM : Hid (meetB p q = if p.frm ≠ q.frm ∧ p.to = q.to then true else inter (inPl p.frm) (outPl p.to) (inPl q.frm) (outPl q.to)) := Lib.hid rfl
  generalize meetB p q = m at *
  generalize p.frm = x1 at *
  generalize p.to = x2 at *
  generalize q.frm = x3 at *
  generalize q.to = x4 at *
  have hm1 : ∀ h : x1 = x3, Hid (m = inter (inPl x1) (outPl x2) (inPl x3) (outPl x4)) := fun h => Lib.hid (by rw [HM.out, if_neg (fun h' => h'.1 h)])
  have hm2 : ∀ h : ¬ x2 = x4, Hid (m = inter (inPl x1) (outPl x2) (inPl x3) (outPl x4)) := fun h => Lib.hid (by rw [HM.out, if_neg (fun h' => h h'.2)])
  have hm3 : ∀ (h : ¬ x1 = x3) (h' : x2 = x4), Hid (m = true) := fun h h' => Lib.hid (by rw [HM.out, if_pos ⟨h, h'⟩])
  by_cases ha : x1 = x3
  all_goals
    by_cases hb : x2 = x4
    all_goals
      first
        | have HQ := hm1 ha
        | have HQ := hm2 hb
        | have HQ := hm3 ha hb
      clear hm1 hm2 hm3 HM
      have b1 : (x1 != x3) = !decide (x1 = x3) := by by_cases e : x1 = x3 <;> simp [e]
      have b2 : (x2 == x4) = decide (x2 = x4) := by by_cases e : x2 = x4 <;> simp [e]
      first | rw [decide_eq_false ha] at b1 | rw [decide_eq_true ha] at b1
      first | rw [decide_eq_true hb] at b2 | rw [decide_eq_false hb] at b2
      clear ha hb
      go_enter Tryz.func146, Tryz.ntmps146
      go_wp2_with fail
      refine (impl_from _ _ (by omega) (by omega)).mono ?_
      rintro e w1 ⟨rfl, rfl⟩
      rw [e1.out]
      go_wp2_with fail
      refine (impl_from _ _ (by omega) (by omega)).mono ?_
      rintro e w1 ⟨rfl, rfl⟩
      rw [e3.out]
      go_wp2_with
        (first
          | (go_at_call 154; refine (impl_to v _ (by omega) (by omega)).mono ?_; rintro e w1 ⟨rfl, rfl⟩; rw [e2.out])
          | (go_at_call 154; refine (impl_to u _ (by omega) (by omega)).mono ?_; rintro e w1 ⟨rfl, rfl⟩; rw [e4.out])
          | (go_at_call 145; refine (impl_from v _ (by omega) (by omega)).mono ?_; rintro e w1 ⟨rfl, rfl⟩; rw [e1.out])
          | (go_at_call 145; refine (impl_from u _ (by omega) (by omega)).mono ?_; rintro e w1 ⟨rfl, rfl⟩; rw [e3.out])
          | (go_at_call 156; refine (impl_InPlace _ _).mono ?_; rintro e w1 ⟨rfl, rfl⟩)
          | (go_at_call 157; refine (impl_OutPlace _ _).mono ?_; rintro e w1 ⟨rfl, rfl⟩)
          | (go_at_call 155; refine (impl_Interleave _ _ _ _ _).mono ?_; rintro e w1 ⟨rfl, hbb⟩))
      go_ret
      first
        | exact ⟨by rw [HQ.out]; rfl, Below.refl _ _⟩
        | exact ⟨by rw [HQ.out]; rfl, hbb⟩
theorem conf_walk1 {p q : Pth} (hp : isP p = true) (hq : isP q = true) (h1 : p.kind = 2) (h2 : q.kind = 2) : conf p q = false := by unfold conf; rw [hp, hq, decide_eq_true h1, decide_eq_true h2]; rfl
theorem conf_walk2 {p q : Pth} (hp : isP p = true) (hq : isP q = true) (h1 : p.kind = 2) (h2 : ¬ q.kind = 2) : conf p q = (decide (q.frm = p.frm) || decide (q.to = p.frm)) := by unfold conf; rw [hp, hq, decide_eq_true h1, decide_eq_false h2, if_pos (by rfl), if_pos h1]
theorem conf_walk3 {p q : Pth} (hp : isP p = true) (hq : isP q = true) (h1 : ¬ p.kind = 2) (h2 : q.kind = 2) : conf p q = (decide (p.frm = q.frm) || decide (p.to = q.frm)) := by unfold conf; rw [hp, hq, decide_eq_false h1, decide_eq_true h2, if_pos (by rfl), if_neg h1, if_pos h2]
theorem conf_walk4 {p q : Pth} (hp : isP p = true) (hq : isP q = true) (h1 : ¬ p.kind = 2) (h2 : ¬ q.kind = 2) : conf p q = meetB p q := by
  unfold conf meetB
  rw [hp, hq, decide_eq_false h1, decide_eq_false h2, if_pos (by rfl), if_neg h1, if_neg h2]
  by_cases e1 : p.frm = q.frm
  · rw [if_pos e1, if_neg (fun h => h.1 e1), e1]
    exact (inter_eq (j := 2) (k := 0) (by decide) (by decide) rfl).symm
  · rw [if_neg e1]
    by_cases e2 : p.to = q.to
    · rw [if_pos e2, if_pos ⟨e1, e2⟩]
    · rw [if_neg e2, if_neg (fun h => e2 h.2)]
theorem conf_no1 {p q : Pth} (h : isP p = false) : conf p q = false := conf_no (by rw [h]; rfl)
theorem conf_no2 {p q : Pth} (h : isP q = false) : conf p q = false := conf_no (by rw [h]; simp)
set_option maxHeartbeats 1000000 in
set_option maxRecDepth 100000 in
theorem impl_Conflict (p q : Pth) (w : World) : Calls Tryz.prog 120 #[p.val, q.val] w fun e w' => e = .returned (.bool (conf p q)) ∧ Below w.heap.size w w' := by
  have hn1 := fun h => Lib.hid (conf_no1 (p := p) (q := q) h)
  have hn2 := fun h => Lib.hid (conf_no2 (p := p) (q := q) h)
  have hw1 := fun hp hq h1 h2 => Lib.hid (conf_walk1 (p := p) (q := q) hp hq h1 h2)
  have hw2 := fun hp hq h1 h2 => Lib.hid (conf_walk2 (p := p) (q := q) hp hq h1 h2)
  have hw3 := fun hp hq h1 h2 => Lib.hid (conf_walk3 (p := p) (q := q) hp hq h1 h2)
  have hw4 := fun hp hq h1 h2 => Lib.hid (conf_walk4 (p := p) (q := q) hp hq h1 h2)
  generalize conf p q = r at *
  have hk1 := fun hp => Lib.hid (packN_kind (p := p) hp)
  have hk2 := fun hp => Lib.hid (packN_kind (p := q) hp)
  have hf1 := fun hp => Lib.hid (packN_frm (p := p) hp)
  have hf2 := fun hp => Lib.hid (packN_frm (p := q) hp)
  have hy1 := fun hp => (packN_yes (p := p) hp).2
  have hy2 := fun hp => (packN_yes (p := q) hp).2
  have hz1 := fun hp => packN_no (p := p) hp
  have hz2 := fun hp => packN_no (p := q) hp
  have hcp := fun x => impl_pack p x
  have hcq := fun x => impl_pack q x
  have ha1 := fun hp arm x => impl_isAt p hp arm x
  have ha2 := fun hp arm x => impl_isAt q hp arm x
  have hm := fun hp hq x => impl_meets p q hp hq x
  generalize meetB p q = mb at *
  generalize packN p = v at *
  generalize packN q = u at *
  generalize hpp : isP p = ip at *
  generalize hqq : isP q = iq at *
  clear hpp hqq
  obtain ⟨a, b, c, d⟩ := p
  obtain ⟨a', b', c', d'⟩ := q
  simp only [Pth.val] at *
  go_enter Tryz.func120, Tryz.ntmps120
  go_wp2
  have hz := Lib.hid (fun x : GW ((w.alloc (.cells #[.int .i64 a, .int .i64 b, .int .i64 c, .int .i64 d] 67)).alloc (.cells #[.int .i64 a', .int .i64 b', .int .i64 c', .int .i64 d'] 67)) => boxed_two (p := ⟨a, b, c, d⟩) (q := ⟨a', b', c', d'⟩) x.ok)
  have x0 := fun x => (pth_head (hz.out x).1).1
  have x1 := fun x => (pth_head (hz.out x).1).2.1
  have x2 := fun x => (pth_head (hz.out x).1).2.2.1
  have x3 := fun x => (pth_head (hz.out x).1).2.2.2
  have y0 := fun x => (pth_head (hz.out x).2.1).1
  have y1 := fun x => (pth_head (hz.out x).2.1).2.1
  have y2 := fun x => (pth_head (hz.out x).2.1).2.2.1
  have y3 := fun x => (pth_head (hz.out x).2.1).2.2.2
  simp only at x0 x1 x2 x3 y0 y1 y2 y3
  have hzb := Lib.hid (fun x => (hz.out x).2.2.2)
  clear hz
  refine wp_region_grow (by kernel_rfl) (by kernel_rfl) ?_
  repeat (go_big_quiet_step (first | (go_at_call 142; (first | with_reducible exact calls_gw _ (hcp _) | with_reducible exact calls_gw _ (hcq _)))))
  refine wpQuiet_nil ?_
  intro x5
  have HB := Lib.hid (hzb.out x5)
  clear hzb x0 x1 x2 x3 y0 y1 y2 y3 hcp hcq
  generalize x5.val = w3 at *
  cases ip
  · have HR := hn1 rfl
    obtain rfl := hz1 rfl
    clear hz1 hz2 hn1 hn2 hw1 hw2 hw3 hw4 hm ha1 ha2 hk1 hk2 hf1 hf2 hy1 hy2
    go_wp2
    go_ret
    exact ⟨by rw [HR.out]; rfl, HB.out⟩
  obtain ⟨v0, v1⟩ := hy1 rfl
  have vz : (v == 0) = false := by simp; omega
  have gk1 := hk1 rfl
  have gf1 := hf1 rfl
  clear hy1
  cases iq
  · have HR := hn2 rfl
    obtain rfl := hz2 rfl
    clear hz1 hz2 hn1 hn2 hw1 hw2 hw3 hw4 hm ha1 ha2 hk1 hk2 hf1 hf2 hy2
    go_wp2
    go_ret
    exact ⟨by rw [HR.out]; rfl, HB.out⟩
  obtain ⟨u0, u1⟩ := hy2 rfl
  have uz : (u == 0) = false := by simp; omega
  have gk2 := hk2 rfl
  have gf2 := hf2 rfl
  have ga1 := Lib.hid (ha1 rfl)
  have ga2 := Lib.hid (ha2 rfl)
  have gm := Lib.hid (hm rfl rfl)
  clear hk1 hk2 hf1 hf2 ha1 ha2 hm
  have kv := Lib.hid (fun x => impl_kind v x (by omega) (by omega))
  have ku := Lib.hid (fun x => impl_kind u x (by omega) (by omega))
  have fv := Lib.hid (fun x => impl_from v x (by omega) (by omega))
  have fu := Lib.hid (fun x => impl_from u x (by omega) (by omega))
  clear hz1 hz2 hn1 hn2 hy2
  by_cases e1 : b = 2
  all_goals
    by_cases e2 : b' = 2
    all_goals
      first
        | have HQ := hw1 rfl rfl e1 e2
        | have HQ := hw2 rfl rfl e1 e2
        | have HQ := hw3 rfl rfl e1 e2
        | have HQ := hw4 rfl rfl e1 e2
      clear hw1 hw2 hw3 hw4
      have b1 : (b == 2) = decide (b = 2) := by by_cases e : b = 2 <;> simp [e]
      have b2 : (b' == 2) = decide (b' = 2) := by by_cases e : b' = 2 <;> simp [e]
      have b3 : (b' != 2) = !decide (b' = 2) := by by_cases e : b' = 2 <;> simp [e]
      first | rw [decide_eq_true e1] at b1 | rw [decide_eq_false e1] at b1
      first | rw [decide_eq_true e2] at b2 b3 | rw [decide_eq_false e2] at b2 b3
      clear e1 e2
      go_wp2_with
        (first
          | (go_at_call 143; (with_reducible refine (kv.out _).mono ?_); rintro e w1 ⟨rfl, rfl⟩; rw [gk1.out])
          | (go_at_call 143; (with_reducible refine (ku.out _).mono ?_); rintro e w1 ⟨rfl, rfl⟩; rw [gk2.out])
          | (go_at_call 145; (with_reducible refine (fv.out _).mono ?_); rintro e w1 ⟨rfl, rfl⟩; rw [gf1.out])
          | (go_at_call 145; (with_reducible refine (fu.out _).mono ?_); rintro e w1 ⟨rfl, rfl⟩; rw [gf2.out])
          | (go_at_call 144; (with_reducible refine (ga1.out _ _).mono ?_); rintro e w1 ⟨rfl, rfl⟩)
          | (go_at_call 144; (with_reducible refine (ga2.out _ _).mono ?_); rintro e w1 ⟨rfl, rfl⟩)
          | (go_at_call 146; (with_reducible refine (gm.out _).mono ?_); rintro e w1 ⟨rfl, hbb⟩))
      go_ret
      first
        | exact ⟨by rw [HQ.out]; rfl, HB.out⟩
        | exact ⟨by rw [HQ.out]; rfl, HB.out.trans (hbb.mono HB.out.size)⟩
end Go.Proofs.YtlpkafhapmkkfaaGreatDoor

/- Sets of indexes as masks. No program. -/
namespace Go.Proofs.YtlpkafhapmkkfaaGreatDoor
open Go.RowKit
set_option linter.unusedVariables false

/-- the set of those below n for which f holds. -/
def maskF (f : Nat → Bool) : Nat → Nat
  | 0 => 0
  | n + 1 => maskF f n ||| (if f n then 2 ^ n else 0)
theorem maskF_bit (f : Nat → Bool) (n j : Nat) : (maskF f n).testBit j = (decide (j < n) && f j) := by
  induction n with
  | zero => simp [maskF]
  | succ n ih =>
    rw [maskF, Nat.testBit_or, ih]
    by_cases h : f n
    · rw [if_pos h, Nat.testBit_two_pow]
      by_cases e : n = j
      · subst e; simp [h]
      · have e1 : decide (j < n + 1) = decide (j < n) := by simp; omega
        rw [e1]
        simp [e]
    · rw [if_neg h, Nat.zero_testBit]
      by_cases e : n = j
      · subst e; simp [h]
      · have e1 : decide (j < n + 1) = decide (j < n) := by simp; omega
        rw [e1]
        simp
theorem maskF_lt (f : Nat → Bool) (n : Nat) : maskF f n < 2 ^ n := by
  refine Nat.lt_pow_two_of_testBit _ fun i hi => ?_
  rw [maskF_bit, decide_eq_false (by omega)]
  rfl
theorem mask_ext {a b : Nat} (h : ∀ j, a.testBit j = b.testBit j) : a = b := Nat.eq_of_testBit_eq h
theorem mask_lt {m n : Nat} (h : ∀ j, n ≤ j → m.testBit j = false) : m < 2 ^ n := Nat.lt_pow_two_of_testBit _ fun i hi => h i hi
theorem bit_lt {i : Nat} (h : i < 12) : 2 ^ i < 65536 := Nat.lt_of_lt_of_le (Nat.pow_lt_pow_right (by decide) h) (by decide)
theorem or_lt {a b : Nat} (ha : a < 4096) (hb : b < 4096) : a ||| b < 4096 := Nat.or_lt_two_pow (n := 12) ha hb
theorem shl_bit (i : Nat) (h : i < 12) : IntKind.u16.wrap (1 * 2 ^ min i 16) = ((2 ^ i : Nat) : Int) := by
  have hb := bit_lt h
  rw [Nat.min_eq_left (by omega), Int.one_mul, IntKind.wrap_u16]
  have e : ((2 : Int) ^ i) = ((2 ^ i : Nat) : Int) := by simp
  rw [e]
  generalize 2 ^ i = x at hb ⊢
  omega
end Go.Proofs.YtlpkafhapmkkfaaGreatDoor

/- crossingOf: the program. -/
namespace Go.Proofs.YtlpkafhapmkkfaaGreatDoor
open Go.RowKit
set_option linter.unusedVariables false

/-- the a-th and the b-th path conflict. -/
def confAt (ps : List Pth) (a b : Nat) : Bool := match ps[a]?, ps[b]? with
  | some p, some q => conf p q
  | _, _ => false
/-- the pairs that have been gone through, at i and j. -/
def stB (ps : List Pth) (i j k l : Nat) : Bool :=
  if l < k then (decide (k < i) || (decide (k = i) && decide (l < j))) && confAt ps k l
  else if k < l then (decide (l < i) || (decide (l = i) && decide (k < j))) && confAt ps l k
  else false
def rowSt (ps : List Pth) (i j k : Nat) : Nat := maskF (stB ps i j k) 12
theorem rowSt_lt (ps : List Pth) (i j k : Nat) : rowSt ps i j k < 4096 := maskF_lt _ 12
theorem rowSt_bit (ps : List Pth) (i j k l : Nat) : (rowSt ps i j k).testBit l = (decide (l < 12) && stB ps i j k l) := maskF_bit _ _ _
/-- the cells of a crossing. -/
def xcells (A : Option Addr) (n c : Nat) (f : Nat → Nat) : List Value := .slice A n c :: (List.range 12).map fun k => Value.int .u16 (f k : Nat)
theorem xcells_length (A : Option Addr) (n c : Nat) (f : Nat → Nat) : (xcells A n c f).length = 13 := by simp [xcells]
theorem xcells_row (A : Option Addr) (n c : Nat) (f : Nat → Nat) (k : Nat) (h : k < 12) : (xcells A n c f)[1 + k]? = some (.int .u16 (f k : Nat)) := by
  rw [Nat.add_comm]
  simp [xcells, h]
theorem xcells_set (A : Option Addr) (n c : Nat) (f : Nat → Nat) (k m : Nat) (h : k < 12) : (xcells A n c f).set (1 + k) (.int .u16 (m : Nat)) = xcells A n c fun l => if l = k then m else f l := by
  unfold xcells
  rw [Nat.add_comm, List.set_cons_succ]
  congr 1
  apply List.ext_getElem?
  intro i
  rw [List.getElem?_set]
  by_cases hi : i < 12
  · by_cases e : k = i
    · subst e; simp [h]
    · have e2 : ¬ i = k := fun h => e h.symm
      simp [e, e2, hi]
  · rw [List.getElem?_eq_none (by simp; omega)]
    have e : ¬ k = i := by omega
    rw [if_neg e, List.getElem?_eq_none (by simp; omega)]
theorem st_step_no {ps : List Pth} {i j : Nat} (hj : j < i) (hc : confAt ps i j = false) (k : Nat) : rowSt ps i (j + 1) k = rowSt ps i j k := by
  apply mask_ext
  intro l
  rw [rowSt_bit, rowSt_bit]
  congr 1
  unfold stB
  by_cases h1 : l < k
  · rw [if_pos h1, if_pos h1]
    by_cases e : k = i ∧ l = j
    · rw [e.1, e.2, hc]; simp
    · have : (decide (k = i) && decide (l < j + 1)) = (decide (k = i) && decide (l < j)) := by
        by_cases ek : k = i
        · have : ¬ l = j := fun el => e ⟨ek, el⟩
          have : decide (l < j + 1) = decide (l < j) := by simp; omega
          rw [this]
        · simp [ek]
      rw [this]
  · rw [if_neg h1, if_neg h1]
    by_cases h2 : k < l
    · rw [if_pos h2, if_pos h2]
      by_cases e : l = i ∧ k = j
      · rw [e.1, e.2, hc]; simp
      · have : (decide (l = i) && decide (k < j + 1)) = (decide (l = i) && decide (k < j)) := by
          by_cases el : l = i
          · have : ¬ k = j := fun ek => e ⟨el, ek⟩
            have : decide (k < j + 1) = decide (k < j) := by simp; omega
            rw [this]
          · simp [el]
        rw [this]
    · rw [if_neg h2, if_neg h2]
theorem st_step_yes {ps : List Pth} {i j : Nat} (hj : j < i) (hi : i < 12) (hc : confAt ps i j = true) (k : Nat) :
    rowSt ps i (j + 1) k = if k = j then rowSt ps i j j ||| 2 ^ i else if k = i then rowSt ps i j i ||| 2 ^ j else rowSt ps i j k := by
  apply mask_ext
  intro l
  by_cases ek : k = j
  · subst ek
    rw [if_pos rfl, Nat.testBit_or, rowSt_bit, rowSt_bit, Nat.testBit_two_pow]
    unfold stB
    by_cases h1 : l < k
    · have e1 : ¬ i = l := by omega
      have e2 : decide (k = i) = false := decide_eq_false (by omega)
      simp [h1, e1, e2]
    · by_cases h2 : k < l
      · by_cases el : l = i
        · subst el
          simp [h1, h2, hc]
          omega
        · have e1 : ¬ i = l := fun h => el h.symm
          simp [h1, h2, el, e1]
      · have : l = k := by omega
        subst this
        have e1 : ¬ i = l := by omega
        simp [e1]
  · rw [if_neg ek]
    by_cases e2 : k = i
    · subst e2
      rw [if_pos rfl, Nat.testBit_or, rowSt_bit, rowSt_bit, Nat.testBit_two_pow]
      unfold stB
      by_cases h1 : l < k
      · by_cases el : l = j
        · subst el
          simp [h1, hc]
          omega
        · have e1 : ¬ j = l := fun h => el h.symm
          have e3 : decide (l < j + 1) = decide (l < j) := by simp; omega
          simp [h1, e1, e3]
      · have e1 : ¬ j = l := by omega
        by_cases h2 : k < l
        · have e3 : decide (l = k) = false := decide_eq_false (by omega)
          simp [h1, h2, e1, e3]
        · have : l = k := by omega
          subst this
          simp [e1]
    · rw [if_neg e2, rowSt_bit, rowSt_bit]
      congr 1
      unfold stB
      by_cases h1 : l < k
      · simp [h1, e2]
      · by_cases h2 : k < l
        · by_cases el : l = i
          · subst el
            have e3 : decide (k < j + 1) = decide (k < j) := by simp; omega
            simp [h1, h2, e3]
          · simp [h1, h2, el]
        · simp [h1, h2]
theorem st_next {ps : List Pth} {i : Nat} (k : Nat) : rowSt ps i i k = rowSt ps (i + 1) 0 k := by
  apply mask_ext
  intro l
  rw [rowSt_bit, rowSt_bit]
  congr 1
  unfold stB
  by_cases h1 : l < k
  · have : (decide (k < i) || (decide (k = i) && decide (l < i))) = (decide (k < i + 1) || (decide (k = i + 1) && decide (l < 0))) := by
      rw [Bool.eq_iff_iff]; simp; omega
    rw [if_pos h1, if_pos h1, this]
  · by_cases h2 : k < l
    · have : (decide (l < i) || (decide (l = i) && decide (k < i))) = (decide (l < i + 1) || (decide (l = i + 1) && decide (k < 0))) := by
        rw [Bool.eq_iff_iff]; simp; omega
      rw [if_neg h1, if_neg h1, if_pos h2, if_pos h2, this]
    · rw [if_neg h1, if_neg h1, if_neg h2, if_neg h2]
theorem st_zero (ps : List Pth) (k : Nat) : rowSt ps 0 0 k = 0 := by
  apply mask_ext
  intro l
  rw [rowSt_bit, Nat.zero_testBit]
  unfold stB
  by_cases h1 : l < k
  · simp [h1]
  · by_cases h2 : k < l <;> simp [h1, h2]
theorem impl_maskBit (i : Nat) (w : World) (h : i < 12) : Calls Tryz.prog 108 #[.int .i64 (i : Nat)] w fun e w' => e = .returned (.int .u16 ((2 ^ i : Nat) : Int)) ∧ w = w' := by
  have HS := Lib.hid (shl_bit i h)
  go_enter Tryz.func108, Tryz.ntmps108
  go_wp2
  go_ret
  exact ⟨by have := HS.out; rw [Nat.min_eq_left (by omega), Int.one_mul] at this; rw [← this]; rfl, rfl⟩
theorem arePs_len12 {ps : List Pth} (h : arePs ps = true) : ps.length ≤ 12 := by
  unfold arePs at h
  simp only [Bool.and_eq_true, decide_eq_true_eq] at h
  exact h.2
theorem or_bit {a i : Nat} (ha : a < 4096) (hi : i < 12) : bits .or .u16 (a : Int) ((2 ^ i : Nat) : Int) = ((a ||| 2 ^ i : Nat) : Int) := u16_or_nat a (2 ^ i) (by omega) (bit_lt hi)
theorem below_setCells {B : Nat} {a : World} (b : Nat) (hb : B ≤ b) : ∀ (vs : List Value) (o : Nat) (w : World), Below B a w → Below B a (w.setCells b o vs)
  | [], _, _, h => h
  | v :: vs, o, w, h => below_setCells b hb vs (o + 1) _ (h.setCell hb v)
theorem range_own {w : World} {lo g n : Nat} {E : TypeId} {xs : List Value} (h : w.ownsRow lo E 1 (.slice (some ⟨g, 0, none⟩) n n) n xs) : w.rangeAt g 0 xs := fun j v hj => by
  have hlt := (List.getElem?_eq_some_iff.1 hj).1
  rw [h.1] at hlt
  rw [Nat.zero_add, World.ownsRow.cellAt h j hlt, hj]
theorem there_block {w : World} {g : Nat} {cs : Array Value} {t : TypeId} (h : w.heap[g]? = some (.cells cs t (0, 0))) (m : Nat) (hm : m = cs.size) : w.there g 0 m := fun j hj => by
  rw [Nat.zero_add, cell_of_row w g j cs t _ h, frozen_of_row w g j cs t h]
  exact ⟨by rw [Array.getElem?_eq_getElem (by omega)]; rfl, rfl⟩
theorem xcells_one (A : Option Addr) (n c : Nat) (f : Nat → Nat) : ∀ v ∈ xcells A n c f, v.oneCell' = true := by
  intro v hv
  unfold xcells at hv
  rcases List.mem_cons.1 hv with rfl | hv
  · rfl
  · obtain ⟨k, _, rfl⟩ := List.mem_map.1 hv
    rfl
theorem info_cross : (Tryz.prog.info? 76).map (·.size) = some 13 := by kernel_rfl
set_option maxHeartbeats 1000000 in
set_option maxRecDepth 100000 in
theorem impl_crossingOf (A : Option Addr) (n c B : Nat) (ps : List Pth) (w : World) (h : PthsAt w B A n ps) (hB : B ≤ w.heap.size) (hn : n ≤ c ∧ c ≤ maxLen) (hp : arePs ps = true) :
    Calls Tryz.prog 91 #[.slice A n c] w fun e w' => e = .returned (.tuple #[.agg (xcells A n c (rowSt ps n 0)).toArray, .bool true]) ∧ Below w.heap.size w w' := by
  have hl := h.1
  have h12 : n ≤ 12 := by have := arePs_len12 hp; omega
  obtain ⟨hn1, hn2⟩ := hn
  unfold maxLen at hn2
  have HPA := Lib.hid hp
  have hba : Below w.heap.size w (w.alloc (.cells #[.slice none 0 0, .int .u16 0, .int .u16 0, .int .u16 0, .int .u16 0, .int .u16 0, .int .u16 0, .int .u16 0, .int .u16 0, .int .u16 0, .int .u16 0, .int .u16 0, .int .u16 0] 76)) := (Below.refl _ _).alloc (Nat.le_refl _) _
  have HA := Lib.hid ((h.below (hba.mono hB)).up (B' := (w.alloc (.cells #[.slice none 0 0, .int .u16 0, .int .u16 0, .int .u16 0, .int .u16 0, .int .u16 0, .int .u16 0, .int .u16 0, .int .u16 0, .int .u16 0, .int .u16 0, .int .u16 0, .int .u16 0] 76)).heap.size) (by simp; omega))
  have HB0 := Lib.hid hba
  clear hba hp
  go_enter Tryz.func91, Tryz.ntmps91
  go_wp2_with fail
  refine (impl_ArePaths A n c _ ps _ HA.out (Nat.le_refl _) (by omega)).mono ?_
  rw [HPA.out]
  rintro e w1 ⟨rfl, hb⟩
  have HB1 := Lib.hid (HB0.out.trans (hb.mono HB0.out.size))
  have HP1 := Lib.hid ((HA.out.below hb).up hb.size)
  have hRz := Lib.hid ((hb.block w.heap.size (by simp)).trans (heap_alloc_new w (.cells #[.slice none 0 0, .int .u16 0, .int .u16 0, .int .u16 0, .int .u16 0, .int .u16 0, .int .u16 0, .int .u16 0, .int .u16 0, .int .u16 0, .int .u16 0, .int .u16 0, .int .u16 0] 76)))
  have hR : w.heap.size < w1.heap.size := by have := hb.size; simp at this; omega
  have own0 : (w1.alloc (.cells #[.slice A n c, .int .u16 0, .int .u16 0, .int .u16 0, .int .u16 0, .int .u16 0, .int .u16 0, .int .u16 0, .int .u16 0, .int .u16 0, .int .u16 0, .int .u16 0, .int .u16 0] 76)).ownsRow w1.heap.size 76 1 (.slice (some ⟨w1.heap.size, 0, none⟩) 13 13) 13 (xcells A n c (rowSt ps 0 0)) := by
    have e : rowSt ps 0 0 = fun _ => 0 := funext fun k => st_zero ps k
    rw [e]
    exact World.ownsRow_lit (base := w1.heap.size) (e := 76) (size := 1) w1 #[.slice A n c, .int .u16 0, .int .u16 0, .int .u16 0, .int .u16 0, .int .u16 0, .int .u16 0, .int .u16 0, .int .u16 0, .int .u16 0, .int .u16 0, .int .u16 0, .int .u16 0] 13 (Nat.le_refl _) (by decide) rfl
  have HO := Lib.hid own0
  have HBX := Lib.hid ((Below.refl w1.heap.size w1).alloc (Nat.le_refl _) (.cells #[.slice A n c, .int .u16 0, .int .u16 0, .int .u16 0, .int .u16 0, .int .u16 0, .int .u16 0, .int .u16 0, .int .u16 0, .int .u16 0, .int .u16 0, .int .u16 0, .int .u16 0] 76))
  clear hb own0 HA HB0
  go_wp2
  go_loopw [17] (fun i wr => ∃ k : Nat, k ≤ n ∧ i = .int .i64 k ∧ wr.ownsRow w1.heap.size 76 1 (.slice (some ⟨w1.heap.size, 0, none⟩) 13 13) 13 (xcells A n c (rowSt ps k 0)) ∧ Below w1.heap.size w1 wr) (fun i _ => n - (intOf i).toNat)
  case atStart => exact ⟨0, Nat.zero_le _, rfl, HO.out, HBX.out⟩
  case round =>
    clear HO HBX
    obtain ⟨k, hk, rfl, hown, hbl⟩ := hrel
    have hsz := hbl.size
    have hX := (World.ownsRow.lt hown w1.heap.size rfl).2
    by_cases hlt : k < n
    · obtain ⟨ad, p, rfl, hab, hpk, hq⟩ := HP1.out.at hlt
      obtain ⟨c0, c1, c2, c3⟩ := (hq.below hbl hab).plain
      have i1 : (0 : Int) ≤ (k : Int) := by omega
      have i2 : (k : Int) < (n : Int) := by omega
      have HBL := Lib.hid hbl
      have HO := Lib.hid (World.ownsRow.alloc hown (.cells #[.int .i64 p.id, .int .i64 p.kind, .int .i64 p.frm, .int .i64 p.to] 67))
      have HBA := Lib.hid (hbl.alloc hsz (.cells #[.int .i64 p.id, .int .i64 p.kind, .int .i64 p.frm, .int .i64 p.to] 67))
      have HPK : Hid (PthAt (wr.alloc (.cells #[.int .i64 p.id, .int .i64 p.kind, .int .i64 p.frm, .int .i64 p.to] 67)) ⟨wr.heap.size, 0, none⟩ p) := Lib.hid (pth_of_block (heap_alloc_new wr _))
      clear hq hown hbl
      obtain ⟨wo, hwo⟩ : ∃ wo : World, wo = wr := ⟨_, rfl⟩
      rw [← hwo] at HBL HO HBA HPK hsz hX
      go_wp2
      rw [← hwo]
      clear c0 c1 c2 c3
      clear hwo
      go_loopw [26] (fun j wr => ∃ m : Nat, m ≤ k ∧ j = .int .i64 m ∧ wr.ownsRow w1.heap.size 76 1 (.slice (some ⟨w1.heap.size, 0, none⟩) 13 13) 13 (xcells (some ad) n c (rowSt ps k m)) ∧ Below w1.heap.size w1 wr ∧ PthAt wr ⟨wo.heap.size, 0, none⟩ p ∧ wo.heap.size < wr.heap.size) (fun j _ => k - (intOf j).toNat)
      case atStart => exact ⟨0, Nat.zero_le _, rfl, HO.out, HBA.out, HPK.out, by simp⟩
      case round =>
        clear HO HBA HPK
        obtain ⟨m, hm, rfl, hown, hbl, hpt, hlo⟩ := hrel
        have hsz2 := hbl.size
        by_cases hlt2 : m < k
        · obtain ⟨ad', q, e, hab2, hqm, hq⟩ := HP1.out.at (k := m) (by omega)
          injection e with e
          subst e
          obtain ⟨c0, c1, c2, c3⟩ := (hq.below hbl hab2).plain
          obtain ⟨d0, d1, d2, d3⟩ := pth_head hpt
          have j1 : (0 : Int) ≤ (m : Int) := by omega
          have j3 : (m : Int) < 12 := by omega
          have j4 : (k : Int) < 12 := by omega
          have j2 : (m : Int) < (k : Int) := by omega
          have HCO : Hid (confAt ps k m = conf p q) := Lib.hid (by unfold confAt; rw [hpk, hqm])
          have hcc := fun x => impl_Conflict p q x
          simp only [Pth.val] at hcc
          have HBL2 := Lib.hid hbl
          have HO2 := Lib.hid (World.ownsRow.alloc hown (.cells #[.int .i64 q.id, .int .i64 q.kind, .int .i64 q.frm, .int .i64 q.to] 67))
          have HBA2 := Lib.hid (hbl.alloc hsz2 (.cells #[.int .i64 q.id, .int .i64 q.kind, .int .i64 q.frm, .int .i64 q.to] 67))
          have HPT := Lib.hid (hpt.below ((Below.refl wr.heap.size wr).alloc (Nat.le_refl _) (.cells #[.int .i64 q.id, .int .i64 q.kind, .int .i64 q.frm, .int .i64 q.to] 67)) hlo)
          clear hq hown hbl hpt
          go_wp2_with fail
          refine (hcc _).mono ?_
          rintro e w3 ⟨rfl, hb⟩
          have own3 := ownr_below HO2.out hb
          have HB3 := Lib.hid (HBA2.out.trans (hb.mono HBA2.out.size))
          have HP3 := Lib.hid (HPT.out.below hb (by simp; omega))
          have hs3 : wr.heap.size < w3.heap.size := by have := hb.size; simp at this; omega
          clear hb hcc HO2 HBA2 HPT c0 c1 c2 c3 d0 d1 d2 d3
          cases hcf : conf p q
          · have HN : Hid (rowSt ps k (m + 1) = rowSt ps k m) := Lib.hid (funext fun l => st_step_no hlt2 (HCO.out.trans hcf) l)
            have HO3 := Lib.hid own3
            clear own3 hcf
            go_wp2
            go_roundw
            case rel => exact ⟨m + 1, by omega, by go_num, by rw [HN.out]; exact HO3.out, HB3.out, HP3.out, by omega⟩
            case measure => simp [intOf]; omega
          · have HN : Hid (rowSt ps k (m + 1) = fun l => if l = m then rowSt ps k m m ||| 2 ^ k else if l = k then rowSt ps k m k ||| 2 ^ m else rowSt ps k m l) := Lib.hid (funext fun l => st_step_yes hlt2 (by omega) (HCO.out.trans hcf) l)
            have hkk := World.ownsRow.cellAt own3 (1 + k) (by omega)
            rw [xcells_row _ _ _ _ _ (by omega)] at hkk
            have hff := World.ownsRow.frozenAt own3 (1 + k)
            have hst := (World.ownsRow.stored own3 (1 + k) (.int .u16 ((rowSt ps k m k ||| 2 ^ m : Nat) : Int))).1
            rw [xcells_set _ _ _ _ _ _ (by omega)] at hst
            have ob := or_bit (rowSt_lt ps k m k) (show m < 12 by omega)
            have hmb := fun x => (impl_maskBit m x (by omega))
            have HST := Lib.hid hst
            have HO3 := Lib.hid own3
            have HN2 : Hid (rowSt ps k (m + 1) = fun l => if l = m then rowSt ps k m m ||| 2 ^ k else if l = k then rowSt ps k m k ||| 2 ^ m else rowSt ps k m l) := Lib.hid HN.out
            have hmb2 := Lib.hid (fun x => (impl_maskBit k x (by omega)))
            have ob2 := or_bit (rowSt_lt ps k m m) (show k < 12 by omega)
            have hkm : ¬ m = k := by omega
            have HFM : Hid ((if m = k then rowSt ps k m k ||| 2 ^ m else rowSt ps k m m) = rowSt ps k m m) := Lib.hid (if_neg hkm)
            have hkm2 : ∀ x : Nat, xcells (some ad) n c (fun l => if l = m then x else if l = k then rowSt ps k m k ||| 2 ^ m else rowSt ps k m l) = (xcells (some ad) n c (fun l => if l = k then rowSt ps k m k ||| 2 ^ m else rowSt ps k m l)).set (1 + m) (.int .u16 (x : Int)) := fun x => (xcells_set _ _ _ _ _ _ (by omega)).symm
            have hrow := xcells_row (some ad) n c (fun l => if l = k then rowSt ps k m k ||| 2 ^ m else rowSt ps k m l) m (by omega)
            simp only [if_neg hkm] at hrow
            clear own3 hcf hst HN hkm
            have HMB := Lib.hid hmb
            clear hmb
            have HOB2 := Lib.hid ob2
            have HKM := Lib.hid hkm2
            have HRW := Lib.hid hrow
            clear ob2 hkm2 hrow HO3 HFM
            generalize rowSt ps k m k ||| 2 ^ m = rk at *
            generalize rowSt ps k m m ||| 2 ^ k = rm at *
            generalize (2 : Nat) ^ m = bm at *
            generalize (2 : Nat) ^ k = bk at *
            go_wp2
            go_still_tail 9, (by kernel_rfl)
            refine wpStill_step (fun K hK => ?_)
            go_simp
            have hcc := (HMB.out w3.drew).mono fun e w' h => (⟨h.1, h.2.symm⟩ : e = .returned (.int .u16 (bm : Int)) ∧ w' = w3.drew)
            refine ⟨Value.int .u16 (bm : Int), hcc, ?_⟩
            refine hK _ ?_
            clear hcc hK K
            repeat still_step
            try refine wpStill_nil ?_
            change wpList _ _ _ _ _ w3.drew
            go_wp2
            obtain ⟨w4, hw4⟩ : ∃ w4, w4 = (w3.setCell ⟨w1.heap.size, 1 + k, none⟩ (.int .u16 (rk : Int))).drew := ⟨_, rfl⟩
            have own4 : w4.ownsRow w1.heap.size 76 1 (.slice (some ⟨w1.heap.size, 0, none⟩) 13 13) 13 (xcells (some ad) n c fun l => if l = k then rk else rowSt ps k m l) := by rw [hw4]; exact HST.out
            have HB4 : Hid (Below w1.heap.size w1 w4) := Lib.hid (by rw [hw4]; exact (HB3.out.setCell (Nat.le_refl _) _).drew)
            have HP4 : Hid (PthAt w4 ⟨wo.heap.size, 0, none⟩ p) := Lib.hid (by rw [hw4]; exact HP3.out.keep (Below.heap_setCell _ _ _ _ (by simp; omega)))
            have hs4 : wr.heap.size < w4.heap.size := by rw [hw4]; simp; omega
            rw [← hw4]
            clear hw4 HST HB3 HP3 hs3 hkk hff HMB ob
            have ob := HOB2.out
            have hkk := World.ownsRow.cellAt own4 (1 + m) (by omega)
            rw [HRW.out] at hkk
            have hff := World.ownsRow.frozenAt own4 (1 + m)
            have hst := (World.ownsRow.stored own4 (1 + m) (.int .u16 (rm : Int))).1
            rw [← HKM.out] at hst
            have HST := Lib.hid hst
            clear hst own4
            go_still_tail 9, (by kernel_rfl)
            refine wpStill_step (fun K hK => ?_)
            go_simp
            have hcc := (hmb2.out w4.drew).mono fun e w' h => (⟨h.1, h.2.symm⟩ : e = .returned (.int .u16 (bk : Int)) ∧ w' = w4.drew)
            refine ⟨Value.int .u16 (bk : Int), hcc, ?_⟩
            refine hK _ ?_
            clear hcc hK K
            repeat still_step
            try refine wpStill_nil ?_
            change wpList _ _ _ _ _ w4.drew
            go_wp2
            go_roundw
            case rel => exact ⟨m + 1, by omega, by go_num, by rw [HN2.out]; exact HST.out, (HB4.out.setCell (Nat.le_refl _) _).drew, HP4.out.keep (Below.heap_setCell _ _ _ _ (by simp; omega)), by simp; omega⟩
            case measure => simp [intOf]; omega
        · obtain rfl : m = k := by omega
          have HN : Hid (rowSt ps m m = rowSt ps (m + 1) 0) := Lib.hid (funext fun l => st_next l)
          go_wp2
          go_roundw
          case rel => exact ⟨m + 1, by omega, by go_num, by rw [← HN.out]; exact hown, hbl⟩
          case measure => simp [intOf]; omega
    · obtain rfl : k = n := by omega
      have hRA := range_own hown
      have hRb : wr.heap[w.heap.size]? = w1.heap[w.heap.size]? := hbl.block _ hR
      have hRc := hRb.trans hRz.out
      have hth := there_block hRc 13 rfl
      have HBL := Lib.hid hbl
      clear hown hbl hRb hRc
      go_wp2_with
        (first
          | ((with_reducible show wpList _ _ _ _ _ _); refine wpList_load_mid rfl 76 _ rfl w1.heap.size 0 rfl (xcells A k c (rowSt ps k 0)) _ hRA Tryz.underlying76 rfl (by rw [xcells_length]; exact info_cross) ?_)
          | ((with_reducible show wpList _ _ _ _ _ _); refine wpList_store_mid rfl 76 _ _ rfl w.heap.size 0 _ rfl rfl hth info_cross (all_oneCell_toArray (xcells_one _ _ _ _)) ?_))
      refine bodyPost_ret (v := .tuple #[.agg (xcells A k c (rowSt ps k 0)).toArray, .bool true]) (by
        have hload := run_loadVar_mid (P := Tryz.prog) (wr.setCells w.heap.size 0 (xcells A k c (rowSt ps k 0))) w.heap.size 0 76 (xcells A k c (rowSt ps k 0)) _ (World.rangeAt_setCells_same _ _ _ _ (by rw [xcells_length]; exact hth)) Tryz.underlying76 rfl (by rw [xcells_length]; exact info_cross)
        rw [results_cell_tmp rfl]
        simp [asAddr, hload, Result.andThen]) rfl ⟨rfl, ?_⟩
      exact below_setCells _ (Nat.le_refl _) _ _ _ (HB1.out.trans (HBL.out.mono HB1.out.size))
theorem zero_crossing (A : Option Addr) : xcells none 0 0 (fun _ => 0) = [.slice none 0 0, .int .u16 0, .int .u16 0, .int .u16 0, .int .u16 0, .int .u16 0, .int .u16 0, .int .u16 0, .int .u16 0, .int .u16 0, .int .u16 0, .int .u16 0, .int .u16 0] := rfl
/-- what crossingOf answers. -/
def crossV (A : Option Addr) (n c : Nat) (ps : List Pth) : Value := if arePs ps then .tuple #[.agg (xcells A n c (rowSt ps n 0)).toArray, .bool true] else .tuple #[.agg (xcells none 0 0 fun _ => 0).toArray, .bool false]
theorem impl_crossingOf_no (A : Option Addr) (n c B : Nat) (ps : List Pth) (w : World) (h : PthsAt w B A n ps) (hB : B ≤ w.heap.size) (hn : n ≤ 4294967296) (hp : arePs ps = false) :
    Calls Tryz.prog 91 #[.slice A n c] w fun e w' => e = .returned (.tuple #[.agg (xcells none 0 0 fun _ => 0).toArray, .bool false]) ∧ Below w.heap.size w w' := by
  have HPA := Lib.hid hp
  have hba : Below w.heap.size w (w.alloc (.cells #[.slice none 0 0, .int .u16 0, .int .u16 0, .int .u16 0, .int .u16 0, .int .u16 0, .int .u16 0, .int .u16 0, .int .u16 0, .int .u16 0, .int .u16 0, .int .u16 0, .int .u16 0] 76)) := (Below.refl _ _).alloc (Nat.le_refl _) _
  have HA := Lib.hid ((h.below (hba.mono hB)).up (B' := (w.alloc (.cells #[.slice none 0 0, .int .u16 0, .int .u16 0, .int .u16 0, .int .u16 0, .int .u16 0, .int .u16 0, .int .u16 0, .int .u16 0, .int .u16 0, .int .u16 0, .int .u16 0, .int .u16 0] 76)).heap.size) (by simp; omega))
  have HB0 := Lib.hid hba
  clear hba hp
  go_enter Tryz.func91, Tryz.ntmps91
  go_wp2_with fail
  refine (impl_ArePaths A n c _ ps _ HA.out (Nat.le_refl _) hn).mono ?_
  rw [HPA.out]
  rintro e w1 ⟨rfl, hb⟩
  have HB1 := Lib.hid (HB0.out.trans (hb.mono HB0.out.size))
  have hRz := (hb.block w.heap.size (by simp)).trans (heap_alloc_new w (.cells #[.slice none 0 0, .int .u16 0, .int .u16 0, .int .u16 0, .int .u16 0, .int .u16 0, .int .u16 0, .int .u16 0, .int .u16 0, .int .u16 0, .int .u16 0, .int .u16 0, .int .u16 0] 76))
  have hth := there_block hRz 13 rfl
  clear hb hRz
  go_wp2_with ((with_reducible show wpList _ _ _ _ _ _); refine wpList_store_mid rfl 76 _ _ rfl w.heap.size 0 (xcells none 0 0 fun _ => 0).toArray rfl rfl hth info_cross (all_oneCell_toArray (xcells_one _ _ _ _)) ?_)
  refine bodyPost_ret (v := .tuple #[.agg (xcells none 0 0 fun _ => 0).toArray, .bool false]) (by
        have hload := run_loadVar_mid (P := Tryz.prog) (w1.setCells w.heap.size 0 (xcells none 0 0 fun _ => 0)) w.heap.size 0 76 (xcells none 0 0 fun _ => 0) _ (World.rangeAt_setCells_same _ _ _ _ (by rw [xcells_length]; exact hth)) Tryz.underlying76 rfl (by rw [xcells_length]; exact info_cross)
        rw [results_cell_tmp rfl]
        simp [asAddr, hload, Result.andThen]) rfl ⟨rfl, ?_⟩
  exact below_setCells _ (Nat.le_refl _) _ _ _ HB1.out
theorem impl_crossingV (A : Option Addr) (n c B : Nat) (ps : List Pth) (w : World) (h : PthsAt w B A n ps) (hB : B ≤ w.heap.size) (hn : n ≤ c ∧ c ≤ maxLen) (hn2 : n ≤ 4294967296) :
    Calls Tryz.prog 91 #[.slice A n c] w fun e w' => e = .returned (crossV A n c ps) ∧ Below w.heap.size w w' := by
  unfold crossV
  cases hp : arePs ps
  · exact impl_crossingOf_no A n c B ps w h hB hn2 hp
  · exact impl_crossingOf A n c B ps w h hB hn hp
end Go.Proofs.YtlpkafhapmkkfaaGreatDoor
