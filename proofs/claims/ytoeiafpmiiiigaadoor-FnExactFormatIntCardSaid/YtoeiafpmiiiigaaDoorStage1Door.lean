/- The walks of chapter 1's laws that meet strconv. -/
import Derived.Test.YtoeiafpmiiiigaaDoorTables
import Derived.Test.YtoeiafpmiiiigaaDoorDraw1
namespace Go.Proofs.YtoeiafpmiiiigaaDoor
open Go.RowKit
set_option linter.unusedVariables false

theorem walk_FnExactFormatInt (w : World) (n : Int) (wn : (Lit.int .i64 n).wf = true) (ht : Tabs w) :
    Calls Tryd.prog 4 #[.int .i64 n] w fun e w' => e = .returned (.bool true) ∧ Below w.heap.size w w' := by
  obtain ⟨h1, h2⟩ := i64_of_wf wn
  have HT := Lib.hid ht
  clear ht wn
  go_enter Tryd.func4, Tryd.ntmps4
  go_wp2_with fail
  refine (spec_FormatInt n _ h1 h2).mono ?_
  rintro e w1 ⟨rfl, hb1⟩
  go_wp2_with fail
  refine (impl_FormatInt n _ h1 h2 (HT.out.below hb1 (Nat.le_refl _))).mono ?_
  rintro e w2 ⟨rfl, hb2⟩
  go_wp2
  go_ret
  exact ⟨rfl, hb1.trans (hb2.mono hb1.size)⟩
theorem laws_big (A : Option Addr) (n c : Nat) (w : World) (hn : n ≤ 9223372036854775807) :
    Calls Tryd.prog 5 #[.slice A n c] w fun e w' => e = .returned (.bool (decide (1048576 < n))) ∧ w = w' := by
  by_cases h : 1048576 < n
  all_goals
    go_enter Tryd.func5, Tryd.ntmps5
    go_wp2
    go_ret
    exact ⟨by simp; omega, rfl⟩
theorem parse_s (s : ByteArray) : ∃ (v : Int) (ok : Bool), parseR s.toList = .tuple #[.int .i64 v, .bool ok] ∧ (ok = true → fmtI v = s.toList ∧ 0 ≤ v ∧ v ≤ 1000000000000) := by
  cases h : canon s.toList
  · exact ⟨_, _, parseR_no h, by simp⟩
  · obtain ⟨h1, h2, h3, h4⟩ := (canon_iff _).1 h
    exact ⟨_, _, parseR_yes h, fun _ => ⟨h4, by omega, by omega⟩⟩
theorem parse_m (m : Int) : ∃ (v : Int) (ok : Bool), parseR (fmtI m) = .tuple #[.int .i64 v, .bool ok] ∧ ((m < 0 ∨ 1000000000000 < m) ∧ ok = false ∨ (0 ≤ m ∧ m ≤ 1000000000000) ∧ ok = true ∧ v = m) := by
  by_cases h : m < 0 ∨ 1000000000000 < m
  · exact ⟨_, _, parseR_no (canon_fmt_no m h), .inl ⟨h, rfl⟩⟩
  · obtain ⟨h1, h2⟩ := canon_fmt_yes m (by omega) (by omega)
    exact ⟨_, _, parseR_yes h1, .inr ⟨by omega, rfl, h2⟩⟩
theorem ceilDiv_out {a b : Int} (h : b < 1 ∨ 1000000000000 < b) : ceilDiv a b = 0 := by
  unfold ceilDiv
  rw [if_neg]
  simp [inB]
  omega
theorem modI_out {a b : Int} (h : b < 1 ∨ 1000000000000 < b) : modI a b = 0 := by
  unfold modI
  rw [if_neg]
  simp [inB]
  omega
theorem ceilDiv_out2 {a b : Int} (h : a < 0 ∨ 1000000000000 < a) : ceilDiv a b = 0 := by
  unfold ceilDiv
  rw [if_neg]
  simp [inB]
  omega
theorem ceilDiv_in {a b : Int} (h1 : 0 ≤ a) (h2 : a ≤ 1000000000000) (h3 : 1 ≤ b) (h4 : b ≤ 1000000000000) : a ≤ ceilDiv a b * b ∧ ceilDiv a b * b < a + b := by
  unfold ceilDiv
  rw [if_pos (by simp [inB]; omega)]
  have e := Int.mul_ediv_add_emod (a + b - 1) b
  have e1 := Int.emod_nonneg (a + b - 1) (show b ≠ 0 by omega)
  have e2 := Int.emod_lt_of_pos (a + b - 1) (show 0 < b by omega)
  rw [Int.mul_comm] at e
  omega
theorem modI_in {a b : Int} (h3 : 1 ≤ b) (h4 : b ≤ 1000000000000) : 0 ≤ modI a b ∧ modI a b < b ∧ (a.tmod b - modI a b).tmod b = 0 ∧ -b < a.tmod b ∧ a.tmod b < b := by
  unfold modI
  rw [if_pos (by simp [inB]; omega)]
  obtain ⟨m1, m2, m3, m4⟩ := mod_of_tmod a b h3
  refine ⟨Int.emod_nonneg a (by omega), Int.emod_lt_of_pos a (by omega), ?_, m3, m4⟩
  by_cases h : a.tmod b < 0
  · rw [← m1 h, show a.tmod b - (a.tmod b + b) = -b from by omega, Int.neg_tmod, Int.tmod_self]
    rfl
  · rw [← m2 (by omega), Int.sub_self]
    exact Int.zero_tmod b
theorem modI_neq {a b : Int} (h3 : 1 ≤ b) (h4 : b ≤ 1000000000000) : (((wrap64 (a.tmod b - modI a b)).tmod b != 0) = false ∧ ((a.tmod b - modI a b).tmod b != 0) = false) ∧
    (0 ≤ a → ((wrap64 (a % b - modI a b)).tmod b != 0) = false ∧ ((a % b - modI a b).tmod b != 0) = false) := by
  obtain ⟨g1, g2, g3, g4, g5⟩ := modI_in (a := a) h3 h4
  have h : ((wrap64 (a.tmod b - modI a b)).tmod b != 0) = false ∧ ((a.tmod b - modI a b).tmod b != 0) = false := by
    rw [IntWalk.wrap64_in _ (by omega), g3]
    exact ⟨rfl, rfl⟩
  exact ⟨h, fun ha => by rwa [Int.tmod_eq_emod_of_nonneg ha] at h⟩
theorem str_size (l : List UInt8) : (⟨l.toArray⟩ : ByteArray).size = l.length := by show l.toArray.size = _; simp

set_option maxHeartbeats 4000000 in
theorem walk_FnIntegers (W : World) (A : Option Addr) (n c : Nat) (zs : List Int) (ha : IntsAt .u8 W W.heap.size A n zs ∧ (∀ z ∈ zs, (Lit.int .u8 z).wf = true) ∧ n ≤ c ∧ c ≤ maxLen) (ht : Tabs W) :
    Calls Tryd.prog 3 #[.slice A n c] W fun e w' => e = .returned (.bool true) ∧ Below W.heap.size W w' := by
  obtain ⟨ha1, ha2, ha3, ha4⟩ := ha
  unfold maxLen at ha4
  have hb : Bytes W W.heap.size A n zs := ⟨ha1, fun z hz => u8_of_wf (ha2 z hz)⟩
  have HB := Lib.hid hb
  have HT := Lib.hid ht
  clear ha1 ha2 hb ht
  by_cases hbig : 1048576 < n
  · go_enter Tryd.func3, Tryd.ntmps3
    go_wp2_with (go_at_call 5; refine (laws_big _ _ _ _ (by omega)).mono ?_; rintro e w' ⟨rfl, rfl⟩)
    go_ret
    exact ⟨rfl, Below.refl _ _⟩
  · go_enter Tryd.func3, Tryd.ntmps3
    go_wp2_with fail
    refine (laws_big _ _ _ _ (by omega)).mono ?_
    rintro e w' ⟨rfl, rfl⟩
    go_wp2_with fail
    refine (spec_DrawParseInt A n c _ zs _ HB.out (Nat.le_refl _) (by omega)).mono ?_
    rintro e w1 ⟨s, hs, rfl, b1⟩
    go_wp2_with fail
    refine (impl_ParseInt s _ (by omega)).mono ?_
    rintro e w2 ⟨rfl, b2⟩
    have b2 := b1.trans (b2.mono b1.size)
    obtain ⟨v, ok, hp, hok⟩ := parse_s s
    rw [hp]
    clear hp
    go_wp2_with fail
    refine (spec_DrawFormatInt A n c _ zs _ (HB.out.below b2) b2.size (by omega)).mono ?_
    rintro e w3 ⟨m, ⟨hm1, hm2⟩, rfl, b3⟩
    have b3 := b2.trans (b3.mono b2.size)
    go_wp2_with fail
    refine (impl_FormatInt m _ hm1 hm2 (HT.out.below b3 (Nat.le_refl _))).mono ?_
    rintro e w4 ⟨rfl, b4⟩
    have b4 := b3.trans (b4.mono b3.size)
    go_wp2_with fail
    refine (impl_ParseInt _ _ (by rw [str_size]; have := fmtI_length m (by omega); omega)).mono ?_
    rintro e w5 ⟨rfl, b5⟩
    have b5 := b4.trans (b5.mono b4.size)
    rw [ByteArray.toList_mk]
    obtain ⟨k, fine, hp, hfine⟩ := parse_m m
    rw [hp]
    clear hp
    go_wp2_with fail
    refine (spec_DrawCeilDiv A n c _ zs _ (HB.out.below b5) b5.size (by omega)).mono ?_
    rintro e w6 ⟨a, b, ⟨hy1, hy2⟩, ⟨hz1, hz2⟩, rfl, b6⟩
    have b6 := b5.trans (b6.mono b5.size)
    go_wp2_with fail
    refine (impl_CeilDiv a b _).mono ?_
    rintro e w' ⟨rfl, rfl⟩
    go_wp2_with fail
    refine (impl_Mod a b _).mono ?_
    rintro e w' ⟨rfl, rfl⟩
    clear b1 b2 b3 b4 b5
    have hend : ∀ P : Prop, ((b < 1 ∨ 1000000000000 < b) → P) → ((1 ≤ b ∧ b ≤ 1000000000000) → (a < 0 ∨ 1000000000000 < a) → P) → ((1 ≤ b ∧ b ≤ 1000000000000) → (0 ≤ a ∧ a ≤ 1000000000000) → P) → P := by
      intro P h1 h2 h3
      by_cases hb : b < 1 ∨ 1000000000000 < b
      · exact h1 hb
      · by_cases ha : a < 0 ∨ 1000000000000 < a
        · exact h2 (by omega) ha
        · exact h3 (by omega) (by omega)
    have HT6 := Lib.hid (HT.out.below b6 (Nat.le_refl _))
    have hv : ok = true → 0 ≤ v ∧ v ≤ 1000000000000 := fun h => (hok h).2
    have hse : ok = true → (!(fmtI v) == s.toList) = false := fun h => by simp [(hok h).1]
    have hf3 : (m < 0 ∧ fine = false) ∨ (1000000000000 < m ∧ fine = false) ∨ ((0 ≤ m ∧ m ≤ 1000000000000) ∧ fine = true ∧ k = m) := by
      rcases hfine with ⟨h1 | h1, h2⟩ | h
      · exact .inl ⟨h1, h2⟩
      · exact .inr (.inl ⟨h1, h2⟩)
      · exact .inr (.inr h)
    clear hok hfine HB HT
    refine hend _ (fun hbo => ?_) (fun hbi hao => ?_) (fun hbi hai => ?_)
    all_goals clear hend
    · rw [ceilDiv_out hbo, modI_out hbo]
      rcases hf3 with ⟨hr, rfl⟩ | ⟨hr, rfl⟩ | ⟨⟨hr1, hr2⟩, rfl, rfl⟩
      all_goals
        cases ok
        · clear hv hse
          go_wp2
          all_goals
            go_ret
            exact ⟨rfl, b6⟩
        · obtain ⟨hv1, hv2⟩ := hv rfl
          have hse := hse rfl
          clear hv
          go_wp2_with (go_at_call 9; refine (impl_FormatInt v _ (by omega) (by omega) HT6.out).mono ?_; rintro e w7 ⟨rfl, b7⟩)
          all_goals
            go_ret
            exact ⟨rfl, b6.trans (b7.mono b6.size)⟩
    · obtain ⟨hb1, hb2⟩ := hbi
      obtain ⟨g1, g2, g3, g4, g5⟩ := modI_in (a := a) hb1 hb2
      obtain ⟨⟨n1, n1'⟩, n2⟩ := modI_neq (a := a) hb1 hb2
      clear g3
      rw [ceilDiv_out2 hao]
      generalize modI a b = r at *
      rcases hao with hao | hao
      · clear n2
        rcases hf3 with ⟨hr, rfl⟩ | ⟨hr, rfl⟩ | ⟨⟨hr1, hr2⟩, rfl, rfl⟩
        all_goals
          cases ok
          · clear hv hse
            go_wp2
            all_goals
              go_ret
              exact ⟨rfl, b6⟩
          · obtain ⟨hv1, hv2⟩ := hv rfl
            have hse := hse rfl
            clear hv
            go_wp2_with (go_at_call 9; refine (impl_FormatInt v _ (by omega) (by omega) HT6.out).mono ?_; rintro e w7 ⟨rfl, b7⟩)
            all_goals
              go_ret
              exact ⟨rfl, b6.trans (b7.mono b6.size)⟩
      · obtain ⟨n2, n2'⟩ := n2 (by omega)
        rcases hf3 with ⟨hr, rfl⟩ | ⟨hr, rfl⟩ | ⟨⟨hr1, hr2⟩, rfl, rfl⟩
        all_goals
          cases ok
          · clear hv hse
            go_wp2
            all_goals
              go_ret
              exact ⟨rfl, b6⟩
          · obtain ⟨hv1, hv2⟩ := hv rfl
            have hse := hse rfl
            clear hv
            go_wp2_with (go_at_call 9; refine (impl_FormatInt v _ (by omega) (by omega) HT6.out).mono ?_; rintro e w7 ⟨rfl, b7⟩)
            all_goals
              go_ret
              exact ⟨rfl, b6.trans (b7.mono b6.size)⟩
    · obtain ⟨hb1, hb2⟩ := hbi
      obtain ⟨ha1, ha2⟩ := hai
      obtain ⟨g1, g2, g3, g4, g5⟩ := modI_in (a := a) hb1 hb2
      obtain ⟨n2, n2'⟩ := (modI_neq (a := a) hb1 hb2).2 ha1
      clear g3
      obtain ⟨q1, q2⟩ := ceilDiv_in ha1 ha2 hb1 hb2
      have q3 : 0 ≤ ceilDiv a b * b ∧ ceilDiv a b * b ≤ 2000000000000 := by omega
      obtain ⟨q3, q4⟩ := q3
      have q5 : ceilDiv a b * b - a < b := by omega
      generalize modI a b = r at *
      generalize ceilDiv a b = q at *
      rcases hf3 with ⟨hr, rfl⟩ | ⟨hr, rfl⟩ | ⟨⟨hr1, hr2⟩, rfl, rfl⟩
      all_goals
        cases ok
        · clear hv hse
          go_wp2
          all_goals
            go_ret
            exact ⟨rfl, b6⟩
        · obtain ⟨hv1, hv2⟩ := hv rfl
          have hse := hse rfl
          clear hv
          go_wp2_with (go_at_call 9; refine (impl_FormatInt v _ (by omega) (by omega) HT6.out).mono ?_; rintro e w7 ⟨rfl, b7⟩)
          all_goals
            go_ret
            exact ⟨rfl, b6.trans (b7.mono b6.size)⟩
end Go.Proofs.YtoeiafpmiiiigaaDoor
