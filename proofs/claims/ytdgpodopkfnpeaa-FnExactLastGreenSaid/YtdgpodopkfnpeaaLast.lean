/- Chapter 31: LastGreen: program and model. -/
import Derived.Test.YtdgpodopkfnpeaaInts
import Derived.Test.YtdgpodopkfnpeaaFlat
import Derived.Test.YtdgpodopkfnpeaaSSM
import Derived.WalkMore
import Derived.ScopeJumps
namespace Go.Proofs.Ytdgpodopkfnpeaa
open Go.RowKit
set_option linter.unusedVariables false

/-- whether the light with an index is there and green. -/
def grnAt (zs : List Int) (i : Int) : Bool := inB i 0 ((zs.length : Int) - 1) && decide (zs.getD i.toNat 0 = 1)
/-- the last of the first k lists with this light green. -/
def lastK (zss : List (List Int)) (i : Int) : Nat → Int
  | 0 => -1
  | k + 1 => if grnAt (zss.getD k []) i then (k : Int) else lastK zss i k
def lastG (zss : List (List Int)) (i : Int) : Int := lastK zss i zss.length
theorem lastK_yes {zss : List (List Int)} {i : Int} {k : Nat} (h : grnAt (zss.getD k []) i = true) : lastK zss i (k + 1) = k := by show (if _ then _ else _) = _; rw [h]; rfl
theorem lastK_no {zss : List (List Int)} {i : Int} {k : Nat} (h : grnAt (zss.getD k []) i = false) : lastK zss i (k + 1) = lastK zss i k := by show (if _ then _ else _) = _; rw [h]; rfl
theorem lastK_bound (zss : List (List Int)) (i : Int) : ∀ k : Nat, -1 ≤ lastK zss i k ∧ lastK zss i k < k
  | 0 => by simp [lastK]
  | k + 1 => by
    have := lastK_bound zss i k
    cases h : grnAt (zss.getD k []) i
    · rw [lastK_no h]; omega
    · rw [lastK_yes h]; omega
theorem grnAt_out {zs : List Int} {i : Int} (h : inB i 0 ((zs.length : Int) - 1) = false) : grnAt zs i = false := by unfold grnAt; rw [h]; rfl
theorem grnAt_in {zs : List Int} {j : Nat} (h : inB (j : Int) 0 ((zs.length : Int) - 1) = true) : grnAt zs j = decide (zs.getD j 0 = 1) := by unfold grnAt; rw [h]; simp
theorem impl_showsGreen (A : Option Addr) (n c B : Nat) (zs : List Int) (i : Int) (w : World) (h : IntsAt .i64 w B A n zs) (hB : B ≤ w.heap.size) (hn : n ≤ 4294967296) :
    Calls Try.prog 97 #[.slice A n c, .int .i64 i] w fun e w' => e = .returned (.bool (grnAt zs i)) ∧ w = w' := by
  have hl := h.1
  subst hl
  cases hin : inB i 0 ((zs.length : Int) - 1)
  · have HR := Lib.hid (grnAt_out hin)
    have H := Lib.hid hin
    clear hin
    go_enter Try.func97, Try.ntmps97
    go_wp2_with (go_at_call 110; refine (impl_InRange _ _ _ _).mono ?_; rintro e w' ⟨rfl, rfl⟩; rw [H.out])
    go_ret
    exact ⟨by rw [HR.out]; rfl, rfl⟩
  · obtain ⟨l1, l2⟩ := inB_t hin
    obtain ⟨j, rfl⟩ : ∃ j : Nat, i = j := ⟨i.toNat, by omega⟩
    have HR := Lib.hid (grnAt_in hin)
    have H := Lib.hid hin
    obtain ⟨ad, rfl, hab, hcell⟩ := h.2 (by omega)
    have hc := hcell j (by omega)
    have j1 : (0 : Int) ≤ (j : Int) := by omega
    have j2 : (j : Int) < (zs.length : Int) := by omega
    clear hin hcell
    generalize zs.getD j 0 = y at *
    by_cases hy : y = 1
    · subst hy
      go_enter Try.func97, Try.ntmps97
      go_wp2_with (go_at_call 110; refine (impl_InRange _ _ _ _).mono ?_; rintro e w' ⟨rfl, rfl⟩; rw [H.out])
      go_ret
      exact ⟨by rw [HR.out]; rfl, rfl⟩
    · have e1 : (y == 1) = false := by simpa using hy
      go_enter Try.func97, Try.ntmps97
      go_wp2_with (go_at_call 110; refine (impl_InRange _ _ _ _).mono ?_; rintro e w' ⟨rfl, rfl⟩; rw [H.out])
      go_ret
      exact ⟨by rw [HR.out, decide_eq_false hy]; rfl, rfl⟩
set_option maxHeartbeats 1000000 in
set_option maxRecDepth 1000000 in
theorem impl_LastGreen (A : Option Addr) (n c B : Nat) (zss : List (List Int)) (i : Int) (w : World) (h : SSAt w B A n zss) (hB : B ≤ w.heap.size) (hn : n ≤ 4294967296) (hm : ∀ j, j < n → (zss.getD j []).length ≤ 4294967296) :
    Calls Try.prog 52 #[.slice A n c, .int .i64 i] w fun e w' => e = .returned (.int .i64 (lastG zss i)) ∧ Below w.heap.size w w' := by
  have hl := h.1
  have HG : Hid (lastG zss i = lastK zss i n) := Lib.hid (by unfold lastG; rw [hl])
  go_enter Try.func52, Try.ntmps52
  go_wp2
  refine wp_scope_jumps 0 (fun a' w' => w' = w ∧ ∃ (k : Nat) (u6 u7 u8 u9 u10 u11 u12 u13 u14 u15 u16 u17 u18 u19 u20 u21 : Value), k ≤ n ∧ a' = { tmps := #[.slice A n c, .int .i64 i, undef, undef, .int .i64 0, .int .i64 k, u6, u7, u8, u9, u10, u11, u12, u13, u14, u15, u16, u17, u18, u19, u20, u21], defers := [] } ∧ lastK zss i n = lastK zss i k) (fun a' _ => (intOf (a'.tmps.getD 5 undef)).toNat) rfl ?_ ?_
  · rcases Nat.eq_zero_or_pos n with h0 | hpos
    · subst h0
      go_wp2
      go_step3
      go_wp2
      try simp only [Exit.jump]
      go_ret
      exact ⟨by rw [HG.out]; rfl, Below.refl _ _⟩
    · obtain ⟨j, rfl⟩ : ∃ j, n = j + 1 := ⟨n - 1, by omega⟩
      obtain ⟨ad, A', m, c', rfl, hab, hc, hi, hmc, hnil⟩ := h.at (j := j) (by omega)
      have hmk := hm j (by omega)
      have hml := hi.1
      have i1 : (0 : Int) ≤ (j : Int) := by omega
      have i2 : (j : Int) < (((j + 1 : Nat)) : Int) := by omega
      have hcc := impl_showsGreen A' m c' B (zss.getD j []) i w hi hB (by omega)
      have HY := Lib.hid (lastK_yes (zss := zss) (i := i) (k := j))
      have HN := Lib.hid (lastK_no (zss := zss) (i := i) (k := j))
      generalize grnAt (zss.getD j []) i = v at *
      clear hi
      go_wp2
      go_step3
      go_wp2_with fail
      refine hcc.mono ?_
      rintro e w1 ⟨rfl, rfl⟩
      clear hcc
      cases v
      · have HS := Lib.hid (HN.out rfl)
        clear HY HN
        go_wp2
        go_step3
        exact ⟨rfl, rfl, j, _, _, _, _, _, _, _, _, _, _, _, _, _, _, _, _, by omega, rfl, HS.out⟩
      · have HS := Lib.hid (HY.out rfl)
        clear HY HN
        go_wp2
        try simp only [Exit.jump]
        go_ret
        exact ⟨by rw [HG.out, HS.out]; try rfl, Below.refl _ _⟩
  · rintro a' w' ⟨rfl, k, u6, u7, u8, u9, u10, u11, u12, u13, u14, u15, u16, u17, u18, u19, u20, u21, hk, rfl, hsame⟩
    have HK := Lib.hid hsame
    clear hsame
    rcases Nat.eq_zero_or_pos k with h0 | hpos
    · subst h0
      go_wp2
      try simp only [Exit.jump]
      go_ret
      exact ⟨by rw [HG.out, HK.out]; rfl, Below.refl _ _⟩
    · obtain ⟨j, rfl⟩ : ∃ j, k = j + 1 := ⟨k - 1, by omega⟩
      obtain ⟨ad, A', m, c', rfl, hab, hc, hi, hmc, hnil⟩ := h.at (j := j) (by omega)
      have hmk := hm j (by omega)
      have hml := hi.1
      have i1 : (0 : Int) ≤ (j : Int) := by omega
      have i2 : (j : Int) < (n : Int) := by omega
      have hcc := impl_showsGreen A' m c' B (zss.getD j []) i _ hi hB (by omega)
      have HY := Lib.hid (lastK_yes (zss := zss) (i := i) (k := j))
      have HN := Lib.hid (lastK_no (zss := zss) (i := i) (k := j))
      generalize grnAt (zss.getD j []) i = v at *
      clear hi
      go_wp2_with fail
      refine hcc.mono ?_
      rintro e w1 ⟨rfl, rfl⟩
      clear hcc
      cases v
      · have HS := Lib.hid (HN.out rfl)
        clear HY HN
        go_wp2
        go_step3
        exact ⟨rfl, ⟨rfl, j, _, _, _, _, _, _, _, _, _, _, _, _, _, _, _, _, by omega, rfl, by rw [HK.out, HS.out]⟩, by simp [intOf]⟩
      · have HS := Lib.hid (HY.out rfl)
        clear HY HN
        go_wp2
        try simp only [Exit.jump]
        go_ret
        exact ⟨by rw [HG.out, HK.out, HS.out]; try rfl, Below.refl _ _⟩
set_option maxHeartbeats 1000000 in
theorem spec_LastGreen (A : Option Addr) (n c B : Nat) (zss : List (List Int)) (i : Int) (w : World) (h : SSAt w B A n zss) (hB : B ≤ w.heap.size) (hn : n ≤ 4294967296) (hm : ∀ j, j < n → (zss.getD j []).length ≤ 4294967296) :
    Calls Try.prog 50 #[.slice A n c, .int .i64 i] w fun e w' => e = .returned (.int .i64 (lastG zss i)) ∧ Below w.heap.size w w' := by
  have hl := h.1
  have HG : Hid (lastG zss i = lastK zss i n) := Lib.hid (by unfold lastG; rw [hl])
  go_enter Try.func50, Try.ntmps50
  go_wp2
  go_loopw [5, 6] (fun x s wr => ∃ k : Nat, k ≤ n ∧ s = .int .i64 k ∧ x = .int .i64 (lastK zss i k) ∧ Below w.heap.size w wr) (fun _ s _ => n - (intOf s).toNat)
  case atStart => exact ⟨0, Nat.zero_le _, rfl, rfl, Below.refl _ _⟩
  case round =>
    obtain ⟨k, hk, rfl, rfl, hbl⟩ := hrel
    by_cases hlt : k < n
    · obtain ⟨ad, A', m, c', rfl, hab, hc, hi, hmc, hnil⟩ := h.at hlt
      have hcw := (hbl.cell (by omega)).trans hc
      have hiw := hi.keep (w' := wr) (fun p hp => hbl.cell (by omega))
      have hmk := hm k (by omega)
      have hml := hi.1
      have i1 : (0 : Int) ≤ (k : Int) := by omega
      have i2 : (k : Int) < (n : Int) := by omega
      have HY := Lib.hid (lastK_yes (zss := zss) (i := i) (k := k))
      have HN := Lib.hid (lastK_no (zss := zss) (i := i) (k := k))
      generalize zss.getD k [] = zs at *
      subst hml
      clear hi hc
      cases hin : inB i 0 ((zs.length : Int) - 1)
      · have HS := Lib.hid (HN.out (grnAt_out hin))
        have H := Lib.hid hin
        clear hin HY HN
        go_wp2_with (go_at_call 66; refine (spec_l1In _ _ _ _).mono ?_; rintro e w' ⟨rfl, rfl⟩; rw [H.out])
        go_roundw
        case rel => exact ⟨k + 1, by omega, by go_num, by rw [HS.out], hbl⟩
        case measure => simp [intOf]; omega
      · obtain ⟨l1, l2⟩ := inB_t hin
        obtain ⟨j, rfl⟩ : ∃ j : Nat, i = j := ⟨i.toNat, by omega⟩
        have hgr := grnAt_in hin
        have H := Lib.hid hin
        obtain ⟨ad2, rfl, hab2, hcell⟩ := hiw.2 (by omega)
        have hc2 := hcell j (by omega)
        have j1 : (0 : Int) ≤ (j : Int) := by omega
        have j2 : (j : Int) < (zs.length : Int) := by omega
        clear hin hcell hiw
        generalize zs.getD j 0 = y at *
        by_cases hy : y = 1
        · have HS := Lib.hid (HY.out (by rw [hgr]; exact decide_eq_true hy))
          subst hy
          clear HY HN hgr
          go_wp2_with (go_at_call 66; refine (spec_l1In _ _ _ _).mono ?_; rintro e w' ⟨rfl, rfl⟩; rw [H.out])
          go_roundw
          case rel => exact ⟨k + 1, by omega, by go_num, by rw [HS.out], hbl⟩
          case measure => simp [intOf]; omega
        · have HS := Lib.hid (HN.out (by rw [hgr]; exact decide_eq_false hy))
          have e1 : (y == 1) = false := by simpa using hy
          clear HY HN hgr
          go_wp2_with (go_at_call 66; refine (spec_l1In _ _ _ _).mono ?_; rintro e w' ⟨rfl, rfl⟩; rw [H.out])
          go_roundw
          case rel => exact ⟨k + 1, by omega, by go_num, by rw [HS.out], hbl⟩
          case measure => simp [intOf]; omega
    · obtain rfl : k = n := by omega
      go_wp2
      go_ret
      exact ⟨by rw [HG.out]; try rfl, hbl⟩
end Go.Proofs.Ytdgpodopkfnpeaa
