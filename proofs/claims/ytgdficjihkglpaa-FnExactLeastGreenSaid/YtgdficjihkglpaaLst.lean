/- LeastGreen: model and program. -/
import Derived.Test.YtgdficjihkglpaaLstP
import Derived.Test.YtgdficjihkglpaaFindI
import Derived.Test.YtgdficjihkglpaaConf2
import Derived.Test.YtgdficjihkglpaaPthM
namespace Go.Proofs.Ytgdficjihkglpaa
open Go.RowKit
set_option linter.unusedVariables false

set_option maxHeartbeats 1000000 in
theorem spec_LeastGreen (A : Option Addr) (n c B : Nat) (ps : List Pth) (A2 : Option Addr) (n2 c2 B2 : Nat) (zs : List Int) (w : World) (h : PthsAt w B A n ps) (h2 : IntsAt .i64 w B2 A2 n2 zs) (hB : B ≤ w.heap.size) (hB2 : B2 ≤ w.heap.size) (hn : n ≤ 4294967296) (hn2 : n2 ≤ 4294967296) :
    Calls Try.prog 22 #[.slice A n c, .slice A2 n2 c2] w fun e w' => e = .returned (.int .i64 (leastG ps zs)) ∧ Below w.heap.size w w' := by
  have hl := h.1
  have hl2 := h2.1
  go_enter Try.func22, Try.ntmps22
  go_wp2
  go_loopw [5] (fun i wr => ∃ k : Nat, k ≤ n2 ∧ i = .int .i64 k ∧ (∀ j, j < k → walkId ps (zs.getD j 0) = false) ∧ Below w.heap.size w wr) (fun i _ => n2 - (intOf i).toNat)
  case atStart => exact ⟨0, Nat.zero_le _, rfl, fun j hj => absurd hj (by omega), Below.refl _ _⟩
  case round =>
    obtain ⟨k, hk, rfl, hno, hbl⟩ := hrel
    have hsz := hbl.size
    have HN := Lib.hid hno
    clear hno
    by_cases hlt : k < n2
    · obtain ⟨ad2, rfl, hab2, hcell⟩ := h2.2 (by omega)
      have hc := (hbl.cell (by rw [add_block]; omega)).trans (hcell k hlt)
      have hyes := fun h => Lib.hid (leastG_yes (ps := ps) (zs := zs) (k := k) (by omega) h)
      have hstep := fun (h1 : walkId ps (zs.getD k 0) = false) => Lib.hid (show ∀ j, j < k + 1 → walkId ps (zs.getD j 0) = false from fun j hj => by
        by_cases e : j = k
        · subst e; exact h1
        · exact HN.out j (by omega))
      clear hcell
      generalize zs.getD k 0 = id at *
      go_wp2_with fail
      refine (spec_FindPath A n c B ps id wr (h.below (hbl.mono hB)) hn).mono ?_
      cases hf : findK id ps
      · rw [fI_no hf]
        rintro e w1 ⟨rfl, rfl⟩
        have HS := hstep (walkId_none hf)
        clear hf hyes hstep
        go_wp2
        go_roundw
        case rel => exact ⟨k + 1, by omega, by go_num, HS.out, hbl⟩
        case measure => simp [intOf]; omega
      · rename_i m
        rw [fI_some hf]
        rintro e w1 ⟨rfl, rfl⟩
        have hml := fK_lt hf
        obtain ⟨ad, p, rfl, hab, hp, hq⟩ := h.at (k := m) (by omega)
        have HB1 := Lib.hid (hbl)
        obtain ⟨c0, c1, c2', c3⟩ := hq.below HB1.out (by omega)
        by_cases hkd : p.kind = 2
        · have HR := hyes (by rw [walkId_some hf, pAt_some hp]; exact decide_eq_true hkd)
          have e1 : (p.kind == 2) = true := by simpa using hkd
          clear hf hyes hstep hq hp hkd
          go_wp2
          go_ret
          exact ⟨by rw [HR.out]; try rfl, HB1.out⟩
        · have HS := hstep (by rw [walkId_some hf, pAt_some hp]; exact decide_eq_false hkd)
          have e1 : (p.kind == 2) = false := by simpa using hkd
          clear hf hyes hstep hq hp hkd
          go_wp2
          go_roundw
          case rel => exact ⟨k + 1, by omega, by go_num, HS.out, HB1.out⟩
          case measure => simp [intOf]; omega
    · obtain rfl : k = n2 := by omega
      have HR : Hid (leastG ps zs = 5) := Lib.hid (leastG_no fun j hj => HN.out j (by omega))
      go_wp2
      go_ret
      exact ⟨by rw [HR.out]; try rfl, hbl⟩
set_option maxHeartbeats 1000000 in
theorem impl_LeastGreen (A : Option Addr) (n c B : Nat) (ps : List Pth) (A2 : Option Addr) (n2 c2 B2 : Nat) (zs : List Int) (w : World) (h : PthsAt w B A n ps) (h2 : IntsAt .i64 w B2 A2 n2 zs) (hB : B ≤ w.heap.size) (hB2 : B2 ≤ w.heap.size) (hn : n ≤ 4294967296) (hn2 : n2 ≤ 4294967296) :
    Calls Try.prog 24 #[.slice A n c, .slice A2 n2 c2] w fun e w' => e = .returned (.int .i64 (leastG ps zs)) ∧ Below w.heap.size w w' := by
  have hl := h.1
  have hl2 := h2.1
  go_enter Try.func24, Try.ntmps24
  go_wp2
  go_loopw [10] (fun i wr => ∃ k : Nat, k ≤ n2 ∧ i = .int .i64 k ∧ (∀ j, j < k → walkId ps (zs.getD j 0) = false) ∧ Below w.heap.size w wr) (fun i _ => n2 - (intOf i).toNat)
  case atStart => exact ⟨0, Nat.zero_le _, rfl, fun j hj => absurd hj (by omega), Below.refl _ _⟩
  case round =>
    obtain ⟨k, hk, rfl, hno, hbl⟩ := hrel
    have hsz := hbl.size
    have HN := Lib.hid hno
    clear hno
    by_cases hlt : k < n2
    · obtain ⟨ad2, rfl, hab2, hcell⟩ := h2.2 (by omega)
      have hc := (hbl.cell (by rw [add_block]; omega)).trans (hcell k hlt)
      have hyes := fun h => Lib.hid (leastG_yes (ps := ps) (zs := zs) (k := k) (by omega) h)
      have hstep := fun (h1 : walkId ps (zs.getD k 0) = false) => Lib.hid (show ∀ j, j < k + 1 → walkId ps (zs.getD j 0) = false from fun j hj => by
        by_cases e : j = k
        · subst e; exact h1
        · exact HN.out j (by omega))
      clear hcell
      generalize zs.getD k 0 = id at *
      go_wp2_with fail
      refine (impl_FindPath A n c B ps id wr (h.below (hbl.mono hB)) (by omega) hn).mono ?_
      cases hf : findK id ps
      · rw [fI_no hf]
        rintro e w1 ⟨rfl, hb1⟩
        have HS := hstep (walkId_none hf)
        clear hf hyes hstep
        go_wp2
        go_roundw
        case rel => exact ⟨k + 1, by omega, by go_num, HS.out, hbl.trans (hb1.mono hsz)⟩
        case measure => simp [intOf]; omega
      · rename_i m
        rw [fI_some hf]
        rintro e w1 ⟨rfl, hb1⟩
        have hml := fK_lt hf
        obtain ⟨ad, p, rfl, hab, hp, hq⟩ := h.at (k := m) (by omega)
        have HB1 := Lib.hid (hbl.trans (hb1.mono hsz))
        obtain ⟨c0, c1, c2', c3⟩ := hq.below HB1.out (by omega)
        by_cases hkd : p.kind = 2
        · have HR := hyes (by rw [walkId_some hf, pAt_some hp]; exact decide_eq_true hkd)
          have e1 : (p.kind == 2) = true := by simpa using hkd
          clear hf hyes hstep hq hp hkd
          go_wp2
          go_ret
          exact ⟨by rw [HR.out]; try rfl, HB1.out⟩
        · have HS := hstep (by rw [walkId_some hf, pAt_some hp]; exact decide_eq_false hkd)
          have e1 : (p.kind == 2) = false := by simpa using hkd
          clear hf hyes hstep hq hp hkd
          go_wp2
          go_roundw
          case rel => exact ⟨k + 1, by omega, by go_num, HS.out, HB1.out⟩
          case measure => simp [intOf]; omega
    · obtain rfl : k = n2 := by omega
      have HR : Hid (leastG ps zs = 5) := Lib.hid (leastG_no fun j hj => HN.out j (by omega))
      go_wp2
      go_ret
      exact ⟨by rw [HR.out]; try rfl, hbl⟩
theorem sp_LeastGreen (A0 : Option Addr) (n0 c0 : Nat) (zs0 : List Pth) (A1 : Option Addr) (n1 c1 : Nat) (zs1 : List Int) (w : World) (h0 : SlP w A0 n0 c0 zs0) (hs0 : n0 ≤ 1048576) (h1 : Sl .i64 w A1 n1 c1 zs1) (hs1 : n1 ≤ 1048576) (r : Int) (hr : leastG zs0 zs1 = r) :
    Calls Try.prog 22 #[.slice A0 n0 c0, .slice A1 n1 c1] w fun e w' => e = .returned (.int .i64 r) ∧ Below w.heap.size w w' := by
  subst hr
  exact spec_LeastGreen A0 n0 c0 _ zs0 A1 n1 c1 _ zs1 w h0.pths h1.ints (Nat.le_refl _) (Nat.le_refl _) h0.small (by omega)
theorem im_LeastGreen (A0 : Option Addr) (n0 c0 : Nat) (zs0 : List Pth) (A1 : Option Addr) (n1 c1 : Nat) (zs1 : List Int) (w : World) (h0 : SlP w A0 n0 c0 zs0) (hs0 : n0 ≤ 1048576) (h1 : Sl .i64 w A1 n1 c1 zs1) (hs1 : n1 ≤ 1048576) (r : Int) (hr : leastG zs0 zs1 = r) :
    Calls Try.prog 24 #[.slice A0 n0 c0, .slice A1 n1 c1] w fun e w' => e = .returned (.int .i64 r) ∧ Below w.heap.size w w' := by
  subst hr
  exact impl_LeastGreen A0 n0 c0 _ zs0 A1 n1 c1 _ zs1 w h0.pths h1.ints (Nat.le_refl _) (Nat.le_refl _) h0.small (by omega)
end Go.Proofs.Ytgdficjihkglpaa
