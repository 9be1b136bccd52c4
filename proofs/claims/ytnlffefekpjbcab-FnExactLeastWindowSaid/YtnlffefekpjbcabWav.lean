/- Chapter 22: LeastWindow: program and model. -/
import Derived.Test.YtnlffefekpjbcabInts
import Derived.Test.YtnlffefekpjbcabWdw
namespace Go.Proofs.Ytnlffefekpjbcab
open Go.RowKit
set_option linter.unusedVariables false

/-- the window with an index. -/
def wdwA (zs : List Wdw) (k : Nat) : Wdw := zs.getD k ⟨0, 0⟩
theorem wdwA_some {zs : List Wdw} {k : Nat} {x : Wdw} (h : zs[k]? = some x) : wdwA zs k = x := by unfold wdwA; rw [List.getD_eq_getElem?_getD, h]; rfl
/-- the least Long of the first one and of the first k. -/
def leastK (zs : List Wdw) : Nat → Int
  | 0 => (wdwA zs 0).long
  | k + 1 => minI (leastK zs k) (wdwA zs k).long
/-- what LeastWindow answers. -/
def leastW (zs : List Wdw) : Int := if zs.length = 0 then 0 else leastK zs zs.length
theorem leastK_one (zs : List Wdw) : leastK zs 1 = (wdwA zs 0).long := by
  show minI (wdwA zs 0).long (wdwA zs 0).long = _
  unfold minI
  split <;> rfl
theorem leastK_step {zs : List Wdw} {k : Nat} {x : Wdw} (h : zs[k]? = some x) : leastK zs (k + 1) = minI (leastK zs k) x.long := by
  rw [← wdwA_some h]
  rfl
set_option maxHeartbeats 1000000 in
theorem spec_LeastWindow (A : Option Addr) (n c B : Nat) (zs : List Wdw) (w : World) (h : WdwsAt w B A n zs) (hB : B ≤ w.heap.size) (hn : n ≤ 4294967296) :
    Calls Try.prog 38 #[.slice A n c] w fun e w' => e = .returned (.int .i64 (leastW zs)) ∧ Below w.heap.size w w' := by
  have HL := Lib.hid h.1
  by_cases h0 : n = 0
  · subst h0
    go_enter Try.func38, Try.ntmps38
    go_wp2
    go_ret
    exact ⟨by unfold leastW; rw [if_pos HL.out]; rfl, Below.refl _ _⟩
  · have hb0 : ((n : Int) == 0) = false := by simpa using h0
    have hlt0 : 0 < n := by omega
    obtain ⟨ad, p, rfl, hab, hp, hq⟩ := h.at hlt0
    obtain ⟨c0, c1⟩ := hq
    have HS0 := Lib.hid (leastK_one zs)
    rw [wdwA_some hp] at HS0
    have i0 : (0 : Int) < (n : Int) := by omega
    simp only [Nat.zero_mul] at hab c0 c1
    have ha0 : ad.add 0 = ad := by simp [Addr.add]
    rw [ha0] at hab c0 c1
    have hpl := p.long
    generalize p.long = x at *
    clear hp ha0
    go_enter Try.func38, Try.ntmps38
    go_wp2
    go_loopw [3, 4] (fun t i wr => ∃ k : Nat, 1 ≤ k ∧ k ≤ n ∧ i = .int .i64 k ∧ t = .int .i64 (leastK zs k) ∧ Below w.heap.size w wr) (fun _ i _ => n - (intOf i).toNat)
    case atStart => exact ⟨1, by omega, by omega, rfl, by rw [HS0.out], Below.refl _ _⟩
    case round =>
      obtain ⟨k, hk1, hk, rfl, rfl, hbl⟩ := hrel
      by_cases hlt : k < n
      · obtain ⟨ad2, q, e2, hab2, hp2, hq2⟩ := h.at hlt
        injection e2 with e2
        subst e2
        obtain ⟨d0, d1⟩ := hq2.below hbl (by omega)
        have HS := Lib.hid (leastK_step hp2)
        have i1 : (0 : Int) ≤ (k : Int) := by omega
        have i2 : (k : Int) < (n : Int) := by omega
        clear hp2 hq2
        go_wp2_with fail
        refine (spec_Min _ _ _).mono ?_
        rintro e w2 ⟨rfl, rfl⟩
        go_wp2
        go_roundw
        case rel => exact ⟨k + 1, by omega, by omega, by go_num, by rw [HS.out], hbl⟩
        case measure => simp [intOf]; omega
      · obtain rfl : k = n := by omega
        go_wp2
        go_ret
        exact ⟨by unfold leastW; rw [if_neg (by have := HL.out; omega), HL.out]; rfl, hbl⟩
/-- a wave of windows alone. -/
def wavV (A : Option Addr) (n c : Nat) : Value := .agg #[.slice A n c, .int .i64 0, .slice none 0 0, .slice none 0 0]
theorem impl_least (A : Option Addr) (n c B : Nat) (zs : List Wdw) (l : Int) (k : Nat) (w : World) (h : WdwsAt w B A n zs) (hB : B ≤ w.heap.size) (hk : k < n) :
    Calls Try.prog 88 #[wavV A n c, .int .i64 l, .int .i64 k] w fun e w' => e = .returned (.int .i64 (minI l (wdwA zs k).long)) ∧ Below w.heap.size w w' := by
  obtain ⟨ad, p, rfl, hab, hp, hq⟩ := h.at hk
  rw [wdwA_some hp]
  simp only [wavV]
  obtain ⟨wA, hwA⟩ : ∃ wA, wA = w.alloc (.cells #[.slice (some ad) n c, .int .i64 0, .slice none 0 0, .slice none 0 0] 112) := ⟨_, rfl⟩
  obtain ⟨hx, hsz, hB1⟩ := one_block hwA
  obtain ⟨d0, d1⟩ := hq.below hB1 (by omega)
  have HB := Lib.hid hB1
  have x0 : wA.cell? ⟨w.heap.size, 0, none⟩ = some (.slice (some ad) n c) := by rw [cell_of_row wA _ 0 _ _ _ hx]; rfl
  have i1 : (0 : Int) ≤ (k : Int) := by omega
  have i2 : (k : Int) < (n : Int) := by omega
  clear hx hsz hB1 hq hp
  subst hwA
  go_enter Try.func88, Try.ntmps88
  go_wp2_with fail
  refine (impl_Min _ _ _).mono ?_
  rintro e w2 ⟨rfl, hb2⟩
  go_wp2
  go_ret
  exact ⟨rfl, HB.out.trans (hb2.mono HB.out.size)⟩
set_option maxHeartbeats 1000000 in
theorem impl_carry (A : Option Addr) (n c B : Nat) (zs : List Wdw) (w : World) (h : WdwsAt w B A n zs) (hB : B ≤ w.heap.size) (hn : n ≤ 4294967296) :
    Calls Try.prog 87 #[.int .i64 n, .int .i64 (leastK zs 0), .func (.func 88) #[wavV A n c] #[]] w fun e w' => e = .returned (.int .i64 (leastK zs n)) ∧ Below w.heap.size w w' := by
  have HH := Lib.hid h
  clear h
  go_enter Try.func87, Try.ntmps87
  go_wp2
  go_loopw [1, 9] (fun t i wr => ∃ k : Nat, k ≤ n ∧ i = .int .i64 k ∧ t = .int .i64 (leastK zs k) ∧ Below w.heap.size w wr) (fun _ i _ => n - (intOf i).toNat)
  case atStart => exact ⟨0, Nat.zero_le _, rfl, rfl, Below.refl _ _⟩
  case round =>
    obtain ⟨k, hk, rfl, rfl, hbl⟩ := hrel
    by_cases hlt : k < n
    · have hcc := impl_least A n c B zs (leastK zs k) k wr (HH.out.below (hbl.mono hB)) (Nat.le_trans hB hbl.size) hlt
      have HS : Hid (leastK zs (k + 1) = minI (leastK zs k) (wdwA zs k).long) := Lib.hid rfl
      rw [← HS.out] at hcc
      simp only [wavV] at hcc ⊢
      go_wp2_with fail
      refine hcc.mono ?_
      rintro e w2 ⟨rfl, hb2⟩
      go_wp2
      go_roundw
      case rel => exact ⟨k + 1, by omega, by go_num, rfl, hbl.trans (hb2.mono hbl.size)⟩
      case measure => simp [intOf]; omega
    · obtain rfl : k = n := by omega
      go_wp2
      go_ret
      exact ⟨rfl, hbl⟩
theorem impl_LeastWindow (A : Option Addr) (n c B : Nat) (zs : List Wdw) (w : World) (h : WdwsAt w B A n zs) (hB : B ≤ w.heap.size) (hn : n ≤ 4294967296) :
    Calls Try.prog 40 #[.slice A n c] w fun e w' => e = .returned (.int .i64 (leastW zs)) ∧ Below w.heap.size w w' := by
  have HL := Lib.hid h.1
  by_cases h0 : n = 0
  · subst h0
    go_enter Try.func40, Try.ntmps40
    go_wp2
    go_ret
    exact ⟨by unfold leastW; rw [if_pos HL.out]; rfl, Below.refl _ _⟩
  · have hb0 : ((n : Int) == 0) = false := by simpa using h0
    have hcc := impl_carry A n c B zs w h hB hn
    have hlt0 : 0 < n := by omega
    obtain ⟨ad, p, rfl, hab, hp, hq⟩ := h.at hlt0
    obtain ⟨c0, c1⟩ := hq
    have HS0 : leastK zs 0 = p.long := by show (wdwA zs 0).long = _; rw [wdwA_some hp]
    rw [HS0] at hcc
    have i0 : (0 : Int) < (n : Int) := by omega
    have ha0 : ad.add 0 = ad := by simp [Addr.add]
    simp only [Nat.zero_mul, ha0] at hab c0 c1
    have HV : Hid (leastW zs = leastK zs n) := Lib.hid (by unfold leastW; rw [if_neg (by have := HL.out; omega), HL.out])
    simp only [wavV] at hcc
    generalize p.long = x at *
    clear hp ha0 h HS0
    go_enter Try.func40, Try.ntmps40
    go_wp2_with fail
    refine hcc.mono ?_
    rintro e w2 ⟨rfl, hb2⟩
    go_wp2
    go_ret
    exact ⟨by rw [HV.out]; rfl, hb2⟩
end Go.Proofs.Ytnlffefekpjbcab
