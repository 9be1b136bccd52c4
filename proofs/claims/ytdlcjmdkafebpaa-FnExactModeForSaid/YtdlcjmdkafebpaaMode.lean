/- Chapter 19: ModeFor: program and model. -/
import Derived.Test.YtdlcjmdkafebpaaLps
namespace Go.Proofs.Ytdlcjmdkafebpaa
open Go.RowKit Go.Maps
set_option linter.unusedVariables false

def redB (zs : List Lmp) : Bool := zs.any fun p : Lmp => decide (p.colour = 0) && p.broken
/-- what ModeFor answers. -/
def modeL (ps : List Pth) (zs : List Lmp) (b : Bool) : Int := if b then (if redB zs || !areL ps zs then 1 else 0) else 2
theorem impl_isBrokenRed (p : Lmp) (w : World) : Calls Try.prog 93 #[p.val] w fun e w' => e = .returned (.bool (decide (p.colour = 0) && p.broken)) ∧ Below w.heap.size w w' := by
  obtain ⟨a, b, c⟩ := p
  simp only [Lmp.val] at *
  have hb0 := (Below.refl w.heap.size w).alloc (Nat.le_refl _) (.cells #[.int .i64 a, .int .i64 b, .bool c] 108)
  have HB0 := Lib.hid hb0
  clear hb0
  by_cases h : b = 0
  · subst h
    cases c
    · go_enter Try.func93, Try.ntmps93
      go_wp2
      go_ret
      exact ⟨rfl, HB0.out⟩
    · go_enter Try.func93, Try.ntmps93
      go_wp2
      go_ret
      exact ⟨rfl, HB0.out⟩
  · have e1 : (b == (0 : Int)) = false := by simpa using h
    have HH := Lib.hid h
    clear h
    go_enter Try.func93, Try.ntmps93
    go_wp2
    go_ret
    exact ⟨by rw [decide_eq_false HH.out]; rfl, HB0.out⟩
set_option maxHeartbeats 1000000 in
theorem idx_red  (A : Option Addr) (n c B : Nat) (ds : List Lmp) (w : World) (h : LmpsAt w B A n ds) (hB : B ≤ w.heap.size) (hn : n ≤ 4294967296) :
    Calls Try.prog 137 #[.slice A n c, .func (.func 93) #[] #[]] w fun e w' => ∃ r : Int, e = .returned (.int .i64 r) ∧ decide (r ≥ 0) = ds.any (fun p : Lmp => decide (p.colour = 0) && p.broken) ∧ Below w.heap.size w w' := by
  have hl := h.1
  have HL := Lib.hid hl
  clear hl
  go_enter Try.func137, Try.ntmps137
  go_wp2
  go_loopw [8] (fun i wr => ∃ k : Nat, k ≤ n ∧ i = .int .i64 k ∧ (ds.take k).any (fun p : Lmp => decide (p.colour = 0) && p.broken) = false ∧ Below w.heap.size w wr) (fun i _ => n - (intOf i).toNat)
  case atStart => exact ⟨0, Nat.zero_le _, rfl, rfl, Below.refl _ _⟩
  case round =>
    obtain ⟨k, hk, rfl, hno, hbl⟩ := hrel
    have hsz := hbl.size
    by_cases hlt : k < n
    · obtain ⟨ad, p, rfl, hab, hp, hq⟩ := h.at hlt
      obtain ⟨c0, c1, c2⟩ := hq.below hbl (by omega)

      have HS := Lib.hid (show (ds.take (k + 1)).any (fun p : Lmp => decide (p.colour = 0) && p.broken) = (decide (p.colour = 0) && p.broken) by rw [List.take_add_one, hp, List.any_append, hno]; simp)
      have HP := Lib.hid (show (decide (p.colour = 0) && p.broken) = true → ds.any (fun p : Lmp => decide (p.colour = 0) && p.broken) = true by intro e; exact List.any_eq_true.2 ⟨p, List.mem_of_getElem? hp, e⟩)
      have hv : p.val = .agg #[.int .i64 p.path, .int .i64 p.colour, .bool p.broken] := rfl
      have hcc := impl_isBrokenRed p wr
      rw [hv] at hcc
      have HB := Lib.hid hbl
      clear hno hq hbl hv hp
      go_wp2_with fail
      refine hcc.mono ?_
      rintro e w1 ⟨rfl, hb⟩
      have HB1 := Lib.hid (HB.out.trans (hb.mono HB.out.size))
      clear hb hcc
      generalize (decide (p.colour = 0) && p.broken) = v at HS HP ⊢
      cases v
      · go_wp2
        go_roundw
        case rel => exact ⟨k + 1, by omega, by go_num, HS.out, HB1.out⟩
        case measure => simp [intOf]; omega
      · go_wp2
        go_ret
        exact ⟨_, rfl, by rw [HP.out (by trivial), decide_eq_true (by omega)], HB1.out⟩
    · obtain rfl : k = n := by omega
      have HR : Hid (ds.any (fun p : Lmp => decide (p.colour = 0) && p.broken) = false) := Lib.hid (by rw [List.take_of_length_le (by have := HL.out; omega)] at hno; exact hno)
      clear hno
      go_wp2
      go_ret
      exact ⟨_, rfl, by rw [HR.out]; rfl, hbl⟩
theorem has_red  (A : Option Addr) (n c B : Nat) (ds : List Lmp) (w : World) (h : LmpsAt w B A n ds) (hB : B ≤ w.heap.size) (hn : n ≤ 4294967296) :
    Calls Try.prog 92 #[.slice A n c, .func (.func 93) #[] #[]] w fun e w' => e = .returned (.bool (ds.any (fun p : Lmp => decide (p.colour = 0) && p.broken))) ∧ Below w.heap.size w w' := by
  have hcc := idx_red  A n c B ds w h hB hn
  go_enter Try.func92, Try.ntmps92
  go_wp2_with fail
  refine hcc.mono ?_
  rintro e w1 ⟨r, rfl, hr, hb⟩
  have HR := Lib.hid hr
  clear hr hcc
  go_wp2
  go_ret
  exact ⟨by rw [← HR.out]; rfl, hb⟩
set_option maxRecDepth 100000 in
theorem impl_ModeFor (A : Option Addr) (n c B : Nat) (ps : List Pth) (A2 : Option Addr) (n2 c2 B2 : Nat) (zs : List Lmp) (b : Bool) (w : World) (h : PthsAt w B A n ps) (h2 : LmpsAt w B2 A2 n2 zs) (hB : B ≤ w.heap.size) (hB2 : B2 ≤ w.heap.size) (hn : n ≤ 4294967296) (hn2 : n2 ≤ 4294967296) (hw : ∀ z ∈ zs, z.wf) :
    Calls Try.prog 33 #[.slice A n c, .slice A2 n2 c2, .bool b] w fun e w' => e = .returned (.int .i64 (modeL ps zs b)) ∧ Below w.heap.size w w' := by
  cases b
  · go_enter Try.func33, Try.ntmps33
    go_wp2
    go_ret
    exact ⟨rfl, Below.refl _ _⟩
  have hcc := has_red A2 n2 c2 B2 zs w h2 hB2 hn2
  have HM : Hid (modeL ps zs true = if redB zs || !areL ps zs then 1 else 0) := Lib.hid rfl
  change Calls _ _ _ _ (fun e w' => e = .returned (.bool (redB zs)) ∧ _) at hcc
  generalize redB zs = r at *
  cases r
  · go_enter Try.func33, Try.ntmps33
    go_wp2_with fail
    refine hcc.mono ?_
    rintro e w1 ⟨rfl, hb1⟩
    have hll := impl_AreLamps A n c B ps A2 n2 c2 B2 zs w1 (h.below (hb1.mono hB)) (h2.below (hb1.mono hB2)) (Nat.le_trans hB hb1.size) (Nat.le_trans hB2 hb1.size) hn hn2 hw
    generalize areL ps zs = q at *
    clear hcc
    cases q
    · go_wp2_with fail
      refine hll.mono ?_
      rintro e w2 ⟨rfl, hb2⟩
      go_wp2
      go_ret
      exact ⟨by rw [HM.out]; rfl, hb1.trans (hb2.mono hb1.size)⟩
    · go_wp2_with fail
      refine hll.mono ?_
      rintro e w2 ⟨rfl, hb2⟩
      go_wp2
      go_ret
      exact ⟨by rw [HM.out]; rfl, hb1.trans (hb2.mono hb1.size)⟩
  · go_enter Try.func33, Try.ntmps33
    go_wp2_with fail
    refine hcc.mono ?_
    rintro e w1 ⟨rfl, hb1⟩
    go_wp2
    go_ret
    exact ⟨by rw [HM.out]; rfl, hb1⟩
set_option maxHeartbeats 1000000 in
set_option maxRecDepth 100000 in
theorem spec_ModeFor (A : Option Addr) (n c B : Nat) (ps : List Pth) (A2 : Option Addr) (n2 c2 B2 : Nat) (zs : List Lmp) (b : Bool) (w : World) (h : PthsAt w B A n ps) (h2 : LmpsAt w B2 A2 n2 zs) (hB : B ≤ w.heap.size) (hB2 : B2 ≤ w.heap.size) (hn : n ≤ 4294967296) (hn2 : n2 ≤ 4294967296) :
    Calls Try.prog 32 #[.slice A n c, .slice A2 n2 c2, .bool b] w fun e w' => e = .returned (.int .i64 (modeL ps zs b)) ∧ Below w.heap.size w w' := by
  cases b
  · go_enter Try.func32, Try.ntmps32
    go_wp2
    go_ret
    exact ⟨rfl, Below.refl _ _⟩
  have hl2 := h2.1
  have HM : Hid (modeL ps zs true = if redB zs || !areL ps zs then 1 else 0) := Lib.hid rfl
  have HALL : Hid (∀ k, n2 ≤ k → redB (zs.take k) = redB zs) := Lib.hid (fun k hk => by rw [List.take_of_length_le (by omega)])
  clear hl2
  go_enter Try.func32, Try.ntmps32
  go_wp2
  go_loopw [7] (fun i wr => ∃ k : Nat, k ≤ n2 ∧ i = .int .i64 k ∧ redB (zs.take k) = false ∧ Below w.heap.size w wr) (fun i _ => n2 - (intOf i).toNat)
  case atStart => exact ⟨0, Nat.zero_le _, rfl, rfl, Below.refl _ _⟩
  case round =>
    obtain ⟨k, hk, rfl, hno, hbl⟩ := hrel
    have hsz := hbl.size
    by_cases hlt : k < n2
    · obtain ⟨ad, p, rfl, hab, hp, hq⟩ := h2.at hlt
      obtain ⟨c0, c1, c2⟩ := hq.below hbl (by omega)
      have HS := Lib.hid (show redB (zs.take (k + 1)) = (decide (p.colour = 0) && p.broken) by unfold redB at hno ⊢; rw [List.take_add_one, hp, List.any_append, hno]; simp)
      have HP := Lib.hid (show (decide (p.colour = 0) && p.broken) = true → redB zs = true by intro e; exact List.any_eq_true.2 ⟨p, List.mem_of_getElem? hp, e⟩)
      have HB := Lib.hid hbl
      have i1 : (0 : Int) ≤ (k : Int) := by omega
      have i2 : (k : Int) < (n2 : Int) := by omega
      clear hq hbl hp hno
      generalize p.colour = y at *
      generalize p.broken = z at *
      by_cases ey : y = 0
      · have e1 : (y == (0 : Int)) = true := by simpa using ey
        cases z
        · have HS2 := Lib.hid (HS.out.trans (show _ = false by simp))
          clear HS HP ey
          go_wp2
          go_roundw
          case rel => exact ⟨k + 1, by omega, by go_num, HS2.out, HB.out⟩
          case measure => simp [intOf]; omega
        · have HP2 := Lib.hid (HP.out (by simp [ey]))
          clear HS HP ey
          go_wp2
          go_ret
          exact ⟨by rw [HM.out, HP2.out]; rfl, HB.out⟩
      · have e1 : (y == (0 : Int)) = false := by simpa using ey
        have HS2 := Lib.hid (HS.out.trans (show _ = false by simp [ey]))
        clear HS HP ey
        go_wp2
        go_roundw
        case rel => exact ⟨k + 1, by omega, by go_num, HS2.out, HB.out⟩
        case measure => simp [intOf]; omega
    · obtain rfl : k = n2 := by omega
      have HR := Lib.hid (show redB zs = false by rw [← HALL.out k (Nat.le_refl _), hno])
      have hll := spec_AreLamps A n c B ps A2 k c2 B2 zs wr (h.below (hbl.mono hB)) (h2.below (hbl.mono hB2)) (Nat.le_trans hB hsz) (Nat.le_trans hB2 hsz) hn hn2
      clear hno
      generalize areL ps zs = q at *
      cases q
      · go_wp2_with fail
        refine hll.mono ?_
        rintro e w2 ⟨rfl, hb2⟩
        go_wp2
        go_ret
        exact ⟨by rw [HM.out, HR.out]; rfl, hbl.trans (hb2.mono hsz)⟩
      · go_wp2_with fail
        refine hll.mono ?_
        rintro e w2 ⟨rfl, hb2⟩
        go_wp2
        go_ret
        exact ⟨by rw [HM.out, HR.out]; rfl, hbl.trans (hb2.mono hsz)⟩
end Go.Proofs.Ytdlcjmdkafebpaa
