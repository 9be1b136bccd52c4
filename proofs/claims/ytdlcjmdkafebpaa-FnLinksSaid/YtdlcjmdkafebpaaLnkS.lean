/- Chapter 23: InStep: program and model. -/
import Derived.Test.YtdlcjmdkafebpaaLnkI
namespace Go.Proofs.Ytdlcjmdkafebpaa
open Go.RowKit
set_option linter.unusedVariables false

theorem inStep_eq (zs : List Lnk) (t : Int) : inStepB zs t = !zs.any fun k => decide (lkS k t ≠ 0) := by
  unfold inStepB
  induction zs with
  | nil => rfl
  | cons k l ih => simp only [List.all_cons, List.any_cons, Bool.not_or, ih]; by_cases h : lkS k t = 0 <;> simp [h]
theorem impl_InStep1 (g : Nat) (t : Int) (p : Lnk) (w : World) (h : w.cell? ⟨g, 0, none⟩ = some (.int .i64 t)) (hg : g < w.heap.size) :
    Calls Try.prog 115 #[p.val, .pointer (some ⟨g, 0, none⟩)] w fun e w' => e = .returned (.bool (decide (lkS p t ≠ 0))) ∧ Below w.heap.size w w' := by
  have hcc := fun x => impl_lkstate p t x
  obtain ⟨a, b, c, d⟩ := p
  generalize lkS ⟨a, b, c, d⟩ t = v at hcc ⊢
  simp only [Lnk.val] at *
  have hb0 := (Below.refl w.heap.size w).alloc (Nat.le_refl _) (.cells #[.int .i64 a, .int .i64 b, .int .i64 c, .int .i64 d] 74)
  have hcell := (hb0.cell (p := ⟨g, 0, none⟩) hg).trans h
  have HB0 := Lib.hid hb0
  clear hb0 h
  go_enter Try.func115, Try.ntmps115
  go_wp2_with fail
  refine (hcc _).mono ?_
  rintro e w1 ⟨rfl, hb1⟩
  clear hcc
  by_cases hv : v = 0
  · subst hv
    go_wp2
    go_ret
    exact ⟨rfl, HB0.out.trans (hb1.mono HB0.out.size)⟩
  · have e1 : (v != 0) = true := by simpa using hv
    go_wp2
    go_ret
    exact ⟨by simp [hv], HB0.out.trans (hb1.mono HB0.out.size)⟩
set_option maxHeartbeats 1000000 in
theorem idx_inStep (g : Nat) (t : Int) (A : Option Addr) (n c B : Nat) (ds : List Lnk) (w : World) (h : LnksAt w B A n ds) (hB : B ≤ w.heap.size) (hn : n ≤ 4294967296) (hc : w.cell? ⟨g, 0, none⟩ = some (.int .i64 t)) (hg : g < w.heap.size) :
    Calls Try.prog 141 #[.slice A n c, .func (.func 115) #[] #[.pointer (some ⟨g, 0, none⟩)]] w fun e w' => ∃ r : Int, e = .returned (.int .i64 r) ∧ decide (r ≥ 0) = ds.any (fun k => decide (lkS k t ≠ 0)) ∧ Below w.heap.size w w' := by
  have hl := h.1
  have HL := Lib.hid hl
  clear hl
  go_enter Try.func141, Try.ntmps141
  go_wp2
  go_loopw [8] (fun i wr => ∃ k : Nat, k ≤ n ∧ i = .int .i64 k ∧ (ds.take k).any (fun k => decide (lkS k t ≠ 0)) = false ∧ Below w.heap.size w wr) (fun i _ => n - (intOf i).toNat)
  case atStart => exact ⟨0, Nat.zero_le _, rfl, rfl, Below.refl _ _⟩
  case round =>
    obtain ⟨k, hk, rfl, hno, hbl⟩ := hrel
    have hsz := hbl.size
    by_cases hlt : k < n
    · obtain ⟨ad, p, rfl, hab, hp, hq⟩ := h.at hlt
      obtain ⟨c0, c1, c2, c3⟩ := hq.below hbl (by omega)
      have hcw := (hbl.cell (p := ⟨g, 0, none⟩) hg).trans hc
      have HS := Lib.hid (show (ds.take (k + 1)).any (fun k => decide (lkS k t ≠ 0)) = decide (lkS p t ≠ 0) by rw [List.take_add_one, hp, List.any_append, hno]; simp)
      have HP := Lib.hid (show decide (lkS p t ≠ 0) = true → ds.any (fun k => decide (lkS k t ≠ 0)) = true by intro e; exact List.any_eq_true.2 ⟨p, List.mem_of_getElem? hp, e⟩)
      have hv : p.val = .agg #[.int .i64 p.peer, .int .i64 p.seq, .int .i64 p.heard, .int .i64 p.offset] := rfl
      have hcc := impl_InStep1 g t p wr hcw (by omega)
      rw [hv] at hcc
      have HB := Lib.hid hbl
      clear hno hq hbl hv hp hcw hc
      go_wp2_with fail
      refine hcc.mono ?_
      rintro e w1 ⟨rfl, hb⟩
      have HB1 := Lib.hid (HB.out.trans (hb.mono HB.out.size))
      clear hb hcc
      generalize decide (lkS p t ≠ 0) = v at HS HP ⊢
      cases v
      · go_wp2
        go_roundw
        case rel => exact ⟨k + 1, by omega, by go_num, HS.out, HB1.out⟩
        case measure => simp [intOf]; omega
      · go_wp2
        go_ret
        exact ⟨_, rfl, by rw [HP.out (by trivial), decide_eq_true (by omega)], HB1.out⟩
    · obtain rfl : k = n := by omega
      have HR : Hid (ds.any (fun k => decide (lkS k t ≠ 0)) = false) := Lib.hid (by rw [List.take_of_length_le (by have := HL.out; omega)] at hno; exact hno)
      clear hno
      go_wp2
      go_ret
      exact ⟨_, rfl, by rw [HR.out]; rfl, hbl⟩
theorem has_inStep (g : Nat) (t : Int) (A : Option Addr) (n c B : Nat) (ds : List Lnk) (w : World) (h : LnksAt w B A n ds) (hB : B ≤ w.heap.size) (hn : n ≤ 4294967296) (hc : w.cell? ⟨g, 0, none⟩ = some (.int .i64 t)) (hg : g < w.heap.size) :
    Calls Try.prog 114 #[.slice A n c, .func (.func 115) #[] #[.pointer (some ⟨g, 0, none⟩)]] w fun e w' => e = .returned (.bool (ds.any (fun k => decide (lkS k t ≠ 0)))) ∧ Below w.heap.size w w' := by
  have hcc := idx_inStep g t A n c B ds w h hB hn hc hg
  go_enter Try.func114, Try.ntmps114
  go_wp2_with fail
  refine hcc.mono ?_
  rintro e w1 ⟨r, rfl, hr, hb⟩
  have HR := Lib.hid hr
  clear hr hcc
  go_wp2
  go_ret
  exact ⟨by rw [← HR.out]; rfl, hb⟩
theorem impl_InStep (A : Option Addr) (n c B : Nat) (ds : List Lnk) (t : Int) (w : World) (h : LnksAt w B A n ds) (hB : B ≤ w.heap.size) (hn : n ≤ 4294967296) :
    Calls Try.prog 65 #[.slice A n c, .int .i64 t] w fun e w' => e = .returned (.bool (inStepB ds t)) ∧ Below w.heap.size w w' := by
  obtain ⟨wA, hwA⟩ : ∃ wA, wA = w.alloc (.cells #[.int .i64 t] 3) := ⟨_, rfl⟩
  obtain ⟨hk, hsz, hBl⟩ := one_block hwA
  have hcell : wA.cell? ⟨w.heap.size, 0, none⟩ = some (.int .i64 t) := by rw [cell_of_row wA _ 0 _ _ _ hk]; rfl
  have hcc := has_inStep w.heap.size t A n c B ds wA (h.below (hBl.mono hB)) (by omega) hn hcell (by omega)
  rw [inStep_eq]
  generalize (ds.any fun k => decide (lkS k t ≠ 0)) = v at hcc ⊢
  have HBl := Lib.hid hBl
  clear hk hsz hBl hcell
  go_enter Try.func65, Try.ntmps65
  go_wp2_with fail
  rw [← hwA]
  refine hcc.mono ?_
  rintro e w1 ⟨rfl, hb1⟩
  clear hwA
  cases v
  all_goals
    go_wp2
    go_ret
    exact ⟨rfl, HBl.out.trans (hb1.mono HBl.out.size)⟩
end Go.Proofs.Ytdlcjmdkafebpaa
