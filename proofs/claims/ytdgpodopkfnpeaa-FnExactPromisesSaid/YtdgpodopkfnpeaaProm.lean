/- Chapter 32: Promises: program and model. -/
import Derived.Test.YtdgpodopkfnpeaaInts
import Derived.Test.YtdgpodopkfnpeaaSvc
import Derived.Test.YtdgpodopkfnpeaaFlat
namespace Go.Proofs.Ytdgpodopkfnpeaa
open Go.RowKit
set_option linter.unusedVariables false

/-- what Promises answers. -/
def promB (zs : List Svc) (t : Int) : Bool := !zs.any fun p => decide (p.wait > t)
theorem impl_Promises1 (g : Nat) (t : Int) (p : Svc) (w : World) (h : w.cell? ⟨g, 0, none⟩ = some (.int .i64 t)) (hg : g < w.heap.size) :
    Calls Try.prog 86 #[p.val, .pointer (some ⟨g, 0, none⟩)] w fun e w' => e = .returned (.bool (decide (p.wait > t))) ∧ Below w.heap.size w w' := by
  obtain ⟨a, b, c, d⟩ := p
  simp only [Svc.val] at *
  have hb0 := (Below.refl w.heap.size w).alloc (Nat.le_refl _) (.cells #[.int .i64 a, .int .i64 b, .int .i64 c, .int .i64 d] 114)
  have hcell := (hb0.cell (p := ⟨g, 0, none⟩) hg).trans h
  have HB0 := Lib.hid hb0
  clear hb0 h
  go_enter Try.func86, Try.ntmps86
  go_wp2
  go_ret
  exact ⟨rfl, HB0.out⟩
set_option maxHeartbeats 1000000 in
theorem idx_prom (g : Nat) (t : Int) (A : Option Addr) (n c B : Nat) (ds : List Svc) (w : World) (h : SvcsAt w B A n ds) (hB : B ≤ w.heap.size) (hn : n ≤ 4294967296) (hc : w.cell? ⟨g, 0, none⟩ = some (.int .i64 t)) (hg : g < w.heap.size) :
    Calls Try.prog 111 #[.slice A n c, .func (.func 86) #[] #[.pointer (some ⟨g, 0, none⟩)]] w fun e w' => ∃ r : Int, e = .returned (.int .i64 r) ∧ decide (r ≥ 0) = ds.any (fun p : Svc => decide (p.wait > t)) ∧ Below w.heap.size w w' := by
  have hl := h.1
  have HL := Lib.hid hl
  clear hl
  go_enter Try.func111, Try.ntmps111
  go_wp2
  go_loopw [8] (fun i wr => ∃ k : Nat, k ≤ n ∧ i = .int .i64 k ∧ (ds.take k).any (fun p : Svc => decide (p.wait > t)) = false ∧ Below w.heap.size w wr) (fun i _ => n - (intOf i).toNat)
  case atStart => exact ⟨0, Nat.zero_le _, rfl, rfl, Below.refl _ _⟩
  case round =>
    obtain ⟨k, hk, rfl, hno, hbl⟩ := hrel
    have hsz := hbl.size
    by_cases hlt : k < n
    · obtain ⟨ad, p, rfl, hab, hp, hq⟩ := h.at hlt
      obtain ⟨c0, c1, c2, c3⟩ := hq.below hbl (by omega)
      have hcw := (hbl.cell (p := ⟨g, 0, none⟩) hg).trans hc
      have HS := Lib.hid (show (ds.take (k + 1)).any (fun p : Svc => decide (p.wait > t)) = decide (p.wait > t) by rw [List.take_add_one, hp, List.any_append, hno]; simp)
      have HP := Lib.hid (show decide (p.wait > t) = true → ds.any (fun p : Svc => decide (p.wait > t)) = true by intro e; exact List.any_eq_true.2 ⟨p, List.mem_of_getElem? hp, e⟩)
      have hv : p.val = .agg #[.int .i64 p.path, .int .i64 p.green, .int .i64 p.wait, .int .i64 p.share] := rfl
      have hcc := impl_Promises1 g t p wr hcw (by omega)
      rw [hv] at hcc
      have HB := Lib.hid hbl
      clear hno hq hbl hv hp hcw hc
      go_wp2_with fail
      refine hcc.mono ?_
      rintro e w1 ⟨rfl, hb⟩
      have HB1 := Lib.hid (HB.out.trans (hb.mono HB.out.size))
      clear hb hcc
      generalize decide (p.wait > t) = v at HS HP ⊢
      cases v
      · go_wp2
        go_roundw
        case rel => exact ⟨k + 1, by omega, by go_num, HS.out, HB1.out⟩
        case measure => simp [intOf]; omega
      · go_wp2
        go_ret
        exact ⟨_, rfl, by rw [HP.out (by trivial), decide_eq_true (by omega)], HB1.out⟩
    · obtain rfl : k = n := by omega
      have HR : Hid (ds.any (fun p : Svc => decide (p.wait > t)) = false) := Lib.hid (by rw [List.take_of_length_le (by have := HL.out; omega)] at hno; exact hno)
      clear hno
      go_wp2
      go_ret
      exact ⟨_, rfl, by rw [HR.out]; rfl, hbl⟩
theorem has_prom (g : Nat) (t : Int) (A : Option Addr) (n c B : Nat) (ds : List Svc) (w : World) (h : SvcsAt w B A n ds) (hB : B ≤ w.heap.size) (hn : n ≤ 4294967296) (hc : w.cell? ⟨g, 0, none⟩ = some (.int .i64 t)) (hg : g < w.heap.size) :
    Calls Try.prog 85 #[.slice A n c, .func (.func 86) #[] #[.pointer (some ⟨g, 0, none⟩)]] w fun e w' => e = .returned (.bool (ds.any (fun p : Svc => decide (p.wait > t)))) ∧ Below w.heap.size w w' := by
  have hcc := idx_prom g t A n c B ds w h hB hn hc hg
  go_enter Try.func85, Try.ntmps85
  go_wp2_with fail
  refine hcc.mono ?_
  rintro e w1 ⟨r, rfl, hr, hb⟩
  have HR := Lib.hid hr
  clear hr hcc
  go_wp2
  go_ret
  exact ⟨by rw [← HR.out]; rfl, hb⟩
theorem impl_Promises (A : Option Addr) (n c B : Nat) (ds : List Svc) (t : Int) (w : World) (h : SvcsAt w B A n ds) (hB : B ≤ w.heap.size) (hn : n ≤ 4294967296) :
    Calls Try.prog 40 #[.slice A n c, .int .i64 t] w fun e w' => e = .returned (.bool (promB ds t)) ∧ Below w.heap.size w w' := by
  obtain ⟨wA, hwA⟩ : ∃ wA, wA = w.alloc (.cells #[.int .i64 t] 3) := ⟨_, rfl⟩
  obtain ⟨hk, hsz, hBl⟩ := one_block hwA
  have hcell : wA.cell? ⟨w.heap.size, 0, none⟩ = some (.int .i64 t) := by rw [cell_of_row wA _ 0 _ _ _ hk]; rfl
  have hcc := has_prom w.heap.size t A n c B ds wA (h.below (hBl.mono hB)) (by omega) hn hcell (by omega)
  unfold promB
  generalize ds.any (fun p : Svc => decide (p.wait > t)) = v at hcc ⊢
  have HBl := Lib.hid hBl
  clear hk hsz hBl hcell
  go_enter Try.func40, Try.ntmps40
  go_wp2_with fail
  rw [← hwA]
  refine hcc.mono ?_
  rintro e w1 ⟨rfl, hb1⟩
  clear hwA
  cases v
  all_goals
    go_wp2
    go_ret
    exact ⟨rfl, HBl.out.trans (hb1.mono HBl.out.size)⟩
set_option maxHeartbeats 1000000 in
theorem spec_Promises (A : Option Addr) (n c B : Nat) (ds : List Svc) (t : Int) (w : World) (h : SvcsAt w B A n ds) (hB : B ≤ w.heap.size) (hn : n ≤ 4294967296) :
    Calls Try.prog 38 #[.slice A n c, .int .i64 t] w fun e w' => e = .returned (.bool (promB ds t)) ∧ Below w.heap.size w w' := by
  have hl := h.1
  have HL := Lib.hid hl
  clear hl
  go_enter Try.func38, Try.ntmps38
  go_wp2
  go_loopw [5] (fun i wr => ∃ k : Nat, k ≤ n ∧ i = .int .i64 k ∧ (ds.take k).any (fun p : Svc => decide (p.wait > t)) = false ∧ w = wr) (fun i _ => n - (intOf i).toNat)
  case atStart => exact ⟨0, Nat.zero_le _, rfl, rfl, rfl⟩
  case round =>
    obtain ⟨k, hk, rfl, hno, rfl⟩ := hrel
    by_cases hlt : k < n
    · obtain ⟨ad, p, rfl, hab, hp, hq⟩ := h.at hlt
      obtain ⟨c0, c1, c2, c3⟩ := hq
      have HS := Lib.hid (show (ds.take (k + 1)).any (fun p : Svc => decide (p.wait > t)) = decide (p.wait > t) by rw [List.take_add_one, hp, List.any_append, hno]; simp)
      have HP : Hid (p.wait > t → promB ds t = false) := Lib.hid (by intro e; unfold promB; rw [List.any_eq_true.2 ⟨p, List.mem_of_getElem? hp, decide_eq_true e⟩]; rfl)
      have i1 : (0 : Int) ≤ (k : Int) := by omega
      have i2 : (k : Int) < (n : Int) := by omega
      clear hno hp
      by_cases hv : p.wait > t
      · have HV := Lib.hid (HP.out hv)
        clear HP HS
        go_wp2
        go_ret
        exact ⟨by rw [HV.out]; rfl, Below.refl _ _⟩
      · have HV := Lib.hid (HS.out.trans (decide_eq_false hv))
        clear HP HS
        go_wp2
        go_roundw
        case rel => exact ⟨k + 1, by omega, by go_num, HV.out, by trivial⟩
        case measure => simp [intOf]; omega
    · obtain rfl : k = n := by omega
      have HR : Hid (promB ds t = true) := Lib.hid (by
        rw [List.take_of_length_le (by have := HL.out; omega)] at hno
        unfold promB
        rw [hno]
        rfl)
      clear hno
      go_wp2
      go_ret
      exact ⟨by rw [HR.out]; rfl, Below.refl _ _⟩
end Go.Proofs.Ytdgpodopkfnpeaa
