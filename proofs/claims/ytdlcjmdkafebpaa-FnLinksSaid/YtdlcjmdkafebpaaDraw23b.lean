/- The draw of HearAll. -/
import Derived.Test.YtdlcjmdkafebpaaDraw23
namespace Go.Proofs.Ytdlcjmdkafebpaa
open Go.RowKit
set_option linter.unusedVariables false

set_option maxRecDepth 100000 in
set_option maxHeartbeats 2000000 in
theorem spec_DrawHearAll (A : Option Addr) (n c B : Nat) (zs : List Int) (w : World) (hb : Bytes w B A n zs) (hB : B ≤ w.heap.size) (hn : n ≤ 1048576) :
    Calls Try.prog 56 #[.slice A n c] w fun e w' => ∃ (p : Lnk) (A' : Option Addr) (n' c' : Nat) (l : List Int) (t o : Int), p.wf ∧ n' ≤ 4 ∧ (∀ x ∈ l, 0 ≤ x ∧ x ≤ 13) ∧ (0 ≤ t ∧ t ≤ 1000001) ∧ (-1 ≤ o ∧ o ≤ 201) ∧ e = .returned (.tuple #[p.val, .slice A' n' c', .int .i64 t, .int .i64 o]) ∧ IntsAt .i64 w' w'.heap.size A' n' l ∧ Below w.heap.size w w' := by
  have hba : Below w.heap.size w (w.alloc (.cells #[.int .i64 0, .int .i64 0, .int .i64 0, .int .i64 0] 74)) := (Below.refl _ _).alloc (Nat.le_refl _) _
  have hbz := hb.below (hba.mono hB)
  go_enter Try.func56, Try.ntmps56
  go_wp2_with fail
  refine (spec_DrawHearLink A n c B zs _ hbz (by simp; omega) hn).mono ?_
  rintro e w1 ⟨⟨p0, p1, p2, p3⟩, sq, t, o, hpw, -, ht, ho, rfl, hb1⟩
  simp only [World.size_alloc] at hb1
  simp only [Lnk.val]
  have hs1 := hb1.size
  simp only [World.size_alloc] at hs1
  have hra1 := (hb1.block w.heap.size (by omega)).trans (heap_alloc_new w _)
  have hbl1 := hba.trans (hb1.mono (by omega))
  obtain ⟨w2, hw2⟩ : ∃ w2, w2 = w1.alloc (.cells #[.int .i64 p0, .int .i64 p1, .int .i64 p2, .int .i64 p3] 74) := ⟨_, rfl⟩
  obtain ⟨hX, hsz2, hB2⟩ := one_block hw2
  have hra2 := (hB2.block w.heap.size (by omega)).trans hra1
  have hbl2 := hbl1.trans (hB2.mono hbl1.size)
  have hby2 := (hbz.below (hb1.mono (by omega))).below (hB2.mono (by omega))
  have hlt2 : w1.heap.size < w2.heap.size := by omega
  clear hb1 hba hbz hb hra1 hB2 hsz2
  go_wp2_with fail
  rw [← hw2]
  clear hw2
  refine (spec_l1New A n c B zs _ hby2 (by omega) hn).mono ?_
  rintro e w3 ⟨rfl, hc3, hb3⟩
  have hlt := hc3.lt
  have own0 : Own .i64 3 (w3.alloc (.cells #[] 3)) (w2.heap.size + 1) (.slice (some ⟨w3.heap.size, 0, none⟩) 0 0) [] := (own_bare .i64 3 w3).mono hlt
  have hb3a := hb3.alloc hb3.size (.cells #[] 3)
  have hc3a := hc3.alloc (.cells #[] 3)
  clear hb3 hc3 hby2
  go_wp2_with fail
  refine (spec_l1Below w2.heap.size 5 _ hc3a (by omega)).mono ?_
  rintro e w4 ⟨x, hx, rfl, hc4, hg4⟩
  have own4 := own0.grown hg4 (by intro g e; simp only [Value.ownBlock, Option.map_some, Option.some.injEq] at e; subst e; simp; omega)
  have hb4 := hb3a.trans (below_of_only hg4 (Nat.le_refl _) hb3a.size)
  clear own0 hg4 hb3a hc3a
  go_wp2
  go_loopw [11, 12] (fun v i wr => ∃ (k : Nat) (l : List Int), l.length + k ≤ 4 ∧ i = .int .i64 k ∧ (∀ x ∈ l, 0 ≤ x ∧ x ≤ 13) ∧ Own .i64 3 wr (w2.heap.size + 1) v l ∧ Curs wr w2.heap.size ∧ Below w2.heap.size w2 wr) (fun _ i _ => (intOf i).toNat)
  case atStart => exact ⟨x, [], by simp; omega, rfl, by simp, own4, hc4, hb4⟩
  case round =>
    clear own4 hc4 hb4
    obtain ⟨k, l, hk, rfl, hl, hown, hcr, hbl⟩ := hrel
    have hsz := hbl.size
    by_cases hk0 : 0 < k
    · have i1 : ((k : Int) > 0) := by omega
      have hwk : IntKind.i64.wrap ((k : Int) - 1) = ((k - 1 : Nat) : Int) := by rw [IntKind.wrap_i64]; omega
      have HK := Lib.hid hk0
      clear hk0
      go_wp2_with fail
      refine (spec_l1Below w2.heap.size 14 _ hcr (by omega)).mono ?_
      rintro e w5 ⟨y, hy, rfl, hc5, hg5⟩
      have hown5 := hown.grown hg5 (by intro g e; have := (hown.block g e).1; simp; omega)
      have hb5 := hbl.trans (below_of_only hg5 (Nat.le_refl _) hsz)
      have hs5 := hb5.size
      have hl5 := hc5.lt
      have HLL := Lib.hid hl
      have HY := Lib.hid hy
      have HC5 := Lib.hid hc5
      have HB5 := Lib.hid hb5
      clear hg5 hown hcr hbl hl hc5 hb5
      go_wp2_with (at_builtin; refine wpList_app1 rfl _ _ 22 rfl .i64 3 8 Try.underlying22 info_i64D (w2.heap.size + 1) _ l rfl hown5 (by decide) (by omega) _ _ _ w5.heap.size hl5 rfl (by simp) ?_; intro v6 w6 hown6 hgrow6 hat6; clear hat6)
      have HC6 := Lib.hid (HC5.out.below (hown5.push (Nat.le_refl _) ((Below.refl _ _).alloc hl5 _) (by simp; omega) hgrow6))
      have HB6 := Lib.hid (hown5.push (Nat.le_succ _) (HB5.out.alloc hs5 _) (by simp; omega) hgrow6)
      have HO6 := Lib.hid hown6
      clear hgrow6 hown6 hown5
      go_roundw
      case rel => exact ⟨k - 1, l ++ [(y : Int)], by have := HK.out; simp; omega, rfl, by intro x hx; rw [List.mem_append] at hx; rcases hx with hx | hx; exact HLL.out x hx; have := HY.out; simp at hx; omega, HO6.out, HC6.out, HB6.out⟩
      case measure => have := HK.out; simp [intOf]; omega
    · have i1 : ¬ ((k : Int) > 0) := by omega
      clear hk0
      have hXr := (hbl.block w1.heap.size (by omega)).trans hX
      have hrar := (hbl.block w.heap.size (by omega)).trans hra2
      have k0 := cell_of_row wr _ 0 _ _ _ hXr
      have k1 := cell_of_row wr _ 1 _ _ _ hXr
      have k2 := cell_of_row wr _ 2 _ _ _ hXr
      have k3 := cell_of_row wr _ 3 _ _ _ hXr
      have r0 := cell_of_row wr _ 0 _ _ _ hrar
      have r1 := cell_of_row wr _ 1 _ _ _ hrar
      have r2 := cell_of_row wr _ 2 _ _ _ hrar
      have r3 := cell_of_row wr _ 3 _ _ _ hrar
      have rf : ∀ j, wr.frozen? ⟨w.heap.size, j, none⟩ = false := fun j => frozen_of_row _ _ j _ _ hrar
      simp only [List.getElem?_toArray, List.getElem?_cons_succ, List.getElem?_cons_zero] at k0 k1 k2 k3 r0 r1 r2 r3
      have HBL := Lib.hid (hbl2.trans (hbl.mono (by omega)))
      obtain ⟨A', c', rfl⟩ := hown.sliced
      have hne : ∀ g', (Value.slice A' l.length c').ownBlock = some g' → (some w.heap.size : Option Nat) ≠ some g' := by intro g' e; have := (hown.block g' e).1; simp; omega
      have HO := Lib.hid ((((hown.grown (grown_set wr w.heap.size 0 (.int .i64 p0)) hne).grown (grown_set _ w.heap.size 1 (.int .i64 p1)) hne).grown (grown_set _ w.heap.size 2 (.int .i64 p2)) hne).grown (grown_set _ w.heap.size 3 (.int .i64 p3)) hne)
      clear hown hcr hbl hXr hrar hX hra2 hbl2 hne
      go_wp2
      refine bodyPost_ret (by rw [results_c3F rfl]; go_simp; try rfl) rfl ?_
      exact ⟨⟨p0, p1, p2, p3⟩, hpw, A', l.length, by omega, c', l, hl, t, ht, o, ho, rfl, HO.out.ints, (((HBL.out.setCell (Nat.le_refl _) _).setCell (Nat.le_refl _) _).setCell (Nat.le_refl _) _).setCell (Nat.le_refl _) _⟩
end Go.Proofs.Ytdlcjmdkafebpaa
