/- Chapter 24: NewTurn of the model: UNDER WAY (does not build: see NOTES, round 7). -/
import Derived.Test.YtnlffefekpjbcacTrnN
namespace Go.Proofs.Ytnlffefekpjbcac
open Go.RowKit
set_option linter.unusedVariables false

set_option maxHeartbeats 2000000 in
theorem spec_NewTurn (p a c : Int) (w : World) (q1 q2 : Int) (zs : List Int) (b : Bool) (hr : newT p a c = (q1, q2, zs, b)) :
    Calls Try.prog 13 #[.int .i64 p, .int .i64 a, .int .i64 c] w fun e w' => ∃ v, e = .returned (.tuple #[trnV q1 q2 v, .bool b]) ∧ Own .i64 3 w' w.heap.size v zs ∧ Below w.heap.size w w' := by
  have HR := Lib.hid hr
  clear hr
  simp only [trnV]
  obtain ⟨wA, hwA⟩ : ∃ wA, wA = (w.alloc (.cells #[.int .i64 0, .int .i64 0, .slice none 0 0] 36)).alloc (.cells #[.int .i64 p, .int .i64 a, .slice none 0 0] 36) := ⟨_, rfl⟩
  obtain ⟨hz, hk, hsz, hBA⟩ := two_blocks hwA
  have HK := Lib.hid hk
  have HZ := Lib.hid hz
  have HB := Lib.hid hBA
  have HSZ := Lib.hid hsz
  clear hk hz hsz hBA
  go_enter Try.func13, Try.ntmps13
  go_wp2
  rw [← hwA]
  clear hwA
  go_loopw [9] (fun i wr => ∃ (k : Nat) (v : Value), k ≤ 9 ∧ (k = 0 ∨ (k : Int) ≤ c) ∧ i = .int .i64 k ∧ wr.heap[w.heap.size]? = some (.cells #[.int .i64 0, .int .i64 0, .slice none 0 0] 36) ∧ wr.heap[w.heap.size + 1]? = some (.cells #[.int .i64 p, .int .i64 a, v] 36) ∧ Own .i64 3 wr (w.heap.size + 1 + 1) v (List.replicate k 0) ∧ Below w.heap.size w wr) (fun i _ => 9 - (intOf i).toNat)
  case atStart => exact ⟨0, .slice none 0 0, by omega, .inl rfl, rfl, HZ.out, HK.out, own_nil _ _ _ _, HB.out⟩
  case round =>
    obtain ⟨k, v, hk9, hkc, rfl, hz, hk, hown, hbl⟩ := hrel
    obtain ⟨k0, k1, k2⟩ := cells3 hk
    obtain ⟨z0, z1, z2⟩ := cells3 hz
    have fk : ∀ j, wr.frozen? ⟨w.heap.size + 1, j, none⟩ = false := fun j => frozen_of_row _ _ j _ _ hk
    have fz : ∀ j, wr.frozen? ⟨w.heap.size, j, none⟩ = false := fun j => frozen_of_row _ _ j _ _ hz
    have lt0 : w.heap.size + 1 < wr.heap.size := lt_of_block hk
    have lt1 : w.heap.size < wr.heap.size := by omega
    have HKR := Lib.hid hk
    have HZR := Lib.hid hz
    have HBR := Lib.hid hbl
    have HOR := Lib.hid hown
    clear hk hz hbl hown
    by_cases hin : (k : Int) < c ∧ (k : Int) ≤ 8
    · obtain ⟨h1, h2⟩ := hin
      have hsz : (wr.alloc (.cells #[.int .i64 0] 3)).heap.size = wr.heap.size + 1 := by simp
      have HO9 := HOR.out
      have HPOST : ∀ v4 w4, Own .i64 3 w4 (w.heap.size + 1 + 1) v4 (List.replicate k 0 ++ [0]) → (wr.alloc (.cells #[.int .i64 0] 3)).grownBy w4 v.ownBlock →
          w4.heap[w.heap.size + 1]? = some (.cells #[.int .i64 p, .int .i64 a, v] 36) ∧ w4.heap[w.heap.size]? = some (.cells #[.int .i64 0, .int .i64 0, .slice none 0 0] 36) ∧ Below w.heap.size w w4 := fun v4 w4 ho hg =>
        ⟨(hg.block (w.heap.size + 1) (by simp; omega) (fun e => by have := (HO9.block _ e.symm).1; omega)).trans (heap_old wr _ HKR.out), (hg.block w.heap.size (by simp; omega) (fun e => by have := (HO9.block _ e.symm).1; omega)).trans (heap_old wr _ HZR.out), HO9.push (show w.heap.size ≤ w.heap.size + 1 + 1 by omega) (HBR.out.alloc HBR.out.size _) (by simp; omega) hg⟩
      have HP9 := Lib.hid HPOST
      clear HPOST
      go_wp2_with (at_builtin; refine wpList_app1 rfl _ _ 34 rfl .i64 3 8 Try.underlying34 info_i64 (w.heap.size + 1 + 1) _ (List.replicate k 0) rfl HO9 (by decide) (by simp; omega) _ _ _ wr.heap.size (by omega) rfl (by simp) ?_; intro v4 w4 hown4 hgrow4 hat4; obtain ⟨hk4, hz4, hb4⟩ := HP9.out v4 w4 hown4 hgrow4; obtain ⟨A4, c4, rfl⟩ := hown4.sliced; obtain ⟨y0, y1, y2⟩ := cells3 hk4; have fy : ∀ j, w4.frozen? ⟨w.heap.size + 1, j, none⟩ = false := (fun j => frozen_of_row _ _ j _ _ hk4); have lt4 : w.heap.size + 1 < w4.heap.size := lt_of_block hk4; have HK4 := Lib.hid hk4; have HZ4 := Lib.hid hz4; have HO4 := Lib.hid hown4; have HB4 := Lib.hid hb4; clear hk4 hz4 hb4 hown4 hgrow4 hat4)
      go_roundw
      case rel =>
        refine ⟨k + 1, _, by omega, .inr (by omega), by go_num, (heap_setCell_other _ _ _ _ (by simp)).trans HZ4.out, by rw [heap_setCell_same _ _ _ _ _ _ HK4.out]; rfl, ?_, HB4.out.setCell (Nat.le_succ _) _⟩
        have h5 := HO4.out.grown (only_setCell (World.grownBy.refl w4 (some (w.heap.size + 1))) 2 (.slice A4 (List.replicate k 0 ++ [0]).length c4)) (fun g e => by have := (HO4.out.block g e).1; intro h; injection h; omega)
        rw [List.replicate_succ']
        first
          | exact h5
          | (simp only [List.length_append, List.length_replicate, List.length_cons, List.length_nil, Nat.zero_add] at h5 ⊢; exact h5)
      case measure => simp [intOf]; omega
    · have hzs : ∀ (q : Nat), (List.replicate q (0 : Int)).all (fun z => inB z 0 2) = true := fun q => by simp [inB]
      have hcond : isTrn p a (List.replicate k 0) = (inB p 1 99 && inB a 0 1000000 && inB c 1 8) := by
        unfold isTrn
        rw [hzs, Bool.true_and, List.length_replicate]
        congr 1
        simp only [inB]
        rw [Bool.eq_iff_iff]
        simp only [Bool.and_eq_true, decide_eq_true_eq]
        omega
      obtain ⟨A', c', rfl⟩ := HOR.out.sliced
      have HOR2 := HOR.out
      rw [List.length_replicate] at HOR2 k2
      simp only [List.length_replicate] at HKR
      have hT := spec_IsTurn p a A' k c' wr.heap.size (List.replicate k 0) wr HOR2.ints (Nat.le_refl _) (by omega)
      simp only [trnV] at hT
      rw [hcond] at hT
      have hHR := HR.out
      unfold newT at hHR
      have HT := Lib.hid hT
      have HOA := Lib.hid HOR2
      have hkc2 : (inB p 1 99 && inB a 0 1000000 && inB c 1 8) = true → c = (k : Int) := fun e => by
        simp only [Bool.and_eq_true] at e
        have := inB_t e.2
        omega
      clear hcond hzs hT HOR HOR2
      generalize hcc : (inB p 1 99 && inB a 0 1000000 && inB c 1 8) = u at *
      clear hcc
      have hguard : (¬ (k : Int) < c) ∨ ((k : Int) < c ∧ ¬ (k : Int) ≤ 8) := by omega
      cases u
      · simp only [Bool.false_eq_true, if_false, Prod.mk.injEq] at hHR
        obtain ⟨rfl, rfl, rfl, rfl⟩ := hHR
        rcases hguard with hg | ⟨hg, hg2⟩
        all_goals
          go_wp2_with fail
          refine HT.out.mono ?_
          rintro e w1 ⟨rfl, hb1⟩
          have hz1 := (hb1.block _ lt1).trans HZR.out
          have HB1 := Lib.hid (HBR.out.trans (hb1.mono HBR.out.size))
          clear z0 z1 z2 fz
          obtain ⟨z0, z1, z2⟩ := cells3 hz1
          have fz : ∀ j, w1.frozen? ⟨w.heap.size, j, none⟩ = false := fun j => frozen_of_row _ _ j _ _ hz1
          have lt5 : w.heap.size < w1.heap.size := lt_of_block hz1
          clear hz1 hb1 k0 k1 k2 fk
          go_wp2
          refine bodyPost_ret (by rw [results_cell_tmpF rfl]; go_simp; try rfl) rfl ?_
          exact ⟨_, rfl, own_nil _ _ _ _, ((HB1.out.setCell (Nat.le_refl _) _).setCell (Nat.le_refl _) _).setCell (Nat.le_refl _) _⟩
      · have hck := hkc2 rfl
        simp only [if_true, Prod.mk.injEq] at hHR
        obtain ⟨rfl, rfl, rfl, rfl⟩ := hHR
        have HCK := Lib.hid (show c.toNat = k by omega)
        have hg : ¬ (k : Int) < c := by omega
        clear hck hkc2 hguard
        go_wp2_with fail
        refine HT.out.mono ?_
        rintro e w1 ⟨rfl, hb1⟩
        have hz1 := (hb1.block _ lt1).trans HZR.out
        have hk1 := (hb1.block _ lt0).trans HKR.out
        have HB1 := Lib.hid (HBR.out.trans (hb1.mono HBR.out.size))
        have HO1 := Lib.hid (HOA.out.below hb1)
        clear z0 z1 z2 fz k0 k1 k2 fk
        obtain ⟨z0, z1, z2⟩ := cells3 hz1
        obtain ⟨k0, k1, k2⟩ := cells3 hk1
        have fz : ∀ j, w1.frozen? ⟨w.heap.size, j, none⟩ = false := fun j => frozen_of_row _ _ j _ _ hz1
        have lt5 : w.heap.size < w1.heap.size := lt_of_block hz1
        clear hz1 hk1 hb1
        go_wp2
        refine bodyPost_ret (by rw [results_cell_tmpF rfl]; go_simp; try rfl) rfl ?_
        refine ⟨_, rfl, ?_, ((HB1.out.setCell (Nat.le_refl _) _).setCell (Nat.le_refl _) _).setCell (Nat.le_refl _) _⟩
        rw [HCK.out]
        exact (HO1.out.grown (only_setCell (only_setCell (only_setCell (World.grownBy.refl w1 (some w.heap.size)) 0 _) 1 _) 2 _) (fun g e => by have := (HO1.out.block g e).1; intro h; injection h; omega)).mono (by omega)
end Go.Proofs.Ytnlffefekpjbcac
