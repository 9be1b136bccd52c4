/- Contracts of the draws of chapter 5: two results. -/
import Derived.Test.YtgdficjihkglpadDoorDraw5
import Derived.Deep.RegionHeld3
namespace Go.Proofs.YtgdficjihkglpadDoor
open Go.RowKit
set_option linter.unusedVariables false

theorem own_apartP {w : World} {lo lo2 n : Nat} {u v : Value} {zs : List Int} {vs : List Value} (h : Own .i64 3 w lo u zs) (h2 : w.ownsRow lo2 43 4 v n vs) : ∀ g, u.ownBlock = some g → v.ownBlock ≠ some g := by
  intro g hg e
  rcases h.2 with ⟨rfl, _⟩ | ⟨g1, cap, cur, rfl, hb, hg1, r⟩
  · cases hg
  · rcases h2.2 with ⟨rfl, _⟩ | ⟨g2, cap2, cur2, rfl, hb2, hg2, r2⟩
    · cases e
    · have e1 : g1 = g := Option.some.inj hg
      have e2 : g2 = g := Option.some.inj e
      subst e1
      subst e2
      rw [hg1] at hg2
      injection hg2 with hg2
      injection hg2 with _ ht
      exact absurd ht (by decide)
set_option maxHeartbeats 1000000 in
theorem spec_DrawIsTogether (A : Option Addr) (n c B : Nat) (zs : List Int) (w : World) (hb : Bytes w B A n zs) (hB : B ≤ w.heap.size) (hn : n ≤ 1048576) :
    Calls Tryd.prog 34 #[.slice A n c] w fun e w' => ∃ (v : Value) (ps : List Pth) (u : Value) (ids : List Int), e = .returned (.tuple #[v, u]) ∧ w'.ownsRow w.heap.size 43 4 v ps.length (pcells ps) ∧ (∀ p ∈ ps, p.wf) ∧ ps.length ≤ 7 ∧ Own .i64 3 w' w.heap.size u ids ∧ ids.length ≤ 8 ∧ Below w.heap.size w w' := by
  go_enter Tryd.func34, Tryd.ntmps34
  go_wp2_with fail
  refine (spec_l1New A n c B zs _ hb hB hn).mono ?_
  rintro e w1 ⟨rfl, hc1, hb1⟩
  have hs1 := hb1.size
  go_wp2_with fail
  refine (spec_l5Any w.heap.size _ hc1).mono ?_
  rintro e w2 ⟨v, ps, rfl, hrow, hwf, hp0, hp7, hc2, hg2⟩
  have hg1 := hc1.lt
  have hs2 := hg2.size
  have hbl2 := hb1.trans (below_of_only hg2 (Nat.le_refl _) hb1.size)
  obtain ⟨Av, cv, rfl⟩ := ownr_sliced hrow
  have HWF := Lib.hid hwf
  have hrow3 := ownr_mono (ownr_below hrow ((Below.refl _ _).alloc (Nat.le_refl _) (.cells #[] 3))) (lo' := w.heap.size + 1) (by omega)
  have own3 : Own .i64 3 (w2.alloc (.cells #[] 3)) (w.heap.size + 1) (.slice (some ⟨w2.heap.size, 0, none⟩) 0 0) [] := (own_bare .i64 3 w2).mono (by omega)
  have hc3 := hc2.alloc (.cells #[] 3)
  have hb3 := hbl2.alloc hbl2.size (.cells #[] 3)
  clear hwf hrow hb1 hg2 hc1 hc2 hbl2
  go_wp2
  go_loopw [6, 7] (fun u i wr => ∃ (k : Nat) (ids : List Int), k ≤ ps.length ∧ i = .int .i64 k ∧ wr.ownsRow (w.heap.size + 1) 43 4 (.slice Av ps.length cv) ps.length (pcells ps) ∧ Own .i64 3 wr (w.heap.size + 1) u ids ∧ ids.length ≤ k ∧ Curs wr w.heap.size ∧ Below w.heap.size w wr) (fun _ i _ => ps.length - (intOf i).toNat)
  case atStart => exact ⟨0, [], Nat.zero_le _, rfl, hrow3, own3, Nat.le_refl _, hc3, hb3⟩
  case round =>
    clear hrow3 own3 hc3 hb3
    obtain ⟨k, ids, hk, rfl, hrow, hown, hil, hc, hbl⟩ := hrel
    have hcl := hc.lt
    by_cases hlt : k < ps.length
    · go_wp2_with fail
      refine (spec_l1Once w.heap.size 3 _ hc (by omega)).mono ?_
      rintro e w3 ⟨q, rfl, hc3, hg3⟩
      have hrow3 := ownr_grown hrow hg3 (fun b' e1 e2 => by have := (ownr_block hrow b' e1).1; injection e2 with e2; omega)
      have hown3 := hown.grown hg3 (fun b' e1 e2 => by have := (hown.block b' e1).1; injection e2 with e2; omega)
      have hbl3 := hbl.trans (below_of_only hg3 (Nat.le_refl _) hbl.size)
      have hs3 := hbl3.size
      clear hrow hown hc hg3 hbl
      cases q
      · go_wp2
        go_roundw
        case rel => exact ⟨k + 1, ids, by omega, by go_num, hrow3, hown3, by omega, hc3, hbl3⟩
        case measure => simp [intOf]; omega
      · have hp := (show PthsAt w3 w3.heap.size Av ps.length ps from ⟨rfl, ownr_cells hrow3⟩).at hlt
        obtain ⟨ad, p, rfl, hab, hpk, hpt⟩ := hp
        obtain ⟨c0, -, -, -⟩ := hpt
        have hcl3 := hc3.lt
        generalize p.id = z at *
        clear hpk
        go_wp2_with (at_builtin; refine wpList_app1 rfl _ _ 23 rfl .i64 3 8 Tryd.underlying23 info_i64 (w.heap.size + 1) _ ids rfl hown3 (by decide) (by omega) _ _ _ w3.heap.size (by omega) rfl (by simp) ?_; intro v4 w4 hown4 hgrow4 hat4; clear hat4)
        have hbx : Below w3.heap.size w3 (w3.alloc (.cells #[.int .i64 z] 3)) := (Below.refl _ _).alloc (Nat.le_refl _) _
        have hrow4 := ownr_grown (ownr_below hrow3 hbx) hgrow4 (fun b' e1 e2 => own_apartP (hown3.below hbx) (ownr_below hrow3 hbx) b' e2 e1)
        have hbl4 := (hown3.below hbx).push (by omega) (hbl3.trans (hbx.mono hs3)) (by simp; omega) hgrow4
        have hc4 := (hc3.alloc (.cells #[.int .i64 z] 3)).own hgrow4 (fun b e => by have := (hown3.block b e).1; omega)
        clear hgrow4 hrow3 hown3 hbl3 hc3 hbx
        go_wp2
        go_roundw
        case rel => exact ⟨k + 1, ids ++ [z], by omega, by go_num, hrow4, hown4, by rw [List.length_append, List.length_singleton]; omega, hc4, hbl4⟩
        case measure => simp [intOf]; omega
    · obtain rfl : k = ps.length := by omega
      go_wp2_with fail
      refine (spec_l1Once w.heap.size 8 _ hc (by omega)).mono ?_
      rintro e w3 ⟨q, rfl, hc3, hg3⟩
      have hrow3 := ownr_grown hrow hg3 (fun b' e1 e2 => by have := (ownr_block hrow b' e1).1; injection e2 with e2; omega)
      have hown3 := hown.grown hg3 (fun b' e1 e2 => by have := (hown.block b' e1).1; injection e2 with e2; omega)
      have hbl3 := hbl.trans (below_of_only hg3 (Nat.le_refl _) hbl.size)
      clear hrow hown hc hg3 hbl
      cases q
      · go_wp2
        refine bodyPost_ret (results_tmp2 rfl _ _ _) rfl ?_
        exact ⟨_, ps, _, ids, rfl, ownr_mono hrow3 (by omega), HWF.out, hp7, hown3.mono (by omega), by omega, hbl3⟩
      · go_wp2_with fail
        refine (spec_l1Below w.heap.size 22 _ hc3 (by omega)).mono ?_
        rintro e w4 ⟨z, hz, rfl, hc4, hg4⟩
        have hrow4 := ownr_grown hrow3 hg4 (fun b' e1 e2 => by have := (ownr_block hrow3 b' e1).1; injection e2 with e2; omega)
        have hown4 := hown3.grown hg4 (fun b' e1 e2 => by have := (hown3.block b' e1).1; injection e2 with e2; omega)
        have hbl4 := hbl3.trans (below_of_only hg4 (Nat.le_refl _) hbl3.size)
        have hs4 := hbl4.size
        have hcl4 := hc4.lt
        clear hrow3 hown3 hc3 hg4 hbl3
        go_wp2_with (at_builtin; refine wpList_app1 rfl _ _ 23 rfl .i64 3 8 Tryd.underlying23 info_i64 (w.heap.size + 1) _ ids rfl hown4 (by decide) (by omega) _ _ _ w4.heap.size (by omega) rfl (by simp) ?_; intro v5 w5 hown5 hgrow5 hat5; clear hat5)
        have hbx : Below w4.heap.size w4 (w4.alloc (.cells #[.int .i64 (z : Int)] 3)) := (Below.refl _ _).alloc (Nat.le_refl _) _
        have hrow5 := ownr_grown (ownr_below hrow4 hbx) hgrow5 (fun b' e1 e2 => own_apartP (hown4.below hbx) (ownr_below hrow4 hbx) b' e2 e1)
        have hbl5 := (hown4.below hbx).push (by omega) (hbl4.trans (hbx.mono hs4)) (by simp; omega) hgrow5
        clear hgrow5
        go_wp2
        refine bodyPost_ret (results_tmp2 rfl _ _ _) rfl ?_
        exact ⟨_, ps, _, ids ++ [(z : Int)], rfl, ownr_mono hrow5 (by omega), HWF.out, hp7, hown5.mono (by omega), by rw [List.length_append, List.length_singleton]; omega, hbl5⟩
theorem results_cell2 {fn : Func} {p q : Tmp} {t u : TypeId} (h : fn.results = #[.cell p t, .cell q u]) (tmps : Array Value) (P : Program) (w : World) :
    (results fn tmps).run P w =
      ((asAddr (tmps.getD p undef)).run P w).andThen fun a w₁ => ((loadVar t a).run P w₁).andThen fun x w₂ => ((asAddr (tmps.getD q undef)).run P w₂).andThen fun b w₃ => ((loadVar u b).run P w₃).andThen fun y w₄ => .ok (.tuple #[x, y]) w₄ := by
  simp only [results, h]
  simp [Sem.run_bind, Result.andThen]
set_option maxHeartbeats 2000000 in
theorem spec_DrawConflict (A : Option Addr) (n c B : Nat) (zs : List Int) (w : World) (hb : Bytes w B A n zs) (hB : B ≤ w.heap.size) (hn : n ≤ 1048576) :
    Calls Tryd.prog 26 #[.slice A n c] w fun e w' => ∃ p q : Pth, p.wf ∧ q.wf ∧ e = .returned (.tuple #[p.val, q.val]) ∧ Below w.heap.size w w' := by
  have hba : Below w.heap.size w ((w.alloc (.cells #[.int .i64 0, .int .i64 0, .int .i64 0, .int .i64 0] 43)).alloc (.cells #[.int .i64 0, .int .i64 0, .int .i64 0, .int .i64 0] 43)) := ((Below.refl _ _).alloc (Nat.le_refl _) _).alloc (by simp) _
  have hbz := hb.below (hba.mono hB)
  have hra := (Below.heap_alloc (w.alloc (.cells #[.int .i64 0, .int .i64 0, .int .i64 0, .int .i64 0] 43)) (.cells #[.int .i64 0, .int .i64 0, .int .i64 0, .int .i64 0] 43) w.heap.size (by simp)).trans (heap_alloc_new w (.cells #[.int .i64 0, .int .i64 0, .int .i64 0, .int .i64 0] 43))
  have hrb := heap_alloc_new (w.alloc (.cells #[.int .i64 0, .int .i64 0, .int .i64 0, .int .i64 0] 43)) (.cells #[.int .i64 0, .int .i64 0, .int .i64 0, .int .i64 0] 43)
  rw [World.size_alloc] at hrb
  have HBA := Lib.hid hba
  have HRA := Lib.hid hra
  have HRB := Lib.hid hrb
  clear hba hra hrb
  go_enter Tryd.func26, Tryd.ntmps26
  go_wp2_with fail
  refine (spec_l1New A n c B zs _ hbz (by simp; omega) hn).mono ?_
  rintro e w1 ⟨rfl, hc1, hb1⟩
  simp only [World.size_alloc] at hc1 hb1
  have hra1 := (hb1.block w.heap.size (by omega)).trans HRA.out
  have hrb1 := (hb1.block (w.heap.size + 1) (by omega)).trans HRB.out
  have hbl1 := HBA.out.trans (hb1.mono (by omega))
  clear hb1 HBA HRA HRB hbz hb
  have hcl1 := hc1.lt
  go_wp2_with fail
  refine (spec_l4Any (w.heap.size + 1 + 1) _ hc1).mono ?_
  rintro e w2 ⟨⟨p0, p1, p2, p3⟩, hpw, rfl, hc2, hg2⟩
  simp only [Pth.val]
  have hra2 := (hg2.block w.heap.size (by omega) (by simp; omega)).trans hra1
  have hrb2 := (hg2.block (w.heap.size + 1) (by omega) (by simp)).trans hrb1
  have hbl2 := hbl1.trans (below_of_only hg2 (by omega) hbl1.size)
  have hcl2 := hc2.lt
  clear hra1 hrb1 hbl1 hg2 hc1
  go_wp2
  have hX := heap_alloc_new w2 (.cells #[.int .i64 p0, .int .i64 p1, .int .i64 p2, .int .i64 p3] 43)
  have hra3 := (Below.heap_alloc w2 (.cells #[.int .i64 p0, .int .i64 p1, .int .i64 p2, .int .i64 p3] 43) w.heap.size (by omega)).trans hra2
  have hrb3 := (Below.heap_alloc w2 (.cells #[.int .i64 p0, .int .i64 p1, .int .i64 p2, .int .i64 p3] 43) (w.heap.size + 1) (by omega)).trans hrb2
  have hc3 := hc2.alloc (.cells #[.int .i64 p0, .int .i64 p1, .int .i64 p2, .int .i64 p3] 43)
  have hbl3 := hbl2.alloc hbl2.size (.cells #[.int .i64 p0, .int .i64 p1, .int .i64 p2, .int .i64 p3] 43)
  have hs3 : w2.heap.size < (w2.alloc (.cells #[.int .i64 p0, .int .i64 p1, .int .i64 p2, .int .i64 p3] 43)).heap.size := by simp
  generalize hw3 : w2.alloc (.cells #[.int .i64 p0, .int .i64 p1, .int .i64 p2, .int .i64 p3] 43) = w3 at *
  clear hw3 hra2 hrb2 hc2 hbl2
  have z0 := cell_of_row w3 _ 0 _ _ _ hX
  have z1 := cell_of_row w3 _ 1 _ _ _ hX
  have z2 := cell_of_row w3 _ 2 _ _ _ hX
  have z3 := cell_of_row w3 _ 3 _ _ _ hX
  simp only [List.getElem?_toArray, List.getElem?_cons_succ, List.getElem?_cons_zero] at z0 z1 z2 z3
  have hmx : Tryd.prog.follows .mixedOrders = true := by kernel_rfl
  refine wp_region_held_drew (S := fun W' => W'.cell? ⟨w2.heap.size, 0, none⟩ = some (.int .i64 p0) ∧ W'.cell? ⟨w2.heap.size, 1, none⟩ = some (.int .i64 p1) ∧ W'.cell? ⟨w2.heap.size, 2, none⟩ = some (.int .i64 p2) ∧ W'.cell? ⟨w2.heap.size, 3, none⟩ = some (.int .i64 p3)) hmx ⟨z0, z1, z2, z3⟩ (fun hH => ?_)
  refine wpAnyH_take (i := 0) (v := .agg #[.int .i64 p0, .int .i64 p1, .int .i64 p2, .int .i64 p3]) rfl (by kernel_rfl) (by kernel_rfl) (by kernel_rfl) (fun _ _ _ h => h) (Or.inl ⟨by rfl, by intro W' hW; obtain ⟨k0, k1, k2, k3⟩ := hW; go_simp⟩) hH ?_
  try simp only [Act.put, List.setIfInBounds_toArray, List.set_cons_zero, List.set_cons_succ]
  refine wpAnyH_ready (rs := [1]) (by decide +kernel) (by simp) (AllReadyH.cons rfl (fun K hK => ?_) AllReadyH.nil)
  go_simp
  refine hK.out _ _ hH (fun _ => ?_)
  clear hK K
  try simp only [Act.put, List.setIfInBounds_toArray, List.set_cons_zero, List.set_cons_succ]
  refine wpAnyH_ready (rs := [2]) (by decide +kernel) (by simp) (AllReadyH.cons rfl (fun K hK => ?_) AllReadyH.nil)
  go_simp
  refine (spec_l4Any (w.heap.size + 1 + 1) _ hc3.drew).mono ?_
  rintro e w4 ⟨⟨q0, q1, q2, q3⟩, hqw, rfl, hc4, hg4⟩
  simp only [Pth.val]
  have hbl4 : Below w.heap.size w w4 := (below_undrew (below_of_only hg4 (by omega) (Nat.le_trans hbl3.size (Nat.le_refl _))) |> fun h => hbl3.trans h)
  have hX4 := (hg4.block w2.heap.size hs3 (by simp; omega)).trans hX
  have hra4 := (hg4.block w.heap.size (by show w.heap.size < w3.heap.size; omega) (by simp; omega)).trans hra3
  have hrb4 := (hg4.block (w.heap.size + 1) (by show w.heap.size + 1 < w3.heap.size; omega) (by simp)).trans hrb3
  go_wp2_with fail
  have k0 := cell_of_row w4 _ 0 _ _ _ hX4
  have k1 := cell_of_row w4 _ 1 _ _ _ hX4
  have k2 := cell_of_row w4 _ 2 _ _ _ hX4
  have k3 := cell_of_row w4 _ 3 _ _ _ hX4
  have r0 := cell_of_row w4 _ 0 _ _ _ hra4
  have r1 := cell_of_row w4 _ 1 _ _ _ hra4
  have r2 := cell_of_row w4 _ 2 _ _ _ hra4
  have r3 := cell_of_row w4 _ 3 _ _ _ hra4
  have rf : ∀ j, w4.frozen? ⟨w.heap.size, j, none⟩ = false := fun j => frozen_of_row _ _ j _ _ hra4
  have s0 := cell_of_row w4 _ 0 _ _ _ hrb4
  have s1 := cell_of_row w4 _ 1 _ _ _ hrb4
  have s2 := cell_of_row w4 _ 2 _ _ _ hrb4
  have s3 := cell_of_row w4 _ 3 _ _ _ hrb4
  have sf : ∀ j, w4.frozen? ⟨w.heap.size + 1, j, none⟩ = false := fun j => frozen_of_row _ _ j _ _ hrb4
  simp only [List.getElem?_toArray, List.getElem?_cons_succ, List.getElem?_cons_zero] at k0 k1 k2 k3 r0 r1 r2 r3 s0 s1 s2 s3
  have n1 : w.heap.size ≠ w2.heap.size := by omega
  have n2 : w.heap.size + 1 ≠ w2.heap.size := by omega
  have n3 : w2.heap.size ≠ w.heap.size := by omega
  have n4 : w2.heap.size ≠ w.heap.size + 1 := by omega
  have HBL := Lib.hid hbl4
  have HPW := Lib.hid hpw
  have HQW := Lib.hid hqw
  have hsk : ∀ (W : World) (b o : Nat) (u : Value) (j : Nat), b ≠ w2.heap.size → (W.setCell ⟨b, o, none⟩ u).cell? ⟨w2.heap.size, j, none⟩ = W.cell? ⟨w2.heap.size, j, none⟩ := fun W b o u j hb => World.cell?_setCell_other _ _ _ _ (by simp <;> omega)
  refine hK.out _ _ ⟨k0, k1, k2, k3⟩ (fun _ => ?_)
  clear hK K hg4 hX4 hra4 hrb4 hbl4 hc3 hc4 hX hra3 hrb3 hbl3 hs3 z0 z1 z2 z3 hH hpw hqw
  try simp only [Act.put, List.setIfInBounds_toArray, List.set_cons_zero, List.set_cons_succ]
  refine wpAnyH_ready (rs := [3]) (by decide +kernel) (by simp) (AllReadyH.cons rfl (fun K hK => ?_) AllReadyH.nil)
  go_simp
  refine hK.out _ _ ⟨by rw [hsk _ _ _ _ _ n1, hsk _ _ _ _ _ n1, hsk _ _ _ _ _ n1, hsk _ _ _ _ _ n1]; exact k0, by rw [hsk _ _ _ _ _ n1, hsk _ _ _ _ _ n1, hsk _ _ _ _ _ n1, hsk _ _ _ _ _ n1]; exact k1, by rw [hsk _ _ _ _ _ n1, hsk _ _ _ _ _ n1, hsk _ _ _ _ _ n1, hsk _ _ _ _ _ n1]; exact k2, by rw [hsk _ _ _ _ _ n1, hsk _ _ _ _ _ n1, hsk _ _ _ _ _ n1, hsk _ _ _ _ _ n1]; exact k3⟩ (fun _ => ?_)
  clear hK K
  try simp only [Act.put, List.setIfInBounds_toArray, List.set_cons_zero, List.set_cons_succ]
  refine wpAnyH_ready (rs := [4]) (by decide +kernel) (by simp) (AllReadyH.cons rfl (fun K hK => ?_) AllReadyH.nil)
  go_simp
  refine hK.out _ _ ⟨by rw [hsk _ _ _ _ _ n2, hsk _ _ _ _ _ n2, hsk _ _ _ _ _ n2, hsk _ _ _ _ _ n2, hsk _ _ _ _ _ n1, hsk _ _ _ _ _ n1, hsk _ _ _ _ _ n1, hsk _ _ _ _ _ n1]; exact k0, by rw [hsk _ _ _ _ _ n2, hsk _ _ _ _ _ n2, hsk _ _ _ _ _ n2, hsk _ _ _ _ _ n2, hsk _ _ _ _ _ n1, hsk _ _ _ _ _ n1, hsk _ _ _ _ _ n1, hsk _ _ _ _ _ n1]; exact k1, by rw [hsk _ _ _ _ _ n2, hsk _ _ _ _ _ n2, hsk _ _ _ _ _ n2, hsk _ _ _ _ _ n2, hsk _ _ _ _ _ n1, hsk _ _ _ _ _ n1, hsk _ _ _ _ _ n1, hsk _ _ _ _ _ n1]; exact k2, by rw [hsk _ _ _ _ _ n2, hsk _ _ _ _ _ n2, hsk _ _ _ _ _ n2, hsk _ _ _ _ _ n2, hsk _ _ _ _ _ n1, hsk _ _ _ _ _ n1, hsk _ _ _ _ _ n1, hsk _ _ _ _ _ n1]; exact k3⟩ (fun _ => ?_)
  clear hK K hsk
  try simp only [Act.put, List.setIfInBounds_toArray, List.set_cons_zero, List.set_cons_succ]
  refine wpAnyH_done (by decide +kernel) ?_ _
  go_wp2
  refine bodyPost_ret (by rw [results_cell2 rfl]; go_simp; try rfl) rfl ?_
  exact ⟨⟨p0, p1, p2, p3⟩, ⟨q0, q1, q2, q3⟩, HPW.out, HQW.out, rfl, (((((((HBL.out.setCell (by simp) _).setCell (by simp) _).setCell (by simp) _).setCell (by simp) _).setCell (by simp) _).setCell (by simp) _).setCell (by simp) _).setCell (by simp) _⟩
end Go.Proofs.YtgdficjihkglpadDoor
