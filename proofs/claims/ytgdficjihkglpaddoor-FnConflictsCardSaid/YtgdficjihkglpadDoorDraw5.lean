/- Contracts of the draws of chapter 5. -/
import Derived.Test.YtgdficjihkglpadDoorDraw4
import Derived.Test.YtgdficjihkglpadDoorPths
namespace Go.Proofs.YtgdficjihkglpadDoor
open Go.RowKit
set_option linter.unusedVariables false

theorem only_own {a w w' : World} {g : Nat} {v : Value} (h : a.grownBy w (some g)) (hg : w.grownBy w' v.ownBlock) (hv : ∀ b, v.ownBlock = some b → a.heap.size ≤ b) : a.grownBy w' (some g) :=
  ⟨hg.os.trans h.os, hg.tape.trans h.tape, hg.output.trans h.output, Nat.le_trans h.size hg.size, fun i hi hne => (hg.block i (Nat.lt_of_lt_of_le hi h.size) (fun e => by
    have := hv i e.symm
    omega)).trans (h.block i hi hne)⟩
theorem Curs.own {w w' : World} {g : Nat} {v : Value} (h : Curs w g) (hg : w.grownBy w' v.ownBlock) (hv : ∀ b, v.ownBlock = some b → g < b) : Curs w' g :=
  h.below ⟨hg.os, hg.tape, hg.output, hg.size, fun k hk => hg.block k (Nat.lt_of_lt_of_le hk h.lt) (fun e => by
    have := hv k e.symm
    omega)⟩
theorem pcells_set (p : Pth) : ∀ (ps : List Pth) (j : Nat), ((((pcells ps).set (j * 4) (.int .i64 p.id)).set (j * 4 + 1) (.int .i64 p.kind)).set (j * 4 + 2) (.int .i64 p.frm)).set (j * 4 + 3) (.int .i64 p.to) = pcells (ps.set j p)
  | [], j => by simp [pcells]
  | q :: ps, 0 => by simp [pcells, Pth.cells]
  | q :: ps, j + 1 => by
    have ih := pcells_set p ps j
    have e : (j + 1) * 4 = j * 4 + 1 + 1 + 1 + 1 := by omega
    unfold pcells at ih ⊢
    rw [List.set_cons_succ, List.flatMap_cons, List.flatMap_cons, ← ih, e]
    rfl
theorem wf_set {ps : List Pth} {p : Pth} {j : Nat} (h : ∀ q ∈ ps, q.wf) (hp : p.wf) : ∀ q ∈ ps.set j p, q.wf := fun q hq => by
  rcases List.mem_or_eq_of_mem_set hq with h1 | rfl
  · exact h q h1
  · exact hp
set_option maxHeartbeats 1000000 in
theorem spec_l5Draw (g : Nat) (w : World) (h : Curs w g) :
    Calls Tryd.prog 102 #[.pointer (some ⟨g, 0, none⟩)] w fun e w' => ∃ (v : Value) (ps : List Pth), e = .returned v ∧ w'.ownsRow w.heap.size 43 4 v ps.length (pcells ps) ∧ (∀ p ∈ ps, p.wf) ∧ 0 < ps.length ∧ ps.length ≤ 7 ∧ Curs w' g ∧ w.grownBy w' (some g) := by
  have hgl := h.lt
  have hrow0 : (w.alloc (.cells #[] 43)).ownsRow w.heap.size 43 4 (.slice (some ⟨w.heap.size, 0, none⟩) 0 0) 0 [] := ⟨rfl, .inr ⟨w.heap.size, 0, #[], rfl, Nat.le_refl _, heap_alloc_new w _, Nat.le_refl _, by decide, rfl, rfl⟩⟩
  have hc0 := h.alloc (.cells #[] 43)
  have hg0 : w.grownBy (w.alloc (.cells #[] 43)) (some g) := only_alloc (World.grownBy.refl _ _) _
  go_enter Tryd.func102, Tryd.ntmps102
  go_wp2
  go_loopw [3, 4] (fun v i wr => ∃ (k : Nat) (ps : List Pth), k ≤ 7 ∧ i = .int .i64 ((k + 1 : Nat) : Int) ∧ ps.length = k ∧ wr.ownsRow w.heap.size 43 4 v k (pcells ps) ∧ (∀ p ∈ ps, p.wf) ∧ Curs wr g ∧ w.grownBy wr (some g)) (fun _ i _ => 9 - (intOf i).toNat)
  case atStart => exact ⟨0, [], by omega, rfl, rfl, hrow0, by simp, hc0, hg0⟩
  case round =>
    clear hrow0 hc0 hg0
    obtain ⟨k, ps, hk, rfl, hl, hrow, hwf, hc, hg⟩ := hrel
    have hsz := hg.size
    go_wp2_with fail
    refine (spec_l1Below g 6 _ hc (by omega)).mono ?_
    rintro e w1 ⟨x, hx, rfl, hc1, hg1⟩
    have hrow1 := ownr_grown hrow hg1 (fun b e1 e2 => by have := (ownr_block hrow b e1).1; injection e2 with e2; omega)
    have hgg := only_trans hg hg1
    have HWF := Lib.hid hwf
    clear hrow hc hg hg1 hwf
    by_cases hle : k + 1 ≤ 2 + x
    · have i1 : ((k : Int) + 1 ≤ 2 + (x : Int)) := by omega
      go_wp2_with fail
      refine (spec_l4Draw g ((k : Int) + 1) _ hc1 (wf64 _ (by omega))).mono ?_
      rintro e w2 ⟨p, hpw, -, rfl, hc2, hg2⟩
      have hrow2 := ownr_grown hrow1 hg2 (fun b e1 e2 => by have := (ownr_block hrow1 b e1).1; injection e2 with e2; omega)
      have hgg2 := only_trans hgg hg2
      have hs2 := hgg2.size
      have HPW := Lib.hid hpw
      obtain ⟨p0, p1, p2, p3⟩ := p
      simp only [Pth.val]
      clear hrow1 hg2 hgg hc1 hpw
      have hob : ∀ b, u3.ownBlock = some b → w.heap.size ≤ b := fun b e => (ownr_block hrow2 b e).1
      go_wp2_with (at_builtin; refine wpList_appR1 rfl _ _ 26 rfl 43 _ 4 32 Tryd.underlying26 info_pth rfl (by decide) (by decide) w.heap.size u3 _ _ rfl hrow2 (by omega) [.int .i64 p0, .int .i64 p1, .int .i64 p2, .int .i64 p3] rfl (by simp [Value.oneCell']) _ _ w2.heap.size hs2 rfl (by simp) ?_; intro v3 w3 hr3 hgrow3 hat3; clear hat3)
      go_roundw
      case rel =>
        refine ⟨k + 1, ps ++ [⟨p0, p1, p2, p3⟩], by omega, by go_num, by rw [List.length_append, hl]; rfl, ?_, ?_, ?_, ?_⟩
        · have e : pcells (ps ++ [⟨p0, p1, p2, p3⟩]) = pcells ps ++ [.int .i64 p0, .int .i64 p1, .int .i64 p2, .int .i64 p3] := by unfold pcells; rw [List.flatMap_append]; rfl
          rw [e]; exact hr3
        · intro q hq
          rcases List.mem_append.1 hq with h1 | h1
          · exact HWF.out q h1
          · rw [List.mem_singleton.1 h1]; exact HPW.out
        · exact (hc2.alloc _).own hgrow3 (fun b e => by have := hob b e; omega)
        · exact only_own (only_alloc hgg2 _) hgrow3 hob
      case measure => simp [intOf]; omega
    · have i1 : ¬ ((k : Int) + 1 ≤ 2 + (x : Int)) := by omega
      go_wp2
      go_ret
      refine ⟨_, ps, rfl, by rw [hl]; exact hrow1, HWF.out, by omega, by omega, hc1, hgg⟩
set_option maxHeartbeats 1000000 in
theorem spec_l5Any (g : Nat) (w : World) (h : Curs w g) :
    Calls Tryd.prog 74 #[.pointer (some ⟨g, 0, none⟩)] w fun e w' => ∃ (v : Value) (ps : List Pth), e = .returned v ∧ w'.ownsRow w.heap.size 43 4 v ps.length (pcells ps) ∧ (∀ p ∈ ps, p.wf) ∧ 0 < ps.length ∧ ps.length ≤ 7 ∧ Curs w' g ∧ w.grownBy w' (some g) := by
  have hgl := h.lt
  go_enter Tryd.func74, Tryd.ntmps74
  go_wp2_with fail
  refine (spec_l5Draw g _ h).mono ?_
  rintro e w1 ⟨v, ps, rfl, hrow, hwf, hp0, hp7, hc1, hg1⟩
  have hs1 := hg1.size
  obtain ⟨A, c, rfl⟩ := ownr_sliced hrow
  obtain ⟨b, rfl, hbl⟩ : ∃ b, A = some ⟨b, 0, none⟩ ∧ w.heap.size ≤ b := by
    rcases hrow.2 with ⟨e1, h1⟩ | ⟨b, cap, cur, e1, hb, _⟩
    · omega
    · injection e1 with e1 e2 e3
      exact ⟨b, e1, hb⟩
  have HWF := Lib.hid hwf
  clear hwf
  go_wp2_with fail
  refine (spec_l1Once g 6 _ hc1 (by omega)).mono ?_
  rintro e w2 ⟨q, rfl, hc2, hg2⟩
  have hrow2 := ownr_grown hrow hg2 (fun b' e1 e2 => by have := (ownr_block hrow b' e1).1; injection e2 with e2; omega)
  have hgg2 := only_trans hg1 hg2
  clear hrow hc1 hg1 hg2
  cases q
  · go_wp2
    go_ret
    exact ⟨_, ps, rfl, hrow2, HWF.out, hp0, hp7, hc2, hgg2⟩
  · go_wp2_with fail
    refine (spec_l1Below g ps.length _ hc2 (by omega)).mono ?_
    rintro e w3 ⟨j, hj, rfl, hc3, hg3⟩
    have hrow3 := ownr_grown hrow2 hg3 (fun b' e1 e2 => by have := (ownr_block hrow2 b' e1).1; injection e2 with e2; omega)
    have hgg3 := only_trans hgg2 hg3
    clear hrow2 hc2 hgg2 hg3
    go_wp2_with fail
    refine (spec_l4Any g _ hc3).mono ?_
    rintro e w4 ⟨⟨p0, p1, p2, p3⟩, hpw, rfl, hc4, hg4⟩
    simp only [Pth.val]
    have hrow4 := ownr_grown hrow3 hg4 (fun b' e1 e2 => by have := (ownr_block hrow3 b' e1).1; injection e2 with e2; omega)
    have hgg4 := only_trans hgg3 hg4
    clear hrow3 hc3 hgg3 hg4
    obtain ⟨x0, hx0⟩ := ownr_some hrow4 (j := j * 4) (by omega)
    obtain ⟨x1, hx1⟩ := ownr_some hrow4 (j := j * 4 + 1) (by omega)
    obtain ⟨x2, hx2⟩ := ownr_some hrow4 (j := j * 4 + 2) (by omega)
    obtain ⟨x3, hx3⟩ := ownr_some hrow4 (j := j * 4 + 3) (by omega)
    have f0 := World.ownsRow.frozenAt hrow4
    have hst := (World.ownsRow.stored (World.ownsRow.stored (World.ownsRow.stored (World.ownsRow.stored hrow4 (j * 4) (.int .i64 p0)).1 (j * 4 + 1) (.int .i64 p1)).1 (j * 4 + 2) (.int .i64 p2)).1 (j * 4 + 3) (.int .i64 p3)).1
    rw [pcells_set ⟨p0, p1, p2, p3⟩ ps j] at hst
    have HS := Lib.hid hst
    have HP := Lib.hid (wf_set HWF.out hpw (j := j))
    have HGG := Lib.hid hgg4
    clear hst hrow4 hpw hgg4
    go_wp2
    go_ret
    refine ⟨_, ps.set j ⟨p0, p1, p2, p3⟩, rfl, ?_, HP.out, by rw [List.length_set]; exact hp0, by rw [List.length_set]; exact hp7, (((hc4.fresh (by omega)).fresh (by omega)).fresh (by omega)).fresh (by omega), only_fresh (only_fresh (only_fresh (only_fresh HGG.out hbl _) hbl _) hbl _) hbl _⟩
    rw [List.length_set]
    exact HS.out
theorem spec_DrawArePaths (A : Option Addr) (n c B : Nat) (zs : List Int) (w : World) (hb : Bytes w B A n zs) (hB : B ≤ w.heap.size) (hn : n ≤ 1048576) :
    Calls Tryd.prog 53 #[.slice A n c] w fun e w' => ∃ (v : Value) (ps : List Pth), e = .returned v ∧ w'.ownsRow w.heap.size 43 4 v ps.length (pcells ps) ∧ (∀ p ∈ ps, p.wf) ∧ 0 < ps.length ∧ ps.length ≤ 7 ∧ Below w.heap.size w w' := by
  go_enter Tryd.func53, Tryd.ntmps53
  go_wp2_with fail
  refine (spec_l1New A n c B zs _ hb hB hn).mono ?_
  rintro e w1 ⟨rfl, hc1, hb1⟩
  go_wp2_with fail
  refine (spec_l5Any w.heap.size _ hc1).mono ?_
  rintro e w2 ⟨v, ps, rfl, hrow, hwf, hp0, hp7, hc2, hg2⟩
  have HWF := Lib.hid hwf
  clear hwf
  go_wp2
  go_ret
  exact ⟨_, ps, rfl, ownr_mono hrow hb1.size, HWF.out, hp0, hp7, hb1.trans (below_of_only hg2 (Nat.le_refl _) hb1.size)⟩
theorem spec_DrawCountConflicts (A : Option Addr) (n c B : Nat) (zs : List Int) (w : World) (hb : Bytes w B A n zs) (hB : B ≤ w.heap.size) (hn : n ≤ 1048576) :
    Calls Tryd.prog 28 #[.slice A n c] w fun e w' => ∃ (v : Value) (ps : List Pth), e = .returned v ∧ w'.ownsRow w.heap.size 43 4 v ps.length (pcells ps) ∧ (∀ p ∈ ps, p.wf) ∧ 0 < ps.length ∧ ps.length ≤ 7 ∧ Below w.heap.size w w' := by
  go_enter Tryd.func28, Tryd.ntmps28
  go_wp2_with fail
  refine (spec_DrawArePaths A n c B zs _ hb hB hn).mono ?_
  rintro e w1 ⟨v, ps, rfl, hrow, hwf, hp0, hp7, hb1⟩
  have HWF := Lib.hid hwf
  clear hwf
  go_wp2
  go_ret
  exact ⟨_, ps, rfl, hrow, HWF.out, hp0, hp7, hb1⟩
end Go.Proofs.YtgdficjihkglpadDoor
