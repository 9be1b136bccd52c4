/- Texts of one chain, put together: Hdc. -/
import Derived.Test.YtmcoeafkbpeelaaDoorBndlD
set_option linter.unusedSimpArgs false
/- A controller's rows marked and held: what the laws' helpers do, of a result. -/
namespace Go.Proofs.YtmcoeafkbpeelaaDoor
open Go.RowKit
set_option linter.unusedVariables false

set_option maxHeartbeats 4000000 in
theorem markd_ctl (x0 x1 : Int) (A : Option Addr) (n c : Nat) (zs : List Int) (A2 : Option Addr) (n2 c2 lo hi s : Nat) (zs2 : List Int) (w : World) (h : Ow .i64 3 w lo hi (.slice A n c) zs) (h2 : Ow .i64 3 w lo hi (.slice A2 n2 c2) zs2) (hap : ∀ g, (Value.slice A n c).ownBlock = some g → (Value.slice A2 n2 c2).ownBlock ≠ some g) (hn : n ≤ 1048576) (hn2 : n2 ≤ 1048576) (hs : s ≤ 16777216) :
    Calls Tryd.prog 15 #[ctlV (.slice A n c) x0 (.slice A2 n2 c2) x1, .int .i64 s] w fun e w' => e = .returned (.int .i64 ((s + n + n2 : Nat) : Int)) ∧ Ow .i64 3 w' lo hi (.slice A n c) (marks .i64 s n) ∧ Ow .i64 3 w' lo hi (.slice A2 n2 c2) (marks .i64 (s + n) n2) ∧ Part lo hi w w' := by
  simp only [ctlV]
  obtain ⟨wA, hwA⟩ : ∃ wA, wA = w.alloc (.cells #[.slice A n c, .int .i64 x0, .slice A2 n2 c2, .int .i64 x1] 28) := ⟨_, rfl⟩
  obtain ⟨hk, hsz, hB⟩ := one_block hwA
  have hcc := mark_i64 A n c lo s zs wA (h.below hB).own (by omega) (by omega)
  have HO2 := Lib.hid (h2.below hB)
  have HK := Lib.hid hk
  have HT := Lib.hid h.top
  have HL := Lib.hid h.lt
  have HL2 := Lib.hid h2.lt
  have hlo := h.own.block
  have hlo2 := h2.own.block
  have HLO := Lib.hid hlo
  have HLO2 := Lib.hid hlo2
  have HAP := Lib.hid hap
  have HSZ := Lib.hid (show wA.heap.size = w.heap.size + 1 by omega)
  have HB := Lib.hid hB
  obtain ⟨k0, k1, k2, k3⟩ := cells4 hk
  clear hk hsz hB h h2 hlo hlo2 hap
  go_enter Tryd.func15, Tryd.ntmps15
  go_wp2_with fail
  rw [← hwA]
  refine hcc.mono ?_
  rintro e w1 ⟨rfl, ho, hg⟩
  have hk1 : w1.heap[w.heap.size]? = wA.heap[w.heap.size]? := hg.block _ (by have := HSZ.out; omega) (fun e => by have := HL.out _ e.symm; have := HT.out; omega)
  replace hk1 := hk1.trans HK.out
  have hcc2 := mark_i64 A2 n2 c2 lo (s + n) zs2 w1 (HO2.out.own.grown hg (fun g e e' => HAP.out g e' e)) (by omega) (by omega)
  have HG := Lib.hid hg
  have HO1 := Lib.hid ho
  clear hwA k0 k1 k2 k3 ho hg
  obtain ⟨k0, k1, k2, k3⟩ := cells4 hk1
  go_wp2_with fail
  refine hcc2.mono ?_
  rintro e w2 ⟨rfl, ho2, hg2⟩
  clear k0 k1 k2 k3
  go_wp2
  go_ret
  refine ⟨rfl, ⟨HO1.out.grown hg2 (fun g e e' => HAP.out g e e'), HL.out, ?_⟩, ⟨ho2, HL2.out, ?_⟩, ⟨hg2.os.trans (HG.out.os.trans HB.out.os), hg2.tape.trans (HG.out.tape.trans HB.out.tape), hg2.output.trans (HG.out.output.trans HB.out.output), Nat.le_trans HB.out.size (Nat.le_trans HG.out.size hg2.size), fun i hi' hd => ?_⟩⟩
  · exact Nat.le_trans HT.out (Nat.le_trans HB.out.size (Nat.le_trans HG.out.size hg2.size))
  · exact Nat.le_trans HT.out (Nat.le_trans HB.out.size (Nat.le_trans HG.out.size hg2.size))
  have e1 : w2.heap[i]? = w1.heap[i]? := hg2.block i (Nat.lt_of_lt_of_le hi' (Nat.le_trans HB.out.size HG.out.size)) (fun e => by have := HL2.out _ e.symm; have := (HLO2.out _ e.symm).1; omega)
  have e2 : w1.heap[i]? = wA.heap[i]? := HG.out.block i (Nat.lt_of_lt_of_le hi' HB.out.size) (fun e => by have := HL.out _ e.symm; have := (HLO.out _ e.symm).1; omega)
  exact e1.trans (e2.trans (HB.out.block i hi'))
set_option maxHeartbeats 4000000 in
theorem held_ctl (x0 x1 : Int) (A : Option Addr) (n c : Nat) (A2 : Option Addr) (n2 c2 s : Nat) (w : World) (h : IntsAt .i64 w w.heap.size A n (marks .i64 s n)) (h2 : IntsAt .i64 w w.heap.size A2 n2 (marks .i64 (s + n) n2)) (hn : n ≤ 1048576) (hn2 : n2 ≤ 1048576) (hs : s ≤ 16777216) :
    Calls Tryd.prog 16 #[ctlV (.slice A n c) x0 (.slice A2 n2 c2) x1, .int .i64 s] w fun e w' => e = .returned (.int .i64 ((s + n + n2 : Nat) : Int)) ∧ Below w.heap.size w w' := by
  simp only [ctlV]
  obtain ⟨wA, hwA⟩ : ∃ wA, wA = w.alloc (.cells #[.slice A n c, .int .i64 x0, .slice A2 n2 c2, .int .i64 x1] 28) := ⟨_, rfl⟩
  obtain ⟨hk, hsz, hB⟩ := one_block hwA
  have HCC := Lib.hid (held_i64 A n c _ s wA (h.keep fun _ hp => hB.cell hp) (by omega) (by omega))
  have HCD := Lib.hid (fun x (hx : Below w.heap.size w x) => held_i64 A2 n2 c2 _ (s + n) x (h2.keep fun _ hp => hx.cell hp) (by omega) (by omega))
  have HK := Lib.hid hk
  have HB := Lib.hid hB
  have l0 : w.heap.size < wA.heap.size := by omega
  obtain ⟨k0, k1, k2, k3⟩ := cells4 hk
  clear hk hsz hB h h2
  go_enter Tryd.func16, Tryd.ntmps16
  go_wp2_with fail
  rw [← hwA]
  refine HCC.out.mono ?_
  rintro e w1 ⟨rfl, hb1⟩
  have HK1 := (hb1.block _ l0).trans HK.out
  have HB1 := Lib.hid (HB.out.trans (hb1.mono HB.out.size))
  clear hwA k0 k1 k2 k3 hb1
  obtain ⟨k0, k1, k2, k3⟩ := cells4 HK1
  have lk := lt_of_block HK1
  clear HK1
  go_wp2_with fail
  refine (HCD.out _ HB1.out).mono ?_
  rintro e w2 ⟨rfl, hb2⟩
  have HB2 := Lib.hid (HB1.out.trans (hb2.mono HB1.out.size))
  clear k0 k1 k2 k3 hb2
  go_wp2
  go_ret
  exact ⟨rfl, HB2.out⟩
end Go.Proofs.YtmcoeafkbpeelaaDoor
