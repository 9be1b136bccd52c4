/- Chapter 23: HearAll: program and model. -/
import Derived.Test.YtdlcjmdkafebpaaLnkI
import Derived.Deep.RegionHeld3
namespace Go.Proofs.Ytdlcjmdkafebpaa
open Go.RowKit
set_option linter.unusedVariables false

theorem hearAll_zero (k : Lnk) (zs : List Int) (n o : Int) : hearAll k (zs.take 0) n o = k := rfl
theorem hearAll_step {k : Lnk} {zs : List Int} {n o z : Int} {i : Nat} (h : zs[i]? = some z) : hearAll k (zs.take (i + 1)) n o = (hearL (hearAll k (zs.take i) n o) z n o).1 := by
  unfold hearAll
  rw [List.take_add_one, h]
  simp
theorem hearAll_top {k : Lnk} {zs : List Int} {n o : Int} {i : Nat} (h : zs.length ≤ i) : hearAll k (zs.take i) n o = hearAll k zs n o := by rw [List.take_of_length_le h]
set_option maxHeartbeats 1000000 in
theorem impl_HearAll (k : Lnk) (A : Option Addr) (m cc B : Nat) (zs : List Int) (n o : Int) (w : World) (h : IntsAt .i64 w B A m zs) (hB : B ≤ w.heap.size) (hn : m ≤ 4294967296) :
    Calls Try.prog 57 #[k.val, .slice A m cc, .int .i64 n, .int .i64 o] w fun e w' => e = .returned (hearAll k zs n o).val ∧ Below w.heap.size w w' := by
  have hl := h.1
  have HL := Lib.hid hl
  clear hl
  obtain ⟨a, b, c, d⟩ := k
  simp only [Lnk.val]
  obtain ⟨wA, hwA⟩ : ∃ wA, wA = (w.alloc (.cells #[.int .i64 a, .int .i64 b, .int .i64 c, .int .i64 d] 74)).alloc (.cells #[.int .i64 0, .int .i64 0, .int .i64 0, .int .i64 0] 74) := ⟨_, rfl⟩
  obtain ⟨hk, hz, hsz, hBl⟩ := two_blocks hwA
  have HK := Lib.hid hk
  have HZ := Lib.hid hz
  have HBl := Lib.hid hBl
  clear hk hz hsz hBl
  go_enter Try.func57, Try.ntmps57
  go_wp2
  rw [← hwA]
  clear hwA
  go_loopw [13] (fun i wr => ∃ (k : Nat) (q : Lnk), k ≤ m ∧ i = .int .i64 k ∧ hearAll ⟨a, b, c, d⟩ (zs.take k) n o = q ∧ wr.heap[w.heap.size]? = some (.cells #[.int .i64 q.peer, .int .i64 q.seq, .int .i64 q.heard, .int .i64 q.offset] 74) ∧ wr.heap[w.heap.size + 1]? = some (.cells #[.int .i64 0, .int .i64 0, .int .i64 0, .int .i64 0] 74) ∧ Below w.heap.size w wr) (fun i _ => m - (intOf i).toNat)
  case atStart => exact ⟨0, ⟨a, b, c, d⟩, Nat.zero_le _, rfl, rfl, HK.out, HZ.out, HBl.out⟩
  case round =>
    obtain ⟨j, q, hj, rfl, hq, hk, hz, hbl⟩ := hrel
    obtain ⟨qa, qb, qc, qd⟩ := q
    obtain ⟨k0, k1, k2, k3⟩ := lnk_head (lnk_of_block (p := ⟨qa, qb, qc, qd⟩) hk)
    have HQ := Lib.hid hq
    simp only at k0 k1 k2 k3
    have HKR := Lib.hid hk
    have HZR := Lib.hid hz
    have HBR := Lib.hid hbl
    clear hq hk hz hbl HK HZ HBl
    by_cases hlt : j < m
    · obtain ⟨ad, rfl, hab, hc⟩ := h.2 (by omega)
      have hz := Lib.hid (show zs[j]? = some (zs.getD j 0) by rw [List.getD_eq_getElem?_getD, List.getElem?_eq_getElem (by have := HL.out; omega)]; rfl)
      have cz := (HBR.out.cell (p := ad.add j) (by rw [add_block]; omega)).trans (hc j hlt)
      clear hc
      generalize zs.getD j 0 = z at hz cz
      have HS := Lib.hid (hearAll_step (k := ⟨a, b, c, d⟩) (n := n) (o := o) hz.out)
      rw [HQ.out] at HS
      have hcc := fun x => impl_hearL ⟨qa, qb, qc, qd⟩ z n o x
      generalize (hearL ⟨qa, qb, qc, qd⟩ z n o).1 = q2 at HS hcc
      obtain ⟨ra, rb, rc, rd⟩ := q2
      simp only [Lnk.val] at hcc
      have i1 : (0 : Int) ≤ (j : Int) := by omega
      have i2 : (j : Int) < (m : Int) := by omega
      go_wp2_with fail
      refine (hcc _).mono ?_
      rintro e w2 ⟨rfl, hb2⟩
      have lt0 : w.heap.size + 1 < wr.heap.size := lt_of_block HZR.out
      have hk2 := (hb2.block _ (by omega)).trans HKR.out
      have HZ2 := Lib.hid ((hb2.block _ (by omega)).trans HZR.out)
      have HB2 := Lib.hid (HBR.out.trans (hb2.mono HBR.out.size))
      obtain ⟨y0, y1, y2, y3⟩ := lnk_head (lnk_of_block (p := ⟨qa, qb, qc, qd⟩) hk2)
      have fk : ∀ i, w2.frozen? ⟨w.heap.size, i, none⟩ = false := fun i => frozen_of_row _ _ i _ _ hk2
      simp only at y0 y1 y2 y3
      have lt2 : w.heap.size < w2.heap.size := lt_of_block hk2
      have HK2 := Lib.hid hk2
      clear hb2 hk2 k0 k1 k2 k3 cz hcc
      go_wp2
      go_roundw
      case rel =>
        refine ⟨j + 1, ⟨ra, rb, rc, rd⟩, by omega, by go_num, HS.out, ?_, ?_, (((HB2.out.setCell (Nat.le_refl _) _).setCell (Nat.le_refl _) _).setCell (Nat.le_refl _) _).setCell (Nat.le_refl _) _⟩
        · exact stored4 HK2.out
        · exact unstored4 HZ2.out (by omega)
      case measure => simp [intOf]; omega
    · obtain rfl : j = m := by omega
      rw [hearAll_top (by have := HL.out; omega)] at HQ
      have fz : ∀ i, wr.frozen? ⟨w.heap.size + 1, i, none⟩ = false := fun i => frozen_of_row _ _ i _ _ HZR.out
      obtain ⟨z0, z1, z2, z3⟩ := lnk_head (lnk_of_block (p := ⟨0, 0, 0, 0⟩) HZR.out)
      simp only at z0 z1 z2 z3
      have lt0 : w.heap.size + 1 < wr.heap.size := lt_of_block HZR.out
      go_wp2
      refine bodyPost_ret (by rw [results_cell rfl]; go_simp; try rfl) rfl ?_
      exact ⟨by rw [HQ.out], ((((HBR.out.setCell (Nat.le_succ _) _).setCell (Nat.le_succ _) _).setCell (Nat.le_succ _) _).setCell (Nat.le_succ _) _)⟩
end Go.Proofs.Ytdlcjmdkafebpaa
