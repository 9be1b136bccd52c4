/- The mask of a list of Ids; stages: the program. -/
import Derived.Test.YtgdficjihkglpabDoorAgI
import Derived.Test.YtgdficjihkglpabDoorFindI
import Derived.Test.YtgdficjihkglpabDoorTog2
namespace Go.Proofs.YtgdficjihkglpabDoor
open Go.RowKit
set_option linter.unusedVariables false

/-- the mask of these Ids, behind m. -/
def goI (ps : List Pth) : Nat → List Int → Option Nat
  | m, [] => some m
  | m, id :: ids => match findK id ps with
    | none => none
    | some i => if 2 ^ i ≤ m then none else goI ps (m ||| 2 ^ i) ids
def maskV : Option Nat → Value
  | none => .tuple #[.int .u16 0, .bool false]
  | some m => .tuple #[.int .u16 (m : Nat), .bool true]
theorem goI_none {ps : List Pth} {m : Nat} {id : Int} {ids : List Int} (h : findK id ps = none) : goI ps m (id :: ids) = none := by unfold goI; rw [h]
theorem goI_low {ps : List Pth} {m i : Nat} {id : Int} {ids : List Int} (h : findK id ps = some i) (h2 : 2 ^ i ≤ m) : goI ps m (id :: ids) = none := by unfold goI; rw [h]; exact if_pos h2
theorem goI_step {ps : List Pth} {m i : Nat} {id : Int} {ids : List Int} (h : findK id ps = some i) (h2 : ¬ 2 ^ i ≤ m) : goI ps m (id :: ids) = goI ps (m ||| 2 ^ i) ids := by
  conv => lhs; unfold goI
  rw [h]
  exact if_neg h2
theorem findK_lt {ps : List Pth} {id : Int} {k : Nat} (h : findK id ps = some k) : k < ps.length := by
  obtain ⟨p, hp, _⟩ := findK_at h
  exact (List.getElem?_eq_some_iff.1 hp).1
theorem drop_cons {zs : List Int} {k : Nat} (h : k < zs.length) : zs.drop k = zs.getD k 0 :: zs.drop (k + 1) := by
  rw [List.drop_eq_getElem_cons h, List.getD_eq_getElem?_getD, List.getElem?_eq_getElem h]
  rfl
theorem findI_some {ps : List Pth} {id : Int} {k : Nat} (h : findK id ps = some k) : findI id ps = (k : Int) := by unfold findI; rw [h]
theorem findI_no {ps : List Pth} {id : Int} (h : findK id ps = none) : findI id ps = -1 := by unfold findI; rw [h]
set_option maxHeartbeats 1000000 in
set_option maxRecDepth 100000 in
theorem impl_maskOf (A : Option Addr) (n c B : Nat) (ps : List Pth) (f : Nat → Nat) (A2 : Option Addr) (n2 c2 : Nat) (zs : List Int) (w : World) (h : PthsAt w B A n ps) (hB : B ≤ w.heap.size) (h12 : n ≤ 12) (h2 : IntsAt .i64 w w.heap.size A2 n2 zs) (hn2 : n2 ≤ 4294967296) :
    Calls Tryd.prog 87 #[.agg (xcells A n c f).toArray, .slice A2 n2 c2] w fun e w' => e = .returned (maskV (goI ps 0 zs)) ∧ Below w.heap.size w w' := by
  have hl := h.1
  have hl2 := h2.1
  have hX : (w.alloc (.cells (xcells A n c f).toArray 55)).cell? ⟨w.heap.size, 0, none⟩ = some (.slice A n c) := by rw [cell_of_row _ _ 0 _ 55 _ (heap_alloc_new w _)]; rfl
  generalize (xcells A n c f).toArray = xs at *
  have HX := Lib.hid hX
  clear hX
  go_enter Tryd.func87, Tryd.ntmps87
  go_wp2
  go_loopw [6, 12] (fun x i wr => ∃ k q : Nat, k ≤ n2 ∧ i = .int .i64 k ∧ x = .int .u16 (q : Nat) ∧ q < 4096 ∧ goI ps 0 zs = goI ps q (zs.drop k) ∧ wr.cell? ⟨w.heap.size, 0, none⟩ = some (.slice A n c) ∧ Below w.heap.size w wr ∧ w.heap.size < wr.heap.size) (fun _ i _ => n2 - (intOf i).toNat)
  case atStart => exact ⟨0, 0, Nat.zero_le _, rfl, rfl, by decide, rfl, HX.out, (Below.refl _ _).alloc (Nat.le_refl _) _, by simp⟩
  case round =>
    clear HX
    obtain ⟨k, q, hk, rfl, rfl, hq, hgo, hcx, hbl, hlt0⟩ := hrel
    have hsz := hbl.size
    by_cases hlt : k < n2
    · obtain ⟨ad2, rfl, hab2, hcell⟩ := h2.2 (by omega)
      have hc := (hbl.cell (by rw [add_block]; omega)).trans (hcell k hlt)
      rw [drop_cons (by omega)] at hgo
      have HP := Lib.hid ((h.below (hbl.mono hB)).up (B' := wr.heap.size) (by omega))
      have HG := Lib.hid hgo
      have HB := Lib.hid hbl
      have HC := Lib.hid hcell
      clear hgo hbl hcell
      generalize zs.getD k 0 = id at *
      go_wp2_with fail
      refine (impl_FindPath A n c _ ps id wr HP.out (Nat.le_refl _) (by omega)).mono ?_
      cases hf : findK id ps
      · have HR := Lib.hid (HG.out.trans (goI_none hf))
        rw [findI_no hf]
        rintro e w1 ⟨rfl, hb⟩
        have HB1 := Lib.hid (HB.out.trans (hb.mono HB.out.size))
        clear hf hb
        go_wp2
        go_ret2
        exact ⟨by rw [HR.out]; rfl, HB1.out⟩
      · rename_i j
        have hj := findK_lt hf
        rw [findI_some hf]
        rintro e w1 ⟨rfl, hb⟩
        have HB1 := Lib.hid (HB.out.trans (hb.mono HB.out.size))
        have hcx1 := (hb.cell (p := ⟨w.heap.size, 0, none⟩) hlt0).trans hcx
        have hlt1 : w.heap.size < w1.heap.size := Nat.lt_of_lt_of_le hlt0 hb.size
        have hmb := Lib.hid (fun x => impl_maskBit j x (by omega))
        have hjb := bit_lt (i := j) (by omega)
        have hj2 : 2 ^ j < 4096 := Nat.lt_of_lt_of_le (Nat.pow_lt_pow_right (by decide) (show j < 12 by omega)) (by decide)
        clear hb hcx hlt0
        by_cases hle : 2 ^ j ≤ q
        · have HR := Lib.hid (HG.out.trans (goI_low hf hle))
          clear hf
          generalize (2 : Nat) ^ j = x at *
          have hle2 : (x : Int) ≤ (q : Int) := by omega
          go_wp2_with fail
          refine (hmb.out w1).mono ?_
          rintro e w2 ⟨rfl, rfl⟩
          go_wp2
          go_ret2
          exact ⟨by rw [HR.out]; rfl, HB1.out⟩
        · have HR := Lib.hid (HG.out.trans (goI_step hf hle))
          have ho : bits .or .u16 (q : Int) ((2 ^ j : Nat) : Int) = ((q ||| 2 ^ j : Nat) : Int) := or_bit hq (by omega)
          have hq2 := or_lt hq hj2
          clear hf
          generalize q ||| (2 : Nat) ^ j = y at *
          generalize (2 : Nat) ^ j = x at *
          have hle2 : (q : Int) < (x : Int) := by omega
          go_wp2_with fail
          refine (hmb.out w1).mono ?_
          rintro e w2 ⟨rfl, rfl⟩
          go_wp2_with fail
          refine (hmb.out w1).mono ?_
          rintro e w2 ⟨rfl, rfl⟩
          go_wp2
          go_roundw
          case rel => exact ⟨k + 1, y, by omega, by go_num, rfl, hq2, HR.out, hcx1, HB1.out, hlt1⟩
          case measure => simp [intOf]; omega
    · obtain rfl : k = n2 := by omega
      have HR : Hid (goI ps 0 zs = some q) := Lib.hid (by rw [hgo, List.drop_of_length_le (by omega)]; rfl)
      clear hgo
      go_wp2
      go_ret2
      exact ⟨by rw [HR.out]; rfl, hbl⟩
end Go.Proofs.YtgdficjihkglpabDoor
