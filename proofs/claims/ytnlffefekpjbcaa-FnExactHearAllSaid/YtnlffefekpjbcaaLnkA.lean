/- Chapter 23: HearAll: program and model. -/
import Derived.Test.YtnlffefekpjbcaaLnkI
import Derived.Deep.RegionHeld3
namespace Go.Proofs.Ytnlffefekpjbcaa
open Go.RowKit
set_option linter.unusedVariables false

theorem hearAll_zero (k : Lnk) (zs : List Int) (n o : Int) : hearAll k (zs.take 0) n o = k := rfl
theorem hearAll_step {k : Lnk} {zs : List Int} {n o z : Int} {i : Nat} (h : zs[i]? = some z) : hearAll k (zs.take (i + 1)) n o = (hearL (hearAll k (zs.take i) n o) z n o).1 := by
  unfold hearAll
  rw [List.take_add_one, h]
  simp
theorem hearAll_top {k : Lnk} {zs : List Int} {n o : Int} {i : Nat} (h : zs.length ≤ i) : hearAll k (zs.take i) n o = hearAll k zs n o := by rw [List.take_of_length_le h]
set_option maxHeartbeats 1000000 in
theorem impl_HearAll (k : Lnk) (A : Option Addr) (m cc B : Nat) (zs : List Int) (n o : Int) (w : World) (h : IntsAt .i64 w B A m zs) (hB : B ≤ w.heap.size) (hn : m ≤ 4294967296) :
    Calls Try.prog 25 #[k.val, .slice A m cc, .int .i64 n, .int .i64 o] w fun e w' => e = .returned (hearAll k zs n o).val ∧ Below w.heap.size w w' := by
  have hl := h.1
  have HL := Lib.hid hl
  clear hl
  obtain ⟨a, b, c, d⟩ := k
  simp only [Lnk.val]
  obtain ⟨wA, hwA⟩ : ∃ wA, wA = (w.alloc (.cells #[.int .i64 a, .int .i64 b, .int .i64 c, .int .i64 d] 25)).alloc (.cells #[.int .i64 0, .int .i64 0, .int .i64 0, .int .i64 0] 25) := ⟨_, rfl⟩
  obtain ⟨hk, hz, hsz, hBl⟩ := two_blocks hwA
  have HK := Lib.hid hk
  have HZ := Lib.hid hz
  have HBl := Lib.hid hBl
  clear hk hz hsz hBl
  go_enter Try.func25, Try.ntmps25
  go_wp2
  rw [← hwA]
  clear hwA
  go_loopw [13] (fun i wr => ∃ (k : Nat) (q : Lnk), k ≤ m ∧ i = .int .i64 k ∧ hearAll ⟨a, b, c, d⟩ (zs.take k) n o = q ∧ wr.heap[w.heap.size]? = some (.cells #[.int .i64 q.peer, .int .i64 q.seq, .int .i64 q.heard, .int .i64 q.offset] 25) ∧ wr.heap[w.heap.size + 1]? = some (.cells #[.int .i64 0, .int .i64 0, .int .i64 0, .int .i64 0] 25) ∧ Below w.heap.size w wr) (fun i _ => m - (intOf i).toNat)
  case atStart => exact ⟨0, ⟨a, b, c, d⟩, Nat.zero_le _, rfl, rfl, HK.out, HZ.out, HBl.out⟩
  case round =>
    obtain ⟨j, q, hj, rfl, hq, hk, hz, hbl⟩ := hrel
    obtain ⟨qa, qb, qc, qd⟩ := q
    obtain ⟨k0, k1, k2, k3⟩ := lnk_head (lnk_of_block (p := ⟨qa, qb, qc, qd⟩) hk)
    have HQ := Lib.hid hq
    simp only at k0 k1 k2 k3
    have HKR := Lib.hid hk
    have HZR := Lib.hid hz
    have HBR := Lib.hid hbl
    clear hq hk hz hbl HK HZ HBl
    by_cases hlt : j < m
    · obtain ⟨ad, rfl, hab, hc⟩ := h.2 (by omega)
      have hz := Lib.hid (show zs[j]? = some (zs.getD j 0) by rw [List.getD_eq_getElem?_getD, List.getElem?_eq_getElem (by have := HL.out; omega)]; rfl)
      have cz := (HBR.out.cell (p := ad.add j) (by rw [add_block]; omega)).trans (hc j hlt)
      clear hc
      generalize zs.getD j 0 = z at hz cz
      have HS := Lib.hid (hearAll_step (k := ⟨a, b, c, d⟩) (n := n) (o := o) hz.out)
      rw [HQ.out] at HS
      have hcc := fun x => impl_hearL ⟨qa, qb, qc, qd⟩ z n o x
      generalize (hearL ⟨qa, qb, qc, qd⟩ z n o).1 = q2 at HS hcc
      obtain ⟨ra, rb, rc, rd⟩ := q2
      simp only [Lnk.val] at hcc
      have i1 : (0 : Int) ≤ (j : Int) := by omega
      have i2 : (j : Int) < (m : Int) := by omega
      go_wp2_with fail
      refine (hcc _).mono ?_
      rintro e w2 ⟨rfl, hb2⟩
      have lt0 : w.heap.size + 1 < wr.heap.size := lt_of_block HZR.out
      have hk2 := (hb2.block _ (by omega)).trans HKR.out
      have HZ2 := Lib.hid ((hb2.block _ (by omega)).trans HZR.out)
      have HB2 := Lib.hid (HBR.out.trans (hb2.mono HBR.out.size))
      obtain ⟨y0, y1, y2, y3⟩ := lnk_head (lnk_of_block (p := ⟨qa, qb, qc, qd⟩) hk2)
      have fk : ∀ i, w2.frozen? ⟨w.heap.size, i, none⟩ = false := fun i => frozen_of_row _ _ i _ _ hk2
      simp only at y0 y1 y2 y3
      have lt2 : w.heap.size < w2.heap.size := lt_of_block hk2
      have HK2 := Lib.hid hk2
      clear hb2 hk2 k0 k1 k2 k3 cz hcc
      go_wp2
      go_roundw
      case rel =>
        refine ⟨j + 1, ⟨ra, rb, rc, rd⟩, by omega, by go_num, HS.out, ?_, ?_, (((HB2.out.setCell (Nat.le_refl _) _).setCell (Nat.le_refl _) _).setCell (Nat.le_refl _) _).setCell (Nat.le_refl _) _⟩
        · exact stored4 HK2.out
        · exact unstored4 HZ2.out (by omega)
      case measure => simp [intOf]; omega
    · obtain rfl : j = m := by omega
      rw [hearAll_top (by have := HL.out; omega)] at HQ
      have fz : ∀ i, wr.frozen? ⟨w.heap.size + 1, i, none⟩ = false := fun i => frozen_of_row _ _ i _ _ HZR.out
      obtain ⟨z0, z1, z2, z3⟩ := lnk_head (lnk_of_block (p := ⟨0, 0, 0, 0⟩) HZR.out)
      simp only at z0 z1 z2 z3
      have lt0 : w.heap.size + 1 < wr.heap.size := lt_of_block HZR.out
      go_wp2
      refine bodyPost_ret (by rw [results_cell rfl]; go_simp; try rfl) rfl ?_
      exact ⟨by rw [HQ.out], ((((HBR.out.setCell (Nat.le_succ _) _).setCell (Nat.le_succ _) _).setCell (Nat.le_succ _) _).setCell (Nat.le_succ _) _)⟩
set_option maxHeartbeats 1000000 in
theorem spec_HearAll (k : Lnk) (A : Option Addr) (m cc B : Nat) (zs : List Int) (n o : Int) (w : World) (h : IntsAt .i64 w B A m zs) (hB : B ≤ w.heap.size) (hn : m ≤ 4294967296) :
    Calls Try.prog 23 #[k.val, .slice A m cc, .int .i64 n, .int .i64 o] w fun e w' => e = .returned (hearAll k zs n o).val ∧ Below w.heap.size w w' := by
  have hl := h.1
  have HL := Lib.hid hl
  clear hl
  obtain ⟨a, b, c, d⟩ := k
  simp only [Lnk.val]
  obtain ⟨wA, hwA⟩ : ∃ wA, wA = (w.alloc (.cells #[.int .i64 a, .int .i64 b, .int .i64 c, .int .i64 d] 25)).alloc (.cells #[.int .i64 0, .int .i64 0, .int .i64 0, .int .i64 0] 25) := ⟨_, rfl⟩
  obtain ⟨hk, hz, hsz, hBl⟩ := two_blocks hwA
  have HK := Lib.hid hk
  have HZ := Lib.hid hz
  have HBl := Lib.hid hBl
  clear hk hz hsz hBl
  go_enter Try.func23, Try.ntmps23
  go_wp2
  rw [← hwA]
  clear hwA
  go_loopw [9] (fun i wr => ∃ (k : Nat) (q : Lnk), k ≤ m ∧ i = .int .i64 k ∧ hearAll ⟨a, b, c, d⟩ (zs.take k) n o = q ∧ wr.heap[w.heap.size]? = some (.cells #[.int .i64 q.peer, .int .i64 q.seq, .int .i64 q.heard, .int .i64 q.offset] 25) ∧ wr.heap[w.heap.size + 1]? = some (.cells #[.int .i64 0, .int .i64 0, .int .i64 0, .int .i64 0] 25) ∧ Below w.heap.size w wr) (fun i _ => m - (intOf i).toNat)
  case atStart => exact ⟨0, ⟨a, b, c, d⟩, Nat.zero_le _, rfl, rfl, HK.out, HZ.out, HBl.out⟩
  case round =>
    obtain ⟨j, q, hj, rfl, hq, hk, hz, hbl⟩ := hrel
    obtain ⟨qa, qb, qc, qd⟩ := q
    obtain ⟨k0, k1, k2, k3⟩ := lnk_head (lnk_of_block (p := ⟨qa, qb, qc, qd⟩) hk)
    have HQ := Lib.hid hq
    simp only at k0 k1 k2 k3
    have HKR := Lib.hid hk
    have HZR := Lib.hid hz
    have HBR := Lib.hid hbl
    clear hq hk hz hbl HK HZ HBl
    by_cases hlt : j < m
    · obtain ⟨ad, rfl, hab, hc⟩ := h.2 (by omega)
      have hz := Lib.hid (show zs[j]? = some (zs.getD j 0) by rw [List.getD_eq_getElem?_getD, List.getElem?_eq_getElem (by have := HL.out; omega)]; rfl)
      have cz := (HBR.out.cell (p := ad.add j) (by rw [add_block]; omega)).trans (hc j hlt)
      clear hc
      generalize zs.getD j 0 = z at hz cz
      have HS := Lib.hid (hearAll_step (k := ⟨a, b, c, d⟩) (n := n) (o := o) hz.out)
      rw [HQ.out] at HS
      have hcc := fun x => spec_HearLink ⟨qa, qb, qc, qd⟩ z n o x
      generalize hq2 : hearL ⟨qa, qb, qc, qd⟩ z n o = q2 at HS hcc
      clear hq2
      obtain ⟨⟨ra, rb, rc, rd⟩, rv⟩ := q2
      simp only [Lnk.val] at hcc
      have i1 : (0 : Int) ≤ (j : Int) := by omega
      have i2 : (j : Int) < (m : Int) := by omega
      have lt0 : w.heap.size + 1 < wr.heap.size := lt_of_block HZR.out
      have lt1 : w.heap.size < wr.heap.size := by omega
      have fk : ∀ i, wr.frozen? ⟨w.heap.size, i, none⟩ = false := fun i => frozen_of_row _ _ i _ _ HKR.out
      go_wp2
      have cz' : wr.drew.cell? _ = _ := cz
      have k0' : wr.drew.cell? _ = _ := k0
      have k1' : wr.drew.cell? _ = _ := k1
      have k2' : wr.drew.cell? _ = _ := k2
      have k3' : wr.drew.cell? _ = _ := k3
      have hmx : Try.prog.follows .mixedOrders = true := by kernel_rfl
      have hdw : ∀ (wx w2 : World), Below wx.heap.size wx w2 → wx.heap = wr.heap → (w2.heap[w.heap.size]? = wr.heap[w.heap.size]?) ∧ (w2.heap[w.heap.size + 1]? = wr.heap[w.heap.size + 1]?) := fun wx w2 hb e => ⟨(hb.block _ (by rw [e]; exact lt1)).trans (by rw [e]), (hb.block _ (by rw [e]; exact lt0)).trans (by rw [e])⟩
      refine wp_region_held_drew (S := fun _ => True) hmx trivial (fun hH => ?_)
      refine wpAnyH_take (i := 1) (v := .slice (some ad) m cc) rfl (by kernel_rfl) (by kernel_rfl) (by kernel_rfl) (fun _ _ _ h => h) (Or.inl ⟨by rfl, by intro w hSw; go_simp⟩) hH ?_
      try simp only [Act.put, List.setIfInBounds_toArray, List.set_cons_zero, List.set_cons_succ]
      refine wpAnyH_take (i := 2) (v := .int .i64 (j : Int)) rfl (by kernel_rfl) (by kernel_rfl) (by kernel_rfl) (fun _ _ _ h => h) (Or.inl ⟨by rfl, by intro w hSw; go_simp⟩) hH ?_
      try simp only [Act.put, List.setIfInBounds_toArray, List.set_cons_zero, List.set_cons_succ]
      refine wpAnyH_take (i := 3) (v := .pointer (some (ad.add j))) rfl (by kernel_rfl) (by kernel_rfl) (by kernel_rfl) (fun _ _ _ h => h) (Or.inl ⟨by rfl, by intro w hSw; go_simp⟩) hH ?_
      try simp only [Act.put, List.setIfInBounds_toArray, List.set_cons_zero, List.set_cons_succ]
      refine wpAnyH_take (i := 5) (v := .int .i64 n) rfl (by kernel_rfl) (by kernel_rfl) (by kernel_rfl) (fun _ _ _ h => h) (Or.inl ⟨by rfl, by intro w hSw; go_simp⟩) hH ?_
      try simp only [Act.put, List.setIfInBounds_toArray, List.set_cons_zero, List.set_cons_succ]
      refine wpAnyH_take (i := 6) (v := .int .i64 o) rfl (by kernel_rfl) (by kernel_rfl) (by kernel_rfl) (fun _ _ _ h => h) (Or.inl ⟨by rfl, by intro w hSw; go_simp⟩) hH ?_
      try simp only [Act.put, List.setIfInBounds_toArray, List.set_cons_zero, List.set_cons_succ]
      have cz' : wr.drew.cell? _ = _ := cz
      have k0' : wr.drew.cell? _ = _ := k0
      have k1' : wr.drew.cell? _ = _ := k1
      have k2' : wr.drew.cell? _ = _ := k2
      have k3' : wr.drew.cell? _ = _ := k3
      refine wpAnyH_ready (rs := [0, 4]) (by decide +kernel) (by simp) (AllReadyH.cons rfl (fun K hK => ?_) (AllReadyH.cons rfl (fun K hK => ?_) AllReadyH.nil))
      · go_simp
        refine hK.out _ _ trivial (fun _ => ?_)
        clear hK K
        try simp only [Act.put, List.setIfInBounds_toArray, List.set_cons_zero, List.set_cons_succ]
        refine wpAnyH_ready (rs := [4]) (by decide +kernel) (by simp) (AllReadyH.cons rfl (fun K hK => ?_) AllReadyH.nil)
        go_simp
        refine hK.out _ _ trivial (fun _ => ?_)
        clear hK K
        try simp only [Act.put, List.setIfInBounds_toArray, List.set_cons_zero, List.set_cons_succ]
        refine wpAnyH_ready (rs := [7]) (by decide +kernel) (by simp) (AllReadyH.cons rfl (fun K hK => ?_) AllReadyH.nil)
        go_simp
        refine (hcc _).mono ?_
        rintro e w2 ⟨rfl, hb2⟩
        go_wp2_with fail
        have hb2' : Below wr.heap.size wr w2 := below_undrew hb2
        have y0 := (hb2'.cell (p := ⟨w.heap.size, 0, none⟩) lt1).trans k0
        have y1 := (hb2'.cell (p := ⟨w.heap.size, 1, none⟩) lt1).trans k1
        have y2 := (hb2'.cell (p := ⟨w.heap.size, 2, none⟩) lt1).trans k2
        have y3 := (hb2'.cell (p := ⟨w.heap.size, 3, none⟩) lt1).trans k3
        have fk2 : ∀ i, w2.frozen? ⟨w.heap.size, i, none⟩ = false := fun i => frozen_of_row _ _ i _ _ ((hb2'.block _ lt1).trans HKR.out)
        refine hK.out _ _ trivial (fun hH2 => ?_)
        clear hK K
        try simp only [Act.put, List.setIfInBounds_toArray, List.set_cons_zero, List.set_cons_succ]
        refine wpAnyH_take (i := 8) (v := .tuple #[.agg #[.int .i64 ra, .int .i64 rb, .int .i64 rc, .int .i64 rd], .bool rv]) rfl (by kernel_rfl) (by kernel_rfl) (by kernel_rfl) (fun _ _ _ h => h) (Or.inl ⟨by rfl, by intro w hSw; go_simp⟩) hH2 ?_
        try simp only [Act.put, List.setIfInBounds_toArray, List.set_cons_zero, List.set_cons_succ]
        refine wpAnyH_take (i := 9) (v := .agg #[.int .i64 ra, .int .i64 rb, .int .i64 rc, .int .i64 rd]) rfl (by kernel_rfl) (by kernel_rfl) (by kernel_rfl) (fun _ _ _ h => h) (Or.inl ⟨by rfl, by intro w hSw; go_simp⟩) hH2 ?_
        try simp only [Act.put, List.setIfInBounds_toArray, List.set_cons_zero, List.set_cons_succ]
        refine wpAnyH_take (i := 10) (v := .bool rv) rfl (by kernel_rfl) (by kernel_rfl) (by kernel_rfl) (fun _ _ _ h => h) (Or.inl ⟨by rfl, by intro w hSw; go_simp⟩) hH2 ?_
        try simp only [Act.put, List.setIfInBounds_toArray, List.set_cons_zero, List.set_cons_succ]
        refine wpAnyH_ready (rs := [11]) (by decide +kernel) (by simp) (AllReadyH.cons rfl (fun K hK => ?_) AllReadyH.nil)
        go_simp
        refine hK.out _ _ trivial (fun _ => ?_)
        clear hK K
        try simp only [Act.put, List.setIfInBounds_toArray, List.set_cons_zero, List.set_cons_succ]
        refine wpAnyH_done (by decide +kernel) ?_ _
        have HK2 := Lib.hid ((hb2'.block _ lt1).trans HKR.out)
        have HZ2 := Lib.hid ((hb2'.block _ lt0).trans HZR.out)
        have HB2 := Lib.hid (HBR.out.trans (hb2'.mono HBR.out.size))
        clear hb2 hb2' cz' k0' k1' k2' k3' y0 y1 y2 y3 k0 k1 k2 k3 cz hcc fk fk2
        go_wp2
        go_roundw
        case rel => exact ⟨j + 1, ⟨ra, rb, rc, rd⟩, by omega, by go_num, HS.out, stored4 HK2.out, unstored4 HZ2.out (by omega), (((HB2.out.setCell (Nat.le_refl _) _).setCell (Nat.le_refl _) _).setCell (Nat.le_refl _) _).setCell (Nat.le_refl _) _⟩
        case measure => simp [intOf]; omega
      · go_simp
        refine hK.out _ _ trivial (fun _ => ?_)
        clear hK K
        try simp only [Act.put, List.setIfInBounds_toArray, List.set_cons_zero, List.set_cons_succ]
        refine wpAnyH_ready (rs := [0]) (by decide +kernel) (by simp) (AllReadyH.cons rfl (fun K hK => ?_) AllReadyH.nil)
        go_simp
        refine hK.out _ _ trivial (fun _ => ?_)
        clear hK K
        try simp only [Act.put, List.setIfInBounds_toArray, List.set_cons_zero, List.set_cons_succ]
        refine wpAnyH_ready (rs := [7]) (by decide +kernel) (by simp) (AllReadyH.cons rfl (fun K hK => ?_) AllReadyH.nil)
        go_simp
        refine (hcc _).mono ?_
        rintro e w2 ⟨rfl, hb2⟩
        go_wp2_with fail
        have hb2' : Below wr.heap.size wr w2 := below_undrew hb2
        have y0 := (hb2'.cell (p := ⟨w.heap.size, 0, none⟩) lt1).trans k0
        have y1 := (hb2'.cell (p := ⟨w.heap.size, 1, none⟩) lt1).trans k1
        have y2 := (hb2'.cell (p := ⟨w.heap.size, 2, none⟩) lt1).trans k2
        have y3 := (hb2'.cell (p := ⟨w.heap.size, 3, none⟩) lt1).trans k3
        have fk2 : ∀ i, w2.frozen? ⟨w.heap.size, i, none⟩ = false := fun i => frozen_of_row _ _ i _ _ ((hb2'.block _ lt1).trans HKR.out)
        refine hK.out _ _ trivial (fun hH2 => ?_)
        clear hK K
        try simp only [Act.put, List.setIfInBounds_toArray, List.set_cons_zero, List.set_cons_succ]
        refine wpAnyH_take (i := 8) (v := .tuple #[.agg #[.int .i64 ra, .int .i64 rb, .int .i64 rc, .int .i64 rd], .bool rv]) rfl (by kernel_rfl) (by kernel_rfl) (by kernel_rfl) (fun _ _ _ h => h) (Or.inl ⟨by rfl, by intro w hSw; go_simp⟩) hH2 ?_
        try simp only [Act.put, List.setIfInBounds_toArray, List.set_cons_zero, List.set_cons_succ]
        refine wpAnyH_take (i := 9) (v := .agg #[.int .i64 ra, .int .i64 rb, .int .i64 rc, .int .i64 rd]) rfl (by kernel_rfl) (by kernel_rfl) (by kernel_rfl) (fun _ _ _ h => h) (Or.inl ⟨by rfl, by intro w hSw; go_simp⟩) hH2 ?_
        try simp only [Act.put, List.setIfInBounds_toArray, List.set_cons_zero, List.set_cons_succ]
        refine wpAnyH_take (i := 10) (v := .bool rv) rfl (by kernel_rfl) (by kernel_rfl) (by kernel_rfl) (fun _ _ _ h => h) (Or.inl ⟨by rfl, by intro w hSw; go_simp⟩) hH2 ?_
        try simp only [Act.put, List.setIfInBounds_toArray, List.set_cons_zero, List.set_cons_succ]
        refine wpAnyH_ready (rs := [11]) (by decide +kernel) (by simp) (AllReadyH.cons rfl (fun K hK => ?_) AllReadyH.nil)
        go_simp
        refine hK.out _ _ trivial (fun _ => ?_)
        clear hK K
        try simp only [Act.put, List.setIfInBounds_toArray, List.set_cons_zero, List.set_cons_succ]
        refine wpAnyH_done (by decide +kernel) ?_ _
        have HK2 := Lib.hid ((hb2'.block _ lt1).trans HKR.out)
        have HZ2 := Lib.hid ((hb2'.block _ lt0).trans HZR.out)
        have HB2 := Lib.hid (HBR.out.trans (hb2'.mono HBR.out.size))
        clear hb2 hb2' cz' k0' k1' k2' k3' y0 y1 y2 y3 k0 k1 k2 k3 cz hcc fk fk2
        go_wp2
        go_roundw
        case rel => exact ⟨j + 1, ⟨ra, rb, rc, rd⟩, by omega, by go_num, HS.out, stored4 HK2.out, unstored4 HZ2.out (by omega), (((HB2.out.setCell (Nat.le_refl _) _).setCell (Nat.le_refl _) _).setCell (Nat.le_refl _) _).setCell (Nat.le_refl _) _⟩
        case measure => simp [intOf]; omega
    · obtain rfl : j = m := by omega
      rw [hearAll_top (by have := HL.out; omega)] at HQ
      have fz : ∀ i, wr.frozen? ⟨w.heap.size + 1, i, none⟩ = false := fun i => frozen_of_row _ _ i _ _ HZR.out
      obtain ⟨z0, z1, z2, z3⟩ := lnk_head (lnk_of_block (p := ⟨0, 0, 0, 0⟩) HZR.out)
      simp only at z0 z1 z2 z3
      have lt0 : w.heap.size + 1 < wr.heap.size := lt_of_block HZR.out
      go_wp2
      refine bodyPost_ret (by rw [results_cell rfl]; go_simp; try rfl) rfl ?_
      exact ⟨by rw [HQ.out], ((((HBR.out.setCell (Nat.le_succ _) _).setCell (Nat.le_succ _) _).setCell (Nat.le_succ _) _).setCell (Nat.le_succ _) _)⟩
end Go.Proofs.Ytnlffefekpjbcaa
