/- Contracts of the model's draws: a draw answers some value of the kind that it promises, writes its own cursor alone, and makes new memory. -/
import Derived.Test.YtdlcjmdkafebpaaInts
import Derived.Test.YtdlcjmdkafebpaaOwn
import Derived.Laws.BitsAll
import Derived.Laws.BitsAllLaws
import Derived.Laws.BitsLemmas
import Derived.Deep.Draws
import Derived.Laws.OwnMore
namespace Go.Proofs.Ytdlcjmdkafebpaa
open Go.RowKit

theorem and255 (x : Int) : ∃ n : Nat, n < 256 ∧ bits .and .i64 x 255 = (n : Int) := by
  refine ⟨(BitVec.ofInt 64 x &&& BitVec.ofInt 64 255).toNat, ?_, ?_⟩
  · rw [BitVec.toNat_and]
    exact Nat.lt_of_le_of_lt Nat.and_le_right (by decide)
  · have h : (BitVec.ofInt 64 x &&& BitVec.ofInt 64 255).toNat < 256 := by
      rw [BitVec.toNat_and]
      exact Nat.lt_of_le_of_lt Nat.and_le_right (by decide)
    show IntKind.i64.wrap ((BitVec.ofInt 64 x &&& BitVec.ofInt 64 255).toNat : Int) = _
    rw [IntKind.wrap_i64]
    omega

theorem only_new {w w' : World} {g : Nat} {o : Obj} (h : (w.alloc o).grownBy w' (some g)) : w.grownBy w' (some g) := only_trans (only_alloc (World.grownBy.refl w _) o) h
/-- A cursor over the bytes of a draw lies in block g. -/
def Cur (w : World) (g : Nat) (A : Option Addr) (n c : Nat) : Prop :=
  ∃ (i : Nat) (h : Int), i ≤ n ∧ w.heap[g]? = some (.cells #[.slice A n c, .int .i64 i, .int .i64 h] 174 (0, 0))
theorem Cur.far {w w' : World} {g : Nat} {A : Option Addr} {n c : Nat} (h : Cur w g A n c) (e : w'.heap[g]? = w.heap[g]?) : Cur w' g A n c := by
  obtain ⟨i, x, hi, hg⟩ := h
  exact ⟨i, x, hi, e.trans hg⟩
theorem Cur.lt {w : World} {g : Nat} {A : Option Addr} {n c : Nat} (h : Cur w g A n c) : g < w.heap.size := by
  obtain ⟨i, x, hi, hg⟩ := h
  rcases Nat.lt_or_ge g w.heap.size with hlt | hge
  · exact hlt
  · rw [Array.getElem?_eq_none hge] at hg; cases hg
theorem spec_l1Byte (g : Nat) (A : Option Addr) (n c B : Nat) (zs : List Int) (w : World) (hc : Cur w g A n c) (hb : Bytes w B A n zs) (hB : B ≤ g) (hn : n ≤ 1048576) :
    Calls Try.prog 138 #[.pointer (some ⟨g, 0, none⟩)] w fun e w' => ∃ x : Nat, x < 256 ∧ e = .returned (.int .i64 x) ∧ Cur w' g A n c ∧ w.grownBy w' (some g) := by
  obtain ⟨i, h, hi, hg⟩ := hc
  have c0 : w.cell? ⟨g, 0, none⟩ = some (.slice A n c) := by simp [World.cell?, hg]
  have c1 : w.cell? ⟨g, 1, none⟩ = some (.int .i64 i) := by simp [World.cell?, hg]
  have c2 : w.cell? ⟨g, 2, none⟩ = some (.int .i64 h) := by simp [World.cell?, hg]
  have f0 : ∀ j, w.frozen? ⟨g, j, none⟩ = false := fun j => by simp [World.frozen?, hg]
  have HG := Lib.hid hg
  clear hg
  by_cases hlt : i < n
  · obtain ⟨ad, rfl, hab, hcell⟩ := hb.1.2 (by omega)
    have hz : 0 ≤ zs.getD i 0 ∧ zs.getD i 0 ≤ 255 := by
      have hl := hb.1.1
      rw [List.getD_eq_getElem?_getD, List.getElem?_eq_getElem (by omega)]
      exact hb.2 _ (List.getElem_mem _)
    have hci := hcell i hlt
    have hne : (ad.add i).block ≠ g := by rw [add_block]; omega
    obtain ⟨z1, z2⟩ := hz
    clear hcell hb
    generalize zs.getD i 0 = z at *
    have hcs : ∀ v, (w.setCell ⟨g, 2, none⟩ v).cell? (ad.add i) = some (.int .u8 z) := fun v => by
      rw [World.cell?_setCell_other _ _ _ _ (fun e => hne (by rw [← e]))]; exact hci
    go_enter Try.func138, Try.ntmps138
    go_wp2
    generalize wrap64 (wrap64 (h * 6364136223846793005) + 1442695040888963407) = h1
    go_quiet (fail)
    obtain ⟨x, hx, ex⟩ := and255 (bits .xor .i64 (h1 / 8589934592) (h1 / 140737488355328))
    rw [ex]
    clear ex
    go_wp2
    go_quiet (fail)
    go_wp2
    go_quiet (fail)
    obtain ⟨y, hy, ey⟩ := and255 ((x : Int) + z)
    rw [ey]
    clear ey
    go_wp2
    go_ret
    refine ⟨y, hy, rfl, ⟨i + 1, h1, by omega, ?_⟩, only_setCell (only_drewN (only_setCell (World.grownBy.refl _ _) _ _) _) _ _⟩
    have e1 := heap_set HG.out 2 (.int .i64 h1)
    exact (heap_set (w := (w.setCell ⟨g, 2, none⟩ (.int .i64 h1)).drewN _) e1 1 _).trans (by simp)
  · clear hb
    go_enter Try.func138, Try.ntmps138
    go_wp2
    generalize wrap64 (wrap64 (h * 6364136223846793005) + 1442695040888963407) = h1
    go_quiet (fail)
    obtain ⟨x, hx, ex⟩ := and255 (bits .xor .i64 (h1 / 8589934592) (h1 / 140737488355328))
    rw [ex]
    clear ex
    go_wp2
    go_quiet (fail)
    go_wp2
    go_ret
    refine ⟨x, hx, rfl, ⟨i, h1, by omega, ?_⟩, only_drewN (only_drewN (only_setCell (World.grownBy.refl _ _) _ _) _) _⟩
    exact (heap_set HG.out 2 (.int .i64 h1)).trans (by simp)
/-- A cursor in block g that can be drawn from. -/
def Curs (w : World) (g : Nat) : Prop := ∃ (A : Option Addr) (n c B : Nat) (zs : List Int), Cur w g A n c ∧ Bytes w B A n zs ∧ B ≤ g ∧ n ≤ 1048576
theorem Curs.lt {w : World} {g : Nat} (h : Curs w g) : g < w.heap.size := by
  obtain ⟨_, _, _, _, _, h, _⟩ := h
  exact h.lt
theorem Curs.below {w w' : World} {g : Nat} (h : Curs w g) (hb : Below (g + 1) w w') : Curs w' g := by
  obtain ⟨A, n, c, B, zs, h1, h2, h3, h4⟩ := h
  exact ⟨A, n, c, B, zs, h1.far (hb.block g (by omega)), h2.below (hb.mono (by omega)), h3, h4⟩
theorem Curs.alloc {w : World} {g : Nat} (h : Curs w g) (o : Obj) : Curs (w.alloc o) g := h.below ((Below.refl _ _).alloc h.lt o)
theorem spec_l1Byte' (g : Nat) (w : World) (h : Curs w g) :
    Calls Try.prog 138 #[.pointer (some ⟨g, 0, none⟩)] w fun e w' => ∃ x : Nat, x < 256 ∧ e = .returned (.int .i64 x) ∧ Curs w' g ∧ w.grownBy w' (some g) := by
  obtain ⟨A, n, c, B, zs, h1, h2, h3, h4⟩ := h
  refine (spec_l1Byte g A n c B zs w h1 h2 h3 h4).mono fun e w' ⟨x, hx, he, hc, hg⟩ => ⟨x, hx, he, ?_, hg⟩
  exact ⟨A, n, c, B, zs, hc, h2.below (below_of_only hg h3 (by have := h1.lt; omega)), h3, h4⟩
set_option maxRecDepth 100000 in
theorem spec_l1New (A : Option Addr) (n c B : Nat) (zs : List Int) (w : World) (hb : Bytes w B A n zs) (hB : B ≤ w.heap.size) (hn : n ≤ 1048576) :
    Calls Try.prog 106 #[.slice A n c] w fun e w' => e = .returned (.pointer (some ⟨w.heap.size, 0, none⟩)) ∧ Curs w' w.heap.size ∧ Below w.heap.size w w' := by
  go_enter Try.func106, Try.ntmps106
  go_wp2
  go_loop [3, 4] (fun h i => ∃ (k : Nat) (x : Int), k ≤ n ∧ i = .int .i64 k ∧ h = .int .i64 x) (fun _ i => n - (intOf i).toNat)
  case atStart => exact ⟨0, _, Nat.zero_le _, rfl, rfl⟩
  case round =>
    obtain ⟨k, x, hk, rfl, rfl⟩ := hrel
    by_cases hlt : k < n
    · obtain ⟨ad, rfl, hab, hcell⟩ := hb.1.2 (by omega)
      have hci := hcell k hlt
      have hz : 0 ≤ zs.getD k 0 ∧ zs.getD k 0 ≤ 255 := by
        have hl := hb.1.1
        rw [List.getD_eq_getElem?_getD, List.getElem?_eq_getElem (by omega)]
        exact hb.2 _ (List.getElem_mem _)
      obtain ⟨z1, z2⟩ := hz
      clear hcell
      generalize zs.getD k 0 = z at *
      by_cases h4 : k < 4000
      · go_wp2
        go_round
        case rel => exact ⟨k + 1, _, by omega, by go_num, rfl⟩
        case measure => simp [intOf]; omega
      · go_wp2
        go_ret
        refine ⟨rfl, ⟨some ad, n, c, B, zs, ⟨0, x, Nat.zero_le _, heap_alloc_new w _⟩, hb.below ((Below.refl _ _).alloc hB _), hB, hn⟩, (Below.refl _ _).alloc (Nat.le_refl _) _⟩
    · go_wp2
      go_ret
      refine ⟨rfl, ⟨A, n, c, B, zs, ⟨0, x, Nat.zero_le _, heap_alloc_new w _⟩, hb.below ((Below.refl _ _).alloc hB _), hB, hn⟩, (Below.refl _ _).alloc (Nat.le_refl _) _⟩
theorem spec_l1Below (g : Nat) (n : Int) (w : World) (h : Curs w g) (h0 : 0 < n) :
    Calls Try.prog 107 #[.pointer (some ⟨g, 0, none⟩), .int .i64 n] w fun e w' => ∃ x : Nat, (x : Int) < n ∧ e = .returned (.int .i64 x) ∧ Curs w' g ∧ w.grownBy w' (some g) := by
  by_cases h1 : n ≤ 256
  · go_enter Try.func107, Try.ntmps107
    go_wp2_with fail
    refine (spec_l1Byte' g _ h).mono ?_
    rintro e w1 ⟨x, hx, rfl, hc1, hg1⟩
    go_wp2
    go_ret
    refine ⟨((x : Int) % n).toNat, ?_, ?_, hc1, hg1⟩
    · have := Int.emod_lt_of_pos (x : Int) h0; have := Int.emod_nonneg (x : Int) (show n ≠ 0 by omega); omega
    · exact ret_i (by have := Int.emod_nonneg (x : Int) (show n ≠ 0 by omega); omega)
  · go_enter Try.func107, Try.ntmps107
    go_wp2_with fail
    refine (spec_l1Byte' g _ h).mono ?_
    rintro e w1 ⟨x, hx, rfl, hc1, hg1⟩
    go_wp2_with fail
    refine (spec_l1Byte' g _ hc1).mono ?_
    rintro e w2 ⟨y, hy, rfl, hc2, hg2⟩
    go_wp2_with fail
    refine (spec_l1Byte' g _ hc2).mono ?_
    rintro e w3 ⟨z, hz, rfl, hc3, hg3⟩
    go_wp2
    go_ret
    refine ⟨(((x : Int) * 65536 + (y : Int) * 256 + z) % n).toNat, ?_, ?_, hc3, only_trans (only_trans hg1 hg2) hg3⟩
    · have := Int.emod_lt_of_pos ((x : Int) * 65536 + (y : Int) * 256 + z) h0; have := Int.emod_nonneg ((x : Int) * 65536 + (y : Int) * 256 + z) (show n ≠ 0 by omega); omega
    · exact ret_i (by have := Int.emod_nonneg ((x : Int) * 65536 + (y : Int) * 256 + z) (show n ≠ 0 by omega); omega)
theorem spec_l1Int (g L : Nat) (zs : List Int) (t : TypeId) (m c : Nat) (w : World) (h : Curs w g) (hm : zs.length = m) (h0 : 0 < m) (hL : w.heap[L]? = some (.cells (zs.map (Value.int .i64)).toArray t (0, 0))) (hne : L ≠ g) (hmax : m ≤ 1000) :
    Calls Try.prog 110 #[.pointer (some ⟨g, 0, none⟩), .slice (some ⟨L, 0, none⟩) m c] w fun e w' => ∃ z, z ∈ zs ∧ e = .returned (.int .i64 z) ∧ Curs w' g ∧ w.grownBy w' (some g) := by
  have HL := Lib.hid hL
  clear hL
  have HM := Lib.hid hm
  clear hm
  go_enter Try.func110, Try.ntmps110
  go_wp2_with fail
  refine (spec_l1Below g m _ h (by omega)).mono ?_
  rintro e w1 ⟨x, hx, rfl, hc1, hg1⟩
  have hlt : L < w.heap.size := by
    rcases Nat.lt_or_ge L w.heap.size with hl | hl
    · exact hl
    · have := HL.out; rw [Array.getElem?_eq_none hl] at this; cases this
  have hcell : w1.cell? ⟨L, x, none⟩ = some (.int .i64 (zs.getD x 0)) := by
    have e1 : w1.heap[L]? = _ := (hg1.block L hlt (fun e => hne (by injection e))).trans HL.out
    have hm := HM.out
    rw [cell_of_row w1 L x _ _ _ e1]
    simp only [List.getElem?_toArray, List.getElem?_map, List.getD_eq_getElem?_getD]
    rw [List.getElem?_eq_getElem (by omega)]
    rfl
  go_wp2
  go_ret
  refine ⟨_, ?_, rfl, hc1, hg1⟩
  have hm := HM.out
  rw [List.getElem?_eq_getElem (by omega)]
  exact List.getElem_mem _
theorem laws_big (A : Option Addr) (n c : Nat) (w : World) (hn : n ≤ 9223372036854775807) :
    Calls Try.prog 55 #[.slice A n c] w fun e w' => e = .returned (.bool (decide (1048576 < n))) ∧ w = w' := by
  by_cases h : 1048576 < n
  all_goals
    go_enter Try.func55, Try.ntmps55
    go_wp2
    go_ret
    exact ⟨by simp; omega, rfl⟩
end Go.Proofs.Ytdlcjmdkafebpaa
