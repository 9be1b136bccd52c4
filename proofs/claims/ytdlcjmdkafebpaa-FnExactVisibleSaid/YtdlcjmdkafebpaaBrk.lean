/- Chapter 19: IsBroken: program and model. -/
import Derived.Test.YtdlcjmdkafebpaaTab
import Derived.Test.YtdlcjmdkafebpaaMem
namespace Go.Proofs.Ytdlcjmdkafebpaa
open Go.RowKit Go.Maps
set_option linter.unusedVariables false

theorem brkL_all {zs : List Lmp} {k : Nat} (h : zs.length ≤ k) (a b : Int) : brkL (zs.take k) a b = brkL zs a b := by rw [List.take_of_length_le h]
theorem brkL_in {zs : List Lmp} {k : Nat} {x : Lmp} (h : zs[k]? = some x) {a b : Int} (e : (decide (x.path = a) && (decide (x.colour = b) && x.broken)) = true) : brkL zs a b = true :=
  List.any_eq_true.2 ⟨x, List.mem_of_getElem? h, e⟩
set_option maxRecDepth 100000 in
theorem impl_IsBroken (A : Option Addr) (n c B : Nat) (zs : List Lmp) (a b : Int) (w : World) (h : LmpsAt w B A n zs) (hB : B ≤ w.heap.size) (hn : n ≤ 4294967296) (hw : ∀ z ∈ zs, z.wf) (wa : (Lit.int .i64 a).wf = true) (wb : (Lit.int .i64 b).wf = true) :
    Calls Try.prog 25 #[.slice A n c, .int .i64 a, .int .i64 b] w fun e w' => e = .returned (.bool (brkL zs a b)) ∧ Below w.heap.size w w' := by
  have hcc := impl_lampTableOf A n c B zs w h hB hn hw
  obtain ⟨l, hkey⟩ := lk_key a b wa wb
  go_enter Try.func25, Try.ntmps25
  go_wp2_with fail
  refine hcc.mono ?_
  rintro e w1 ⟨b0, rfl, ⟨D, hown, htab⟩, hb1⟩
  have hrun := ownsMap_lookup_bool hown lk_law Try.underlying112 Try.underlying4 (lk_zero _) hkey (htab.2.1 _ _ _ hkey).1
  have HB1 := Lib.hid hb1
  clear hcc hown htab hb1
  go_wp2
  go_ret
  exact ⟨rfl, HB1.out⟩
set_option maxHeartbeats 1000000 in
set_option maxRecDepth 100000 in
theorem spec_IsBroken (A : Option Addr) (n c B : Nat) (zs : List Lmp) (a b : Int) (w : World) (h : LmpsAt w B A n zs) (hB : B ≤ w.heap.size) (hn : n ≤ 4294967296) :
    Calls Try.prog 23 #[.slice A n c, .int .i64 a, .int .i64 b] w fun e w' => e = .returned (.bool (brkL zs a b)) ∧ Below w.heap.size w w' := by
  have hl := h.1
  have HALL : Hid (∀ k, n ≤ k → brkL (zs.take k) a b = brkL zs a b) := Lib.hid (fun k hk => brkL_all (by omega) a b)
  clear hl
  go_enter Try.func23, Try.ntmps23
  go_wp2
  go_loopw [7] (fun i wr => ∃ k : Nat, k ≤ n ∧ i = .int .i64 k ∧ brkL (zs.take k) a b = false ∧ Below w.heap.size w wr) (fun i _ => n - (intOf i).toNat)
  case atStart => exact ⟨0, Nat.zero_le _, rfl, by simp [brkL], Below.refl _ _⟩
  case round =>
    obtain ⟨k, hk, rfl, hno, hbl⟩ := hrel
    have hsz := hbl.size
    by_cases hlt : k < n
    · obtain ⟨ad, p, rfl, hab, hp, hq⟩ := h.at hlt
      obtain ⟨c0, c1, c2⟩ := hq.below hbl (by omega)
      have HS : Hid ((decide (p.path = a) && (decide (p.colour = b) && p.broken)) = false → brkL (zs.take (k + 1)) a b = false) := Lib.hid (fun e => by rw [brkL_take hp, hno, e]; rfl)
      have HI : Hid ((decide (p.path = a) && (decide (p.colour = b) && p.broken)) = true → brkL zs a b = true) := Lib.hid (fun e => brkL_in hp e)
      have HB := Lib.hid hbl
      have i1 : (0 : Int) ≤ (k : Int) := by omega
      have i2 : (k : Int) < (n : Int) := by omega
      clear hq hbl hp hno
      generalize p.path = x at *
      generalize p.colour = y at *
      generalize p.broken = z at *
      by_cases ex : x = a
      · by_cases ey : y = b
        · cases z
          · have e1 : (x == a) = true := by simpa using ex
            have e2 : (y == b) = true := by simpa using ey
            have HS2 := Lib.hid (HS.out (by simp))
            clear HS HI
            go_wp2
            go_roundw
            case rel => exact ⟨k + 1, by omega, by go_num, HS2.out, HB.out⟩
            case measure => simp [intOf]; omega
          · have e1 : (x == a) = true := by simpa using ex
            have e2 : (y == b) = true := by simpa using ey
            have HI2 := Lib.hid (HI.out (by simp [ex, ey]))
            clear HS HI
            go_wp2
            go_ret
            exact ⟨by rw [HI2.out]; rfl, HB.out⟩
        · have e1 : (x == a) = true := by simpa using ex
          have e2 : (y == b) = false := by simpa using ey
          have HS2 := Lib.hid (HS.out (by simp [ey]))
          clear HS HI
          go_wp2
          go_roundw
          case rel => exact ⟨k + 1, by omega, by go_num, HS2.out, HB.out⟩
          case measure => simp [intOf]; omega
      · have e1 : (x == a) = false := by simpa using ex
        have HS2 := Lib.hid (HS.out (by simp [ex]))
        clear HS HI
        go_wp2
        go_roundw
        case rel => exact ⟨k + 1, by omega, by go_num, HS2.out, HB.out⟩
        case measure => simp [intOf]; omega
    · obtain rfl : k = n := by omega
      have HR := Lib.hid (HALL.out k (Nat.le_refl _))
      have HNO := Lib.hid hno
      clear hno
      go_wp2
      go_ret
      exact ⟨by rw [← HR.out, HNO.out]; rfl, hbl⟩
end Go.Proofs.Ytdlcjmdkafebpaa
