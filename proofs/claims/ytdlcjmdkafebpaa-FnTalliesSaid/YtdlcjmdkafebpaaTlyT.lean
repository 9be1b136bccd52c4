/- Chapter 26: TotalInside: program and model. -/
import Derived.Test.YtdlcjmdkafebpaaTlyH
namespace Go.Proofs.Ytdlcjmdkafebpaa
open Go.RowKit
set_option linter.unusedVariables false

theorem sumIn_step {zs : List Tly} {k : Nat} {x : Tly} (h : zs[k]? = some x) : sumIn zs (k + 1) = sumIn zs k + maxI 0 (insideT x) := by
  rw [← tlyA_some h]
  rfl
set_option maxHeartbeats 1000000 in
theorem impl_TotalInside (A : Option Addr) (n c B : Nat) (zs : List Tly) (w : World) (h : TlysAt w B A n zs) (hB : B ≤ w.heap.size) (hn : n ≤ 4294967296) :
    Calls Try.prog 73 #[.slice A n c] w fun e w' => e = .returned (.int .i64 (totIn zs)) ∧ Below w.heap.size w w' := by
  have HL := Lib.hid h.1
  have HH := Lib.hid h
  clear h
  go_enter Try.func73, Try.ntmps73
  go_wp2
  go_loopw [3, 7] (fun t i wr => ∃ k : Nat, k ≤ n ∧ i = .int .i64 k ∧ t = .int .i64 (sumIn zs k) ∧ Below w.heap.size w wr) (fun _ i _ => n - (intOf i).toNat)
  case atStart => exact ⟨0, Nat.zero_le _, rfl, rfl, Below.refl _ _⟩
  case round =>
    obtain ⟨k, hk, rfl, rfl, hbl⟩ := hrel
    have hsz := hbl.size
    by_cases hlt : k < n
    · have hp : zs[k]? = some (tlyA zs k) := by unfold tlyA; rw [List.getD_eq_getElem?_getD, List.getElem?_eq_getElem (by have := HL.out; omega)]; rfl
      have HS := Lib.hid (sumIn_step hp)
      have hbd := sumIn_bound zs (k + 1)
      rw [HS.out] at hbd
      have hs := impl_streetAt A n c B zs k wr (HH.out.below (hbl.mono hB)) (by omega) hn
      rw [show inB (k : Int) 0 ((n : Int) - 1) = true by simp [inB]; omega, if_pos rfl, show (k : Int).toNat = k from rfl] at hs
      have hi := fun y => impl_inside (tlyA zs k) (isTly (tlyA zs k)) y id
      have hv : insideT (tlyA zs k) = if isTly (tlyA zs k) then (tlyA zs k).inn - (tlyA zs k).out else -1 := rfl
      rw [← hv] at hi
      clear hv
      have hwr : IntKind.i64.wrap (sumIn zs k + maxI 0 (insideT (tlyA zs k))) = sumIn zs k + maxI 0 (insideT (tlyA zs k)) := by rw [IntKind.wrap_i64]; omega
      clear hp hbd
      generalize hg : tlyA zs k = x at *
      clear hg
      obtain ⟨xa, xb, xc⟩ := x
      generalize isTly ⟨xa, xb, xc⟩ = u at *
      generalize insideT ⟨xa, xb, xc⟩ = v at *
      simp only [cstV] at hs hi
      have HB := Lib.hid hbl
      have HW := Lib.hid hwr
      clear hbl hwr
      go_wp2_with fail
      refine hs.mono ?_
      rintro e w1 ⟨rfl, hb⟩
      have HB1 := Lib.hid (HB.out.trans (hb.mono HB.out.size))
      clear hb hs
      go_wp2_with fail
      refine (hi _).mono ?_
      rintro e w2 ⟨rfl, hb⟩
      have HB2 := Lib.hid (HB1.out.trans (hb.mono HB1.out.size))
      clear hb hi
      go_wp2_with fail
      refine (impl_Max _ _ _).mono ?_
      rintro e w3 ⟨rfl, hb⟩
      have HB3 := Lib.hid (HB2.out.trans (hb.mono HB2.out.size))
      clear hb
      have hwr := HW.out
      go_wp2
      go_roundw
      case rel => exact ⟨k + 1, by omega, by go_num, by rw [HS.out], HB3.out⟩
      case measure => simp [intOf]; omega
    · obtain rfl : k = n := by omega
      go_wp2
      go_ret
      exact ⟨by rw [totIn, HL.out]; rfl, hbl⟩
end Go.Proofs.Ytdlcjmdkafebpaa
