/- Contracts of chapter 2's readers: the model. -/
import Derived.Test.YtekpopndjcdgiaaInts
import Derived.Test.YtekpopndjcdgiaaHelp
import Derived.Test.YtekpopndjcdgiaaVarR
namespace Go.Proofs.Ytekpopndjcdgiaa
open Go.RowKit
set_option linter.unusedVariables false

set_option maxRecDepth 100000 in
theorem spec_ReadUvarint (A : Option Addr) (n c B : Nat) (zs : List Int) (a : Int) (w : World) (h : IntsAt .u8 w B A n zs) (hz : ∀ z ∈ zs, 0 ≤ z ∧ z ≤ 255) (hn : n ≤ 1099511627776) :
    Calls Try.prog 19 #[.slice A n c, .int .i64 a] w fun e w' => e = .returned (getV (vget zs a)) ∧ w = w' := by
  have hl := h.1
  by_cases hneg : a < 0
  · have HR := Lib.hid (congrArg getV (vget_neg (zs := zs) hneg))
    go_enter Try.func19, Try.ntmps19
    go_wp2
    refine wp_loop_rounds 1 ?_
    rw [rounds_succ]
    go_wp2
    go_ret3
    exact ⟨by rw [HR.out]; rfl, rfl⟩
  · obtain ⟨p, rfl⟩ := Int.eq_ofNat_of_zero_le (show 0 ≤ a by omega)
    rw [vget_nat]
    clear hneg
    go_enter Try.func19, Try.ntmps19
    go_wp2
    go_loop [7, 8] (fun x i => ∃ k m : Nat, k ≤ 6 ∧ i = .int .i64 k ∧ x = .int .i64 m ∧ m < 128 ^ k ∧ vrd zs 6 p 0 = vrd zs (6 - k) (p + k) m) (fun _ i => 6 - (intOf i).toNat)
    case atStart => exact ⟨0, 0, by omega, rfl, rfl, by simp, rfl⟩
    case round =>
      obtain ⟨k, m, hk, rfl, rfl, hm, hv⟩ := hrel
      by_cases hlt : k < 6
      · by_cases hin : p + k < n
        · obtain ⟨ad, rfl, hab, hcell⟩ := h.2 (by omega)
          have hc := hcell (p + k) hin
          have hzr : 0 ≤ zs.getD (p + k) 0 ∧ zs.getD (p + k) 0 ≤ 255 := by
            rw [List.getD_eq_getElem?_getD, List.getElem?_eq_getElem (by omega)]
            exact hz _ (List.getElem_mem _)
          obtain ⟨x, hx⟩ := Int.eq_ofNat_of_zero_le hzr.1
          rw [hx] at hc hzr
          have hx' : x < 256 := by omega
          have g1 : bits .and .i64 (x : Int) 127 = ((x % 128 : Nat) : Int) := and127 x (by omega)
          obtain ⟨y, m', g2, g3, hmb, hmx, h00, hgood, hbad, hmore⟩ := vrd_round (by omega) hx hx' hlt hm
          have HG := Lib.hid hgood
          have HB := Lib.hid hbad
          have HM := Lib.hid hmore
          have HV := Lib.hid hv
          have HMB := Lib.hid hmb
          have HX := Lib.hid hx
          have H00 := Lib.hid h00
          have hk5 : k ≤ 5 := by omega
          clear hcell hgood hbad hmore hm hv hmb hx h00
          by_cases h128 : x < 128
          · by_cases h0 : x = 0
            · have b0 : ((x : Int) == 0) = true := by simpa using h0
              by_cases hk0 : 0 < k
              · have HR := Lib.hid (congrArg getV (HV.out.trans (HB.out h128 (.inl ⟨h0, hk0⟩))))
                clear h0
                go_wp2
                go_ret3
                exact ⟨by rw [HR.out]; rfl, rfl⟩
              · have hk0' : k = 0 := by omega
                have h10 : ¬ 1000000000000 < m' := by rw [H00.out h0 hk0']; omega
                have HR := Lib.hid (congrArg getV (HV.out.trans (HG.out h128 (by omega))))
                clear h0 hk0'
                go_wp2
                go_ret3
                exact ⟨by rw [HR.out]; rfl, rfl⟩
            · have b0 : ((x : Int) == 0) = false := by simpa using h0
              by_cases hbig : 1000000000000 < m'
              · have HR := Lib.hid (congrArg getV (HV.out.trans (HB.out h128 (.inr hbig))))
                go_wp2
                go_ret3
                exact ⟨by rw [HR.out]; rfl, rfl⟩
              · have HR := Lib.hid (congrArg getV (HV.out.trans (HG.out h128 (by omega))))
                go_wp2
                go_ret3
                exact ⟨by rw [HR.out]; rfl, rfl⟩
          · go_wp2
            go_round
            case rel => exact ⟨k + 1, m', by omega, by go_num, rfl, HMB.out, HV.out.trans (HM.out (by omega))⟩
            case measure => simp [intOf]; omega
        · have HR := Lib.hid (congrArg getV (hv.trans (vrd_end (by omega))))
          clear hv
          go_wp2
          go_ret3
          exact ⟨by rw [HR.out]; rfl, rfl⟩
      · obtain rfl : k = 6 := by omega
        have HR := Lib.hid (congrArg getV hv)
        clear hv
        go_wp2
        go_ret3
        exact ⟨by rw [HR.out]; rfl, rfl⟩
end Go.Proofs.Ytekpopndjcdgiaa
