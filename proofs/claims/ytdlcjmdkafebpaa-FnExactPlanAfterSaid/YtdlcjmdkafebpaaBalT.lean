/- Chapter 24: IsTurn of the program; IsTurn, CountVotes as their exact laws meet them. -/
import Derived.Test.YtdlcjmdkafebpaaBal
namespace Go.Proofs.Ytdlcjmdkafebpaa
open Go.RowKit
set_option linter.unusedVariables false

theorem isTrn_no1 {p a : Int} {zs : List Int} (h : inB p 1 99 = false) : isTrn p a zs = false := by unfold isTrn; rw [h]; simp
theorem isTrn_no2 {p a : Int} {zs : List Int} (h : inB a 0 1000000 = false) : isTrn p a zs = false := by unfold isTrn; rw [h]; simp
theorem isTrn_no3 {p a : Int} {zs : List Int} (h : inB (zs.length : Int) 1 8 = false) : isTrn p a zs = false := by unfold isTrn; rw [h]; simp
theorem isTrn_yes {p a : Int} {zs : List Int} (h1 : inB p 1 99 = true) (h2 : inB a 0 1000000 = true) (h3 : inB (zs.length : Int) 1 8 = true) : isTrn p a zs = zs.all fun z => inB z 0 2 := by unfold isTrn; rw [h1, h2, h3]; simp
theorem impl_isPlanNumberB (n : Int) (w : World) : Calls Try.prog 128 #[.int .i64 n] w fun e w' => e = .returned (.bool (inB n 1 99)) ∧ w = w' := by
  go_enter Try.func128, Try.ntmps128
  go_wp2_with fail
  refine (impl_InRange _ _ _ _).mono ?_
  rintro e w1 ⟨rfl, rfl⟩
  go_wp2
  go_ret
  exact ⟨rfl, rfl⟩
theorem impl_isSecondB (n : Int) (w : World) : Calls Try.prog 129 #[.int .i64 n] w fun e w' => e = .returned (.bool (inB n 0 1000000)) ∧ w = w' := by
  go_enter Try.func129, Try.ntmps129
  go_wp2_with fail
  refine (impl_InRange _ _ _ _).mono ?_
  rintro e w1 ⟨rfl, rfl⟩
  go_wp2
  go_ret
  exact ⟨rfl, rfl⟩
theorem impl_isCrossingB (n : Int) (w : World) : Calls Try.prog 130 #[.int .i64 n] w fun e w' => e = .returned (.bool (inB n 1 8)) ∧ w = w' := by
  go_enter Try.func130, Try.ntmps130
  go_wp2_with fail
  refine (impl_InRange _ _ _ _).mono ?_
  rintro e w1 ⟨rfl, rfl⟩
  go_wp2
  go_ret
  exact ⟨rfl, rfl⟩
set_option maxHeartbeats 2000000 in
theorem impl_IsTurn (p a : Int) (A : Option Addr) (n c B : Nat) (zs : List Int) (w : World) (h : IntsAt .i64 w B A n zs) (hB : B ≤ w.heap.size) (hn : n ≤ 4294967296) (hw : ∀ z ∈ zs, (Lit.int .i64 z).wf = true) :
    Calls Try.prog 79 #[trnV p a (.slice A n c)] w fun e w' => e = .returned (.bool (isTrn p a zs)) ∧ Below w.heap.size w w' := by
  simp only [trnV]
  have hl := h.1
  have HF1 := Lib.hid (@isTrn_no1 p a zs)
  have HF2 := Lib.hid (@isTrn_no2 p a zs)
  have HF3 := Lib.hid (@isTrn_no3 p a zs)
  have HF4 := Lib.hid (@isTrn_yes p a zs)
  rw [hl] at HF3 HF4
  obtain ⟨wA, hwA⟩ : ∃ wA, wA = w.alloc (.cells #[.int .i64 p, .int .i64 a, .slice A n c] 27) := ⟨_, rfl⟩
  obtain ⟨hk, hsz, acc⟩ := one_block hwA
  obtain ⟨k0, k1, k2⟩ := cells3 hk
  have lt0 : w.heap.size < wA.heap.size := by omega
  have HB := Lib.hid acc
  have HH := Lib.hid (h.keep (w' := wA) fun _ hp => acc.cell (Nat.lt_of_lt_of_le hp hB))
  clear hk hsz h
  generalize isTrn p a zs = v at *
  cases h1 : inB p 1 99
  · skip
    have HV := Lib.hid (HF1.out h1)
    have H1 := Lib.hid h1
    have H2 : Hid (True = True) := Lib.hid rfl
    have H3 : Hid (True = True) := Lib.hid rfl
    clear HF1 HF2 HF3 HF4 k0 k1 k2 lt0 acc
    subst hwA
    go_enter Try.func79, Try.ntmps79
    go_wp2_with (first | (go_at_call 128; refine (impl_isPlanNumberB _ _).mono ?_; rintro e w' ⟨rfl, rfl⟩; rw [H1.out]) | (go_at_call 129; refine (impl_isSecondB _ _).mono ?_; rintro e w' ⟨rfl, rfl⟩; rw [H2.out]) | (go_at_call 130; refine (impl_isCrossingB _ _).mono ?_; rintro e w' ⟨rfl, rfl⟩; rw [H3.out]))
    go_ret
    exact ⟨by rw [HV.out]; rfl, HB.out⟩
  cases h2 : inB a 0 1000000
  · skip
    have HV := Lib.hid (HF2.out h2)
    have H1 := Lib.hid h1
    have H2 := Lib.hid h2
    have H3 : Hid (True = True) := Lib.hid rfl
    clear HF1 HF2 HF3 HF4 k0 k1 k2 lt0 acc
    subst hwA
    go_enter Try.func79, Try.ntmps79
    go_wp2_with (first | (go_at_call 128; refine (impl_isPlanNumberB _ _).mono ?_; rintro e w' ⟨rfl, rfl⟩; rw [H1.out]) | (go_at_call 129; refine (impl_isSecondB _ _).mono ?_; rintro e w' ⟨rfl, rfl⟩; rw [H2.out]) | (go_at_call 130; refine (impl_isCrossingB _ _).mono ?_; rintro e w' ⟨rfl, rfl⟩; rw [H3.out]))
    go_ret
    exact ⟨by rw [HV.out]; rfl, HB.out⟩
  cases h3 : inB (n : Int) 1 8
  · skip
    have HV := Lib.hid (HF3.out h3)
    have H1 := Lib.hid h1
    have H2 := Lib.hid h2
    have H3 := Lib.hid h3
    clear HF1 HF2 HF3 HF4 k0 k1 k2 lt0 acc
    subst hwA
    go_enter Try.func79, Try.ntmps79
    go_wp2_with (first | (go_at_call 128; refine (impl_isPlanNumberB _ _).mono ?_; rintro e w' ⟨rfl, rfl⟩; rw [H1.out]) | (go_at_call 129; refine (impl_isSecondB _ _).mono ?_; rintro e w' ⟨rfl, rfl⟩; rw [H2.out]) | (go_at_call 130; refine (impl_isCrossingB _ _).mono ?_; rintro e w' ⟨rfl, rfl⟩; rw [H3.out]))
    go_ret
    exact ⟨by rw [HV.out]; rfl, HB.out⟩
  have HV := Lib.hid (HF4.out h1 h2 h3)
  have H1 := Lib.hid h1
  have H2 := Lib.hid h2
  have H3 := Lib.hid h3
  have K2 := Lib.hid k2
  clear HF1 HF2 HF3 HF4 h1 h2 h3
  go_enter Try.func79, Try.ntmps79
  go_wp2_with (first | (go_at_call 128; refine (impl_isPlanNumberB _ _).mono ?_; rintro e w' ⟨rfl, rfl⟩; rw [H1.out]) | (go_at_call 129; refine (impl_isSecondB _ _).mono ?_; rintro e w' ⟨rfl, rfl⟩; rw [H2.out]) | (go_at_call 130; refine (impl_isCrossingB _ _).mono ?_; rintro e w' ⟨rfl, rfl⟩; rw [H3.out]))
  rw [← hwA]
  clear hwA k0 k1
  go_region_held3 (fun W' => W'.cell? ⟨w.heap.size, 2, none⟩ = some (.slice A n c)) (first | exact k2 | fail "keep")
    (first
      | (go_at_call 131; refine (impl_ballotOf A n c B zs _ (by exact HH.out) (by have := acc.size; exact Nat.le_trans hB this) hn hw).mono ?_; rintro e w1 ⟨b, rfl, hbal, hb⟩; (first | replace hb := below_undrew hb | skip); clear k2; replace k2 := (hb.cell (p := ⟨w.heap.size, 2, none⟩) lt0).trans K2.out; replace lt0 := Nat.lt_of_lt_of_le lt0 hb.size; replace acc := acc.trans (hb.mono acc.size); clear hb)
      | (go_at_call 132; refine (impl_balValid b n zs _ hbal hl hn).mono ?_; rintro e w2 ⟨rfl, rfl⟩))
  go_wp2
  go_ret
  exact ⟨by rw [HV.out]; try rfl, acc⟩
end Go.Proofs.Ytdlcjmdkafebpaa
