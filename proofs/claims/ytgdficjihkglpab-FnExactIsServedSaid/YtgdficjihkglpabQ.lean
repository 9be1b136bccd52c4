/- Chapter 12: a second of a queue, the sum of a queue, and its end: program and model. -/
import Derived.Test.YtgdficjihkglpabInts
import Derived.Test.YtgdficjihkglpabMem
import Derived.Laws.StructEq
namespace Go.Proofs.Ytgdficjihkglpab
open Go.RowKit
set_option linter.unusedVariables false

/-- next to n between 0 and hi. -/
def clampN (n hi : Int) : Int := maxI 0 (minI hi n)
theorem minI_comm (a b : Int) : minI a b = minI b a := by unfold minI; split <;> split <;> omega
theorem clampN_bound (n hi : Int) (h : 0 ≤ hi) : 0 ≤ clampN n hi ∧ clampN n hi ≤ hi := by
  unfold clampN minI maxI
  split <;> split <;> omega
/-- what QueueStep answers. -/
def qstep (a b : Int) (o : Bool) : Int := if inB a 0 10000 && inB b 0 10000 then clampN (a + b - (if o then 1 else 0)) 10000 else 0
theorem qstep_in {a b : Int} {o : Bool} (ha : inB a 0 10000 = true) (hb : inB b 0 10000 = true) : qstep a b o = clampN (a + b - (if o then 1 else 0)) 10000 := by unfold qstep; rw [ha, hb]; rfl
theorem qstep_out {a b : Int} {o : Bool} (h : (inB a 0 10000 && inB b 0 10000) = false) : qstep a b o = 0 := by unfold qstep; rw [h]; rfl
theorem qstep_bound (a b : Int) (o : Bool) : 0 ≤ qstep a b o ∧ qstep a b o ≤ 10000 := by
  unfold qstep
  split
  · exact clampN_bound _ _ (by decide)
  · omega
/-- the sum of the first k, each between 0 and hi. -/
def sumC (hi : Int) (zs : List Int) : Nat → Int
  | 0 => 0
  | k + 1 => sumC hi zs k + clampN (zs.getD k 0) hi
theorem sumC_bound (hi : Int) (h : 0 ≤ hi) (zs : List Int) : ∀ k : Nat, 0 ≤ sumC hi zs k ∧ sumC hi zs k ≤ k * hi
  | 0 => by simp [sumC]
  | k + 1 => by
    obtain ⟨h1, h2⟩ := sumC_bound hi h zs k
    obtain ⟨h3, h4⟩ := clampN_bound (zs.getD k 0) hi h
    have e : (((k + 1 : Nat) : Int)) * hi = k * hi + hi := by rw [Int.natCast_add, Int.add_mul]; simp
    show 0 ≤ sumC hi zs k + _ ∧ sumC hi zs k + _ ≤ _
    omega
/-- what TotalWait answers. -/
def totW (zs : List Int) : Int := sumC 10000 zs zs.length
/-- what IsServed answers. -/
def isSrv (zs : List Int) : Bool := decide (zs.length = 0) || decide (zs.getD (zs.length - 1) 0 = 0)
theorem spec_QueueStep (a b : Int) (o : Bool) (w : World) : Calls Try.prog 16 #[.int .i64 a, .int .i64 b, .bool o] w fun e w' => e = .returned (.int .i64 (qstep a b o)) ∧ w = w' := by
  cases h1 : inB a 0 10000
  · have HR : Hid (qstep a b o = 0) := Lib.hid (qstep_out (by rw [h1]; rfl))
    have H1 := Lib.hid h1
    clear h1
    go_enter Try.func16, Try.ntmps16
    go_wp2_with (go_at_call 41; refine (spec_l1In _ _ _ _).mono ?_; rintro e w' ⟨rfl, rfl⟩; rw [H1.out])
    go_ret
    exact ⟨by rw [HR.out]; rfl, rfl⟩
  · cases h2 : inB b 0 10000
    · have HR : Hid (qstep a b o = 0) := Lib.hid (qstep_out (by rw [h1, h2]; rfl))
      have H1 := Lib.hid h1
      have H2 := Lib.hid h2
      clear h1 h2
      go_enter Try.func16, Try.ntmps16
      go_wp2_with fail
      refine (spec_l1In _ _ _ _).mono ?_
      rintro e w' ⟨rfl, rfl⟩
      rw [H1.out]
      go_wp2_with fail
      refine (spec_l1In _ _ _ _).mono ?_
      rintro e w' ⟨rfl, rfl⟩
      rw [H2.out]
      go_wp2
      go_ret
      exact ⟨by rw [HR.out]; rfl, rfl⟩
    · obtain ⟨ha1, ha2⟩ := inB_t h1
      obtain ⟨hb1, hb2⟩ := inB_t h2
      have HR : Hid (qstep a b o = clampN (a + b - (if o then 1 else 0)) 10000) := Lib.hid (qstep_in h1 h2)
      have H1 := Lib.hid h1
      have H2 := Lib.hid h2
      clear h1 h2
      cases o
      all_goals
        go_enter Try.func16, Try.ntmps16
        go_wp2_with fail
        refine (spec_l1In _ _ _ _).mono ?_
        rintro e w' ⟨rfl, rfl⟩
        rw [H1.out]
        go_wp2_with fail
        refine (spec_l1In _ _ _ _).mono ?_
        rintro e w' ⟨rfl, rfl⟩
        rw [H2.out]
        go_wp2_with (first | (go_at_call 39; refine (spec_Min _ _ _).mono ?_; rintro e w' ⟨rfl, rfl⟩) | (go_at_call 38; refine (spec_Max _ _ _).mono ?_; rintro e w' ⟨rfl, rfl⟩))
        go_ret
        refine ⟨ret_i ?_, rfl⟩
        rw [HR.out]
        unfold clampN
        try rw [IntWalk.wrap64_in _ (by omega)]
        simp
theorem impl_limit (n lo hi : Int) (w : World) : Calls Try.prog 40 #[.int .i64 n, .int .i64 lo, .int .i64 hi] w fun e w' => e = .returned (.int .i64 (maxI lo (minI n hi))) ∧ Below w.heap.size w w' := by
  go_enter Try.func40, Try.ntmps40
  go_wp2_with fail
  refine (impl_Min _ _ _).mono ?_
  rintro e w1 ⟨rfl, hb1⟩
  go_wp2_with fail
  refine (impl_Max _ _ _).mono ?_
  rintro e w2 ⟨rfl, hb2⟩
  go_wp2
  go_ret
  exact ⟨rfl, hb1.trans (hb2.mono hb1.size)⟩
theorem limit_clamp (n hi : Int) : maxI 0 (minI n hi) = clampN n hi := by unfold clampN; rw [minI_comm]
theorem impl_isQueue (n : Int) (w : World) : Calls Try.prog 42 #[.int .i64 n] w fun e w' => e = .returned (.bool (inB n 0 10000)) ∧ w = w' := by
  go_enter Try.func42, Try.ntmps42
  go_wp2_with fail
  refine (impl_InRange _ _ _ _).mono ?_
  rintro e w1 ⟨rfl, rfl⟩
  go_wp2
  go_ret
  exact ⟨rfl, rfl⟩
/-- a second of a queue. -/
def stepQ (t a : Int) (o : Bool) : Int := clampN (t + a - (if o then 1 else 0)) 10000
theorem stepQ_still {t : Int} (h : 0 ≤ t ∧ t ≤ 10000) : stepQ t 0 false = t := by
  unfold stepQ clampN minI maxI
  simp only [Bool.false_eq_true, if_false]
  split <;> split <;> omega
theorem stepQ_bound (t a : Int) (o : Bool) : 0 ≤ stepQ t a o ∧ stepQ t a o ≤ 10000 := clampN_bound _ _ (by decide)
theorem eq_moment (a : Int) (o : Bool) (w : World) : (binOp .eql 56 (.agg #[.int .i64 a, .bool o]) (.agg #[.int .i64 0, .bool false])).run Try.prog w = .ok (.bool (decide (a = 0) && !o)) w := by
  have hS : Try.prog.underlying 56 = some (.struct (Try.prog.fieldsOf 56)) := by kernel_rfl
  have hp : Try.prog.stoodInHeld 56 = false := by kernel_rfl
  have u3 := Try.underlying3
  have u4 := Try.underlying4
  have z3 : Try.prog.cellsOf 3 = 1 := by kernel_rfl
  have z4 : Try.prog.cellsOf 4 = 1 := by kernel_rfl
  rw [run_eql_struct, show (10000 : Nat) = 9999 + 1 from rfl, run_equalIn_agg w 9999 56 _ _ hS hp]
  simp only [Program.fieldsOf, Try.underlying56]
  go_simp
  by_cases h1 : a = 0 <;> cases o <;> simp [h1]
theorem impl_after (a t : Int) (o : Bool) (w : World) (ha : inB a 0 10000 = true) (ht : 0 ≤ t ∧ t ≤ 10000) : Calls Try.prog 43 #[.agg #[.int .i64 a, .bool o], .int .i64 t] w fun e w' => e = .returned (.int .i64 (stepQ t a o)) ∧ Below w.heap.size w w' := by
  obtain ⟨ha1, ha2⟩ := inB_t ha
  clear ha
  have HEQ := Lib.hid (eq_moment a o)
  have HST := Lib.hid (stepQ_still ht)
  obtain ⟨ht1, ht2⟩ := ht
  have hb0 := (Below.refl w.heap.size w).alloc (Nat.le_refl _) (.cells #[.int .i64 a, .bool o] 56)
  have HB0 := Lib.hid hb0
  clear hb0
  by_cases hz : a = 0 ∧ o = false
  · obtain ⟨rfl, rfl⟩ := hz
    have hq := HEQ.out
    rw [show (decide ((0 : Int) = 0) && !false) = true from rfl] at hq
    go_enter Try.func43, Try.ntmps43
    go_wp2
    go_ret
    exact ⟨by rw [HST.out]; try rfl, HB0.out⟩
  · have hq := HEQ.out
    have hn : (decide (a = 0) && !o) = false := by
      by_cases h1 : a = 0
      · cases o
        · exact absurd ⟨h1, rfl⟩ hz
        · simp
      · simp [h1]
    rw [hn] at hq
    clear hn hz HEQ HST
    have HSQ : Hid (stepQ t a o = maxI 0 (minI (t + a - (if o then 1 else 0)) 10000)) := Lib.hid (limit_clamp _ _).symm
    cases o
    · go_enter Try.func43, Try.ntmps43
      go_wp2_with fail
      refine (impl_limit _ _ _ _).mono ?_
      rintro e w2 ⟨rfl, hb2⟩
      go_wp2
      go_ret
      exact ⟨by rw [HSQ.out]; simp; try rfl, HB0.out.trans (hb2.mono HB0.out.size)⟩
    · go_enter Try.func43, Try.ntmps43
      go_wp2_with fail
      refine (impl_limit _ _ _ _).mono ?_
      rintro e w2 ⟨rfl, hb2⟩
      go_wp2
      go_ret
      exact ⟨by rw [HSQ.out]; rfl, HB0.out.trans (hb2.mono HB0.out.size)⟩
theorem impl_QueueStep (a b : Int) (o : Bool) (w : World) : Calls Try.prog 17 #[.int .i64 a, .int .i64 b, .bool o] w fun e w' => e = .returned (.int .i64 (qstep a b o)) ∧ Below w.heap.size w w' := by
  cases h1 : inB a 0 10000
  · have HR : Hid (qstep a b o = 0) := Lib.hid (qstep_out (by rw [h1]; rfl))
    have H1 := Lib.hid h1
    clear h1
    go_enter Try.func17, Try.ntmps17
    go_wp2_with fail
    refine (impl_isQueue _ _).mono ?_
    rw [H1.out]
    rintro e w1 ⟨rfl, rfl⟩
    go_wp2
    go_ret
    exact ⟨by rw [HR.out]; rfl, Below.refl _ _⟩
  · cases h2 : inB b 0 10000
    · have HR : Hid (qstep a b o = 0) := Lib.hid (qstep_out (by rw [h1, h2]; rfl))
      have H1 := Lib.hid h1
      have H2 := Lib.hid h2
      clear h1 h2
      go_enter Try.func17, Try.ntmps17
      go_wp2_with fail
      refine (impl_isQueue _ _).mono ?_
      rw [H1.out]
      rintro e w1 ⟨rfl, rfl⟩
      go_wp2_with fail
      refine (impl_isQueue _ _).mono ?_
      rw [H2.out]
      rintro e w1 ⟨rfl, rfl⟩
      go_wp2
      go_ret
      exact ⟨by rw [HR.out]; rfl, Below.refl _ _⟩
    · have HR : Hid (qstep a b o = stepQ a b o) := Lib.hid (qstep_in h1 h2)
      have H1 := Lib.hid h1
      have H2 := Lib.hid h2
      clear h1 h2
      go_enter Try.func17, Try.ntmps17
      go_wp2_with fail
      refine (impl_isQueue _ _).mono ?_
      rw [H1.out]
      rintro e w1 ⟨rfl, rfl⟩
      go_wp2_with fail
      refine (impl_isQueue _ _).mono ?_
      rw [H2.out]
      rintro e w1 ⟨rfl, rfl⟩
      go_wp2_with fail
      refine (impl_after b a o _ H2.out (inB_t H1.out)).mono ?_
      rintro e w2 ⟨rfl, hb2⟩
      go_wp2
      go_ret
      exact ⟨by rw [HR.out]; try rfl, hb2⟩
theorem spec_IsServed (A : Option Addr) (n c B : Nat) (zs : List Int) (w : World) (h : IntsAt .i64 w B A n zs) (hB : B ≤ w.heap.size) (hn : n ≤ 4294967296) :
    Calls Try.prog 29 #[.slice A n c] w fun e w' => e = .returned (.bool (isSrv zs)) ∧ Below w.heap.size w w' := by
  have hl := h.1
  by_cases h0 : n = 0
  · have HR : Hid (isSrv zs = true) := Lib.hid (by unfold isSrv; rw [hl, decide_eq_true h0]; rfl)
    subst h0
    clear hl
    go_enter Try.func29, Try.ntmps29
    go_wp2
    go_ret
    exact ⟨by rw [HR.out]; rfl, Below.refl _ _⟩
  · obtain ⟨m, rfl⟩ : ∃ m, n = m + 1 := ⟨n - 1, by omega⟩
    obtain ⟨ad, rfl, hab, hcell⟩ := h.2 (by omega)
    have hc := hcell m (by omega)
    have HR : Hid (isSrv zs = decide (zs.getD m 0 = 0)) := Lib.hid (by unfold isSrv; rw [hl, decide_eq_false h0, Nat.add_sub_cancel]; rfl)
    clear hcell hl h0
    generalize zs.getD m 0 = z at *
    by_cases hz : z = 0
    all_goals
      go_enter Try.func29, Try.ntmps29
      go_wp2
      go_ret
      exact ⟨by rw [HR.out]; simp [hz]; try omega, Below.refl _ _⟩
theorem impl_IsServed (A : Option Addr) (n c B : Nat) (zs : List Int) (w : World) (h : IntsAt .i64 w B A n zs) (hB : B ≤ w.heap.size) (hn : n ≤ 4294967296) :
    Calls Try.prog 30 #[.slice A n c] w fun e w' => e = .returned (.bool (isSrv zs)) ∧ Below w.heap.size w w' := by
  have hl := h.1
  by_cases h0 : n = 0
  · have HR : Hid (isSrv zs = true) := Lib.hid (by unfold isSrv; rw [hl, decide_eq_true h0]; rfl)
    subst h0
    clear hl
    go_enter Try.func30, Try.ntmps30
    go_wp2
    go_ret
    exact ⟨by rw [HR.out]; rfl, Below.refl _ _⟩
  · obtain ⟨m, rfl⟩ : ∃ m, n = m + 1 := ⟨n - 1, by omega⟩
    obtain ⟨ad, rfl, hab, hcell⟩ := h.2 (by omega)
    have hc := hcell m (by omega)
    have HR : Hid (isSrv zs = decide (zs.getD m 0 = 0)) := Lib.hid (by unfold isSrv; rw [hl, decide_eq_false h0, Nat.add_sub_cancel]; rfl)
    clear hcell hl h0
    generalize zs.getD m 0 = z at *
    by_cases hz : z = 0
    all_goals
      go_enter Try.func30, Try.ntmps30
      go_wp2
      go_ret
      exact ⟨by rw [HR.out]; simp [hz]; try omega, Below.refl _ _⟩
set_option maxHeartbeats 1000000 in
theorem spec_TotalWait (A : Option Addr) (n c B : Nat) (zs : List Int) (w : World) (h : IntsAt .i64 w B A n zs) (hB : B ≤ w.heap.size) (hn : n ≤ 1048576) :
    Calls Try.prog 27 #[.slice A n c] w fun e w' => e = .returned (.int .i64 (totW zs)) ∧ Below w.heap.size w w' := by
  have hl := h.1
  go_enter Try.func27, Try.ntmps27
  go_wp2
  go_loopw [3, 4] (fun x i wr => ∃ (k : Nat) (q : Int), k ≤ n ∧ i = .int .i64 k ∧ x = .int .i64 q ∧ q = sumC 10000 zs k ∧ Below w.heap.size w wr) (fun _ i _ => n - (intOf i).toNat)
  case atStart => exact ⟨0, 0, Nat.zero_le _, rfl, rfl, rfl, Below.refl _ _⟩
  case round =>
    obtain ⟨k, q, hk, rfl, rfl, hq, hbl⟩ := hrel
    by_cases hlt : k < n
    · obtain ⟨ad, rfl, hab, hcell⟩ := h.2 (by omega)
      have hc := (hbl.cell (by rw [add_block]; omega)).trans (hcell k hlt)
      have hqb := sumC_bound 10000 (by decide) zs k
      rw [← hq] at hqb
      obtain ⟨hq1, hq2⟩ := hqb
      have HS : Hid (sumC 10000 zs (k + 1) = q + maxI 0 (minI 10000 (zs.getD k 0))) := Lib.hid (by rw [hq]; rfl)
      have hcb := clampN_bound (zs.getD k 0) 10000 (by decide)
      unfold clampN at hcb
      clear hcell hq
      generalize zs.getD k 0 = z at *
      generalize hy : maxI 0 (minI 10000 z) = y at *
      obtain ⟨hy1, hy2⟩ := hcb
      have HY := Lib.hid hy
      clear hy
      go_wp2_with fail
      refine (spec_Min _ _ _).mono ?_
      rintro e w1 ⟨rfl, rfl⟩
      go_wp2_with fail
      refine (spec_Max _ _ _).mono ?_
      rw [HY.out]
      rintro e w1 ⟨rfl, rfl⟩
      go_wp2
      go_roundw
      case rel => exact ⟨k + 1, q + y, by omega, by go_num, rfl, HS.out.symm, hbl⟩
      case measure => simp [intOf]; omega
    · obtain rfl : k = n := by omega
      have HR : Hid (totW zs = q) := Lib.hid (by unfold totW; rw [hl, hq])
      clear hq
      go_wp2
      go_ret
      exact ⟨by rw [HR.out]; try rfl, hbl⟩
set_option maxHeartbeats 1000000 in
theorem impl_TotalWait (A : Option Addr) (n c B : Nat) (zs : List Int) (w : World) (h : IntsAt .i64 w B A n zs) (hB : B ≤ w.heap.size) (hn : n ≤ 1048576) :
    Calls Try.prog 28 #[.slice A n c] w fun e w' => e = .returned (.int .i64 (totW zs)) ∧ Below w.heap.size w w' := by
  have hl := h.1
  go_enter Try.func28, Try.ntmps28
  go_wp2
  go_loopw [3, 8] (fun x i wr => ∃ (k : Nat) (q : Int), k ≤ n ∧ i = .int .i64 k ∧ x = .int .i64 q ∧ q = sumC 10000 zs k ∧ Below w.heap.size w wr) (fun _ i _ => n - (intOf i).toNat)
  case atStart => exact ⟨0, 0, Nat.zero_le _, rfl, rfl, rfl, Below.refl _ _⟩
  case round =>
    obtain ⟨k, q, hk, rfl, rfl, hq, hbl⟩ := hrel
    have hsz := hbl.size
    by_cases hlt : k < n
    · obtain ⟨ad, rfl, hab, hcell⟩ := h.2 (by omega)
      have hc := (hbl.cell (by rw [add_block]; omega)).trans (hcell k hlt)
      have hqb := sumC_bound 10000 (by decide) zs k
      rw [← hq] at hqb
      obtain ⟨hq1, hq2⟩ := hqb
      have HS : Hid (sumC 10000 zs (k + 1) = q + clampN (zs.getD k 0) 10000) := Lib.hid (by rw [hq]; rfl)
      have hcb := clampN_bound (zs.getD k 0) 10000 (by decide)
      clear hcell hq
      generalize zs.getD k 0 = z at *
      have HC := Lib.hid (limit_clamp z 10000)
      generalize clampN z 10000 = y at *
      obtain ⟨hy1, hy2⟩ := hcb
      go_wp2_with fail
      refine (impl_limit _ _ _ _).mono ?_
      rw [HC.out]
      rintro e w1 ⟨rfl, hb1⟩
      go_wp2
      go_roundw
      case rel => exact ⟨k + 1, q + y, by omega, by go_num, rfl, HS.out.symm, hbl.trans (hb1.mono hsz)⟩
      case measure => simp [intOf]; omega
    · obtain rfl : k = n := by omega
      have HR : Hid (totW zs = q) := Lib.hid (by unfold totW; rw [hl, hq])
      clear hq
      go_wp2
      go_ret
      exact ⟨by rw [HR.out]; try rfl, hbl⟩
end Go.Proofs.Ytgdficjihkglpab
