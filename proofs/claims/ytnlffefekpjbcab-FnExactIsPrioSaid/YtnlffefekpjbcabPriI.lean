/- Chapter 16: IsPrio, AskPrio: program and model. -/
import Derived.Test.YtnlffefekpjbcabFindI
import Derived.Test.YtnlffefekpjbcabConf2
import Derived.Test.YtnlffefekpjbcabConfI
import Derived.Test.YtnlffefekpjbcabSmall
import Derived.Laws.StructEq
namespace Go.Proofs.Ytnlffefekpjbcab
open Go.RowKit
set_option linter.unusedVariables false

/-- the kind of the path with this Id is a bus's. -/
def isBusP (ps : List Pth) (id : Int) : Bool := match findK id ps with | none => false | some k => decide ((ps.getD k ⟨0, 0, 0, 0⟩).kind = 3)
/-- what IsPrio answers. -/
def isPri (ps : List Pth) (r : Pri) : Bool := arePs ps && (decide (r = ⟨0, 0⟩) || (isBusP ps r.path && inB r.left 1 20))
set_option maxHeartbeats 1000000 in
theorem impl_isBus (A : Option Addr) (n c B : Nat) (ps : List Pth) (id : Int) (w : World) (h : PthsAt w B A n ps) (hB : B ≤ w.heap.size) (hn : n ≤ 4294967296) :
    Calls Try.prog 96 #[.slice A n c, .int .i64 id] w fun e w' => e = .returned (.bool (isBusP ps id)) ∧ Below w.heap.size w w' := by
  have hf := impl_FindPath A n c B ps id w h hB hn
  have HL := Lib.hid h.1
  cases hk : findK id ps with
  | none =>
    have HV : Hid (isBusP ps id = false) := Lib.hid (by unfold isBusP; rw [hk])
    have hi : findI id ps = -1 := by unfold findI; rw [hk]
    rw [hi] at hf
    clear hk hi
    go_enter Try.func96, Try.ntmps96
    go_wp2_with fail
    refine hf.mono ?_
    rintro e w1 ⟨rfl, hb1⟩
    go_wp2
    go_ret
    exact ⟨by rw [HV.out]; rfl, hb1⟩
  | some k =>
    obtain ⟨p0, hp0, -, -⟩ := findK_at hk
    have hkl : k < n := by have := (List.getElem?_eq_some_iff.1 hp0).1; have := HL.out; omega
    have HV : Hid (isBusP ps id = decide (p0.kind = 3)) := Lib.hid (by unfold isBusP; rw [hk]; simp only [List.getD_eq_getElem?_getD, hp0]; rfl)
    have hi : findI id ps = (k : Int) := by unfold findI; rw [hk]
    rw [hi] at hf
    obtain ⟨ad, p, rfl, hab, hp, hq⟩ := h.at hkl
    rw [hp0] at hp
    cases hp
    have i1 : (0 : Int) ≤ (k : Int) := by omega
    have i2 : (k : Int) < (n : Int) := by omega
    have HQ := Lib.hid hq
    clear hk hi hp0 hq h
    by_cases h3 : p0.kind = 3
    all_goals
      go_enter Try.func96, Try.ntmps96
      go_wp2_with fail
      refine hf.mono ?_
      rintro e w1 ⟨rfl, hb1⟩
      obtain ⟨c0, c1, c2, c3⟩ := HQ.out.below hb1 (by omega)
      have e3 := h3
      go_wp2
      go_ret
      exact ⟨by rw [HV.out]; simp [h3], hb1⟩
theorem eql_pri (a b : Int) (hz : ¬ (a = 0 ∧ b = 0)) (x : World) : (binOp .eql 70 (.agg #[.int .i64 a, .int .i64 b]) (.agg #[.int .i64 0, .int .i64 0])).run Try.prog x = .ok (.bool false) x := by
  have hS : Try.prog.underlying 70 = some (.struct (Try.prog.fieldsOf 70)) := by kernel_rfl
  have hp : Try.prog.stoodInHeld 70 = false := by kernel_rfl
  have u3 := Try.underlying3
  have z3 : Try.prog.cellsOf 3 = 1 := by kernel_rfl
  rw [run_eql_struct, show (10000 : Nat) = 9999 + 1 from rfl, run_equalIn_agg x 9999 70 _ _ hS hp]
  simp only [Program.fieldsOf, Try.underlying70]
  go_simp
  by_cases h1 : a = 0
  · have h2 : ¬ b = 0 := fun e => hz ⟨h1, e⟩
    simp [h1, h2]
  · simp [h1]
set_option maxHeartbeats 2000000 in
theorem impl_IsPrio (A : Option Addr) (n c B : Nat) (ps : List Pth) (r : Pri) (w : World) (h : PthsAt w B A n ps) (hB : B ≤ w.heap.size) (hn : n ≤ 4294967296) :
    Calls Try.prog 54 #[.slice A n c, r.val] w fun e w' => e = .returned (.bool (isPri ps r)) ∧ Below w.heap.size w w' := by
  obtain ⟨a, b⟩ := r
  have HR : Hid (isPri ps ⟨a, b⟩ = (arePs ps && (decide ((⟨a, b⟩ : Pri) = ⟨0, 0⟩) || (isBusP ps a && inB b 1 20)))) := Lib.hid rfl
  simp only [Pri.val]
  obtain ⟨wA, hwA⟩ : ∃ wA, wA = w.alloc (.cells #[.int .i64 a, .int .i64 b] 70) := ⟨_, rfl⟩
  obtain ⟨hk, hsz, hBA⟩ := one_block hwA
  have hA := impl_ArePaths A n c B ps wA (h.below (hBA.mono hB)) (Nat.le_trans hB hBA.size) hn
  have HH := Lib.hid h
  have HK := Lib.hid hk
  have HB := Lib.hid hBA
  have lt0 : w.heap.size < wA.heap.size := by omega
  clear hk hsz hBA h
  cases ha : arePs ps
  · rw [ha] at hA HR
    clear ha
    go_enter Try.func54, Try.ntmps54
    go_wp2_with fail
    rw [← hwA]
    refine hA.mono ?_
    rintro e w1 ⟨rfl, hb1⟩
    clear hwA
    go_wp2
    go_ret
    exact ⟨by rw [HR.out]; rfl, HB.out.trans (hb1.mono HB.out.size)⟩
  rw [ha, Bool.true_and] at HR
  rw [ha] at hA
  clear ha
  by_cases hz : a = 0 ∧ b = 0
  · obtain ⟨rfl, rfl⟩ := hz
    rw [decide_eq_true rfl] at HR
    go_enter Try.func54, Try.ntmps54
    go_wp2_with fail
    rw [← hwA]
    refine hA.mono ?_
    rintro e w1 ⟨rfl, hb1⟩
    clear hwA
    obtain ⟨x0, x1⟩ := pri_head (pri_of_block (p := ⟨0, 0⟩) ((hb1.block _ lt0).trans HK.out))
    simp only at x0 x1
    have HB1 := Lib.hid (HB.out.trans (hb1.mono HB.out.size))
    clear hb1
    go_wp2
    go_ret
    exact ⟨by rw [HR.out]; rfl, HB1.out⟩
  · have hne : (decide ((⟨a, b⟩ : Pri) = ⟨0, 0⟩)) = false := decide_eq_false (by simpa using hz)
    rw [hne, Bool.false_or] at HR
    have heq : ∀ x, (binOp .eql 70 (.agg #[.int .i64 a, .int .i64 b]) (.agg #[.int .i64 0, .int .i64 0])).run Try.prog x = .ok (.bool false) x := fun x => by
      have hS : Try.prog.underlying 70 = some (.struct (Try.prog.fieldsOf 70)) := by kernel_rfl
      have hp : Try.prog.stoodInHeld 70 = false := by kernel_rfl
      have u3 := Try.underlying3
      have z3 : Try.prog.cellsOf 3 = 1 := by kernel_rfl
      rw [run_eql_struct, show (10000 : Nat) = 9999 + 1 from rfl, run_equalIn_agg x 9999 70 _ _ hS hp]
      simp only [Program.fieldsOf, Try.underlying70]
      go_simp
      by_cases h1 : a = 0
      · have h2 : ¬ b = 0 := fun e => hz ⟨h1, e⟩
        simp [h1, h2]
      · simp [h1]
    clear hne hz
    cases hb : isBusP ps a
    · rw [hb] at HR
      go_enter Try.func54, Try.ntmps54
      go_wp2_with fail
      rw [← hwA]
      refine hA.mono ?_
      rintro e w1 ⟨rfl, hb1⟩
      clear hwA
      obtain ⟨x0, x1⟩ := pri_head (pri_of_block (p := ⟨a, b⟩) ((hb1.block _ lt0).trans HK.out))
      simp only at x0 x1
      have HB1 := Lib.hid (HB.out.trans (hb1.mono HB.out.size))
      have hbus := impl_isBus A n c B ps a w1 (HH.out.below (HB1.out.mono hB)) (Nat.le_trans hB HB1.out.size) hn
      rw [hb] at hbus
      clear hb1 hA hb
      go_wp2_with fail
      refine hbus.mono ?_
      rintro e w2 ⟨rfl, hb2⟩
      clear x0 x1
      go_wp2
      go_ret
      exact ⟨by rw [HR.out]; rfl, HB1.out.trans (hb2.mono HB1.out.size)⟩
    · rw [hb, Bool.true_and] at HR
      generalize hv : inB b 1 20 = v at HR
      have HV := Lib.hid hv
      clear hv
      go_enter Try.func54, Try.ntmps54
      go_wp2_with fail
      rw [← hwA]
      refine hA.mono ?_
      rintro e w1 ⟨rfl, hb1⟩
      clear hwA
      obtain ⟨x0, x1⟩ := pri_head (pri_of_block (p := ⟨a, b⟩) ((hb1.block _ lt0).trans HK.out))
      simp only at x0 x1
      have HB1 := Lib.hid (HB.out.trans (hb1.mono HB.out.size))
      have hbus := impl_isBus A n c B ps a w1 (HH.out.below (HB1.out.mono hB)) (Nat.le_trans hB HB1.out.size) hn
      rw [hb] at hbus
      have HK1 := Lib.hid ((hb1.block _ lt0).trans HK.out)
      clear hb1 hA hb
      go_wp2_with fail
      refine hbus.mono ?_
      rintro e w2 ⟨rfl, hb2⟩
      clear x0 x1
      obtain ⟨x0, x1⟩ := pri_head (pri_of_block (p := ⟨a, b⟩) ((hb2.block _ (lt_of_block HK1.out)).trans HK1.out))
      simp only at x0 x1
      have HB2 := Lib.hid (HB1.out.trans (hb2.mono HB1.out.size))
      clear hb2
      go_wp2_with (go_at_call 78; refine (impl_InRange _ _ _ _).mono ?_; rintro e w' ⟨rfl, rfl⟩; rw [HV.out])
      go_ret
      exact ⟨by rw [HR.out]; try rfl, HB2.out⟩
set_option maxHeartbeats 4000000 in
theorem spec_IsPrio (A : Option Addr) (n c B : Nat) (ps : List Pth) (r : Pri) (w : World) (h : PthsAt w B A n ps) (hB : B ≤ w.heap.size) (hn : n ≤ 4294967296) :
    Calls Try.prog 52 #[.slice A n c, r.val] w fun e w' => e = .returned (.bool (isPri ps r)) ∧ Below w.heap.size w w' := by
  obtain ⟨a, b⟩ := r
  have HR : Hid (isPri ps ⟨a, b⟩ = (arePs ps && (decide ((⟨a, b⟩ : Pri) = ⟨0, 0⟩) || (isBusP ps a && inB b 1 20)))) := Lib.hid rfl
  simp only [Pri.val]
  obtain ⟨wA, hwA⟩ : ∃ wA, wA = w.alloc (.cells #[.int .i64 a, .int .i64 b] 70) := ⟨_, rfl⟩
  obtain ⟨hk, hsz, hBA⟩ := one_block hwA
  have hP := h.below (hBA.mono hB)
  have hA := spec_ArePaths A n c B ps wA hP (Nat.le_trans hB hBA.size) hn
  have hF := spec_FindPath A n c B ps a wA hP hn
  have HL := Lib.hid h.1
  have HK := Lib.hid hk
  have HB := Lib.hid hBA
  have lt0 : w.heap.size < wA.heap.size := by omega
  clear hk hsz hBA h
  by_cases hz : a = 0 ∧ b = 0
  · obtain ⟨rfl, rfl⟩ := hz
    rw [decide_eq_true rfl, Bool.true_or, Bool.and_true] at HR
    clear hF
    go_enter Try.func52, Try.ntmps52
    go_wp2_with fail
    rw [← hwA]
    refine hA.mono ?_
    rintro e w1 ⟨rfl, hb1⟩
    clear hwA
    go_wp2
    go_ret
    exact ⟨by rw [HR.out]; rfl, HB.out.trans (hb1.mono HB.out.size)⟩
  have hne : (decide ((⟨a, b⟩ : Pri) = ⟨0, 0⟩)) = false := decide_eq_false (by simpa using hz)
  have heq := fun x => eql_pri a b hz x
  rw [hne, Bool.false_or] at HR
  clear hne hz
  cases ha : arePs ps
  · rw [ha] at hA HR
    clear ha
    go_enter Try.func52, Try.ntmps52
    go_wp2_with fail
    rw [← hwA]
    refine hF.mono ?_
    rintro e w1 ⟨rfl, rfl⟩
    clear hwA
    go_wp2_with fail
    refine hA.mono ?_
    rintro e w1 ⟨rfl, hb1⟩
    go_wp2
    go_ret
    exact ⟨by rw [HR.out]; rfl, HB.out.trans (hb1.mono HB.out.size)⟩
  rw [ha, Bool.true_and] at HR
  rw [ha] at hA
  clear ha
  cases hk : findK a ps with
  | none =>
    have HV : Hid (isPri ps ⟨a, b⟩ = false) := Lib.hid (by rw [HR.out]; unfold isBusP; rw [hk]; rfl)
    have hi : findI a ps = -1 := by unfold findI; rw [hk]
    rw [hi] at hF
    clear hk hi HR
    go_enter Try.func52, Try.ntmps52
    go_wp2_with fail
    rw [← hwA]
    refine hF.mono ?_
    rintro e w1 ⟨rfl, rfl⟩
    clear hwA
    go_wp2_with fail
    refine hA.mono ?_
    rintro e w1 ⟨rfl, hb1⟩
    go_wp2
    go_ret
    exact ⟨by rw [HV.out]; rfl, HB.out.trans (hb1.mono HB.out.size)⟩
  | some k =>
    obtain ⟨p0, hp0, -, -⟩ := findK_at hk
    have hkl : k < n := by have := (List.getElem?_eq_some_iff.1 hp0).1; have := HL.out; omega
    have hbv : isBusP ps a = decide (p0.kind = 3) := by unfold isBusP; rw [hk]; simp only [List.getD_eq_getElem?_getD, hp0]; rfl
    rw [hbv] at HR
    have hi : findI a ps = (k : Int) := by unfold findI; rw [hk]
    rw [hi] at hF
    obtain ⟨ad, p, rfl, hab, hp, hq⟩ := hP.at hkl
    rw [hp0] at hp
    cases hp
    have i1 : (0 : Int) ≤ (k : Int) := by omega
    have i2 : (k : Int) < (n : Int) := by omega
    have HQ := Lib.hid hq
    generalize hv : inB b 1 20 = v at HR
    have HV := Lib.hid hv
    clear hv hk hi hp0 hq hP hbv
    by_cases h3 : p0.kind = 3
    all_goals
      go_enter Try.func52, Try.ntmps52
      go_wp2_with fail
      rw [← hwA]
      refine hF.mono ?_
      rintro e w1 ⟨rfl, rfl⟩
      clear hwA
      go_wp2_with fail
      refine hA.mono ?_
      rintro e w1 ⟨rfl, hb1⟩
      obtain ⟨x0, x1⟩ := pri_head (pri_of_block (p := ⟨a, b⟩) ((hb1.block _ lt0).trans HK.out))
      simp only at x0 x1
      obtain ⟨c0, c1, c2, c3⟩ := HQ.out.below hb1 (by omega)
      have HB1 := Lib.hid (HB.out.trans (hb1.mono HB.out.size))
      clear hb1 hA hF
      go_wp2_with (go_at_call 79; refine (spec_l1In _ _ _ _).mono ?_; rintro e w' ⟨rfl, rfl⟩; rw [HV.out])
      go_ret
      exact ⟨by rw [HR.out]; simp [h3], HB1.out⟩
/-- what AskPrio answers. -/
def askP (ps : List Pth) (r : Pri) (id : Int) : Pri × Bool := if isPri ps r && decide (r.path = 0) && isPri ps ⟨id, 20⟩ then (⟨id, 20⟩, true) else (r, false)
end Go.Proofs.Ytnlffefekpjbcab
