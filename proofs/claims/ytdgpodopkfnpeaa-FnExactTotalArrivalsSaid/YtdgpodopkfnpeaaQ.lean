/- Chapter 12: a second of a queue, the sum of a queue, and its end: program and model. -/
import Derived.Test.YtdgpodopkfnpeaaInts
import Derived.Test.YtdgpodopkfnpeaaMem
import Derived.Laws.StructEq
namespace Go.Proofs.Ytdgpodopkfnpeaa
open Go.RowKit
set_option linter.unusedVariables false

/-- next to n between 0 and hi. -/
def clampN (n hi : Int) : Int := maxI 0 (minI hi n)
theorem minI_comm (a b : Int) : minI a b = minI b a := by unfold minI; split <;> split <;> omega
theorem clampN_bound (n hi : Int) (h : 0 ≤ hi) : 0 ≤ clampN n hi ∧ clampN n hi ≤ hi := by
  unfold clampN minI maxI
  split <;> split <;> omega
/-- what QueueStep answers. -/
def qstep (a b : Int) (o : Bool) : Int := if inB a 0 10000 && inB b 0 10000 then clampN (a + b - (if o then 1 else 0)) 10000 else 0
theorem qstep_in {a b : Int} {o : Bool} (ha : inB a 0 10000 = true) (hb : inB b 0 10000 = true) : qstep a b o = clampN (a + b - (if o then 1 else 0)) 10000 := by unfold qstep; rw [ha, hb]; rfl
theorem qstep_out {a b : Int} {o : Bool} (h : (inB a 0 10000 && inB b 0 10000) = false) : qstep a b o = 0 := by unfold qstep; rw [h]; rfl
theorem qstep_bound (a b : Int) (o : Bool) : 0 ≤ qstep a b o ∧ qstep a b o ≤ 10000 := by
  unfold qstep
  split
  · exact clampN_bound _ _ (by decide)
  · omega
/-- the sum of the first k, each between 0 and hi. -/
def sumC (hi : Int) (zs : List Int) : Nat → Int
  | 0 => 0
  | k + 1 => sumC hi zs k + clampN (zs.getD k 0) hi
theorem sumC_bound (hi : Int) (h : 0 ≤ hi) (zs : List Int) : ∀ k : Nat, 0 ≤ sumC hi zs k ∧ sumC hi zs k ≤ k * hi
  | 0 => by simp [sumC]
  | k + 1 => by
    obtain ⟨h1, h2⟩ := sumC_bound hi h zs k
    obtain ⟨h3, h4⟩ := clampN_bound (zs.getD k 0) hi h
    have e : (((k + 1 : Nat) : Int)) * hi = k * hi + hi := by rw [Int.natCast_add, Int.add_mul]; simp
    show 0 ≤ sumC hi zs k + _ ∧ sumC hi zs k + _ ≤ _
    omega
/-- what TotalWait answers. -/
def totW (zs : List Int) : Int := sumC 10000 zs zs.length
/-- what IsServed answers. -/
def isSrv (zs : List Int) : Bool := decide (zs.length = 0) || decide (zs.getD (zs.length - 1) 0 = 0)
theorem impl_limit (n lo hi : Int) (w : World) : Calls Try.prog 108 #[.int .i64 n, .int .i64 lo, .int .i64 hi] w fun e w' => e = .returned (.int .i64 (maxI lo (minI n hi))) ∧ Below w.heap.size w w' := by
  go_enter Try.func108, Try.ntmps108
  go_wp2_with fail
  refine (impl_Min _ _ _).mono ?_
  rintro e w1 ⟨rfl, hb1⟩
  go_wp2_with fail
  refine (impl_Max _ _ _).mono ?_
  rintro e w2 ⟨rfl, hb2⟩
  go_wp2
  go_ret
  exact ⟨rfl, hb1.trans (hb2.mono hb1.size)⟩
theorem limit_clamp (n hi : Int) : maxI 0 (minI n hi) = clampN n hi := by unfold clampN; rw [minI_comm]
end Go.Proofs.Ytdgpodopkfnpeaa
