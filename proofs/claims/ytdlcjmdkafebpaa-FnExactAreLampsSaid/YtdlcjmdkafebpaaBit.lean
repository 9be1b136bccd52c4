/- Bit operations on numbers that are not negative; a path packed into one number. No program. -/
import Derived.Test.YtdlcjmdkafebpaaPth
import Derived.Laws.BitsLemmas
namespace Go.Proofs.Ytdlcjmdkafebpaa
open Go.RowKit

theorem i64_wraps (n : Int) (h0 : 0 ≤ n) (h1 : n < 2 ^ 63) : IntKind.i64.wrap n = n := by
  have e : (2 : Int) ^ 63 = 9223372036854775808 := by decide
  rw [e] at h1
  rw [IntKind.wrap_i64]
  omega
theorem and3 (x : Int) (h0 : 0 ≤ x) (h1 : x < 65536) : bits .and .i64 x 3 = x % 4 := by
  have e : (2 : Int) ^ 63 = 9223372036854775808 := by decide
  have h := bits_mask .i64 63 (by decide) i64_wraps 2 (by decide) x h0 (by rw [e]; omega)
  have e2 : ((2 : Int) ^ 2 - 1) = 3 := by decide
  have e3 : ((2 : Int) ^ 2) = 4 := by decide
  rw [e2, e3] at h
  exact h
theorem or4 (x y : Int) (h0 : 0 ≤ x) (h1 : x < 65536) (hx : x % 4 = 0) (hy : 0 ≤ y) (hy1 : y < 4) : bits .or .i64 x y = x + y := by
  have e : (2 : Int) ^ 63 = 9223372036854775808 := by decide
  have e3 : ((2 : Int) ^ 2) = 4 := by decide
  exact bits_join .i64 63 (by decide) i64_wraps 2 x y h0 (by rw [e3]; exact hx) (by rw [e]; omega) hy (by rw [e3]; exact hy1) (by rw [e]; omega)
/-- a valid path as one number, in bits. -/
def packN (p : Pth) : Int := if isP p then ((p.id * 4 + p.kind) * 4 + p.frm) * 4 + p.to else 0
theorem packN_no {p : Pth} (h : isP p = false) : packN p = 0 := by unfold packN; rw [h]; rfl
theorem packN_yes {p : Pth} (h : isP p = true) : packN p = ((p.id * 4 + p.kind) * 4 + p.frm) * 4 + p.to ∧ 64 ≤ packN p ∧ packN p < 2048 := by
  have hf := isP_facts p h
  have e : packN p = ((p.id * 4 + p.kind) * 4 + p.frm) * 4 + p.to := by unfold packN; rw [h]; rfl
  refine ⟨e, ?_, ?_⟩ <;> rw [e] <;> omega
theorem packN_to {p : Pth} (h : isP p = true) : packN p % 4 = p.to := by have := isP_facts p h; rw [(packN_yes h).1]; omega
theorem packN_frm {p : Pth} (h : isP p = true) : packN p / 4 % 4 = p.frm := by have := isP_facts p h; rw [(packN_yes h).1]; omega
theorem packN_kind {p : Pth} (h : isP p = true) : packN p / 16 % 4 = p.kind := by have := isP_facts p h; rw [(packN_yes h).1]; omega
theorem packN_id {p : Pth} (h : isP p = true) : packN p / 64 = p.id := by have := isP_facts p h; rw [(packN_yes h).1]; omega
end Go.Proofs.Ytdlcjmdkafebpaa
