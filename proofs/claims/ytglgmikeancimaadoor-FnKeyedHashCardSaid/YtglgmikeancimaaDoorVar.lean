/- Varints as lists of numbers: what is written, what is read. No program. -/
import Derived.Test.YtglgmikeancimaaDoorOwn
import Derived.Laws.BitsAll
import Derived.Laws.BitsAllLaws
import Derived.Laws.BitsLemmas
namespace Go.Proofs.YtglgmikeancimaaDoor
open Go.RowKit

/-- the groups of n. -/
def venc (n : Nat) : List Int := if n ≤ 127 then [(n : Int)] else ((n % 128 + 128 : Nat) : Int) :: venc (n / 128)
termination_by n
decreasing_by omega
theorem venc_small {n : Nat} (h : n ≤ 127) : venc n = [(n : Int)] := by rw [venc, if_pos h]
theorem venc_big {n : Nat} (h : 127 < n) : venc n = ((n % 128 + 128 : Nat) : Int) :: venc (n / 128) := by rw [venc, if_neg (by omega)]
theorem venc_length : ∀ (k n : Nat), n < 128 ^ (k + 1) → (venc n).length ≤ k + 1
  | 0, n, h => by rw [venc_small (by omega)]; simp
  | k + 1, n, h => by
    by_cases hn : n ≤ 127
    · rw [venc_small hn]; simp
    · rw [venc_big (by omega), List.length_cons]
      have := venc_length k (n / 128) (by rw [Nat.div_lt_iff_lt_mul (by decide)]; rw [Nat.pow_succ] at h; exact h)
      omega
theorem venc_six {n : Nat} (h : n ≤ 1000000000000) : (venc n).length ≤ 6 := venc_length 5 n (by omega)
theorem venc_pos (n : Nat) : 0 < (venc n).length := by
  by_cases hn : n ≤ 127
  · rw [venc_small hn]; simp
  · rw [venc_big (by omega)]; simp
theorem venc_byte (n : Nat) : ∀ z ∈ venc n, 0 ≤ z ∧ z ≤ 255 := by
  induction n using Nat.strongRecOn with
  | ind n ih =>
    intro z hz
    by_cases hn : n ≤ 127
    · rw [venc_small hn, List.mem_singleton] at hz
      omega
    · rw [venc_big (by omega), List.mem_cons] at hz
      rcases hz with rfl | hz
      · omega
      · exact ih (n / 128) (by omega) z hz
/-- what AppendUvarint answers. -/
def vput (zs : List Int) (n : Int) : List Int := if 0 ≤ n ∧ n ≤ 1000000000000 then zs ++ venc n.toNat else zs
theorem vput_in {zs : List Int} {n : Int} (h1 : 0 ≤ n) (h2 : n ≤ 1000000000000) : vput zs n = zs ++ venc n.toNat := by unfold vput; rw [if_pos ⟨h1, h2⟩]
theorem vput_out {zs : List Int} {n : Int} (h : n < 0 ∨ 1000000000000 < n) : vput zs n = zs := by unfold vput; rw [if_neg (by omega)]
theorem vput_length (zs : List Int) (n : Int) : (vput zs n).length ≤ zs.length + 6 ∧ zs.length ≤ (vput zs n).length := by
  by_cases h : 0 ≤ n ∧ n ≤ 1000000000000
  · rw [vput_in h.1 h.2, List.length_append]
    have := venc_six (n := n.toNat) (by omega)
    omega
  · rw [vput_out (by omega)]; omega
theorem vput_byte {zs : List Int} (n : Int) (h : ∀ z ∈ zs, 0 ≤ z ∧ z ≤ 255) : ∀ z ∈ vput zs n, 0 ≤ z ∧ z ≤ 255 := by
  intro z hz
  by_cases hn : 0 ≤ n ∧ n ≤ 1000000000000
  · rw [vput_in hn.1 hn.2] at hz
    rcases List.mem_append.1 hz with hz | hz
    · exact h z hz
    · exact venc_byte _ z hz
  · rw [vput_out (by omega)] at hz
    exact h z hz
/-- l holds the groups of n that are no longer in x, behind zs. -/
def Grp (zs : List Int) (n x : Nat) (l : List Int) : Prop := l ++ venc x = zs ++ venc n ∧ x ≤ n ∧ n ≤ 1000000000000
theorem Grp.start {zs : List Int} {n : Nat} (h : n ≤ 1000000000000) : Grp zs n n zs := ⟨rfl, Nat.le_refl _, h⟩
theorem Grp.step {zs : List Int} {n x : Nat} {l : List Int} {b : Int} (h : Grp zs n x l) (hx : 127 < x) (hb : b = ((x % 128 + 128 : Nat) : Int)) : Grp zs n (x / 128) (l ++ [b]) :=
  ⟨by rw [← h.1, venc_big hx, hb, List.append_assoc]; rfl, by have := h.2.1; omega, h.2.2⟩
theorem Grp.done {zs : List Int} {n x : Nat} {l : List Int} {b : Int} (h : Grp zs n x l) (hx : x ≤ 127) (hb : b = (x : Int)) : l ++ [b] = vput zs (n : Int) := by
  rw [vput_in (by omega) (by have := h.2.2; omega), Int.toNat_natCast, ← h.1, venc_small hx, hb]
theorem Grp.len {zs : List Int} {n x : Nat} {l : List Int} (h : Grp zs n x l) : l.length ≤ zs.length + 6 := by
  have h1 := congrArg List.length h.1
  have h2 := venc_six h.2.2
  rw [List.length_append, List.length_append] at h1
  omega
/-- what AppendBytes answers. -/
def bput (zs ds : List Int) : List Int := vput zs (ds.length : Int) ++ ds
/-- what EncodeInts answers. -/
def vputs (zs vs : List Int) : List Int := vs.foldl vput zs
theorem vputs_take {zs vs : List Int} {k : Nat} (h : k < vs.length) : vputs zs (vs.take (k + 1)) = vput (vputs zs (vs.take k)) (vs.getD k 0) := by
  unfold vputs
  rw [List.take_add_one, List.foldl_append, List.getD_eq_getElem?_getD, List.getElem?_eq_getElem h]
  rfl
theorem vputs_all {zs vs : List Int} {k : Nat} (h : vs.length = k) : vputs zs (vs.take k) = vputs zs vs := by rw [List.take_of_length_le (by omega)]
theorem vputs_length (vs : List Int) : ∀ zs : List Int, (vputs zs vs).length ≤ zs.length + 6 * vs.length := by
  induction vs with
  | nil => intro zs; simp [vputs]
  | cons v vs ih =>
    intro zs
    have h1 := ih (vput zs v)
    have h2 := (vput_length zs v).1
    show (vputs (vput zs v) vs).length ≤ _
    rw [List.length_cons]
    omega
theorem vputs_byte (vs : List Int) : ∀ zs : List Int, (∀ z ∈ zs, 0 ≤ z ∧ z ≤ 255) → ∀ z ∈ vputs zs vs, 0 ≤ z ∧ z ≤ 255 := by
  induction vs with
  | nil => intro zs h; exact h
  | cons v vs ih => intro zs h; exact ih (vput zs v) (vput_byte v h)
theorem ofInt64 (a : Nat) (ha : a < 18446744073709551616) : (BitVec.ofInt 64 (a : Int)).toNat = a := by
  rw [BitVec.toNat_ofInt]; omega
theorem and127 (x : Nat) (hx : x ≤ 1000000000000) : bits .and .i64 (x : Int) 127 = ((x % 128 : Nat) : Int) := by
  show IntKind.i64.wrap ((BitVec.ofInt 64 (x : Int) &&& BitVec.ofInt 64 127).toNat : Int) = _
  rw [BitVec.toNat_and, ofInt64 x (by omega), show (BitVec.ofInt 64 127).toNat = 127 from rfl, nat_mask7, IntKind.wrap_i64]
  omega
theorem or128 (y : Nat) (hy : y < 128) : bits .or .i64 (y : Int) 128 = ((y + 128 : Nat) : Int) := by
  show IntKind.i64.wrap ((BitVec.ofInt 64 (y : Int) ||| BitVec.ofInt 64 128).toNat : Int) = _
  rw [BitVec.toNat_or, ofInt64 y (by omega), show (BitVec.ofInt 64 128).toNat = 128 from rfl, Nat.or_comm, nat_join 7 128 y (by decide) hy, IntKind.wrap_i64]
  omega
theorem or128u (y : Nat) (hy : y < 128) : bits .or .u8 (y : Int) 128 = ((y + 128 : Nat) : Int) := by
  have h := u8_or_nat y 128 (by omega) (by omega)
  rw [show ((128 : Nat) : Int) = 128 from rfl] at h
  rw [h, Nat.or_comm, nat_join 7 128 y (by decide) hy, Nat.add_comm]
end Go.Proofs.YtglgmikeancimaaDoor
