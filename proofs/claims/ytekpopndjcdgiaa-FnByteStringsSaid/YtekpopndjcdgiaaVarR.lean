/- Reading varints out of lists of numbers. No program. -/
import Derived.Test.YtekpopndjcdgiaaVar
namespace Go.Proofs.Ytekpopndjcdgiaa
open Go.RowKit

/-- f groups may still be read from p on; m has been read. -/
def vrd (zs : List Int) : Nat → Nat → Nat → Option (Nat × Nat)
  | 0, _, _ => none
  | f + 1, p, m =>
    if p < zs.length then
      if zs.getD p 0 < 128 then
        if (zs.getD p 0 = 0 ∧ f < 5) ∨ 1000000000000 < m + (zs.getD p 0).toNat % 128 * 128 ^ (5 - f) then none else some (m + (zs.getD p 0).toNat % 128 * 128 ^ (5 - f), p + 1)
      else vrd zs f (p + 1) (m + (zs.getD p 0).toNat % 128 * 128 ^ (5 - f))
    else none
theorem vrd_end {zs : List Int} {f p m : Nat} (h : zs.length ≤ p) : vrd zs f p m = none := by
  cases f with
  | zero => rfl
  | succ f => rw [vrd, if_neg (by omega)]
theorem vrd_more {zs : List Int} {f p m : Nat} {x : Int} (h : p < zs.length) (hx : zs.getD p 0 = x) (h2 : 128 ≤ x) : vrd zs (f + 1) p m = vrd zs f (p + 1) (m + x.toNat % 128 * 128 ^ (5 - f)) := by
  rw [vrd, if_pos h, hx, if_neg (by omega)]
theorem vrd_bad {zs : List Int} {f p m : Nat} {x : Int} (h : p < zs.length) (hx : zs.getD p 0 = x) (h2 : x < 128) (h3 : (x = 0 ∧ f < 5) ∨ 1000000000000 < m + x.toNat % 128 * 128 ^ (5 - f)) : vrd zs (f + 1) p m = none := by
  rw [vrd, if_pos h, hx, if_pos h2, if_pos h3]
theorem vrd_good {zs : List Int} {f p m : Nat} {x : Int} (h : p < zs.length) (hx : zs.getD p 0 = x) (h2 : x < 128) (h3 : ¬ ((x = 0 ∧ f < 5) ∨ 1000000000000 < m + x.toNat % 128 * 128 ^ (5 - f))) : vrd zs (f + 1) p m = some (m + x.toNat % 128 * 128 ^ (5 - f), p + 1) := by
  rw [vrd, if_pos h, hx, if_pos h2, if_neg h3]
def vget (zs : List Int) (at_ : Int) : Option (Nat × Nat) := if 0 ≤ at_ then vrd zs 6 at_.toNat 0 else none
theorem vget_nat (zs : List Int) (p : Nat) : vget zs (p : Int) = vrd zs 6 p 0 := by unfold vget; rw [if_pos (by omega), Int.toNat_natCast]
theorem vget_neg {zs : List Int} {a : Int} (h : a < 0) : vget zs a = none := by unfold vget; rw [if_neg (by omega)]
theorem vget_out {zs : List Int} {a : Int} (h : (zs.length : Int) ≤ a) : vget zs a = none := by
  obtain ⟨p, rfl⟩ := Int.eq_ofNat_of_zero_le (show 0 ≤ a by omega)
  rw [vget_nat, vrd_end (by omega)]
/-- what ReadUvarint answers. -/
def getV : Option (Nat × Nat) → Value
  | none => .tuple #[.int .i64 0, .int .i64 0, .bool false]
  | some (m, q) => .tuple #[.int .i64 (m : Int), .int .i64 (q : Int), .bool true]
theorem vrd_facts (zs : List Int) : ∀ (f p m : Nat) (r : Nat × Nat), vrd zs f p m = some r → r.1 ≤ 1000000000000 ∧ p < r.2 ∧ r.2 ≤ zs.length
  | 0, _, _, _, h => by simp [vrd] at h
  | f + 1, p, m, r, h => by
    by_cases hp : p < zs.length
    · by_cases hx : zs.getD p 0 < 128
      · by_cases hb : (zs.getD p 0 = 0 ∧ f < 5) ∨ 1000000000000 < m + (zs.getD p 0).toNat % 128 * 128 ^ (5 - f)
        · rw [vrd_bad hp rfl hx hb] at h; cases h
        · rw [vrd_good hp rfl hx hb] at h
          injection h with h
          subst h
          exact ⟨by simp only; omega, by simp, by simp only; omega⟩
      · rw [vrd_more hp rfl (by omega)] at h
        have := vrd_facts zs f (p + 1) _ r h
        omega
    · rw [vrd_end (by omega)] at h; cases h
theorem or_grp (k m y : Nat) (hk : k ≤ 5) (hm : m < 128 ^ k) (hy : y < 128) : bits .or .i64 (m : Int) ((y * 128 ^ k : Nat) : Int) = ((m + y * 128 ^ k : Nat) : Int) := by
  have e : 128 ^ k = 2 ^ (7 * k) := by rw [Nat.pow_mul]
  have h1 : 128 ^ k ≤ 34359738368 := Nat.pow_le_pow_right (by decide) hk
  have h2 : y * 128 ^ k ≤ 127 * 34359738368 := Nat.mul_le_mul (by omega) h1
  show IntKind.i64.wrap ((BitVec.ofInt 64 (m : Int) ||| BitVec.ofInt 64 ((y * 128 ^ k : Nat) : Int)).toNat : Int) = _
  rw [BitVec.toNat_or, ofInt64 m (by omega), ofInt64 (y * 128 ^ k) (by omega), Nat.or_comm, nat_join (7 * k) (y * 128 ^ k) m (by rw [e]; exact Nat.mul_mod_left _ _) (by rw [← e]; exact hm), IntKind.wrap_i64]
  omega
/-- what ReadBytes answers. -/
def rdBytes (zs : List Int) (a most : Int) : List Int × Int × Bool :=
  match vget zs a with
  | none => ([], 0, false)
  | some (m, q) => if most < (m : Int) ∨ (zs.length : Int) - (q : Int) < (m : Int) then ([], 0, false) else ((zs.drop q).take m, ((q + m : Nat) : Int), true)
theorem rdBytes_none {zs : List Int} {a : Int} (most : Int) (h : vget zs a = none) : rdBytes zs a most = ([], 0, false) := by unfold rdBytes; rw [h]
theorem rdBytes_bad {zs : List Int} {a most : Int} {m q : Nat} (h : vget zs a = some (m, q)) (hb : most < (m : Int) ∨ (zs.length : Int) - (q : Int) < (m : Int)) : rdBytes zs a most = ([], 0, false) := by unfold rdBytes; rw [h]; simp only [if_pos hb]
theorem rdBytes_good {zs : List Int} {a most : Int} {m q : Nat} (h : vget zs a = some (m, q)) (hb : ¬ (most < (m : Int) ∨ (zs.length : Int) - (q : Int) < (m : Int))) : rdBytes zs a most = ((zs.drop q).take m, ((q + m : Nat) : Int), true) := by unfold rdBytes; rw [h]; simp only [if_neg hb]
theorem vget_facts {zs : List Int} {a : Int} {m q : Nat} (h : vget zs a = some (m, q)) : m ≤ 1000000000000 ∧ 0 < q ∧ q ≤ zs.length := by
  unfold vget at h
  split at h
  · have := vrd_facts zs 6 _ 0 _ h
    simp only at this
    omega
  · cases h
/-- the n numbers whose varints lie from a on. -/
def rdNums (zs : List Int) : Nat → Nat → Option (List Int × Nat)
  | 0, a => some ([], a)
  | n + 1, a => match vget zs (a : Int) with
    | none => none
    | some (m, q) => match rdNums zs n q with
      | none => none
      | some (l, e) => some ((m : Int) :: l, e)
/-- what DecodeInts answers. -/
def rdInts (zs : List Int) (a n : Int) : List Int × Int × Bool :=
  if (0 ≤ n ∧ n ≤ 100) ∧ (0 ≤ a ∧ a ≤ zs.length) then
    match rdNums zs n.toNat a.toNat with
    | none => ([], 0, false)
    | some (l, e) => (l, (e : Int), true)
  else ([], 0, false)
/-- k of N numbers have been read: l; the next begins at e. -/
def NumsAt (zs : List Int) (N a k : Nat) (l : List Int) (e : Nat) : Prop := l.length = k ∧ k ≤ N ∧ rdNums zs N a = (rdNums zs (N - k) e).map fun r => (l ++ r.1, r.2)
theorem NumsAt.start (zs : List Int) (N a : Nat) : NumsAt zs N a 0 [] a := ⟨rfl, Nat.zero_le _, by simp⟩
theorem NumsAt.no_more {zs : List Int} {N a k e : Nat} {l : List Int} (h : NumsAt zs N a k l e) (hk : k < N) (hv : vget zs (e : Int) = none) : rdNums zs N a = none := by
  rw [h.2.2, show N - k = (N - (k + 1)) + 1 by omega, rdNums, hv]
  rfl
theorem NumsAt.more {zs : List Int} {N a k e m q : Nat} {l : List Int} (h : NumsAt zs N a k l e) (hk : k < N) (hv : vget zs (e : Int) = some (m, q)) : NumsAt zs N a (k + 1) (l ++ [(m : Int)]) q := by
  refine ⟨by simp [h.1], hk, ?_⟩
  rw [h.2.2, show N - k = (N - (k + 1)) + 1 by omega, rdNums, hv]
  simp only
  cases rdNums zs (N - (k + 1)) q with
  | none => rfl
  | some r => simp
theorem NumsAt.done {zs : List Int} {N a e : Nat} {l : List Int} (h : NumsAt zs N a N l e) : rdNums zs N a = Option.some (l, e) := by
  rw [h.2.2, Nat.sub_self, rdNums]
  simp
theorem rdNums_len (zs : List Int) : ∀ (N a : Nat) (r : List Int × Nat), rdNums zs N a = Option.some r → r.1.length = N
  | 0, a, r, h => by rw [rdNums] at h; injection h with h; subst h; rfl
  | N + 1, a, r, h => by
    rw [rdNums] at h
    cases hv : vget zs (a : Int) with
    | none => rw [hv] at h; cases h
    | some mq =>
      obtain ⟨m, q⟩ := mq
      rw [hv] at h
      simp only at h
      cases hn : rdNums zs N q with
      | none => rw [hn] at h; cases h
      | some r2 =>
        rw [hn] at h
        injection h with h
        subst h
        have := rdNums_len zs N q r2 hn
        simp [this]
theorem rdInts_out {zs : List Int} {a n : Int} (h : ¬ ((0 ≤ n ∧ n ≤ 100) ∧ (0 ≤ a ∧ a ≤ zs.length))) : rdInts zs a n = ([], 0, false) := by unfold rdInts; rw [if_neg h]
theorem rdInts_in {zs : List Int} {a n : Nat} (h1 : n ≤ 100) (h2 : a ≤ zs.length) : rdInts zs a n = match rdNums zs n a with | .none => ([], 0, false) | .some (l, e) => (l, (e : Int), true) := by
  unfold rdInts
  rw [if_pos (by omega), Int.toNat_natCast, Int.toNat_natCast]
theorem rdInts_none {zs : List Int} {a n : Nat} (h1 : n ≤ 100) (h2 : a ≤ zs.length) (h : rdNums zs n a = none) : rdInts zs a n = ([], 0, false) := by rw [rdInts_in h1 h2, h]
theorem rdInts_some {zs : List Int} {a n : Nat} (h1 : n ≤ 100) (h2 : a ≤ zs.length) {l : List Int} {e : Nat} (h : rdNums zs n a = some (l, e)) : rdInts zs a n = (l, (e : Int), true) := by rw [rdInts_in h1 h2, h]
theorem add_add (ad : Addr) (i j : Nat) : (ad.add i).add j = ad.add (i + j) := by
  unfold Addr.add
  by_cases hi : i = 0
  · subst hi; simp
  · by_cases hj : j = 0
    · subst hj; simp
    · have hij : ¬ i + j = 0 := by omega
      simp [hi, hj, Nat.add_assoc]
theorem IntsAt.sub {k : IntKind} {w : World} {B : Nat} {ad : Addr} {n : Nat} {zs : List Int} (h : IntsAt k w B (some ad) n zs) (q m : Nat) (hq : q + m ≤ n) (A2 : Option Addr) (hA : 0 < m → A2 = some (ad.add q)) : IntsAt k w B A2 m ((zs.drop q).take m) := by
  have hl := h.1
  refine ⟨by rw [List.length_take, List.length_drop]; omega, fun hm => ?_⟩
  obtain ⟨ad', e, hb, hc⟩ := h.2 (by omega)
  injection e with e
  subst e
  refine ⟨ad.add q, hA hm, by rw [add_block]; exact hb, fun j hj => ?_⟩
  rw [add_add, hc (q + j) (by omega)]
  simp [List.getD_eq_getElem?_getD, hj]
theorem grp_cast (x k y : Nat) (hy : y = x % 128 * 128 ^ k) : (x : Int) % 128 * 2 ^ (7 * k) = (y : Int) := by
  have e : 128 ^ k = 2 ^ (7 * k) := by rw [Nat.pow_mul]
  rw [hy, e]
  simp
/-- One round of a reader: y is the group in its place, m' what has been read then. -/
theorem vrd_round {zs : List Int} {p k m x : Nat} (hin : p + k < zs.length) (hx : zs.getD (p + k) 0 = (x : Int)) (hx' : x < 256) (hk : k < 6) (hm : m < 128 ^ k) :
    ∃ y m' : Nat, wrap64 ((x : Int) % 128 * 2 ^ (7 * k)) = (y : Int) ∧ bits .or .i64 (m : Int) (y : Int) = (m' : Int) ∧ m' < 128 ^ (k + 1) ∧ m' ≤ 4398046511104 ∧ (x = 0 → k = 0 → m' = 0) ∧
      (x < 128 → ¬ ((x = 0 ∧ 0 < k) ∨ 1000000000000 < m') → vrd zs (6 - k) (p + k) m = some (m', p + k + 1)) ∧
      (x < 128 → (x = 0 ∧ 0 < k) ∨ 1000000000000 < m' → vrd zs (6 - k) (p + k) m = none) ∧
      (128 ≤ x → vrd zs (6 - k) (p + k) m = vrd zs (6 - (k + 1)) (p + (k + 1)) m') := by
  have hp1 : 128 ^ k ≤ 34359738368 := Nat.pow_le_pow_right (by decide) (show k ≤ 5 by omega)
  have hyb : x % 128 * 128 ^ k ≤ 127 * 34359738368 := Nat.mul_le_mul (by omega) hp1
  have hf : 6 - k = (5 - k) + 1 := by omega
  have hkk : 5 - (5 - k) = k := by omega
  have hz : x % 128 * 128 ^ (5 - (5 - k)) = x % 128 * 128 ^ k := by rw [hkk]
  have hor := or_grp k m (x % 128) (by omega) hm (by omega)
  have hca := grp_cast x k _ rfl
  have hmb : m + x % 128 * 128 ^ k < 128 ^ (k + 1) := by
    rw [Nat.pow_succ]
    have : x % 128 * 128 ^ k ≤ 127 * 128 ^ k := Nat.mul_le_mul_right _ (by omega)
    omega
  have hmx : m + x % 128 * 128 ^ k ≤ 4398046511104 := Nat.le_trans (Nat.le_of_lt hmb) (Nat.pow_le_pow_right (by decide) (show k + 1 ≤ 6 by omega))
  have h00 : x = 0 → k = 0 → m + x % 128 * 128 ^ k = 0 := by
    rintro rfl rfl
    simp at hm ⊢
    exact hm
  generalize hy : x % 128 * 128 ^ k = y at *
  refine ⟨y, m + y, ?_, hor, hmb, hmx, h00, fun h1 h2 => ?_, fun h1 h2 => ?_, fun h1 => ?_⟩
  · rw [hca]
    exact IntWalk.wrap64_in _ (by omega)
  · have h3 := vrd_good (f := 5 - k) (m := m) hin hx (by omega) (by rw [Int.toNat_natCast, hz]; omega)
    rw [hf, h3, Int.toNat_natCast, hz]
  · rw [hf]
    exact vrd_bad (f := 5 - k) (m := m) hin hx (by omega) (by rw [Int.toNat_natCast, hz]; omega)
  · rw [hf, vrd_more (f := 5 - k) (m := m) hin hx (by omega), Int.toNat_natCast, hz]
    have e : 6 - (k + 1) = 5 - k := by omega
    rw [e]
    rfl
theorem and127u (x : Nat) (hx : x < 256) : bits .and .u8 (x : Int) 127 = ((x % 128 : Nat) : Int) := by
  have h := u8_and_nat x 127 hx (by omega)
  rw [show ((127 : Nat) : Int) = 127 from rfl] at h
  rw [h, nat_mask7]
theorem and128u (x : Nat) (hx : x < 256) : bits .and .u8 (x : Int) 128 = if x < 128 then 0 else 128 := by
  have h := u8_and_nat x 128 hx (by omega)
  rw [show ((128 : Nat) : Int) = 128 from rfl] at h
  rw [h, nat_bit 7 x]
  split
  · have : x / 128 = 0 := by omega
    simp [this]
  · have : x / 128 = 1 := by omega
    simp [this]
end Go.Proofs.Ytekpopndjcdgiaa
