/- Hashes and ciphers as numbers. No program. -/
import Derived.Test.YtglgmikeancimaaDoorOwn
namespace Go.Proofs.YtglgmikeancimaaDoor

/-- one step of the hash. -/
def hstep (d v : Int) : Int := (d * 1000003 + v % 2147483647 + 13) % 2147483647
theorem hstep_range (d v : Int) : 0 ≤ hstep d v ∧ hstep d v < 2147483647 := by unfold hstep; omega
/-- what Hash answers. -/
def hashI (vs : List Int) : Int := vs.foldl hstep 11
theorem hash_fold_range (vs : List Int) : ∀ d : Int, 0 ≤ d ∧ d < 2147483647 → 0 ≤ vs.foldl hstep d ∧ vs.foldl hstep d < 2147483647 := by
  induction vs with
  | nil => intro d h; exact h
  | cons v vs ih => intro d _; exact ih _ (hstep_range d v)
theorem hashI_range (vs : List Int) : 0 ≤ hashI vs ∧ hashI vs < 2147483647 := hash_fold_range vs 11 (by decide)
theorem hashI_take {vs : List Int} {k : Nat} (h : k < vs.length) : hashI (vs.take (k + 1)) = hstep (hashI (vs.take k)) (vs.getD k 0) := by
  unfold hashI
  rw [List.take_add_one, List.foldl_append, List.getD_eq_getElem?_getD, List.getElem?_eq_getElem h]
  rfl
theorem hashI_all {vs : List Int} {k : Nat} (h : vs.length = k) : hashI (vs.take k) = hashI vs := by rw [List.take_of_length_le (by omega)]
theorem mul_back {x q : Int} (h : x * 1000003 = 2147483647 * q) : ∃ y, x = 2147483647 * y := by
  refine ⟨q * 1523789695 - x * 709572, ?_⟩
  have e : (x * 1000003) * 1523789695 = (2147483647 * q) * 1523789695 := by rw [h]
  omega
theorem step_inj {c d r : Int} (hc : 0 ≤ c ∧ c < 2147483647) (hd : 0 ≤ d ∧ d < 2147483647) (h : (c * 1000003 + r) % 2147483647 = (d * 1000003 + r) % 2147483647) : c = d := by
  have h2 : (c * 1000003 + r - (d * 1000003 + r)) % 2147483647 = 0 := Int.emod_eq_emod_iff_emod_sub_eq_zero.1 h
  obtain ⟨q, hq⟩ := Int.dvd_of_emod_eq_zero h2
  have h3 : (c - d) * 1000003 = 2147483647 * q := by rw [← hq, Int.sub_mul]; omega
  obtain ⟨y, hy⟩ := mul_back h3
  clear h h2 hq h3
  omega
theorem hstep_left {c d v : Int} (hc : 0 ≤ c ∧ c < 2147483647) (hd : 0 ≤ d ∧ d < 2147483647) (h : hstep c v = hstep d v) : c = d := by
  unfold hstep at h
  rw [Int.add_assoc, Int.add_assoc (d * 1000003)] at h
  exact step_inj hc hd h
theorem hstep_right {d v u : Int} (h : hstep d v = hstep d u) : v % 2147483647 = u % 2147483647 := by
  unfold hstep at h
  omega
theorem hash_fold_inj (vs : List Int) : ∀ c d : Int, 0 ≤ c ∧ c < 2147483647 → 0 ≤ d ∧ d < 2147483647 → vs.foldl hstep c = vs.foldl hstep d → c = d := by
  induction vs with
  | nil => intro c d _ _ h; exact h
  | cons v vs ih => intro c d hc hd h; exact hstep_left hc hd (ih _ _ (hstep_range c v) (hstep_range d v) h)
/-- one value that differs modulo the modulus changes the hash. -/
theorem hash_differs (pre post : List Int) (v u : Int) (h : v % 2147483647 ≠ u % 2147483647) : hashI (pre ++ v :: post) ≠ hashI (pre ++ u :: post) := by
  unfold hashI
  rw [List.foldl_append, List.foldl_append, List.foldl_cons, List.foldl_cons]
  intro e
  exact h (hstep_right (hash_fold_inj post _ _ (hstep_range _ _) (hstep_range _ _) e))
/-- what KeyedHash answers. -/
def khash (k : Int) (vs : List Int) : Int := hashI (k :: (vs ++ [k]))
theorem khash_range (k : Int) (vs : List Int) : 0 ≤ khash k vs ∧ khash k vs < 2147483647 := hashI_range _
/-- what BytesToInts answers. -/
def toNums (zs : List Int) : List Int := (zs.length : Int) :: zs
/-- the key stream at place i. -/
def kstream (k : Int) (i : Nat) : Int := khash k [(i : Int)] % 256
/-- what Encrypt and Decrypt answer. -/
def encr (k : Int) (zs : List Int) : List Int := zs.mapIdx fun i z => (z + kstream k i) % 256
def decr (k : Int) (zs : List Int) : List Int := zs.mapIdx fun i z => (z - kstream k i) % 256
theorem encr_byte (k : Int) (zs : List Int) : ∀ z ∈ encr k zs, 0 ≤ z ∧ z ≤ 255 := by
  intro z hz
  obtain ⟨i, _, rfl⟩ := List.mem_mapIdx.1 hz
  omega
theorem decr_byte (k : Int) (zs : List Int) : ∀ z ∈ decr k zs, 0 ≤ z ∧ z ≤ 255 := by
  intro z hz
  obtain ⟨i, _, rfl⟩ := List.mem_mapIdx.1 hz
  omega
theorem encr_length (k : Int) (zs : List Int) : (encr k zs).length = zs.length := by simp [encr]
theorem decr_length (k : Int) (zs : List Int) : (decr k zs).length = zs.length := by simp [decr]
theorem decr_encr {k : Int} {zs : List Int} (h : ∀ z ∈ zs, 0 ≤ z ∧ z ≤ 255) : decr k (encr k zs) = zs := by
  unfold decr encr
  rw [List.mapIdx_mapIdx]
  apply List.ext_getElem?
  intro i
  rw [List.getElem?_mapIdx]
  cases hi : zs[i]? with
  | none => rfl
  | some z =>
    have hz := h z (List.mem_of_getElem? hi)
    simp only [Option.map_some, Function.comp, Option.some.injEq]
    omega
theorem encr_decr {k : Int} {zs : List Int} (h : ∀ z ∈ zs, 0 ≤ z ∧ z ≤ 255) : encr k (decr k zs) = zs := by
  unfold decr encr
  rw [List.mapIdx_mapIdx]
  apply List.ext_getElem?
  intro i
  rw [List.getElem?_mapIdx]
  cases hi : zs[i]? with
  | none => rfl
  | some z =>
    have hz := h z (List.mem_of_getElem? hi)
    simp only [Option.map_some, Function.comp, Option.some.injEq]
    omega
theorem encr_take {k : Int} {zs : List Int} {i : Nat} (h : i < zs.length) : encr k (zs.take (i + 1)) = encr k (zs.take i) ++ [(zs.getD i 0 + kstream k i) % 256] := by
  unfold encr
  rw [List.take_add_one, List.getElem?_eq_getElem h, Option.toList_some, List.mapIdx_append, List.getD_eq_getElem?_getD, List.getElem?_eq_getElem h]
  simp [List.length_take, Nat.min_eq_left (Nat.le_of_lt h)]
theorem decr_take {k : Int} {zs : List Int} {i : Nat} (h : i < zs.length) : decr k (zs.take (i + 1)) = decr k (zs.take i) ++ [(zs.getD i 0 - kstream k i) % 256] := by
  unfold decr
  rw [List.take_add_one, List.getElem?_eq_getElem h, Option.toList_some, List.mapIdx_append, List.getD_eq_getElem?_getD, List.getElem?_eq_getElem h]
  simp [List.length_take, Nat.min_eq_left (Nat.le_of_lt h)]
theorem encr_all {k : Int} {zs : List Int} {i : Nat} (h : zs.length = i) : encr k (zs.take i) = encr k zs := by rw [List.take_of_length_le (by omega)]
theorem decr_all {k : Int} {zs : List Int} {i : Nat} (h : zs.length = i) : decr k (zs.take i) = decr k zs := by rw [List.take_of_length_le (by omega)]
/-- what DeriveFromString answers. -/
def derive (k : Int) (zs : List Int) : Int := if khash k (toNums zs) = 0 then 1 else khash k (toNums zs)
theorem derive_range (k : Int) (zs : List Int) : 1 ≤ derive k zs ∧ derive k zs ≤ 2147483646 := by
  have h := khash_range k (toNums zs)
  unfold derive
  split <;> omega
end Go.Proofs.YtglgmikeancimaaDoor
