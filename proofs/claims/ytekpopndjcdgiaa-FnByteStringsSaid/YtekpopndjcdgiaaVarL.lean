/- What is written is read, and what is read was written. No program. -/
import Derived.Test.YtekpopndjcdgiaaVarR
namespace Go.Proofs.Ytekpopndjcdgiaa
open Go.RowKit

theorem getD_mid (pre rest : List Int) (z : Int) : (pre ++ (z :: rest)).getD pre.length 0 = z := by simp
theorem parts_mul (x P : Nat) : x % 128 * P + x / 128 * (P * 128) = x * P := by
  have h := Nat.div_add_mod x 128
  calc x % 128 * P + x / 128 * (P * 128) = (x / 128 * 128 + x % 128) * P := by rw [Nat.add_mul, Nat.mul_comm P 128, Nat.mul_assoc]; omega
    _ = x * P := by rw [Nat.mul_comm (x / 128) 128, h]
theorem vrd_put (rest : List Int) : ∀ (x k m : Nat) (pre : List Int), k ≤ 5 → (x = 0 → k = 0) → m + x * 128 ^ k ≤ 1000000000000 →
    vrd (pre ++ (venc x ++ rest)) (6 - k) pre.length m = some (m + x * 128 ^ k, pre.length + (venc x).length) := by
  intro x
  induction x using Nat.strongRecOn with
  | ind x ih =>
    intro k m pre hk h0 hle
    have hf : 6 - k = (5 - k) + 1 := by omega
    have hkk : 5 - (5 - k) = k := by omega
    by_cases hx : x ≤ 127
    · rw [venc_small hx, List.singleton_append]
      have hp : pre.length < (pre ++ ((x : Int) :: rest)).length := by simp
      have hm : ((x : Int)).toNat % 128 * 128 ^ (5 - (5 - k)) = x * 128 ^ k := by rw [hkk, Int.toNat_natCast, Nat.mod_eq_of_lt (by omega)]
      have h := vrd_good (f := 5 - k) (m := m) hp (getD_mid pre rest x) (by omega) (by rw [hm]; omega)
      rw [hf, h, hm]
      rfl
    · have hx' : 127 < x := by omega
      rw [venc_big hx', List.cons_append]
      have hp : pre.length < (pre ++ (((x % 128 + 128 : Nat) : Int) :: (venc (x / 128) ++ rest))).length := by simp
      have hP : 0 < 128 ^ k := Nat.pow_pos (by decide)
      have hk4 : k ≤ 4 := by
        rcases Nat.lt_or_ge k 5 with h | h
        · omega
        · have : k = 5 := by omega
          subst this
          omega
      have hpm := parts_mul x (128 ^ k)
      have hsum : (m + x % 128 * 128 ^ k) + x / 128 * 128 ^ (k + 1) = m + x * 128 ^ k := by rw [Nat.pow_succ]; omega
      have hm : (((x % 128 + 128 : Nat) : Int)).toNat % 128 * 128 ^ (5 - (5 - k)) = x % 128 * 128 ^ k := by
        rw [hkk, Int.toNat_natCast]
        congr 1
        omega
      have h := vrd_more (f := 5 - k) (m := m) hp (getD_mid pre _ _) (by omega)
      have hi := ih (x / 128) (by omega) (k + 1) (m + x % 128 * 128 ^ k) (pre ++ [((x % 128 + 128 : Nat) : Int)]) (by omega) (by omega) (by rw [hsum]; exact hle)
      rw [List.append_assoc, List.singleton_append, hsum, List.length_append, List.length_singleton, show 6 - (k + 1) = 5 - k by omega] at hi
      rw [hf, h, hm, hi, List.length_cons, show pre.length + 1 + (venc (x / 128)).length = pre.length + ((venc (x / 128)).length + 1) by omega]
/-- what is written is read. -/
theorem vget_put (pre rest : List Int) (x : Nat) (hx : x ≤ 1000000000000) : vget (pre ++ (venc x ++ rest)) (pre.length : Int) = some (x, pre.length + (venc x).length) := by
  have h := vrd_put rest x 0 0 pre (by omega) (fun _ => rfl) (by omega)
  rw [vget_nat]
  simpa using h
/-- what is read was written. -/
theorem vrd_canon (zs : List Int) (hz : ∀ z ∈ zs, 0 ≤ z ∧ z ≤ 255) : ∀ (f p m M q : Nat), f ≤ 6 → vrd zs f p m = some (M, q) → ∃ x, M = m + x * 128 ^ (6 - f) ∧ (zs.drop p).take (q - p) = venc x ∧ (x = 0 → f = 6)
  | 0, _, _, _, _, _, h => by simp [vrd] at h
  | f + 1, p, m, M, q, hf, h => by
    by_cases hp : p < zs.length
    · have hzp : 0 ≤ zs.getD p 0 ∧ zs.getD p 0 ≤ 255 := by
        rw [List.getD_eq_getElem?_getD, List.getElem?_eq_getElem hp]
        exact hz _ (List.getElem_mem _)
      obtain ⟨b, hb⟩ := Int.eq_ofNat_of_zero_le hzp.1
      rw [hb] at hzp
      have hk : 5 - f = 6 - (f + 1) := by omega
      have hd : zs.drop p = (b : Int) :: zs.drop (p + 1) := by
        rw [List.drop_eq_getElem_cons hp]
        congr 1
        rw [List.getD_eq_getElem?_getD, List.getElem?_eq_getElem hp] at hb
        simpa using hb
      by_cases hx : b < 128
      · by_cases hbad : ((b : Int) = 0 ∧ f < 5) ∨ 1000000000000 < m + ((b : Int)).toNat % 128 * 128 ^ (5 - f)
        · rw [vrd_bad hp hb (by omega) hbad] at h; cases h
        · rw [vrd_good hp hb (by omega) hbad] at h
          injection h with h
          injection h with h1 h2
          refine ⟨b, ?_, ?_, by omega⟩
          · rw [← h1, hk, Int.toNat_natCast, Nat.mod_eq_of_lt hx]
          · rw [hd, ← h2, show p + 1 - p = 1 by omega, venc_small (by omega)]
            rfl
      · rw [vrd_more hp hb (by omega)] at h
        have hq := (vrd_facts zs f (p + 1) _ _ h).2.1
        simp only at hq
        obtain ⟨x, h1, h2, h3⟩ := vrd_canon zs hz f (p + 1) _ M q (by omega) h
        have hx0 : 0 < x := by
          rcases Nat.eq_zero_or_pos x with h0 | h0
          · have := h3 h0; omega
          · exact h0
        refine ⟨b % 128 + 128 * x, ?_, ?_, by omega⟩
        · rw [h1, hk, Int.toNat_natCast, show 6 - f = 6 - (f + 1) + 1 by omega, Nat.pow_succ, Nat.add_mul, Nat.add_assoc]
          congr 1
          rw [Nat.mul_comm (128 ^ (6 - (f + 1))) 128, ← Nat.mul_assoc, Nat.mul_comm x 128]
        · rw [hd, show q - p = (q - (p + 1)) + 1 by omega, List.take_succ_cons, h2, venc_big (n := b % 128 + 128 * x) (by omega), show (b % 128 + 128 * x) % 128 + 128 = b by omega, show (b % 128 + 128 * x) / 128 = x by omega]
    · rw [vrd_end (by omega)] at h; cases h
theorem vget_canon {zs : List Int} (hz : ∀ z ∈ zs, 0 ≤ z ∧ z ≤ 255) {p m q : Nat} (h : vget zs (p : Int) = some (m, q)) : (zs.drop p).take (q - p) = venc m := by
  rw [vget_nat] at h
  obtain ⟨x, h1, h2, _⟩ := vrd_canon zs hz 6 p 0 m q (by omega) h
  rw [h2]
  congr 1
  simpa using h1.symm
theorem vget_from {zs : List Int} {a : Int} {m q : Nat} (h : vget zs a = some (m, q)) : ∃ p : Nat, a = (p : Int) ∧ p < q := by
  by_cases h0 : 0 ≤ a
  · obtain ⟨p, rfl⟩ := Int.eq_ofNat_of_zero_le h0
    rw [vget_nat] at h
    exact ⟨p, rfl, (vrd_facts zs 6 p 0 _ h).2.1⟩
  · rw [vget_neg (by omega)] at h; cases h
/-- the encodings of some numbers. -/
def encs (vs : List Int) : List Int := vs.flatMap fun v => venc v.toNat
theorem vputs_encs : ∀ (vs zs : List Int), (∀ v ∈ vs, 0 ≤ v ∧ v ≤ 1000000000000) → vputs zs vs = zs ++ encs vs
  | [], zs, _ => by simp [vputs, encs]
  | v :: vs, zs, h => by
    have hv := h v List.mem_cons_self
    show vputs (vput zs v) vs = _
    rw [vput_in hv.1 hv.2, vputs_encs vs _ fun u hu => h u (List.mem_cons_of_mem _ hu), List.append_assoc]
    rfl
/-- a list that is written is read. -/
theorem rdNums_encs : ∀ (vs pre : List Int), (∀ v ∈ vs, 0 ≤ v ∧ v ≤ 1000000000000) → rdNums (pre ++ encs vs) vs.length pre.length = some (vs, (pre ++ encs vs).length)
  | [], pre, _ => by simp [rdNums, encs]
  | v :: vs, pre, h => by
    have hv := h v List.mem_cons_self
    have he : encs (v :: vs) = venc v.toNat ++ encs vs := rfl
    have h1 := vget_put pre (encs vs) v.toNat (by omega)
    have h2 := rdNums_encs vs (pre ++ venc v.toNat) fun u hu => h u (List.mem_cons_of_mem _ hu)
    rw [List.append_assoc, List.length_append] at h2
    rw [List.length_cons, rdNums, he, h1]
    simp only [h2]
    rw [Int.toNat_of_nonneg hv.1]
/-- one more than was written is not there. -/
theorem rdNums_more : ∀ (vs pre : List Int), (∀ v ∈ vs, 0 ≤ v ∧ v ≤ 1000000000000) → rdNums (pre ++ encs vs) (vs.length + 1) pre.length = none
  | [], pre, _ => by
    have : vget (pre ++ encs []) (pre.length : Int) = none := vget_out (by simp [encs])
    simp only [rdNums, this]
  | v :: vs, pre, h => by
    have hv := h v List.mem_cons_self
    have he : encs (v :: vs) = venc v.toNat ++ encs vs := rfl
    have h1 := vget_put pre (encs vs) v.toNat (by omega)
    have h2 := rdNums_more vs (pre ++ venc v.toNat) fun u hu => h u (List.mem_cons_of_mem _ hu)
    rw [List.append_assoc, List.length_append] at h2
    rw [List.length_cons, rdNums, he, h1]
    simp only [h2]
theorem bput_small {zs ds : List Int} (h : ds.length ≤ 1000000000000) : bput zs ds = zs ++ (venc ds.length ++ ds) := by
  unfold bput
  rw [vput_in (by omega) (by omega), Int.toNat_natCast, List.append_assoc]
theorem rdBytes_put {zs ds : List Int} (h : ds.length ≤ 1000000000000) : rdBytes (bput zs ds) (zs.length : Int) (ds.length : Int) = (ds, ((bput zs ds).length : Int), true) := by
  rw [bput_small h]
  have h1 := vget_put zs ds ds.length h
  have hlen : (zs ++ (venc ds.length ++ ds)).length = zs.length + (venc ds.length).length + ds.length := by simp [Nat.add_assoc]
  rw [rdBytes_good h1 (by rw [hlen]; omega), hlen, ← List.append_assoc, ← List.length_append, List.drop_left, List.take_length]
theorem rdBytes_short {zs ds : List Int} (h : ds.length ≤ 1000000000000) : rdBytes (bput zs ds) (zs.length : Int) ((ds.length : Int) - 1) = ([], 0, false) := by
  rw [bput_small h]
  exact rdBytes_bad (vget_put zs ds ds.length h) (by omega)
theorem encs_length (vs : List Int) (h : ∀ v ∈ vs, 0 ≤ v ∧ v ≤ 1000000000000) : (encs vs).length ≤ 6 * vs.length := by
  have h1 := vputs_encs vs [] h
  have h2 := vputs_length vs []
  rw [h1] at h2
  simpa using h2
theorem rdInts_put {vs : List Int} (h : ∀ v ∈ vs, 0 ≤ v ∧ v ≤ 1000000000000) (hl : vs.length ≤ 100) : rdInts (vputs [] vs) 0 (vs.length : Int) = (vs, ((vputs [] vs).length : Int), true) := by
  have h1 := rdNums_encs vs [] h
  rw [vputs_encs vs [] h]
  exact rdInts_some (a := 0) hl (Nat.zero_le _) h1
theorem rdInts_one_more {vs : List Int} (h : ∀ v ∈ vs, 0 ≤ v ∧ v ≤ 1000000000000) (hl : vs.length < 100) : rdInts (vputs [] vs) 0 ((vs.length : Int) + 1) = ([], 0, false) := by
  have h1 := rdNums_more vs [] h
  rw [vputs_encs vs [] h]
  exact rdInts_none (a := 0) (n := vs.length + 1) (by omega) (Nat.zero_le _) h1
end Go.Proofs.Ytekpopndjcdgiaa
