/- What FnConflicts asks, of lists. No walk. -/
import Derived.Test.YtgdficjihkglpadDoorConfsI
import Derived.Test.YtgdficjihkglpadDoorTogI
import Derived.Test.YtgdficjihkglpadDoorCntI
namespace Go.Proofs.YtgdficjihkglpadDoor
open Go.RowKit
set_option linter.unusedVariables false

theorem confs_at {ps : List Pth} (ha : arePs ps = true) {i : Nat} (hi : i < ps.length) : confsOf ps (idAt ps i) = idsM ps (rowSt ps ps.length 0 i) := confs_some ha (findK_of ha hi)
theorem confs_mem {ps : List Pth} (ha : arePs ps = true) {i : Nat} (hi : i < ps.length) {z : Int} (hz : z ∈ confsOf ps (idAt ps i)) : ∃ j, j < ps.length ∧ idAt ps j = z ∧ conf (pAt ps i) (pAt ps j) = true := by
  have h12 := arePs_len12 ha
  rw [confs_at ha hi, idsM_mem h12 (row_lt hi)] at hz
  obtain ⟨j, hb, e⟩ := hz
  have hj := bit_in (row_lt hi) hb
  rw [row_bit hi hj h12] at hb
  exact ⟨j, hj, e, hb⟩
/-- those that a path conflicts with. -/
theorem confs_all {ps : List Pth} {i : Nat} (hi : i < ps.length) {z : Int} (hz : z ∈ confsOf ps (idAt ps i)) : hasI (confsOf ps z) (idAt ps i) = true ∧ isTog ps [idAt ps i, z] = false ∧ 0 ≤ findI z ps := by
  cases ha : arePs ps
  · rw [confs_off ha] at hz; cases hz
  · have h12 := arePs_len12 ha
    obtain ⟨j, hj, rfl, hc⟩ := confs_mem ha hi hz
    refine ⟨?_, ?_, ?_⟩
    · rw [confs_at ha hj, has_ids ha (row_lt hj) hi, row_bit hj hi h12, conf_symm]
      exact hc
    · rw [Bool.eq_false_iff]
      intro ht
      obtain ⟨_, m, hm, e, hf, _⟩ := tog_stage ht
      have h1 : idAt ps i ∈ idsM ps m := by rw [← e]; simp
      have h2 : idAt ps j ∈ idsM ps m := by rw [← e]; simp
      obtain ⟨i', b1, e1⟩ := (idsM_mem h12 hm _).1 h1
      obtain ⟨j', b2, e2⟩ := (idsM_mem h12 hm _).1 h2
      have e3 := idAt_inj ha (bit_in hm b1) hi e1
      have e4 := idAt_inj ha (bit_in hm b2) hj e2
      subst e3
      subst e4
      rw [(free_iff hm h12).1 hf _ _ b1 b2] at hc
      cases hc
    · rw [findI_some (findK_of ha hj)]
      omega
/-- what a stage's path conflicts with is not in the stage. -/
theorem stage_free {ps : List Pth} {ids : List Int} (h : isTog ps ids = true) {a z : Int} (hm : a ∈ ids) (hz : z ∈ confsOf ps a) : hasI ids z = false := by
  obtain ⟨ha, m, hm4, rfl, hf, _⟩ := tog_stage h
  have h12 := arePs_len12 ha
  obtain ⟨i, b1, rfl⟩ := (idsM_mem h12 hm4 _).1 hm
  obtain ⟨j, hj, rfl, hc⟩ := confs_mem ha (bit_in hm4 b1) hz
  rw [has_ids ha hm4 hj, Bool.eq_false_iff]
  intro b2
  rw [(free_iff hm4 h12).1 hf _ _ b1 b2] at hc
  cases hc
/-- how many they are together, of the first k paths. -/
def sumC (ps : List Pth) (k : Nat) : Nat := sumTo (fun i => (confsOf ps (idAt ps i)).length) k
theorem sumTo_tail {f : Nat → Nat} {n : Nat} : ∀ d, (∀ k, n ≤ k → f k = 0) → sumTo f (n + d) = sumTo f n
  | 0, _ => rfl
  | d + 1, h => by
    show sumTo f (n + d) + f (n + d) = _
    rw [sumTo_tail d h, h _ (by omega), Nat.add_zero]
theorem row_out {ps : List Pth} {k : Nat} (hk : ps.length ≤ k) : rowSt ps ps.length 0 k = 0 := by
  apply mask_ext
  intro l
  rw [rowSt_bit, Nat.zero_testBit]
  unfold stB
  have h1 : ¬ k < ps.length := by omega
  by_cases h2 : l < k
  · rw [if_pos h2]; simp [h1]
  · rw [if_neg h2]
    split
    · have h3 : ¬ l < ps.length := by omega
      simp [h3]
    · simp
theorem sumC_all (ps : List Pth) : (sumC ps ps.length : Int) = 2 * countCs ps := by
  cases ha : arePs ps
  · have e : ∀ k, sumC ps k = 0 := by
      intro k
      induction k with
      | zero => rfl
      | succ k ih =>
        show sumC ps k + (confsOf ps (idAt ps k)).length = 0
        rw [ih, confs_off ha]
        rfl
    rw [e]
    unfold countCs
    rw [ha]
    rfl
  · have h12 := arePs_len12 ha
    have ht := tot_all h12 ps.length (Nat.le_refl _)
    have e1 : sumC ps ps.length = sumTo (fun k => popc (rowSt ps ps.length 0 k)) ps.length := sumTo_ext fun k hk => by
      rw [confs_at ha hk, idsM_bits, List.length_map]
      rfl
    have e2 : totSt ps ps.length 0 = sumTo (fun k => popc (rowSt ps ps.length 0 k)) ps.length := by
      unfold totSt
      have e : 12 = ps.length + (12 - ps.length) := by omega
      rw [e]
      exact sumTo_tail _ fun k hk => by rw [row_out hk]; exact popc_zero
    unfold countCs
    rw [ha, if_pos rfl, e1, ← e2, ht]
    simp
theorem sumC_succ (ps : List Pth) (k : Nat) : sumC ps (k + 1) = sumC ps k + (confsOf ps (idAt ps k)).length := rfl
theorem sumC_le (ps : List Pth) : ∀ k, sumC ps k ≤ k * ps.length
  | 0 => Nat.zero_le _
  | k + 1 => by
    have ih := sumC_le ps k
    have h := confs_len ps (idAt ps k)
    rw [sumC_succ, Nat.succ_mul]
    omega
theorem law_contains (A : Option Addr) (n c B : Nat) (zs : List Int) (x : Int) (w : World) (h : IntsAt .i64 w B A n zs) (hn : n ≤ 4294967296) :
    Calls Tryd.prog 30 #[.slice A n c, .int .i64 x] w fun e w' => e = .returned (.bool (hasI zs x)) ∧ w = w' := by
  have hl := h.1
  go_enter Tryd.func30, Tryd.ntmps30
  go_wp2
  go_loop [5] (fun i => ∃ k : Nat, k ≤ n ∧ i = .int .i64 k ∧ ∀ j, j < k → zs.getD j 0 ≠ x) (fun i => n - (intOf i).toNat)
  case atStart => exact ⟨0, Nat.zero_le _, rfl, fun j hj => absurd hj (by omega)⟩
  case round =>
    obtain ⟨k, hk, rfl, hno⟩ := hrel
    by_cases hlt : k < n
    · obtain ⟨ad, rfl, hab, hcell⟩ := h.2 (by omega)
      have hc := hcell k hlt
      have HN := Lib.hid hno
      clear hno hcell
      by_cases he : zs.getD k 0 = x
      · have HR : Hid (hasI zs x = true) := Lib.hid (hasI_yes (by omega) he)
        rw [he] at hc
        clear he
        go_wp2
        go_ret
        exact ⟨by rw [HR.out]; rfl, rfl⟩
      · have HS : Hid (∀ j, j < k + 1 → zs.getD j 0 ≠ x) := Lib.hid (fun j hj => by
          by_cases e : j = k
          · subst e; exact he
          · exact HN.out j (by omega))
        generalize zs.getD k 0 = z at *
        have e1 : (z == x) = false := by simpa using he
        clear he
        go_wp2
        go_round
        case rel => exact ⟨k + 1, by omega, by go_num, HS.out⟩
        case measure => simp [intOf]; omega
    · obtain rfl : k = n := by omega
      have HR : Hid (hasI zs x = false) := Lib.hid (hasI_no (fun i hi => hno i (by omega)))
      clear hno
      go_wp2
      go_ret
      exact ⟨by rw [HR.out]; rfl, rfl⟩
end Go.Proofs.YtgdficjihkglpadDoor
