/- Plain mathematics of decimal forms: no program is named here. -/
import Derived.WalkKit
namespace Go.Proofs.YteilcbmpmeggcaaDoor
open Go.RowKit

/-- the digits of a number, none for 0. -/
def digs (n : Nat) : List UInt8 := if n = 0 then [] else digs (n / 10) ++ [UInt8.ofNat (48 + n % 10)]
termination_by n
decreasing_by omega
/-- the decimal form of an integer. -/
def fmtI (n : Int) : List UInt8 := if n = 0 then [48] else if n < 0 then 45 :: digs n.natAbs else digs n.natAbs
/-- is it a digit. -/
def isDig (c : UInt8) : Bool := 48 ≤ c && c ≤ 57
/-- the number that digits spell. -/
def val (l : List UInt8) : Nat := l.foldl (fun a c => 10 * a + (c.toNat - 48)) 0

theorem digs_zero : digs 0 = [] := by rw [digs, if_pos rfl]
theorem digs_pos {n : Nat} (h : n ≠ 0) : digs n = digs (n / 10) ++ [UInt8.ofNat (48 + n % 10)] := by rw [digs, if_neg h]
theorem val_nil : val [] = 0 := rfl
theorem val_snoc (l : List UInt8) (c : UInt8) : val (l ++ [c]) = 10 * val l + (c.toNat - 48) := by simp [val, List.foldl_append]
theorem isDig_iff (c : UInt8) : isDig c = true ↔ 48 ≤ c.toNat ∧ c.toNat ≤ 57 := by simp [isDig, UInt8.le_iff_toNat_le]
theorem toNat_ofNat48 (d : Nat) (h : d < 10) : (UInt8.ofNat (48 + d)).toNat = 48 + d := by simp [UInt8.toNat_ofNat']; omega

theorem snoc_ind {α : Type} {p : List α → Prop} (h0 : p []) (h1 : ∀ l a, p l → p (l ++ [a])) (l : List α) : p l := by
  have h : ∀ m : List α, p m.reverse := by
    intro m
    induction m with
    | nil => simpa using h0
    | cons a m ih => simpa using h1 _ a ih
  simpa using h l.reverse

theorem digs_facts (n : Nat) : (∀ c ∈ digs n, isDig c = true) ∧ val (digs n) = n ∧ (n ≠ 0 → (digs n).head? ≠ some 48) := by
  induction n using Nat.strongRecOn with
  | _ n ih =>
    by_cases h : n = 0
    · subst h; rw [digs_zero]; simp [val_nil]
    · obtain ⟨h1, h2, h3⟩ := ih (n / 10) (by omega)
      rw [digs_pos h]
      refine ⟨fun c hc => ?_, ?_, fun _ => ?_⟩
      · rcases List.mem_append.1 hc with hc | hc
        · exact h1 c hc
        · simp only [List.mem_singleton] at hc
          subst hc
          rw [isDig_iff, toNat_ofNat48 _ (by omega)]
          omega
      · rw [val_snoc, h2, toNat_ofNat48 _ (by omega)]
        omega
      · by_cases h0 : n / 10 = 0
        · rw [h0, digs_zero]
          simp only [List.nil_append, List.head?_cons, ne_eq, Option.some.injEq]
          intro e
          have := congrArg UInt8.toNat e
          rw [toNat_ofNat48 _ (by omega)] at this
          have e48 : (48 : UInt8).toNat = 48 := rfl
          omega
        · have := h3 h0
          rw [List.head?_append]
          cases hd : (digs (n / 10)).head? with
          | none =>
            rw [List.head?_eq_none_iff] at hd
            rw [digs_pos h0] at hd
            simp at hd
          | some c => rw [hd] at this; simpa using this

theorem digs_val (l : List UInt8) : (∀ c ∈ l, isDig c = true) → l ≠ [] → l.head? ≠ some 48 → digs (val l) = l ∧ val l ≠ 0 := by
  induction l using snoc_ind with
  | h0 => intro _ h; exact absurd rfl h
  | h1 l c ih =>
    intro hd _ hh
    have hc : 48 ≤ c.toNat ∧ c.toNat ≤ 57 := (isDig_iff c).1 (hd c (by simp))
    rw [val_snoc]
    by_cases h0 : l = []
    · subst h0
      have hne : c.toNat ≠ 48 := by
        intro e
        apply hh
        have : c = 48 := UInt8.toNat_inj.1 e
        simp [this]
      rw [val_nil, digs_pos (by omega), show (10 * 0 + (c.toNat - 48)) / 10 = 0 from by omega, digs_zero]
      refine ⟨?_, by omega⟩
      simp only [List.nil_append, List.cons.injEq, and_true]
      apply UInt8.toNat_inj.1
      rw [toNat_ofNat48 _ (by omega)]
      omega
    · have hl : l.head? ≠ some 48 := by
        intro e
        apply hh
        rw [List.head?_append, e]
        rfl
      obtain ⟨h1, h2⟩ := ih (fun x hx => hd x (by simp [hx])) h0 hl
      refine ⟨?_, by omega⟩
      rw [digs_pos (by omega), show (10 * val l + (c.toNat - 48)) / 10 = val l from by omega, h1]
      congr 1
      simp only [List.cons.injEq, and_true]
      apply UInt8.toNat_inj.1
      rw [toNat_ofNat48 _ (by omega)]
      omega

theorem digs_length (k : Nat) : ∀ n, n < 10 ^ k → (digs n).length ≤ k := by
  induction k with
  | zero => intro n h; have : n = 0 := by simpa using h
            subst this; rw [digs_zero]; simp
  | succ k ih =>
    intro n h
    by_cases h0 : n = 0
    · subst h0; rw [digs_zero]; simp
    · rw [digs_pos h0, List.length_append, List.length_singleton]
      have := ih (n / 10) (by rw [Nat.pow_succ] at h; omega)
      omega

theorem val_le_take (l : List UInt8) : ∀ k, val (l.take k) ≤ val l := by
  induction l using snoc_ind with
  | h0 => intro k; simp [val_nil]
  | h1 l c ih =>
    intro k
    by_cases hk : k ≤ l.length
    · rw [List.take_append_of_le_length hk, val_snoc]
      have := ih k
      omega
    · rw [List.take_of_length_le (by simp; omega)]
      exact Nat.le_refl _

theorem val_lt (l : List UInt8) : (∀ c ∈ l, isDig c = true) → val l < 10 ^ l.length := by
  induction l using snoc_ind with
  | h0 => simp [val_nil]
  | h1 l c ih =>
    intro hd
    have h1 := ih (fun x hx => hd x (by simp [hx]))
    have hc : 48 ≤ c.toNat ∧ c.toNat ≤ 57 := (isDig_iff c).1 (hd c (by simp))
    rw [val_snoc, List.length_append, List.length_singleton, Nat.pow_succ]
    omega

/-- is it the decimal form of an integer from 0 to the greatest value. -/
def canon (l : List UInt8) : Bool := !l.isEmpty && l.all isDig && (l.head? != some 48 || l == [48]) && decide (val l ≤ 1000000000000)

theorem canon_iff (l : List UInt8) : canon l = true ↔ (1 ≤ l.length ∧ l.length ≤ 13) ∧ (∀ c ∈ l, isDig c = true) ∧ val l ≤ 1000000000000 ∧ fmtI (val l) = l := by
  constructor
  · intro h
    simp only [canon, Bool.and_eq_true, Bool.not_eq_true', List.isEmpty_eq_false_iff, List.all_eq_true, Bool.or_eq_true, bne_iff_ne, ne_eq, beq_iff_eq, decide_eq_true_eq] at h
    obtain ⟨⟨⟨h1, h2⟩, h3⟩, h4⟩ := h
    have hl : 1 ≤ l.length := List.length_pos_iff.2 h1
    rcases h3 with h3 | h3
    · obtain ⟨h5, h6⟩ := digs_val l h2 h1 h3
      refine ⟨⟨hl, ?_⟩, h2, h4, ?_⟩
      · have := digs_length 13 (val l) (by omega)
        rw [h5] at this
        exact this
      · unfold fmtI
        rw [if_neg (by omega), if_neg (by omega)]
        simpa using h5
    · subst h3
      exact ⟨⟨by decide, by decide⟩, by decide, by decide, rfl⟩
  · rintro ⟨⟨h1, h2⟩, h3, h4, h5⟩
    have hne : l ≠ [] := by intro e; subst e; simp at h1
    simp only [canon, Bool.and_eq_true, Bool.not_eq_true', List.isEmpty_eq_false_iff, List.all_eq_true, Bool.or_eq_true, bne_iff_ne, ne_eq, beq_iff_eq, decide_eq_true_eq]
    refine ⟨⟨⟨hne, h3⟩, ?_⟩, h4⟩
    by_cases h0 : val l = 0
    · right
      rw [h0] at h5
      exact h5.symm
    · left
      have := (digs_facts (val l)).2.2 h0
      have e : fmtI (val l) = digs (val l) := by
        unfold fmtI
        rw [if_neg (by omega), if_neg (by omega)]
        simp
      rw [← e, h5] at this
      exact this

theorem digs_length_pos {n : Nat} (h : n ≠ 0) : 1 ≤ (digs n).length := by rw [digs_pos h]; simp
theorem fmtI_length (n : Int) (h : n.natAbs < 10 ^ 19) : (fmtI n).length ≤ 20 := by
  unfold fmtI
  have := digs_length 19 n.natAbs h
  split
  · simp
  · split
    · simp; omega
    · omega
theorem canon_fmt_yes (m : Int) (h0 : 0 ≤ m) (h1 : m ≤ 1000000000000) : canon (fmtI m) = true ∧ (val (fmtI m) : Int) = m := by
  by_cases hz : m = 0
  · subst hz; exact ⟨rfl, rfl⟩
  · have e : fmtI m = digs m.natAbs := by unfold fmtI; rw [if_neg hz, if_neg (by omega)]
    obtain ⟨f1, f2, f3⟩ := digs_facts m.natAbs
    have hv : (val (fmtI m) : Int) = m := by rw [e, f2]; omega
    refine ⟨?_, hv⟩
    rw [canon_iff, hv]
    have hl := digs_length 13 m.natAbs (by omega)
    have hp := digs_length_pos (n := m.natAbs) (by omega)
    exact ⟨by rw [e]; omega, by rw [e]; exact f1, by omega, rfl⟩
theorem canon_fmt_no (m : Int) (h : m < 0 ∨ 1000000000000 < m) : canon (fmtI m) = false := by
  cases hc : canon (fmtI m)
  · rfl
  · obtain ⟨_, h2, h3, _⟩ := (canon_iff _).1 hc
    rcases h with h | h
    · have e : fmtI m = 45 :: digs m.natAbs := by unfold fmtI; rw [if_neg (by omega), if_pos h]
      have := h2 45 (by rw [e]; simp)
      revert this
      decide
    · have e : fmtI m = digs m.natAbs := by unfold fmtI; rw [if_neg (by omega), if_neg (by omega)]
      have f2 := (digs_facts m.natAbs).2.1
      rw [e, f2] at h3
      omega
end Go.Proofs.YteilcbmpmeggcaaDoor
