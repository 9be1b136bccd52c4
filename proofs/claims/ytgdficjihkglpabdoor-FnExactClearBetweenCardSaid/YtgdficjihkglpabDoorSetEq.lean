/- Sets of paths as masks: conflicts, stages that are added to, full ones, covers. No walk. -/
import Derived.Test.YtgdficjihkglpabDoorTogEq
import Derived.Test.YtgdficjihkglpabDoorSS
namespace Go.Proofs.YtgdficjihkglpabDoor
open Go.RowKit
set_option linter.unusedVariables false

theorem inter_iff (a b c d : Int) : inter a b c d = true ↔ (a ≠ b ∧ a ≠ c ∧ a ≠ d ∧ b ≠ c ∧ b ≠ d ∧ c ≠ d) ∧ (0 ≤ a ∧ a ≤ 7) ∧ (0 ≤ b ∧ b ≤ 7) ∧ (0 ≤ c ∧ c ≤ 7) ∧ (0 ≤ d ∧ d ≤ 7) ∧ ¬ ((c - a) % 8 < (b - a) % 8 ↔ (d - a) % 8 < (b - a) % 8) := by
  unfold inter inB betw
  simp only [Bool.and_eq_true, decide_eq_true_eq, bne_iff_ne, ne_eq, decide_eq_decide, and_assoc]
theorem inter_swap (a b c d : Int) : inter a b c d = inter c d a b := by
  rw [Bool.eq_iff_iff, inter_iff, inter_iff]
  constructor
  all_goals
    rintro ⟨⟨h1, h2, h3, h4, h5, h6⟩, ⟨a1, a2⟩, ⟨b1, b2⟩, ⟨c1, c2⟩, ⟨d1, d2⟩, h⟩
    refine ⟨⟨by omega, by omega, by omega, by omega, by omega, by omega⟩, ⟨by omega, by omega⟩, ⟨by omega, by omega⟩, ⟨by omega, by omega⟩, ⟨by omega, by omega⟩, by omega⟩
theorem conf_self (a : Pth) : conf a a = false := by
  unfold conf
  by_cases h : a.kind = 2 <;> simp [h]
theorem conf_symm (a b : Pth) : conf a b = conf b a := by
  unfold conf
  cases isP a <;> cases isP b <;> simp only [Bool.false_and, Bool.true_and, Bool.and_false] <;> try rfl
  rw [Bool.and_comm (decide (a.kind = 2))]
  by_cases ha : a.kind = 2 <;> by_cases hb : b.kind = 2 <;> simp only [ha, hb, decide_true, decide_false, Bool.and_true, Bool.and_false, Bool.not_true, Bool.not_false, if_true, if_false] <;> try rfl
  by_cases hf : a.frm = b.frm
  · rw [if_pos hf, if_pos hf.symm]
  · have hf' : ¬ b.frm = a.frm := fun e => hf e.symm
    by_cases ht : a.to = b.to
    · rw [if_neg hf, if_neg hf', if_pos ht, if_pos ht.symm]
    · have ht' : ¬ b.to = a.to := fun e => ht e.symm
      rw [if_neg hf, if_neg hf', if_neg ht, if_neg ht', inter_swap]
theorem asc_eq {α : Type} (r : α → α → Prop) (hi : ∀ x, ¬ r x x) (has : ∀ x y, r x y → ¬ r y x) : ∀ {a b : List α}, a.Pairwise r → b.Pairwise r → (∀ x, x ∈ a ↔ x ∈ b) → a = b
  | [], [], _, _, _ => rfl
  | [], y :: b, _, _, h => absurd ((h y).2 List.mem_cons_self) (by simp)
  | x :: a, [], _, _, h => absurd ((h x).1 List.mem_cons_self) (by simp)
  | x :: a, y :: b, ha, hb, h => by
    obtain ⟨ha1, ha2⟩ := List.pairwise_cons.1 ha
    obtain ⟨hb1, hb2⟩ := List.pairwise_cons.1 hb
    have hxy : x = y := by
      rcases List.mem_cons.1 ((h x).1 List.mem_cons_self) with e | e
      · exact e
      · rcases List.mem_cons.1 ((h y).2 List.mem_cons_self) with e2 | e2
        · exact e2.symm
        · exact absurd (hb1 x e) (has _ _ (ha1 y e2))
    subst hxy
    congr 1
    refine asc_eq r hi has ha2 hb2 fun z => ⟨fun hz => ?_, fun hz => ?_⟩
    · rcases List.mem_cons.1 ((h z).1 (List.mem_cons_of_mem _ hz)) with e | e
      · subst e; exact absurd (ha1 z hz) (hi z)
      · exact e
    · rcases List.mem_cons.1 ((h z).2 (List.mem_cons_of_mem _ hz)) with e | e
      · subst e; exact absurd (hb1 z hz) (hi z)
      · exact e
theorem asc_nat {a b : List Nat} : a.Pairwise (· < ·) → b.Pairwise (· < ·) → (∀ x, x ∈ a ↔ x ∈ b) → a = b := asc_eq _ (fun x => Nat.lt_irrefl x) (fun x y h => Nat.lt_asymm h)
theorem asc_int {a b : List Int} : a.Pairwise (· < ·) → b.Pairwise (· < ·) → (∀ x, x ∈ a ↔ x ∈ b) → a = b := asc_eq _ (fun x => Int.lt_irrefl x) (fun x y h => by omega)
/-- the Ids of a set. -/
def idsM (ps : List Pth) (m : Nat) : List Int := (idxs m).map fun i => idAt ps i.val
theorem idsM_bits (ps : List Pth) (m : Nat) : idsM ps m = (bitsOf m).map (idAt ps) := by
  unfold idsM
  rw [← idxs_val, List.map_map]
  rfl
theorem bits_asc (m : Nat) : (bitsOf m).Pairwise (· < ·) := List.Pairwise.filter _ List.pairwise_lt_range
theorem bits_maskJ {js : List Nat} (hp : js.Pairwise (· < ·)) (h : ∀ j ∈ js, j < 12) : bitsOf (maskJ 0 js) = js := asc_nat (bits_asc _) hp fun x => by
  rw [bitsOf_mem, maskJ_bit]
  simp
  exact h x
theorem bit_ge {m n j : Nat} (h : m < 2 ^ n) (hj : n ≤ j) : m.testBit j = false := Nat.testBit_lt_two_pow (Nat.lt_of_lt_of_le h (Nat.pow_le_pow_right (by decide) hj))
theorem bit_in {m n j : Nat} (h : m < 2 ^ n) (hj : m.testBit j = true) : j < n := by
  rcases Nat.lt_or_ge j n with h1 | h1
  · exact h1
  · rw [bit_ge h h1] at hj; cases hj
theorem maskJ_bits (q m : Nat) (h : m < 4096) : maskJ q (bitsOf m) = q ||| m := mask_ext fun j => by
  rw [maskJ_bit, Nat.testBit_or]
  congr 1
  rw [Bool.eq_iff_iff, decide_eq_true_eq, bitsOf_mem]
  exact ⟨fun h => h.2, fun hb => ⟨bit_in (n := 12) h hb, hb⟩⟩
theorem pow_le12 {n : Nat} (h : n ≤ 12) : 2 ^ n ≤ 4096 := Nat.pow_le_pow_right (n := 2) (by decide) h
theorem goI_ids {ps : List Pth} (ha : arePs ps = true) {m : Nat} (hm : m < 2 ^ ps.length) : goI ps 0 (idsM ps m) = some m := by
  have h12 := pow_le12 (arePs_len12 ha)
  rw [idsM_bits, goI_of ha (bits_asc m) (fun j hj => ⟨bit_in hm (bitsOf_mem.1 hj).2, Nat.two_pow_pos j⟩), maskJ_bits 0 m (by omega), Nat.zero_or]
/-- no two of these conflict. -/
def freeM (ps : List Pth) (m : Nat) : Prop := agL (rowSt ps ps.length 0) (idxs m) &&& m = 0
theorem tog_mask {ps : List Pth} (ha : arePs ps = true) {m : Nat} (hm : m < 2 ^ ps.length) : isTog ps (idsM ps m) = true ↔ freeM ps m := by
  rw [← togI_eq]
  unfold togI stI freeM
  rw [ha, Bool.true_and, goI_ids ha hm]
  simp only
  by_cases h : agL (rowSt ps ps.length 0) (idxs m) &&& m = 0
  · rw [if_pos h]; simp [h]
  · rw [if_neg h]; simp [h]
theorem st_mask {ps : List Pth} (ha : arePs ps = true) {m : Nat} (hm : m < 2 ^ ps.length) (hf : freeM ps m) : stI ps (rowSt ps ps.length 0) (idsM ps m) = some m := stI_good (goI_ids ha hm) hf
/-- a stage is a set of which no two conflict. -/
theorem tog_stage {ps : List Pth} {ids : List Int} (h : isTog ps ids = true) : arePs ps = true ∧ ∃ m, m < 2 ^ ps.length ∧ ids = idsM ps m ∧ freeM ps m ∧ stI ps (rowSt ps ps.length 0) ids = some m := by
  have ha : arePs ps = true := by
    unfold isTog at h
    rw [Bool.and_eq_true] at h
    exact h.2
  have h12 := arePs_len12 ha
  obtain ⟨js, rfl, hp, hj, hf⟩ := (tog_js ha ids).1 h
  have hm : maskJ 0 js < 2 ^ ps.length := mask_lt fun j hjn => by
    rw [maskJ_bit, Nat.zero_testBit, Bool.false_or, decide_eq_false_iff_not]
    intro hjm
    have := hj j hjm
    omega
  have e : js.map (idAt ps) = idsM ps (maskJ 0 js) := by rw [idsM_bits, bits_maskJ hp fun j hjm => by have := hj j hjm; omega]
  have hfm : freeM ps (maskJ 0 js) := (free_mask h12 hj).2 hf
  exact ⟨ha, _, hm, e, hfm, by rw [e]; exact st_mask ha hm hfm⟩
theorem row_bit {ps : List Pth} {a b : Nat} (ha : a < ps.length) (hb : b < ps.length) (h12 : ps.length ≤ 12) : (rowSt ps ps.length 0 a).testBit b = conf (pAt ps a) (pAt ps b) := by
  rw [Bool.eq_iff_iff, row_n ha hb h12, confAt_p ha hb, confAt_p hb ha]
  constructor
  · rintro (⟨_, h⟩ | ⟨_, h⟩)
    · exact h
    · rw [conf_symm]; exact h
  · intro h
    rcases Nat.lt_trichotomy a b with h1 | h1 | h1
    · exact .inr ⟨h1, by rw [conf_symm]; exact h⟩
    · subst h1; rw [conf_self] at h; cases h
    · exact .inl ⟨h1, h⟩
theorem row_ge {ps : List Pth} {a b : Nat} (ha : a < ps.length) (hb : ps.length ≤ b) : (rowSt ps ps.length 0 a).testBit b = false := by
  rw [rowSt_bit]
  unfold stB
  have h1 : ¬ b < a := by omega
  have h2 : ¬ b < ps.length := by omega
  rw [if_neg h1]
  split
  · simp [h2]
  · simp
theorem row_lt {ps : List Pth} {a : Nat} (ha : a < ps.length) : rowSt ps ps.length 0 a < 2 ^ ps.length := mask_lt fun j hj => row_ge ha hj
theorem ag_bit {ps : List Pth} {m k : Nat} (hm : m < 2 ^ ps.length) (h12 : ps.length ≤ 12) (hk : k < ps.length) : (agL (rowSt ps ps.length 0) (idxs m)).testBit k = true ↔ ∃ a, m.testBit a = true ∧ conf (pAt ps a) (pAt ps k) = true := by
  rw [agL_bit]
  constructor
  · rintro ⟨⟨a, ha⟩, h1, h2⟩
    have h1 := idxs_mem.1 h1
    exact ⟨a, h1, by rw [← row_bit (bit_in hm h1) hk h12]; exact h2⟩
  · rintro ⟨a, h1, h2⟩
    have han := bit_in hm h1
    exact ⟨⟨a, by omega⟩, idxs_mem.2 h1, by rw [row_bit han hk h12]; exact h2⟩
theorem ag_lt {ps : List Pth} {m : Nat} (hm : m < 2 ^ ps.length) : agL (rowSt ps ps.length 0) (idxs m) < 2 ^ ps.length := mask_lt fun j hj => by
  rw [Bool.eq_false_iff]
  intro h
  obtain ⟨⟨a, ha⟩, h1, h2⟩ := (agL_bit _ _ _).1 h
  rw [row_ge (bit_in hm (idxs_mem.1 h1)) hj] at h2
  cases h2
theorem free_iff {ps : List Pth} {m : Nat} (hm : m < 2 ^ ps.length) (h12 : ps.length ≤ 12) : freeM ps m ↔ ∀ a b, m.testBit a = true → m.testBit b = true → conf (pAt ps a) (pAt ps b) = false := by
  unfold freeM
  rw [and_zero]
  constructor
  · intro h a b ha hb
    rw [Bool.eq_false_iff]
    intro hc
    exact h b ⟨(ag_bit hm h12 (bit_in hm hb)).2 ⟨a, ha, hc⟩, hb⟩
  · rintro h b ⟨h1, h2⟩
    obtain ⟨a, ha, hc⟩ := (ag_bit hm h12 (bit_in hm h2)).1 h1
    rw [h a b ha h2] at hc
    cases hc
theorem row_zero {ps : List Pth} {m k : Nat} (hm : m < 2 ^ ps.length) (h12 : ps.length ≤ 12) (hk : k < ps.length) : rowSt ps ps.length 0 k &&& m = 0 ↔ ∀ b, m.testBit b = true → conf (pAt ps k) (pAt ps b) = false := by
  rw [and_zero]
  constructor
  · intro h b hb
    rw [Bool.eq_false_iff]
    intro hc
    exact h b ⟨by rw [row_bit hk (bit_in hm hb) h12]; exact hc, hb⟩
  · rintro h b ⟨h1, h2⟩
    rw [row_bit hk (bit_in hm h2) h12, h b h2] at h1
    cases h1
theorem bit_put (m k b : Nat) : (m ||| 2 ^ k).testBit b = true ↔ m.testBit b = true ∨ b = k := by
  rw [Nat.testBit_or, Nat.testBit_two_pow, Bool.or_eq_true, decide_eq_true_eq]
  exact or_congr Iff.rfl ⟨fun h => h.symm, fun h => h.symm⟩
theorem put_lt {m n k : Nat} (hm : m < 2 ^ n) (hk : k < n) : m ||| 2 ^ k < 2 ^ n := Nat.or_lt_two_pow hm (Nat.pow_lt_pow_right (by decide) hk)
theorem free_put {ps : List Pth} {m k : Nat} (hm : m < 2 ^ ps.length) (h12 : ps.length ≤ 12) (hk : k < ps.length) (hf : freeM ps m) : freeM ps (m ||| 2 ^ k) ↔ rowSt ps ps.length 0 k &&& m = 0 := by
  rw [free_iff (put_lt hm hk) h12, row_zero hm h12 hk]
  have hf := (free_iff hm h12).1 hf
  constructor
  · exact fun h b hb => h k b ((bit_put m k k).2 (.inr rfl)) ((bit_put m k b).2 (.inl hb))
  · intro h a b ha hb
    rcases (bit_put m k a).1 ha with h1 | rfl
    · rcases (bit_put m k b).1 hb with h2 | rfl
      · exact hf a b h1 h2
      · rw [conf_symm]; exact h a h1
    · rcases (bit_put m a b).1 hb with h2 | rfl
      · exact h b h2
      · exact conf_self _
theorem free_one {ps : List Pth} (h12 : ps.length ≤ 12) {k : Nat} (hk : k < ps.length) : freeM ps (2 ^ k) := by
  rw [free_iff (Nat.pow_lt_pow_right (by decide) hk) h12]
  intro a b ha hb
  rw [Nat.testBit_two_pow, decide_eq_true_eq] at ha hb
  subst ha
  subst hb
  exact conf_self _
theorem putI_nil (n : Int) : putI [] n = [n] := by simp [putI, lowN]
theorem putI_cons (z : Int) (zs : List Int) (n : Int) : putI (z :: zs) n = if z < n then z :: putI zs n else if z = n then z :: zs else n :: z :: zs := by
  unfold putI lowN
  by_cases h : z < n
  · rw [if_pos h, List.takeWhile_cons_of_pos (by simpa using h)]
    simp only [List.length_cons, List.getElem?_cons_succ, List.take_succ_cons, List.drop_succ_cons, List.cons_append]
    split <;> rfl
  · rw [if_neg h, List.takeWhile_cons_of_neg (by simpa using h)]
    simp only [List.length_nil, List.getElem?_cons_zero, List.take_zero, List.drop_zero, List.nil_append, Option.some.injEq]
theorem put_mem (n : Int) : ∀ (zs : List Int) (x : Int), x ∈ putI zs n ↔ x ∈ zs ∨ x = n
  | [], x => by rw [putI_nil]; simp
  | z :: zs, x => by
    rw [putI_cons]
    split
    · rw [List.mem_cons, put_mem n zs x, List.mem_cons, or_assoc]
    · split
      · rename_i h
        subst h
        simp only [List.mem_cons]
        constructor
        · exact fun h => .inl h
        · rintro (h | h)
          · exact h
          · exact .inl h
      · simp only [List.mem_cons]
        constructor
        · rintro (h | h | h)
          · exact .inr h
          · exact .inl (.inl h)
          · exact .inl (.inr h)
        · rintro ((h | h) | h)
          · exact .inr (.inl h)
          · exact .inr (.inr h)
          · exact .inl h
theorem put_asc (n : Int) : ∀ {zs : List Int}, zs.Pairwise (· < ·) → (putI zs n).Pairwise (· < ·)
  | [], _ => by rw [putI_nil]; simp
  | z :: zs, h => by
    obtain ⟨h1, h2⟩ := List.pairwise_cons.1 h
    rw [putI_cons]
    split
    · rename_i hlt
      refine List.pairwise_cons.2 ⟨fun y hy => ?_, put_asc n h2⟩
      rcases (put_mem n zs y).1 hy with h3 | rfl
      · exact h1 y h3
      · exact hlt
    · split
      · exact h
      · refine List.pairwise_cons.2 ⟨fun y hy => ?_, h⟩
        rcases List.mem_cons.1 hy with rfl | h3
        · omega
        · have := h1 y h3; omega
theorem idsM_asc {ps : List Pth} (ha : arePs ps = true) {m : Nat} (hm : m < 2 ^ ps.length) : (idsM ps m).Pairwise (· < ·) := by
  rw [idsM_bits, List.pairwise_map]
  exact (bits_asc m).imp_of_mem fun h1 h2 h => (idAt_lt ha (bit_in hm (bitsOf_mem.1 h1).2) (bit_in hm (bitsOf_mem.1 h2).2)).2 h
theorem idsM_mem {ps : List Pth} (h12 : ps.length ≤ 12) {m : Nat} (hm : m < 2 ^ ps.length) (x : Int) : x ∈ idsM ps m ↔ ∃ j, m.testBit j = true ∧ idAt ps j = x := by
  rw [idsM_bits, List.mem_map]
  constructor
  · rintro ⟨j, h1, h2⟩; exact ⟨j, (bitsOf_mem.1 h1).2, h2⟩
  · rintro ⟨j, h1, h2⟩; exact ⟨j, bitsOf_mem.2 ⟨by have := bit_in hm h1; omega, h1⟩, h2⟩
theorem idAt_inj {ps : List Pth} (ha : arePs ps = true) {i j : Nat} (hi : i < ps.length) (hj : j < ps.length) (h : idAt ps i = idAt ps j) : i = j := by
  rcases Nat.lt_trichotomy i j with h1 | h1 | h1
  · have := (idAt_lt ha hi hj).2 h1; omega
  · exact h1
  · have := (idAt_lt ha hj hi).2 h1; omega
theorem put_ids {ps : List Pth} (ha : arePs ps = true) {m k : Nat} (hm : m < 2 ^ ps.length) (hk : k < ps.length) : putI (idsM ps m) (idAt ps k) = idsM ps (m ||| 2 ^ k) := by
  have h12 := arePs_len12 ha
  refine asc_int (put_asc _ (idsM_asc ha hm)) (idsM_asc ha (put_lt hm hk)) fun x => ?_
  rw [put_mem, idsM_mem h12 hm, idsM_mem h12 (put_lt hm hk)]
  constructor
  · rintro (⟨j, h1, h2⟩ | rfl)
    · exact ⟨j, (bit_put m k j).2 (.inl h1), h2⟩
    · exact ⟨k, (bit_put m k k).2 (.inr rfl), rfl⟩
  · rintro ⟨j, h1, h2⟩
    rcases (bit_put m k j).1 h1 with h3 | rfl
    · exact .inl ⟨j, h3, h2⟩
    · exact .inr h2.symm
theorem has_ids {ps : List Pth} (ha : arePs ps = true) {m k : Nat} (hm : m < 2 ^ ps.length) (hk : k < ps.length) : hasI (idsM ps m) (idAt ps k) = m.testBit k := by
  have h12 := arePs_len12 ha
  unfold hasI
  rw [Bool.eq_iff_iff, List.contains_iff_mem, idsM_mem h12 hm]
  constructor
  · rintro ⟨j, h1, h2⟩
    rw [← idAt_inj ha (bit_in hm h1) hk h2]
    exact h1
  · exact fun h => ⟨k, h, rfl⟩
theorem ids_one {ps : List Pth} (ha : arePs ps = true) {k : Nat} (hk : k < ps.length) : idsM ps (2 ^ k) = [idAt ps k] := by
  have h := put_ids ha (m := 0) (Nat.two_pow_pos _) hk
  rw [Nat.zero_or] at h
  rw [← h]
  have : idsM ps 0 = [] := by unfold idsM; rw [idxs_zero]; rfl
  rw [this, putI_nil]
theorem ps_map (ps : List Pth) : (List.range ps.length).map (pAt ps) = ps := by
  apply List.ext_getElem?
  intro i
  by_cases h : i < ps.length
  · rw [List.getElem?_map, List.getElem?_range h, List.getElem?_eq_getElem h]
    simp [pAt, List.getD_eq_getElem?_getD, h]
  · rw [List.getElem?_eq_none (by simp; omega), List.getElem?_eq_none (by omega)]
/-- the Ids of a row. -/
theorem confs_mask {ps : List Pth} (ha : arePs ps = true) {k : Nat} (hk : k < ps.length) : idsM ps (rowSt ps ps.length 0 k) = confTo ps k ps.length := by
  have h12 := arePs_len12 ha
  have e : bitsOf (rowSt ps ps.length 0 k) = (List.range ps.length).filter (fun j => conf (pAt ps j) (pAt ps k)) := by
    refine asc_nat (bits_asc _) (List.Pairwise.filter _ List.pairwise_lt_range) fun x => ?_
    rw [bitsOf_mem, List.mem_filter, List.mem_range]
    constructor
    · rintro ⟨h1, h2⟩
      have hx := bit_in (row_lt hk) h2
      exact ⟨hx, by rw [conf_symm, ← row_bit hk hx h12]; exact h2⟩
    · rintro ⟨h1, h2⟩
      exact ⟨by omega, by rw [row_bit hk h1 h12, conf_symm]; exact h2⟩
  rw [idsM_bits, e]
  unfold confTo
  rw [List.take_length]
  have e2 : ps.filter (fun q => conf q (pAt ps k)) = ((List.range ps.length).filter (fun j => conf (pAt ps j) (pAt ps k))).map (pAt ps) := by
    conv => lhs; rw [← ps_map ps]
    rw [List.filter_map, ps_map]
    rfl
  rw [e2, List.map_map]
  rfl
/-- paths added one by one. -/
def fillTo (f : Nat → Nat) (m : Nat) : Nat → Nat
  | 0 => m
  | k + 1 => if f k &&& fillTo f m k = 0 then fillTo f m k ||| 2 ^ k else fillTo f m k
theorem add_fill {ps : List Pth} (ha : arePs ps = true) {m : Nat} (hm : m < 2 ^ ps.length) (hf : freeM ps m) : ∀ k, k ≤ ps.length →
    addTo ps (idsM ps m) k = idsM ps (fillTo (rowSt ps ps.length 0) m k) ∧ fillTo (rowSt ps ps.length 0) m k < 2 ^ ps.length ∧ freeM ps (fillTo (rowSt ps ps.length 0) m k)
  | 0, _ => ⟨rfl, hm, hf⟩
  | k + 1, hk => by
    have h12 := arePs_len12 ha
    obtain ⟨h1, h2, h3⟩ := add_fill ha hm hf k (by omega)
    unfold addTo fillTo
    rw [h1]
    generalize fillTo (rowSt ps ps.length 0) m k = s at *
    rw [show (pAt ps k).id = idAt ps k from rfl, put_ids ha h2 (by omega)]
    have ht := tog_mask ha (put_lt h2 (show k < ps.length by omega))
    have hp := free_put h2 h12 (show k < ps.length by omega) h3
    by_cases hz : rowSt ps ps.length 0 k &&& s = 0
    · rw [if_pos hz, if_pos (ht.2 (hp.2 hz))]
      exact ⟨rfl, put_lt h2 (by omega), hp.2 hz⟩
    · rw [if_neg hz, if_neg (fun h => hz (hp.1 (ht.1 h)))]
      exact ⟨rfl, h2, h3⟩
theorem tog_one {ps : List Pth} (ha : arePs ps = true) {k : Nat} (hk : k < ps.length) : isTog ps [idAt ps k] = true := by
  rw [← ids_one ha hk]
  exact (tog_mask ha (Nat.pow_lt_pow_right (by decide) hk)).2 (free_one (arePs_len12 ha) hk)
theorem add_stage {ps : List Pth} (ha : arePs ps = true) {m : Nat} (hm : m < 2 ^ ps.length) (hf : freeM ps m) : addS ps (idsM ps m) = idsM ps (fillTo (rowSt ps ps.length 0) m ps.length) := by
  unfold addS
  rw [if_pos ((tog_mask ha hm).2 hf)]
  exact (add_fill ha hm hf _ (Nat.le_refl _)).1
/-- a stage is full just if what conflicts with it and itself are all. -/
theorem full_mask {ps : List Pth} (ha : arePs ps = true) {m : Nat} (hm : m < 2 ^ ps.length) (hf : freeM ps m) : isFull ps (idsM ps m) = decide (agL (rowSt ps ps.length 0) (idxs m) ||| m = 2 ^ ps.length - 1) := by
  have h12 := arePs_len12 ha
  have hk : ∀ k, k < ps.length → (fullAt ps (idsM ps m) k = true ↔ (agL (rowSt ps ps.length 0) (idxs m) ||| m).testBit k = true) := fun k hk => by
    unfold fullAt
    rw [show (pAt ps k).id = idAt ps k from rfl, has_ids ha hm hk, put_ids ha hm hk, Nat.testBit_or, Bool.or_eq_true, Bool.or_eq_true, ag_bit hm h12 hk, Bool.not_eq_true', Bool.eq_false_iff, ne_eq, tog_mask ha (put_lt hm hk), free_put hm h12 hk hf, row_zero hm h12 hk]
    constructor
    · rintro (h | h)
      · exact .inr h
      · left
        exact Classical.byContradiction fun hn => h fun b hb => by
          rw [Bool.eq_false_iff]
          intro hc
          exact hn ⟨b, hb, by rw [conf_symm]; exact hc⟩
    · rintro (⟨a, h1, h2⟩ | h)
      · right
        intro h
        have := h a h1
        rw [conf_symm, h2] at this
        cases this
      · exact .inl h
  rw [Bool.eq_iff_iff, decide_eq_true_eq]
  constructor
  · intro h
    unfold isFull at h
    rw [Bool.and_eq_true] at h
    apply mask_ext
    intro j
    rw [Nat.testBit_two_pow_sub_one]
    by_cases hj : j < ps.length
    · rw [decide_eq_true hj]
      exact (hk j hj).1 (List.all_eq_true.1 h.1 j (List.mem_range.2 hj))
    · rw [decide_eq_false hj, bit_ge (Nat.or_lt_two_pow (ag_lt hm) hm) (by omega)]
  · intro h
    rw [isFull_end, (tog_mask ha hm).2 hf]
    intro j hj
    rw [hk j hj, h, Nat.testBit_two_pow_sub_one, decide_eq_true hj]
theorem foldl_put {ps : List Pth} (ha : arePs ps = true) : ∀ (js : List Nat) {c : Nat}, c < 2 ^ ps.length → (∀ j ∈ js, j < ps.length) → (js.map (idAt ps)).foldl putI (idsM ps c) = idsM ps (maskJ c js)
  | [], c, _, _ => rfl
  | j :: js, c, hc, h => by
    rw [List.map_cons, List.foldl_cons, put_ids ha hc (h j List.mem_cons_self)]
    exact foldl_put ha js (put_lt hc (h j List.mem_cons_self)) fun k hk => h k (List.mem_cons_of_mem _ hk)
/-- the stages laid for the first i paths as sets, and what they cover. -/
def covI (ps : List Pth) : Nat → List Nat × Nat
  | 0 => ([], 0)
  | i + 1 => if (covI ps i).2.testBit i then covI ps i else ((covI ps i).1 ++ [fillTo (rowSt ps ps.length 0) (2 ^ i) ps.length], (covI ps i).2 ||| fillTo (rowSt ps ps.length 0) (2 ^ i) ps.length)
theorem cov_eq {ps : List Pth} (ha : arePs ps = true) : ∀ i, i ≤ ps.length → (coverTo ps i).1 = (covI ps i).1.map (idsM ps) ∧ (coverTo ps i).2 = idsM ps (covI ps i).2 ∧ (covI ps i).2 < 2 ^ ps.length
  | 0, _ => ⟨rfl, by unfold coverTo covI idsM; rw [idxs_zero]; rfl, Nat.two_pow_pos _⟩
  | i + 1, hi => by
    have h12 := arePs_len12 ha
    obtain ⟨h1, h2, h3⟩ := cov_eq ha i (by omega)
    have hil : i < ps.length := by omega
    have hb : 2 ^ i < 2 ^ ps.length := Nat.pow_lt_pow_right (by decide) hil
    obtain ⟨_, hfl, _⟩ := add_fill ha hb (free_one h12 hil) ps.length (Nat.le_refl _)
    have hs : addS ps [idAt ps i] = idsM ps (fillTo (rowSt ps ps.length 0) (2 ^ i) ps.length) := by rw [← ids_one ha hil, add_stage ha hb (free_one h12 hil)]
    unfold coverTo covI
    rw [show (pAt ps i).id = idAt ps i from rfl, h2, has_ids ha h3 hil, hs]
    generalize fillTo (rowSt ps ps.length 0) (2 ^ i) ps.length = s at *
    split
    · exact ⟨h1, h2, h3⟩
    · refine ⟨by rw [h1]; simp, ?_, Nat.or_lt_two_pow h3 hfl⟩
      simp only
      have := pow_le12 h12
      rw [idsM_bits ps s, foldl_put ha _ h3 (fun j hj => bit_in hfl (bitsOf_mem.1 hj).2), maskJ_bits _ _ (by omega)]
/-- what the program's Covers gathers. -/
def covS (ps : List Pth) : Nat → List (List Int) → Option Nat
  | c, [] => some c
  | c, zs :: zss => match stI ps (rowSt ps ps.length 0) zs with
    | none => none
    | some m => covS ps (c ||| m) zss
theorem covS_some {ps : List Pth} (ha : arePs ps = true) : ∀ (zss : List (List Int)) {c : Nat}, c < 2 ^ ps.length → (∀ zs ∈ zss, isTog ps zs = true) →
    ∃ d, covS ps c zss = some d ∧ d < 2 ^ ps.length ∧ ∀ k, k < ps.length → d.testBit k = (c.testBit k || inSome zss (idAt ps k))
  | [], c, hc, _ => ⟨c, rfl, hc, fun k hk => by simp [inSome]⟩
  | zs :: zss, c, hc, h => by
    obtain ⟨_, m, hm, e, hf, hst⟩ := tog_stage (h zs List.mem_cons_self)
    obtain ⟨d, h1, h2, h3⟩ := covS_some ha zss (Nat.or_lt_two_pow hc hm) fun z hz => h z (List.mem_cons_of_mem _ hz)
    refine ⟨d, by unfold covS; rw [hst]; exact h1, h2, fun k hk => ?_⟩
    rw [h3 k hk, Nat.testBit_or, e, Bool.or_assoc]
    congr 1
    unfold inSome
    rw [List.any_cons, has_ids ha hm hk]
theorem covS_none {ps : List Pth} : ∀ {zss : List (List Int)} {c : Nat}, covS ps c zss ≠ none → arePs ps = true → ∀ zs ∈ zss, isTog ps zs = true
  | [], _, _, _ => by simp
  | zs :: zss, c, h, ha => by
    unfold covS at h
    cases hst : stI ps (rowSt ps ps.length 0) zs with
    | none => rw [hst] at h; exact absurd rfl h
    | some m =>
      rw [hst] at h
      intro z hz
      rcases List.mem_cons.1 hz with rfl | hz
      · rw [← togI_eq]; unfold togI; rw [ha, hst]; rfl
      · exact covS_none h ha z hz
/-- what the program's Covers answers. -/
def coversI (ps : List Pth) (zss : List (List Int)) : Bool := arePs ps && decide (covS ps 0 zss = some (2 ^ ps.length - 1))
theorem covers_eq (ps : List Pth) (zss : List (List Int)) : coversI ps zss = coversP ps zss := by
  unfold coversI coversP
  cases ha : arePs ps
  · simp
  · rw [Bool.true_and, Bool.and_true, Bool.eq_iff_iff, decide_eq_true_eq, Bool.and_eq_true, List.all_eq_true, List.all_eq_true]
    constructor
    · intro h
      have hz := covS_none (by rw [h]; simp) ha
      refine ⟨hz, fun k hk => ?_⟩
      have hk := List.mem_range.1 hk
      obtain ⟨d, h1, h2, h3⟩ := covS_some ha zss (Nat.two_pow_pos _) hz
      rw [h] at h1
      injection h1 with h1
      have h4 := h3 k hk
      rw [← h1, Nat.testBit_two_pow_sub_one, decide_eq_true hk, Nat.zero_testBit, Bool.false_or] at h4
      exact h4.symm
    · rintro ⟨hz, hc⟩
      obtain ⟨d, h1, h2, h3⟩ := covS_some ha zss (Nat.two_pow_pos _) hz
      rw [h1]
      congr 1
      apply mask_ext
      intro j
      rw [Nat.testBit_two_pow_sub_one]
      by_cases hj : j < ps.length
      · rw [decide_eq_true hj, h3 j hj, Nat.zero_testBit, Bool.false_or]
        exact hc j (List.mem_range.2 hj)
      · rw [decide_eq_false hj, bit_ge h2 (by omega)]
end Go.Proofs.YtgdficjihkglpabDoor
