/- Texts of one chain, put together: SetEq ClrP ClrB MskP SSM Prt LstP PlnB LgtB Sfe Flat Ent Crypt RcdB WitB Hash Seal Lkd RcdI WitI RcdM PthM Funf LawFunf. -/
import Derived.Deep.RegionHeld3
import Derived.Laws.Rows
import Derived.Lib.AppendZeros
import Derived.Test.YtblilnfkpfjclaaDoorBndlA
set_option linter.unusedSimpArgs false
/- Sets of paths as masks: conflicts, stages that are added to, full ones, covers. No walk. -/
namespace Go.Proofs.YtblilnfkpfjclaaDoor
open Go.RowKit
set_option linter.unusedVariables false

theorem inter_iff (a b c d : Int) : inter a b c d = true ↔ (a ≠ b ∧ a ≠ c ∧ a ≠ d ∧ b ≠ c ∧ b ≠ d ∧ c ≠ d) ∧ (0 ≤ a ∧ a ≤ 7) ∧ (0 ≤ b ∧ b ≤ 7) ∧ (0 ≤ c ∧ c ≤ 7) ∧ (0 ≤ d ∧ d ≤ 7) ∧ ¬ ((c - a) % 8 < (b - a) % 8 ↔ (d - a) % 8 < (b - a) % 8) := by
  unfold inter inB betw
  simp only [Bool.and_eq_true, decide_eq_true_eq, bne_iff_ne, ne_eq, decide_eq_decide, and_assoc]
theorem inter_swap (a b c d : Int) : inter a b c d = inter c d a b := by
  rw [Bool.eq_iff_iff, inter_iff, inter_iff]
  constructor
  all_goals
    rintro ⟨⟨h1, h2, h3, h4, h5, h6⟩, ⟨a1, a2⟩, ⟨b1, b2⟩, ⟨c1, c2⟩, ⟨d1, d2⟩, h⟩
    refine ⟨⟨by omega, by omega, by omega, by omega, by omega, by omega⟩, ⟨by omega, by omega⟩, ⟨by omega, by omega⟩, ⟨by omega, by omega⟩, ⟨by omega, by omega⟩, by omega⟩
theorem conf_self (a : Pth) : conf a a = false := by
  unfold conf
  by_cases h : a.kind = 2 <;> simp [h]
theorem conf_symm (a b : Pth) : conf a b = conf b a := by
  unfold conf
  cases isP a <;> cases isP b <;> simp only [Bool.false_and, Bool.true_and, Bool.and_false] <;> try rfl
  rw [Bool.and_comm (decide (a.kind = 2))]
  by_cases ha : a.kind = 2 <;> by_cases hb : b.kind = 2 <;> simp only [ha, hb, decide_true, decide_false, Bool.and_true, Bool.and_false, Bool.not_true, Bool.not_false, if_true, if_false] <;> try rfl
  by_cases hf : a.frm = b.frm
  · rw [if_pos hf, if_pos hf.symm]
  · have hf' : ¬ b.frm = a.frm := fun e => hf e.symm
    by_cases ht : a.to = b.to
    · rw [if_neg hf, if_neg hf', if_pos ht, if_pos ht.symm]
    · have ht' : ¬ b.to = a.to := fun e => ht e.symm
      rw [if_neg hf, if_neg hf', if_neg ht, if_neg ht', inter_swap]
theorem asc_eq {α : Type} (r : α → α → Prop) (hi : ∀ x, ¬ r x x) (has : ∀ x y, r x y → ¬ r y x) : ∀ {a b : List α}, a.Pairwise r → b.Pairwise r → (∀ x, x ∈ a ↔ x ∈ b) → a = b
  | [], [], _, _, _ => rfl
  | [], y :: b, _, _, h => absurd ((h y).2 List.mem_cons_self) (by simp)
  | x :: a, [], _, _, h => absurd ((h x).1 List.mem_cons_self) (by simp)
  | x :: a, y :: b, ha, hb, h => by
    obtain ⟨ha1, ha2⟩ := List.pairwise_cons.1 ha
    obtain ⟨hb1, hb2⟩ := List.pairwise_cons.1 hb
    have hxy : x = y := by
      rcases List.mem_cons.1 ((h x).1 List.mem_cons_self) with e | e
      · exact e
      · rcases List.mem_cons.1 ((h y).2 List.mem_cons_self) with e2 | e2
        · exact e2.symm
        · exact absurd (hb1 x e) (has _ _ (ha1 y e2))
    subst hxy
    congr 1
    refine asc_eq r hi has ha2 hb2 fun z => ⟨fun hz => ?_, fun hz => ?_⟩
    · rcases List.mem_cons.1 ((h z).1 (List.mem_cons_of_mem _ hz)) with e | e
      · subst e; exact absurd (ha1 z hz) (hi z)
      · exact e
    · rcases List.mem_cons.1 ((h z).2 (List.mem_cons_of_mem _ hz)) with e | e
      · subst e; exact absurd (hb1 z hz) (hi z)
      · exact e
theorem asc_nat {a b : List Nat} : a.Pairwise (· < ·) → b.Pairwise (· < ·) → (∀ x, x ∈ a ↔ x ∈ b) → a = b := asc_eq _ (fun x => Nat.lt_irrefl x) (fun x y h => Nat.lt_asymm h)
theorem asc_int {a b : List Int} : a.Pairwise (· < ·) → b.Pairwise (· < ·) → (∀ x, x ∈ a ↔ x ∈ b) → a = b := asc_eq _ (fun x => Int.lt_irrefl x) (fun x y h => by omega)
/-- the Ids of a set. -/
def idsM (ps : List Pth) (m : Nat) : List Int := (idxs m).map fun i => idAt ps i.val
theorem idsM_bits (ps : List Pth) (m : Nat) : idsM ps m = (bitsOf m).map (idAt ps) := by
  unfold idsM
  rw [← idxs_val, List.map_map]
  rfl
theorem bits_asc (m : Nat) : (bitsOf m).Pairwise (· < ·) := List.Pairwise.filter _ List.pairwise_lt_range
theorem bits_maskJ {js : List Nat} (hp : js.Pairwise (· < ·)) (h : ∀ j ∈ js, j < 12) : bitsOf (maskJ 0 js) = js := asc_nat (bits_asc _) hp fun x => by
  rw [bitsOf_mem, maskJ_bit]
  simp
  exact h x
theorem bit_ge {m n j : Nat} (h : m < 2 ^ n) (hj : n ≤ j) : m.testBit j = false := Nat.testBit_lt_two_pow (Nat.lt_of_lt_of_le h (Nat.pow_le_pow_right (by decide) hj))
theorem bit_in {m n j : Nat} (h : m < 2 ^ n) (hj : m.testBit j = true) : j < n := by
  rcases Nat.lt_or_ge j n with h1 | h1
  · exact h1
  · rw [bit_ge h h1] at hj; cases hj
theorem maskJ_bits (q m : Nat) (h : m < 4096) : maskJ q (bitsOf m) = q ||| m := mask_ext fun j => by
  rw [maskJ_bit, Nat.testBit_or]
  congr 1
  rw [Bool.eq_iff_iff, decide_eq_true_eq, bitsOf_mem]
  exact ⟨fun h => h.2, fun hb => ⟨bit_in (n := 12) h hb, hb⟩⟩
theorem pow_le12 {n : Nat} (h : n ≤ 12) : 2 ^ n ≤ 4096 := Nat.pow_le_pow_right (n := 2) (by decide) h
theorem goI_ids {ps : List Pth} (ha : arePs ps = true) {m : Nat} (hm : m < 2 ^ ps.length) : goI ps 0 (idsM ps m) = some m := by
  have h12 := pow_le12 (arePs_len12 ha)
  rw [idsM_bits, goI_of ha (bits_asc m) (fun j hj => ⟨bit_in hm (bitsOf_mem.1 hj).2, Nat.two_pow_pos j⟩), maskJ_bits 0 m (by omega), Nat.zero_or]
/-- no two of these conflict. -/
def freeM (ps : List Pth) (m : Nat) : Prop := agL (rowSt ps ps.length 0) (idxs m) &&& m = 0
theorem tog_mask {ps : List Pth} (ha : arePs ps = true) {m : Nat} (hm : m < 2 ^ ps.length) : isTog ps (idsM ps m) = true ↔ freeM ps m := by
  rw [← togI_eq]
  unfold togI stI freeM
  rw [ha, Bool.true_and, goI_ids ha hm]
  simp only
  by_cases h : agL (rowSt ps ps.length 0) (idxs m) &&& m = 0
  · rw [if_pos h]; simp [h]
  · rw [if_neg h]; simp [h]
theorem st_mask {ps : List Pth} (ha : arePs ps = true) {m : Nat} (hm : m < 2 ^ ps.length) (hf : freeM ps m) : stI ps (rowSt ps ps.length 0) (idsM ps m) = some m := stI_good (goI_ids ha hm) hf
/-- a stage is a set of which no two conflict. -/
theorem tog_stage {ps : List Pth} {ids : List Int} (h : isTog ps ids = true) : arePs ps = true ∧ ∃ m, m < 2 ^ ps.length ∧ ids = idsM ps m ∧ freeM ps m ∧ stI ps (rowSt ps ps.length 0) ids = some m := by
  have ha : arePs ps = true := by
    unfold isTog at h
    rw [Bool.and_eq_true] at h
    exact h.2
  have h12 := arePs_len12 ha
  obtain ⟨js, rfl, hp, hj, hf⟩ := (tog_js ha ids).1 h
  have hm : maskJ 0 js < 2 ^ ps.length := mask_lt fun j hjn => by
    rw [maskJ_bit, Nat.zero_testBit, Bool.false_or, decide_eq_false_iff_not]
    intro hjm
    have := hj j hjm
    omega
  have e : js.map (idAt ps) = idsM ps (maskJ 0 js) := by rw [idsM_bits, bits_maskJ hp fun j hjm => by have := hj j hjm; omega]
  have hfm : freeM ps (maskJ 0 js) := (free_mask h12 hj).2 hf
  exact ⟨ha, _, hm, e, hfm, by rw [e]; exact st_mask ha hm hfm⟩
theorem row_bit {ps : List Pth} {a b : Nat} (ha : a < ps.length) (hb : b < ps.length) (h12 : ps.length ≤ 12) : (rowSt ps ps.length 0 a).testBit b = conf (pAt ps a) (pAt ps b) := by
  rw [Bool.eq_iff_iff, row_n ha hb h12, confAt_p ha hb, confAt_p hb ha]
  constructor
  · rintro (⟨_, h⟩ | ⟨_, h⟩)
    · exact h
    · rw [conf_symm]; exact h
  · intro h
    rcases Nat.lt_trichotomy a b with h1 | h1 | h1
    · exact .inr ⟨h1, by rw [conf_symm]; exact h⟩
    · subst h1; rw [conf_self] at h; cases h
    · exact .inl ⟨h1, h⟩
theorem row_ge {ps : List Pth} {a b : Nat} (ha : a < ps.length) (hb : ps.length ≤ b) : (rowSt ps ps.length 0 a).testBit b = false := by
  rw [rowSt_bit]
  unfold stB
  have h1 : ¬ b < a := by omega
  have h2 : ¬ b < ps.length := by omega
  rw [if_neg h1]
  split
  · simp [h2]
  · simp
theorem row_lt {ps : List Pth} {a : Nat} (ha : a < ps.length) : rowSt ps ps.length 0 a < 2 ^ ps.length := mask_lt fun j hj => row_ge ha hj
theorem ag_bit {ps : List Pth} {m k : Nat} (hm : m < 2 ^ ps.length) (h12 : ps.length ≤ 12) (hk : k < ps.length) : (agL (rowSt ps ps.length 0) (idxs m)).testBit k = true ↔ ∃ a, m.testBit a = true ∧ conf (pAt ps a) (pAt ps k) = true := by
  rw [agL_bit]
  constructor
  · rintro ⟨⟨a, ha⟩, h1, h2⟩
    have h1 := idxs_mem.1 h1
    exact ⟨a, h1, by rw [← row_bit (bit_in hm h1) hk h12]; exact h2⟩
  · rintro ⟨a, h1, h2⟩
    have han := bit_in hm h1
    exact ⟨⟨a, by omega⟩, idxs_mem.2 h1, by rw [row_bit han hk h12]; exact h2⟩
theorem ag_lt {ps : List Pth} {m : Nat} (hm : m < 2 ^ ps.length) : agL (rowSt ps ps.length 0) (idxs m) < 2 ^ ps.length := mask_lt fun j hj => by
  rw [Bool.eq_false_iff]
  intro h
  obtain ⟨⟨a, ha⟩, h1, h2⟩ := (agL_bit _ _ _).1 h
  rw [row_ge (bit_in hm (idxs_mem.1 h1)) hj] at h2
  cases h2
theorem free_iff {ps : List Pth} {m : Nat} (hm : m < 2 ^ ps.length) (h12 : ps.length ≤ 12) : freeM ps m ↔ ∀ a b, m.testBit a = true → m.testBit b = true → conf (pAt ps a) (pAt ps b) = false := by
  unfold freeM
  rw [and_zero]
  constructor
  · intro h a b ha hb
    rw [Bool.eq_false_iff]
    intro hc
    exact h b ⟨(ag_bit hm h12 (bit_in hm hb)).2 ⟨a, ha, hc⟩, hb⟩
  · rintro h b ⟨h1, h2⟩
    obtain ⟨a, ha, hc⟩ := (ag_bit hm h12 (bit_in hm h2)).1 h1
    rw [h a b ha h2] at hc
    cases hc
theorem row_zero {ps : List Pth} {m k : Nat} (hm : m < 2 ^ ps.length) (h12 : ps.length ≤ 12) (hk : k < ps.length) : rowSt ps ps.length 0 k &&& m = 0 ↔ ∀ b, m.testBit b = true → conf (pAt ps k) (pAt ps b) = false := by
  rw [and_zero]
  constructor
  · intro h b hb
    rw [Bool.eq_false_iff]
    intro hc
    exact h b ⟨by rw [row_bit hk (bit_in hm hb) h12]; exact hc, hb⟩
  · rintro h b ⟨h1, h2⟩
    rw [row_bit hk (bit_in hm h2) h12, h b h2] at h1
    cases h1
theorem bit_put (m k b : Nat) : (m ||| 2 ^ k).testBit b = true ↔ m.testBit b = true ∨ b = k := by
  rw [Nat.testBit_or, Nat.testBit_two_pow, Bool.or_eq_true, decide_eq_true_eq]
  exact or_congr Iff.rfl ⟨fun h => h.symm, fun h => h.symm⟩
theorem put_lt {m n k : Nat} (hm : m < 2 ^ n) (hk : k < n) : m ||| 2 ^ k < 2 ^ n := Nat.or_lt_two_pow hm (Nat.pow_lt_pow_right (by decide) hk)
theorem free_put {ps : List Pth} {m k : Nat} (hm : m < 2 ^ ps.length) (h12 : ps.length ≤ 12) (hk : k < ps.length) (hf : freeM ps m) : freeM ps (m ||| 2 ^ k) ↔ rowSt ps ps.length 0 k &&& m = 0 := by
  rw [free_iff (put_lt hm hk) h12, row_zero hm h12 hk]
  have hf := (free_iff hm h12).1 hf
  constructor
  · exact fun h b hb => h k b ((bit_put m k k).2 (.inr rfl)) ((bit_put m k b).2 (.inl hb))
  · intro h a b ha hb
    rcases (bit_put m k a).1 ha with h1 | rfl
    · rcases (bit_put m k b).1 hb with h2 | rfl
      · exact hf a b h1 h2
      · rw [conf_symm]; exact h a h1
    · rcases (bit_put m a b).1 hb with h2 | rfl
      · exact h b h2
      · exact conf_self _
theorem free_one {ps : List Pth} (h12 : ps.length ≤ 12) {k : Nat} (hk : k < ps.length) : freeM ps (2 ^ k) := by
  rw [free_iff (Nat.pow_lt_pow_right (by decide) hk) h12]
  intro a b ha hb
  rw [Nat.testBit_two_pow, decide_eq_true_eq] at ha hb
  subst ha
  subst hb
  exact conf_self _
theorem putI_nil (n : Int) : putI [] n = [n] := by simp [putI, lowN]
theorem putI_cons (z : Int) (zs : List Int) (n : Int) : putI (z :: zs) n = if z < n then z :: putI zs n else if z = n then z :: zs else n :: z :: zs := by
  unfold putI lowN
  by_cases h : z < n
  · rw [if_pos h, List.takeWhile_cons_of_pos (by simpa using h)]
    simp only [List.length_cons, List.getElem?_cons_succ, List.take_succ_cons, List.drop_succ_cons, List.cons_append]
    split <;> rfl
  · rw [if_neg h, List.takeWhile_cons_of_neg (by simpa using h)]
    simp only [List.length_nil, List.getElem?_cons_zero, List.take_zero, List.drop_zero, List.nil_append, Option.some.injEq]
theorem put_mem (n : Int) : ∀ (zs : List Int) (x : Int), x ∈ putI zs n ↔ x ∈ zs ∨ x = n
  | [], x => by rw [putI_nil]; simp
  | z :: zs, x => by
    rw [putI_cons]
    split
    · rw [List.mem_cons, put_mem n zs x, List.mem_cons, or_assoc]
    · split
      · rename_i h
        subst h
        simp only [List.mem_cons]
        constructor
        · exact fun h => .inl h
        · rintro (h | h)
          · exact h
          · exact .inl h
      · simp only [List.mem_cons]
        constructor
        · rintro (h | h | h)
          · exact .inr h
          · exact .inl (.inl h)
          · exact .inl (.inr h)
        · rintro ((h | h) | h)
          · exact .inr (.inl h)
          · exact .inr (.inr h)
          · exact .inl h
theorem put_asc (n : Int) : ∀ {zs : List Int}, zs.Pairwise (· < ·) → (putI zs n).Pairwise (· < ·)
  | [], _ => by rw [putI_nil]; simp
  | z :: zs, h => by
    obtain ⟨h1, h2⟩ := List.pairwise_cons.1 h
    rw [putI_cons]
    split
    · rename_i hlt
      refine List.pairwise_cons.2 ⟨fun y hy => ?_, put_asc n h2⟩
      rcases (put_mem n zs y).1 hy with h3 | rfl
      · exact h1 y h3
      · exact hlt
    · split
      · exact h
      · refine List.pairwise_cons.2 ⟨fun y hy => ?_, h⟩
        rcases List.mem_cons.1 hy with rfl | h3
        · omega
        · have := h1 y h3; omega
theorem idsM_asc {ps : List Pth} (ha : arePs ps = true) {m : Nat} (hm : m < 2 ^ ps.length) : (idsM ps m).Pairwise (· < ·) := by
  rw [idsM_bits, List.pairwise_map]
  exact (bits_asc m).imp_of_mem fun h1 h2 h => (idAt_lt ha (bit_in hm (bitsOf_mem.1 h1).2) (bit_in hm (bitsOf_mem.1 h2).2)).2 h
theorem idsM_mem {ps : List Pth} (h12 : ps.length ≤ 12) {m : Nat} (hm : m < 2 ^ ps.length) (x : Int) : x ∈ idsM ps m ↔ ∃ j, m.testBit j = true ∧ idAt ps j = x := by
  rw [idsM_bits, List.mem_map]
  constructor
  · rintro ⟨j, h1, h2⟩; exact ⟨j, (bitsOf_mem.1 h1).2, h2⟩
  · rintro ⟨j, h1, h2⟩; exact ⟨j, bitsOf_mem.2 ⟨by have := bit_in hm h1; omega, h1⟩, h2⟩
theorem idAt_inj {ps : List Pth} (ha : arePs ps = true) {i j : Nat} (hi : i < ps.length) (hj : j < ps.length) (h : idAt ps i = idAt ps j) : i = j := by
  rcases Nat.lt_trichotomy i j with h1 | h1 | h1
  · have := (idAt_lt ha hi hj).2 h1; omega
  · exact h1
  · have := (idAt_lt ha hj hi).2 h1; omega
theorem put_ids {ps : List Pth} (ha : arePs ps = true) {m k : Nat} (hm : m < 2 ^ ps.length) (hk : k < ps.length) : putI (idsM ps m) (idAt ps k) = idsM ps (m ||| 2 ^ k) := by
  have h12 := arePs_len12 ha
  refine asc_int (put_asc _ (idsM_asc ha hm)) (idsM_asc ha (put_lt hm hk)) fun x => ?_
  rw [put_mem, idsM_mem h12 hm, idsM_mem h12 (put_lt hm hk)]
  constructor
  · rintro (⟨j, h1, h2⟩ | rfl)
    · exact ⟨j, (bit_put m k j).2 (.inl h1), h2⟩
    · exact ⟨k, (bit_put m k k).2 (.inr rfl), rfl⟩
  · rintro ⟨j, h1, h2⟩
    rcases (bit_put m k j).1 h1 with h3 | rfl
    · exact .inl ⟨j, h3, h2⟩
    · exact .inr h2.symm
theorem has_ids {ps : List Pth} (ha : arePs ps = true) {m k : Nat} (hm : m < 2 ^ ps.length) (hk : k < ps.length) : hasI (idsM ps m) (idAt ps k) = m.testBit k := by
  have h12 := arePs_len12 ha
  unfold hasI
  rw [Bool.eq_iff_iff, List.contains_iff_mem, idsM_mem h12 hm]
  constructor
  · rintro ⟨j, h1, h2⟩
    rw [← idAt_inj ha (bit_in hm h1) hk h2]
    exact h1
  · exact fun h => ⟨k, h, rfl⟩
theorem ids_one {ps : List Pth} (ha : arePs ps = true) {k : Nat} (hk : k < ps.length) : idsM ps (2 ^ k) = [idAt ps k] := by
  have h := put_ids ha (m := 0) (Nat.two_pow_pos _) hk
  rw [Nat.zero_or] at h
  rw [← h]
  have : idsM ps 0 = [] := by unfold idsM; rw [idxs_zero]; rfl
  rw [this, putI_nil]
theorem ps_map (ps : List Pth) : (List.range ps.length).map (pAt ps) = ps := by
  apply List.ext_getElem?
  intro i
  by_cases h : i < ps.length
  · rw [List.getElem?_map, List.getElem?_range h, List.getElem?_eq_getElem h]
    simp [pAt, List.getD_eq_getElem?_getD, h]
  · rw [List.getElem?_eq_none (by simp; omega), List.getElem?_eq_none (by omega)]
/-- the Ids of a row. -/
theorem confs_mask {ps : List Pth} (ha : arePs ps = true) {k : Nat} (hk : k < ps.length) : idsM ps (rowSt ps ps.length 0 k) = confTo ps k ps.length := by
  have h12 := arePs_len12 ha
  have e : bitsOf (rowSt ps ps.length 0 k) = (List.range ps.length).filter (fun j => conf (pAt ps j) (pAt ps k)) := by
    refine asc_nat (bits_asc _) (List.Pairwise.filter _ List.pairwise_lt_range) fun x => ?_
    rw [bitsOf_mem, List.mem_filter, List.mem_range]
    constructor
    · rintro ⟨h1, h2⟩
      have hx := bit_in (row_lt hk) h2
      exact ⟨hx, by rw [conf_symm, ← row_bit hk hx h12]; exact h2⟩
    · rintro ⟨h1, h2⟩
      exact ⟨by omega, by rw [row_bit hk h1 h12, conf_symm]; exact h2⟩
  rw [idsM_bits, e]
  unfold confTo
  rw [List.take_length]
  have e2 : ps.filter (fun q => conf q (pAt ps k)) = ((List.range ps.length).filter (fun j => conf (pAt ps j) (pAt ps k))).map (pAt ps) := by
    conv => lhs; rw [← ps_map ps]
    rw [List.filter_map, ps_map]
    rfl
  rw [e2, List.map_map]
  rfl
/-- paths added one by one. -/
def fillTo (f : Nat → Nat) (m : Nat) : Nat → Nat
  | 0 => m
  | k + 1 => if f k &&& fillTo f m k = 0 then fillTo f m k ||| 2 ^ k else fillTo f m k
theorem add_fill {ps : List Pth} (ha : arePs ps = true) {m : Nat} (hm : m < 2 ^ ps.length) (hf : freeM ps m) : ∀ k, k ≤ ps.length →
    addTo ps (idsM ps m) k = idsM ps (fillTo (rowSt ps ps.length 0) m k) ∧ fillTo (rowSt ps ps.length 0) m k < 2 ^ ps.length ∧ freeM ps (fillTo (rowSt ps ps.length 0) m k)
  | 0, _ => ⟨rfl, hm, hf⟩
  | k + 1, hk => by
    have h12 := arePs_len12 ha
    obtain ⟨h1, h2, h3⟩ := add_fill ha hm hf k (by omega)
    unfold addTo fillTo
    rw [h1]
    generalize fillTo (rowSt ps ps.length 0) m k = s at *
    rw [show (pAt ps k).id = idAt ps k from rfl, put_ids ha h2 (by omega)]
    have ht := tog_mask ha (put_lt h2 (show k < ps.length by omega))
    have hp := free_put h2 h12 (show k < ps.length by omega) h3
    by_cases hz : rowSt ps ps.length 0 k &&& s = 0
    · rw [if_pos hz, if_pos (ht.2 (hp.2 hz))]
      exact ⟨rfl, put_lt h2 (by omega), hp.2 hz⟩
    · rw [if_neg hz, if_neg (fun h => hz (hp.1 (ht.1 h)))]
      exact ⟨rfl, h2, h3⟩
theorem tog_one {ps : List Pth} (ha : arePs ps = true) {k : Nat} (hk : k < ps.length) : isTog ps [idAt ps k] = true := by
  rw [← ids_one ha hk]
  exact (tog_mask ha (Nat.pow_lt_pow_right (by decide) hk)).2 (free_one (arePs_len12 ha) hk)
theorem add_stage {ps : List Pth} (ha : arePs ps = true) {m : Nat} (hm : m < 2 ^ ps.length) (hf : freeM ps m) : addS ps (idsM ps m) = idsM ps (fillTo (rowSt ps ps.length 0) m ps.length) := by
  unfold addS
  rw [if_pos ((tog_mask ha hm).2 hf)]
  exact (add_fill ha hm hf _ (Nat.le_refl _)).1
/-- a stage is full just if what conflicts with it and itself are all. -/
theorem full_mask {ps : List Pth} (ha : arePs ps = true) {m : Nat} (hm : m < 2 ^ ps.length) (hf : freeM ps m) : isFull ps (idsM ps m) = decide (agL (rowSt ps ps.length 0) (idxs m) ||| m = 2 ^ ps.length - 1) := by
  have h12 := arePs_len12 ha
  have hk : ∀ k, k < ps.length → (fullAt ps (idsM ps m) k = true ↔ (agL (rowSt ps ps.length 0) (idxs m) ||| m).testBit k = true) := fun k hk => by
    unfold fullAt
    rw [show (pAt ps k).id = idAt ps k from rfl, has_ids ha hm hk, put_ids ha hm hk, Nat.testBit_or, Bool.or_eq_true, Bool.or_eq_true, ag_bit hm h12 hk, Bool.not_eq_true', Bool.eq_false_iff, ne_eq, tog_mask ha (put_lt hm hk), free_put hm h12 hk hf, row_zero hm h12 hk]
    constructor
    · rintro (h | h)
      · exact .inr h
      · left
        exact Classical.byContradiction fun hn => h fun b hb => by
          rw [Bool.eq_false_iff]
          intro hc
          exact hn ⟨b, hb, by rw [conf_symm]; exact hc⟩
    · rintro (⟨a, h1, h2⟩ | h)
      · right
        intro h
        have := h a h1
        rw [conf_symm, h2] at this
        cases this
      · exact .inl h
  rw [Bool.eq_iff_iff, decide_eq_true_eq]
  constructor
  · intro h
    unfold isFull at h
    rw [Bool.and_eq_true] at h
    apply mask_ext
    intro j
    rw [Nat.testBit_two_pow_sub_one]
    by_cases hj : j < ps.length
    · rw [decide_eq_true hj]
      exact (hk j hj).1 (List.all_eq_true.1 h.1 j (List.mem_range.2 hj))
    · rw [decide_eq_false hj, bit_ge (Nat.or_lt_two_pow (ag_lt hm) hm) (by omega)]
  · intro h
    rw [isFull_end, (tog_mask ha hm).2 hf]
    intro j hj
    rw [hk j hj, h, Nat.testBit_two_pow_sub_one, decide_eq_true hj]
theorem foldl_put {ps : List Pth} (ha : arePs ps = true) : ∀ (js : List Nat) {c : Nat}, c < 2 ^ ps.length → (∀ j ∈ js, j < ps.length) → (js.map (idAt ps)).foldl putI (idsM ps c) = idsM ps (maskJ c js)
  | [], c, _, _ => rfl
  | j :: js, c, hc, h => by
    rw [List.map_cons, List.foldl_cons, put_ids ha hc (h j List.mem_cons_self)]
    exact foldl_put ha js (put_lt hc (h j List.mem_cons_self)) fun k hk => h k (List.mem_cons_of_mem _ hk)
/-- the stages laid for the first i paths as sets, and what they cover. -/
def covI (ps : List Pth) : Nat → List Nat × Nat
  | 0 => ([], 0)
  | i + 1 => if (covI ps i).2.testBit i then covI ps i else ((covI ps i).1 ++ [fillTo (rowSt ps ps.length 0) (2 ^ i) ps.length], (covI ps i).2 ||| fillTo (rowSt ps ps.length 0) (2 ^ i) ps.length)
theorem cov_eq {ps : List Pth} (ha : arePs ps = true) : ∀ i, i ≤ ps.length → (coverTo ps i).1 = (covI ps i).1.map (idsM ps) ∧ (coverTo ps i).2 = idsM ps (covI ps i).2 ∧ (covI ps i).2 < 2 ^ ps.length
  | 0, _ => ⟨rfl, by unfold coverTo covI idsM; rw [idxs_zero]; rfl, Nat.two_pow_pos _⟩
  | i + 1, hi => by
    have h12 := arePs_len12 ha
    obtain ⟨h1, h2, h3⟩ := cov_eq ha i (by omega)
    have hil : i < ps.length := by omega
    have hb : 2 ^ i < 2 ^ ps.length := Nat.pow_lt_pow_right (by decide) hil
    obtain ⟨_, hfl, _⟩ := add_fill ha hb (free_one h12 hil) ps.length (Nat.le_refl _)
    have hs : addS ps [idAt ps i] = idsM ps (fillTo (rowSt ps ps.length 0) (2 ^ i) ps.length) := by rw [← ids_one ha hil, add_stage ha hb (free_one h12 hil)]
    unfold coverTo covI
    rw [show (pAt ps i).id = idAt ps i from rfl, h2, has_ids ha h3 hil, hs]
    generalize fillTo (rowSt ps ps.length 0) (2 ^ i) ps.length = s at *
    split
    · exact ⟨h1, h2, h3⟩
    · refine ⟨by rw [h1]; simp, ?_, Nat.or_lt_two_pow h3 hfl⟩
      simp only
      have := pow_le12 h12
      rw [idsM_bits ps s, foldl_put ha _ h3 (fun j hj => bit_in hfl (bitsOf_mem.1 hj).2), maskJ_bits _ _ (by omega)]
/-- what the program's Covers gathers. -/
def covS (ps : List Pth) : Nat → List (List Int) → Option Nat
  | c, [] => some c
  | c, zs :: zss => match stI ps (rowSt ps ps.length 0) zs with
    | none => none
    | some m => covS ps (c ||| m) zss
theorem covS_some {ps : List Pth} (ha : arePs ps = true) : ∀ (zss : List (List Int)) {c : Nat}, c < 2 ^ ps.length → (∀ zs ∈ zss, isTog ps zs = true) →
    ∃ d, covS ps c zss = some d ∧ d < 2 ^ ps.length ∧ ∀ k, k < ps.length → d.testBit k = (c.testBit k || inSome zss (idAt ps k))
  | [], c, hc, _ => ⟨c, rfl, hc, fun k hk => by simp [inSome]⟩
  | zs :: zss, c, hc, h => by
    obtain ⟨_, m, hm, e, hf, hst⟩ := tog_stage (h zs List.mem_cons_self)
    obtain ⟨d, h1, h2, h3⟩ := covS_some ha zss (Nat.or_lt_two_pow hc hm) fun z hz => h z (List.mem_cons_of_mem _ hz)
    refine ⟨d, by unfold covS; rw [hst]; exact h1, h2, fun k hk => ?_⟩
    rw [h3 k hk, Nat.testBit_or, e, Bool.or_assoc]
    congr 1
    unfold inSome
    rw [List.any_cons, has_ids ha hm hk]
theorem covS_none {ps : List Pth} : ∀ {zss : List (List Int)} {c : Nat}, covS ps c zss ≠ none → arePs ps = true → ∀ zs ∈ zss, isTog ps zs = true
  | [], _, _, _ => by simp
  | zs :: zss, c, h, ha => by
    unfold covS at h
    cases hst : stI ps (rowSt ps ps.length 0) zs with
    | none => rw [hst] at h; exact absurd rfl h
    | some m =>
      rw [hst] at h
      intro z hz
      rcases List.mem_cons.1 hz with rfl | hz
      · rw [← togI_eq]; unfold togI; rw [ha, hst]; rfl
      · exact covS_none h ha z hz
/-- what the program's Covers answers. -/
def coversI (ps : List Pth) (zss : List (List Int)) : Bool := arePs ps && decide (covS ps 0 zss = some (2 ^ ps.length - 1))
theorem covers_eq (ps : List Pth) (zss : List (List Int)) : coversI ps zss = coversP ps zss := by
  unfold coversI coversP
  cases ha : arePs ps
  · simp
  · rw [Bool.true_and, Bool.and_true, Bool.eq_iff_iff, decide_eq_true_eq, Bool.and_eq_true, List.all_eq_true, List.all_eq_true]
    constructor
    · intro h
      have hz := covS_none (by rw [h]; simp) ha
      refine ⟨hz, fun k hk => ?_⟩
      have hk := List.mem_range.1 hk
      obtain ⟨d, h1, h2, h3⟩ := covS_some ha zss (Nat.two_pow_pos _) hz
      rw [h] at h1
      injection h1 with h1
      have h4 := h3 k hk
      rw [← h1, Nat.testBit_two_pow_sub_one, decide_eq_true hk, Nat.zero_testBit, Bool.false_or] at h4
      exact h4.symm
    · rintro ⟨hz, hc⟩
      obtain ⟨d, h1, h2, h3⟩ := covS_some ha zss (Nat.two_pow_pos _) hz
      rw [h1]
      congr 1
      apply mask_ext
      intro j
      rw [Nat.testBit_two_pow_sub_one]
      by_cases hj : j < ps.length
      · rw [decide_eq_true hj, h3 j hj, Nat.zero_testBit, Bool.false_or]
        exact hc j (List.mem_range.2 hj)
      · rw [decide_eq_false hj, bit_ge h2 (by omega)]
end Go.Proofs.YtblilnfkpfjclaaDoor

/- Chapter 7's answers as Lean data; no program. -/
namespace Go.Proofs.YtblilnfkpfjclaaDoor
open Go.RowKit
set_option linter.unusedVariables false

/-- what StaysOpen and Closes answer. -/
def stayL (zs ys : List Int) : List Int := zs.filter fun z => hasI ys z
def closL (zs ys : List Int) : List Int := zs.filter fun z => !hasI ys z
/-- the same with the wanted answer given. -/
def pickL (zs ys : List Int) (b : Bool) : List Int := zs.filter fun z => hasI ys z == b
theorem pick_true (zs ys : List Int) : pickL zs ys true = stayL zs ys := by
  unfold pickL stayL
  congr
  funext z
  cases hasI ys z <;> rfl
theorem pick_false (zs ys : List Int) : pickL zs ys false = closL zs ys := by
  unfold pickL closL
  congr
  funext z
  cases hasI ys z <;> rfl
theorem pick_zero (zs ys : List Int) (b : Bool) : pickL (zs.take 0) ys b = [] := by simp [pickL]
theorem pick_yes {zs ys : List Int} {b : Bool} {k : Nat} (hk : k < zs.length) (h : hasI ys (zs.getD k 0) = b) : pickL (zs.take (k + 1)) ys b = pickL (zs.take k) ys b ++ [zs.getD k 0] := by
  have e : zs[k]? = some (zs.getD k 0) := by rw [List.getD_eq_getElem?_getD, List.getElem?_eq_getElem hk]; rfl
  unfold pickL
  rw [List.take_add_one, e, List.filter_append]
  simp only [Option.toList, List.filter_cons, List.filter_nil, h, beq_self_eq_true, if_true]
theorem pick_no {zs ys : List Int} {b : Bool} {k : Nat} (hk : k < zs.length) (h : hasI ys (zs.getD k 0) = !b) : pickL (zs.take (k + 1)) ys b = pickL (zs.take k) ys b := by
  have e : zs[k]? = some (zs.getD k 0) := by rw [List.getD_eq_getElem?_getD, List.getElem?_eq_getElem hk]; rfl
  unfold pickL
  rw [List.take_add_one, e, List.filter_append]
  have h3 : (hasI ys (zs.getD k 0) == b) = false := by rw [h]; cases b <;> rfl
  rw [show (some (zs.getD k 0)).toList = [zs.getD k 0] from rfl, List.filter_cons_of_neg (by rw [h3]; simp), List.filter_nil, List.append_nil]
theorem pick_len (zs ys : List Int) (b : Bool) : (pickL zs ys b).length ≤ zs.length := List.length_filter_le _ _
theorem pick_len_take (zs ys : List Int) (b : Bool) (k : Nat) : (pickL (zs.take k) ys b).length ≤ k := Nat.le_trans (pick_len _ _ _) (by rw [List.length_take]; omega)
/-- what ClearOf answers. -/
def clearN (p : Pth) : Int := if isP p then (if p.kind = 1 then 2 else if p.kind = 2 then 5 else 3) else 0
theorem clearN_bound (p : Pth) : 0 ≤ clearN p ∧ clearN p ≤ 5 := by
  unfold clearN
  split
  · split
    · omega
    · split <;> omega
  · omega
/-- the greatest of the first k. -/
def mostTo (ps : List Pth) : Nat → Int
  | 0 => 0
  | k + 1 => maxI (mostTo ps k) (clearN (pAt ps k))
theorem mostTo_bound (ps : List Pth) : ∀ k, 0 ≤ mostTo ps k ∧ mostTo ps k ≤ 5
  | 0 => by simp [mostTo]
  | k + 1 => by
    obtain ⟨h1, h2⟩ := mostTo_bound ps k
    obtain ⟨h3, h4⟩ := clearN_bound (pAt ps k)
    show 0 ≤ maxI _ _ ∧ maxI _ _ ≤ 5
    unfold maxI
    split <;> omega
/-- what LongestClear answers. -/
def longC (ps : List Pth) : Int := if arePs ps then mostTo ps ps.length else 0
end Go.Proofs.YtblilnfkpfjclaaDoor

/- Chapter 7's ClearBetween as Lean data: by lists, and by sets. No walk. -/
namespace Go.Proofs.YtblilnfkpfjclaaDoor
open Go.RowKit
set_option linter.unusedVariables false

/-- the path of this Id. -/
def idP (ps : List Pth) (id : Int) : Pth := pAt ps ((findK id ps).getD 0)
/-- p conflicts with one of the first k. -/
def holdTo (ps : List Pth) (p : Pth) (ys : List Int) (k : Nat) : Bool := (ys.take k).any fun y => conf p (idP ps y)
theorem hold_zero (ps : List Pth) (p : Pth) (ys : List Int) : holdTo ps p ys 0 = false := by simp [holdTo]
theorem hold_succ {ps : List Pth} {p : Pth} {ys : List Int} {k : Nat} (h : k < ys.length) : holdTo ps p ys (k + 1) = (holdTo ps p ys k || conf p (idP ps (ys.getD k 0))) := by
  unfold holdTo
  rw [List.take_add_one, List.any_append, List.getElem?_eq_getElem h, List.getD_eq_getElem?_getD, List.getElem?_eq_getElem h]
  simp
/-- the greatest with one more path, if that must clear. -/
def clrIn (m : Int) (p : Pth) (b : Bool) : Int := if b then maxI m (clearN p) else m
theorem clrIn_no (m : Int) (p : Pth) : clrIn m p false = m := rfl
theorem clrIn_yes (m : Int) (p : Pth) (b : Bool) : maxI (clrIn m p b) (clearN p) = clrIn m p true := by
  cases b
  · rfl
  · show maxI (maxI m (clearN p)) (clearN p) = maxI m (clearN p)
    unfold maxI
    by_cases h : m < clearN p
    · rw [if_pos h, if_neg (by omega)]
    · rw [if_neg h, if_neg h]
/-- the greatest of the first k. -/
def clrTo (ps : List Pth) (xs ys : List Int) : Nat → Int
  | 0 => 0
  | k + 1 => clrIn (clrTo ps xs ys k) (idP ps (xs.getD k 0)) (holdTo ps (idP ps (xs.getD k 0)) ys ys.length)
theorem clrIn_bound {m : Int} (p : Pth) (b : Bool) (h : 0 ≤ m ∧ m ≤ 5) : 0 ≤ clrIn m p b ∧ clrIn m p b ≤ 5 := by
  have := clearN_bound p
  unfold clrIn maxI
  split
  · split <;> omega
  · exact h
theorem clrTo_bound (ps : List Pth) (xs ys : List Int) : ∀ k, 0 ≤ clrTo ps xs ys k ∧ clrTo ps xs ys k ≤ 5
  | 0 => by simp [clrTo]
  | k + 1 => clrIn_bound _ _ (clrTo_bound ps xs ys k)
/-- what ClearBetween answers. -/
def clrB (ps : List Pth) (a b : List Int) : Int := if isTog ps a && isTog ps b then clrTo ps (closL a b) (closL b a) (closL a b).length else 0
theorem clrB_bound (ps : List Pth) (a b : List Int) : 0 ≤ clrB ps a b ∧ clrB ps a b ≤ 5 := by
  unfold clrB
  split
  · exact clrTo_bound _ _ _ _
  · omega
theorem clrB_off {ps : List Pth} {a b : List Int} (h : (isTog ps a && isTog ps b) = false) : clrB ps a b = 0 := by unfold clrB; rw [h]; rfl
theorem clrB_on {ps : List Pth} {a b : List Int} (h : isTog ps a = true) (h2 : isTog ps b = true) : clrB ps a b = clrTo ps (closL a b) (closL b a) (closL a b).length := by unfold clrB; rw [h, h2]; rfl

/-! By sets. -/
def minusM (a b : Nat) : Nat := a &&& (65535 - b)
theorem minus_bit {a b : Nat} (ha : a < 65536) (hb : b < 65536) (i : Nat) : (minusM a b).testBit i = (a.testBit i && !b.testBit i) := by
  unfold minusM
  rw [Nat.testBit_and]
  have e : 65535 - b = 2 ^ 16 - (b + 1) := by omega
  rw [e, Nat.testBit_two_pow_sub_succ (by omega)]
  by_cases hi : i < 16
  · simp [hi]
  · have : a.testBit i = false := Nat.testBit_lt_two_pow (Nat.lt_of_lt_of_le ha (by
      have : 2 ^ 16 ≤ 2 ^ i := Nat.pow_le_pow_right (by decide) (by omega)
      omega))
    simp [this]
theorem minus_lt {a b n : Nat} (ha : a < 2 ^ n) : minusM a b < 2 ^ n := Nat.lt_of_le_of_lt Nat.and_le_left ha
theorem u16_minus {a b : Nat} (ha : a < 65536) (hb : b < 65536) : bits .andNot .u16 (a : Int) (b : Int) = ((minusM a b : Nat) : Int) := u16_andNot_nat a b ha hb
theorem mostTo_fold (ps : List Pth) : ∀ k, k ≤ ps.length → mostTo ps k = (ps.take k).foldl (fun m p => maxI m (clearN p)) 0
  | 0, _ => rfl
  | k + 1, h => by
    have ih := mostTo_fold ps k (by omega)
    have e : ps[k]? = some (pAt ps k) := by rw [List.getElem?_eq_getElem (by omega)]; unfold pAt; rw [List.getD_eq_getElem?_getD, List.getElem?_eq_getElem (by omega)]; rfl
    rw [List.take_add_one, e, List.foldl_append, ← ih]
    rfl
theorem clrTo_fold (ps : List Pth) (xs ys : List Int) : ∀ k, k ≤ xs.length → clrTo ps xs ys k = (xs.take k).foldl (fun m x => clrIn m (idP ps x) (holdTo ps (idP ps x) ys ys.length)) 0
  | 0, _ => rfl
  | k + 1, h => by
    have ih := clrTo_fold ps xs ys k (by omega)
    have e : xs[k]? = some (xs.getD k 0) := by rw [List.getD_eq_getElem?_getD, List.getElem?_eq_getElem (by omega)]; rfl
    rw [List.take_add_one, e, List.foldl_append, ← ih]
    rfl
theorem fold_filter (ps : List Pth) (g : Nat → Bool) : ∀ (l : List Nat) (m : Int), l.foldl (fun m j => clrIn m (pAt ps j) (g j)) m = ((l.filter g).map (pAt ps)).foldl (fun m p => maxI m (clearN p)) m
  | [], _ => rfl
  | j :: l, m => by
    rw [List.foldl_cons, fold_filter ps g l]
    cases h : g j
    · rw [List.filter_cons_of_neg (by simp [h])]; rfl
    · rw [List.filter_cons_of_pos h]; rfl
/-- the path with the index i must clear, from one set to the next. -/
def mustI (f : Nat → Nat) (a b i : Nat) : Bool := (minusM a b).testBit i && decide (f i &&& minusM b a ≠ 0)
/-- the paths that must clear among the first k. -/
def clrL (ps : List Pth) (f : Nat → Nat) (a b k : Nat) : List Pth := ((List.range k).filter (mustI f a b)).map (pAt ps)
theorem clrL_zero (ps : List Pth) (f : Nat → Nat) (a b : Nat) : clrL ps f a b 0 = [] := rfl
theorem clrL_succ (ps : List Pth) (f : Nat → Nat) (a b k : Nat) : clrL ps f a b (k + 1) = clrL ps f a b k ++ (if mustI f a b k then [pAt ps k] else []) := by
  unfold clrL
  rw [List.range_succ, List.filter_append, List.map_append]
  congr 1
  cases h : mustI f a b k <;> simp [h]
theorem clrL_len (ps : List Pth) (f : Nat → Nat) (a b k : Nat) : (clrL ps f a b k).length ≤ k := by
  unfold clrL
  rw [List.length_map]
  exact Nat.le_trans (List.length_filter_le _ _) (by rw [List.length_range]; exact Nat.le_refl _)
theorem clrL_wf {ps : List Pth} (h : ∀ p ∈ ps, p.wf) (f : Nat → Nat) (a b k : Nat) (hk : k ≤ ps.length) : ∀ p ∈ clrL ps f a b k, p.wf := by
  intro p hp
  unfold clrL at hp
  obtain ⟨j, hj, rfl⟩ := List.mem_map.1 hp
  have hj := List.mem_range.1 (List.mem_filter.1 hj).1
  unfold pAt
  rw [List.getD_eq_getElem?_getD, List.getElem?_eq_getElem (by omega)]
  exact h _ (List.getElem_mem _)
/-- what the program's clearBetween answers. -/
def clrS (ps : List Pth) (f : Nat → Nat) (a b : Nat) : Int := mostTo (clrL ps f a b ps.length) (clrL ps f a b ps.length).length
theorem clrS_bound (ps : List Pth) (f : Nat → Nat) (a b : Nat) : 0 ≤ clrS ps f a b ∧ clrS ps f a b ≤ 5 := mostTo_bound _ _
theorem idP_at {ps : List Pth} (ha : arePs ps = true) {j : Nat} (hj : j < ps.length) : idP ps (idAt ps j) = pAt ps j := by unfold idP; rw [findK_of ha hj]; rfl
theorem clos_ids {ps : List Pth} (ha : arePs ps = true) {a b : Nat} (hA : a < 2 ^ ps.length) (hB : b < 2 ^ ps.length) : closL (idsM ps a) (idsM ps b) = idsM ps (minusM a b) := by
  have h12 := arePs_len12 ha
  have hp := pow_le12 h12
  refine asc_int (List.Pairwise.filter _ (idsM_asc ha hA)) (idsM_asc ha (minus_lt hA)) fun x => ?_
  unfold closL
  rw [List.mem_filter, idsM_mem h12 hA, idsM_mem h12 (minus_lt hA)]
  constructor
  · rintro ⟨⟨j, h1, rfl⟩, h2⟩
    have hj := bit_in hA h1
    rw [has_ids ha hB hj] at h2
    exact ⟨j, by rw [minus_bit (by omega) (by omega), h1]; exact h2, rfl⟩
  · rintro ⟨j, h1, rfl⟩
    rw [minus_bit (by omega) (by omega), Bool.and_eq_true] at h1
    have hj := bit_in hA h1.1
    exact ⟨⟨j, h1.1, rfl⟩, by rw [has_ids ha hB hj]; exact h1.2⟩
theorem hold_mask {ps : List Pth} (ha : arePs ps = true) {m k : Nat} (hm : m < 2 ^ ps.length) (hk : k < ps.length) : holdTo ps (pAt ps k) (idsM ps m) (idsM ps m).length = decide (rowSt ps ps.length 0 k &&& m ≠ 0) := by
  have h12 := arePs_len12 ha
  have hz := row_zero hm h12 hk
  unfold holdTo
  rw [List.take_length, Bool.eq_iff_iff, List.any_eq_true, decide_eq_true_eq, Ne, hz]
  constructor
  · rintro ⟨x, hx, hc⟩ h
    obtain ⟨j, h1, rfl⟩ := (idsM_mem h12 hm x).1 hx
    rw [idP_at ha (bit_in hm h1), h j h1] at hc
    cases hc
  · intro h
    have : ∃ b, m.testBit b = true ∧ ¬ conf (pAt ps k) (pAt ps b) = false := by
      apply Classical.byContradiction
      intro hn
      exact h fun b hb => Classical.byContradiction fun hc => hn ⟨b, hb, hc⟩
    obtain ⟨b, hb, hc⟩ := this
    exact ⟨idAt ps b, (idsM_mem h12 hm _).2 ⟨b, hb, rfl⟩, by rw [idP_at ha (bit_in hm hb)]; simpa using hc⟩
theorem bits_range {n m : Nat} (hn : n ≤ 12) (hm : m < 2 ^ n) : bitsOf m = (List.range n).filter m.testBit := by
  refine asc_nat (bits_asc _) (List.Pairwise.filter _ List.pairwise_lt_range) fun x => ?_
  rw [bitsOf_mem, List.mem_filter, List.mem_range]
  exact ⟨fun h => ⟨bit_in hm h.2, h.2⟩, fun h => ⟨by omega, h.2⟩⟩
theorem clr_mask {ps : List Pth} (ha : arePs ps = true) {a b : Nat} (hA : a < 2 ^ ps.length) (hB : b < 2 ^ ps.length) (hfa : freeM ps a) (hfb : freeM ps b) : clrB ps (idsM ps a) (idsM ps b) = clrS ps (rowSt ps ps.length 0) a b := by
  have h12 := arePs_len12 ha
  rw [clrB_on ((tog_mask ha hA).2 hfa) ((tog_mask ha hB).2 hfb), clos_ids ha hA hB, clos_ids ha hB hA]
  unfold clrS
  rw [mostTo_fold _ _ (Nat.le_refl _), clrTo_fold _ _ _ _ (Nat.le_refl _), List.take_length, List.take_length, idsM_bits ps (minusM a b), List.foldl_map]
  have e : ∀ (l : List Nat) (m : Int), (∀ j ∈ l, j < ps.length) → l.foldl (fun m j => clrIn m (idP ps (idAt ps j)) (holdTo ps (idP ps (idAt ps j)) (idsM ps (minusM b a)) (idsM ps (minusM b a)).length)) m = l.foldl (fun m j => clrIn m (pAt ps j) (decide (rowSt ps ps.length 0 j &&& minusM b a ≠ 0))) m := by
    intro l
    induction l with
    | nil => intro m _; rfl
    | cons j l ih =>
      intro m h
      have hj := h j List.mem_cons_self
      rw [List.foldl_cons, List.foldl_cons, idP_at ha hj, hold_mask ha (minus_lt hB) hj]
      exact ih _ fun k hk => h k (List.mem_cons_of_mem _ hk)
  rw [e _ _ fun j hj => bit_in (minus_lt hA) (bitsOf_mem.1 hj).2, fold_filter, bits_range h12 (minus_lt hA), List.filter_filter]
  unfold clrL
  congr 3
  funext j
  unfold mustI
  rw [Bool.and_comm]
end Go.Proofs.YtblilnfkpfjclaaDoor

/- Sets of stages, and what they cover, as data. No walk. -/
namespace Go.Proofs.YtblilnfkpfjclaaDoor
open Go.RowKit
set_option linter.unusedVariables false

/-- the set of a stage. -/
def maskL (ps : List Pth) (zs : List Int) : Nat := (stI ps (rowSt ps ps.length 0) zs).getD 0
theorem tog_maskL {ps : List Pth} {zs : List Int} (h : isTog ps zs = true) : arePs ps = true ∧ maskL ps zs < 2 ^ ps.length ∧ zs = idsM ps (maskL ps zs) ∧ freeM ps (maskL ps zs) ∧ stI ps (rowSt ps ps.length 0) zs = some (maskL ps zs) := by
  obtain ⟨ha, m, h1, h2, h3, h4⟩ := tog_stage h
  have e : maskL ps zs = m := by unfold maskL; rw [h4]; rfl
  rw [e]
  exact ⟨ha, h1, h2, h3, h4⟩
theorem tog_none {ps : List Pth} (ha : arePs ps = true) {zs : List Int} (h : isTog ps zs = false) : stI ps (rowSt ps ps.length 0) zs = none := by
  rw [← togI_eq] at h
  unfold togI at h
  rw [ha, Bool.true_and] at h
  cases hs : stI ps (rowSt ps ps.length 0) zs with
  | none => rfl
  | some m => rw [hs] at h; cases h
/-- all that these have together. -/
def orM (ms : List Nat) : Nat := ms.foldl (fun a m => a ||| m) 0
theorem covS_masks {ps : List Pth} : ∀ (zss : List (List Int)) (c : Nat), (∀ zs ∈ zss, isTog ps zs = true) → covS ps c zss = some ((zss.map (maskL ps)).foldl (fun a m => a ||| m) c)
  | [], c, _ => rfl
  | zs :: zss, c, h => by
    obtain ⟨_, _, _, _, h5⟩ := tog_maskL (h zs List.mem_cons_self)
    unfold covS
    rw [h5]
    exact covS_masks zss _ fun z hz => h z (List.mem_cons_of_mem _ hz)
theorem covers_masks {ps : List Pth} (ha : arePs ps = true) {zss : List (List Int)} (h : ∀ zs ∈ zss, isTog ps zs = true) : coversP ps zss = decide (orM (zss.map (maskL ps)) = 2 ^ ps.length - 1) := by
  rw [← covers_eq]
  unfold coversI orM
  rw [ha, Bool.true_and, covS_masks zss 0 h]
  simp
theorem orM_succ {ms : List Nat} {k : Nat} (h : k < ms.length) : orM (ms.take (k + 1)) = orM (ms.take k) ||| ms.getD k 0 := by
  unfold orM
  rw [List.take_add_one, List.getElem?_eq_getElem h, List.foldl_append, List.getD_eq_getElem?_getD, List.getElem?_eq_getElem h]
  rfl
end Go.Proofs.YtblilnfkpfjclaaDoor

/- The laws' helpers for slices of slices of numbers. -/
namespace Go.Proofs.YtblilnfkpfjclaaDoor
open Go.RowKit
set_option linter.unusedVariables false

/-- no two of these lie in one block. -/
def ApartL (us : List Value) : Prop := ∀ (i j : Nat) (u u' : Value), i ≠ j → us[i]? = some u → us[j]? = some u' → ∀ g, u.ownBlock = some g → u'.ownBlock ≠ some g
theorem ApartL.nil : ApartL [] := fun i j u u' _ h => by simp at h
theorem ApartL.snoc {us : List Value} {u : Value} {b : Nat} (h : ApartL us) (h1 : ∀ x ∈ us, ∀ g, x.ownBlock = some g → g < b) (h2 : ∀ g, u.ownBlock = some g → b ≤ g) : ApartL (us ++ [u]) := by
  intro i j x y hij hx hy g hg e
  rw [List.getElem?_append] at hx hy
  split at hx
  · rename_i hi
    split at hy
    · exact h i j x y hij hx hy g hg e
    · rename_i hj
      have : j - us.length = 0 := by
        have := (List.getElem?_eq_some_iff.1 hy).1
        simp at this; omega
      rw [this] at hy
      simp at hy
      subst hy
      have := h1 x (List.mem_of_getElem? hx) g hg
      have := h2 g e
      omega
  · rename_i hi
    have hi0 : i - us.length = 0 := by
      have := (List.getElem?_eq_some_iff.1 hx).1
      simp at this; omega
    rw [hi0] at hx
    simp at hx
    subst hx
    split at hy
    · have := h1 y (List.mem_of_getElem? hy) g e
      have := h2 g hg
      omega
    · rename_i hj
      have : j - us.length = 0 := by
        have := (List.getElem?_eq_some_iff.1 hy).1
        simp at this; omega
      omega
/-- a row of rows of the call's own; each row in its own block. -/
structure OwnD (w : World) (lo : Nat) (v : Value) (us : List Value) (zss : List (List Int)) : Prop where
  row : w.ownsRow lo 35 1 v zss.length us
  each : ∀ j, j < zss.length → ∃ u, us[j]? = some u ∧ Own .i64 3 w lo u (zss.getD j [])
  apart : ApartL us
theorem OwnD.len {w : World} {lo : Nat} {v : Value} {us : List Value} {zss : List (List Int)} (h : OwnD w lo v us zss) : us.length = zss.length := by have := h.row.1; omega
theorem OwnD.ss {w : World} {lo : Nat} {v : Value} {us : List Value} {zss : List (List Int)} (h : OwnD w lo v us zss) : OwnSS w lo v zss := ⟨us, h.row, h.each⟩
theorem OwnD.below {w w' : World} {lo : Nat} {v : Value} {us : List Value} {zss : List (List Int)} (h : OwnD w lo v us zss) (hb : Below w.heap.size w w') : OwnD w' lo v us zss :=
  ⟨ownr_below h.row hb, fun j hj => by obtain ⟨u, h1, h2⟩ := h.each j hj; exact ⟨u, h1, h2.below hb⟩, h.apart⟩
theorem OwnD.mono {w : World} {lo lo' : Nat} {v : Value} {us : List Value} {zss : List (List Int)} (h : OwnD w lo v us zss) (hl : lo' ≤ lo) : OwnD w lo' v us zss :=
  ⟨ownr_mono h.row hl, fun j hj => by obtain ⟨u, h1, h2⟩ := h.each j hj; exact ⟨u, h1, h2.mono hl⟩, h.apart⟩
theorem OwnSS.rows {w : World} {lo : Nat} {A : Option Addr} {n c : Nat} {zss : List (List Int)} (h : OwnSS w lo (.slice A n c) zss) : SSAt w w.heap.size A n zss := by
  obtain ⟨vs, hr, hi⟩ := h
  have hn := ownr_len hr
  subst hn
  refine ⟨rfl, fun h0 => ?_⟩
  have hcl := (ownr_cells hr).2 (by omega)
  obtain ⟨ad, e, hb, hc⟩ := hcl
  refine ⟨ad, e, hb, fun j hj => ?_⟩
  obtain ⟨u, h1, h2⟩ := hi j hj
  obtain ⟨A', c', rfl⟩ := h2.sliced
  refine ⟨A', _, c', hc j _ h1, ?_, (ownr_cap h2).1, ownr_nilcap h2⟩
  exact h2.ints
theorem OwnSS.cap {w : World} {lo : Nat} {A : Option Addr} {n c : Nat} {zss : List (List Int)} (h : OwnSS w lo (.slice A n c) zss) : (A = none → n = 0 ∧ c = 0) ∧ n ≤ c ∧ c ≤ maxLen := by
  obtain ⟨vs, hr, hi⟩ := h
  exact ⟨ownr_nilcap hr, ownr_cap hr⟩
theorem SSAt.keep {w w' : World} {B : Nat} {A : Option Addr} {n : Nat} {zss : List (List Int)} (h : SSAt w B A n zss) (hk : ∀ p : Addr, p.block < B → w'.cell? p = w.cell? p) : SSAt w' B A n zss := by
  refine ⟨h.1, fun h0 => ?_⟩
  obtain ⟨ad, e, hb, hc⟩ := h.2 h0
  refine ⟨ad, e, hb, fun j hj => ?_⟩
  obtain ⟨A', m, c, h1, h2, h3, h4⟩ := hc j hj
  exact ⟨A', m, c, (hk _ (by rw [add_block]; exact hb)).trans h1, h2.keep hk, h3, h4⟩
theorem SSAt.up {w : World} {B B' : Nat} {A : Option Addr} {n : Nat} {zss : List (List Int)} (h : SSAt w B A n zss) (hB : B ≤ B') : SSAt w B' A n zss := by
  refine ⟨h.1, fun h0 => ?_⟩
  obtain ⟨ad, e, hb, hc⟩ := h.2 h0
  refine ⟨ad, e, by omega, fun j hj => ?_⟩
  obtain ⟨A', m, c, h1, h2, h3, h4⟩ := hc j hj
  exact ⟨A', m, c, h1, h2.up hB, h3, h4⟩
theorem made_nils (n : Nat) : (madeCells (Value.slice none 0 0).cells (n * 1)).toList = List.replicate n (Value.slice none 0 0) := by
  simp only [madeCells, Value.cells]
  apply List.ext_getElem?
  intro i
  simp only [Array.toList_map, List.getElem?_map, Nat.mul_one]
  by_cases h : i < n
  · simp [h, Nat.mod_one]
  · simp [h]
theorem set_next (us : List Value) (n : Nat) (u : Value) (h : us.length < n) : (us ++ List.replicate (n - us.length) (Value.slice none 0 0)).set us.length u = (us ++ [u]) ++ List.replicate (n - (us ++ [u]).length) (Value.slice none 0 0) := by
  rw [List.set_append_right _ _ (Nat.le_refl _), Nat.sub_self, List.length_append, List.length_singleton]
  have e : n - us.length = (n - (us.length + 1)) + 1 := by omega
  rw [e, List.replicate_succ, List.set_cons_zero]
  simp
theorem apart_row {w : World} {lo lo2 : Nat} {u v : Value} {zs : List Int} {n : Nat} {vs : List Value} (h : Own .i64 3 w lo u zs) (h2 : w.ownsRow lo2 35 1 v n vs) : ∀ g, u.ownBlock = some g → v.ownBlock ≠ some g := own_apart h h2
theorem sz_ints (A : Option Addr) (n c : Nat) (left : Int) (w : World) (hn : n ≤ 9223372036854775807) (hl : 0 ≤ left ∧ left ≤ 1048576) :
    Calls Tryd.prog 21 #[.slice A n c, .int .i64 left] w fun e w' => e = .returned (.int .i64 (if (n : Int) ≤ left then left - (n : Int) else -1)) ∧ w = w' := by
  obtain ⟨l1, l2⟩ := hl
  by_cases h : (n : Int) ≤ left
  · rw [if_pos h]
    go_enter Tryd.func21, Tryd.ntmps21
    go_wp2
    go_ret
    exact ⟨rfl, rfl⟩
  · rw [if_neg h]
    go_enter Tryd.func21, Tryd.ntmps21
    go_wp2
    go_ret
    exact ⟨rfl, rfl⟩
/-- a slice of slices that a call is given. -/
structure SlSS (w : World) (A : Option Addr) (n c : Nat) (zss : List (List Int)) : Prop where
  ss : SSAt w w.heap.size A n zss
  bare : A = none → n = 0 ∧ c = 0
  cap : n ≤ c ∧ c ≤ maxLen
/-- few and short. -/
def SmallSS (zss : List (List Int)) : Prop := zss.length ≤ 1048576 ∧ ∀ j, j < zss.length → (zss.getD j []).length ≤ 1048576
theorem SmallSS.at {zss : List (List Int)} (h : SmallSS zss) (n M : Nat) (hn : n = zss.length) (hM : 1048576 ≤ M) : ∀ j, j < n → (zss.getD j []).length ≤ M := fun j hj => Nat.le_trans (h.2 j (by omega)) hM
/-- rows of the call's own, between two block numbers. -/
structure OwD (w : World) (lo hi : Nat) (v : Value) (us : List Value) (zss : List (List Int)) : Prop where
  own : OwnD w lo v us zss
  lt : ∀ g, v.ownBlock = some g → g < hi
  ltu : ∀ u ∈ us, ∀ g, u.ownBlock = some g → lo ≤ g ∧ g < hi
  top : hi ≤ w.heap.size
theorem OwnD.inner {w : World} {lo : Nat} {v : Value} {us : List Value} {zss : List (List Int)} (h : OwnD w lo v us zss) {u : Value} (hu : u ∈ us) : ∃ zs, Own .i64 3 w lo u zs := by
  obtain ⟨j, hj, rfl⟩ := List.getElem_of_mem hu
  have hl := h.len
  obtain ⟨x, h1, h2⟩ := h.each j (by omega)
  rw [List.getElem?_eq_getElem hj] at h1
  injection h1 with h1
  subst h1
  exact ⟨_, h2⟩
theorem OwD.new {w : World} {lo : Nat} {v : Value} {us : List Value} {zss : List (List Int)} (h : OwnD w lo v us zss) : OwD w lo w.heap.size v us zss :=
  ⟨h, fun g e => (ownr_block h.row g e).2, fun u hu g e => by obtain ⟨zs, ho⟩ := h.inner hu; exact ho.block g e, Nat.le_refl _⟩
theorem OwD.below {w w' : World} {lo hi : Nat} {v : Value} {us : List Value} {zss : List (List Int)} (h : OwD w lo hi v us zss) (hb : Below w.heap.size w w') : OwD w' lo hi v us zss := ⟨h.own.below hb, h.lt, h.ltu, Nat.le_trans h.top hb.size⟩
theorem OwD.ints {w : World} {lo hi : Nat} {A : Option Addr} {n c : Nat} {us : List Value} {zss : List (List Int)} (h : OwD w lo hi (.slice A n c) us zss) : SSAt w w.heap.size A n zss := h.own.ss.rows
theorem OwD.sl {w : World} {lo hi : Nat} {A : Option Addr} {n c : Nat} {us : List Value} {zss : List (List Int)} (h : OwD w lo hi (.slice A n c) us zss) : SlSS w A n c zss := ⟨h.ints, h.own.ss.cap.1, h.own.ss.cap.2⟩
theorem OwD.part {w w' : World} {lo hi l h' : Nat} {v : Value} {us : List Value} {zss : List (List Int)} (h : OwD w lo hi v us zss) (hp : Part l h' w w') (hd : hi ≤ l ∨ h' ≤ lo) : OwD w' lo hi v us zss := by
  refine ⟨⟨?_, fun j hj => ?_, h.own.apart⟩, h.lt, h.ltu, Nat.le_trans h.top hp.size⟩
  · refine ⟨h.own.row.1, ?_⟩
    rcases h.own.row.2 with h2 | ⟨g, cap, cur, rfl, hl, hg, r⟩
    · exact .inl h2
    · have hlt := h.lt g rfl
      have htop := h.top
      exact .inr ⟨g, cap, cur, rfl, hl, (hp.block g (by omega) (by omega)).trans hg, r⟩
  · obtain ⟨u, h1, h2⟩ := h.own.each j hj
    refine ⟨u, h1, h2.1, ?_⟩
    have hu := List.mem_of_getElem? h1
    rcases h2.2 with h3 | ⟨g, cap, cur, rfl, hl, hg, r⟩
    · exact .inl h3
    · have hlt := h.ltu _ hu g rfl
      have htop := h.top
      exact .inr ⟨g, cap, cur, rfl, hl, (hp.block g (by omega) (by omega)).trans hg, r⟩
/-- how many numbers the first k rows hold. -/
def tot (zss : List (List Int)) (k : Nat) : Nat := ((zss.take k).map List.length).sum
theorem tot_zero (zss : List (List Int)) : tot zss 0 = 0 := by simp [tot]
theorem tot_succ {zss : List (List Int)} {k : Nat} (h : k < zss.length) : tot zss (k + 1) = tot zss k + (zss.getD k []).length := by
  unfold tot
  rw [List.take_add_one, List.getElem?_eq_getElem h, List.map_append, List.sum_append, List.getD_eq_getElem?_getD, List.getElem?_eq_getElem h]
  simp
theorem tot_le {zss : List (List Int)} (h : SmallSS zss) : ∀ k, k ≤ zss.length → tot zss k ≤ k * 1048576
  | 0, _ => by rw [tot_zero]; exact Nat.zero_le _
  | k + 1, hk => by
    have ih := tot_le h k (by omega)
    have := h.2 k (by omega)
    rw [tot_succ (by omega)]
    omega
theorem tot_top {zss : List (List Int)} (h : SmallSS zss) {k : Nat} (hk : k ≤ zss.length) : tot zss k ≤ 1099511627776 := by
  have h1 := tot_le h k hk
  have h2 := h.1
  have : k * 1048576 ≤ 1048576 * 1048576 := Nat.mul_le_mul_right _ (by omega)
  omega
/-- the first k rows marked. -/
def mixS (s : Nat) (zss : List (List Int)) (k : Nat) : List (List Int) := (List.range zss.length).map fun j => if j < k then marks .i64 ((s + tot zss j : Nat) : Int) (zss.getD j []).length else zss.getD j []
theorem mixS_len (s : Nat) (zss : List (List Int)) (k : Nat) : (mixS s zss k).length = zss.length := by simp [mixS]
theorem mixS_at (s : Nat) (zss : List (List Int)) (k : Nat) {j : Nat} (h : j < zss.length) : (mixS s zss k).getD j [] = if j < k then marks .i64 ((s + tot zss j : Nat) : Int) (zss.getD j []).length else zss.getD j [] := by
  simp [mixS, List.getD_eq_getElem?_getD, h]
theorem mixS_row (s : Nat) (zss : List (List Int)) (k : Nat) {j : Nat} (h : j < zss.length) : ((mixS s zss k).getD j []).length = (zss.getD j []).length := by
  rw [mixS_at s zss k h]
  split
  · rw [marks_length]
  · rfl
theorem mixS_zero (s : Nat) (zss : List (List Int)) : mixS s zss 0 = zss := by
  apply List.ext_getElem?
  intro i
  by_cases h : i < zss.length
  · simp [mixS, h]
  · rw [List.getElem?_eq_none (by rw [mixS_len]; omega), List.getElem?_eq_none (by omega)]
/-- the same, where nothing is said of two rows' blocks. -/
structure OwE (w : World) (lo hi : Nat) (v : Value) (us : List Value) (zss : List (List Int)) : Prop where
  row : w.ownsRow lo 35 1 v zss.length us
  each : ∀ j, j < zss.length → ∃ u, us[j]? = some u ∧ Own .i64 3 w lo u (zss.getD j [])
  lt : ∀ g, v.ownBlock = some g → g < hi
  ltu : ∀ (j : Nat) (u : Value), us[j]? = some u → ∀ g, u.ownBlock = some g → lo ≤ g ∧ g < hi
  top : hi ≤ w.heap.size
theorem OwE.new {w : World} {lo : Nat} {v : Value} {us : List Value} {zss : List (List Int)} (hr : w.ownsRow lo 35 1 v zss.length us) (hi : ∀ j, j < zss.length → ∃ u, us[j]? = some u ∧ Own .i64 3 w lo u (zss.getD j [])) : OwE w lo w.heap.size v us zss :=
  ⟨hr, hi, fun g e => (ownr_block hr g e).2, fun j u hj g e => by
    have hl := hr.1
    obtain ⟨u', h1, h2⟩ := hi j (by have := (List.getElem?_eq_some_iff.1 hj).1; omega)
    rw [hj] at h1
    injection h1 with h1
    subst h1
    exact h2.block g e, Nat.le_refl _⟩
theorem OwE.below {w w' : World} {lo hi : Nat} {v : Value} {us : List Value} {zss : List (List Int)} (h : OwE w lo hi v us zss) (hb : Below w.heap.size w w') : OwE w' lo hi v us zss :=
  ⟨ownr_below h.row hb, fun j hj => by obtain ⟨u, h1, h2⟩ := h.each j hj; exact ⟨u, h1, h2.below hb⟩, h.lt, h.ltu, Nat.le_trans h.top hb.size⟩
theorem OwE.ints {w : World} {lo hi : Nat} {A : Option Addr} {n c : Nat} {us : List Value} {zss : List (List Int)} (h : OwE w lo hi (.slice A n c) us zss) : SSAt w w.heap.size A n zss := OwnSS.rows ⟨us, h.row, h.each⟩
theorem OwE.part {w w' : World} {lo hi l h' : Nat} {v : Value} {us : List Value} {zss : List (List Int)} (h : OwE w lo hi v us zss) (hp : Part l h' w w') (hd : hi ≤ l ∨ h' ≤ lo) : OwE w' lo hi v us zss := by
  refine ⟨?_, fun j hj => ?_, h.lt, h.ltu, Nat.le_trans h.top hp.size⟩
  · refine ⟨h.row.1, ?_⟩
    rcases h.row.2 with h2 | ⟨g, cap, cur, rfl, hl, hg, r⟩
    · exact .inl h2
    · have hlt := h.lt g rfl
      have htop := h.top
      exact .inr ⟨g, cap, cur, rfl, hl, (hp.block g (by omega) (by omega)).trans hg, r⟩
  · obtain ⟨u, h1, h2⟩ := h.each j hj
    refine ⟨u, h1, h2.1, ?_⟩
    rcases h2.2 with h3 | ⟨g, cap, cur, rfl, hl, hg, r⟩
    · exact .inl h3
    · have hlt := h.ltu j _ h1 g rfl
      have htop := h.top
      exact .inr ⟨g, cap, cur, rfl, hl, (hp.block g (by omega) (by omega)).trans hg, r⟩
end Go.Proofs.YtblilnfkpfjclaaDoor

/- Parts of plans as Lean data; rows of them, and the laws' helpers for these. -/
namespace Go.Proofs.YtblilnfkpfjclaaDoor
open Go.RowKit
set_option linter.unusedVariables false

/-- a part of a plan. -/
structure Prt where
  stage : List Int
  green : Int
deriving DecidableEq
def prt0 : Prt := ⟨[], 0⟩
def Prt.wf (p : Prt) : Prop := p.stage.length ≤ maxLen ∧ (∀ z ∈ p.stage, (Lit.int .i64 z).wf = true) ∧ (Lit.int .i64 p.green).wf = true
/-- the j-th part. -/
def prAt (ps : List Prt) (j : Nat) : Prt := ps.getD j prt0
theorem prAt_some {ps : List Prt} {k : Nat} {p : Prt} (h : ps[k]? = some p) : prAt ps k = p := by simp [prAt, List.getD, h]
theorem prAt_get {ps : List Prt} {k : Nat} (h : k < ps.length) : ps[k]? = some (prAt ps k) := by
  rw [List.getElem?_eq_getElem h]
  simp [prAt, List.getD, List.getElem?_eq_getElem h]
theorem prAt_mem {ps : List Prt} {k : Nat} (h : k < ps.length) : prAt ps k ∈ ps := List.mem_of_getElem? (prAt_get h)
theorem prAt_append {ps : List Prt} {q : Prt} {k : Nat} : prAt (ps ++ [q]) k = if k < ps.length then prAt ps k else if k = ps.length then q else prt0 := by
  unfold prAt
  rw [List.getD_eq_getElem?_getD, List.getElem?_append]
  by_cases h : k < ps.length
  · rw [if_pos h, if_pos h, List.getD_eq_getElem?_getD]
  · rw [if_neg h, if_neg h]
    by_cases e : k = ps.length
    · rw [if_pos e, e, Nat.sub_self]; rfl
    · rw [if_neg e, List.getElem?_eq_none (by simp; omega)]; rfl
/-- a part lies at q: its stage's slice and its green. -/
structure PrtAt (w : World) (q : Addr) (u : Value) (g : Int) : Prop where
  c0 : w.cell? q = some u
  c1 : w.cell? ⟨q.block, q.off + 1, none⟩ = some (.int .i64 g)
theorem PrtAt.keep {w w' : World} {q : Addr} {u : Value} {g : Int} (h : PrtAt w q u g) (e : w'.heap[q.block]? = w.heap[q.block]?) : PrtAt w' q u g :=
  ⟨(World.cell?_of_block e).trans h.c0, (World.cell?_of_block (a := ⟨q.block, q.off + 1, none⟩) e).trans h.c1⟩
theorem PrtAt.below {w w' : World} {q : Addr} {u : Value} {g : Int} {B : Nat} (h : PrtAt w q u g) (hb : Below B w w') (hB : q.block < B) : PrtAt w' q u g := h.keep (hb.block _ hB)
/-- A slice value that holds these parts, all in blocks below B. -/
def PrtsAt (w : World) (B : Nat) (A : Option Addr) (n : Nat) (ps : List Prt) : Prop :=
  ps.length = n ∧ (0 < n → ∃ ad, A = some ad ∧ ad.block < B ∧ ∀ j, j < n → ∃ A' m c, PrtAt w (ad.add (j * 2)) (.slice A' m c) (prAt ps j).green ∧ IntsAt .i64 w B A' m (prAt ps j).stage ∧ (m ≤ c ∧ c ≤ maxLen) ∧ (A' = none → m = 0 ∧ c = 0))
theorem PrtsAt.at {w : World} {B : Nat} {A : Option Addr} {n : Nat} {ps : List Prt} (h : PrtsAt w B A n ps) {j : Nat} (hj : j < n) :
    ∃ ad A' m c, A = some ad ∧ (ad.add (j * 2)).block < B ∧ PrtAt w (ad.add (j * 2)) (.slice A' m c) (prAt ps j).green ∧ IntsAt .i64 w B A' m (prAt ps j).stage ∧ (m ≤ c ∧ c ≤ maxLen) ∧ (A' = none → m = 0 ∧ c = 0) := by
  obtain ⟨ad, e, hb, hc⟩ := h.2 (by omega)
  obtain ⟨A', m, c, h1⟩ := hc j hj
  exact ⟨ad, A', m, c, e, by rw [add_block]; exact hb, h1⟩
theorem PrtsAt.keep {w w' : World} {B : Nat} {A : Option Addr} {n : Nat} {ps : List Prt} (h : PrtsAt w B A n ps) (hb : Below B w w') : PrtsAt w' B A n ps := by
  refine ⟨h.1, fun h0 => ?_⟩
  obtain ⟨ad, e, hB, hc⟩ := h.2 h0
  refine ⟨ad, e, hB, fun j hj => ?_⟩
  obtain ⟨A', m, c, h1, h2, h3, h4⟩ := hc j hj
  exact ⟨A', m, c, h1.below hb (by rw [add_block]; exact hB), h2.keep (fun p hp => hb.cell hp), h3, h4⟩
theorem PrtsAt.below {w w' : World} {B : Nat} {A : Option Addr} {n : Nat} {ps : List Prt} (h : PrtsAt w B A n ps) (hB : B ≤ w.heap.size) (hb : Below w.heap.size w w') : PrtsAt w' B A n ps := h.keep (hb.mono hB)
theorem PrtsAt.up {w : World} {B B' : Nat} {A : Option Addr} {n : Nat} {ps : List Prt} (h : PrtsAt w B A n ps) (hB : B ≤ B') : PrtsAt w B' A n ps := by
  refine ⟨h.1, fun h0 => ?_⟩
  obtain ⟨ad, e, hb, hc⟩ := h.2 h0
  refine ⟨ad, e, by omega, fun j hj => ?_⟩
  obtain ⟨A', m, c, h1, h2, h3, h4⟩ := hc j hj
  exact ⟨A', m, c, h1, h2.up hB, h3, h4⟩
/-- the cells of a row of parts. -/
def prow (xs : List (Value × Int)) : List Value := xs.flatMap fun x => [x.1, .int .i64 x.2]
theorem prow_length (xs : List (Value × Int)) : (prow xs).length = xs.length * 2 := flat_length (f := fun x : Value × Int => [x.1, .int .i64 x.2]) (fun _ => rfl) xs
theorem prow_at0 {xs : List (Value × Int)} {j : Nat} {x : Value × Int} (h : xs[j]? = some x) : (prow xs)[j * 2]? = some x.1 := by
  exact flat_get (f := fun x : Value × Int => [x.1, .int .i64 x.2]) (s := 2) (fun _ => rfl) xs j 0 x h (by decide)
theorem prow_at1 {xs : List (Value × Int)} {j : Nat} {x : Value × Int} (h : xs[j]? = some x) : (prow xs)[j * 2 + 1]? = some (.int .i64 x.2) := by
  exact flat_get (f := fun x : Value × Int => [x.1, .int .i64 x.2]) (s := 2) (fun _ => rfl) xs j 1 x h (by decide)
theorem prow_append (xs ys : List (Value × Int)) : prow (xs ++ ys) = prow xs ++ prow ys := by simp [prow]
theorem prow_next (xs : List (Value × Int)) (n : Nat) (z x : Value × Int) (h : xs.length < n) :
    ((prow xs ++ prow (List.replicate (n - xs.length) z)).set (xs.length * 2) x.1).set (xs.length * 2 + 1) (.int .i64 x.2) = prow (xs ++ [x]) ++ prow (List.replicate (n - (xs ++ [x]).length) z) := by
  obtain ⟨m, hm⟩ : ∃ m, n - xs.length = m + 1 := ⟨n - xs.length - 1, by omega⟩
  have e2 : n - (xs ++ [x]).length = m := by rw [List.length_append, List.length_singleton]; omega
  rw [e2, hm, List.replicate_succ]
  have e3 : prow (z :: List.replicate m z) = z.1 :: .int .i64 z.2 :: prow (List.replicate m z) := rfl
  rw [e3, set_at (prow_length xs)]
  have e4 : prow xs ++ x.1 :: .int .i64 z.2 :: prow (List.replicate m z) = (prow xs ++ [x.1]) ++ .int .i64 z.2 :: prow (List.replicate m z) := by simp
  rw [e4, set_at (by simp [prow_length]), prow_append]
  simp [prow]
theorem prow_one (xs : List (Value × Int)) (h : ∀ x ∈ xs, x.1.oneCell' = true) : ∀ u ∈ prow xs, u.oneCell' = true := by
  intro u hu
  obtain ⟨x, hx, hp⟩ := List.mem_flatMap.1 hu
  simp only [List.mem_cons, List.not_mem_nil, or_false] at hp
  rcases hp with rfl | rfl
  · exact h x hx
  · rfl
theorem made_prt (n : Nat) : (madeCells (Value.agg #[Value.slice none 0 0, Value.int .i64 0]).cells (n * 2)).toList = prow (List.replicate n (Value.slice none 0 0, 0)) := by
  have h : (Value.agg #[Value.slice none 0 0, Value.int .i64 0]).cells = #[Value.slice none 0 0, Value.int .i64 0] := rfl
  rw [h]
  apply List.ext_getElem?
  intro i
  simp only [madeCells, Array.toList_map, List.getElem?_map]
  by_cases hi : i < n * 2
  · have hx : (List.replicate n ((Value.slice none 0 0, 0) : Value × Int))[i / 2]? = some (Value.slice none 0 0, 0) := by rw [List.getElem?_replicate, if_pos (by omega)]
    have h2 : i % 2 = 0 ∨ i % 2 = 1 := by omega
    rcases h2 with h2 | h2
    · have := prow_at0 hx
      rw [show i / 2 * 2 = i by omega] at this
      rw [this]
      simp [hi, h2]
    · have := prow_at1 hx
      rw [show i / 2 * 2 + 1 = i by omega] at this
      rw [this]
      simp [hi, h2]
  · rw [List.getElem?_eq_none (l := prow _) (by rw [prow_length, List.length_replicate]; omega)]
    simp [hi]
end Go.Proofs.YtblilnfkpfjclaaDoor

/- LeastGreen as Lean data. No walk. -/
namespace Go.Proofs.YtblilnfkpfjclaaDoor
open Go.RowKit
set_option linter.unusedVariables false

theorem fK_lt {ps : List Pth} {id : Int} {k : Nat} (h : findK id ps = some k) : k < ps.length := by
  obtain ⟨p, hp, _⟩ := findK_at h
  exact (List.getElem?_eq_some_iff.1 hp).1
theorem fI_some {ps : List Pth} {id : Int} {k : Nat} (h : findK id ps = some k) : findI id ps = (k : Int) := by unfold findI; rw [h]
theorem fI_no {ps : List Pth} {id : Int} (h : findK id ps = none) : findI id ps = -1 := by unfold findI; rw [h]
/-- this Id is a walk's. -/
def walkId (ps : List Pth) (id : Int) : Bool := match findK id ps with
  | none => false
  | some k => decide ((pAt ps k).kind = 2)
theorem walkId_none {ps : List Pth} {id : Int} (h : findK id ps = none) : walkId ps id = false := by unfold walkId; rw [h]
theorem walkId_some {ps : List Pth} {id : Int} {k : Nat} (h : findK id ps = some k) : walkId ps id = decide ((pAt ps k).kind = 2) := by unfold walkId; rw [h]
/-- what LeastGreen answers. -/
def leastG (ps : List Pth) (zs : List Int) : Int := if zs.any (walkId ps) then 7 else 5
theorem leastG_bound (ps : List Pth) (zs : List Int) : 5 ≤ leastG ps zs ∧ leastG ps zs ≤ 7 := by unfold leastG; split <;> omega
theorem leastG_yes {ps : List Pth} {zs : List Int} {k : Nat} (hk : k < zs.length) (h : walkId ps (zs.getD k 0) = true) : leastG ps zs = 7 := by
  unfold leastG
  have : zs.any (walkId ps) = true := List.any_eq_true.2 ⟨zs.getD k 0, by rw [List.getD_eq_getElem?_getD, List.getElem?_eq_getElem hk]; exact List.getElem_mem hk, h⟩
  rw [this]
  rfl
theorem leastG_no {ps : List Pth} {zs : List Int} (h : ∀ k, k < zs.length → walkId ps (zs.getD k 0) = false) : leastG ps zs = 5 := by
  unfold leastG
  have : zs.any (walkId ps) = false := by
    rw [Bool.eq_false_iff]
    intro ha
    obtain ⟨z, hz, hw⟩ := List.any_eq_true.1 ha
    obtain ⟨k, hk, rfl⟩ := List.getElem_of_mem hz
    have := h k hk
    rw [List.getD_eq_getElem?_getD, List.getElem?_eq_getElem hk] at this
    simp only [Option.getD_some] at this
    rw [this] at hw
    cases hw
  rw [this]
  rfl
end Go.Proofs.YtblilnfkpfjclaaDoor

/- Chapter 8's plans as Lean data: by lists, and by sets. No walk. -/
namespace Go.Proofs.YtblilnfkpfjclaaDoor
open Go.RowKit
set_option linter.unusedVariables false

/-- a part that may be in a plan. -/
def okPrt (ps : List Pth) (q : Prt) : Bool := !decide (q.stage.length = 0) && isTog ps q.stage && inB q.green (leastG ps q.stage) 60
def stgsOf (p : List Prt) : List (List Int) := p.map Prt.stage
theorem stgsOf_len (p : List Prt) : (stgsOf p).length = p.length := by simp [stgsOf]
theorem stgsOf_at {p : List Prt} {j : Nat} (h : j < p.length) : (stgsOf p).getD j [] = (prAt p j).stage := by
  unfold stgsOf
  rw [List.getD_eq_getElem?_getD, List.getElem?_map, prAt_get h]
  rfl
/-- what IsPlan answers. -/
def isPlan (ps : List Pth) (p : List Prt) : Bool := inB p.length 1 6 && p.all (okPrt ps) && coversP ps (stgsOf p)
theorem isPlan_len {ps : List Pth} {p : List Prt} (h : inB p.length 1 6 = false) : isPlan ps p = false := by unfold isPlan; rw [h]; rfl
theorem isPlan_no {ps : List Pth} {p : List Prt} {j : Nat} (hj : j < p.length) (h : okPrt ps (prAt p j) = false) : isPlan ps p = false := by
  unfold isPlan
  have : p.all (okPrt ps) = false := by
    rw [Bool.eq_false_iff]
    intro ha
    have := List.all_eq_true.1 ha _ (prAt_mem hj)
    rw [h] at this
    cases this
  rw [this]
  simp
theorem isPlan_end {ps : List Pth} {p : List Prt} (hl : inB p.length 1 6 = true) (h : ∀ j, j < p.length → okPrt ps (prAt p j) = true) : isPlan ps p = coversP ps (stgsOf p) := by
  unfold isPlan
  have : p.all (okPrt ps) = true := List.all_eq_true.2 fun q hq => by
    obtain ⟨j, hj, rfl⟩ := List.getElem_of_mem hq
    have := h j hj
    rwa [prAt_some (List.getElem?_eq_getElem hj)] at this
  rw [hl, this]
  rfl
theorem isPlan_parts {ps : List Pth} {p : List Prt} (h : isPlan ps p = true) : (1 ≤ p.length ∧ p.length ≤ 6) ∧ arePs ps = true ∧ coversP ps (stgsOf p) = true ∧ ∀ j, j < p.length → okPrt ps (prAt p j) = true := by
  unfold isPlan at h
  rw [Bool.and_eq_true, Bool.and_eq_true] at h
  obtain ⟨⟨h1, h2⟩, h3⟩ := h
  have := inB_t h1
  refine ⟨by omega, ?_, h3, fun j hj => List.all_eq_true.1 h2 _ (prAt_mem hj)⟩
  unfold coversP at h3
  rw [Bool.and_eq_true] at h3
  exact h3.2
theorem okPrt_parts {ps : List Pth} {q : Prt} (h : okPrt ps q = true) : q.stage.length ≠ 0 ∧ isTog ps q.stage = true ∧ leastG ps q.stage ≤ q.green ∧ q.green ≤ 60 := by
  unfold okPrt at h
  rw [Bool.and_eq_true, Bool.and_eq_true] at h
  obtain ⟨⟨h1, h2⟩, h3⟩ := h
  have := inB_t h3
  exact ⟨by simpa using h1, h2, this⟩
/-- the part behind this one. -/
def nextJ (p : List Prt) (j : Nat) : Nat := (j + 1) % p.length
theorem nextJ_lt {p : List Prt} {j : Nat} (h : 0 < p.length) : nextJ p j < p.length := Nat.mod_lt _ h
/-- how long a part clears, and how long it lasts. -/
def clrAt (ps : List Pth) (p : List Prt) (j : Nat) : Int := clrB ps (prAt p j).stage (prAt p (nextJ p j)).stage
def longAt (ps : List Pth) (p : List Prt) (j : Nat) : Int := (prAt p j).green + clrAt ps p j
def sumTo (ps : List Pth) (p : List Prt) : Nat → Int
  | 0 => 0
  | k + 1 => sumTo ps p k + longAt ps p k
theorem clrAt_bound (ps : List Pth) (p : List Prt) (j : Nat) : 0 ≤ clrAt ps p j ∧ clrAt ps p j ≤ 5 := clrB_bound _ _ _
theorem longAt_bound {ps : List Pth} {p : List Prt} (h : isPlan ps p = true) {j : Nat} (hj : j < p.length) : 5 ≤ longAt ps p j ∧ longAt ps p j ≤ 65 := by
  obtain ⟨_, _, _, h4⟩ := isPlan_parts h
  obtain ⟨_, _, h5, h6⟩ := okPrt_parts (h4 j hj)
  have := leastG_bound ps (prAt p j).stage
  have := clrAt_bound ps p j
  unfold longAt
  omega
theorem sumTo_bound {ps : List Pth} {p : List Prt} (h : isPlan ps p = true) : ∀ k, k ≤ p.length → 5 * k ≤ sumTo ps p k ∧ sumTo ps p k ≤ 65 * k
  | 0, _ => by simp [sumTo]
  | k + 1, hk => by
    have ih := sumTo_bound h k (by omega)
    have := longAt_bound h (show k < p.length by omega)
    unfold sumTo
    omega
/-- what Cycle answers. -/
def cycleP (ps : List Pth) (p : List Prt) : Int := if isPlan ps p then sumTo ps p p.length else 0
theorem cycle_yes {ps : List Pth} {p : List Prt} (h : isPlan ps p = true) : cycleP ps p = sumTo ps p p.length := by unfold cycleP; rw [h]; rfl
theorem cycle_no {ps : List Pth} {p : List Prt} (h : isPlan ps p = false) : cycleP ps p = 0 := by unfold cycleP; rw [h]; rfl
theorem cycle_bound {ps : List Pth} {p : List Prt} (h : isPlan ps p = true) : 5 ≤ cycleP ps p ∧ cycleP ps p ≤ 390 := by
  obtain ⟨⟨h1, h2⟩, _⟩ := isPlan_parts h
  have := sumTo_bound h p.length (Nat.le_refl _)
  rw [cycle_yes h]
  omega
/-- what StartOf answers. -/
def startP (ps : List Pth) (p : List Prt) (i : Int) : Int := if isPlan ps p && inB i 0 ((p.length : Int) - 1) then sumTo ps p i.toNat else -1
/-- the parts of the plan for these paths. -/
def forP (ps : List Pth) : List Prt := (coverP ps).map fun zs => ⟨zs, leastG ps zs⟩
/-- what PlanFor answers. -/
def planFor (ps : List Pth) : List Prt := if isPlan ps (forP ps) then forP ps else []

/-! By sets. -/
theorem clr_maskL {ps : List Pth} {a b : List Int} (h1 : isTog ps a = true) (h2 : isTog ps b = true) : clrS ps (rowSt ps ps.length 0) (maskL ps a) (maskL ps b) = clrB ps a b := by
  obtain ⟨ha, a1, a2, a3, _⟩ := tog_maskL h1
  obtain ⟨_, b1, b2, b3, _⟩ := tog_maskL h2
  have := clr_mask ha a1 b1 a3 b3
  rw [← a2, ← b2] at this
  exact this.symm
theorem maskL_empty {ps : List Pth} {zs : List Int} (h : isTog ps zs = true) : maskL ps zs = 0 ↔ zs.length = 0 := by
  obtain ⟨ha, h1, h2, _, _⟩ := tog_maskL h
  have h12 := arePs_len12 ha
  constructor
  · intro e
    rw [h2, e]
    unfold idsM
    rw [idxs_zero]
    rfl
  · intro e
    apply mask_ext
    intro j
    rw [Nat.zero_testBit, Bool.eq_false_iff]
    intro hb
    have hz : zs = [] := List.eq_nil_of_length_eq_zero e
    have : idAt ps j ∈ idsM ps (maskL ps zs) := (idsM_mem h12 h1 _).2 ⟨j, hb, rfl⟩
    rw [← h2, hz] at this
    cases this
/-- a phase of the program's. -/
structure Phs where
  opn : Nat
  nxt : Nat
  green : Int
  clr : Int
  least : Int
def Phs.cells (f : Phs) : List Value := [.int .u16 (f.opn : Nat), .int .u16 (f.nxt : Nat), .int .i64 f.green, .int .i64 f.clr, .int .i64 f.least]
/-- the j-th phase of a plan. -/
def phsAt (ps : List Pth) (p : List Prt) (j : Nat) : Phs := ⟨maskL ps (prAt p j).stage, maskL ps (prAt p (nextJ p j)).stage, (prAt p j).green, clrAt ps p j, leastG ps (prAt p j).stage⟩
/-- the first k phases, and when each begins. -/
def phsTo (ps : List Pth) (p : List Prt) (k : Nat) : List Phs := (List.range k).map (phsAt ps p)
def begTo (ps : List Pth) (p : List Prt) (k : Nat) : List Int := (List.range k).map fun j => sumTo ps p j
theorem phsTo_len (ps : List Pth) (p : List Prt) (k : Nat) : (phsTo ps p k).length = k := by simp [phsTo]
theorem begTo_len (ps : List Pth) (p : List Prt) (k : Nat) : (begTo ps p k).length = k := by simp [begTo]
theorem phsTo_succ (ps : List Pth) (p : List Prt) (k : Nat) : phsTo ps p (k + 1) = phsTo ps p k ++ [phsAt ps p k] := by simp [phsTo, List.range_succ]
theorem begTo_succ (ps : List Pth) (p : List Prt) (k : Nat) : begTo ps p (k + 1) = begTo ps p k ++ [sumTo ps p k] := by simp [begTo, List.range_succ]
theorem begTo_at (ps : List Pth) (p : List Prt) {j k : Nat} (h : j < k) : (begTo ps p k).getD j 0 = sumTo ps p j := by
  unfold begTo
  rw [List.getD_eq_getElem?_getD, List.getElem?_map, List.getElem?_range h]
  rfl
end Go.Proofs.YtblilnfkpfjclaaDoor

/- Chapter 9's lights as Lean data. No walk. -/
namespace Go.Proofs.YtblilnfkpfjclaaDoor
open Go.RowKit
set_option linter.unusedVariables false

/-- the last part that has begun at s, of those up to k. -/
def locD (ps : List Pth) (p : List Prt) (s : Int) : Nat → Nat
  | 0 => 0
  | k + 1 => if sumTo ps p (k + 1) ≤ s then k + 1 else locD ps p s k
theorem locD_le (ps : List Pth) (p : List Prt) (s : Int) : ∀ k, locD ps p s k ≤ k
  | 0 => Nat.le_refl _
  | k + 1 => by
    unfold locD
    split
    · exact Nat.le_refl _
    · exact Nat.le_succ_of_le (locD_le ps p s k)
theorem locD_here {ps : List Pth} {p : List Prt} {s : Int} {k : Nat} (h : sumTo ps p k ≤ s) : locD ps p s k = k := by
  cases k with
  | zero => rfl
  | succ k => unfold locD; rw [if_pos h]
theorem locD_down {ps : List Pth} {p : List Prt} {s : Int} {k : Nat} (h : s < sumTo ps p (k + 1)) : locD ps p s (k + 1) = locD ps p s k := by
  conv => lhs; unfold locD
  rw [if_neg (by omega)]
theorem sumTo_mono {ps : List Pth} {p : List Prt} (h : isPlan ps p = true) {i : Nat} : ∀ {j : Nat}, i ≤ j → j ≤ p.length → sumTo ps p i ≤ sumTo ps p j
  | 0, h1, _ => by
    obtain rfl : i = 0 := by omega
    exact Int.le_refl _
  | j + 1, h1, h2 => by
    by_cases e : i = j + 1
    · rw [e]; exact Int.le_refl _
    · have ih := sumTo_mono h (i := i) (j := j) (by omega) (by omega)
      have := longAt_bound h (show j < p.length by omega)
      show sumTo ps p i ≤ sumTo ps p j + longAt ps p j
      omega
theorem locD_eq {ps : List Pth} {p : List Prt} (h : isPlan ps p = true) {s : Int} {i : Nat} (h1 : sumTo ps p i ≤ s) (h2 : s < sumTo ps p (i + 1)) : ∀ {k : Nat}, i ≤ k → k < p.length → locD ps p s k = i
  | 0, hi, _ => by
    obtain rfl : i = 0 := by omega
    rfl
  | k + 1, hi, hk => by
    by_cases e : i = k + 1
    · subst e
      exact locD_here h1
    · have := sumTo_mono h (i := i + 1) (j := k + 1) (by omega) (by omega)
      rw [locD_down (by omega)]
      exact locD_eq h h1 h2 (by omega) (by omega)
def locP (ps : List Pth) (p : List Prt) (s : Int) : Nat := locD ps p s (p.length - 1)
theorem locP_lt {ps : List Pth} {p : List Prt} (h : isPlan ps p = true) (s : Int) : locP ps p s < p.length := by
  obtain ⟨⟨h1, _⟩, _⟩ := isPlan_parts h
  have := locD_le ps p s (p.length - 1)
  unfold locP
  omega
theorem locD_spec {ps : List Pth} {p : List Prt} {s : Int} (h0 : 0 ≤ s) : ∀ {k : Nat}, s < sumTo ps p (k + 1) → sumTo ps p (locD ps p s k) ≤ s ∧ s < sumTo ps p (locD ps p s k + 1)
  | 0, h => ⟨h0, h⟩
  | k + 1, h => by
    by_cases e : sumTo ps p (k + 1) ≤ s
    · rw [locD_here e]; exact ⟨e, h⟩
    · rw [locD_down (by omega)]
      exact locD_spec h0 (by omega)
theorem locP_spec {ps : List Pth} {p : List Prt} (h : isPlan ps p = true) {s : Int} (h0 : 0 ≤ s) (h1 : s < sumTo ps p p.length) : sumTo ps p (locP ps p s) ≤ s ∧ s < sumTo ps p (locP ps p s) + longAt ps p (locP ps p s) := by
  obtain ⟨⟨h2, _⟩, _⟩ := isPlan_parts h
  exact locD_spec h0 (k := p.length - 1) (by rw [Nat.sub_add_cancel h2]; exact h1)
/-- what PartAt answers. -/
def partP (ps : List Pth) (p : List Prt) (t : Int) : Int × Int :=
  if isPlan ps p && inB t 0 1000000 then ((locP ps p (t % sumTo ps p p.length) : Int), t % sumTo ps p p.length - sumTo ps p (locP ps p (t % sumTo ps p p.length))) else (-1, 0)
/-- what a part shows to a path, so many seconds after it began. -/
def lightJ (ps : List Pth) (p : List Prt) (j : Nat) (s : Int) (id : Int) : Int :=
  if hasI (prAt p j).stage id then (if decide (s < (prAt p j).green) || hasI (prAt p (nextJ p j)).stage id then 1 else if s < (prAt p j).green + clearN (idP ps id) then 2 else 0) else 0
theorem lightJ_bound (ps : List Pth) (p : List Prt) (j : Nat) (s : Int) (id : Int) : 0 ≤ lightJ ps p j s id ∧ lightJ ps p j s id ≤ 2 := by
  unfold lightJ
  split
  · split
    · omega
    · split <;> omega
  · omega
/-- what LightAt answers. -/
def lightP (ps : List Pth) (p : List Prt) (t id : Int) : Int :=
  if isPlan ps p && inB t 0 1000000 && (findK id ps).isSome then lightJ ps p (locP ps p (t % sumTo ps p p.length)) (t % sumTo ps p p.length - sumTo ps p (locP ps p (t % sumTo ps p p.length))) id else 0
theorem lightP_bound (ps : List Pth) (p : List Prt) (t id : Int) : 0 ≤ lightP ps p t id ∧ lightP ps p t id ≤ 2 := by
  unfold lightP
  split
  · exact lightJ_bound _ _ _ _ _
  · omega
/-- what LightsAt answers. -/
def lightsP (ps : List Pth) (p : List Prt) (t : Int) : List Int := ps.map fun q => lightP ps p t q.id
/-- the lights of one part. -/
def rowJ (ps : List Pth) (p : List Prt) (id : Int) (j : Nat) : List Int := (List.range (longAt ps p j).toNat).map fun (s : Nat) => lightJ ps p j s id
theorem rowJ_len (ps : List Pth) (p : List Prt) (id : Int) (j : Nat) : (rowJ ps p id j).length = (longAt ps p j).toNat := by simp [rowJ]
/-- the lights of the first k parts. -/
def rowTo (ps : List Pth) (p : List Prt) (id : Int) : Nat → List Int
  | 0 => []
  | k + 1 => rowTo ps p id k ++ rowJ ps p id k
theorem rowTo_len {ps : List Pth} {p : List Prt} (h : isPlan ps p = true) (id : Int) : ∀ k, k ≤ p.length → ((rowTo ps p id k).length : Int) = sumTo ps p k
  | 0, _ => rfl
  | k + 1, hk => by
    have ih := rowTo_len h id k (by omega)
    have := longAt_bound h (show k < p.length by omega)
    show (((rowTo ps p id k ++ rowJ ps p id k).length : Nat) : Int) = sumTo ps p k + longAt ps p k
    rw [List.length_append, rowJ_len]
    omega
/-- the lights of one cycle. -/
def rowP (ps : List Pth) (p : List Prt) (id : Int) : List Int := if isPlan ps p && (findK id ps).isSome then rowTo ps p id p.length else []
theorem rowTo_at {ps : List Pth} {p : List Prt} (h : isPlan ps p = true) (id : Int) {j : Nat} {x : Nat} (hx : (x : Int) < longAt ps p j) : ∀ k, j < k → k ≤ p.length → (rowTo ps p id k).getD ((sumTo ps p j).toNat + x) 0 = lightJ ps p j x id
  | 0, hj, _ => absurd hj (by omega)
  | k + 1, hj, hk => by
    have hl := rowTo_len h id k (by omega)
    have hj0 := (sumTo_bound h j (by omega)).1
    show (rowTo ps p id k ++ rowJ ps p id k).getD _ 0 = _
    by_cases e : j = k
    · subst e
      rw [List.getD_eq_getElem?_getD, List.getElem?_append_right (by omega), show (sumTo ps p j).toNat + x - (rowTo ps p id j).length = x by omega]
      unfold rowJ
      rw [List.getElem?_map, List.getElem?_range (by omega)]
      rfl
    · have ih := rowTo_at h id hx k (by omega) (by omega)
      have hm := sumTo_mono h (i := j + 1) (j := k) (by omega) (by omega)
      have hs : sumTo ps p (j + 1) = sumTo ps p j + longAt ps p j := rfl
      rw [List.getD_eq_getElem?_getD, List.getElem?_append_left (by omega), ← List.getD_eq_getElem?_getD]
      exact ih
/-- a cycle's second shows what LightAt says. -/
theorem row_light {ps : List Pth} {p : List Prt} (h : isPlan ps p = true) (id : Int) {s : Int} (h0 : 0 ≤ s) (h1 : s < sumTo ps p p.length) : (rowTo ps p id p.length).getD s.toNat 0 = lightJ ps p (locP ps p s) (s - sumTo ps p (locP ps p s)) id := by
  obtain ⟨h2, h3⟩ := locP_spec h h0 h1
  have hl := locP_lt h s
  have hb := (sumTo_bound h (locP ps p s) (by omega)).1
  generalize locP ps p s = j at *
  obtain ⟨x, hx⟩ : ∃ x : Nat, s - sumTo ps p j = x := ⟨(s - sumTo ps p j).toNat, by omega⟩
  rw [hx, ← rowTo_at h id (x := x) (by omega) p.length hl (Nat.le_refl _)]
  congr 1
  omega
theorem lightP_row {ps : List Pth} {p : List Prt} (h : isPlan ps p = true) {t id : Int} (ht : inB t 0 1000000 = true) (hid : (findK id ps).isSome = true) : lightP ps p t id = (rowP ps p id).getD (t % sumTo ps p p.length).toNat 0 := by
  have hc := sumTo_bound h p.length (Nat.le_refl _)
  obtain ⟨⟨h1, _⟩, _⟩ := isPlan_parts h
  have := inB_t ht
  unfold lightP rowP
  rw [h, ht, hid]
  simp only [Bool.and_self, if_true]
  rw [row_light h id (Int.emod_nonneg _ (by omega)) (Int.emod_lt_of_pos _ (by omega))]
/-- what GreenOf answers. -/
def greenP (ps : List Pth) (p : List Prt) (id : Int) : Int := ((rowP ps p id).filter fun x => decide (x = 1)).length
/-- for how many seconds there was no green, at the second k of this row gone through again and again, and the greatest till then. -/
def waitTo (r : List Int) : Nat → Int × Int
  | 0 => (0, 0)
  | k + 1 => (if r.getD (k % r.length) 0 = 1 then 0 else (waitTo r k).1 + 1, maxI (waitTo r k).2 (if r.getD (k % r.length) 0 = 1 then 0 else (waitTo r k).1 + 1))
theorem waitTo_bound (r : List Int) : ∀ k : Nat, (0 ≤ (waitTo r k).1 ∧ (waitTo r k).1 ≤ k) ∧ (0 ≤ (waitTo r k).2 ∧ (waitTo r k).2 ≤ k)
  | 0 => by simp [waitTo]
  | k + 1 => by
    obtain ⟨⟨h1, h2⟩, h3, h4⟩ := waitTo_bound r k
    unfold waitTo maxI
    simp only
    constructor
    · split <;> omega
    · split <;> split <;> omega
/-- what WaitOf answers. -/
def waitP (ps : List Pth) (p : List Prt) (id : Int) : Int := minI (waitTo (rowP ps p id) (2 * (rowP ps p id).length)).2 (rowP ps p id).length
/-- a green within the last seconds bounds the wait. -/
theorem wait_since {r : List Int} {g : Nat} (hg : r.getD (g % r.length) 0 = 1) : ∀ d : Nat, (waitTo r (g + 1 + d)).1 ≤ d
  | 0 => by
    show (if r.getD (g % r.length) 0 = 1 then (0 : Int) else _) ≤ 0
    rw [if_pos hg]
    exact Int.le_refl _
  | d + 1 => by
    have ih := wait_since hg d
    show (if r.getD ((g + 1 + d) % r.length) 0 = 1 then (0 : Int) else (waitTo r (g + 1 + d)).1 + 1) ≤ _
    split <;> omega
theorem wait_le {r : List Int} {g : Nat} (hgl : g < r.length) (hg : r.getD g 0 = 1) (k : Nat) : (waitTo r k).1 ≤ r.length := by
  by_cases h : k ≤ r.length
  · have := (waitTo_bound r k).1.2
    omega
  · obtain ⟨q, hq⟩ : ∃ q, q * r.length + g < k ∧ k ≤ q * r.length + g + r.length := by
      refine ⟨(k - 1 - g) / r.length, ?_, ?_⟩
      · have := Nat.div_mul_le_self (k - 1 - g) r.length
        omega
      · have := Nat.lt_div_mul_add (a := k - 1 - g) (b := r.length) (by omega)
        omega
    obtain ⟨d, hd⟩ : ∃ d, k = q * r.length + g + 1 + d := ⟨k - (q * r.length + g + 1), by omega⟩
    have e : (q * r.length + g) % r.length = g := by rw [Nat.mul_comm, Nat.mul_add_mod, Nat.mod_eq_of_lt hgl]
    have := wait_since (r := r) (g := q * r.length + g) (by rw [e]; exact hg) d
    rw [← hd] at this
    omega
theorem wait_most {r : List Int} {g : Nat} (hgl : g < r.length) (hg : r.getD g 0 = 1) : ∀ k : Nat, (waitTo r k).2 ≤ r.length
  | 0 => by simp [waitTo]
  | k + 1 => by
    have ih := wait_most hgl hg k
    have h2 := wait_le hgl hg (k + 1)
    have e : (waitTo r (k + 1)).2 = maxI (waitTo r k).2 (waitTo r (k + 1)).1 := rfl
    rw [e]
    unfold maxI
    split
    · exact h2
    · exact ih
/-- each path of a plan has a green second. -/
theorem row_green {ps : List Pth} {p : List Prt} (h : isPlan ps p = true) {id : Int} (hid : (findK id ps).isSome = true) : ∃ g, g < (rowTo ps p id p.length).length ∧ (rowTo ps p id p.length).getD g 0 = 1 := by
  obtain ⟨_, _, hc, hok⟩ := isPlan_parts h
  obtain ⟨k, hk⟩ := Option.isSome_iff_exists.1 hid
  obtain ⟨hkl, hke⟩ := idAt_find hk
  unfold coversP at hc
  rw [Bool.and_eq_true, Bool.and_eq_true] at hc
  have := List.all_eq_true.1 hc.1.2 k (List.mem_range.2 hkl)
  unfold inSome at this
  obtain ⟨zs, hz, hh⟩ := List.any_eq_true.1 this
  obtain ⟨q, hq, rfl⟩ := List.mem_map.1 hz
  obtain ⟨j, hj, rfl⟩ := List.getElem_of_mem hq
  have e := prAt_some (List.getElem?_eq_getElem hj)
  obtain ⟨_, _, hg, _⟩ := okPrt_parts (hok j hj)
  have hlb := leastG_bound ps (prAt p j).stage
  have hl := longAt_bound h hj
  have ha := rowTo_at h id (j := j) (x := 0) (by omega) p.length hj (Nat.le_refl _)
  have hsz := rowTo_len h id p.length (Nat.le_refl _)
  have hs : sumTo ps p (j + 1) = sumTo ps p j + longAt ps p j := rfl
  have hm := sumTo_mono h (i := j + 1) (j := p.length) (by omega) (Nat.le_refl _)
  have hb := (sumTo_bound h j (by omega)).1
  refine ⟨(sumTo ps p j).toNat + 0, by omega, ?_⟩
  rw [ha]
  unfold lightJ
  have e2 : hasI (prAt p j).stage id = true := by rw [e, ← hke]; exact hh
  rw [e2, if_pos rfl, decide_eq_true (by omega)]
  rfl
/-- what the program's longestWait answers. -/
theorem wait_plain (ps : List Pth) (p : List Prt) (id : Int) : waitP ps p id = (waitTo (rowP ps p id) (2 * (rowP ps p id).length)).2 := by
  unfold waitP
  have : (waitTo (rowP ps p id) (2 * (rowP ps p id).length)).2 ≤ (rowP ps p id).length := by
    unfold rowP
    split
    · rename_i h
      rw [Bool.and_eq_true] at h
      obtain ⟨g, h1, h2⟩ := row_green h.1 h.2
      exact wait_most h1 h2 _
    · simp [waitTo]
  unfold minI
  split
  · omega
  · rfl
/-- what IsSafeLights answers. -/
def safeAt (ps : List Pth) (ls : List Int) (i : Nat) : Bool := inB (ls.getD i 0) 0 2 && (List.range i).all fun k => !(decide (ls.getD i 0 ≠ 0) && decide (ls.getD k 0 ≠ 0) && conf (pAt ps i) (pAt ps k))
def safeP (ps : List Pth) (ls : List Int) : Bool := arePs ps && decide (ls.length = ps.length) && (List.range ps.length).all (safeAt ps ls)
theorem safe_no {ps : List Pth} {ls : List Int} {i : Nat} (hi : i < ps.length) (h : safeAt ps ls i = false) : safeP ps ls = false := by
  unfold safeP
  have : (List.range ps.length).all (safeAt ps ls) = false := by
    rw [Bool.eq_false_iff]
    intro ha
    have := List.all_eq_true.1 ha i (List.mem_range.2 hi)
    rw [h] at this
    cases this
  rw [this]
  simp
theorem safe_end {ps : List Pth} {ls : List Int} (ha : arePs ps = true) (hl : ls.length = ps.length) (h : ∀ i, i < ps.length → safeAt ps ls i = true) : safeP ps ls = true := by
  unfold safeP
  have : (List.range ps.length).all (safeAt ps ls) = true := List.all_eq_true.2 fun k hk => h k (List.mem_range.1 hk)
  rw [ha, this, decide_eq_true hl]
  rfl
/-- the set of what is shown. -/
def shownM (ls : List Int) (k : Nat) : Nat := maskF (fun j => decide (ls.getD j 0 ≠ 0)) k
theorem shownM_lt (ls : List Int) (k : Nat) : shownM ls k < 2 ^ k := maskF_lt _ _
theorem shownM_succ (ls : List Int) (k : Nat) : shownM ls (k + 1) = if ls.getD k 0 = 0 then shownM ls k else shownM ls k ||| 2 ^ k := by
  show shownM ls k ||| (if decide (ls.getD k 0 ≠ 0) then 2 ^ k else 0) = _
  by_cases h : ls.getD k 0 = 0
  · rw [if_pos h, if_neg (by simp; exact h), Nat.or_zero]
  · rw [if_neg h, if_pos (by simp; exact h)]
theorem safe_mask {ps : List Pth} {ls : List Int} (ha : arePs ps = true) (hl : ls.length = ps.length) (hin : ∀ i, i < ps.length → inB (ls.getD i 0) 0 2 = true) : safeP ps ls = true ↔ freeM ps (shownM ls ps.length) := by
  have h12 := arePs_len12 ha
  rw [free_iff (shownM_lt _ _) h12]
  have hb : ∀ j, (shownM ls ps.length).testBit j = (decide (j < ps.length) && decide (ls.getD j 0 ≠ 0)) := fun j => maskF_bit _ _ _
  unfold safeP
  rw [ha, decide_eq_true hl, Bool.true_and, Bool.true_and, List.all_eq_true]
  constructor
  · intro h a b h1 h2
    rw [hb, Bool.and_eq_true, decide_eq_true_eq, decide_eq_true_eq] at h1 h2
    rcases Nat.lt_trichotomy a b with hab | hab | hab
    · have := h b (List.mem_range.2 h2.1)
      unfold safeAt at this
      rw [Bool.and_eq_true] at this
      have := List.all_eq_true.1 this.2 a (List.mem_range.2 hab)
      rw [decide_eq_true h1.2, decide_eq_true h2.2, conf_symm] at this
      simpa using this
    · subst hab; exact conf_self _
    · have := h a (List.mem_range.2 h1.1)
      unfold safeAt at this
      rw [Bool.and_eq_true] at this
      have := List.all_eq_true.1 this.2 b (List.mem_range.2 hab)
      rw [decide_eq_true h1.2, decide_eq_true h2.2] at this
      simpa using this
  · intro h i hi
    have hi := List.mem_range.1 hi
    unfold safeAt
    rw [hin i hi, Bool.true_and, List.all_eq_true]
    intro k hk
    have hk := List.mem_range.1 hk
    by_cases e1 : ls.getD i 0 = 0
    · rw [decide_eq_false (by simpa using e1)]; rfl
    · by_cases e2 : ls.getD k 0 = 0
      · rw [decide_eq_true e1, decide_eq_false (by simpa using e2)]; rfl
      · rw [h i k (by rw [hb, decide_eq_true hi, decide_eq_true e1]; rfl) (by rw [hb, decide_eq_true (show k < ps.length by omega), decide_eq_true e2]; rfl)]
        simp
end Go.Proofs.YtblilnfkpfjclaaDoor

/- IsSafeLights: the model and the program. -/
namespace Go.Proofs.YtblilnfkpfjclaaDoor
open Go.RowKit
set_option linter.unusedVariables false

theorem safe_off {ps : List Pth} {ls : List Int} (h : (arePs ps && decide (ls.length = ps.length)) = false) : safeP ps ls = false := by unfold safeP; rw [h]; rfl
theorem safe_pair {ps : List Pth} {ls : List Int} {i k : Nat} (hk : k < i) (h1 : ls.getD i 0 ≠ 0) (h2 : ls.getD k 0 ≠ 0) (h3 : conf (pAt ps i) (pAt ps k) = true) : safeAt ps ls i = false := by
  unfold safeAt
  have : (List.range i).all (fun k => !(decide (ls.getD i 0 ≠ 0) && decide (ls.getD k 0 ≠ 0) && conf (pAt ps i) (pAt ps k))) = false := by
    rw [Bool.eq_false_iff]
    intro ha
    have := List.all_eq_true.1 ha k (List.mem_range.2 hk)
    rw [decide_eq_true h1, decide_eq_true h2, h3] at this
    cases this
  rw [this, Bool.and_false]
def pairOk (ps : List Pth) (ls : List Int) (i k : Nat) : Bool := !(decide (ls.getD i 0 ≠ 0) && decide (ls.getD k 0 ≠ 0) && conf (pAt ps i) (pAt ps k))
theorem safe_at {ps : List Pth} {ls : List Int} {i : Nat} (h0 : inB (ls.getD i 0) 0 2 = true) (h : ∀ k, k < i → pairOk ps ls i k = true) : safeAt ps ls i = true := by
  unfold safeAt
  rw [h0, Bool.true_and]
  exact List.all_eq_true.2 fun k hk => h k (List.mem_range.1 hk)
set_option maxHeartbeats 4000000 in
theorem spec_IsSafeLights (A : Option Addr) (n c B : Nat) (ps : List Pth) (A2 : Option Addr) (n2 c2 B2 : Nat) (ls : List Int) (w : World) (h : PthsAt w B A n ps) (hB : B ≤ w.heap.size) (hn : n ≤ 4294967296) (h2 : IntsAt .i64 w B2 A2 n2 ls) (hB2 : B2 ≤ w.heap.size) (hn2 : n2 ≤ 4294967296) :
    Calls Tryd.prog 14 #[.slice A n c, .slice A2 n2 c2] w fun e w' => e = .returned (.bool (safeP ps ls)) ∧ Below w.heap.size w w' := by
  have hl := h.1
  have hl2 := h2.1
  have HAP := Lib.hid (spec_ArePaths A n c B ps w h hB hn)
  have HOF := Lib.hid (fun hh => safe_off (ps := ps) (ls := ls) hh)
  have H := Lib.hid h
  have H2 := Lib.hid h2
  clear h h2
  cases ha : arePs ps
  · have HR := Lib.hid (HOF.out (by rw [ha]; rfl))
    rw [ha] at HAP
    clear ha
    go_enter Tryd.func14, Tryd.ntmps14
    go_wp2_with fail
    refine HAP.out.mono ?_
    rintro e w1 ⟨rfl, hb⟩
    go_wp2
    go_ret
    exact ⟨by rw [HR.out]; try rfl, hb⟩
  · rw [ha] at HAP
    by_cases hne : n2 = n
    rotate_left
    · have HR := Lib.hid (HOF.out (by rw [ha, decide_eq_false (by omega)]; rfl))
      have HH := Lib.hid hne
      clear ha
      have e1 : ((n2 : Int) == (n : Int)) = false := beq_eq_false_iff_ne.2 (by omega)
      go_enter Tryd.func14, Tryd.ntmps14
      go_wp2_with fail
      refine HAP.out.mono ?_
      rintro e w1 ⟨rfl, hb⟩
      go_wp2
      go_ret
      exact ⟨by rw [HR.out]; try rfl, hb⟩
    · subst hne
      have HNO := Lib.hid (fun i (hi : i < n2) hh => safe_no (ps := ps) (ls := ls) (i := i) (by omega) hh)
      have HEND := Lib.hid (fun (hh : ∀ i, i < n2 → safeAt ps ls i = true) => safe_end (ps := ps) (ls := ls) ha (by omega) (fun i hi => hh i (by omega)))
      clear ha hl hl2
      go_enter Tryd.func14, Tryd.ntmps14
      go_wp2_with fail
      refine HAP.out.mono ?_
      rintro e w1 ⟨rfl, hb1⟩
      have HB1 := Lib.hid hb1
      clear hb1
      go_wp2
      go_loopw [5] (fun i wr => ∃ k : Nat, k ≤ n2 ∧ i = .int .i64 k ∧ (∀ j, j < k → safeAt ps ls j = true) ∧ Below w.heap.size w wr) (fun i _ => n2 - (intOf i).toNat)
      case atStart => exact ⟨0, Nat.zero_le _, rfl, fun j hj => absurd hj (by omega), HB1.out⟩
      case round =>
        clear HB1
        obtain ⟨k, hk, rfl, hgo, hbl⟩ := hrel
        have HG := Lib.hid hgo
        have HBL := Lib.hid hbl
        clear hgo hbl
        by_cases hlt : k < n2
        · obtain ⟨ad2, rfl, hab2, hcell⟩ := H2.out.2 (by omega)
          have HC := Lib.hid (fun x (hx : Below w.heap.size w x) j (hj : j < n2) => (hx.cell (p := ad2.add j) (by rw [add_block]; omega)).trans (hcell j hj))
          have hc := HC.out wr HBL.out k hlt
          have HNK := Lib.hid (HNO.out k hlt)
          have i1 : (0 : Int) ≤ (k : Int) := by omega
          have i2 : (k : Int) < (n2 : Int) := by omega
          obtain ⟨z, hz⟩ : ∃ z, ls.getD k 0 = z := ⟨_, rfl⟩
          have HZ := Lib.hid hz
          rw [hz] at hc
          clear hcell hz
          cases hin : inB z 0 2
          · have HR := Lib.hid (HNK.out (by unfold safeAt; rw [HZ.out, hin]; rfl))
            have HIN := Lib.hid hin
            clear hin
            go_wp2_with fail
            refine (spec_l1In _ _ _ _).mono ?_
            rw [HIN.out]
            rintro e w2 ⟨rfl, rfl⟩
            go_wp2
            go_ret
            exact ⟨by rw [HR.out]; try rfl, HBL.out⟩
          · have HIN := Lib.hid hin
            clear hin
            obtain ⟨ad, p, rfl, hab, hp, hq⟩ := H.out.at hlt
            have HQ := Lib.hid hq
            have HPK : Hid (pAt ps k = p) := Lib.hid (pAt_some hp)
            have HG1 : Hid ((∀ m, m < k → pairOk ps ls k m = true) → ∀ j, j < k + 1 → safeAt ps ls j = true) := Lib.hid (fun hh j hj => by
              by_cases e : j = k
              · subst e; exact safe_at (by rw [HZ.out]; exact HIN.out) hh
              · exact HG.out j (by omega))
            clear hp hq
            go_wp2_with fail
            refine (spec_l1In _ _ _ _).mono ?_
            rw [HIN.out]
            rintro e w2 ⟨rfl, rfl⟩
            obtain ⟨wo, rfl⟩ : ∃ wo : World, wo = wr := ⟨_, rfl⟩
            clear hc
            go_wp2
            go_loopw [6] (fun i wr => ∃ m : Nat, m ≤ k ∧ i = .int .i64 m ∧ (∀ j, j < m → pairOk ps ls k j = true) ∧ Below w.heap.size w wr) (fun i _ => k - (intOf i).toNat)
            case atStart => exact ⟨0, Nat.zero_le _, rfl, fun j hj => absurd hj (by omega), HBL.out⟩
            case round =>
              clear HBL
              obtain ⟨m, hm, rfl, hgo, hbl⟩ := hrel
              have HGM := Lib.hid hgo
              have HBM := Lib.hid hbl
              have hszm := hbl.size
              clear hgo hbl
              by_cases hlm : m < k
              · obtain ⟨ad', p2, e0, hab', hp2, hq2⟩ := H.out.at (show m < n2 by omega)
                injection e0 with e0
                subst e0
                have HPM : Hid (pAt ps m = p2) := Lib.hid (pAt_some hp2)
                have HQ2 := Lib.hid hq2
                obtain ⟨z2, hz2⟩ : ∃ z, ls.getD m 0 = z := ⟨_, rfl⟩
                have HZ2 := Lib.hid hz2
                have hw := HBM.out
                have c1 := fun x : GW wr => (HC.out x.val (hw.trans (x.ok.mono hw.size)) k hlt).trans (by rw [HZ.out])
                have c2 := fun x : GW wr => (HC.out x.val (hw.trans (x.ok.mono hw.size)) m (by omega)).trans (by rw [hz2])
                have HWX := Lib.hid (fun x : GW wr => hw.trans (x.ok.mono hw.size))
                have b0 := fun x : GW wr => (HQ.out.below (HWX.out x) (by omega)).c0
                have b1 := fun x : GW wr => (HQ.out.below (HWX.out x) (by omega)).c1
                have b2 := fun x : GW wr => (HQ.out.below (HWX.out x) (by omega)).c2
                have b3 := fun x : GW wr => (HQ.out.below (HWX.out x) (by omega)).c3
                have q0 := fun x : GW wr => (HQ2.out.below (HWX.out x) (by omega)).c0
                have q1 := fun x : GW wr => (HQ2.out.below (HWX.out x) (by omega)).c1
                have q2 := fun x : GW wr => (HQ2.out.below (HWX.out x) (by omega)).c2
                have q3 := fun x : GW wr => (HQ2.out.below (HWX.out x) (by omega)).c3
                have hcf := fun x : GW wr => spec_Conflict p p2 x.val
                simp only [Pth.val] at hcf
                have HPO : Hid (pairOk ps ls k m = !(decide (z ≠ 0) && decide (z2 ≠ 0) && conf p p2)) := Lib.hid (by unfold pairOk; rw [HZ.out, hz2, HPK.out, HPM.out])
                have HGS : Hid (pairOk ps ls k m = true → ∀ j, j < m + 1 → pairOk ps ls k j = true) := Lib.hid (fun hh j hj => by
                  by_cases e : j = m
                  · subst e; exact hh
                  · exact HGM.out j (by omega))
                have k1 : (0 : Int) ≤ (m : Int) := by omega
                have k2 : (m : Int) < (n2 : Int) := by omega
                have k3 : (m : Int) < (k : Int) := by omega
                clear hw hp2 hq2 hz2
                by_cases hz0 : z = 0
                · have HGN := Lib.hid (HGS.out (by rw [HPO.out, hz0]; rfl))
                  subst hz0
                  go_wp2
                  refine wp_region_grow (by kernel_rfl) (by kernel_rfl) ?_
                  repeat (go_big_quiet_step (first | (go_at_call 25; exact calls_gw _ (hcf _))))
                  refine wpQuiet_nil ?_
                  intro x5
                  have hb5 := HBM.out.trans (x5.ok.mono hszm)
                  clear c1 c2 b0 b1 b2 b3 q0 q1 q2 q3 hcf
                  generalize x5.val = w5 at *
                  go_wp2
                  go_roundw
                  case rel => exact ⟨m + 1, by omega, by go_num, HGN.out, hb5⟩
                  case measure => simp [intOf]; omega
                have e0 : (z != 0) = true := bne_iff_ne.2 hz0
                by_cases hz1 : z2 = 0
                · have HGN := Lib.hid (HGS.out (by rw [HPO.out, hz1, decide_eq_true hz0]; rfl))
                  subst hz1
                  go_wp2
                  refine wp_region_grow (by kernel_rfl) (by kernel_rfl) ?_
                  repeat (go_big_quiet_step (first | (go_at_call 25; exact calls_gw _ (hcf _))))
                  refine wpQuiet_nil ?_
                  intro x5
                  have hb5 := HBM.out.trans (x5.ok.mono hszm)
                  clear c1 c2 b0 b1 b2 b3 q0 q1 q2 q3 hcf
                  generalize x5.val = w5 at *
                  go_wp2
                  go_roundw
                  case rel => exact ⟨m + 1, by omega, by go_num, HGN.out, hb5⟩
                  case measure => simp [intOf]; omega
                have e2 : (z2 != 0) = true := bne_iff_ne.2 hz1
                cases hcv : conf p p2
                · have HGN := Lib.hid (HGS.out (by rw [HPO.out, hcv, Bool.and_false]; rfl))
                  rw [hcv] at hcf
                  clear hcv
                  go_wp2
                  refine wp_region_grow (by kernel_rfl) (by kernel_rfl) ?_
                  repeat (go_big_quiet_step (first | (go_at_call 25; exact calls_gw _ (hcf _))))
                  refine wpQuiet_nil ?_
                  intro x5
                  have hb5 := HBM.out.trans (x5.ok.mono hszm)
                  clear c1 c2 b0 b1 b2 b3 q0 q1 q2 q3 hcf
                  generalize x5.val = w5 at *
                  go_wp2
                  go_roundw
                  case rel => exact ⟨m + 1, by omega, by go_num, HGN.out, hb5⟩
                  case measure => simp [intOf]; omega
                · have HR := Lib.hid (HNK.out (safe_pair hlm (by rw [HZ.out]; exact hz0) (by rw [HZ2.out]; exact hz1) (by rw [HPK.out, HPM.out]; exact hcv)))
                  rw [hcv] at hcf
                  clear hcv
                  go_wp2
                  refine wp_region_grow (by kernel_rfl) (by kernel_rfl) ?_
                  repeat (go_big_quiet_step (first | (go_at_call 25; exact calls_gw _ (hcf _))))
                  refine wpQuiet_nil ?_
                  intro x5
                  have hb5 := HBM.out.trans (x5.ok.mono hszm)
                  clear c1 c2 b0 b1 b2 b3 q0 q1 q2 q3 hcf
                  generalize x5.val = w5 at *
                  go_wp2
                  go_ret
                  exact ⟨by rw [HR.out]; try rfl, hb5⟩
              · obtain rfl : m = k := by omega
                have HGN := Lib.hid (HG1.out HGM.out)
                go_wp2
                go_roundw
                case rel => exact ⟨m + 1, by omega, by go_num, HGN.out, HBM.out⟩
                case measure => simp [intOf]; omega
        · obtain rfl : k = n2 := by omega
          have HR := Lib.hid (HEND.out HG.out)
          go_wp2
          go_ret
          exact ⟨by rw [HR.out]; try rfl, HBL.out⟩
set_option maxHeartbeats 4000000 in
set_option maxRecDepth 100000 in
theorem impl_IsSafeLights (A : Option Addr) (n c B : Nat) (ps : List Pth) (A2 : Option Addr) (n2 c2 B2 : Nat) (ls : List Int) (w : World) (h : PthsAt w B A n ps) (hB : B ≤ w.heap.size) (hn : n ≤ c ∧ c ≤ maxLen) (hn1 : n ≤ 4294967296) (h2 : IntsAt .i64 w B2 A2 n2 ls) (hB2 : B2 ≤ w.heap.size) (hn2 : n2 ≤ 4294967296) (hw : Brus w) :
    Calls Tryd.prog 18 #[.slice A n c, .slice A2 n2 c2] w fun e w' => e = .returned (.bool (safeP ps ls)) ∧ Below w.heap.size w w' := by
  have hl := h.1
  have hl2 := h2.1
  have HOF := Lib.hid (fun hh => safe_off (ps := ps) (ls := ls) hh)
  have H2 := Lib.hid h2
  have HW := Lib.hid hw
  cases ha : arePs ps
  · have HR := Lib.hid (HOF.out (by rw [ha]; rfl))
    have HC := Lib.hid (impl_crossingOf_no A n c B ps _ h hB hn1 ha)
    clear h hw ha h2
    go_enter Tryd.func18, Tryd.ntmps18
    go_wp2_with fail
    refine HC.out.mono ?_
    rw [cross_lit]
    rintro e w1 ⟨rfl, hb⟩
    have HB1 := Lib.hid hb
    clear hb
    go_wp2
    go_ret
    exact ⟨by rw [HR.out]; try rfl, HB1.out.alloc HB1.out.size _⟩
  · subst hl
    have h12 := arePs_len12 ha
    have hp12 := pow_le12 h12
    have HC := Lib.hid (impl_crossingOf A ps.length c B ps _ h hB hn ha)
    have hln : (xcells A ps.length c (rowSt ps ps.length 0)).length = 13 := xcells_length _ _ _ _
    have hinf : (Tryd.prog.info? 60).map (·.size) = some (xcells A ps.length c (rowSt ps ps.length 0)).length := by rw [hln]; exact info_cross
    have HCL := Lib.hid (cross_lit A ps.length c (rowSt ps ps.length 0))
    have HPE := Lib.hid (fun m hm x hx => impl_isPeaceful A ps.length c (rowSt ps ps.length 0) (rowSt_lt ps ps.length 0) m hm x hx)
    have HNO := Lib.hid (fun i (hi : i < ps.length) hh => safe_no (ps := ps) (ls := ls) (i := i) hi hh)
    have HMK : Hid (n2 = ps.length → (∀ i, i < ps.length → inB (ls.getD i 0) 0 2 = true) → decide (agL (rowSt ps ps.length 0) (idxs (shownM ls ps.length)) &&& shownM ls ps.length = 0) = safeP ps ls) := Lib.hid (fun hh hin => by
      have := safe_mask (ps := ps) (ls := ls) ha (by omega) hin
      cases hs : safeP ps ls
      · exact decide_eq_false (fun q => by rw [this.2 q] at hs; cases hs)
      · exact decide_eq_true (this.1 hs))
    have HOA := Lib.hid (fun (hh : ¬ n2 = ps.length) => HOF.out (by rw [ha, decide_eq_false (by omega)]; rfl))
    have HSL := Lib.hid (shownM_lt ls)
    have HSS := Lib.hid (shownM_succ ls)
    have HS0 : Hid (shownM ls 0 = 0) := Lib.hid rfl
    generalize hxs : xcells A ps.length c (rowSt ps ps.length 0) = xs at *
    generalize hN : ps.length = N at *
    clear h hw ha h2 hxs
    go_enter Tryd.func18, Tryd.ntmps18
    go_wp2_with fail
    refine HC.out.mono ?_
    rw [HCL.out]
    rintro e w1 ⟨rfl, hb⟩
    have hX := heap_alloc_new w1 (.cells xs.toArray 60)
    have hB1 := hb.alloc hb.size (.cells xs.toArray 60)
    have hs2 : w1.heap.size < (w1.alloc (.cells xs.toArray 60)).heap.size := by simp
    obtain ⟨w2, hw2⟩ : ∃ w2, w2 = w1.alloc (.cells xs.toArray 60) := ⟨_, rfl⟩
    rw [← hw2] at hX hB1 hs2
    rw [HCL.out] at hw2
    have HX2 := Lib.hid hX
    have HB2 := Lib.hid hB1
    clear hb HC hX hB1
    by_cases hne : n2 = N
    rotate_left
    · have HR := Lib.hid (HOA.out hne)
      have e1 : ((n2 : Int) == (N : Int)) = false := beq_eq_false_iff_ne.2 (by omega)
      go_wp2
      rw [← hw2]
      go_ret
      exact ⟨by rw [HR.out]; try rfl, HB2.out⟩
    · have HMM := Lib.hid (HMK.out hne)
      have HNE := Lib.hid hne
      subst hne
      go_wp2
      rw [← hw2]
      clear hw2
      go_loopw [7, 26] (fun s i wr => ∃ k : Nat, k ≤ n2 ∧ i = .int .i64 k ∧ s = .int .u16 (shownM ls k : Nat) ∧ (∀ j, j < k → inB (ls.getD j 0) 0 2 = true) ∧ w2 = wr) (fun _ i _ => n2 - (intOf i).toNat)
      case atStart => exact ⟨0, Nat.zero_le _, rfl, by rw [HS0.out]; rfl, fun j hj => absurd hj (by omega), rfl⟩
      case round =>
        obtain ⟨k, hk, rfl, rfl, hgo, rfl⟩ := hrel
        have HG := Lib.hid hgo
        clear hgo
        have hsl := HSL.out k
        have hpk : 2 ^ k ≤ 4096 := Nat.le_trans (Nat.pow_le_pow_right (by decide) hk) hp12
        by_cases hlt : k < n2
        · obtain ⟨ad2, rfl, hab2, hcell⟩ := H2.out.2 (by omega)
          have hc := (HB2.out.cell (p := ad2.add k) (by rw [add_block]; omega)).trans (hcell k hlt)
          have HSK := Lib.hid (HSS.out k)
          have hmb := Lib.hid (fun x => impl_maskBit k x (by omega))
          have hpk1 : 2 ^ k < 4096 := Nat.lt_of_lt_of_le (Nat.pow_lt_pow_right (by decide) hlt) hp12
          have i1 : (0 : Int) ≤ (k : Int) := by omega
          have i2 : (k : Int) < (n2 : Int) := by omega
          have HNK := Lib.hid (HNO.out k hlt)
          have HGK : Hid (inB (ls.getD k 0) 0 2 = true → ∀ j, j < k + 1 → inB (ls.getD j 0) 0 2 = true) := Lib.hid (fun hh j hj => by
            by_cases e : j = k
            · subst e; exact hh
            · exact HG.out j (by omega))
          have HNN : Hid (inB (ls.getD k 0) 0 2 = false → safeP ps ls = false) := Lib.hid (fun hh => HNK.out (by unfold safeAt; rw [hh]; rfl))
          have hob : bits .or .u16 ((shownM ls k : Nat) : Int) ((2 ^ k : Nat) : Int) = ((shownM ls k ||| 2 ^ k : Nat) : Int) := u16_or_nat _ _ (by omega) (by omega)
          clear hcell
          generalize ls.getD k 0 = z at *
          generalize shownM ls k = sk at *
          generalize sk ||| 2 ^ k = y at *
          generalize 2 ^ k = pw at *
          cases hin : inB z 0 2
          · have HR := Lib.hid (HNN.out hin)
            have HIN := Lib.hid hin
            clear hin
            go_wp2_with fail
            refine (impl_InRange _ _ _ _).mono ?_
            rw [HIN.out]
            rintro e w3 ⟨rfl, rfl⟩
            go_wp2
            go_ret
            exact ⟨by rw [HR.out]; try rfl, HB2.out⟩
          · have HG2 := Lib.hid (HGK.out hin)
            have HIN := Lib.hid hin
            clear hin
            by_cases hz : z = 0
            · have HE := Lib.hid (HSK.out.trans (if_pos hz))
              subst hz
              go_wp2_with fail
              refine (impl_InRange _ _ _ _).mono ?_
              rw [HIN.out]
              rintro e w3 ⟨rfl, rfl⟩
              go_wp2
              go_roundw
              case rel => exact ⟨k + 1, by omega, by go_num, by rw [HE.out], HG2.out, trivial⟩
              case measure => simp [intOf]; omega
            · have HE := Lib.hid (HSK.out.trans (if_neg hz))
              have e0 : (z == 0) = false := by simpa using hz
              go_wp2_with fail
              refine (impl_InRange _ _ _ _).mono ?_
              rw [HIN.out]
              rintro e w3 ⟨rfl, rfl⟩
              go_wp2_with fail
              refine (hmb.out _).mono ?_
              rintro e w' ⟨rfl, rfl⟩
              go_wp2
              go_roundw
              case rel => exact ⟨k + 1, by omega, by go_num, by rw [HE.out], HG2.out, trivial⟩
              case measure => simp [intOf]; omega
        · obtain rfl : k = n2 := by omega
          have hrng := range_block HX2.out
          have HP := Lib.hid (HPE.out (shownM ls k) (by omega) w2 (HW.out.below HB2.out (Nat.le_refl _)))
          have HMK2 := Lib.hid (HMM.out (fun i hi => HG.out i (by omega)))
          generalize shownM ls k = sk at *
          go_wp2_with ((with_reducible show wpList _ _ _ _ _ _); refine wpList_load_mid rfl 60 _ rfl w1.heap.size 0 rfl xs _ hrng Tryd.underlying60 rfl hinf ?_)
          refine HP.out.mono ?_
          rintro e w3 ⟨rfl, hb3⟩
          go_wp2
          go_ret
          exact ⟨by rw [← HMK2.out]; try rfl, HB2.out.trans (hb3.mono HB2.out.size)⟩
end Go.Proofs.YtblilnfkpfjclaaDoor

/- Rows of elements of two or three cells. No program. -/
namespace Go.Proofs.YtblilnfkpfjclaaDoor
open Go.RowKit

theorem stored2 {w : World} {g : Nat} {x0 x1 a b : Value} {E : TypeId} (h : w.heap[g]? = some (.cells #[x0, x1] E)) : ((w.setCell ⟨g, 0, none⟩ a).setCell ⟨g, 1, none⟩ b).heap[g]? = some (.cells #[a, b] E) :=
  heap_setCell_same _ g 1 _ E b (heap_setCell_same w g 0 _ E a h)
theorem stored3 {w : World} {g : Nat} {x0 x1 x2 a b c : Value} {E : TypeId} (h : w.heap[g]? = some (.cells #[x0, x1, x2] E)) : (((w.setCell ⟨g, 0, none⟩ a).setCell ⟨g, 1, none⟩ b).setCell ⟨g, 2, none⟩ c).heap[g]? = some (.cells #[a, b, c] E) :=
  heap_setCell_same _ g 2 _ E c (heap_setCell_same _ g 1 _ E b (heap_setCell_same w g 0 _ E a h))
theorem stored4 {w : World} {g : Nat} {x0 x1 x2 x3 a b c d : Value} {E : TypeId} (h : w.heap[g]? = some (.cells #[x0, x1, x2, x3] E)) : ((((w.setCell ⟨g, 0, none⟩ a).setCell ⟨g, 1, none⟩ b).setCell ⟨g, 2, none⟩ c).setCell ⟨g, 3, none⟩ d).heap[g]? = some (.cells #[a, b, c, d] E) :=
  heap_setCell_same _ g 3 _ E d (heap_setCell_same _ g 2 _ E c (heap_setCell_same _ g 1 _ E b (heap_setCell_same w g 0 _ E a h)))
theorem unstored2 {w : World} {g k : Nat} {a b : Value} {x : Obj} (h : w.heap[k]? = some x) (hk : k ≠ g) : ((w.setCell ⟨g, 0, none⟩ a).setCell ⟨g, 1, none⟩ b).heap[k]? = some x :=
  (heap_setCell_other _ _ k b hk).trans ((heap_setCell_other w _ k a hk).trans h)
theorem unstored3 {w : World} {g k : Nat} {a b c : Value} {x : Obj} (h : w.heap[k]? = some x) (hk : k ≠ g) : (((w.setCell ⟨g, 0, none⟩ a).setCell ⟨g, 1, none⟩ b).setCell ⟨g, 2, none⟩ c).heap[k]? = some x :=
  (heap_setCell_other _ _ k c hk).trans ((heap_setCell_other _ _ k b hk).trans ((heap_setCell_other w _ k a hk).trans h))
theorem unstored4 {w : World} {g k : Nat} {a b c d : Value} {x : Obj} (h : w.heap[k]? = some x) (hk : k ≠ g) : ((((w.setCell ⟨g, 0, none⟩ a).setCell ⟨g, 1, none⟩ b).setCell ⟨g, 2, none⟩ c).setCell ⟨g, 3, none⟩ d).heap[k]? = some x :=
  (heap_setCell_other _ _ k d hk).trans ((heap_setCell_other _ _ k c hk).trans ((heap_setCell_other _ _ k b hk).trans ((heap_setCell_other w _ k a hk).trans h)))
theorem add_plusF (q : Addr) (i : Nat) (h : 0 < i) : q.add i = ⟨q.block, q.off + i, none⟩ := by unfold Addr.add; rw [if_neg (by omega)]
theorem heap_size_allocF (w : World) (o : Obj) : (w.alloc o).heap.size = w.heap.size + 1 := by simp
theorem heap_old (w : World) (o : Obj) {g : Nat} {x : Obj} (h : w.heap[g]? = some x) : (w.alloc o).heap[g]? = some x := (Below.heap_alloc _ _ _ (lt_of_block h)).trans h
theorem heap_newF (w : World) (o : Obj) {g : Nat} (h : w.heap.size = g) : (w.alloc o).heap[g]? = some o := by subst h; exact heap_alloc_new w o
theorem one_block {w wA : World} {o0 : Obj} (h : wA = w.alloc o0) : wA.heap[w.heap.size]? = some o0 ∧ wA.heap.size = w.heap.size + 1 ∧ Below w.heap.size w wA := by
  subst h
  exact ⟨heap_alloc_new w o0, heap_size_allocF _ _, (Below.refl _ _).alloc (Nat.le_refl _) _⟩
theorem two_blocks {w wA : World} {o0 o1 : Obj} (h : wA = (w.alloc o0).alloc o1) : wA.heap[w.heap.size]? = some o0 ∧ wA.heap[w.heap.size + 1]? = some o1 ∧ wA.heap.size = w.heap.size + 2 ∧ Below w.heap.size w wA := by
  subst h
  refine ⟨heap_old _ _ (heap_alloc_new w o0), heap_newF _ _ (heap_size_allocF _ _), ?_, ((Below.refl _ _).alloc (Nat.le_refl _) _).alloc ?_ _⟩
  · rw [heap_size_allocF, heap_size_allocF]
  · rw [heap_size_allocF]; omega
theorem three_blocks {w wA : World} {o0 o1 o2 : Obj} (h : wA = ((w.alloc o0).alloc o1).alloc o2) : wA.heap[w.heap.size]? = some o0 ∧ wA.heap[w.heap.size + 1]? = some o1 ∧ wA.heap[w.heap.size + 1 + 1]? = some o2 ∧ wA.heap.size = w.heap.size + 3 ∧ Below w.heap.size w wA := by
  subst h
  refine ⟨heap_old _ _ (heap_old _ _ (heap_alloc_new w o0)), heap_old _ _ (heap_newF _ _ (heap_size_allocF _ _)), heap_newF _ _ ?_, ?_, (((Below.refl _ _).alloc (Nat.le_refl _) _).alloc ?_ _).alloc ?_ _⟩
  · rw [heap_size_allocF, heap_size_allocF]
  · rw [heap_size_allocF, heap_size_allocF, heap_size_allocF]
  · rw [heap_size_allocF]; omega
  · rw [heap_size_allocF, heap_size_allocF]; omega
theorem results_cell_tmpF {fn : Func} {p q : Tmp} {ty : TypeId} (h : fn.results = #[.cell p ty, .tmp q]) (tmps : Array Value) (P : Program) (w : World) :
    (results fn tmps).run P w = ((asAddr (tmps.getD p undef)).run P w).andThen fun a w₁ => ((loadVar ty a).run P w₁).andThen fun v w₂ => .ok (.tuple #[v, tmps.getD q undef]) w₂ := by
  simp only [results, h]
  simp [Sem.run_bind, Result.andThen]
theorem set2 {pre rest : List Value} {z0 z1 a b : Value} {m : Nat} (h : pre.length = m) : (((pre ++ z0 :: z1 :: rest).set m a).set (m + 1) b) = pre ++ a :: b :: rest := by
  rw [set_at h]
  have e1 : pre ++ a :: z1 :: rest = (pre ++ [a]) ++ z1 :: rest := by simp
  rw [e1, set_at (by simp [h])]
  simp
theorem drop2 {zs : List Value} {m : Nat} (h : m + 2 ≤ zs.length) : ∃ z0 z1, zs.drop m = z0 :: z1 :: zs.drop (m + 2) :=
  ⟨zs[m], zs[m + 1], by rw [List.drop_eq_getElem_cons (by omega), List.drop_eq_getElem_cons (by omega)]⟩
theorem set3 {pre rest : List Value} {z0 z1 z2 a b c : Value} {m : Nat} (h : pre.length = m) : (((pre ++ z0 :: z1 :: z2 :: rest).set m a).set (m + 1) b).set (m + 2) c = pre ++ a :: b :: c :: rest := by
  rw [set_at h]
  have e1 : pre ++ a :: z1 :: z2 :: rest = (pre ++ [a]) ++ z1 :: z2 :: rest := by simp
  rw [e1, set_at (by simp [h])]
  have e2 : (pre ++ [a]) ++ b :: z2 :: rest = (pre ++ [a, b]) ++ z2 :: rest := by simp
  rw [e2, set_at (by simp [h])]
  simp
theorem drop3 {zs : List Value} {m : Nat} (h : m + 3 ≤ zs.length) : ∃ z0 z1 z2, zs.drop m = z0 :: z1 :: z2 :: zs.drop (m + 3) :=
  ⟨zs[m], zs[m + 1], zs[m + 2], by rw [List.drop_eq_getElem_cons (by omega), List.drop_eq_getElem_cons (by omega), List.drop_eq_getElem_cons (by omega)]⟩
theorem set5 {pre rest : List Value} {z0 z1 z2 z3 z4 a b c d e : Value} {m : Nat} (h : pre.length = m) : (((((pre ++ z0 :: z1 :: z2 :: z3 :: z4 :: rest).set m a).set (m + 1) b).set (m + 2) c).set (m + 3) d).set (m + 4) e = pre ++ a :: b :: c :: d :: e :: rest := by
  rw [set4 h]
  have e1 : pre ++ a :: b :: c :: d :: z4 :: rest = (pre ++ [a, b, c, d]) ++ z4 :: rest := by simp
  rw [e1, set_at (by simp [h])]
  simp
theorem drop5 {zs : List Value} {m : Nat} (h : m + 5 ≤ zs.length) : ∃ z0 z1 z2 z3 z4, zs.drop m = z0 :: z1 :: z2 :: z3 :: z4 :: zs.drop (m + 5) :=
  ⟨zs[m], zs[m + 1], zs[m + 2], zs[m + 3], zs[m + 4], by rw [List.drop_eq_getElem_cons (by omega), List.drop_eq_getElem_cons (by omega), List.drop_eq_getElem_cons (by omega), List.drop_eq_getElem_cons (by omega), List.drop_eq_getElem_cons (by omega)]⟩
end Go.Proofs.YtblilnfkpfjclaaDoor

/- Entry as Lean data; rows of them, and the laws' helpers for these (written by genrow.py). -/
namespace Go.Proofs.YtblilnfkpfjclaaDoor
open Go.RowKit
set_option linter.unusedVariables false

structure Ent where
  second : Int
  lights : List Int
  mac : Int
deriving DecidableEq
def ent0 : Ent := ⟨0, [], 0⟩
def Ent.wf (p : Ent) : Prop := p.lights.length ≤ maxLen ∧ (∀ z ∈ p.lights, (Lit.int .i64 z).wf = true) ∧ (Lit.int .i64 p.second).wf = true ∧ (Lit.int .i64 p.mac).wf = true
/-- the j-th one. -/
def entA (ps : List Ent) (j : Nat) : Ent := ps.getD j ent0
theorem entA_some {ps : List Ent} {k : Nat} {p : Ent} (h : ps[k]? = some p) : entA ps k = p := by simp [entA, List.getD, h]
theorem entA_get {ps : List Ent} {k : Nat} (h : k < ps.length) : ps[k]? = some (entA ps k) := by
  rw [List.getElem?_eq_getElem h]
  simp [entA, List.getD, List.getElem?_eq_getElem h]
theorem entA_mem {ps : List Ent} {k : Nat} (h : k < ps.length) : entA ps k ∈ ps := List.mem_of_getElem? (entA_get h)
/-- one lies at q: the slice and the ints. -/
structure EntAt (w : World) (q : Addr) (u : Value) (p : Ent) : Prop where
  c0 : w.cell? q = some (.int .i64 p.second)
  c1 : w.cell? ⟨q.block, q.off + 1, none⟩ = some u
  c2 : w.cell? ⟨q.block, q.off + 2, none⟩ = some (.int .i64 p.mac)
theorem EntAt.keep {w w' : World} {q : Addr} {u : Value} {p : Ent} (h : EntAt w q u p) (e : w'.heap[q.block]? = w.heap[q.block]?) : EntAt w' q u p :=
  ⟨(World.cell?_of_block e).trans h.c0, (World.cell?_of_block (a := ⟨q.block, q.off + 1, none⟩) e).trans h.c1, (World.cell?_of_block (a := ⟨q.block, q.off + 2, none⟩) e).trans h.c2⟩
theorem EntAt.below {w w' : World} {q : Addr} {u : Value} {p : Ent} {B : Nat} (h : EntAt w q u p) (hb : Below B w w') (hB : q.block < B) : EntAt w' q u p := h.keep (hb.block _ hB)
/-- A slice value that holds these, all in blocks below B. -/
def EntsAt (w : World) (B : Nat) (A : Option Addr) (n : Nat) (ps : List Ent) : Prop :=
  ps.length = n ∧ (0 < n → ∃ ad, A = some ad ∧ ad.block < B ∧ ∀ j, j < n → ∃ A' m c, EntAt w (ad.add (j * 3)) (.slice A' m c) (entA ps j) ∧ IntsAt .i64 w B A' m (entA ps j).lights ∧ (m ≤ c ∧ c ≤ maxLen) ∧ (A' = none → m = 0 ∧ c = 0))
theorem EntsAt.at {w : World} {B : Nat} {A : Option Addr} {n : Nat} {ps : List Ent} (h : EntsAt w B A n ps) {j : Nat} (hj : j < n) :
    ∃ ad A' m c, A = some ad ∧ (ad.add (j * 3)).block < B ∧ EntAt w (ad.add (j * 3)) (.slice A' m c) (entA ps j) ∧ IntsAt .i64 w B A' m (entA ps j).lights ∧ (m ≤ c ∧ c ≤ maxLen) ∧ (A' = none → m = 0 ∧ c = 0) := by
  obtain ⟨ad, e, hb, hc⟩ := h.2 (by omega)
  obtain ⟨A', m, c, h1⟩ := hc j hj
  exact ⟨ad, A', m, c, e, by rw [add_block]; exact hb, h1⟩
theorem EntsAt.keep {w w' : World} {B : Nat} {A : Option Addr} {n : Nat} {ps : List Ent} (h : EntsAt w B A n ps) (hb : Below B w w') : EntsAt w' B A n ps := by
  refine ⟨h.1, fun h0 => ?_⟩
  obtain ⟨ad, e, hB, hc⟩ := h.2 h0
  refine ⟨ad, e, hB, fun j hj => ?_⟩
  obtain ⟨A', m, c, h1, h2, h3, h4⟩ := hc j hj
  exact ⟨A', m, c, h1.below hb (by rw [add_block]; exact hB), h2.keep (fun p hp => hb.cell hp), h3, h4⟩
theorem EntsAt.below {w w' : World} {B : Nat} {A : Option Addr} {n : Nat} {ps : List Ent} (h : EntsAt w B A n ps) (hB : B ≤ w.heap.size) (hb : Below w.heap.size w w') : EntsAt w' B A n ps := h.keep (hb.mono hB)
theorem EntsAt.up {w : World} {B B' : Nat} {A : Option Addr} {n : Nat} {ps : List Ent} (h : EntsAt w B A n ps) (hB : B ≤ B') : EntsAt w B' A n ps := by
  refine ⟨h.1, fun h0 => ?_⟩
  obtain ⟨ad, e, hb, hc⟩ := h.2 h0
  refine ⟨ad, e, by omega, fun j hj => ?_⟩
  obtain ⟨A', m, c, h1, h2, h3, h4⟩ := hc j hj
  exact ⟨A', m, c, h1, h2.up hB, h3, h4⟩
/-- the cells of a row. -/
def entrow (xs : List (Value × Ent)) : List Value := xs.flatMap fun x => [.int .i64 x.2.second, x.1, .int .i64 x.2.mac]
theorem entrow_length (xs : List (Value × Ent)) : (entrow xs).length = xs.length * 3 := flat_length (f := fun x : Value × Ent => [.int .i64 x.2.second, x.1, .int .i64 x.2.mac]) (fun _ => rfl) xs
theorem entrow_at0 {xs : List (Value × Ent)} {j : Nat} {x : Value × Ent} (h : xs[j]? = some x) : (entrow xs)[j * 3]? = some (.int .i64 x.2.second) := by
  exact flat_get (f := fun x : Value × Ent => [.int .i64 x.2.second, x.1, .int .i64 x.2.mac]) (s := 3) (fun _ => rfl) xs j 0 x h (by decide)
theorem entrow_at1 {xs : List (Value × Ent)} {j : Nat} {x : Value × Ent} (h : xs[j]? = some x) : (entrow xs)[j * 3 + 1]? = some x.1 := by
  exact flat_get (f := fun x : Value × Ent => [.int .i64 x.2.second, x.1, .int .i64 x.2.mac]) (s := 3) (fun _ => rfl) xs j 1 x h (by decide)
theorem entrow_at2 {xs : List (Value × Ent)} {j : Nat} {x : Value × Ent} (h : xs[j]? = some x) : (entrow xs)[j * 3 + 2]? = some (.int .i64 x.2.mac) := by
  exact flat_get (f := fun x : Value × Ent => [.int .i64 x.2.second, x.1, .int .i64 x.2.mac]) (s := 3) (fun _ => rfl) xs j 2 x h (by decide)
theorem entrow_append (xs ys : List (Value × Ent)) : entrow (xs ++ ys) = entrow xs ++ entrow ys := by simp [entrow]
theorem entrow_next (xs : List (Value × Ent)) (n : Nat) (z x : Value × Ent) (h : xs.length < n) :
    ((((entrow xs ++ entrow (List.replicate (n - xs.length) z)).set (xs.length * 3) (.int .i64 x.2.second)).set (xs.length * 3 + 1) x.1).set (xs.length * 3 + 2) (.int .i64 x.2.mac)) = entrow (xs ++ [x]) ++ entrow (List.replicate (n - (xs ++ [x]).length) z) := by
  obtain ⟨m, hm⟩ : ∃ m, n - xs.length = m + 1 := ⟨n - xs.length - 1, by omega⟩
  have e2 : n - (xs ++ [x]).length = m := by rw [List.length_append, List.length_singleton]; omega
  rw [e2, hm, List.replicate_succ]
  have e3 : entrow (z :: List.replicate m z) = .int .i64 z.2.second :: z.1 :: .int .i64 z.2.mac :: entrow (List.replicate m z) := rfl
  rw [e3, set3 (entrow_length xs), entrow_append]
  simp [entrow]
theorem made_ent (n : Nat) : (madeCells (Value.agg #[Value.int .i64 0, Value.slice none 0 0, Value.int .i64 0]).cells (n * 3)).toList = entrow (List.replicate n (Value.slice none 0 0, ent0)) := by
  have h : (Value.agg #[Value.int .i64 0, Value.slice none 0 0, Value.int .i64 0]).cells = #[Value.int .i64 0, Value.slice none 0 0, Value.int .i64 0] := rfl
  rw [h]
  apply List.ext_getElem?
  intro i
  simp only [madeCells, Array.toList_map, List.getElem?_map]
  by_cases hi : i < n * 3
  · have hx : (List.replicate n ((Value.slice none 0 0, ent0) : Value × Ent))[i / 3]? = some (Value.slice none 0 0, ent0) := by rw [List.getElem?_replicate, if_pos (by omega)]
    have h2 : i % 3 = 0 ∨ i % 3 = 1 ∨ i % 3 = 2 := by omega
    rcases h2 with h2 | h2 | h2
    · have := entrow_at0 hx
      rw [show i / 3 * 3 = i by omega] at this
      rw [this]
      simp [hi, h2, ent0]
    · have := entrow_at1 hx
      rw [show i / 3 * 3 + 1 = i by omega] at this
      rw [this]
      simp [hi, h2]
    · have := entrow_at2 hx
      rw [show i / 3 * 3 + 2 = i by omega] at this
      rw [this]
      simp [hi, h2, ent0]
  · rw [List.getElem?_eq_none (l := entrow _) (by rw [entrow_length, List.length_replicate]; omega)]
    simp [hi]
theorem info_ent : (Tryd.prog.info? 40).map (fun i => (i.zero, i.size, i.bytes)) = some (some (.agg #[.int .i64 0, .slice none 0 0, .int .i64 0]), 3, 40) := by kernel_rfl
/-- rows of other types lie in other blocks. -/
theorem own_apart_ent {w : World} {lo lo2 : Nat} {u v : Value} {zs : List Int} {n : Nat} {vs : List Value} (h : Own .i64 3 w lo u zs) (h2 : w.ownsRow lo2 40 3 v n vs) : ∀ g, u.ownBlock = some g → v.ownBlock ≠ some g := by
  intro g hg e
  rcases h.2 with ⟨rfl, _⟩ | ⟨g1, cap, cur, rfl, hb, hg1, r⟩
  · cases hg
  · rcases h2.2 with ⟨rfl, _⟩ | ⟨g2, cap2, cur2, rfl, hb2, hg2, r2⟩
    · cases e
    · have e1 : g1 = g := Option.some.inj hg
      have e2 : g2 = g := Option.some.inj e
      subst e1
      subst e2
      rw [hg1] at hg2
      injection hg2 with hg2
      injection hg2 with _ ht
      exact absurd ht (by decide)
/-- a row of the call's own. -/
structure OwnEnt (w : World) (lo : Nat) (v : Value) (xs : List (Value × Ent)) (ps : List Ent) : Prop where
  row : w.ownsRow lo 40 3 v ps.length (entrow xs)
  each : ∀ j, j < ps.length → ∃ u, xs[j]? = some (u, entA ps j) ∧ Own .i64 3 w lo u (entA ps j).lights
  apart : ApartL (xs.map (·.1))
theorem OwnEnt.len {w : World} {lo : Nat} {v : Value} {xs : List (Value × Ent)} {ps : List Ent} (h : OwnEnt w lo v xs ps) : xs.length = ps.length := by
  have := h.row.1
  rw [entrow_length] at this
  omega
theorem OwnEnt.below {w w' : World} {lo : Nat} {v : Value} {xs : List (Value × Ent)} {ps : List Ent} (h : OwnEnt w lo v xs ps) (hb : Below w.heap.size w w') : OwnEnt w' lo v xs ps :=
  ⟨ownr_below h.row hb, fun j hj => by obtain ⟨u, h1, h2⟩ := h.each j hj; exact ⟨u, h1, h2.below hb⟩, h.apart⟩
theorem OwnEnt.ss {w : World} {lo : Nat} {A : Option Addr} {n c : Nat} {xs : List (Value × Ent)} {ps : List Ent} (h : OwnEnt w lo (.slice A n c) xs ps) : EntsAt w w.heap.size A n ps := by
  have hn := ownr_len h.row
  subst hn
  refine ⟨rfl, fun h0 => ?_⟩
  obtain ⟨ad, e, hb, hc⟩ := (ownr_cells h.row).2 (by omega)
  refine ⟨ad, e, hb, fun j hj => ?_⟩
  obtain ⟨u, h1, h2⟩ := h.each j hj
  obtain ⟨A', c', rfl⟩ := h2.sliced
  refine ⟨A', _, c', ⟨hc _ _ (entrow_at0 h1), ?_, ?_⟩, h2.ints, h2.cap, h2.nilcap'⟩
  · rw [← add_plusF _ 1 (by decide), add_add]
    exact hc _ _ (entrow_at1 h1)
  · rw [← add_plusF _ 2 (by decide), add_add]
    exact hc _ _ (entrow_at2 h1)
/-- rows between two block numbers. -/
structure OwEnt (w : World) (lo hi : Nat) (v : Value) (xs : List (Value × Ent)) (ps : List Ent) : Prop where
  own : OwnEnt w lo v xs ps
  lt : ∀ g, v.ownBlock = some g → g < hi
  top : hi ≤ w.heap.size
theorem OwEnt.new {w : World} {lo : Nat} {v : Value} {xs : List (Value × Ent)} {ps : List Ent} (h : OwnEnt w lo v xs ps) : OwEnt w lo w.heap.size v xs ps :=
  ⟨h, fun g e => (ownr_block h.row g e).2, Nat.le_refl _⟩
theorem OwEnt.below {w w' : World} {lo hi : Nat} {v : Value} {xs : List (Value × Ent)} {ps : List Ent} (h : OwEnt w lo hi v xs ps) (hb : Below w.heap.size w w') : OwEnt w' lo hi v xs ps := ⟨h.own.below hb, h.lt, Nat.le_trans h.top hb.size⟩
theorem OwEnt.ints {w : World} {lo hi : Nat} {A : Option Addr} {n c : Nat} {xs : List (Value × Ent)} {ps : List Ent} (h : OwEnt w lo hi (.slice A n c) xs ps) : EntsAt w w.heap.size A n ps := h.own.ss
/-- a slice that a call is given. -/
structure SlEnt (w : World) (A : Option Addr) (n c : Nat) (ps : List Ent) : Prop where
  pths : EntsAt w w.heap.size A n ps
  bare : A = none → n = 0 ∧ c = 0
  cap : n ≤ c ∧ c ≤ maxLen
  wf : ∀ p ∈ ps, p.wf
theorem OwEnt.sl {w : World} {lo hi : Nat} {A : Option Addr} {n c : Nat} {xs : List (Value × Ent)} {ps : List Ent} (h : OwEnt w lo hi (.slice A n c) xs ps) (hw : ∀ p ∈ ps, p.wf) : SlEnt w A n c ps := ⟨h.ints, ownr_nilcap h.own.row, ownr_cap h.own.row, hw⟩
theorem SlEnt.below {w w' : World} {A : Option Addr} {n c : Nat} {ps : List Ent} (h : SlEnt w A n c ps) (hb : Below w.heap.size w w') : SlEnt w' A n c ps :=
  ⟨(h.pths.keep hb).up hb.size, h.bare, h.cap, h.wf⟩
/-- few and short. -/
def SmallEnt (ps : List Ent) : Prop := ps.length ≤ 1048576 ∧ ∀ j, j < ps.length → (entA ps j).lights.length ≤ 1048576
theorem SmallEnt.at {ps : List Ent} (h : SmallEnt ps) (n M : Nat) (hn : n = ps.length) (hM : 1048576 ≤ M) : ∀ j, j < n → (entA ps j).lights.length ≤ M := fun j hj => Nat.le_trans (h.2 j (by omega)) hM
theorem law_toEntry (A : Option Addr) (n c B : Nat) (zs : List Int) (x0 : Int) (x2 : Int) (w : World) (h : IntsAt .i64 w B A n zs) (hB : B ≤ w.heap.size) (hn : n ≤ 1048576) :
    Calls Tryd.prog 16 #[.agg #[.int .i64 x0, .slice A n c, .int .i64 x2]] w fun e w' => ∃ a, e = .returned (.agg #[.int .i64 x0, .slice (some a) n n, .int .i64 x2]) ∧ Own .i64 3 w' w.heap.size (.slice (some a) n n) zs ∧ Below w.heap.size w w' := by
  have hi := fun w' (hb : Below w.heap.size w w') => h.laid hB hb
  have hb0 := (((Below.refl w.heap.size w).alloc (Nat.le_refl _) (.cells #[.int .i64 x0, .slice A n c, .int .i64 x2] 37)).alloc (by simp) (.cells #[.int .i64 0, .slice none 0 0, .int .i64 0] 40)).alloc (by simp; omega) (.cells #[.int .i64 x0, .slice none 0 0, .int .i64 0] 40)
  have hs0 := hb0.size
  have HI := Lib.hid hi
  have HB0 := Lib.hid hb0
  clear hi
  go_enter Tryd.func16, Tryd.ntmps16
  go_wp2_with fail
  refine (to_i64 A n c B zs _ (HI.out _ HB0.out) (by have := HB0.out.size; omega) (by omega)).mono ?_
  rintro e w2 ⟨rfl, ho, hb2⟩
  have HB := Lib.hid (HB0.out.trans (hb2.mono hs0))
  have k0 : w2.cell? ⟨w.heap.size, 2, none⟩ = some (.int .i64 x2) := (hb2.cell (p := ⟨w.heap.size, 2, none⟩) (by simp; try omega)).trans (by go_simp)
  have k1 : w2.cell? ⟨w.heap.size + 1, 0, none⟩ = some (.int .i64 0) := (hb2.cell (p := ⟨w.heap.size + 1, 0, none⟩) (by simp; try omega)).trans (by go_simp)
  have k2 : w2.cell? ⟨w.heap.size + 1, 1, none⟩ = some (.slice none 0 0) := (hb2.cell (p := ⟨w.heap.size + 1, 1, none⟩) (by simp; try omega)).trans (by go_simp)
  have k3 : w2.cell? ⟨w.heap.size + 1, 2, none⟩ = some (.int .i64 0) := (hb2.cell (p := ⟨w.heap.size + 1, 2, none⟩) (by simp; try omega)).trans (by go_simp)
  have k4 : w2.cell? ⟨w.heap.size + 1 + 1, 0, none⟩ = some (.int .i64 x0) := (hb2.cell (p := ⟨w.heap.size + 1 + 1, 0, none⟩) (by simp; try omega)).trans (by go_simp)
  have k5 : w2.cell? ⟨w.heap.size + 1 + 1, 1, none⟩ = some (.slice none 0 0) := (hb2.cell (p := ⟨w.heap.size + 1 + 1, 1, none⟩) (by simp; try omega)).trans (by go_simp)
  have k6 : w2.cell? ⟨w.heap.size + 1 + 1, 2, none⟩ = some (.int .i64 0) := (hb2.cell (p := ⟨w.heap.size + 1 + 1, 2, none⟩) (by simp; try omega)).trans (by go_simp)
  have fa0 : w2.frozen? ⟨w.heap.size + 1, 0, none⟩ = false := (hb2.frozen (p := ⟨w.heap.size + 1, 0, none⟩) (by simp; try omega)).trans (by go_simp)
  have fa1 : w2.frozen? ⟨w.heap.size + 1, 1, none⟩ = false := (hb2.frozen (p := ⟨w.heap.size + 1, 1, none⟩) (by simp; try omega)).trans (by go_simp)
  have fa2 : w2.frozen? ⟨w.heap.size + 1, 2, none⟩ = false := (hb2.frozen (p := ⟨w.heap.size + 1, 2, none⟩) (by simp; try omega)).trans (by go_simp)
  have fb1 : w2.frozen? ⟨w.heap.size + 1 + 1, 1, none⟩ = false := (hb2.frozen (p := ⟨w.heap.size + 1 + 1, 1, none⟩) (by simp; try omega)).trans (by go_simp)
  have fb2 : w2.frozen? ⟨w.heap.size + 1 + 1, 2, none⟩ = false := (hb2.frozen (p := ⟨w.heap.size + 1 + 1, 2, none⟩) (by simp; try omega)).trans (by go_simp)
  have ho2 : Own .i64 3 w2 w.heap.size (.slice (some ⟨w.heap.size + 1 + 1 + 1, 0, none⟩) n n) zs := by
    have h2 := ho.mono hs0
    simp only [alloc_heap, Array.size_push] at h2
    exact h2
  have HO2 := Lib.hid ho2
  clear hb2 hb0 ho hs0 ho2
  go_wp2
  refine bodyPost_ret (v := .agg #[.int .i64 x0, .slice (some ⟨w.heap.size + 1 + 1 + 1, 0, none⟩) n n, .int .i64 x2]) (by rw [results_cell rfl]; go_simp; try rfl) rfl ?_
  refine ⟨_, rfl, (HO2.out.grown (only_setCell (only_setCell (World.grownBy.refl _ _) _ _) _ _) (fun g' e e2 => ?_)).grown (only_setCell (only_setCell (only_setCell (World.grownBy.refl _ _) _ _) _ _) _ _) (fun g' e e2 => ?_), (((((HB.out.setCell (by simp only; omega) _).setCell (by simp only; omega) _).setCell (by simp only; omega) _).setCell (by simp only; omega) _).setCell (by simp only; omega) _)⟩
  · have h1 : w.heap.size + 1 + 1 + 1 = g' := Option.some.inj e
    have h2 := Option.some.inj e2
    omega
  · have h1 : w.heap.size + 1 + 1 + 1 = g' := Option.some.inj e
    have h2 := Option.some.inj e2
    omega
set_option maxHeartbeats 1000000 in
theorem to_ent (A : Option Addr) (n c B : Nat) (ps : List Ent) (w : World) (h : EntsAt w B A n ps) (hB : B ≤ w.heap.size) (hn : n ≤ 1048576) (hm : ∀ j, j < n → (entA ps j).lights.length ≤ 1048576) :
    Calls Tryd.prog 8 #[.slice A n c] w fun e w' => e = .returned (.slice (some ⟨w.heap.size, 0, none⟩) n n) ∧ (∃ xs, OwnEnt w' w.heap.size (.slice (some ⟨w.heap.size, 0, none⟩) n n) xs ps) ∧ Below w.heap.size w w' := by
  have hl := h.1
  go_enter Tryd.func8, Tryd.ntmps8
  go_wp2_with ((with_reducible show wpList _ _ _ _ _ _); refine wpList_mkR rfl _ _ _ rfl 40 _ 3 _ Tryd.underlying29 info_ent (by decide) (n : Int) (n : Int) n rfl rfl rfl rfl (by omega) ?_; intro w1 hown hgrow)
  rw [made_ent] at hown
  go_loopw [4] (fun i wr => ∃ (k : Nat) (xs : List (Value × Ent)), k ≤ n ∧ xs.length = k ∧ i = .int .i64 k ∧ wr.ownsRow w.heap.size 40 3 (.slice (some ⟨w.heap.size, 0, none⟩) n n) n (entrow xs ++ entrow (List.replicate (n - xs.length) (.slice none 0 0, ent0))) ∧
      (∀ j, j < k → ∃ u, xs[j]? = some (u, entA ps j) ∧ Own .i64 3 wr w.heap.size u (entA ps j).lights) ∧ ApartL (xs.map (·.1)) ∧ Below w.heap.size w wr) (fun i _ => n - (intOf i).toNat)
  case atStart => exact ⟨0, [], Nat.zero_le _, rfl, rfl, by simpa [entrow] using hown, fun j hj => absurd hj (by omega), ApartL.nil, below_grown hgrow⟩
  case round =>
    clear hown hgrow
    obtain ⟨k, xs, hk, hul, rfl, hrow, heach, hap, hbl⟩ := hrel
    have hsz := hbl.size
    by_cases hlt : k < n
    · obtain ⟨ad, A', m, c', rfl, hab, hq, hi, hmc, hnil⟩ := h.at hlt
      obtain ⟨q0, q1, q2⟩ := hq.below hbl (by omega)
      have hml := hi.1
      have hmk := hm k hlt
      have hiw := hi.keep (w' := wr) (fun p hp => hbl.cell (by omega))
      clear hq hi
      go_wp2_with fail
      refine (law_toEntry A' m c' B (entA ps k).lights (entA ps k).second (entA ps k).mac wr hiw (by omega) (by omega)).mono ?_
      rintro e w2 ⟨a, rfl, ho, hb2⟩
      have hrow2 := ownr_below hrow hb2
      obtain ⟨y0, hy0⟩ := ownr_some hrow2 (j := k * 3) (by omega)
      obtain ⟨y1, hy1⟩ := ownr_some hrow2 (j := k * 3 + 1) (by omega)
      obtain ⟨y2, hy2⟩ := ownr_some hrow2 (j := k * 3 + 2) (by omega)
      have f0 := World.ownsRow.frozenAt hrow2
      have hst := (World.ownsRow.stored (World.ownsRow.stored (World.ownsRow.stored hrow2 (k * 3) (.int .i64 (entA ps k).second)).1 (k * 3 + 1) (.slice (some a) m m)).1 (k * 3 + 2) (.int .i64 (entA ps k).mac)).1
      have hb3 := hbl.trans (hb2.mono hsz)
      have hgs : w2.grownBy (((w2.setCell ⟨w.heap.size, k * 3, none⟩ (.int .i64 (entA ps k).second)).setCell ⟨w.heap.size, k * 3 + 1, none⟩ (.slice (some a) m m)).setCell ⟨w.heap.size, k * 3 + 2, none⟩ (.int .i64 (entA ps k).mac)) (some w.heap.size) := only_setCell (only_setCell (only_setCell (World.grownBy.refl _ _) _ _) _ _) _ _
      have hkept : ∀ {x : Value} {xs : List Int} {l : Nat}, Own .i64 3 w2 l x xs → Own .i64 3 (((w2.setCell ⟨w.heap.size, k * 3, none⟩ (.int .i64 (entA ps k).second)).setCell ⟨w.heap.size, k * 3 + 1, none⟩ (.slice (some a) m m)).setCell ⟨w.heap.size, k * 3 + 2, none⟩ (.int .i64 (entA ps k).mac)) l x xs := fun hx => hx.grown hgs (fun g hg e => own_apart_ent hx hrow2 g hg e)
      have hsn : xs.length < n := by omega
      have hnx := entrow_next xs n (.slice none 0 0, ent0) (.slice (some a) m m, entA ps k) hsn
      rw [hul] at hnx
      simp only at hnx
      rw [hul] at hst
      rw [hnx] at hst
      have HR := Lib.hid hst
      have HE : Hid (∀ j, j < k + 1 → ∃ u, (xs ++ [(.slice (some a) m m, entA ps k)])[j]? = some (u, entA ps j) ∧ Own .i64 3 (((w2.setCell ⟨w.heap.size, k * 3, none⟩ (.int .i64 (entA ps k).second)).setCell ⟨w.heap.size, k * 3 + 1, none⟩ (.slice (some a) m m)).setCell ⟨w.heap.size, k * 3 + 2, none⟩ (.int .i64 (entA ps k).mac)) w.heap.size u (entA ps j).lights) := Lib.hid (by
        intro j hj
        by_cases hjk : j < k
        · obtain ⟨u, h1, h2⟩ := heach j hjk
          exact ⟨u, by rw [List.getElem?_append_left (by omega)]; exact h1, hkept (h2.below hb2)⟩
        · obtain rfl : j = xs.length := by omega
          refine ⟨_, (List.getElem?_append_right (Nat.le_refl _)).trans (by rw [Nat.sub_self, show xs.length = k from hul]; rfl), ?_⟩
          rw [show xs.length = k from hul]
          exact hkept (ho.mono hsz))
      have HA : Hid (ApartL ((xs ++ [((Value.slice (some a) m m), entA ps k)]).map (·.1))) := Lib.hid (by
        rw [List.map_append]
        refine hap.snoc (b := wr.heap.size) (fun x hx g hg => ?_) (fun g hg => (ho.block g hg).1)
        obtain ⟨y, hy, rfl⟩ := List.mem_map.1 hx
        obtain ⟨j, hj, rfl⟩ := List.getElem_of_mem hy
        obtain ⟨u, h1, h2⟩ := heach j (by omega)
        rw [List.getElem?_eq_getElem hj] at h1
        injection h1 with h1
        rw [h1] at hg
        exact (h2.block g hg).2)
      have HB := Lib.hid hb3
      clear hrow heach hap hbl hb2 hb3 hgs hkept hst hrow2 ho hiw hnx
      go_wp2
      go_roundw
      case rel => exact ⟨k + 1, xs ++ [(.slice (some a) m m, entA ps k)], by omega, by rw [List.length_append, hul]; rfl, by go_num, HR.out, HE.out, HA.out, (((HB.out.setCell (Nat.le_refl _) _).setCell (Nat.le_refl _) _).setCell (Nat.le_refl _) _)⟩
      case measure => simp [intOf]; omega
    · obtain rfl : k = n := by omega
      rw [hul, Nat.sub_self, List.replicate_zero] at hrow
      have HO : Hid (OwnEnt wr w.heap.size (.slice (some ⟨w.heap.size, 0, none⟩) k k) xs ps) := Lib.hid ⟨by rw [hl]; simpa [entrow] using hrow, fun j hj => heach j (by omega), hap⟩
      clear hrow heach hap
      go_wp2
      go_ret
      exact ⟨rfl, ⟨xs, HO.out⟩, hbl⟩
set_option maxHeartbeats 1000000 in
theorem law_eqEntry (A : Option Addr) (n c B : Nat) (zs : List Int) (x0 : Int) (x2 : Int) (A2 : Option Addr) (n2 c2 : Nat) (w : World) (h : IntsAt .i64 w B A n zs) (h2 : IntsAt .i64 w B A2 n2 zs) (hB : B ≤ w.heap.size) (hn : n ≤ 4398046511104) :
    Calls Tryd.prog 20 #[.agg #[.int .i64 x0, .slice A n c, .int .i64 x2], .agg #[.int .i64 x0, .slice A2 n2 c2, .int .i64 x2]] w fun e w' => e = .returned (.bool true) ∧ Below w.heap.size w w' := by
  have hl := h.1
  have hl2 := h2.1
  have hq := fun w' (hb : Below w.heap.size w w') => eqs_i64 A n c zs A2 n2 c2 w' ((h.laid hB hb).up (by have := hb.size; omega)) ((h2.laid hB hb).up (by have := hb.size; omega)) (by omega) (by omega)
  have hb0 := ((Below.refl w.heap.size w).alloc (Nat.le_refl _) (.cells #[.int .i64 x0, .slice A n c, .int .i64 x2] 40)).alloc (by simp) (.cells #[.int .i64 x0, .slice A2 n2 c2, .int .i64 x2] 40)
  have HQ := Lib.hid hq
  have HB0 := Lib.hid hb0
  clear hq hb0 h h2
  have e0 : (x0 != x0) = false := by simp
  have g0 : (!(x0 == x0)) = false := by simp
  have e2 : (x2 != x2) = false := by simp
  have g2 : (!(x2 == x2)) = false := by simp
  go_enter Tryd.func20, Tryd.ntmps20
  go_wp2_with fail
  refine (HQ.out _ HB0.out).mono ?_
  rintro e w2 ⟨rfl, hb2⟩
  have HB := Lib.hid (HB0.out.trans (hb2.mono HB0.out.size))
  have k0 : w2.cell? ⟨w.heap.size, 2, none⟩ = some (.int .i64 x2) := (hb2.cell (p := ⟨w.heap.size, 2, none⟩) (by simp; try omega)).trans (by go_simp)
  have k1 : w2.cell? ⟨w.heap.size + 1, 2, none⟩ = some (.int .i64 x2) := (hb2.cell (p := ⟨w.heap.size + 1, 2, none⟩) (by simp; try omega)).trans (by go_simp)
  clear hb2
  go_wp2
  go_ret
  exact ⟨rfl, HB.out⟩
set_option maxHeartbeats 1000000 in
theorem eqs_ent (A : Option Addr) (n c : Nat) (ps : List Ent) (A2 : Option Addr) (n2 c2 : Nat) (w : World) (h : EntsAt w w.heap.size A n ps) (h2 : EntsAt w w.heap.size A2 n2 ps) (hn : n ≤ 4398046511104) (hn2 : n2 ≤ 4398046511104) (hm : ∀ j, j < n → (entA ps j).lights.length ≤ 4398046511104) :
    Calls Tryd.prog 11 #[.slice A n c, .slice A2 n2 c2] w fun e w' => e = .returned (.bool true) ∧ Below w.heap.size w w' := by
  have hl := h.1
  have hl2 := h2.1
  obtain rfl : n = n2 := by omega
  go_enter Tryd.func11, Tryd.ntmps11
  go_wp2
  go_loopw [5] (fun i wr => ∃ k : Nat, k ≤ n ∧ i = .int .i64 k ∧ Below w.heap.size w wr) (fun i _ => n - (intOf i).toNat)
  case atStart => exact ⟨0, Nat.zero_le _, rfl, Below.refl _ _⟩
  case round =>
    obtain ⟨k, hk, rfl, hbl⟩ := hrel
    have hsz := hbl.size
    by_cases hlt : k < n
    · obtain ⟨ad, A', m, c', rfl, hab, hq, hi, hmc, hnil⟩ := h.at hlt
      obtain ⟨ad2, A2', m2, c2', rfl, hab2, hq2, hi2, hmc2, hnil2⟩ := h2.at hlt
      have hqq := fun x (hx : Below wr.heap.size wr x) => (hq.below hbl (by omega)).below hx (by omega)
      have hqq2 := fun x (hx : Below wr.heap.size wr x) => (hq2.below hbl (by omega)).below hx (by omega)
      have hmk := hm k hlt
      have hml := hi.1
      have hml2 := hi2.1
      have hiw := hi.keep (w' := wr) (fun p hp => hbl.cell (by omega))
      have hiw2 := hi2.keep (w' := wr) (fun p hp => hbl.cell (by omega))
      clear hq hq2 hi hi2
      generalize entA ps k = pk at *
      obtain ⟨x0, zs, x2⟩ := pk
      simp only at *
      have hcc := fun x (hx : Below wr.heap.size wr x) => law_eqEntry A' m c' w.heap.size zs x0 x2 A2' m2 c2' x (hiw.keep (w' := x) fun p hp => hx.cell (by omega)) (hiw2.keep (w' := x) fun p hp => hx.cell (by omega)) (by have := hx.size; omega) (by omega)
      have i1 : (0 : Int) ≤ (k : Int) := by omega
      have i2 : (k : Int) < (n : Int) := by omega
      have hdr : Below wr.heap.size wr wr.drew := ⟨rfl, rfl, rfl, Nat.le_refl _, fun _ _ => rfl⟩
      obtain ⟨y0, y1, y2⟩ := hqq _ hdr
      obtain ⟨z0, z1, z2⟩ := hqq2 _ hdr
      have HQ := Lib.hid hcc
      have HC := Lib.hid hqq
      have HC2 := Lib.hid hqq2
      clear hqq hqq2 hcc hiw hiw2
      go_wp2
      go_region_held3 (fun W' => W'.cell? (ad.add (k * 3)) = some (.int .i64 x0) ∧ W'.cell? ⟨(ad.add (k * 3)).block, (ad.add (k * 3)).off + 1, none⟩ = some (.slice A' m c') ∧ W'.cell? ⟨(ad.add (k * 3)).block, (ad.add (k * 3)).off + 2, none⟩ = some (.int .i64 x2) ∧ W'.cell? (ad2.add (k * 3)) = some (.int .i64 x0) ∧ W'.cell? ⟨(ad2.add (k * 3)).block, (ad2.add (k * 3)).off + 1, none⟩ = some (.slice A2' m2 c2') ∧ W'.cell? ⟨(ad2.add (k * 3)).block, (ad2.add (k * 3)).off + 2, none⟩ = some (.int .i64 x2)) (first | exact ⟨y0, y1, y2, z0, z1, z2⟩ | exact ⟨hy.c0, hy.c1, hy.c2, hz.c0, hz.c1, hz.c2⟩ | fail "keep")
        (first
          | (go_at_call 20; refine (HQ.out _ hdr).mono ?_; rintro e w3 ⟨rfl, hb3⟩; have hb4 := hdr.trans hb3; have hy := HC.out _ hb4; have hz := HC2.out _ hb4))
      have HB := Lib.hid (hbl.trans (hb4.mono hsz))
      clear hb3 hb4 y0 y1 y2 z0 z1 z2 hy hz hbl HQ HC HC2 hdr
      go_wp2
      go_roundw
      case rel => exact ⟨k + 1, by omega, by go_num, HB.out⟩
      case measure => simp [intOf]; omega
    · obtain rfl : k = n := by omega
      go_wp2
      go_ret
      exact ⟨rfl, hbl⟩
theorem sz1_ent (A : Option Addr) (n c : Nat) (x0 : Int) (x2 : Int) (left : Int) (w : World) (hn : n ≤ 9223372036854775807) (hl : 0 ≤ left ∧ left ≤ 1048576) :
    Calls Tryd.prog 12 #[.agg #[.int .i64 x0, .slice A n c, .int .i64 x2], .int .i64 left] w fun e w' => e = .returned (.int .i64 (if (n : Int) ≤ left then left - (n : Int) else -1)) ∧ Below w.heap.size w w' := by
  have HB := Lib.hid ((Below.refl w.heap.size w).alloc (Nat.le_refl _) (.cells #[.int .i64 x0, .slice A n c, .int .i64 x2] 37))
  by_cases h : (n : Int) ≤ left
  · have hz := fun x => sz_ints A n c left x hn hl
    simp only [if_pos h] at hz ⊢
    have HZ := Lib.hid hz
    clear hz
    go_enter Tryd.func12, Tryd.ntmps12
    go_wp2_with fail
    refine (HZ.out _).mono ?_
    rintro e w' ⟨rfl, rfl⟩
    go_wp2
    go_ret
    exact ⟨rfl, HB.out⟩
  · have hz := fun x => sz_ints A n c left x hn hl
    simp only [if_neg h] at hz ⊢
    have HZ := Lib.hid hz
    clear hz
    go_enter Tryd.func12, Tryd.ntmps12
    go_wp2_with fail
    refine (HZ.out _).mono ?_
    rintro e w' ⟨rfl, rfl⟩
    go_wp2
    go_ret
    exact ⟨rfl, HB.out⟩
/-- what sz says of a row. -/
def szSaidEnt (left : Int) (n : Nat) (ps : List Ent) (r : Int) : Prop := r < 0 ∨ (0 ≤ r ∧ r ≤ left ∧ (n : Int) ≤ left ∧ ∀ j, j < n → ((entA ps j).lights.length : Int) ≤ left)
set_option maxHeartbeats 1000000 in
theorem sz_ent (A : Option Addr) (n c B : Nat) (ps : List Ent) (left : Int) (w : World) (h : EntsAt w B A n ps) (hB : B ≤ w.heap.size) (hn : n ≤ 9223372036854775807) (hm : ∀ j, j < n → (entA ps j).lights.length ≤ 9223372036854775807) (hl : 0 ≤ left ∧ left ≤ 1048576) :
    Calls Tryd.prog 5 #[.slice A n c, .int .i64 left] w fun e w' => (∃ r : Int, e = .returned (.int .i64 r) ∧ szSaidEnt left n ps r) ∧ Below w.heap.size w w' := by
  have hl0 := h.1
  obtain ⟨l1, l2⟩ := hl
  by_cases hlt0 : (n : Int) ≤ left
  · go_enter Tryd.func5, Tryd.ntmps5
    go_wp2
    go_loopw [1, 5] (fun r i wr => ∃ (k : Nat) (q : Int), k ≤ n ∧ i = .int .i64 k ∧ r = .int .i64 q ∧ 0 ≤ q ∧ q ≤ left ∧ (∀ j, j < k → ((entA ps j).lights.length : Int) ≤ left) ∧ Below w.heap.size w wr) (fun _ i _ => n - (intOf i).toNat)
    case atStart => exact ⟨0, left - n, Nat.zero_le _, rfl, rfl, by omega, by omega, fun j hj => absurd hj (by omega), Below.refl _ _⟩
    case round =>
      obtain ⟨k, q, hk, rfl, rfl, hq0, hq1, hall, hbl⟩ := hrel
      have HALL := Lib.hid hall
      clear hall
      by_cases hlt : k < n
      · obtain ⟨ad, A', m, c', rfl, hab, hq, hi, hmc, hnil⟩ := h.at hlt
        obtain ⟨y0, y1, y2⟩ := hq.below hbl (by omega)
        have hml := hi.1
        have hmk := hm k hlt
        go_wp2_with fail
        refine (sz1_ent A' m c' _ _ q _ (by omega) ⟨hq0, by omega⟩).mono ?_
        rintro e w' ⟨rfl, hb2⟩
        have HB := Lib.hid (hbl.trans (hb2.mono hbl.size))
        clear hb2
        by_cases hle : (m : Int) ≤ q
        · rw [if_pos hle]
          have HK : Hid (((entA ps k).lights.length : Int) ≤ left) := Lib.hid (by omega)
          clear hi hml hmk
          go_wp2
          go_roundw
          case rel => exact ⟨k + 1, q - m, by omega, by go_num, rfl, by omega, by omega, (fun j hj => by
            by_cases e : j < k
            · exact HALL.out j e
            · obtain rfl : j = k := by omega
              exact HK.out), HB.out⟩
          case measure => simp [intOf]; omega
        · rw [if_neg hle]
          go_wp2
          go_ret
          exact ⟨⟨-1, rfl, .inl (by decide)⟩, HB.out⟩
      · obtain rfl : k = n := by omega
        go_wp2
        go_ret
        exact ⟨⟨q, rfl, .inr ⟨hq0, hq1, hlt0, HALL.out⟩⟩, hbl⟩
  · go_enter Tryd.func5, Tryd.ntmps5
    go_wp2
    go_ret
    exact ⟨⟨-1, rfl, .inl (by decide)⟩, Below.refl _ _⟩
end Go.Proofs.YtblilnfkpfjclaaDoor

/- Hashes and ciphers as numbers. No program. -/
namespace Go.Proofs.YtblilnfkpfjclaaDoor

/-- one step of the hash. -/
def hstep (d v : Int) : Int := (d * 1000003 + v % 2147483647 + 13) % 2147483647
theorem hstep_range (d v : Int) : 0 ≤ hstep d v ∧ hstep d v < 2147483647 := by unfold hstep; omega
/-- what Hash answers. -/
def hashI (vs : List Int) : Int := vs.foldl hstep 11
theorem hash_fold_range (vs : List Int) : ∀ d : Int, 0 ≤ d ∧ d < 2147483647 → 0 ≤ vs.foldl hstep d ∧ vs.foldl hstep d < 2147483647 := by
  induction vs with
  | nil => intro d h; exact h
  | cons v vs ih => intro d _; exact ih _ (hstep_range d v)
theorem hashI_range (vs : List Int) : 0 ≤ hashI vs ∧ hashI vs < 2147483647 := hash_fold_range vs 11 (by decide)
theorem hashI_take {vs : List Int} {k : Nat} (h : k < vs.length) : hashI (vs.take (k + 1)) = hstep (hashI (vs.take k)) (vs.getD k 0) := by
  unfold hashI
  rw [List.take_add_one, List.foldl_append, List.getD_eq_getElem?_getD, List.getElem?_eq_getElem h]
  rfl
theorem hashI_all {vs : List Int} {k : Nat} (h : vs.length = k) : hashI (vs.take k) = hashI vs := by rw [List.take_of_length_le (by omega)]
theorem mul_back {x q : Int} (h : x * 1000003 = 2147483647 * q) : ∃ y, x = 2147483647 * y := by
  refine ⟨q * 1523789695 - x * 709572, ?_⟩
  have e : (x * 1000003) * 1523789695 = (2147483647 * q) * 1523789695 := by rw [h]
  omega
theorem step_inj {c d r : Int} (hc : 0 ≤ c ∧ c < 2147483647) (hd : 0 ≤ d ∧ d < 2147483647) (h : (c * 1000003 + r) % 2147483647 = (d * 1000003 + r) % 2147483647) : c = d := by
  have h2 : (c * 1000003 + r - (d * 1000003 + r)) % 2147483647 = 0 := Int.emod_eq_emod_iff_emod_sub_eq_zero.1 h
  obtain ⟨q, hq⟩ := Int.dvd_of_emod_eq_zero h2
  have h3 : (c - d) * 1000003 = 2147483647 * q := by rw [← hq, Int.sub_mul]; omega
  obtain ⟨y, hy⟩ := mul_back h3
  clear h h2 hq h3
  omega
theorem hstep_left {c d v : Int} (hc : 0 ≤ c ∧ c < 2147483647) (hd : 0 ≤ d ∧ d < 2147483647) (h : hstep c v = hstep d v) : c = d := by
  unfold hstep at h
  rw [Int.add_assoc, Int.add_assoc (d * 1000003)] at h
  exact step_inj hc hd h
theorem hstep_right {d v u : Int} (h : hstep d v = hstep d u) : v % 2147483647 = u % 2147483647 := by
  unfold hstep at h
  omega
theorem hash_fold_inj (vs : List Int) : ∀ c d : Int, 0 ≤ c ∧ c < 2147483647 → 0 ≤ d ∧ d < 2147483647 → vs.foldl hstep c = vs.foldl hstep d → c = d := by
  induction vs with
  | nil => intro c d _ _ h; exact h
  | cons v vs ih => intro c d hc hd h; exact hstep_left hc hd (ih _ _ (hstep_range c v) (hstep_range d v) h)
/-- one value that differs modulo the modulus changes the hash. -/
theorem hash_differs (pre post : List Int) (v u : Int) (h : v % 2147483647 ≠ u % 2147483647) : hashI (pre ++ v :: post) ≠ hashI (pre ++ u :: post) := by
  unfold hashI
  rw [List.foldl_append, List.foldl_append, List.foldl_cons, List.foldl_cons]
  intro e
  exact h (hstep_right (hash_fold_inj post _ _ (hstep_range _ _) (hstep_range _ _) e))
/-- what KeyedHash answers. -/
def khash (k : Int) (vs : List Int) : Int := hashI (k :: (vs ++ [k]))
theorem khash_range (k : Int) (vs : List Int) : 0 ≤ khash k vs ∧ khash k vs < 2147483647 := hashI_range _
/-- what BytesToInts answers. -/
def toNums (zs : List Int) : List Int := (zs.length : Int) :: zs
/-- the key stream at place i. -/
def kstream (k : Int) (i : Nat) : Int := khash k [(i : Int)] % 256
/-- what Encrypt and Decrypt answer. -/
def encr (k : Int) (zs : List Int) : List Int := zs.mapIdx fun i z => (z + kstream k i) % 256
def decr (k : Int) (zs : List Int) : List Int := zs.mapIdx fun i z => (z - kstream k i) % 256
theorem encr_byte (k : Int) (zs : List Int) : ∀ z ∈ encr k zs, 0 ≤ z ∧ z ≤ 255 := by
  intro z hz
  obtain ⟨i, _, rfl⟩ := List.mem_mapIdx.1 hz
  omega
theorem decr_byte (k : Int) (zs : List Int) : ∀ z ∈ decr k zs, 0 ≤ z ∧ z ≤ 255 := by
  intro z hz
  obtain ⟨i, _, rfl⟩ := List.mem_mapIdx.1 hz
  omega
theorem encr_length (k : Int) (zs : List Int) : (encr k zs).length = zs.length := by simp [encr]
theorem decr_length (k : Int) (zs : List Int) : (decr k zs).length = zs.length := by simp [decr]
theorem decr_encr {k : Int} {zs : List Int} (h : ∀ z ∈ zs, 0 ≤ z ∧ z ≤ 255) : decr k (encr k zs) = zs := by
  unfold decr encr
  rw [List.mapIdx_mapIdx]
  apply List.ext_getElem?
  intro i
  rw [List.getElem?_mapIdx]
  cases hi : zs[i]? with
  | none => rfl
  | some z =>
    have hz := h z (List.mem_of_getElem? hi)
    simp only [Option.map_some, Function.comp, Option.some.injEq]
    omega
theorem encr_decr {k : Int} {zs : List Int} (h : ∀ z ∈ zs, 0 ≤ z ∧ z ≤ 255) : encr k (decr k zs) = zs := by
  unfold decr encr
  rw [List.mapIdx_mapIdx]
  apply List.ext_getElem?
  intro i
  rw [List.getElem?_mapIdx]
  cases hi : zs[i]? with
  | none => rfl
  | some z =>
    have hz := h z (List.mem_of_getElem? hi)
    simp only [Option.map_some, Function.comp, Option.some.injEq]
    omega
theorem encr_take {k : Int} {zs : List Int} {i : Nat} (h : i < zs.length) : encr k (zs.take (i + 1)) = encr k (zs.take i) ++ [(zs.getD i 0 + kstream k i) % 256] := by
  unfold encr
  rw [List.take_add_one, List.getElem?_eq_getElem h, Option.toList_some, List.mapIdx_append, List.getD_eq_getElem?_getD, List.getElem?_eq_getElem h]
  simp [List.length_take, Nat.min_eq_left (Nat.le_of_lt h)]
theorem decr_take {k : Int} {zs : List Int} {i : Nat} (h : i < zs.length) : decr k (zs.take (i + 1)) = decr k (zs.take i) ++ [(zs.getD i 0 - kstream k i) % 256] := by
  unfold decr
  rw [List.take_add_one, List.getElem?_eq_getElem h, Option.toList_some, List.mapIdx_append, List.getD_eq_getElem?_getD, List.getElem?_eq_getElem h]
  simp [List.length_take, Nat.min_eq_left (Nat.le_of_lt h)]
theorem encr_all {k : Int} {zs : List Int} {i : Nat} (h : zs.length = i) : encr k (zs.take i) = encr k zs := by rw [List.take_of_length_le (by omega)]
theorem decr_all {k : Int} {zs : List Int} {i : Nat} (h : zs.length = i) : decr k (zs.take i) = decr k zs := by rw [List.take_of_length_le (by omega)]
/-- what DeriveFromString answers. -/
def derive (k : Int) (zs : List Int) : Int := if khash k (toNums zs) = 0 then 1 else khash k (toNums zs)
theorem derive_range (k : Int) (zs : List Int) : 1 ≤ derive k zs ∧ derive k zs ≤ 2147483646 := by
  have h := khash_range k (toNums zs)
  unfold derive
  split <;> omega
end Go.Proofs.YtblilnfkpfjclaaDoor

/- Chapter 27: records as data. No program. -/
namespace Go.Proofs.YtblilnfkpfjclaaDoor
open Go.RowKit
set_option linter.unusedVariables false

/-- the seal of an entry behind a seal. -/
def sealI (b s : Int) (ls : List Int) : Int := hashI (b :: s :: ls)
/-- the seal that the entry before the k-th bears. -/
def prevM (zs : List Ent) (k : Nat) : Int := if k = 0 then 0 else (entA zs (k - 1)).mac
/-- whether the k-th stands well behind the one before. -/
def behE (zs : List Ent) (k : Nat) : Bool := decide (k = 0) || (decide ((entA zs (k - 1)).second < (entA zs k).second) && decide ((entA zs k).lights.length = (entA zs (k - 1)).lights.length))
def litsOk (ls : List Int) : Bool := ls.all (fun z => inB z 0 2)
def entOk (zs : List Ent) (k : Nat) : Bool := (inB (entA zs k).second 0 1000000 && decide ((entA zs k).lights.length ≤ 12) && litsOk (entA zs k).lights) && behE zs k && decide ((entA zs k).mac = sealI (prevM zs k) (entA zs k).second (entA zs k).lights)
/-- what IsRecord answers. -/
def isRec (zs : List Ent) : Bool := decide (zs.length ≤ 60) && (List.range zs.length).all (entOk zs)
theorem isRec_no {zs : List Ent} {k : Nat} (hk : k < zs.length) (h : entOk zs k = false) : isRec zs = false := by
  unfold isRec
  rw [List.all_eq_false.2 ⟨k, List.mem_range.2 hk, by rw [h]; simp⟩, Bool.and_false]
theorem isRec_end {zs : List Ent} (h : ∀ i, i < zs.length → entOk zs i = true) : isRec zs = decide (zs.length ≤ 60) := by
  unfold isRec
  rw [List.all_eq_true.2 (fun i hi => h i (List.mem_range.1 hi)), Bool.and_true]
theorem isRec_long {zs : List Ent} (h : 60 < zs.length) : isRec zs = false := by unfold isRec; rw [decide_eq_false (by omega), Bool.false_and]
theorem isRec_parts {zs : List Ent} (h : isRec zs = true) : zs.length ≤ 60 ∧ ∀ i, i < zs.length → entOk zs i = true := by
  unfold isRec at h
  rw [Bool.and_eq_true, decide_eq_true_eq, List.all_eq_true] at h
  exact ⟨h.1, fun i hi => h.2 i (List.mem_range.2 hi)⟩
theorem entOk_parts {zs : List Ent} {k : Nat} (h : entOk zs k = true) : (inB (entA zs k).second 0 1000000 = true ∧ (entA zs k).lights.length ≤ 12 ∧ litsOk (entA zs k).lights = true) ∧ (k = 0 ∨ ((entA zs (k - 1)).second < (entA zs k).second ∧ (entA zs k).lights.length = (entA zs (k - 1)).lights.length)) ∧ (entA zs k).mac = sealI (prevM zs k) (entA zs k).second (entA zs k).lights := by
  unfold entOk behE at h
  simpa [and_assoc] using h
theorem entOk_mk {zs : List Ent} {k : Nat} (h1 : inB (entA zs k).second 0 1000000 = true) (h2 : (entA zs k).lights.length ≤ 12) (h3 : litsOk (entA zs k).lights = true) (h4 : k = 0 ∨ ((entA zs (k - 1)).second < (entA zs k).second ∧ (entA zs k).lights.length = (entA zs (k - 1)).lights.length)) (h5 : (entA zs k).mac = sealI (prevM zs k) (entA zs k).second (entA zs k).lights) : entOk zs k = true := by
  unfold entOk behE
  rw [h1, h3, decide_eq_true h2, decide_eq_true h5]
  simpa using h4
theorem entOk_sec {zs : List Ent} {k : Nat} (h : inB (entA zs k).second 0 1000000 = false) : entOk zs k = false := by unfold entOk; rw [h]; simp
theorem entOk_len {zs : List Ent} {k : Nat} (h : ¬ (entA zs k).lights.length ≤ 12) : entOk zs k = false := by unfold entOk; rw [decide_eq_false h]; simp
theorem entOk_lit {zs : List Ent} {k : Nat} (h : litsOk (entA zs k).lights = false) : entOk zs k = false := by unfold entOk; rw [h]; simp
theorem entOk_beh {zs : List Ent} {k : Nat} (hk : k ≠ 0) (h : ¬ ((entA zs (k - 1)).second < (entA zs k).second ∧ (entA zs k).lights.length = (entA zs (k - 1)).lights.length)) : entOk zs k = false := by
  cases e : entOk zs k
  · rfl
  · rcases (entOk_parts e).2.1 with h0 | h0
    · exact absurd h0 hk
    · exact absurd h0 h
theorem entOk_mac {zs : List Ent} {k : Nat} (h : (entA zs k).mac ≠ sealI (prevM zs k) (entA zs k).second (entA zs k).lights) : entOk zs k = false := by unfold entOk; rw [decide_eq_false h]; simp
/-- all have as many lights as the first one. -/
theorem rec_len {zs : List Ent} : ∀ {k : Nat}, (∀ j, j < k → entOk zs j = true) → ∀ j, j < k → (entA zs j).lights.length = (entA zs 0).lights.length := by
  intro k h j
  induction j with
  | zero => intro _; rfl
  | succ j ih =>
    intro hj
    rcases (entOk_parts (h (j + 1) hj)).2.1 with h0 | h0
    · omega
    · rw [h0.2, Nat.add_sub_cancel]; exact ih (by omega)
/-- the seconds ascend. -/
theorem rec_sec {zs : List Ent} {k : Nat} (h : ∀ j, j < k → entOk zs j = true) : ∀ i j, i < j → j < k → (entA zs i).second < (entA zs j).second := by
  intro i j hij
  induction j with
  | zero => omega
  | succ j ih =>
    intro hj
    have hs : (entA zs j).second < (entA zs (j + 1)).second := by
      rcases (entOk_parts (h (j + 1) hj)).2.1 with h0 | h0
      · omega
      · rw [Nat.add_sub_cancel] at h0; exact h0.1
    rcases Nat.lt_or_ge i j with h1 | h1
    · exact Int.lt_trans (ih h1 (by omega)) hs
    · obtain rfl : i = j := by omega
      exact hs
/-- the index of the last entry, of the first k, that is not behind a second; -1 if there is none. -/
def atK (zs : List Ent) (s : Int) : Nat → Int
  | 0 => -1
  | k + 1 => if (entA zs k).second ≤ s then (k : Int) else atK zs s k
/-- the entry that a record knows of a second. -/
def atE (zs : List Ent) (s : Int) : Int := if isRec zs then atK zs s zs.length else -1
theorem atK_bound (zs : List Ent) (s : Int) : ∀ k : Nat, -1 ≤ atK zs s k ∧ atK zs s k < k
  | 0 => by simp [atK]
  | k + 1 => by
    have := atK_bound zs s k
    have e : atK zs s (k + 1) = if (entA zs k).second ≤ s then (k : Int) else atK zs s k := rfl
    rw [e]
    split <;> omega
theorem atE_bound (zs : List Ent) (s : Int) : -1 ≤ atE zs s ∧ atE zs s < zs.length := by
  have := atK_bound zs s zs.length
  unfold atE
  split <;> omega
theorem atE_no {zs : List Ent} {s : Int} (h : isRec zs = false) : atE zs s = -1 := by unfold atE; rw [h]; rfl
theorem atE_yes {zs : List Ent} {s : Int} (h : isRec zs = true) : atE zs s = atK zs s zs.length := by unfold atE; rw [h]; rfl
/-- where the seconds ascend the search's end is the last one that is not behind. -/
theorem atK_cut {zs : List Ent} {s : Int} {m : Nat} : ∀ {k : Nat}, m ≤ k → (∀ j, j < m → (entA zs j).second ≤ s) → (∀ j, m ≤ j → j < k → ¬ (entA zs j).second ≤ s) → atK zs s k = (m : Int) - 1
  | 0, hm, h1, h2 => by obtain rfl : m = 0 := by omega
                        simp [atK]
  | k + 1, hm, h1, h2 => by
    have e : atK zs s (k + 1) = if (entA zs k).second ≤ s then (k : Int) else atK zs s k := rfl
    rw [e]
    by_cases e : m = k + 1
    · subst e
      rw [if_pos (h1 k (by omega))]
      omega
    · rw [if_neg (h2 k (by omega) (by omega))]
      exact atK_cut (by omega) h1 (fun j hj hk => h2 j hj (by omega))
/-- the light with an index that an entry shows; -1 if there is none. -/
def litE (zs : List Ent) (i : Int) (e : Int) : Int := if e < 0 ∨ inB i 0 (((entA zs 0).lights.length : Int) - 1) = false then -1 else (entA zs e.toNat).lights.getD i.toNat 0
/-- what LightShown answers. -/
def shownL (zs : List Ent) (i s : Int) : Int := litE zs i (atE zs s)
/-- what ShownAt answers. -/
def shownA (zs : List Ent) (s : Int) : List Int × Bool := if atE zs s < 0 then ([], false) else ((entA zs (atE zs s).toNat).lights, true)
end Go.Proofs.YtblilnfkpfjclaaDoor

/- Chapter 28: witnesses as data. No program. -/
namespace Go.Proofs.YtblilnfkpfjclaaDoor
open Go.RowKit
set_option linter.unusedVariables false

/-- what a witness knows. -/
def recZ (zs : List Ent) : List Ent := if isRec zs then zs else []
theorem recZ_yes {zs : List Ent} (h : isRec zs = true) : recZ zs = zs := by unfold recZ; rw [h]; rfl
theorem recZ_no {zs : List Ent} (h : isRec zs = false) : recZ zs = [] := by unfold recZ; rw [h]; rfl
theorem recZ_ok (zs : List Ent) : ∀ i, i < (recZ zs).length → entOk (recZ zs) i = true := by
  cases h : isRec zs
  · rw [recZ_no h]; intro i hi; exact absurd hi (by simp)
  · rw [recZ_yes h]; exact (isRec_parts h).2
theorem recZ_len (zs : List Ent) : (recZ zs).length ≤ 60 := by
  cases h : isRec zs
  · rw [recZ_no h]; simp
  · rw [recZ_yes h]; exact (isRec_parts h).1
theorem recZ_le (zs : List Ent) : (recZ zs).length ≤ zs.length := by
  cases h : isRec zs
  · rw [recZ_no h]; simp
  · rw [recZ_yes h]; exact Nat.le_refl _
theorem atE_recZ (zs : List Ent) (s : Int) : atE zs s = atK (recZ zs) s (recZ zs).length := by
  cases h : isRec zs
  · rw [recZ_no h, atE_no h]; rfl
  · rw [recZ_yes h, atE_yes h]
def hasL (zs : List Ent) (i : Int) : Bool := inB i 0 (((entA zs 0).lights.length : Int) - 1)
theorem hasL_nil (i : Int) : hasL [] i = false := by
  unfold hasL
  cases h : inB i 0 (((entA [] 0).lights.length : Int) - 1)
  · rfl
  · have := inB_t h
    have e : (entA [] 0).lights.length = 0 := rfl
    rw [e] at this
    omega
theorem litE_neg {zs : List Ent} {i e : Int} (h : e < 0) : litE zs i e = -1 := by unfold litE; rw [if_pos (.inl h)]
theorem litE_no {zs : List Ent} {i e : Int} (h : hasL zs i = false) : litE zs i e = -1 := by unfold litE; rw [if_pos (.inr h)]
theorem litE_yes {zs : List Ent} {j : Nat} {k : Nat} (h : hasL zs j = true) : litE zs j k = (entA zs k).lights.getD j 0 := by
  unfold litE
  rw [if_neg]
  · simp
  · intro h2
    rcases h2 with h2 | h2
    · omega
    · unfold hasL at h; rw [h] at h2; cases h2
theorem shownL_recZ (zs : List Ent) (i s : Int) : shownL zs i s = litE (recZ zs) i (atK (recZ zs) s (recZ zs).length) := by
  unfold shownL
  rw [atE_recZ]
  cases h : isRec zs
  · rw [recZ_no h]
    have e : atK ([] : List Ent) s ([] : List Ent).length = -1 := rfl
    rw [e, litE_neg (by omega), litE_neg (by omega)]
  · rw [recZ_yes h]
/-- how many of the first k entries have another light than the one before. -/
def chgK (zs : List Ent) (i : Int) : Nat → Int
  | 0 => 0
  | k + 1 => if k ≠ 0 ∧ litE zs i k ≠ litE zs i ((k : Int) - 1) then chgK zs i k + 1 else chgK zs i k
def chgN (zs : List Ent) (i : Int) : Int := chgK (recZ zs) i (recZ zs).length
theorem chgK_bound (zs : List Ent) (i : Int) : ∀ k : Nat, 0 ≤ chgK zs i k ∧ chgK zs i k ≤ k
  | 0 => by simp [chgK]
  | k + 1 => by
    have := chgK_bound zs i k
    have e : chgK zs i (k + 1) = if k ≠ 0 ∧ litE zs i k ≠ litE zs i ((k : Int) - 1) then chgK zs i k + 1 else chgK zs i k := rfl
    rw [e]
    split <;> omega
theorem chgK_yes {zs : List Ent} {i : Int} {k : Nat} (h0 : k ≠ 0) (h : litE zs i k ≠ litE zs i ((k : Int) - 1)) : chgK zs i (k + 1) = chgK zs i k + 1 := by
  show (if _ then _ else _) = _
  rw [if_pos ⟨h0, h⟩]
theorem chgK_no {zs : List Ent} {i : Int} {k : Nat} (h : k = 0 ∨ litE zs i k = litE zs i ((k : Int) - 1)) : chgK zs i (k + 1) = chgK zs i k := by
  show (if _ then _ else _) = _
  rw [if_neg]
  rintro ⟨h1, h2⟩
  rcases h with h | h
  · exact h1 h
  · exact h2 h
theorem chgK_none {zs : List Ent} {i : Int} (h : hasL zs i = false) : ∀ k : Nat, chgK zs i k = 0
  | 0 => rfl
  | k + 1 => by rw [chgK_no (.inr (by rw [litE_no h, litE_no h])), chgK_none h k]
/-- from which entry on all up to the k-th have been green. -/
def backK (zs : List Ent) (i : Int) : Nat → Nat
  | 0 => 0
  | k + 1 => if litE zs i k = 1 then backK zs i k else k + 1
theorem backK_le (zs : List Ent) (i : Int) : ∀ k : Nat, backK zs i k ≤ k
  | 0 => Nat.le_refl _
  | k + 1 => by
    have := backK_le zs i k
    have e : backK zs i (k + 1) = if litE zs i k = 1 then backK zs i k else k + 1 := rfl
    rw [e]
    split <;> omega
/-- what GreenSince answers. -/
def sinceG (zs : List Ent) (i s : Int) : Int := if shownL zs i s = 1 then IntKind.i64.wrap (s - (entA zs (backK zs i (atE zs s).toNat)).second) else -1
/-- a light that is shown is one of a record's. -/
theorem shown_is {zs : List Ent} {i s : Int} (h : shownL zs i s = 1) : isRec zs = true ∧ ∃ k : Nat, k < zs.length ∧ atE zs s = k ∧ hasL zs i = true ∧ litE zs i k = 1 := by
  have hb := atE_bound zs s
  unfold shownL at h
  have h0 : 0 ≤ atE zs s := by
    rcases Int.lt_or_le (atE zs s) 0 with h1 | h1
    · rw [litE_neg h1] at h; omega
    · exact h1
  refine ⟨?_, (atE zs s).toNat, by omega, by omega, ?_, by rw [Int.toNat_of_nonneg h0]; exact h⟩
  · cases hr : isRec zs
    · rw [atE_no hr] at h0; omega
    · rfl
  · cases hh : hasL zs i
    · rw [litE_no hh] at h; omega
    · rfl
end Go.Proofs.YtblilnfkpfjclaaDoor

/- Chapter 3's hashes: program and model. -/
namespace Go.Proofs.YtblilnfkpfjclaaDoor
open Go.RowKit
set_option linter.unusedVariables false

theorem modI_p (v : Int) : modI v 2147483647 = v % 2147483647 := rfl
theorem hash_step {d r : Int} (hd : 0 ≤ d ∧ d < 2147483647) (hr : 0 ≤ r ∧ r < 2147483647) : wrap64 (wrap64 (wrap64 (d * 1000003) + r) + 13) = d * 1000003 + r + 13 ∧ 0 ≤ d * 1000003 + r + 13 := by
  rw [IntWalk.wrap64_in (d * 1000003) (by omega), IntWalk.wrap64_in (d * 1000003 + r) (by omega), IntWalk.wrap64_in _ (by omega)]
  omega
theorem impl_fold (d v : Int) (w : World) (hd : 0 ≤ d ∧ d < 2147483647) :
    Calls Tryd.prog 68 #[.int .i64 d, .int .i64 v] w fun e w' => e = .returned (.int .i64 (hstep d v)) ∧ w = w' := by
  obtain ⟨h1, h2⟩ := hd
  have hr := Int.emod_nonneg v (show (2147483647 : Int) ≠ 0 by decide)
  have hr2 := Int.emod_lt_of_pos v (show (0 : Int) < 2147483647 by decide)
  have HS : Hid (hstep d v = (d * 1000003 + v % 2147483647 + 13) % 2147483647) := Lib.hid rfl
  go_enter Tryd.func68, Tryd.ntmps68
  go_wp2_with fail
  refine (impl_Mod v 2147483647 _).mono ?_
  rintro e w1 ⟨rfl, rfl⟩
  rw [modI_p]
  generalize v % 2147483647 = r at *
  go_wp2
  go_ret
  exact ⟨ret_i (by rw [HS.out]), rfl⟩
theorem foldl_take {vs : List Int} {k : Nat} (d : Int) (h : k < vs.length) : (vs.take (k + 1)).foldl hstep d = hstep ((vs.take k).foldl hstep d) (vs.getD k 0) := by
  rw [List.take_add_one, List.foldl_append, List.getD_eq_getElem?_getD, List.getElem?_eq_getElem h]
  rfl
theorem impl_foldAll (d : Int) (A : Option Addr) (n c B : Nat) (vs : List Int) (w : World) (hd : 0 ≤ d ∧ d < 2147483647) (h : IntsAt .i64 w B A n vs) (hn : n ≤ 4398046511104) :
    Calls Tryd.prog 64 #[.int .i64 d, .slice A n c] w fun e w' => e = .returned (.int .i64 (vs.foldl hstep d)) ∧ w = w' := by
  have hl := h.1
  go_enter Tryd.func64, Tryd.ntmps64
  go_wp2
  go_loop [0, 9] (fun x i => ∃ k : Nat, k ≤ n ∧ i = .int .i64 k ∧ x = .int .i64 ((vs.take k).foldl hstep d)) (fun _ i => n - (intOf i).toNat)
  case atStart => exact ⟨0, Nat.zero_le _, rfl, by simp⟩
  case round =>
    obtain ⟨k, hk, rfl, rfl⟩ := hrel
    by_cases hlt : k < n
    · obtain ⟨ad, rfl, hab, hcell⟩ := h.2 (by omega)
      have hc := hcell k hlt
      have HS := Lib.hid (foldl_take d (show k < vs.length by omega))
      have HR := Lib.hid (hash_fold_range (vs.take k) d hd)
      clear hcell
      generalize (vs.take k).foldl hstep d = x at *
      generalize vs.getD k 0 = z at *
      go_wp2_with fail
      refine (impl_fold x z _ HR.out).mono ?_
      rintro e w1 ⟨rfl, rfl⟩
      go_wp2
      go_round
      case rel => exact ⟨k + 1, by omega, by go_num, by rw [HS.out]⟩
      case measure => simp [intOf]; omega
    · obtain rfl : k = n := by omega
      rw [List.take_of_length_le (by omega)]
      go_wp2
      go_ret
      exact ⟨rfl, rfl⟩
theorem impl_Hash (A : Option Addr) (n c B : Nat) (vs : List Int) (w : World) (h : IntsAt .i64 w B A n vs) (hn : n ≤ 4398046511104) :
    Calls Tryd.prog 55 #[.slice A n c] w fun e w' => e = .returned (.int .i64 (hashI vs)) ∧ w = w' := by
  go_enter Tryd.func55, Tryd.ntmps55
  go_wp2_with fail
  refine (impl_foldAll 11 A n c B vs _ (by decide) h hn).mono ?_
  rintro e w1 ⟨rfl, rfl⟩
  go_wp2
  go_ret
  exact ⟨rfl, rfl⟩
theorem spec_Hash (A : Option Addr) (n c B : Nat) (vs : List Int) (w : World) (h : IntsAt .i64 w B A n vs) (hn : n ≤ 4398046511104) :
    Calls Tryd.prog 33 #[.slice A n c] w fun e w' => e = .returned (.int .i64 (hashI vs)) ∧ w = w' := by
  have hl := h.1
  go_enter Tryd.func33, Tryd.ntmps33
  go_wp2
  go_loop [3, 4] (fun x i => ∃ k : Nat, k ≤ n ∧ i = .int .i64 k ∧ x = .int .i64 (hashI (vs.take k))) (fun _ i => n - (intOf i).toNat)
  case atStart => exact ⟨0, Nat.zero_le _, rfl, rfl⟩
  case round =>
    obtain ⟨k, hk, rfl, rfl⟩ := hrel
    by_cases hlt : k < n
    · obtain ⟨ad, rfl, hab, hcell⟩ := h.2 (by omega)
      have hc := hcell k hlt
      have HS := Lib.hid (hashI_take (show k < vs.length by omega))
      obtain ⟨g1, g2⟩ := hashI_range (vs.take k)
      clear hcell
      generalize hashI (vs.take k) = x at *
      generalize vs.getD k 0 = z at *
      have HZ : Hid (hstep x z = (x * 1000003 + z % 2147483647 + 13) % 2147483647) := Lib.hid rfl
      have hr := Int.emod_nonneg z (show (2147483647 : Int) ≠ 0 by decide)
      have hr2 := Int.emod_lt_of_pos z (show (0 : Int) < 2147483647 by decide)
      go_wp2_with fail
      refine (spec_Mod z 2147483647 _).mono ?_
      rintro e w1 ⟨rfl, rfl⟩
      rw [modI_p]
      generalize z % 2147483647 = r at *
      go_wp2
      go_round
      case rel => exact ⟨k + 1, by omega, by go_num, by rw [HS.out, HZ.out]⟩
      case measure => simp [intOf]; omega
    · obtain rfl : k = n := by omega
      rw [hashI_all hl]
      go_wp2
      go_ret
      exact ⟨rfl, rfl⟩
end Go.Proofs.YtblilnfkpfjclaaDoor

/- Chapter 27: SealOf: program and model; slices.Concat, slices.Grow of integers. -/
namespace Go.Proofs.YtblilnfkpfjclaaDoor
open Go.RowKit
set_option linter.unusedVariables false

set_option maxHeartbeats 1000000 in
theorem spec_SealOf (b s : Int) (A : Option Addr) (n c B : Nat) (ls : List Int) (w : World) (h : IntsAt .i64 w B A n ls) (hA : A = none → n = 0 ∧ c = 0) (hB : B ≤ w.heap.size) (hn : n ≤ 1099511627776) :
    Calls Tryd.prog 22 #[.int .i64 b, .int .i64 s, .slice A n c] w fun e w' => e = .returned (.int .i64 (sealI b s ls)) ∧ Below w.heap.size w w' := by
  have hl := h.1
  have HV : Hid (sealI b s ls = hashI (b :: s :: ls)) := Lib.hid rfl
  have own0 : Own .i64 3 (w.alloc (.cells #[.int .i64 b, .int .i64 s] 3)) w.heap.size (.slice (some ⟨w.heap.size, 0, none⟩) 2 2) [b, s] := own_lit w [b, s] 2 (Nat.le_refl _) (by decide) rfl
  go_enter Tryd.func22, Tryd.ntmps22
  go_wp2_with (first
    | (at_builtin; refine wpList_app rfl _ _ 35 35 rfl .i64 3 3 8 Tryd.underlying35 Tryd.underlying35 info_i64 w.heap.size _ [b, s] rfl own0 A n c B ls rfl (h.keep fun p hp => World.cell?_of_block (Below.heap_alloc w _ _ (by omega))) hA (by decide) (by simp; omega) (by simp) ?_; intro v1 w1 hown1 hgrow1 hat1; have hb1 := own0.push (Nat.le_refl _) ((Below.refl _ _).alloc (Nat.le_refl _) _) (by simp) hgrow1; have hs1 := hb1.size; obtain ⟨A2, c2, rfl⟩ := hown1.sliced))
  have hi2 := hown1.ints
  rw [show ([b, s] ++ ls).length = n + 1 + 1 by simp [hl]] at hi2
  clear hgrow1 hat1 hown1 own0
  refine (spec_Hash A2 (n + 1 + 1) c2 _ ([b, s] ++ ls) _ hi2 (by omega)).mono ?_
  rintro e w3 ⟨rfl, rfl⟩
  go_wp2
  go_ret
  exact ⟨by rw [HV.out]; rfl, hb1⟩
theorem zc_size (m : Nat) : (Builtin.zeroCells (Value.int .i64 0).cells m).size = m := by
  simp [Builtin.zeroCells, Value.cells]
theorem lib_GrowNil (m : Nat) (w : World) (hm : m ≤ 1099511627776) (hp : 0 < m) :
    Calls Tryd.prog 65 #[.slice none 0 0, .int .i64 m] w fun e w' => ∃ v, e = .returned v ∧ Own .i64 3 w' w.heap.size v [] ∧ Below w.heap.size w w' := by
  have e1 : ¬ (m : Int) < 0 := by omega
  have e2 : (m : Int) > 0 := by omega
  have hwm : IntKind.i64.wrap (m : Int) = (m : Int) := by rw [IntKind.wrap_i64]; omega
  obtain ⟨i, hi1, hz, hsz, hby⟩ := info_parts (info_i64)
  have hr := fun ty => Lib.run_append_nil_zeros (P := Tryd.prog) w 35 3 ty 3 i (.int .i64 0) .i64 .i64 Tryd.underlying35 Tryd.underlying3 hi1 hz m hp (by omega) (by omega) (by rw [hby]; have e8 : IntKind.i64.bits / 8 = 8 := rfl; rw [e8]; omega)
  have hc1 := grownCap_ge w m 0 3
  have hc2 := grownCap_le_maxLen w m 0 3 (by unfold maxLen; omega)
  obtain ⟨q, hq⟩ : ∃ q, q = grownCap w m 0 3 := ⟨_, rfl⟩
  rw [← hq] at hc1 hc2
  simp only [← hq] at hr
  have HW : Hid (Own .i64 3 (w.drew.alloc (.cells (Builtin.zeroCells (Value.int .i64 0).cells m ++ Builtin.zeroCells (Value.int .i64 0).cells (q - m)) 3)) w.heap.size (.slice (some ⟨w.heap.size, 0, none⟩) 0 q) []) := Lib.hid ⟨rfl, .inr ⟨w.heap.size, q, _, rfl, Nat.le_refl _, heap_alloc_new w.drew _, Nat.zero_le _, hc2, by rw [Array.size_append, zc_size, zc_size]; omega, rfl⟩⟩
  have HB : Hid (Below w.heap.size w (w.drew.alloc (.cells (Builtin.zeroCells (Value.int .i64 0).cells m ++ Builtin.zeroCells (Value.int .i64 0).cells (q - m)) 3))) := Lib.hid ((show Below w.heap.size w w.drew from ⟨rfl, rfl, rfl, Nat.le_refl _, fun _ _ => rfl⟩).alloc (Nat.le_refl _) _)
  generalize w.drew.alloc (.cells (Builtin.zeroCells (Value.int .i64 0).cells m ++ Builtin.zeroCells (Value.int .i64 0).cells (q - m)) 3) = w1 at *
  clear hi1 hz hsz hby hq
  go_enter Tryd.func65, Tryd.ntmps65
  go_wp2_with (at_builtin; refine Lib.wpList_append_run w rfl _ _ _ _ rfl (.slice none 0 0) (.int .i64 m) rfl rfl _ _ (hr _) ?_)
  go_ret
  exact ⟨_, rfl, HW.out, HB.out⟩
set_option maxHeartbeats 2000000 in
/-- slices.Concat of two rows, the first one not empty. -/
theorem lib_Concat2 (H : Nat) (A1 : Option Addr) (n1 c1 : Nat) (xs : List Int) (A2 : Option Addr) (n2 c2 : Nat) (ys : List Int) (B : Nat) (w : World)
    (hH : w.heap[H]? = some (.cells #[.slice A1 n1 c1, .slice A2 n2 c2] 35)) (h1 : IntsAt .i64 w B A1 n1 xs) (h2 : IntsAt .i64 w B A2 n2 ys) (hB : B ≤ w.heap.size) (hA1 : A1 = none → n1 = 0 ∧ c1 = 0) (hA2 : A2 = none → n2 = 0 ∧ c2 = 0) (hp : 0 < n1) (hs1 : n1 ≤ 1048576) (hs2 : n2 ≤ 1048576) :
    Calls Tryd.prog 56 #[.slice (some ⟨H, 0, none⟩) 2 2] w fun e w' => ∃ A c, e = .returned (.slice A (n1 + n2) c) ∧ Own .i64 3 w' w.heap.size (.slice A (n1 + n2) c) (xs ++ ys) ∧ Below w.heap.size w w' := by
  have hl1 := h1.1
  have hl2 := h2.1
  have z0 : w.cell? ⟨H, 0, none⟩ = some (.slice A1 n1 c1) := by rw [cell_of_row w H 0 _ _ _ hH]; rfl
  have z1 : w.cell? ⟨H, 1, none⟩ = some (.slice A2 n2 c2) := by rw [cell_of_row w H 1 _ _ _ hH]; rfl
  have wa : IntKind.i64.wrap ((n1 : Int) + (n2 : Int)) = ((n1 + n2 : Nat) : Int) := by rw [IntKind.wrap_i64]; omega
  have wb : IntKind.i64.wrap ((n1 : Int)) = (n1 : Int) := by rw [IntKind.wrap_i64]; omega
  have hlt := lt_of_block hH
  have HZ := Lib.hid hH
  clear hH
  go_enter Tryd.func56, Tryd.ntmps56
  go_wp2_with fail
  go_loopw [3, 11] (fun z i wr => w = wr ∧ ((i = .int .i64 0 ∧ z = .int .i64 0) ∨ (i = .int .i64 1 ∧ z = .int .i64 n1) ∨ (i = .int .i64 2 ∧ z = .int .i64 ((n1 + n2 : Nat) : Int)))) (fun _ i _ => 2 - (intOf i).toNat)
  case atStart => exact ⟨rfl, .inl ⟨rfl, rfl⟩⟩
  case round =>
    obtain ⟨rfl, ⟨rfl, rfl⟩ | ⟨rfl, rfl⟩ | ⟨rfl, rfl⟩⟩ := hrel
    · have e2 : ¬ (n1 : Int) < 0 := by omega
      go_wp2_with fail
      go_roundw
      case rel => exact ⟨by first | trivial | rfl, .inr (.inl ⟨by go_num, by go_num⟩)⟩
      case measure => simp [intOf]
    · have e1 : ¬ ((n1 + n2 : Nat) : Int) < 0 := by omega
      have e3 : ¬ (n1 : Int) + (n2 : Int) < 0 := by omega
      go_wp2_with fail
      go_roundw
      case rel => exact ⟨by first | trivial | rfl, .inr (.inr ⟨by go_num, by go_num⟩)⟩
      case measure => simp [intOf]
    · clear z0 z1
      go_wp2_with fail
      refine (lib_GrowNil (n1 + n2) w (by omega) (by omega)).mono ?_
      rintro e w1 ⟨v, rfl, ho, hb⟩
      have hH1 := Lib.hid ((hb.block H hlt).trans HZ.out)
      have HO := Lib.hid ho
      have HB := Lib.hid hb
      obtain ⟨Ag, cg, rfl⟩ := ho.sliced
      have I1 := Lib.hid h1
      have I2 := Lib.hid h2
      clear ho hb h1 h2
      go_wp2_with fail
      go_loopw [6, 27] (fun v i wr => Below w.heap.size w wr ∧ ((i = .int .i64 0 ∧ Own .i64 3 wr w.heap.size v []) ∨ (i = .int .i64 1 ∧ Own .i64 3 wr w.heap.size v xs) ∨ (i = .int .i64 2 ∧ Own .i64 3 wr w.heap.size v (xs ++ ys)))) (fun _ i _ => 2 - (intOf i).toNat)
      case atStart => exact ⟨HB.out, .inl ⟨rfl, HO.out⟩⟩
      case round =>
        obtain ⟨hbl, ⟨rfl, ho⟩ | ⟨rfl, ho⟩ | ⟨rfl, ho⟩⟩ := hrel
        · have hHr := (hbl.block H hlt).trans HZ.out
          have z0 : wr.cell? ⟨H, 0, none⟩ = some (.slice A1 n1 c1) := by rw [cell_of_row wr H 0 _ _ _ hHr]; rfl
          have hi := I1.out.keep (w' := wr) (fun p hp => hbl.cell (by omega))
          have hsz := hbl.size
          have HBL := Lib.hid hbl
          clear hHr hbl
          go_wp2_with (at_builtin; refine wpList_app rfl _ _ 35 35 rfl .i64 3 3 8 Tryd.underlying35 Tryd.underlying35 info_i64 w.heap.size _ [] rfl ho A1 n1 c1 B xs rfl hi hA1 (by decide) (by simp; omega) (by omega) ?_; intro v1 wq hown1 hgrow1 hat1; have hb1 := ho.push (Nat.le_refl _) HBL.out hsz hgrow1; have hown2 : Own .i64 3 wq w.heap.size v1 xs := by { simpa using hown1 }; clear hown1 hgrow1 hat1)
          go_roundw
          case rel => exact ⟨hb1, .inr (.inl ⟨by go_num, hown2⟩)⟩
          case measure => simp [intOf]
        · have hHr := (hbl.block H hlt).trans HZ.out
          have z1 : wr.cell? ⟨H, 1, none⟩ = some (.slice A2 n2 c2) := by rw [cell_of_row wr H 1 _ _ _ hHr]; rfl
          have hi := I2.out.keep (w' := wr) (fun p hp => hbl.cell (by omega))
          have hsz := hbl.size
          have HBL := Lib.hid hbl
          clear hHr hbl
          go_wp2_with (at_builtin; refine wpList_app rfl _ _ 35 35 rfl .i64 3 3 8 Tryd.underlying35 Tryd.underlying35 info_i64 w.heap.size _ xs rfl ho A2 n2 c2 B ys rfl hi hA2 (by decide) (by omega) (by omega) ?_; intro v1 wq hown1 hgrow1 hat1; have hb1 := ho.push (Nat.le_refl _) HBL.out hsz hgrow1; clear hgrow1 hat1)
          go_roundw
          case rel => exact ⟨hb1, .inr (.inr ⟨by go_num, hown1⟩)⟩
          case measure => simp [intOf]
        · obtain ⟨Ae, ce, rfl⟩ := ho.sliced
          have HOE := Lib.hid ho
          clear ho
          go_wp2_with fail
          go_ret
          exact ⟨Ae, ce, by simp [hl1, hl2], by have := HOE.out; simpa [hl1, hl2] using this, hbl⟩
set_option maxHeartbeats 2000000 in
theorem impl_SealOf (b s : Int) (A : Option Addr) (n c B : Nat) (ls : List Int) (w : World) (h : IntsAt .i64 w B A n ls) (hA : A = none → n = 0 ∧ c = 0) (hB : B ≤ w.heap.size) (hn : n ≤ 1048576) :
    Calls Tryd.prog 46 #[.int .i64 b, .int .i64 s, .slice A n c] w fun e w' => e = .returned (.int .i64 (sealI b s ls)) ∧ Below w.heap.size w w' := by
  have hl := h.1
  have HV : Hid (sealI b s ls = hashI (b :: s :: ls)) := Lib.hid rfl
  obtain ⟨wA, hwA⟩ : ∃ wA, wA = (w.alloc (.cells #[.int .i64 b, .int .i64 s] 3)).alloc (.cells #[.slice (some ⟨w.heap.size, 0, none⟩) 2 2, .slice A n c] 35) := ⟨_, rfl⟩
  obtain ⟨hk0, hk1, hsz, hBA⟩ := two_blocks hwA
  have own0 : Own .i64 3 (w.alloc (.cells #[.int .i64 b, .int .i64 s] 3)) w.heap.size (.slice (some ⟨w.heap.size, 0, none⟩) 2 2) [b, s] := own_lit w [b, s] 2 (Nat.le_refl _) (by decide) rfl
  have own1 := (own0.alloc (.cells #[.slice (some ⟨w.heap.size, 0, none⟩) 2 2, .slice A n c] 35))
  rw [← hwA] at own1
  have hcc := lib_Concat2 (w.heap.size + 1) (some ⟨w.heap.size, 0, none⟩) 2 2 [b, s] A n c ls wA.heap.size wA hk1 own1.ints ((h.keep fun p hp => hBA.cell (by omega)).up (by omega)) (Nat.le_refl _) (by simp) hA (by omega) (by omega) hn
  have HBA := Lib.hid hBA
  clear hk0 hk1 hsz own0 own1 hBA
  go_enter Tryd.func46, Tryd.ntmps46
  go_wp2_with fail
  rw [← hwA]
  clear hwA
  refine hcc.mono ?_
  rintro e w1 ⟨A1, c1, rfl, ho, hb⟩
  have hi := ho.ints
  have HB1 := Lib.hid (HBA.out.trans (hb.mono HBA.out.size))
  clear hcc ho hb
  go_wp2_with fail
  refine (impl_Hash A1 (2 + n) c1 _ ([b, s] ++ ls) _ hi (by omega)).mono ?_
  rintro e w3 ⟨rfl, rfl⟩
  go_wp2
  go_ret
  exact ⟨by rw [HV.out]; rfl, HB1.out⟩
end Go.Proofs.YtblilnfkpfjclaaDoor

/- Chapter 27: entries linked to the ones before them: lastOf, seal, LastSeal: program and model. -/
namespace Go.Proofs.YtblilnfkpfjclaaDoor
open Go.RowKit
set_option linter.unusedVariables false

/-- the pointer to the k-th entry, linked to all before it. -/
def LkAt (w : World) (lo : Nat) (zs : List Ent) : Nat → Value → Prop
  | 0, v => v = .pointer none
  | k + 1, v => ∃ (g : Nat) (v' : Value) (A : Option Addr) (m c : Nat), v = .pointer (some ⟨g, 0, none⟩) ∧ lo ≤ g ∧
      w.heap[g]? = some (.cells #[.int .i64 (entA zs k).second, .slice A m c, .int .i64 (entA zs k).mac, v'] 73) ∧ IntsAt .i64 w w.heap.size A m (entA zs k).lights ∧ (A = none → m = 0 ∧ c = 0) ∧ LkAt w lo zs k v'
theorem LkAt.below {w w' : World} {lo : Nat} {zs : List Ent} (hb : Below w.heap.size w w') : ∀ {k : Nat} {v : Value}, LkAt w lo zs k v → LkAt w' lo zs k v
  | 0, _, h => h
  | k + 1, _, ⟨g, v', A, m, c, e, hl, hg, hi, hn, h⟩ => ⟨g, v', A, m, c, e, hl, (hb.block _ (lt_of_block hg)).trans hg, (hi.keep fun _ hp => hb.cell hp).up hb.size, hn, LkAt.below hb h⟩
theorem LkAt.ptr {w : World} {lo : Nat} {zs : List Ent} : ∀ {k : Nat} {v : Value}, LkAt w lo zs k v → ∃ o, v = .pointer o
  | 0, _, h => ⟨_, h⟩
  | k + 1, _, ⟨g, v', A, m, c, e, _⟩ => ⟨_, e⟩
/-- the last one's seal. -/
def lastSl (zs : List Ent) : Int := if zs.length = 0 then 0 else (entA zs (zs.length - 1)).mac
theorem cells4 {w : World} {g : Nat} {x0 x1 x2 x3 : Value} {E : TypeId} {fr : Nat × Nat} (h : w.heap[g]? = some (.cells #[x0, x1, x2, x3] E fr)) : w.cell? ⟨g, 0, none⟩ = some x0 ∧ w.cell? ⟨g, 1, none⟩ = some x1 ∧ w.cell? ⟨g, 2, none⟩ = some x2 ∧ w.cell? ⟨g, 3, none⟩ = some x3 :=
  ⟨by rw [cell_of_row w g 0 _ E fr h]; rfl, by rw [cell_of_row w g _ _ E fr h]; rfl, by rw [cell_of_row w g _ _ E fr h]; rfl, by rw [cell_of_row w g _ _ E fr h]; rfl⟩
set_option maxHeartbeats 1000000 in
theorem impl_lastOf (A : Option Addr) (n c B : Nat) (zs : List Ent) (w : World) (h : EntsAt w B A n zs) (hB : B ≤ w.heap.size) (hn : n ≤ 4294967296) :
    Calls Tryd.prog 38 #[.slice A n c] w fun e w' => ∃ v, e = .returned v ∧ LkAt w' w.heap.size zs n v ∧ Below w.heap.size w w' := by
  have hl := h.1
  go_enter Tryd.func38, Tryd.ntmps38
  go_wp2
  go_loopw [3, 8] (fun v i wr => ∃ k : Nat, k ≤ n ∧ i = .int .i64 k ∧ LkAt wr w.heap.size zs k v ∧ Below w.heap.size w wr) (fun _ i _ => n - (intOf i).toNat)
  case atStart => exact ⟨0, Nat.zero_le _, rfl, rfl, Below.refl _ _⟩
  case round =>
    obtain ⟨k, hk, rfl, hv, hbl⟩ := hrel
    by_cases hlt : k < n
    · obtain ⟨ad, A', m, c', rfl, hab, hq, hi, hmc, hnil⟩ := h.at hlt
      obtain ⟨c0, c1, c2⟩ := hq.below hbl (by omega)
      have hiw := hi.keep (w' := wr) (fun p hp => hbl.cell (by omega))
      have hsz := hbl.size
      have i1 : (0 : Int) ≤ (k : Int) := by omega
      have i2 : (k : Int) < (n : Int) := by omega
      obtain ⟨o3, rfl⟩ := hv.ptr
      have HV := Lib.hid hv
      have HI := Lib.hid hiw
      have HB := Lib.hid hbl
      have HNL := Lib.hid hnil
      clear hq hi hiw hv hbl hnil
      go_wp2
      go_roundw
      case rel =>
        have hb2 : Below wr.heap.size wr ((wr.alloc (.cells #[.int .i64 (entA zs k).second, .slice A' m c', .int .i64 (entA zs k).mac] 40)).alloc (.cells #[.int .i64 (entA zs k).second, .slice A' m c', .int .i64 (entA zs k).mac, .pointer o3] 73)) := ((Below.refl _ _).alloc (Nat.le_refl _) _).alloc (by simp) _
        refine ⟨k + 1, by omega, by go_num, ⟨wr.heap.size + 1, .pointer o3, A', m, c', rfl, by omega, heap_newF _ _ (heap_size_allocF _ _), (HI.out.keep fun _ hp => hb2.cell (by omega)).up (by simp; omega), HNL.out, HV.out.below hb2⟩, HB.out.trans (hb2.mono hsz)⟩
      case measure => simp [intOf]; omega
    · obtain rfl : k = n := by omega
      have HV := Lib.hid hv
      clear hv
      go_wp2
      go_ret
      exact ⟨_, rfl, HV.out, hbl⟩
theorem impl_seal_nil (w : World) : Calls Tryd.prog 47 #[.pointer none] w fun e w' => e = .returned (.int .i64 0) ∧ w = w' := by
  go_enter Tryd.func47, Tryd.ntmps47
  go_wp2
  go_ret
  exact ⟨rfl, rfl⟩
theorem impl_seal (g : Nat) (x0 x1 v : Value) (s : Int) (w : World) (h : w.heap[g]? = some (.cells #[x0, x1, .int .i64 s, v] 73)) : Calls Tryd.prog 47 #[.pointer (some ⟨g, 0, none⟩)] w fun e w' => e = .returned (.int .i64 s) ∧ w = w' := by
  obtain ⟨c0, c1, c2, c3⟩ := cells4 h
  clear h
  go_enter Tryd.func47, Tryd.ntmps47
  go_wp2
  go_ret
  exact ⟨rfl, rfl⟩
end Go.Proofs.YtblilnfkpfjclaaDoor

/- Chapter 27: IsRecord of the program. -/
namespace Go.Proofs.YtblilnfkpfjclaaDoor
open Go.RowKit
set_option linter.unusedVariables false

theorem impl_isSecondR (n : Int) (w : World) : Calls Tryd.prog 44 #[.int .i64 n] w fun e w' => e = .returned (.bool (inB n 0 1000000)) ∧ w = w' := by
  go_enter Tryd.func44, Tryd.ntmps44
  go_wp2_with fail
  refine (impl_InRange _ _ _ _).mono ?_
  rintro e w' ⟨rfl, rfl⟩
  go_wp2
  go_ret
  exact ⟨rfl, rfl⟩
theorem litsOk_no {ls : List Int} {k : Nat} (hk : k < ls.length) (h : inB (ls.getD k 0) 0 2 = false) : litsOk ls = false := by
  unfold litsOk
  exact List.all_eq_false.2 ⟨ls.getD k 0, by rw [List.getD_eq_getElem?_getD, List.getElem?_eq_getElem hk]; exact List.getElem_mem _, by rw [h]; simp⟩
theorem litsOk_yes {ls : List Int} (h : ∀ k, k < ls.length → inB (ls.getD k 0) 0 2 = true) : litsOk ls = true := by
  unfold litsOk
  refine List.all_eq_true.2 (fun z hz => ?_)
  obtain ⟨i, hi, rfl⟩ := List.mem_iff_getElem.1 hz
  have := h i hi
  rwa [List.getD_eq_getElem?_getD, List.getElem?_eq_getElem hi] at this
def shwB (ls : List Int) : Bool := decide (ls.length ≤ 12) && litsOk ls
theorem impl_areShown (A : Option Addr) (n c B : Nat) (ls : List Int) (w : World) (h : IntsAt .i64 w B A n ls) (hn : n ≤ 4294967296) :
    Calls Tryd.prog 45 #[.slice A n c] w fun e w' => e = .returned (.bool (shwB ls)) ∧ w = w' := by
  have hl := h.1
  by_cases h12 : 12 < n
  · have HV : Hid (shwB ls = false) := Lib.hid (by unfold shwB; rw [decide_eq_false (by omega), Bool.false_and])
    have e1 : (n : Int) > 12 := by omega
    go_enter Tryd.func45, Tryd.ntmps45
    go_wp2
    go_ret
    exact ⟨by rw [HV.out]; rfl, rfl⟩
  have e1 : ¬ (n : Int) > 12 := by omega
  have HNO : Hid (∀ k, k < n → inB (ls.getD k 0) 0 2 = false → shwB ls = false) := Lib.hid (fun k hk h => by unfold shwB; rw [litsOk_no (by omega) h, Bool.and_false])
  have HYES : Hid ((∀ k, k < n → inB (ls.getD k 0) 0 2 = true) → shwB ls = true) := Lib.hid (fun h => by unfold shwB; rw [litsOk_yes (fun k hk => h k (by omega)), decide_eq_true (by omega)]; rfl)
  clear hl
  go_enter Tryd.func45, Tryd.ntmps45
  go_wp2
  go_loopw [10] (fun i wr => ∃ k : Nat, k ≤ n ∧ i = .int .i64 k ∧ (∀ j, j < k → inB (ls.getD j 0) 0 2 = true) ∧ w = wr) (fun i _ => n - (intOf i).toNat)
  case atStart => exact ⟨0, Nat.zero_le _, rfl, fun j hj => absurd hj (by omega), rfl⟩
  case round =>
    obtain ⟨k, hk, rfl, hgo, rfl⟩ := hrel
    have HG := Lib.hid hgo
    clear hgo
    by_cases hlt : k < n
    · obtain ⟨ad, rfl, hab, hcell⟩ := h.2 (by omega)
      have hc := hcell k hlt
      have i1 : (0 : Int) ≤ (k : Int) := by omega
      have i2 : (k : Int) < (n : Int) := by omega
      have HNK := Lib.hid (HNO.out k hlt)
      have HGK : Hid (inB (ls.getD k 0) 0 2 = true → ∀ j, j < k + 1 → inB (ls.getD j 0) 0 2 = true) := Lib.hid (fun h j hj => by
        by_cases e : j = k
        · subst e; exact h
        · exact HG.out j (by omega))
      clear hcell
      generalize ls.getD k 0 = z at *
      cases g : inB z 0 2
      · have HV := Lib.hid (HNK.out g)
        have G := Lib.hid g
        clear g HGK HNK
        go_wp2_with (go_at_call 29; refine (impl_InRange _ _ _ _).mono ?_; rintro e w' ⟨rfl, rfl⟩; rw [G.out])
        go_ret
        exact ⟨by rw [HV.out]; rfl, rfl⟩
      · have HV := Lib.hid (HGK.out g)
        have G := Lib.hid g
        clear g HGK HNK
        go_wp2_with (go_at_call 29; refine (impl_InRange _ _ _ _).mono ?_; rintro e w' ⟨rfl, rfl⟩; rw [G.out])
        go_roundw
        case rel => exact ⟨k + 1, by omega, by go_num, HV.out, by first | trivial | rfl⟩
        case measure => simp [intOf]; omega
    · obtain rfl : k = n := by omega
      have HR := Lib.hid (HYES.out HG.out)
      go_wp2
      go_ret
      exact ⟨by rw [HR.out]; rfl, by first | trivial | rfl⟩
theorem entOk_shw {zs : List Ent} {k : Nat} (h : shwB (entA zs k).lights = false) : entOk zs k = false := by
  unfold shwB at h
  rw [Bool.and_eq_false_iff] at h
  rcases h with h | h
  · exact entOk_len (by simpa using h)
  · exact entOk_lit h
theorem shwB_parts {ls : List Int} (h : shwB ls = true) : ls.length ≤ 12 ∧ litsOk ls = true := by unfold shwB at h; simpa using h
set_option maxHeartbeats 4000000 in
set_option maxRecDepth 100000 in
theorem impl_isValidE (lo : Nat) (zs : List Ent) (w : World) (k : Nat) (v : Value) (h : LkAt w lo zs (k + 1) v) (hm : (entA zs k).lights.length ≤ 1048576) :
    Calls Tryd.prog 39 #[v] w fun e w' => e = .returned (.bool (entOk zs k)) ∧ Below w.heap.size w w' := by
  obtain ⟨g, v', A, m, c, rfl, hlo, hg, hi, hnil, hv⟩ := h
  have HE1 : Hid (inB (entA zs k).second 0 1000000 = false → entOk zs k = false) := Lib.hid entOk_sec
  have HE2 : Hid (shwB (entA zs k).lights = false → entOk zs k = false) := Lib.hid entOk_shw
  have HE3 : Hid (k ≠ 0 → ¬ ((entA zs (k - 1)).second < (entA zs k).second ∧ (entA zs k).lights.length = (entA zs (k - 1)).lights.length) → entOk zs k = false) := Lib.hid entOk_beh
  have HE4 : Hid ((entA zs k).mac ≠ sealI (prevM zs k) (entA zs k).second (entA zs k).lights → entOk zs k = false) := Lib.hid entOk_mac
  have HE5 : Hid (inB (entA zs k).second 0 1000000 = true → shwB (entA zs k).lights = true → (k = 0 ∨ ((entA zs (k - 1)).second < (entA zs k).second ∧ (entA zs k).lights.length = (entA zs (k - 1)).lights.length)) → (entA zs k).mac = sealI (prevM zs k) (entA zs k).second (entA zs k).lights → entOk zs k = true) := Lib.hid (fun h1 h2 h4 h5 => entOk_mk h1 (shwB_parts h2).1 (shwB_parts h2).2 h4 h5)
  have hlm := hi.1
  have hsh := impl_areShown A m c _ (entA zs k).lights w hi (by omega)
  have hse := fun y : GW w => impl_SealOf (prevM zs k) (entA zs k).second A m c _ (entA zs k).lights y.val (hi.keep fun p hp => y.ok.cell hp) hnil y.ok.size (by omega)
  have H12 : Hid (shwB (entA zs k).lights = true → m ≤ 12) := Lib.hid (fun h => by have := (shwB_parts h).1; omega)
  have y0 := fun y : GW w => (cells4 ((y.ok.block _ (lt_of_block hg)).trans hg)).1
  have y1 := fun y : GW w => (cells4 ((y.ok.block _ (lt_of_block hg)).trans hg)).2.1
  have y2 := fun y : GW w => (cells4 ((y.ok.block _ (lt_of_block hg)).trans hg)).2.2.1
  have y3 := fun y : GW w => (cells4 ((y.ok.block _ (lt_of_block hg)).trans hg)).2.2.2
  obtain ⟨c0, c1, c2, c3⟩ := cells4 hg
  have ARM : Hid (True) := Lib.hid trivial
  clear hg hi
  cases g1 : inB (entA zs k).second 0 1000000
  · have HV := Lib.hid (HE1.out g1)
    have G1 := Lib.hid g1
    clear g1 HE1 HE2 HE3 HE4 HE5 hsh hse hv y0 y1 y2 y3
    go_enter Tryd.func39, Tryd.ntmps39
    go_wp2_with (go_at_call 44; refine (impl_isSecondR _ _).mono ?_; rintro e w' ⟨rfl, rfl⟩; rw [G1.out])
    go_ret
    exact ⟨by rw [HV.out]; rfl, Below.refl _ _⟩
  cases g2 : shwB (entA zs k).lights
  · have HV := Lib.hid (HE2.out g2)
    have G1 := Lib.hid g1
    rw [g2] at hsh
    clear g1 g2 HE1 HE2 HE3 HE4 HE5 hse hv y0 y1 y2 y3
    go_enter Tryd.func39, Tryd.ntmps39
    go_wp2_with (first | (go_at_call 44; refine (impl_isSecondR _ _).mono ?_; rintro e w' ⟨rfl, rfl⟩; rw [G1.out]) | (go_at_call 45; refine hsh.mono ?_; rintro e w' ⟨rfl, rfl⟩))
    go_ret
    exact ⟨by rw [HV.out]; rfl, Below.refl _ _⟩
  have hm12 := H12.out g2
  have G1 := Lib.hid g1
  rw [g2] at hsh
  have HE5' := Lib.hid (HE5.out g1 g2)
  clear g1 g2 HE1 HE2 HE5 H12
  rcases k with _ | j
  · have hv' : v' = .pointer none := hv
    subst hv'
    have HP : Hid (prevM zs 0 = 0) := Lib.hid rfl
    rw [HP.out] at hse HE4 HE5'
    have HE5 : Hid ((entA zs 0).mac = sealI 0 (entA zs 0).second (entA zs 0).lights → entOk zs 0 = true) := Lib.hid (fun h => HE5'.out (.inl rfl) h)
    have hsn := fun y : GW w => impl_seal_nil y.val
    clear hv HE3 HE5' HP
    generalize sealI 0 (entA zs 0).second (entA zs 0).lights = r at *
    generalize entOk zs 0 = b at *
    generalize (entA zs 0).second = x0 at *
    generalize (entA zs 0).mac = x2 at *
    generalize (entA zs 0).lights = ls at *
    have ALL : ∀ q : Bool, (x2 == r) = q → b = q := fun q hq => by
      cases q
      · exact HE4.out (by simpa using hq)
      · exact HE5.out (by simpa using hq)
    obtain ⟨q, hq⟩ : ∃ q, (x2 == r) = q := ⟨_, rfl⟩
    have HB := Lib.hid (ALL q hq)
    clear ALL HE4 HE5
    go_enter Tryd.func39, Tryd.ntmps39
    go_wp2_with (first | (go_at_call 44; refine (impl_isSecondR _ _).mono ?_; rintro e w' ⟨rfl, rfl⟩; rw [G1.out]) | (go_at_call 45; refine hsh.mono ?_; rintro e w' ⟨rfl, rfl⟩))
    refine wp_region_grow (by kernel_rfl) (by kernel_rfl) ?_
    repeat (go_big_quiet_step (first | fail))
    refine wpQuiet_nil ?_
    intro x3
    have hb3 := x3.ok
    have z0 : ∀ y : GW x3.val, y.val.cell? ⟨g, 0, none⟩ = _ := fun y => y0 ⟨y.val, hb3.trans (y.ok.mono hb3.size)⟩
    have z1 : ∀ y : GW x3.val, y.val.cell? ⟨g, 1, none⟩ = _ := fun y => y1 ⟨y.val, hb3.trans (y.ok.mono hb3.size)⟩
    have z2 : ∀ y : GW x3.val, y.val.cell? ⟨g, 2, none⟩ = _ := fun y => y2 ⟨y.val, hb3.trans (y.ok.mono hb3.size)⟩
    have z3 : ∀ y : GW x3.val, y.val.cell? ⟨g, 3, none⟩ = _ := fun y => y3 ⟨y.val, hb3.trans (y.ok.mono hb3.size)⟩
    have zse := fun y : GW x3.val => hse ⟨y.val, hb3.trans (y.ok.mono hb3.size)⟩
    have zsn := fun y : GW x3.val => hsn ⟨y.val, hb3.trans (y.ok.mono hb3.size)⟩
    simp only at zse zsn
    clear y0 y1 y2 y3 hse hsn c0 c1 c2 c3
    generalize x3.val = w3 at *
    clear x3
    go_wp2
    refine wp_region_grow (by kernel_rfl) (by kernel_rfl) ?_
    repeat (go_big_quiet_step (first | (go_at_call 47; first | with_reducible exact calls_gw_same _ (zsn _)) | (go_at_call 46; first | with_reducible exact calls_gw _ (zse _))))
    refine wpQuiet_nil ?_
    intro x4
    have hb4 := x4.ok
    generalize x4.val = w4 at *
    go_wp2
    go_ret
    exact ⟨by rw [HB.out]; rfl, hb3.trans (hb4.mono hb3.size)⟩
  · obtain ⟨g', v'', A', m', c', rfl, hlo', hg', hi', hnil', hv'⟩ := hv
    have u0 := fun y : GW w => (cells4 ((y.ok.block _ (lt_of_block hg')).trans hg')).1
    have u1 := fun y : GW w => (cells4 ((y.ok.block _ (lt_of_block hg')).trans hg')).2.1
    have hlm' := hi'.1
    have HP : Hid (prevM zs (j + 1) = (entA zs j).mac) := Lib.hid (by unfold prevM; rw [if_neg (by omega), Nat.add_sub_cancel])
    have hsn := fun y : GW w => impl_seal g' _ _ _ _ y.val ((y.ok.block _ (lt_of_block hg')).trans hg')
    rw [HP.out] at hse HE4 HE5'
    have HE3' := Lib.hid (HE3.out (by omega))
    rw [Nat.add_sub_cancel] at HE3' HE5'
    rw [hlm, hlm'] at HE3' HE5'
    clear hv' hg' hi' HE3 HP
    have HE5 : Hid ((entA zs j).second < (entA zs (j + 1)).second → m = m' → (entA zs (j + 1)).mac = sealI (entA zs j).mac (entA zs (j + 1)).second (entA zs (j + 1)).lights → entOk zs (j + 1) = true) := Lib.hid (fun h1 h2 h => HE5'.out (.inr ⟨h1, h2⟩) h)
    clear HE5'
    generalize sealI (entA zs j).mac (entA zs (j + 1)).second (entA zs (j + 1)).lights = r at *
    generalize entOk zs (j + 1) = b at *
    generalize (entA zs (j + 1)).second = x0 at *
    generalize (entA zs (j + 1)).mac = x2 at *
    generalize (entA zs (j + 1)).lights = ls at *
    generalize (entA zs j).second = s0 at *
    generalize (entA zs j).mac = s2 at *
    by_cases h1 : x0 ≤ s0
    · have HB : Hid (b = false) := Lib.hid (HE3'.out (fun h => by have := h.1; omega))
      have d1 : decide (x0 ≤ s0) = true := decide_eq_true h1
      clear HE3' HE4 HE5 hse hsn
      go_enter Tryd.func39, Tryd.ntmps39
      go_wp2_with (first | (go_at_call 44; refine (impl_isSecondR _ _).mono ?_; rintro e w' ⟨rfl, rfl⟩; rw [G1.out]) | (go_at_call 45; refine hsh.mono ?_; rintro e w' ⟨rfl, rfl⟩))
      refine wp_region_grow (by kernel_rfl) (by kernel_rfl) ?_
      repeat (go_big_quiet_step (first | fail))
      refine wpQuiet_nil ?_
      intro x3
      have hb3 := x3.ok
      generalize x3.val = w3 at *
      go_wp2
      go_ret
      exact ⟨by rw [HB.out]; rfl, hb3⟩
    have d1 : decide (x0 ≤ s0) = false := decide_eq_false h1
    by_cases h2 : m = m'
    rotate_left
    · have HB : Hid (b = false) := Lib.hid (HE3'.out (fun h => h2 h.2))
      have e2 : ((m : Int) == (m' : Int)) = false := by rw [beq_eq_false_iff_ne]; omega
      have e3 : ((m : Int) != (m' : Int)) = true := by rw [bne_iff_ne]; omega
      clear HE3' HE4 HE5 hse hsn
      go_enter Tryd.func39, Tryd.ntmps39
      go_wp2_with (first | (go_at_call 44; refine (impl_isSecondR _ _).mono ?_; rintro e w' ⟨rfl, rfl⟩; rw [G1.out]) | (go_at_call 45; refine hsh.mono ?_; rintro e w' ⟨rfl, rfl⟩))
      refine wp_region_grow (by kernel_rfl) (by kernel_rfl) ?_
      repeat (go_big_quiet_step (first | fail))
      refine wpQuiet_nil ?_
      intro x3
      have hb3 := x3.ok
      generalize x3.val = w3 at *
      go_wp2
      go_ret
      exact ⟨by rw [HB.out]; rfl, hb3⟩
    have e2 : ((m : Int) == (m' : Int)) = true := by rw [beq_iff_eq]; omega
    have e3 : ((m : Int) != (m' : Int)) = false := by rw [bne_eq_false_iff_eq]; omega
    have ALL : ∀ q : Bool, (x2 == r) = q → b = q := fun q hq => by
      cases q
      · exact HE4.out (by simpa using hq)
      · exact HE5.out (by omega) h2 (by simpa using hq)
    obtain ⟨q, hq⟩ : ∃ q, (x2 == r) = q := ⟨_, rfl⟩
    have HB := Lib.hid (ALL q hq)
    clear ALL HE3' HE4 HE5 h2
    go_enter Tryd.func39, Tryd.ntmps39
    go_wp2_with (first | (go_at_call 44; refine (impl_isSecondR _ _).mono ?_; rintro e w' ⟨rfl, rfl⟩; rw [G1.out]) | (go_at_call 45; refine hsh.mono ?_; rintro e w' ⟨rfl, rfl⟩))
    refine wp_region_grow (by kernel_rfl) (by kernel_rfl) ?_
    repeat (go_big_quiet_step (first | fail))
    refine wpQuiet_nil ?_
    intro x3
    have hb3 := x3.ok
    have z0 : ∀ y : GW x3.val, y.val.cell? ⟨g, 0, none⟩ = _ := fun y => y0 ⟨y.val, hb3.trans (y.ok.mono hb3.size)⟩
    have z1 : ∀ y : GW x3.val, y.val.cell? ⟨g, 1, none⟩ = _ := fun y => y1 ⟨y.val, hb3.trans (y.ok.mono hb3.size)⟩
    have z2 : ∀ y : GW x3.val, y.val.cell? ⟨g, 2, none⟩ = _ := fun y => y2 ⟨y.val, hb3.trans (y.ok.mono hb3.size)⟩
    have z3 : ∀ y : GW x3.val, y.val.cell? ⟨g, 3, none⟩ = _ := fun y => y3 ⟨y.val, hb3.trans (y.ok.mono hb3.size)⟩
    have zse := fun y : GW x3.val => hse ⟨y.val, hb3.trans (y.ok.mono hb3.size)⟩
    have zsn := fun y : GW x3.val => hsn ⟨y.val, hb3.trans (y.ok.mono hb3.size)⟩
    simp only at zse zsn
    clear y0 y1 y2 y3 hse hsn c0 c1 c2 c3 u0 u1
    generalize x3.val = w3 at *
    clear x3
    go_wp2
    refine wp_region_grow (by kernel_rfl) (by kernel_rfl) ?_
    repeat (go_big_quiet_step (first | (go_at_call 47; first | with_reducible exact calls_gw_same _ (zsn _)) | (go_at_call 46; first | with_reducible exact calls_gw _ (zse _))))
    refine wpQuiet_nil ?_
    intro x4
    have hb4 := x4.ok
    generalize x4.val = w4 at *
    go_wp2
    go_ret
    exact ⟨by rw [HB.out]; rfl, hb3.trans (hb4.mono hb3.size)⟩
theorem LkAt.uniq {w : World} {lo : Nat} {zs : List Ent} : ∀ {k k' : Nat} {v : Value}, LkAt w lo zs k v → LkAt w lo zs k' v → k = k'
  | 0, 0, _, _, _ => rfl
  | 0, k' + 1, v, h, ⟨g, v', A, m, c, e, _⟩ => by
    have h' : v = .pointer none := h
    rw [h'] at e
    injection e with e
    cases e
  | k + 1, 0, v, ⟨g, v', A, m, c, e, _⟩, h => by
    have h' : v = .pointer none := h
    rw [h'] at e
    injection e with e
    cases e
  | k + 1, k' + 1, v, ⟨g, v', A, m, c, e, hl, hg, hi, hn, h⟩, ⟨g2, v2, A2, m2, c2, e2, hl2, hg2, hi2, hn2, h2⟩ => by
    rw [e] at e2
    injection e2 with e2
    injection e2 with e2
    injection e2 with e2
    subst e2
    rw [hg] at hg2
    have e3 : v' = v2 := by
      injection hg2 with hg2
      injection hg2 with hg2
      injection hg2 with hg2
      injection hg2 with _ hg2
      injection hg2 with _ hg2
      injection hg2 with _ hg2
      injection hg2
    subst e3
    rw [LkAt.uniq h h2]
theorem lk_eps {w : World} {lo : Nat} {zs : List Ent} {k : Nat} {v : Value} (h : LkAt w lo zs k v) : Classical.epsilon (fun k => LkAt w lo zs k v) = k := LkAt.uniq (Classical.epsilon_spec (p := fun k => LkAt w lo zs k v) ⟨k, h⟩) h
set_option maxHeartbeats 2000000 in
theorem impl_IsRecord (A : Option Addr) (n c B : Nat) (zs : List Ent) (w : World) (h : EntsAt w B A n zs) (hB : B ≤ w.heap.size) (hn : n ≤ 4294967296) (hm : ∀ j, j < n → (entA zs j).lights.length ≤ 1048576) :
    Calls Tryd.prog 27 #[.slice A n c] w fun e w' => e = .returned (.bool (isRec zs)) ∧ Below w.heap.size w w' := by
  have hl := h.1
  by_cases h60 : 60 < n
  · have HV := Lib.hid (isRec_long (zs := zs) (by omega))
    have e1 : (n : Int) > 60 := by omega
    go_enter Tryd.func27, Tryd.ntmps27
    go_wp2
    go_ret
    exact ⟨by rw [HV.out]; rfl, Below.refl _ _⟩
  have e1 : ¬ (n : Int) > 60 := by omega
  have HEND : Hid ((∀ i, i < n → entOk zs i = true) → isRec zs = true) := Lib.hid (fun hg => by rw [isRec_end (fun i hi => hg i (by omega)), hl, decide_eq_true (by omega)])
  have HNO : Hid (∀ i, i < n → entOk zs i = false → isRec zs = false) := Lib.hid (fun i hi hg => isRec_no (by omega) hg)
  have HC := impl_lastOf A n c B zs w h hB hn
  have HM := Lib.hid hm
  clear hl h hm
  go_enter Tryd.func27, Tryd.ntmps27
  go_wp2_with fail
  refine HC.mono ?_
  rintro e w1 ⟨v, rfl, hv, hb1⟩
  obtain ⟨o, rfl⟩ := hv.ptr
  have HV1 := Lib.hid hv
  have HB1 := Lib.hid hb1
  clear HC hv hb1
  go_wp2_with fail
  go_loopw [3] (fun v wr => ∃ k : Nat, k ≤ n ∧ (∃ o, v = .pointer o) ∧ LkAt wr w.heap.size zs k v ∧ (∀ j, k ≤ j → j < n → entOk zs j = true) ∧ Below w.heap.size w wr) (fun v wr => Classical.epsilon (fun k => LkAt wr w.heap.size zs k v))
  case atStart => exact ⟨n, Nat.le_refl _, ⟨_, rfl⟩, HV1.out, fun j hj hj2 => absurd hj2 (by omega), HB1.out⟩
  case round =>
    clear HV1 HB1
    obtain ⟨k, hk, ⟨o', rfl⟩, hv, hgo, hbl⟩ := hrel
    have HG := Lib.hid hgo
    have hep := lk_eps hv
    have HEP := Lib.hid hep
    clear hgo hep
    rcases k with _ | j
    · have hv' : Value.pointer o' = .pointer none := hv
      injection hv' with hv'
      subst hv'
      have HR := Lib.hid (HEND.out (fun i hi => HG.out i (Nat.zero_le _) hi))
      clear hv
      go_wp2_with fail
      go_ret
      exact ⟨by rw [HR.out]; rfl, hbl⟩
    · have hcc := impl_isValidE w.heap.size zs wr j _ hv (HM.out j (by omega))
      have HV := Lib.hid hv
      have hv2 := hv
      obtain ⟨g, v', A', m, c', e0, hlo, hg, hi, hnil, hv'⟩ := hv2
      injection e0 with e0
      subst e0
      obtain ⟨o2, rfl⟩ := hv'.ptr
      have HG2 := Lib.hid hg
      have HV' := Lib.hid hv'
      have HB := Lib.hid hbl
      clear hi hv hv' hbl hg hnil
      cases hr : entOk zs j
      · rw [hr] at hcc
        have HR := Lib.hid (HNO.out j (by omega) hr)
        clear hr
        go_wp2_with fail
        refine hcc.mono ?_
        rintro e w2 ⟨rfl, hb2⟩
        have HB2 := Lib.hid (HB.out.trans (hb2.mono HB.out.size))
        clear hb2 hcc
        go_wp2_with fail
        go_ret
        exact ⟨by rw [HR.out]; rfl, HB2.out⟩
      · rw [hr] at hcc
        have HGK : Hid (∀ i, j ≤ i → i < n → entOk zs i = true) := Lib.hid (fun i h1 h2 => by
          by_cases e : i = j
          · subst e; exact hr
          · exact HG.out i (by omega) h2)
        clear hr
        go_wp2_with fail
        refine hcc.mono ?_
        rintro e w2 ⟨rfl, hb2⟩
        have HB2 := Lib.hid (HB.out.trans (hb2.mono HB.out.size))
        have HV2 := Lib.hid (HV'.out.below hb2)
        obtain ⟨k0, k1, k2, k3⟩ := cells4 ((hb2.block _ (lt_of_block HG2.out)).trans HG2.out)
        clear hb2 hcc
        go_wp2_with fail
        go_roundw
        case rel => exact ⟨j, by omega, ⟨_, rfl⟩, HV2.out, HGK.out, HB2.out⟩
        case measure =>
          have e1 := lk_eps HV2.out
          have e2 := HEP.out
          show Classical.epsilon _ < Classical.epsilon _
          rw [e1, e2]
          omega
end Go.Proofs.YtblilnfkpfjclaaDoor

/- Chapter 28: the program's witness: witnessOf, hasLight, lightIn, at. -/
namespace Go.Proofs.YtblilnfkpfjclaaDoor
open Go.RowKit
set_option linter.unusedVariables false

theorem cell1w {w : World} {g : Nat} {v : Value} {E : TypeId} {fr : Nat × Nat} (h : w.heap[g]? = some (.cells #[v] E fr)) : w.cell? ⟨g, 0, none⟩ = some v := by rw [cell_of_row w g 0 _ E fr h]; rfl
theorem entsAt_nil (w : World) (B : Nat) : EntsAt w B none 0 [] := ⟨rfl, fun h => absurd h (by omega)⟩
/-- what a witness is handed: its entries, a record. -/
structure WitIn (w : World) (A : Option Addr) (n c B : Nat) (zs : List Ent) : Prop where
  e : EntsAt w B A n zs
  ok : ∀ i, i < n → entOk zs i = true
  n60 : n ≤ 60
  B : B ≤ w.heap.size
theorem WitIn.below {w w' : World} {A : Option Addr} {n c B : Nat} {zs : List Ent} (h : WitIn w A n c B zs) (hb : Below w.heap.size w w') : WitIn w' A n c B zs := ⟨h.e.below h.B hb, h.ok, h.n60, Nat.le_trans h.B hb.size⟩
set_option maxHeartbeats 1000000 in
theorem impl_witnessOf (A : Option Addr) (n c B : Nat) (zs : List Ent) (w : World) (h : EntsAt w B A n zs) (hB : B ≤ w.heap.size) (hn : n ≤ 4294967296) (hm : ∀ j, j < n → (entA zs j).lights.length ≤ 1048576) :
    Calls Tryd.prog 17 #[.slice A n c] w fun e w' => ∃ A' n' c', e = .returned (.agg #[.slice A' n' c']) ∧ WitIn w' A' n' c' B (recZ zs) ∧ Below w.heap.size w w' := by
  have hl := h.1
  obtain ⟨wA, hwA⟩ : ∃ wA, wA = w.alloc (.cells #[.slice none 0 0] 47) := ⟨_, rfl⟩
  obtain ⟨hk0, hsz, hBA⟩ := one_block hwA
  have hcc := impl_IsRecord A n c B zs wA (h.keep (hBA.mono hB)) (by omega) hn hm
  have HK := Lib.hid hk0
  have HBA := Lib.hid hBA
  have HE := Lib.hid h
  have lt0 : w.heap.size < wA.heap.size := by omega
  clear hk0 hsz hBA h hm
  cases hr : isRec zs
  · have HZ := Lib.hid (recZ_no hr)
    rw [hr] at hcc
    clear hr
    go_enter Tryd.func17, Tryd.ntmps17
    go_wp2_with fail
    rw [← hwA]
    clear hwA
    refine hcc.mono ?_
    rintro e w1 ⟨rfl, hb1⟩
    have hk1 := (hb1.block _ lt0).trans HK.out
    have z0 := cell1w hk1
    have fz : ∀ j, w1.frozen? ⟨w.heap.size, j, none⟩ = false := fun j => frozen_of_row _ _ j _ _ hk1
    have lt1 := lt_of_block hk1
    have HB1 := Lib.hid (HBA.out.trans (hb1.mono HBA.out.size))
    clear hb1 hcc hk1
    go_wp2
    refine bodyPost_ret (by rw [results_cell rfl]; go_simp; try rfl) rfl ?_
    have hbf := HB1.out.setCell (p := ⟨w.heap.size, 0, none⟩) (Nat.le_refl _) (.slice none 0 0)
    exact ⟨none, 0, 0, rfl, by rw [HZ.out]; exact ⟨entsAt_nil _ _, fun i hi => absurd hi (by omega), by omega, Nat.le_trans hB hbf.size⟩, hbf⟩
  · have HZ := Lib.hid (recZ_yes hr)
    have HP := Lib.hid (isRec_parts hr)
    rw [hr] at hcc
    clear hr
    go_enter Tryd.func17, Tryd.ntmps17
    go_wp2_with fail
    rw [← hwA]
    clear hwA
    refine hcc.mono ?_
    rintro e w1 ⟨rfl, hb1⟩
    have hk1 := (hb1.block _ lt0).trans HK.out
    have z0 := cell1w hk1
    have fz : ∀ j, w1.frozen? ⟨w.heap.size, j, none⟩ = false := fun j => frozen_of_row _ _ j _ _ hk1
    have lt1 := lt_of_block hk1
    have HB1 := Lib.hid (HBA.out.trans (hb1.mono HBA.out.size))
    clear hb1 hcc hk1
    go_wp2
    refine bodyPost_ret (by rw [results_cell rfl]; go_simp; try rfl) rfl ?_
    have hbf := HB1.out.setCell (p := ⟨w.heap.size, 0, none⟩) (Nat.le_refl _) (.slice A n c)
    exact ⟨A, n, c, rfl, by rw [HZ.out]; exact ⟨HE.out.keep (hbf.mono hB), fun i hi => HP.out.2 i (by omega), by have := HP.out.1; omega, Nat.le_trans hB hbf.size⟩, hbf⟩
end Go.Proofs.YtblilnfkpfjclaaDoor

/- Chapter 27: IsRecord of the model (written by genrcd.py). -/
namespace Go.Proofs.YtblilnfkpfjclaaDoor
open Go.RowKit
set_option linter.unusedVariables false

set_option maxHeartbeats 8000000 in
set_option maxRecDepth 100000 in
theorem spec_IsRecord (A : Option Addr) (n c B : Nat) (zs : List Ent) (w : World) (h : EntsAt w B A n zs) (hB : B ≤ w.heap.size) (hn : n ≤ 4294967296) (hm : ∀ j, j < n → (entA zs j).lights.length ≤ 1048576) :
    Calls Tryd.prog 13 #[.slice A n c] w fun e w' => e = .returned (.bool (isRec zs)) ∧ Below w.heap.size w w' := by
  have hl := h.1
  by_cases h60 : 60 < n
  · have HV := Lib.hid (isRec_long (zs := zs) (by omega))
    have e1 : ¬ (n : Int) ≤ 60 := by omega
    have e3 : decide ((n : Int) ≤ 60) = false := decide_eq_false e1
    have e4 : (0 : Int) < (n : Int) := by omega
    have e5 : decide ((0 : Int) < (n : Int)) = true := decide_eq_true e4
    have e6 : 0 < n := by omega
    go_enter Tryd.func13, Tryd.ntmps13
    go_wp2
    go_loopw [3, 4] (fun v i wr => v = .int .i64 0 ∧ i = .int .i64 0 ∧ w = wr) (fun _ _ _ => 0)
    case atStart => exact ⟨rfl, rfl, rfl⟩
    case round =>
      obtain ⟨rfl, rfl, rfl⟩ := hrel
      go_wp2
      go_ret
      exact ⟨by rw [HV.out]; rfl, Below.refl _ _⟩
  have e1 : (n : Int) ≤ 60 := by omega
  have e3 : decide ((n : Int) ≤ 60) = true := decide_eq_true e1
  have HEND : Hid ((∀ i, i < n → entOk zs i = true) → isRec zs = true) := Lib.hid (fun hg => by rw [isRec_end (fun i hi => hg i (by omega)), hl, decide_eq_true (by omega)])
  have HNO : Hid (∀ i, i < n → entOk zs i = false → isRec zs = false) := Lib.hid (fun i hi hg => isRec_no (by omega) hg)
  have HM := Lib.hid hm
  clear hl hm
  go_enter Tryd.func13, Tryd.ntmps13
  go_wp2
  go_loopw [3, 4] (fun v i wr => ∃ k : Nat, k ≤ n ∧ v = .int .i64 (prevM zs k) ∧ i = .int .i64 k ∧ (∀ j, j < k → entOk zs j = true) ∧ Below w.heap.size w wr) (fun _ i _ => n - (intOf i).toNat)
  case atStart => exact ⟨0, Nat.zero_le _, rfl, rfl, fun j hj => absurd hj (by omega), Below.refl _ _⟩
  case round =>
    obtain ⟨k, hk, rfl, rfl, hgo, hbl⟩ := hrel
    have HG := Lib.hid hgo
    have HBL := Lib.hid hbl
    have hsz := hbl.size
    have hrl := rec_len hgo
    clear hgo
    by_cases hlt : k < n
    · obtain ⟨ad, A', m, c', rfl, hab, hq, hi, hmc, hnil⟩ := h.at hlt
      obtain ⟨ad2, A0, m0, c0', e, hab0, hq0, hi0, hmc0, hnil0⟩ := h.at (j := 0) (by omega)
      injection e with e
      subst e
      have hz0 : ad.add (0 * 3) = ad := by simp [Addr.add]
      rw [hz0] at hq0 hab0
      have i1 : (0 : Int) ≤ (k : Int) := by omega
      have i2 : (k : Int) < (n : Int) := by omega
      have i3 : decide ((k : Int) < (n : Int)) = true := decide_eq_true i2
      have i4 : (0 : Int) < (n : Int) := by omega
      have hlm := hi.1
      have hlm0 := hi0.1
      have hmk := HM.out k hlt
      have hqq := hq.below hbl (by omega)
      have hqq0 := hq0.below hbl (by omega)
      have hcn : (ad.add (k * 3)).block < wr.heap.size := by omega
      have hcn0 : ad.block < wr.heap.size := by omega
      have y0 := fun y : GW wr => (hqq.below y.ok hcn).c0
      have y1 := fun y : GW wr => (hqq.below y.ok hcn).c1
      have y2 := fun y : GW wr => (hqq.below y.ok hcn).c2
      have v1 := fun y : GW wr => (hqq0.below y.ok hcn0).c1
      have hiw := hi.keep (w' := wr) (fun p hp => hbl.cell (by omega))
      have hse := fun y : GW wr => spec_SealOf (prevM zs k) (entA zs k).second A' m c' B (entA zs k).lights y.val (hiw.keep fun p hp => y.ok.cell (by omega)) hnil (by have := y.ok.size; omega) (by omega)
      have hmm : (∀ j, j < k → m = m0 ∨ True) := fun _ _ => .inr trivial
      have HL0 : Hid (k = 0 → m = m0) := Lib.hid (fun e => by subst e; omega)
      have HLP : Hid (k ≠ 0 → (entA zs (k - 1)).lights.length = m0) := Lib.hid (fun e => by rw [hrl (k - 1) (by omega)]; exact hlm0)
      have HE1 : Hid (inB (entA zs k).second 0 1000000 = false → isRec zs = false) := Lib.hid (fun e => HNO.out k hlt (entOk_sec e))
      have HE2 : Hid (12 < m → isRec zs = false) := Lib.hid (fun e => HNO.out k hlt (entOk_len (by omega)))
      have HE3 : Hid (m ≠ m0 → isRec zs = false) := Lib.hid (fun e => HNO.out k hlt (by
        by_cases hk0 : k = 0
        · exact absurd (HL0.out hk0) e
        · exact entOk_beh hk0 (fun h => e (by have := HLP.out hk0; have := h.2; omega))))
      have HE4 : Hid ((entA zs k).mac ≠ sealI (prevM zs k) (entA zs k).second (entA zs k).lights → isRec zs = false) := Lib.hid (fun e => HNO.out k hlt (entOk_mac e))
      have HE5 : Hid (k ≠ 0 → ¬ (entA zs (k - 1)).second < (entA zs k).second → isRec zs = false) := Lib.hid (fun e e2 => HNO.out k hlt (entOk_beh e (fun h => e2 h.1)))
      have HE6 : Hid (litsOk (entA zs k).lights = false → isRec zs = false) := Lib.hid (fun e => HNO.out k hlt (entOk_lit e))
      have HOK : Hid (inB (entA zs k).second 0 1000000 = true → m ≤ 12 → m = m0 → (entA zs k).mac = sealI (prevM zs k) (entA zs k).second (entA zs k).lights → (k = 0 ∨ (entA zs (k - 1)).second < (entA zs k).second) → litsOk (entA zs k).lights = true → ∀ j, j < k + 1 → entOk zs j = true) := Lib.hid (fun h1 h2 h3 h4 h5 h6 j hj => by
        by_cases e : j = k
        · subst e
          refine entOk_mk h1 (by omega) h6 ?_ h4
          by_cases hk0 : j = 0
          · exact .inl hk0
          · rcases h5 with h5 | h5
            · exact .inl h5
            · exact .inr ⟨h5, by rw [HLP.out hk0]; omega⟩
        · exact HG.out j (by omega))
      have HPM : Hid (prevM zs (k + 1) = (entA zs k).mac) := Lib.hid (by unfold prevM; rw [if_neg (by omega), Nat.add_sub_cancel])
      have HI := Lib.hid hiw
      have HLN : Hid ((∀ j, j < m → inB ((entA zs k).lights.getD j 0) 0 2 = true) → litsOk (entA zs k).lights = true) := Lib.hid (fun h => litsOk_yes (fun j hj => h j (by omega)))
      have HLF : Hid (∀ j, j < m → inB ((entA zs k).lights.getD j 0) 0 2 = false → litsOk (entA zs k).lights = false) := Lib.hid (fun j hj h => litsOk_no (by omega) h)
      have hpr : k ≠ 0 → ∃ m : Nat, m + 1 = k := fun e => ⟨k - 1, by omega⟩
      have H1 := Lib.hid h
      clear hi hi0 hq hq0 hqq0 hiw hrl hmm hz0 hmc hmc0 hnil hnil0
      generalize hr : sealI (prevM zs k) (entA zs k).second (entA zs k).lights = r at *
      clear hr
      have hin := fun y : GW wr => spec_l1In (entA zs k).second 0 1000000 y.val
      cases g1 : inB (entA zs k).second 0 1000000
      · have HV := Lib.hid (HE1.out g1)
        rw [g1] at hin
        clear g1 HE1 HE2 HE3 HE4 HE5 HE6 HOK HPM HLN HLF hpr
        go_wp2
        refine wp_region_grow (by kernel_rfl) (by kernel_rfl) ?_
        repeat (go_big_quiet_step (first | (go_at_call 22; first | with_reducible exact calls_gw _ (hse _))))
        refine wpQuiet_nil ?_
        intro x3
        have hb3 := x3.ok
        have z0 : ∀ y : GW x3.val, y.val.cell? (ad.add (k * 3)) = _ := fun y => y0 ⟨y.val, hb3.trans (y.ok.mono hb3.size)⟩
        have z1 : ∀ y : GW x3.val, y.val.cell? ⟨(ad.add (k * 3)).block, (ad.add (k * 3)).off + 1, none⟩ = _ := fun y => y1 ⟨y.val, hb3.trans (y.ok.mono hb3.size)⟩
        have z2 : ∀ y : GW x3.val, y.val.cell? ⟨(ad.add (k * 3)).block, (ad.add (k * 3)).off + 2, none⟩ = _ := fun y => y2 ⟨y.val, hb3.trans (y.ok.mono hb3.size)⟩
        have u1 : ∀ y : GW x3.val, y.val.cell? ⟨ad.block, ad.off + 1, none⟩ = _ := fun y => v1 ⟨y.val, hb3.trans (y.ok.mono hb3.size)⟩
        have zin := fun y : GW x3.val => hin ⟨y.val, hb3.trans (y.ok.mono hb3.size)⟩
        simp only at zin
        clear y0 y1 y2 v1 hse hin
        have HB3 := Lib.hid (HBL.out.trans (hb3.mono hsz))
        clear hb3
        generalize x3.val = w3 at *
        clear x3
        go_wp2
        refine wp_region_grow (by kernel_rfl) (by kernel_rfl) ?_
        repeat (go_big_quiet_step (first | (go_at_call 23; first | with_reducible exact calls_gw_same _ (zin _))))
        refine wpQuiet_nil ?_
        intro x4
        have hb4 := x4.ok
        have HB4 := Lib.hid (HB3.out.trans (hb4.mono HB3.out.size))

        generalize x4.val = w4 at *
        go_wp2
        go_ret
        exact ⟨by rw [HV.out]; rfl, HB4.out⟩
      have G1 := Lib.hid g1
      rw [g1] at hin
      clear g1
      by_cases g2 : 12 < m
      · have HV := Lib.hid (HE2.out g2)
        have d1 : (m : Int) > 12 := by omega
        have d2 : decide (12 < (m : Int)) = true := decide_eq_true (by omega)
        have d3 : decide (12 < m) = true := decide_eq_true (by omega)
        clear HE1 HE2 HE3 HE4 HE5 HE6 HOK HPM HLN HLF hpr
        go_wp2
        refine wp_region_grow (by kernel_rfl) (by kernel_rfl) ?_
        repeat (go_big_quiet_step (first | (go_at_call 22; first | with_reducible exact calls_gw _ (hse _))))
        refine wpQuiet_nil ?_
        intro x3
        have hb3 := x3.ok
        have z0 : ∀ y : GW x3.val, y.val.cell? (ad.add (k * 3)) = _ := fun y => y0 ⟨y.val, hb3.trans (y.ok.mono hb3.size)⟩
        have z1 : ∀ y : GW x3.val, y.val.cell? ⟨(ad.add (k * 3)).block, (ad.add (k * 3)).off + 1, none⟩ = _ := fun y => y1 ⟨y.val, hb3.trans (y.ok.mono hb3.size)⟩
        have z2 : ∀ y : GW x3.val, y.val.cell? ⟨(ad.add (k * 3)).block, (ad.add (k * 3)).off + 2, none⟩ = _ := fun y => y2 ⟨y.val, hb3.trans (y.ok.mono hb3.size)⟩
        have u1 : ∀ y : GW x3.val, y.val.cell? ⟨ad.block, ad.off + 1, none⟩ = _ := fun y => v1 ⟨y.val, hb3.trans (y.ok.mono hb3.size)⟩
        have zin := fun y : GW x3.val => hin ⟨y.val, hb3.trans (y.ok.mono hb3.size)⟩
        simp only at zin
        clear y0 y1 y2 v1 hse hin
        have HB3 := Lib.hid (HBL.out.trans (hb3.mono hsz))
        clear hb3
        generalize x3.val = w3 at *
        clear x3
        go_wp2
        refine wp_region_grow (by kernel_rfl) (by kernel_rfl) ?_
        repeat (go_big_quiet_step (first | (go_at_call 23; first | with_reducible exact calls_gw_same _ (zin _))))
        refine wpQuiet_nil ?_
        intro x4
        have hb4 := x4.ok
        have HB4 := Lib.hid (HB3.out.trans (hb4.mono HB3.out.size))

        generalize x4.val = w4 at *
        go_wp2
        go_ret
        exact ⟨by rw [HV.out]; rfl, HB4.out⟩
      have d1 : ¬ (m : Int) > 12 := by omega
      have d2 : decide (12 < (m : Int)) = false := decide_eq_false (by omega)
      have d3 : decide (12 < m) = false := decide_eq_false (by omega)
      by_cases g3 : m = m0
      rotate_left
      · have HV := Lib.hid (HE3.out g3)
        have d4 : ((m : Int) == (m0 : Int)) = false := by rw [beq_eq_false_iff_ne]; omega
        have d5 : ((m : Int) != (m0 : Int)) = true := by rw [bne_iff_ne]; omega
        clear HE1 HE2 HE3 HE4 HE5 HE6 HOK HPM HLN HLF hpr
        go_wp2
        refine wp_region_grow (by kernel_rfl) (by kernel_rfl) ?_
        repeat (go_big_quiet_step (first | (go_at_call 22; first | with_reducible exact calls_gw _ (hse _))))
        refine wpQuiet_nil ?_
        intro x3
        have hb3 := x3.ok
        have z0 : ∀ y : GW x3.val, y.val.cell? (ad.add (k * 3)) = _ := fun y => y0 ⟨y.val, hb3.trans (y.ok.mono hb3.size)⟩
        have z1 : ∀ y : GW x3.val, y.val.cell? ⟨(ad.add (k * 3)).block, (ad.add (k * 3)).off + 1, none⟩ = _ := fun y => y1 ⟨y.val, hb3.trans (y.ok.mono hb3.size)⟩
        have z2 : ∀ y : GW x3.val, y.val.cell? ⟨(ad.add (k * 3)).block, (ad.add (k * 3)).off + 2, none⟩ = _ := fun y => y2 ⟨y.val, hb3.trans (y.ok.mono hb3.size)⟩
        have u1 : ∀ y : GW x3.val, y.val.cell? ⟨ad.block, ad.off + 1, none⟩ = _ := fun y => v1 ⟨y.val, hb3.trans (y.ok.mono hb3.size)⟩
        have zin := fun y : GW x3.val => hin ⟨y.val, hb3.trans (y.ok.mono hb3.size)⟩
        simp only at zin
        clear y0 y1 y2 v1 hse hin
        have HB3 := Lib.hid (HBL.out.trans (hb3.mono hsz))
        clear hb3
        generalize x3.val = w3 at *
        clear x3
        go_wp2
        refine wp_region_grow (by kernel_rfl) (by kernel_rfl) ?_
        repeat (go_big_quiet_step (first | (go_at_call 23; first | with_reducible exact calls_gw_same _ (zin _))))
        refine wpQuiet_nil ?_
        intro x4
        have hb4 := x4.ok
        have HB4 := Lib.hid (HB3.out.trans (hb4.mono HB3.out.size))

        generalize x4.val = w4 at *
        go_wp2
        go_ret
        exact ⟨by rw [HV.out]; rfl, HB4.out⟩
      have d4 : ((m : Int) == (m0 : Int)) = true := by rw [beq_iff_eq]; omega
      have d5 : ((m : Int) != (m0 : Int)) = false := by rw [bne_eq_false_iff_eq]; omega
      have G3 := Lib.hid g3
      clear g3
      by_cases g4 : (entA zs k).mac = r
      rotate_left
      · have HV := Lib.hid (HE4.out g4)
        have d6 : ((entA zs k).mac == r) = false := by rw [beq_eq_false_iff_ne]; exact g4
        have d7 : ((entA zs k).mac != r) = true := by rw [bne_iff_ne]; exact g4
        clear HE1 HE2 HE3 HE4 HE5 HE6 HOK HPM HLN HLF hpr
        go_wp2
        refine wp_region_grow (by kernel_rfl) (by kernel_rfl) ?_
        repeat (go_big_quiet_step (first | (go_at_call 22; first | with_reducible exact calls_gw _ (hse _))))
        refine wpQuiet_nil ?_
        intro x3
        have hb3 := x3.ok
        have z0 : ∀ y : GW x3.val, y.val.cell? (ad.add (k * 3)) = _ := fun y => y0 ⟨y.val, hb3.trans (y.ok.mono hb3.size)⟩
        have z1 : ∀ y : GW x3.val, y.val.cell? ⟨(ad.add (k * 3)).block, (ad.add (k * 3)).off + 1, none⟩ = _ := fun y => y1 ⟨y.val, hb3.trans (y.ok.mono hb3.size)⟩
        have z2 : ∀ y : GW x3.val, y.val.cell? ⟨(ad.add (k * 3)).block, (ad.add (k * 3)).off + 2, none⟩ = _ := fun y => y2 ⟨y.val, hb3.trans (y.ok.mono hb3.size)⟩
        have u1 : ∀ y : GW x3.val, y.val.cell? ⟨ad.block, ad.off + 1, none⟩ = _ := fun y => v1 ⟨y.val, hb3.trans (y.ok.mono hb3.size)⟩
        have zin := fun y : GW x3.val => hin ⟨y.val, hb3.trans (y.ok.mono hb3.size)⟩
        simp only at zin
        clear y0 y1 y2 v1 hse hin
        have HB3 := Lib.hid (HBL.out.trans (hb3.mono hsz))
        clear hb3
        generalize x3.val = w3 at *
        clear x3
        go_wp2
        refine wp_region_grow (by kernel_rfl) (by kernel_rfl) ?_
        repeat (go_big_quiet_step (first | (go_at_call 23; first | with_reducible exact calls_gw_same _ (zin _))))
        refine wpQuiet_nil ?_
        intro x4
        have hb4 := x4.ok
        have HB4 := Lib.hid (HB3.out.trans (hb4.mono HB3.out.size))

        generalize x4.val = w4 at *
        go_wp2
        go_ret
        exact ⟨by rw [HV.out]; rfl, HB4.out⟩
      have d6 : ((entA zs k).mac == r) = true := by rw [beq_iff_eq]; exact g4
      have d7 : ((entA zs k).mac != r) = false := by rw [bne_eq_false_iff_eq]; exact g4
      have HRM : Hid (Value.int .i64 r = Value.int .i64 (prevM zs (k + 1))) := Lib.hid (by rw [HPM.out, g4])
      have HOK2 : Hid ((k = 0 ∨ (entA zs (k - 1)).second < (entA zs k).second) → litsOk (entA zs k).lights = true → ∀ j, j < k + 1 → entOk zs j = true) := Lib.hid (fun b c => HOK.out G1.out (by omega) G3.out g4 b c)
      clear g4 HOK HPM
      by_cases g5 : k = 0
      · have HOK3 : Hid (litsOk (entA zs k).lights = true → ∀ j, j < k + 1 → entOk zs j = true) := Lib.hid (fun c => HOK2.out (.inl g5) c)
        have d8 : decide ((0 : Int) < (k : Int)) = false := decide_eq_false (by omega)
        have d9 : decide (0 < k) = false := decide_eq_false (by omega)
        have d10 : ¬ (k : Int) > 0 := by omega
        clear g5 HOK2 hpr
        go_wp2
        refine wp_region_grow (by kernel_rfl) (by kernel_rfl) ?_
        repeat (go_big_quiet_step (first | (go_at_call 22; first | with_reducible exact calls_gw _ (hse _))))
        refine wpQuiet_nil ?_
        intro x3
        have hb3 := x3.ok
        have z0 : ∀ y : GW x3.val, y.val.cell? (ad.add (k * 3)) = _ := fun y => y0 ⟨y.val, hb3.trans (y.ok.mono hb3.size)⟩
        have z1 : ∀ y : GW x3.val, y.val.cell? ⟨(ad.add (k * 3)).block, (ad.add (k * 3)).off + 1, none⟩ = _ := fun y => y1 ⟨y.val, hb3.trans (y.ok.mono hb3.size)⟩
        have z2 : ∀ y : GW x3.val, y.val.cell? ⟨(ad.add (k * 3)).block, (ad.add (k * 3)).off + 2, none⟩ = _ := fun y => y2 ⟨y.val, hb3.trans (y.ok.mono hb3.size)⟩
        have u1 : ∀ y : GW x3.val, y.val.cell? ⟨ad.block, ad.off + 1, none⟩ = _ := fun y => v1 ⟨y.val, hb3.trans (y.ok.mono hb3.size)⟩
        have zin := fun y : GW x3.val => hin ⟨y.val, hb3.trans (y.ok.mono hb3.size)⟩
        simp only at zin
        clear y0 y1 y2 v1 hse hin
        have HB3 := Lib.hid (HBL.out.trans (hb3.mono hsz))
        have HB3R := Lib.hid hb3
        clear hb3
        generalize x3.val = w3 at *
        clear x3
        go_wp2
        refine wp_region_grow (by kernel_rfl) (by kernel_rfl) ?_
        repeat (go_big_quiet_step (first | (go_at_call 23; first | with_reducible exact calls_gw_same _ (zin _))))
        refine wpQuiet_nil ?_
        intro x4
        have hb4 := x4.ok
        have HB4 := Lib.hid (HB3.out.trans (hb4.mono HB3.out.size))

        have x1 : x4.val.cell? ⟨(ad.add (k * 3)).block, (ad.add (k * 3)).off + 1, none⟩ = some (.slice A' m c') := z1 ⟨x4.val, hb4⟩
        have X1 := Lib.hid x1
        clear z0 z1 z2 u1 zin x1 HE1 HE2 HE3 HE4 HE5
        have HW4 := Lib.hid (HI.out.keep (w' := x4.val) (fun p hp => (HB3R.out.trans (hb4.mono HB3R.out.size)).cell (by omega)))
        clear hb4
        generalize x4.val = w4 at *
        clear x4
        have lt4 : (ad.add (k * 3)).block < w4.heap.size := by have := HB4.out.size; omega
        go_wp2_with fail
        go_loopw [5] (fun i wq => ∃ j : Nat, j ≤ m ∧ i = .int .i64 j ∧ (∀ q, q < j → inB ((entA zs k).lights.getD q 0) 0 2 = true) ∧ w4 = wq) (fun i _ => m - (intOf i).toNat)
        case atStart => exact ⟨0, Nat.zero_le _, rfl, fun j hj => absurd hj (by omega), rfl⟩
        case round =>
          obtain ⟨j, hj, rfl, hjo, rfl⟩ := hrel
          have HJ := Lib.hid hjo
          have x1 := X1.out
          clear hjo
          by_cases hjl : j < m
          · obtain ⟨ad3, rfl, hab3, hcell⟩ := HW4.out.2 (by omega)
            have hcj := hcell j hjl
            have j1 : (0 : Int) ≤ (j : Int) := by omega
            have j2 : (j : Int) < (m : Int) := by omega
            have HJK : Hid (inB ((entA zs k).lights.getD j 0) 0 2 = true → ∀ q, q < j + 1 → inB ((entA zs k).lights.getD q 0) 0 2 = true) := Lib.hid (fun h q hq => by
              by_cases e : q = j
              · subst e; exact h
              · exact HJ.out q (by omega))
            have HJF := Lib.hid (fun e => HE6.out (HLF.out j hjl e))
            clear hcell
            generalize (entA zs k).lights.getD j 0 = z at *
            cases g : inB z 0 2
            · have HV := Lib.hid (HJF.out g)
              have G := Lib.hid g
              clear g HJK HJF
              go_wp2_with (go_at_call 23; refine (spec_l1In _ _ _ _).mono ?_; rintro e w' ⟨rfl, rfl⟩; rw [G.out])
              go_ret
              exact ⟨by rw [HV.out]; rfl, HB4.out⟩
            · have HV := Lib.hid (HJK.out g)
              have G := Lib.hid g
              clear g HJK HJF
              go_wp2_with (go_at_call 23; refine (spec_l1In _ _ _ _).mono ?_; rintro e w' ⟨rfl, rfl⟩; rw [G.out])
              go_roundw
              case rel => exact ⟨j + 1, by omega, by go_num, HV.out, by first | trivial | rfl⟩
              case measure => simp [intOf]; omega
          · obtain rfl : j = m := by omega
            have HF := Lib.hid (HOK3.out (HLN.out HJ.out))
            go_wp2_with fail
            go_roundw
            case rel => exact ⟨k + 1, by omega, HRM.out, by go_num, HF.out, HB4.out⟩
            case measure => simp [intOf]; omega
      have d8 : decide ((0 : Int) < (k : Int)) = true := decide_eq_true (by omega)
      have d9 : decide (0 < k) = true := decide_eq_true (by omega)
      have d10 : (k : Int) > 0 := by omega
      obtain ⟨q, hqk⟩ := hpr g5
      obtain ⟨ad2, Ap, mp, cp, e, habp, hqp, -, -, -⟩ := H1.out.at (j := q) (by omega)
      injection e with e
      subst e
      have hcnp : (ad.add (q * 3)).block < wr.heap.size := by omega
      have hqqp := hqp.below HBL.out (by omega)
      have p0 := fun y : GW wr => (hqqp.below y.ok hcnp).c0
      have m1 : (0 : Int) ≤ (q : Int) := by omega
      have m2 : (q : Int) < (n : Int) := by omega
      have wq1 : IntKind.i64.wrap ((k : Int) - 1) = (q : Int) := by rw [IntKind.wrap_i64]; omega
      have wq2 : wrap64 ((k : Int) - 1) = (q : Int) := by rw [IntWalk.wrap64_in _ (by omega)]; omega
      have HK1 : Hid (entA zs (k - 1) = entA zs q) := Lib.hid (by rw [← hqk, Nat.add_sub_cancel])
      rw [HK1.out] at HOK2 HE5
      have HE5' := Lib.hid (HE5.out g5)
      clear hqk hqp hqqp hpr HK1
      by_cases g6 : (entA zs q).second < (entA zs k).second
      rotate_left
      · have HV := Lib.hid (HE5'.out g6)
        have d11 : decide ((entA zs k).second ≤ (entA zs q).second) = true := decide_eq_true (by omega)
        have d12 : (entA zs q).second ≥ (entA zs k).second := by omega
        clear g5 g6 HE1 HE2 HE3 HE4 HE5 HE5' HE6 HOK2 HLN HLF HRM
        go_wp2
        refine wp_region_grow (by kernel_rfl) (by kernel_rfl) ?_
        repeat (go_big_quiet_step (first | (go_at_call 22; first | with_reducible exact calls_gw _ (hse _))))
        refine wpQuiet_nil ?_
        intro x3
        have hb3 := x3.ok
        have z0 : ∀ y : GW x3.val, y.val.cell? (ad.add (k * 3)) = _ := fun y => y0 ⟨y.val, hb3.trans (y.ok.mono hb3.size)⟩
        have z1 : ∀ y : GW x3.val, y.val.cell? ⟨(ad.add (k * 3)).block, (ad.add (k * 3)).off + 1, none⟩ = _ := fun y => y1 ⟨y.val, hb3.trans (y.ok.mono hb3.size)⟩
        have z2 : ∀ y : GW x3.val, y.val.cell? ⟨(ad.add (k * 3)).block, (ad.add (k * 3)).off + 2, none⟩ = _ := fun y => y2 ⟨y.val, hb3.trans (y.ok.mono hb3.size)⟩
        have u1 : ∀ y : GW x3.val, y.val.cell? ⟨ad.block, ad.off + 1, none⟩ = _ := fun y => v1 ⟨y.val, hb3.trans (y.ok.mono hb3.size)⟩
        have zp : ∀ y : GW x3.val, y.val.cell? (ad.add (q * 3)) = _ := fun y => p0 ⟨y.val, hb3.trans (y.ok.mono hb3.size)⟩
        have zin := fun y : GW x3.val => hin ⟨y.val, hb3.trans (y.ok.mono hb3.size)⟩
        simp only at zin
        clear y0 y1 y2 v1 hse hin p0
        have HB3 := Lib.hid (HBL.out.trans (hb3.mono hsz))
        clear hb3
        generalize x3.val = w3 at *
        clear x3
        go_wp2
        refine wp_region_grow (by kernel_rfl) (by kernel_rfl) ?_
        repeat (go_big_quiet_step (first | (go_at_call 23; first | with_reducible exact calls_gw_same _ (zin _))))
        refine wpQuiet_nil ?_
        intro x4
        have hb4 := x4.ok
        have HB4 := Lib.hid (HB3.out.trans (hb4.mono HB3.out.size))

        generalize x4.val = w4 at *
        go_wp2
        go_ret
        exact ⟨by rw [HV.out]; rfl, HB4.out⟩
      have HOK3 : Hid (litsOk (entA zs k).lights = true → ∀ j, j < k + 1 → entOk zs j = true) := Lib.hid (fun c => HOK2.out (.inr g6) c)
      have d11 : decide ((entA zs k).second ≤ (entA zs q).second) = false := decide_eq_false (by omega)
      have d12 : ¬ (entA zs q).second ≥ (entA zs k).second := by omega
      clear g5 g6 HOK2 HE5'
      go_wp2
      refine wp_region_grow (by kernel_rfl) (by kernel_rfl) ?_
      repeat (go_big_quiet_step (first | (go_at_call 22; first | with_reducible exact calls_gw _ (hse _))))
      refine wpQuiet_nil ?_
      intro x3
      have hb3 := x3.ok
      have z0 : ∀ y : GW x3.val, y.val.cell? (ad.add (k * 3)) = _ := fun y => y0 ⟨y.val, hb3.trans (y.ok.mono hb3.size)⟩
      have z1 : ∀ y : GW x3.val, y.val.cell? ⟨(ad.add (k * 3)).block, (ad.add (k * 3)).off + 1, none⟩ = _ := fun y => y1 ⟨y.val, hb3.trans (y.ok.mono hb3.size)⟩
      have z2 : ∀ y : GW x3.val, y.val.cell? ⟨(ad.add (k * 3)).block, (ad.add (k * 3)).off + 2, none⟩ = _ := fun y => y2 ⟨y.val, hb3.trans (y.ok.mono hb3.size)⟩
      have u1 : ∀ y : GW x3.val, y.val.cell? ⟨ad.block, ad.off + 1, none⟩ = _ := fun y => v1 ⟨y.val, hb3.trans (y.ok.mono hb3.size)⟩
      have zp : ∀ y : GW x3.val, y.val.cell? (ad.add (q * 3)) = _ := fun y => p0 ⟨y.val, hb3.trans (y.ok.mono hb3.size)⟩
      have zin := fun y : GW x3.val => hin ⟨y.val, hb3.trans (y.ok.mono hb3.size)⟩
      simp only at zin
      clear y0 y1 y2 v1 hse hin p0
      have HB3 := Lib.hid (HBL.out.trans (hb3.mono hsz))
      have HB3R := Lib.hid hb3
      clear hb3
      generalize x3.val = w3 at *
      clear x3
      go_wp2
      refine wp_region_grow (by kernel_rfl) (by kernel_rfl) ?_
      repeat (go_big_quiet_step (first | (go_at_call 23; first | with_reducible exact calls_gw_same _ (zin _))))
      refine wpQuiet_nil ?_
      intro x4
      have hb4 := x4.ok
      have HB4 := Lib.hid (HB3.out.trans (hb4.mono HB3.out.size))

      have x1 : x4.val.cell? ⟨(ad.add (k * 3)).block, (ad.add (k * 3)).off + 1, none⟩ = some (.slice A' m c') := z1 ⟨x4.val, hb4⟩
      have X1 := Lib.hid x1
      clear z0 z1 z2 u1 zin x1 HE1 HE2 HE3 HE4 HE5 zp
      have HW4 := Lib.hid (HI.out.keep (w' := x4.val) (fun p hp => (HB3R.out.trans (hb4.mono HB3R.out.size)).cell (by omega)))
      clear hb4
      generalize x4.val = w4 at *
      clear x4
      have lt4 : (ad.add (k * 3)).block < w4.heap.size := by have := HB4.out.size; omega
      go_wp2_with fail
      go_loopw [5] (fun i wq => ∃ j : Nat, j ≤ m ∧ i = .int .i64 j ∧ (∀ q, q < j → inB ((entA zs k).lights.getD q 0) 0 2 = true) ∧ w4 = wq) (fun i _ => m - (intOf i).toNat)
      case atStart => exact ⟨0, Nat.zero_le _, rfl, fun j hj => absurd hj (by omega), rfl⟩
      case round =>
        obtain ⟨j, hj, rfl, hjo, rfl⟩ := hrel
        have HJ := Lib.hid hjo
        have x1 := X1.out
        clear hjo
        by_cases hjl : j < m
        · obtain ⟨ad3, rfl, hab3, hcell⟩ := HW4.out.2 (by omega)
          have hcj := hcell j hjl
          have j1 : (0 : Int) ≤ (j : Int) := by omega
          have j2 : (j : Int) < (m : Int) := by omega
          have HJK : Hid (inB ((entA zs k).lights.getD j 0) 0 2 = true → ∀ q, q < j + 1 → inB ((entA zs k).lights.getD q 0) 0 2 = true) := Lib.hid (fun h q hq => by
            by_cases e : q = j
            · subst e; exact h
            · exact HJ.out q (by omega))
          have HJF := Lib.hid (fun e => HE6.out (HLF.out j hjl e))
          clear hcell
          generalize (entA zs k).lights.getD j 0 = z at *
          cases g : inB z 0 2
          · have HV := Lib.hid (HJF.out g)
            have G := Lib.hid g
            clear g HJK HJF
            go_wp2_with (go_at_call 23; refine (spec_l1In _ _ _ _).mono ?_; rintro e w' ⟨rfl, rfl⟩; rw [G.out])
            go_ret
            exact ⟨by rw [HV.out]; rfl, HB4.out⟩
          · have HV := Lib.hid (HJK.out g)
            have G := Lib.hid g
            clear g HJK HJF
            go_wp2_with (go_at_call 23; refine (spec_l1In _ _ _ _).mono ?_; rintro e w' ⟨rfl, rfl⟩; rw [G.out])
            go_roundw
            case rel => exact ⟨j + 1, by omega, by go_num, HV.out, by first | trivial | rfl⟩
            case measure => simp [intOf]; omega
        · obtain rfl : j = m := by omega
          have HF := Lib.hid (HOK3.out (HLN.out HJ.out))
          go_wp2_with fail
          go_roundw
          case rel => exact ⟨k + 1, by omega, HRM.out, by go_num, HF.out, HB4.out⟩
          case measure => simp [intOf]; omega
    · obtain rfl : k = n := by omega
      have HR := Lib.hid (HEND.out HG.out)
      have i3 : decide ((k : Int) < (k : Int)) = false := decide_eq_false (by omega)
      go_wp2
      go_ret
      exact ⟨by rw [HR.out]; rfl, hbl⟩
end Go.Proofs.YtblilnfkpfjclaaDoor

/- Rows of paths as a law's walk knows them. -/
namespace Go.Proofs.YtblilnfkpfjclaaDoor
open Go.RowKit
set_option linter.unusedVariables false

/-- a slice of paths that may be read. -/
structure SlP (w : World) (A : Option Addr) (n c : Nat) (ps : List Pth) : Prop where
  pths : PthsAt w w.heap.size A n ps
  bare : A = none → n = 0 ∧ c = 0
  small : n ≤ 4294967296
  cap : n ≤ c ∧ c ≤ maxLen
  wf : ∀ p ∈ ps, p.wf
theorem SlP.len {w : World} {A : Option Addr} {n c : Nat} {ps : List Pth} (h : SlP w A n c ps) : ps.length = n := h.pths.1
theorem SlP.below {w w' : World} {A : Option Addr} {n c : Nat} {ps : List Pth} (h : SlP w A n c ps) (hb : Below w.heap.size w w') : SlP w' A n c ps :=
  ⟨(h.pths.below hb).up hb.size, h.bare, h.small, h.cap, h.wf⟩
/-- a row of paths of the call's own, between two block numbers. -/
structure OwP (E : TypeId) (w : World) (lo hi : Nat) (v : Value) (ps : List Pth) : Prop where
  own : w.ownsRow lo E 4 v ps.length (pcells ps)
  lt : ∀ g, v.ownBlock = some g → g < hi
  top : hi ≤ w.heap.size
theorem OwP.new {E : TypeId} {w : World} {lo : Nat} {v : Value} {ps : List Pth} (h : w.ownsRow lo E 4 v ps.length (pcells ps)) : OwP E w lo w.heap.size v ps := ⟨h, fun g e => (ownr_block h g e).2, Nat.le_refl _⟩
theorem OwP.below {E : TypeId} {w w' : World} {lo hi : Nat} {v : Value} {ps : List Pth} (h : OwP E w lo hi v ps) (hb : Below w.heap.size w w') : OwP E w' lo hi v ps := ⟨ownr_below h.own hb, h.lt, Nat.le_trans h.top hb.size⟩
theorem OwP.ints {E : TypeId} {w : World} {lo hi : Nat} {A : Option Addr} {n c : Nat} {ps : List Pth} (h : OwP E w lo hi (.slice A n c) ps) : PthsAt w w.heap.size A n ps := by
  have hn := ownr_len h.own
  subst hn
  exact ⟨rfl, ownr_cells h.own⟩
theorem OwP.sl {E : TypeId} {w : World} {lo hi : Nat} {A : Option Addr} {n c : Nat} {ps : List Pth} (h : OwP E w lo hi (.slice A n c) ps) (hn : n ≤ 4294967296) (hw : ∀ p ∈ ps, p.wf) : SlP w A n c ps :=
  ⟨h.ints, ownr_nilcap h.own, hn, ownr_cap h.own, hw⟩
theorem OwP.part {E : TypeId} {w w' : World} {lo hi l h' : Nat} {v : Value} {ps : List Pth} (h : OwP E w lo hi v ps) (hp : Part l h' w w') (hd : hi ≤ l ∨ h' ≤ lo) : OwP E w' lo hi v ps := by
  refine ⟨⟨h.own.1, ?_⟩, h.lt, Nat.le_trans h.top hp.size⟩
  rcases h.own.2 with h2 | ⟨g, cap, cur, rfl, hl, hg, r⟩
  · exact .inl h2
  · have hlt := h.lt g rfl
    have htop := h.top
    exact .inr ⟨g, cap, cur, rfl, hl, (hp.block g (by omega) (by omega)).trans hg, r⟩
theorem to_pth (A : Option Addr) (n c B : Nat) (ps : List Pth) (w : World) (h : PthsAt w B A n ps) (hB : B ≤ w.heap.size) (hn : n ≤ 1048576) :
    Calls Tryd.prog 7 #[.slice A n c] w fun e w' => e = .returned (.slice (some ⟨w.heap.size, 0, none⟩) n n) ∧ w'.ownsRow w.heap.size 42 4 (.slice (some ⟨w.heap.size, 0, none⟩) n n) ps.length (pcells ps) ∧ Below w.heap.size w w' := by
  have hl := h.1
  refine (law_toPathS A n c B ps w h hB (by omega)).mono fun e w' ⟨h1, h2, h3⟩ => ⟨h1, ?_, h3⟩
  rw [hl]
  exact h2
theorem eqs_pth (A : Option Addr) (n c : Nat) (ps : List Pth) (A2 : Option Addr) (n2 c2 : Nat) (w : World) (h : PthsAt w w.heap.size A n ps) (h2 : PthsAt w w.heap.size A2 n2 ps) (hn : n ≤ 1048576) (hn2 : n2 ≤ 1048576) :
    Calls Tryd.prog 10 #[.slice A n c, .slice A2 n2 c2] w fun e w' => e = .returned (.bool true) ∧ Below w.heap.size w w' :=
  (law_eqPathS A n c _ ps A2 n2 c2 _ ps w h h2 (Nat.le_refl _) (Nat.le_refl _) (by omega) (by omega)).mono fun e w' ⟨he, hb⟩ => ⟨by rw [he, decide_eq_true rfl], hb⟩
theorem sz_pth (A : Option Addr) (n c : Nat) (left : Int) (w : World) (hn : n ≤ 9223372036854775807) (hl : 0 ≤ left ∧ left ≤ 1048576) :
    Calls Tryd.prog 4 #[.slice A n c, .int .i64 left] w fun e w' => e = .returned (.int .i64 (if (n : Int) ≤ left then left - (n : Int) else -1)) ∧ w = w' := by
  obtain ⟨l1, l2⟩ := hl
  by_cases h : (n : Int) ≤ left
  · rw [if_pos h]
    go_enter Tryd.func4, Tryd.ntmps4
    go_wp2
    go_ret
    exact ⟨rfl, rfl⟩
  · rw [if_neg h]
    go_enter Tryd.func4, Tryd.ntmps4
    go_wp2
    go_ret
    exact ⟨rfl, rfl⟩
end Go.Proofs.YtblilnfkpfjclaaDoor

/- Chapter 28: FirstUnsafe: program and model. -/
namespace Go.Proofs.YtblilnfkpfjclaaDoor
open Go.RowKit
set_option linter.unusedVariables false

/-- the Second of the first of the first k entries that is not safe; -1 if all are. -/
def fuK (ps : List Pth) (zs : List Ent) : Nat → Int
  | 0 => -1
  | k + 1 => if fuK ps zs k ≠ -1 then fuK ps zs k else if safeP ps (entA zs k).lights then -1 else (entA zs k).second
def unsF (ps : List Pth) (zs : List Ent) : Int := fuK ps (recZ zs) (recZ zs).length
theorem fuK_succ (ps : List Pth) (zs : List Ent) (k : Nat) : fuK ps zs (k + 1) = if fuK ps zs k ≠ -1 then fuK ps zs k else if safeP ps (entA zs k).lights then -1 else (entA zs k).second := rfl
theorem fuK_stay {ps : List Pth} {zs : List Ent} {m : Nat} (h : fuK ps zs m ≠ -1) : ∀ {n : Nat}, m ≤ n → fuK ps zs n = fuK ps zs m
  | 0, hn => by obtain rfl : m = 0 := by omega
                rfl
  | n + 1, hn => by
    by_cases e : m = n + 1
    · rw [e]
    · have ih := fuK_stay (zs := zs) h (n := n) (by omega)
      rw [fuK_succ, if_pos (by rw [ih]; exact h), ih]
theorem fuK_hit {ps : List Pth} {zs : List Ent} {k n : Nat} (h0 : fuK ps zs k = -1) (h1 : safeP ps (entA zs k).lights = false) (h2 : 0 ≤ (entA zs k).second) (hk : k < n) : fuK ps zs n = (entA zs k).second := by
  have e : fuK ps zs (k + 1) = (entA zs k).second := by rw [fuK_succ, if_neg (by simp [h0]), h1]; rfl
  rw [fuK_stay (m := k + 1) (by rw [e]; omega) (by omega), e]
theorem fuK_next {ps : List Pth} {zs : List Ent} {k : Nat} (h0 : fuK ps zs k = -1) (h1 : safeP ps (entA zs k).lights = true) : fuK ps zs (k + 1) = -1 := by rw [fuK_succ, if_neg (by simp [h0]), h1]; rfl
set_option maxHeartbeats 4000000 in
theorem impl_FirstUnsafe (A : Option Addr) (n c : Nat) (ps : List Pth) (A2 : Option Addr) (n2 c2 B2 : Nat) (zs : List Ent) (w : World) (hp : SlP w A n c ps) (hsp : n ≤ 1048576) (h : EntsAt w B2 A2 n2 zs) (hB : B2 ≤ w.heap.size) (hn : n2 ≤ 4294967296) (hm : ∀ j, j < n2 → (entA zs j).lights.length ≤ 1048576) (hw : Brus w) :
    Calls Tryd.prog 9 #[.slice A n c, .slice A2 n2 c2] w fun e w' => e = .returned (.int .i64 (unsF ps zs)) ∧ Below w.heap.size w w' := by
  have hcc := impl_witnessOf A2 n2 c2 B2 zs w h hB hn hm
  have HV : Hid (unsF ps zs = fuK ps (recZ zs) (recZ zs).length) := Lib.hid rfl
  generalize recZ zs = rs at *
  have HSF := Lib.hid (fun y (hy : Below w.heap.size w y) (A4 : Option Addr) (m4 d4 B4 : Nat) (ls : List Int) (hl : IntsAt .i64 y B4 A4 m4 ls) (hB4 : B4 ≤ y.heap.size) (hm4 : m4 ≤ 4294967296) => impl_IsSafeLights A n c _ ps A4 m4 d4 _ ls y (hp.below hy).pths (Nat.le_refl _) (hp.below hy).cap (by omega) hl hB4 hm4 (hw.below hy (Nat.le_refl _)))
  clear h hm hp hw
  go_enter Tryd.func9, Tryd.ntmps9
  go_wp2_with fail
  refine hcc.mono ?_
  rintro r w1 ⟨A', n', c', rfl, I, hb1⟩
  obtain ⟨w2, hw2⟩ : ∃ w2, w2 = w1.alloc (.cells #[.slice A' n' c'] 47) := ⟨_, rfl⟩
  obtain ⟨hk2, -, hb2⟩ := one_block hw2
  have I2 := Lib.hid (I.below hb2)
  have HB2 := Lib.hid (hb1.trans (hb2.mono hb1.size))
  have hlr := I.e.1
  have h60 := I.n60
  rw [hlr] at HV
  clear hcc I hb1 hk2 hb2
  go_wp2_with fail
  rw [← hw2]
  generalize w1.heap.size = g1 at *
  clear hw2
  go_loopw [13] (fun i wr => ∃ k : Nat, k ≤ n' ∧ i = .int .i64 k ∧ fuK ps rs k = -1 ∧ Below w2.heap.size w2 wr) (fun i _ => n' - (intOf i).toNat)
  case atStart => exact ⟨0, Nat.zero_le _, rfl, rfl, Below.refl _ _⟩
  case round =>
    obtain ⟨k, hk, rfl, hfu, hbl⟩ := hrel
    have HFU := Lib.hid hfu
    have HB := Lib.hid hbl
    clear hfu
    by_cases hlt : k < n'
    · obtain ⟨ad, A4, m4, d4, rfl, hab, hq, hi, -, -⟩ := (I2.out.below hbl).e.at hlt
      have hIB := (I2.out.below hbl).B
      have hsb := (inB_t (entOk_parts (I2.out.ok k hlt)).1.1).1
      have h12 := (entOk_parts (I2.out.ok k hlt)).1.2.1
      have hlm := hi.1
      obtain ⟨x0, x1, x2⟩ := hq
      have i1 : (0 : Int) ≤ (k : Int) := by omega
      have i2 : (k : Int) < (n' : Int) := by omega
      obtain ⟨w3, hw3⟩ : ∃ w3, w3 = wr.alloc (.cells #[.int .i64 (entA rs k).second, .slice A4 m4 d4, .int .i64 (entA rs k).mac] 40) := ⟨_, rfl⟩
      obtain ⟨hk3, -, hb3⟩ := one_block hw3
      have HB3 := Lib.hid (HB.out.trans (hb3.mono HB.out.size))
      have HBW := Lib.hid (HB2.out.trans (HB3.out.mono HB2.out.size))
      have hcc := HSF.out w3 HBW.out A4 m4 d4 B2 (entA rs k).lights (hi.keep fun p hp => hb3.cell (by omega)) (by have := hb3.size; omega) (by omega)
      have HIT := Lib.hid (fun h1 => fuK_hit (n := n') HFU.out h1 hsb hlt)
      have HNX := Lib.hid (fun h1 => fuK_next HFU.out h1)
      have HK3 := Lib.hid hk3
      have L3 := Lib.hid (lt_of_block hk3)
      clear hk3 hb3 hbl hi
      generalize (entA rs k).second = s0 at *
      generalize (entA rs k).mac = s2 at *
      cases hs : safeP ps (entA rs k).lights
      · have HR := Lib.hid (HIT.out hs)
        rw [hs] at hcc
        clear hs HIT HNX
        go_wp2_with fail
        rw [← hw3]
        clear hw3 x0 x1 x2
        refine hcc.mono ?_
        rintro r w4 ⟨rfl, hb4⟩
        have HB4 := Lib.hid (HBW.out.trans (hb4.mono HBW.out.size))
        have hk4 := (hb4.block _ L3.out).trans HK3.out
        have q0 : w4.cell? ⟨wr.heap.size, 0, none⟩ = some (.int .i64 s0) := by rw [cell_of_row w4 _ 0 _ _ _ hk4]; rfl
        clear hb4 hk4 hcc
        go_wp2_with fail
        go_ret
        exact ⟨by rw [HV.out, HR.out]; try rfl, HB4.out⟩
      · have HR := Lib.hid (HNX.out hs)
        rw [hs] at hcc
        clear hs HIT HNX
        go_wp2_with fail
        rw [← hw3]
        clear hw3 x0 x1 x2
        refine hcc.mono ?_
        rintro r w4 ⟨rfl, hb4⟩
        have HB4 := Lib.hid (HB3.out.trans (hb4.mono HB3.out.size))
        clear hb4 hcc
        go_wp2_with fail
        go_roundw
        case rel => exact ⟨k + 1, by omega, by go_num, HR.out, HB4.out⟩
        case measure => simp [intOf]; omega
    · obtain rfl : k = n' := by omega
      go_wp2_with fail
      go_ret
      exact ⟨by rw [HV.out, HFU.out]; try rfl, HB2.out.trans (hbl.mono HB2.out.size)⟩
set_option maxHeartbeats 4000000 in
theorem spec_FirstUnsafe (A : Option Addr) (n c : Nat) (ps : List Pth) (A2 : Option Addr) (n2 c2 B2 : Nat) (zs : List Ent) (w : World) (hp : SlP w A n c ps) (hsp : n ≤ 1048576) (h : EntsAt w B2 A2 n2 zs) (hB : B2 ≤ w.heap.size) (hn : n2 ≤ 4294967296) (hm : ∀ j, j < n2 → (entA zs j).lights.length ≤ 1048576) :
    Calls Tryd.prog 6 #[.slice A n c, .slice A2 n2 c2] w fun e w' => e = .returned (.int .i64 (unsF ps zs)) ∧ Below w.heap.size w w' := by
  have hl := h.1
  have HSF := Lib.hid (fun y (hy : Below w.heap.size w y) (A4 : Option Addr) (m4 d4 B4 : Nat) (ls : List Int) (hl : IntsAt .i64 y B4 A4 m4 ls) (hB4 : B4 ≤ y.heap.size) (hm4 : m4 ≤ 4294967296) => spec_IsSafeLights A n c _ ps A4 m4 d4 _ ls y (hp.below hy).pths (Nat.le_refl _) (by omega) hl hB4 hm4)
  have hcc := fun y (hy : Below w.heap.size w y) => spec_IsRecord A2 n2 c2 B2 zs y (h.below hB hy) (by have := hy.size; omega) hn hm
  rcases Nat.eq_zero_or_pos n2 with h0 | hpos
  · have HV : Hid (unsF ps zs = -1) := Lib.hid (by unfold unsF; rw [Nat.le_zero.1 (show (recZ zs).length ≤ 0 by have := recZ_le zs; omega)]; rfl)
    have i2 : decide ((0 : Int) < (n2 : Int)) = false := decide_eq_false (by omega)
    have i3 : ¬ (0 : Int) < (n2 : Int) := by omega
    clear hcc h hm h0
    go_enter Tryd.func6, Tryd.ntmps6
    go_wp2_with fail
    go_loopw [5] (fun i wr => i = .int .i64 0 ∧ w = wr) (fun _ _ => 0)
    case atStart => exact ⟨rfl, rfl⟩
    case round =>
      obtain ⟨rfl, rfl⟩ := hrel
      go_wp2_with fail
      go_ret
      exact ⟨by rw [HV.out]; try rfl, Below.refl _ _⟩
  cases hr : isRec zs
  · have HV : Hid (unsF ps zs = -1) := Lib.hid (by unfold unsF; rw [recZ_no hr]; rfl)
    have i1 : (0 : Int) < (n2 : Int) := by omega
    have i2 : decide ((0 : Int) < (n2 : Int)) = true := decide_eq_true i1
    rw [hr] at hcc
    have hc0 := hcc w (Below.refl _ _)
    clear hcc hr h hm
    go_enter Tryd.func6, Tryd.ntmps6
    go_wp2_with fail
    go_loopw [5] (fun i wr => i = .int .i64 0 ∧ w = wr) (fun _ _ => 0)
    case atStart => exact ⟨rfl, rfl⟩
    case round =>
      obtain ⟨rfl, rfl⟩ := hrel
      go_wp2_with fail
      refine hc0.mono ?_
      rintro r w1 ⟨rfl, hb1⟩
      have HB1 := Lib.hid hb1
      clear hb1 hc0
      go_wp2_with fail
      go_ret
      exact ⟨by rw [HV.out]; try rfl, HB1.out⟩
  · have HV : Hid (unsF ps zs = fuK ps zs n2) := Lib.hid (by unfold unsF; rw [recZ_yes hr, hl])
    rw [hr] at hcc
    have HCC := Lib.hid hcc
    have HE := Lib.hid h
    have hn60 : n2 ≤ 60 := by have := (isRec_parts hr).1; omega
    have HOK := Lib.hid (isRec_parts hr).2
    clear hcc hr h hm
    go_enter Tryd.func6, Tryd.ntmps6
    go_wp2_with fail
    go_loopw [5] (fun i wr => ∃ k : Nat, k ≤ n2 ∧ i = .int .i64 k ∧ fuK ps zs k = -1 ∧ Below w.heap.size w wr) (fun i _ => n2 - (intOf i).toNat)
    case atStart => exact ⟨0, Nat.zero_le _, rfl, rfl, Below.refl _ _⟩
    case round =>
      obtain ⟨k, hk, rfl, hfu, hbl⟩ := hrel
      have HFU := Lib.hid hfu
      have HB := Lib.hid hbl
      clear hfu
      by_cases hlt : k < n2
      · have hc0 := HCC.out _ hbl
        obtain ⟨ad, A4, m4, d4, rfl, hab, hq, hi, -, -⟩ := HE.out.at hlt
        have hsb := (inB_t (entOk_parts (HOK.out k (by omega))).1.1).1
        have h12 := (entOk_parts (HOK.out k (by omega))).1.2.1
        have hlm := hi.1
        have HQ := Lib.hid (fun y (hy : Below w.heap.size w y) => hq.below hy (by omega))
        have i1 : (0 : Int) ≤ (k : Int) := by omega
        have i2 : (k : Int) < (n2 : Int) := by omega
        have i3 : decide ((k : Int) < (n2 : Int)) = true := decide_eq_true i2
        have HCL := Lib.hid (fun y (hy : Below w.heap.size w y) => HSF.out y hy A4 m4 d4 B2 (entA zs k).lights (hi.keep fun p hp => hy.cell (by omega)) (by have := hy.size; omega) (by omega))
        have HIT := Lib.hid (fun h1 => fuK_hit (n := n2) HFU.out h1 hsb hlt)
        have HNX := Lib.hid (fun h1 => fuK_next HFU.out h1)
        clear hq hbl hi
        cases hs : safeP ps (entA zs k).lights
        · have HR := Lib.hid (HIT.out hs)
          rw [hs] at HCL
          clear hs HIT HNX
          go_wp2_with fail
          refine hc0.mono ?_
          rintro r w1 ⟨rfl, hb1⟩
          have HB1 := Lib.hid (HB.out.trans (hb1.mono HB.out.size))
          have x1 := (HQ.out _ HB1.out).c1
          clear hb1 hc0
          go_wp2_with fail
          refine (HCL.out _ HB1.out).mono ?_
          rintro r w2 ⟨rfl, hb2⟩
          have HB2 := Lib.hid (HB1.out.trans (hb2.mono HB1.out.size))
          have x0 := (HQ.out _ HB2.out).c0
          clear hb2 x1
          go_wp2_with fail
          go_ret
          exact ⟨by rw [HV.out, HR.out]; try rfl, HB2.out⟩
        · have HR := Lib.hid (HNX.out hs)
          rw [hs] at HCL
          clear hs HIT HNX
          go_wp2_with fail
          refine hc0.mono ?_
          rintro r w1 ⟨rfl, hb1⟩
          have HB1 := Lib.hid (HB.out.trans (hb1.mono HB.out.size))
          have x1 := (HQ.out _ HB1.out).c1
          clear hb1 hc0
          go_wp2_with fail
          refine (HCL.out _ HB1.out).mono ?_
          rintro r w2 ⟨rfl, hb2⟩
          have HB2 := Lib.hid (HB1.out.trans (hb2.mono HB1.out.size))
          clear hb2 x1
          go_wp2_with fail
          go_roundw
          case rel => exact ⟨k + 1, by omega, by go_num, HR.out, HB2.out⟩
          case measure => simp [intOf]; omega
      · obtain rfl : k = n2 := by omega
        have i3 : decide ((k : Int) < (k : Int)) = false := decide_eq_false (by omega)
        go_wp2_with fail
        go_ret
        exact ⟨by rw [HV.out, HFU.out]; try rfl, hbl⟩
end Go.Proofs.YtblilnfkpfjclaaDoor

/- FirstUnsafe as exact laws meet them. -/
namespace Go.Proofs.YtblilnfkpfjclaaDoor
open Go.RowKit
set_option linter.unusedVariables false

theorem sp_FirstUnsafe (A0 : Option Addr) (n0 c0 : Nat) (zs0 : List Pth) (A1 : Option Addr) (n1 c1 : Nat) (zs1 : List Ent) (w : World) (h0 : SlP w A0 n0 c0 zs0) (hs0 : n0 ≤ 1048576) (h1 : SlEnt w A1 n1 c1 zs1) (hs1 : SmallEnt zs1) (r : Int) (hr : unsF zs0 zs1 = r) :
    Calls Tryd.prog 6 #[.slice A0 n0 c0, .slice A1 n1 c1] w fun e w' => e = .returned (.int .i64 r) ∧ Below w.heap.size w w' := by
  subst hr
  have hq1 := h1.pths.1
  have hz1 := hs1.1
  exact spec_FirstUnsafe A0 n0 c0 zs0 A1 n1 c1 _ zs1 w h0 hs0 h1.pths (Nat.le_refl _) (by omega) (fun j hj => hs1.2 j (by omega))
theorem im_FirstUnsafe (A0 : Option Addr) (n0 c0 : Nat) (zs0 : List Pth) (A1 : Option Addr) (n1 c1 : Nat) (zs1 : List Ent) (w : World) (h0 : SlP w A0 n0 c0 zs0) (hs0 : n0 ≤ 1048576) (h1 : SlEnt w A1 n1 c1 zs1) (hs1 : SmallEnt zs1) (hv0 : Brus w) (r : Int) (hr : unsF zs0 zs1 = r) :
    Calls Tryd.prog 9 #[.slice A0 n0 c0, .slice A1 n1 c1] w fun e w' => e = .returned (.int .i64 r) ∧ Below w.heap.size w w' := by
  subst hr
  have hq1 := h1.pths.1
  have hz1 := hs1.1
  exact impl_FirstUnsafe A0 n0 c0 zs0 A1 n1 c1 _ zs1 w h0 hs0 h1.pths (Nat.le_refl _) (by omega) (fun j hj => hs1.2 j (by omega)) hv0
end Go.Proofs.YtblilnfkpfjclaaDoor
