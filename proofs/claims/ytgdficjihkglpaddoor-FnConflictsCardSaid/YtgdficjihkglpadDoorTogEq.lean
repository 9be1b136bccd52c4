/- The two ways to say that paths may be open together are one. No walk. -/
import Derived.Test.YtgdficjihkglpadDoorAmongI
namespace Go.Proofs.YtgdficjihkglpadDoor
open Go.RowKit
set_option linter.unusedVariables false

theorem arePs_good {ps : List Pth} (h : arePs ps = true) : ∀ k, k < ps.length → goodAt ps k = true := by
  unfold arePs at h
  simp only [Bool.and_eq_true] at h
  exact fun k hk => List.all_eq_true.1 h.1 k (List.mem_range.2 hk)
theorem arePs_valid {ps : List Pth} (h : arePs ps = true) {k : Nat} {p : Pth} (hp : ps[k]? = some p) : isP p = true := by
  have h1 := arePs_good h k (List.getElem?_eq_some_iff.1 hp).1
  rw [goodAt_last hp, Bool.and_eq_true] at h1
  exact h1.1
theorem arePs_next {ps : List Pth} (h : arePs ps = true) {k : Nat} {p q : Pth} (hp : ps[k]? = some p) (hq : ps[k + 1]? = some q) : p.id < q.id := by
  have h1 := arePs_good h (k + 1) (List.getElem?_eq_some_iff.1 hq).1
  rw [goodAt_last hq, lastI_succ hp, Bool.and_eq_true, decide_eq_true_eq] at h1
  exact h1.2
theorem arePs_asc {ps : List Pth} (h : arePs ps = true) : ∀ {j i : Nat} {p q : Pth}, i < j → ps[i]? = some p → ps[j]? = some q → p.id < q.id
  | 0, i, _, _, hij, _, _ => absurd hij (by omega)
  | j + 1, i, p, q, hij, hp, hq => by
    have hlt := (List.getElem?_eq_some_iff.1 hq).1
    have hr : ps[j]? = some ps[j] := List.getElem?_eq_getElem (by omega)
    have h1 := arePs_next h hr hq
    by_cases e : i = j
    · subst e
      rw [hp] at hr
      cases hr
      exact h1
    · exact Int.lt_trans (arePs_asc h (by omega) hp hr) h1
def idAt (ps : List Pth) (j : Nat) : Int := (pAt ps j).id
theorem findK_of {ps : List Pth} (h : arePs ps = true) {j : Nat} (hj : j < ps.length) : findK (idAt ps j) ps = some j := by
  have hp : ps[j]? = some ps[j] := List.getElem?_eq_getElem hj
  have he : idAt ps j = ps[j].id := by unfold idAt; rw [pAt_some hp]
  refine findK_some (p := ps[j]) (fun i q hi hq => ?_) hp he.symm
  have := arePs_asc h hi hq hp
  omega
theorem idAt_find {ps : List Pth} {id : Int} {j : Nat} (h : findK id ps = some j) : j < ps.length ∧ idAt ps j = id := by
  obtain ⟨p, hp, he, _⟩ := findK_at h
  exact ⟨(List.getElem?_eq_some_iff.1 hp).1, by unfold idAt; rw [pAt_some hp, he]⟩
theorem idAt_lt {ps : List Pth} (h : arePs ps = true) {i j : Nat} (hi : i < ps.length) (hj : j < ps.length) : idAt ps i < idAt ps j ↔ i < j := by
  have hp : ps[i]? = some ps[i] := List.getElem?_eq_getElem hi
  have hq : ps[j]? = some ps[j] := List.getElem?_eq_getElem hj
  unfold idAt
  rw [pAt_some hp, pAt_some hq]
  constructor
  · intro hlt
    rcases Nat.lt_trichotomy i j with h1 | h1 | h1
    · exact h1
    · subst h1; exact absurd hlt (by omega)
    · have := arePs_asc h h1 hq hp; omega
  · exact fun hlt => arePs_asc h hlt hp hq
def maskJ (q : Nat) (js : List Nat) : Nat := js.foldl (fun a j => a ||| 2 ^ j) q
theorem maskJ_bit (js : List Nat) : ∀ (q b : Nat), (maskJ q js).testBit b = (q.testBit b || decide (b ∈ js)) := by
  induction js with
  | nil => intro q b; simp [maskJ]
  | cons j js ih =>
    intro q b
    show (maskJ (q ||| 2 ^ j) js).testBit b = _
    rw [ih, Nat.testBit_or, Nat.testBit_two_pow, Bool.or_assoc]
    congr 1
    rw [Bool.eq_iff_iff]
    simp only [Bool.or_eq_true, decide_eq_true_eq, List.mem_cons]
    constructor
    · rintro (h | h)
      · exact .inl h.symm
      · exact .inr h
    · rintro (h | h)
      · exact .inl h.symm
      · exact .inr h
theorem pow_lt {i j : Nat} : 2 ^ i < 2 ^ j ↔ i < j := Nat.pow_lt_pow_iff_right (by decide)
theorem goI_js {ps : List Pth} : ∀ {ids : List Int} {q m : Nat}, goI ps q ids = some m →
    ∃ js : List Nat, ids = js.map (idAt ps) ∧ js.Pairwise (· < ·) ∧ (∀ j ∈ js, j < ps.length ∧ q < 2 ^ j) ∧ m = maskJ q js
  | [], q, m, h => ⟨[], rfl, List.Pairwise.nil, by simp, by simp [goI] at h; exact h.symm⟩
  | id :: ids, q, m, h => by
    cases hf : findK id ps with
    | none => rw [goI_none hf] at h; cases h
    | some i =>
      by_cases hle : 2 ^ i ≤ q
      · rw [goI_low hf hle] at h; cases h
      · rw [goI_step hf hle] at h
        obtain ⟨js, e, hp, hj, hm⟩ := goI_js h
        obtain ⟨hi, hid⟩ := idAt_find hf
        have hor : ∀ j ∈ js, i < j ∧ q < 2 ^ j := fun j hjm => by
          have h1 := (hj j hjm).2
          have h2 : 2 ^ i ≤ q ||| 2 ^ i := Nat.right_le_or
          exact ⟨pow_lt.1 (by omega), by have : q ≤ q ||| 2 ^ i := Nat.left_le_or; omega⟩
        refine ⟨i :: js, by rw [List.map_cons, hid, ← e], List.pairwise_cons.2 ⟨fun j hjm => (hor j hjm).1, hp⟩, ?_, hm⟩
        intro j hjm
        rcases List.mem_cons.1 hjm with rfl | hjm
        · exact ⟨hi, by omega⟩
        · exact ⟨(hj j hjm).1, (hor j hjm).2⟩
theorem goI_of {ps : List Pth} (ha : arePs ps = true) : ∀ {js : List Nat} {q : Nat}, js.Pairwise (· < ·) → (∀ j ∈ js, j < ps.length ∧ q < 2 ^ j) → goI ps q (js.map (idAt ps)) = some (maskJ q js)
  | [], q, _, _ => rfl
  | j :: js, q, hp, h => by
    obtain ⟨h1, h2⟩ := List.pairwise_cons.1 hp
    obtain ⟨h3, h4⟩ := h j List.mem_cons_self
    rw [List.map_cons, goI_step (findK_of ha h3) (by omega)]
    refine goI_of ha h2 fun k hk => ⟨(h k (List.mem_cons_of_mem _ hk)).1, ?_⟩
    have hjk := h1 k hk
    have h5 : q ||| 2 ^ j < 2 ^ (j + 1) := Nat.or_lt_two_pow (Nat.lt_trans h4 (Nat.pow_lt_pow_right (by decide) (by omega))) (Nat.pow_lt_pow_right (by decide) (by omega))
    exact Nat.lt_of_lt_of_le h5 (Nat.pow_le_pow_right (by decide) hjk)
theorem idxs_mem {m : Nat} {i : Idx} : i ∈ idxs m ↔ m.testBit i.val = true := by
  have h := idxs_val m
  constructor
  · intro hi
    have : i.val ∈ bitsOf m := by rw [← h]; exact List.mem_map.2 ⟨i, hi, rfl⟩
    exact (bitsOf_mem.1 this).2
  · intro hb
    have : i.val ∈ bitsOf m := bitsOf_mem.2 ⟨i.2, hb⟩
    rw [← h] at this
    obtain ⟨x, hx, e⟩ := List.mem_map.1 this
    have : x = i := Subtype.ext e
    exact this ▸ hx
theorem agL_bit (f : Nat → Nat) (l : List Idx) (b : Nat) : (agL f l).testBit b = true ↔ ∃ i ∈ l, (f i.val).testBit b = true := by
  have h : ∀ (l : List Idx) (a : Nat), (l.foldl (fun a i => a ||| f i.val) a).testBit b = true ↔ (a.testBit b = true ∨ ∃ i ∈ l, (f i.val).testBit b = true) := by
    intro l
    induction l with
    | nil => intro a; simp
    | cons x l ih =>
      intro a
      rw [List.foldl_cons, ih, Nat.testBit_or, Bool.or_eq_true]
      simp only [List.mem_cons, exists_eq_or_imp]
      constructor
      · rintro ((h | h) | h)
        · exact .inl h
        · exact .inr (.inl h)
        · exact .inr (.inr h)
      · rintro (h | h | h)
        · exact .inl (.inl h)
        · exact .inl (.inr h)
        · exact .inr h
  have := h l 0
  simpa [agL] using this
/-- no two of these conflict. -/
def freeJ (ps : List Pth) (js : List Nat) : Prop := ∀ a ∈ js, ∀ b ∈ js, b < a → confAt ps a b = false
theorem row_n {ps : List Pth} {a b : Nat} (ha : a < ps.length) (hb : b < ps.length) (h12 : ps.length ≤ 12) : (rowSt ps ps.length 0 a).testBit b = true ↔ (b < a ∧ confAt ps a b = true) ∨ (a < b ∧ confAt ps b a = true) := by
  rw [rowSt_bit]
  unfold stB
  have hb12 : b < 12 := by omega
  by_cases h1 : b < a
  · have : ¬ a < b := by omega
    simp [h1, ha, hb12, this]
  · by_cases h2 : a < b
    · simp [h1, h2, hb, hb12]
    · simp [h1, h2]
theorem and_zero {a b : Nat} : a &&& b = 0 ↔ ∀ i, ¬ (a.testBit i = true ∧ b.testBit i = true) := by
  constructor
  · intro h i hi
    have := congrArg (fun x => x.testBit i) h
    simp only [Nat.testBit_and, Nat.zero_testBit, hi.1, hi.2] at this
    cases this
  · intro h
    apply mask_ext
    intro i
    rw [Nat.testBit_and, Nat.zero_testBit]
    have := h i
    cases h1 : a.testBit i <;> cases h2 : b.testBit i <;> simp_all
theorem free_mask {ps : List Pth} {js : List Nat} (h12 : ps.length ≤ 12) (hj : ∀ j ∈ js, j < ps.length) : agL (rowSt ps ps.length 0) (idxs (maskJ 0 js)) &&& maskJ 0 js = 0 ↔ freeJ ps js := by
  have hm : ∀ b, (maskJ 0 js).testBit b = true ↔ b ∈ js := fun b => by rw [maskJ_bit]; simp
  rw [and_zero]
  constructor
  · intro h a ha b hb hlt
    have := h b
    rw [hm, agL_bit] at this
    cases hc : confAt ps a b
    · rfl
    · exact absurd ⟨⟨⟨a, by have := hj a ha; omega⟩, idxs_mem.2 ((hm a).2 ha), (row_n (hj a ha) (hj b hb) h12).2 (.inl ⟨hlt, hc⟩)⟩, hb⟩ this
  · rintro h b ⟨h1, h2⟩
    rw [hm] at h2
    obtain ⟨⟨a, ha12⟩, ha, hb⟩ := (agL_bit _ _ _).1 h1
    have ha := (hm a).1 (idxs_mem.1 ha)
    rcases (row_n (hj a ha) (hj b h2) h12).1 hb with ⟨hlt, hc⟩ | ⟨hlt, hc⟩
    · rw [h a ha b h2 hlt] at hc; cases hc
    · rw [h b h2 a ha hlt] at hc; cases hc
/-- what stageAmong says of a list of Ids. -/
theorem st_some {ps : List Pth} (ha : arePs ps = true) (ids : List Int) : (stI ps (rowSt ps ps.length 0) ids).isSome = true ↔
    ∃ js : List Nat, ids = js.map (idAt ps) ∧ js.Pairwise (· < ·) ∧ (∀ j ∈ js, j < ps.length) ∧ freeJ ps js := by
  have h12 := arePs_len12 ha
  constructor
  · intro h
    unfold stI at h
    cases hg : goI ps 0 ids with
    | none => rw [hg] at h; cases h
    | some m =>
      rw [hg] at h
      simp only at h
      obtain ⟨js, e, hp, hj, rfl⟩ := goI_js hg
      split at h
      · rename_i hz
        exact ⟨js, e, hp, fun j hjm => (hj j hjm).1, (free_mask h12 fun j hjm => (hj j hjm).1).1 hz⟩
      · cases h
  · rintro ⟨js, rfl, hp, hj, hf⟩
    have hg := goI_of ha hp (q := 0) (fun j hjm => ⟨hj j hjm, Nat.two_pow_pos j⟩)
    rw [stI_good hg ((free_mask h12 hj).2 hf)]
    rfl
theorem idPth_of {ps : List Pth} (ha : arePs ps = true) {js : List Nat} {i : Nat} (hi : i < js.length) (hj : js[i] < ps.length) : idPth ps (js.map (idAt ps)) i = pAt ps js[i] := by
  unfold idPth
  have : (js.map (idAt ps)).getD i 0 = idAt ps js[i] := by simp [List.getD_eq_getElem?_getD, hi]
  rw [this, findK_of ha hj]
  rfl
theorem confAt_p {ps : List Pth} {a b : Nat} (ha : a < ps.length) (hb : b < ps.length) : confAt ps a b = conf (pAt ps a) (pAt ps b) := by
  have hp : ps[a]? = some ps[a] := List.getElem?_eq_getElem ha
  have hq : ps[b]? = some ps[b] := List.getElem?_eq_getElem hb
  unfold confAt
  rw [pAt_some hp, pAt_some hq, hp, hq]
theorem tog_js {ps : List Pth} (ha : arePs ps = true) (ids : List Int) : isTog ps ids = true ↔
    ∃ js : List Nat, ids = js.map (idAt ps) ∧ js.Pairwise (· < ·) ∧ (∀ j ∈ js, j < ps.length) ∧ freeJ ps js := by
  constructor
  · intro h
    unfold isTog at h
    rw [ha, Bool.and_true] at h
    have h1 : ∀ i, i < ids.length → togAt ps ids i = true := fun i hi => List.all_eq_true.1 h i (List.mem_range.2 hi)
    have hfind : ∀ i, i < ids.length → ∃ m, findK (ids.getD i 0) ps = some m := fun i hi => by
      obtain ⟨m, _, hm, _⟩ := togAt_some (h1 i hi)
      exact ⟨m, hm⟩
    have hids : ids = ((List.range ids.length).map fun i => (findK (ids.getD i 0) ps).getD 0).map (idAt ps) := by
      apply List.ext_getElem?
      intro i
      by_cases hi : i < ids.length
      · obtain ⟨m, hm⟩ := hfind i hi
        have e := (idAt_find hm).2
        rw [List.getElem?_eq_getElem hi]
        simp only [List.getElem?_map, List.getElem?_range hi, Option.map_some, hm, Option.getD_some, e]
        rw [List.getD_eq_getElem?_getD, List.getElem?_eq_getElem hi]
        rfl
      · rw [List.getElem?_eq_none (by omega), List.getElem?_eq_none (by simp; omega)]
    have hstep : ∀ i, i + 1 < ids.length → ids.getD i 0 < ids.getD (i + 1) 0 := fun i hi => by
      have := h1 (i + 1) hi
      unfold togAt at this
      simp only [Bool.and_eq_true, Bool.or_eq_true, beq_iff_eq, decide_eq_true_eq, Nat.add_sub_cancel] at this
      rcases this.1.2 with h2 | h2
      · omega
      · exact h2
    have hmono : ∀ j i, i < j → j < ids.length → ids.getD i 0 < ids.getD j 0 := by
      intro j
      induction j with
      | zero => intro i hi; omega
      | succ j ih =>
        intro i hi hj
        by_cases e : i = j
        · subst e; exact hstep i hj
        · exact Int.lt_trans (ih i (by omega) (by omega)) (hstep j hj)
    refine ⟨_, hids, ?_, ?_, ?_⟩
    · rw [List.pairwise_iff_getElem]
      intro i j hi hj hij
      simp only [List.length_map, List.length_range] at hi hj
      obtain ⟨m, hm⟩ := hfind i hi
      obtain ⟨m', hm'⟩ := hfind j hj
      simp only [List.getElem_map, List.getElem_range, hm, hm', Option.getD_some]
      obtain ⟨l1, e1⟩ := idAt_find hm
      obtain ⟨l2, e2⟩ := idAt_find hm'
      refine (idAt_lt ha l1 l2).1 ?_
      rw [e1, e2]
      exact hmono j i hij hj
    · intro j hj
      obtain ⟨i, hi, rfl⟩ := List.mem_map.1 hj
      obtain ⟨m, hm⟩ := hfind i (List.mem_range.1 hi)
      rw [hm]
      exact (idAt_find hm).1
    · intro a hma b hmb hlt
      obtain ⟨i, hi, rfl⟩ := List.mem_map.1 hma
      obtain ⟨k, hk, rfl⟩ := List.mem_map.1 hmb
      have hi := List.mem_range.1 hi
      have hk := List.mem_range.1 hk
      obtain ⟨m, hm⟩ := hfind i hi
      obtain ⟨m', hm'⟩ := hfind k hk
      rw [hm, hm'] at hlt ⊢
      simp only [Option.getD_some] at hlt ⊢
      obtain ⟨l1, e1⟩ := idAt_find hm
      obtain ⟨l2, e2⟩ := idAt_find hm'
      have hki : k < i := by
        rcases Nat.lt_trichotomy k i with h2 | h2 | h2
        · exact h2
        · subst h2; rw [hm] at hm'; cases hm'; omega
        · have := hmono k i h2 hk
          rw [← e1, ← e2] at this
          have := (idAt_lt ha l1 l2).1 this
          omega
      have ht := h1 i hi
      unfold togAt at ht
      simp only [Bool.and_eq_true] at ht
      have := List.all_eq_true.1 ht.2 k (List.mem_range.2 hki)
      unfold idPth at this
      rw [hm, hm'] at this
      rw [confAt_p l1 l2]
      simpa using this
  · rintro ⟨js, rfl, hp, hj, hf⟩
    rw [isTog_end, ha]
    intro i hi
    rw [List.length_map] at hi
    have hji : js[i] < ps.length := hj _ (List.getElem_mem _)
    have hgi : ∀ k (hk : k < js.length), (js.map (idAt ps)).getD k 0 = idAt ps js[k] := fun k hk => by simp [List.getD_eq_getElem?_getD, hk]
    refine togAt_yes (m := js[i]) (by rw [hgi i hi, findK_of ha hji]) ?_ ?_
    · cases i with
      | zero => exact .inl rfl
      | succ k =>
        right
        rw [Nat.add_sub_cancel, hgi k (by omega), hgi (k + 1) hi]
        exact (idAt_lt ha (hj _ (List.getElem_mem _)) hji).2 (List.pairwise_iff_getElem.1 hp k (k + 1) (by omega) hi (by omega))
    · intro k hk
      have hjk : js[k] < ps.length := hj _ (List.getElem_mem _)
      rw [idPth_of ha hi hji, idPth_of ha (by omega) hjk, ← confAt_p hji hjk]
      exact hf _ (List.getElem_mem _) _ (List.getElem_mem _) (List.pairwise_iff_getElem.1 hp k i (by omega) hi hk)
/-- what IsTogether of the program answers. -/
def togI (ps : List Pth) (ids : List Int) : Bool := arePs ps && (stI ps (rowSt ps ps.length 0) ids).isSome
theorem togI_eq (ps : List Pth) (ids : List Int) : togI ps ids = isTog ps ids := by
  unfold togI
  cases ha : arePs ps
  · unfold isTog; rw [ha]; simp
  · rw [Bool.true_and, Bool.eq_iff_iff, st_some ha, tog_js ha]
end Go.Proofs.YtgdficjihkglpadDoor
