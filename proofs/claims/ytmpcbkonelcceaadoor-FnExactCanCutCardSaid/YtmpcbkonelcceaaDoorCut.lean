/- Whether a siren can cut the stage: data, and the model. -/
import Derived.Test.YtmpcbkonelcceaaDoorBndlD
namespace Go.Proofs.YtmpcbkonelcceaaDoor
open Go.RowKit
set_option linter.unusedVariables false

/-- for how long a path of this kind must have been open. -/
def cutNs (k : Int) : Int := if k = 2 then 7 else 4
/-- the least time of these. -/
def cutLs (ps : List Pth) {N : Nat} (l : List (IdxN N)) : Int := l.foldl (fun a i => maxI a (cutNs (pAt ps i.val).kind)) 0
theorem cutLs_snoc (ps : List Pth) {N : Nat} (l : List (IdxN N)) (x : IdxN N) : cutLs ps (l ++ [x]) = maxI (cutLs ps l) (cutNs (pAt ps x.val).kind) := by simp [cutLs]
def cutGs (lg : Int) : Int := if lg = 7 then 7 else 4
theorem cut_seven (ps : List Pth) {N : Nat} : ∀ (l : List (IdxN N)) (a : Int), a ≤ 7 → (a = 7 ∨ ∃ i ∈ l, (pAt ps i.val).kind = 2) → l.foldl (fun a i => maxI a (cutNs (pAt ps i.val).kind)) a = 7
  | [], a, _, h => by
    rcases h with h | ⟨i, hi, _⟩
    · exact h
    · cases hi
  | x :: l, a, ha, h => by
    rw [List.foldl_cons]
    have hs : cutNs (pAt ps x.val).kind ≤ 7 := by unfold cutNs; split <;> omega
    refine cut_seven ps l _ (by unfold maxI; split <;> omega) ?_
    rcases h with h | ⟨i, hi, hk⟩
    · left
      unfold maxI
      split <;> omega
    · rcases List.mem_cons.1 hi with rfl | hi
      · left
        have : cutNs (pAt ps i.val).kind = 7 := by unfold cutNs; rw [if_pos hk]
        rw [this]
        unfold maxI
        split <;> omega
      · exact .inr ⟨i, hi, hk⟩
theorem cut_four (ps : List Pth) {N : Nat} : ∀ (l : List (IdxN N)) (a : Int), a ≤ 4 → l ≠ [] → (∀ i ∈ l, (pAt ps i.val).kind ≠ 2) → l.foldl (fun a i => maxI a (cutNs (pAt ps i.val).kind)) a = 4
  | [], a, _, h, _ => absurd rfl h
  | x :: l, a, ha, _, h => by
    rw [List.foldl_cons]
    have e : maxI a (cutNs (pAt ps x.val).kind) = 4 := by
      have : cutNs (pAt ps x.val).kind = 4 := by unfold cutNs; rw [if_neg (h x List.mem_cons_self)]
      rw [this]
      unfold maxI
      split <;> omega
    rw [e]
    by_cases hl : l = []
    · subst hl
      rfl
    · exact cut_four ps l 4 (by omega) hl fun i hi => h i (List.mem_cons_of_mem _ hi)
theorem cut_least {ps : List Pth} (ha : arePs ps = true) {n m : Nat} (hn : ps.length = n) (h12 : n ≤ 12) (hm : m < 2 ^ n) (h0 : idsM ps m ≠ []) : cutLs ps (idxsN n m) = cutGs (leastG ps (idsM ps m)) := by
  have hmap := idxsN_map h12 hm ps
  have hw : ∀ i : IdxN n, walkId ps (idAt ps i.val) = decide ((pAt ps i.val).kind = 2) := fun i => walkId_some (findK_of ha (by have := i.2; omega))
  unfold cutLs
  by_cases h : (idsM ps m).any (walkId ps) = true
  · have e : leastG ps (idsM ps m) = 7 := by unfold leastG; rw [if_pos h]
    rw [e]
    obtain ⟨y, hy, hw2⟩ := List.any_eq_true.1 h
    rw [← hmap] at hy
    obtain ⟨i, hi, rfl⟩ := List.mem_map.1 hy
    rw [hw i] at hw2
    exact cut_seven ps _ 0 (by decide) (.inr ⟨i, hi, of_decide_eq_true hw2⟩)
  · have e : leastG ps (idsM ps m) = 5 := by unfold leastG; rw [if_neg h]
    rw [e]
    refine cut_four ps _ 0 (by decide) (fun e => h0 (by rw [← hmap, e]; rfl)) fun i hi hk => h (List.any_eq_true.2 ⟨idAt ps i.val, ?_, by rw [hw i]; exact decide_eq_true hk⟩)
    rw [← hmap]
    exact List.mem_map_of_mem hi
/-- CanCut. -/
def canC (ps : List Pth) (x : Ctl) : Bool := isCtl ps x && decide (x.next.length = 0) && decide (cutGs (leastG ps x.stage) ≤ x.since)
theorem canC_off {ps : List Pth} {x : Ctl} (h : isCtl ps x = false) : canC ps x = false := by unfold canC; rw [h]; rfl
theorem canC_on {ps : List Pth} {x : Ctl} (h : isCtl ps x = true) {n : Nat} (hn : ps.length = n) : canC ps x = (decide (maskL ps x.next = 0) && decide (cutLs ps (idxsN n (maskL ps x.stage)) ≤ x.since)) := by
  obtain ⟨ha, h0, h1, h2, _⟩ := ctl_parts h
  obtain ⟨_, a1, a2, _, _⟩ := tog_maskL h1
  have h12 := arePs_len12 ha
  rw [cut_least ha hn (by omega) (by rw [← hn]; exact a1) (by rw [← a2]; exact fun e => h0 (by rw [e]; rfl))]
  unfold canC
  rw [h, Bool.true_and, ← a2]
  congr 1
  exact decide_eq_decide.2 (maskL_empty h2).symm
set_option maxHeartbeats 4000000 in
set_option maxRecDepth 100000 in
theorem spec_CanCut {w : World} {A : Option Addr} {n c : Nat} {ps : List Pth} {A2 : Option Addr} {n2 c2 : Nat} {A3 : Option Addr} {n3 c3 : Nat} {x : Ctl} (I : CtlIn w A n c ps A2 n2 c2 A3 n3 c3 x) :
    Calls Tryd.prog 23 #[.slice A n c, ctlV (.slice A2 n2 c2) x.since (.slice A3 n3 c3) x.left] w fun e w' => e = .returned (.bool (canC ps x)) ∧ Below w.heap.size w w' := by
  have hlt := I.t.len
  have hs2 := I.hs
  obtain ⟨wA, hwA⟩ : ∃ wA, wA = w.alloc (.cells #[.slice A2 n2 c2, .int .i64 x.since, .slice A3 n3 c3, .int .i64 x.left] 28) := ⟨_, rfl⟩
  obtain ⟨hk, hsz, hBA⟩ := one_block hwA
  have hltA : w.heap.size < wA.heap.size := by omega
  have hLG : Calls Tryd.prog 45 #[.slice A n c, .slice A2 n2 c2] wA fun e w' => e = .returned (.int .i64 (leastG ps x.stage)) ∧ Below wA.heap.size wA w' := by
    have J := I.below hBA
    exact spec_LeastGreen A n c _ ps A2 n2 c2 _ x.stage wA J.p.pths J.s.ints (Nat.le_refl _) (Nat.le_refl _) J.p.small (by omega)
  have HIC := Lib.hid (fun y (hy : Below wA.heap.size wA y) => spec_IsControl (I.below (hBA.trans (hy.mono hBA.size))))
  obtain ⟨q0, q1, q2, q3⟩ := cells4 hk
  have HV : Hid (canC ps x = (isCtl ps x && decide (n3 = 0) && decide (cutGs (leastG ps x.stage) ≤ x.since))) := Lib.hid (by unfold canC; rw [hlt])
  have HBA := Lib.hid hBA
  have HK := Lib.hid hk
  simp only [ctlV] at HIC ⊢
  obtain ⟨zs, si, zs3, lf⟩ := x
  simp only at *
  generalize canC ps ⟨zs, si, zs3, lf⟩ = r at *
  generalize leastG ps zs = lg at *
  clear I hk hsz hBA hlt
  go_enter Tryd.func23, Tryd.ntmps23
  go_wp2_with fail
  rw [← hwA]
  clear hwA
  refine hLG.mono ?_
  rintro e w1 ⟨rfl, hb1⟩
  have hk1 := (hb1.block _ hltA).trans HK.out
  have hic := HIC.out w1 hb1
  have HB1 := Lib.hid (HBA.out.trans (hb1.mono HBA.out.size))
  have hl1 : w.heap.size < w1.heap.size := by have := hb1.size; omega
  clear q0 q1 q2 q3 HIC hLG hb1
  obtain ⟨q0, q1, q2, q3⟩ := cells4 hk1
  obtain ⟨sg, hsg⟩ : ∃ sg, cutGs lg = sg := ⟨_, rfl⟩
  rw [hsg] at HV
  have HK1 := Lib.hid hk1
  clear hk1
  by_cases h7 : lg = 7
  · subst h7
    obtain rfl : (7 : Int) = sg := hsg
    go_wp2_with fail
    refine hic.mono ?_
    rintro e w2 ⟨rfl, hb2⟩
    have HB2 := Lib.hid (HB1.out.trans (hb2.mono HB1.out.size))
    have hk2 := (hb2.block _ hl1).trans HK1.out
    have hl2 : w.heap.size < w2.heap.size := by have := hb2.size; omega
    clear q0 q1 q2 q3 hic hb2
    obtain ⟨q0, q1, q2, q3⟩ := cells4 hk2
    clear hk2
    cases h1 : isCtl ps ⟨zs, si, zs3, lf⟩
    · have HR : Hid (r = false) := Lib.hid (by rw [HV.out, h1]; rfl)
      clear h1
      go_wp2
      go_ret
      exact ⟨by rw [HR.out]; try rfl, HB2.out⟩
    · rw [h1] at HV
      clear h1
      by_cases h3 : n3 = 0
      · have e3 : ((n3 : Int) == 0) = true := by rw [h3]; rfl
        have HR : Hid (r = decide ((7 : Int) ≤ si)) := Lib.hid (by rw [HV.out, decide_eq_true h3]; rfl)
        clear h3
        go_wp2
        go_ret
        exact ⟨by rw [HR.out]; try rfl, HB2.out⟩
      · have e3 : ((n3 : Int) == 0) = false := beq_eq_false_iff_ne.2 (by omega)
        have HR : Hid (r = false) := Lib.hid (by rw [HV.out, decide_eq_false h3]; rfl)
        clear h3
        go_wp2
        go_ret
        exact ⟨by rw [HR.out]; try rfl, HB2.out⟩
  · obtain rfl : (4 : Int) = sg := by rw [← hsg]; unfold cutGs; rw [if_neg h7]
    have e7 : (lg == 7) = false := beq_eq_false_iff_ne.2 h7
    clear h7 hsg
    go_wp2_with fail
    refine hic.mono ?_
    rintro e w2 ⟨rfl, hb2⟩
    have HB2 := Lib.hid (HB1.out.trans (hb2.mono HB1.out.size))
    have hk2 := (hb2.block _ hl1).trans HK1.out
    have hl2 : w.heap.size < w2.heap.size := by have := hb2.size; omega
    clear q0 q1 q2 q3 hic hb2
    obtain ⟨q0, q1, q2, q3⟩ := cells4 hk2
    clear hk2
    cases h1 : isCtl ps ⟨zs, si, zs3, lf⟩
    · have HR : Hid (r = false) := Lib.hid (by rw [HV.out, h1]; rfl)
      clear h1
      go_wp2
      go_ret
      exact ⟨by rw [HR.out]; try rfl, HB2.out⟩
    · rw [h1] at HV
      clear h1
      by_cases h3 : n3 = 0
      · have e3 : ((n3 : Int) == 0) = true := by rw [h3]; rfl
        have HR : Hid (r = decide ((4 : Int) ≤ si)) := Lib.hid (by rw [HV.out, decide_eq_true h3]; rfl)
        clear h3
        go_wp2
        go_ret
        exact ⟨by rw [HR.out]; try rfl, HB2.out⟩
      · have e3 : ((n3 : Int) == 0) = false := beq_eq_false_iff_ne.2 (by omega)
        have HR : Hid (r = false) := Lib.hid (by rw [HV.out, decide_eq_false h3]; rfl)
        clear h3
        go_wp2
        go_ret
        exact ⟨by rw [HR.out]; try rfl, HB2.out⟩
end Go.Proofs.YtmpcbkonelcceaaDoor
