/- Chapter 6's model: full stages. -/
import Derived.Test.YtgdficjihkglpabDoorStg
namespace Go.Proofs.YtgdficjihkglpabDoor
open Go.RowKit
set_option linter.unusedVariables false

theorem putI_length (zs : List Int) (n : Int) : (putI zs n).length ≤ zs.length + 1 := by
  unfold putI
  split
  · omega
  · rw [List.length_append, List.length_cons, List.length_take, List.length_drop]
    omega
/-- the i-th path is in the stage, or may not be put into it. -/
def fullAt (ps : List Pth) (zs : List Int) (i : Nat) : Bool := hasI zs (pAt ps i).id || !isTog ps (putI zs (pAt ps i).id)
/-- what IsFullStage answers. -/
def isFull (ps : List Pth) (zs : List Int) : Bool := (List.range ps.length).all (fullAt ps zs) && isTog ps zs
theorem isFull_no {ps : List Pth} {zs : List Int} {i : Nat} (hi : i < ps.length) (h : fullAt ps zs i = false) : isFull ps zs = false := by
  unfold isFull
  have : (List.range ps.length).all (fullAt ps zs) = false := by
    rw [Bool.eq_false_iff]
    intro ha
    have := List.all_eq_true.1 ha i (List.mem_range.2 hi)
    rw [h] at this
    cases this
  rw [this]
  rfl
theorem isFull_end {ps : List Pth} {zs : List Int} (h : ∀ i, i < ps.length → fullAt ps zs i = true) : isFull ps zs = isTog ps zs := by
  unfold isFull
  have : (List.range ps.length).all (fullAt ps zs) = true := List.all_eq_true.2 fun k hk => h k (List.mem_range.1 hk)
  rw [this]
  simp
/-- the first k paths tried one by one. -/
def addTo (ps : List Pth) (zs : List Int) : Nat → List Int
  | 0 => zs
  | k + 1 => if isTog ps (putI (addTo ps zs k) (pAt ps k).id) then putI (addTo ps zs k) (pAt ps k).id else addTo ps zs k
/-- what AddToStage answers. -/
def addS (ps : List Pth) (zs : List Int) : List Int := if isTog ps zs then addTo ps zs ps.length else zs
theorem addTo_length (ps : List Pth) (zs : List Int) : ∀ k, (addTo ps zs k).length ≤ zs.length + k
  | 0 => Nat.le_refl _
  | k + 1 => by
    have ih := addTo_length ps zs k
    have h := putI_length (addTo ps zs k) (pAt ps k).id
    unfold addTo
    split <;> omega
set_option maxHeartbeats 1000000 in
set_option maxRecDepth 100000 in
theorem spec_IsFullStage (A : Option Addr) (n c B : Nat) (ps : List Pth) (A2 : Option Addr) (n2 c2 B2 : Nat) (zs : List Int) (w : World) (h : PthsAt w B A n ps) (h2 : IntsAt .i64 w B2 A2 n2 zs) (hB : B ≤ w.heap.size) (hB2 : B2 ≤ w.heap.size) (hn : n ≤ 4294967296) (hn2 : n2 < 4294967296) (hc2 : n2 ≤ c2) (hnil2 : A2 = none → n2 = 0 ∧ c2 = 0) :
    Calls Tryd.prog 22 #[.slice A n c, .slice A2 n2 c2] w fun e w' => e = .returned (.bool (isFull ps zs)) ∧ Below w.heap.size w w' := by
  have hl := h.1
  have hl2 := h2.1
  go_enter Tryd.func22, Tryd.ntmps22
  go_wp2
  go_loopw [5] (fun i wr => ∃ j : Nat, j ≤ n ∧ i = .int .i64 j ∧ (∀ i', i' < j → fullAt ps zs i' = true) ∧ Below w.heap.size w wr) (fun i _ => n - (intOf i).toNat)
  case atStart => exact ⟨0, Nat.zero_le _, rfl, fun i' hi => absurd hi (by omega), Below.refl _ _⟩
  case round =>
    obtain ⟨j, hj, rfl, hgo, hbl⟩ := hrel
    have hsz := hbl.size
    have HG := Lib.hid hgo
    clear hgo
    by_cases hlt : j < n
    · obtain ⟨ad, p, rfl, hab, hp, hq⟩ := h.at hlt
      have HP : Hid (pAt ps j = p) := Lib.hid (pAt_some hp)
      have c0 := (hq.below hbl (by omega)).c0
      have hq1 := fun W (hW : Below w.heap.size w W) => (hq.below hW (by omega)).c0
      clear hp hq
      go_wp2_with fail
      refine (spec_l6Has A2 n2 c2 B2 zs p.id wr (h2.laid hB2 hbl) (by omega)).mono ?_
      rintro e w1 ⟨rfl, rfl⟩
      cases hh : hasI zs p.id
      · have HH := Lib.hid hh
        clear hh
        go_wp2_with fail
        refine (spec_l6Put A2 n2 c2 B2 zs p.id wr (h2.laid hB2 hbl) (by omega) (by omega) hc2 hnil2).mono ?_
        rintro e w1 ⟨v, rfl, hown1, hb1⟩
        have hlen := putI_length zs p.id
        obtain ⟨A3, c3, rfl⟩ := hown1.sliced
        have hi3 := hown1.ints
        have hbl1 := hbl.trans (hb1.mono hsz)
        have hs1 := hb1.size
        clear hown1 hb1
        go_wp2_with fail
        refine (spec_IsTogether (some ad) n c B ps A3 _ c3 _ _ w1 (h.below (hbl1.mono hB)) hi3 (by omega) (Nat.le_refl _) hn (by omega)).mono ?_
        rintro e w2 ⟨rfl, hb2⟩
        have hbl2 := hbl1.trans (hb2.mono (by omega))
        clear hb2 hi3 hbl1
        cases ht : isTog ps (putI zs p.id)
        · have HF : Hid (fullAt ps zs j = true) := Lib.hid (by unfold fullAt; rw [HP.out, HH.out, ht]; rfl)
          clear ht
          go_wp2
          go_roundw
          case rel => exact ⟨j + 1, by omega, by go_num, (fun i' hi => by
            by_cases e : i' = j
            · subst e; exact HF.out
            · exact HG.out i' (by omega)), hbl2⟩
          case measure => simp [intOf]; omega
        · have HR : Hid (isFull ps zs = false) := Lib.hid (isFull_no (i := j) (by omega) (by unfold fullAt; rw [HP.out, HH.out, ht]; rfl))
          clear ht
          go_wp2
          go_ret
          exact ⟨by rw [HR.out]; rfl, hbl2⟩
      · have HF : Hid (fullAt ps zs j = true) := Lib.hid (by unfold fullAt; rw [HP.out, hh]; rfl)
        clear hh
        go_wp2
        go_roundw
        case rel => exact ⟨j + 1, by omega, by go_num, (fun i' hi => by
          by_cases e : i' = j
          · subst e; exact HF.out
          · exact HG.out i' (by omega)), hbl⟩
        case measure => simp [intOf]; omega
    · obtain rfl : j = n := by omega
      have HR : Hid (isFull ps zs = isTog ps zs) := Lib.hid (isFull_end (fun i hi => HG.out i (by omega)))
      go_wp2_with fail
      refine (spec_IsTogether A j c B ps A2 n2 c2 B2 zs wr (h.below (hbl.mono hB)) (h2.laid hB2 hbl) (by omega) (by omega) hn (by omega)).mono ?_
      rintro e w1 ⟨rfl, hb1⟩
      go_wp2
      go_ret
      exact ⟨by rw [HR.out]; rfl, hbl.trans (hb1.mono hsz)⟩
set_option maxHeartbeats 1000000 in
set_option maxRecDepth 100000 in
theorem spec_AddToStage (A : Option Addr) (n c B : Nat) (ps : List Pth) (A2 : Option Addr) (n2 c2 B2 : Nat) (zs : List Int) (w : World) (h : PthsAt w B A n ps) (h2 : IntsAt .i64 w B2 A2 n2 zs) (hB : B ≤ w.heap.size) (hB2 : B2 ≤ w.heap.size) (hn : n ≤ 2147483648) (hn2 : n2 ≤ 2147483647) (hc2 : n2 ≤ c2) (hnil2 : A2 = none → n2 = 0 ∧ c2 = 0) :
    Calls Tryd.prog 24 #[.slice A n c, .slice A2 n2 c2] w fun e w' => ∃ v, e = .returned v ∧ Own .i64 3 w' w.heap.size v (addS ps zs) ∧ Below w.heap.size w w' := by
  have hl := h.1
  have hl2 := h2.1
  have own0 := own_bare .i64 3 w
  have hb0 : Below w.heap.size w (w.alloc (.cells #[] 3)) := (Below.refl _ _).alloc (Nat.le_refl _) _
  have hh2 := h2.laid hB2 hb0
  go_enter Tryd.func24, Tryd.ntmps24
  go_wp2_with (at_builtin; refine wpList_app rfl _ _ 33 33 rfl .i64 3 3 8 Tryd.underlying33 Tryd.underlying33 info_i64 w.heap.size _ [] rfl own0 A2 n2 c2 B2 zs rfl hh2 hnil2 (by decide) (by simp only [List.length_nil]; omega) hb0.size ?_; intro v1 w1 hown1 hgrow1 hat1; have hb1 := own0.push (Nat.le_refl _) hb0 hb0.size hgrow1; clear hgrow1 hat1 hh2 own0 hb0)
  rw [List.nil_append] at hown1
  go_loopw [5, 6] (fun v i wr => ∃ j : Nat, j ≤ n ∧ i = .int .i64 j ∧ Own .i64 3 wr w.heap.size v (addTo ps zs j) ∧ (0 < j → isTog ps zs = true) ∧ Below w.heap.size w wr) (fun _ i _ => n - (intOf i).toNat)
  case atStart => exact ⟨0, Nat.zero_le _, rfl, hown1, fun hj => absurd hj (by omega), hb1⟩
  case round =>
    clear hown1 hb1
    obtain ⟨j, hj, rfl, hown, hgo, hbl⟩ := hrel
    have hsz := hbl.size
    have HG := Lib.hid hgo
    clear hgo
    by_cases hlt : j < n
    · go_wp2_with fail
      refine (spec_IsTogether A n c B ps A2 n2 c2 B2 zs wr (h.below (hbl.mono hB)) (h2.laid hB2 hbl) (by omega) (by omega) (by omega) (by omega)).mono ?_
      rintro e w2 ⟨rfl, hb2⟩
      have hown2 := hown.below hb2
      have hbl2 := hbl.trans (hb2.mono hsz)
      have hs2 := hbl2.size
      clear hb2 hown hbl
      cases ht : isTog ps zs
      · have hj0 : j = 0 := by
          have := HG.out
          rw [ht] at this
          by_cases e : 0 < j
          · cases this e
          · omega
        have HR : Hid (addS ps zs = addTo ps zs 0) := Lib.hid (by unfold addS; rw [ht]; rfl)
        subst hj0
        clear ht HG
        go_wp2
        go_ret
        exact ⟨_, rfl, by rw [HR.out]; exact hown2, hbl2⟩
      · have HT := Lib.hid ht
        clear ht
        have hlen := addTo_length ps zs j
        obtain ⟨ad, p, rfl, hab, hp, hq⟩ := h.at hlt
        have HP : Hid (pAt ps j = p) := Lib.hid (pAt_some hp)
        have c0 := (hq.below hbl2 (by omega)).c0
        have HA : Hid (addTo ps zs (j + 1) = if isTog ps (putI (addTo ps zs j) p.id) then putI (addTo ps zs j) p.id else addTo ps zs j) := Lib.hid (by show (if isTog ps (putI (addTo ps zs j) (pAt ps j).id) then _ else _) = _; rw [HP.out])
        clear hp hq
        generalize addTo ps zs j = l at *
        obtain ⟨A3, c3, rfl⟩ := hown2.sliced
        go_wp2_with fail
        refine (spec_l6Put A3 _ c3 _ l p.id w2 hown2.ints (Nat.le_refl _) (by omega) hown2.cap.1 hown2.nilcap').mono ?_
        rintro e w3 ⟨v, rfl, hown3, hb3⟩
        have hlen2 := putI_length l p.id
        have hown23 := hown2.below hb3
        have hbl3 := hbl2.trans (hb3.mono hs2)
        have hs3 := hb3.size
        have hown3' := hown3.mono hs2
        obtain ⟨A4, c4, rfl⟩ := hown3.sliced
        have hi3 := hown3.ints
        clear hown2 hb3 hown3
        go_wp2_with fail
        refine (spec_IsTogether (some ad) n c B ps A4 _ c4 _ _ w3 (h.below (hbl3.mono hB)) hi3 (by omega) (Nat.le_refl _) (by omega) (by omega)).mono ?_
        rintro e w4 ⟨rfl, hb4⟩
        have hown24 := hown23.below hb4
        have hown34 := hown3'.below hb4
        have hbl4 := hbl3.trans (hb4.mono (by omega))
        clear hb4 hi3 hbl3 hown23 hown3'
        cases ht : isTog ps (putI l p.id)
        · have HS : Hid (addTo ps zs (j + 1) = l) := Lib.hid (by rw [HA.out, ht]; rfl)
          clear ht
          go_wp2
          go_roundw
          case rel => exact ⟨j + 1, by omega, by go_num, by rw [HS.out]; exact hown24, fun _ => HT.out, hbl4⟩
          case measure => simp [intOf]; omega
        · have HS : Hid (addTo ps zs (j + 1) = putI l p.id) := Lib.hid (by rw [HA.out, ht]; rfl)
          clear ht
          go_wp2
          go_roundw
          case rel => exact ⟨j + 1, by omega, by go_num, by rw [HS.out]; exact hown34, fun _ => HT.out, hbl4⟩
          case measure => simp [intOf]; omega
    · obtain rfl : j = n := by omega
      have HR : Hid (addS ps zs = addTo ps zs j) := Lib.hid (by
        unfold addS
        cases ht : isTog ps zs
        · by_cases e : 0 < j
          · rw [HG.out e] at ht; cases ht
          · obtain rfl : j = 0 := by omega
            rfl
        · rw [hl]; rfl)
      go_wp2
      go_ret
      exact ⟨_, rfl, by rw [HR.out]; exact hown, hbl⟩
end Go.Proofs.YtgdficjihkglpabDoor
