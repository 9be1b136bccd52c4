/- Chapter 22: ShiftOffsets: program and model. -/
import Derived.Test.YtnlffefekpjbcabSmall
import Derived.Test.YtnlffefekpjbcabMem
namespace Go.Proofs.Ytnlffefekpjbcab
open Go.RowKit
set_option linter.unusedVariables false

theorem lib_CloneF (A : Option Addr) (n c B : Nat) (zs : List Int) (w : World) (h : IntsAt .i64 w B A n zs) (hB : B ≤ w.heap.size) (hA : A = none → n = 0 ∧ c = 0) (hn : n ≤ 4294967296) :
    Calls Try.prog 90 #[.slice A n c] w fun e w' => ∃ v, e = .returned v ∧ Own .i64 3 w' w.heap.size v zs ∧ Below w.heap.size w w' := by
  have hl := h.1
  cases A with
  | none =>
    obtain ⟨rfl, rfl⟩ := hA rfl
    obtain rfl : zs = [] := List.eq_nil_of_length_eq_zero hl
    have hnil : ∀ W, (binOp .eql 61 (.slice none 0 0) (.slice none 0 0)).run Try.prog W = .ok (.bool true) W := fun W => eql_slice_nil Try.underlying61 _ _ _ W
    go_enter Try.func90, Try.ntmps90
    go_wp2
    go_ret
    exact ⟨_, rfl, own_nil _ _ _ _, Below.refl _ _⟩
  | some ad =>
    have hnil : ∀ W, (binOp .eql 61 (.slice (some ad) n c) (.slice none 0 0)).run Try.prog W = .ok (.bool false) W := fun W => eql_slice_nil Try.underlying61 _ _ _ W
    go_enter Try.func90, Try.ntmps90
    go_wp2_with (at_builtin; refine wpList_app rfl _ _ 61 61 rfl .i64 3 3 8 Try.underlying61 Try.underlying61 info_i64 w.heap.size _ [] rfl (own_bare _ _ w) (some ad) n c B zs rfl (h.keep fun p hp => World.cell?_of_block (Below.heap_alloc w _ _ (by omega))) hA (by decide) (by simp; omega) (by simp) ?_; intro v1 w1 hown1 hgrow1 hat1)
    go_ret
    exact ⟨v1, rfl, by simpa using hown1, (own_bare .i64 3 w).push (Nat.le_refl _) ((Below.refl _ _).alloc (Nat.le_refl _) _) (by simp) hgrow1⟩
/-- an offset that may be shifted. -/
def okO (o : Int) : Bool := inB o (-1000000) 1000000
/-- what ShiftOffsets answers. -/
def shiftO (zs : List Int) (m c : Int) : List Int := if inB c 1 200 && inB m (-1000000) 1000000 && zs.all okO then zs.map (fun o => modI (o + m) c) else zs
/-- the first k are shifted. -/
def shK (zs : List Int) (m c : Int) (k : Nat) : List Int := (zs.take k).map (fun o => modI (o + m) c) ++ zs.drop k
theorem shK_zero (zs : List Int) (m c : Int) : shK zs m c 0 = zs := by simp [shK]
theorem shK_length (zs : List Int) (m c : Int) (k : Nat) : (shK zs m c k).length = zs.length := by simp [shK]; omega
theorem shK_step {zs : List Int} {m c z : Int} {k : Nat} (h : zs[k]? = some z) : (shK zs m c k).set k (modI (z + m) c) = shK zs m c (k + 1) := by
  have hk := (List.getElem?_eq_some_iff.1 h).1
  have hz := (List.getElem?_eq_some_iff.1 h).2
  unfold shK
  rw [List.drop_eq_getElem_cons hk, hz, List.take_add_one, h]
  rw [List.set_append_right _ _ (by simp; omega)]
  simp [Nat.min_eq_left (Nat.le_of_lt hk)]
theorem shK_top {zs : List Int} {m c : Int} {k : Nat} (h : zs.length ≤ k) : shK zs m c k = zs.map (fun o => modI (o + m) c) := by
  unfold shK
  rw [List.take_of_length_le h, List.drop_of_length_le h, List.append_nil]
theorem shift_no1 {zs : List Int} {m c : Int} (h : (inB c 1 200 && inB m (-1000000) 1000000) = false) : shiftO zs m c = zs := by unfold shiftO; rw [h]; rfl
theorem shift_no2 {zs : List Int} {m c z : Int} {k : Nat} (h : zs[k]? = some z) (hz : okO z = false) : shiftO zs m c = zs := by
  unfold shiftO
  rw [show zs.all okO = false from List.all_eq_false.2 ⟨z, List.mem_of_getElem? h, by rw [hz]; decide⟩, Bool.and_false]
  rfl
theorem shift_yes {zs : List Int} {m c : Int} (h : (inB c 1 200 && inB m (-1000000) 1000000) = true) (ha : zs.all okO = true) : shiftO zs m c = zs.map (fun o => modI (o + m) c) := by unfold shiftO; rw [h, ha]; rfl
set_option maxHeartbeats 4000000 in
theorem impl_ShiftOffsets (A : Option Addr) (n c B : Nat) (zs : List Int) (m q : Int) (w : World) (h : IntsAt .i64 w B A n zs) (hB : B ≤ w.heap.size) (hA : A = none → n = 0 ∧ c = 0) (hn : n ≤ 1048576) :
    Calls Try.prog 44 #[.slice A n c, .int .i64 m, .int .i64 q] w fun e w' => ∃ v, e = .returned v ∧ Own .i64 3 w' w.heap.size v (shiftO zs m q) ∧ Below w.heap.size w w' := by
  have HL := Lib.hid h.1
  have HH := Lib.hid h
  clear h
  cases h1 : (inB q 1 200 && inB m (-1000000) 1000000)
  · have HV := Lib.hid (shift_no1 (zs := zs) h1)
    cases h2 : inB q 1 200
    all_goals
      have h3 := h1
      rw [h2] at h3
      try simp only [Bool.true_and] at h3
      have H1 := Lib.hid h2
      try have H2 := Lib.hid (show inB m (-1000000) 1000000 = false from h3)
      clear h1 h2 h3
      go_enter Try.func44, Try.ntmps44
      go_wp2_with fail
      refine (lib_CloneF A n c B zs _ HH.out hB hA (by omega)).mono ?_
      rintro e w1 ⟨v1, rfl, hown1, hb1⟩
      have HO := Lib.hid hown1
      have HB1 := Lib.hid hb1
      clear hown1 hb1
      go_wp2_with ((first | (go_at_call 78; refine (impl_InRange _ _ _ _).mono ?_) | (go_at_call 82; refine (impl_isShift _ _).mono ?_)); rintro e w' ⟨rfl, rfl⟩; first | rw [H1.out] | rw [H2.out])
      go_ret
      exact ⟨_, rfl, by rw [HV.out]; exact HO.out, HB1.out⟩
  · have h1' := h1
    simp only [Bool.and_eq_true] at h1'
    obtain ⟨h2, h3⟩ := h1'
    obtain ⟨l1, l2⟩ := inB_t h2
    obtain ⟨l3, l4⟩ := inB_t h3
    have HC := Lib.hid h1
    have H1 := Lib.hid h2
    have H2 := Lib.hid h3
    clear h1 h2 h3
    go_enter Try.func44, Try.ntmps44
    go_wp2_with fail
    refine (lib_CloneF A n c B zs _ HH.out hB hA (by omega)).mono ?_
    rintro e w1 ⟨v1, rfl, hown1, hb1⟩
    have HO := Lib.hid hown1
    have HB1 := Lib.hid hb1
    clear hown1 hb1
    go_wp2_with ((first | (go_at_call 78; refine (impl_InRange _ _ _ _).mono ?_) | (go_at_call 82; refine (impl_isShift _ _).mono ?_)); rintro e w' ⟨rfl, rfl⟩; first | rw [H1.out] | rw [H2.out])
    obtain ⟨A', c', rfl⟩ := HO.out.sliced
    have hle := HL.out
    rw [hle] at HO ⊢
    clear hle
    go_loopw [23] (fun i wr => ∃ k : Nat, k ≤ n ∧ i = .int .i64 k ∧ Own .i64 3 wr w.heap.size (.slice A' n c') (shK zs m q k) ∧ (zs.take k).all okO = true ∧ Below w.heap.size w wr) (fun i _ => n - (intOf i).toNat)
    case atStart => exact ⟨0, Nat.zero_le _, rfl, by rw [shK_zero]; exact HO.out, rfl, HB1.out⟩
    case round =>
      obtain ⟨k, hk, rfl, hown, hall, hbl⟩ := hrel
      clear HO HB1
      by_cases hlt : k < n
      · obtain ⟨ad, rfl, hab, hc⟩ := HH.out.2 (by omega)
        have hz : zs[k]? = some (zs.getD k 0) := by rw [List.getD_eq_getElem?_getD, List.getElem?_eq_getElem (by have := HL.out; omega)]; rfl
        have cz := (hbl.cell (p := ad.add k) (by rw [add_block]; omega)).trans (hc k hlt)
        generalize zs.getD k 0 = z at hz cz
        have i1 : (0 : Int) ≤ (k : Int) := by omega
        have i2 : (k : Int) < (n : Int) := by omega
        have HZ := Lib.hid hz
        have HOW := Lib.hid hown
        have HALL := Lib.hid hall
        have HBL := Lib.hid hbl
        clear hz hown hall hbl hc
        cases h4 : okO z
        · have HV := Lib.hid (shift_no2 (m := m) (c := q) HZ.out h4)
          have H4 : Hid (inB z (-1000000) 1000000 = false) := Lib.hid h4
          clear h4
          go_wp2_with fail
          refine (impl_isShift _ _).mono ?_
          rintro e w2 ⟨rfl, rfl⟩
          rw [H4.out]
          go_wp2_with fail
          refine (lib_CloneF (some ad) n c B zs _ (HH.out.keep fun p hp => HBL.out.cell (Nat.lt_of_lt_of_le hp hB)) (Nat.le_trans hB HBL.out.size) (fun e => by cases e) (by omega)).mono ?_
          rintro e w3 ⟨v3, rfl, hown3, hb3⟩
          go_wp2
          go_ret
          exact ⟨_, rfl, by rw [HV.out]; exact hown3.mono HBL.out.size, HBL.out.trans (hb3.mono HBL.out.size)⟩
        · have H4 : Hid (inB z (-1000000) 1000000 = true) := Lib.hid h4
          obtain ⟨l5, l6⟩ := inB_t H4.out
          have hw1 : IntKind.i64.wrap (z + m) = z + m := by rw [IntKind.wrap_i64]; omega
          have HS := Lib.hid (shK_step (m := m) (c := q) HZ.out)
          have HA2 := Lib.hid (show (zs.take (k + 1)).all okO = true by rw [List.take_add_one, HZ.out, List.all_append, HALL.out]; simp [h4])
          clear h4
          rcases HOW.out.shape with ⟨e0, e1⟩ | ⟨g, cap, e0, hlo, hgs, hcp⟩
          · have h5 := congrArg List.length e1; rw [shK_length] at h5; have := HL.out; have h6 : ([] : List Int).length = 0 := rfl; omega
          injection e0 with e2 e3 e4
          subst e2
          have hst := HOW.out.stored k (modI (z + m) q)
          rw [HS.out] at hst
          have cw := HOW.out.cell k (by rw [shK_length]; have := HL.out; omega)
          have fw := HOW.out.free k
          have HST := Lib.hid hst
          clear hst e3 e4
          go_wp2_with fail
          refine (impl_isShift _ _).mono ?_
          rintro e w2 ⟨rfl, rfl⟩
          rw [H4.out]
          go_wp2_with fail
          refine (impl_Mod _ _ _).mono ?_
          rintro e w2 ⟨rfl, rfl⟩
          go_wp2
          go_roundw
          case rel => exact ⟨k + 1, by omega, by go_num, HST.out, HA2.out, HBL.out.setCell (by simpa using hlo) _⟩
          case measure => simp [intOf]; omega
      · obtain rfl : k = n := by omega
        have HV := Lib.hid (shift_yes HC.out (by rw [List.take_of_length_le (by have := HL.out; omega)] at hall; exact hall))
        rw [shK_top (by have := HL.out; omega)] at hown
        clear hall
        go_wp2
        go_ret
        exact ⟨_, rfl, by rw [HV.out]; exact hown, hbl⟩
set_option maxHeartbeats 4000000 in
theorem spec_ShiftOffsets (A : Option Addr) (n c B : Nat) (zs : List Int) (m q : Int) (w : World) (h : IntsAt .i64 w B A n zs) (hB : B ≤ w.heap.size) (hA : A = none → n = 0 ∧ c = 0) (hn : n ≤ 1048576) :
    Calls Try.prog 42 #[.slice A n c, .int .i64 m, .int .i64 q] w fun e w' => ∃ v, e = .returned v ∧ Own .i64 3 w' w.heap.size v (shiftO zs m q) ∧ Below w.heap.size w w' := by
  have HL := Lib.hid h.1
  have HH := Lib.hid h
  clear h
  cases h1 : (inB q 1 200 && inB m (-1000000) 1000000)
  · have HV := Lib.hid (shift_no1 (zs := zs) h1)
    cases h2 : inB q 1 200
    all_goals
      have h3 := h1
      rw [h2] at h3
      try simp only [Bool.true_and] at h3
      have H1 := Lib.hid h2
      try have H2 := Lib.hid (show inB m (-1000000) 1000000 = false from h3)
      clear h1 h2 h3
      go_enter Try.func42, Try.ntmps42
      go_wp2_with (at_builtin; refine wpList_app rfl _ _ 61 61 rfl .i64 3 3 8 Try.underlying61 Try.underlying61 info_i64 w.heap.size _ [] rfl (own_bare _ _ w) A n c B zs rfl (HH.out.keep fun p hp => World.cell?_of_block (Below.heap_alloc w _ _ (by omega))) hA (by decide) (by simp; omega) (by simp) ?_; intro v1 w1 hown1 hgrow1 hat1)
      have HO := Lib.hid (show Own .i64 3 w1 w.heap.size v1 zs by simpa using hown1)
      have HB1 := Lib.hid ((own_bare .i64 3 w).push (Nat.le_refl _) ((Below.refl _ _).alloc (Nat.le_refl _) _) (by simp) hgrow1)
      clear hown1 hgrow1 hat1
      go_wp2_with (go_at_call 79; refine (spec_l1In _ _ _ _).mono ?_; rintro e w' ⟨rfl, rfl⟩; first | rw [H1.out] | rw [H2.out])
      go_ret
      exact ⟨_, rfl, by rw [HV.out]; exact HO.out, HB1.out⟩
  · have h1' := h1
    simp only [Bool.and_eq_true] at h1'
    obtain ⟨h2, h3⟩ := h1'
    obtain ⟨l1, l2⟩ := inB_t h2
    obtain ⟨l3, l4⟩ := inB_t h3
    have HC := Lib.hid h1
    have H1 := Lib.hid h2
    have H2 := Lib.hid h3
    clear h1 h2 h3
    go_enter Try.func42, Try.ntmps42
    go_wp2_with (at_builtin; refine wpList_app rfl _ _ 61 61 rfl .i64 3 3 8 Try.underlying61 Try.underlying61 info_i64 w.heap.size _ [] rfl (own_bare _ _ w) A n c B zs rfl (HH.out.keep fun p hp => World.cell?_of_block (Below.heap_alloc w _ _ (by omega))) hA (by decide) (by simp; omega) (by simp) ?_; intro v1 w1 hown1 hgrow1 hat1)
    have HO := Lib.hid (show Own .i64 3 w1 w.heap.size v1 zs by simpa using hown1)
    have HB1 := Lib.hid ((own_bare .i64 3 w).push (Nat.le_refl _) ((Below.refl _ _).alloc (Nat.le_refl _) _) (by simp) hgrow1)
    clear hown1 hgrow1 hat1
    go_wp2_with (go_at_call 79; refine (spec_l1In _ _ _ _).mono ?_; rintro e w' ⟨rfl, rfl⟩; first | rw [H1.out] | rw [H2.out])
    obtain ⟨A', c', rfl⟩ := HO.out.sliced
    have hle := HL.out
    rw [hle] at HO ⊢
    clear hle
    go_loopw [8] (fun i wr => ∃ k : Nat, k ≤ n ∧ i = .int .i64 k ∧ Own .i64 3 wr w.heap.size (.slice A' n c') (shK zs m q k) ∧ (zs.take k).all okO = true ∧ Below w.heap.size w wr) (fun i _ => n - (intOf i).toNat)
    case atStart => exact ⟨0, Nat.zero_le _, rfl, by rw [shK_zero]; exact HO.out, rfl, HB1.out⟩
    case round =>
      obtain ⟨k, hk, rfl, hown, hall, hbl⟩ := hrel
      clear HO HB1
      by_cases hlt : k < n
      · obtain ⟨ad, rfl, hab, hc⟩ := HH.out.2 (by omega)
        have hz : zs[k]? = some (zs.getD k 0) := by rw [List.getD_eq_getElem?_getD, List.getElem?_eq_getElem (by have := HL.out; omega)]; rfl
        have cz := (hbl.cell (p := ad.add k) (by rw [add_block]; omega)).trans (hc k hlt)
        generalize zs.getD k 0 = z at hz cz
        have i1 : (0 : Int) ≤ (k : Int) := by omega
        have i2 : (k : Int) < (n : Int) := by omega
        have HZ := Lib.hid hz
        have HOW := Lib.hid hown
        have HALL := Lib.hid hall
        have HBL := Lib.hid hbl
        clear hz hown hall hbl hc
        cases h4 : okO z
        · have HV := Lib.hid (shift_no2 (m := m) (c := q) HZ.out h4)
          have H4 : Hid (inB z (-1000000) 1000000 = false) := Lib.hid h4
          clear h4
          go_wp2_with fail
          refine (spec_l1In _ _ _ _).mono ?_
          rintro e w2 ⟨rfl, rfl⟩
          rw [H4.out]
          go_wp2_with (at_builtin; refine wpList_app rfl _ _ 61 61 rfl .i64 3 3 8 Try.underlying61 Try.underlying61 info_i64 wr.heap.size _ [] rfl (own_bare _ _ wr) (some ad) n c B zs rfl ((HH.out.keep fun p hp => HBL.out.cell (Nat.lt_of_lt_of_le hp hB)).keep fun p hp => World.cell?_of_block (Below.heap_alloc wr _ _ (by have := HBL.out.size; omega))) (fun e => by cases e) (by decide) (by simp; omega) (by simp) ?_; intro v1 w1 hown1 hgrow1 hat1)
          go_ret
          exact ⟨_, rfl, by rw [HV.out]; exact Own.mono (show Own .i64 3 w1 wr.heap.size v1 zs by simpa using hown1) HBL.out.size, HBL.out.trans (((own_bare .i64 3 wr).push (Nat.le_refl _) ((Below.refl _ _).alloc (Nat.le_refl _) _) (by simp) hgrow1).mono HBL.out.size)⟩
        · have H4 : Hid (inB z (-1000000) 1000000 = true) := Lib.hid h4
          obtain ⟨l5, l6⟩ := inB_t H4.out
          have hw1 : IntKind.i64.wrap (z + m) = z + m := by rw [IntKind.wrap_i64]; omega
          have HS := Lib.hid (shK_step (m := m) (c := q) HZ.out)
          have HA2 := Lib.hid (show (zs.take (k + 1)).all okO = true by rw [List.take_add_one, HZ.out, List.all_append, HALL.out]; simp [h4])
          clear h4
          rcases HOW.out.shape with ⟨e0, e1⟩ | ⟨g, cap, e0, hlo, hgs, hcp⟩
          · have h5 := congrArg List.length e1; rw [shK_length] at h5; have := HL.out; have h6 : ([] : List Int).length = 0 := rfl; omega
          injection e0 with e2 e3 e4
          subst e2
          have hst := HOW.out.stored k (modI (z + m) q)
          rw [HS.out] at hst
          have cw := HOW.out.cell k (by rw [shK_length]; have := HL.out; omega)
          have fw := HOW.out.free k
          have HST := Lib.hid hst
          clear hst e3 e4
          go_wp2_with fail
          refine (spec_l1In _ _ _ _).mono ?_
          rintro e w2 ⟨rfl, rfl⟩
          rw [H4.out]
          go_wp2_with fail
          refine (spec_Mod _ _ _).mono ?_
          rintro e w2 ⟨rfl, rfl⟩
          go_wp2
          go_roundw
          case rel => exact ⟨k + 1, by omega, by go_num, HST.out, HA2.out, HBL.out.setCell (by simpa using hlo) _⟩
          case measure => simp [intOf]; omega
      · obtain rfl : k = n := by omega
        have HV := Lib.hid (shift_yes HC.out (by rw [List.take_of_length_le (by have := HL.out; omega)] at hall; exact hall))
        rw [shK_top (by have := HL.out; omega)] at hown
        clear hall
        go_wp2
        go_ret
        exact ⟨_, rfl, by rw [HV.out]; exact hown, hbl⟩
end Go.Proofs.Ytnlffefekpjbcab
