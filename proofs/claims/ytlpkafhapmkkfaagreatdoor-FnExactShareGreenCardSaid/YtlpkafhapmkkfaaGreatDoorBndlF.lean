/- Texts of one chain, put together: Hst IdxN PopI IdsI Cov CoverI Hsu Hsm LawHst. -/
import Derived.BigQuiet
import Derived.Deep.QuietTactic
import Derived.RangeFuncBox
import Derived.Maps.AppendAt
import Derived.Deep.RegionHeld3
import Derived.Test.YtlpkafhapmkkfaaGreatDoorBndlE
set_option linter.unusedSimpArgs false
/- Chapter 31: PlanHistory: the program. -/
namespace Go.Proofs.YtlpkafhapmkkfaaGreatDoor
open Go.RowKit
set_option linter.unusedVariables false
set_option linter.unusedSimpArgs false

/-- the rows of a plan's paths. -/
def rowsH (ps : List Pth) (p : List Prt) : List (List Int) := ps.map fun q => rowP ps p q.id
/-- what they show at a second. -/
def atH (rs : List (List Int)) (t : Nat) : List Int := rs.map fun r => r.getD (t % r.length) 0
/-- what PlanHistory answers. -/
def histP (ps : List Pth) (p : List Prt) (f s : Int) : List (List Int) := if isPlan ps p && inB f 0 100000 && inB s 0 600 then (List.range s.toNat).map (fun i => atH (rowsH ps p) (f.toNat + i)) else []
theorem histP_no {ps : List Pth} {p : List Prt} {f s : Int} (h : (isPlan ps p && inB f 0 100000 && inB s 0 600) = false) : histP ps p f s = [] := by unfold histP; rw [h]; rfl
theorem histP_yes {ps : List Pth} {p : List Prt} {f s : Int} (h1 : isPlan ps p = true) (h2 : inB f 0 100000 = true) (h3 : inB s 0 600 = true) : histP ps p f s = (List.range s.toNat).map (fun i => atH (rowsH ps p) (f.toNat + i)) := by unfold histP; rw [h1, h2, h3]; rfl
theorem atH_len (rs : List (List Int)) (t : Nat) : (atH rs t).length = rs.length := by simp [atH]
theorem atH_get {rs : List (List Int)} {t k : Nat} (h : k < rs.length) : (atH rs t)[k]? = some ((rs.getD k []).getD (t % (rs.getD k []).length) 0) := by
  unfold atH
  rw [List.getElem?_map, List.getElem?_eq_getElem h]
  simp [List.getD, List.getElem?_eq_getElem h]
theorem rowsH_len (ps : List Pth) (p : List Prt) : (rowsH ps p).length = ps.length := by simp [rowsH]
theorem rowsH_get {ps : List Pth} {p : List Prt} {k : Nat} {q : Pth} (h : ps[k]? = some q) : (rowsH ps p).getD k [] = rowP ps p q.id := by
  unfold rowsH
  rw [List.getD_eq_getElem?_getD, List.getElem?_map, h]
  rfl
theorem histP_small {ps : List Pth} {p : List Prt} {f s : Int} (h : ps.length ≤ 1048576) : SmallSS (histP ps p f s) := by
  cases e : (isPlan ps p && inB f 0 100000 && inB s 0 600)
  · rw [histP_no e]; exact ⟨by simp, fun j hj => by simp at hj⟩
  · simp only [Bool.and_eq_true] at e
    obtain ⟨⟨e1, e2⟩, e3⟩ := e
    rw [histP_yes e1 e2 e3]
    have := inB_t e3
    refine ⟨by simp; omega, fun j hj => ?_⟩
    rw [List.length_map, List.length_range] at hj
    rw [List.getD_eq_getElem?_getD, List.getElem?_map, List.getElem?_range hj]
    simp only [Option.map_some, Option.getD_some, atH_len, rowsH_len]
    exact h
theorem findK_hasH : ∀ {ps : List Pth} {k : Nat} {q : Pth}, ps[k]? = some q → ∃ i, findK q.id ps = some i
  | [], k, q, h => by simp at h
  | p :: ps, k, q, h => by
    unfold findK
    by_cases e : p.id = q.id
    · exact ⟨0, by rw [if_pos e]⟩
    · cases k with
      | zero => simp at h; exact absurd (by rw [h]) e
      | succ k =>
        obtain ⟨i, hi⟩ := findK_hasH (ps := ps) (k := k) (q := q) (by simpa using h)
        exact ⟨i + 1, by rw [if_neg e, hi]; rfl⟩
theorem set_row {us : List Value} {n : Nat} {z u : Value} (h : us.length < n) : (us ++ List.replicate (n - us.length) z).set us.length u = (us ++ [u]) ++ List.replicate (n - (us ++ [u]).length) z := by
  obtain ⟨m, hm⟩ : ∃ m, n - us.length = m + 1 := ⟨n - us.length - 1, by omega⟩
  rw [hm, List.replicate_succ, List.set_append_right _ _ (Nat.le_refl _), Nat.sub_self, List.set_cons_zero, List.length_append, List.length_singleton, show n - (us.length + 1) = m by omega]
  simp
theorem made_nil (n : Nat) : (madeCells (Value.slice none 0 0).cells (n * 1)).toList = List.replicate n (Value.slice none 0 0) := by
  have h : (Value.slice none 0 0).cells = #[Value.slice none 0 0] := rfl
  rw [h]
  apply List.ext_getElem?
  intro i
  simp only [madeCells, Array.toList_map, List.getElem?_map]
  by_cases hi : i < n
  · simp [hi, Nat.mod_one]
  · simp [hi, Nat.mod_one]
theorem made_int (n : Nat) : (madeCells (Value.int .i64 0).cells (n * 1)).toList = List.replicate n (Value.int .i64 0) := by
  have h : (Value.int .i64 0).cells = #[Value.int .i64 0] := rfl
  rw [h]
  apply List.ext_getElem?
  intro i
  simp only [madeCells, Array.toList_map, List.getElem?_map]
  by_cases hi : i < n
  · simp [hi, Nat.mod_one]
  · simp [hi, Nat.mod_one]
theorem info_lr : (Tryz.prog.info? 107).map (fun i => (i.zero, i.size, i.bytes)) = some (some (.slice none 0 0), 1, 24) := by kernel_rfl
theorem info_is : (Tryz.prog.info? 58).map (fun i => (i.zero, i.size, i.bytes)) = some (some (.slice none 0 0), 1, 24) := by kernel_rfl
set_option maxHeartbeats 4000000 in
set_option maxRecDepth 100000 in
theorem impl_listRow (cl : Value) (zss : List (List Int)) (n : Nat) (w : World) (hl : zss.length = n) (hn : n ≤ 1048576)
    (HS : ∀ (k : Nat) (y : World), k < n → Below w.heap.size w y → Calls Tryz.prog 70 #[cl, .int .i64 (k : Nat)] y fun e w' => ∃ v, e = .returned v ∧ Own .i64 3 w' y.heap.size v (zss.getD k []) ∧ Below y.heap.size y w') :
    Calls Tryz.prog 69 #[.int .i64 n, .func (.func 70) #[cl] #[]] w fun e w' => ∃ v us, e = .returned v ∧ w'.ownsRow w.heap.size 107 1 v n us ∧ (∀ j, j < n → ∃ u, us[j]? = some u ∧ Own .i64 3 w' w.heap.size u (zss.getD j [])) ∧ Below w.heap.size w w' := by
  have HSS := Lib.hid HS
  have HLL := Lib.hid hl
  clear HS hl
  go_enter Tryz.func69, Tryz.ntmps69
  go_wp2_with ((with_reducible show wpList _ _ _ _ _ _); refine wpList_mkR rfl _ _ _ rfl 107 _ 1 _ Tryz.underlying105 info_lr (by decide) (n : Int) (n : Int) n rfl rfl rfl rfl (by omega) ?_; intro w1 hown hgrow)
  rw [made_nil] at hown
  go_loopw [11] (fun i wr => ∃ (k : Nat) (us : List Value), k ≤ n ∧ us.length = k ∧ i = .int .i64 k ∧ wr.ownsRow w.heap.size 107 1 (.slice (some ⟨w.heap.size, 0, none⟩) n n) n (us ++ List.replicate (n - us.length) (.slice none 0 0)) ∧ (∀ j, j < k → ∃ u, us[j]? = some u ∧ Own .i64 3 wr w.heap.size u (zss.getD j [])) ∧ Below w.heap.size w wr) (fun i _ => n - (intOf i).toNat)
  case atStart => exact ⟨0, [], Nat.zero_le _, rfl, rfl, by simpa using hown, fun j hj => absurd hj (by omega), below_grown hgrow⟩
  case round =>
    clear hown hgrow
    obtain ⟨k, us, hk, hul, rfl, hrow, heach, hbl⟩ := hrel
    have hsz := hbl.size
    have HRW := Lib.hid hrow
    have HE := Lib.hid heach
    have HBL := Lib.hid hbl
    have HUL := Lib.hid hul
    skip
    clear hrow heach hbl hul
    by_cases hlt : k < n
    · have hcc := HSS.out k wr hlt HBL.out
      have i1 : (0 : Int) ≤ (k : Int) := by omega
      have i2 : (k : Int) < (n : Int) := by omega
      go_wp2_with fail
      refine hcc.mono ?_
      rintro e w2 ⟨v, rfl, ho, hb2⟩
      obtain ⟨A3, c3, rfl⟩ := ho.sliced
      have HO2 := Lib.hid ho
      have HB2 := Lib.hid hb2
      have hrow2 := ownr_below HRW.out hb2
      obtain ⟨x0, hx0⟩ := ownr_some hrow2 (j := k * 1) (by omega)
      rw [Nat.mul_one] at hx0
      have f0 := World.ownsRow.frozenAt hrow2
      obtain ⟨w3, hw3⟩ : ∃ w3, w3 = w2.setCell ⟨w.heap.size, k, none⟩ (.slice A3 (zss.getD k []).length c3) := ⟨_, rfl⟩
      have hst := (World.ownsRow.stored hrow2 k (.slice A3 (zss.getD k []).length c3)).1
      rw [← hw3] at hst
      have hset := set_row (us := us) (n := n) (z := .slice none 0 0) (u := .slice A3 (zss.getD k []).length c3) (by rw [HUL.out]; exact hlt)
      have hul := HUL.out
      rw [hul] at hset hst
      rw [hset] at hst
      have hgs : w2.grownBy w3 (some w.heap.size) := by rw [hw3]; exact only_setCell (World.grownBy.refl _ _) _ _
      have hkept : ∀ {x : Value} {ys : List Int} {l : Nat}, Own .i64 3 w2 l x ys → Own .i64 3 w3 l x ys := fun hx => hx.grown hgs (fun g hg e => apart_types hx hrow2 (by decide) g hg (Option.some.inj e ▸ rfl))
      have HR := Lib.hid hst
      have HE5 : Hid (∀ j, j < k + 1 → ∃ u, (us ++ [.slice A3 (zss.getD k []).length c3])[j]? = some u ∧ Own .i64 3 w3 w.heap.size u (zss.getD j [])) := Lib.hid (fun j hj => by
        by_cases hjk : j < k
        · obtain ⟨u, h1, h2⟩ := HE.out j hjk
          exact ⟨u, by rw [List.getElem?_append_left (by rw [HUL.out]; exact hjk)]; exact h1, hkept (h2.below HB2.out)⟩
        · obtain rfl : j = k := by omega
          exact ⟨_, by rw [List.getElem?_append_right (by rw [HUL.out]; exact Nat.le_refl _), HUL.out, Nat.sub_self]; rfl, hkept (HO2.out.mono hsz)⟩)
      skip
      have HU5 : Hid ((us ++ [Value.slice A3 (zss.getD k []).length c3]).length = k + 1) := Lib.hid (by rw [List.length_append, HUL.out]; rfl)
      have HB3 : Hid (Below w.heap.size w w3) := Lib.hid (by rw [hw3]; exact (HBL.out.trans (HB2.out.mono hsz)).setCell (Nat.le_refl _) _)
      clear hst hgs hkept hrow2 hset hul ho hb2 hcc
      generalize (zss.getD k []).length = ln at *
      go_wp2
      rw [← hw3]
      clear hw3 hx0 f0
      go_roundw
      case rel => exact ⟨k + 1, us ++ [.slice A3 ln c3], by omega, HU5.out, by go_num, HR.out, HE5.out, HB3.out⟩
      case measure => simp [intOf]; omega
    · obtain rfl : k = n := by omega
      have hrow := HRW.out
      rw [HUL.out, Nat.sub_self, List.replicate_zero, List.append_nil] at hrow
      have HO := Lib.hid hrow
      clear hrow
      go_wp2
      go_ret
      exact ⟨_, us, rfl, HO.out, HE.out, HBL.out⟩
set_option maxHeartbeats 4000000 in
set_option maxRecDepth 100000 in
theorem impl_listSSH (p1 p2 : Value) (zss : List (List Int)) (n : Nat) (w : World) (hl : zss.length = n) (hn : n ≤ 1048576)
    (HS : ∀ (k : Nat) (y : World), k < n → Below w.heap.size w y → Calls Tryz.prog 72 #[.int .i64 (k : Nat), p1, p2] y fun e w' => ∃ v, e = .returned v ∧ Own .i64 3 w' y.heap.size v (zss.getD k []) ∧ Below y.heap.size y w') :
    Calls Tryz.prog 71 #[.int .i64 n, .func (.func 72) #[] #[p1, p2]] w fun e w' => ∃ v us, e = .returned v ∧ w'.ownsRow w.heap.size 58 1 v n us ∧ (∀ j, j < n → ∃ u, us[j]? = some u ∧ Own .i64 3 w' w.heap.size u (zss.getD j [])) ∧ ApartL us ∧ Below w.heap.size w w' := by
  have HSS := Lib.hid HS
  have HLL := Lib.hid hl
  clear HS hl
  go_enter Tryz.func71, Tryz.ntmps71
  go_wp2_with ((with_reducible show wpList _ _ _ _ _ _); refine wpList_mkR rfl _ _ _ rfl 58 _ 1 _ Tryz.underlying50 info_is (by decide) (n : Int) (n : Int) n rfl rfl rfl rfl (by omega) ?_; intro w1 hown hgrow)
  rw [made_nil] at hown
  go_loopw [11] (fun i wr => ∃ (k : Nat) (us : List Value), k ≤ n ∧ us.length = k ∧ i = .int .i64 k ∧ wr.ownsRow w.heap.size 58 1 (.slice (some ⟨w.heap.size, 0, none⟩) n n) n (us ++ List.replicate (n - us.length) (.slice none 0 0)) ∧ (∀ j, j < k → ∃ u, us[j]? = some u ∧ Own .i64 3 wr w.heap.size u (zss.getD j [])) ∧ ApartL us ∧ Below w.heap.size w wr) (fun i _ => n - (intOf i).toNat)
  case atStart => exact ⟨0, [], Nat.zero_le _, rfl, rfl, by simpa using hown, fun j hj => absurd hj (by omega), ApartL.nil, below_grown hgrow⟩
  case round =>
    clear hown hgrow
    obtain ⟨k, us, hk, hul, rfl, hrow, heach, hap, hbl⟩ := hrel
    have hsz := hbl.size
    have HRW := Lib.hid hrow
    have HE := Lib.hid heach
    have HBL := Lib.hid hbl
    have HUL := Lib.hid hul
    have HAP := Lib.hid hap
    clear hrow heach hbl hul hap
    by_cases hlt : k < n
    · have hcc := HSS.out k wr hlt HBL.out
      have i1 : (0 : Int) ≤ (k : Int) := by omega
      have i2 : (k : Int) < (n : Int) := by omega
      go_wp2_with fail
      refine hcc.mono ?_
      rintro e w2 ⟨v, rfl, ho, hb2⟩
      obtain ⟨A3, c3, rfl⟩ := ho.sliced
      have HO2 := Lib.hid ho
      have HB2 := Lib.hid hb2
      have hrow2 := ownr_below HRW.out hb2
      obtain ⟨x0, hx0⟩ := ownr_some hrow2 (j := k * 1) (by omega)
      rw [Nat.mul_one] at hx0
      have f0 := World.ownsRow.frozenAt hrow2
      obtain ⟨w3, hw3⟩ : ∃ w3, w3 = w2.setCell ⟨w.heap.size, k, none⟩ (.slice A3 (zss.getD k []).length c3) := ⟨_, rfl⟩
      have hst := (World.ownsRow.stored hrow2 k (.slice A3 (zss.getD k []).length c3)).1
      rw [← hw3] at hst
      have hset := set_row (us := us) (n := n) (z := .slice none 0 0) (u := .slice A3 (zss.getD k []).length c3) (by rw [HUL.out]; exact hlt)
      have hul := HUL.out
      rw [hul] at hset hst
      rw [hset] at hst
      have hgs : w2.grownBy w3 (some w.heap.size) := by rw [hw3]; exact only_setCell (World.grownBy.refl _ _) _ _
      have hkept : ∀ {x : Value} {ys : List Int} {l : Nat}, Own .i64 3 w2 l x ys → Own .i64 3 w3 l x ys := fun hx => hx.grown hgs (fun g hg e => apart_types hx hrow2 (by decide) g hg (Option.some.inj e ▸ rfl))
      have HR := Lib.hid hst
      have HE5 : Hid (∀ j, j < k + 1 → ∃ u, (us ++ [.slice A3 (zss.getD k []).length c3])[j]? = some u ∧ Own .i64 3 w3 w.heap.size u (zss.getD j [])) := Lib.hid (fun j hj => by
        by_cases hjk : j < k
        · obtain ⟨u, h1, h2⟩ := HE.out j hjk
          exact ⟨u, by rw [List.getElem?_append_left (by rw [HUL.out]; exact hjk)]; exact h1, hkept (h2.below HB2.out)⟩
        · obtain rfl : j = k := by omega
          exact ⟨_, by rw [List.getElem?_append_right (by rw [HUL.out]; exact Nat.le_refl _), HUL.out, Nat.sub_self]; rfl, hkept (HO2.out.mono hsz)⟩)
      have HA5 : Hid (ApartL (us ++ [Value.slice A3 (zss.getD k []).length c3])) := Lib.hid (HAP.out.snoc (b := wr.heap.size) (fun x hx g hg => by
        obtain ⟨j, hj, rfl⟩ := List.getElem_of_mem hx
        obtain ⟨u, h1, h2⟩ := HE.out j (by rw [← HUL.out]; exact hj)
        rw [List.getElem?_eq_getElem hj] at h1
        injection h1 with h1
        rw [h1] at hg
        exact (h2.block g hg).2) (fun g hg => (HO2.out.block g hg).1))
      have HU5 : Hid ((us ++ [Value.slice A3 (zss.getD k []).length c3]).length = k + 1) := Lib.hid (by rw [List.length_append, HUL.out]; rfl)
      have HB3 : Hid (Below w.heap.size w w3) := Lib.hid (by rw [hw3]; exact (HBL.out.trans (HB2.out.mono hsz)).setCell (Nat.le_refl _) _)
      clear hst hgs hkept hrow2 hset hul ho hb2 hcc
      generalize (zss.getD k []).length = ln at *
      go_wp2
      rw [← hw3]
      clear hw3 hx0 f0
      go_roundw
      case rel => exact ⟨k + 1, us ++ [.slice A3 ln c3], by omega, HU5.out, by go_num, HR.out, HE5.out, HA5.out, HB3.out⟩
      case measure => simp [intOf]; omega
    · obtain rfl : k = n := by omega
      have hrow := HRW.out
      rw [HUL.out, Nat.sub_self, List.replicate_zero, List.append_nil] at hrow
      have HO := Lib.hid hrow
      clear hrow
      go_wp2
      go_ret
      exact ⟨_, us, rfl, HO.out, HE.out, HAP.out, HBL.out⟩
set_option maxHeartbeats 4000000 in
set_option maxRecDepth 100000 in
theorem impl_listIntH (p1 p2 p3 : Value) (zs : List Int) (n : Nat) (w : World) (hl : zs.length = n) (hn : n ≤ 1048576)
    (HS : ∀ (k : Nat) (y : World), k < n → Below w.heap.size w y → Calls Tryz.prog 74 #[.int .i64 (k : Nat), p1, p2, p3] y fun e w' => e = .returned (.int .i64 (zs.getD k 0)) ∧ Below y.heap.size y w') :
    Calls Tryz.prog 73 #[.int .i64 n, .func (.func 74) #[] #[p1, p2, p3]] w fun e w' => ∃ v, e = .returned v ∧ Own .i64 3 w' w.heap.size v zs ∧ Below w.heap.size w w' := by
  have HSS := Lib.hid HS
  have HLL := Lib.hid hl
  clear HS hl
  go_enter Tryz.func73, Tryz.ntmps73
  go_wp2_with ((with_reducible show wpList _ _ _ _ _ _); refine wpList_mkR rfl _ _ _ rfl 3 _ 1 _ Tryz.underlying58 info_i64 (by decide) (n : Int) (n : Int) n rfl rfl rfl rfl (by omega) ?_; intro w1 hown hgrow)
  rw [made_int] at hown
  go_loopw [11] (fun i wr => ∃ (k : Nat) (us : List Value), k ≤ n ∧ us.length = k ∧ us = (zs.take k).map (Value.int .i64) ∧ i = .int .i64 k ∧ wr.ownsRow w.heap.size 3 1 (.slice (some ⟨w.heap.size, 0, none⟩) n n) n (us ++ List.replicate (n - us.length) (.int .i64 0)) ∧ Below w.heap.size w wr) (fun i _ => n - (intOf i).toNat)
  case atStart => exact ⟨0, [], Nat.zero_le _, rfl, by simp, rfl, by simpa using hown, below_grown hgrow⟩
  case round =>
    clear hown hgrow
    obtain ⟨k, us, hk, hul, hus, rfl, hrow, hbl⟩ := hrel
    have hsz := hbl.size
    have HRW := Lib.hid hrow
    have HBL := Lib.hid hbl
    have HUL := Lib.hid hul
    have HUS := Lib.hid hus
    clear hrow hbl hul hus
    by_cases hlt : k < n
    · have hcc := HSS.out k wr hlt HBL.out
      have hzk : zs[k]? = some (zs.getD k 0) := by rw [List.getD_eq_getElem?_getD, List.getElem?_eq_getElem (by have := HLL.out; omega)]; rfl
      generalize zs.getD k 0 = z at hcc hzk
      have HZK := Lib.hid hzk
      have HCC := Lib.hid hcc
      clear hzk hcc
      have i1 : (0 : Int) ≤ (k : Int) := by omega
      have i2 : (k : Int) < (n : Int) := by omega
      go_wp2_with fail
      refine HCC.out.mono ?_
      rintro e w2 ⟨rfl, hb2⟩
      have HB2 := Lib.hid hb2
      have hrow2 := ownr_below HRW.out hb2
      obtain ⟨x0, hx0⟩ := ownr_some hrow2 (j := k * 1) (by omega)
      rw [Nat.mul_one] at hx0
      have f0 := World.ownsRow.frozenAt hrow2
      obtain ⟨w3, hw3⟩ : ∃ w3, w3 = w2.setCell ⟨w.heap.size, k, none⟩ (.int .i64 z) := ⟨_, rfl⟩
      have hst := (World.ownsRow.stored hrow2 k (.int .i64 z)).1
      rw [← hw3] at hst
      have hset := set_row (us := us) (n := n) (z := .int .i64 0) (u := .int .i64 z) (by rw [HUL.out]; exact hlt)
      have hul := HUL.out
      rw [hul] at hset hst
      rw [hset] at hst
      have HR := Lib.hid hst
      have HU5 : Hid ((us ++ [Value.int .i64 z]).length = k + 1) := Lib.hid (by rw [List.length_append, HUL.out]; rfl)
      have HUS5 : Hid (us ++ [Value.int .i64 z] = (zs.take (k + 1)).map (Value.int .i64)) := Lib.hid (by rw [List.take_add_one, HZK.out, List.map_append, HUS.out]; rfl)
      have HB3 : Hid (Below w.heap.size w w3) := Lib.hid (by rw [hw3]; exact (HBL.out.trans (HB2.out.mono hsz)).setCell (Nat.le_refl _) _)
      clear hst hrow2 hset hul hb2
      go_wp2
      rw [← hw3]
      clear hw3 hx0 f0
      go_roundw
      case rel => exact ⟨k + 1, us ++ [.int .i64 z], by omega, HU5.out, HUS5.out, by go_num, HR.out, HB3.out⟩
      case measure => simp [intOf]; omega
    · obtain rfl : k = n := by omega
      have hrow := HRW.out
      rw [HUL.out, Nat.sub_self, List.replicate_zero, List.append_nil, HUS.out, List.take_of_length_le (by have := HLL.out; omega)] at hrow
      have HO : Hid (Own .i64 3 wr w.heap.size (.slice (some ⟨w.heap.size, 0, none⟩) k k) zs) := Lib.hid (by unfold Own; rw [HLL.out]; exact hrow)
      clear hrow
      go_wp2
      go_ret
      exact ⟨_, rfl, HO.out, HBL.out⟩
set_option maxHeartbeats 4000000 in
set_option maxRecDepth 100000 in
theorem impl_hist2 (g1 g2 g3 k f i : Nat) (RA : Addr) (n rc lo : Nat) (us : List Value) (rs : List (List Int)) (w : World) (h1 : w.cell? ⟨g1, 0, none⟩ = some (.slice (some RA) n rc)) (h2 : w.cell? ⟨g2, 0, none⟩ = some (.int .i64 f)) (h3 : w.cell? ⟨g3, 0, none⟩ = some (.int .i64 i)) (hk : k < n) (hf : f ≤ 100000) (hi : i ≤ 600) (hn : n ≤ 1048576)
    (hr : w.ownsRow lo 107 1 (.slice (some RA) n rc) n us) (hu : ∃ u, us[k]? = some u ∧ Own .i64 3 w lo u (rs.getD k [])) (hp : 0 < (rs.getD k []).length) (hl : (rs.getD k []).length ≤ 1000) :
    Calls Tryz.prog 74 #[.int .i64 (k : Nat), .pointer (some ⟨g1, 0, none⟩), .pointer (some ⟨g2, 0, none⟩), .pointer (some ⟨g3, 0, none⟩)] w fun e w' => e = .returned (.int .i64 ((rs.getD k []).getD ((f + i) % (rs.getD k []).length) 0)) ∧ Below w.heap.size w w' := by
  obtain ⟨u, hu1, hu2⟩ := hu
  generalize rs.getD k [] = zs at *
  obtain ⟨A', c', rfl⟩ := hu2.sliced
  obtain ⟨g, hRA⟩ : ∃ g, RA = ⟨g, 0, none⟩ := by
    rcases ownr_shape hr with ⟨e, _⟩ | ⟨g, cap, e, _⟩
    · cases e
    · injection e with e; injection e with e; exact ⟨g, e⟩
  subst hRA
  have hcell := (World.ownsRow.cellAt hr k (by omega)).trans hu1
  obtain ⟨q, hq⟩ : ∃ q : Nat, q = f + i := ⟨_, rfl⟩
  have e1 : IntKind.i64.wrap ((f : Int) + (i : Int)) = (q : Int) := by rw [IntKind.wrap_i64]; omega
  have HQ := Lib.hid hq
  have HC := Lib.hid (fun m => (impl_rowAt A' zs.length c' w.heap.size zs q (w.drewN m) (hu2.ints.keep fun p _ => rfl) hp (by omega) (by omega)).mono fun e w' h => (⟨h.1, h.2.symm⟩ : e = .returned (.int .i64 (zs.getD (q % zs.length) 0)) ∧ w' = w.drewN m))
  have i1 : (0 : Int) ≤ (k : Int) := by omega
  have i2 : (k : Int) < (n : Int) := by omega
  clear hq hr hu1 hu2
  go_enter Tryz.func74, Tryz.ntmps74
  go_wp2
  go_quiet ((go_at_call 75; exact Calls.quiet_of_same (HC.out _)))
  go_wp2
  go_ret
  exact ⟨by rw [HQ.out]; rfl, belowN (Below.refl _ _) _⟩
end Go.Proofs.YtlpkafhapmkkfaaGreatDoor

/- The indexes of a mask below a bound: the iterator's contract. -/
namespace Go.Proofs.YtlpkafhapmkkfaaGreatDoor
open Go.RowKit Go.Shelf
attribute [local go_sem] Oper.semAt_some
set_option linter.unusedVariables false

abbrev IdxN (N : Nat) := { i : Nat // i < N }
/-- the members, each with its bound. -/
def idxsN (N m : Nat) : List (IdxN N) := (List.finRange N).filterMap fun i => if m.testBit i.val then some ⟨i.val, i.isLt⟩ else none
def encN {N : Nat} (i : IdxN N) : Array Value := #[.int .i64 (i.val : Int)]
theorem idxsN_mem {N m : Nat} {i : IdxN N} : i ∈ idxsN N m ↔ m.testBit i.val = true := by
  unfold idxsN
  rw [List.mem_filterMap]
  constructor
  · rintro ⟨j, _, h⟩
    split at h
    · rename_i hb
      injection h with h
      rw [← h]
      exact hb
    · cases h
  · intro h
    exact ⟨⟨i.val, i.2⟩, List.mem_finRange _, by rw [if_pos h]⟩
theorem idxsN_asc (N m : Nat) : ((idxsN N m).map (·.val)).Pairwise (· < ·) := by
  unfold idxsN
  rw [List.map_filterMap, List.pairwise_filterMap]
  refine (List.pairwise_lt_finRange (n := N)).imp ?_
  intro a b hab x hx y hy
  simp only [Option.map_eq_some_iff] at hx hy
  obtain ⟨x', hx, rfl⟩ := hx
  obtain ⟨y', hy, rfl⟩ := hy
  split at hx
  · split at hy
    · injection hx with hx
      injection hy with hy
      rw [← hx, ← hy]
      exact hab
    · cases hy
  · cases hx
theorem idxsN_val {N m : Nat} (hN : N ≤ 12) (hm : m < 2 ^ N) : (idxsN N m).map (·.val) = bitsOf m := asc_nat (idxsN_asc N m) (bits_asc m) fun x => by
  rw [bitsOf_mem, List.mem_map]
  constructor
  · rintro ⟨i, h, rfl⟩
    exact ⟨by have := i.2; omega, idxsN_mem.1 h⟩
  · rintro ⟨_, h⟩
    exact ⟨⟨x, bit_in hm h⟩, idxsN_mem.2 h, rfl⟩
theorem idxN_inj {N : Nat} : ∀ {a b : List (IdxN N)}, a.map (·.val) = b.map (·.val) → a = b
  | [], [], _ => rfl
  | [], _ :: _, h => by simp at h
  | _ :: _, [], h => by simp at h
  | x :: a, y :: b, h => by
    simp only [List.map_cons, List.cons.injEq] at h
    rw [Subtype.ext h.1, idxN_inj h.2]
theorem idxsN_zero {N : Nat} : idxsN N 0 = [] := by
  apply List.eq_nil_iff_forall_not_mem.2
  intro i hi
  have := idxsN_mem.1 hi
  rw [Nat.zero_testBit] at this
  cases this
theorem low_in {N m : Nat} (hN : N ≤ 12) (h : m < 2 ^ N) (h0 : m ≠ 0) : lowB m < N := by
  have h12 := pow_le12 hN
  have hb := (low_ok (by omega) h0).bits
  have : lowB m ∈ bitsOf m := by rw [hb]; exact List.mem_cons_self
  exact bit_in h (bitsOf_mem.1 this).2
theorem idxsN_cons {N m : Nat} (hN : N ≤ 12) (h : m < 2 ^ N) (h0 : m ≠ 0) (hl : lowB m < N) : idxsN N m = ⟨lowB m, hl⟩ :: idxsN N (clr m) := idxN_inj (by
  have h12 := pow_le12 hN
  have ho := low_ok (by omega) h0
  rw [idxsN_val hN h, List.map_cons, idxsN_val hN (Nat.lt_trans ho.less h)]
  exact ho.bits)
theorem idxsN_len {N m : Nat} (hN : N ≤ 12) (hm : m < 2 ^ N) : (idxsN N m).length ≤ 12 := by
  have h := congrArg List.length (idxsN_val hN hm)
  rw [List.length_map] at h
  rw [h]
  unfold bitsOf
  exact Nat.le_trans (List.length_filter_le _ _) (by simp)
theorem idxsN_map {N m : Nat} (hN : N ≤ 12) (hm : m < 2 ^ N) (ps : List Pth) : (idxsN N m).map (fun i => idAt ps i.val) = idsM ps m := by
  rw [idsM_bits, ← idxsN_val hN hm, List.map_map]
  rfl
set_option maxHeartbeats 1000000 in
set_option maxRecDepth 100000 in
theorem idx1_inN (N : Nat) (hN : N ≤ 12) (n : Nat) (hn : 2 ≤ n) (l Bn n₀ : Nat) (m : Nat) (hm : m < 2 ^ N) (J Jx : List (IdxN N) → World → Prop)
    (hY : ∀ pre x W, J pre W → pre.length < 12 → YieldAt Fence.wide (n - 1) Tryz.prog l (encN x) W fun e W' =>
      (e = .returned (.bool true) ∧ J (pre ++ [x]) W' ∧ Below n₀ W W') ∨ (e = .returned (.bool false) ∧ Jx (pre ++ [x]) W'))
    (W : World) (hBn : W.cell? ⟨Bn, 0, none⟩ = some (.int .u16 (m : Nat))) (hw : Brus W) (hg : 1 < n₀) (h0 : J [] W) :
    CallsIn Fence.wide n Tryz.prog 169 #[.func (.yield l) #[] #[], .pointer (some ⟨Bn, 0, none⟩)] W fun e W' => (∃ v, e = .returned v) ∧
      ((∃ ys, ys = idxsN N m ∧ J ys W') ∨ (∃ pre, pre <+: idxsN N m ∧ Jx pre W')) := by
  refine callsIn_of_wp Tryz.func169 rfl trivial ?_ rfl
  simp only [Tryz.ntmps169, List.size_toArray, List.length_cons, List.length_nil, Nat.reduceAdd, Nat.reduceSub, Array.replicate_succ, Array.replicate_zero, List.push_toArray, List.append_toArray, List.nil_append, List.cons_append]
  have h12 := pow_le12 hN
  have hml := idxsN_len hN hm
  gi_wp2
  gi_loopw [3] (fun p wr => ∃ (pre : List (IdxN N)) (q : Nat), p = .int .u16 (q : Nat) ∧ q < 2 ^ N ∧ idxsN N m = pre ++ idxsN N q ∧ Brus wr ∧ J pre wr)
    (fun p _ => (intOf p).toNat)
  case atStart =>
    exact ⟨[], m, rfl, hm, rfl, hw, h0⟩
  case round =>
    clear hBn hw h0
    obtain ⟨pre, q, rfl, hq, hx, hws, hJs⟩ := hrel
    by_cases hz : q = 0
    · subst hz
      have HX : Hid (pre = idxsN N m) := Lib.hid (by rw [hx, idxsN_zero, List.append_nil])
      clear hx
      gi_wp2
      go_end0
      exact ⟨⟨_, rfl⟩, .inl ⟨pre, HX.out, hJs⟩⟩
    · obtain ⟨hb, hls, hlo12, hng, hdc⟩ := low_ok (Nat.lt_of_lt_of_le hq h12) hz
      have hlo := low_in hN hq hz
      have hc := idxsN_cons hN hq hz hlo
      have HX : Hid (idxsN N m = (pre ++ [⟨lowB q, hlo⟩]) ++ idxsN N (clr q)) := Lib.hid (by rw [hx, hc]; simp)
      have hlen : pre.length < 12 := by
        have := congrArg List.length hx
        rw [hc, List.length_append, List.length_cons] at this
        omega
      obtain ⟨fn, tmps, assign, body, hy, hR⟩ := hY pre ⟨lowB q, hlo⟩ wr hJs hlen
      have hq4 := Nat.lt_of_lt_of_le hq h12
      have ht := impl_Trailing16 q wr hq4 hz hws
      unfold encN at hy
      dsimp only at hy
      have hne : ((q : Int) != 0) = true := by simp; omega
      have HT := Lib.hid ht
      clear hb hng hc hx ht
      gi_wp2
      refine ⟨trivial, fun _ => by omega, ?_⟩
      refine (callsIn_wide.2 HT.out).mono ?_
      rintro e w' ⟨rfl, rfl⟩
      gi_wp2
      refine ⟨fun _ => by omega, ?_⟩
      refine hR.mono ?_
      have hsub : ((q : Int) - 1) = ((q - 1 : Nat) : Int) := by omega
      have hq0 : (0 : Int) ≤ (q : Int) - 1 := by omega
      rintro e W3 (⟨rfl, hJ3, hk3⟩ | ⟨rfl, hJx3⟩)
      · have hw3 := Lib.hid (hws.under hk3 hg)
        have HJ := Lib.hid hJ3
        have hcq : clr q < 2 ^ N := Nat.lt_trans hls hq
        clear hws hJs hR hy hJ3 hk3 hsub HT hY
        gi_wp2
        go_roundw
        case rel => exact ⟨pre ++ [⟨lowB q, hlo⟩], clr q, by first | rfl | (rw [hdc]), hcq, HX.out, hw3.out, HJ.out⟩
        case measure => simp [intOf]; omega
      · have HJ := Lib.hid hJx3
        clear hws hJs hR hy hJx3 hsub HT hY
        gi_wp2
        refine bodyPost_ret (results_none rfl _ _ _) rfl ?_
        exact ⟨⟨_, rfl⟩, .inr ⟨pre ++ [⟨lowB q, hlo⟩], ⟨idxsN N (clr q), HX.out.symm⟩, HJ.out⟩⟩
theorem idx_stopsN (N : Nat) (hN : N ≤ 12) (n : Nat) (hn : 2 ≤ n) (Bn n₀ m : Nat) (hm : m < 2 ^ N) (w : World) (hBn : Bn < w.heap.size) (hn₀ : n₀ ≤ w.heap.size) (hc : w.cell? ⟨Bn, 0, none⟩ = some (.int .u16 (m : Nat))) (hw : Brus w) (hg : 1 < n₀) :
    SeqStopsK Fence.wide n Tryz.prog 169 #[.pointer (some ⟨Bn, 0, none⟩)] encN (Below n₀) (fun ys => ys = idxsN N m) (fun pre => pre <+: idxsN N m) 12 w := fun l J Jx W hW _ _ hY h0 =>
  idx1_inN N hN n hn l Bn n₀ m hm J Jx hY W ((hW.cell (p := ⟨Bn, 0, none⟩) hBn).trans hc) (hw.under hW (by omega)) hg h0
end Go.Proofs.YtlpkafhapmkkfaaGreatDoor

/- The size of a mask: math/bits.OnesCount16. -/
namespace Go.Proofs.YtlpkafhapmkkfaaGreatDoor
open Go.RowKit
set_option linter.unusedVariables false

/-- how many bits. -/
def popc (m : Nat) : Nat := ((List.range 12).filter m.testBit).length
def bsum (m : Nat) : Nat := ((List.range 8).filter m.testBit).length
/-- the table of the bits of a byte. -/
abbrev popTab : ByteArray := ⟨#[0, 1, 1, 2, 1, 2, 2, 3, 1, 2, 2, 3, 2, 3, 3, 4, 1, 2, 2, 3, 2, 3, 3, 4, 2, 3, 3, 4, 3, 4, 4, 5, 1, 2, 2, 3, 2, 3, 3, 4, 2, 3, 3, 4, 3, 4, 4, 5, 2, 3, 3, 4, 3, 4, 4, 5, 3, 4, 4, 5, 4, 5, 5, 6, 1, 2, 2, 3, 2, 3, 3, 4, 2, 3, 3, 4, 3, 4, 4, 5, 2, 3, 3, 4, 3, 4, 4, 5, 3, 4, 4, 5, 4, 5, 5, 6, 2, 3, 3, 4, 3, 4, 4, 5, 3, 4, 4, 5, 4, 5, 5, 6, 3, 4, 4, 5, 4, 5, 5, 6, 4, 5, 5, 6, 5, 6, 6, 7, 1, 2, 2, 3, 2, 3, 3, 4, 2, 3, 3, 4, 3, 4, 4, 5, 2, 3, 3, 4, 3, 4, 4, 5, 3, 4, 4, 5, 4, 5, 5, 6, 2, 3, 3, 4, 3, 4, 4, 5, 3, 4, 4, 5, 4, 5, 5, 6, 3, 4, 4, 5, 4, 5, 5, 6, 4, 5, 5, 6, 5, 6, 6, 7, 2, 3, 3, 4, 3, 4, 4, 5, 3, 4, 4, 5, 4, 5, 5, 6, 3, 4, 4, 5, 4, 5, 5, 6, 4, 5, 5, 6, 5, 6, 6, 7, 3, 4, 4, 5, 4, 5, 5, 6, 4, 5, 5, 6, 5, 6, 6, 7, 4, 5, 5, 6, 5, 6, 6, 7, 5, 6, 6, 7, 6, 7, 7, 8]⟩
theorem popTab_size : popTab.size = 256 := by kernel_rfl
theorem popTab_at : ∀ b : Fin 256, (popTab[b.val]'(by rw [popTab_size]; exact b.isLt)).toNat = bsum b.val := by decide +kernel
theorem popc_sum (m : Nat) (h : m < 4096) : popc m = bsum (m / 256) + bsum (m % 256) := by
  have e1 : List.range 12 = List.range 8 ++ (List.range 4).map (8 + ·) := by decide
  have e2 : List.range 8 = List.range 4 ++ (List.range 4).map (4 + ·) := by decide
  have h1 : bsum (m % 256) = ((List.range 8).filter m.testBit).length := by
    unfold bsum
    congr 1
    refine List.filter_congr fun j hj => ?_
    have hj8 := List.mem_range.1 hj
    rw [show (256 : Nat) = 2 ^ 8 from rfl, Nat.testBit_mod_two_pow]
    simp [hj8]
  have h2 : bsum (m / 256) = ((List.range 4).filter (fun j => m.testBit (8 + j))).length := by
    unfold bsum
    rw [e2, List.filter_append, List.length_append]
    have z : ((List.range 4).map (4 + ·)).filter (m / 256).testBit = [] := by
      rw [List.filter_eq_nil_iff]
      intro j hj
      obtain ⟨i, _, rfl⟩ := List.mem_map.1 hj
      rw [show (256 : Nat) = 2 ^ 8 from rfl, Nat.testBit_div_two_pow, Nat.testBit_lt_two_pow (Nat.lt_of_lt_of_le h (Nat.pow_le_pow_right (by decide) (by omega) : 2 ^ 12 ≤ _))]
      simp
    rw [z, List.length_nil, Nat.add_zero]
    congr 1
    refine List.filter_congr fun j _ => ?_
    rw [show (256 : Nat) = 2 ^ 8 from rfl, Nat.testBit_div_two_pow, Nat.add_comm]
  rw [h1, h2]
  unfold popc
  rw [e1, List.filter_append, List.length_append, List.filter_map, List.length_map, Nat.add_comm]
  rfl
theorem bsum_le : ∀ b : Fin 256, bsum b.val ≤ 8 := by decide +kernel
theorem popc_le (m : Nat) : popc m ≤ 12 := by
  unfold popc
  exact Nat.le_trans (List.length_filter_le _ _) (by simp)
theorem pop_sum (m x y : Nat) (h : m < 4096) (hx : m % 256 = x) (hy : (m : Int) / 256 = (y : Int)) (p : y < popTab.size) (q : x < popTab.size) :
    (((popTab[y]'p).toNat : Int) + ((popTab[x]'q).toNat : Int)) % 256 = ((popc m : Nat) : Int) := by
  have hy' : m / 256 = y := by omega
  have h1 := popTab_at ⟨y, by omega⟩
  have h2 := popTab_at ⟨x, by omega⟩
  have h3 := popc_sum m h
  have h4 := bsum_le ⟨y, by omega⟩
  have h5 := bsum_le ⟨x, by omega⟩
  simp only at h1 h2 h4 h5
  rw [hx, hy'] at h3
  rw [h1, h2, h3]
  omega
end Go.Proofs.YtlpkafhapmkkfaaGreatDoor

/- The Ids of a set of paths: the program. -/
namespace Go.Proofs.YtlpkafhapmkkfaaGreatDoor
open Go.RowKit Go.Shelf
attribute [local go_sem] Oper.semAt_some
set_option linter.unusedVariables false

theorem popc_bits (m : Nat) : popc m = (bitsOf m).length := rfl
/-- 'append(v, ..)' at a step of a region that draws its order, inside a fence. -/
theorem step_append_in {F : Fence} {n : Nat} {P : Program} {w : World} {ops : Array Oper} {o : Oper} {a : Act} {K : Act → World → Prop} {Q : Exit → Act → World → Prop} {G : Prop}
    (hg : o.guard = none) (s x : Operand) (t : TypeId) (hop : o.op = Op.call { callee := Callee.builtin Builtin.append, args := #[s, x], argTypes := #[t, t] })
    (base : Nat) (e : TypeId) (i : TypeInfo) (z : Value) (size bytes : Nat) (h1 : P.underlying t = some (.slice e)) (h2 : P.info? e = some i) (h3 : i.zero = some z) (h4 : i.size = size) (h5 : i.bytes = bytes) (h6 : z.cells.size = size) (h7 : 0 < size)
    (v : Value) (k : Nat) (xs : List Value) (hs : a.eval s = v) (hown : w.ownsRow base e size v k xs) (ad : Addr) (m c : Nat) (news : List Value) (hx : a.eval x = .slice (some ad) m c) (hn : news.length = m * size)
    (hc : ∀ j u, news[j]? = some u → w.cell? (ad.add j) = some u) (h1c : ∀ u ∈ news, u.oneCell' = true) (b1 : k + m ≤ maxLen) (b2 : (k + m) * bytes ≤ 140737488355328) (b3 : base ≤ w.heap.size)
    (hK : ∀ v' w', w'.ownsRow base e size v' (k + m) (xs ++ news) → w.grownBy w' v.ownBlock → (v' = .slice none 0 0 ↔ v = .slice none 0 0 ∧ m = 0) → K (a.put o.dst v') w') :
    if Region.wanted o (yielded ops a.tmps) = true then Oper.wpIn F n P o a w K Q else G := by
  rw [if_pos (by simp [Region.wanted, hg])]
  obtain ⟨v', w', hrun, r1, r2, r3⟩ := run_append_own (P := P) w base t o.type e i z size bytes h1 h2 h3 h4 h5 h6 h7 v k xs hown ad m c news hn hc h1c b1 b2 b3
  unfold Oper.wpIn
  refine ⟨?_, ?_⟩
  · simp [Oper.about, hop, resolve, Target.leads, Sem.run_pure]
  · rw [Oper.semAt_plain F _ _ (by rw [hop]; intro c hc'; cases hc')]
    simp [execOp, hop, resolve, invoke, builtin, hs, hx, hrun, Result.andThen]
    exact hK v' w' r1 r2 r3
theorem info_int' : (Tryz.prog.info? 3).map (fun i => (i.zero, i.size, i.bytes)) = some (some (.int .i64 0), 1, 8) := by kernel_rfl
end Go.Proofs.YtlpkafhapmkkfaaGreatDoor

/- Chapter 6's model: CoverOf. -/
namespace Go.Proofs.YtlpkafhapmkkfaaGreatDoor
open Go.RowKit
set_option linter.unusedVariables false

theorem addS_one (ps : List Pth) (x : Int) : (addS ps [x]).length ≤ 1 + ps.length := by
  have := addS_length ps [x]
  rw [List.length_singleton] at this
  exact this
end Go.Proofs.YtlpkafhapmkkfaaGreatDoor

/- CoverOf: the program; its exact law's contracts. -/
namespace Go.Proofs.YtlpkafhapmkkfaaGreatDoor
open Go.RowKit
set_option linter.unusedVariables false

theorem OwnD.hollow {W : World} {lo g : Nat} (h : W.heap[g]? = some (.cells #[] 58 (0, 0))) (hl : lo ≤ g) : OwnD W lo (.slice (some ⟨g, 0, none⟩) 0 0) [] [] :=
  ⟨⟨rfl, .inr ⟨g, 0, #[], rfl, hl, h, Nat.le_refl _, by decide, rfl, rfl⟩⟩, fun j hj => absurd hj (by simp), ApartL.nil⟩
theorem OwnD.put {w w1 w' : World} {lo : Nat} {v v' u : Value} {us : List Value} {zss : List (List Int)} {zs : List Int} (h : OwnD w lo v us zss) (h2 : Own .i64 3 w lo u zs) (hb : Below w.heap.size w w1)
    (hr' : w'.ownsRow lo 58 1 v' (zss.length + 1) (us ++ [u])) (hg : w1.grownBy w' v.ownBlock) (hap : ApartL (us ++ [u])) : OwnD w' lo v' (us ++ [u]) (zss ++ [zs]) := by
  have hl := h.len
  have hr1 := ownr_below h.row hb
  have kept : ∀ {x : Value} {xs : List Int}, Own .i64 3 w lo x xs → Own .i64 3 w' lo x xs := fun hx => (hx.below hb).grown hg (own_apart (hx.below hb) hr1)
  refine ⟨by rw [List.length_append]; exact hr', fun j hj => ?_, hap⟩
  rw [List.length_append, List.length_singleton] at hj
  by_cases e : j < zss.length
  · obtain ⟨x, h1, h3⟩ := h.each j e
    refine ⟨x, by rw [List.getElem?_append_left (by omega)]; exact h1, ?_⟩
    rw [List.getD_eq_getElem?_getD, List.getElem?_append_left e, ← List.getD_eq_getElem?_getD]
    exact kept h3
  · obtain rfl : j = zss.length := by omega
    refine ⟨u, by rw [List.getElem?_append_right (by omega)]; simp [hl], ?_⟩
    rw [List.getD_eq_getElem?_getD, List.getElem?_append_right (by omega)]
    simpa using kept h2
theorem row_not {w : World} {lo E s n b : Nat} {v : Value} {xs : List Value} {cs : Array Value} {T : TypeId} (h : w.ownsRow lo E s v n xs) (hb : w.heap[b]? = some (.cells cs T (0, 0))) (hT : T ≠ E) : v.ownBlock ≠ some b := by
  rcases h.2 with ⟨rfl, _⟩ | ⟨g, cap, cur, rfl, _, hg, _⟩
  · simp [Value.ownBlock]
  · intro e
    have e1 : g = b := Option.some.inj e
    subst e1
    rw [hb] at hg
    injection hg with hg
    injection hg with _ ht
    exact hT ht
theorem cov_len (ps : List Pth) : ∀ k, (covI ps k).1.length ≤ k
  | 0 => Nat.le_refl _
  | k + 1 => by
    have ih := cov_len ps k
    unfold covI
    split
    · omega
    · show ((covI ps k).1 ++ [_]).length ≤ _
      rw [List.length_append, List.length_singleton]
      omega
theorem cov_yes {ps : List Pth} {k q : Nat} {L : List Nat} (h : covI ps k = (L, q)) (hb : q.testBit k = true) : covI ps (k + 1) = (L, q) := by
  unfold covI
  rw [h]
  exact if_pos hb
theorem cov_no {ps : List Pth} {k q : Nat} {L : List Nat} (h : covI ps k = (L, q)) (hb : q.testBit k = false) : covI ps (k + 1) = (L ++ [fillTo (rowSt ps ps.length 0) (2 ^ k) ps.length], q ||| fillTo (rowSt ps ps.length 0) (2 ^ k) ps.length) := by
  unfold covI
  rw [h]
  exact if_neg (by rw [hb]; exact Bool.false_ne_true)
theorem and_bit (q k : Nat) : q &&& 2 ^ k = 0 ↔ q.testBit k = false := by
  rw [and_zero]
  constructor
  · intro h
    rw [Bool.eq_false_iff]
    intro hb
    exact h k ⟨hb, by rw [Nat.testBit_two_pow]; simp⟩
  · rintro h i ⟨h1, h2⟩
    rw [Nat.testBit_two_pow, decide_eq_true_eq] at h2
    subst h2
    rw [h] at h1
    cases h1
theorem cover_off {ps : List Pth} (h : arePs ps = false) : coverP ps = [] := by unfold coverP; rw [h]; rfl
theorem cover_on {ps : List Pth} (h : arePs ps = true) : coverP ps = (covI ps ps.length).1.map (idsM ps) := by
  unfold coverP
  rw [h, if_pos rfl]
  exact (cov_eq h _ (Nat.le_refl _)).1
theorem cover_small (ps : List Pth) : SmallSS (coverP ps) := by
  cases h : arePs ps
  · rw [cover_off h]; exact ⟨by simp, fun j hj => absurd hj (by simp)⟩
  · rw [cover_on h]
    have h12 := arePs_len12 h
    have hl := cov_len ps ps.length
    refine ⟨by rw [List.length_map]; omega, fun j hj => ?_⟩
    rw [List.length_map] at hj
    rw [List.getD_eq_getElem?_getD, List.getElem?_map, List.getElem?_eq_getElem hj]
    show ((idxs _).map _).length ≤ _
    rw [List.length_map]
    have := idxs_len ((covI ps ps.length).1[j])
    omega
end Go.Proofs.YtlpkafhapmkkfaaGreatDoor

/- Chapter 31: PlanHistory: the program, put together. -/
namespace Go.Proofs.YtlpkafhapmkkfaaGreatDoor
open Go.RowKit
set_option linter.unusedVariables false
set_option linter.unusedSimpArgs false

theorem cell1H {w : World} {g : Nat} {x0 : Value} {E : TypeId} {fr : Nat × Nat} (h : w.heap[g]? = some (.cells #[x0] E fr)) : w.cell? ⟨g, 0, none⟩ = some x0 := (cell_of_row w g 0 _ _ _ h).trans rfl
set_option maxHeartbeats 2000000 in
set_option maxRecDepth 100000 in
theorem impl_hist1 (g1 g2 i f : Nat) (RA : Option Addr) (n rc lo : Nat) (us : List Value) (rs : List (List Int)) (w : World) (h1 : w.cell? ⟨g1, 0, none⟩ = some (.slice RA n rc)) (hg1 : g1 < w.heap.size) (h2 : w.cell? ⟨g2, 0, none⟩ = some (.int .i64 f)) (hg2 : g2 < w.heap.size) (hf : f ≤ 100000) (hi : i ≤ 600) (hn : n ≤ 1048576) (hrl : rs.length = n)
    (hr : w.ownsRow lo 107 1 (.slice RA n rc) n us) (hu : ∀ j, j < n → ∃ u, us[j]? = some u ∧ Own .i64 3 w lo u (rs.getD j [])) (hp : ∀ j, j < n → 0 < (rs.getD j []).length ∧ (rs.getD j []).length ≤ 1000) :
    Calls Tryz.prog 72 #[.int .i64 (i : Nat), .pointer (some ⟨g1, 0, none⟩), .pointer (some ⟨g2, 0, none⟩)] w fun e w' => ∃ v, e = .returned v ∧ Own .i64 3 w' w.heap.size v (atH rs (f + i)) ∧ Below w.heap.size w w' := by
  obtain ⟨wA, hwA⟩ : ∃ wA, wA = w.alloc (.cells #[.int .i64 i] 3) := ⟨_, rfl⟩
  obtain ⟨hk, hsz, hB⟩ := one_block hwA
  have hcc := impl_listIntH (.pointer (some ⟨g1, 0, none⟩)) (.pointer (some ⟨g2, 0, none⟩)) (.pointer (some ⟨w.heap.size, 0, none⟩)) (atH rs (f + i)) n wA (by rw [atH_len]; exact hrl) hn (fun k y hk2 hy => by
    have hby := hB.trans (hy.mono hB.size)
    have hrn : ∃ ad, RA = some ad := by
      rcases ownr_shape hr with ⟨e, he⟩ | ⟨g, cap, e, _⟩
      · omega
      · injection e with e; exact ⟨_, e⟩
    obtain ⟨ad, rfl⟩ := hrn
    obtain ⟨u, u1, u2⟩ := hu k hk2
    have e : (atH rs (f + i)).getD k 0 = (rs.getD k []).getD ((f + i) % (rs.getD k []).length) 0 := by rw [List.getD_eq_getElem?_getD, atH_get (by omega)]; rfl
    rw [e]
    exact impl_hist2 g1 g2 w.heap.size k f i ad n rc lo us rs y ((hby.cell (p := ⟨g1, 0, none⟩) hg1).trans h1) ((hby.cell (p := ⟨g2, 0, none⟩) hg2).trans h2) ((hy.cell (p := ⟨w.heap.size, 0, none⟩) (show w.heap.size < wA.heap.size by omega)).trans (cell1H hk)) hk2 hf hi hn (ownr_below hr hby) ⟨u, u1, u2.below hby⟩ (hp k hk2).1 (hp k hk2).2)
  have HCC := Lib.hid hcc
  have HB := Lib.hid hB
  have c1 := h1
  have lt1 : g1 < w.heap.size := hg1
  clear hk hsz hB hcc hr hu hp hrl h2
  go_enter Tryz.func72, Tryz.ntmps72
  go_wp2_with fail
  rw [← hwA]
  clear hwA
  refine HCC.out.mono ?_
  rintro e w1 ⟨v, rfl, ho, hb1⟩
  have HO := Lib.hid (ho.mono HB.out.size)
  have HB1 := Lib.hid (HB.out.trans (hb1.mono HB.out.size))
  clear ho hb1 c1
  go_wp2
  go_ret
  exact ⟨v, rfl, HO.out, HB1.out⟩
set_option maxHeartbeats 4000000 in
set_option maxRecDepth 100000 in
theorem impl_PlanHistory {w : World} {A : Option Addr} {n c B : Nat} {ps : List Pth} {A2 : Option Addr} {n2 c2 B2 : Nat} {p : List Prt} (I : PlnIn w A n c B ps A2 n2 c2 B2 p) (hn : n ≤ 1048576) (fr sc : Int) :
    Calls Tryz.prog 31 #[.slice A n c, .slice A2 n2 c2, .int .i64 fr, .int .i64 sc] w fun e w' => ∃ v us, e = .returned v ∧ OwnD w' w.heap.size v us (histP ps p fr sc) ∧ Below w.heap.size w w' := by
  obtain ⟨wA, hwA⟩ : ∃ wA, wA = w.alloc (.cells #[.int .i64 fr] 3) := ⟨_, rfl⟩
  obtain ⟨hk, hsz, hbA⟩ := one_block hwA
  have IA := I.below hbA
  have ltA : w.heap.size < wA.heap.size := by omega
  have HK := Lib.hid hk
  have HB0 := Lib.hid hbA
  have HI := Lib.hid (fun W (hW : Below w.heap.size w W) => I.below hW)
  have HLP := Lib.hid I.lenp
  have HLN := Lib.hid I.len
  clear hk hsz hbA I
  have HEMP : Hid (∀ x : World, w.heap.size ≤ x.heap.size → OwnD (x.alloc (.cells #[] 58)) w.heap.size (.slice (some ⟨x.heap.size, 0, none⟩) 0 0) [] []) := Lib.hid (fun x hx => OwnD.hollow (heap_alloc_new x _) hx)
  cases hp : isPlan ps p
  · have H := impl_timePlan_off IA hp
    unfold t16 at H
    have HC := Lib.hid H
    have HR := Lib.hid (histP_no (ps := ps) (p := p) (f := fr) (s := sc) (by rw [hp]; rfl))
    clear H hp IA
    go_enter Tryz.func31, Tryz.ntmps31
    go_wp2_with fail
    rw [← hwA]
    clear hwA
    refine HC.out.mono ?_
    rintro e w1 ⟨rfl, hb⟩
    obtain ⟨w2, hw2⟩ : ∃ w2, w2 = w1.alloc (.cells #[.slice none 0 0, .int .u16 0, .int .u16 0, .int .u16 0, .int .u16 0, .int .u16 0, .int .u16 0, .int .u16 0, .int .u16 0, .int .u16 0, .int .u16 0, .int .u16 0, .int .u16 0, .slice none 0 0, .slice none 0 0, .int .i64 0] 81) := ⟨_, rfl⟩
    have HB2 : Hid (Below w.heap.size w w2) := Lib.hid (by rw [hw2]; have h := HB0.out.trans (hb.mono HB0.out.size); exact h.alloc h.size _)
    have HZ2 : Hid (w2.heap.size = w1.heap.size + 1) := Lib.hid (by rw [hw2]; simp)
    clear hb
    go_wp2
    rw [← hw2]
    clear hw2
    go_ret
    exact ⟨.slice (some ⟨w1.heap.size + 1, 0, none⟩) 0 0, [], rfl, by rw [HR.out]; have h := HEMP.out w2 HB2.out.size; rw [HZ2.out] at h; exact h, HB2.out.alloc HB2.out.size _⟩
  · have H := impl_timePlan_on IA hp
    unfold t16 at H
    have HC := Lib.hid H
    have HP := Lib.hid hp
    clear H hp IA
    have HSTART : Hid (∀ (w1 w2 : World) (o : Obj), w2 = w1.alloc o → Below wA.heap.size wA w1 → Below w.heap.size w w2 ∧ w2.heap[w.heap.size]? = some (.cells #[.int .i64 fr] 3 (0, 0))) := Lib.hid (fun w1 w2 o e hb => by
      have hb12 : Below w1.heap.size w1 w2 := by rw [e]; exact (Below.refl _ _).alloc (Nat.le_refl _) _
      exact ⟨HB0.out.trans ((hb.trans (hb12.mono hb.size)).mono HB0.out.size), (hb12.block _ (Nat.lt_of_lt_of_le ltA hb.size)).trans ((hb.block _ ltA).trans HK.out)⟩)
    cases h1 : inB fr 0 100000
    · have HR := Lib.hid (histP_no (ps := ps) (p := p) (f := fr) (s := sc) (by rw [h1]; simp))
      have H1 := Lib.hid h1
      clear h1
      go_enter Tryz.func31, Tryz.ntmps31
      go_wp2_with fail
      rw [← hwA]
      clear hwA
      refine HC.out.mono ?_
      rintro e w1 ⟨a1, q1, a2, q2, rfl, -, hb⟩
      obtain ⟨w2, hw2⟩ : ∃ w2, w2 = w1.alloc (.cells (t16 A n c (rowSt ps n 0) (.slice a1 n2 q1) (.slice a2 n2 q2) (sumTo ps p n2)) 81) := ⟨_, rfl⟩
      have HS := Lib.hid (HSTART.out w1 w2 _ hw2 hb)
      have k0 := cell1H ((hb.block _ ltA).trans HK.out)
      have l1 : w.heap.size < w1.heap.size := Nat.lt_of_lt_of_le ltA hb.size
      unfold t16 at hw2
      clear hb
      go_wp2_with fail
      rw [← hw2]
      clear hw2 k0 l1
      refine (impl_InRange _ _ _ _).mono ?_
      rintro e w3 ⟨rfl, rfl⟩
      rw [H1.out]
      go_wp2
      go_ret
      exact ⟨_, _, rfl, by rw [HR.out]; exact HEMP.out w2 HS.out.1.size, HS.out.1.alloc HS.out.1.size _⟩
    have H1 := Lib.hid h1
    cases h2 : inB sc 0 600
    · have HR := Lib.hid (histP_no (ps := ps) (p := p) (f := fr) (s := sc) (by rw [h2]; simp))
      have H2 := Lib.hid h2
      clear h1 h2
      go_enter Tryz.func31, Tryz.ntmps31
      go_wp2_with fail
      rw [← hwA]
      clear hwA
      refine HC.out.mono ?_
      rintro e w1 ⟨a1, q1, a2, q2, rfl, -, hb⟩
      obtain ⟨w2, hw2⟩ : ∃ w2, w2 = w1.alloc (.cells (t16 A n c (rowSt ps n 0) (.slice a1 n2 q1) (.slice a2 n2 q2) (sumTo ps p n2)) 81) := ⟨_, rfl⟩
      have HS := Lib.hid (HSTART.out w1 w2 _ hw2 hb)
      have k0 := cell1H ((hb.block _ ltA).trans HK.out)
      have l1 : w.heap.size < w1.heap.size := Nat.lt_of_lt_of_le ltA hb.size
      unfold t16 at hw2
      clear hb
      go_wp2_with fail
      rw [← hw2]
      clear hw2 k0 l1
      refine (impl_InRange _ _ _ _).mono ?_
      rintro e w3 ⟨rfl, rfl⟩
      rw [H1.out]
      go_wp2_with fail
      refine (impl_InRange _ _ _ _).mono ?_
      rintro e w3 ⟨rfl, rfl⟩
      rw [H2.out]
      go_wp2
      go_ret
      exact ⟨_, _, rfl, by rw [HR.out]; exact HEMP.out w2 HS.out.1.size, HS.out.1.alloc HS.out.1.size _⟩
    have H2 := Lib.hid h2
    have b1 := inB_t h1
    have b2 := inB_t h2
    obtain ⟨f, rfl⟩ : ∃ f : Nat, fr = f := ⟨fr.toNat, by omega⟩
    obtain ⟨s, rfl⟩ : ∃ s : Nat, sc = s := ⟨sc.toNat, by omega⟩
    have bf : f ≤ 100000 := by omega
    have bs : s ≤ 600 := by omega
    have HR : Hid (histP ps p f s = (List.range s).map (fun i => atH (rowsH ps p) (f + i))) := Lib.hid (histP_yes HP.out h1 h2)
    have HRS : Hid (∀ k, k < n → (rowsH ps p).getD k [] = rowTo ps p (idAt ps k) n2 ∧ 0 < ((rowsH ps p).getD k []).length ∧ ((rowsH ps p).getD k []).length ≤ 1000) := Lib.hid (fun k hk => by
      have hl := HLP.out
      obtain ⟨x, hx⟩ : ∃ x, ps[k]? = some x := ⟨ps[k]'(by omega), List.getElem?_eq_getElem (by omega)⟩
      obtain ⟨i, hi⟩ := findK_hasH hx
      have e : idAt ps k = x.id := by unfold idAt; rw [pAt_some hx]
      rw [rowsH_get hx]
      refine ⟨by rw [rowP_on HP.out hi, e, HLN.out], (rowP_pos (by rw [HP.out, hi]; rfl)).2, rowP_len _⟩)
    clear h1 h2 b1 b2
    go_enter Tryz.func31, Tryz.ntmps31
    go_wp2_with fail
    rw [← hwA]
    clear hwA
    refine HC.out.mono ?_
    rintro e w1 ⟨a1, q1, a2, q2, rfl, hphs, hb⟩
    obtain ⟨w2, hw2⟩ : ∃ w2, w2 = w1.alloc (.cells (t16 A n c (rowSt ps n 0) (.slice a1 n2 q1) (.slice a2 n2 q2) (sumTo ps p n2)) 81) := ⟨_, rfl⟩
    have HS := Lib.hid (HSTART.out w1 w2 _ hw2 hb)
    have hb12 : Below w1.heap.size w1 w2 := by rw [hw2]; exact (Below.refl _ _).alloc (Nat.le_refl _) _
    have hlr := impl_listRow (.agg (t16 A n c (rowSt ps n 0) (.slice a1 n2 q1) (.slice a2 n2 q2) (sumTo ps p n2))) (rowsH ps p) n w2 (by rw [rowsH_len]; exact HLP.out) hn (fun k y hk hy => by
      rw [(HRS.out k hk).1]
      refine (impl_rowOf (HI.out y (HS.out.1.trans (hy.mono HS.out.1.size))) HP.out ((hphs.below hb12).below hy) k hk).mono ?_
      rintro e w' ⟨v, he, ho, hb⟩
      exact ⟨v, he, ho, hb⟩)
    have k0 := cell1H ((hb.block _ ltA).trans HK.out)
    have l1 : w.heap.size < w1.heap.size := Nat.lt_of_lt_of_le ltA hb.size
    unfold t16 at hw2 hlr
    have HLR := Lib.hid hlr
    clear hb hlr hphs hb12
    go_wp2_with fail
    refine (impl_InRange _ _ _ _).mono ?_
    rintro e w3 ⟨rfl, rfl⟩
    rw [H1.out]
    go_wp2_with fail
    refine (impl_InRange _ _ _ _).mono ?_
    rintro e w3 ⟨rfl, rfl⟩
    rw [H2.out]
    go_wp2_with fail
    rw [← hw2]
    clear hw2 k0 l1
    refine HLR.out.mono ?_
    rintro e w3 ⟨v, us, rfl, hrow, heach, hb3⟩
    obtain ⟨RA, rc, rfl⟩ := ownr_sliced hrow
    obtain ⟨w4, hw4⟩ : ∃ w4, w4 = w3.alloc (.cells #[.slice RA n rc] 105) := ⟨_, rfl⟩
    obtain ⟨hk4, hz4, hb34⟩ := one_block hw4
    have hb24 := hb3.trans (hb34.mono hb3.size)
    have HB4 := Lib.hid (HS.out.1.trans (hb24.mono HS.out.1.size))
    have hF4 := (hb24.block _ (lt_of_block HS.out.2)).trans HS.out.2
    have hcc := impl_listSSH (.pointer (some ⟨w3.heap.size, 0, none⟩)) (.pointer (some ⟨w.heap.size, 0, none⟩)) ((List.range s).map (fun i => atH (rowsH ps p) (f + i))) s w4 (by simp) (by omega) (fun k y hk hy => by
      have e : ((List.range s).map (fun i => atH (rowsH ps p) (f + i))).getD k [] = atH (rowsH ps p) (f + k) := by
        rw [List.getD_eq_getElem?_getD, List.getElem?_map, List.getElem?_range hk]
        rfl
      rw [e]
      exact impl_hist1 w3.heap.size w.heap.size k f RA n rc w2.heap.size us (rowsH ps p) y ((hy.cell (p := ⟨w3.heap.size, 0, none⟩) (show w3.heap.size < w4.heap.size by omega)).trans (cell1H hk4)) (by have := hy.size; omega) ((hy.cell (p := ⟨w.heap.size, 0, none⟩) (lt_of_block hF4)).trans (cell1H hF4)) (by have := lt_of_block hF4; have := hy.size; omega) bf (by omega) hn (by rw [rowsH_len]; exact HLP.out) (ownr_below hrow (hb34.trans (hy.mono hb34.size))) (fun j hj => by obtain ⟨u, u1, u2⟩ := heach j hj; exact ⟨u, u1, u2.below (hb34.trans (hy.mono hb34.size))⟩) (fun j hj => (HRS.out j hj).2))
    have HCC := Lib.hid hcc
    clear hrow heach hb3 hk4 hz4 hb34 hb24 hF4 hcc
    go_wp2_with fail
    rw [← hw4]
    clear hw4
    refine HCC.out.mono ?_
    rintro e w5 ⟨v, us5, rfl, hrow, heach, hap, hb5⟩
    have HO : Hid (OwnD w5 w.heap.size v us5 ((List.range s).map (fun i => atH (rowsH ps p) (f + i)))) := Lib.hid (OwnD.mono ⟨by rw [List.length_map, List.length_range]; exact hrow, fun j hj => heach j (by simpa using hj), hap⟩ HB4.out.size)
    have HB5 := Lib.hid (HB4.out.trans (hb5.mono HB4.out.size))
    clear hrow heach hap hb5
    go_wp2
    go_ret
    exact ⟨v, us5, rfl, by rw [HR.out]; exact HO.out, HB5.out⟩
end Go.Proofs.YtlpkafhapmkkfaaGreatDoor

/- Chapter 31: PlanHistory of the model (written by genhsm.py). -/
namespace Go.Proofs.YtlpkafhapmkkfaaGreatDoor
open Go.RowKit
set_option linter.unusedVariables false
set_option linter.unusedSimpArgs false

theorem ownr_keepH {w w' : World} {lo s n : Nat} {E : TypeId} {v : Value} {vs : List Value} (h : w.ownsRow lo E s v n vs) (hk : ∀ i, lo ≤ i → i < w.heap.size → w'.heap[i]? = w.heap[i]?) : w'.ownsRow lo E s v n vs := by
  refine ⟨h.1, ?_⟩
  rcases h.2 with h2 | ⟨g, cap, cur, hv, hl, hg, r⟩
  · exact .inl h2
  · exact .inr ⟨g, cap, cur, hv, hl, (hk g hl (lt_of_block hg)).trans hg, r⟩
theorem ownSS_keep {w w' : World} {lo : Nat} {v : Value} {zss : List (List Int)} (h : OwnSS w lo v zss) (hk : ∀ i, lo ≤ i → i < w.heap.size → w'.heap[i]? = w.heap[i]?) : OwnSS w' lo v zss := by
  obtain ⟨vs, hr, hi⟩ := h
  exact ⟨vs, ownr_keepH hr hk, fun j hj => by obtain ⟨u, h1, h2⟩ := hi j hj; exact ⟨u, h1, ownr_keepH h2 hk⟩⟩
theorem take_snocH {zss : List (List Int)} {k : Nat} (h : k < zss.length) : zss.take (k + 1) = zss.take k ++ [zss.getD k []] := by
  rw [List.take_add_one, List.getElem?_eq_getElem h]
  simp [List.getD, List.getElem?_eq_getElem h]
theorem take_snocI {zs : List Int} {k : Nat} {z : Int} (h : zs[k]? = some z) : zs.take (k + 1) = zs.take k ++ [z] := by
  rw [List.take_add_one, h]; rfl
theorem take_lenH {α : Type} {l : List α} {k : Nat} (h : k ≤ l.length) : (l.take k).length = k := by rw [List.length_take]; omega

set_option maxHeartbeats 8000000 in
set_option maxRecDepth 100000 in
theorem spec_PlanHistory (A : Option Addr) (n c B : Nat) (ps : List Pth) (A2 : Option Addr) (n2 c2 B2 : Nat) (p : List Prt) (fr sc : Int) (w : World) (h : PthsAt w B A n ps) (hB : B ≤ w.heap.size) (hn : n ≤ 1048576) (h2 : PrtsAt w B2 A2 n2 p) (hB2 : B2 ≤ w.heap.size) (hn2 : n2 ≤ 1048576) (hm : ∀ j, j < n2 → (prAt p j).stage.length ≤ 1048576) :
    Calls Tryz.prog 30 #[.slice A n c, .slice A2 n2 c2, .int .i64 fr, .int .i64 sc] w fun e w' => ∃ v, e = .returned v ∧ OwnSS w' w.heap.size v (histP ps p fr sc) ∧ Below w.heap.size w w' := by
  have hl := h.1
  have hmx : Tryz.prog.follows .mixedOrders = true := by kernel_rfl
  have HIP := Lib.hid (fun x (hx : Below w.heap.size w x) => spec_IsPlan A n c B ps A2 n2 c2 B2 p x (h.below (hx.mono hB)) (Nat.le_trans hB hx.size) (by omega) (h2.below hB2 hx) (Nat.le_trans hB2 hx.size) hn2 hm)
  have HRO := Lib.hid (fun (id : Int) x (hx : Below w.heap.size w x) => spec_l9Row A n c B ps A2 n2 c2 B2 p id x (h.below (hx.mono hB)) (Nat.le_trans hB hx.size) (by omega) (h2.below hB2 hx) (Nat.le_trans hB2 hx.size) hn2 hm)
  have HPT := Lib.hid (fun x (hx : Below w.heap.size w x) => h.below (hx.mono hB))
  have HL := Lib.hid hl
  obtain ⟨wA, hwA⟩ : ∃ wA, wA = w.alloc (.cells #[] 58) := ⟨_, rfl⟩
  have hbA : Below w.heap.size w wA := by rw [hwA]; exact (Below.refl _ _).alloc (Nat.le_refl _) _
  have HOA : Hid (OwnSS wA w.heap.size (.slice (some ⟨w.heap.size, 0, none⟩) 0 0) []) := Lib.hid (by rw [hwA]; exact OwnSS.hollow (heap_alloc_new w _) (Nat.le_refl _))
  have ltA : w.heap.size < wA.heap.size := by rw [hwA]; simp
  have HB0 := Lib.hid hbA
  clear h h2 hm hl hbA
  cases hp : isPlan ps p
  · have HR := Lib.hid (histP_no (ps := ps) (p := p) (f := fr) (s := sc) (by rw [hp]; rfl))
    have HP := Lib.hid hp
    clear hp
    go_enter Tryz.func30, Tryz.ntmps30
    go_wp2_with fail
    rw [← hwA]
    clear hwA
    refine (HIP.out wA HB0.out).mono ?_
    rw [HP.out]
    rintro e w1 ⟨rfl, hb1⟩
    have HO1 := Lib.hid (HOA.out.below hb1)
    have HB1 := Lib.hid (HB0.out.trans (hb1.mono HB0.out.size))
    clear hb1
    go_wp2
    go_ret
    exact ⟨_, rfl, by rw [HR.out]; exact HO1.out, HB1.out⟩
  have HP := Lib.hid hp
  cases h1 : inB fr 0 100000
  · have HR := Lib.hid (histP_no (ps := ps) (p := p) (f := fr) (s := sc) (by rw [h1]; simp))
    have H1 := Lib.hid h1
    clear h1 hp
    go_enter Tryz.func30, Tryz.ntmps30
    go_wp2_with fail
    rw [← hwA]
    clear hwA
    refine (HIP.out wA HB0.out).mono ?_
    rw [HP.out]
    rintro e w1 ⟨rfl, hb1⟩
    have HO1 := Lib.hid (HOA.out.below hb1)
    have HB1 := Lib.hid (HB0.out.trans (hb1.mono HB0.out.size))
    clear hb1
    go_wp2_with fail
    refine (spec_l1In _ _ _ _).mono ?_
    rintro e w2 ⟨rfl, rfl⟩
    rw [H1.out]
    go_wp2
    go_ret
    exact ⟨_, rfl, by rw [HR.out]; exact HO1.out, HB1.out⟩
  have H1 := Lib.hid h1
  cases h2 : inB sc 0 600
  · have HR := Lib.hid (histP_no (ps := ps) (p := p) (f := fr) (s := sc) (by rw [h2]; simp))
    have H2 := Lib.hid h2
    clear h1 h2 hp
    go_enter Tryz.func30, Tryz.ntmps30
    go_wp2_with fail
    rw [← hwA]
    clear hwA
    refine (HIP.out wA HB0.out).mono ?_
    rw [HP.out]
    rintro e w1 ⟨rfl, hb1⟩
    have HO1 := Lib.hid (HOA.out.below hb1)
    have HB1 := Lib.hid (HB0.out.trans (hb1.mono HB0.out.size))
    clear hb1
    go_wp2_with fail
    refine (spec_l1In _ _ _ _).mono ?_
    rintro e w2 ⟨rfl, rfl⟩
    rw [H1.out]
    go_wp2_with fail
    refine (spec_l1In _ _ _ _).mono ?_
    rintro e w2 ⟨rfl, rfl⟩
    rw [H2.out]
    go_wp2
    go_ret
    exact ⟨_, rfl, by rw [HR.out]; exact HO1.out, HB1.out⟩
  have H2 := Lib.hid h2
  have b1 := inB_t h1
  have b2 := inB_t h2
  obtain ⟨f, rfl⟩ : ∃ f : Nat, fr = f := ⟨fr.toNat, by omega⟩
  obtain ⟨s, rfl⟩ : ∃ s : Nat, sc = s := ⟨sc.toNat, by omega⟩
  have bf : f ≤ 100000 := by omega
  have bs : s ≤ 600 := by omega
  have HR : Hid (histP ps p f s = (List.range s).map (fun i => atH (rowsH ps p) (f + i))) := Lib.hid (histP_yes HP.out h1 h2)
  have HRS : Hid (∀ k, k < n → 0 < ((rowsH ps p).getD k []).length ∧ ((rowsH ps p).getD k []).length ≤ 1000) := Lib.hid (fun k hk => by
    have hl := HL.out
    obtain ⟨x, hx⟩ : ∃ x, ps[k]? = some x := ⟨ps[k]'(by omega), List.getElem?_eq_getElem (by omega)⟩
    obtain ⟨i, hi⟩ := findK_hasH hx
    rw [rowsH_get hx]
    exact ⟨(rowP_pos (by rw [HP.out, hi]; rfl)).2, rowP_len _⟩)
  have HRG : Hid (∀ k q, ps[k]? = some q → (rowsH ps p).getD k [] = rowP ps p q.id) := Lib.hid (fun k q hq => rowsH_get hq)
  have HRL : Hid ((rowsH ps p).length = n) := Lib.hid (by rw [rowsH_len]; exact HL.out)
  clear h1 h2 b1 b2 hp
  obtain ⟨hs, hhs⟩ : ∃ hs, hs = (List.range s).map (fun i => atH (rowsH ps p) (f + i)) := ⟨_, rfl⟩
  have HHL : Hid (hs.length = s) := Lib.hid (by rw [hhs]; simp)
  have HHG : Hid (∀ i, i < s → hs.getD i [] = atH (rowsH ps p) (f + i)) := Lib.hid (fun i hi => by rw [hhs, List.getD_eq_getElem?_getD, List.getElem?_map, List.getElem?_range hi]; rfl)
  rw [← hhs] at HR
  clear hhs
  generalize rowsH ps p = rs at *
  go_enter Tryz.func30, Tryz.ntmps30
  go_wp2_with fail
  rw [← hwA]
  clear hwA
  refine (HIP.out wA HB0.out).mono ?_
  rw [HP.out]
  rintro e w1 ⟨rfl, hb1⟩
  have HO1 := Lib.hid (HOA.out.below hb1)
  have HB1 := Lib.hid (HB0.out.trans (hb1.mono HB0.out.size))
  have l1 : w.heap.size < w1.heap.size := Nat.lt_of_lt_of_le ltA hb1.size
  clear hb1 ltA
  go_wp2_with fail
  refine (spec_l1In _ _ _ _).mono ?_
  rintro e w2 ⟨rfl, rfl⟩
  rw [H1.out]
  go_wp2_with fail
  refine (spec_l1In _ _ _ _).mono ?_
  rintro e w2 ⟨rfl, rfl⟩
  rw [H2.out]
  have hst : OwnSS (w1.alloc (.cells #[] 58)) w1.heap.size (.slice (some ⟨w1.heap.size, 0, none⟩) 0 0) [] := OwnSS.hollow (heap_alloc_new w1 _) (Nat.le_refl _)
  have hsb : Below w1.heap.size w1 (w1.alloc (.cells #[] 58)) := (Below.refl _ _).alloc (Nat.le_refl _) _
  go_wp2
  go_loopw [10, 11] (fun v i wr => ∃ k : Nat, k ≤ n ∧ i = .int .i64 k ∧ OwnSS wr w1.heap.size v (rs.take k) ∧ Below w1.heap.size w1 wr) (fun _ i _ => n - (intOf i).toNat)
  case atStart => exact ⟨0, Nat.zero_le _, rfl, hst, hsb⟩
  case round =>
    clear hst hsb
    obtain ⟨k, hk, rfl, hown, hbl⟩ := hrel
    have HOW := Lib.hid hown
    have HBL := Lib.hid hbl
    clear hown hbl
    by_cases hlt : k < n
    · have hbw := HB1.out.trans (HBL.out.mono HB1.out.size)
      obtain ⟨ad, q, rfl, hab, hq, hc⟩ := (HPT.out wr hbw).at hlt
      obtain ⟨c0, c1, c2, c3⟩ := hc
      have HBW := Lib.hid hbw
      have HGQ := Lib.hid (HRG.out k q hq)
      have HTS := Lib.hid (take_snocH (zss := rs) (k := k) (by rw [HRL.out]; exact hlt))
      have HTL := Lib.hid (take_lenH (l := rs) (k := k) (by rw [HRL.out]; exact hk))
      have i1 : (0 : Int) ≤ (k : Int) := by omega
      have i2 : (k : Int) < (n : Int) := by omega
      have hs1 := HBL.out.size
      clear hq hbw c1 c2 c3
      go_wp2_with fail
      refine (HRO.out q.id wr HBW.out).mono ?_
      rintro e w3 ⟨v3, rfl, ho3, hb3⟩
      obtain ⟨A3, c3, rfl⟩ := ho3.sliced
      obtain ⟨vs, hr, hi⟩ := HOW.out.below hb3
      have HO3 := Lib.hid (ho3.mono (lo' := w1.heap.size) hs1)
      have HVS := Lib.hid hr
      have HVI := Lib.hid hi
      have HB3 := Lib.hid (HBL.out.trans (hb3.mono hs1))
      have hs3 := HB3.out.size
      have HVR : Hid (w3.ownsRow w1.heap.size 58 1 u10 k vs) := Lib.hid (by have := hr; rw [HTL.out] at this; exact this)
      clear ho3 hb3 hr hi c0
      generalize (rowP ps p q.id).length = ln at *
      go_wp2_with (at_builtin; refine wpList_appR1 rfl _ _ 50 rfl 58 (.slice none 0 0) 1 24 Tryz.underlying50 info_ints rfl (by decide) (by decide) w1.heap.size u10 k _ rfl HVR.out (by omega) [.slice A3 ln c3] rfl (by simp [Value.oneCell']) _ _ w3.heap.size hs3 rfl (by simp) ?_; intro v4 w4 hr4 hgrow4 hat4; clear hat4; have HR4 := Lib.hid hr4; have HG4 := Lib.hid hgrow4; clear hr4 hgrow4)
      have HP4 := Lib.hid (ownr_push HVR.out (Nat.le_refl _) (HB3.out.alloc hs3 _) (by simp; omega) HG4.out)
      have HO4 : Hid (OwnSS w4 w1.heap.size v4 (rs.take (k + 1))) := Lib.hid (by
        rw [HTS.out, HGQ.out]
        exact OwnSS.put vs HVS.out HVI.out HO3.out ((Below.refl _ _).alloc (Nat.le_refl _) _) (by rw [HTL.out]; exact HR4.out) HG4.out)
      go_roundw
      case rel => exact ⟨k + 1, by omega, by go_num, HO4.out, HP4.out⟩
      case measure => simp [intOf]; omega
    · obtain rfl : k = n := by omega
      have HRR : Hid (OwnSS wr w1.heap.size u10 rs) := Lib.hid (by have h := HOW.out; rw [List.take_of_length_le (by rw [HRL.out]; exact Nat.le_refl _)] at h; exact h)
      obtain ⟨RA, rc, hsl⟩ := HRR.out.sliced
      rw [HRL.out] at hsl
      subst hsl
      have HOO := Lib.hid (HO1.out.below HBL.out)
      have HOB : Hid (∀ i, (Value.slice (some ⟨w.heap.size, 0, none⟩) 0 0).ownBlock = some i → i < w1.heap.size ∨ wr.heap.size ≤ i) := Lib.hid (fun i e => by have h : w.heap.size = i := Option.some.inj e; omega)
      have HBE := Lib.hid (HB1.out.trans (HBL.out.mono HB1.out.size))
      obtain ⟨w3, hw3⟩ : ∃ w3, w3 = wr := ⟨_, rfl⟩
      rw [← hw3] at HRR HOB
      have HKP : Hid (∀ i, w1.heap.size ≤ i → i < w3.heap.size → wr.heap[i]? = w3.heap[i]?) := Lib.hid (fun i _ _ => by rw [hw3])
      have hs3 : w3.heap.size ≤ wr.heap.size := by rw [hw3]; exact Nat.le_refl _
      have l3 : w1.heap.size ≤ w3.heap.size := by rw [hw3]; exact HBL.out.size
      clear hw3 HOW HBL
      go_wp2
      go_loopw [9, 12] (fun v i wr => ∃ m : Nat, m ≤ s ∧ i = .int .i64 m ∧ OwnSS wr w.heap.size v (hs.take m) ∧ (∀ i, v.ownBlock = some i → i < w1.heap.size ∨ w3.heap.size ≤ i) ∧ (∀ i, w1.heap.size ≤ i → i < w3.heap.size → wr.heap[i]? = w3.heap[i]?) ∧ w3.heap.size ≤ wr.heap.size ∧ Below w.heap.size w wr) (fun _ i _ => s - (intOf i).toNat)
      case atStart => exact ⟨0, Nat.zero_le _, rfl, HOO.out, HOB.out, HKP.out, hs3, HBE.out⟩
      case round =>
        clear HOO HOB HBE HKP hs3
        obtain ⟨m, hmk, rfl, hown, hob, hkp, hs3, hbl⟩ := hrel
        have HOW := Lib.hid hown
        have HOB := Lib.hid hob
        have HKP := Lib.hid hkp
        have HBL := Lib.hid hbl
        have hsw := hbl.size
        clear hown hob hkp hbl
        by_cases hlm : m < s
        · have j1 : (0 : Int) ≤ (m : Int) := by omega
          have j2 : (m : Int) < (s : Int) := by omega
          have HGM := Lib.hid (HHG.out m hlm)
          have HTS := Lib.hid (take_snocH (zss := hs) (k := m) (by rw [HHL.out]; exact hlm))
          have HTL := Lib.hid (take_lenH (l := hs) (k := m) (by rw [HHL.out]; exact hmk))
          obtain ⟨ax, hax⟩ : ∃ ax, ax = atH rs (f + m) := ⟨_, rfl⟩
          rw [← hax] at HGM
          have HAL : Hid (ax.length = k) := Lib.hid (by rw [hax, atH_len]; exact HRL.out)
          have HAG : Hid (∀ j, j < k → ax[j]? = some ((rs.getD j []).getD ((f + m) % (rs.getD j []).length) 0)) := Lib.hid (fun j hj => by rw [hax]; exact atH_get (by rw [HRL.out]; exact hj))
          clear hax
          obtain ⟨wo, hwo⟩ : ∃ wo, wo = wr := ⟨_, rfl⟩
          have hx0 : Own .i64 3 (wr.alloc (.cells #[] 3)) wr.heap.size (.slice (some ⟨wr.heap.size, 0, none⟩) 0 0) [] := own_bare _ _ wr
          have hxb : Below wr.heap.size wr (wr.alloc (.cells #[] 3)) := (Below.refl _ _).alloc (Nat.le_refl _) _
          go_wp2
          subst hwo
          go_loopw [13, 14] (fun v i wy => ∃ j : Nat, j ≤ k ∧ i = .int .i64 j ∧ Own .i64 3 wy wo.heap.size v (ax.take j) ∧ Below wo.heap.size wo wy) (fun _ i _ => k - (intOf i).toNat)
          case atStart => exact ⟨0, Nat.zero_le _, rfl, hx0, hxb⟩
          case round =>
            clear hx0 hxb
            obtain ⟨j, hjk, rfl, hown, hbl⟩ := hrel
            have HOJ := Lib.hid hown
            have HBJ := Lib.hid hbl
            have hsj := hbl.size
            clear hown hbl
            by_cases hlj : j < k
            · obtain ⟨vs, hr0, hi0⟩ := ownSS_keep HRR.out HKP.out
              have hr := ownr_below hr0 HBJ.out
              obtain ⟨gR, hgR⟩ : ∃ gR, RA = some ⟨gR, 0, none⟩ := by
                rcases ownr_shape hr with ⟨e, he⟩ | ⟨gR, cap, e, _⟩
                · have := HRL.out; omega
                · injection e with e; exact ⟨gR, e⟩
              subst hgR
              have lgRo : gR < wo.heap.size := (ownr_block hr0 gR rfl).2
              obtain ⟨u, hu1, hu20⟩ := hi0 j (by rw [HRL.out]; exact hlj)
              have hu2 := hu20.below HBJ.out
              have hpl := HRS.out j hlj
              have hag := HAG.out j hlj
              generalize rs.getD j [] = zs at hu20 hu2 hpl hag
              rcases hu2.shape with ⟨e, he⟩ | ⟨g', c', e, hg', hgl', _⟩
              · rw [he] at hpl; simp at hpl
              subst e
              have lgo' : g' < wo.heap.size := (hu20.block g' rfl).2
              obtain ⟨q, hq⟩ : ∃ q : Nat, q = f + m := ⟨_, rfl⟩
              obtain ⟨r, hrm⟩ : ∃ r : Nat, r = q % zs.length := ⟨_, rfl⟩
              have hrl : r < zs.length := by rw [hrm]; exact Nat.mod_lt _ hpl.1
              have e1 : IntKind.i64.wrap ((f : Int) + (m : Int)) = (q : Int) := by rw [IntKind.wrap_i64]; omega
              have e5 : ((q : Nat) : Int).tmod (zs.length : Int) = (r : Int) := by rw [hrm, Int.tmod_eq_emod_of_nonneg (by omega), Int.natCast_emod]
              rw [← hq, ← hrm] at hag
              have hrk : wr.ownsRow w1.heap.size 58 1 (.slice (some ⟨gR, 0, none⟩) k rc) k vs := by have := hr; rw [HRL.out] at this; exact this
              have cr := (World.ownsRow.cellAt hrk j (by omega)).trans hu1
              have cz := hu2.cell r hrl
              generalize zs.getD r 0 = z at cz hag
              have HTI := Lib.hid (take_snocI hag)
              obtain ⟨Ax, cx, hsx⟩ := HOJ.out.sliced
              have htl := take_lenH (l := ax) (k := j) (by rw [HAL.out]; exact hjk)
              rw [htl] at hsx
              subst hsx
              have HTLJ := Lib.hid htl
              have HCR := Lib.hid cr
              have HCZ := Lib.hid cz
              have z1 : ¬ zs.length = 0 := by omega
              have z2 : ¬ (zs.length : Int) = 0 := by omega
              have lgR : gR < wr.heap.size := (ownr_block hr gR rfl).2
              have lg' : g' < wr.heap.size := hgl'
              have HKS := Lib.hid (fun x (hx : Below wr.heap.size wr x) => (⟨(hx.cell (p := ⟨gR, j, none⟩) lgR).trans cr, (hx.cell (p := ⟨g', r, none⟩) lg').trans cz⟩ : x.cell? ⟨gR, j, none⟩ = some (.slice (some ⟨g', 0, none⟩) zs.length c') ∧ x.cell? ⟨g', r, none⟩ = some (.int .i64 z)))
              have hpl2 := hpl.2
              clear hr hr0 hi0 hrk hu1 hu2 hu20 hag hq hrm htl cr cz hg' hgl' hpl
              generalize zs.length = ln at *
              have i1 : (0 : Int) ≤ (j : Int) := by omega
              have i2 : (j : Int) < (k : Int) := by omega
              have i3 : (0 : Int) ≤ (r : Int) := by omega
              have i4 : (r : Int) < (ln : Int) := by omega
              have hbd : Below wr.heap.size wr wr.drew := ⟨rfl, rfl, rfl, Nat.le_refl _, fun _ _ => rfl⟩
              go_wp2
              refine wp_region_held_drew (S := fun W' => W'.cell? ⟨gR, j, none⟩ = some (.slice (some ⟨g', 0, none⟩) ln c') ∧ W'.cell? ⟨g', r, none⟩ = some (.int .i64 z)) hmx (HKS.out _ hbd) (fun hH => ?_)
              refine wpAnyH_take (i := 0) (v := .slice Ax j cx) rfl (by kernel_rfl) (by kernel_rfl) (by kernel_rfl) (fun _ _ _ h => h) (Or.inl ⟨by rfl, by intro W' hSw; go_simp⟩) hH ?_
              try simp only [Act.put, List.setIfInBounds_toArray, List.set_cons_zero, List.set_cons_succ]
              refine wpAnyH_take (i := 1) (v := .slice (some ⟨gR, 0, none⟩) k rc) rfl (by kernel_rfl) (by kernel_rfl) (by kernel_rfl) (fun _ _ _ h => h) (Or.inl ⟨by rfl, by intro W' hSw; go_simp⟩) hH ?_
              try simp only [Act.put, List.setIfInBounds_toArray, List.set_cons_zero, List.set_cons_succ]
              refine wpAnyH_take (i := 2) (v := .int .i64 (j : Int)) rfl (by kernel_rfl) (by kernel_rfl) (by kernel_rfl) (fun _ _ _ h => h) (Or.inl ⟨by rfl, by intro W' hSw; go_simp⟩) hH ?_
              try simp only [Act.put, List.setIfInBounds_toArray, List.set_cons_zero, List.set_cons_succ]
              refine wpAnyH_take (i := 3) (v := .pointer (some ⟨gR, j, none⟩)) rfl (by kernel_rfl) (by kernel_rfl) (by kernel_rfl) (fun _ _ _ h => h) (Or.inl ⟨by rfl, by intro W' hSw; go_simp⟩) hH ?_
              try simp only [Act.put, List.setIfInBounds_toArray, List.set_cons_zero, List.set_cons_succ]
              refine wpAnyH_take (i := 4) (v := .slice (some ⟨g', 0, none⟩) ln c') rfl (by kernel_rfl) (by kernel_rfl) (by kernel_rfl) (fun _ _ _ h => h) (Or.inl ⟨by rfl, by intro W' hSw; obtain ⟨qa, qb⟩ := hSw; go_simp⟩) hH ?_
              try simp only [Act.put, List.setIfInBounds_toArray, List.set_cons_zero, List.set_cons_succ]
              refine wpAnyH_take (i := 5) (v := .int .i64 (f : Int)) rfl (by kernel_rfl) (by kernel_rfl) (by kernel_rfl) (fun _ _ _ h => h) (Or.inl ⟨by rfl, by intro W' hSw; go_simp⟩) hH ?_
              try simp only [Act.put, List.setIfInBounds_toArray, List.set_cons_zero, List.set_cons_succ]
              refine wpAnyH_take (i := 6) (v := .int .i64 (m : Int)) rfl (by kernel_rfl) (by kernel_rfl) (by kernel_rfl) (fun _ _ _ h => h) (Or.inl ⟨by rfl, by intro W' hSw; go_simp⟩) hH ?_
              try simp only [Act.put, List.setIfInBounds_toArray, List.set_cons_zero, List.set_cons_succ]
              refine wpAnyH_take (i := 7) (v := .int .i64 (q : Int)) rfl (by kernel_rfl) (by kernel_rfl) (by kernel_rfl) (fun _ _ _ h => h) (Or.inl ⟨by rfl, by intro W' hSw; go_simp⟩) hH ?_
              try simp only [Act.put, List.setIfInBounds_toArray, List.set_cons_zero, List.set_cons_succ]
              refine wpAnyH_take (i := 8) (v := .slice (some ⟨gR, 0, none⟩) k rc) rfl (by kernel_rfl) (by kernel_rfl) (by kernel_rfl) (fun _ _ _ h => h) (Or.inl ⟨by rfl, by intro W' hSw; go_simp⟩) hH ?_
              try simp only [Act.put, List.setIfInBounds_toArray, List.set_cons_zero, List.set_cons_succ]
              refine wpAnyH_take (i := 9) (v := .int .i64 (j : Int)) rfl (by kernel_rfl) (by kernel_rfl) (by kernel_rfl) (fun _ _ _ h => h) (Or.inl ⟨by rfl, by intro W' hSw; go_simp⟩) hH ?_
              try simp only [Act.put, List.setIfInBounds_toArray, List.set_cons_zero, List.set_cons_succ]
              refine wpAnyH_take (i := 10) (v := .pointer (some ⟨gR, j, none⟩)) rfl (by kernel_rfl) (by kernel_rfl) (by kernel_rfl) (fun _ _ _ h => h) (Or.inl ⟨by rfl, by intro W' hSw; go_simp⟩) hH ?_
              try simp only [Act.put, List.setIfInBounds_toArray, List.set_cons_zero, List.set_cons_succ]
              refine wpAnyH_take (i := 11) (v := .slice (some ⟨g', 0, none⟩) ln c') rfl (by kernel_rfl) (by kernel_rfl) (by kernel_rfl) (fun _ _ _ h => h) (Or.inl ⟨by rfl, by intro W' hSw; obtain ⟨qa, qb⟩ := hSw; go_simp⟩) hH ?_
              try simp only [Act.put, List.setIfInBounds_toArray, List.set_cons_zero, List.set_cons_succ]
              refine wpAnyH_take (i := 12) (v := .int .i64 (ln : Int)) rfl (by kernel_rfl) (by kernel_rfl) (by kernel_rfl) (fun _ _ _ h => h) (Or.inl ⟨by rfl, by intro W' hSw; go_simp⟩) hH ?_
              try simp only [Act.put, List.setIfInBounds_toArray, List.set_cons_zero, List.set_cons_succ]
              refine wpAnyH_take (i := 13) (v := .int .i64 (r : Int)) rfl (by kernel_rfl) (by kernel_rfl) (by kernel_rfl) (fun _ _ _ h => h) (Or.inl ⟨by rfl, by intro W' hSw; go_simp⟩) hH ?_
              try simp only [Act.put, List.setIfInBounds_toArray, List.set_cons_zero, List.set_cons_succ]
              refine wpAnyH_take (i := 14) (v := .pointer (some ⟨g', r, none⟩)) rfl (by kernel_rfl) (by kernel_rfl) (by kernel_rfl) (fun _ _ _ h => h) (Or.inl ⟨by rfl, by intro W' hSw; go_simp⟩) hH ?_
              try simp only [Act.put, List.setIfInBounds_toArray, List.set_cons_zero, List.set_cons_succ]
              refine wpAnyH_take (i := 15) (v := .int .i64 z) rfl (by kernel_rfl) (by kernel_rfl) (by kernel_rfl) (fun _ _ _ h => h) (Or.inl ⟨by rfl, by intro W' hSw; obtain ⟨qa, qb⟩ := hSw; go_simp⟩) hH ?_
              try simp only [Act.put, List.setIfInBounds_toArray, List.set_cons_zero, List.set_cons_succ]
              refine wpAnyH_ready (rs := [16]) (by decide +kernel) (by simp) (AllReadyH.cons rfl (fun K' hK => ?_) AllReadyH.nil)
              go_simp
              obtain ⟨w4, hw4⟩ : ∃ w4, w4 = (wr.alloc (.cells #[.int .i64 z] 3)).drew := ⟨_, rfl⟩
              have hb4 : Below wr.heap.size wr w4 := by rw [hw4]; exact ⟨rfl, rfl, rfl, ((Below.refl wr.heap.size wr).alloc (Nat.le_refl _) _).size, ((Below.refl wr.heap.size wr).alloc (Nat.le_refl _) _).block⟩
              have hc4 : w4.cell? ⟨wr.heap.size, 0, none⟩ = some (.int .i64 z) := by
                have hk4 : w4.heap[wr.heap.size]? = some (.cells #[.int .i64 z] 3 (0, 0)) := by rw [hw4]; exact heap_alloc_new wr _
                exact (cell_of_row w4 _ 0 _ _ _ hk4).trans rfl
              have HB4 := Lib.hid hb4
              have HC4 := Lib.hid hc4
              have HO4 := Lib.hid (HOJ.out.below hb4)
              have hs4 := hb4.size
              rw [← hw4]
              clear hw4 hb4 hc4
              refine hK.out _ _ (HKS.out _ HB4.out) (fun _ => ?_)
              clear hK K'
              try simp only [Act.put, List.setIfInBounds_toArray, List.set_cons_zero, List.set_cons_succ]
              refine wpAnyH_ready (rs := [17]) (by decide +kernel) (by simp) (AllReadyH.cons rfl (fun K' hK => ?_) AllReadyH.nil)
              refine step_one rfl _ _ 58 rfl .i64 3 8 Tryz.underlying58 info_i64 wo.heap.size (.slice Ax j cx) (ax.take j) rfl HO4.out (by decide) (by rw [HTLJ.out]; omega) z wr.heap.size (by omega) rfl HC4.out ?_
              intro v5 w5 ho5 hg5
              have hb5 : Below wo.heap.size wo w5 := HO4.out.push (Nat.le_refl _) (HBJ.out.trans (HB4.out.mono hsj)) (by omega) hg5
              have HO5 : Hid (Own .i64 3 w5 wo.heap.size v5 (ax.take (j + 1))) := Lib.hid (by rw [HTI.out]; exact ho5)
              have HB5 := Lib.hid hb5
              have hks5 : w5.cell? ⟨gR, j, none⟩ = some (.slice (some ⟨g', 0, none⟩) ln c') ∧ w5.cell? ⟨g', r, none⟩ = some (.int .i64 z) := by
                have hk4 := HKS.out _ HB4.out
                exact ⟨(World.cell?_of_block (a := ⟨gR, j, none⟩) (hg5.block gR (by omega) (fun e => by have := (HO4.out.block _ e.symm).1; omega))).trans hk4.1, (World.cell?_of_block (a := ⟨g', r, none⟩) (hg5.block g' (by omega) (fun e => by have := (HO4.out.block _ e.symm).1; omega))).trans hk4.2⟩
              clear ho5 hg5 hb5
              refine hK.out _ _ hks5 (fun _ => ?_)
              clear hK K'
              try simp only [Act.put, List.setIfInBounds_toArray, List.set_cons_zero, List.set_cons_succ]
              refine wpAnyH_ready (rs := [18]) (by decide +kernel) (by simp) (AllReadyH.cons rfl (fun K' hK => ?_) AllReadyH.nil)
              go_simp
              refine hK.out _ _ hks5 (fun _ => ?_)
              clear hK K'
              try simp only [Act.put, List.setIfInBounds_toArray, List.set_cons_zero, List.set_cons_succ]
              refine wpAnyH_done (by decide +kernel) ?_ _
              go_wp2
              go_roundw
              case rel => exact ⟨j + 1, by omega, by go_num, HO5.out, HB5.out⟩
              case measure => simp [intOf]; omega
            · obtain rfl : j = k := by omega
              have HXF : Hid (Own .i64 3 wr wo.heap.size u13 ax) := Lib.hid (by have h := HOJ.out; rw [List.take_of_length_le (by rw [HAL.out]; exact Nat.le_refl _)] at h; exact h)
              obtain ⟨Ax, cx, hsx⟩ := HXF.out.sliced
              rw [HAL.out] at hsx
              subst hsx
              obtain ⟨vs, hr, hi⟩ := HOW.out.below HBJ.out
              have HVS := Lib.hid hr
              have HVI := Lib.hid hi
              have HVR : Hid (wr.ownsRow w.heap.size 58 1 u9 m vs) := Lib.hid (by have := hr; rw [HTL.out] at this; exact this)
              have HBY := Lib.hid (HBL.out.trans (HBJ.out.mono hsw))
              have hsy := HBY.out.size
              clear hr hi
              go_wp2_with (at_builtin; refine wpList_appR1 rfl _ _ 50 rfl 58 (.slice none 0 0) 1 24 Tryz.underlying50 info_ints rfl (by decide) (by decide) w.heap.size u9 m _ rfl HVR.out (by omega) [.slice Ax j cx] rfl (by simp [Value.oneCell']) _ _ wr.heap.size hsy rfl (by simp) ?_; intro v4 w4 hr4 hgrow4 hat4; have HR4 := Lib.hid hr4; have HG4 := Lib.hid hgrow4; have HA4 := Lib.hid hat4; clear hr4 hgrow4 hat4)
              have HP4 := Lib.hid (ownr_push HVR.out (Nat.le_refl _) (HBY.out.alloc hsy _) (by simp; omega) HG4.out)
              have HO4 : Hid (OwnSS w4 w.heap.size v4 (hs.take (m + 1))) := Lib.hid (by
                rw [HTS.out, HGM.out]
                exact OwnSS.put vs HVS.out HVI.out (HXF.out.mono hsw) ((Below.refl _ _).alloc (Nat.le_refl _) _) (by rw [HTL.out]; exact HR4.out) HG4.out)
              have HOB4 : Hid (∀ i, v4.ownBlock = some i → i < w1.heap.size ∨ w3.heap.size ≤ i) := Lib.hid (fun i e => by
                rcases HA4.out with h | h
                · exact HOB.out i (by rw [← h]; exact e)
                · rw [h] at e
                  have := Option.some.inj e
                  omega)
              have HKP4 : Hid (∀ i, w1.heap.size ≤ i → i < w3.heap.size → w4.heap[i]? = w3.heap[i]?) := Lib.hid (fun i h1 h2 => by
                refine (HG4.out.block i (by simp; omega) (fun e => ?_)).trans ((((Below.refl wr.heap.size wr).alloc (Nat.le_refl _) _).block i (by omega)).trans ((HBJ.out.block i (by omega)).trans (HKP.out i h1 h2)))
                rcases HOB.out i e.symm with h | h <;> omega)
              have hs4 : w3.heap.size ≤ w4.heap.size := by have := HG4.out.size; simp at this; omega
              clear HR4 HA4 HG4
              go_roundw
              case rel => exact ⟨m + 1, by omega, by go_num, HO4.out, HOB4.out, HKP4.out, hs4, HP4.out⟩
              case measure => simp [intOf]; omega
        · obtain rfl : m = s := by omega
          have HOF : Hid (OwnSS wr w.heap.size u9 hs) := Lib.hid (by have h := HOW.out; rw [List.take_of_length_le (by rw [HHL.out]; exact Nat.le_refl _)] at h; exact h)
          go_wp2
          go_ret
          exact ⟨_, rfl, by rw [HR.out]; exact HOF.out, HBL.out⟩
end Go.Proofs.YtlpkafhapmkkfaaGreatDoor

/- PlanHistory as its exact law meets it. -/
namespace Go.Proofs.YtlpkafhapmkkfaaGreatDoor
open Go.RowKit
set_option linter.unusedVariables false

theorem sp_PlanHistory (A0 : Option Addr) (n0 c0 : Nat) (zs0 : List Pth) (A1 : Option Addr) (n1 c1 : Nat) (zs1 : List Prt) (a2 a3 : Int) (w : World) (h0 : SlP w A0 n0 c0 zs0) (hs0 : n0 ≤ 1048576) (h1 : SlQ w A1 n1 c1 zs1) (hs1 : SmallP zs1) (wa2 : (Lit.int .i64 a2).wf = true) (wa3 : (Lit.int .i64 a3).wf = true) (r : List (List Int)) (hr : histP zs0 zs1 a2 a3 = r) :
    Calls Tryz.prog 30 #[.slice A0 n0 c0, .slice A1 n1 c1, .int .i64 a2, .int .i64 a3] w fun e w' => ∃ v, e = .returned v ∧ OwnSS w' w.heap.size v r ∧ Below w.heap.size w w' ∧ SmallSS r := by
  subst hr
  have hq1 := h1.prts.1
  have hz1 := hs1.1
  have hq0 := h0.pths.1
  exact (spec_PlanHistory A0 n0 c0 _ zs0 A1 n1 c1 _ zs1 a2 a3 w h0.pths (Nat.le_refl _) hs0 h1.prts (Nat.le_refl _) (by omega) (hs1.at _ _ hq1.symm (Nat.le_refl _))).mono fun e w' ⟨v, h1, h2, h3⟩ => ⟨v, h1, h2, h3, histP_small (by omega)⟩
theorem im_PlanHistory (A0 : Option Addr) (n0 c0 : Nat) (zs0 : List Pth) (A1 : Option Addr) (n1 c1 : Nat) (zs1 : List Prt) (a2 a3 : Int) (w : World) (h0 : SlP w A0 n0 c0 zs0) (hs0 : n0 ≤ 1048576) (h1 : SlQ w A1 n1 c1 zs1) (hs1 : SmallP zs1) (wa2 : (Lit.int .i64 a2).wf = true) (wa3 : (Lit.int .i64 a3).wf = true) (hv0 : Brus w) (hv1 : Clrs w) (r : List (List Int)) (hr : histP zs0 zs1 a2 a3 = r) :
    Calls Tryz.prog 31 #[.slice A0 n0 c0, .slice A1 n1 c1, .int .i64 a2, .int .i64 a3] w fun e w' => ∃ v, e = .returned v ∧ (∃ us, OwnD w' w.heap.size v us r) ∧ Below w.heap.size w w' ∧ SmallSS r := by
  subst hr
  have hq1 := h1.prts.1
  have hz1 := hs1.1
  have hq0 := h0.pths.1
  exact (impl_PlanHistory ⟨h0.pths, Nat.le_refl _, h0.cap, by omega, h1.prts, Nat.le_refl _, by omega, hs1.at _ _ hq1.symm (Nat.le_refl _), hv0, hv1⟩ hs0 a2 a3).mono fun e w' ⟨v, us, h1, h2, h3⟩ => ⟨v, h1, ⟨us, h2⟩, h3, histP_small (by omega)⟩
end Go.Proofs.YtlpkafhapmkkfaaGreatDoor
