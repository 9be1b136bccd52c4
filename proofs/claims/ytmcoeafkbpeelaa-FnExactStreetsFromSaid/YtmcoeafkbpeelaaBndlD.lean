/- Texts of one chain, put together: Rot LawRot LawPrt. -/
import Derived.Deep.RegionHeld3
import Derived.Test.YtmcoeafkbpeelaaBndlC
set_option linter.unusedSimpArgs false
/- Chapter 18: RotatePlan: the model and the program (written by genrot.py). -/
set_option linter.unusedSimpArgs false
namespace Go.Proofs.Ytmcoeafkbpeelaa
open Go.RowKit
set_option linter.unusedVariables false

/-- 'append(v, row...)' in a region that draws its order. -/
theorem step_appRq {P : Program} {w : World} {ops : Array Oper} {o : Oper} {a : Act} {Q : Exit → Act → World → Prop} {K : Act → World → Prop} {F : Prop} (hgd : o.guard = none) (s x : Operand) (t : TypeId)
    (ho : o.op = .call { callee := .builtin .append, args := #[s, x], argTypes := #[t, t] })
    (E : TypeId) (z0 : Value) (sz bytes : Nat) (ht : P.underlying t = some (.slice E)) (hi : (P.info? E).map (fun i => (i.zero, i.size, i.bytes)) = some (some z0, sz, bytes)) (hz : z0.cells.size = sz) (hsz : 0 < sz) (hb : bytes ≤ 256)
    (lo : Nat) (v : Value) (n : Nat) (xs : List Value) (hs : a.eval s = v) (hown : w.ownsRow lo E sz v n xs)
    (A : Option Addr) (m c B : Nat) (zs : List Value) (hx : a.eval x = .slice A m c) (hsrc : CellsAt w B A (m * sz) zs) (h1 : ∀ u ∈ zs, u.oneCell' = true) (hnil : A = none → m = 0 ∧ c = 0)
    (hbytes : n + m ≤ 274877906944) (hlo : lo ≤ w.heap.size)
    (h : ∀ v' w', w'.ownsRow lo E sz v' (n + m) (xs ++ zs) → w.grownBy w' v.ownBlock → K (a.put o.dst v') w') :
    if Region.wanted o (yielded ops a.tmps) = true then Oper.wp P o a w K Q else F := by
  rw [if_pos (by simp [Region.wanted, hgd])]
  obtain ⟨i, hi1, hz1, hsz1, hby⟩ := info_parts hi
  have hzs := hsrc.1
  obtain ⟨Av, cv, hv⟩ := ownr_sliced hown
  cases A with
  | none =>
    obtain ⟨rfl, rfl⟩ := hnil rfl
    have hz0 : zs = [] := List.eq_nil_of_length_eq_zero (by rw [hzs]; simp)
    subst hz0
    have hrun := run_append_owned_none (P := P) (w := w) lo t o.type E i sz ht hi1 v n _ hown
    have hrun2 := (run_append_types ht ht o.type Av n cv (.slice none 0 0) w).trans (hv ▸ hrun)
    unfold Oper.wp
    simp [execOp, ho, resolve, invoke, builtin, hs, hx, hv, hrun2, Result.andThen]
    exact hv ▸ h v w (by rw [List.append_nil]; exact hown) (World.grownBy.refl _ _)
  | some ad =>
    have hnews : ∀ (j : Nat) u, zs[j]? = some u → w.cell? (ad.add j) = some u := by
      intro j u hj
      have hlt := (List.getElem?_eq_some_iff.1 hj).1
      obtain ⟨ad', e, _, hc⟩ := hsrc.2 (by rw [← hzs]; omega)
      injection e with e
      subst e
      exact hc j u hj
    obtain ⟨v', w', hr, h2, h3, h4, h5⟩ := run_append_own_at (P := P) w lo t o.type E i z0 sz bytes ht hi1 hz1 hsz1 hby hz hsz v n _ hown ad m c zs hzs hnews h1
      (by unfold maxLen; omega) (by have : (n + m) * bytes ≤ (n + m) * 256 := Nat.mul_le_mul_left _ hb; omega) hlo
    have hrun2 := (run_append_types ht ht o.type Av n cv (.slice (some ad) m c) w).trans (hv ▸ hr)
    unfold Oper.wp execOp
    simp only [ho, resolve, invoke, builtin, Sem.run_bind, Sem.run_pure, Result.andThen_ok, List.map_toArray, List.map_cons, List.map_nil, hs, hx, hv, hrun2]
    exact h v' w' h2 h3
/-- what RotatePlan answers. -/
def rotP (ps : List Prt) (i : Int) : List Prt := if inB i 0 ((ps.length : Int) - 1) then ps.drop i.toNat ++ ps.take i.toNat else ps
theorem rotP_no {ps : List Prt} {i : Int} (h : inB i 0 ((ps.length : Int) - 1) = false) : rotP ps i = ps := by unfold rotP; rw [h]; rfl
theorem rotP_yes {ps : List Prt} {k : Nat} (h : inB (k : Int) 0 ((ps.length : Int) - 1) = true) : rotP ps k = ps.drop k ++ ps.take k := by unfold rotP; rw [h]; rfl
theorem rotP_len (ps : List Prt) (i : Int) : (rotP ps i).length = ps.length := by
  unfold rotP
  split
  · rw [List.length_append, List.length_drop, List.length_take]
    rename_i h
    have := inB_t h
    omega
  · rfl
theorem prAt_drop (ps : List Prt) (i j : Nat) : prAt (ps.drop i) j = prAt ps (i + j) := by
  unfold prAt
  rw [List.getD_eq_getElem?_getD, List.getD_eq_getElem?_getD, List.getElem?_drop]
theorem prAt_take (ps : List Prt) {i j : Nat} (h : j < i) : prAt (ps.take i) j = prAt ps j := by
  unfold prAt
  rw [List.getD_eq_getElem?_getD, List.getD_eq_getElem?_getD, List.getElem?_take, if_pos h]
theorem prAt_app (aa bs : List Prt) (j : Nat) : prAt (aa ++ bs) j = if j < aa.length then prAt aa j else prAt bs (j - aa.length) := by
  unfold prAt
  simp only [List.getD_eq_getElem?_getD]
  split
  · rename_i h; rw [List.getElem?_append_left h]
  · rename_i h; rw [List.getElem?_append_right (by omega)]
theorem rotP_small {ps : List Prt} (h : SmallP ps) (i : Int) : SmallP (rotP ps i) := by
  refine ⟨by rw [rotP_len]; exact h.1, fun j hj => ?_⟩
  rw [rotP_len] at hj
  unfold rotP
  split
  · rename_i hi
    have := inB_t hi
    rw [prAt_app, List.length_drop]
    split
    · rw [prAt_drop]; exact h.2 _ (by omega)
    · rw [prAt_take _ (by omega)]; exact h.2 _ (by omega)
  · exact h.2 j hj
theorem prts_drop {w : World} {B : Nat} {ad : Addr} {n i : Nat} {ps : List Prt} (h : PrtsAt w B (some ad) n ps) (hi : i < n) : PrtsAt w B (some (ad.add (i * 2))) (n - i) (ps.drop i) := by
  have hl := h.1
  refine ⟨by rw [List.length_drop, hl], fun h0 => ?_⟩
  obtain ⟨ad', e, hb, hc⟩ := h.2 (by omega)
  injection e with e
  subst e
  refine ⟨_, rfl, by rw [add_block]; exact hb, fun j hj => ?_⟩
  have := hc (i + j) (by omega)
  rw [prAt_drop, add_add, show i * 2 + j * 2 = (i + j) * 2 by omega]
  exact this
theorem prts_take {w : World} {B : Nat} {ad : Addr} {n i : Nat} {ps : List Prt} (h : PrtsAt w B (some ad) n ps) (hi : i < n) : PrtsAt w B (some ad) i (ps.take i) := by
  have hl := h.1
  refine ⟨by rw [List.length_take, hl]; omega, fun h0 => ?_⟩
  obtain ⟨ad', e, hb, hc⟩ := h.2 (by omega)
  refine ⟨ad', e, hb, fun j hj => ?_⟩
  rw [prAt_take _ hj]
  exact hc j (by omega)
/-- what lies in a row of parts, aa cells. -/
theorem prts_raw {w : World} {B : Nat} {A : Option Addr} {n : Nat} {ps : List Prt} (h : PrtsAt w B A n ps) : ∃ xs : List (Value × Int), xs.length = n ∧ CellsAt w B A (n * 2) (prow xs) ∧ (∀ u ∈ prow xs, u.oneCell' = true) ∧ ∀ j, j < n → ∃ A' m c', xs[j]? = some (.slice A' m c', (prAt ps j).green) ∧ IntsAt .i64 w B A' m (prAt ps j).stage ∧ (m ≤ c' ∧ c' ≤ maxLen) ∧ (A' = none → m = 0 ∧ c' = 0) := by
  by_cases h0 : 0 < n
  · obtain ⟨ad, rfl, hb, hc⟩ := h.2 h0
    let f : Nat → Value := fun j => if hj : j < n then .slice (Classical.choose (hc j hj)) (Classical.choose (Classical.choose_spec (hc j hj))) (Classical.choose (Classical.choose_spec (Classical.choose_spec (hc j hj)))) else .int .i64 0
    have hf : ∀ j, j < n → ∃ A' m c', f j = .slice A' m c' ∧ PrtAt w (ad.add (j * 2)) (.slice A' m c') (prAt ps j).green ∧ IntsAt .i64 w B A' m (prAt ps j).stage ∧ (m ≤ c' ∧ c' ≤ maxLen) ∧ (A' = none → m = 0 ∧ c' = 0) := fun j hj => ⟨_, _, _, dif_pos hj, Classical.choose_spec (Classical.choose_spec (Classical.choose_spec (hc j hj)))⟩
    let xs : List (Value × Int) := (List.range n).map fun j => (f j, (prAt ps j).green)
    have hx : ∀ j, j < n → xs[j]? = some (f j, (prAt ps j).green) := fun j hj => by simp [xs, hj]
    have hxl : xs.length = n := by simp [xs]
    refine ⟨xs, hxl, ⟨by rw [prow_length, hxl], fun _ => ⟨ad, rfl, hb, fun j u hj => ?_⟩⟩, prow_one xs (fun x hx' => ?_), fun j hj => ?_⟩
    · have hlt := (List.getElem?_eq_some_iff.1 hj).1
      rw [prow_length, hxl] at hlt
      obtain ⟨A', m, c', e, hp, -⟩ := hf (j / 2) (by omega)
      rcases (show j % 2 = 0 ∨ j % 2 = 1 by omega) with h2 | h2
      · have := prow_at0 (hx (j / 2) (by omega))
        rw [show j / 2 * 2 = j by omega] at this
        rw [hj] at this
        injection this with this
        rw [this, e]
        have := hp.c0
        rwa [show j / 2 * 2 = j by omega] at this
      · have := prow_at1 (hx (j / 2) (by omega))
        rw [show j / 2 * 2 + 1 = j by omega] at this
        rw [hj] at this
        injection this with this
        rw [this]
        have := hp.c1
        rw [← add_plusF _ 1 (by omega), add_add, show j / 2 * 2 + 1 = j by omega] at this
        exact this
    · obtain ⟨j, hj, rfl⟩ := List.getElem_of_mem hx'
      obtain ⟨A', m, c', e, -⟩ := hf j (by omega)
      have := hx j (by omega)
      rw [List.getElem?_eq_getElem hj] at this
      injection this with this
      rw [this, e]
      rfl
    · obtain ⟨A', m, c', e, -, h1, h2, h3⟩ := hf j hj
      exact ⟨A', m, c', by rw [hx j hj, e], h1, h2, h3⟩
  · obtain rfl : n = 0 := by omega
    exact ⟨[], rfl, ⟨by simp [prow], fun h => absurd h (by omega)⟩, fun u hu => by simp [prow] at hu, fun j hj => absurd hj (by omega)⟩
/-- and back. -/
theorem raw_prts {w : World} {B B' : Nat} {A : Option Addr} {n : Nat} {xs : List (Value × Int)} {ps : List Prt} (hl : ps.length = n) (hc : CellsAt w B' A (n * 2) (prow xs)) (hB : B ≤ B') (hx : ∀ j, j < n → ∃ A' m c', xs[j]? = some (.slice A' m c', (prAt ps j).green) ∧ IntsAt .i64 w B A' m (prAt ps j).stage ∧ (m ≤ c' ∧ c' ≤ maxLen) ∧ (A' = none → m = 0 ∧ c' = 0)) : PrtsAt w B' A n ps := by
  refine ⟨hl, fun h0 => ?_⟩
  obtain ⟨ad, e, hb, hcc⟩ := hc.2 (by omega)
  refine ⟨ad, e, hb, fun j hj => ?_⟩
  obtain ⟨A', m, c', h1, h2, h3, h4⟩ := hx j hj
  refine ⟨A', m, c', ⟨hcc _ _ (prow_at0 h1), ?_⟩, h2.up hB, h3, h4⟩
  have := hcc _ _ (prow_at1 h1)
  rw [← add_plusF _ 1 (by omega), add_add]
  exact this
theorem raw_app {w : World} {B n1 n2 : Nat} {xs ys : List (Value × Int)} {aa bs : List Prt} (h1l : xs.length = n1) (hal : aa.length = n1)
    (h1 : ∀ j, j < n1 → ∃ A' m c', xs[j]? = some (.slice A' m c', (prAt aa j).green) ∧ IntsAt .i64 w B A' m (prAt aa j).stage ∧ (m ≤ c' ∧ c' ≤ maxLen) ∧ (A' = none → m = 0 ∧ c' = 0))
    (h2 : ∀ j, j < n2 → ∃ A' m c', ys[j]? = some (.slice A' m c', (prAt bs j).green) ∧ IntsAt .i64 w B A' m (prAt bs j).stage ∧ (m ≤ c' ∧ c' ≤ maxLen) ∧ (A' = none → m = 0 ∧ c' = 0)) :
    ∀ j, j < n1 + n2 → ∃ A' m c', (xs ++ ys)[j]? = some (.slice A' m c', (prAt (aa ++ bs) j).green) ∧ IntsAt .i64 w B A' m (prAt (aa ++ bs) j).stage ∧ (m ≤ c' ∧ c' ≤ maxLen) ∧ (A' = none → m = 0 ∧ c' = 0) := by
  intro j hj
  rw [prAt_app]
  by_cases h : j < n1
  · rw [if_pos (by omega), List.getElem?_append_left (by omega)]
    exact h1 j h
  · rw [if_neg (by omega), List.getElem?_append_right (by omega), h1l, hal]
    exact h2 (j - n1) (by omega)
/-- two rows of parts of the call's own, one behind the other. -/
theorem ownPr_app {w w2 w3 : World} {lo : Nat} {v v2 v3 : Value} {xs ys : List (Value × Int)} {aa bs : List Prt} (h1 : OwnPr w lo v xs aa) (h2 : OwnPr w2 w.heap.size v2 ys bs) (hb : Below w.heap.size w w2) (hlo : lo ≤ w.heap.size)
    (hr : w3.ownsRow lo 141 2 v3 (aa.length + bs.length) (prow xs ++ prow ys)) (hg : w2.grownBy w3 v.ownBlock) : OwnPr w3 lo v3 (xs ++ ys) (aa ++ bs) := by
  have l1 := h1.pe.len
  have l2 := h2.pe.len
  have hrow2 := ownr_below h1.row hb
  have hkept : ∀ {x : Value} {zs : List Int} {l : Nat}, Own .i64 3 w2 l x zs → Own .i64 3 w3 l x zs := fun hx => hx.grown hg (fun q e h' => own_apartP hx hrow2 q e h')
  refine ⟨by rw [List.length_append, prow_append]; exact hr, fun j hj => ?_, ?_⟩
  · rw [List.length_append] at hj
    rw [prAt_app]
    by_cases h : j < aa.length
    · rw [if_pos h, List.getElem?_append_left (by omega)]
      obtain ⟨u, e, ho⟩ := h1.each j h
      exact ⟨u, e, hkept (ho.below hb)⟩
    · rw [if_neg h, List.getElem?_append_right (by omega), l1]
      obtain ⟨u, e, ho⟩ := h2.each (j - aa.length) (by omega)
      exact ⟨u, e, hkept (ho.mono hlo)⟩
  · rw [List.map_append]
    intro i j u u' hij hu hu' r hr1 hr2
    have m1 : ∀ (k : Nat) (z : Value), (xs.map (·.1))[k]? = some z → ∀ r, z.ownBlock = some r → r < w.heap.size := fun k z hz r hr => by
      rw [List.getElem?_map] at hz
      cases hx : xs[k]? with
      | none => rw [hx] at hz; cases hz
      | some y =>
        rw [hx] at hz
        have hk := (List.getElem?_eq_some_iff.1 hx).1
        obtain ⟨u, e, ho⟩ := h1.each k (by omega)
        rw [hx] at e
        injection e with e
        subst e
        injection hz with hz
        subst hz
        exact (ho.block r hr).2
    have m2 : ∀ (k : Nat) (z : Value), (ys.map (·.1))[k]? = some z → ∀ r, z.ownBlock = some r → w.heap.size ≤ r := fun k z hz r hr => by
      rw [List.getElem?_map] at hz
      cases hx : ys[k]? with
      | none => rw [hx] at hz; cases hz
      | some y =>
        rw [hx] at hz
        have hk := (List.getElem?_eq_some_iff.1 hx).1
        obtain ⟨u, e, ho⟩ := h2.each k (by omega)
        rw [hx] at e
        injection e with e
        subst e
        injection hz with hz
        subst hz
        exact (ho.block r hr).1
    have ln : (xs.map (·.1)).length = xs.length := List.length_map ..
    by_cases hi : i < xs.length
    · rw [List.getElem?_append_left (by omega)] at hu
      by_cases hj : j < xs.length
      · rw [List.getElem?_append_left (by omega)] at hu'
        exact h1.apart i j u u' hij hu hu' r hr1 hr2
      · rw [List.getElem?_append_right (by omega)] at hu'
        have := m1 _ _ hu r hr1
        have := m2 _ _ hu' r hr2
        omega
    · rw [List.getElem?_append_right (by omega)] at hu
      by_cases hj : j < xs.length
      · rw [List.getElem?_append_left (by omega)] at hu'
        have := m2 _ _ hu r hr1
        have := m1 _ _ hu' r hr2
        omega
      · rw [List.getElem?_append_right (by omega)] at hu'
        exact h2.apart _ _ u u' (by omega) hu hu' r hr1 hr2
set_option maxHeartbeats 4000000 in
set_option maxRecDepth 100000 in
theorem spec_RotatePlan (A : Option Addr) (n c B : Nat) (ps : List Prt) (i : Int) (w : World) (h : PrtsAt w B A n ps) (hB : B ≤ w.heap.size) (hn : n ≤ 1048576) (hc : n ≤ c) (hm : ∀ j, j < n → (prAt ps j).stage.length ≤ 1048576) :
    Calls Try.prog 55 #[.slice A n c, .int .i64 i] w fun e w' => ∃ v xs, e = .returned v ∧ OwnPr w' w.heap.size v xs (rotP ps i) ∧ Below w.heap.size w w' := by
  have hl := h.1
  have hmx : Try.prog.follows .mixedOrders = true := by kernel_rfl
  have e1 : IntKind.i64.wrap ((n : Int) - 1) = (n : Int) - 1 := by rw [IntKind.wrap_i64]; omega
  cases hin : inB i 0 ((n : Int) - 1)
  · have HR : Hid (rotP ps i = ps) := Lib.hid (rotP_no (by rw [hl]; exact hin))
    have HIN := Lib.hid hin
    have HC := Lib.hid (spec_l8Copy A n c B ps w h hB hn hm)
    clear h hin hm hl
    go_enter Try.func55, Try.ntmps55
    go_wp2_with fail
    refine (spec_l1In i 0 ((n : Int) - 1) w).mono ?_
    rw [HIN.out]
    rintro e w1 ⟨rfl, rfl⟩
    go_wp2_with fail
    refine HC.out.mono ?_
    rintro e w2 ⟨v, xs, rfl, ho, hb⟩
    go_wp2
    go_ret
    exact ⟨_, xs, rfl, by rw [HR.out]; exact ho, hb⟩
  obtain ⟨k, rfl⟩ : ∃ k : Nat, i = (k : Int) := ⟨i.toNat, by have := inB_t hin; omega⟩
  have hkn : k < n := by have := inB_t hin; omega
  have HR : Hid (rotP ps k = ps.drop k ++ ps.take k) := Lib.hid (rotP_yes (by rw [hl]; exact hin))
  have HIN := Lib.hid hin
  obtain ⟨ad, rfl, -, -⟩ := h.2 (by omega)
  have hd := prts_drop h hkn
  have ht := prts_take h hkn
  have hdl : (ps.drop k).length = n - k := hd.1
  have htl : (ps.take k).length = k := ht.1
  have hmd : ∀ j, j < n - k → (prAt (ps.drop k) j).stage.length ≤ 1048576 := fun j hj => by rw [prAt_drop]; exact hm _ (by omega)
  have hmt : ∀ j, j < k → (prAt (ps.take k) j).stage.length ≤ 1048576 := fun j hj => by rw [prAt_take _ hj]; exact hm _ (by omega)
  generalize List.drop k ps = ds at *
  generalize List.take k ps = ts at *
  have hck : ¬ c = k := by omega
  have i1 : (0 : Int) ≤ (k : Int) := by omega
  have i2 : (k : Int) ≤ (n : Int) := by omega
  have i3 : (k : Int) ≤ (c : Int) := by omega
  have HD := Lib.hid (fun (y : World) (hy : Below w.heap.size w y) => spec_l8Copy (some (ad.add (k * 2))) (n - k) (c - k) B ds y (hd.keep (hy.mono hB)) (Nat.le_trans hB hy.size) (by omega) hmd)
  have HT := Lib.hid (fun (y : World) (hy : Below w.heap.size w y) => spec_l8Copy (some ad) k c B ts y (ht.keep (hy.mono hB)) (Nat.le_trans hB hy.size) (by omega) hmt)
  have HDL := Lib.hid hdl
  have HTL := Lib.hid htl
  clear h hin hm hl hd ht hmd hmt hdl htl
  go_enter Try.func55, Try.ntmps55
  go_wp2_with fail
  refine (spec_l1In (k : Int) 0 ((n : Int) - 1) w).mono ?_
  rw [HIN.out]
  rintro e w1 ⟨rfl, rfl⟩
  go_wp2
  have hdr := below_drewC (Below.refl w.heap.size w)
  refine wp_region_held_drew (S := fun W' => True) hmx trivial (fun hH => ?_)
  refine wpAnyH_take (i := 0) (v := .slice (some ad) n c) rfl (by kernel_rfl) (by kernel_rfl) (by kernel_rfl) (fun _ _ _ h => h) (Or.inl ⟨by rfl, by intro W' hSw; go_simp⟩) hH ?_
  try simp only [Act.put, List.setIfInBounds_toArray, List.set_cons_zero, List.set_cons_succ]
  refine wpAnyH_take (i := 1) (v := .int .i64 (k : Int)) rfl (by kernel_rfl) (by kernel_rfl) (by kernel_rfl) (fun _ _ _ h => h) (Or.inl ⟨by rfl, by intro W' hSw; go_simp⟩) hH ?_
  try simp only [Act.put, List.setIfInBounds_toArray, List.set_cons_zero, List.set_cons_succ]
  refine wpAnyH_take (i := 2) (v := .slice (some (ad.add (k * 2))) (n - k) (c - k)) rfl (by kernel_rfl) (by kernel_rfl) (by kernel_rfl) (fun _ _ _ h => h) (Or.inl ⟨by rfl, by intro W' hSw; go_simp⟩) hH ?_
  try simp only [Act.put, List.setIfInBounds_toArray, List.set_cons_zero, List.set_cons_succ]
  refine wpAnyH_take (i := 4) (v := .slice (some ad) n c) rfl (by kernel_rfl) (by kernel_rfl) (by kernel_rfl) (fun _ _ _ h => h) (Or.inl ⟨by rfl, by intro W' hSw; go_simp⟩) hH ?_
  try simp only [Act.put, List.setIfInBounds_toArray, List.set_cons_zero, List.set_cons_succ]
  refine wpAnyH_take (i := 5) (v := .int .i64 (k : Int)) rfl (by kernel_rfl) (by kernel_rfl) (by kernel_rfl) (fun _ _ _ h => h) (Or.inl ⟨by rfl, by intro W' hSw; go_simp⟩) hH ?_
  try simp only [Act.put, List.setIfInBounds_toArray, List.set_cons_zero, List.set_cons_succ]
  refine wpAnyH_take (i := 6) (v := .slice (some ad) k c) rfl (by kernel_rfl) (by kernel_rfl) (by kernel_rfl) (fun _ _ _ h => h) (Or.inl ⟨by rfl, by intro W' hSw; go_simp⟩) hH ?_
  try simp only [Act.put, List.setIfInBounds_toArray, List.set_cons_zero, List.set_cons_succ]
  refine wpAnyH_ready (rs := [3]) (by decide +kernel) (by simp) (AllReadyH.cons rfl (fun K' hK => ?_) AllReadyH.nil)
  go_simp
  refine (HD.out _ hdr).mono ?_
  rintro e w2 ⟨v2, xs2, rfl, ho2, hb2⟩
  obtain ⟨A2, c2, rfl⟩ := ho2.pe.sliced
  have HO2 := Lib.hid ho2
  have hB2 : Below w.heap.size w w2 := hdr.trans (hb2.mono (Nat.le_refl _))
  clear ho2 hb2
  go_wp2_with fail
  refine hK.out _ _ trivial (fun _ => ?_)
  clear hK K'
  try simp only [Act.put, List.setIfInBounds_toArray, List.set_cons_zero, List.set_cons_succ]
  refine wpAnyH_ready (rs := [7]) (by decide +kernel) (by simp) (AllReadyH.cons rfl (fun K' hK => ?_) AllReadyH.nil)
  go_simp
  refine (HT.out _ hB2).mono ?_
  rintro e w3 ⟨v3, xs3, rfl, ho3, hb3⟩
  obtain ⟨A3, c3, rfl⟩ := ho3.pe.sliced
  have hcap3 := ownr_cap ho3.row
  have hnil3 := ownr_nilcap ho3.row
  have HO3 := Lib.hid ho3
  have hB3 : Below w.heap.size w w3 := hB2.trans (hb3.mono hB2.size)
  have HB3 := Lib.hid hb3
  have HC3 := Lib.hid (ownr_cells ho3.row)
  have h1c : ∀ u ∈ prow xs3, u.oneCell' = true := prow_one xs3 (fun x hx => by
    obtain ⟨j, hj, rfl⟩ := List.getElem_of_mem hx
    have := HO3.out.pe.len
    obtain ⟨u, e, ho⟩ := HO3.out.each j (by omega)
    rw [List.getElem?_eq_getElem hj] at e
    injection e with e
    rw [e]
    obtain ⟨Au, cu, rfl⟩ := ho.sliced
    rfl)
  have hs2 := hB2.size
  have hs3 := hB3.size
  clear ho3 hb3
  go_wp2_with fail
  refine hK.out _ _ trivial (fun _ => ?_)
  clear hK K'
  try simp only [Act.put, List.setIfInBounds_toArray, List.set_cons_zero, List.set_cons_succ]
  refine wpAnyH_ready (rs := [8]) (by decide +kernel) (by simp) (AllReadyH.cons rfl (fun K' hK => ?_) AllReadyH.nil)
  have hR3 := ownr_below HO2.out.row HB3.out
  have hlc := HC3.out
  refine step_appRq rfl _ _ 77 rfl 141 (.agg #[.slice none 0 0, .int .i64 0]) 2 32 Try.underlying77 info_prt rfl (by decide) (by decide) w.heap.size _ _ _ rfl (ownr_mono hR3 (by exact hdr.size)) A3 _ c3 _ (prow xs3) rfl hlc h1c hnil3 (by rw [HDL.out, HTL.out]; omega) hs3 ?_
  intro v4 w4 hown4 hgrow4
  have HO4 : Hid (OwnPr w4 w.heap.size v4 (xs2 ++ xs3) (ds ++ ts)) := Lib.hid (ownPr_app (HO2.out.mono (by exact hdr.size)) HO3.out HB3.out hs2 hown4 hgrow4)
  have HB4 : Hid (Below w.heap.size w w4) := Lib.hid (ownr_push (ownr_mono hR3 (lo' := w.heap.size) (by exact hdr.size)) (Nat.le_refl w.heap.size) hB3 hs3 hgrow4)
  clear hown4 hgrow4 hR3 hlc
  refine hK.out _ _ trivial (fun _ => ?_)
  clear hK K'
  try simp only [Act.put, List.setIfInBounds_toArray, List.set_cons_zero, List.set_cons_succ]
  refine wpAnyH_ready (rs := [9]) (by decide +kernel) (by simp) (AllReadyH.cons rfl (fun K' hK => ?_) AllReadyH.nil)
  go_simp
  refine hK.out _ _ trivial (fun _ => ?_)
  clear hK K'
  try simp only [Act.put, List.setIfInBounds_toArray, List.set_cons_zero, List.set_cons_succ]
  refine wpAnyH_done (by decide +kernel) ?_ _
  go_wp2
  go_ret
  exact ⟨_, _, rfl, by rw [HR.out]; exact HO4.out, HB4.out⟩
set_option maxHeartbeats 4000000 in
set_option maxRecDepth 100000 in
theorem impl_RotatePlan (A : Option Addr) (n c B : Nat) (ps : List Prt) (i : Int) (w : World) (h : PrtsAt w B A n ps) (hB : B ≤ w.heap.size) (hn : n ≤ 1048576) (hc : n ≤ c) (hm : ∀ j, j < n → (prAt ps j).stage.length ≤ 1048576) :
    Calls Try.prog 57 #[.slice A n c, .int .i64 i] w fun e w' => ∃ v xs, e = .returned v ∧ OwnPr w' w.heap.size v xs (rotP ps i) ∧ Below w.heap.size w w' := by
  have hl := h.1
  have hmx : Try.prog.follows .mixedOrders = true := by kernel_rfl
  have e1 : IntKind.i64.wrap ((n : Int) - 1) = (n : Int) - 1 := by rw [IntKind.wrap_i64]; omega
  cases hin : inB i 0 ((n : Int) - 1)
  · have HR : Hid (rotP ps i = ps) := Lib.hid (rotP_no (by rw [hl]; exact hin))
    have HIN := Lib.hid hin
    have HC := Lib.hid (impl_copyPlan A n c B ps w h hB hn hm)
    clear h hin hm hl
    go_enter Try.func57, Try.ntmps57
    go_wp2_with fail
    refine (impl_InRange i 0 ((n : Int) - 1) w).mono ?_
    rw [HIN.out]
    rintro e w1 ⟨rfl, rfl⟩
    go_wp2_with fail
    refine HC.out.mono ?_
    rintro e w2 ⟨v, xs, rfl, ho, hb⟩
    go_wp2
    go_ret
    exact ⟨_, xs, rfl, by rw [HR.out]; exact ho, hb⟩
  obtain ⟨k, rfl⟩ : ∃ k : Nat, i = (k : Int) := ⟨i.toNat, by have := inB_t hin; omega⟩
  have hkn : k < n := by have := inB_t hin; omega
  have HR : Hid (rotP ps k = ps.drop k ++ ps.take k) := Lib.hid (rotP_yes (by rw [hl]; exact hin))
  have HIN := Lib.hid hin
  obtain ⟨ad, rfl, -, -⟩ := h.2 (by omega)
  have hd := prts_drop h hkn
  have ht := prts_take h hkn
  have hdl : (ps.drop k).length = n - k := hd.1
  have htl : (ps.take k).length = k := ht.1
  have hmd : ∀ j, j < n - k → (prAt (ps.drop k) j).stage.length ≤ 1048576 := fun j hj => by rw [prAt_drop]; exact hm _ (by omega)
  have hmt : ∀ j, j < k → (prAt (ps.take k) j).stage.length ≤ 1048576 := fun j hj => by rw [prAt_take _ hj]; exact hm _ (by omega)
  generalize List.drop k ps = ds at *
  generalize List.take k ps = ts at *
  have hck : ¬ c = k := by omega
  have i1 : (0 : Int) ≤ (k : Int) := by omega
  have i2 : (k : Int) ≤ (n : Int) := by omega
  have i3 : (k : Int) ≤ (c : Int) := by omega
  obtain ⟨xs, hxl, hxc, hxo, hxe⟩ := prts_raw hd
  obtain ⟨ys, hyl, hyc, hyo, hye⟩ := prts_raw ht
  have HRA := Lib.hid (raw_app hxl hdl hxe hye)
  have HM : Hid (∀ j, j < (n - k) + k → (prAt (ds ++ ts) j).stage.length ≤ 1048576) := Lib.hid (fun j hj => by
    rw [prAt_app, hdl]
    split
    · exact hmd _ (by omega)
    · exact hmt _ (by omega))
  have HLL : Hid ((ds ++ ts).length = (n - k) + k) := Lib.hid (by rw [List.length_append, hdl, htl])
  have HXC := Lib.hid hxc
  have HYC := Lib.hid hyc
  clear h hin hm hl hd ht hmd hmt hdl htl hxe hye hxc hyc
  go_enter Try.func57, Try.ntmps57
  go_wp2_with fail
  refine (impl_InRange (k : Int) 0 ((n : Int) - 1) w).mono ?_
  rw [HIN.out]
  rintro e w1 ⟨rfl, rfl⟩
  go_wp2
  have hdr := below_drewC (Below.refl w.heap.size w)
  refine wp_region_held_drew (S := fun W' => True) hmx trivial (fun hH => ?_)
  refine wpAnyH_take (i := 0) (v := .slice (some ad) n c) rfl (by kernel_rfl) (by kernel_rfl) (by kernel_rfl) (fun _ _ _ h => h) (Or.inl ⟨by rfl, by intro W' hSw; go_simp⟩) hH ?_
  try simp only [Act.put, List.setIfInBounds_toArray, List.set_cons_zero, List.set_cons_succ]
  refine wpAnyH_take (i := 1) (v := .int .i64 (k : Int)) rfl (by kernel_rfl) (by kernel_rfl) (by kernel_rfl) (fun _ _ _ h => h) (Or.inl ⟨by rfl, by intro W' hSw; go_simp⟩) hH ?_
  try simp only [Act.put, List.setIfInBounds_toArray, List.set_cons_zero, List.set_cons_succ]
  refine wpAnyH_take (i := 2) (v := .slice (some (ad.add (k * 2))) (n - k) (c - k)) rfl (by kernel_rfl) (by kernel_rfl) (by kernel_rfl) (fun _ _ _ h => h) (Or.inl ⟨by rfl, by intro W' hSw; go_simp⟩) hH ?_
  try simp only [Act.put, List.setIfInBounds_toArray, List.set_cons_zero, List.set_cons_succ]
  refine wpAnyH_take (i := 3) (v := .slice (some ad) n c) rfl (by kernel_rfl) (by kernel_rfl) (by kernel_rfl) (fun _ _ _ h => h) (Or.inl ⟨by rfl, by intro W' hSw; go_simp⟩) hH ?_
  try simp only [Act.put, List.setIfInBounds_toArray, List.set_cons_zero, List.set_cons_succ]
  refine wpAnyH_take (i := 4) (v := .int .i64 (k : Int)) rfl (by kernel_rfl) (by kernel_rfl) (by kernel_rfl) (fun _ _ _ h => h) (Or.inl ⟨by rfl, by intro W' hSw; go_simp⟩) hH ?_
  try simp only [Act.put, List.setIfInBounds_toArray, List.set_cons_zero, List.set_cons_succ]
  refine wpAnyH_take (i := 5) (v := .slice (some ad) k c) rfl (by kernel_rfl) (by kernel_rfl) (by kernel_rfl) (fun _ _ _ h => h) (Or.inl ⟨by rfl, by intro W' hSw; go_simp⟩) hH ?_
  try simp only [Act.put, List.setIfInBounds_toArray, List.set_cons_zero, List.set_cons_succ]
  refine wpAnyH_ready (rs := [6]) (by decide +kernel) (by simp) (AllReadyH.cons rfl (fun K' hK => ?_) AllReadyH.nil)
  go_simp
  obtain ⟨w2, hw2⟩ : ∃ w2, w2 = (w.alloc (.cells #[.slice (some (ad.add (k * 2))) (n - k) (c - k), .slice (some ad) k c] 77)).drew := ⟨_, rfl⟩
  have hk2 : w2.heap[w.heap.size]? = some (.cells #[.slice (some (ad.add (k * 2))) (n - k) (c - k), .slice (some ad) k c] 77) := by rw [hw2]; exact heap_alloc_new w _
  have hb2 : Below w.heap.size w w2 := by rw [hw2]; exact below_drewC ((Below.refl _ _).alloc (Nat.le_refl _) _)
  rw [← hw2]
  clear hw2
  have hs2 := hb2.size
  have hcc := lib_Concat2P w.heap.size (some (ad.add (k * 2))) (n - k) (c - k) (prow xs) (some ad) k c (prow ys) B w2 hk2 (HXC.out.below (hb2.mono hB)) (HYC.out.below (hb2.mono hB)) hxo hyo (by omega) (by simp) (by simp) (by omega) (by omega) (by omega)
  clear hk2
  refine hK.out _ _ trivial (fun _ => ?_)
  clear hK K'
  try simp only [Act.put, List.setIfInBounds_toArray, List.set_cons_zero, List.set_cons_succ]
  refine wpAnyH_ready (rs := [7]) (by decide +kernel) (by simp) (AllReadyH.cons rfl (fun K' hK => ?_) AllReadyH.nil)
  go_simp
  refine hcc.mono ?_
  rintro e w3 ⟨A3, c3, rfl, ho3, hb3⟩
  have hB3 : Below w.heap.size w w3 := hb2.trans (hb3.mono hs2)
  have hs3 := hB3.size
  have hP3 := raw_prts (w := w3) (B := B) HLL.out (by rw [prow_append]; exact ownr_cells ho3) (by omega) (fun j hj => by
    obtain ⟨A', m, c', q1, q2, q3, q4⟩ := HRA.out j hj
    exact ⟨A', m, c', q1, q2.keep (fun p hp => hB3.cell (by omega)), q3, q4⟩)
  have HCP := Lib.hid (impl_copyPlan A3 ((n - k) + k) c3 w3.heap.size _ w3 hP3 (Nat.le_refl _) (by omega) HM.out)
  clear hcc ho3 hb3 hP3
  go_wp2_with fail
  refine hK.out _ _ trivial (fun _ => ?_)
  clear hK K'
  try simp only [Act.put, List.setIfInBounds_toArray, List.set_cons_zero, List.set_cons_succ]
  refine wpAnyH_ready (rs := [8]) (by decide +kernel) (by simp) (AllReadyH.cons rfl (fun K' hK => ?_) AllReadyH.nil)
  go_simp
  refine HCP.out.mono ?_
  rintro e w4 ⟨v4, xs4, rfl, ho4, hb4⟩
  have HO4 := Lib.hid (ho4.mono hs3)
  have HB4 := Lib.hid (hB3.trans (hb4.mono hs3))
  clear ho4 hb4 HCP
  go_wp2_with fail
  refine hK.out _ _ trivial (fun _ => ?_)
  clear hK K'
  try simp only [Act.put, List.setIfInBounds_toArray, List.set_cons_zero, List.set_cons_succ]
  refine wpAnyH_ready (rs := [9]) (by decide +kernel) (by simp) (AllReadyH.cons rfl (fun K' hK => ?_) AllReadyH.nil)
  go_simp
  refine hK.out _ _ trivial (fun _ => ?_)
  clear hK K'
  try simp only [Act.put, List.setIfInBounds_toArray, List.set_cons_zero, List.set_cons_succ]
  refine wpAnyH_done (by decide +kernel) ?_ _
  go_wp2
  go_ret
  exact ⟨_, _, rfl, by rw [HR.out]; exact HO4.out, HB4.out⟩
end Go.Proofs.Ytmcoeafkbpeelaa

/- RotatePlan as exact laws meet it. -/
namespace Go.Proofs.Ytmcoeafkbpeelaa
open Go.RowKit
set_option linter.unusedVariables false

theorem sp_RotatePlan (A0 : Option Addr) (n0 c0 : Nat) (zs0 : List Prt) (a1 : Int) (w : World) (h0 : SlQ w A0 n0 c0 zs0) (hs0 : SmallP zs0) (wa1 : (Lit.int .i64 a1).wf = true) (r : List Prt) (hr : rotP zs0 a1 = r) :
    Calls Try.prog 55 #[.slice A0 n0 c0, .int .i64 a1] w fun e w' => ∃ v, e = .returned v ∧ (∃ us, OwnPe w' w.heap.size v us r) ∧ Below w.heap.size w w' ∧ SmallP r := by
  subst hr
  have hq0 := h0.prts.1
  have hz0 := hs0.1
  exact (spec_RotatePlan A0 n0 c0 _ zs0 a1 w h0.prts (Nat.le_refl _) (by omega) h0.cap.1 (hs0.at _ _ hq0.symm (Nat.le_refl _))).mono fun e w' ⟨v, xs, h1, h2, h3⟩ => ⟨v, h1, ⟨xs, h2.pe⟩, h3, rotP_small hs0 _⟩
theorem im_RotatePlan (A0 : Option Addr) (n0 c0 : Nat) (zs0 : List Prt) (a1 : Int) (w : World) (h0 : SlQ w A0 n0 c0 zs0) (hs0 : SmallP zs0) (wa1 : (Lit.int .i64 a1).wf = true) (r : List Prt) (hr : rotP zs0 a1 = r) :
    Calls Try.prog 57 #[.slice A0 n0 c0, .int .i64 a1] w fun e w' => ∃ v, e = .returned v ∧ (∃ us, OwnPr w' w.heap.size v us r) ∧ Below w.heap.size w w' ∧ SmallP r := by
  subst hr
  have hq0 := h0.prts.1
  have hz0 := hs0.1
  exact (impl_RotatePlan A0 n0 c0 _ zs0 a1 w h0.prts (Nat.le_refl _) (by omega) h0.cap.1 (hs0.at _ _ hq0.symm (Nat.le_refl _))).mono fun e w' ⟨v, xs, h1, h2, h3⟩ => ⟨v, h1, ⟨xs, h2⟩, h3, rotP_small hs0 _⟩
end Go.Proofs.Ytmcoeafkbpeelaa

/- A law's arguments that are rows of parts. -/
namespace Go.Proofs.Ytmcoeafkbpeelaa
open Go.ChangeShapes Go.WideShapes Go.ChangeAt Go.RowKit Go.Joins
open Go.Deep (oneCellFields open_slice hone_of)

section
variable {H : Type} {enc : TypeId × Value → H} {P : Program}
/-- A slice of parts that came in. -/
theorem arg_prts {t e i : TypeId} {f0 f1 : Field} {W : World} {base : Nat} {v : Value} {d : DataW H} {ps : List MemPlace} (ht : P.underlying t = some (.slice e)) (he : P.underlying e = some (.struct #[f0, f1])) (hone : oneCellFields P #[f0, f1] = true) (hC : P.cellsOf e = 2)
    (h0 : P.underlying f0.type = some (.slice i)) (hi : P.underlying i = some (.int .i64)) (hci : P.cellsOf i = 1) (h1 : P.underlying f1.type = some (.int .i64))
    (hval : Value.okWide P W .any base t v) (hd : DataW.Trod enc P W 0 (fun _ => true) true t v d ps) (hlt : ∀ x ∈ ps, x.block < W.heap.size) :
    ∃ (A : Option Addr) (n c : Nat) (zs : List Prt), v = .slice A n c ∧ (PrtsAt W W.heap.size A n zs ∧ (∀ z ∈ zs, z.wf) ∧ n ≤ c ∧ c ≤ maxLen) := by
  obtain ⟨a, len, cap, rfl⟩ := okWide_slice ht hval
  obtain ⟨fuel, hf⟩ := hd
  rcases open_slice_fields ht he hone (by rw [hC]; rfl) hf with ⟨h1, _⟩ | ⟨a', len', cap', m, D, Pl, hcs, _, hl, hm, hmm, hx, hii⟩
  · have h1' : [Value.slice a len cap] = [Value.slice none 0 0] := h1
    simp only [List.cons.injEq, and_true] at h1'
    exact ⟨none, 0, 0, [], h1', ⟨rfl, fun h => absurd h (by omega)⟩, by simp, Nat.le_refl _, Nat.zero_le _⟩
  · have h1' : [Value.slice a len cap] = [Value.slice (some a') len' cap'] := hcs
    simp only [List.cons.injEq, and_true] at h1'
    rw [if_pos rfl] at hmm
    subst hmm
    have hps : ps = MemPlace.row a' (m * 2) ++ (List.range m).flatMap Pl := congrArg Prod.snd hx
    obtain ⟨zs, hzl, hz⟩ := choose_upto (n := len') (R := fun j (p : Prt) => p.wf ∧ ∃ A' m' c', PrtAt W (a'.add (j * 2)) (.slice A' m' c') p.green ∧ IntsAt .i64 W W.heap.size A' m' p.stage ∧ (m' ≤ c' ∧ c' ≤ maxLen) ∧ (A' = none → m' = 0 ∧ c' = 0)) (fun j hjl => by
      obtain ⟨ys, n, _, hPl, _, hj⟩ := hii j (by omega)
      obtain ⟨v0, y0, c0, g0, t0⟩ := hj 0 f0 rfl
      obtain ⟨v1, y1, c1, _, t1⟩ := hj 1 f1 rfl
      obtain ⟨x1, rfl, w1, -⟩ := cell_int h1 t1
      have c1' : W.cell? ⟨(a'.add (j * 2)).block, (a'.add (j * 2)).off + 1, none⟩ = some (.int .i64 x1) := by
        rw [← add_plus _ 1 (by decide), add_add]
        exact c1
      rcases open_ints h0 hi hci t0 with ⟨h2, _⟩ | ⟨b, l2, cp2, zs, h2, _, hl2, hm2, hzl2, hx2, hc2, hwf2⟩
      · simp only [List.cons.injEq, and_true] at h2
        exact ⟨⟨[], x1⟩, ⟨Nat.zero_le _, by simp, w1⟩, none, 0, 0, ⟨by rw [← h2]; exact c0, c1'⟩, ⟨rfl, fun h => absurd h (by omega)⟩, ⟨Nat.le_refl _, Nat.zero_le _⟩, fun _ => ⟨rfl, rfl⟩⟩
      · simp only [List.cons.injEq, and_true] at h2
        rw [if_pos rfl] at hzl2
        refine ⟨⟨zs.take l2, x1⟩, ⟨by simp only [List.length_take]; omega, fun z hzm => hwf2 z (List.mem_of_mem_take hzm), w1⟩, some b, l2, cp2, ⟨by rw [← h2]; exact c0, c1'⟩, ⟨by simp only [List.length_take]; omega, fun hn => ⟨b, rfl, ?_, fun q hq => ?_⟩⟩, ⟨hl2, hm2⟩, by simp⟩
        · have hmem : MemPlace.cell b.block (b.off + 0) ∈ ps := by
            rw [hps]
            refine List.mem_append_right _ (List.mem_flatMap.2 ⟨j, List.mem_range.2 (by omega), ?_⟩)
            rw [hPl]
            refine List.mem_flatMap.2 ⟨y0, List.mem_of_getElem? g0, ?_⟩
            have e2 : y0.2 = MemPlace.row b zs.length := congrArg Prod.snd hx2
            rw [e2]
            exact List.mem_map.2 ⟨0, List.mem_range.2 (by omega), rfl⟩
          exact hlt _ hmem
        · rw [hc2 q (by omega)]
          simp [List.getD_eq_getElem?_getD, hq])
    refine ⟨some a', len', m, zs, h1', ⟨hzl, fun hn => ⟨a', rfl, ?_, fun j hj => ?_⟩⟩, fun z hzm => ?_, hl, hm⟩
    · have hmem : MemPlace.cell a'.block (a'.off + 0) ∈ ps := by
        rw [hps]
        exact List.mem_append_left _ (List.mem_map.2 ⟨0, List.mem_range.2 (by omega), rfl⟩)
      exact hlt _ hmem
    · exact (hz j _ (prAt_get (by omega))).2
    · obtain ⟨j, hj, rfl⟩ := List.getElem_of_mem hzm
      exact (hz j _ (List.getElem?_eq_getElem hj)).1
end
end Go.Proofs.Ytmcoeafkbpeelaa
