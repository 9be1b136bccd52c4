/- CoverOf: the program; its exact law's contracts. -/
import Derived.Test.YteilcbmpmeggcabDoorFillI
import Derived.Test.YteilcbmpmeggcabDoorIdsI
import Derived.Test.YteilcbmpmeggcabDoorSSM
import Derived.Test.YteilcbmpmeggcabDoorCov
import Derived.Test.YteilcbmpmeggcabDoorPthM
namespace Go.Proofs.YteilcbmpmeggcabDoor
open Go.RowKit
set_option linter.unusedVariables false

theorem OwnD.hollow {W : World} {lo g : Nat} (h : W.heap[g]? = some (.cells #[] 23 (0, 0))) (hl : lo ≤ g) : OwnD W lo (.slice (some ⟨g, 0, none⟩) 0 0) [] [] :=
  ⟨⟨rfl, .inr ⟨g, 0, #[], rfl, hl, h, Nat.le_refl _, by decide, rfl, rfl⟩⟩, fun j hj => absurd hj (by simp), ApartL.nil⟩
theorem OwnD.put {w w1 w' : World} {lo : Nat} {v v' u : Value} {us : List Value} {zss : List (List Int)} {zs : List Int} (h : OwnD w lo v us zss) (h2 : Own .i64 3 w lo u zs) (hb : Below w.heap.size w w1)
    (hr' : w'.ownsRow lo 23 1 v' (zss.length + 1) (us ++ [u])) (hg : w1.grownBy w' v.ownBlock) (hap : ApartL (us ++ [u])) : OwnD w' lo v' (us ++ [u]) (zss ++ [zs]) := by
  have hl := h.len
  have hr1 := ownr_below h.row hb
  have kept : ∀ {x : Value} {xs : List Int}, Own .i64 3 w lo x xs → Own .i64 3 w' lo x xs := fun hx => (hx.below hb).grown hg (own_apart (hx.below hb) hr1)
  refine ⟨by rw [List.length_append]; exact hr', fun j hj => ?_, hap⟩
  rw [List.length_append, List.length_singleton] at hj
  by_cases e : j < zss.length
  · obtain ⟨x, h1, h3⟩ := h.each j e
    refine ⟨x, by rw [List.getElem?_append_left (by omega)]; exact h1, ?_⟩
    rw [List.getD_eq_getElem?_getD, List.getElem?_append_left e, ← List.getD_eq_getElem?_getD]
    exact kept h3
  · obtain rfl : j = zss.length := by omega
    refine ⟨u, by rw [List.getElem?_append_right (by omega)]; simp [hl], ?_⟩
    rw [List.getD_eq_getElem?_getD, List.getElem?_append_right (by omega)]
    simpa using kept h2
theorem row_not {w : World} {lo E s n b : Nat} {v : Value} {xs : List Value} {cs : Array Value} {T : TypeId} (h : w.ownsRow lo E s v n xs) (hb : w.heap[b]? = some (.cells cs T (0, 0))) (hT : T ≠ E) : v.ownBlock ≠ some b := by
  rcases h.2 with ⟨rfl, _⟩ | ⟨g, cap, cur, rfl, _, hg, _⟩
  · simp [Value.ownBlock]
  · intro e
    have e1 : g = b := Option.some.inj e
    subst e1
    rw [hb] at hg
    injection hg with hg
    injection hg with _ ht
    exact hT ht
theorem cov_len (ps : List Pth) : ∀ k, (covI ps k).1.length ≤ k
  | 0 => Nat.le_refl _
  | k + 1 => by
    have ih := cov_len ps k
    unfold covI
    split
    · omega
    · show ((covI ps k).1 ++ [_]).length ≤ _
      rw [List.length_append, List.length_singleton]
      omega
theorem cov_yes {ps : List Pth} {k q : Nat} {L : List Nat} (h : covI ps k = (L, q)) (hb : q.testBit k = true) : covI ps (k + 1) = (L, q) := by
  unfold covI
  rw [h]
  exact if_pos hb
theorem cov_no {ps : List Pth} {k q : Nat} {L : List Nat} (h : covI ps k = (L, q)) (hb : q.testBit k = false) : covI ps (k + 1) = (L ++ [fillTo (rowSt ps ps.length 0) (2 ^ k) ps.length], q ||| fillTo (rowSt ps ps.length 0) (2 ^ k) ps.length) := by
  unfold covI
  rw [h]
  exact if_neg (by rw [hb]; exact Bool.false_ne_true)
theorem and_bit (q k : Nat) : q &&& 2 ^ k = 0 ↔ q.testBit k = false := by
  rw [and_zero]
  constructor
  · intro h
    rw [Bool.eq_false_iff]
    intro hb
    exact h k ⟨hb, by rw [Nat.testBit_two_pow]; simp⟩
  · rintro h i ⟨h1, h2⟩
    rw [Nat.testBit_two_pow, decide_eq_true_eq] at h2
    subst h2
    rw [h] at h1
    cases h1
theorem cover_off {ps : List Pth} (h : arePs ps = false) : coverP ps = [] := by unfold coverP; rw [h]; rfl
theorem cover_on {ps : List Pth} (h : arePs ps = true) : coverP ps = (covI ps ps.length).1.map (idsM ps) := by
  unfold coverP
  rw [h, if_pos rfl]
  exact (cov_eq h _ (Nat.le_refl _)).1
theorem cover_small (ps : List Pth) : SmallSS (coverP ps) := by
  cases h : arePs ps
  · rw [cover_off h]; exact ⟨by simp, fun j hj => absurd hj (by simp)⟩
  · rw [cover_on h]
    have h12 := arePs_len12 h
    have hl := cov_len ps ps.length
    refine ⟨by rw [List.length_map]; omega, fun j hj => ?_⟩
    rw [List.length_map] at hj
    rw [List.getD_eq_getElem?_getD, List.getElem?_map, List.getElem?_eq_getElem hj]
    show ((idxs _).map _).length ≤ _
    rw [List.length_map]
    have := idxs_len ((covI ps ps.length).1[j])
    omega
set_option maxHeartbeats 2000000 in
set_option maxRecDepth 100000 in
theorem impl_CoverOf (A : Option Addr) (n c B : Nat) (ps : List Pth) (w : World) (h : PthsAt w B A n ps) (hB : B ≤ w.heap.size) (hn : n ≤ c ∧ c ≤ maxLen) (hn1 : n ≤ 4294967296) (hw : Brus w) :
    Calls Tryd.prog 29 #[.slice A n c] w fun e w' => ∃ v, e = .returned v ∧ (∃ us, OwnD w' w.heap.size v us (coverP ps)) ∧ Below w.heap.size w w' := by
  have hl := h.1
  have hba : Below w.heap.size w (w.alloc (.cells #[] 23)) := (Below.refl _ _).alloc (Nat.le_refl _) _
  have own0 : OwnD (w.alloc (.cells #[] 23)) w.heap.size (.slice (some ⟨w.heap.size, 0, none⟩) 0 0) [] [] := OwnD.hollow (heap_alloc_new w _) (Nat.le_refl _)
  have hP := h.below (hba.mono hB)
  have hBs : B ≤ (w.alloc (.cells #[] 23)).heap.size := Nat.le_trans hB hba.size
  have HBA := Lib.hid hba
  have HO := Lib.hid own0
  have HW := Lib.hid hw
  have HP := Lib.hid h
  cases ha : arePs ps
  · have HR := Lib.hid (cover_off ha)
    have HC := Lib.hid (impl_crossingOf_no A n c B ps _ hP hBs hn1 ha)
    clear h hw ha hba own0 hP hBs
    go_enter Tryd.func29, Tryd.ntmps29
    go_wp2_with fail
    refine HC.out.mono ?_
    rw [cross_lit]
    rintro e w1 ⟨rfl, hb⟩
    have HO1 := Lib.hid (HO.out.below hb)
    have HB1 := Lib.hid (HBA.out.trans (hb.mono HBA.out.size))
    clear hb
    go_wp2
    go_ret
    exact ⟨_, rfl, ⟨[], by rw [HR.out]; exact HO1.out.below ((Below.refl _ _).alloc (Nat.le_refl _) _)⟩, HB1.out.alloc HB1.out.size _⟩
  · subst hl
    have h12 := arePs_len12 ha
    have hp12 := pow_le12 h12
    have HC := Lib.hid (impl_crossingOf A ps.length c B ps _ hP hBs hn ha)
    have HR := Lib.hid (cover_on ha)
    have HY := Lib.hid (fun k L q h1 h2 => cov_yes (ps := ps) (k := k) (L := L) (q := q) h1 h2)
    have HN := Lib.hid (fun k L q h1 h2 => cov_no (ps := ps) (k := k) (L := L) (q := q) h1 h2)
    have HLEN := Lib.hid (fun k L q (h1 : covI ps k = (L, q)) => show L.length ≤ k by have := cov_len ps k; rw [h1] at this; exact this)
    have hln : (xcells A ps.length c (rowSt ps ps.length 0)).length = 13 := xcells_length _ _ _ _
    have hinf : (Tryd.prog.info? 53).map (·.size) = some (xcells A ps.length c (rowSt ps ps.length 0)).length := by rw [hln]; exact info_cross
    have HF := Lib.hid (fun k (hk : k < ps.length) x => impl_fill A ps.length c (rowSt ps ps.length 0) (rowSt_lt ps ps.length 0) (2 ^ k) x h12 (Nat.pow_lt_pow_right (by decide) hk))
    have HFL := Lib.hid (fun k (hk : k < ps.length) => fill_lt (f := rowSt ps ps.length 0) (m := 2 ^ k) (N := ps.length) (Nat.pow_lt_pow_right (by decide) hk) ps.length (Nat.le_refl _))
    have HI := Lib.hid (fun m x hx hxB hm hxw => impl_idsOf A ps.length c B ps (rowSt ps ps.length 0) m x hx hxB h12 hm hxw)
    have HCL := Lib.hid (cross_lit A ps.length c (rowSt ps ps.length 0))
    have H0 : Hid (covI ps 0 = ([], 0)) := Lib.hid rfl
    generalize (xcells A ps.length c (rowSt ps ps.length 0)) = xs at *
    generalize hfl : (fun k => fillTo (rowSt ps ps.length 0) (2 ^ k) ps.length) = fl at *
    have hfe : ∀ k, fillTo (rowSt ps ps.length 0) (2 ^ k) ps.length = fl k := fun k => by rw [← hfl]
    simp only [hfe] at HN HF HFL
    clear h hw ha hba own0 hP hBs hfl hfe
    go_enter Tryd.func29, Tryd.ntmps29
    go_wp2_with fail
    refine HC.out.mono ?_
    rw [HCL.out]
    rintro e w1 ⟨rfl, hb⟩
    have hX := heap_alloc_new w1 (.cells xs.toArray 53)
    have hB1 := (HBA.out.trans (hb.mono HBA.out.size)).alloc (Nat.le_trans HBA.out.size hb.size) (.cells xs.toArray 53)
    have hO1 := (HO.out.below hb).below ((Below.refl _ _).alloc (Nat.le_refl _) (.cells xs.toArray 53))
    have hs2 : w1.heap.size < (w1.alloc (.cells xs.toArray 53)).heap.size := by simp
    obtain ⟨w2, hw2⟩ : ∃ w2, w2 = w1.alloc (.cells xs.toArray 53) := ⟨_, rfl⟩
    rw [← hw2] at hX hB1 hs2 hO1
    rw [HCL.out] at hw2
    have hmx : Tryd.prog.follows .mixedOrders = true := by kernel_rfl
    clear hb HC HO HBA
    go_wp2
    rw [← hw2]
    clear hw2
    go_loopw [3, 6, 20] (fun v s i wr => ∃ (k q : Nat) (L : List Nat) (us : List Value), k ≤ ps.length ∧ i = .int .i64 k ∧ s = .int .u16 (q : Nat) ∧ q < 4096 ∧ covI ps k = (L, q) ∧ OwnD wr w.heap.size v us (L.map (idsM ps)) ∧ Below w.heap.size w wr ∧ wr.heap[w1.heap.size]? = some (.cells xs.toArray 53 (0, 0))) (fun _ _ i _ => ps.length - (intOf i).toNat)
    case atStart => exact ⟨0, 0, [], [], Nat.zero_le _, rfl, rfl, by decide, H0.out, hO1, hB1, hX⟩
    case round =>
      clear hO1 hB1 hX hs2 H0
      obtain ⟨k, q, L, us, hk, rfl, rfl, hq, hcv, ho, hbl, hx⟩ := hrel
      have HCV := Lib.hid hcv
      have hLl := HLEN.out k L q hcv
      have hsz := hbl.size
      clear hcv
      by_cases hlt : k < ps.length
      · have hmb := Lib.hid (fun x => impl_maskBit k x (by omega))
        have hab : bits .and .u16 (q : Int) ((2 ^ k : Nat) : Int) = ((q &&& 2 ^ k : Nat) : Int) := u16_and_nat _ _ (by omega) (bit_lt (by omega))
        have HAB := Lib.hid (and_bit q k)
        have HFK := Lib.hid (HF.out k hlt)
        have hfl := HFL.out k hlt
        have HYK := Lib.hid (fun h2 => HY.out k L q HCV.out h2)
        have HNK := Lib.hid (fun h2 => HN.out k L q HCV.out h2)
        have HX := Lib.hid hx
        have HO := Lib.hid ho
        have HBL := Lib.hid hbl
        generalize fl k = fk at *
        generalize hand : q &&& 2 ^ k = r at *
        generalize 2 ^ k = bk at *
        clear hx ho hbl
        by_cases hr : r = 0
        · have hR := range_block HX.out
          have HNN := Lib.hid (HNK.out (HAB.out.1 hr))
          subst hr
          have hob : bits .or .u16 (q : Int) (fk : Int) = ((q ||| fk : Nat) : Int) := u16_or_nat _ _ (by omega) (by omega)
          have hol := or_lt hq (show fk < 4096 by omega)
          generalize q ||| fk = y at *
          clear HAB HYK HNK hand
          go_wp2_with fail
          refine (hmb.out wr).mono ?_
          rintro e w' ⟨rfl, rfl⟩
          go_wp2
          refine wp_region_held_drew (S := fun W' => W'.rangeAt w1.heap.size 0 xs) hmx hR (fun hH => ?_)
          refine wpAnyH_take (i := 0) (v := .agg xs.toArray) rfl (by kernel_rfl) (by kernel_rfl) (by kernel_rfl) (fun _ _ _ h => h) (yieldsIf_load_mid (by rfl) 53 _ rfl w1.heap.size 0 rfl xs _ (fun _ h => h) Tryd.underlying53 rfl hinf) hH ?_
          try simp only [Act.put, List.setIfInBounds_toArray, List.set_cons_zero, List.set_cons_succ]
          refine wpAnyH_take (i := 1) (v := .int .i64 (k : Int)) rfl (by kernel_rfl) (by kernel_rfl) (by kernel_rfl) (fun _ _ _ h => h) (Or.inl ⟨by rfl, by intro w hSw; go_simp⟩) hH ?_
          try simp only [Act.put, List.setIfInBounds_toArray, List.set_cons_zero, List.set_cons_succ]
          refine wpAnyH_ready (rs := [2]) (by decide +kernel) (by simp) (AllReadyH.cons rfl (fun K hK => ?_) AllReadyH.nil)
          go_simp
          refine (hmb.out _).mono ?_
          rintro e w' ⟨rfl, rfl⟩
          go_wp2_with fail
          refine hK.out _ _ hH (fun _ => ?_)
          clear hK K
          try simp only [Act.put, List.setIfInBounds_toArray, List.set_cons_zero, List.set_cons_succ]
          refine wpAnyH_ready (rs := [3]) (by decide +kernel) (by simp) (AllReadyH.cons rfl (fun K hK => ?_) AllReadyH.nil)
          go_simp
          refine (HFK.out _).mono ?_
          rintro e w3 ⟨rfl, hb3⟩
          have hb3' : Below wr.heap.size wr w3 := ⟨hb3.os, hb3.tape, hb3.output, hb3.size, hb3.block⟩
          have HX3 := Lib.hid ((hb3'.block w1.heap.size (lt_of_block HX.out)).trans HX.out)
          have hR3 := range_block HX3.out
          have HO3 := Lib.hid (HO.out.below hb3')
          have HBL3 := Lib.hid (HBL.out.trans (hb3'.mono HBL.out.size))
          clear hb3 hb3'
          go_wp2_with fail
          refine hK.out _ _ hR3 (fun _ => ?_)
          clear hK K HX HO HBL hH hR
          try simp only [Act.put, List.setIfInBounds_toArray, List.set_cons_zero, List.set_cons_succ]
          refine wpAnyH_ready (rs := [4]) (by decide +kernel) (by simp) (AllReadyH.cons rfl (fun K hK => ?_) AllReadyH.nil)
          go_simp
          refine hK.out _ _ hR3 (fun _ => ?_)
          clear hK K
          try simp only [Act.put, List.setIfInBounds_toArray, List.set_cons_zero, List.set_cons_succ]
          refine wpAnyH_done (by decide +kernel) ?_ _
          have HIW := Lib.hid (HI.out fk w3 (HP.out.below (HBL3.out.mono hB)) (Nat.le_trans hB HBL3.out.size) hfl (HW.out.below HBL3.out (Nat.le_refl _)))
          go_wp2_with ((with_reducible show wpList _ _ _ _ _ _); refine wpList_load_mid rfl 53 _ rfl w1.heap.size 0 rfl xs _ hR3 Tryd.underlying53 rfl hinf ?_)
          refine HIW.out.mono ?_
          rintro e w4 ⟨u, rfl, hu, hb4⟩
          have HX4 := Lib.hid ((hb4.block w1.heap.size (lt_of_block HX3.out)).trans HX3.out)
          have HO4 := Lib.hid (HO3.out.below hb4)
          have HBL4 := Lib.hid (HBL3.out.trans (hb4.mono HBL3.out.size))
          have HAP : Hid (ApartL (us ++ [u])) := Lib.hid (HO3.out.apart.snoc (b := w3.heap.size) (fun x hx g hg => by
            obtain ⟨zs, hz⟩ := HO3.out.inner hx
            exact (hz.block g hg).2) (fun g hg => (hu.block g hg).1))
          have HU := Lib.hid (hu.mono HBL3.out.size)
          have hlL : (L.map (idsM ps)).length < 274877906944 := by rw [List.length_map]; omega
          have hrow := HO4.out.row
          have hs4 := HBL4.out.size
          obtain ⟨Au, cu, rfl⟩ := hu.sliced
          clear hu hb4 HX3 HO3 HBL3 hR3 HIW
          generalize hids : idsM ps fk = zs at *
          have HIDS := Lib.hid hids
          clear hids
          go_wp2_with (at_builtin; refine wpList_appR1 rfl _ _ 32 rfl 23 (.slice none 0 0) 1 24 Tryd.underlying32 info_ints rfl (by decide) (by decide) w.heap.size _ _ _ rfl hrow hlL [.slice Au zs.length cu] rfl (by simp [Value.oneCell']) _ _ w4.heap.size hs4 rfl (by simp) ?_; intro v5 w5 hr5 hgrow5 hat5)
          have hbx : Below w4.heap.size w4 (w4.alloc (.cells #[.slice Au zs.length cu] 23)) := (Below.refl _ _).alloc (Nat.le_refl _) _
          have HO5 := Lib.hid (HO4.out.put HU.out hbx hr5 hgrow5 HAP.out)
          have HBL5 := Lib.hid (ownr_push hrow (Nat.le_refl _) (HBL4.out.trans (hbx.mono HBL4.out.size)) (by simp; omega) hgrow5)
          have HX5 := Lib.hid ((hgrow5.block w1.heap.size (by have := lt_of_block HX4.out; simp; omega) (fun e => row_not (ownr_below hrow hbx) ((hbx.block w1.heap.size (lt_of_block HX4.out)).trans HX4.out) (by decide) e.symm)).trans ((hbx.block w1.heap.size (lt_of_block HX4.out)).trans HX4.out))
          have HM : Hid (L.map (idsM ps) ++ [zs] = (L ++ [fk]).map (idsM ps)) := Lib.hid (by rw [List.map_append, List.map_singleton, HIDS.out])
          clear hgrow5 hat5 hr5 hbx hrow HX4 HO4 HBL4 HU HAP hlL hs4
          go_wp2
          go_roundw
          case rel => exact ⟨k + 1, y, L ++ [fk], us ++ [.slice Au zs.length cu], by omega, by go_num, rfl, hol, HNN.out, by rw [← HM.out]; exact HO5.out, HBL5.out, HX5.out⟩
          case measure => simp [intOf]; omega
        · have HYY := Lib.hid (HYK.out (by
            cases hb : q.testBit k
            · exact absurd (HAB.out.2 hb) hr
            · rfl))
          have hne : ((r : Int) == 0) = false := by simp; omega
          clear HAB HYK HNK hand
          go_wp2_with fail
          refine (hmb.out wr).mono ?_
          rintro e w' ⟨rfl, rfl⟩
          go_wp2
          go_roundw
          case rel => exact ⟨k + 1, q, L, us, by omega, by go_num, rfl, hq, HYY.out, HO.out, HBL.out, HX.out⟩
          case measure => simp [intOf]; omega
      · obtain rfl : k = ps.length := by omega
        have HRR : Hid (coverP ps = L.map (idsM ps)) := Lib.hid (by rw [HR.out, HCV.out])
        go_wp2
        go_ret
        exact ⟨_, rfl, ⟨us, by rw [HRR.out]; exact ho⟩, hbl⟩
end Go.Proofs.YteilcbmpmeggcabDoor
