/- Chapter 6's model: CoverOf. -/
import Derived.Test.YteilcbmpmeggcabDoorSS
namespace Go.Proofs.YteilcbmpmeggcabDoor
open Go.RowKit
set_option linter.unusedVariables false

theorem addS_one (ps : List Pth) (x : Int) : (addS ps [x]).length ≤ 1 + ps.length := by
  have := addS_length ps [x]
  rw [List.length_singleton] at this
  exact this
set_option maxHeartbeats 2000000 in
set_option maxRecDepth 100000 in
theorem spec_CoverOf (A : Option Addr) (n c B : Nat) (ps : List Pth) (w : World) (h : PthsAt w B A n ps) (hB : B ≤ w.heap.size) (hn : n ≤ 2147483647) :
    Calls Tryd.prog 28 #[.slice A n c] w fun e w' => ∃ v, e = .returned v ∧ OwnSS w' w.heap.size v (coverP ps) ∧ Below w.heap.size w w' := by
  have hl := h.1
  go_enter Tryd.func28, Tryd.ntmps28
  go_wp2
  go_loopw [3, 4, 5] (fun v d i wr => ∃ j : Nat, j ≤ n ∧ i = .int .i64 j ∧ OwnSS wr w.heap.size v (coverTo ps j).1 ∧ Own .i64 3 wr w.heap.size d (coverTo ps j).2 ∧ (0 < j → arePs ps = true) ∧ Below w.heap.size w wr) (fun _ _ i _ => n - (intOf i).toNat)
  case atStart =>
    exact ⟨0, Nat.zero_le _, rfl, OwnSS.hollow (by (simp only [alloc_heap, drew_heap, Array.getElem?_push, Array.size_push]; (repeat first | rw [if_neg (by omega)] | rw [if_pos (by omega)])); simp) (by (first | omega | (simp only [alloc_heap, drew_heap, Array.size_push]; omega))), own_hollow (by (simp only [alloc_heap, drew_heap, Array.getElem?_push, Array.size_push]; (repeat first | rw [if_neg (by omega)] | rw [if_pos (by omega)])); simp) (by (first | omega | (simp only [alloc_heap, drew_heap, Array.size_push]; omega))), fun hj => absurd hj (by omega), by exact ⟨rfl, rfl, rfl, by (first | omega | (simp only [alloc_heap, drew_heap, Array.size_push]; omega)), fun i hi => by (simp only [alloc_heap, drew_heap, Array.getElem?_push, Array.size_push]; (repeat first | rw [if_neg (by omega)] | rw [if_pos (by omega)]))⟩⟩
  case round =>
    obtain ⟨j, hj, rfl, hout, hdone, hgo, hbl⟩ := hrel
    have hsz := hbl.size
    have HG := Lib.hid hgo
    clear hgo
    by_cases hlt : j < n
    · go_wp2_with fail
      refine (spec_ArePaths A n c B ps wr (h.below (hbl.mono hB)) (by omega) (by omega)).mono ?_
      rintro e w1 ⟨rfl, hb1⟩
      replace hout := hout.below hb1
      replace hdone := hdone.below hb1
      replace hbl := hbl.trans (hb1.mono hsz)
      replace hsz := hbl.size
      clear hb1
      cases ha : arePs ps
      · have hj0 : j = 0 := by
          have := HG.out
          rw [ha] at this
          by_cases e : 0 < j
          · cases this e
          · omega
        have HR : Hid (coverP ps = (coverTo ps 0).1) := Lib.hid (by unfold coverP; rw [ha]; rfl)
        subst hj0
        clear ha HG
        go_wp2
        go_ret
        exact ⟨_, rfl, by rw [HR.out]; exact hout, hbl⟩
      · have HA := Lib.hid ha
        have h12 := arePs_len ha
        clear ha
        obtain ⟨hlo, hld⟩ := coverTo_len ps j
        have hld2 : (coverTo ps j).2.length ≤ 12 * 13 := Nat.le_trans hld (Nat.mul_le_mul (by omega) (by omega))
        clear hld
        obtain ⟨ad, p, rfl, hab, hp, hq⟩ := h.at hlt
        have HP : Hid (pAt ps j = p) := Lib.hid (pAt_some hp)
        have c0 := (hq.below hbl (by omega)).c0
        have HC : Hid (coverTo ps (j + 1) = if hasI (coverTo ps j).2 p.id then coverTo ps j else ((coverTo ps j).1 ++ [addS ps [p.id]], (addS ps [p.id]).foldl putI (coverTo ps j).2)) := Lib.hid (by show (if hasI (coverTo ps j).2 (pAt ps j).id then _ else _) = _; rw [HP.out])
        have HQ := Lib.hid hq
        clear hp hq
        obtain ⟨Ad, cd, rfl⟩ := hdone.sliced
        go_wp2_with fail
        refine (spec_l6Has Ad _ cd _ _ p.id w1 hdone.ints (by omega)).mono ?_
        rintro e w2 ⟨rfl, rfl⟩
        cases hh : hasI (coverTo ps j).2 p.id
        · have HS : Hid (coverTo ps (j + 1) = ((coverTo ps j).1 ++ [addS ps [p.id]], (addS ps [p.id]).foldl putI (coverTo ps j).2)) := Lib.hid (by rw [HC.out, hh]; rfl)
          clear hh HC
          generalize (coverTo ps j).2 = done at *
          generalize (coverTo ps j).1 = out at *
          have own1 : Own .i64 3 (w1.alloc (.cells #[.int .i64 p.id] 3)) w1.heap.size (.slice (some ⟨w1.heap.size, 0, none⟩) 1 1) [p.id] := own_lit w1 [p.id] 1 (Nat.le_refl _) (by decide) rfl
          have hba : Below w1.heap.size w1 (w1.alloc (.cells #[.int .i64 p.id] 3)) := (Below.refl _ _).alloc (Nat.le_refl _) _
          have hi1 := own1.ints
          have hl1 := addS_one ps p.id
          go_wp2_with fail
          refine (spec_AddToStage (some ad) n c B ps _ 1 1 _ [p.id] _ ((h.below (hbl.mono hB)).below (hba.mono (by omega))) hi1 (by (first | omega | (simp only [alloc_heap, drew_heap, Array.size_push]; omega))) (Nat.le_refl _) (by omega) (by decide) (by decide) (by simp)).mono ?_
          rintro e w3 ⟨s, rfl, hs3, hb3⟩
          have hbl3 := hbl.trans ((hba.trans (hb3.mono (by (first | omega | (simp only [alloc_heap, drew_heap, Array.size_push]; omega))))).mono hsz)
          have hs3' := hs3.mono (lo' := w.heap.size) (by (first | omega | (simp only [alloc_heap, drew_heap, Array.size_push]; omega)))
          have hout3 := (hout.below hba).below hb3
          have hdone3 := (hdone.below hba).below hb3
          have hsz3 := hbl3.size
          clear hs3 hb3 own1 hba hi1 hout hdone hbl
          generalize addS ps [p.id] = l at *
          obtain ⟨As, cs, rfl⟩ := hs3'.sliced
          obtain ⟨vs, hr, hi⟩ := hout3
          go_wp2_with (at_builtin; refine wpList_appR1 rfl _ _ 32 rfl 23 (.slice none 0 0) 1 24 Tryd.underlying32 info_ints rfl (by decide) (by decide) w.heap.size _ _ _ rfl hr (by omega) [.slice As l.length cs] rfl (by simp [Value.oneCell']) _ _ w3.heap.size hsz3 rfl (by simp) ?_; intro v4 w4 hr4 hgrow4 hat4)
          have hbx : Below w3.heap.size w3 (w3.alloc (.cells #[.slice As l.length cs] 23)) := (Below.refl _ _).alloc (Nat.le_refl _) _
          have hout4 := OwnSS.put vs hr hi hs3' hbx hr4 hgrow4
          have hs4 := (hs3'.below hbx).grown hgrow4 (own_apart (hs3'.below hbx) (ownr_below hr hbx))
          have hdone4 := (hdone3.below hbx).grown hgrow4 (own_apart (hdone3.below hbx) (ownr_below hr hbx))
          have hbl4 := ownr_push hr (Nat.le_refl _) (hbl3.trans (hbx.mono hsz3)) (by (first | omega | (simp only [alloc_heap, drew_heap, Array.size_push]; omega))) hgrow4
          have hsz4 := hbl4.size
          clear hgrow4 hat4 hr4 hbx hr hi hs3' hdone3 hbl3
          go_wp2
          go_loopw [4, 7] (fun d i wr => ∃ k : Nat, k ≤ l.length ∧ i = .int .i64 k ∧ Own .i64 3 wr w.heap.size d ((l.take k).foldl putI done) ∧ OwnSS wr w.heap.size v4 (out ++ [l]) ∧ Own .i64 3 wr w.heap.size (.slice As l.length cs) l ∧ Below w.heap.size w wr) (fun _ i _ => l.length - (intOf i).toNat)
          case atStart => exact ⟨0, Nat.zero_le _, rfl, hdone4, hout4, hs4, hbl4⟩
          case round =>
            clear hdone4 hout4 hs4 hbl4 hsz4 hsz3 c0 hsz
            obtain ⟨k, hk, rfl, hd, hout, hs, hbl⟩ := hrel
            have hsz := hbl.size
            by_cases hlt2 : k < l.length
            · have hdl := foldl_putI_length (l.take k) done
              rw [List.length_take] at hdl
              obtain ⟨ad2, rfl, hab2, hcell⟩ := hs.ints.2 (by omega)
              have hcw := hcell k hlt2
              have HF : Hid ((l.take (k + 1)).foldl putI done = putI ((l.take k).foldl putI done) (l.getD k 0)) := Lib.hid (by rw [List.take_add_one, List.foldl_append, List.getElem?_eq_getElem hlt2, List.getD_eq_getElem?_getD, List.getElem?_eq_getElem hlt2]; rfl)
              clear hcell
              generalize l.getD k 0 = z at *
              generalize (l.take k).foldl putI done = d at *
              obtain ⟨Ad, cd, rfl⟩ := hd.sliced
              go_wp2_with fail
              refine (spec_l6Put Ad _ cd _ d z wr hd.ints (Nat.le_refl _) (by omega) hd.cap.1 hd.nilcap').mono ?_
              rintro e w5 ⟨d5, rfl, hd5, hb5⟩
              replace hd5 := hd5.mono hsz
              replace hout := hout.below hb5
              replace hs := hs.below hb5
              replace hbl := hbl.trans (hb5.mono hsz)
              clear hd hb5
              go_wp2
              go_roundw
              case rel => exact ⟨k + 1, by omega, by go_num, by rw [HF.out]; exact hd5, hout, hs, hbl⟩
              case measure => simp [intOf]; omega
            · obtain rfl : k = l.length := by omega
              rw [List.take_of_length_le (Nat.le_refl _)] at hd
              go_wp2
              go_roundw
              case rel => exact ⟨j + 1, by omega, by go_num, by rw [HS.out]; exact hout, by rw [HS.out]; exact hd, fun _ => HA.out, hbl⟩
              case measure => simp [intOf]; omega
        · have HS : Hid (coverTo ps (j + 1) = coverTo ps j) := Lib.hid (by rw [HC.out, hh]; rfl)
          clear hh HC
          go_wp2
          go_roundw
          case rel => exact ⟨j + 1, by omega, by go_num, by rw [HS.out]; exact hout, by rw [HS.out]; exact hdone, fun _ => HA.out, hbl⟩
          case measure => simp [intOf]; omega
    · obtain rfl : j = n := by omega
      have HR : Hid (coverP ps = (coverTo ps j).1) := Lib.hid (by
        unfold coverP
        cases ha : arePs ps
        · by_cases e : 0 < j
          · rw [HG.out e] at ha; cases ha
          · obtain rfl : j = 0 := by omega
            rfl
        · rw [hl]; rfl)
      go_wp2
      go_ret
      exact ⟨_, rfl, by rw [HR.out]; exact hout, hbl⟩
end Go.Proofs.YteilcbmpmeggcabDoor
