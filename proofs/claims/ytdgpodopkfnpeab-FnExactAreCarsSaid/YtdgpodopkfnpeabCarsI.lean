/- Chapter 25: AreCars of the program. -/
import Derived.Test.YtdgpodopkfnpeabCars
namespace Go.Proofs.Ytdgpodopkfnpeab
open Go.RowKit
set_option linter.unusedVariables false

set_option maxHeartbeats 2000000 in
set_option maxRecDepth 100000 in
theorem impl_isOn (x : Cr) (A : Option Addr) (n c B : Nat) (ls : List Stt) (w : World) (h : SttsAt w B A n ls) (hB : B ≤ w.heap.size) (hn : n ≤ 4294967296) :
    Calls Try.prog 81 #[x.val, .slice A n c] w fun e w' => e = .returned (.bool (carOn ls x)) ∧ Below w.heap.size w w' := by
  have hl := h.1
  have HC1 : Hid (inB x.street 0 ((n : Int) - 1) = false → carOn ls x = false) := Lib.hid (fun h => carOn1 (by rw [hl]; exact h))
  have HC2 : Hid (∀ (s : Stt) (j : Nat), x.street = j → ls[j]? = some s → inB x.left 0 s.secs = false → carOn ls x = false) := Lib.hid (fun s j h1 h2 h3 => carOn2 h1 h2 h3)
  have HC3 : Hid (inB x.path 1 20 = false → carOn ls x = false) := Lib.hid carOn3
  have HC4 : Hid (∀ (s : Stt) (j : Nat), x.street = j → ls[j]? = some s → inB x.street 0 ((n : Int) - 1) = true → inB x.left 0 s.secs = true → inB x.path 1 20 = true → carOn ls x = true) := Lib.hid (fun s j h1 h2 h3 h4 h5 => carOn4 h1 h2 (by rw [hl]; exact h3) h4 h5)
  generalize carOn ls x = v at *
  have hwn : IntKind.i64.wrap ((n : Int) - 1) = (n : Int) - 1 := by rw [IntKind.wrap_i64]; omega
  obtain ⟨wA, hwA⟩ : ∃ wA, wA = w.alloc (.cells #[.int .i64 x.id, .int .i64 x.street, .int .i64 x.left, .int .i64 x.path] 110) := ⟨_, rfl⟩
  obtain ⟨hk0, hszA, acc⟩ := one_block hwA
  have bx : CrAt wA ⟨w.heap.size, 0, none⟩ x := cr_of_block hk0
  have ltx : w.heap.size < wA.heap.size := by omega
  have y1 := fun y : GW wA => (cr_head (bx.below y.ok ltx)).2.1
  have y2 := fun y : GW wA => (cr_head (bx.below y.ok ltx)).2.2.1
  have y3 := fun y : GW wA => (cr_head (bx.below y.ok ltx)).2.2.2
  have hl2 := fun y : GW wA => impl_InRange x.street 0 ((n : Int) - 1) y.val
  have hl4 := fun y : GW wA => impl_InRange x.path 1 20 y.val
  simp only [Cr.val]
  clear hk0 bx hl
  cases g2 : inB x.street 0 ((n : Int) - 1)
  · have HV := Lib.hid (HC1.out g2)
    rw [g2] at hl2
    clear g2 hl4 HC1 HC2 HC3 HC4
    go_enter Try.func81, Try.ntmps81
    go_wp2
    rw [← hwA]
    clear hwA
    refine wp_region_grow (by kernel_rfl) (by kernel_rfl) ?_
    repeat (go_big_quiet_step (first | (go_at_call 80; first | with_reducible exact calls_gw_same _ (hl2 _))))
    refine wpQuiet_nil ?_
    intro x3
    have hb3 := x3.ok
    generalize x3.val = w3 at *
    go_wp2
    go_ret
    exact ⟨by rw [HV.out]; rfl, acc.trans (hb3.mono acc.size)⟩
  obtain ⟨r1, r2⟩ := inB_t g2
  obtain ⟨j, hj⟩ : ∃ j : Nat, x.street = j := ⟨x.street.toNat, by omega⟩
  obtain ⟨ad, s, rfl, habs, hxs, hqs⟩ := h.at (k := j) (by omega)
  have hz := fun y : GW wA => ((hqs.below acc (by omega)).below y.ok (by have := acc.size; omega)).c2
  have HXS := Lib.hid hxs
  have HJ := Lib.hid hj
  have hl3 := fun y : GW wA => impl_InRange x.left 0 s.secs y.val
  have j1 : (0 : Int) ≤ (j : Int) := by omega
  have j2 : (j : Int) < (n : Int) := by omega
  have g2' := g2
  rw [g2] at hl2
  rw [hj] at hl2 y1
  clear hj hxs hqs g2 r1 r2
  cases g3 : inB x.left 0 s.secs
  · have HV := Lib.hid (HC2.out s j HJ.out HXS.out g3)
    rw [g3] at hl3
    clear g2' g3 hl4 HC1 HC2 HC3 HC4
    go_enter Try.func81, Try.ntmps81
    go_wp2
    rw [← hwA]
    clear hwA
    refine wp_region_grow (by kernel_rfl) (by kernel_rfl) ?_
    repeat (go_big_quiet_step (first | (go_at_call 80; first | with_reducible exact calls_gw_same _ (hl2 _) | with_reducible exact calls_gw_same _ (hl3 _))))
    refine wpQuiet_nil ?_
    intro x3
    have hb3 := x3.ok
    generalize x3.val = w3 at *
    go_wp2
    go_ret
    exact ⟨by rw [HV.out]; rfl, acc.trans (hb3.mono acc.size)⟩
  cases g4 : inB x.path 1 20
  · have HV := Lib.hid (HC3.out g4)
    rw [g3] at hl3
    rw [g4] at hl4
    clear g2' g3 g4 HC1 HC2 HC3 HC4
    go_enter Try.func81, Try.ntmps81
    go_wp2
    rw [← hwA]
    clear hwA
    refine wp_region_grow (by kernel_rfl) (by kernel_rfl) ?_
    repeat (go_big_quiet_step (first | (go_at_call 80; first | with_reducible exact calls_gw_same _ (hl2 _) | with_reducible exact calls_gw_same _ (hl3 _) | with_reducible exact calls_gw_same _ (hl4 _))))
    refine wpQuiet_nil ?_
    intro x3
    have hb3 := x3.ok
    generalize x3.val = w3 at *
    go_wp2
    go_ret
    exact ⟨by rw [HV.out]; rfl, acc.trans (hb3.mono acc.size)⟩
  · have HV := Lib.hid (HC4.out s j HJ.out HXS.out g2' g3 g4)
    rw [g3] at hl3
    rw [g4] at hl4
    clear g2' g3 g4 HC1 HC2 HC3 HC4
    go_enter Try.func81, Try.ntmps81
    go_wp2
    rw [← hwA]
    clear hwA
    refine wp_region_grow (by kernel_rfl) (by kernel_rfl) ?_
    repeat (go_big_quiet_step (first | (go_at_call 80; first | with_reducible exact calls_gw_same _ (hl2 _) | with_reducible exact calls_gw_same _ (hl3 _) | with_reducible exact calls_gw_same _ (hl4 _))))
    refine wpQuiet_nil ?_
    intro x3
    have hb3 := x3.ok
    generalize x3.val = w3 at *
    go_wp2
    go_ret
    exact ⟨by rw [HV.out]; rfl, acc.trans (hb3.mono acc.size)⟩
set_option maxHeartbeats 2000000 in
theorem impl_AreCars (A : Option Addr) (n c B : Nat) (ls : List Stt) (A2 : Option Addr) (n2 c2 B2 : Nat) (zs : List Cr) (w : World) (h : SttsAt w B A n ls) (h2 : CrsAt w B2 A2 n2 zs) (hB : B ≤ w.heap.size) (hB2 : B2 ≤ w.heap.size) (hn : n ≤ 4294967296) (hn2 : n2 ≤ 4294967296) (hnc : n ≤ c) :
    Calls Try.prog 37 #[.slice A n c, .slice A2 n2 c2] w fun e w' => e = .returned (.bool (areC ls zs)) ∧ Below w.heap.size w w' := by
  have hl2 := h2.1
  have hst := impl_AreStreets A n c B ls w h hB hn hnc
  cases hs : areS ls
  · rw [hs] at hst
    have HV := Lib.hid (areC_st (zs := zs) hs)
    clear hs
    go_enter Try.func37, Try.ntmps37
    go_wp2_with fail
    refine hst.mono ?_
    rintro e w1 ⟨rfl, hb1⟩
    go_wp2
    go_ret
    exact ⟨by rw [HV.out]; rfl, hb1⟩
  rw [hs] at hst
  by_cases h30 : 30 < n2
  · have HV := Lib.hid (areC_long (ls := ls) (zs := zs) (by omega))
    have e1 : (n2 : Int) > 30 := by omega
    clear hs
    go_enter Try.func37, Try.ntmps37
    go_wp2_with fail
    refine hst.mono ?_
    rintro e w1 ⟨rfl, hb1⟩
    go_wp2
    go_ret
    exact ⟨by rw [HV.out]; rfl, hb1⟩
  have e1 : ¬ (n2 : Int) > 30 := by omega
  have HEND : Hid ((∀ i, i < n2 → goodC ls zs i = true) → areC ls zs = true) := Lib.hid (fun hg => by rw [areC_end hs (fun i hi => hg i (by omega)), hl2, decide_eq_true (by omega)])
  have HNO : Hid (∀ i, i < n2 → goodC ls zs i = false → areC ls zs = false) := Lib.hid (fun i hi hg => areC_no (by omega) hg)
  clear hs hl2
  go_enter Try.func37, Try.ntmps37
  go_wp2_with fail
  refine hst.mono ?_
  rintro e w1 ⟨rfl, hb1⟩
  clear hst
  go_wp2
  go_loopw [5, 18] (fun v i wr => ∃ k : Nat, k ≤ n2 ∧ i = .int .i64 k ∧ v = .int .i64 (lastC zs k) ∧ (∀ j, j < k → goodC ls zs j = true) ∧ Below w.heap.size w wr) (fun _ i _ => n2 - (intOf i).toNat)
  case atStart => exact ⟨0, Nat.zero_le _, rfl, rfl, fun j hj => absurd hj (by omega), hb1⟩
  case round =>
    clear hb1
    obtain ⟨k, hk, rfl, rfl, hgo, hbl⟩ := hrel
    have hsz := hbl.size
    obtain ⟨b1, b2⟩ := lastC_bound hgo
    have HG := Lib.hid hgo
    clear hgo
    by_cases hlt : k < n2
    · obtain ⟨ad2, x, rfl, hab, hx, hq⟩ := h2.at hlt
      obtain ⟨c0, c1, c2, c3⟩ := hq.below hbl (by omega)
      have i1 : (0 : Int) ≤ (k : Int) := by omega
      have i2 : (k : Int) < (n2 : Int) := by omega
      have HEQ : Hid (goodC ls zs k = (inB x.id (lastC zs k + 1) 999 && carOn ls x)) := Lib.hid (by rw [goodC_eq b1, crA_some hx])
      have HNX : Hid (lastC zs (k + 1) = x.id) := Lib.hid (by unfold lastC; rw [if_neg (by omega), Nat.add_sub_cancel, crA_some hx])
      have HNK := Lib.hid (HNO.out k hlt)
      have HB := Lib.hid hbl
      have hba := hbl.alloc hsz (.cells #[.int .i64 x.id, .int .i64 x.street, .int .i64 x.left, .int .i64 x.path] 110)
      have hon := impl_isOn x A n c B ls _ (h.below (hba.mono hB)) (by have := hba.size; omega) hn
      simp only [Cr.val] at hon
      have HBA := Lib.hid hba
      generalize lastC zs k = q at *
      clear hx hq hbl hba
      cases g1 : inB x.id (q + 1) 999
      · have HV := Lib.hid (HNK.out (by rw [HEQ.out, g1]; rfl))
        have G1 := Lib.hid g1
        clear g1 hon
        go_wp2_with (go_at_call 80; refine (impl_InRange _ _ _ _).mono ?_; rintro e w' ⟨rfl, rfl⟩; rw [G1.out])
        go_ret
        exact ⟨by rw [HV.out]; rfl, HBA.out⟩
      cases g2 : carOn ls x
      · have HV := Lib.hid (HNK.out (by rw [HEQ.out, g2, Bool.and_false]))
        have G1 := Lib.hid g1
        rw [g2] at hon
        clear g1 g2
        go_wp2_with (go_at_call 80; refine (impl_InRange _ _ _ _).mono ?_; rintro e w' ⟨rfl, rfl⟩; rw [G1.out])
        refine hon.mono ?_
        rintro e w3 ⟨rfl, hb3⟩
        have HB3 := Lib.hid (HBA.out.trans (hb3.mono HBA.out.size))
        clear hon hb3
        go_wp2
        go_ret
        exact ⟨by rw [HV.out]; rfl, HB3.out⟩
      · have HGK : Hid (∀ j, j < k + 1 → goodC ls zs j = true) := Lib.hid (fun j hj => by
          by_cases e : j = k
          · subst e; rw [HEQ.out, g1, g2]; rfl
          · exact HG.out j (by omega))
        have G1 := Lib.hid g1
        rw [g2] at hon
        clear g1 g2
        have d0 := fun w' (hb : Below (wr.heap.size + 1) (wr.alloc (.cells #[.int .i64 x.id, .int .i64 x.street, .int .i64 x.left, .int .i64 x.path] 110)) w') => (hb.cell (p := ⟨wr.heap.size, 0, none⟩) (by simp only; omega)).trans (show _ = some (.int .i64 x.id) by go_simp)
        have D0 := Lib.hid d0
        clear d0
        go_wp2_with (go_at_call 80; refine (impl_InRange _ _ _ _).mono ?_; rintro e w' ⟨rfl, rfl⟩; rw [G1.out])
        refine hon.mono ?_
        rintro e w3 ⟨rfl, hb3⟩
        have HB3 := Lib.hid (HBA.out.trans (hb3.mono HBA.out.size))
        have e0 := D0.out w3 (hb3.mono (by simp))
        clear hon hb3 D0
        go_wp2
        go_roundw
        case rel => exact ⟨k + 1, by omega, by go_num, by rw [HNX.out], HGK.out, HB3.out⟩
        case measure => simp [intOf]; omega
    · obtain rfl : k = n2 := by omega
      have HR := Lib.hid (HEND.out HG.out)
      go_wp2
      go_ret
      exact ⟨by rw [HR.out]; rfl, hbl⟩
end Go.Proofs.Ytdgpodopkfnpeab
