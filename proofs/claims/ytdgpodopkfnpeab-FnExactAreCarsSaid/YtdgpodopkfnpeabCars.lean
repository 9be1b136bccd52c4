/- Chapter 25: AreCars: program and model. -/
import Derived.Test.YtdgpodopkfnpeabStrtI
import Derived.Test.YtdgpodopkfnpeabCr
import Derived.Test.YtdgpodopkfnpeabGrow
namespace Go.Proofs.Ytdgpodopkfnpeab
open Go.RowKit
set_option linter.unusedVariables false

def crA (zs : List Cr) (k : Nat) : Cr := zs.getD k ⟨0, 0, 0, 0⟩
theorem crA_some {zs : List Cr} {k : Nat} {x : Cr} (h : zs[k]? = some x) : crA zs k = x := by unfold crA; rw [List.getD_eq_getElem?_getD, h]; rfl
/-- whether a car, with any Id, is on one of the streets. -/
def carOn (ls : List Stt) (x : Cr) : Bool := inB x.street 0 ((ls.length : Int) - 1) && (inB x.left 0 (sttA ls x.street.toNat).secs && inB x.path 1 20)
def goodC (ls : List Stt) (zs : List Cr) (k : Nat) : Bool := inB (crA zs k).id 1 999 && carOn ls (crA zs k) && (decide (k = 0) || decide ((crA zs (k - 1)).id < (crA zs k).id))
/-- what AreCars answers. -/
def areC (ls : List Stt) (zs : List Cr) : Bool := areS ls && (decide (zs.length ≤ 30) && (List.range zs.length).all (goodC ls zs))
theorem areC_no {ls : List Stt} {zs : List Cr} {k : Nat} (hk : k < zs.length) (h : goodC ls zs k = false) : areC ls zs = false := by
  unfold areC
  rw [List.all_eq_false.2 ⟨k, List.mem_range.2 hk, by rw [h]; simp⟩, Bool.and_false, Bool.and_false]
theorem areC_end {ls : List Stt} {zs : List Cr} (hs : areS ls = true) (h : ∀ i, i < zs.length → goodC ls zs i = true) : areC ls zs = decide (zs.length ≤ 30) := by
  unfold areC
  rw [hs, List.all_eq_true.2 (fun i hi => h i (List.mem_range.1 hi)), Bool.and_true, Bool.true_and]
theorem areC_st {ls : List Stt} {zs : List Cr} (hs : areS ls = false) : areC ls zs = false := by unfold areC; rw [hs, Bool.false_and]
theorem areC_long {ls : List Stt} {zs : List Cr} (h : 30 < zs.length) : areC ls zs = false := by unfold areC; rw [decide_eq_false (by omega), Bool.false_and, Bool.and_false]
theorem goodC_id {ls : List Stt} {zs : List Cr} {k : Nat} {x : Cr} (hx : zs[k]? = some x) (h : inB x.id 1 999 = false) : goodC ls zs k = false := by unfold goodC; rw [crA_some hx, h, Bool.false_and, Bool.false_and]
theorem goodC_on {ls : List Stt} {zs : List Cr} {k : Nat} {x : Cr} (hx : zs[k]? = some x) (h : carOn ls x = false) : goodC ls zs k = false := by unfold goodC; rw [crA_some hx, h, Bool.and_false, Bool.false_and]
theorem goodC_first {ls : List Stt} {zs : List Cr} {x : Cr} (hx : zs[0]? = some x) (h : inB x.id 1 999 = true) (h2 : carOn ls x = true) : goodC ls zs 0 = true := by unfold goodC; rw [crA_some hx, h, h2]; rfl
theorem goodC_next {ls : List Stt} {zs : List Cr} {k : Nat} {x p : Cr} (hx : zs[k + 1]? = some x) (hp : zs[k]? = some p) (h : inB x.id 1 999 = true) (h2 : carOn ls x = true) : goodC ls zs (k + 1) = decide (p.id < x.id) := by
  unfold goodC
  rw [crA_some hx, h, h2, Nat.add_sub_cancel, crA_some hp, decide_eq_false (by omega)]
  simp
theorem carOn1 {ls : List Stt} {x : Cr} (h : inB x.street 0 ((ls.length : Int) - 1) = false) : carOn ls x = false := by unfold carOn; rw [h, Bool.false_and]
theorem carOn2 {ls : List Stt} {x : Cr} {s : Stt} {j : Nat} (hj : x.street = j) (hs : ls[j]? = some s) (h : inB x.left 0 s.secs = false) : carOn ls x = false := by
  unfold carOn
  rw [hj, Int.toNat_natCast, sttA_some hs, h, Bool.false_and, Bool.and_false]
theorem carOn3 {ls : List Stt} {x : Cr} (h : inB x.path 1 20 = false) : carOn ls x = false := by unfold carOn; rw [h, Bool.and_false, Bool.and_false]
theorem carOn4 {ls : List Stt} {x : Cr} {s : Stt} {j : Nat} (hj : x.street = j) (hs : ls[j]? = some s) (h1 : inB x.street 0 ((ls.length : Int) - 1) = true) (h : inB x.left 0 s.secs = true) (h3 : inB x.path 1 20 = true) : carOn ls x = true := by
  unfold carOn
  rw [h1, h3, hj, Int.toNat_natCast, sttA_some hs, h]
  rfl
/-- the Id before the k-th one. -/
def lastC (zs : List Cr) (k : Nat) : Int := if k = 0 then 0 else (crA zs (k - 1)).id
theorem goodC_eq {ls : List Stt} {zs : List Cr} {k : Nat} (h : 0 ≤ lastC zs k) : goodC ls zs k = (inB (crA zs k).id (lastC zs k + 1) 999 && carOn ls (crA zs k)) := by
  have e : inB (crA zs k).id (lastC zs k + 1) 999 = (inB (crA zs k).id 1 999 && (decide (k = 0) || decide ((crA zs (k - 1)).id < (crA zs k).id))) := by
    unfold lastC at h ⊢
    by_cases hk : k = 0
    · rw [if_pos hk, decide_eq_true hk]; simp
    · rw [if_neg hk] at h ⊢
      rw [decide_eq_false hk, Bool.false_or]
      generalize (crA zs (k - 1)).id = a at *
      generalize (crA zs k).id = b
      unfold inB
      by_cases h1 : a < b
      · rw [decide_eq_true h1, Bool.and_true]
        by_cases h2 : b ≤ 999
        · simp [h2]; constructor <;> omega
        · simp [h2]
      · rw [decide_eq_false h1, Bool.and_false]
        simp
        omega
  rw [e]
  unfold goodC
  generalize inB (crA zs k).id 1 999 = p
  generalize carOn ls (crA zs k) = q
  generalize (decide (k = 0) || decide ((crA zs (k - 1)).id < (crA zs k).id)) = r
  cases p <;> cases q <;> cases r <;> rfl
theorem lastC_bound {ls : List Stt} {zs : List Cr} : ∀ {k : Nat}, (∀ j, j < k → goodC ls zs j = true) → 0 ≤ lastC zs k ∧ lastC zs k ≤ 999
  | 0, _ => by simp [lastC]
  | k + 1, h => by
    have h1 := h k (by omega)
    show 0 ≤ (if k + 1 = 0 then 0 else (crA zs (k + 1 - 1)).id) ∧ (if k + 1 = 0 then 0 else (crA zs (k + 1 - 1)).id) ≤ 999
    rw [if_neg (by omega), Nat.add_sub_cancel]
    unfold goodC at h1
    rw [Bool.and_eq_true, Bool.and_eq_true] at h1
    have := inB_t h1.1.1
    omega
set_option maxHeartbeats 4000000 in
set_option maxRecDepth 100000 in
theorem spec_AreCars (A : Option Addr) (n c B : Nat) (ls : List Stt) (A2 : Option Addr) (n2 c2 B2 : Nat) (zs : List Cr) (w : World) (h : SttsAt w B A n ls) (h2 : CrsAt w B2 A2 n2 zs) (hB : B ≤ w.heap.size) (hB2 : B2 ≤ w.heap.size) (hn : n ≤ 4294967296) (hn2 : n2 ≤ 4294967296) :
    Calls Try.prog 35 #[.slice A n c, .slice A2 n2 c2] w fun e w' => e = .returned (.bool (areC ls zs)) ∧ Below w.heap.size w w' := by
  have hl := h.1
  have hl2 := h2.1
  have hst := spec_AreStreets A n c B ls w h hB hn
  cases hs : areS ls
  · rw [hs] at hst
    have HV := Lib.hid (areC_st (zs := zs) hs)
    clear hs
    go_enter Try.func35, Try.ntmps35
    go_wp2_with fail
    refine hst.mono ?_
    rintro e w1 ⟨rfl, hb1⟩
    go_wp2
    go_ret
    exact ⟨by rw [HV.out]; rfl, hb1⟩
  have HEND : Hid ((∀ i, i < n2 → goodC ls zs i = true) → areC ls zs = decide (n2 ≤ 30)) := Lib.hid (fun hg => by rw [areC_end hs (fun i hi => hg i (by omega)), hl2])
  have HNO : Hid (∀ i, i < n2 → goodC ls zs i = false → areC ls zs = false) := Lib.hid (fun i hi hg => areC_no (by omega) hg)
  have HC1 : Hid (∀ x : Cr, inB x.street 0 ((n : Int) - 1) = false → carOn ls x = false) := Lib.hid (fun x h => carOn1 (by rw [hl]; exact h))
  have HC4 : Hid (∀ (x : Cr) (s : Stt) (j : Nat), x.street = j → ls[j]? = some s → inB x.street 0 ((n : Int) - 1) = true → inB x.left 0 s.secs = true → inB x.path 1 20 = true → carOn ls x = true) := Lib.hid (fun x s j h1 h2 h3 h4 h5 => carOn4 h1 h2 (by rw [hl]; exact h3) h4 h5)
  rw [hs] at hst
  have hwn : IntKind.i64.wrap ((n : Int) - 1) = (n : Int) - 1 := by rw [IntKind.wrap_i64]; omega
  clear hs hl2
  go_enter Try.func35, Try.ntmps35
  go_wp2_with fail
  refine hst.mono ?_
  rintro e w1 ⟨rfl, hb1⟩
  clear hst
  go_wp2
  go_loopw [5] (fun i wr => ∃ k : Nat, k ≤ n2 ∧ i = .int .i64 k ∧ (∀ j, j < k → goodC ls zs j = true) ∧ Below w.heap.size w wr) (fun i _ => n2 - (intOf i).toNat)
  case atStart => exact ⟨0, Nat.zero_le _, rfl, fun j hj => absurd hj (by omega), hb1⟩
  case round =>
    clear hb1
    obtain ⟨k, hk, rfl, hgo, hbl⟩ := hrel
    have hsz := hbl.size
    have HG := Lib.hid hgo
    clear hgo
    by_cases hlt : k < n2
    · obtain ⟨ad2, x, rfl, hab, hx, hq⟩ := h2.at hlt
      obtain ⟨c0, c1, c2, c3⟩ := hq.below hbl (by omega)
      have i1 : (0 : Int) ≤ (k : Int) := by omega
      have i2 : (k : Int) < (n2 : Int) := by omega
      obtain ⟨wA, hwA⟩ : ∃ wA, wA = wr.alloc (.cells #[.int .i64 x.id, .int .i64 x.street, .int .i64 x.left, .int .i64 x.path] 110) := ⟨_, rfl⟩
      obtain ⟨hk0, hszA, hBA⟩ := one_block hwA
      have bx : CrAt wA ⟨wr.heap.size, 0, none⟩ x := cr_of_block hk0
      have ltx : wr.heap.size < wA.heap.size := by omega
      have acc := hbl.trans (hBA.mono hsz)
      have y0 := fun y : GW wA => (cr_head (bx.below y.ok ltx)).1
      have y1 := fun y : GW wA => (cr_head (bx.below y.ok ltx)).2.1
      have y2 := fun y : GW wA => (cr_head (bx.below y.ok ltx)).2.2.1
      have y3 := fun y : GW wA => (cr_head (bx.below y.ok ltx)).2.2.2
      have HX := Lib.hid hx
      have HON : Hid (carOn ls x = false → areC ls zs = false) := Lib.hid (fun e => HNO.out k hlt (goodC_on HX.out e))
      have HID : Hid (inB x.id 1 999 = false → areC ls zs = false) := Lib.hid (fun e => HNO.out k hlt (goodC_id HX.out e))
      have hl1 := fun y : GW wA => spec_l1In x.id 1 999 y.val
      have hl2 := fun y : GW wA => spec_l1In x.street 0 ((n : Int) - 1) y.val
      have hl4 := fun y : GW wA => spec_l1In x.path 1 20 y.val
      clear hk0 hBA hx hq bx
      cases g1 : inB x.id 1 999
      · have HV := Lib.hid (HID.out g1)
        rw [g1] at hl1
        clear g1 hl2 hl4
        go_wp2
        rw [← hwA]
        clear hwA
        refine wp_region_grow (by kernel_rfl) (by kernel_rfl) ?_
        repeat (go_big_quiet_step (first | (go_at_call 60; first | with_reducible exact calls_gw_same _ (hl1 _))))
        refine wpQuiet_nil ?_
        intro x3
        have hb3 := x3.ok
        generalize x3.val = w3 at *
        go_wp2
        go_ret
        exact ⟨by rw [HV.out]; rfl, acc.trans (hb3.mono acc.size)⟩
      cases g2 : inB x.street 0 ((n : Int) - 1)
      · have HV := Lib.hid (HON.out (HC1.out x g2))
        rw [g1] at hl1
        rw [g2] at hl2
        clear g1 g2 hl4
        go_wp2
        rw [← hwA]
        clear hwA
        refine wp_region_grow (by kernel_rfl) (by kernel_rfl) ?_
        repeat (go_big_quiet_step (first | (go_at_call 60; first | with_reducible exact calls_gw_same _ (hl1 _) | with_reducible exact calls_gw_same _ (hl2 _))))
        refine wpQuiet_nil ?_
        intro x3
        have hb3 := x3.ok
        generalize x3.val = w3 at *
        go_wp2
        go_ret
        exact ⟨by rw [HV.out]; rfl, acc.trans (hb3.mono acc.size)⟩
      obtain ⟨r1, r2⟩ := inB_t g2
      obtain ⟨j, hj⟩ : ∃ j : Nat, x.street = j := ⟨x.street.toNat, by omega⟩
      obtain ⟨ad, s, rfl, habs, hxs, hqs⟩ := h.at (k := j) (by omega)
      have hz := fun y : GW wA => ((hqs.below acc (by omega)).below y.ok (by have := acc.size; omega)).c2
      have HXS := Lib.hid hxs
      have HJ := Lib.hid hj
      have hl3 := fun y : GW wA => spec_l1In x.left 0 s.secs y.val
      have j1 : (0 : Int) ≤ (j : Int) := by omega
      have j2 : (j : Int) < (n : Int) := by omega
      have g2' := g2
      rw [g1] at hl1
      rw [g2] at hl2
      rw [hj] at hl2 y1 g2'
      clear hj hxs hqs g2 r1 r2
      cases g3 : inB x.left 0 s.secs
      · have HV := Lib.hid (HON.out (carOn2 HJ.out HXS.out g3))
        rw [g3] at hl3
        clear g1 g2' g3 hl4
        go_wp2
        rw [← hwA]
        clear hwA
        refine wp_region_grow (by kernel_rfl) (by kernel_rfl) ?_
        repeat (go_big_quiet_step (first | (go_at_call 60; first | with_reducible exact calls_gw_same _ (hl1 _) | with_reducible exact calls_gw_same _ (hl2 _) | with_reducible exact calls_gw_same _ (hl3 _))))
        refine wpQuiet_nil ?_
        intro x3
        have hb3 := x3.ok
        generalize x3.val = w3 at *
        go_wp2
        go_ret
        exact ⟨by rw [HV.out]; rfl, acc.trans (hb3.mono acc.size)⟩
      cases g4 : inB x.path 1 20
      · have HV := Lib.hid (HON.out (carOn3 g4))
        rw [g3] at hl3
        rw [g4] at hl4
        clear g1 g2' g3 g4
        go_wp2
        rw [← hwA]
        clear hwA
        refine wp_region_grow (by kernel_rfl) (by kernel_rfl) ?_
        repeat (go_big_quiet_step (first | (go_at_call 60; first | with_reducible exact calls_gw_same _ (hl1 _) | with_reducible exact calls_gw_same _ (hl2 _) | with_reducible exact calls_gw_same _ (hl3 _) | with_reducible exact calls_gw_same _ (hl4 _))))
        refine wpQuiet_nil ?_
        intro x3
        have hb3 := x3.ok
        generalize x3.val = w3 at *
        go_wp2
        go_ret
        exact ⟨by rw [HV.out]; rfl, acc.trans (hb3.mono acc.size)⟩
      have HOK := Lib.hid (HC4.out x s j HJ.out HXS.out (by rw [HJ.out]; exact g2') g3 g4)
      have HI := Lib.hid g1
      rw [g3] at hl3
      rw [g4] at hl4
      clear g1 g2' g3 g4
      by_cases hk0 : k = 0
      · have HV : Hid (∀ j, j < k + 1 → goodC ls zs j = true) := Lib.hid (fun j hj => by
          obtain rfl : j = 0 := by omega
          have := HX.out
          rw [hk0] at this
          exact goodC_first this HI.out HOK.out)
        have d0 : decide (0 < k) = false := decide_eq_false (by omega)
        have d1 : decide ((0 : Int) < (k : Int)) = false := decide_eq_false (by omega)
        clear hk0
        go_wp2
        rw [← hwA]
        clear hwA
        refine wp_region_grow (by kernel_rfl) (by kernel_rfl) ?_
        repeat (go_big_quiet_step (first | (go_at_call 60; first | with_reducible exact calls_gw_same _ (hl1 _) | with_reducible exact calls_gw_same _ (hl2 _) | with_reducible exact calls_gw_same _ (hl3 _) | with_reducible exact calls_gw_same _ (hl4 _))))
        refine wpQuiet_nil ?_
        intro x3
        have hb3 := x3.ok
        generalize x3.val = w3 at *
        go_wp2
        go_roundw
        case rel => exact ⟨k + 1, by omega, by go_num, HV.out, acc.trans (hb3.mono acc.size)⟩
        case measure => simp [intOf]; omega
      · obtain ⟨m, hm⟩ : ∃ m, m + 1 = k := ⟨k - 1, by omega⟩
        obtain ⟨ad', p, e, hab2, hp2, hq2⟩ := h2.at (k := m) (by omega)
        injection e with e
        subst e
        have b0 := fun y : GW wA => ((hq2.below acc (by omega)).below y.ok (by have := acc.size; omega)).c0
        have d0 : decide (0 < k) = true := decide_eq_true (by omega)
        have d1 : decide ((0 : Int) < (k : Int)) = true := decide_eq_true (by omega)
        have m1 : (0 : Int) ≤ (m : Int) := by omega
        have m2 : (m : Int) < (n2 : Int) := by omega
        have w0 : IntKind.i64.wrap ((k : Int) - 1) = (m : Int) := by rw [IntKind.wrap_i64]; omega
        have w1 : wrap64 ((k : Int) - 1) = (m : Int) := by rw [IntWalk.wrap64_in _ (by omega)]; omega
        have HGD : Hid (goodC ls zs k = decide (p.id < x.id)) := Lib.hid (by
          have h5 := HX.out
          rw [← hm] at h5 ⊢
          exact goodC_next h5 hp2 HI.out HOK.out)
        clear hq2 hp2
        by_cases hlt2 : p.id < x.id
        · have HV : Hid (∀ j, j < k + 1 → goodC ls zs j = true) := Lib.hid (fun j hj => by
            by_cases e : j = k
            · subst e; rw [HGD.out, decide_eq_true hlt2]
            · exact HG.out j (by omega))
          have e1 : decide (x.id ≤ p.id) = false := decide_eq_false (by omega)
          have e2 : ¬ p.id ≥ x.id := by omega
          clear hm hk0
          go_wp2
          rw [← hwA]
          clear hwA
          refine wp_region_grow (by kernel_rfl) (by kernel_rfl) ?_
          repeat (go_big_quiet_step (first | (go_at_call 60; first | with_reducible exact calls_gw_same _ (hl1 _) | with_reducible exact calls_gw_same _ (hl2 _) | with_reducible exact calls_gw_same _ (hl3 _) | with_reducible exact calls_gw_same _ (hl4 _))))
          refine wpQuiet_nil ?_
          intro x3
          have hb3 := x3.ok
          generalize x3.val = w3 at *
          go_wp2
          go_roundw
          case rel => exact ⟨k + 1, by omega, by go_num, HV.out, acc.trans (hb3.mono acc.size)⟩
          case measure => simp [intOf]; omega
        · have HV : Hid (areC ls zs = false) := Lib.hid (HNO.out k hlt (by rw [HGD.out, decide_eq_false hlt2]))
          have e1 : decide (x.id ≤ p.id) = true := decide_eq_true (by omega)
          have e2 : p.id ≥ x.id := by omega
          clear hm hk0
          go_wp2
          rw [← hwA]
          clear hwA
          refine wp_region_grow (by kernel_rfl) (by kernel_rfl) ?_
          repeat (go_big_quiet_step (first | (go_at_call 60; first | with_reducible exact calls_gw_same _ (hl1 _) | with_reducible exact calls_gw_same _ (hl2 _) | with_reducible exact calls_gw_same _ (hl3 _) | with_reducible exact calls_gw_same _ (hl4 _))))
          refine wpQuiet_nil ?_
          intro x3
          have hb3 := x3.ok
          generalize x3.val = w3 at *
          go_wp2
          go_ret
          exact ⟨by rw [HV.out]; rfl, acc.trans (hb3.mono acc.size)⟩
    · obtain rfl : k = n2 := by omega
      have HR := Lib.hid (HEND.out HG.out)
      by_cases h30 : k ≤ 30
      · have e1 : ((k : Int) ≤ 30) := by omega
        go_wp2
        go_ret
        exact ⟨by rw [HR.out, decide_eq_true h30]; rfl, hbl⟩
      · have e1 : ¬ ((k : Int) ≤ 30) := by omega
        go_wp2
        go_ret
        exact ⟨by rw [HR.out, decide_eq_false h30]; rfl, hbl⟩
end Go.Proofs.Ytdgpodopkfnpeab
