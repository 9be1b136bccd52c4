/- Texts of one chain, put together: SwI SwC PrtM Cln Cpl Cat Rot Mks LawMks Svc Svp Svq Sva Svk LawSvk SvcM. -/
import Derived.Deep.RegionHeld3
import Derived.Lib.AppendZeros
import Derived.Deep.DrawnRows
import Derived.Laws.EntriesVeiled
import Derived.Test.YtlpkafhapmkkfaaGreatDoorBndlD
set_option linter.unusedSimpArgs false
/- The change from one plan to another: SwitchSeconds of the program (written by gensw.py). -/
namespace Go.Proofs.YtlpkafhapmkkfaaGreatDoor
open Go.RowKit
set_option linter.unusedVariables false

/-- the parameters of a function of two plans. -/
theorem impl_timePlan_any {w : World} {A : Option Addr} {n c B : Nat} {ps : List Pth} {A2 : Option Addr} {n2 c2 B2 : Nat} {p : List Prt} (I : PlnIn w A n c B ps A2 n2 c2 B2 p) :
    Calls Tryz.prog 42 #[.slice A n c, .slice A2 n2 c2] w fun e w' => ∃ A' n' c' f a1 m1 q1 a2 m2 q2 L, e = .returned (.tuple #[.agg (t16 A' n' c' f (.slice a1 m1 q1) (.slice a2 m2 q2) L), .bool (isPlan ps p)]) ∧ Below w.heap.size w w' := by
  cases hp : isPlan ps p
  · exact (impl_timePlan_off I hp).mono fun e w' ⟨h1, h2⟩ => ⟨_, _, _, _, _, _, _, _, _, _, _, h1, h2⟩
  · exact (impl_timePlan_on I hp).mono fun e w' ⟨a1, q1, a2, q2, h1, _, h2⟩ => ⟨_, _, _, _, _, _, _, _, _, _, _, h1, h2⟩
set_option maxHeartbeats 1000000 in
theorem impl_opens (m g a b : Nat) (gr cl le : Int) (w : World) (hc : w.cell? ⟨g, 0, none⟩ = some (.int .u16 (m : Nat))) (hg : g < w.heap.size) :
    Calls Tryz.prog 153 #[.agg #[.int .u16 (a : Nat), .int .u16 (b : Nat), .int .i64 gr, .int .i64 cl, .int .i64 le], .pointer (some ⟨g, 0, none⟩)] w fun e w' => e = .returned (.bool (decide (a = m))) ∧ Below w.heap.size w w' := by
  have e1 : ((a : Int) == (m : Int)) = decide (a = m) := by rw [Bool.eq_iff_iff, beq_iff_eq, decide_eq_true_eq]; omega
  generalize decide (a = m) = u at *
  go_enter Tryz.func153, Tryz.ntmps153
  go_wp2
  go_ret
  exact ⟨rfl, (Below.refl _ _).alloc (Nat.le_refl _) _⟩
set_option maxHeartbeats 2000000 in
set_option maxRecDepth 100000 in
theorem impl_opensLike {ps : List Pth} {p : List Prt} {n2 : Nat} (h0 : 0 < n2) (A : Option Addr) (n c : Nat) (f : Nat → Nat) {a1 : Option Addr} {lo q1 : Nat} {a2 : Option Addr} {q2 : Nat} (L : Int) (w : World) (hP : PhsIn w lo ps p n2 a1 q1 a2 q2) :
    Calls Tryz.prog 138 #[.agg (t16 A n c f (.slice a1 n2 q1) (.slice a2 n2 q2) L)] w fun e w' => e = .returned (.func (.func 153) #[] #[.pointer (some ⟨w.heap.size + 1, 0, none⟩)]) ∧ w'.cell? ⟨w.heap.size + 1, 0, none⟩ = some (.int .u16 (maskL ps (prAt p 0).stage : Nat)) ∧ w.heap.size + 1 < w'.heap.size ∧ Below w.heap.size w w' := by
  have hmf : ∀ (fn : Fn) (first cap : Array Value) (w : World), (Instr.makeFunc fn first cap).run Tryz.prog w = .ok (.func fn first cap) w := fun _ _ _ _ => rfl
  obtain ⟨g1, rfl, hg1⟩ := hP.some h0
  have hc := hP.cells (k := 0) h0 0 (by decide)
  have hc0 : w.cell? ⟨g1, 0, none⟩ = some (.int .u16 (maskL ps (prAt p 0).stage : Nat)) := hc
  have hz : (maskL ps (prAt p 0).stage : Nat) ≤ 4294967296 ∨ True := .inr trivial
  generalize maskL ps (prAt p 0).stage = m at *
  have i3 : (0 : Int) < (n2 : Int) := by omega
  have hg2 := hg1.2
  have HB := Lib.hid (fun o o' => ((Below.refl w.heap.size w).alloc (Nat.le_refl _) o).alloc (by simp) o')
  clear hP hc hz hg1
  unfold t16
  go_enter Tryz.func138, Tryz.ntmps138
  go_wp2
  go_ret
  refine ⟨rfl, ?_, by simp, HB.out _ _⟩
  go_simp

set_option maxHeartbeats 8000000 in
set_option maxRecDepth 100000 in
theorem impl_SwitchSeconds {w : World} {A : Option Addr} {n c B : Nat} {ps : List Pth} {A2 : Option Addr} {n2 c2 B2 : Nat} {a : List Prt} {A3 : Option Addr} {n3 c3 B3 : Nat} {b : List Prt} (I : PlnIn w A n c B ps A2 n2 c2 B2 a) (J : PlnIn w A n c B ps A3 n3 c3 B3 b) :
    Calls Tryz.prog 117 #[.slice A n c, .slice A2 n2 c2, .slice A3 n3 c3] w fun e w' => ∃ v, e = .returned v ∧ Own .i64 3 w' w.heap.size v (swP ps a b) ∧ Below w.heap.size w w' := by
  have hb0 : Below w.heap.size w (w.alloc (.cells #[] 3)) := (Below.refl _ _).alloc (Nat.le_refl _) _
  have HO0 := Lib.hid (own_bare .i64 3 w)
  have HB0 := Lib.hid hb0
  have hs0 : (w.alloc (.cells #[] 3)).heap.size = w.heap.size + 1 := by simp
  obtain ⟨w0, hw0⟩ : ∃ w0, w0 = w.alloc (.cells #[] 3) := ⟨_, rfl⟩
  rw [← hw0] at HO0 HB0 hs0
  have HI := Lib.hid (I.below HB0.out)
  have HJ := Lib.hid (J.below HB0.out)
  have HR0 : Hid ((isPlan ps a && isPlan ps b) = false → swP ps a b = []) := Lib.hid swP_off
  clear I J hb0
  cases ha : isPlan ps a
  rotate_left
  cases hb : isPlan ps b
  rotate_left

  · have HRS := Lib.hid (swP_on ha hb)
    rw [HI.out.len] at HRS
    have HPA := Lib.hid ha
    have HPB := Lib.hid hb
    obtain ⟨⟨ha1, ha6⟩, _⟩ := isPlan_parts ha
    obtain ⟨⟨hb1, hb6⟩, _⟩ := isPlan_parts hb
    rw [HI.out.len] at ha1 ha6
    rw [HJ.out.len] at hb1 hb6
    have HSAME := Lib.hid (fun k (hk : k < n2) => plan_same ha hb (k := k) (by rw [HI.out.len]; exact hk))
    have TA := impl_timePlan_on HI.out ha
    have TB := fun x (hx : Below w0.heap.size w0 x) => impl_timePlan_on (HJ.out.below hx) hb
    unfold t16 at TA TB
    have HTA := Lib.hid TA
    have HTB := Lib.hid TB
    clear TA TB ha hb HR0 HI HJ
    go_enter Tryz.func117, Tryz.ntmps117
    go_wp2_with fail
    rw [← hw0]
    refine HTA.out.mono ?_
    rintro e w1 ⟨a1, q1, a2, q2, rfl, hpA, hb1⟩
    clear hw0
    obtain ⟨w2, hw2⟩ : ∃ w2, w2 = w1.alloc (.cells (t16 A n c (rowSt ps n 0) (.slice a1 n2 q1) (.slice a2 n2 q2) (sumTo ps a n2)) 81) := ⟨_, rfl⟩
    have hX2 : w2.heap[w1.heap.size]? = some (.cells (t16 A n c (rowSt ps n 0) (.slice a1 n2 q1) (.slice a2 n2 q2) (sumTo ps a n2)) 81) := by rw [hw2]; exact heap_alloc_new _ _
    have hb12 : Below w1.heap.size w1 w2 := by rw [hw2]; exact (Below.refl _ _).alloc (Nat.le_refl _) _
    have hb2 : Below w0.heap.size w0 w2 := hb1.trans (hb12.mono hb1.size)
    have HB2 := Lib.hid hb2
    have HT2 := Lib.hid (HTB.out w2 hb2)
    have HPH2 := Lib.hid (hpA.below hb12)
    have HX2 := Lib.hid hX2
    unfold t16 at hw2
    have hsA : w0.heap.size ≤ w1.heap.size := hb1.size
    have hsB : w1.heap.size < w2.heap.size := by rw [hw2]; simp
    clear hb1 hb2 hpA hX2 hb12
    go_wp2_with fail
    rw [← hw2]
    refine HT2.out.mono ?_
    rintro e w3 ⟨b1, r1, b2, r2, rfl, hpB, hb3⟩
    clear hw2
    obtain ⟨w4, hw4⟩ : ∃ w4, w4 = w3.alloc (.cells (t16 A n c (rowSt ps n 0) (.slice b1 n3 r1) (.slice b2 n3 r2) (sumTo ps b n3)) 81) := ⟨_, rfl⟩
    have hX4 : w4.heap[w3.heap.size]? = some (.cells (xcells A n c (rowSt ps n 0) ++ [Value.slice b1 n3 r1, .slice b2 n3 r2, .int .i64 (sumTo ps b n3)]).toArray 81) := by rw [hw4, t16_list]; exact heap_alloc_new _ _
    have hb34 : Below w3.heap.size w3 w4 := by rw [hw4]; exact (Below.refl _ _).alloc (Nat.le_refl _) _
    have hb24 : Below w2.heap.size w2 w4 := hb3.trans (hb34.mono hb3.size)
    have HPB4 := Lib.hid (hpB.below hb34)
    have HPH4 := Lib.hid (HPH2.out.below hb24)
    have HXA := Lib.hid ((hb24.block _ hsB).trans HX2.out)
    have HB4 := Lib.hid (HB2.out.trans (hb24.mono HB2.out.size))
    have hsC : w2.heap.size ≤ w4.heap.size := hb24.size
    have hrng := range_block hX4
    have hlen : (xcells A n c (rowSt ps n 0) ++ [Value.slice b1 n3 r1, .slice b2 n3 r2, .int .i64 (sumTo ps b n3)]).length = 16 := by rw [List.length_append, xcells_length]; rfl
    have hinf16 : (Tryz.prog.info? 81).map (·.size) = some (xcells A n c (rowSt ps n 0) ++ [Value.slice b1 n3 r1, .slice b2 n3 r2, .int .i64 (sumTo ps b n3)]).length := by rw [hlen]; exact info_timed
    have HOL := Lib.hid (impl_opensLike (n2 := n3) (by omega) A n c (rowSt ps n 0) (sumTo ps b n3) w4 HPB4.out)
    rw [← t16_list] at HOL
    unfold t16 at hw4
    clear hb3 hpB hb34 hb24 hX4 hlen
    generalize xcells A n c (rowSt ps n 0) ++ [Value.slice b1 n3 r1, .slice b2 n3 r2, .int .i64 (sumTo ps b n3)] = cs at *
    go_wp2_with ((with_reducible show wpList _ _ _ _ _ _); rw [← hw4]; refine wpList_load_mid rfl 81 _ rfl w3.heap.size 0 rfl cs _ hrng Tryz.underlying81 rfl hinf16 ?_)
    rw [← hw4]
    refine HOL.out.mono ?_
    clear hw4 hrng
    rintro e w5 ⟨rfl, hcell, hlt5, hb5⟩
    obtain ⟨g1, rfl, hg1a, hg1b⟩ := HPH4.out.some (by omega)
    obtain ⟨g2, rfl, hg2a, hg2b⟩ : ∃ g, a2 = some ⟨g, 0, none⟩ ∧ w0.heap.size ≤ g ∧ g < w4.heap.size := by
      obtain ⟨g, rfl⟩ : ∃ g, a2 = some ⟨g, 0, none⟩ := by
        rcases HPH4.out.2.2 with ⟨q, _⟩ | ⟨g, cap, cur, hv, _⟩
        · injection q; omega
        · injection hv with h1 h2 h3; exact ⟨_, h1⟩
      exact ⟨g, rfl, ownr_block HPH4.out.2 _ rfl⟩
    have HP5 := Lib.hid (HPH4.out.below hb5)
    have HX5 := Lib.hid ((hb5.block _ (by omega)).trans HXA.out)
    have HB5 := Lib.hid (HB0.out.trans ((HB4.out.trans (hb5.mono HB4.out.size)).mono HB0.out.size))
    have HO5 := Lib.hid (HO0.out.below (HB4.out.trans (hb5.mono HB4.out.size)))
    have hs5 := hb5.size
    have HCAP := Lib.hid hcell
    have HCELL : Hid (∀ x v, KeptR w5 x w.heap.size w.heap.size (.slice (some ⟨w.heap.size, 0, none⟩) 0 0) v → ∀ blk off u, w5.cell? ⟨blk, off, none⟩ = some u → w0.heap.size ≤ blk → blk < w5.heap.size → x.cell? ⟨blk, off, none⟩ = some u) := Lib.hid (fun x v hk blk off u hu h1 h2 => by
      rw [World.cell?_of_block (hk.block blk h2 (by omega) (by simp [Value.ownBlock]; omega))]
      exact hu)
    have x13 : w5.cell? ⟨w1.heap.size, 13, none⟩ = some (.slice (some ⟨g1, 0, none⟩) n2 q1) := by rw [cell_of_row w5 w1.heap.size 13 _ _ _ HX5.out]; rfl
    have HX14 : Hid (w5.cell? ⟨w1.heap.size, 14, none⟩ = some (.slice (some ⟨g2, 0, none⟩) n2 q2)) := Lib.hid (by rw [cell_of_row w5 w1.heap.size 14 _ _ _ HX5.out]; rfl)
    have lt9 : w1.heap.size < w5.heap.size := by omega
    have HLO : Hid (swTo ps a b 0 = []) := Lib.hid rfl
    clear hb5 hcell
    go_wp2
    go_loopw [7, 41] (fun v i wr => ∃ k : Nat, k ≤ n2 ∧ i = .int .i64 k ∧ Own .i64 3 wr w.heap.size v (swTo ps a b k) ∧ KeptR w5 wr w.heap.size w.heap.size (.slice (some ⟨w.heap.size, 0, none⟩) 0 0) v) (fun _ i _ => n2 - (intOf i).toNat)
    case atStart => exact ⟨0, Nat.zero_le _, rfl, by rw [HLO.out]; exact HO5.out, KeptR.refl _ _ _ _⟩
    case round =>
      clear x13
      obtain ⟨k, hk, rfl, hown, hkep⟩ := hrel
      have HOW := Lib.hid hown
      have HK := Lib.hid hkep
      have hsz := hkep.below.size
      have hln := swTo_len ps a b k
      clear hown hkep
      by_cases hlt : k < n2
      · have hce := fun d hd => HP5.out.cells hlt d hd
        have e0 := HCELL.out wr _ HK.out g1 (k * 5) (.int .u16 (maskL ps (prAt a k).stage : Nat)) (hce 0 (by decide)) (by omega) (by omega)
        have e1 := HCELL.out wr _ HK.out g1 (k * 5 + 1) (.int .u16 (maskL ps (prAt a (nextJ a k)).stage : Nat)) (hce 1 (by decide)) (by omega) (by omega)
        have e2 := HCELL.out wr _ HK.out g1 (k * 5 + 2) (.int .i64 (prAt a k).green) (hce 2 (by decide)) (by omega) (by omega)
        have e3 := HCELL.out wr _ HK.out g1 (k * 5 + 3) (.int .i64 (clrAt ps a k)) (hce 3 (by decide)) (by omega) (by omega)
        have e4 := HCELL.out wr _ HK.out g1 (k * 5 + 4) (.int .i64 (leastG ps (prAt a k).stage)) (hce 4 (by decide)) (by omega) (by omega)
        have HST : Hid (w5.cell? ⟨g2, k, none⟩ = some (.int .i64 (sumTo ps a k))) := Lib.hid (row_cell HP5.out.2 (by rw [List.getElem?_map]; unfold begTo; rw [List.getElem?_map, List.getElem?_range hlt]; rfl))
        have HSK := Lib.hid (HSAME.out k hlt)
        have HY := Lib.hid (fun hh => swTo_yes (ps := ps) (a := a) (b := b) (k := k) hh)
        have HN := Lib.hid (fun hh => swTo_no (ps := ps) (a := a) (b := b) (k := k) hh)
        have i1 : (0 : Int) ≤ (k : Int) := by omega
        have i2 : (k : Int) < (n2 : Int) := by omega
        clear hce
        generalize leastG ps (prAt a k).stage = le at *
        generalize clrAt ps a k = cl at *
        generalize maskL ps (prAt a (nextJ a k)).stage = mx at *
        generalize maskL ps (prAt a k).stage = mo at *
        generalize (prAt a k).green = gr at *
        generalize maskL ps (prAt b 0).stage = mb at *
        generalize sumTo ps a k = sk at *
        obtain ⟨wf, hwf⟩ : ∃ wf, wf = wr.alloc (.cells #[.int .u16 (mo : Nat), .int .u16 (mx : Nat), .int .i64 gr, .int .i64 cl, .int .i64 le] 129) := ⟨_, rfl⟩
        have hbf : Below wr.heap.size wr wf := by rw [hwf]; exact (Below.refl _ _).alloc (Nat.le_refl _) _
        have HKF := Lib.hid (HK.out.trans (KeptR.of_below (v := _) hbf (Nat.le_trans HB5.out.size hsz)))
        have HOF := Lib.hid (HOW.out.below hbf)
        have hszf : w5.heap.size ≤ wf.heap.size := HKF.out.below.size
        have hcap := HCELL.out wf _ HKF.out _ _ _ HCAP.out (by omega) (by omega)
        have HOP := Lib.hid (impl_opens mb (w4.heap.size + 1) mo mx gr cl le wf hcap (by omega))
        clear hbf hcap
        go_wp2_with fail
        rw [← hwf]
        refine HOP.out.mono ?_
        rintro e w6 ⟨rfl, hb6⟩
        clear hwf e0 e1 e2 e3 e4
        have HK6 := Lib.hid (HKF.out.trans (KeptR.of_below (v := _) hb6 (Nat.le_trans HB5.out.size hszf)))
        have HO6 := Lib.hid (HOF.out.below hb6)
        have hs6 : w5.heap.size ≤ w6.heap.size := HK6.out.below.size
        clear hb6
        by_cases hm : mo = mb
        · have HL := Lib.hid (HY.out (HSK.out.1 hm))
          rw [decide_eq_true hm]
          have s14 := HCELL.out w6 _ HK6.out _ _ _ HX14.out (by omega) (by omega)
          have sst := HCELL.out w6 _ HK6.out _ _ _ HST.out (by omega) (by omega)
          have hlo6 : w.heap.size ≤ w6.heap.size := Nat.le_trans HB5.out.size hs6
          have h16 : w1.heap.size < w6.heap.size := by omega
          have HOQ := HO6.out
          clear hm
          go_wp2_with (at_builtin; refine wpList_app1 rfl _ _ 58 rfl .i64 3 8 Tryz.underlying58 info_int1 w.heap.size _ _ rfl HOQ (by decide) (by omega) _ _ _ w6.heap.size hlo6 rfl (by simp) ?_; intro v7 w7 hown7 hgrow7 hat7)
          have HO7 : Hid (Own .i64 3 w7 w.heap.size v7 (swTo ps a b (k + 1))) := Lib.hid (by rw [HL.out]; exact hown7)
          have HK7 : Hid (KeptR w5 w7 w.heap.size w.heap.size (.slice (some ⟨w.heap.size, 0, none⟩) 0 0) v7) := Lib.hid (by
            have hh := keptr_grown HK6.out hgrow7 hat7
            exact ⟨HO6.out.push (Nat.le_refl _) (HK6.out.below.alloc hlo6 _) (by simp; omega) hgrow7, fun b hb hg hv => hh.1 b hb hv hg, hh.2⟩)
          clear hown7 hgrow7 hat7 HOQ s14 sst
          go_roundw
          case rel => exact ⟨k + 1, by omega, by go_num, HO7.out, HK7.out⟩
          case measure => simp [intOf]; omega
        · have HL := Lib.hid (HN.out (fun q => hm (HSK.out.2 q)))
          rw [decide_eq_false hm]
          clear hm
          go_wp2
          go_roundw
          case rel => exact ⟨k + 1, by omega, by go_num, by rw [HL.out]; exact HO6.out, HK6.out⟩
          case measure => simp [intOf]; omega
      · obtain rfl : k = n2 := by omega
        go_wp2
        go_ret
        exact ⟨_, rfl, by rw [HRS.out]; exact HOW.out, HB5.out.trans HK.out.below⟩

  ·
    have HR := Lib.hid (HR0.out (by rw [ha]; rfl))
    have TA := impl_timePlan_any HI.out
    have TB := fun x (hx : Below w0.heap.size w0 x) => impl_timePlan_any (HJ.out.below hx)
    rw [ha] at TA
    generalize isPlan ps b = ub at *
    unfold t16 at TA TB
    have HTA := Lib.hid TA
    have HTB := Lib.hid TB
    clear TA TB ha hs0 HR0 HI HJ
    go_enter Tryz.func117, Tryz.ntmps117
    go_wp2_with fail
    rw [← hw0]
    refine HTA.out.mono ?_
    rintro e w1 ⟨A', n', c', f, a1, m1, q1, a2, m2, q2, L, rfl, hb1⟩
    clear hw0
    obtain ⟨w2, hw2⟩ : ∃ w2, w2 = w1.alloc (.cells #[.slice A' n' c', .int .u16 (f 0 : Nat), .int .u16 (f 1 : Nat), .int .u16 (f 2 : Nat), .int .u16 (f 3 : Nat), .int .u16 (f 4 : Nat), .int .u16 (f 5 : Nat), .int .u16 (f 6 : Nat), .int .u16 (f 7 : Nat), .int .u16 (f 8 : Nat), .int .u16 (f 9 : Nat), .int .u16 (f 10 : Nat), .int .u16 (f 11 : Nat), .slice a1 m1 q1, .slice a2 m2 q2, .int .i64 (L)] 81) := ⟨_, rfl⟩
    have hb2 : Below w0.heap.size w0 w2 := by rw [hw2]; exact hb1.alloc hb1.size _
    have HB2 := Lib.hid hb2
    have HT2 := Lib.hid (HTB.out w2 hb2)
    clear hb1 hb2
    go_wp2_with fail
    rw [← hw2]
    refine HT2.out.mono ?_
    rintro e w3 ⟨A'', n'', c'', f', b1, s1, r1, b2, s2, r2, L', rfl, hb3⟩
    have HB3 := Lib.hid (HB2.out.trans (hb3.mono HB2.out.size))
    clear hb3 hw2
    go_wp2
    go_ret
    exact ⟨_, rfl, by rw [HR.out]; exact HO0.out.below (HB3.out.alloc HB3.out.size _), HB0.out.trans ((HB3.out.alloc HB3.out.size _).mono HB0.out.size)⟩

  ·
    have HR := Lib.hid (HR0.out (by rw [ha, hb]; rfl))
    have TA := impl_timePlan_any HI.out
    have TB := fun x (hx : Below w0.heap.size w0 x) => impl_timePlan_any (HJ.out.below hx)
    rw [ha] at TA
    rw [hb] at TB; clear hb
    unfold t16 at TA TB
    have HTA := Lib.hid TA
    have HTB := Lib.hid TB
    clear TA TB ha hs0 HR0 HI HJ
    go_enter Tryz.func117, Tryz.ntmps117
    go_wp2_with fail
    rw [← hw0]
    refine HTA.out.mono ?_
    rintro e w1 ⟨A', n', c', f, a1, m1, q1, a2, m2, q2, L, rfl, hb1⟩
    clear hw0
    obtain ⟨w2, hw2⟩ : ∃ w2, w2 = w1.alloc (.cells #[.slice A' n' c', .int .u16 (f 0 : Nat), .int .u16 (f 1 : Nat), .int .u16 (f 2 : Nat), .int .u16 (f 3 : Nat), .int .u16 (f 4 : Nat), .int .u16 (f 5 : Nat), .int .u16 (f 6 : Nat), .int .u16 (f 7 : Nat), .int .u16 (f 8 : Nat), .int .u16 (f 9 : Nat), .int .u16 (f 10 : Nat), .int .u16 (f 11 : Nat), .slice a1 m1 q1, .slice a2 m2 q2, .int .i64 (L)] 81) := ⟨_, rfl⟩
    have hb2 : Below w0.heap.size w0 w2 := by rw [hw2]; exact hb1.alloc hb1.size _
    have HB2 := Lib.hid hb2
    have HT2 := Lib.hid (HTB.out w2 hb2)
    clear hb1 hb2
    go_wp2_with fail
    rw [← hw2]
    refine HT2.out.mono ?_
    rintro e w3 ⟨A'', n'', c'', f', b1, s1, r1, b2, s2, r2, L', rfl, hb3⟩
    have HB3 := Lib.hid (HB2.out.trans (hb3.mono HB2.out.size))
    clear hb3 hw2
    go_wp2
    go_ret
    exact ⟨_, rfl, by rw [HR.out]; exact HO0.out.below (HB3.out.alloc HB3.out.size _), HB0.out.trans ((HB3.out.alloc HB3.out.size _).mono HB0.out.size)⟩

end Go.Proofs.YtlpkafhapmkkfaaGreatDoor
/- CanSwitch, SwitchAt: the model and the program. -/
namespace Go.Proofs.YtlpkafhapmkkfaaGreatDoor
open Go.RowKit
set_option linter.unusedVariables false

set_option maxHeartbeats 2000000 in
theorem spec_CanSwitch (A : Option Addr) (n c B : Nat) (ps : List Pth) (A2 : Option Addr) (n2 c2 B2 : Nat) (a : List Prt) (A3 : Option Addr) (n3 c3 B3 : Nat) (b : List Prt) (w : World) (h : PthsAt w B A n ps) (hB : B ≤ w.heap.size) (hn : n ≤ 4294967296) (h2 : PrtsAt w B2 A2 n2 a) (hB2 : B2 ≤ w.heap.size) (hn2 : n2 ≤ 1048576) (hm : ∀ j, j < n2 → (prAt a j).stage.length ≤ 1048576) (h3 : PrtsAt w B3 A3 n3 b) (hB3 : B3 ≤ w.heap.size) (hn3 : n3 ≤ 1048576) (hm3 : ∀ j, j < n3 → (prAt b j).stage.length ≤ 1048576) :
    Calls Tryz.prog 78 #[.slice A n c, .slice A2 n2 c2, .slice A3 n3 c3] w fun e w' => e = .returned (.bool (canSw ps a b)) ∧ Below w.heap.size w w' := by
  have HC := Lib.hid (spec_SwitchSeconds A n c B ps A2 n2 c2 B2 a A3 n3 c3 B3 b w h hB hn h2 hB2 hn2 hm h3 hB3 hn3 hm3)
  clear h h2 h3 hm hm3
  go_enter Tryz.func78, Tryz.ntmps78
  go_wp2_with fail
  refine HC.out.mono ?_
  rintro e w1 ⟨v, rfl, ho, hb⟩
  obtain ⟨Av, cv, rfl⟩ := ho.sliced
  have e1 : decide ((0 : Int) < ((swP ps a b).length : Int)) = canSw ps a b := decide_eq_decide.2 (by omega)
  clear ho
  go_wp2
  go_ret
  exact ⟨by first | rw [← e1]; rfl | (unfold canSw; simp), hb⟩
set_option maxHeartbeats 2000000 in
theorem impl_CanSwitch {w : World} {A : Option Addr} {n c B : Nat} {ps : List Pth} {A2 : Option Addr} {n2 c2 B2 : Nat} {a : List Prt} {A3 : Option Addr} {n3 c3 B3 : Nat} {b : List Prt} (I : PlnIn w A n c B ps A2 n2 c2 B2 a) (J : PlnIn w A n c B ps A3 n3 c3 B3 b) :
    Calls Tryz.prog 81 #[.slice A n c, .slice A2 n2 c2, .slice A3 n3 c3] w fun e w' => e = .returned (.bool (canSw ps a b)) ∧ Below w.heap.size w w' := by
  have HC := Lib.hid (impl_SwitchSeconds I J)
  clear I J
  go_enter Tryz.func81, Tryz.ntmps81
  go_wp2_with fail
  refine HC.out.mono ?_
  rintro e w1 ⟨v, rfl, ho, hb⟩
  obtain ⟨Av, cv, rfl⟩ := ho.sliced
  have e1 : decide ((0 : Int) < ((swP ps a b).length : Int)) = canSw ps a b := decide_eq_decide.2 (by omega)
  clear ho
  go_wp2
  go_ret
  exact ⟨by first | rw [← e1]; rfl | (unfold canSw; simp), hb⟩
end Go.Proofs.YtlpkafhapmkkfaaGreatDoor

/- The laws' helpers for rows of parts. -/
namespace Go.Proofs.YtlpkafhapmkkfaaGreatDoor
open Go.RowKit
set_option linter.unusedVariables false

set_option maxHeartbeats 1000000 in
theorem to_prt (A : Option Addr) (n c B : Nat) (ps : List Prt) (w : World) (h : PrtsAt w B A n ps) (hB : B ≤ w.heap.size) (hn : n ≤ 1048576) (hm : ∀ j, j < n → (prAt ps j).stage.length ≤ 1048576) :
    Calls Tryz.prog 12 #[.slice A n c] w fun e w' => e = .returned (.slice (some ⟨w.heap.size, 0, none⟩) n n) ∧ (∃ xs, OwnPr w' w.heap.size (.slice (some ⟨w.heap.size, 0, none⟩) n n) xs ps) ∧ Below w.heap.size w w' := by
  have hl := h.1
  go_enter Tryz.func12, Tryz.ntmps12
  go_wp2_with ((with_reducible show wpList _ _ _ _ _ _); refine wpList_mkR rfl _ _ _ rfl 70 _ 2 _ Tryz.underlying30 info_prt (by decide) (n : Int) (n : Int) n rfl rfl rfl rfl (by omega) ?_; intro w1 hown hgrow)
  rw [made_prt] at hown
  go_loopw [4] (fun i wr => ∃ (k : Nat) (xs : List (Value × Int)), k ≤ n ∧ xs.length = k ∧ i = .int .i64 k ∧ wr.ownsRow w.heap.size 70 2 (.slice (some ⟨w.heap.size, 0, none⟩) n n) n (prow xs ++ prow (List.replicate (n - xs.length) (.slice none 0 0, 0))) ∧
      (∀ j, j < k → ∃ u, xs[j]? = some (u, (prAt ps j).green) ∧ Own .i64 3 wr w.heap.size u (prAt ps j).stage) ∧ ApartL (xs.map (·.1)) ∧ Below w.heap.size w wr) (fun i _ => n - (intOf i).toNat)
  case atStart => exact ⟨0, [], Nat.zero_le _, rfl, rfl, by simpa [prow] using hown, fun j hj => absurd hj (by omega), ApartL.nil, below_grown hgrow⟩
  case round =>
    clear hown hgrow
    obtain ⟨k, xs, hk, hul, rfl, hrow, heach, hap, hbl⟩ := hrel
    have hsz := hbl.size
    by_cases hlt : k < n
    · obtain ⟨ad, A', m, c', rfl, hab, hq, hi, hmc, hnil⟩ := h.at hlt
      obtain ⟨q0, q1⟩ := hq.below hbl (by omega)
      have hml := hi.1
      have hmk := hm k hlt
      have hiw := hi.keep (w' := wr) (fun p hp => hbl.cell (by omega))
      clear hq hi
      obtain ⟨zs, hzs⟩ : ∃ zs, (prAt ps k).stage = zs := ⟨_, rfl⟩
      obtain ⟨g, hgr⟩ : ∃ g, (prAt ps k).green = g := ⟨_, rfl⟩
      rw [hzs] at hml hmk hiw
      rw [hgr] at q1
      have HZS := Lib.hid hzs
      have HG := Lib.hid hgr
      clear hzs hgr
      go_wp2_with fail
      refine (law_toPart A' m c' B zs g wr hiw (by omega) (by omega)).mono ?_
      rintro e w2 ⟨a, rfl, ho, hb2⟩
      have hrow2 := ownr_below hrow hb2
      obtain ⟨x0, hx0⟩ := ownr_some hrow2 (j := k * 2) (by omega)
      obtain ⟨x1, hx1⟩ := ownr_some hrow2 (j := k * 2 + 1) (by omega)
      have f0 := World.ownsRow.frozenAt hrow2
      have hst := (World.ownsRow.stored (World.ownsRow.stored hrow2 (k * 2) (.slice (some a) m m)).1 (k * 2 + 1) (.int .i64 g)).1
      have hb3 := hbl.trans (hb2.mono hsz)
      have hgs : w2.grownBy ((w2.setCell ⟨w.heap.size, k * 2, none⟩ (.slice (some a) m m)).setCell ⟨w.heap.size, k * 2 + 1, none⟩ (.int .i64 g)) (some w.heap.size) := only_setCell (only_setCell (World.grownBy.refl _ _) _ _) _ _
      have hkept : ∀ {x : Value} {xs : List Int} {l : Nat}, Own .i64 3 w2 l x xs → Own .i64 3 ((w2.setCell ⟨w.heap.size, k * 2, none⟩ (.slice (some a) m m)).setCell ⟨w.heap.size, k * 2 + 1, none⟩ (.int .i64 g)) l x xs := fun hx => hx.grown hgs (fun g hg e => own_apartP hx hrow2 g hg e)
      have hsn : xs.length < n := by omega
      rw [← hul, prow_next xs n _ (.slice (some a) m m, g) hsn, hul] at hst
      have HR := Lib.hid hst
      have HE : Hid (∀ j, j < k + 1 → ∃ u, (xs ++ [(.slice (some a) m m, g)])[j]? = some (u, (prAt ps j).green) ∧ Own .i64 3 ((w2.setCell ⟨w.heap.size, k * 2, none⟩ (.slice (some a) m m)).setCell ⟨w.heap.size, k * 2 + 1, none⟩ (.int .i64 g)) w.heap.size u (prAt ps j).stage) := Lib.hid (by
        intro j hj
        by_cases hjk : j < k
        · obtain ⟨u, h1, h2⟩ := heach j hjk
          exact ⟨u, by rw [List.getElem?_append_left (by omega)]; exact h1, hkept (h2.below hb2)⟩
        · obtain rfl : j = xs.length := by omega
          refine ⟨_, (List.getElem?_append_right (Nat.le_refl _)).trans (by rw [Nat.sub_self, show xs.length = k from hul, HG.out]; rfl), ?_⟩
          rw [show xs.length = k from hul, HZS.out]
          exact hkept (ho.mono hsz))
      have HA : Hid (ApartL ((xs ++ [((Value.slice (some a) m m), g)]).map (·.1))) := Lib.hid (by
        rw [List.map_append]
        refine hap.snoc (b := wr.heap.size) (fun x hx g hg => ?_) (fun g hg => (ho.block g hg).1)
        obtain ⟨y, hy, rfl⟩ := List.mem_map.1 hx
        obtain ⟨j, hj, rfl⟩ := List.getElem_of_mem hy
        obtain ⟨u, h1, h2⟩ := heach j (by omega)
        rw [List.getElem?_eq_getElem hj] at h1
        injection h1 with h1
        rw [h1] at hg
        exact (h2.block g hg).2)
      have HB := Lib.hid hb3
      clear hrow heach hap hbl hb2 hb3 hgs hkept hst hrow2 ho hiw
      go_wp2
      go_roundw
      case rel => exact ⟨k + 1, xs ++ [(.slice (some a) m m, g)], by omega, by rw [List.length_append, hul]; rfl, by go_num, HR.out, HE.out, HA.out, (HB.out.setCell (Nat.le_refl _) _).setCell (Nat.le_refl _) _⟩
      case measure => simp [intOf]; omega
    · obtain rfl : k = n := by omega
      rw [hul, Nat.sub_self, List.replicate_zero] at hrow
      have HO : Hid (OwnPr wr w.heap.size (.slice (some ⟨w.heap.size, 0, none⟩) k k) xs ps) := Lib.hid ⟨by rw [hl]; simpa [prow] using hrow, fun j hj => heach j (by omega), hap⟩
      clear hrow heach hap
      go_wp2
      go_ret
      exact ⟨rfl, ⟨xs, HO.out⟩, hbl⟩
set_option maxHeartbeats 1000000 in
theorem law_eqPart (A : Option Addr) (n c B : Nat) (zs : List Int) (g : Int) (A2 : Option Addr) (n2 c2 : Nat) (w : World) (h : IntsAt .i64 w B A n zs) (h2 : IntsAt .i64 w B A2 n2 zs) (hB : B ≤ w.heap.size) (hn : n ≤ 4398046511104) :
    Calls Tryz.prog 47 #[.agg #[.slice A n c, .int .i64 g], .agg #[.slice A2 n2 c2, .int .i64 g]] w fun e w' => e = .returned (.bool true) ∧ Below w.heap.size w w' := by
  have hl := h.1
  have hl2 := h2.1
  have hq := fun w' (hb : Below w.heap.size w w') => eqs_i64 A n c zs A2 n2 c2 w' ((h.laid hB hb).up (by have := hb.size; omega)) ((h2.laid hB hb).up (by have := hb.size; omega)) (by omega) (by omega)
  have hb0 := ((Below.refl w.heap.size w).alloc (Nat.le_refl _) (.cells #[.slice A n c, .int .i64 g] 70)).alloc (by simp) (.cells #[.slice A2 n2 c2, .int .i64 g] 70)
  have HQ := Lib.hid hq
  have HB0 := Lib.hid hb0
  clear hq hb0 h h2
  have e1 : (g != g) = false := by simp
  have e2 : (!(g == g)) = false := by simp
  go_enter Tryz.func47, Tryz.ntmps47
  go_wp2_with fail
  refine (HQ.out _ HB0.out).mono ?_
  rintro e w2 ⟨rfl, hb2⟩
  have HB := Lib.hid (HB0.out.trans (hb2.mono HB0.out.size))
  have k0 : w2.cell? ⟨w.heap.size, 1, none⟩ = some (.int .i64 g) := (hb2.cell (p := ⟨w.heap.size, 1, none⟩) (by simp; omega)).trans (by go_simp)
  have k1 : w2.cell? ⟨w.heap.size + 1, 1, none⟩ = some (.int .i64 g) := (hb2.cell (p := ⟨w.heap.size + 1, 1, none⟩) (by simp)).trans (by go_simp)
  clear hb2
  go_wp2
  go_ret
  exact ⟨rfl, HB.out⟩
set_option maxHeartbeats 1000000 in
theorem eqs_prt (A : Option Addr) (n c : Nat) (ps : List Prt) (A2 : Option Addr) (n2 c2 : Nat) (w : World) (h : PrtsAt w w.heap.size A n ps) (h2 : PrtsAt w w.heap.size A2 n2 ps) (hn : n ≤ 4398046511104) (hn2 : n2 ≤ 4398046511104) (hm : ∀ j, j < n → (prAt ps j).stage.length ≤ 4398046511104) :
    Calls Tryz.prog 16 #[.slice A n c, .slice A2 n2 c2] w fun e w' => e = .returned (.bool true) ∧ Below w.heap.size w w' := by
  have hl := h.1
  have hl2 := h2.1
  obtain rfl : n = n2 := by omega
  go_enter Tryz.func16, Tryz.ntmps16
  go_wp2
  go_loopw [5] (fun i wr => ∃ k : Nat, k ≤ n ∧ i = .int .i64 k ∧ Below w.heap.size w wr) (fun i _ => n - (intOf i).toNat)
  case atStart => exact ⟨0, Nat.zero_le _, rfl, Below.refl _ _⟩
  case round =>
    obtain ⟨k, hk, rfl, hbl⟩ := hrel
    have hsz := hbl.size
    by_cases hlt : k < n
    · obtain ⟨ad, A', m, c', rfl, hab, hq, hi, hmc, hnil⟩ := h.at hlt
      obtain ⟨ad2, A2', m2, c2', rfl, hab2, hq2, hi2, hmc2, hnil2⟩ := h2.at hlt
      have hqq := fun x (hx : Below wr.heap.size wr x) => (hq.below hbl (by omega)).below hx (by omega)
      have hqq2 := fun x (hx : Below wr.heap.size wr x) => (hq2.below hbl (by omega)).below hx (by omega)
      have hmk := hm k hlt
      have hml := hi.1
      have hml2 := hi2.1
      have hiw := hi.keep (w' := wr) (fun p hp => hbl.cell (by omega))
      have hiw2 := hi2.keep (w' := wr) (fun p hp => hbl.cell (by omega))
      clear hq hq2 hi hi2
      generalize (prAt ps k).stage = zs at *
      generalize (prAt ps k).green = g at *
      have hcc := fun x (hx : Below wr.heap.size wr x) => law_eqPart A' m c' w.heap.size zs g A2' m2 c2' x (hiw.keep (w' := x) fun p hp => hx.cell (by omega)) (hiw2.keep (w' := x) fun p hp => hx.cell (by omega)) (by have := hx.size; omega) (by omega)
      have x1 : (0 : Int) ≤ (k : Int) := by omega
      have x2 : (k : Int) < (n : Int) := by omega
      have hdr : Below wr.heap.size wr wr.drew := ⟨rfl, rfl, rfl, Nat.le_refl _, fun _ _ => rfl⟩
      obtain ⟨y0, y1⟩ := hqq _ hdr
      obtain ⟨z0, z1⟩ := hqq2 _ hdr
      have HQ := Lib.hid hcc
      have HC := Lib.hid hqq
      have HC2 := Lib.hid hqq2
      clear hqq hqq2 hcc hiw hiw2
      go_wp2
      go_region_held3 (fun W' => W'.cell? (ad.add (k * 2)) = some (.slice A' m c') ∧ W'.cell? ⟨(ad.add (k * 2)).block, (ad.add (k * 2)).off + 1, none⟩ = some (.int .i64 g) ∧ W'.cell? (ad2.add (k * 2)) = some (.slice A2' m2 c2') ∧ W'.cell? ⟨(ad2.add (k * 2)).block, (ad2.add (k * 2)).off + 1, none⟩ = some (.int .i64 g)) (first | exact ⟨y0, y1, z0, z1⟩ | exact ⟨hy.c0, hy.c1, hz.c0, hz.c1⟩ | fail "keep")
        (first
          | (go_at_call 47; refine (HQ.out _ hdr).mono ?_; rintro e w3 ⟨rfl, hb3⟩; have hb4 := hdr.trans hb3; have hy := HC.out _ hb4; have hz := HC2.out _ hb4))
      have HB := Lib.hid (hbl.trans (hb4.mono hsz))
      clear hb3 hb4 y0 z0 y1 z1 hy hz hbl HQ HC HC2 hdr
      go_wp2
      go_roundw
      case rel => exact ⟨k + 1, by omega, by go_num, HB.out⟩
      case measure => simp [intOf]; omega
    · obtain rfl : k = n := by omega
      go_wp2
      go_ret
      exact ⟨rfl, hbl⟩
theorem sz_part (A : Option Addr) (n c : Nat) (g : Int) (left : Int) (w : World) (hn : n ≤ 9223372036854775807) (hl : 0 ≤ left ∧ left ≤ 1048576) :
    Calls Tryz.prog 37 #[.agg #[.slice A n c, .int .i64 g], .int .i64 left] w fun e w' => e = .returned (.int .i64 (if (n : Int) ≤ left then left - (n : Int) else -1)) ∧ Below w.heap.size w w' := by
  have HB := Lib.hid ((Below.refl w.heap.size w).alloc (Nat.le_refl _) (.cells #[.slice A n c, .int .i64 g] 60))
  by_cases h : (n : Int) ≤ left
  · have hz := fun x => sz_ints A n c left x hn hl
    simp only [if_pos h] at hz ⊢
    have HZ := Lib.hid hz
    clear hz
    go_enter Tryz.func37, Tryz.ntmps37
    go_wp2_with fail
    refine (HZ.out _).mono ?_
    rintro e w' ⟨rfl, rfl⟩
    go_wp2
    go_ret
    exact ⟨rfl, HB.out⟩
  · have hz := fun x => sz_ints A n c left x hn hl
    simp only [if_neg h] at hz ⊢
    have HZ := Lib.hid hz
    clear hz
    go_enter Tryz.func37, Tryz.ntmps37
    go_wp2_with fail
    refine (HZ.out _).mono ?_
    rintro e w' ⟨rfl, rfl⟩
    go_wp2
    go_ret
    exact ⟨rfl, HB.out⟩
/-- what szPartS says. -/
def szSaidP (left : Int) (n : Nat) (ps : List Prt) (r : Int) : Prop := r < 0 ∨ (0 ≤ r ∧ r ≤ left ∧ (n : Int) ≤ left ∧ ∀ j, j < n → ((prAt ps j).stage.length : Int) ≤ left)
set_option maxHeartbeats 1000000 in
theorem sz_prt (A : Option Addr) (n c B : Nat) (ps : List Prt) (left : Int) (w : World) (h : PrtsAt w B A n ps) (hB : B ≤ w.heap.size) (hn : n ≤ 9223372036854775807) (hm : ∀ j, j < n → (prAt ps j).stage.length ≤ 9223372036854775807) (hl : 0 ≤ left ∧ left ≤ 1048576) :
    Calls Tryz.prog 9 #[.slice A n c, .int .i64 left] w fun e w' => (∃ r : Int, e = .returned (.int .i64 r) ∧ szSaidP left n ps r) ∧ Below w.heap.size w w' := by
  have hl0 := h.1
  obtain ⟨l1, l2⟩ := hl
  by_cases hlt0 : (n : Int) ≤ left
  · go_enter Tryz.func9, Tryz.ntmps9
    go_wp2
    go_loopw [1, 5] (fun r i wr => ∃ (k : Nat) (q : Int), k ≤ n ∧ i = .int .i64 k ∧ r = .int .i64 q ∧ 0 ≤ q ∧ q ≤ left ∧ (∀ j, j < k → ((prAt ps j).stage.length : Int) ≤ left) ∧ Below w.heap.size w wr) (fun _ i _ => n - (intOf i).toNat)
    case atStart => exact ⟨0, left - n, Nat.zero_le _, rfl, rfl, by omega, by omega, fun j hj => absurd hj (by omega), Below.refl _ _⟩
    case round =>
      obtain ⟨k, q, hk, rfl, rfl, hq0, hq1, hall, hbl⟩ := hrel
      have HALL := Lib.hid hall
      clear hall
      by_cases hlt : k < n
      · obtain ⟨ad, A', m, c', rfl, hab, hq, hi, hmc, hnil⟩ := h.at hlt
        obtain ⟨y0, y1⟩ := hq.below hbl (by omega)
        have hml := hi.1
        have hmk := hm k hlt
        go_wp2_with fail
        refine (sz_part A' m c' _ q _ (by omega) ⟨hq0, by omega⟩).mono ?_
        rintro e w' ⟨rfl, hb2⟩
        have HB := Lib.hid (hbl.trans (hb2.mono hbl.size))
        clear hb2
        by_cases hle : (m : Int) ≤ q
        · rw [if_pos hle]
          have HK : Hid (((prAt ps k).stage.length : Int) ≤ left) := Lib.hid (by omega)
          clear hi hml hmk
          go_wp2
          go_roundw
          case rel => exact ⟨k + 1, q - m, by omega, by go_num, rfl, by omega, by omega, (fun j hj => by
            by_cases e : j < k
            · exact HALL.out j e
            · obtain rfl : j = k := by omega
              exact HK.out), HB.out⟩
          case measure => simp [intOf]; omega
        · rw [if_neg hle]
          go_wp2
          go_ret
          exact ⟨⟨-1, rfl, .inl (by decide)⟩, HB.out⟩
      · obtain rfl : k = n := by omega
        go_wp2
        go_ret
        exact ⟨⟨q, rfl, .inr ⟨hq0, hq1, hlt0, HALL.out⟩⟩, hbl⟩
  · go_enter Tryz.func9, Tryz.ntmps9
    go_wp2
    go_ret
    exact ⟨⟨-1, rfl, .inl (by decide)⟩, Below.refl _ _⟩
/-- how many marks the first k parts take. -/
def totP (ps : List Prt) (k : Nat) : Nat := ((ps.take k).map fun p => p.stage.length + 1).sum
theorem totP_zero (ps : List Prt) : totP ps 0 = 0 := by simp [totP]
theorem totP_succ {ps : List Prt} {k : Nat} (h : k < ps.length) : totP ps (k + 1) = totP ps k + ((prAt ps k).stage.length + 1) := by
  unfold totP
  rw [List.take_add_one, prAt_get h, List.map_append, List.sum_append]
  simp
theorem totP_le {ps : List Prt} (h : SmallP ps) : ∀ k, k ≤ ps.length → totP ps k ≤ k * 1048577
  | 0, _ => by rw [totP_zero]; exact Nat.zero_le _
  | k + 1, hk => by
    have ih := totP_le h k (by omega)
    have := h.2 k (by omega)
    rw [totP_succ (by omega)]
    omega
theorem totP_top {ps : List Prt} (h : SmallP ps) {k : Nat} (hk : k ≤ ps.length) : totP ps k ≤ 1099512676352 := by
  have h1 := totP_le h k hk
  have h2 := h.1
  have : k * 1048577 ≤ 1048576 * 1048577 := Nat.mul_le_mul_right _ (by omega)
  omega
/-- the j-th part when it is marked. -/
def mkP (s : Nat) (ps : List Prt) (j : Nat) : Prt := ⟨marks .i64 ((s + totP ps j : Nat) : Int) (prAt ps j).stage.length, ((s + totP ps j + (prAt ps j).stage.length : Nat) : Int)⟩
/-- the first k parts marked. -/
def mixP (s : Nat) (ps : List Prt) (k : Nat) : List Prt := (List.range ps.length).map fun j => if j < k then mkP s ps j else prAt ps j
theorem mixP_len (s : Nat) (ps : List Prt) (k : Nat) : (mixP s ps k).length = ps.length := by simp [mixP]
theorem mixP_at (s : Nat) (ps : List Prt) (k : Nat) {j : Nat} (h : j < ps.length) : prAt (mixP s ps k) j = if j < k then mkP s ps j else prAt ps j := prAt_some (by simp [mixP, h])
theorem mixP_zero (s : Nat) (ps : List Prt) : mixP s ps 0 = ps := by
  apply List.ext_getElem?
  intro i
  by_cases h : i < ps.length
  · rw [prAt_get h]
    simp [mixP, h]
  · rw [List.getElem?_eq_none (by rw [mixP_len]; omega), List.getElem?_eq_none (by omega)]
theorem set_atP {α : Type} {pre rest : List α} {z a : α} {m : Nat} (h : pre.length = m) : (pre ++ z :: rest).set m a = pre ++ a :: rest := by
  subst h
  rw [List.set_append_right _ _ (Nat.le_refl _), Nat.sub_self, List.set_cons_zero]
theorem prow_green {xs : List (Value × Int)} {k : Nat} {u : Value} {g : Int} (h : xs[k]? = some (u, g)) (g' : Int) : (prow xs).set (k * 2 + 1) (.int .i64 g') = prow (xs.set k (u, g')) := by
  have hk := (List.getElem?_eq_some_iff.1 h).1
  have hx := (List.getElem?_eq_some_iff.1 h).2
  have e : xs = xs.take k ++ (u, g) :: xs.drop (k + 1) := by
    rw [← hx, ← List.drop_eq_getElem_cons hk, List.take_append_drop]
  have hl : (xs.take k).length = k := by rw [List.length_take]; omega
  have e2 : xs.set k (u, g') = xs.take k ++ (u, g') :: xs.drop (k + 1) := by
    conv => lhs; rw [e]
    exact set_atP hl
  have e3 : prow xs = (prow (xs.take k) ++ [u]) ++ .int .i64 g :: prow (xs.drop (k + 1)) := by
    conv => lhs; rw [e, prow_append]
    simp [prow]
  rw [e2, e3, set_at (by rw [List.length_append, prow_length, hl]; rfl), prow_append]
  simp [prow]
theorem fst_set {xs : List (Value × Int)} {k : Nat} {u : Value} {g : Int} (h : xs[k]? = some (u, g)) (g' : Int) : (xs.set k (u, g')).map (·.1) = xs.map (·.1) := by
  apply List.ext_getElem?
  intro i
  rw [List.getElem?_map, List.getElem?_map, List.getElem?_set]
  by_cases e : k = i
  · subst e
    rw [if_pos rfl, h, if_pos (List.getElem?_eq_some_iff.1 h).1]
    rfl
  · rw [if_neg e]
set_option maxHeartbeats 1000000 in
set_option maxRecDepth 100000 in
theorem marked_prt (A : Option Addr) (n c lo hi s : Nat) (xs : List (Value × Int)) (ps : List Prt) (w : World) (h : OwQ w lo hi (.slice A n c) xs ps) (hap : ApartL (xs.map (·.1))) (hz : SmallP ps) (hs : s ≤ 2199023255552) :
    Calls Tryz.prog 18 #[.slice A n c, .int .i64 s] w fun e w' => e = .returned (.int .i64 ((s + totP ps n : Nat) : Int)) ∧ (∃ xs', OwQ w' lo hi (.slice A n c) xs' (mixP s ps n)) ∧ Part lo hi w w' := by
  have hl : ps.length = n := (ownr_len h.own.row).symm
  have hz1 := hz.1
  go_enter Tryz.func18, Tryz.ntmps18
  go_wp2
  go_loopw [1, 5] (fun x i wr => ∃ (k q : Nat) (xs' : List (Value × Int)), k ≤ n ∧ i = .int .i64 k ∧ x = .int .i64 (q : Int) ∧ q = s + totP ps k ∧ xs'.map (·.1) = xs.map (·.1) ∧ OwQ wr lo hi (.slice A n c) xs' (mixP s ps k) ∧ Part lo hi w wr) (fun _ i _ => n - (intOf i).toNat)
  case atStart => exact ⟨0, s, xs, Nat.zero_le _, rfl, rfl, by rw [totP_zero]; rfl, rfl, by rw [mixP_zero]; exact h, ⟨rfl, rfl, rfl, Nat.le_refl _, fun _ _ _ => rfl⟩⟩
  case round =>
    clear h
    obtain ⟨k, q, xs', hk, rfl, rfl, hq, hxs, ho, hp⟩ := hrel
    have HQ := Lib.hid hq
    clear hq
    by_cases hlt : k < n
    · have hml := mixP_len s ps k
      obtain ⟨u, hu, hown⟩ := ho.own.each k (by omega)
      have hmk := mixP_at s ps k (j := k) (by omega)
      rw [if_neg (Nat.lt_irrefl k)] at hmk
      obtain ⟨zs, hzs⟩ : ∃ zs, (prAt ps k).stage = zs := ⟨_, rfl⟩
      obtain ⟨gr, hgr⟩ : ∃ gr, (prAt ps k).green = gr := ⟨_, rfl⟩
      rw [hmk, hzs] at hown
      rw [hmk, hgr] at hu
      have hlen := hz.2 k (by omega)
      rw [hzs] at hlen
      have htt := totP_top hz (k := k) (by omega)
      have hts := totP_succ (ps := ps) (k := k) (by omega)
      rw [hzs] at hts
      have HZS := Lib.hid hzs
      have hqb : q ≤ 4398046511104 := by have := HQ.out; omega
      have HQ2 : Hid (q + zs.length + 1 = s + totP ps (k + 1)) := Lib.hid (by have := HQ.out; omega)
      clear hts htt hzs
      obtain ⟨A', c', rfl⟩ := hown.sliced
      rcases ownr_shape ho.own.row with ⟨e, he⟩ | ⟨g, cap, e, hg, hgs, _⟩
      · exfalso; omega
      injection e with e1 e2 e3
      clear e2 e3
      obtain rfl := e1
      have hrow := ho.own.row
      rw [mixP_len, hl] at hrow
      have hca := World.ownsRow.cellAt hrow (k * 2)
      have q0 := (hca (by omega)).trans (prow_at0 hu)
      clear hca
      have HO := Lib.hid ho
      have HP := Lib.hid hp
      have HU := Lib.hid hu
      have HMK := Lib.hid hmk
      have HXS := Lib.hid hxs
      clear ho hp hu hmk hxs hrow
      go_wp2_with fail
      refine (mark_i64 A' _ c' lo q zs wr hown (by omega) (by omega)).mono ?_
      rintro e w3 ⟨rfl, ho3, hg3⟩
      have hrow3 := ownr_grown HO.out.own.row hg3 (fun g hg e => own_apartP hown HO.out.own.row g e hg)
      rw [mixP_len, hl] at hrow3
      have hf := World.ownsRow.frozenAt hrow3
      obtain ⟨x1, hx1⟩ := ownr_some hrow3 (j := k * 2 + 1) (by omega)
      have hca := World.ownsRow.cellAt hrow3 (k * 2)
      have q0' := (hca (by omega)).trans (prow_at0 HU.out)
      clear hca
      have hst := (World.ownsRow.stored hrow3 (k * 2 + 1) (.int .i64 ((q + zs.length : Nat) : Int))).1
      rw [prow_green HU.out] at hst
      have hgs3 : w3.grownBy (w3.setCell ⟨g, k * 2 + 1, none⟩ (.int .i64 ((q + zs.length : Nat) : Int))) (some g) := only_setCell (World.grownBy.refl _ _) _ _
      have hkept : ∀ {x : Value} {ys : List Int} {l : Nat}, Own .i64 3 w3 l x ys → Own .i64 3 (w3.setCell ⟨g, k * 2 + 1, none⟩ (.int .i64 ((q + zs.length : Nat) : Int))) l x ys := fun hx => hx.grown hgs3 (fun g' hg' e => own_apartP hx hrow3 g' hg' e)
      have HO3 : Hid (OwQ (w3.setCell ⟨g, k * 2 + 1, none⟩ (.int .i64 ((q + zs.length : Nat) : Int))) lo hi (.slice (some ⟨g, 0, none⟩) n c) (xs'.set k (.slice A' zs.length c', ((q + zs.length : Nat) : Int))) (mixP s ps (k + 1))) := Lib.hid ⟨⟨by
          rw [mixP_len, hl]
          exact hst, fun j hj => by
          rw [mixP_len] at hj
          rw [mixP_at s ps (k + 1) hj]
          by_cases hjk : j = k
          · subst hjk
            rw [if_pos (Nat.lt_succ_self _)]
            refine ⟨.slice A' zs.length c', ?_, ?_⟩
            · rw [List.getElem?_set_self (List.getElem?_eq_some_iff.1 HU.out).1]
              unfold mkP
              simp only [HZS.out, ← HQ.out]
            · unfold mkP
              simp only [HZS.out, ← HQ.out]
              exact hkept ho3
          · obtain ⟨x, h1, h2⟩ := HO.out.own.each j (by rw [mixP_len]; exact hj)
            rw [mixP_at s ps k hj] at h1 h2
            have hif : (if j < k + 1 then mkP s ps j else prAt ps j) = (if j < k then mkP s ps j else prAt ps j) := by
              by_cases hj2 : j < k
              · rw [if_pos hj2, if_pos (by omega)]
              · rw [if_neg hj2, if_neg (by omega)]
            rw [hif]
            refine ⟨x, ?_, hkept (h2.grown hg3 (fun g' hg' e => ?_))⟩
            · rw [List.getElem?_set_ne (fun e => hjk e.symm)]
              exact h1
            · have f1 : (xs'.map (·.1))[j]? = some x := by rw [List.getElem?_map, h1]; rfl
              have f2 : (xs'.map (·.1))[k]? = some (.slice A' zs.length c') := by rw [List.getElem?_map, HU.out]; rfl
              rw [HXS.out] at f1 f2
              exact hap j k _ _ hjk f1 f2 g' hg' e⟩, HO.out.lt, fun y hy g' hg' => by
          have hy1 : y.1 ∈ xs'.map (·.1) := by
            rw [← fst_set HU.out ((q + zs.length : Nat) : Int)]
            exact List.mem_map_of_mem hy
          obtain ⟨z, hz, e⟩ := List.mem_map.1 hy1
          exact HO.out.ltu z hz g' (by rw [e]; exact hg'), Nat.le_trans HO.out.top (Nat.le_trans hg3.size hgs3.size)⟩
      have hglt := HO.out.lt g rfl
      have HP3 : Hid (Part lo hi w (w3.setCell ⟨g, k * 2 + 1, none⟩ (.int .i64 ((q + zs.length : Nat) : Int)))) := Lib.hid ⟨hgs3.os.trans (hg3.os.trans HP.out.os), hgs3.tape.trans (hg3.tape.trans HP.out.tape), hgs3.output.trans (hg3.output.trans HP.out.output), Nat.le_trans HP.out.size (Nat.le_trans hg3.size hgs3.size), fun i hi' hd => ((hgs3.block i (Nat.lt_of_lt_of_le hi' (Nat.le_trans HP.out.size hg3.size)) (fun e => by
        have e' : i = g := Option.some.inj e
        omega)).trans (hg3.block i (Nat.lt_of_lt_of_le hi' HP.out.size) (fun e => by
        have := HO.out.ltu _ (List.mem_of_getElem? HU.out) i e.symm
        omega))).trans (HP.out.block i hi' hd)⟩
      have HX3 : Hid ((xs'.set k (.slice A' zs.length c', ((q + zs.length : Nat) : Int))).map (·.1) = xs.map (·.1)) := Lib.hid ((fst_set HU.out _).trans HXS.out)
      have HQ3 := Lib.hid HQ2.out
      have hq2b : q + zs.length ≤ 8796093022208 := by omega
      generalize q + zs.length = q2 at *
      clear ho3 hg3 hown HO HP HU hgs3 hkept hst hrow3
      go_wp2
      go_roundw
      case rel => exact ⟨k + 1, q2 + 1, _, by omega, by go_num, by go_num, HQ3.out, HX3.out, HO3.out, HP3.out⟩
      case measure => simp [intOf]; omega
    · obtain rfl : k = n := by omega
      have HO := Lib.hid ho
      have HP := Lib.hid hp
      clear ho hp
      go_wp2
      go_ret
      exact ⟨by first | (rw [← HQ.out]; rfl) | (rw [show ((s : Int) + (totP ps k : Int)) = ((q : Nat) : Int) by rw [HQ.out]; simp]; rfl), ⟨_, HO.out⟩, HP.out⟩
set_option maxHeartbeats 1000000 in
set_option maxRecDepth 100000 in
theorem held_prt (A : Option Addr) (n c s : Nat) (ps : List Prt) (w : World) (h : PrtsAt w w.heap.size A n (mixP s ps n)) (hn : n = ps.length) (hz : SmallP ps) (hs : s ≤ 2199023255552) :
    Calls Tryz.prog 29 #[.slice A n c, .int .i64 s] w fun e w' => e = .returned (.int .i64 ((s + totP ps n : Nat) : Int)) ∧ Below w.heap.size w w' := by
  have hz1 := hz.1
  have hn' := hn.symm
  clear hn
  go_enter Tryz.func29, Tryz.ntmps29
  go_wp2
  go_loopw [1, 5] (fun x i wr => ∃ k q : Nat, k ≤ n ∧ i = .int .i64 k ∧ x = .int .i64 (q : Int) ∧ q = s + totP ps k ∧ Below w.heap.size w wr) (fun _ i _ => n - (intOf i).toNat)
  case atStart => exact ⟨0, s, Nat.zero_le _, rfl, rfl, by rw [totP_zero]; rfl, Below.refl _ _⟩
  case round =>
    obtain ⟨k, q, hk, rfl, rfl, hq, hbl⟩ := hrel
    have HQ := Lib.hid hq
    clear hq
    by_cases hlt : k < n
    · obtain ⟨ad, A', m, c', rfl, hab, hpa, hi, hmc, hnil⟩ := h.at hlt
      have hmk := mixP_at s ps n (j := k) (by omega)
      rw [if_pos hlt] at hmk
      obtain ⟨zs, hzs⟩ : ∃ zs, (prAt ps k).stage = zs := ⟨_, rfl⟩
      rw [hmk] at hi hpa
      unfold mkP at hi hpa
      simp only [hzs, ← HQ.out] at hi hpa
      have hml := hi.1
      rw [marks_length] at hml
      subst hml
      have hlen := hz.2 k (by omega)
      rw [hzs] at hlen
      have htt := totP_top hz (k := k) (by omega)
      have hts := totP_succ (ps := ps) (k := k) (by omega)
      rw [hzs] at hts
      have HZS := Lib.hid hzs
      have hqb : q ≤ 4398046511104 := by have := HQ.out; omega
      have HQ2 : Hid (q + zs.length + 1 = s + totP ps (k + 1)) := Lib.hid (by have := HQ.out; omega)
      clear hts htt hzs
      obtain ⟨q0, q1⟩ := hpa.below hbl (by omega)
      have hiw := hi.keep (w' := wr) (fun p hp => hbl.cell (by omega))
      have HB := Lib.hid hbl
      have habw := Nat.lt_of_lt_of_le hab hbl.size
      clear hi hbl hmk hpa
      go_wp2_with fail
      refine (held_i64 A' _ c' w.heap.size q wr hiw (by omega) (by omega)).mono ?_
      rintro e w3 ⟨rfl, hb3⟩
      have HB3 := Lib.hid (HB.out.trans (hb3.mono HB.out.size))
      have HQ3 := Lib.hid HQ2.out
      have r0 := (hb3.cell habw).trans q0
      have r1 := (hb3.cell (p := ⟨(ad.add (k * 2)).block, (ad.add (k * 2)).off + 1, none⟩) habw).trans q1
      have hq2b : q + zs.length ≤ 8796093022208 := by omega
      have e1 : ((((q + zs.length : Nat)) : Int) != ((q + zs.length : Nat) : Int)) = false := by simp
      have e3 : ((((q + zs.length : Nat)) : Int) == ((q + zs.length : Nat) : Int)) = true := by simp
      generalize q + zs.length = q2 at *
      clear hb3 hiw q0 q1
      go_wp2
      go_roundw
      case rel => exact ⟨k + 1, q2 + 1, by omega, by go_num, by go_num, HQ3.out, HB3.out⟩
      case measure => simp [intOf]; omega
    · obtain rfl : k = n := by omega
      go_wp2
      go_ret
      exact ⟨by first | (rw [← HQ.out]; rfl) | (rw [show ((s : Int) + (totP ps k : Int)) = ((q : Nat) : Int) by rw [HQ.out]; simp]; rfl), hbl⟩
end Go.Proofs.YtlpkafhapmkkfaaGreatDoor

/- slices.Clone at []int. -/
namespace Go.Proofs.YtlpkafhapmkkfaaGreatDoor
open Go.RowKit
set_option linter.unusedVariables false

theorem lib_Clone2 (A : Option Addr) (n c B : Nat) (zs : List Int) (w : World) (h : IntsAt .i64 w B A n zs) (hB : B ≤ w.heap.size) (hA : A = none → n = 0 ∧ c = 0) (hn : n ≤ 4294967296) :
    Calls Tryz.prog 104 #[.slice A n c] w fun e w' => ∃ v, e = .returned v ∧ Own .i64 3 w' w.heap.size v zs ∧ Below w.heap.size w w' := by
  have hl := h.1
  cases A with
  | none =>
    obtain ⟨rfl, rfl⟩ := hA rfl
    obtain rfl : zs = [] := List.eq_nil_of_length_eq_zero hl
    have hnil : ∀ W, (binOp .eql 58 (.slice none 0 0) (.slice none 0 0)).run Tryz.prog W = .ok (.bool true) W := fun W => eql_slice_nil Tryz.underlying58 _ _ _ W
    go_enter Tryz.func104, Tryz.ntmps104
    go_wp2
    go_ret
    exact ⟨_, rfl, own_nil _ _ _ _, Below.refl _ _⟩
  | some ad =>
    have hnil : ∀ W, (binOp .eql 58 (.slice (some ad) n c) (.slice none 0 0)).run Tryz.prog W = .ok (.bool false) W := fun W => eql_slice_nil Tryz.underlying58 _ _ _ W
    go_enter Tryz.func104, Tryz.ntmps104
    go_wp2_with (at_builtin; refine wpList_app rfl _ _ 58 58 rfl .i64 3 3 8 Tryz.underlying58 Tryz.underlying58 info_i64 w.heap.size _ [] rfl (own_bare _ _ w) (some ad) n c B zs rfl (h.keep fun p hp => World.cell?_of_block (Below.heap_alloc w _ _ (by omega))) hA (by decide) (by simp; omega) (by simp) ?_; intro v1 w1 hown1 hgrow1 hat1)
    go_ret
    exact ⟨v1, rfl, by simpa using hown1, (own_bare .i64 3 w).push (Nat.le_refl _) ((Below.refl _ _).alloc (Nat.le_refl _) _) (by simp) hgrow1⟩
end Go.Proofs.YtlpkafhapmkkfaaGreatDoor

/- Copies of plans: l8Copy of the model, copyPlan of the program (written by gencpl.py). -/
set_option linter.unusedSimpArgs false
namespace Go.Proofs.YtlpkafhapmkkfaaGreatDoor
open Go.RowKit
set_option linter.unusedVariables false

theorem below_drewC {a w : World} (h : Below a.heap.size a w) : Below a.heap.size a w.drew := ⟨h.os, h.tape, h.output, h.size, h.block⟩
theorem own_rowC (w : World) (E : TypeId) (s : Nat) : (w.alloc (.cells #[] E)).ownsRow w.heap.size E s (.slice (some ⟨w.heap.size, 0, none⟩) 0 0) 0 [] := ⟨by simp, .inr ⟨w.heap.size, 0, #[], rfl, Nat.le_refl _, heap_alloc_new w _, Nat.le_refl _, by decide, by simp, by simp⟩⟩
/-- the two cells of a block. -/
theorem cells2C {w : World} {g : Nat} {x0 x1 : Value} {E : TypeId} {fr : Nat × Nat} (h : w.heap[g]? = some (.cells #[x0, x1] E fr)) : w.cell? ⟨g, 0, none⟩ = some x0 ∧ w.cell? ⟨g, 1, none⟩ = some x1 :=
  ⟨(cell_of_row w g 0 _ _ _ h).trans rfl, (cell_of_row w g 1 _ _ _ h).trans rfl⟩
/-- what lies one step further in a row of parts. -/
theorem each_snoc {w w' : World} {lo : Nat} {xs : List (Value × Int)} {ps : List Prt} {k : Nat} {u : Value} (hul : xs.length = k) (hold : ∀ j, j < k → ∃ u, xs[j]? = some (u, (prAt ps j).green) ∧ Own .i64 3 w' lo u (prAt ps j).stage) (hnew : Own .i64 3 w' lo u (prAt ps k).stage) {g : Int} (hg : (prAt ps k).green = g) :
    ∀ j, j < k + 1 → ∃ u', (xs ++ [(u, g)])[j]? = some (u', (prAt ps j).green) ∧ Own .i64 3 w' lo u' (prAt ps j).stage := by
  intro j hj
  by_cases hjk : j < k
  · obtain ⟨u, h1, h2⟩ := hold j hjk
    exact ⟨u, by rw [List.getElem?_append_left (by omega)]; exact h1, h2⟩
  · obtain rfl : j = xs.length := by omega
    refine ⟨u, (List.getElem?_append_right (Nat.le_refl _)).trans (by rw [Nat.sub_self, show xs.length = k from hul, hg]; rfl), ?_⟩
    rw [show xs.length = k from hul]
    exact hnew
theorem apart_snoc {w : World} {lo b : Nat} {xs : List (Value × Int)} {ps : List Prt} {k : Nat} {u : Value} {g : Int} (hul : xs.length = k) (hap : ApartL (xs.map (·.1))) (hold : ∀ j, j < k → ∃ u, xs[j]? = some (u, (prAt ps j).green) ∧ Own .i64 3 w lo u (prAt ps j).stage) (hb : w.heap.size ≤ b) (hn : ∀ r, u.ownBlock = some r → b ≤ r) : ApartL ((xs ++ [(u, g)]).map (·.1)) := by
  rw [List.map_append]
  refine hap.snoc (b := b) (fun x hx r hr => ?_) hn
  obtain ⟨y, hy, rfl⟩ := List.mem_map.1 hx
  obtain ⟨j, hj, rfl⟩ := List.getElem_of_mem hy
  obtain ⟨u', h1, h2⟩ := hold j (by omega)
  rw [List.getElem?_eq_getElem hj] at h1
  injection h1 with h1
  rw [h1] at hr
  have := (h2.block r hr).2
  omega
set_option maxHeartbeats 4000000 in
set_option maxRecDepth 100000 in
theorem spec_l8Copy (A : Option Addr) (n c B : Nat) (ps : List Prt) (w : World) (h : PrtsAt w B A n ps) (hB : B ≤ w.heap.size) (hn : n ≤ 1048576) (hm : ∀ j, j < n → (prAt ps j).stage.length ≤ 1048576) :
    Calls Tryz.prog 50 #[.slice A n c] w fun e w' => ∃ v xs, e = .returned v ∧ OwnPr w' w.heap.size v xs ps ∧ Below w.heap.size w w' := by
  have hl := h.1
  have HL := Lib.hid hl
  have H := Lib.hid h
  have HM := Lib.hid hm
  have hmx : Tryz.prog.follows .mixedOrders = true := by kernel_rfl
  have hr0 := own_rowC w 70 2
  have hb0 : Below w.heap.size w (w.alloc (.cells #[] 70)) := (Below.refl _ _).alloc (Nat.le_refl _) _
  clear h hm hl
  go_enter Tryz.func50, Tryz.ntmps50
  go_wp2
  go_loopw [3, 4] (fun v i wr => ∃ (k : Nat) (xs : List (Value × Int)), k ≤ n ∧ xs.length = k ∧ i = .int .i64 k ∧ wr.ownsRow w.heap.size 70 2 v k (prow xs) ∧ (∀ j, j < k → ∃ u, xs[j]? = some (u, (prAt ps j).green) ∧ Own .i64 3 wr w.heap.size u (prAt ps j).stage) ∧ ApartL (xs.map (·.1)) ∧ Below w.heap.size w wr) (fun _ i _ => n - (intOf i).toNat)
  case atStart => exact ⟨0, [], Nat.zero_le _, rfl, rfl, by simpa [prow] using hr0, fun j hj => absurd hj (by omega), ApartL.nil, hb0⟩
  case round =>
    clear hr0 hb0
    obtain ⟨k, xs, hk, hul, rfl, hrow, heach, hap, hbl⟩ := hrel
    have hsz := hbl.size
    obtain ⟨Av, cv, rfl⟩ := ownr_sliced hrow
    have HRW := Lib.hid hrow
    have HE := Lib.hid heach
    have HAP := Lib.hid hap
    have HBL := Lib.hid hbl
    have HUL := Lib.hid hul
    clear hrow heach hap hbl hul
    by_cases hlt : k < n
    · obtain ⟨ad, A', m, c', rfl, hab, hq, hi, hmc, hnil⟩ := H.out.at hlt
      have hpq := hq.below HBL.out (by omega)
      have hml := hi.1
      have hmk := HM.out k hlt
      have HQ := Lib.hid (fun (W : World) (hW : Below wr.heap.size wr W) => (hpq.below hW (by have := HBL.out.size; omega)))
      have HI := Lib.hid (fun (W : World) (hW : Below w.heap.size w W) => hi.keep (w' := W) (fun p hp => hW.cell (by omega)))
      clear hq hi hpq
      have hqd := HQ.out wr.drew (below_drewC (Below.refl _ _))
      obtain ⟨zs, hzs⟩ : ∃ zs, (prAt ps k).stage = zs := ⟨_, rfl⟩
      obtain ⟨g, hgr⟩ : ∃ g, (prAt ps k).green = g := ⟨_, rfl⟩
      rw [hzs] at hml hmk HI
      rw [hgr] at HQ hqd
      have HZS := Lib.hid hzs
      have HG := Lib.hid hgr
      clear hzs hgr
      have hmm : m ≤ 1048576 := by omega
      clear hml
      have i1 : (0 : Int) ≤ (k : Int) := by omega
      have i2 : (k : Int) < (n : Int) := by omega
      go_wp2
      refine wp_region_held_drew (S := fun W' => PrtAt W' (ad.add (k * 2)) (.slice A' m c') g) hmx hqd (fun hH => ?_)
      refine wpAnyH_take (i := 0) (v := .slice Av k cv) rfl (by kernel_rfl) (by kernel_rfl) (by kernel_rfl) (fun _ _ _ h => h) (Or.inl ⟨by rfl, by intro W' hSw; go_simp⟩) hH ?_
      try simp only [Act.put, List.setIfInBounds_toArray, List.set_cons_zero, List.set_cons_succ]
      refine wpAnyH_take (i := 2) (v := .slice (some ad) n c) rfl (by kernel_rfl) (by kernel_rfl) (by kernel_rfl) (fun _ _ _ h => h) (Or.inl ⟨by rfl, by intro W' hSw; go_simp⟩) hH ?_
      try simp only [Act.put, List.setIfInBounds_toArray, List.set_cons_zero, List.set_cons_succ]
      refine wpAnyH_take (i := 3) (v := .int .i64 (k : Int)) rfl (by kernel_rfl) (by kernel_rfl) (by kernel_rfl) (fun _ _ _ h => h) (Or.inl ⟨by rfl, by intro W' hSw; go_simp⟩) hH ?_
      try simp only [Act.put, List.setIfInBounds_toArray, List.set_cons_zero, List.set_cons_succ]
      refine wpAnyH_take (i := 4) (v := .pointer (some (ad.add (k * 2)))) rfl (by kernel_rfl) (by kernel_rfl) (by kernel_rfl) (fun _ _ _ h => h) (Or.inl ⟨by rfl, by intro W' hSw; go_simp⟩) hH ?_
      try simp only [Act.put, List.setIfInBounds_toArray, List.set_cons_zero, List.set_cons_succ]
      refine wpAnyH_take (i := 5) (v := .pointer (some (ad.add (k * 2)))) rfl (by kernel_rfl) (by kernel_rfl) (by kernel_rfl) (fun _ _ _ h => h) (Or.inl ⟨by rfl, by intro W' hSw; go_simp⟩) hH ?_
      try simp only [Act.put, List.setIfInBounds_toArray, List.set_cons_zero, List.set_cons_succ]
      refine wpAnyH_take (i := 6) (v := .slice A' m c') rfl (by kernel_rfl) (by kernel_rfl) (by kernel_rfl) (fun _ _ _ h => h) (Or.inl ⟨by rfl, by intro W' hSw; obtain ⟨q0, q1⟩ := hSw; go_simp⟩) hH ?_
      try simp only [Act.put, List.setIfInBounds_toArray, List.set_cons_zero, List.set_cons_succ]
      refine wpAnyH_take (i := 8) (v := .slice (some ad) n c) rfl (by kernel_rfl) (by kernel_rfl) (by kernel_rfl) (fun _ _ _ h => h) (Or.inl ⟨by rfl, by intro W' hSw; go_simp⟩) hH ?_
      try simp only [Act.put, List.setIfInBounds_toArray, List.set_cons_zero, List.set_cons_succ]
      refine wpAnyH_take (i := 9) (v := .int .i64 (k : Int)) rfl (by kernel_rfl) (by kernel_rfl) (by kernel_rfl) (fun _ _ _ h => h) (Or.inl ⟨by rfl, by intro W' hSw; go_simp⟩) hH ?_
      try simp only [Act.put, List.setIfInBounds_toArray, List.set_cons_zero, List.set_cons_succ]
      refine wpAnyH_take (i := 10) (v := .pointer (some (ad.add (k * 2)))) rfl (by kernel_rfl) (by kernel_rfl) (by kernel_rfl) (fun _ _ _ h => h) (Or.inl ⟨by rfl, by intro W' hSw; go_simp⟩) hH ?_
      try simp only [Act.put, List.setIfInBounds_toArray, List.set_cons_zero, List.set_cons_succ]
      refine wpAnyH_take (i := 11) (v := .pointer (some ⟨(ad.add (k * 2)).block, (ad.add (k * 2)).off + 1, none⟩)) rfl (by kernel_rfl) (by kernel_rfl) (by kernel_rfl) (fun _ _ _ h => h) (Or.inl ⟨by rfl, by intro W' hSw; go_simp⟩) hH ?_
      try simp only [Act.put, List.setIfInBounds_toArray, List.set_cons_zero, List.set_cons_succ]
      refine wpAnyH_take (i := 12) (v := .int .i64 g) rfl (by kernel_rfl) (by kernel_rfl) (by kernel_rfl) (fun _ _ _ h => h) (Or.inl ⟨by rfl, by intro W' hSw; obtain ⟨q0, q1⟩ := hSw; go_simp⟩) hH ?_
      try simp only [Act.put, List.setIfInBounds_toArray, List.set_cons_zero, List.set_cons_succ]
      refine wpAnyH_ready (rs := [1]) (by decide +kernel) (by simp) (AllReadyH.cons rfl (fun K' hK => ?_) AllReadyH.nil)
      go_simp
      obtain ⟨w2, hw2⟩ : ∃ w2, w2 = (wr.alloc (.cells #[] 3)).drew := ⟨_, rfl⟩
      have hb2 : Below wr.heap.size wr w2 := by rw [hw2]; exact below_drewC ((Below.refl _ _).alloc (Nat.le_refl _) _)
      have ho2 : Own .i64 3 w2 wr.heap.size (.slice (some ⟨wr.heap.size, 0, none⟩) 0 0) [] := by rw [hw2]; exact own_hollow (heap_alloc_new wr _) (Nat.le_refl _)
      have hs2 : wr.heap.size ≤ w2.heap.size := hb2.size
      rw [← hw2]
      clear hw2
      have hI2 := HI.out w2 (HBL.out.trans (hb2.mono hsz))
      refine hK.out _ _ (HQ.out _ hb2) (fun _ => ?_)
      clear hK K'
      try simp only [Act.put, List.setIfInBounds_toArray, List.set_cons_zero, List.set_cons_succ]
      refine wpAnyH_ready (rs := [7]) (by decide +kernel) (by simp) (AllReadyH.cons rfl (fun K' hK => ?_) AllReadyH.nil)
      refine step_app rfl _ _ 58 rfl .i64 3 8 Tryz.underlying58 info_i64 wr.heap.size _ [] rfl ho2 A' m c' _ zs rfl hI2 hnil (by decide) (by simp only [List.length_nil]; omega) hs2 ?_
      intro v3 w3 hown3 hgrow3
      rw [List.nil_append] at hown3
      obtain ⟨A3, c3, rfl⟩ := hown3.sliced
      have hb3 : Below wr.heap.size wr w3 := ho2.push (Nat.le_refl _) hb2 hs2 hgrow3
      have hs3 := hb3.size
      have HOW3 := Lib.hid hown3
      have HB3 := Lib.hid hb3
      clear ho2 hI2 hgrow3 hb2 hown3
      refine hK.out _ _ (HQ.out _ HB3.out) (fun _ => ?_)
      clear hK K'
      try simp only [Act.put, List.setIfInBounds_toArray, List.set_cons_zero, List.set_cons_succ]
      refine wpAnyH_take (i := 13) (v := .agg #[.slice A3 zs.length c3, .int .i64 g]) rfl (by kernel_rfl) (by kernel_rfl) (by kernel_rfl) (fun _ _ _ h => h) (Or.inl ⟨by rfl, by intro W' hSw; go_simp⟩) (HQ.out _ HB3.out) ?_
      try simp only [Act.put, List.setIfInBounds_toArray, List.set_cons_zero, List.set_cons_succ]
      refine wpAnyH_ready (rs := [14]) (by decide +kernel) (by simp) (AllReadyH.cons rfl (fun K' hK => ?_) AllReadyH.nil)
      go_simp
      obtain ⟨w4, hw4⟩ : ∃ w4, w4 = w3.alloc (.cells #[.slice A3 zs.length c3, .int .i64 g] 70) := ⟨_, rfl⟩
      obtain ⟨hk4, hz4, hba⟩ := one_block hw4
      have hb4 := HB3.out.trans (hba.mono hs3)
      have HB4 := Lib.hid hb4
      have HO4 := Lib.hid (HOW3.out.below hba)
      have HC4 : Hid (∀ (j : Nat) x, [.slice A3 zs.length c3, .int .i64 g][j]? = some x → w4.cell? ⟨w3.heap.size, j, none⟩ = some x) := Lib.hid (fun j x hx => (cell_of_row _ _ j _ _ _ hk4).trans (by simpa using hx))
      have HR4 := Lib.hid (ownr_below HRW.out hb4)
      have hlo4 : w.heap.size ≤ w4.heap.size := by have := hb4.size; omega
      have h34 : w3.heap.size ≤ w4.heap.size := hba.size
      rw [← hw4]
      have hone : ∀ u ∈ [Value.slice A3 zs.length c3, Value.int .i64 g], u.oneCell' = true := by
        intro u hu
        rcases List.mem_cons.1 hu with rfl | hu
        · rfl
        · rcases List.mem_cons.1 hu with rfl | hu
          · rfl
          · cases hu
      clear hw4 hk4 hz4 hba hb4
      refine hK.out _ _ (HQ.out _ HB4.out) (fun _ => ?_)
      clear hK K'
      try simp only [Act.put, List.setIfInBounds_toArray, List.set_cons_zero, List.set_cons_succ]
      refine wpAnyH_ready (rs := [15]) (by decide +kernel) (by simp) (AllReadyH.cons rfl (fun K' hK => ?_) AllReadyH.nil)
      refine step_appR1 rfl _ _ 30 rfl 70 (.agg #[.slice none 0 0, .int .i64 0]) 2 32 Tryz.underlying30 info_prt rfl (by decide) (by decide) w.heap.size (.slice Av k cv) k _ rfl HR4.out (by omega) [.slice A3 zs.length c3, .int .i64 g] rfl hone w3.heap.size hlo4 rfl HC4.out ?_
      intro v5 w5 hown5 hgrow5
      have hkept : ∀ {x : Value} {ys : List Int} {l : Nat}, Own .i64 3 w4 l x ys → Own .i64 3 w5 l x ys := fun hx => hx.grown hgrow5 (fun q e h' => own_apartP hx HR4.out q e h'.symm.symm)
      have HBW := Lib.hid (ownr_push HR4.out (Nat.le_refl w.heap.size) (HBL.out.trans (HB4.out.mono hsz)) hlo4 hgrow5)
      have HR5 : Hid (w5.ownsRow w.heap.size 70 2 v5 (k + 1) (prow (xs ++ [(.slice A3 zs.length c3, g)]))) := Lib.hid (by rw [prow_append]; exact hown5)
      have HE5 : Hid (∀ j, j < k + 1 → ∃ u, (xs ++ [(.slice A3 zs.length c3, g)])[j]? = some (u, (prAt ps j).green) ∧ Own .i64 3 w5 w.heap.size u (prAt ps j).stage) := Lib.hid (each_snoc (w := w5) HUL.out (fun j hj => by
        obtain ⟨u, h1, h2⟩ := HE.out j hj
        exact ⟨u, h1, hkept (h2.below HB4.out)⟩) (by rw [HZS.out]; exact hkept (HO4.out.mono hsz)) HG.out)
      have HA5 : Hid (ApartL ((xs ++ [(Value.slice A3 zs.length c3, g)]).map (·.1))) := Lib.hid (apart_snoc HUL.out HAP.out HE.out (Nat.le_refl _) (fun r hr => (HOW3.out.block r hr).1))
      have HU5 : Hid ((xs ++ [(Value.slice A3 zs.length c3, g)]).length = k + 1) := Lib.hid (by rw [List.length_append, HUL.out]; rfl)
      have hQ5 : PrtAt w5 (ad.add (k * 2)) (.slice A' m c') g := (HQ.out w4 HB4.out).keep (hgrow5.block _ (by have := HBL.out.size; omega) (fun e => by have := (ownr_block HR4.out _ e.symm).1; omega))
      clear hown5 hgrow5 hkept
      refine hK.out _ _ hQ5 (fun _ => ?_)
      clear hK K'
      try simp only [Act.put, List.setIfInBounds_toArray, List.set_cons_zero, List.set_cons_succ]
      refine wpAnyH_ready (rs := [16]) (by decide +kernel) (by simp) (AllReadyH.cons rfl (fun K' hK => ?_) AllReadyH.nil)
      go_simp
      refine hK.out _ _ hQ5 (fun _ => ?_)
      clear hK K'
      try simp only [Act.put, List.setIfInBounds_toArray, List.set_cons_zero, List.set_cons_succ]
      refine wpAnyH_done (by decide +kernel) ?_ _
      go_wp2
      go_roundw
      case rel => exact ⟨k + 1, xs ++ [(.slice A3 zs.length c3, g)], by omega, HU5.out, by go_num, HR5.out, HE5.out, HA5.out, HBW.out⟩
      case measure => simp [intOf]; omega
    · obtain rfl : k = n := by omega
      have HO : Hid (OwnPr wr w.heap.size (.slice Av k cv) xs ps) := Lib.hid ⟨by rw [HL.out]; exact HRW.out, fun j hj => HE.out j (by rw [← HL.out]; exact hj), HAP.out⟩
      go_wp2
      go_ret
      exact ⟨_, xs, rfl, HO.out, HBL.out⟩
set_option maxHeartbeats 4000000 in
set_option maxRecDepth 100000 in
theorem impl_copyPlan (A : Option Addr) (n c B : Nat) (ps : List Prt) (w : World) (h : PrtsAt w B A n ps) (hB : B ≤ w.heap.size) (hn : n ≤ 1048576) (hm : ∀ j, j < n → (prAt ps j).stage.length ≤ 1048576) :
    Calls Tryz.prog 57 #[.slice A n c] w fun e w' => ∃ v xs, e = .returned v ∧ OwnPr w' w.heap.size v xs ps ∧ Below w.heap.size w w' := by
  have hl := h.1
  have HL := Lib.hid hl
  have H := Lib.hid h
  have HM := Lib.hid hm
  have hmx : Tryz.prog.follows .mixedOrders = true := by kernel_rfl
  clear h hm hl
  go_enter Tryz.func57, Tryz.ntmps57
  go_wp2_with ((with_reducible show wpList _ _ _ _ _ _); refine wpList_mkR rfl _ _ _ rfl 70 _ 2 _ Tryz.underlying30 info_prt (by decide) (n : Int) (n : Int) n rfl rfl rfl rfl (by omega) ?_; intro w1 hown hgrow)
  rw [made_prt] at hown
  go_loopw [11] (fun i wr => ∃ (k : Nat) (xs : List (Value × Int)), k ≤ n ∧ xs.length = k ∧ i = .int .i64 k ∧ wr.ownsRow w.heap.size 70 2 (.slice (some ⟨w.heap.size, 0, none⟩) n n) n (prow xs ++ prow (List.replicate (n - xs.length) (.slice none 0 0, 0))) ∧
      (∀ j, j < k → ∃ u, xs[j]? = some (u, (prAt ps j).green) ∧ Own .i64 3 wr w.heap.size u (prAt ps j).stage) ∧ ApartL (xs.map (·.1)) ∧ Below w.heap.size w wr) (fun i _ => n - (intOf i).toNat)
  case atStart => exact ⟨0, [], Nat.zero_le _, rfl, rfl, by simpa [prow] using hown, fun j hj => absurd hj (by omega), ApartL.nil, below_grown hgrow⟩
  case round =>
    clear hown hgrow
    obtain ⟨k, xs, hk, hul, rfl, hrow, heach, hap, hbl⟩ := hrel
    have hsz := hbl.size
    have HRW := Lib.hid hrow
    have HE := Lib.hid heach
    have HAP := Lib.hid hap
    have HBL := Lib.hid hbl
    have HUL := Lib.hid hul
    clear hrow heach hap hbl hul
    by_cases hlt : k < n
    · obtain ⟨ad, A', m, c', rfl, hab, hq, hi, hmc, hnil⟩ := H.out.at hlt
      obtain ⟨q0, q1⟩ := hq.below HBL.out (by omega)
      have hml := hi.1
      have hmk := HM.out k hlt
      have HI := Lib.hid (fun (W : World) (hW : Below w.heap.size w W) => hi.keep (w' := W) (fun p hp => hW.cell (by omega)))
      clear hq hi
      obtain ⟨zs, hzs⟩ : ∃ zs, (prAt ps k).stage = zs := ⟨_, rfl⟩
      obtain ⟨g, hgr⟩ : ∃ g, (prAt ps k).green = g := ⟨_, rfl⟩
      rw [hzs] at hml hmk HI
      rw [hgr] at q1
      have HZS := Lib.hid hzs
      have HG := Lib.hid hgr
      clear hzs hgr
      have hmm : m ≤ 1048576 := by omega
      clear hml
      have i1 : (0 : Int) ≤ (k : Int) := by omega
      have i2 : (k : Int) < (n : Int) := by omega
      obtain ⟨wb, hwb⟩ : ∃ wb, wb = wr.alloc (.cells #[.slice A' m c', .int .i64 g] 70) := ⟨_, rfl⟩
      obtain ⟨hkb, hzb, hbb⟩ := one_block hwb
      have HBB := Lib.hid (below_drewC hbb)
      have hbd : wb.drew.heap[wr.heap.size]? = some (.cells #[.slice A' m c', .int .i64 g] 70) := hkb
      have hszb : wr.heap.size ≤ wb.heap.size := hbb.size
      clear hkb hzb hbb
      go_wp2
      rw [← hwb]
      clear hwb q0 q1
      refine wp_region_held_drew (S := fun W' => W'.heap[wr.heap.size]? = some (.cells #[.slice A' m c', .int .i64 g] 70)) hmx hbd (fun hH => ?_)
      refine wpAnyH_take (i := 0) (v := .slice (some ⟨w.heap.size, 0, none⟩) n n) rfl (by kernel_rfl) (by kernel_rfl) (by kernel_rfl) (fun _ _ _ h => h) (Or.inl ⟨by rfl, by intro W' hSw; go_simp⟩) hH ?_
      try simp only [Act.put, List.setIfInBounds_toArray, List.set_cons_zero, List.set_cons_succ]
      refine wpAnyH_take (i := 1) (v := .int .i64 (k : Int)) rfl (by kernel_rfl) (by kernel_rfl) (by kernel_rfl) (fun _ _ _ h => h) (Or.inl ⟨by rfl, by intro W' hSw; go_simp⟩) hH ?_
      try simp only [Act.put, List.setIfInBounds_toArray, List.set_cons_zero, List.set_cons_succ]
      refine wpAnyH_take (i := 2) (v := .pointer (some ⟨wr.heap.size, 0, none⟩)) rfl (by kernel_rfl) (by kernel_rfl) (by kernel_rfl) (fun _ _ _ h => h) (Or.inl ⟨by rfl, by intro W' hSw; go_simp⟩) hH ?_
      try simp only [Act.put, List.setIfInBounds_toArray, List.set_cons_zero, List.set_cons_succ]
      refine wpAnyH_take (i := 3) (v := .slice A' m c') rfl (by kernel_rfl) (by kernel_rfl) (by kernel_rfl) (fun _ _ _ h => h) (Or.inl ⟨by rfl, by intro W' hSw; have hlt' := lt_of_block hSw; obtain ⟨b0, b1⟩ := cells2C hSw; go_simp⟩) hH ?_
      try simp only [Act.put, List.setIfInBounds_toArray, List.set_cons_zero, List.set_cons_succ]
      refine wpAnyH_take (i := 5) (v := .pointer (some ⟨wr.heap.size, 1, none⟩)) rfl (by kernel_rfl) (by kernel_rfl) (by kernel_rfl) (fun _ _ _ h => h) (Or.inl ⟨by rfl, by intro W' hSw; go_simp⟩) hH ?_
      try simp only [Act.put, List.setIfInBounds_toArray, List.set_cons_zero, List.set_cons_succ]
      refine wpAnyH_take (i := 6) (v := .int .i64 g) rfl (by kernel_rfl) (by kernel_rfl) (by kernel_rfl) (fun _ _ _ h => h) (Or.inl ⟨by rfl, by intro W' hSw; have hlt' := lt_of_block hSw; obtain ⟨b0, b1⟩ := cells2C hSw; go_simp⟩) hH ?_
      try simp only [Act.put, List.setIfInBounds_toArray, List.set_cons_zero, List.set_cons_succ]
      refine wpAnyH_ready (rs := [4]) (by decide +kernel) (by simp) (AllReadyH.cons rfl (fun K' hK => ?_) AllReadyH.nil)
      go_simp
      have hbd' := HBL.out.trans (HBB.out.mono hsz)
      refine (lib_Clone2 A' m c' wb.drew.heap.size zs wb.drew ((HI.out _ hbd').up (by have := hbd'.size; omega)) (Nat.le_refl _) hnil (by omega)).mono ?_
      rintro e w2 ⟨v3, rfl, ho2, hb2⟩
      obtain ⟨A3, c3, rfl⟩ := ho2.sliced
      have hB2 : Below wr.heap.size wr w2 := HBB.out.trans (hb2.mono HBB.out.size)
      have hk2 := (hb2.block _ (lt_of_block hbd)).trans hbd
      have hl2 : w.heap.size ≤ w2.heap.size := by have := hB2.size; omega
      have HB2 := Lib.hid hB2
      have HO2 := Lib.hid (ho2.mono (lo' := wr.heap.size) HBB.out.size)
      clear hb2 ho2 hB2 hbd'
      go_wp2_with fail
      refine hK.out _ _ hk2 (fun _ => ?_)
      clear hK K'
      try simp only [Act.put, List.setIfInBounds_toArray, List.set_cons_zero, List.set_cons_succ]
      refine wpAnyH_take (i := 7) (v := .agg #[.slice A3 zs.length c3, .int .i64 g]) rfl (by kernel_rfl) (by kernel_rfl) (by kernel_rfl) (fun _ _ _ h => h) (Or.inl ⟨by rfl, by intro W' hSw; go_simp⟩) hk2 ?_
      try simp only [Act.put, List.setIfInBounds_toArray, List.set_cons_zero, List.set_cons_succ]
      have hlr0 : w.heap.size < w2.heap.size := (ownr_block (ownr_below HRW.out HB2.out) _ rfl).2
      refine wpAnyH_take (i := 8) (v := .pointer (some ⟨w.heap.size, k * 2, none⟩)) rfl (by kernel_rfl) (by kernel_rfl) (by kernel_rfl) (fun _ _ _ h => h) (Or.inl ⟨by rfl, by intro W' hSw; go_simp⟩) hk2 ?_
      try simp only [Act.put, List.setIfInBounds_toArray, List.set_cons_zero, List.set_cons_succ]
      refine wpAnyH_ready (rs := [9]) (by decide +kernel) (by simp) (AllReadyH.cons rfl (fun K' hK => ?_) AllReadyH.nil)
      have hrow2 := ownr_below HRW.out HB2.out
      obtain ⟨x0, hx0⟩ := ownr_some hrow2 (j := k * 2) (by omega)
      obtain ⟨x1, hx1⟩ := ownr_some hrow2 (j := k * 2 + 1) (by omega)
      have f0 := World.ownsRow.frozenAt hrow2
      have hlr : w.heap.size < w2.heap.size := (ownr_block hrow2 _ rfl).2
      go_simp
      obtain ⟨w3, hw3⟩ : ∃ w3, w3 = (w2.setCell ⟨w.heap.size, k * 2, none⟩ (.slice A3 zs.length c3)).setCell ⟨w.heap.size, k * 2 + 1, none⟩ (.int .i64 g) := ⟨_, rfl⟩
      rw [← hw3]
      have hst := (World.ownsRow.stored (World.ownsRow.stored hrow2 (k * 2) (.slice A3 zs.length c3)).1 (k * 2 + 1) (.int .i64 g)).1
      rw [← hw3] at hst
      have hgs : w2.grownBy w3 (some w.heap.size) := by rw [hw3]; exact only_setCell (only_setCell (World.grownBy.refl _ _) _ _) _ _
      have hkept : ∀ {x : Value} {xs : List Int} {l : Nat}, Own .i64 3 w2 l x xs → Own .i64 3 w3 l x xs := fun hx => hx.grown hgs (fun g hg e => own_apartP hx hrow2 g hg e)
      have hsn : xs.length < n := by rw [HUL.out]; exact hlt
      have hsx := HUL.out
      rw [← hsx, prow_next xs n _ (.slice A3 zs.length c3, g) hsn] at hst
      have HR := Lib.hid hst
      have HE5 : Hid (∀ j, j < k + 1 → ∃ u, (xs ++ [(.slice A3 zs.length c3, g)])[j]? = some (u, (prAt ps j).green) ∧ Own .i64 3 w3 w.heap.size u (prAt ps j).stage) := Lib.hid (each_snoc (w := w3) HUL.out (fun j hj => by
        obtain ⟨u, h1, h2⟩ := HE.out j hj
        exact ⟨u, h1, hkept (h2.below HB2.out)⟩) (by rw [HZS.out]; exact hkept (HO2.out.mono hsz)) HG.out)
      have HA5 : Hid (ApartL ((xs ++ [(Value.slice A3 zs.length c3, g)]).map (·.1))) := Lib.hid (apart_snoc HUL.out HAP.out HE.out (Nat.le_refl _) (fun r hr => (HO2.out.block r hr).1))
      have HU5 : Hid ((xs ++ [(Value.slice A3 zs.length c3, g)]).length = k + 1) := Lib.hid (by rw [List.length_append, HUL.out]; rfl)
      have HB3 : Hid (Below w.heap.size w w3) := Lib.hid (by rw [hw3]; exact ((HBL.out.trans (HB2.out.mono hsz)).setCell (Nat.le_refl _) _).setCell (Nat.le_refl _) _)
      have hk3 : w3.heap[wr.heap.size]? = some (.cells #[.slice A' m c', .int .i64 g] 70) := (hgs.block _ (lt_of_block hk2) (fun e => by have := Option.some.inj e; have : w.heap.size < wr.heap.size := (ownr_block HRW.out _ rfl).2; omega)).trans hk2
      clear hst hgs hkept hw3 hx0 hx1 f0 hrow2 hsx
      refine hK.out _ _ hk3 (fun _ => ?_)
      clear hK K'
      try simp only [Act.put, List.setIfInBounds_toArray, List.set_cons_zero, List.set_cons_succ]
      refine wpAnyH_done (by decide +kernel) ?_ _
      go_wp2
      go_roundw
      case rel => exact ⟨k + 1, xs ++ [(.slice A3 zs.length c3, g)], by omega, HU5.out, by go_num, HR.out, HE5.out, HA5.out, HB3.out⟩
      case measure => simp [intOf]; omega
    · obtain rfl : k = n := by omega
      have hrow := HRW.out
      rw [HUL.out, Nat.sub_self, List.replicate_zero] at hrow
      have HO : Hid (OwnPr wr w.heap.size (.slice (some ⟨w.heap.size, 0, none⟩) k k) xs ps) := Lib.hid ⟨by rw [HL.out]; simpa [prow] using hrow, fun j hj => HE.out j (by rw [← HL.out]; exact hj), HAP.out⟩
      clear hrow
      go_wp2
      go_ret
      exact ⟨_, xs, rfl, HO.out, HBL.out⟩
end Go.Proofs.YtlpkafhapmkkfaaGreatDoor

/- slices.Grow of nil and slices.Concat of two rows, at rows of structs. -/
namespace Go.Proofs.YtlpkafhapmkkfaaGreatDoor
open Go.RowKit
set_option linter.unusedVariables false

abbrev zCatP : Array Value := #[.slice none 0 0, .int .i64 0]
abbrev zCatC : Array Value := #[.int .i64 0, .int .i64 0, .int .i64 0, .int .i64 0]
theorem info_catP : (Tryz.prog.info? 70).map (fun i => (i.zero, i.size, i.bytes)) = some (some (.agg zCatP), 2, 32) := by kernel_rfl
theorem zc_sizeP (m : Nat) : (Builtin.zeroCells (Value.agg zCatP).cells m).size = m * 2 := by
  simp [Builtin.zeroCells, Value.cells]
theorem lib_GrowNilP (m : Nat) (w : World) (hm : m ≤ 4294967296) (hp : 0 < m) :
    Calls Tryz.prog 137 #[.slice none 0 0, .int .i64 m] w fun e w' => ∃ v, e = .returned v ∧ w'.ownsRow w.heap.size 70 2 v 0 [] ∧ Below w.heap.size w w' := by
  have e1 : ¬ (m : Int) < 0 := by omega
  have e2 : (m : Int) > 0 := by omega
  have hwm : IntKind.i64.wrap (m : Int) = (m : Int) := by rw [IntKind.wrap_i64]; omega
  obtain ⟨i, hi1, hz, hsz, hby⟩ := info_parts (info_catP)
  have hr := fun ty => Lib.run_append_nil_zeros (P := Tryz.prog) w 30 3 ty 70 i (.agg zCatP) .i64 .i64 Tryz.underlying30 Tryz.underlying3 hi1 hz m hp (by omega) (by omega) (by rw [hby]; omega)
  have hc1 := grownCap_ge w m 0 70
  have hc2 := grownCap_le_maxLen w m 0 70 (by unfold maxLen; omega)
  obtain ⟨q, hq⟩ : ∃ q, q = grownCap w m 0 70 := ⟨_, rfl⟩
  rw [← hq] at hc1 hc2
  simp only [← hq] at hr
  have HW : Hid ((w.drew.alloc (.cells (Builtin.zeroCells (Value.agg zCatP).cells m ++ Builtin.zeroCells (Value.agg zCatP).cells (q - m)) 70)).ownsRow w.heap.size 70 2 (.slice (some ⟨w.heap.size, 0, none⟩) 0 q) 0 []) := Lib.hid ⟨by simp, .inr ⟨w.heap.size, q, _, rfl, Nat.le_refl _, heap_alloc_new w.drew _, Nat.zero_le _, hc2, by rw [Array.size_append, zc_sizeP, zc_sizeP]; omega, by simp⟩⟩
  have HB : Hid (Below w.heap.size w (w.drew.alloc (.cells (Builtin.zeroCells (Value.agg zCatP).cells m ++ Builtin.zeroCells (Value.agg zCatP).cells (q - m)) 70))) := Lib.hid ((show Below w.heap.size w w.drew from ⟨rfl, rfl, rfl, Nat.le_refl _, fun _ _ => rfl⟩).alloc (Nat.le_refl _) _)
  generalize w.drew.alloc (.cells (Builtin.zeroCells (Value.agg zCatP).cells m ++ Builtin.zeroCells (Value.agg zCatP).cells (q - m)) 70) = w1 at *
  clear hi1 hz hsz hby hq
  go_enter Tryz.func137, Tryz.ntmps137
  go_wp2_with (at_builtin; refine Lib.wpList_append_run w rfl _ _ _ _ rfl (.slice none 0 0) (.int .i64 m) rfl rfl _ _ (hr _) ?_)
  go_ret
  exact ⟨_, rfl, HW.out, HB.out⟩
set_option maxHeartbeats 2000000 in
/-- slices.Concat of two rows that are not both empty. -/
theorem lib_Concat2P (H : Nat) (A1 : Option Addr) (n1 c1 : Nat) (xs : List Value) (A2 : Option Addr) (n2 c2 : Nat) (ys : List Value) (B : Nat) (w : World)
    (hH : w.heap[H]? = some (.cells #[.slice A1 n1 c1, .slice A2 n2 c2] 30)) (h1 : CellsAt w B A1 (n1 * 2) xs) (h2 : CellsAt w B A2 (n2 * 2) ys) (o1 : ∀ u ∈ xs, u.oneCell' = true) (o2 : ∀ u ∈ ys, u.oneCell' = true) (hB : B ≤ w.heap.size) (hA1 : A1 = none → n1 = 0 ∧ c1 = 0) (hA2 : A2 = none → n2 = 0 ∧ c2 = 0) (hp : 0 < n1 + n2) (hs1 : n1 ≤ 1048576) (hs2 : n2 ≤ 1048576) :
    Calls Tryz.prog 116 #[.slice (some ⟨H, 0, none⟩) 2 2] w fun e w' => ∃ A c, e = .returned (.slice A (n1 + n2) c) ∧ w'.ownsRow w.heap.size 70 2 (.slice A (n1 + n2) c) (n1 + n2) (xs ++ ys) ∧ Below w.heap.size w w' := by
  have z0 : w.cell? ⟨H, 0, none⟩ = some (.slice A1 n1 c1) := by rw [cell_of_row w H 0 _ _ _ hH]; rfl
  have z1 : w.cell? ⟨H, 1, none⟩ = some (.slice A2 n2 c2) := by rw [cell_of_row w H 1 _ _ _ hH]; rfl
  have wa : IntKind.i64.wrap ((n1 : Int) + (n2 : Int)) = ((n1 + n2 : Nat) : Int) := by rw [IntKind.wrap_i64]; omega
  have wb : IntKind.i64.wrap ((n1 : Int)) = (n1 : Int) := by rw [IntKind.wrap_i64]; omega
  have hlt := lt_of_block hH
  have HZ := Lib.hid hH
  clear hH
  go_enter Tryz.func116, Tryz.ntmps116
  go_wp2_with fail
  go_loopw [3, 11] (fun z i wr => w = wr ∧ ((i = .int .i64 0 ∧ z = .int .i64 0) ∨ (i = .int .i64 1 ∧ z = .int .i64 n1) ∨ (i = .int .i64 2 ∧ z = .int .i64 ((n1 + n2 : Nat) : Int)))) (fun _ i _ => 2 - (intOf i).toNat)
  case atStart => exact ⟨rfl, .inl ⟨rfl, rfl⟩⟩
  case round =>
    obtain ⟨rfl, ⟨rfl, rfl⟩ | ⟨rfl, rfl⟩ | ⟨rfl, rfl⟩⟩ := hrel
    · have e2 : ¬ (n1 : Int) < 0 := by omega
      go_wp2_with fail
      go_roundw
      case rel => exact ⟨by first | trivial | rfl, .inr (.inl ⟨by go_num, by go_num⟩)⟩
      case measure => simp [intOf]
    · have e1 : ¬ ((n1 + n2 : Nat) : Int) < 0 := by omega
      have e3 : ¬ (n1 : Int) + (n2 : Int) < 0 := by omega
      go_wp2_with fail
      go_roundw
      case rel => exact ⟨by first | trivial | rfl, .inr (.inr ⟨by go_num, by go_num⟩)⟩
      case measure => simp [intOf]
    · clear z0 z1
      go_wp2_with fail
      refine (lib_GrowNilP (n1 + n2) w (by omega) (by omega)).mono ?_
      rintro e w1 ⟨v, rfl, ho, hb⟩
      have hH1 := Lib.hid ((hb.block H hlt).trans HZ.out)
      have HO := Lib.hid ho
      have HB := Lib.hid hb
      obtain ⟨Ag, cg, rfl⟩ := ownr_sliced ho
      have I1 := Lib.hid h1
      have I2 := Lib.hid h2
      clear ho hb h1 h2
      go_wp2_with fail
      go_loopw [6, 27] (fun v i wr => Below w.heap.size w wr ∧ ((i = .int .i64 0 ∧ wr.ownsRow w.heap.size 70 2 v 0 []) ∨ (i = .int .i64 1 ∧ wr.ownsRow w.heap.size 70 2 v n1 xs) ∨ (i = .int .i64 2 ∧ wr.ownsRow w.heap.size 70 2 v (n1 + n2) (xs ++ ys)))) (fun _ i _ => 2 - (intOf i).toNat)
      case atStart => exact ⟨HB.out, .inl ⟨rfl, HO.out⟩⟩
      case round =>
        obtain ⟨hbl, ⟨rfl, ho⟩ | ⟨rfl, ho⟩ | ⟨rfl, ho⟩⟩ := hrel
        · have hHr := (hbl.block H hlt).trans HZ.out
          have z0 : wr.cell? ⟨H, 0, none⟩ = some (.slice A1 n1 c1) := by rw [cell_of_row wr H 0 _ _ _ hHr]; rfl
          have hi := I1.out.below (hbl.mono hB)
          have hsz := hbl.size
          have HBL := Lib.hid hbl
          obtain ⟨Ae, ce, rfl⟩ := ownr_sliced ho
          clear hHr hbl
          go_wp2_with (at_builtin; refine wpList_appR rfl _ _ 30 30 rfl 70 70 (.agg zCatP) 2 32 Tryz.underlying30 Tryz.underlying30 info_catP rfl (by decide) (by decide) w.heap.size _ 0 [] rfl ho A1 n1 c1 B xs rfl hi o1 hA1 (by omega) hsz ?_; intro v1 wq hown1 hgrow1 hat1; have hb1 := ownr_push ho (Nat.le_refl _) HBL.out hsz hgrow1; have hown2 : wq.ownsRow w.heap.size 70 2 v1 n1 xs := by { simpa using hown1 }; clear hown1 hgrow1 hat1)
          go_roundw
          case rel => exact ⟨hb1, .inr (.inl ⟨by go_num, hown2⟩)⟩
          case measure => simp [intOf]
        · have hHr := (hbl.block H hlt).trans HZ.out
          have z1 : wr.cell? ⟨H, 1, none⟩ = some (.slice A2 n2 c2) := by rw [cell_of_row wr H 1 _ _ _ hHr]; rfl
          have hi := I2.out.below (hbl.mono hB)
          have hsz := hbl.size
          have HBL := Lib.hid hbl
          obtain ⟨Ae, ce, rfl⟩ := ownr_sliced ho
          clear hHr hbl
          go_wp2_with (at_builtin; refine wpList_appR rfl _ _ 30 30 rfl 70 70 (.agg zCatP) 2 32 Tryz.underlying30 Tryz.underlying30 info_catP rfl (by decide) (by decide) w.heap.size _ n1 xs rfl ho A2 n2 c2 B ys rfl hi o2 hA2 (by omega) hsz ?_; intro v1 wq hown1 hgrow1 hat1; have hb1 := ownr_push ho (Nat.le_refl _) HBL.out hsz hgrow1; clear hgrow1 hat1)
          go_roundw
          case rel => exact ⟨hb1, .inr (.inr ⟨by go_num, hown1⟩)⟩
          case measure => simp [intOf]
        · obtain ⟨Ae, ce, rfl⟩ := ownr_sliced ho
          have HOE := Lib.hid ho
          clear ho
          go_wp2_with fail
          go_ret
          exact ⟨Ae, ce, rfl, HOE.out, hbl⟩
end Go.Proofs.YtlpkafhapmkkfaaGreatDoor

/- Chapter 18: RotatePlan: the model and the program (written by genrot.py). -/
set_option linter.unusedSimpArgs false
namespace Go.Proofs.YtlpkafhapmkkfaaGreatDoor
open Go.RowKit
set_option linter.unusedVariables false

/-- 'append(v, row...)' in a region that draws its order. -/
theorem step_appRq {P : Program} {w : World} {ops : Array Oper} {o : Oper} {a : Act} {Q : Exit → Act → World → Prop} {K : Act → World → Prop} {F : Prop} (hgd : o.guard = none) (s x : Operand) (t : TypeId)
    (ho : o.op = .call { callee := .builtin .append, args := #[s, x], argTypes := #[t, t] })
    (E : TypeId) (z0 : Value) (sz bytes : Nat) (ht : P.underlying t = some (.slice E)) (hi : (P.info? E).map (fun i => (i.zero, i.size, i.bytes)) = some (some z0, sz, bytes)) (hz : z0.cells.size = sz) (hsz : 0 < sz) (hb : bytes ≤ 256)
    (lo : Nat) (v : Value) (n : Nat) (xs : List Value) (hs : a.eval s = v) (hown : w.ownsRow lo E sz v n xs)
    (A : Option Addr) (m c B : Nat) (zs : List Value) (hx : a.eval x = .slice A m c) (hsrc : CellsAt w B A (m * sz) zs) (h1 : ∀ u ∈ zs, u.oneCell' = true) (hnil : A = none → m = 0 ∧ c = 0)
    (hbytes : n + m ≤ 274877906944) (hlo : lo ≤ w.heap.size)
    (h : ∀ v' w', w'.ownsRow lo E sz v' (n + m) (xs ++ zs) → w.grownBy w' v.ownBlock → K (a.put o.dst v') w') :
    if Region.wanted o (yielded ops a.tmps) = true then Oper.wp P o a w K Q else F := by
  rw [if_pos (by simp [Region.wanted, hgd])]
  obtain ⟨i, hi1, hz1, hsz1, hby⟩ := info_parts hi
  have hzs := hsrc.1
  obtain ⟨Av, cv, hv⟩ := ownr_sliced hown
  cases A with
  | none =>
    obtain ⟨rfl, rfl⟩ := hnil rfl
    have hz0 : zs = [] := List.eq_nil_of_length_eq_zero (by rw [hzs]; simp)
    subst hz0
    have hrun := run_append_owned_none (P := P) (w := w) lo t o.type E i sz ht hi1 v n _ hown
    have hrun2 := (run_append_types ht ht o.type Av n cv (.slice none 0 0) w).trans (hv ▸ hrun)
    unfold Oper.wp
    simp [execOp, ho, resolve, invoke, builtin, hs, hx, hv, hrun2, Result.andThen]
    exact hv ▸ h v w (by rw [List.append_nil]; exact hown) (World.grownBy.refl _ _)
  | some ad =>
    have hnews : ∀ (j : Nat) u, zs[j]? = some u → w.cell? (ad.add j) = some u := by
      intro j u hj
      have hlt := (List.getElem?_eq_some_iff.1 hj).1
      obtain ⟨ad', e, _, hc⟩ := hsrc.2 (by rw [← hzs]; omega)
      injection e with e
      subst e
      exact hc j u hj
    obtain ⟨v', w', hr, h2, h3, h4, h5⟩ := run_append_own_at (P := P) w lo t o.type E i z0 sz bytes ht hi1 hz1 hsz1 hby hz hsz v n _ hown ad m c zs hzs hnews h1
      (by unfold maxLen; omega) (by have : (n + m) * bytes ≤ (n + m) * 256 := Nat.mul_le_mul_left _ hb; omega) hlo
    have hrun2 := (run_append_types ht ht o.type Av n cv (.slice (some ad) m c) w).trans (hv ▸ hr)
    unfold Oper.wp execOp
    simp only [ho, resolve, invoke, builtin, Sem.run_bind, Sem.run_pure, Result.andThen_ok, List.map_toArray, List.map_cons, List.map_nil, hs, hx, hv, hrun2]
    exact h v' w' h2 h3
/-- what RotatePlan answers. -/
def rotP (ps : List Prt) (i : Int) : List Prt := if inB i 0 ((ps.length : Int) - 1) then ps.drop i.toNat ++ ps.take i.toNat else ps
theorem rotP_no {ps : List Prt} {i : Int} (h : inB i 0 ((ps.length : Int) - 1) = false) : rotP ps i = ps := by unfold rotP; rw [h]; rfl
theorem rotP_yes {ps : List Prt} {k : Nat} (h : inB (k : Int) 0 ((ps.length : Int) - 1) = true) : rotP ps k = ps.drop k ++ ps.take k := by unfold rotP; rw [h]; rfl
theorem rotP_len (ps : List Prt) (i : Int) : (rotP ps i).length = ps.length := by
  unfold rotP
  split
  · rw [List.length_append, List.length_drop, List.length_take]
    rename_i h
    have := inB_t h
    omega
  · rfl
theorem prAt_drop (ps : List Prt) (i j : Nat) : prAt (ps.drop i) j = prAt ps (i + j) := by
  unfold prAt
  rw [List.getD_eq_getElem?_getD, List.getD_eq_getElem?_getD, List.getElem?_drop]
theorem prAt_take (ps : List Prt) {i j : Nat} (h : j < i) : prAt (ps.take i) j = prAt ps j := by
  unfold prAt
  rw [List.getD_eq_getElem?_getD, List.getD_eq_getElem?_getD, List.getElem?_take, if_pos h]
theorem prAt_app (aa bs : List Prt) (j : Nat) : prAt (aa ++ bs) j = if j < aa.length then prAt aa j else prAt bs (j - aa.length) := by
  unfold prAt
  simp only [List.getD_eq_getElem?_getD]
  split
  · rename_i h; rw [List.getElem?_append_left h]
  · rename_i h; rw [List.getElem?_append_right (by omega)]
theorem rotP_small {ps : List Prt} (h : SmallP ps) (i : Int) : SmallP (rotP ps i) := by
  refine ⟨by rw [rotP_len]; exact h.1, fun j hj => ?_⟩
  rw [rotP_len] at hj
  unfold rotP
  split
  · rename_i hi
    have := inB_t hi
    rw [prAt_app, List.length_drop]
    split
    · rw [prAt_drop]; exact h.2 _ (by omega)
    · rw [prAt_take _ (by omega)]; exact h.2 _ (by omega)
  · exact h.2 j hj
theorem prts_drop {w : World} {B : Nat} {ad : Addr} {n i : Nat} {ps : List Prt} (h : PrtsAt w B (some ad) n ps) (hi : i < n) : PrtsAt w B (some (ad.add (i * 2))) (n - i) (ps.drop i) := by
  have hl := h.1
  refine ⟨by rw [List.length_drop, hl], fun h0 => ?_⟩
  obtain ⟨ad', e, hb, hc⟩ := h.2 (by omega)
  injection e with e
  subst e
  refine ⟨_, rfl, by rw [add_block]; exact hb, fun j hj => ?_⟩
  have := hc (i + j) (by omega)
  rw [prAt_drop, add_add, show i * 2 + j * 2 = (i + j) * 2 by omega]
  exact this
theorem prts_take {w : World} {B : Nat} {ad : Addr} {n i : Nat} {ps : List Prt} (h : PrtsAt w B (some ad) n ps) (hi : i < n) : PrtsAt w B (some ad) i (ps.take i) := by
  have hl := h.1
  refine ⟨by rw [List.length_take, hl]; omega, fun h0 => ?_⟩
  obtain ⟨ad', e, hb, hc⟩ := h.2 (by omega)
  refine ⟨ad', e, hb, fun j hj => ?_⟩
  rw [prAt_take _ hj]
  exact hc j (by omega)
/-- what lies in a row of parts, aa cells. -/
theorem prts_raw {w : World} {B : Nat} {A : Option Addr} {n : Nat} {ps : List Prt} (h : PrtsAt w B A n ps) : ∃ xs : List (Value × Int), xs.length = n ∧ CellsAt w B A (n * 2) (prow xs) ∧ (∀ u ∈ prow xs, u.oneCell' = true) ∧ ∀ j, j < n → ∃ A' m c', xs[j]? = some (.slice A' m c', (prAt ps j).green) ∧ IntsAt .i64 w B A' m (prAt ps j).stage ∧ (m ≤ c' ∧ c' ≤ maxLen) ∧ (A' = none → m = 0 ∧ c' = 0) := by
  by_cases h0 : 0 < n
  · obtain ⟨ad, rfl, hb, hc⟩ := h.2 h0
    let f : Nat → Value := fun j => if hj : j < n then .slice (Classical.choose (hc j hj)) (Classical.choose (Classical.choose_spec (hc j hj))) (Classical.choose (Classical.choose_spec (Classical.choose_spec (hc j hj)))) else .int .i64 0
    have hf : ∀ j, j < n → ∃ A' m c', f j = .slice A' m c' ∧ PrtAt w (ad.add (j * 2)) (.slice A' m c') (prAt ps j).green ∧ IntsAt .i64 w B A' m (prAt ps j).stage ∧ (m ≤ c' ∧ c' ≤ maxLen) ∧ (A' = none → m = 0 ∧ c' = 0) := fun j hj => ⟨_, _, _, dif_pos hj, Classical.choose_spec (Classical.choose_spec (Classical.choose_spec (hc j hj)))⟩
    let xs : List (Value × Int) := (List.range n).map fun j => (f j, (prAt ps j).green)
    have hx : ∀ j, j < n → xs[j]? = some (f j, (prAt ps j).green) := fun j hj => by simp [xs, hj]
    have hxl : xs.length = n := by simp [xs]
    refine ⟨xs, hxl, ⟨by rw [prow_length, hxl], fun _ => ⟨ad, rfl, hb, fun j u hj => ?_⟩⟩, prow_one xs (fun x hx' => ?_), fun j hj => ?_⟩
    · have hlt := (List.getElem?_eq_some_iff.1 hj).1
      rw [prow_length, hxl] at hlt
      obtain ⟨A', m, c', e, hp, -⟩ := hf (j / 2) (by omega)
      rcases (show j % 2 = 0 ∨ j % 2 = 1 by omega) with h2 | h2
      · have := prow_at0 (hx (j / 2) (by omega))
        rw [show j / 2 * 2 = j by omega] at this
        rw [hj] at this
        injection this with this
        rw [this, e]
        have := hp.c0
        rwa [show j / 2 * 2 = j by omega] at this
      · have := prow_at1 (hx (j / 2) (by omega))
        rw [show j / 2 * 2 + 1 = j by omega] at this
        rw [hj] at this
        injection this with this
        rw [this]
        have := hp.c1
        rw [← add_plusF _ 1 (by omega), add_add, show j / 2 * 2 + 1 = j by omega] at this
        exact this
    · obtain ⟨j, hj, rfl⟩ := List.getElem_of_mem hx'
      obtain ⟨A', m, c', e, -⟩ := hf j (by omega)
      have := hx j (by omega)
      rw [List.getElem?_eq_getElem hj] at this
      injection this with this
      rw [this, e]
      rfl
    · obtain ⟨A', m, c', e, -, h1, h2, h3⟩ := hf j hj
      exact ⟨A', m, c', by rw [hx j hj, e], h1, h2, h3⟩
  · obtain rfl : n = 0 := by omega
    exact ⟨[], rfl, ⟨by simp [prow], fun h => absurd h (by omega)⟩, fun u hu => by simp [prow] at hu, fun j hj => absurd hj (by omega)⟩
/-- and back. -/
theorem raw_prts {w : World} {B B' : Nat} {A : Option Addr} {n : Nat} {xs : List (Value × Int)} {ps : List Prt} (hl : ps.length = n) (hc : CellsAt w B' A (n * 2) (prow xs)) (hB : B ≤ B') (hx : ∀ j, j < n → ∃ A' m c', xs[j]? = some (.slice A' m c', (prAt ps j).green) ∧ IntsAt .i64 w B A' m (prAt ps j).stage ∧ (m ≤ c' ∧ c' ≤ maxLen) ∧ (A' = none → m = 0 ∧ c' = 0)) : PrtsAt w B' A n ps := by
  refine ⟨hl, fun h0 => ?_⟩
  obtain ⟨ad, e, hb, hcc⟩ := hc.2 (by omega)
  refine ⟨ad, e, hb, fun j hj => ?_⟩
  obtain ⟨A', m, c', h1, h2, h3, h4⟩ := hx j hj
  refine ⟨A', m, c', ⟨hcc _ _ (prow_at0 h1), ?_⟩, h2.up hB, h3, h4⟩
  have := hcc _ _ (prow_at1 h1)
  rw [← add_plusF _ 1 (by omega), add_add]
  exact this
theorem raw_app {w : World} {B n1 n2 : Nat} {xs ys : List (Value × Int)} {aa bs : List Prt} (h1l : xs.length = n1) (hal : aa.length = n1)
    (h1 : ∀ j, j < n1 → ∃ A' m c', xs[j]? = some (.slice A' m c', (prAt aa j).green) ∧ IntsAt .i64 w B A' m (prAt aa j).stage ∧ (m ≤ c' ∧ c' ≤ maxLen) ∧ (A' = none → m = 0 ∧ c' = 0))
    (h2 : ∀ j, j < n2 → ∃ A' m c', ys[j]? = some (.slice A' m c', (prAt bs j).green) ∧ IntsAt .i64 w B A' m (prAt bs j).stage ∧ (m ≤ c' ∧ c' ≤ maxLen) ∧ (A' = none → m = 0 ∧ c' = 0)) :
    ∀ j, j < n1 + n2 → ∃ A' m c', (xs ++ ys)[j]? = some (.slice A' m c', (prAt (aa ++ bs) j).green) ∧ IntsAt .i64 w B A' m (prAt (aa ++ bs) j).stage ∧ (m ≤ c' ∧ c' ≤ maxLen) ∧ (A' = none → m = 0 ∧ c' = 0) := by
  intro j hj
  rw [prAt_app]
  by_cases h : j < n1
  · rw [if_pos (by omega), List.getElem?_append_left (by omega)]
    exact h1 j h
  · rw [if_neg (by omega), List.getElem?_append_right (by omega), h1l, hal]
    exact h2 (j - n1) (by omega)
/-- two rows of parts of the call's own, one behind the other. -/
theorem ownPr_app {w w2 w3 : World} {lo : Nat} {v v2 v3 : Value} {xs ys : List (Value × Int)} {aa bs : List Prt} (h1 : OwnPr w lo v xs aa) (h2 : OwnPr w2 w.heap.size v2 ys bs) (hb : Below w.heap.size w w2) (hlo : lo ≤ w.heap.size)
    (hr : w3.ownsRow lo 70 2 v3 (aa.length + bs.length) (prow xs ++ prow ys)) (hg : w2.grownBy w3 v.ownBlock) : OwnPr w3 lo v3 (xs ++ ys) (aa ++ bs) := by
  have l1 := h1.pe.len
  have l2 := h2.pe.len
  have hrow2 := ownr_below h1.row hb
  have hkept : ∀ {x : Value} {zs : List Int} {l : Nat}, Own .i64 3 w2 l x zs → Own .i64 3 w3 l x zs := fun hx => hx.grown hg (fun q e h' => own_apartP hx hrow2 q e h')
  refine ⟨by rw [List.length_append, prow_append]; exact hr, fun j hj => ?_, ?_⟩
  · rw [List.length_append] at hj
    rw [prAt_app]
    by_cases h : j < aa.length
    · rw [if_pos h, List.getElem?_append_left (by omega)]
      obtain ⟨u, e, ho⟩ := h1.each j h
      exact ⟨u, e, hkept (ho.below hb)⟩
    · rw [if_neg h, List.getElem?_append_right (by omega), l1]
      obtain ⟨u, e, ho⟩ := h2.each (j - aa.length) (by omega)
      exact ⟨u, e, hkept (ho.mono hlo)⟩
  · rw [List.map_append]
    intro i j u u' hij hu hu' r hr1 hr2
    have m1 : ∀ (k : Nat) (z : Value), (xs.map (·.1))[k]? = some z → ∀ r, z.ownBlock = some r → r < w.heap.size := fun k z hz r hr => by
      rw [List.getElem?_map] at hz
      cases hx : xs[k]? with
      | none => rw [hx] at hz; cases hz
      | some y =>
        rw [hx] at hz
        have hk := (List.getElem?_eq_some_iff.1 hx).1
        obtain ⟨u, e, ho⟩ := h1.each k (by omega)
        rw [hx] at e
        injection e with e
        subst e
        injection hz with hz
        subst hz
        exact (ho.block r hr).2
    have m2 : ∀ (k : Nat) (z : Value), (ys.map (·.1))[k]? = some z → ∀ r, z.ownBlock = some r → w.heap.size ≤ r := fun k z hz r hr => by
      rw [List.getElem?_map] at hz
      cases hx : ys[k]? with
      | none => rw [hx] at hz; cases hz
      | some y =>
        rw [hx] at hz
        have hk := (List.getElem?_eq_some_iff.1 hx).1
        obtain ⟨u, e, ho⟩ := h2.each k (by omega)
        rw [hx] at e
        injection e with e
        subst e
        injection hz with hz
        subst hz
        exact (ho.block r hr).1
    have ln : (xs.map (·.1)).length = xs.length := List.length_map ..
    by_cases hi : i < xs.length
    · rw [List.getElem?_append_left (by omega)] at hu
      by_cases hj : j < xs.length
      · rw [List.getElem?_append_left (by omega)] at hu'
        exact h1.apart i j u u' hij hu hu' r hr1 hr2
      · rw [List.getElem?_append_right (by omega)] at hu'
        have := m1 _ _ hu r hr1
        have := m2 _ _ hu' r hr2
        omega
    · rw [List.getElem?_append_right (by omega)] at hu
      by_cases hj : j < xs.length
      · rw [List.getElem?_append_left (by omega)] at hu'
        have := m2 _ _ hu r hr1
        have := m1 _ _ hu' r hr2
        omega
      · rw [List.getElem?_append_right (by omega)] at hu'
        exact h2.apart _ _ u u' (by omega) hu hu' r hr1 hr2
set_option maxHeartbeats 4000000 in
set_option maxRecDepth 100000 in
theorem spec_RotatePlan (A : Option Addr) (n c B : Nat) (ps : List Prt) (i : Int) (w : World) (h : PrtsAt w B A n ps) (hB : B ≤ w.heap.size) (hn : n ≤ 1048576) (hc : n ≤ c) (hm : ∀ j, j < n → (prAt ps j).stage.length ≤ 1048576) :
    Calls Tryz.prog 77 #[.slice A n c, .int .i64 i] w fun e w' => ∃ v xs, e = .returned v ∧ OwnPr w' w.heap.size v xs (rotP ps i) ∧ Below w.heap.size w w' := by
  have hl := h.1
  have hmx : Tryz.prog.follows .mixedOrders = true := by kernel_rfl
  have e1 : IntKind.i64.wrap ((n : Int) - 1) = (n : Int) - 1 := by rw [IntKind.wrap_i64]; omega
  cases hin : inB i 0 ((n : Int) - 1)
  · have HR : Hid (rotP ps i = ps) := Lib.hid (rotP_no (by rw [hl]; exact hin))
    have HIN := Lib.hid hin
    have HC := Lib.hid (spec_l8Copy A n c B ps w h hB hn hm)
    clear h hin hm hl
    go_enter Tryz.func77, Tryz.ntmps77
    go_wp2_with fail
    refine (spec_l1In i 0 ((n : Int) - 1) w).mono ?_
    rw [HIN.out]
    rintro e w1 ⟨rfl, rfl⟩
    go_wp2_with fail
    refine HC.out.mono ?_
    rintro e w2 ⟨v, xs, rfl, ho, hb⟩
    go_wp2
    go_ret
    exact ⟨_, xs, rfl, by rw [HR.out]; exact ho, hb⟩
  obtain ⟨k, rfl⟩ : ∃ k : Nat, i = (k : Int) := ⟨i.toNat, by have := inB_t hin; omega⟩
  have hkn : k < n := by have := inB_t hin; omega
  have HR : Hid (rotP ps k = ps.drop k ++ ps.take k) := Lib.hid (rotP_yes (by rw [hl]; exact hin))
  have HIN := Lib.hid hin
  obtain ⟨ad, rfl, -, -⟩ := h.2 (by omega)
  have hd := prts_drop h hkn
  have ht := prts_take h hkn
  have hdl : (ps.drop k).length = n - k := hd.1
  have htl : (ps.take k).length = k := ht.1
  have hmd : ∀ j, j < n - k → (prAt (ps.drop k) j).stage.length ≤ 1048576 := fun j hj => by rw [prAt_drop]; exact hm _ (by omega)
  have hmt : ∀ j, j < k → (prAt (ps.take k) j).stage.length ≤ 1048576 := fun j hj => by rw [prAt_take _ hj]; exact hm _ (by omega)
  generalize List.drop k ps = ds at *
  generalize List.take k ps = ts at *
  have hck : ¬ c = k := by omega
  have i1 : (0 : Int) ≤ (k : Int) := by omega
  have i2 : (k : Int) ≤ (n : Int) := by omega
  have i3 : (k : Int) ≤ (c : Int) := by omega
  have HD := Lib.hid (fun (y : World) (hy : Below w.heap.size w y) => spec_l8Copy (some (ad.add (k * 2))) (n - k) (c - k) B ds y (hd.keep (hy.mono hB)) (Nat.le_trans hB hy.size) (by omega) hmd)
  have HT := Lib.hid (fun (y : World) (hy : Below w.heap.size w y) => spec_l8Copy (some ad) k c B ts y (ht.keep (hy.mono hB)) (Nat.le_trans hB hy.size) (by omega) hmt)
  have HDL := Lib.hid hdl
  have HTL := Lib.hid htl
  clear h hin hm hl hd ht hmd hmt hdl htl
  go_enter Tryz.func77, Tryz.ntmps77
  go_wp2_with fail
  refine (spec_l1In (k : Int) 0 ((n : Int) - 1) w).mono ?_
  rw [HIN.out]
  rintro e w1 ⟨rfl, rfl⟩
  go_wp2
  have hdr := below_drewC (Below.refl w.heap.size w)
  refine wp_region_held_drew (S := fun W' => True) hmx trivial (fun hH => ?_)
  refine wpAnyH_take (i := 0) (v := .slice (some ad) n c) rfl (by kernel_rfl) (by kernel_rfl) (by kernel_rfl) (fun _ _ _ h => h) (Or.inl ⟨by rfl, by intro W' hSw; go_simp⟩) hH ?_
  try simp only [Act.put, List.setIfInBounds_toArray, List.set_cons_zero, List.set_cons_succ]
  refine wpAnyH_take (i := 1) (v := .int .i64 (k : Int)) rfl (by kernel_rfl) (by kernel_rfl) (by kernel_rfl) (fun _ _ _ h => h) (Or.inl ⟨by rfl, by intro W' hSw; go_simp⟩) hH ?_
  try simp only [Act.put, List.setIfInBounds_toArray, List.set_cons_zero, List.set_cons_succ]
  refine wpAnyH_take (i := 2) (v := .slice (some (ad.add (k * 2))) (n - k) (c - k)) rfl (by kernel_rfl) (by kernel_rfl) (by kernel_rfl) (fun _ _ _ h => h) (Or.inl ⟨by rfl, by intro W' hSw; go_simp⟩) hH ?_
  try simp only [Act.put, List.setIfInBounds_toArray, List.set_cons_zero, List.set_cons_succ]
  refine wpAnyH_take (i := 4) (v := .slice (some ad) n c) rfl (by kernel_rfl) (by kernel_rfl) (by kernel_rfl) (fun _ _ _ h => h) (Or.inl ⟨by rfl, by intro W' hSw; go_simp⟩) hH ?_
  try simp only [Act.put, List.setIfInBounds_toArray, List.set_cons_zero, List.set_cons_succ]
  refine wpAnyH_take (i := 5) (v := .int .i64 (k : Int)) rfl (by kernel_rfl) (by kernel_rfl) (by kernel_rfl) (fun _ _ _ h => h) (Or.inl ⟨by rfl, by intro W' hSw; go_simp⟩) hH ?_
  try simp only [Act.put, List.setIfInBounds_toArray, List.set_cons_zero, List.set_cons_succ]
  refine wpAnyH_take (i := 6) (v := .slice (some ad) k c) rfl (by kernel_rfl) (by kernel_rfl) (by kernel_rfl) (fun _ _ _ h => h) (Or.inl ⟨by rfl, by intro W' hSw; go_simp⟩) hH ?_
  try simp only [Act.put, List.setIfInBounds_toArray, List.set_cons_zero, List.set_cons_succ]
  refine wpAnyH_ready (rs := [3]) (by decide +kernel) (by simp) (AllReadyH.cons rfl (fun K' hK => ?_) AllReadyH.nil)
  go_simp
  refine (HD.out _ hdr).mono ?_
  rintro e w2 ⟨v2, xs2, rfl, ho2, hb2⟩
  obtain ⟨A2, c2, rfl⟩ := ho2.pe.sliced
  have HO2 := Lib.hid ho2
  have hB2 : Below w.heap.size w w2 := hdr.trans (hb2.mono (Nat.le_refl _))
  clear ho2 hb2
  go_wp2_with fail
  refine hK.out _ _ trivial (fun _ => ?_)
  clear hK K'
  try simp only [Act.put, List.setIfInBounds_toArray, List.set_cons_zero, List.set_cons_succ]
  refine wpAnyH_ready (rs := [7]) (by decide +kernel) (by simp) (AllReadyH.cons rfl (fun K' hK => ?_) AllReadyH.nil)
  go_simp
  refine (HT.out _ hB2).mono ?_
  rintro e w3 ⟨v3, xs3, rfl, ho3, hb3⟩
  obtain ⟨A3, c3, rfl⟩ := ho3.pe.sliced
  have hcap3 := ownr_cap ho3.row
  have hnil3 := ownr_nilcap ho3.row
  have HO3 := Lib.hid ho3
  have hB3 : Below w.heap.size w w3 := hB2.trans (hb3.mono hB2.size)
  have HB3 := Lib.hid hb3
  have HC3 := Lib.hid (ownr_cells ho3.row)
  have h1c : ∀ u ∈ prow xs3, u.oneCell' = true := prow_one xs3 (fun x hx => by
    obtain ⟨j, hj, rfl⟩ := List.getElem_of_mem hx
    have := HO3.out.pe.len
    obtain ⟨u, e, ho⟩ := HO3.out.each j (by omega)
    rw [List.getElem?_eq_getElem hj] at e
    injection e with e
    rw [e]
    obtain ⟨Au, cu, rfl⟩ := ho.sliced
    rfl)
  have hs2 := hB2.size
  have hs3 := hB3.size
  clear ho3 hb3
  go_wp2_with fail
  refine hK.out _ _ trivial (fun _ => ?_)
  clear hK K'
  try simp only [Act.put, List.setIfInBounds_toArray, List.set_cons_zero, List.set_cons_succ]
  refine wpAnyH_ready (rs := [8]) (by decide +kernel) (by simp) (AllReadyH.cons rfl (fun K' hK => ?_) AllReadyH.nil)
  have hR3 := ownr_below HO2.out.row HB3.out
  have hlc := HC3.out
  refine step_appRq rfl _ _ 30 rfl 70 (.agg #[.slice none 0 0, .int .i64 0]) 2 32 Tryz.underlying30 info_prt rfl (by decide) (by decide) w.heap.size _ _ _ rfl (ownr_mono hR3 (by exact hdr.size)) A3 _ c3 _ (prow xs3) rfl hlc h1c hnil3 (by rw [HDL.out, HTL.out]; omega) hs3 ?_
  intro v4 w4 hown4 hgrow4
  have HO4 : Hid (OwnPr w4 w.heap.size v4 (xs2 ++ xs3) (ds ++ ts)) := Lib.hid (ownPr_app (HO2.out.mono (by exact hdr.size)) HO3.out HB3.out hs2 hown4 hgrow4)
  have HB4 : Hid (Below w.heap.size w w4) := Lib.hid (ownr_push (ownr_mono hR3 (lo' := w.heap.size) (by exact hdr.size)) (Nat.le_refl w.heap.size) hB3 hs3 hgrow4)
  clear hown4 hgrow4 hR3 hlc
  refine hK.out _ _ trivial (fun _ => ?_)
  clear hK K'
  try simp only [Act.put, List.setIfInBounds_toArray, List.set_cons_zero, List.set_cons_succ]
  refine wpAnyH_ready (rs := [9]) (by decide +kernel) (by simp) (AllReadyH.cons rfl (fun K' hK => ?_) AllReadyH.nil)
  go_simp
  refine hK.out _ _ trivial (fun _ => ?_)
  clear hK K'
  try simp only [Act.put, List.setIfInBounds_toArray, List.set_cons_zero, List.set_cons_succ]
  refine wpAnyH_done (by decide +kernel) ?_ _
  go_wp2
  go_ret
  exact ⟨_, _, rfl, by rw [HR.out]; exact HO4.out, HB4.out⟩
set_option maxHeartbeats 4000000 in
set_option maxRecDepth 100000 in
theorem impl_RotatePlan (A : Option Addr) (n c B : Nat) (ps : List Prt) (i : Int) (w : World) (h : PrtsAt w B A n ps) (hB : B ≤ w.heap.size) (hn : n ≤ 1048576) (hc : n ≤ c) (hm : ∀ j, j < n → (prAt ps j).stage.length ≤ 1048576) :
    Calls Tryz.prog 80 #[.slice A n c, .int .i64 i] w fun e w' => ∃ v xs, e = .returned v ∧ OwnPr w' w.heap.size v xs (rotP ps i) ∧ Below w.heap.size w w' := by
  have hl := h.1
  have hmx : Tryz.prog.follows .mixedOrders = true := by kernel_rfl
  have e1 : IntKind.i64.wrap ((n : Int) - 1) = (n : Int) - 1 := by rw [IntKind.wrap_i64]; omega
  cases hin : inB i 0 ((n : Int) - 1)
  · have HR : Hid (rotP ps i = ps) := Lib.hid (rotP_no (by rw [hl]; exact hin))
    have HIN := Lib.hid hin
    have HC := Lib.hid (impl_copyPlan A n c B ps w h hB hn hm)
    clear h hin hm hl
    go_enter Tryz.func80, Tryz.ntmps80
    go_wp2_with fail
    refine (impl_InRange i 0 ((n : Int) - 1) w).mono ?_
    rw [HIN.out]
    rintro e w1 ⟨rfl, rfl⟩
    go_wp2_with fail
    refine HC.out.mono ?_
    rintro e w2 ⟨v, xs, rfl, ho, hb⟩
    go_wp2
    go_ret
    exact ⟨_, xs, rfl, by rw [HR.out]; exact ho, hb⟩
  obtain ⟨k, rfl⟩ : ∃ k : Nat, i = (k : Int) := ⟨i.toNat, by have := inB_t hin; omega⟩
  have hkn : k < n := by have := inB_t hin; omega
  have HR : Hid (rotP ps k = ps.drop k ++ ps.take k) := Lib.hid (rotP_yes (by rw [hl]; exact hin))
  have HIN := Lib.hid hin
  obtain ⟨ad, rfl, -, -⟩ := h.2 (by omega)
  have hd := prts_drop h hkn
  have ht := prts_take h hkn
  have hdl : (ps.drop k).length = n - k := hd.1
  have htl : (ps.take k).length = k := ht.1
  have hmd : ∀ j, j < n - k → (prAt (ps.drop k) j).stage.length ≤ 1048576 := fun j hj => by rw [prAt_drop]; exact hm _ (by omega)
  have hmt : ∀ j, j < k → (prAt (ps.take k) j).stage.length ≤ 1048576 := fun j hj => by rw [prAt_take _ hj]; exact hm _ (by omega)
  generalize List.drop k ps = ds at *
  generalize List.take k ps = ts at *
  have hck : ¬ c = k := by omega
  have i1 : (0 : Int) ≤ (k : Int) := by omega
  have i2 : (k : Int) ≤ (n : Int) := by omega
  have i3 : (k : Int) ≤ (c : Int) := by omega
  obtain ⟨xs, hxl, hxc, hxo, hxe⟩ := prts_raw hd
  obtain ⟨ys, hyl, hyc, hyo, hye⟩ := prts_raw ht
  have HRA := Lib.hid (raw_app hxl hdl hxe hye)
  have HM : Hid (∀ j, j < (n - k) + k → (prAt (ds ++ ts) j).stage.length ≤ 1048576) := Lib.hid (fun j hj => by
    rw [prAt_app, hdl]
    split
    · exact hmd _ (by omega)
    · exact hmt _ (by omega))
  have HLL : Hid ((ds ++ ts).length = (n - k) + k) := Lib.hid (by rw [List.length_append, hdl, htl])
  have HXC := Lib.hid hxc
  have HYC := Lib.hid hyc
  clear h hin hm hl hd ht hmd hmt hdl htl hxe hye hxc hyc
  go_enter Tryz.func80, Tryz.ntmps80
  go_wp2_with fail
  refine (impl_InRange (k : Int) 0 ((n : Int) - 1) w).mono ?_
  rw [HIN.out]
  rintro e w1 ⟨rfl, rfl⟩
  go_wp2
  have hdr := below_drewC (Below.refl w.heap.size w)
  refine wp_region_held_drew (S := fun W' => True) hmx trivial (fun hH => ?_)
  refine wpAnyH_take (i := 0) (v := .slice (some ad) n c) rfl (by kernel_rfl) (by kernel_rfl) (by kernel_rfl) (fun _ _ _ h => h) (Or.inl ⟨by rfl, by intro W' hSw; go_simp⟩) hH ?_
  try simp only [Act.put, List.setIfInBounds_toArray, List.set_cons_zero, List.set_cons_succ]
  refine wpAnyH_take (i := 1) (v := .int .i64 (k : Int)) rfl (by kernel_rfl) (by kernel_rfl) (by kernel_rfl) (fun _ _ _ h => h) (Or.inl ⟨by rfl, by intro W' hSw; go_simp⟩) hH ?_
  try simp only [Act.put, List.setIfInBounds_toArray, List.set_cons_zero, List.set_cons_succ]
  refine wpAnyH_take (i := 2) (v := .slice (some (ad.add (k * 2))) (n - k) (c - k)) rfl (by kernel_rfl) (by kernel_rfl) (by kernel_rfl) (fun _ _ _ h => h) (Or.inl ⟨by rfl, by intro W' hSw; go_simp⟩) hH ?_
  try simp only [Act.put, List.setIfInBounds_toArray, List.set_cons_zero, List.set_cons_succ]
  refine wpAnyH_take (i := 3) (v := .slice (some ad) n c) rfl (by kernel_rfl) (by kernel_rfl) (by kernel_rfl) (fun _ _ _ h => h) (Or.inl ⟨by rfl, by intro W' hSw; go_simp⟩) hH ?_
  try simp only [Act.put, List.setIfInBounds_toArray, List.set_cons_zero, List.set_cons_succ]
  refine wpAnyH_take (i := 4) (v := .int .i64 (k : Int)) rfl (by kernel_rfl) (by kernel_rfl) (by kernel_rfl) (fun _ _ _ h => h) (Or.inl ⟨by rfl, by intro W' hSw; go_simp⟩) hH ?_
  try simp only [Act.put, List.setIfInBounds_toArray, List.set_cons_zero, List.set_cons_succ]
  refine wpAnyH_take (i := 5) (v := .slice (some ad) k c) rfl (by kernel_rfl) (by kernel_rfl) (by kernel_rfl) (fun _ _ _ h => h) (Or.inl ⟨by rfl, by intro W' hSw; go_simp⟩) hH ?_
  try simp only [Act.put, List.setIfInBounds_toArray, List.set_cons_zero, List.set_cons_succ]
  refine wpAnyH_ready (rs := [6]) (by decide +kernel) (by simp) (AllReadyH.cons rfl (fun K' hK => ?_) AllReadyH.nil)
  go_simp
  obtain ⟨w2, hw2⟩ : ∃ w2, w2 = (w.alloc (.cells #[.slice (some (ad.add (k * 2))) (n - k) (c - k), .slice (some ad) k c] 30)).drew := ⟨_, rfl⟩
  have hk2 : w2.heap[w.heap.size]? = some (.cells #[.slice (some (ad.add (k * 2))) (n - k) (c - k), .slice (some ad) k c] 30) := by rw [hw2]; exact heap_alloc_new w _
  have hb2 : Below w.heap.size w w2 := by rw [hw2]; exact below_drewC ((Below.refl _ _).alloc (Nat.le_refl _) _)
  rw [← hw2]
  clear hw2
  have hs2 := hb2.size
  have hcc := lib_Concat2P w.heap.size (some (ad.add (k * 2))) (n - k) (c - k) (prow xs) (some ad) k c (prow ys) B w2 hk2 (HXC.out.below (hb2.mono hB)) (HYC.out.below (hb2.mono hB)) hxo hyo (by omega) (by simp) (by simp) (by omega) (by omega) (by omega)
  clear hk2
  refine hK.out _ _ trivial (fun _ => ?_)
  clear hK K'
  try simp only [Act.put, List.setIfInBounds_toArray, List.set_cons_zero, List.set_cons_succ]
  refine wpAnyH_ready (rs := [7]) (by decide +kernel) (by simp) (AllReadyH.cons rfl (fun K' hK => ?_) AllReadyH.nil)
  go_simp
  refine hcc.mono ?_
  rintro e w3 ⟨A3, c3, rfl, ho3, hb3⟩
  have hB3 : Below w.heap.size w w3 := hb2.trans (hb3.mono hs2)
  have hs3 := hB3.size
  have hP3 := raw_prts (w := w3) (B := B) HLL.out (by rw [prow_append]; exact ownr_cells ho3) (by omega) (fun j hj => by
    obtain ⟨A', m, c', q1, q2, q3, q4⟩ := HRA.out j hj
    exact ⟨A', m, c', q1, q2.keep (fun p hp => hB3.cell (by omega)), q3, q4⟩)
  have HCP := Lib.hid (impl_copyPlan A3 ((n - k) + k) c3 w3.heap.size _ w3 hP3 (Nat.le_refl _) (by omega) HM.out)
  clear hcc ho3 hb3 hP3
  go_wp2_with fail
  refine hK.out _ _ trivial (fun _ => ?_)
  clear hK K'
  try simp only [Act.put, List.setIfInBounds_toArray, List.set_cons_zero, List.set_cons_succ]
  refine wpAnyH_ready (rs := [8]) (by decide +kernel) (by simp) (AllReadyH.cons rfl (fun K' hK => ?_) AllReadyH.nil)
  go_simp
  refine HCP.out.mono ?_
  rintro e w4 ⟨v4, xs4, rfl, ho4, hb4⟩
  have HO4 := Lib.hid (ho4.mono hs3)
  have HB4 := Lib.hid (hB3.trans (hb4.mono hs3))
  clear ho4 hb4 HCP
  go_wp2_with fail
  refine hK.out _ _ trivial (fun _ => ?_)
  clear hK K'
  try simp only [Act.put, List.setIfInBounds_toArray, List.set_cons_zero, List.set_cons_succ]
  refine wpAnyH_ready (rs := [9]) (by decide +kernel) (by simp) (AllReadyH.cons rfl (fun K' hK => ?_) AllReadyH.nil)
  go_simp
  refine hK.out _ _ trivial (fun _ => ?_)
  clear hK K'
  try simp only [Act.put, List.setIfInBounds_toArray, List.set_cons_zero, List.set_cons_succ]
  refine wpAnyH_done (by decide +kernel) ?_ _
  go_wp2
  go_ret
  exact ⟨_, _, rfl, by rw [HR.out]; exact HO4.out, HB4.out⟩
end Go.Proofs.YtlpkafhapmkkfaaGreatDoor

/- Chapter 18: MakeSwitch: the program and the model. -/
namespace Go.Proofs.YtlpkafhapmkkfaaGreatDoor
open Go.RowKit
set_option linter.unusedVariables false
set_option linter.unusedSimpArgs false

theorem rot_all (f : Prt → Bool) (b : List Prt) (k : Nat) : (b.drop k ++ b.take k).all f = b.all f := by
  rw [List.all_append, Bool.and_comm, ← List.all_append, List.take_append_drop]
theorem rot_any (f : Prt → Bool) (b : List Prt) (k : Nat) : (b.drop k ++ b.take k).any f = b.any f := by
  rw [List.any_append, Bool.or_comm, ← List.any_append, List.take_append_drop]
/-- the parts in another order, beginning with another one, are a plan if they were. -/
theorem isPlan_rot (ps : List Pth) (b : List Prt) (i : Int) : isPlan ps (rotP b i) = isPlan ps b := by
  cases h : inB i 0 ((b.length : Int) - 1)
  · rw [rotP_no h]
  · have hl := rotP_len b i
    unfold isPlan coversP stgsOf inSome
    rw [hl]
    simp only [List.all_map, List.any_map]
    unfold rotP
    rw [h]
    simp only [if_true, rot_all, rot_any]
theorem canSw_no {ps : List Pth} {a b : List Prt} (h : isPlan ps b = false) : canSw ps a b = false := by
  unfold canSw
  rw [swP_off (by rw [h, Bool.and_false])]
  rfl
/-- the first rotation from k on that can be taken. -/
def mksFrom (ps : List Pth) (a b : List Prt) : Nat → Nat → List Prt × Bool
  | _, 0 => (b, false)
  | k, m + 1 => if canSw ps a (rotP b k) then (rotP b k, true) else mksFrom ps a b (k + 1) m
/-- what MakeSwitch answers. -/
def mksP (ps : List Pth) (a b : List Prt) : List Prt × Bool := mksFrom ps a b 0 b.length
theorem mksFrom_no {ps : List Pth} {a b : List Prt} (h : isPlan ps b = false) : ∀ (m k : Nat), mksFrom ps a b k m = (b, false)
  | 0, k => rfl
  | m + 1, k => by
    unfold mksFrom
    rw [canSw_no (by rw [isPlan_rot]; exact h)]
    exact mksFrom_no h m (k + 1)
theorem mksFrom_small {ps : List Pth} {a b : List Prt} (h : SmallP b) : ∀ (m k : Nat), SmallP (mksFrom ps a b k m).1
  | 0, k => h
  | m + 1, k => by
    unfold mksFrom
    split
    · exact rotP_small h _
    · exact mksFrom_small h m (k + 1)
theorem mksFrom_yes {ps : List Pth} {a b : List Prt} {k m : Nat} (h : canSw ps a (rotP b k) = true) : mksFrom ps a b k (m + 1) = (rotP b k, true) := by unfold mksFrom; rw [h]; rfl
theorem mksFrom_on {ps : List Pth} {a b : List Prt} {k m : Nat} (h : canSw ps a (rotP b k) = false) : mksFrom ps a b k (m + 1) = mksFrom ps a b (k + 1) m := by
  conv => lhs; unfold mksFrom
  rw [h]
  rfl
theorem rot_each {b : List Prt} (h : ∀ j, j < b.length → (prAt b j).stage.length ≤ 1048576) (hl : b.length ≤ 1048576) (i : Int) : ∀ j, j < (rotP b i).length → (prAt (rotP b i) j).stage.length ≤ 1048576 := (rotP_small ⟨hl, h⟩ i).2
set_option maxHeartbeats 4000000 in
set_option maxRecDepth 100000 in
theorem impl_MakeSwitch {w : World} {A : Option Addr} {n c B : Nat} {ps : List Pth} {A2 : Option Addr} {n2 c2 B2 : Nat} {a : List Prt} {A3 : Option Addr} {n3 c3 B3 : Nat} {b : List Prt} (I : PlnIn w A n c B ps A2 n2 c2 B2 a) (J : PlnIn w A n c B ps A3 n3 c3 B3 b) (hc3 : n3 ≤ c3) :
    Calls Tryz.prog 36 #[.slice A n c, .slice A2 n2 c2, .slice A3 n3 c3] w fun e w' => ∃ v xs, e = .returned (.tuple #[v, .bool (mksP ps a b).2]) ∧ OwnPr w' w.heap.size v xs (mksP ps a b).1 ∧ Below w.heap.size w w' := by
  have HL := Lib.hid J.len
  have HIP := Lib.hid (impl_IsPlan J)
  have HCP := Lib.hid (fun x (hx : Below w.heap.size w x) => impl_copyPlan A3 n3 c3 B3 b x (J.h2.below J.hB2 hx) (Nat.le_trans J.hB2 hx.size) J.hn2 J.hm)
  have HRO := Lib.hid (fun (i : Int) x (hx : Below w.heap.size w x) => impl_RotatePlan A3 n3 c3 B3 b i x (J.h2.below J.hB2 hx) (Nat.le_trans J.hB2 hx.size) J.hn2 hc3 J.hm)
  have HCS := Lib.hid (fun (r : List Prt) (A4 : Option Addr) (n4 c4 : Nat) x (hx : Below w.heap.size w x) (h4 : PrtsAt x x.heap.size A4 n4 r) (hn4 : n4 ≤ 1048576) (hm4 : ∀ j, j < n4 → (prAt r j).stage.length ≤ 1048576) => impl_CanSwitch (I.below hx) (⟨(J.below hx).h, (J.below hx).hB, J.hn, J.hn4, h4, Nat.le_refl _, hn4, hm4, (J.below hx).hw, (J.below hx).ht⟩ : PlnIn x A n c B ps A4 n4 c4 x.heap.size r))
  have hn2 := J.hn2
  have HRE := Lib.hid (rot_each (b := b) (fun j hj => J.hm j (by rw [← J.len]; exact hj)) (by rw [J.len]; exact hn2))
  have HRL := Lib.hid (fun i => rotP_len b i)
  clear I J
  cases hp : isPlan ps b
  · have HV : Hid (mksP ps a b = (b, false)) := Lib.hid (mksFrom_no hp _ _)
    have HP := Lib.hid hp
    clear hp
    go_enter Tryz.func36, Tryz.ntmps36
    go_wp2_with fail
    refine HIP.out.mono ?_
    rw [HP.out]
    rintro e w1 ⟨rfl, hb1⟩
    have HB1 := Lib.hid hb1
    clear hb1
    go_wp2_with fail
    refine (HCP.out _ HB1.out).mono ?_
    rintro e w2 ⟨v, xs, rfl, ho, hb2⟩
    have HO := Lib.hid ho
    have HB2 := Lib.hid (HB1.out.trans (hb2.mono HB1.out.size))
    have hs1 := HB1.out.size
    clear ho hb2
    go_wp2
    go_ret2
    exact ⟨v, xs, by rw [HV.out]; rfl, by rw [HV.out]; exact HO.out.mono hs1, HB2.out⟩
  · have HP := Lib.hid hp
    have HMK : Hid (mksP ps a b = mksFrom ps a b 0 (n3 - 0)) := Lib.hid (by unfold mksP; rw [HL.out, Nat.sub_zero])
    clear hp
    go_enter Tryz.func36, Tryz.ntmps36
    go_wp2_with fail
    refine HIP.out.mono ?_
    rw [HP.out]
    rintro e w1 ⟨rfl, hb1⟩
    have HB1 := Lib.hid hb1
    clear hb1
    go_wp2
    go_loopw [15] (fun i wr => ∃ k : Nat, k ≤ n3 ∧ i = .int .i64 k ∧ mksP ps a b = mksFrom ps a b k (n3 - k) ∧ Below w.heap.size w wr) (fun i _ => n3 - (intOf i).toNat)
    case atStart => exact ⟨0, Nat.zero_le _, rfl, HMK.out, HB1.out⟩
    case round =>
      obtain ⟨k, hk, rfl, hmk, hbl⟩ := hrel
      have HM := Lib.hid hmk
      have HBL := Lib.hid hbl
      clear hmk hbl
      by_cases hlt : k < n3
      · have i1 : (0 : Int) ≤ (k : Int) := by omega
        have i2 : (k : Int) < (n3 : Int) := by omega
        have HMM : Hid (mksP ps a b = mksFrom ps a b k ((n3 - k - 1) + 1)) := Lib.hid (by rw [HM.out]; congr 1; omega)
        go_wp2_with fail
        refine (HRO.out _ _ HBL.out).mono ?_
        rintro e w2 ⟨v, xs, rfl, ho, hb2⟩
        obtain ⟨A4, c4, rfl⟩ := ho.pe.sliced
        have hrl := HRL.out (k : Int)
        have hs := HBL.out.size
        have HB2 := Lib.hid (HBL.out.trans (hb2.mono hs))
        have HO := Lib.hid ho
        have hcs := HCS.out (rotP b k) A4 (rotP b k).length c4 w2 HB2.out ho.pe.prts (by rw [hrl, HL.out]; exact hn2) (HRE.out (k : Int))
        have HX := Lib.hid hcs
        clear ho hb2 hcs hrl
        go_wp2_with fail
        refine HX.out.mono ?_
        cases hcn : canSw ps a (rotP b k)
        · have HMN := Lib.hid (HMM.out.trans (mksFrom_on hcn))
          clear hcn
          rintro e w3 ⟨rfl, hb3⟩
          have HB3 := Lib.hid (HB2.out.trans (hb3.mono HB2.out.size))
          clear hb3
          go_wp2
          go_roundw
          case rel => exact ⟨k + 1, by omega, by go_num, by rw [HMN.out]; congr 1, HB3.out⟩
          case measure => simp [intOf]; omega
        · have HMY := Lib.hid (HMM.out.trans (mksFrom_yes hcn))
          clear hcn
          rintro e w3 ⟨rfl, hb3⟩
          have HB3 := Lib.hid (HB2.out.trans (hb3.mono HB2.out.size))
          have HO3 := Lib.hid (HO.out.below hb3)
          clear hb3
          go_wp2
          go_ret2
          exact ⟨.slice A4 (rotP b k).length c4, xs, by rw [HMY.out]; rfl, by rw [HMY.out]; exact HO3.out.mono hs, HB3.out⟩
      · obtain rfl : k = n3 := by omega
        have HV : Hid (mksP ps a b = (b, false)) := Lib.hid (by rw [HM.out, Nat.sub_self]; rfl)
        have hs := HBL.out.size
        go_wp2_with fail
        refine (HCP.out _ HBL.out).mono ?_
        rintro e w2 ⟨v, xs, rfl, ho, hb2⟩
        have HO := Lib.hid ho
        have HB2 := Lib.hid (HBL.out.trans (hb2.mono HBL.out.size))
        clear ho hb2
        go_wp2
        go_ret2
        exact ⟨v, xs, by rw [HV.out]; rfl, by rw [HV.out]; exact HO.out.mono hs, HB2.out⟩
set_option maxHeartbeats 4000000 in
set_option maxRecDepth 100000 in
theorem spec_MakeSwitch (A : Option Addr) (n c B : Nat) (ps : List Pth) (A2 : Option Addr) (n2 c2 B2 : Nat) (a : List Prt) (A3 : Option Addr) (n3 c3 B3 : Nat) (b : List Prt) (w : World) (h : PthsAt w B A n ps) (hB : B ≤ w.heap.size) (hn : n ≤ 4294967296) (h2 : PrtsAt w B2 A2 n2 a) (hB2 : B2 ≤ w.heap.size) (hn2 : n2 ≤ 1048576) (hm : ∀ j, j < n2 → (prAt a j).stage.length ≤ 1048576) (h3 : PrtsAt w B3 A3 n3 b) (hB3 : B3 ≤ w.heap.size) (hn3 : n3 ≤ 1048576) (hc3 : n3 ≤ c3) (hm3 : ∀ j, j < n3 → (prAt b j).stage.length ≤ 1048576) :
    Calls Tryz.prog 35 #[.slice A n c, .slice A2 n2 c2, .slice A3 n3 c3] w fun e w' => ∃ v xs, e = .returned (.tuple #[v, .bool (mksP ps a b).2]) ∧ OwnPr w' w.heap.size v xs (mksP ps a b).1 ∧ Below w.heap.size w w' := by
  have HL := Lib.hid h3.1
  have HCP := Lib.hid (fun x (hx : Below w.heap.size w x) => spec_l8Copy A3 n3 c3 B3 b x (h3.below hB3 hx) (Nat.le_trans hB3 hx.size) hn3 hm3)
  have HRO := Lib.hid (fun (i : Int) x (hx : Below w.heap.size w x) => spec_RotatePlan A3 n3 c3 B3 b i x (h3.below hB3 hx) (Nat.le_trans hB3 hx.size) hn3 hc3 hm3)
  have HCS := Lib.hid (fun (r : List Prt) (A4 : Option Addr) (n4 c4 : Nat) x (hx : Below w.heap.size w x) (h4 : PrtsAt x x.heap.size A4 n4 r) (hn4 : n4 ≤ 1048576) (hm4 : ∀ j, j < n4 → (prAt r j).stage.length ≤ 1048576) => spec_CanSwitch A n c B ps A2 n2 c2 B2 a A4 n4 c4 x.heap.size r x (h.below (hx.mono hB)) (Nat.le_trans hB hx.size) hn (h2.below hB2 hx) (Nat.le_trans hB2 hx.size) hn2 hm h4 (Nat.le_refl _) hn4 hm4)
  have HRE := Lib.hid (rot_each (b := b) (fun j hj => hm3 j (by rw [← h3.1]; exact hj)) (by rw [h3.1]; exact hn3))
  have HRL := Lib.hid (fun i => rotP_len b i)
  have HMK : Hid (mksP ps a b = mksFrom ps a b 0 (n3 - 0)) := Lib.hid (by unfold mksP; rw [HL.out, Nat.sub_zero])
  clear h h2 h3 hm hm3
  go_enter Tryz.func35, Tryz.ntmps35
  go_wp2
  go_loopw [8] (fun i wr => ∃ k : Nat, k ≤ n3 ∧ i = .int .i64 k ∧ mksP ps a b = mksFrom ps a b k (n3 - k) ∧ Below w.heap.size w wr) (fun i _ => n3 - (intOf i).toNat)
  case atStart => exact ⟨0, Nat.zero_le _, rfl, HMK.out, Below.refl _ _⟩
  case round =>
    obtain ⟨k, hk, rfl, hmk, hbl⟩ := hrel
    have HM := Lib.hid hmk
    have HBL := Lib.hid hbl
    clear hmk hbl
    by_cases hlt : k < n3
    · have i1 : (0 : Int) ≤ (k : Int) := by omega
      have i2 : (k : Int) < (n3 : Int) := by omega
      have HMM : Hid (mksP ps a b = mksFrom ps a b k ((n3 - k - 1) + 1)) := Lib.hid (by rw [HM.out]; congr 1; omega)
      go_wp2_with fail
      refine (HRO.out _ _ HBL.out).mono ?_
      rintro e w2 ⟨v, xs, rfl, ho, hb2⟩
      obtain ⟨A4, c4, rfl⟩ := ho.pe.sliced
      have hrl := HRL.out (k : Int)
      have hs := HBL.out.size
      have HB2 := Lib.hid (HBL.out.trans (hb2.mono hs))
      have HO := Lib.hid ho
      have hcs := HCS.out (rotP b k) A4 (rotP b k).length c4 w2 HB2.out ho.pe.prts (by rw [hrl, HL.out]; exact hn3) (HRE.out (k : Int))
      have HX := Lib.hid hcs
      clear ho hb2 hcs hrl
      go_wp2_with fail
      refine HX.out.mono ?_
      cases hcn : canSw ps a (rotP b k)
      · have HMN := Lib.hid (HMM.out.trans (mksFrom_on hcn))
        clear hcn
        rintro e w3 ⟨rfl, hb3⟩
        have HB3 := Lib.hid (HB2.out.trans (hb3.mono HB2.out.size))
        clear hb3
        go_wp2
        go_roundw
        case rel => exact ⟨k + 1, by omega, by go_num, by rw [HMN.out]; congr 1, HB3.out⟩
        case measure => simp [intOf]; omega
      · have HMY := Lib.hid (HMM.out.trans (mksFrom_yes hcn))
        clear hcn
        rintro e w3 ⟨rfl, hb3⟩
        have HB3 := Lib.hid (HB2.out.trans (hb3.mono HB2.out.size))
        have HO3 := Lib.hid (HO.out.below hb3)
        clear hb3
        go_wp2
        go_ret2
        exact ⟨.slice A4 (rotP b k).length c4, xs, by rw [HMY.out]; rfl, by rw [HMY.out]; exact HO3.out.mono hs, HB3.out⟩
    · obtain rfl : k = n3 := by omega
      have HV : Hid (mksP ps a b = (b, false)) := Lib.hid (by rw [HM.out, Nat.sub_self]; rfl)
      have hs := HBL.out.size
      go_wp2_with fail
      refine (HCP.out _ HBL.out).mono ?_
      rintro e w2 ⟨v, xs, rfl, ho, hb2⟩
      have HO := Lib.hid ho
      have HB2 := Lib.hid (HBL.out.trans (hb2.mono HBL.out.size))
      clear ho hb2
      go_wp2
      go_ret2
      exact ⟨v, xs, by rw [HV.out]; rfl, by rw [HV.out]; exact HO.out.mono hs, HB2.out⟩
end Go.Proofs.YtlpkafhapmkkfaaGreatDoor

/- MakeSwitch as exact laws meet it. -/
namespace Go.Proofs.YtlpkafhapmkkfaaGreatDoor
open Go.RowKit
set_option linter.unusedVariables false

theorem sp_MakeSwitch (A0 : Option Addr) (n0 c0 : Nat) (zs0 : List Pth) (A1 : Option Addr) (n1 c1 : Nat) (zs1 : List Prt) (A2 : Option Addr) (n2 c2 : Nat) (zs2 : List Prt) (w : World) (h0 : SlP w A0 n0 c0 zs0) (hs0 : n0 ≤ 1048576) (h1 : SlQ w A1 n1 c1 zs1) (hs1 : SmallP zs1) (h2 : SlQ w A2 n2 c2 zs2) (hs2 : SmallP zs2) (r0 : List Prt) (r1 : Bool) (hr : mksP zs0 zs1 zs2 = (r0, r1)) :
    Calls Tryz.prog 35 #[.slice A0 n0 c0, .slice A1 n1 c1, .slice A2 n2 c2] w fun e w' => ∃ v, e = .returned (.tuple #[v, .bool r1]) ∧ (∃ us, OwnPe w' w.heap.size v us r0) ∧ Below w.heap.size w w' ∧ SmallP r0 := by
  obtain rfl : (mksP zs0 zs1 zs2).1 = r0 := by rw [hr]
  obtain rfl : (mksP zs0 zs1 zs2).2 = r1 := by rw [hr]
  clear hr
  have hq1 := h1.prts.1
  have hz1 := hs1.1
  have hq2 := h2.prts.1
  have hz2 := hs2.1
  exact (spec_MakeSwitch A0 n0 c0 _ zs0 A1 n1 c1 _ zs1 A2 n2 c2 _ zs2 w h0.pths (Nat.le_refl _) (by omega) h1.prts (Nat.le_refl _) (by omega) (hs1.at _ _ hq1.symm (Nat.le_refl _)) h2.prts (Nat.le_refl _) (by omega) h2.cap.1 (hs2.at _ _ hq2.symm (Nat.le_refl _))).mono fun e w' ⟨v, xs, h1, h2, h3⟩ => ⟨v, h1, ⟨xs, h2.pe⟩, h3, mksFrom_small hs2 _ _⟩
theorem im_MakeSwitch (A0 : Option Addr) (n0 c0 : Nat) (zs0 : List Pth) (A1 : Option Addr) (n1 c1 : Nat) (zs1 : List Prt) (A2 : Option Addr) (n2 c2 : Nat) (zs2 : List Prt) (w : World) (h0 : SlP w A0 n0 c0 zs0) (hs0 : n0 ≤ 1048576) (h1 : SlQ w A1 n1 c1 zs1) (hs1 : SmallP zs1) (h2 : SlQ w A2 n2 c2 zs2) (hs2 : SmallP zs2) (hv0 : Brus w) (hv1 : Clrs w) (r0 : List Prt) (r1 : Bool) (hr : mksP zs0 zs1 zs2 = (r0, r1)) :
    Calls Tryz.prog 36 #[.slice A0 n0 c0, .slice A1 n1 c1, .slice A2 n2 c2] w fun e w' => ∃ v, e = .returned (.tuple #[v, .bool r1]) ∧ (∃ us, OwnPr w' w.heap.size v us r0) ∧ Below w.heap.size w w' ∧ SmallP r0 := by
  obtain rfl : (mksP zs0 zs1 zs2).1 = r0 := by rw [hr]
  obtain rfl : (mksP zs0 zs1 zs2).2 = r1 := by rw [hr]
  clear hr
  have hq1 := h1.prts.1
  have hz1 := hs1.1
  have hq2 := h2.prts.1
  have hz2 := hs2.1
  exact (impl_MakeSwitch ⟨h0.pths, Nat.le_refl _, h0.cap, by omega, h1.prts, Nat.le_refl _, by omega, hs1.at _ _ hq1.symm (Nat.le_refl _), hv0, hv1⟩ ⟨h0.pths, Nat.le_refl _, h0.cap, by omega, h2.prts, Nat.le_refl _, by omega, hs2.at _ _ hq2.symm (Nat.le_refl _), hv0, hv1⟩ h2.cap.1).mono fun e w' ⟨v, xs, h1, h2, h3⟩ => ⟨v, h1, ⟨xs, h2⟩, h3, mksFrom_small hs2 _ _⟩
end Go.Proofs.YtlpkafhapmkkfaaGreatDoor

/- Service as Lean data; rows of them, and the laws' helpers for these (written by gentype.py). -/
namespace Go.Proofs.YtlpkafhapmkkfaaGreatDoor
open Go.RowKit
set_option linter.unusedVariables false

structure Svc where
  path : Int
  green : Int
  wait : Int
  share : Int
deriving DecidableEq
def Svc.cells (p : Svc) : List Value := [.int .i64 p.path, .int .i64 p.green, .int .i64 p.wait, .int .i64 p.share]
def Svc.val (p : Svc) : Value := .agg #[.int .i64 p.path, .int .i64 p.green, .int .i64 p.wait, .int .i64 p.share]
def Svc.wf (p : Svc) : Prop := (Lit.int .i64 p.path).wf = true ∧ (Lit.int .i64 p.green).wf = true ∧ (Lit.int .i64 p.wait).wf = true ∧ (Lit.int .i64 p.share).wf = true
def svccells (ps : List Svc) : List Value := ps.flatMap Svc.cells
theorem svccells_length (ps : List Svc) : (svccells ps).length = ps.length * 4 := flat_length (f := Svc.cells) (fun _ => rfl) ps
theorem svccells_take {ps : List Svc} {k : Nat} {p : Svc} (h : ps[k]? = some p) : svccells (ps.take (k + 1)) = svccells (ps.take k) ++ p.cells := by
  unfold svccells
  rw [List.take_add_one, h, List.flatMap_append]
  simp
theorem svccells_one (ps : List Svc) : ∀ u ∈ svccells ps, u.oneCell' = true := by
  intro u hu
  obtain ⟨p, _, hp⟩ := List.mem_flatMap.1 hu
  simp only [Svc.cells, List.mem_cons, List.not_mem_nil, or_false] at hp
  rcases hp with rfl | rfl | rfl | rfl <;> rfl
theorem svccells_put {ps : List Svc} {zs : List Value} {k : Nat} {p : Svc} (h : ps[k]? = some p) (hz : k * 4 + 4 ≤ zs.length) :
    ((((svccells (ps.take k) ++ zs.drop (k * 4)).set (k * 4) (.int .i64 p.path)).set (k * 4 + 1) (.int .i64 p.green)).set (k * 4 + 2) (.int .i64 p.wait)).set (k * 4 + 3) (.int .i64 p.share) = svccells (ps.take (k + 1)) ++ zs.drop ((k + 1) * 4) := by
  obtain ⟨z0, z1, z2, z3, hd⟩ := drop4 hz
  have hk := (List.getElem?_eq_some_iff.1 h).1
  rw [hd, set4 (by rw [svccells_length, List.length_take]; omega), svccells_take h]
  simp [Svc.cells, Nat.add_mul]
def SvcsAt (w : World) (B : Nat) (A : Option Addr) (n : Nat) (ps : List Svc) : Prop := ps.length = n ∧ CellsAt w B A (n * 4) (svccells ps)
theorem SvcsAt.keep {w w' : World} {B : Nat} {A : Option Addr} {n : Nat} {ps : List Svc} (h : SvcsAt w B A n ps) (hk : ∀ p : Addr, p.block < B → w'.cell? p = w.cell? p) : SvcsAt w' B A n ps := ⟨h.1, h.2.keep hk⟩
theorem SvcsAt.below {w w' : World} {B : Nat} {A : Option Addr} {n : Nat} {ps : List Svc} (h : SvcsAt w B A n ps) (hb : Below B w w') : SvcsAt w' B A n ps := ⟨h.1, h.2.below hb⟩
theorem SvcsAt.up {w : World} {B B' : Nat} {A : Option Addr} {n : Nat} {ps : List Svc} (h : SvcsAt w B A n ps) (hB : B ≤ B') : SvcsAt w B' A n ps := ⟨h.1, h.2.up hB⟩
structure SvcAt (w : World) (q : Addr) (p : Svc) : Prop where
  c0 : w.cell? q = some (.int .i64 p.path)
  c1 : w.cell? ⟨q.block, q.off + 1, none⟩ = some (.int .i64 p.green)
  c2 : w.cell? ⟨q.block, q.off + 2, none⟩ = some (.int .i64 p.wait)
  c3 : w.cell? ⟨q.block, q.off + 3, none⟩ = some (.int .i64 p.share)
theorem SvcAt.keep {w w' : World} {q : Addr} {p : Svc} (h : SvcAt w q p) (e : w'.heap[q.block]? = w.heap[q.block]?) : SvcAt w' q p :=
  ⟨(World.cell?_of_block e).trans h.c0, (World.cell?_of_block (a := ⟨q.block, q.off + 1, none⟩) e).trans h.c1, (World.cell?_of_block (a := ⟨q.block, q.off + 2, none⟩) e).trans h.c2, (World.cell?_of_block (a := ⟨q.block, q.off + 3, none⟩) e).trans h.c3⟩
theorem SvcAt.below {w w' : World} {q : Addr} {p : Svc} {B : Nat} (h : SvcAt w q p) (hb : Below B w w') (hB : q.block < B) : SvcAt w' q p := h.keep (hb.block _ hB)
theorem svc_head {w : World} {g : Nat} {p : Svc} (h : SvcAt w ⟨g, 0, none⟩ p) : w.cell? ⟨g, 0, none⟩ = some (.int .i64 p.path) ∧ w.cell? ⟨g, 1, none⟩ = some (.int .i64 p.green) ∧ w.cell? ⟨g, 2, none⟩ = some (.int .i64 p.wait) ∧ w.cell? ⟨g, 3, none⟩ = some (.int .i64 p.share) := ⟨h.c0, h.c1, h.c2, h.c3⟩
theorem svc_of_block {w : World} {g : Nat} {p : Svc} {E : TypeId} {fr : Nat × Nat} (h : w.heap[g]? = some (.cells #[.int .i64 p.path, .int .i64 p.green, .int .i64 p.wait, .int .i64 p.share] E fr)) : SvcAt w ⟨g, 0, none⟩ p :=
  ⟨by rw [cell_of_row w g 0 _ E fr h]; rfl, by rw [cell_of_row w g _ _ E fr h]; rfl, by rw [cell_of_row w g _ _ E fr h]; rfl, by rw [cell_of_row w g _ _ E fr h]; rfl⟩
theorem SvcsAt.at {w : World} {B : Nat} {A : Option Addr} {n : Nat} {ps : List Svc} (h : SvcsAt w B A n ps) {k : Nat} (hk : k < n) : ∃ ad p, A = some ad ∧ (ad.add (k * 4)).block < B ∧ ps[k]? = some p ∧ SvcAt w (ad.add (k * 4)) p := by
  obtain ⟨hl, _, hc⟩ := h
  obtain ⟨ad, e, hb, hc⟩ := hc (by omega)
  have hp : ps[k]? = some ps[k] := List.getElem?_eq_getElem (by omega)
  have hg := fun i (hi : i < 4) => flat_get (f := Svc.cells) (fun _ => rfl) ps k i _ hp hi
  have ha := fun i (hi : 0 < i) => (add_add ad (k * 4) i).symm.trans (add_plusF _ i hi)
  refine ⟨ad, ps[k], e, by rw [add_block]; exact hb, hp, hc _ _ (hg 0 (by decide)), ?_, ?_, ?_⟩
  · rw [← ha 1 (by decide)]; exact hc _ _ (hg 1 (by decide))
  · rw [← ha 2 (by decide)]; exact hc _ _ (hg 2 (by decide))
  · rw [← ha 3 (by decide)]; exact hc _ _ (hg 3 (by decide))
theorem info_svc : (Tryz.prog.info? 63).map (fun i => (i.zero, i.size, i.bytes)) = some (some (.agg #[.int .i64 0, .int .i64 0, .int .i64 0, .int .i64 0]), 4, 32) := by kernel_rfl
theorem made_svc (n : Nat) : (madeCells (Value.agg #[Value.int .i64 0, Value.int .i64 0, Value.int .i64 0, Value.int .i64 0]).cells (n * 4)).toList = svccells (List.replicate n ⟨0, 0, 0, 0⟩) := by
  have h : (Value.agg #[Value.int .i64 0, Value.int .i64 0, Value.int .i64 0, Value.int .i64 0]).cells = #[Value.int .i64 0, Value.int .i64 0, Value.int .i64 0, Value.int .i64 0] := rfl
  rw [h]
  apply List.ext_getElem?
  intro i
  simp only [madeCells, Array.toList_map, List.getElem?_map]
  by_cases hi : i < n * 4
  · have hg := flat_get (f := Svc.cells) (fun _ => rfl) (List.replicate n ⟨0, 0, 0, 0⟩) (i / 4) (i % 4) ⟨0, 0, 0, 0⟩ (by rw [List.getElem?_replicate, if_pos (by omega)]) (Nat.mod_lt _ (by decide))
    rw [show i / 4 * 4 + i % 4 = i by omega] at hg
    unfold svccells
    rw [hg]
    have h4 : i % 4 = 0 ∨ i % 4 = 1 ∨ i % 4 = 2 ∨ i % 4 = 3 := by omega
    rcases h4 with h4 | h4 | h4 | h4 <;> simp [hi, h4, Svc.cells]
  · rw [List.getElem?_eq_none (l := svccells _) (by rw [svccells_length, List.length_replicate]; omega)]
    simp [hi]
theorem law_eqService (p q : Svc) (w : World) : Calls Tryz.prog 45 #[p.val, q.val] w fun e w' => e = .returned (.bool (decide (p = q))) ∧ Below w.heap.size w w' := by
  obtain ⟨a, b, c, d⟩ := p
  obtain ⟨a', b', c', d'⟩ := q
  simp only [Svc.val, Svc.mk.injEq]
  have hb0 := ((Below.refl w.heap.size w).alloc (Nat.le_refl _) (.cells #[.int .i64 a, .int .i64 b, .int .i64 c, .int .i64 d] 63)).alloc (by simp) (.cells #[.int .i64 a', .int .i64 b', .int .i64 c', .int .i64 d'] 63)
  have HB := Lib.hid hb0
  clear hb0
  by_cases h0 : a = a'
  rotate_left
  · have e0 : (a != a') = true := by simpa using h0
    go_enter Tryz.func45, Tryz.ntmps45
    go_wp2
    go_ret
    exact ⟨by simp [h0], HB.out⟩
  subst h0
  by_cases h1 : b = b'
  rotate_left
  · have e0 : (b != b') = true := by simpa using h1
    go_enter Tryz.func45, Tryz.ntmps45
    go_wp2
    go_ret
    exact ⟨by simp [h1], HB.out⟩
  subst h1
  by_cases h2 : c = c'
  rotate_left
  · have e0 : (c != c') = true := by simpa using h2
    go_enter Tryz.func45, Tryz.ntmps45
    go_wp2
    go_ret
    exact ⟨by simp [h2], HB.out⟩
  subst h2
  by_cases h3 : d = d'
  rotate_left
  · have e0 : (d != d') = true := by simpa using h3
    go_enter Tryz.func45, Tryz.ntmps45
    go_wp2
    go_ret
    exact ⟨by simp [h3], HB.out⟩
  subst h3
  go_enter Tryz.func45, Tryz.ntmps45
  go_wp2
  go_ret
  exact ⟨by simp, HB.out⟩
theorem same_svc (p : Svc) (w : World) : Calls Tryz.prog 45 #[p.val, p.val] w fun e w' => e = .returned (.bool true) ∧ Below w.heap.size w w' := (law_eqService p p w).mono fun e w' ⟨he, hb⟩ => ⟨by rw [he, decide_eq_true rfl], hb⟩
theorem law_eqServiceS (A : Option Addr) (n c B : Nat) (ps : List Svc) (A2 : Option Addr) (n2 c2 B2 : Nat) (qs : List Svc) (w : World) (h : SvcsAt w B A n ps) (h2 : SvcsAt w B2 A2 n2 qs) (hB : B ≤ w.heap.size) (hB2 : B2 ≤ w.heap.size) (hn : n ≤ 4294967296) (hn2 : n2 ≤ 4294967296) :
    Calls Tryz.prog 14 #[.slice A n c, .slice A2 n2 c2] w fun e w' => e = .returned (.bool (decide (ps = qs))) ∧ Below w.heap.size w w' := by
  have hl := h.1
  have hl2 := h2.1
  by_cases hne : n = n2
  · subst hne
    go_enter Tryz.func14, Tryz.ntmps14
    go_wp2
    go_loopw [5] (fun i wr => ∃ k : Nat, k ≤ n ∧ i = .int .i64 k ∧ ps.take k = qs.take k ∧ Below w.heap.size w wr) (fun i _ => n - (intOf i).toNat)
    case atStart => exact ⟨0, Nat.zero_le _, rfl, by simp, Below.refl _ _⟩
    case round =>
      obtain ⟨k, hk, rfl, hsame, hbl⟩ := hrel
      by_cases hlt : k < n
      · obtain ⟨ad, p, rfl, hab, hp, hq⟩ := h.at hlt
        obtain ⟨ad2, q, rfl, hab2, hp2, hq2⟩ := h2.at hlt
        replace hq := hq.below hbl (by omega)
        replace hq2 := hq2.below hbl (by omega)
        have i1 : (0 : Int) ≤ (k : Int) := by omega
        have i2 : (k : Int) < (n : Int) := by omega
        have hsz := hbl.size
        go_wp2
        go_region_held3 (fun W' => W'.cell? (ad.add (k * 4)) = some (.int .i64 p.path) ∧ W'.cell? ⟨(ad.add (k * 4)).block, (ad.add (k * 4)).off + 1, none⟩ = some (.int .i64 p.green) ∧ W'.cell? ⟨(ad.add (k * 4)).block, (ad.add (k * 4)).off + 2, none⟩ = some (.int .i64 p.wait) ∧ W'.cell? ⟨(ad.add (k * 4)).block, (ad.add (k * 4)).off + 3, none⟩ = some (.int .i64 p.share) ∧
            W'.cell? (ad2.add (k * 4)) = some (.int .i64 q.path) ∧ W'.cell? ⟨(ad2.add (k * 4)).block, (ad2.add (k * 4)).off + 1, none⟩ = some (.int .i64 q.green) ∧ W'.cell? ⟨(ad2.add (k * 4)).block, (ad2.add (k * 4)).off + 2, none⟩ = some (.int .i64 q.wait) ∧ W'.cell? ⟨(ad2.add (k * 4)).block, (ad2.add (k * 4)).off + 3, none⟩ = some (.int .i64 q.share))
          (first | exact ⟨hq.c0, hq.c1, hq.c2, hq.c3, hq2.c0, hq2.c1, hq2.c2, hq2.c3⟩ | exact ⟨hr.c0, hr.c1, hr.c2, hr.c3, hr2.c0, hr2.c1, hr2.c2, hr2.c3⟩ | fail "keep")
          (first
            | (go_at_call 45; refine (law_eqService p q _).mono ?_; rintro e w3 ⟨rfl, hb3⟩; have hb3' : Below wr.heap.size wr w3 := below_undrew hb3; have hr := hq.below hb3' (by omega); have hr2 := hq2.below hb3' (by omega)))
        have HB := Lib.hid (hbl.trans (hb3'.mono hsz))
        clear hq hq2 hr hr2 hb3 hb3' hbl
        by_cases hpq : p = q
        · have HT : Hid (ps.take (k + 1) = qs.take (k + 1)) := Lib.hid (by rw [List.take_add_one, List.take_add_one, hsame, hp, hp2, hpq])
          rw [decide_eq_true hpq]
          clear hsame hp hp2
          go_wp2
          go_roundw
          case rel => exact ⟨k + 1, by omega, by go_num, HT.out, HB.out⟩
          case measure => simp [intOf]; omega
        · have HN : Hid (decide (ps = qs) = false) := Lib.hid (by rw [decide_eq_false_iff_not]; rintro rfl; rw [hp] at hp2; exact hpq (Option.some.inj hp2))
          rw [decide_eq_false hpq]
          clear hsame hp hp2
          go_wp2
          go_ret
          exact ⟨by rw [HN.out]; rfl, HB.out⟩
      · obtain rfl : k = n := by omega
        have HN : Hid (decide (ps = qs) = true) := Lib.hid (by rw [decide_eq_true_eq]; rwa [List.take_of_length_le (by omega), List.take_of_length_le (by omega)] at hsame)
        go_wp2
        go_ret
        exact ⟨by rw [HN.out]; rfl, hbl⟩
  · have HN : Hid (decide (ps = qs) = false) := Lib.hid (by rw [decide_eq_false_iff_not]; rintro rfl; omega)
    go_enter Tryz.func14, Tryz.ntmps14
    go_wp2
    go_ret
    exact ⟨by rw [HN.out]; rfl, Below.refl _ _⟩
theorem law_markServiceS (A : Option Addr) (n c lo s : Nat) (vs : List Value) (w : World) (h : w.ownsRow lo 63 4 (.slice A n c) n vs) (hn : n ≤ 4294967296) (hs : s ≤ 70368744177664) :
    Calls Tryz.prog 19 #[.slice A n c, .int .i64 s] w fun e w' => e = .returned (.int .i64 ((s + n * 4 : Nat) : Int)) ∧ w.grownBy w' (Value.ownBlock (.slice A n c)) := by
  go_enter Tryz.func19, Tryz.ntmps19
  go_wp2
  go_loopw [1, 5] (fun x i wr => ∃ k : Nat, k ≤ n ∧ i = .int .i64 k ∧ x = .int .i64 ((s + k * 4 : Nat) : Int) ∧ (∃ vs', wr.ownsRow lo 63 4 (.slice A n c) n vs') ∧ w.grownBy wr (Value.ownBlock (.slice A n c))) (fun _ i _ => n - (intOf i).toNat)
  case atStart => exact ⟨0, Nat.zero_le _, rfl, by simp, ⟨vs, h⟩, World.grownBy.refl _ _⟩
  case round =>
    obtain ⟨k, hk, rfl, rfl, ⟨vs', hown⟩, hbl⟩ := hrel
    by_cases hlt : k < n
    · rcases ownr_shape hown with ⟨e, he⟩ | ⟨g, cap, e, hg, hgs, _⟩
      · omega
      injection e with e1 _ e3
      obtain rfl := e1
      obtain ⟨x0, hx0⟩ := ownr_some hown (j := k * 4) (by omega)
      obtain ⟨x1, hx1⟩ := ownr_some hown (j := k * 4 + 1) (by omega)
      obtain ⟨x2, hx2⟩ := ownr_some hown (j := k * 4 + 2) (by omega)
      obtain ⟨x3, hx3⟩ := ownr_some hown (j := k * 4 + 3) (by omega)
      have f0 := World.ownsRow.frozenAt hown
      have hst := (World.ownsRow.stored (World.ownsRow.stored (World.ownsRow.stored (World.ownsRow.stored hown (k * 4) (.int .i64 ((s : Int) + (k : Int) * 4))).1 (k * 4 + 1) (.int .i64 ((s : Int) + (k : Int) * 4 + 1))).1 (k * 4 + 2) (.int .i64 ((s : Int) + (k : Int) * 4 + 1 + 1))).1 (k * 4 + 3) (.int .i64 ((s : Int) + (k : Int) * 4 + 1 + 1 + 1))).1
      have HS := Lib.hid hst
      have HG := Lib.hid hbl
      clear hown hbl hst
      go_wp2
      go_roundw
      case rel => exact ⟨k + 1, by omega, by go_num, by go_num, ⟨_, HS.out⟩, (only_setCell (only_setCell (only_setCell (only_setCell HG.out _ _) _ _) _ _) _ _)⟩
      case measure => simp [intOf]; omega
    · obtain rfl : k = n := by omega
      go_wp2
      go_ret
      exact ⟨rfl, hbl⟩
structure SlSvc (w : World) (A : Option Addr) (n c : Nat) (ps : List Svc) : Prop where
  pths : SvcsAt w w.heap.size A n ps
  bare : A = none → n = 0 ∧ c = 0
  small : n ≤ 4294967296
  cap : n ≤ c ∧ c ≤ maxLen
  wf : ∀ p ∈ ps, p.wf
theorem SlSvc.len {w : World} {A : Option Addr} {n c : Nat} {ps : List Svc} (h : SlSvc w A n c ps) : ps.length = n := h.pths.1
theorem SlSvc.below {w w' : World} {A : Option Addr} {n c : Nat} {ps : List Svc} (h : SlSvc w A n c ps) (hb : Below w.heap.size w w') : SlSvc w' A n c ps :=
  ⟨(h.pths.below hb).up hb.size, h.bare, h.small, h.cap, h.wf⟩
structure OwSvc (E : TypeId) (w : World) (lo hi : Nat) (v : Value) (ps : List Svc) : Prop where
  own : w.ownsRow lo E 4 v ps.length (svccells ps)
  lt : ∀ g, v.ownBlock = some g → g < hi
  top : hi ≤ w.heap.size
theorem OwSvc.new {E : TypeId} {w : World} {lo : Nat} {v : Value} {ps : List Svc} (h : w.ownsRow lo E 4 v ps.length (svccells ps)) : OwSvc E w lo w.heap.size v ps := ⟨h, fun g e => (ownr_block h g e).2, Nat.le_refl _⟩
theorem OwSvc.below {E : TypeId} {w w' : World} {lo hi : Nat} {v : Value} {ps : List Svc} (h : OwSvc E w lo hi v ps) (hb : Below w.heap.size w w') : OwSvc E w' lo hi v ps := ⟨ownr_below h.own hb, h.lt, Nat.le_trans h.top hb.size⟩
theorem OwSvc.ints {E : TypeId} {w : World} {lo hi : Nat} {A : Option Addr} {n c : Nat} {ps : List Svc} (h : OwSvc E w lo hi (.slice A n c) ps) : SvcsAt w w.heap.size A n ps := by
  have hn := ownr_len h.own
  subst hn
  exact ⟨rfl, ownr_cells h.own⟩
theorem OwSvc.sl {E : TypeId} {w : World} {lo hi : Nat} {A : Option Addr} {n c : Nat} {ps : List Svc} (h : OwSvc E w lo hi (.slice A n c) ps) (hn : n ≤ 4294967296) (hw : ∀ p ∈ ps, p.wf) : SlSvc w A n c ps :=
  ⟨h.ints, ownr_nilcap h.own, hn, ownr_cap h.own, hw⟩
theorem OwSvc.part {E : TypeId} {w w' : World} {lo hi l h' : Nat} {v : Value} {ps : List Svc} (h : OwSvc E w lo hi v ps) (hp : Part l h' w w') (hd : hi ≤ l ∨ h' ≤ lo) : OwSvc E w' lo hi v ps := by
  refine ⟨⟨h.own.1, ?_⟩, h.lt, Nat.le_trans h.top hp.size⟩
  rcases h.own.2 with h2 | ⟨g, cap, cur, rfl, hl, hg, r⟩
  · exact .inl h2
  · have hlt := h.lt g rfl
    have htop := h.top
    exact .inr ⟨g, cap, cur, rfl, hl, (hp.block g (by omega) (by omega)).trans hg, r⟩
theorem eqs_svc (A : Option Addr) (n c : Nat) (ps : List Svc) (A2 : Option Addr) (n2 c2 : Nat) (w : World) (h : SvcsAt w w.heap.size A n ps) (h2 : SvcsAt w w.heap.size A2 n2 ps) (hn : n ≤ 1048576) (hn2 : n2 ≤ 1048576) :
    Calls Tryz.prog 14 #[.slice A n c, .slice A2 n2 c2] w fun e w' => e = .returned (.bool true) ∧ Below w.heap.size w w' :=
  (law_eqServiceS A n c _ ps A2 n2 c2 _ ps w h h2 (Nat.le_refl _) (Nat.le_refl _) (by omega) (by omega)).mono fun e w' ⟨he, hb⟩ => ⟨by rw [he, decide_eq_true rfl], hb⟩
theorem marked_svc (A : Option Addr) (n c lo hi s : Nat) (ps : List Svc) (w : World) (h : OwSvc 63 w lo hi (.slice A n c) ps) (hn : n ≤ 1048576) (hs : s ≤ 70368744177664) :
    Calls Tryz.prog 19 #[.slice A n c, .int .i64 s] w fun e w' => e = .returned (.int .i64 ((s + n * 4 : Nat) : Int)) ∧ Part lo hi w w' := by
  have hl := ownr_len h.own
  refine (law_markServiceS A n c lo s (svccells ps) w (by have h2 := h.own; rw [← hl] at h2; exact h2) (by omega) hs).mono fun e w' ⟨he, hg⟩ => ⟨he, ⟨hg.os, hg.tape, hg.output, hg.size, fun i hi' hd => hg.block i hi' fun e => ?_⟩⟩
  have h1 := h.lt i e.symm
  have h2 := (ownr_block h.own i e.symm).1
  omega
end Go.Proofs.YtlpkafhapmkkfaaGreatDoor

/- Chapter 32: services: data; share and service of the program (written by gensvp.py). -/
set_option linter.unusedSimpArgs false
namespace Go.Proofs.YtlpkafhapmkkfaaGreatDoor
open Go.RowKit
set_option linter.unusedVariables false

/-- what a path of a plan can count on. -/
def svcP (ps : List Pth) (p : List Prt) (id : Int) : Svc := ⟨id, greenP ps p id, waitP ps p id, (100 * greenP ps p id).tdiv (cycleP ps p)⟩
/-- what ServiceOf answers. -/
def serviceP (ps : List Pth) (p : List Prt) (id : Int) : Svc × Bool := if isPlan ps p && (findK id ps).isSome then (svcP ps p id, true) else (⟨0, 0, 0, 0⟩, false)
theorem serviceP_no {ps : List Pth} {p : List Prt} {id : Int} (h : (isPlan ps p && (findK id ps).isSome) = false) : serviceP ps p id = (⟨0, 0, 0, 0⟩, false) := by unfold serviceP; rw [h]; rfl
theorem serviceP_yes {ps : List Pth} {p : List Prt} {id : Int} (h : (isPlan ps p && (findK id ps).isSome) = true) : serviceP ps p id = (svcP ps p id, true) := by unfold serviceP; rw [h]; rfl
/-- what AllServices answers. -/
def allSvc (ps : List Pth) (p : List Prt) : List Svc := if isPlan ps p then ps.map (fun q => svcP ps p q.id) else []
theorem allSvc_no {ps : List Pth} {p : List Prt} (h : isPlan ps p = false) : allSvc ps p = [] := by unfold allSvc; rw [h]; rfl
theorem allSvc_yes {ps : List Pth} {p : List Prt} (h : isPlan ps p = true) : allSvc ps p = ps.map (fun q => svcP ps p q.id) := by unfold allSvc; rw [h]; rfl
theorem allSvc_len (ps : List Pth) (p : List Prt) : (allSvc ps p).length ≤ ps.length := by
  unfold allSvc
  split
  · simp
  · simp
theorem quo_wrapS {a b : Int} (h1 : 0 ≤ a ∧ a ≤ 100000000000) (h2 : 0 < b) : IntKind.i64.wrap (a.tdiv b) = a.tdiv b := by
  have e : a.tdiv b = a / b := Int.tdiv_eq_ediv_of_nonneg h1.1
  have h3 : 0 ≤ a / b := Int.ediv_nonneg h1.1 (by omega)
  have h4 : a / b ≤ a := Int.ediv_le_self b h1.1
  rw [e, IntKind.wrap_i64]
  omega
set_option maxHeartbeats 1000000 in
theorem impl_share (A : Option Addr) (n c B : Nat) (zs : List Int) (w : World) (h : IntsAt .i64 w B A n zs) (hn : n ≤ 1000) (h0 : 0 < n) :
    Calls Tryz.prog 99 #[.slice A n c] w fun e w' => e = .returned (.int .i64 ((100 * grnTo zs n).tdiv n)) ∧ w = w' := by
  have hg := impl_greens A n c B zs w h (by omega)
  have hb := grnTo_bound zs n
  generalize grnTo zs n = z at *
  have e1 : IntKind.i64.wrap (100 * z) = 100 * z := by rw [IntKind.wrap_i64]; omega
  have e2 : IntKind.i64.wrap ((100 * z).tdiv (n : Int)) = (100 * z).tdiv (n : Int) := quo_wrapS ⟨by omega, by omega⟩ (by omega)
  have e3 : ((n : Int) == 0) = false := beq_eq_false_iff_ne.2 (by omega)
  go_enter Tryz.func99, Tryz.ntmps99
  go_wp2_with fail
  refine hg.mono ?_
  rintro e w1 ⟨rfl, rfl⟩
  go_wp2
  go_ret
  exact ⟨rfl, rfl⟩
theorem cells4V {w : World} {g : Nat} {x0 x1 x2 x3 : Value} {E : TypeId} {fr : Nat × Nat} (h : w.heap[g]? = some (.cells #[x0, x1, x2, x3] E fr)) : w.cell? ⟨g, 0, none⟩ = some x0 ∧ w.cell? ⟨g, 1, none⟩ = some x1 ∧ w.cell? ⟨g, 2, none⟩ = some x2 ∧ w.cell? ⟨g, 3, none⟩ = some x3 :=
  ⟨(cell_of_row w g 0 _ _ _ h).trans rfl, (cell_of_row w g 1 _ _ _ h).trans rfl, (cell_of_row w g 2 _ _ _ h).trans rfl, (cell_of_row w g 3 _ _ _ h).trans rfl⟩
theorem cells3V {w : World} {g : Nat} {x0 x1 x2 : Value} {E : TypeId} {fr : Nat × Nat} (h : w.heap[g]? = some (.cells #[x0, x1, x2] E fr)) : w.cell? ⟨g, 0, none⟩ = some x0 ∧ w.cell? ⟨g, 1, none⟩ = some x1 ∧ w.cell? ⟨g, 2, none⟩ = some x2 :=
  ⟨(cell_of_row w g 0 _ _ _ h).trans rfl, (cell_of_row w g 1 _ _ _ h).trans rfl, (cell_of_row w g 2 _ _ _ h).trans rfl⟩
theorem below_drewV {a w : World} (h : Below a.heap.size a w) : Below a.heap.size a w.drew := ⟨h.os, h.tape, h.output, h.size, h.block⟩
/-- the numbers so far. -/
def numsS (k : Nat) (a b c : Int) : Array Value := if k = 0 then #[.int .i64 0, .int .i64 0, .int .i64 0] else if k = 1 then #[.int .i64 a, .int .i64 0, .int .i64 0] else if k = 2 then #[.int .i64 a, .int .i64 b, .int .i64 0] else #[.int .i64 a, .int .i64 b, .int .i64 c]
theorem index_svc0 (y : World) : Sem.run Tryz.prog (Instr.index 133 (.agg #[.func (.func 97) #[] #[], .func (.func 98) #[] #[], .func (.func 99) #[] #[]]) (.int .i64 0)) y = .ok (.func (.func 97) #[] #[]) y := by kernel_rfl
theorem index_svc1 (y : World) : Sem.run Tryz.prog (Instr.index 133 (.agg #[.func (.func 97) #[] #[], .func (.func 98) #[] #[], .func (.func 99) #[] #[]]) (.int .i64 1)) y = .ok (.func (.func 98) #[] #[]) y := by kernel_rfl
theorem index_svc2 (y : World) : Sem.run Tryz.prog (Instr.index 133 (.agg #[.func (.func 97) #[] #[], .func (.func 98) #[] #[], .func (.func 99) #[] #[]]) (.int .i64 2)) y = .ok (.func (.func 99) #[] #[]) y := by kernel_rfl
set_option maxHeartbeats 16000000 in
set_option maxRecDepth 100000 in
theorem impl_service {w : World} {A : Option Addr} {n c B : Nat} {ps : List Pth} {A2 : Option Addr} {n2 c2 B2 : Nat} {p : List Prt} (I : PlnIn w A n c B ps A2 n2 c2 B2 p) (hp : isPlan ps p = true) {lo0 : Nat} {a1 : Option Addr} {q1 : Nat} {a2 : Option Addr} {q2 : Nat} (hP : PhsIn w lo0 ps p n2 a1 q1 a2 q2) (i : Nat) (hi : i < n) :
    Calls Tryz.prog 44 #[.agg (t16 A n c (rowSt ps n 0) (.slice a1 n2 q1) (.slice a2 n2 q2) (sumTo ps p n2)), .int .i64 (i : Nat)] w fun e w' => e = .returned (svcP ps p (idAt ps i)).val ∧ Below w.heap.size w w' := by
  have hln := I.len
  have hlp := I.lenp
  have hn4 := I.hn4
  have ha := (isPlan_parts hp).2.1
  have hrp : rowP ps p (idAt ps i) = rowTo ps p (idAt ps i) n2 := by unfold rowP; rw [hp, findK_of ha (by rw [hlp]; exact hi), hln]; rfl
  have hrl := rowTo_len hp (idAt ps i) n2 (by rw [hln]; exact Nat.le_refl _)
  have hsb := sumTo_bound hp n2 (by rw [hln]; exact Nat.le_refl _)
  have hn6 : 1 ≤ n2 ∧ n2 ≤ 6 := by have := (isPlan_parts hp).1; rw [hln] at this; exact this
  have hcy : cycleP ps p = sumTo ps p n2 := by unfold cycleP; rw [hp, hln]; rfl
  have HV : Hid (svcP ps p (idAt ps i) = ⟨idAt ps i, grnTo (rowTo ps p (idAt ps i) n2) (rowTo ps p (idAt ps i) n2).length, (waitTo (rowTo ps p (idAt ps i) n2) (2 * (rowTo ps p (idAt ps i) n2).length)).2, (100 * grnTo (rowTo ps p (idAt ps i) n2) (rowTo ps p (idAt ps i) n2).length).tdiv ((rowTo ps p (idAt ps i) n2).length : Int)⟩) := Lib.hid (by
    unfold svcP
    rw [wait_plain, hcy]
    have hg : greenP ps p (idAt ps i) = grnTo (rowTo ps p (idAt ps i) n2) (rowTo ps p (idAt ps i) n2).length := by unfold greenP; rw [hrp, grnTo_all]
    rw [hg, hrp, ← hrl])
  obtain ⟨wA, hwA⟩ : ∃ wA, wA = (w.alloc (.cells (t16 A n c (rowSt ps n 0) (.slice a1 n2 q1) (.slice a2 n2 q2) (sumTo ps p n2)) 81)).alloc (.cells #[.int .i64 0, .int .i64 0, .int .i64 0, .int .i64 0] 63) := ⟨_, rfl⟩
  obtain ⟨hk, hx, hsz, hbA⟩ := two_blocks hwA
  have HRO := Lib.hid (impl_rowOf (I.below hbA) hp (lo0 := lo0) (a1 := a1) (q1 := q1) (a2 := a2) (q2 := q2) (hP.below hbA) i hi)
  rw [← t16_list] at hk HRO
  have hrng := range_block hk
  have hlen : (xcells A n c (rowSt ps n 0) ++ [Value.slice a1 n2 q1, .slice a2 n2 q2, .int .i64 (sumTo ps p n2)]).length = 16 := by rw [List.length_append, xcells_length]; rfl
  have hinf16 : (Tryz.prog.info? 81).map (·.size) = some (xcells A n c (rowSt ps n 0) ++ [Value.slice a1 n2 q1, .slice a2 n2 q2, .int .i64 (sumTo ps p n2)]).length := by rw [hlen]; exact info_timed
  have HT0 := Lib.hid (fun (y : World) (hy : y.heap[w.heap.size]? = some (.cells (xcells A n c (rowSt ps n 0) ++ [Value.slice a1 n2 q1, .slice a2 n2 q2, .int .i64 (sumTo ps p n2)]).toArray 81)) => (range_block hy 0 (.slice A n c) rfl : y.cell? ⟨w.heap.size, 0 + 0, none⟩ = _))
  obtain ⟨ad, pq, rfl, hab, hpq, hq⟩ := I.h.at hi
  have hid : idAt ps i = pq.id := by unfold idAt; rw [pAt_some hpq]
  have HQ := Lib.hid (fun (y : World) (hy : Below w.heap.size w y) => hq.below (hy.mono I.hB) hab)
  have HX := Lib.hid hx
  have HK := Lib.hid hk
  have HB := Lib.hid hbA
  have lA : w.heap.size + 1 < wA.heap.size := by omega
  have hrl9 : 0 < (rowTo ps p (idAt ps i) n2).length ∧ (rowTo ps p (idAt ps i) n2).length ≤ 1000 := by omega
  have i1 : (0 : Int) ≤ (i : Int) := by omega
  have i2 : (i : Int) < (n : Int) := by omega
  have hmx : Tryz.prog.follows .mixedOrders = true := by kernel_rfl
  rw [hid] at HV HRO hrl9 ⊢
  clear I hP hp hk hx hbA hsz ha hrp hrl hsb hn6 hcy hlp hln hpq hq hid hlen
  generalize svcP ps p pq.id = sv at *
  generalize rowTo ps p pq.id n2 = zs at *
  generalize xcells (some ad) n c (rowSt ps n 0) ++ [Value.slice a1 n2 q1, .slice a2 n2 q2, .int .i64 (sumTo ps p n2)] = cs at *
  unfold t16 at hwA ⊢
  go_enter Tryz.func44, Tryz.ntmps44
  go_wp2_with ((with_reducible show wpList _ _ _ _ _ _); rw [← hwA]; clear hwA; refine wpList_load_mid rfl 81 _ rfl w.heap.size 0 rfl cs _ hrng Tryz.underlying81 rfl hinf16 ?_)
  clear hrng hinf16
  refine HRO.out.mono ?_
  rintro e w1 ⟨v, rfl, hv, hb1⟩
  obtain ⟨Av, cv, rfl⟩ := ownr_sliced hv
  have HOV := Lib.hid (show Own .i64 3 w1 wA.heap.size (.slice Av zs.length cv) zs from hv)
  have HB1 := Lib.hid (HB.out.trans (hb1.mono HB.out.size))
  have HK1 := Lib.hid ((hb1.block _ (Nat.lt_of_succ_lt lA)).trans HK.out)
  have HX1 := Lib.hid ((hb1.block _ lA).trans HX.out)
  have lA1 : w.heap.size + 1 < w1.heap.size := Nat.lt_of_lt_of_le lA hb1.size
  clear hb1 hv
  obtain ⟨z, hz⟩ : ∃ z, zs.length = z := ⟨_, rfl⟩
  rw [hz] at HOV HV hrl9 ⊢
  clear hz
  obtain ⟨w2, hw2⟩ : ∃ w2, w2 = (w1.alloc (.cells #[.func (.func 97) #[] #[], .func (.func 98) #[] #[], .func (.func 99) #[] #[]] 133)).alloc (.cells #[.int .i64 0, .int .i64 0, .int .i64 0] 134) := ⟨_, rfl⟩
  obtain ⟨hk2, hx2, hs2, hb2⟩ := two_blocks hw2
  have HI1 := Lib.hid (show IntsAt .i64 w1 w1.heap.size Av z zs from HOV.out.ints)
  have HG := Lib.hid (fun y (hy : Below w1.heap.size w1 y) => impl_greens Av z cv w1.heap.size zs y (HI1.out.keep fun p hp => hy.cell hp) (by omega))
  have HL := Lib.hid (fun y (hy : Below w1.heap.size w1 y) => impl_longestW Av z cv w1.heap.size zs y (HI1.out.keep fun p hp => hy.cell hp) hy.size (by omega))
  have HS := Lib.hid (fun y (hy : Below w1.heap.size w1 y) => impl_share Av z cv w1.heap.size zs y (HI1.out.keep fun p hp => hy.cell hp) hrl9.2 hrl9.1)
  have HX2 := Lib.hid hx2
  have HB2 := Lib.hid hb2
  clear hk2 hx2 hb2 hs2 HRO HOV
  generalize (100 * grnTo zs z).tdiv (z : Int) = sa at *
  generalize grnTo zs z = ga at *
  generalize (waitTo zs (2 * z)).2 = wa at *
  go_wp2
  rw [← hw2]
  clear hw2
  go_loopw [15] (fun i wr => ((i = .int .i64 0 ∧ wr.heap[w1.heap.size + 1]? = some (.cells #[.int .i64 0, .int .i64 0, .int .i64 0] 134)) ∨ (i = .int .i64 1 ∧ wr.heap[w1.heap.size + 1]? = some (.cells #[.int .i64 ga, .int .i64 0, .int .i64 0] 134)) ∨ (i = .int .i64 2 ∧ wr.heap[w1.heap.size + 1]? = some (.cells #[.int .i64 ga, .int .i64 wa, .int .i64 0] 134)) ∨ (i = .int .i64 3 ∧ wr.heap[w1.heap.size + 1]? = some (.cells #[.int .i64 ga, .int .i64 wa, .int .i64 sa] 134))) ∧ Below w1.heap.size w1 wr) (fun i _ => 3 - (intOf i).toNat)
  case atStart => exact ⟨Or.inl ⟨rfl, HX2.out⟩, HB2.out⟩
  case round =>
    clear HX2 HB2
    obtain ⟨hd, hbl⟩ := hrel
    have HBL := Lib.hid hbl
    rcases hd with ⟨rfl, hn⟩ | ⟨rfl, hn⟩ | ⟨rfl, hn⟩ | ⟨rfl, hn⟩
    · have HN := Lib.hid hn
      obtain ⟨c0, c1, c2⟩ := cells3V hn
      have fz : ∀ j, wr.frozen? ⟨w1.heap.size + 1, j, none⟩ = false := fun j => frozen_of_row _ _ j _ _ hn
      clear hn hbl
      have ix := index_svc0
      go_wp2_with fail
      clear ix
      refine (HG.out wr HBL.out).mono ?_
      rintro e w3 ⟨rfl, rfl⟩
      go_wp2
      go_roundw
      case rel => exact ⟨Or.inr (Or.inl ⟨rfl, heap_setCell_same wr (w1.heap.size + 1) 0 _ _ _ HN.out⟩), HBL.out.setCell (Nat.le_succ _) _⟩
      case measure => simp [intOf]
    · have hlt := (Array.getElem?_eq_some_iff.1 hn).1
      have HN := Lib.hid (fun (y : World) (hy : Below wr.heap.size wr y) => (hy.block _ hlt).trans hn)
      clear hn
      have ix := index_svc1
      go_wp2_with fail
      clear ix
      refine (HL.out wr HBL.out).mono ?_
      rintro e w3 ⟨rfl, hb3⟩
      have HN3 := Lib.hid (HN.out w3 hb3)
      have HB3 := Lib.hid (HBL.out.trans (hb3.mono hbl.size))
      obtain ⟨c0, c1, c2⟩ := cells3V HN3.out
      have fz : ∀ j, w3.frozen? ⟨w1.heap.size + 1, j, none⟩ = false := fun j => frozen_of_row _ _ j _ _ HN3.out
      clear hb3 hbl hlt
      go_wp2
      go_roundw
      case rel => exact ⟨Or.inr (Or.inr (Or.inl ⟨rfl, heap_setCell_same w3 (w1.heap.size + 1) 1 _ _ _ HN3.out⟩)), HB3.out.setCell (Nat.le_succ _) _⟩
      case measure => simp [intOf]
    · have HN := Lib.hid hn
      obtain ⟨c0, c1, c2⟩ := cells3V hn
      have fz : ∀ j, wr.frozen? ⟨w1.heap.size + 1, j, none⟩ = false := fun j => frozen_of_row _ _ j _ _ hn
      clear hn hbl
      have ix := index_svc2
      go_wp2_with fail
      clear ix
      refine (HS.out wr HBL.out).mono ?_
      rintro e w3 ⟨rfl, rfl⟩
      go_wp2
      go_roundw
      case rel => exact ⟨Or.inr (Or.inr (Or.inr ⟨rfl, heap_setCell_same wr (w1.heap.size + 1) 2 _ _ _ HN.out⟩)), HBL.out.setCell (Nat.le_succ _) _⟩
      case measure => simp [intOf]
    · have hb1w := HB1.out.trans (hbl.mono HB1.out.size)
      have HX3 := Lib.hid ((hbl.block _ lA1).trans HX1.out)
      have HB4 := Lib.hid hb1w
      clear hb1w
      go_wp2
      have hx3 : wr.heap[w.heap.size + 1]? = some (.cells #[.int .i64 0, .int .i64 0, .int .i64 0, .int .i64 0] 63) := HX3.out
      have HF := Lib.hid (cells4V hx3)
      have fz : ∀ j, wr.frozen? ⟨w.heap.size + 1, j, none⟩ = false := fun j => frozen_of_row _ _ j _ _ HX3.out
      have hSd : Below w.heap.size w wr.drew ∧ wr.drew.heap[w.heap.size]? = some (.cells cs.toArray 81) ∧ wr.drew.heap[w1.heap.size + 1]? = some (.cells #[.int .i64 ga, .int .i64 wa, .int .i64 sa] 134) := ⟨below_drewV HB4.out, (hbl.block _ (Nat.lt_of_succ_lt lA1)).trans HK1.out, hn⟩
      have HS4 := Lib.hid hSd
      clear hn hbl
      refine wp_region_held_drew (S := fun W' => Below w.heap.size w W' ∧ W'.heap[w.heap.size]? = some (.cells cs.toArray 81) ∧ W'.heap[w1.heap.size + 1]? = some (.cells #[.int .i64 ga, .int .i64 wa, .int .i64 sa] 134)) hmx hSd (fun hH => ?_)
      refine wpAnyH_take (i := 0) (v := .pointer (some ⟨w.heap.size, 0, none⟩)) rfl (by kernel_rfl) (by kernel_rfl) (by kernel_rfl) (fun _ _ _ h => h) (Or.inl ⟨by rfl, by intro W' hSw; go_simp⟩) hH ?_
      try simp only [Act.put, List.setIfInBounds_toArray, List.set_cons_zero, List.set_cons_succ]
      refine wpAnyH_take (i := 1) (v := .pointer (some ⟨w.heap.size, 0, none⟩)) rfl (by kernel_rfl) (by kernel_rfl) (by kernel_rfl) (fun _ _ _ h => h) (Or.inl ⟨by rfl, by intro W' hSw; go_simp⟩) hH ?_
      try simp only [Act.put, List.setIfInBounds_toArray, List.set_cons_zero, List.set_cons_succ]
      refine wpAnyH_take (i := 2) (v := .slice (some ad) n c) rfl (by kernel_rfl) (by kernel_rfl) (by kernel_rfl) (fun _ _ _ h => h) (Or.inl ⟨by rfl, by intro W' hSw; have hlt' := lt_of_block hSw.2.1; have hlt2 := lt_of_block hSw.2.2; obtain ⟨b0, b1, b2⟩ := cells3V hSw.2.2; have b3 := HT0.out W' hSw.2.1; have b4 := (HQ.out W' hSw.1).c0; go_simp⟩) hH ?_
      try simp only [Act.put, List.setIfInBounds_toArray, List.set_cons_zero, List.set_cons_succ]
      refine wpAnyH_take (i := 3) (v := .int .i64 (i : Int)) rfl (by kernel_rfl) (by kernel_rfl) (by kernel_rfl) (fun _ _ _ h => h) (Or.inl ⟨by rfl, by intro W' hSw; go_simp⟩) hH ?_
      try simp only [Act.put, List.setIfInBounds_toArray, List.set_cons_zero, List.set_cons_succ]
      refine wpAnyH_take (i := 4) (v := .pointer (some (ad.add (i * 4)))) rfl (by kernel_rfl) (by kernel_rfl) (by kernel_rfl) (fun _ _ _ h => h) (Or.inl ⟨by rfl, by intro W' hSw; go_simp⟩) hH ?_
      try simp only [Act.put, List.setIfInBounds_toArray, List.set_cons_zero, List.set_cons_succ]
      refine wpAnyH_take (i := 5) (v := .pointer (some (ad.add (i * 4)))) rfl (by kernel_rfl) (by kernel_rfl) (by kernel_rfl) (fun _ _ _ h => h) (Or.inl ⟨by rfl, by intro W' hSw; go_simp⟩) hH ?_
      try simp only [Act.put, List.setIfInBounds_toArray, List.set_cons_zero, List.set_cons_succ]
      refine wpAnyH_take (i := 6) (v := .int .i64 pq.id) rfl (by kernel_rfl) (by kernel_rfl) (by kernel_rfl) (fun _ _ _ h => h) (Or.inl ⟨by rfl, by intro W' hSw; have hlt' := lt_of_block hSw.2.1; have hlt2 := lt_of_block hSw.2.2; obtain ⟨b0, b1, b2⟩ := cells3V hSw.2.2; have b3 := HT0.out W' hSw.2.1; have b4 := (HQ.out W' hSw.1).c0; go_simp⟩) hH ?_
      try simp only [Act.put, List.setIfInBounds_toArray, List.set_cons_zero, List.set_cons_succ]
      refine wpAnyH_take (i := 7) (v := .pointer (some ⟨w1.heap.size + 1, 0, none⟩)) rfl (by kernel_rfl) (by kernel_rfl) (by kernel_rfl) (fun _ _ _ h => h) (Or.inl ⟨by rfl, by intro W' hSw; go_simp⟩) hH ?_
      try simp only [Act.put, List.setIfInBounds_toArray, List.set_cons_zero, List.set_cons_succ]
      refine wpAnyH_take (i := 8) (v := .int .i64 ga) rfl (by kernel_rfl) (by kernel_rfl) (by kernel_rfl) (fun _ _ _ h => h) (Or.inl ⟨by rfl, by intro W' hSw; have hlt' := lt_of_block hSw.2.1; have hlt2 := lt_of_block hSw.2.2; obtain ⟨b0, b1, b2⟩ := cells3V hSw.2.2; have b3 := HT0.out W' hSw.2.1; have b4 := (HQ.out W' hSw.1).c0; go_simp⟩) hH ?_
      try simp only [Act.put, List.setIfInBounds_toArray, List.set_cons_zero, List.set_cons_succ]
      refine wpAnyH_take (i := 9) (v := .pointer (some ⟨w1.heap.size + 1, 1, none⟩)) rfl (by kernel_rfl) (by kernel_rfl) (by kernel_rfl) (fun _ _ _ h => h) (Or.inl ⟨by rfl, by intro W' hSw; go_simp⟩) hH ?_
      try simp only [Act.put, List.setIfInBounds_toArray, List.set_cons_zero, List.set_cons_succ]
      refine wpAnyH_take (i := 10) (v := .int .i64 wa) rfl (by kernel_rfl) (by kernel_rfl) (by kernel_rfl) (fun _ _ _ h => h) (Or.inl ⟨by rfl, by intro W' hSw; have hlt' := lt_of_block hSw.2.1; have hlt2 := lt_of_block hSw.2.2; obtain ⟨b0, b1, b2⟩ := cells3V hSw.2.2; have b3 := HT0.out W' hSw.2.1; have b4 := (HQ.out W' hSw.1).c0; go_simp⟩) hH ?_
      try simp only [Act.put, List.setIfInBounds_toArray, List.set_cons_zero, List.set_cons_succ]
      refine wpAnyH_take (i := 11) (v := .pointer (some ⟨w1.heap.size + 1, 2, none⟩)) rfl (by kernel_rfl) (by kernel_rfl) (by kernel_rfl) (fun _ _ _ h => h) (Or.inl ⟨by rfl, by intro W' hSw; go_simp⟩) hH ?_
      try simp only [Act.put, List.setIfInBounds_toArray, List.set_cons_zero, List.set_cons_succ]
      refine wpAnyH_take (i := 12) (v := .int .i64 sa) rfl (by kernel_rfl) (by kernel_rfl) (by kernel_rfl) (fun _ _ _ h => h) (Or.inl ⟨by rfl, by intro W' hSw; have hlt' := lt_of_block hSw.2.1; have hlt2 := lt_of_block hSw.2.2; obtain ⟨b0, b1, b2⟩ := cells3V hSw.2.2; have b3 := HT0.out W' hSw.2.1; have b4 := (HQ.out W' hSw.1).c0; go_simp⟩) hH ?_
      try simp only [Act.put, List.setIfInBounds_toArray, List.set_cons_zero, List.set_cons_succ]
      refine wpAnyH_take (i := 13) (v := .agg #[.int .i64 pq.id, .int .i64 ga, .int .i64 wa, .int .i64 sa]) rfl (by kernel_rfl) (by kernel_rfl) (by kernel_rfl) (fun _ _ _ h => h) (Or.inl ⟨by rfl, by intro W' hSw; go_simp⟩) hH ?_
      try simp only [Act.put, List.setIfInBounds_toArray, List.set_cons_zero, List.set_cons_succ]
      have f0 := HF.out.1
      have f1 := HF.out.2.1
      have f2 := HF.out.2.2.1
      have f3 := HF.out.2.2.2
      refine wpAnyH_ready (rs := [14]) (by decide +kernel) (by simp) (AllReadyH.cons rfl (fun K' hK => ?_) AllReadyH.nil)
      go_simp
      have hb5 : Below w.heap.size w (((((wr.setCell ⟨w.heap.size + 1, 0, none⟩ (.int .i64 pq.id)).setCell ⟨w.heap.size + 1, 1, none⟩ (.int .i64 ga)).setCell ⟨w.heap.size + 1, 2, none⟩ (.int .i64 wa)).setCell ⟨w.heap.size + 1, 3, none⟩ (.int .i64 sa))).drew := below_drewV ((((HB4.out.setCell (p := ⟨w.heap.size + 1, 0, none⟩) (Nat.le_succ _) (.int .i64 pq.id)).setCell (p := ⟨w.heap.size + 1, 1, none⟩) (Nat.le_succ _) (.int .i64 ga)).setCell (p := ⟨w.heap.size + 1, 2, none⟩) (Nat.le_succ _) (.int .i64 wa)).setCell (p := ⟨w.heap.size + 1, 3, none⟩) (Nat.le_succ _) (.int .i64 sa))
      have HB5 := Lib.hid hb5
      have HST := Lib.hid (cells4V (stored4 (a := .int .i64 pq.id) (b := .int .i64 ga) (c := .int .i64 wa) (d := .int .i64 sa) hx3))
      have hk5 : (((((wr.setCell ⟨w.heap.size + 1, 0, none⟩ (.int .i64 pq.id)).setCell ⟨w.heap.size + 1, 1, none⟩ (.int .i64 ga)).setCell ⟨w.heap.size + 1, 2, none⟩ (.int .i64 wa)).setCell ⟨w.heap.size + 1, 3, none⟩ (.int .i64 sa))).drew.heap[w.heap.size]? = some (.cells cs.toArray 81) := unstored4 (w := wr) HS4.out.2.1 (by omega)
      have hn5 : (((((wr.setCell ⟨w.heap.size + 1, 0, none⟩ (.int .i64 pq.id)).setCell ⟨w.heap.size + 1, 1, none⟩ (.int .i64 ga)).setCell ⟨w.heap.size + 1, 2, none⟩ (.int .i64 wa)).setCell ⟨w.heap.size + 1, 3, none⟩ (.int .i64 sa))).drew.heap[w1.heap.size + 1]? = some (.cells #[.int .i64 ga, .int .i64 wa, .int .i64 sa] 134) := unstored4 (w := wr) HS4.out.2.2 (by omega)
      refine hK.out _ _ ⟨hb5, hk5, hn5⟩ (fun _ => ?_)
      clear hK K' hb5 hk5 hn5 f0 f1 f2 f3 fz
      try simp only [Act.put, List.setIfInBounds_toArray, List.set_cons_zero, List.set_cons_succ]
      refine wpAnyH_done (by decide +kernel) ?_ _
      obtain ⟨g0, g1, g2, g3⟩ := HST.out
      go_wp2
      refine bodyPost_ret (by rw [results_cell rfl]; go_simp; try rfl) rfl ?_
      exact ⟨by rw [HV.out]; rfl, HB5.out⟩
end Go.Proofs.YtlpkafhapmkkfaaGreatDoor

/- Chapter 32's model: ServiceOf (written by gensvq.py). -/
namespace Go.Proofs.YtlpkafhapmkkfaaGreatDoor
open Go.RowKit
set_option linter.unusedVariables false
set_option linter.unusedSimpArgs false

theorem serviceP_some {ps : List Pth} {p : List Prt} {id : Int} {i : Nat} (h1 : isPlan ps p = true) (h2 : findK id ps = some i) : serviceP ps p id = (svcP ps p id, true) := serviceP_yes (by rw [h1, h2]; rfl)
set_option maxHeartbeats 4000000 in
theorem spec_ServiceOf (A : Option Addr) (n c B : Nat) (ps : List Pth) (A2 : Option Addr) (n2 c2 B2 : Nat) (p : List Prt) (id : Int) (w : World) (h : PthsAt w B A n ps) (hB : B ≤ w.heap.size) (hn : n ≤ 4294967296) (h2 : PrtsAt w B2 A2 n2 p) (hB2 : B2 ≤ w.heap.size) (hn2 : n2 ≤ 1048576) (hm : ∀ j, j < n2 → (prAt p j).stage.length ≤ 1048576) :
    Calls Tryz.prog 39 #[.slice A n c, .slice A2 n2 c2, .int .i64 id] w fun e w' => e = .returned (.tuple #[(serviceP ps p id).1.val, .bool (serviceP ps p id).2]) ∧ Below w.heap.size w w' := by
  have HIP := Lib.hid (fun x (hx : Below w.heap.size w x) => spec_IsPlan A n c B ps A2 n2 c2 B2 p x (h.below (hx.mono hB)) (Nat.le_trans hB hx.size) hn (h2.below hB2 hx) (Nat.le_trans hB2 hx.size) hn2 hm)
  have HCY := Lib.hid (fun x (hx : Below w.heap.size w x) => spec_Cycle A n c B ps A2 n2 c2 B2 p x (h.below (hx.mono hB)) (Nat.le_trans hB hx.size) hn (h2.below hB2 hx) (Nat.le_trans hB2 hx.size) hn2 hm)
  have HGR := Lib.hid (fun x (hx : Below w.heap.size w x) => spec_GreenOf A n c B ps A2 n2 c2 B2 p id x (h.below (hx.mono hB)) (Nat.le_trans hB hx.size) hn (h2.below hB2 hx) (Nat.le_trans hB2 hx.size) hn2 hm)
  have HWA := Lib.hid (fun x (hx : Below w.heap.size w x) => spec_WaitOf A n c B ps A2 n2 c2 B2 p id x (h.below (hx.mono hB)) (Nat.le_trans hB hx.size) hn (h2.below hB2 hx) (Nat.le_trans hB2 hx.size) hn2 hm)
  have HFP := Lib.hid (fun x (hx : Below w.heap.size w x) => spec_FindPath A n c B ps id x (h.below (hx.mono hB)) hn)
  obtain ⟨wA, hwA⟩ : ∃ wA, wA = w.alloc (.cells #[.int .i64 0, .int .i64 0, .int .i64 0, .int .i64 0] 63) := ⟨_, rfl⟩
  obtain ⟨hk, hsz, hbA⟩ := one_block hwA
  have HK := Lib.hid hk
  have HB0 := Lib.hid hbA
  have ltA : w.heap.size < wA.heap.size := by omega
  clear h h2 hm hk hbA hsz
  cases hp : isPlan ps p
  · have HR := Lib.hid (serviceP_no (ps := ps) (p := p) (id := id) (by rw [hp]; rfl))
    have HP := Lib.hid hp
    clear hp
    go_enter Tryz.func39, Tryz.ntmps39
    go_wp2_with fail
    rw [← hwA]
    clear hwA
    refine (HIP.out _ HB0.out).mono ?_
    rw [HP.out]
    rintro e w1 ⟨rfl, hb1⟩
    have HB1 := Lib.hid (HB0.out.trans (hb1.mono HB0.out.size))
    have HF := Lib.hid ((hb1.block _ ltA).trans HK.out)
    clear hb1
    have f := HF.out
    obtain ⟨f0, f1, f2, f3⟩ := cells4V f
    have fz : ∀ j, w1.frozen? ⟨w.heap.size, j, none⟩ = false := fun j => frozen_of_row _ _ j _ _ f
    have HST := Lib.hid (cells4V (stored4 (a := .int .i64 0) (b := .int .i64 0) (c := .int .i64 0) (d := .int .i64 0) f))
    have HB9 := Lib.hid ((((HB1.out.setCell (p := ⟨w.heap.size, 0, none⟩) (Nat.le_refl _) (.int .i64 0)).setCell (p := ⟨w.heap.size, 1, none⟩) (Nat.le_refl _) (.int .i64 0)).setCell (p := ⟨w.heap.size, 2, none⟩) (Nat.le_refl _) (.int .i64 0)).setCell (p := ⟨w.heap.size, 3, none⟩) (Nat.le_refl _) (.int .i64 0))
    clear f
    go_wp2
    obtain ⟨g0, g1, g2, g3⟩ := HST.out
    refine bodyPost_ret (by rw [results_cell_tmp rfl]; go_simp; try rfl) rfl ?_
    exact ⟨by rw [HR.out]; rfl, HB9.out⟩

  · have HP := Lib.hid hp
    clear hp
    cases hf : findK id ps
    · have HR := Lib.hid (serviceP_no (ps := ps) (p := p) (id := id) (by rw [HP.out, hf]; rfl))
      have HN := Lib.hid (find_negM hf)
      clear hf
      go_enter Tryz.func39, Tryz.ntmps39
      go_wp2_with fail
      rw [← hwA]
      clear hwA
      refine (HIP.out _ HB0.out).mono ?_
      rw [HP.out]
      rintro e w1 ⟨rfl, hb1⟩
      have HB1 := Lib.hid (HB0.out.trans (hb1.mono HB0.out.size))
      have HF := Lib.hid ((hb1.block _ ltA).trans HK.out)
      clear hb1
      go_wp2_with fail
      refine (HFP.out _ HB1.out).mono ?_
      rw [HN.out]
      rintro e w2 ⟨rfl, rfl⟩
      have f := HF.out
      obtain ⟨f0, f1, f2, f3⟩ := cells4V f
      have fz : ∀ j, w1.frozen? ⟨w.heap.size, j, none⟩ = false := fun j => frozen_of_row _ _ j _ _ f
      have HST := Lib.hid (cells4V (stored4 (a := .int .i64 0) (b := .int .i64 0) (c := .int .i64 0) (d := .int .i64 0) f))
      have HB9 := Lib.hid ((((HB1.out.setCell (p := ⟨w.heap.size, 0, none⟩) (Nat.le_refl _) (.int .i64 0)).setCell (p := ⟨w.heap.size, 1, none⟩) (Nat.le_refl _) (.int .i64 0)).setCell (p := ⟨w.heap.size, 2, none⟩) (Nat.le_refl _) (.int .i64 0)).setCell (p := ⟨w.heap.size, 3, none⟩) (Nat.le_refl _) (.int .i64 0))
      clear f
      go_wp2
      obtain ⟨g0, g1, g2, g3⟩ := HST.out
      refine bodyPost_ret (by rw [results_cell_tmp rfl]; go_simp; try rfl) rfl ?_
      exact ⟨by rw [HR.out]; rfl, HB9.out⟩

    · rename_i q
      have HR := Lib.hid (serviceP_some (p := p) HP.out hf)
      have HV : Hid (svcP ps p id = ⟨id, greenP ps p id, waitP ps p id, (100 * greenP ps p id).tdiv (cycleP ps p)⟩) := Lib.hid rfl
      have HN := Lib.hid (find_posM hf)
      have hcb := cycle_bound HP.out
      have hrl := rowP_len (ps := ps) (p := p) id
      have hgb : 0 ≤ greenP ps p id ∧ greenP ps p id ≤ 1000000 := by
        have e : greenP ps p id = grnTo (rowP ps p id) (rowP ps p id).length := by unfold greenP; rw [grnTo_all]
        have := grnTo_bound (rowP ps p id) (rowP ps p id).length
        rw [e]
        omega
      have iq : ¬ ((q : Int) < 0) := by omega
      clear hf hrl
      generalize greenP ps p id = g at *
      generalize waitP ps p id = wt at *
      generalize cycleP ps p = cy at *
      generalize svcP ps p id = sv at *
      have e2 : IntKind.i64.wrap (100 * g) = 100 * g := by rw [IntKind.wrap_i64]; omega
      have z1 : ¬ cy = 0 := by omega
      have e3 : IntKind.i64.wrap ((100 * g).tdiv cy) = (100 * g).tdiv cy := quo_wrapS ⟨by omega, by omega⟩ (by omega)
      go_enter Tryz.func39, Tryz.ntmps39
      go_wp2_with fail
      rw [← hwA]
      clear hwA
      refine (HIP.out _ HB0.out).mono ?_
      rw [HP.out]
      rintro e w1 ⟨rfl, hb1⟩
      have HB1 := Lib.hid (HB0.out.trans (hb1.mono HB0.out.size))
      have HF1 := Lib.hid ((hb1.block _ ltA).trans HK.out)
      clear hb1
      go_wp2_with fail
      refine (HFP.out _ HB1.out).mono ?_
      rw [HN.out]
      rintro e w2 ⟨rfl, rfl⟩
      go_wp2_with fail
      refine (HGR.out _ HB1.out).mono ?_
      rintro e w3 ⟨rfl, hb3⟩
      have HB3 := Lib.hid (HB1.out.trans (hb3.mono HB1.out.size))
      have HF3 := Lib.hid ((hb3.block _ (lt_of_block HF1.out)).trans HF1.out)
      clear hb3
      go_wp2_with fail
      refine (HWA.out _ HB3.out).mono ?_
      rintro e w4 ⟨rfl, hb4⟩
      have HB4 := Lib.hid (HB3.out.trans (hb4.mono HB3.out.size))
      have HF4 := Lib.hid ((hb4.block _ (lt_of_block HF3.out)).trans HF3.out)
      clear hb4
      go_wp2_with fail
      refine (HCY.out _ HB4.out).mono ?_
      rintro e w5 ⟨rfl, hb5⟩
      have HB5 := Lib.hid (HB4.out.trans (hb5.mono HB4.out.size))
      have HF := Lib.hid ((hb5.block _ (lt_of_block HF4.out)).trans HF4.out)
      clear hb5
      have f := HF.out
      obtain ⟨f0, f1, f2, f3⟩ := cells4V f
      have fz : ∀ j, w5.frozen? ⟨w.heap.size, j, none⟩ = false := fun j => frozen_of_row _ _ j _ _ f
      have HST := Lib.hid (cells4V (stored4 (a := .int .i64 id) (b := .int .i64 g) (c := .int .i64 wt) (d := .int .i64 ((100 * g).tdiv cy)) f))
      have HB9 := Lib.hid ((((HB5.out.setCell (p := ⟨w.heap.size, 0, none⟩) (Nat.le_refl _) (.int .i64 id)).setCell (p := ⟨w.heap.size, 1, none⟩) (Nat.le_refl _) (.int .i64 g)).setCell (p := ⟨w.heap.size, 2, none⟩) (Nat.le_refl _) (.int .i64 wt)).setCell (p := ⟨w.heap.size, 3, none⟩) (Nat.le_refl _) (.int .i64 ((100 * g).tdiv cy)))
      clear f
      go_wp2
      obtain ⟨g0, g1, g2, g3⟩ := HST.out
      refine bodyPost_ret (by rw [results_cell_tmp rfl]; go_simp; try rfl) rfl ?_
      exact ⟨by rw [HR.out, HV.out]; rfl, HB9.out⟩

end Go.Proofs.YtlpkafhapmkkfaaGreatDoor

/- Chapter 32: AllServices: the program and the model (written by gensva.py). -/
namespace Go.Proofs.YtlpkafhapmkkfaaGreatDoor
open Go.RowKit
set_option linter.unusedVariables false
set_option linter.unusedSimpArgs false

theorem allSvc_get {ps : List Pth} {p : List Prt} (hp : isPlan ps p = true) {k : Nat} {x : Pth} (h : ps[k]? = some x) : (allSvc ps p)[k]? = some (svcP ps p x.id) := by rw [allSvc_yes hp, List.getElem?_map, h]; rfl
set_option maxHeartbeats 2000000 in
set_option maxRecDepth 100000 in
theorem impl_listSvc (tv : Value) (vs : List Svc) (n : Nat) (w : World) (hl : vs.length = n) (hn : n ≤ 1048576)
    (HS : ∀ (k : Nat) (q : Svc) (y : World), vs[k]? = some q → Below w.heap.size w y → Calls Tryz.prog 44 #[tv, .int .i64 (k : Nat)] y fun e w' => e = .returned (.agg #[.int .i64 q.path, .int .i64 q.green, .int .i64 q.wait, .int .i64 q.share]) ∧ Below y.heap.size y w') :
    Calls Tryz.prog 43 #[.int .i64 n, .func (.func 44) #[tv] #[]] w fun e w' => ∃ v, e = .returned v ∧ w'.ownsRow w.heap.size 63 4 v n (svccells vs) ∧ Below w.heap.size w w' := by
  have HSS := Lib.hid HS
  have HLL := Lib.hid hl
  clear HS hl
  go_enter Tryz.func43, Tryz.ntmps43
  go_wp2_with ((with_reducible show wpList _ _ _ _ _ _); refine wpList_mkR rfl _ _ _ rfl 63 _ 4 _ Tryz.underlying26 info_svc (by decide) (n : Int) (n : Int) n rfl rfl rfl rfl (by omega) ?_; intro w1 hown hgrow)
  go_loopw [11] (fun i wr => ∃ k : Nat, k ≤ n ∧ i = .int .i64 k ∧ wr.ownsRow w.heap.size 63 4 (.slice (some ⟨w.heap.size, 0, none⟩) n n) n (svccells (vs.take k) ++ (svccells (List.replicate n ⟨0, 0, 0, 0⟩)).drop (k * 4)) ∧ Below w.heap.size w wr) (fun i _ => n - (intOf i).toNat)
  case atStart => exact ⟨0, Nat.zero_le _, rfl, by rw [made_svc] at hown; simpa [svccells] using hown, below_grown hgrow⟩
  case round =>
    obtain ⟨k, hk, rfl, hown, hbl⟩ := hrel
    by_cases hlt : k < n
    · obtain ⟨q, hq⟩ : ∃ q, vs[k]? = some q := ⟨vs[k]'(by have := HLL.out; omega), List.getElem?_eq_getElem (by have := HLL.out; omega)⟩
      have hcc := HSS.out k q wr hq hbl
      have i1 : (0 : Int) ≤ (k : Int) := by omega
      have i2 : (k : Int) < (n : Int) := by omega
      go_wp2_with fail
      refine hcc.mono ?_
      rintro e w2 ⟨rfl, hb2⟩
      have hown2 := ownr_below hown hb2
      obtain ⟨x0, hx0⟩ := ownr_some hown2 (j := k * 4) (by omega)
      obtain ⟨x1, hx1⟩ := ownr_some hown2 (j := k * 4 + 1) (by omega)
      obtain ⟨x2, hx2⟩ := ownr_some hown2 (j := k * 4 + 2) (by omega)
      obtain ⟨x3, hx3⟩ := ownr_some hown2 (j := k * 4 + 3) (by omega)
      have f0 := World.ownsRow.frozenAt hown2
      have hst := (World.ownsRow.stored (World.ownsRow.stored (World.ownsRow.stored (World.ownsRow.stored hown2 (k * 4) (.int .i64 q.path)).1 (k * 4 + 1) (.int .i64 q.green)).1 (k * 4 + 2) (.int .i64 q.wait)).1 (k * 4 + 3) (.int .i64 q.share)).1
      have hput := svccells_put (zs := svccells (List.replicate n ⟨0, 0, 0, 0⟩)) hq (by rw [svccells_length, List.length_replicate]; omega)
      rw [hput] at hst
      have HS := Lib.hid hst
      have HB := Lib.hid (hbl.trans (hb2.mono hbl.size))
      clear hown hown2 hbl hb2 hst hput hcc hq
      go_wp2
      go_roundw
      case rel => exact ⟨k + 1, by omega, by go_num, HS.out, (((HB.out.setCell (Nat.le_refl _) _).setCell (Nat.le_refl _) _).setCell (Nat.le_refl _) _).setCell (Nat.le_refl _) _⟩
      case measure => simp [intOf]; omega
    · obtain rfl : k = n := by omega
      have HO : Hid (wr.ownsRow w.heap.size 63 4 (.slice (some ⟨w.heap.size, 0, none⟩) k k) k (svccells vs)) := Lib.hid (by
        rw [List.take_of_length_le (by have := HLL.out; omega), List.drop_of_length_le (by rw [svccells_length, List.length_replicate]; exact Nat.le_refl _), List.append_nil] at hown
        exact hown)
      clear hown
      go_wp2
      go_ret
      exact ⟨_, rfl, HO.out, hbl⟩
theorem impl_timeSvc {w : World} {A : Option Addr} {n c B : Nat} {ps : List Pth} {A2 : Option Addr} {n2 c2 B2 : Nat} {p : List Prt} (I : PlnIn w A n c B ps A2 n2 c2 B2 p) (hn : n ≤ 1048576) :
    Calls Tryz.prog 42 #[.slice A n c, .slice A2 n2 c2] w fun e w1 => ∃ (A' : Option Addr) (n' c' : Nat) (st : Nat → Nat) (b1 : Option Addr) (m1 k1 : Nat) (b2 : Option Addr) (m2 k2 : Nat) (tot : Int) (b : Bool), e = .returned (.tuple #[.agg (t16 A' n' c' st (.slice b1 m1 k1) (.slice b2 m2 k2) tot), .bool b]) ∧ (allSvc ps p).length = n' ∧ n' ≤ 1048576 ∧ Below w.heap.size w w1 ∧ (∀ (k : Nat) (q : Svc) (y : World), (allSvc ps p)[k]? = some q → Below w1.heap.size w1 y → Calls Tryz.prog 44 #[.agg (t16 A' n' c' st (.slice b1 m1 k1) (.slice b2 m2 k2) tot), .int .i64 (k : Nat)] y fun e w' => e = .returned (.agg #[.int .i64 q.path, .int .i64 q.green, .int .i64 q.wait, .int .i64 q.share]) ∧ Below y.heap.size y w') := by
  cases hp : isPlan ps p
  · refine (impl_timePlan_off I hp).mono ?_
    rintro e w1 ⟨rfl, hb⟩
    refine ⟨_, _, _, _, _, _, _, _, _, _, _, _, rfl, by rw [allSvc_no hp]; rfl, Nat.zero_le _, hb, fun k q y hq hy => ?_⟩
    rw [allSvc_no hp] at hq
    simp at hq
  · refine (impl_timePlan_on I hp).mono ?_
    rintro e w1 ⟨a1, q1, a2, q2, rfl, hphs, hb⟩
    refine ⟨_, _, _, _, _, _, _, _, _, _, _, _, rfl, by rw [allSvc_yes hp, List.length_map]; exact I.lenp, hn, hb, fun k q y hq hy => ?_⟩
    have hk : k < n := by
      have := (List.getElem?_eq_some_iff.1 hq).1
      rw [allSvc_yes hp, List.length_map] at this
      have := I.lenp
      omega
    obtain ⟨x, hx⟩ : ∃ x, ps[k]? = some x := ⟨ps[k]'(by have := I.lenp; omega), List.getElem?_eq_getElem (by have := I.lenp; omega)⟩
    rw [allSvc_get hp hx] at hq
    injection hq with hq
    subst hq
    have e : idAt ps k = x.id := by unfold idAt; rw [pAt_some hx]
    have h := impl_service ((I.below hb).below (hy.mono (Nat.le_refl _))) hp (hphs.below hy) k hk
    rw [e] at h
    exact h
set_option maxHeartbeats 2000000 in
set_option maxRecDepth 100000 in
theorem impl_AllServices {w : World} {A : Option Addr} {n c B : Nat} {ps : List Pth} {A2 : Option Addr} {n2 c2 B2 : Nat} {p : List Prt} (I : PlnIn w A n c B ps A2 n2 c2 B2 p) (hn : n ≤ 1048576) :
    Calls Tryz.prog 13 #[.slice A n c, .slice A2 n2 c2] w fun e w' => ∃ v, e = .returned v ∧ w'.ownsRow w.heap.size 63 4 v (allSvc ps p).length (svccells (allSvc ps p)) ∧ Below w.heap.size w w' := by
  have HT := Lib.hid (impl_timeSvc I hn)
  clear I
  generalize allSvc ps p = vs at *
  unfold t16 at HT
  go_enter Tryz.func13, Tryz.ntmps13
  go_wp2_with fail
  refine HT.out.mono ?_
  rintro e w1 ⟨A', n', c', st, b1, m1, k1, b2, m2, k2, tot, b, rfl, hl, hn', hb, HS⟩
  obtain ⟨w2, hw2⟩ : ∃ w2, w2 = w1.alloc (.cells (t16 A' n' c' st (.slice b1 m1 k1) (.slice b2 m2 k2) tot) 81) := ⟨_, rfl⟩
  have hb12 : Below w1.heap.size w1 w2 := by rw [hw2]; exact (Below.refl _ _).alloc (Nat.le_refl _) _
  have HB2 := Lib.hid (hb.trans (hb12.mono hb.size))
  have HLS := Lib.hid (impl_listSvc (.agg (t16 A' n' c' st (.slice b1 m1 k1) (.slice b2 m2 k2) tot)) vs n' w2 hl hn' (fun k q y hq hy => HS k q y hq (hb12.trans (hy.mono hb12.size))))
  unfold t16 at HLS hw2
  have HLN := Lib.hid hl
  clear hb hb12 HS HT hl
  go_wp2_with fail
  rw [← hw2]
  clear hw2
  refine HLS.out.mono ?_
  rintro e w3 ⟨v, rfl, ho, hb3⟩
  have HO := Lib.hid (show w3.ownsRow w.heap.size 63 4 v n' (svccells vs) from ownr_mono ho HB2.out.size)
  have HB3 := Lib.hid (HB2.out.trans (hb3.mono HB2.out.size))
  clear ho hb3
  go_wp2
  go_ret
  exact ⟨_, rfl, by rw [HLN.out]; exact HO.out, HB3.out⟩
theorem findK_has : ∀ {ps : List Pth} {k : Nat} {q : Pth}, ps[k]? = some q → ∃ i, findK q.id ps = some i
  | [], k, q, h => by simp at h
  | p :: ps, k, q, h => by
    unfold findK
    by_cases e : p.id = q.id
    · exact ⟨0, by rw [if_pos e]⟩
    · cases k with
      | zero => simp at h; exact absurd (by rw [h]) e
      | succ k =>
        obtain ⟨i, hi⟩ := findK_has (ps := ps) (k := k) (q := q) (by simpa using h)
        exact ⟨i + 1, by rw [if_neg e, hi]; rfl⟩
set_option maxHeartbeats 4000000 in
set_option maxRecDepth 100000 in
theorem spec_AllServices (A : Option Addr) (n c B : Nat) (ps : List Pth) (A2 : Option Addr) (n2 c2 B2 : Nat) (p : List Prt) (w : World) (h : PthsAt w B A n ps) (hB : B ≤ w.heap.size) (hn : n ≤ 1048576) (h2 : PrtsAt w B2 A2 n2 p) (hB2 : B2 ≤ w.heap.size) (hn2 : n2 ≤ 1048576) (hm : ∀ j, j < n2 → (prAt p j).stage.length ≤ 1048576) :
    Calls Tryz.prog 10 #[.slice A n c, .slice A2 n2 c2] w fun e w' => ∃ v, e = .returned v ∧ w'.ownsRow w.heap.size 63 4 v (allSvc ps p).length (svccells (allSvc ps p)) ∧ Below w.heap.size w w' := by
  have hl := h.1
  have HIP := Lib.hid (fun x (hx : Below w.heap.size w x) => spec_IsPlan A n c B ps A2 n2 c2 B2 p x (h.below (hx.mono hB)) (Nat.le_trans hB hx.size) (by omega) (h2.below hB2 hx) (Nat.le_trans hB2 hx.size) hn2 hm)
  have HSO := Lib.hid (fun (id : Int) x (hx : Below w.heap.size w x) => spec_ServiceOf A n c B ps A2 n2 c2 B2 p id x (h.below (hx.mono hB)) (Nat.le_trans hB hx.size) (by omega) (h2.below hB2 hx) (Nat.le_trans hB2 hx.size) hn2 hm)
  have HH := Lib.hid h
  have HL := Lib.hid hl
  have hrow0 : (w.alloc (.cells #[] 63)).ownsRow w.heap.size 63 4 (.slice (some ⟨w.heap.size, 0, none⟩) 0 0) 0 [] := ⟨rfl, .inr ⟨w.heap.size, 0, #[], rfl, Nat.le_refl _, heap_alloc_new w _, Nat.le_refl _, by decide, rfl, rfl⟩⟩
  have hb0 : Below w.heap.size w (w.alloc (.cells #[] 63)) := (Below.refl _ _).alloc (Nat.le_refl _) _
  clear h h2 hm hl
  cases hp : isPlan ps p
  · have HV := Lib.hid (allSvc_no hp)
    have HP := Lib.hid hp
    have HR := Lib.hid hrow0
    have HB := Lib.hid hb0
    obtain ⟨wA, hwA⟩ : ∃ wA, wA = w.alloc (.cells #[] 63) := ⟨_, rfl⟩
    rw [← hwA] at HR HB
    clear hp hrow0 hb0
    go_enter Tryz.func10, Tryz.ntmps10
    go_wp2
    rw [← hwA]
    clear hwA
    go_loopw [5, 6] (fun v i wr => v = .slice (some ⟨w.heap.size, 0, none⟩) 0 0 ∧ i = .int .i64 0 ∧ wr = wA) (fun _ _ _ => 0)
    case atStart => exact ⟨rfl, rfl, rfl⟩
    case round =>
      obtain ⟨rfl, rfl, rfl⟩ := hrel
      by_cases h0 : 0 < n
      · have i1 : (0 : Int) < (n : Int) := by omega
        go_wp2_with fail
        refine (HIP.out _ HB.out).mono ?_
        rw [HP.out]
        rintro e w1 ⟨rfl, hb1⟩
        have HO := Lib.hid (ownr_below HR.out hb1)
        have HB1 := Lib.hid (HB.out.trans (hb1.mono HB.out.size))
        clear hb1
        go_wp2
        go_ret
        exact ⟨_, rfl, by rw [HV.out]; exact HO.out, HB1.out⟩
      · obtain rfl : n = 0 := by omega
        go_wp2
        go_ret
        exact ⟨_, rfl, by rw [HV.out]; exact HR.out, HB.out⟩
  · have HA := Lib.hid (fun (k : Nat) (x : Pth) (hx : ps[k]? = some x) => allSvc_get hp hx)
    have HSV := Lib.hid (fun (k : Nat) (x : Pth) (hx : ps[k]? = some x) => serviceP_some (p := p) hp (findK_has hx).choose_spec)
    have HLN : Hid ((allSvc ps p).length = n) := Lib.hid (by rw [allSvc_yes hp, List.length_map]; exact HL.out)
    have HP := Lib.hid hp
    clear hp
    go_enter Tryz.func10, Tryz.ntmps10
    go_wp2
    go_loopw [5, 6] (fun v i wr => ∃ k : Nat, k ≤ n ∧ i = .int .i64 k ∧ wr.ownsRow w.heap.size 63 4 v k (svccells ((allSvc ps p).take k)) ∧ Below w.heap.size w wr) (fun _ i _ => n - (intOf i).toNat)
    case atStart => exact ⟨0, Nat.zero_le _, rfl, hrow0, hb0⟩
    case round =>
      clear hrow0 hb0
      obtain ⟨k, hk, rfl, hrow, hbl⟩ := hrel
      have HROW := Lib.hid hrow
      have HBL := Lib.hid hbl
      clear hrow hbl
      by_cases hlt : k < n
      · obtain ⟨ad, q, rfl, hab, hq, hc⟩ := HH.out.at hlt
        have HQ := Lib.hid hq
        have HC := Lib.hid hc
        have i1 : (0 : Int) ≤ (k : Int) := by omega
        have i2 : (k : Int) < (n : Int) := by omega
        clear hq hc
        go_wp2_with fail
        refine (HIP.out _ HBL.out).mono ?_
        rw [HP.out]
        rintro e w1 ⟨rfl, hb1⟩
        have HB1 := Lib.hid (HBL.out.trans (hb1.mono HBL.out.size))
        have HR1 := Lib.hid (ownr_below HROW.out hb1)
        obtain ⟨c0, c1, c2, c3⟩ := HC.out.below HB1.out (by omega)
        clear hb1 c1 c2 c3
        go_wp2_with fail
        refine (HSO.out q.id _ HB1.out).mono ?_
        rw [HSV.out k q HQ.out]
        simp only [svcP, Svc.val]
        rintro e w2 ⟨rfl, hb2⟩
        have HT : Hid (svccells ((allSvc ps p).take (k + 1)) = svccells ((allSvc ps p).take k) ++ [.int .i64 q.id, .int .i64 (greenP ps p q.id), .int .i64 (waitP ps p q.id), .int .i64 ((100 * greenP ps p q.id).tdiv (cycleP ps p))]) := Lib.hid (svccells_take (HA.out k q HQ.out))
        generalize greenP ps p q.id = g at *
        generalize waitP ps p q.id = wt at *
        generalize (100 * g).tdiv (cycleP ps p) = sh at *
        obtain ⟨w3, hw3⟩ : ∃ w3, w3 = w2.alloc (.cells #[.int .i64 q.id, .int .i64 g, .int .i64 wt, .int .i64 sh] 63) := ⟨_, rfl⟩
        have hb23 : Below w2.heap.size w2 w3 := by rw [hw3]; exact (Below.refl _ _).alloc (Nat.le_refl _) _
        have HR3 := Lib.hid (ownr_below (ownr_below HR1.out hb2) hb23)
        have HB3 := Lib.hid ((HB1.out.trans (hb2.mono HB1.out.size)).trans (hb23.mono (Nat.le_trans HB1.out.size hb2.size)))
        have hs3 := HB3.out.size
        clear hb2 hb23 c0
        have HZ3 : Hid (w3.heap.size = w2.heap.size + 1) := Lib.hid (by rw [hw3]; simp)
        have hrow := HR3.out
        go_wp2_with (at_builtin; rw [← hw3, ← HZ3.out]; refine wpList_appR1 rfl _ _ 26 rfl 63 _ 4 32 Tryz.underlying26 info_svc rfl (by decide) (by decide) w.heap.size _ _ _ rfl hrow (by omega) [.int .i64 q.id, .int .i64 g, .int .i64 wt, .int .i64 sh] rfl (by simp [Value.oneCell']) _ _ w3.heap.size hs3 rfl (by simp) ?_; intro v3 w4 hr3 hgrow3 hat3; clear hat3; have HGG := Lib.hid hgrow3; clear hgrow3)
        have HP4 := Lib.hid (ownr_push hrow (Nat.le_refl _) (HB3.out.alloc hs3 _) (by simp; omega) HGG.out)
        clear hrow
        go_roundw
        case rel => exact ⟨k + 1, by omega, by go_num, by rw [HT.out]; exact hr3, HP4.out⟩
        case measure => simp [intOf]; omega
      · obtain rfl : k = n := by omega
        have HO : Hid (wr.ownsRow w.heap.size 63 4 u5 (allSvc ps p).length (svccells (allSvc ps p))) := Lib.hid (by
          have hr := HROW.out
          rw [List.take_of_length_le (by rw [HLN.out]; omega)] at hr
          rw [HLN.out]
          exact hr)
        have HBE := HBL
        go_wp2
        go_ret
        exact ⟨_, rfl, HO.out, HBE.out⟩
end Go.Proofs.YtlpkafhapmkkfaaGreatDoor

/- Chapter 32: ShareOfKind: the program and the model. -/
namespace Go.Proofs.YtlpkafhapmkkfaaGreatDoor
open Go.RowKit
set_option linter.unusedVariables false
set_option linter.unusedSimpArgs false

/-- the shares of a kind's paths, of the first k. -/
def shTo (ps : List Pth) (vs : List Svc) (kd : Int) : Nat → List Int
  | 0 => []
  | k + 1 => if (pAt ps k).kind = kd then shTo ps vs kd k ++ [(vs.getD k ⟨0, 0, 0, 0⟩).share] else shTo ps vs kd k
theorem shTo_yes {ps : List Pth} {vs : List Svc} {kd : Int} {k : Nat} {q : Svc} (h : (pAt ps k).kind = kd) (hq : vs[k]? = some q) : shTo ps vs kd (k + 1) = shTo ps vs kd k ++ [q.share] := by
  conv => lhs; unfold shTo
  rw [if_pos h]
  simp [List.getD, hq]
theorem shTo_no {ps : List Pth} {vs : List Svc} {kd : Int} {k : Nat} (h : ¬ (pAt ps k).kind = kd) : shTo ps vs kd (k + 1) = shTo ps vs kd k := by
  conv => lhs; unfold shTo
  rw [if_neg h]
theorem shTo_len (ps : List Pth) (vs : List Svc) (kd : Int) : ∀ k, (shTo ps vs kd k).length ≤ k
  | 0 => Nat.le_refl _
  | k + 1 => by
    have := shTo_len ps vs kd k
    unfold shTo
    split
    · rw [List.length_append, List.length_singleton]; omega
    · omega
theorem shTo_mem {ps : List Pth} {vs : List Svc} {kd : Int} (h : ∀ q ∈ vs, 0 ≤ q.share ∧ q.share ≤ 100000000) : ∀ k, ∀ z ∈ shTo ps vs kd k, 0 ≤ z ∧ z ≤ 100000000
  | 0 => by intro z hz; cases hz
  | k + 1 => by
    intro z hz
    unfold shTo at hz
    split at hz
    · rcases List.mem_append.1 hz with hz | hz
      · exact shTo_mem h k z hz
      · rw [List.mem_singleton] at hz
        subst hz
        rw [List.getD_eq_getElem?_getD]
        cases e : vs[k]? with
        | none => simp
        | some q => exact h q (List.mem_of_getElem? e)
    · exact shTo_mem h k z hz
theorem sum_bd {zs : List Int} (h : ∀ z ∈ zs, 0 ≤ z ∧ z ≤ 100000000) : 0 ≤ zs.sum ∧ zs.sum ≤ 100000000 * zs.length := by
  induction zs with
  | nil => simp
  | cons z zs ih =>
    have h1 := h z (by simp)
    have h2 := ih fun x hx => h x (by simp [hx])
    rw [List.sum_cons, List.length_cons]
    omega
theorem sum_takeS {zs : List Int} {k : Nat} {z : Int} (h : zs[k]? = some z) : (zs.take (k + 1)).sum = (zs.take k).sum + z := by
  rw [List.take_add_one, h, List.sum_append]
  simp
/-- what ShareOfKind answers. -/
def shareK (ps : List Pth) (p : List Prt) (kd : Int) : Int :=
  if (shTo ps (allSvc ps p) kd (allSvc ps p).length).length = 0 then 0 else (shTo ps (allSvc ps p) kd (allSvc ps p).length).sum.tdiv (shTo ps (allSvc ps p) kd (allSvc ps p).length).length
theorem svc_share (ps : List Pth) (p : List Prt) : ∀ q ∈ allSvc ps p, 0 ≤ q.share ∧ q.share ≤ 100000000 := by
  intro q hq
  cases hp : isPlan ps p
  · rw [allSvc_no hp] at hq; cases hq
  · rw [allSvc_yes hp] at hq
    obtain ⟨x, -, rfl⟩ := List.mem_map.1 hq
    simp only [svcP]
    have hcb := cycle_bound hp
    have hrl := rowP_len (ps := ps) (p := p) x.id
    have hgb : 0 ≤ greenP ps p x.id ∧ greenP ps p x.id ≤ 1000000 := by
      have e : greenP ps p x.id = grnTo (rowP ps p x.id) (rowP ps p x.id).length := by unfold greenP; rw [grnTo_all]
      have := grnTo_bound (rowP ps p x.id) (rowP ps p x.id).length
      rw [e]
      omega
    rw [Int.tdiv_eq_ediv_of_nonneg (by omega)]
    have h1 := Int.ediv_nonneg (a := 100 * greenP ps p x.id) (b := cycleP ps p) (by omega) (by omega)
    have h2 := Int.ediv_le_self (a := 100 * greenP ps p x.id) (cycleP ps p) (by omega)
    omega
theorem quo_wrapK {a b : Int} (h1 : 0 ≤ a ∧ a ≤ 1000000000000000) (h2 : 0 < b) : IntKind.i64.wrap (a.tdiv b) = a.tdiv b := by
  rw [Int.tdiv_eq_ediv_of_nonneg h1.1, IntKind.wrap_i64]
  have := Int.ediv_nonneg h1.1 (by omega : 0 ≤ b)
  have := Int.ediv_le_self b h1.1
  omega
set_option maxHeartbeats 1000000 in
theorem impl_sum (A : Option Addr) (n c B : Nat) (zs : List Int) (w : World) (h : IntsAt .i64 w B A n zs) (hn : n ≤ 1048576) (hz : ∀ z ∈ zs, 0 ≤ z ∧ z ≤ 100000000) :
    Calls Tryz.prog 49 #[.slice A n c] w fun e w' => e = .returned (.int .i64 zs.sum) ∧ w = w' := by
  have HL := Lib.hid h.1
  have HH := Lib.hid h
  have HZ := Lib.hid hz
  clear h hz
  go_enter Tryz.func49, Tryz.ntmps49
  go_wp2
  go_loop [3, 8] (fun t i => ∃ k : Nat, k ≤ n ∧ i = .int .i64 k ∧ t = .int .i64 (zs.take k).sum) (fun _ i => n - (intOf i).toNat)
  case atStart => exact ⟨0, Nat.zero_le _, rfl, by simp⟩
  case round =>
    obtain ⟨k, hk, rfl, rfl⟩ := hrel
    by_cases hlt : k < n
    · obtain ⟨ad, rfl, hab, hc⟩ := HH.out.2 (by omega)
      have cz := hc k hlt
      have hzk : zs[k]? = some (zs.getD k 0) := by rw [List.getD_eq_getElem?_getD, List.getElem?_eq_getElem (by have := HL.out; omega)]; rfl
      have hzb := HZ.out _ (List.mem_of_getElem? hzk)
      have hsb := sum_bd (zs := zs.take k) fun z hz => HZ.out z (List.mem_of_mem_take hz)
      have htl : (zs.take k).length ≤ k := List.length_take_le _ _
      have HS := Lib.hid (sum_takeS hzk)
      generalize zs.getD k 0 = z at *
      generalize (zs.take k).sum = s at *
      have i1 : (0 : Int) ≤ (k : Int) := by omega
      have i2 : (k : Int) < (n : Int) := by omega
      have b1 : 0 ≤ s + z := by omega
      have b2 : s + z ≤ 1000000000000000 := by omega
      clear hc hzk hzb hsb htl
      go_wp2
      go_round
      case rel => exact ⟨k + 1, by omega, by go_num, by rw [HS.out]⟩
      case measure => simp [intOf]; omega
    · obtain rfl : k = n := by omega
      go_wp2
      go_ret
      exact ⟨by rw [List.take_of_length_le (by have := HL.out; omega)]; rfl, rfl⟩
set_option maxHeartbeats 4000000 in
set_option maxRecDepth 100000 in
theorem impl_ShareOfKind {w : World} {A : Option Addr} {n c B : Nat} {ps : List Pth} {A2 : Option Addr} {n2 c2 B2 : Nat} {p : List Prt} (I : PlnIn w A n c B ps A2 n2 c2 B2 p) (hn : n ≤ 1048576) (kd : Int) :
    Calls Tryz.prog 22 #[.slice A n c, .slice A2 n2 c2, .int .i64 kd] w fun e w' => e = .returned (.int .i64 (shareK ps p kd)) ∧ Below w.heap.size w w' := by
  have HAS := Lib.hid (impl_AllServices I hn)
  have HPT := Lib.hid (fun x (hx : Below w.heap.size w x) => I.h.below (hx.mono I.hB))
  have hlen : (allSvc ps p).length ≤ n := by rw [← I.lenp]; exact allSvc_len ps p
  have hsh := shTo_mem (ps := ps) (kd := kd) (svc_share ps p)
  have hB := I.hB
  have HSHR : Hid (shareK ps p kd = if (shTo ps (allSvc ps p) kd (allSvc ps p).length).length = 0 then 0 else (shTo ps (allSvc ps p) kd (allSvc ps p).length).sum.tdiv (shTo ps (allSvc ps p) kd (allSvc ps p).length).length) := Lib.hid rfl
  clear I
  generalize allSvc ps p = vs at *
  obtain ⟨m, hm⟩ : ∃ m, m = vs.length := ⟨_, rfl⟩
  rw [← hm] at HAS hlen HSHR
  have HM := Lib.hid hm
  have HSH := Lib.hid hsh
  clear hm hsh
  go_enter Tryz.func22, Tryz.ntmps22
  go_wp2_with fail
  refine HAS.out.mono ?_
  rintro e w1 ⟨v, rfl, ho, hb1⟩
  obtain ⟨A1, c1, rfl⟩ := ownr_sliced ho
  have HSV : Hid (SvcsAt w1 w1.heap.size A1 m vs) := Lib.hid (OwSvc.new (by rw [← HM.out]; exact ho)).ints
  have HB1 := Lib.hid hb1
  clear ho hb1
  go_wp2
  go_loopw [7, 14] (fun v i wr => ∃ k : Nat, k ≤ m ∧ i = .int .i64 k ∧ Own .i64 3 wr w1.heap.size v (shTo ps vs kd k) ∧ Below w1.heap.size w1 wr) (fun _ i _ => m - (intOf i).toNat)
  case atStart => exact ⟨0, Nat.zero_le _, rfl, own_nil _ _ _ _, Below.refl _ _⟩
  case round =>
    obtain ⟨k, hk, rfl, hown, hbl⟩ := hrel
    have HO := Lib.hid hown
    have HBL := Lib.hid hbl
    have hs1 := hbl.size
    clear hown hbl
    by_cases hlt : k < m
    · obtain ⟨ad, q, rfl, hab, hq, hc⟩ := (HSV.out.below HBL.out).at hlt
      obtain ⟨s0, s1, s2, s3⟩ := hc
      obtain ⟨ad2, p2, rfl, hab2, hp2, hc2⟩ := (HPT.out wr (HB1.out.trans (HBL.out.mono HB1.out.size))).at (show k < n by omega)
      obtain ⟨c0, c1, c2, c3⟩ := hc2
      have hpa : pAt ps k = p2 := pAt_some hp2
      have HPA := Lib.hid hpa
      have HQ := Lib.hid hq
      have i1 : (0 : Int) ≤ (k : Int) := by omega
      have i2 : (k : Int) < (n : Int) := by omega
      have i3 : (k : Int) < (m : Int) := by omega
      have hshl := shTo_len ps vs kd k
      have la : (ad.add (k * 4)).block < wr.heap.size := by omega
      have la2 : (ad2.add (k * 4)).block < wr.heap.size := by have := HB1.out.size; omega
      clear hq hp2 hpa hab hab2
      by_cases hkd : p2.kind = kd
      · have HY := Lib.hid (shTo_yes (ps := ps) (vs := vs) (kd := kd) (k := k) (by rw [HPA.out]; exact hkd) HQ.out)
        have e1 : (p2.kind == kd) = true := by simp [hkd]
        clear hkd
        go_wp2_with (at_builtin; refine wpList_app1 rfl _ _ 58 rfl .i64 3 8 Tryz.underlying58 info_i64 w1.heap.size _ (shTo ps vs kd k) rfl (HO.out.alloc _) (by decide) (by omega) _ _ _ (wr.heap.size + 1) (by omega) rfl (by simp) ?_; intro v4 w4 hown4 hgrow4 hat4; clear hat4; have HGG := Lib.hid hgrow4; have HO4 := Lib.hid hown4; clear hgrow4 hown4)
        go_roundw
        case rel => exact ⟨k + 1, by omega, by go_num, by rw [HY.out]; exact HO4.out, HO.out.push (Nat.le_refl _) ((HBL.out.alloc hs1 _).alloc (by simp; omega) _) (by simp; omega) HGG.out⟩
        case measure => simp [intOf]; omega
      · have HY := Lib.hid (shTo_no (ps := ps) (vs := vs) (kd := kd) (k := k) (by rw [HPA.out]; exact hkd))
        have e1 : (p2.kind == kd) = false := by simpa using hkd
        clear hkd
        go_wp2
        go_roundw
        case rel => exact ⟨k + 1, by omega, by go_num, by rw [HY.out]; exact HO.out.alloc _, HBL.out.alloc hs1 _⟩
        case measure => simp [intOf]; omega
    · obtain rfl : k = m := by omega
      have HZ := Lib.hid (HSH.out k)
      have hshl := shTo_len ps vs kd k
      obtain ⟨A4, c4, rfl⟩ := HO.out.sliced
      have HIS := Lib.hid HO.out.ints
      have HBE := Lib.hid (HB1.out.trans (HBL.out.mono HB1.out.size))
      generalize shTo ps vs kd k = L at *
      obtain ⟨nn, hnn⟩ : ∃ nn, nn = L.length := ⟨_, rfl⟩
      rw [← hnn] at hshl HIS HSHR
      have HNN := Lib.hid hnn
      by_cases h0 : nn = 0
      · have HV : Hid (shareK ps p kd = 0) := Lib.hid (by rw [HSHR.out, if_pos h0])
        rw [← hnn]
        subst h0
        clear hnn
        go_wp2
        go_ret
        exact ⟨by rw [HV.out]; rfl, HBE.out⟩
      · have HV : Hid (shareK ps p kd = L.sum.tdiv nn) := Lib.hid (by rw [HSHR.out, if_neg h0])
        have hsb := sum_bd HZ.out
        rw [← hnn] at hsb ⊢
        clear hnn
        have h1 : ¬ (nn : Int) = 0 := by omega
        have e3 : IntKind.i64.wrap (L.sum.tdiv (nn : Int)) = L.sum.tdiv (nn : Int) := quo_wrapK ⟨by omega, by omega⟩ (by omega)
        have hcc := Lib.hid (impl_sum A4 nn c4 _ L wr HIS.out (by omega) HZ.out)
        go_wp2_with fail
        refine hcc.out.mono ?_
        rintro e w5 ⟨rfl, rfl⟩
        generalize L.sum = s at *
        go_wp2
        go_ret
        exact ⟨by rw [HV.out]; rfl, HBE.out⟩
set_option maxHeartbeats 4000000 in
set_option maxRecDepth 100000 in
theorem spec_ShareOfKind (A : Option Addr) (n c B : Nat) (ps : List Pth) (A2 : Option Addr) (n2 c2 B2 : Nat) (p : List Prt) (kd : Int) (w : World) (h : PthsAt w B A n ps) (hB : B ≤ w.heap.size) (hn : n ≤ 1048576) (h2 : PrtsAt w B2 A2 n2 p) (hB2 : B2 ≤ w.heap.size) (hn2 : n2 ≤ 1048576) (hm : ∀ j, j < n2 → (prAt p j).stage.length ≤ 1048576) :
    Calls Tryz.prog 21 #[.slice A n c, .slice A2 n2 c2, .int .i64 kd] w fun e w' => e = .returned (.int .i64 (shareK ps p kd)) ∧ Below w.heap.size w w' := by
  have HAS := Lib.hid (spec_AllServices A n c B ps A2 n2 c2 B2 p w h hB hn h2 hB2 hn2 hm)
  have HPT := Lib.hid (fun x (hx : Below w.heap.size w x) => h.below (hx.mono hB))
  have hlen : (allSvc ps p).length ≤ n := by rw [← h.1]; exact allSvc_len ps p
  have hsh := shTo_mem (ps := ps) (kd := kd) (svc_share ps p)
  have HSHR : Hid (shareK ps p kd = if (shTo ps (allSvc ps p) kd (allSvc ps p).length).length = 0 then 0 else (shTo ps (allSvc ps p) kd (allSvc ps p).length).sum.tdiv (shTo ps (allSvc ps p) kd (allSvc ps p).length).length) := Lib.hid rfl
  clear h h2 hm
  generalize allSvc ps p = vs at *
  obtain ⟨m, hm⟩ : ∃ m, m = vs.length := ⟨_, rfl⟩
  rw [← hm] at HAS hlen HSHR
  have HM := Lib.hid hm
  have HSH := Lib.hid hsh
  clear hm hsh
  go_enter Tryz.func21, Tryz.ntmps21
  go_wp2_with fail
  refine HAS.out.mono ?_
  rintro e w1 ⟨v, rfl, ho, hb1⟩
  obtain ⟨A1, c1, rfl⟩ := ownr_sliced ho
  have HSV : Hid (SvcsAt w1 w1.heap.size A1 m vs) := Lib.hid (OwSvc.new (by rw [← HM.out]; exact ho)).ints
  have HB1 := Lib.hid hb1
  clear ho hb1
  go_wp2
  go_loop [7, 8, 10] (fun t q i => ∃ k : Nat, k ≤ m ∧ i = .int .i64 k ∧ t = .int .i64 (shTo ps vs kd k).sum ∧ q = .int .i64 ((shTo ps vs kd k).length : Nat)) (fun _ _ i => m - (intOf i).toNat)
  case atStart => exact ⟨0, Nat.zero_le _, rfl, rfl, rfl⟩
  case round =>
    obtain ⟨k, hk, rfl, rfl, rfl⟩ := hrel
    have hshl := shTo_len ps vs kd k
    have hsb := sum_bd (HSH.out k)
    by_cases hlt : k < m
    · obtain ⟨ad, q, rfl, hab, hq, hc⟩ := HSV.out.at hlt
      obtain ⟨s0, s1, s2, s3⟩ := hc
      obtain ⟨ad2, p2, rfl, hab2, hp2, hc2⟩ := (HPT.out w1 HB1.out).at (show k < n by omega)
      obtain ⟨c0, c1, c2, c3⟩ := hc2
      have hpa : pAt ps k = p2 := pAt_some hp2
      have HPA := Lib.hid hpa
      have HQ := Lib.hid hq
      have i1 : (0 : Int) ≤ (k : Int) := by omega
      have i2 : (k : Int) < (n : Int) := by omega
      have i3 : (k : Int) < (m : Int) := by omega
      clear hp2 hpa hab hab2
      by_cases hkd : p2.kind = kd
      · have hy := shTo_yes (ps := ps) (vs := vs) (kd := kd) (k := k) (by rw [HPA.out]; exact hkd) HQ.out
        have hs2 := sum_bd (HSH.out (k + 1))
        have hl2 := shTo_len ps vs kd (k + 1)
        have HY1 : Hid ((shTo ps vs kd (k + 1)).sum = (shTo ps vs kd k).sum + q.share) := Lib.hid (by rw [hy, List.sum_append]; simp)
        have HY2 : Hid ((shTo ps vs kd (k + 1)).length = (shTo ps vs kd k).length + 1) := Lib.hid (by rw [hy, List.length_append]; rfl)
        have b1 : 0 ≤ (shTo ps vs kd k).sum + q.share := by have := HY1.out; omega
        have b2 : (shTo ps vs kd k).sum + q.share ≤ 1000000000000000 := by have := HY1.out; omega
        have e1 : (p2.kind == kd) = true := by simp [hkd]
        clear hkd hy hq hs2 hl2
        generalize (shTo ps vs kd k).sum = s at *
        generalize (shTo ps vs kd k).length = l at *
        go_wp2
        go_round
        case rel => exact ⟨k + 1, by omega, by go_num, by rw [HY1.out], by rw [HY2.out]; go_num⟩
        case measure => simp [intOf]; omega
      · have HY := Lib.hid (shTo_no (ps := ps) (vs := vs) (kd := kd) (k := k) (by rw [HPA.out]; exact hkd))
        have e1 : (p2.kind == kd) = false := by simpa using hkd
        clear hkd hq
        go_wp2
        go_round
        case rel => exact ⟨k + 1, by omega, by go_num, by rw [HY.out], by rw [HY.out]⟩
        case measure => simp [intOf]; omega
    · obtain rfl : k = m := by omega
      generalize shTo ps vs kd k = L at *
      generalize hnn : L.length = nn at *
      have HNN := Lib.hid hnn
      clear hnn
      by_cases h0 : nn = 0
      · have HV : Hid (shareK ps p kd = 0) := Lib.hid (by rw [HSHR.out, if_pos h0])
        subst h0
        clear hsb
        go_wp2
        go_ret
        exact ⟨by rw [HV.out]; rfl, HB1.out⟩
      · have HV : Hid (shareK ps p kd = L.sum.tdiv nn) := Lib.hid (by rw [HSHR.out, if_neg h0])
        have h1 : ¬ (nn : Int) = 0 := by omega
        have h2 : ((nn : Int) == 0) = false := by simpa using h0
        have e3 : IntKind.i64.wrap (L.sum.tdiv (nn : Int)) = L.sum.tdiv (nn : Int) := quo_wrapK ⟨by omega, by omega⟩ (by omega)
        generalize L.sum = s at *
        go_wp2
        go_ret
        exact ⟨by rw [HV.out]; rfl, HB1.out⟩
end Go.Proofs.YtlpkafhapmkkfaaGreatDoor

/- AllServices, ShareOfKind as exact laws meet them. -/
namespace Go.Proofs.YtlpkafhapmkkfaaGreatDoor
open Go.RowKit
set_option linter.unusedVariables false

theorem sp_AllServices (A0 : Option Addr) (n0 c0 : Nat) (zs0 : List Pth) (A1 : Option Addr) (n1 c1 : Nat) (zs1 : List Prt) (w : World) (h0 : SlP w A0 n0 c0 zs0) (hs0 : n0 ≤ 1048576) (h1 : SlQ w A1 n1 c1 zs1) (hs1 : SmallP zs1) (r : List Svc) (hr : allSvc zs0 zs1 = r) :
    Calls Tryz.prog 10 #[.slice A0 n0 c0, .slice A1 n1 c1] w fun e w' => ∃ v, e = .returned v ∧ w'.ownsRow w.heap.size 63 4 v r.length (svccells r) ∧ Below w.heap.size w w' ∧ r.length ≤ 1048576 := by
  subst hr
  have hq1 := h1.prts.1
  have hz1 := hs1.1
  have hq0 := h0.pths.1
  refine (spec_AllServices A0 n0 c0 _ zs0 A1 n1 c1 _ zs1 w h0.pths (Nat.le_refl _) hs0 h1.prts (Nat.le_refl _) (by omega) (hs1.at _ _ hq1.symm (Nat.le_refl _))).mono fun e w' ⟨v, h1, h2, h3⟩ => ⟨v, h1, h2, h3, ?_⟩
  have := allSvc_len zs0 zs1
  omega
theorem im_AllServices (A0 : Option Addr) (n0 c0 : Nat) (zs0 : List Pth) (A1 : Option Addr) (n1 c1 : Nat) (zs1 : List Prt) (w : World) (h0 : SlP w A0 n0 c0 zs0) (hs0 : n0 ≤ 1048576) (h1 : SlQ w A1 n1 c1 zs1) (hs1 : SmallP zs1) (hv0 : Brus w) (hv1 : Clrs w) (r : List Svc) (hr : allSvc zs0 zs1 = r) :
    Calls Tryz.prog 13 #[.slice A0 n0 c0, .slice A1 n1 c1] w fun e w' => ∃ v, e = .returned v ∧ w'.ownsRow w.heap.size 63 4 v r.length (svccells r) ∧ Below w.heap.size w w' ∧ r.length ≤ 1048576 := by
  subst hr
  have hq1 := h1.prts.1
  have hz1 := hs1.1
  have hq0 := h0.pths.1
  refine (impl_AllServices ⟨h0.pths, Nat.le_refl _, h0.cap, by omega, h1.prts, Nat.le_refl _, by omega, hs1.at _ _ hq1.symm (Nat.le_refl _), hv0, hv1⟩ hs0).mono fun e w' ⟨v, h1, h2, h3⟩ => ⟨v, h1, h2, h3, ?_⟩
  have := allSvc_len zs0 zs1
  omega
theorem sp_ShareOfKind (A0 : Option Addr) (n0 c0 : Nat) (zs0 : List Pth) (A1 : Option Addr) (n1 c1 : Nat) (zs1 : List Prt) (a2 : Int) (w : World) (h0 : SlP w A0 n0 c0 zs0) (hs0 : n0 ≤ 1048576) (h1 : SlQ w A1 n1 c1 zs1) (hs1 : SmallP zs1) (wa2 : (Lit.int .i64 a2).wf = true) (r : Int) (hr : shareK zs0 zs1 a2 = r) :
    Calls Tryz.prog 21 #[.slice A0 n0 c0, .slice A1 n1 c1, .int .i64 a2] w fun e w' => e = .returned (.int .i64 r) ∧ Below w.heap.size w w' := by
  subst hr
  have hq1 := h1.prts.1
  have hz1 := hs1.1
  exact spec_ShareOfKind A0 n0 c0 _ zs0 A1 n1 c1 _ zs1 a2 w h0.pths (Nat.le_refl _) hs0 h1.prts (Nat.le_refl _) (by omega) (hs1.at _ _ hq1.symm (Nat.le_refl _))
theorem im_ShareOfKind (A0 : Option Addr) (n0 c0 : Nat) (zs0 : List Pth) (A1 : Option Addr) (n1 c1 : Nat) (zs1 : List Prt) (a2 : Int) (w : World) (h0 : SlP w A0 n0 c0 zs0) (hs0 : n0 ≤ 1048576) (h1 : SlQ w A1 n1 c1 zs1) (hs1 : SmallP zs1) (wa2 : (Lit.int .i64 a2).wf = true) (hv0 : Brus w) (hv1 : Clrs w) (r : Int) (hr : shareK zs0 zs1 a2 = r) :
    Calls Tryz.prog 22 #[.slice A0 n0 c0, .slice A1 n1 c1, .int .i64 a2] w fun e w' => e = .returned (.int .i64 r) ∧ Below w.heap.size w w' := by
  subst hr
  have hq1 := h1.prts.1
  have hz1 := hs1.1
  exact impl_ShareOfKind ⟨h0.pths, Nat.le_refl _, h0.cap, by omega, h1.prts, Nat.le_refl _, by omega, hs1.at _ _ hq1.symm (Nat.le_refl _), hv0, hv1⟩ hs0 a2
end Go.Proofs.YtlpkafhapmkkfaaGreatDoor

/- Rows of Service that were marked, found again (written by gentype.py). -/
namespace Go.Proofs.YtlpkafhapmkkfaaGreatDoor
open Go.RowKit
set_option linter.unusedVariables false

def svcmk (s k : Nat) : Svc := ⟨((s : Int) + (k : Int) * 4), ((s : Int) + (k : Int) * 4 + 1), ((s : Int) + (k : Int) * 4 + 1 + 1), ((s : Int) + (k : Int) * 4 + 1 + 1 + 1)⟩
def svcmks (s n : Nat) : List Svc := (List.range n).map (svcmk s)
theorem svcmks_length (s n : Nat) : (svcmks s n).length = n := by simp [svcmks]
theorem svcmks_get {s n k : Nat} (h : k < n) : (svcmks s n)[k]? = some ⟨((s : Int) + (k : Int) * 4), ((s : Int) + (k : Int) * 4 + 1), ((s : Int) + (k : Int) * 4 + 1 + 1), ((s : Int) + (k : Int) * 4 + 1 + 1 + 1)⟩ := by
  unfold svcmks
  rw [List.getElem?_map, List.getElem?_range h]
  rfl
set_option maxHeartbeats 1000000 in
theorem law_markdServiceS (A : Option Addr) (n c lo s : Nat) (vs : List Value) (w : World) (h : w.ownsRow lo 63 4 (.slice A n c) n vs) (hvs : vs.length = n * 4) (hn : n ≤ 4294967296) (hs : s ≤ 70368744177664) :
    Calls Tryz.prog 19 #[.slice A n c, .int .i64 s] w fun e w' => e = .returned (.int .i64 ((s + n * 4 : Nat) : Int)) ∧ w'.ownsRow lo 63 4 (.slice A n c) n (svccells (svcmks s n)) ∧ w.grownBy w' (Value.ownBlock (.slice A n c)) := by
  have HV := Lib.hid hvs
  clear hvs
  go_enter Tryz.func19, Tryz.ntmps19
  go_wp2
  go_loopw [1, 5] (fun x i wr => ∃ k : Nat, k ≤ n ∧ i = .int .i64 k ∧ x = .int .i64 ((s + k * 4 : Nat) : Int) ∧ wr.ownsRow lo 63 4 (.slice A n c) n (svccells ((svcmks s n).take k) ++ vs.drop (k * 4)) ∧ w.grownBy wr (Value.ownBlock (.slice A n c))) (fun _ i _ => n - (intOf i).toNat)
  case atStart => exact ⟨0, Nat.zero_le _, rfl, by simp, by simpa [svccells] using h, World.grownBy.refl _ _⟩
  case round =>
    obtain ⟨k, hk, rfl, rfl, hown, hbl⟩ := hrel
    by_cases hlt : k < n
    · rcases ownr_shape hown with ⟨e, he⟩ | ⟨g, cap, e, hg, hgs, _⟩
      · omega
      injection e with e1 _ e3
      obtain rfl := e1
      obtain ⟨x0, hx0⟩ := ownr_some hown (j := k * 4) (by omega)
      obtain ⟨x1, hx1⟩ := ownr_some hown (j := k * 4 + 1) (by omega)
      obtain ⟨x2, hx2⟩ := ownr_some hown (j := k * 4 + 2) (by omega)
      obtain ⟨x3, hx3⟩ := ownr_some hown (j := k * 4 + 3) (by omega)
      have f0 := World.ownsRow.frozenAt hown
      have hst := (World.ownsRow.stored (World.ownsRow.stored (World.ownsRow.stored (World.ownsRow.stored hown (k * 4) (.int .i64 ((s : Int) + (k : Int) * 4))).1 (k * 4 + 1) (.int .i64 ((s : Int) + (k : Int) * 4 + 1))).1 (k * 4 + 2) (.int .i64 ((s : Int) + (k : Int) * 4 + 1 + 1))).1 (k * 4 + 3) (.int .i64 ((s : Int) + (k : Int) * 4 + 1 + 1 + 1))).1
      have hput := svccells_put (zs := vs) (svcmks_get (s := s) hlt) (by rw [HV.out]; omega)
      simp only at hput
      rw [hput] at hst
      clear hput
      have HS := Lib.hid hst
      have HG := Lib.hid hbl
      clear hown hbl hst
      go_wp2
      go_roundw
      case rel => exact ⟨k + 1, by omega, by go_num, by go_num, HS.out, (only_setCell (only_setCell (only_setCell (only_setCell HG.out _ _) _ _) _ _) _ _)⟩
      case measure => simp [intOf]; omega
    · obtain rfl : k = n := by omega
      have HO : Hid (wr.ownsRow lo 63 4 (.slice A k c) k (svccells (svcmks s k))) := Lib.hid (by rw [List.take_of_length_le (by rw [svcmks_length]; exact Nat.le_refl _), List.drop_of_length_le (by rw [HV.out]; exact Nat.le_refl _), List.append_nil] at hown; exact hown)
      clear hown
      go_wp2
      go_ret
      exact ⟨rfl, HO.out, hbl⟩
theorem markd_svc (A : Option Addr) (n c lo hi s : Nat) (ps : List Svc) (w : World) (h : OwSvc 63 w lo hi (.slice A n c) ps) (hn : n ≤ 1048576) (hs : s ≤ 70368744177664) :
    Calls Tryz.prog 19 #[.slice A n c, .int .i64 s] w fun e w' => e = .returned (.int .i64 ((s + n * 4 : Nat) : Int)) ∧ OwSvc 63 w' lo hi (.slice A n c) (svcmks s n) ∧ Part lo hi w w' := by
  have hl := ownr_len h.own
  refine (law_markdServiceS A n c lo s (svccells ps) w (by have h2 := h.own; rw [← hl] at h2; exact h2) (by rw [svccells_length, hl]) (by omega) hs).mono fun e w' ⟨he, ho, hg⟩ => ⟨he, ⟨by rw [svcmks_length]; exact ho, h.lt, Nat.le_trans h.top hg.size⟩, ⟨hg.os, hg.tape, hg.output, hg.size, fun i hi' hd => hg.block i hi' fun e => ?_⟩⟩
  have h1 := h.lt i e.symm
  have h2 := (ownr_block h.own i e.symm).1
  omega
set_option maxHeartbeats 1000000 in
theorem held_svc (A : Option Addr) (n c B s : Nat) (w : World) (h : SvcsAt w B A n (svcmks s n)) (hB : B ≤ w.heap.size) (hn : n ≤ 1048576) (hs : s ≤ 70368744177664) :
    Calls Tryz.prog 20 #[.slice A n c, .int .i64 s] w fun e w' => e = .returned (.int .i64 ((s + n * 4 : Nat) : Int)) ∧ Below w.heap.size w w' := by
  go_enter Tryz.func20, Tryz.ntmps20
  go_wp2
  go_loopw [1, 5] (fun x i wr => ∃ k : Nat, k ≤ n ∧ i = .int .i64 k ∧ x = .int .i64 ((s + k * 4 : Nat) : Int) ∧ Below w.heap.size w wr) (fun _ i _ => n - (intOf i).toNat)
  case atStart => exact ⟨0, Nat.zero_le _, rfl, by simp, Below.refl _ _⟩
  case round =>
    obtain ⟨k, hk, rfl, rfl, hbl⟩ := hrel
    by_cases hlt : k < n
    · obtain ⟨ad, p, rfl, hab, hp, hq⟩ := h.at hlt
      rw [svcmks_get hlt] at hp
      injection hp with hp
      subst hp
      obtain ⟨c0, c1, c2, c3⟩ := hq.below hbl (by omega)
      simp only at c0 c1 c2 c3
      have i1 : (0 : Int) ≤ (k : Int) := by omega
      have i2 : (k : Int) < (n : Int) := by omega
      clear hq
      have HB := Lib.hid hbl
      clear hbl
      go_wp2
      go_roundw
      case rel => exact ⟨k + 1, by omega, by go_num, by go_num, HB.out⟩
      case measure => simp [intOf]; omega
    · obtain rfl : k = n := by omega
      go_wp2
      go_ret
      exact ⟨rfl, hbl⟩
end Go.Proofs.YtlpkafhapmkkfaaGreatDoor
