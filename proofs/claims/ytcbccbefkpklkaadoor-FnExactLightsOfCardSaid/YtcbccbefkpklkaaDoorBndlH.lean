/- Texts of one chain, put together: LtsM LtsI Mkc. -/
import Derived.Test.YtcbccbefkpklkaaDoorBndlG
set_option linter.unusedSimpArgs false
/- Chapter 14: the model: LightsOf. -/
namespace Go.Proofs.YtcbccbefkpklkaaDoor
open Go.RowKit
set_option linter.unusedVariables false

/-- the lights of the first k paths. -/
def ltsTo (ps : List Pth) (x : Ctl) (k : Nat) : List Int := (ps.take k).map fun q => lightC x q.id
theorem ltsTo_push {ps : List Pth} {x : Ctl} {k : Nat} {q : Pth} (h : ps[k]? = some q) : ltsTo ps x (k + 1) = ltsTo ps x k ++ [lightC x q.id] := by
  unfold ltsTo
  rw [List.take_add_one, h, List.map_append]
  rfl
theorem ltsTo_len (ps : List Pth) (x : Ctl) (k : Nat) : (ltsTo ps x k).length ≤ k := by unfold ltsTo; rw [List.length_map, List.length_take]; omega
theorem lts_off {ps : List Pth} {x : Ctl} (h : isCtl ps x = false) : lightsC ps x = [] := by unfold lightsC; rw [h]; rfl
theorem lts_on {ps : List Pth} {x : Ctl} (h : isCtl ps x = true) : lightsC ps x = ltsTo ps x ps.length := by unfold lightsC ltsTo; rw [h, if_pos rfl, List.take_of_length_le (Nat.le_refl _)]
set_option maxHeartbeats 4000000 in
set_option maxRecDepth 100000 in
theorem spec_LightsOf {w : World} {A : Option Addr} {n c : Nat} {ps : List Pth} {A2 : Option Addr} {n2 c2 : Nat} {A3 : Option Addr} {n3 c3 : Nat} {x : Ctl} (I : CtlIn w A n c ps A2 n2 c2 A3 n3 c3 x) :
    Calls Tryd.prog 51 #[.slice A n c, ctlV (.slice A2 n2 c2) x.since (.slice A3 n3 c3) x.left] w fun e w' => ∃ v, e = .returned v ∧ Own .i64 3 w' w.heap.size v (lightsC ps x) ∧ Below w.heap.size w w' := by
  have hlt3 := I.t.len
  have hs2 := I.hs
  have ht2 := I.ht
  have hlp := I.p.len
  have hns := I.p.small
  obtain ⟨wA, hwA⟩ : ∃ wA, wA = (w.alloc (.cells #[.slice A2 n2 c2, .int .i64 x.since, .slice A3 n3 c3, .int .i64 x.left] 61)).alloc (.cells #[] 3) := ⟨_, rfl⟩
  obtain ⟨hk, hk1, hsz, hBA⟩ := two_blocks hwA
  have HO0 : Hid (Own .i64 3 wA (w.heap.size + 1) (.slice (some ⟨w.heap.size + 1, 0, none⟩) 0 0) []) := Lib.hid (by
    have := own_bare .i64 3 (w.alloc (.cells #[.slice A2 n2 c2, .int .i64 x.since, .slice A3 n3 c3, .int .i64 x.left] 61))
    rw [heap_size_allocF, ← hwA] at this
    exact this)
  have HIC := Lib.hid (fun y (hy : Below w.heap.size w y) => spec_IsControl (I.below hy))
  have HH2 := Lib.hid (fun y (hy : Below w.heap.size w y) id => spec_l6Has A2 n2 c2 _ x.stage id y (I.below hy).s.ints (by omega))
  have HH3 := Lib.hid (fun y (hy : Below w.heap.size w y) id => spec_l6Has A3 n3 c3 _ x.next id y (I.below hy).t.ints (by omega))
  have HP := Lib.hid I.p.pths
  have HK := Lib.hid hk
  have HBA := Lib.hid hBA
  have HLC : Hid (∀ id, lightC x id = if hasI x.stage id then (if n3 = 0 then 1 else if hasI x.next id then 1 else 2) else 0) := Lib.hid (fun id => by unfold lightC; rw [hlt3])
  have lA0 : w.heap.size < w.heap.size + 1 := by omega
  simp only [ctlV] at HIC ⊢
  cases hc : isCtl ps x
  · have HR := Lib.hid (lts_off hc)
    rw [hc] at HIC
    clear I hk hk1 hsz hBA hlt3 hc
    go_enter Tryd.func51, Tryd.ntmps51
    go_wp2
    rw [← hwA]
    clear hwA
    go_loopw [5, 6] (fun v i wr => i = .int .i64 0 ∧ wA = wr ∧ v = .slice (some ⟨w.heap.size + 1, 0, none⟩) 0 0) (fun _ _ _ => 0)
    case atStart => exact ⟨rfl, rfl, rfl⟩
    case round =>
      obtain ⟨rfl, rfl, rfl⟩ := hrel
      have lw := lt_of_block HK.out
      obtain ⟨k0, k1, k2, k3⟩ := cells4 HK.out
      by_cases hlt : 0 < n
      · go_wp2_with fail
        refine (HIC.out _ HBA.out).mono ?_
        rintro e w1 ⟨rfl, hb1⟩
        have HO1 := Lib.hid (HO0.out.below hb1)
        have HB1 := Lib.hid (HBA.out.trans (hb1.mono HBA.out.size))
        clear hb1 k0 k1 k2 k3
        go_wp2
        go_ret
        exact ⟨_, rfl, by rw [HR.out]; exact HO1.out.mono (Nat.le_succ _), HB1.out⟩
      · obtain rfl : n = 0 := by omega
        clear k0 k1 k2 k3
        go_wp2
        go_ret
        exact ⟨_, rfl, by rw [HR.out]; exact HO0.out.mono (Nat.le_succ _), HBA.out⟩
  · have HR := Lib.hid (lts_on hc)
    rw [hlp] at HR
    rw [hc] at HIC
    clear I hk hk1 hsz hBA hlt3 hc
    go_enter Tryd.func51, Tryd.ntmps51
    go_wp2
    rw [← hwA]
    clear hwA
    go_loopw [5, 6] (fun v i wr => ∃ k : Nat, k ≤ n ∧ i = .int .i64 k ∧ Own .i64 3 wr (w.heap.size + 1) v (ltsTo ps x k) ∧ wr.heap[w.heap.size]? = some (.cells #[.slice A2 n2 c2, .int .i64 x.since, .slice A3 n3 c3, .int .i64 x.left] 61 (0, 0)) ∧ Below w.heap.size w wr) (fun _ i _ => n - (intOf i).toNat)
    case atStart => exact ⟨0, Nat.zero_le _, rfl, HO0.out, HK.out, HBA.out⟩
    case round =>
      clear HO0 HBA HK
      obtain ⟨k, hk, rfl, hown, hbk, hbl⟩ := hrel
      have HOW := Lib.hid hown
      have HK := Lib.hid hbk
      have HBL := Lib.hid hbl
      have hln := ltsTo_len ps x k
      clear hown hbk hbl
      by_cases hlt : k < n
      · obtain ⟨ad, q, rfl, hab, hp, hq⟩ := HP.out.at hlt
        have HPU := Lib.hid (ltsTo_push (x := x) hp)
        have hlc := HLC.out q.id
        have lw := lt_of_block HK.out
        obtain ⟨k0, k1, k2, k3⟩ := cells4 HK.out
        have HQ := Lib.hid hq
        have i1 : (0 : Int) ≤ (k : Int) := by omega
        have i2 : (k : Int) < (n : Int) := by omega
        clear hp hq
        go_wp2_with fail
        refine (HIC.out _ HBL.out).mono ?_
        rintro e w1 ⟨rfl, hb1⟩
        have HO1 := Lib.hid (HOW.out.below hb1)
        have HK1 := Lib.hid ((hb1.block _ lw).trans HK.out)
        have HB1 := Lib.hid (HBL.out.trans (hb1.mono HBL.out.size))
        have lw1 := lt_of_block HK1.out
        have hsz1 := HB1.out.size
        clear hb1 k0 k1 k2 k3
        have q0 := fun y : GW w1 => (cells4 ((y.ok.block _ lw1).trans HK1.out)).1
        have q2 := fun y : GW w1 => (cells4 ((y.ok.block _ lw1).trans HK1.out)).2.2.1
        have c0 := fun y : GW w1 => (HQ.out.below (HB1.out.trans (y.ok.mono hsz1)) hab).c0
        have h2 := fun y : GW w1 => HH2.out y.val (HB1.out.trans (y.ok.mono hsz1)) q.id
        have HG3 := Lib.hid (fun (y : World) (hy : Below w.heap.size w y) => HH3.out y hy q.id)
        have HCQ := Lib.hid (fun (y : World) (hy : Below w.heap.size w y) => (HQ.out.below hy hab).c0)
        generalize lightC x q.id = lc at *
        generalize hasI x.next q.id = hn at *
        generalize q.id = id at *
        cases hs : hasI x.stage id
        · rw [hs] at hlc h2
          have HLV : Hid (lc = 0) := Lib.hid (by rw [hlc]; rfl)
          clear hlc hs
          go_wp2
          refine wp_region_grow (by kernel_rfl) (by kernel_rfl) ?_
          repeat (go_big_quiet_step (first | (go_at_call 83; exact calls_gw_same _ (h2 _))))
          refine wpQuiet_nil ?_
          intro x5
          have HB5 := Lib.hid (HB1.out.trans (x5.ok.mono hsz1))
          have HK5 := Lib.hid ((x5.ok.block _ lw1).trans HK1.out)
          have hO5 := HO1.out.below x5.ok
          clear q0 q2 c0 h2
          generalize x5.val = w5 at *
          have hsz5 : w.heap.size + 1 ≤ w5.heap.size := by have := lt_of_block HK5.out; omega
          go_wp2_with (at_builtin; refine wpList_app1 rfl _ _ 23 rfl .i64 3 8 Tryd.underlying23 info_i64 (w.heap.size + 1) _ (ltsTo ps x k) rfl hO5 (by decide) (by omega) _ _ _ w5.heap.size hsz5 rfl (by simp) ?_; intro v7 w7 hown7 hgrow7 hat7)
          have HO7 : Hid (Own .i64 3 w7 (w.heap.size + 1) v7 (ltsTo ps x (k + 1))) := Lib.hid (by rw [HPU.out, HLV.out]; exact hown7)
          have HB7 := Lib.hid (hO5.push (B := w.heap.size) (Nat.le_succ _) (HB5.out.alloc HB5.out.size _) (by simp; omega) hgrow7)
          have HK7 := Lib.hid ((hgrow7.block w.heap.size (by simp; omega) (fun e => by have := (hO5.block _ e.symm).1; omega)).trans (heap_old w5 _ HK5.out))
          clear hown7 hgrow7 hat7 hO5
          go_roundw
          case rel => exact ⟨k + 1, by omega, by go_num, HO7.out, HK7.out, HB7.out⟩
          case measure => simp [intOf]; omega
        · rw [hs] at hlc h2
          clear hs
          go_wp2
          refine wp_region_grow (by kernel_rfl) (by kernel_rfl) ?_
          repeat (go_big_quiet_step (first | (go_at_call 83; exact calls_gw_same _ (h2 _))))
          refine wpQuiet_nil ?_
          intro x5
          have HB5 := Lib.hid (HB1.out.trans (x5.ok.mono hsz1))
          have HK5 := Lib.hid ((x5.ok.block _ lw1).trans HK1.out)
          have HO5 := Lib.hid (HO1.out.below x5.ok)
          clear q0 q2 c0 h2
          generalize x5.val = w5 at *
          have lw5 := lt_of_block HK5.out
          have hsz5 := HB5.out.size
          have q2 := fun y : GW w5 => (cells4 ((y.ok.block _ lw5).trans HK5.out)).2.2.1
          have c0 := fun y : GW w5 => HCQ.out y.val (HB5.out.trans (y.ok.mono hsz5))
          have h3 := fun y : GW w5 => HG3.out y.val (HB5.out.trans (y.ok.mono hsz5))
          have arm : n3 = 0 ∨ (n3 ≠ 0 ∧ hn = true) ∨ (n3 ≠ 0 ∧ hn = false) := by
            by_cases e : n3 = 0
            · exact .inl e
            · cases hn
              · exact .inr (.inr ⟨e, rfl⟩)
              · exact .inr (.inl ⟨e, rfl⟩)
          rcases arm with e3 | ⟨e3, rfl⟩ | ⟨e3, rfl⟩
          · have HLV : Hid (lc = 1) := Lib.hid (by rw [hlc]; simp [e3])
            subst e3
            clear hlc
            go_wp2
            refine wp_region_grow (by kernel_rfl) (by kernel_rfl) ?_
            repeat (go_big_quiet_step (first | (go_at_call 83; exact calls_gw_same _ (h3 _))))
            refine wpQuiet_nil ?_
            intro x6
            have HB6 := Lib.hid (HB5.out.trans (x6.ok.mono hsz5))
            have HK6 := Lib.hid ((x6.ok.block _ lw5).trans HK5.out)
            have hO6 := HO5.out.below x6.ok
            clear q2 c0 h3
            generalize x6.val = w6 at *
            have hsz6 : w.heap.size + 1 ≤ w6.heap.size := by have := lt_of_block HK6.out; omega
            go_wp2_with (at_builtin; refine wpList_app1 rfl _ _ 23 rfl .i64 3 8 Tryd.underlying23 info_i64 (w.heap.size + 1) _ (ltsTo ps x k) rfl hO6 (by decide) (by omega) _ _ _ w6.heap.size hsz6 rfl (by simp) ?_; intro v7 w7 hown7 hgrow7 hat7)
            have HO7 : Hid (Own .i64 3 w7 (w.heap.size + 1) v7 (ltsTo ps x (k + 1))) := Lib.hid (by rw [HPU.out, HLV.out]; exact hown7)
            have HB7 := Lib.hid (hO6.push (B := w.heap.size) (Nat.le_succ _) (HB6.out.alloc HB6.out.size _) (by simp; omega) hgrow7)
            have HK7 := Lib.hid ((hgrow7.block w.heap.size (by simp; omega) (fun e => by have := (hO6.block _ e.symm).1; omega)).trans (heap_old w6 _ HK6.out))
            clear hown7 hgrow7 hat7 hO6
            go_roundw
            case rel => exact ⟨k + 1, by omega, by go_num, HO7.out, HK7.out, HB7.out⟩
            case measure => simp [intOf]; omega
          · have HLV : Hid (lc = 1) := Lib.hid (by rw [hlc]; simp [e3])
            have e9 : (0 : Int) < (n3 : Int) := by omega
            have e10 : 0 < n3 := by omega
            have e11 : decide (0 < n3) = true := decide_eq_true e10
            clear hlc e3
            go_wp2
            refine wp_region_grow (by kernel_rfl) (by kernel_rfl) ?_
            repeat (go_big_quiet_step (first | (go_at_call 83; exact calls_gw_same _ (h3 _))))
            refine wpQuiet_nil ?_
            intro x6
            have HB6 := Lib.hid (HB5.out.trans (x6.ok.mono hsz5))
            have HK6 := Lib.hid ((x6.ok.block _ lw5).trans HK5.out)
            have hO6 := HO5.out.below x6.ok
            clear q2 c0 h3
            generalize x6.val = w6 at *
            have hsz6 : w.heap.size + 1 ≤ w6.heap.size := by have := lt_of_block HK6.out; omega
            go_wp2_with (at_builtin; refine wpList_app1 rfl _ _ 23 rfl .i64 3 8 Tryd.underlying23 info_i64 (w.heap.size + 1) _ (ltsTo ps x k) rfl hO6 (by decide) (by omega) _ _ _ w6.heap.size hsz6 rfl (by simp) ?_; intro v7 w7 hown7 hgrow7 hat7)
            have HO7 : Hid (Own .i64 3 w7 (w.heap.size + 1) v7 (ltsTo ps x (k + 1))) := Lib.hid (by rw [HPU.out, HLV.out]; exact hown7)
            have HB7 := Lib.hid (hO6.push (B := w.heap.size) (Nat.le_succ _) (HB6.out.alloc HB6.out.size _) (by simp; omega) hgrow7)
            have HK7 := Lib.hid ((hgrow7.block w.heap.size (by simp; omega) (fun e => by have := (hO6.block _ e.symm).1; omega)).trans (heap_old w6 _ HK6.out))
            clear hown7 hgrow7 hat7 hO6
            go_roundw
            case rel => exact ⟨k + 1, by omega, by go_num, HO7.out, HK7.out, HB7.out⟩
            case measure => simp [intOf]; omega
          · have HLV : Hid (lc = 2) := Lib.hid (by rw [hlc]; simp [e3])
            have e9 : (0 : Int) < (n3 : Int) := by omega
            have e10 : 0 < n3 := by omega
            have e11 : decide (0 < n3) = true := decide_eq_true e10
            clear hlc e3
            go_wp2
            refine wp_region_grow (by kernel_rfl) (by kernel_rfl) ?_
            repeat (go_big_quiet_step (first | (go_at_call 83; exact calls_gw_same _ (h3 _))))
            refine wpQuiet_nil ?_
            intro x6
            have HB6 := Lib.hid (HB5.out.trans (x6.ok.mono hsz5))
            have HK6 := Lib.hid ((x6.ok.block _ lw5).trans HK5.out)
            have hO6 := HO5.out.below x6.ok
            clear q2 c0 h3
            generalize x6.val = w6 at *
            have hsz6 : w.heap.size + 1 ≤ w6.heap.size := by have := lt_of_block HK6.out; omega
            go_wp2_with (at_builtin; refine wpList_app1 rfl _ _ 23 rfl .i64 3 8 Tryd.underlying23 info_i64 (w.heap.size + 1) _ (ltsTo ps x k) rfl hO6 (by decide) (by omega) _ _ _ w6.heap.size hsz6 rfl (by simp) ?_; intro v7 w7 hown7 hgrow7 hat7)
            have HO7 : Hid (Own .i64 3 w7 (w.heap.size + 1) v7 (ltsTo ps x (k + 1))) := Lib.hid (by rw [HPU.out, HLV.out]; exact hown7)
            have HB7 := Lib.hid (hO6.push (B := w.heap.size) (Nat.le_succ _) (HB6.out.alloc HB6.out.size _) (by simp; omega) hgrow7)
            have HK7 := Lib.hid ((hgrow7.block w.heap.size (by simp; omega) (fun e => by have := (hO6.block _ e.symm).1; omega)).trans (heap_old w6 _ HK6.out))
            clear hown7 hgrow7 hat7 hO6
            go_roundw
            case rel => exact ⟨k + 1, by omega, by go_num, HO7.out, HK7.out, HB7.out⟩
            case measure => simp [intOf]; omega
      · obtain rfl : k = n := by omega
        go_wp2
        go_ret
        exact ⟨_, rfl, by rw [HR.out]; exact HOW.out.mono (Nat.le_succ _), HBL.out⟩
end Go.Proofs.YtcbccbefkpklkaaDoor

/- Chapter 14: LightsOf of the program. -/
namespace Go.Proofs.YtcbccbefkpklkaaDoor
open Go.RowKit
set_option linter.unusedVariables false

/-- what a machine shows to a path, as a set of its own. -/
def lightB (st nx b : Nat) : Int := if st &&& b = 0 then 0 else if nx = 0 then 1 else if nx &&& b = 0 then 2 else 1
theorem lightB_eq {ps : List Pth} {x : Ctl} (h1 : isTog ps x.stage = true) (h2 : isTog ps x.next = true) {i : Nat} (hi : i < ps.length) : lightB (maskL ps x.stage) (maskL ps x.next) (2 ^ i) = lightC x (idAt ps i) := by
  rw [lightC_mask h1 h2 hi]
  have e1 := and_bit (maskL ps x.stage) i
  have e2 := and_bit (maskL ps x.next) i
  unfold lightB
  by_cases q1 : maskL ps x.stage &&& 2 ^ i = 0
  · rw [if_pos q1, e1.1 q1]; rfl
  · have t1 : (maskL ps x.stage).testBit i = true := by
      cases hb : (maskL ps x.stage).testBit i
      · exact absurd (e1.2 hb) q1
      · rfl
    rw [if_neg q1, t1, if_pos rfl]
    by_cases q2 : maskL ps x.next = 0
    · rw [if_pos q2, if_pos q2]
    · rw [if_neg q2, if_neg q2]
      by_cases q3 : maskL ps x.next &&& 2 ^ i = 0
      · rw [if_pos q3, e2.1 q3]; rfl
      · have t2 : (maskL ps x.next).testBit i = true := by
          cases hb : (maskL ps x.next).testBit i
          · exact absurd (e2.2 hb) q3
          · rfl
        rw [if_neg q3, t2, if_pos rfl]
set_option maxHeartbeats 4000000 in
set_option maxRecDepth 100000 in
theorem impl_lightM (A : Option Addr) (n c : Nat) (f : Nat → Nat) (st nx : Nat) (s l : Int) (b : Nat) (hst : st < 4096) (hnx : nx < 4096) (hb : b < 4096) (w : World) :
    Calls Tryd.prog 101 #[.agg (m17 A n c f st nx s l).toArray, .int .u16 (b : Nat)] w fun e w' => e = .returned (.int .i64 (lightB st nx b)) ∧ Below w.heap.size w w' := by
  obtain ⟨wA, hwA⟩ : ∃ wA, wA = w.alloc (.cells (t17 A n c f st nx s l) 126) := ⟨_, rfl⟩
  have hk : wA.heap[w.heap.size]? = some (.cells (m17 A n c f st nx s l).toArray 126) := by rw [hwA, t17_list]; exact heap_alloc_new _ _
  have hbA : Below w.heap.size w wA := by rw [hwA]; exact (Below.refl _ _).alloc (Nat.le_refl _) _
  have hrng := range_block hk
  have hlA : w.heap.size < wA.heap.size := lt_of_block hk
  obtain ⟨k0, k13, k14, k15, k16⟩ := m17_at hrng
  have hinf : (Tryd.prog.info? 126).map (·.size) = some (m17 A n c f st nx s l).length := by rw [m17_len]; exact info_mach
  have HST := Lib.hid (impl_state A n c f st nx s l wA)
  have HBA := Lib.hid hbA
  rw [← t17_list] at HST
  have hab : bits .and .u16 (st : Int) (b : Int) = ((st &&& b : Nat) : Int) := u16_and_nat _ _ (by omega) (by omega)
  have hab2 : bits .and .u16 (nx : Int) (b : Int) = ((nx &&& b : Nat) : Int) := u16_and_nat _ _ (by omega) (by omega)
  have HV : Hid (lightB st nx b = if st &&& b = 0 then 0 else if nx = 0 then 1 else if nx &&& b = 0 then 2 else 1) := Lib.hid rfl
  rw [t17_list]
  generalize lightB st nx b = r at *
  generalize m17 A n c f st nx s l = cs at *
  unfold t17 at hwA ⊢
  generalize st &&& b = x1 at *
  generalize nx &&& b = x2 at *
  clear hk hbA
  by_cases h1 : x1 = 0
  · have HR : Hid (r = 0) := Lib.hid (by rw [HV.out, if_pos h1])
    have e1 : ((x1 : Int) == 0) = true := by rw [h1]; rfl
    clear h1 hrng HST
    go_enter Tryd.func101, Tryd.ntmps101
    go_wp2
    go_ret
    exact ⟨by rw [HR.out]; try rfl, (Below.refl _ _).alloc (Nat.le_refl _) _⟩
  have e1 : ((x1 : Int) == 0) = false := beq_eq_false_iff_ne.2 (by omega)
  rw [if_neg h1] at HV
  clear h1
  by_cases h2 : nx = 0
  · rw [if_pos h2] at HV HST
    have HR := Lib.hid HV.out
    clear h2
    go_enter Tryd.func101, Tryd.ntmps101
    go_wp2_with ((with_reducible show wpList _ _ _ _ _ _); rw [← hwA]; clear hwA; refine wpList_load_mid rfl 126 _ rfl w.heap.size 0 rfl cs _ hrng Tryd.underlying126 rfl hinf ?_)
    refine HST.out.mono ?_
    rintro e w2 ⟨rfl, hb2⟩
    have HB2 := Lib.hid (HBA.out.trans (hb2.mono HBA.out.size))
    clear hb2 k0 k13 k14 k15 k16 hrng
    go_wp2
    go_ret
    exact ⟨by rw [HR.out]; try rfl, HB2.out⟩
  rw [if_neg h2] at HV HST
  clear h2
  by_cases h3 : x2 = 0
  · have HR : Hid (r = 2) := Lib.hid (by rw [HV.out, if_pos h3])
    have e3 : ((x2 : Int) == 0) = true := by rw [h3]; rfl
    clear h3
    go_enter Tryd.func101, Tryd.ntmps101
    go_wp2_with ((with_reducible show wpList _ _ _ _ _ _); rw [← hwA]; clear hwA; refine wpList_load_mid rfl 126 _ rfl w.heap.size 0 rfl cs _ hrng Tryd.underlying126 rfl hinf ?_)
    refine HST.out.mono ?_
    rintro e w2 ⟨rfl, hb2⟩
    have HB2 := Lib.hid (HBA.out.trans (hb2.mono HBA.out.size))
    have m14 := (hb2.cell (p := ⟨w.heap.size, 14, none⟩) hlA).trans k14
    have l2 : w.heap.size < w2.heap.size := by have := hb2.size; omega
    clear hb2 k0 k13 k14 k15 k16 hrng
    go_wp2
    go_ret
    exact ⟨by rw [HR.out]; try rfl, HB2.out⟩
  · have HR : Hid (r = 1) := Lib.hid (by rw [HV.out, if_neg h3])
    have e3 : ((x2 : Int) == 0) = false := beq_eq_false_iff_ne.2 (by omega)
    clear h3
    go_enter Tryd.func101, Tryd.ntmps101
    go_wp2_with ((with_reducible show wpList _ _ _ _ _ _); rw [← hwA]; clear hwA; refine wpList_load_mid rfl 126 _ rfl w.heap.size 0 rfl cs _ hrng Tryd.underlying126 rfl hinf ?_)
    refine HST.out.mono ?_
    rintro e w2 ⟨rfl, hb2⟩
    have HB2 := Lib.hid (HBA.out.trans (hb2.mono HBA.out.size))
    have m14 := (hb2.cell (p := ⟨w.heap.size, 14, none⟩) hlA).trans k14
    have l2 : w.heap.size < w2.heap.size := by have := hb2.size; omega
    clear hb2 k0 k13 k14 k15 k16 hrng
    go_wp2
    go_ret
    exact ⟨by rw [HR.out]; try rfl, HB2.out⟩
set_option maxHeartbeats 2000000 in
set_option maxRecDepth 100000 in
theorem impl_lightOf1 (A : Option Addr) (n c : Nat) (f : Nat → Nat) (st nx : Nat) (s l : Int) (g k : Nat) (hst : st < 4096) (hnx : nx < 4096) (hk : k < 12) (w : World) (hr : w.rangeAt g 0 (m17 A n c f st nx s l)) (hg : g < w.heap.size) :
    Calls Tryd.prog 100 #[.int .i64 (k : Nat), .pointer (some ⟨g, 0, none⟩)] w fun e w' => e = .returned (.int .i64 (lightB st nx (2 ^ k))) ∧ Below w.heap.size w w' := by
  have hmx : Tryd.prog.follows .mixedOrders = true := by kernel_rfl
  have hinf : (Tryd.prog.info? 126).map (·.size) = some (m17 A n c f st nx s l).length := by rw [m17_len]; exact info_mach
  have hp : 2 ^ k < 4096 := Nat.lt_of_lt_of_le (Nat.pow_lt_pow_right (by decide) hk) (by decide)
  have HMB := Lib.hid (fun y => impl_maskBit k y hk)
  have HLM := Lib.hid (fun y => impl_lightM A n c f st nx s l (2 ^ k) hst hnx hp y)
  generalize lightB st nx (2 ^ k) = r at *
  generalize 2 ^ k = pw at *
  generalize m17 A n c f st nx s l = ms at *
  go_enter Tryd.func100, Tryd.ntmps100
  go_wp2
  refine wp_region_held_drew (S := fun W' => W'.rangeAt g 0 ms) hmx hr (fun hH => ?_)
  refine wpAnyH_take (i := 0) (v := .agg ms.toArray) rfl (by kernel_rfl) (by kernel_rfl) (by kernel_rfl) (fun _ _ _ h => h) (yieldsIf_load_mid (by rfl) 126 _ rfl g 0 rfl ms _ (fun _ h => h) Tryd.underlying126 rfl hinf) hH ?_
  try simp only [Act.put, List.setIfInBounds_toArray, List.set_cons_zero, List.set_cons_succ]
  refine wpAnyH_take (i := 1) (v := .int .i64 (k : Nat)) rfl (by kernel_rfl) (by kernel_rfl) (by kernel_rfl) (fun _ _ _ h => h) (Or.inl ⟨by rfl, by intro W hSw; go_simp⟩) hH ?_
  try simp only [Act.put, List.setIfInBounds_toArray, List.set_cons_zero, List.set_cons_succ]
  refine wpAnyH_ready (rs := [2]) (by decide +kernel) (by simp) (AllReadyH.cons rfl (fun K hK => ?_) AllReadyH.nil)
  go_simp
  refine (HMB.out _).mono ?_
  rintro e w2 ⟨rfl, rfl⟩
  go_wp2_with fail
  refine hK.out _ _ hH (fun _ => ?_)
  clear hK K
  try simp only [Act.put, List.setIfInBounds_toArray, List.set_cons_zero, List.set_cons_succ]
  refine wpAnyH_ready (rs := [3]) (by decide +kernel) (by simp) (AllReadyH.cons rfl (fun K hK => ?_) AllReadyH.nil)
  go_simp
  refine (HLM.out _).mono ?_
  rintro e w3 ⟨rfl, hb⟩
  have hb' : Below w.heap.size w w3 := ⟨hb.os, hb.tape, hb.output, hb.size, hb.block⟩
  have hr3 : w3.rangeAt g 0 ms := fun j v hj => (hb'.cell (p := ⟨g, 0 + j, none⟩) hg).trans (hr j v hj)
  have HB3 := Lib.hid hb'
  clear hb hb'
  go_wp2_with fail
  refine hK.out _ _ hr3 (fun _ => ?_)
  clear hK K
  try simp only [Act.put, List.setIfInBounds_toArray, List.set_cons_zero, List.set_cons_succ]
  refine wpAnyH_ready (rs := [4]) (by decide +kernel) (by simp) (AllReadyH.cons rfl (fun K hK => ?_) AllReadyH.nil)
  go_simp
  refine hK.out _ _ hr3 (fun _ => ?_)
  clear hK K
  try simp only [Act.put, List.setIfInBounds_toArray, List.set_cons_zero, List.set_cons_succ]
  refine wpAnyH_done (by decide +kernel) ?_ _
  go_wp2
  go_ret
  exact ⟨rfl, HB3.out⟩
set_option maxHeartbeats 2000000 in
set_option maxRecDepth 100000 in
theorem impl_listLts (A : Option Addr) (n c : Nat) (f : Nat → Nat) (st nx : Nat) (s l : Int) (g : Nat) (hst : st < 4096) (hnx : nx < 4096) (h12 : n ≤ 12) (zs : List Int) (hzl : zs.length = n) (hzv : ∀ k, k < n → lightB st nx (2 ^ k) = zs.getD k 0) (w : World) (hr : w.rangeAt g 0 (m17 A n c f st nx s l)) (hg : g < w.heap.size) :
    Calls Tryd.prog 99 #[.int .i64 n, .func (.func 100) #[] #[.pointer (some ⟨g, 0, none⟩)]] w fun e w' => ∃ v, e = .returned v ∧ Own .i64 3 w' w.heap.size v zs ∧ Below w.heap.size w w' := by
  have HL1 := Lib.hid (fun k (hk : k < n) (y : World) (hy : Below w.heap.size w y) => impl_lightOf1 A n c f st nx s l g k hst hnx (by omega) y (fun j v hj => (hy.cell (p := ⟨g, 0 + j, none⟩) hg).trans (hr j v hj)) (by have := hy.size; omega))
  have HZV := Lib.hid hzv
  have HZL := Lib.hid hzl
  clear hr hzv hzl
  go_enter Tryd.func99, Tryd.ntmps99
  go_wp2_with ((with_reducible show wpList _ _ _ _ _ _); refine wpList_mk rfl _ _ _ rfl .i64 3 _ Tryd.underlying23 info_i64 (by decide) (n : Int) (n : Int) n rfl rfl rfl rfl (by omega) ?_; intro w1 hown hgrow)
  go_loopw [11] (fun i wr => ∃ k : Nat, k ≤ n ∧ i = .int .i64 k ∧ Own .i64 3 wr w.heap.size (.slice (some ⟨w.heap.size, 0, none⟩) n n) (zs.take k ++ (List.replicate n 0).drop k) ∧ Below w.heap.size w wr) (fun i _ => n - (intOf i).toNat)
  case atStart => exact ⟨0, Nat.zero_le _, rfl, by simpa using hown, below_grown hgrow⟩
  case round =>
    obtain ⟨k, hk, rfl, hown, hbl⟩ := hrel
    have hsz := hbl.size
    by_cases hlt : k < n
    · have hcc := HL1.out k hlt wr hbl
      rw [HZV.out k hlt] at hcc
      have i1 : (0 : Int) ≤ (k : Int) := by omega
      have i2 : (k : Int) < (n : Int) := by omega
      have HOW := Lib.hid hown
      have HBL := Lib.hid hbl
      have HCC := Lib.hid hcc
      have HGZ : Hid (∀ r, zs.getD k 0 = r → (zs.take k ++ (List.replicate n 0).drop k).set k r = zs.take (k + 1) ++ (List.replicate n 0).drop (k + 1)) := Lib.hid (fun r hr => set_prefix (by simp; omega) hr (by have := HZL.out; omega))
      clear hown hbl hcc
      generalize zs.getD k 0 = r at *
      go_wp2_with fail
      refine HCC.out.mono ?_
      rintro e w2 ⟨rfl, hb2⟩
      have hown2 := HOW.out.below hb2
      have hf := hown2.free k
      have hc2 := hown2.cell k (by simp; have := HZL.out; omega)
      have hs := hown2.stored k r
      rw [HGZ.out r rfl] at hs
      have HS := Lib.hid hs
      have HB2 := Lib.hid (HBL.out.trans (hb2.mono HBL.out.size))
      clear hown2 hs hb2
      go_wp2
      go_roundw
      case rel => exact ⟨k + 1, by omega, by go_num, HS.out, HB2.out.setCell (Nat.le_refl _) _⟩
      case measure => simp [intOf]; omega
    · obtain rfl : k = n := by omega
      rw [take_all HZL.out _ (by simp)] at hown
      have HOW := Lib.hid hown
      clear hown
      go_wp2
      go_ret
      exact ⟨_, rfl, HOW.out, hbl⟩
theorem lights_on {ps : List Pth} {x : Ctl} (h : isCtl ps x = true) : (lightsC ps x).length = ps.length ∧ ∀ k, k < ps.length → lightB (maskL ps x.stage) (maskL ps x.next) (2 ^ k) = (lightsC ps x).getD k 0 := by
  obtain ⟨_, _, h1, h2, _⟩ := ctl_parts h
  unfold lightsC
  rw [h, if_pos rfl]
  refine ⟨by simp, fun k hk => ?_⟩
  rw [lightB_eq h1 h2 hk, List.getD_eq_getElem?_getD, List.getElem?_map, List.getElem?_eq_getElem hk]
  unfold idAt
  rw [pAt_some (List.getElem?_eq_getElem hk)]
  rfl
theorem lights_off {ps : List Pth} {x : Ctl} (h : isCtl ps x = false) : lightsC ps x = [] := by unfold lightsC; rw [h]; rfl
set_option maxHeartbeats 4000000 in
set_option maxRecDepth 100000 in
theorem impl_LightsOf {w : World} {A : Option Addr} {n c : Nat} {ps : List Pth} {A2 : Option Addr} {n2 c2 : Nat} {A3 : Option Addr} {n3 c3 : Nat} {x : Ctl} (I : CtlIn w A n c ps A2 n2 c2 A3 n3 c3 x) (hw : Brus w) (ht : Clrs w) :
    Calls Tryd.prog 52 #[.slice A n c, ctlV (.slice A2 n2 c2) x.since (.slice A3 n3 c3) x.left] w fun e w' => ∃ v, e = .returned v ∧ Own .i64 3 w' w.heap.size v (lightsC ps x) ∧ Below w.heap.size w w' := by
  have hmf : ∀ (fn : Fn) (first cap : Array Value) (w : World), (Instr.makeFunc fn first cap).run Tryd.prog w = .ok (.func fn first cap) w := fun _ _ _ _ => rfl
  obtain ⟨wA, hwA⟩ : ∃ wA, wA = w.alloc (.cells #[.slice A2 n2 c2, .int .i64 x.since, .slice A3 n3 c3, .int .i64 x.left] 61) := ⟨_, rfl⟩
  obtain ⟨hk, hsz, hbA⟩ := one_block hwA
  have HC := impl_machineOf (I.below hbA) (hw.below hbA (Nat.le_refl _)) (ht.below hbA (Nat.le_refl _))
  have HBA := Lib.hid hbA
  cases hr : isCtl ps x
  · obtain ⟨A', n', c', f, st, nx, s, l, hv⟩ := machV_off (A := A) (n := n) (c := c) hr
    have HR := Lib.hid (lights_off hr)
    rw [hv] at HC
    simp only [ctlV] at HC ⊢
    unfold t17 at HC
    have HCC := Lib.hid HC
    clear hk hsz hbA HC hv I hw ht hr
    go_enter Tryd.func52, Tryd.ntmps52
    go_wp2_with fail
    rw [← hwA]
    clear hwA
    refine HCC.out.mono ?_
    rintro e w1 ⟨rfl, hb1⟩
    have HB1 := Lib.hid (HBA.out.trans (hb1.mono HBA.out.size))
    clear hb1
    go_wp2
    go_ret
    have ho := own_bare .i64 3 (w1.alloc (.cells (t17 A' n' c' f st nx s l) 126))
    rw [heap_size_allocF] at ho
    have hbz := (HB1.out.alloc HB1.out.size (.cells (t17 A' n' c' f st nx s l) 126)).alloc (by have := HB1.out.size; simp; omega) (.cells #[] 3)
    have hz := HB1.out.size
    exact ⟨_, rfl, by rw [HR.out]; exact ho.mono (by omega), hbz⟩
  · have hv := machV_on (A := A) (n := n) (c := c) hr
    obtain ⟨hll, hlv⟩ := lights_on hr
    obtain ⟨ha, _, h1, h2, _⟩ := ctl_parts hr
    have hlp := I.p.len
    have h12 : n ≤ 12 := by have := arePs_len12 ha; omega
    have hm1 := maskL_lt ps x.stage (by omega)
    have hm2 := maskL_lt ps x.next (by omega)
    rw [hlp] at hll hlv
    have HLS := Lib.hid (fun g y hr hg => impl_listLts A n c (rowSt ps n 0) (maskL ps x.stage) (maskL ps x.next) x.since x.left g hm1 hm2 h12 (lightsC ps x) hll hlv y hr hg)
    rw [hv, ← t17_list] at HC
    have hL := m17_len A n c (rowSt ps n 0) (maskL ps x.stage) (maskL ps x.next) x.since x.left
    have HON := Lib.hid (all_oneCell_toArray (m17_one A n c (rowSt ps n 0) (maskL ps x.stage) (maskL ps x.next) x.since x.left))
    simp only [ctlV] at HC ⊢
    have HCC := Lib.hid HC
    generalize m17 A n c (rowSt ps n 0) (maskL ps x.stage) (maskL ps x.next) x.since x.left = ms at *
    have HIA : Hid ((Tryd.prog.info? 126).map (·.size) = some ms.toArray.size) := Lib.hid (by rw [List.size_toArray, hL]; exact info_mach)
    generalize lightsC ps x = zs at *
    clear hk hsz hbA HC hv I hw ht hr ha h1 h2 hm1 hm2 hll hlv
    go_enter Tryd.func52, Tryd.ntmps52
    go_wp2_with fail
    rw [← hwA]
    clear hwA
    refine HCC.out.mono ?_
    rintro e w1 ⟨rfl, hb1⟩
    have HB1 := Lib.hid (HBA.out.trans (hb1.mono HBA.out.size))
    have HTH := Lib.hid (there_block (heap_alloc_new w1 (.cells #[.slice none 0 0, .int .u16 0, .int .u16 0, .int .u16 0, .int .u16 0, .int .u16 0, .int .u16 0, .int .u16 0, .int .u16 0, .int .u16 0, .int .u16 0, .int .u16 0, .int .u16 0, .int .u16 0, .int .u16 0, .int .i64 0, .int .i64 0] 126)) ms.toArray.size (by simp [hL]))
    obtain ⟨wz, hwz⟩ : ∃ wz, wz = w1.alloc (.cells #[.slice none 0 0, .int .u16 0, .int .u16 0, .int .u16 0, .int .u16 0, .int .u16 0, .int .u16 0, .int .u16 0, .int .u16 0, .int .u16 0, .int .u16 0, .int .u16 0, .int .u16 0, .int .u16 0, .int .u16 0, .int .i64 0, .int .i64 0] 126) := ⟨_, rfl⟩
    obtain ⟨w2, hw2⟩ : ∃ w2, w2 = wz.setCells w1.heap.size 0 ms := ⟨_, rfl⟩
    have hrg : w2.rangeAt w1.heap.size 0 ms := by rw [hw2, hwz]; exact World.rangeAt_setCells_same _ _ _ _ (by have := HTH.out; simpa using this)
    have HRG := Lib.hid hrg
    have HB2 : Hid (Below w.heap.size w w2) := Lib.hid (by rw [hw2, hwz]; exact below_setCells _ (by have := HB1.out.size; exact this) _ _ _ (HB1.out.alloc HB1.out.size _))
    have HE2 : Hid ((w1.alloc (.cells #[.slice none 0 0, .int .u16 0, .int .u16 0, .int .u16 0, .int .u16 0, .int .u16 0, .int .u16 0, .int .u16 0, .int .u16 0, .int .u16 0, .int .u16 0, .int .u16 0, .int .u16 0, .int .u16 0, .int .u16 0, .int .i64 0, .int .i64 0] 126)).setCells w1.heap.size 0 ms.toArray.toList = w2) := Lib.hid (by rw [hw2, hwz])
    have hlt2 : w1.heap.size < w2.heap.size := World.block_lt_of_cell? _ _ (hrg 0 (ms[0]'(by omega)) (List.getElem?_eq_getElem _))
    clear hb1 hwz hw2 hrg
    go_wp2_with ((with_reducible show wpList _ _ _ _ _ _); refine wpList_store_mid rfl 126 _ _ rfl w1.heap.size 0 ms.toArray rfl rfl HTH.out HIA.out HON.out ?_; rw [HE2.out])
    refine (HLS.out _ _ HRG.out hlt2).mono ?_
    rintro e w3 ⟨v, rfl, hv, hb3⟩
    have HB3 := Lib.hid (HB2.out.trans (hb3.mono HB2.out.size))
    have HV3 := Lib.hid (hv.mono HB2.out.size)
    clear hb3 hv
    go_wp2
    go_ret
    exact ⟨_, rfl, HV3.out, HB3.out⟩
end Go.Proofs.YtcbccbefkpklkaaDoor

/- A controller's rows marked: what the laws' helper does. -/
namespace Go.Proofs.YtcbccbefkpklkaaDoor
open Go.RowKit
set_option linter.unusedVariables false

set_option maxHeartbeats 4000000 in
theorem mark_ctl (x0 x1 : Int) (A : Option Addr) (n c : Nat) (zs : List Int) (A2 : Option Addr) (n2 c2 lo hi s : Nat) (zs2 : List Int) (w : World) (h : Ow .i64 3 w lo hi (.slice A n c) zs) (h2 : Ow .i64 3 w lo hi (.slice A2 n2 c2) zs2) (hap : ∀ g, (Value.slice A n c).ownBlock = some g → (Value.slice A2 n2 c2).ownBlock ≠ some g) (hn : n ≤ 1048576) (hn2 : n2 ≤ 1048576) (hs : s ≤ 16777216) :
    Calls Tryd.prog 53 #[ctlV (.slice A n c) x0 (.slice A2 n2 c2) x1, .int .i64 s] w fun e w' => e = .returned (.int .i64 ((s + n + n2 : Nat) : Int)) ∧ Part lo hi w w' := by
  simp only [ctlV]
  obtain ⟨wA, hwA⟩ : ∃ wA, wA = w.alloc (.cells #[.slice A n c, .int .i64 x0, .slice A2 n2 c2, .int .i64 x1] 61) := ⟨_, rfl⟩
  obtain ⟨hk, hsz, hB⟩ := one_block hwA
  have hcc := mark_i64 A n c lo s zs wA (h.below hB).own (by omega) (by omega)
  have HO2 := Lib.hid (h2.below hB)
  have HK := Lib.hid hk
  have HT := Lib.hid h.top
  have HL := Lib.hid h.lt
  have HL2 := Lib.hid h2.lt
  have hlo := h.own.block
  have hlo2 := h2.own.block
  have HLO := Lib.hid hlo
  have HLO2 := Lib.hid hlo2
  have HAP := Lib.hid hap
  have HSZ := Lib.hid (show wA.heap.size = w.heap.size + 1 by omega)
  have HB := Lib.hid hB
  obtain ⟨k0, k1, k2, k3⟩ := cells4 hk
  clear hk hsz hB h h2 hlo hlo2 hap
  go_enter Tryd.func53, Tryd.ntmps53
  go_wp2_with fail
  rw [← hwA]
  refine hcc.mono ?_
  rintro e w1 ⟨rfl, ho, hg⟩
  have hk1 : w1.heap[w.heap.size]? = wA.heap[w.heap.size]? := hg.block _ (by have := HSZ.out; omega) (fun e => by have := HL.out _ e.symm; have := HT.out; omega)
  replace hk1 := hk1.trans HK.out
  have hcc2 := mark_i64 A2 n2 c2 lo (s + n) zs2 w1 (HO2.out.own.grown hg (fun g e e' => HAP.out g e' e)) (by omega) (by omega)
  have HG := Lib.hid hg
  clear hwA k0 k1 k2 k3 ho hg
  obtain ⟨k0, k1, k2, k3⟩ := cells4 hk1
  go_wp2_with fail
  refine hcc2.mono ?_
  rintro e w2 ⟨rfl, ho2, hg2⟩
  clear k0 k1 k2 k3
  go_wp2
  go_ret
  refine ⟨rfl, ⟨hg2.os.trans (HG.out.os.trans HB.out.os), hg2.tape.trans (HG.out.tape.trans HB.out.tape), hg2.output.trans (HG.out.output.trans HB.out.output), Nat.le_trans HB.out.size (Nat.le_trans HG.out.size hg2.size), fun i hi' hd => ?_⟩⟩
  have e1 : w2.heap[i]? = w1.heap[i]? := hg2.block i (Nat.lt_of_lt_of_le hi' (Nat.le_trans HB.out.size HG.out.size)) (fun e => by have := HL2.out _ e.symm; have := (HLO2.out _ e.symm).1; omega)
  have e2 : w1.heap[i]? = wA.heap[i]? := HG.out.block i (Nat.lt_of_lt_of_le hi' HB.out.size) (fun e => by have := HL.out _ e.symm; have := (HLO.out _ e.symm).1; omega)
  exact e1.trans (e2.trans (HB.out.block i hi'))
end Go.Proofs.YtcbccbefkpklkaaDoor
