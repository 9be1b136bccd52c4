/- Chapter 19: Visible: program and model. -/
import Derived.Test.YtdlcjmdkafebpaaLps
import Derived.Test.YtdlcjmdkafebpaaGrow
import Derived.Test.YtdlcjmdkafebpaaFlat
namespace Go.Proofs.Ytdlcjmdkafebpaa
open Go.RowKit Go.Maps
set_option linter.unusedVariables false

/-- what is seen of a light of a path. -/
def seenV (zs : List Lmp) (id n : Int) : Int := if inB n 0 1 && brkL zs id n then -1 else n
def visZ (ps : List Pth) (zs : List Lmp) (ls : List Int) : List Int := List.zipWith (fun p n => seenV zs p.id n) ps ls
/-- what Visible answers. -/
def visL (ps : List Pth) (zs : List Lmp) (ls : List Int) : List Int := if ls.length = ps.length then visZ ps zs ls else []
theorem visZ_get {ps : List Pth} {zs : List Lmp} {ls : List Int} {k : Nat} {p : Pth} {z : Int} (hp : ps[k]? = some p) (hz : ls[k]? = some z) : (visZ ps zs ls)[k]? = some (seenV zs p.id z) := by
  unfold visZ
  rw [List.getElem?_zipWith, hp, hz]
theorem visZ_len {ps : List Pth} {zs : List Lmp} {ls : List Int} (h : ls.length = ps.length) : (visZ ps zs ls).length = ps.length := by unfold visZ; rw [List.length_zipWith]; omega
theorem visL_length (ps : List Pth) (zs : List Lmp) (ls : List Int) : (visL ps zs ls).length ≤ ps.length := by
  unfold visL
  split
  · next h => rw [visZ_len h]; exact Nat.le_refl _
  · exact Nat.zero_le _
set_option maxRecDepth 100000 in
theorem impl_seen (b : Nat) (zs : List Lmp) (id n : Int) (w : World) (h : TabAt w b zs) (wa : (Lit.int .i64 id).wf = true) (wb : (Lit.int .i64 n).wf = true) :
    Calls Try.prog 96 #[.map (some b), .int .i64 id, .int .i64 n] w fun e w' => e = .returned (.int .i64 (seenV zs id n)) ∧ w = w' := by
  obtain ⟨l, hkey⟩ := lk_key id n wa wb
  obtain ⟨D, hown, htab⟩ := h
  have hrun := ownsMap_lookup_bool hown lk_law Try.underlying112 Try.underlying4 (lk_zero _) hkey (htab.2.1 _ _ _ hkey).1
  have hic := impl_isColour n w
  unfold seenV
  clear hown htab
  generalize brkL zs id n = q at *
  cases h1 : inB n 0 1
  · rw [h1] at hic
    clear h1
    go_enter Try.func96, Try.ntmps96
    go_wp2_with fail
    refine hic.mono ?_
    rintro e w1 ⟨rfl, rfl⟩
    go_wp2
    go_ret
    exact ⟨rfl, rfl⟩
  · rw [h1] at hic
    clear h1
    cases q
    all_goals
      go_enter Try.func96, Try.ntmps96
      go_wp2_with fail
      refine hic.mono ?_
      rintro e w1 ⟨rfl, rfl⟩
      go_wp2
      go_ret
      exact ⟨rfl, rfl⟩
set_option maxHeartbeats 1000000 in
theorem impl_Visible1 (g1 g2 g3 b : Nat) (A : Option Addr) (n c B : Nat) (ps : List Pth) (zs : List Lmp) (A2 : Option Addr) (c2 B2 : Nat) (ls : List Int) (k : Nat) (p : Pth) (z : Int) (w : World)
    (t1 : w.cell? ⟨g1, 0, none⟩ = some (.map (some b))) (t2 : w.cell? ⟨g2, 0, none⟩ = some (.slice A n c)) (t3 : w.cell? ⟨g3, 0, none⟩ = some (.slice A2 n c2)) (l1 : g1 < w.heap.size) (l2 : g2 < w.heap.size) (l3 : g3 < w.heap.size)
    (ht : TabAt w b zs) (h : PthsAt w B A n ps) (h2 : IntsAt .i64 w B2 A2 n ls) (hB : B ≤ w.heap.size) (hB2 : B2 ≤ w.heap.size) (hn : n ≤ 4294967296) (hk : k < n) (hp : ps[k]? = some p) (hz : ls[k]? = some z) (wp : (Lit.int .i64 p.id).wf = true) (wz : (Lit.int .i64 z).wf = true) :
    Calls Try.prog 95 #[.int .i64 k, .pointer (some ⟨g1, 0, none⟩), .pointer (some ⟨g2, 0, none⟩), .pointer (some ⟨g3, 0, none⟩)] w fun e w' => e = .returned (.int .i64 (seenV zs p.id z)) ∧ Below w.heap.size w w' := by
  obtain ⟨ad, p', rfl, hab, hp', hq⟩ := h.at hk
  rw [hp] at hp'
  injection hp' with hp'
  subst hp'
  obtain ⟨ad2, rfl, hab2, hcell⟩ := h2.2 (by omega)
  have hc := hcell k hk
  rw [show ls.getD k 0 = z by rw [List.getD_eq_getElem?_getD, hz]; rfl] at hc
  have i1 : (0 : Int) ≤ (k : Int) := by omega
  have i2 : (k : Int) < (n : Int) := by omega
  have y1 := fun y : GW w => (y.ok.cell (p := ⟨g1, 0, none⟩) l1).trans t1
  have y2 := fun y : GW w => (y.ok.cell (p := ⟨g2, 0, none⟩) l2).trans t2
  have y3 := fun y : GW w => (y.ok.cell (p := ⟨g3, 0, none⟩) l3).trans t3
  have y4 := fun y : GW w => (hq.below y.ok (by omega)).c0
  have y5 := fun y : GW w => (y.ok.cell (p := ad2.add k) (by rw [add_block]; omega)).trans hc
  have hss := fun y : GW w => impl_seen b zs p.id z y.val (ht.below y.ok) wp wz
  generalize seenV zs p.id z = r at *
  clear h h2 hq hc hcell ht t1 t2 t3 hp hz
  go_enter Try.func95, Try.ntmps95
  go_wp2
  refine wp_region_grow (by kernel_rfl) (by kernel_rfl) ?_
  repeat (go_big_quiet_step (first | (go_at_call 96; exact calls_gw_same _ (hss _))))
  refine wpQuiet_nil ?_
  intro x3
  have hb3 := x3.ok
  generalize x3.val = w3 at *
  go_wp2
  go_ret
  exact ⟨rfl, hb3⟩
set_option maxHeartbeats 1000000 in
theorem impl_listVis (g1 g2 g3 b : Nat) (A : Option Addr) (n c B : Nat) (ps : List Pth) (zs : List Lmp) (A2 : Option Addr) (c2 B2 : Nat) (ls : List Int) (w : World)
    (t1 : w.cell? ⟨g1, 0, none⟩ = some (.map (some b))) (t2 : w.cell? ⟨g2, 0, none⟩ = some (.slice A n c)) (t3 : w.cell? ⟨g3, 0, none⟩ = some (.slice A2 n c2)) (l1 : g1 < w.heap.size) (l2 : g2 < w.heap.size) (l3 : g3 < w.heap.size)
    (ht : TabAt w b zs) (h : PthsAt w B A n ps) (h2 : IntsAt .i64 w B2 A2 n ls) (hB : B ≤ w.heap.size) (hB2 : B2 ≤ w.heap.size) (hn : n ≤ 4294967296) (wps : ∀ p ∈ ps, p.wf) (wls : ∀ z ∈ ls, (Lit.int .i64 z).wf = true) :
    Calls Try.prog 94 #[.int .i64 n, .func (.func 95) #[] #[.pointer (some ⟨g1, 0, none⟩), .pointer (some ⟨g2, 0, none⟩), .pointer (some ⟨g3, 0, none⟩)]] w fun e w' => ∃ v, e = .returned v ∧ Own .i64 3 w' w.heap.size v (visZ ps zs ls) ∧ Below w.heap.size w w' := by
  have hl := h.1
  have hl2 := h2.1
  have HLEN := Lib.hid (show (visZ ps zs ls).length = n by rw [visZ_len (by omega), hl])
  have HT1 := Lib.hid t1
  have HT2 := Lib.hid t2
  have HT3 := Lib.hid t3
  have HTT := Lib.hid ht
  have HH := Lib.hid h
  have HH2 := Lib.hid h2
  clear t1 t2 t3 ht h h2
  go_enter Try.func94, Try.ntmps94
  go_wp2_with ((with_reducible show wpList _ _ _ _ _ _); refine wpList_mk rfl _ _ _ rfl .i64 3 _ Try.underlying22 info_i64 (by decide) (n : Int) (n : Int) n rfl rfl rfl rfl (by omega) ?_; intro w1 hown hgrow)
  go_loopw [11] (fun i wr => ∃ k : Nat, k ≤ n ∧ i = .int .i64 k ∧ Own .i64 3 wr w.heap.size (.slice (some ⟨w.heap.size, 0, none⟩) n n) ((visZ ps zs ls).take k ++ (List.replicate n 0).drop k) ∧ Below w.heap.size w wr) (fun i _ => n - (intOf i).toNat)
  case atStart => exact ⟨0, Nat.zero_le _, rfl, by simpa using hown, below_grown hgrow⟩
  case round =>
    obtain ⟨k, hk, rfl, hown, hbl⟩ := hrel
    have hsz := hbl.size
    by_cases hlt : k < n
    · obtain ⟨p, hp⟩ : ∃ p, ps[k]? = some p := ⟨ps[k]'(by omega), List.getElem?_eq_getElem (by omega)⟩
      obtain ⟨z, hz⟩ : ∃ z, ls[k]? = some z := ⟨ls[k]'(by omega), List.getElem?_eq_getElem (by omega)⟩
      have hcc := impl_Visible1 g1 g2 g3 b A n c B ps zs A2 c2 B2 ls k p z wr ((hbl.cell (p := ⟨g1, 0, none⟩) l1).trans HT1.out) ((hbl.cell (p := ⟨g2, 0, none⟩) l2).trans HT2.out) ((hbl.cell (p := ⟨g3, 0, none⟩) l3).trans HT3.out) (by omega) (by omega) (by omega) (HTT.out.below hbl) (HH.out.below (hbl.mono hB)) (HH2.out.keep fun p hp => hbl.cell (Nat.lt_of_lt_of_le hp hB2)) (Nat.le_trans hB hsz) (Nat.le_trans hB2 hsz) hn hlt hp hz (wps p (List.mem_of_getElem? hp)).1 (wls z (List.mem_of_getElem? hz))
      have HG := Lib.hid (visZ_get (zs := zs) hp hz)
      generalize seenV zs p.id z = r at *
      have i1 : (0 : Int) ≤ (k : Int) := by omega
      have i2 : (k : Int) < (n : Int) := by omega
      have HOW := Lib.hid hown
      have HBL := Lib.hid hbl
      clear hown hbl hp hz
      go_wp2_with fail
      refine hcc.mono ?_
      rintro e w2 ⟨rfl, hb2⟩
      have hown2 := HOW.out.below hb2
      have hf := hown2.free k
      have hc2 := hown2.cell k (by simp; have := HLEN.out; omega)
      have hs := hown2.stored k r
      rw [set_prefix (by simp; omega) (by rw [List.getD_eq_getElem?_getD, HG.out]; rfl) (by rw [HLEN.out]; omega)] at hs
      have HS := Lib.hid hs
      have HB2 := Lib.hid (HBL.out.trans (hb2.mono HBL.out.size))
      clear hown2 hs hb2 hcc
      go_wp2
      go_roundw
      case rel => exact ⟨k + 1, by omega, by go_num, HS.out, HB2.out.setCell (Nat.le_refl _) _⟩
      case measure => simp [intOf]; omega
    · obtain rfl : k = n := by omega
      rw [take_all HLEN.out _ (by simp)] at hown
      have HOW := Lib.hid hown
      clear hown
      go_wp2
      go_ret
      exact ⟨_, rfl, HOW.out, hbl⟩
set_option maxHeartbeats 1000000 in
theorem impl_Visible (A : Option Addr) (n c B : Nat) (ps : List Pth) (A1 : Option Addr) (n1 c1 B1 : Nat) (zs : List Lmp) (A2 : Option Addr) (m c2 B2 : Nat) (ls : List Int) (w : World)
    (h : PthsAt w B A n ps) (h1 : LmpsAt w B1 A1 n1 zs) (h2 : IntsAt .i64 w B2 A2 m ls) (hB : B ≤ w.heap.size) (hB1 : B1 ≤ w.heap.size) (hB2 : B2 ≤ w.heap.size) (hn : n ≤ 4294967296) (hn1 : n1 ≤ 4294967296) (hn2 : m ≤ 4294967296) (wps : ∀ p ∈ ps, p.wf) (wzs : ∀ p ∈ zs, p.wf) (wls : ∀ z ∈ ls, (Lit.int .i64 z).wf = true) :
    Calls Try.prog 36 #[.slice A n c, .slice A1 n1 c1, .slice A2 m c2] w fun e w' => ∃ v, e = .returned v ∧ Own .i64 3 w' w.heap.size v (visL ps zs ls) ∧ Below w.heap.size w w' := by
  obtain ⟨wA, hwA⟩ : ∃ wA, wA = (w.alloc (.cells #[.slice A n c] 43)).alloc (.cells #[.slice A2 m c2] 22) := ⟨_, rfl⟩
  obtain ⟨hk1, hk2, hsz, hBl⟩ := two_blocks hwA
  have b1 : wA.cell? ⟨w.heap.size, 0, none⟩ = some (.slice A n c) := by rw [cell_of_row wA _ 0 _ _ _ hk1]; rfl
  have b2 : wA.cell? ⟨w.heap.size + 1, 0, none⟩ = some (.slice A2 m c2) := by rw [cell_of_row wA _ 0 _ _ _ hk2]; rfl
  have hl := h.1
  have hl2 := h2.1
  have HBA := Lib.hid hBl
  have HK1 := Lib.hid hk1
  have HK2 := Lib.hid hk2
  by_cases e : m = n
  · subst e
    have HV : Hid (visL ps zs ls = visZ ps zs ls) := Lib.hid (by unfold visL; rw [if_pos (by omega)])
    have hcc := impl_lampTableOf A1 n1 c1 B1 zs wA (h1.below (hBl.mono hB1)) (by omega) hn1 wzs
    clear hk1 hk2 hBl h1
    go_enter Try.func36, Try.ntmps36
    go_wp2_with fail
    rw [← hwA]
    clear hwA
    go_wp2_with fail
    refine hcc.mono ?_
    rintro e w1 ⟨b0, rfl, ht, hb1⟩
    obtain ⟨w2, hw2⟩ : ∃ w2, w2 = w1.alloc (.cells #[.map (some b0)] 112) := ⟨_, rfl⟩
    obtain ⟨hk3, hsz2, hB2l⟩ := one_block hw2
    have hsz1 := hb1.size
    have acc1 := hb1.trans (hB2l.mono hsz1)
    have acc := HBA.out.trans (acc1.mono (by omega))
    have b3 : w2.cell? ⟨w1.heap.size, 0, none⟩ = some (.map (some b0)) := by rw [cell_of_row w2 _ 0 _ _ _ hk3]; rfl
    have d1 := (acc1.cell (p := ⟨w.heap.size, 0, none⟩) (by simp only; omega)).trans b1
    have d2 := (acc1.cell (p := ⟨w.heap.size + 1, 0, none⟩) (by simp only; omega)).trans b2
    have b1' := (hb1.cell (p := ⟨w.heap.size, 0, none⟩) (by simp only; omega)).trans b1
    have hll := impl_listVis w1.heap.size w.heap.size (w.heap.size + 1) b0 A m c B ps zs A2 c2 B2 ls w2 b3 d1 d2 (by omega) (by omega) (by omega) (ht.below hB2l) (h.below (acc.mono hB)) (h2.keep fun p hp => acc.cell (Nat.lt_of_lt_of_le hp hB2)) (by omega) (by omega) hn wps wls
    have HACC := Lib.hid acc
    clear hk3 hB2l hb1 acc1 acc ht b1 b2 b3 hcc h h2
    have lt1 : w.heap.size < w1.heap.size := by omega
    have lt2 : w.heap.size + 1 < w1.heap.size := by omega
    go_wp2_with fail
    rw [← hw2]
    clear hw2
    go_wp2_with fail
    refine hll.mono ?_
    rintro e w3 ⟨v, rfl, ho, hb3⟩
    have HO := Lib.hid (ho.mono (show w.heap.size ≤ w2.heap.size by omega))
    have HB3 := Lib.hid (HACC.out.trans (hb3.mono (by omega)))
    clear ho hb3 hll d1 d2
    go_wp2
    go_ret
    exact ⟨_, rfl, by rw [HV.out]; exact HO.out, HB3.out⟩
  · have HV : Hid (visL ps zs ls = []) := Lib.hid (by unfold visL; rw [if_neg (by omega)])
    have e1 : ((m : Int) != (n : Int)) = true := by simp; omega
    have HOB := own_bare .i64 3 wA
    clear hk1 hk2 hBl h1 h2 h
    go_enter Try.func36, Try.ntmps36
    go_wp2_with fail
    rw [← hwA]
    clear hwA
    go_wp2
    go_ret
    exact ⟨_, rfl, by rw [HV.out]; have ho := HOB.mono (show w.heap.size ≤ wA.heap.size by omega); rw [hsz] at ho; exact ho, HBA.out.alloc (by omega) _⟩
set_option maxHeartbeats 4000000 in
set_option maxRecDepth 100000 in
theorem spec_Visible (A : Option Addr) (n c B : Nat) (ps : List Pth) (A1 : Option Addr) (n1 c1 B1 : Nat) (zs : List Lmp) (A2 : Option Addr) (m c2 B2 : Nat) (ls : List Int) (w : World)
    (h : PthsAt w B A n ps) (h1 : LmpsAt w B1 A1 n1 zs) (h2 : IntsAt .i64 w B2 A2 m ls) (hB : B ≤ w.heap.size) (hB1 : B1 ≤ w.heap.size) (hB2 : B2 ≤ w.heap.size) (hn : n ≤ 4294967296) (hn1 : n1 ≤ 4294967296) (hn2 : m ≤ 4294967296) :
    Calls Try.prog 34 #[.slice A n c, .slice A1 n1 c1, .slice A2 m c2] w fun e w' => ∃ v, e = .returned v ∧ Own .i64 3 w' w.heap.size v (visL ps zs ls) ∧ Below w.heap.size w w' := by
  have own0 := own_bare .i64 3 w
  have hb0 : Below w.heap.size w (w.alloc (.cells #[] 3)) := (Below.refl _ _).alloc (Nat.le_refl _) _
  have hl := h.1
  have hl2 := h2.1
  by_cases e : m = n
  rotate_left
  · have HV : Hid (visL ps zs ls = []) := Lib.hid (by unfold visL; rw [if_neg (by omega)])
    have e1 : ((m : Int) == (n : Int)) = false := by simp; omega
    clear hl hl2 h h1 h2
    go_enter Try.func34, Try.ntmps34
    go_wp2
    go_loopw [7, 8] (fun v i wr => i = .int .i64 0 ∧ Own .i64 3 wr w.heap.size v [] ∧ Below w.heap.size w wr) (fun _ i _ => 0)
    case atStart => exact ⟨rfl, own0, hb0⟩
    case round =>
      clear own0 hb0
      obtain ⟨rfl, hown, hbl⟩ := hrel
      have HOW := Lib.hid hown
      clear hown
      by_cases h0 : n = 0
      · have h0' : ¬ ((0 : Int) < (n : Int)) := by omega
        clear h0
        go_wp2
        go_ret
        exact ⟨_, rfl, by rw [HV.out]; exact HOW.out, hbl⟩
      · have h0' : ((0 : Int) < (n : Int)) := by omega
        clear h0
        go_wp2
        go_ret
        exact ⟨_, rfl, by rw [HV.out]; exact HOW.out, hbl⟩
  subst e
  have HV : Hid (visL ps zs ls = visZ ps zs ls) := Lib.hid (by unfold visL; rw [if_pos (by omega)])
  have HLEN := Lib.hid (show (visZ ps zs ls).length = m by rw [visZ_len (by omega), hl])
  go_enter Try.func34, Try.ntmps34
  go_wp2
  go_loopw [7, 8] (fun v i wr => ∃ k : Nat, k ≤ m ∧ i = .int .i64 k ∧ Own .i64 3 wr w.heap.size v ((visZ ps zs ls).take k) ∧ Below w.heap.size w wr) (fun _ i _ => m - (intOf i).toNat)
  case atStart => exact ⟨0, Nat.zero_le _, rfl, by simpa using own0, hb0⟩
  case round =>
    clear own0 hb0
    obtain ⟨k, hk, rfl, hown, hbl⟩ := hrel
    have hsz := hbl.size
    by_cases hlt : k < m
    · obtain ⟨ad, p, rfl, hab, hp, hq⟩ := h.at hlt
      obtain ⟨y0, -, -, -⟩ := hq.below hbl (by omega)
      obtain ⟨ad2, rfl, hab2, hcell⟩ := h2.2 (by omega)
      obtain ⟨z, hz⟩ : ∃ z, ls[k]? = some z := ⟨ls[k]'(by omega), List.getElem?_eq_getElem (by omega)⟩
      have y1 := (hbl.cell (p := ad2.add k) (by rw [add_block]; omega)).trans (hcell k hlt)
      rw [show ls.getD k 0 = z by rw [List.getD_eq_getElem?_getD, hz]; rfl] at y1
      have hbr := spec_IsBroken A1 n1 c1 B1 zs p.id z wr (h1.below (hbl.mono hB1)) (Nat.le_trans hB1 hsz) hn1
      have i1 : (0 : Int) ≤ (k : Int) := by omega
      have i2 : (k : Int) < (m : Int) := by omega
      have HS := Lib.hid (show (visZ ps zs ls).take (k + 1) = (visZ ps zs ls).take k ++ [seenV zs p.id z] by rw [List.take_add_one, visZ_get hp hz]; rfl)
      have hlk : ((visZ ps zs ls).take k).length ≤ 4294967296 := by rw [List.length_take]; omega
      generalize (visZ ps zs ls).take k = l at *
      have HOW := Lib.hid hown
      have HBL := Lib.hid hbl
      clear hown hbl hp hz hcell hq
      generalize p.id = id at *
      by_cases e0 : z = 0
      · subst e0
        cases hq : brkL zs id 0
        · rw [hq] at hbr
          have HS2 : Hid ((visZ ps zs ls).take (k + 1) = l ++ [0]) := Lib.hid (by rw [HS.out]; unfold seenV; rw [hq]; rfl)
          clear hq
          go_wp2_with fail
          refine hbr.mono ?_
          rintro e w1 ⟨rfl, hb1⟩
          replace HOW := Lib.hid (HOW.out.below hb1)
          replace HBL := Lib.hid (HBL.out.trans (hb1.mono HBL.out.size))
          clear hb1 hbr y0 y1
          go_wp2_with (at_builtin; refine wpList_app1 rfl _ _ 22 rfl .i64 3 8 Try.underlying22 info_i64 w.heap.size _ l rfl HOW.out (by decide) (by omega) _ _ _ w1.heap.size HBL.out.size rfl (by simp) ?_; intro v4 w4 hown4 hgrow4 hat4)
          have hs4 := HBL.out.size
          have hb4 := HOW.out.push (Nat.le_refl _) (HBL.out.alloc HBL.out.size _) (by simp; omega) hgrow4
          clear hgrow4 hat4
          go_roundw
          case rel => exact ⟨k + 1, by omega, by go_num, by rw [HS2.out]; exact hown4, hb4⟩
          case measure => simp [intOf]; omega
        · rw [hq] at hbr
          have HS2 : Hid ((visZ ps zs ls).take (k + 1) = l ++ [-1]) := Lib.hid (by rw [HS.out]; unfold seenV; rw [hq]; rfl)
          clear hq
          go_wp2_with fail
          refine hbr.mono ?_
          rintro e w1 ⟨rfl, hb1⟩
          replace HOW := Lib.hid (HOW.out.below hb1)
          replace HBL := Lib.hid (HBL.out.trans (hb1.mono HBL.out.size))
          clear hb1 hbr y0 y1
          go_wp2_with (at_builtin; refine wpList_app1 rfl _ _ 22 rfl .i64 3 8 Try.underlying22 info_i64 w.heap.size _ l rfl HOW.out (by decide) (by omega) _ _ _ w1.heap.size HBL.out.size rfl (by simp) ?_; intro v4 w4 hown4 hgrow4 hat4)
          have hs4 := HBL.out.size
          have hb4 := HOW.out.push (Nat.le_refl _) (HBL.out.alloc HBL.out.size _) (by simp; omega) hgrow4
          clear hgrow4 hat4
          go_roundw
          case rel => exact ⟨k + 1, by omega, by go_num, by rw [HS2.out]; exact hown4, hb4⟩
          case measure => simp [intOf]; omega
      by_cases e1 : z = 1
      · subst e1
        cases hq : brkL zs id 1
        · rw [hq] at hbr
          have HS2 : Hid ((visZ ps zs ls).take (k + 1) = l ++ [1]) := Lib.hid (by rw [HS.out]; unfold seenV; rw [hq]; rfl)
          clear hq
          go_wp2_with fail
          refine hbr.mono ?_
          rintro e w1 ⟨rfl, hb1⟩
          replace HOW := Lib.hid (HOW.out.below hb1)
          replace HBL := Lib.hid (HBL.out.trans (hb1.mono HBL.out.size))
          clear hb1 hbr y0 y1
          go_wp2_with (at_builtin; refine wpList_app1 rfl _ _ 22 rfl .i64 3 8 Try.underlying22 info_i64 w.heap.size _ l rfl HOW.out (by decide) (by omega) _ _ _ w1.heap.size HBL.out.size rfl (by simp) ?_; intro v4 w4 hown4 hgrow4 hat4)
          have hs4 := HBL.out.size
          have hb4 := HOW.out.push (Nat.le_refl _) (HBL.out.alloc HBL.out.size _) (by simp; omega) hgrow4
          clear hgrow4 hat4
          go_roundw
          case rel => exact ⟨k + 1, by omega, by go_num, by rw [HS2.out]; exact hown4, hb4⟩
          case measure => simp [intOf]; omega
        · rw [hq] at hbr
          have HS2 : Hid ((visZ ps zs ls).take (k + 1) = l ++ [-1]) := Lib.hid (by rw [HS.out]; unfold seenV; rw [hq]; rfl)
          clear hq
          go_wp2_with fail
          refine hbr.mono ?_
          rintro e w1 ⟨rfl, hb1⟩
          replace HOW := Lib.hid (HOW.out.below hb1)
          replace HBL := Lib.hid (HBL.out.trans (hb1.mono HBL.out.size))
          clear hb1 hbr y0 y1
          go_wp2_with (at_builtin; refine wpList_app1 rfl _ _ 22 rfl .i64 3 8 Try.underlying22 info_i64 w.heap.size _ l rfl HOW.out (by decide) (by omega) _ _ _ w1.heap.size HBL.out.size rfl (by simp) ?_; intro v4 w4 hown4 hgrow4 hat4)
          have hs4 := HBL.out.size
          have hb4 := HOW.out.push (Nat.le_refl _) (HBL.out.alloc HBL.out.size _) (by simp; omega) hgrow4
          clear hgrow4 hat4
          go_roundw
          case rel => exact ⟨k + 1, by omega, by go_num, by rw [HS2.out]; exact hown4, hb4⟩
          case measure => simp [intOf]; omega
      have f0 : (z == (0 : Int)) = false := by simpa using e0
      have f1 : (z == (1 : Int)) = false := by simpa using e1
      have HS2 : Hid ((visZ ps zs ls).take (k + 1) = l ++ [z]) := Lib.hid (by rw [HS.out]; unfold seenV; rw [show inB z 0 1 = false by unfold inB; simp; omega]; rfl)
      clear e0 e1 hbr y0
      go_wp2_with (at_builtin; refine wpList_app1 rfl _ _ 22 rfl .i64 3 8 Try.underlying22 info_i64 w.heap.size _ l rfl HOW.out (by decide) (by omega) _ _ _ wr.heap.size HBL.out.size rfl (by simp) ?_; intro v4 w4 hown4 hgrow4 hat4)
      have hs4 := HBL.out.size
      have hb4 := HOW.out.push (Nat.le_refl _) (HBL.out.alloc HBL.out.size _) (by simp; omega) hgrow4
      clear hgrow4 hat4
      go_roundw
      case rel => exact ⟨k + 1, by omega, by go_num, by rw [HS2.out]; exact hown4, hb4⟩
      case measure => simp [intOf]; omega
    · obtain rfl : k = m := by omega
      rw [List.take_of_length_le (by rw [HLEN.out]; exact Nat.le_refl _)] at hown
      have HOW := Lib.hid hown
      clear hown
      go_wp2
      go_ret
      exact ⟨_, rfl, by rw [HV.out]; exact HOW.out, hbl⟩
end Go.Proofs.Ytdlcjmdkafebpaa
