/- Chapter 19: AreLamps: program and model. -/
import Derived.Test.YtdlcjmdkafebpaaTab
import Derived.Test.YtdlcjmdkafebpaaBrk
import Derived.Test.YtdlcjmdkafebpaaConf2
import Derived.Test.YtdlcjmdkafebpaaConfI
import Derived.Test.YtdlcjmdkafebpaaFindI
import Derived.Test.YtdlcjmdkafebpaaPthM
namespace Go.Proofs.Ytdlcjmdkafebpaa
open Go.RowKit Go.Maps
set_option linter.unusedVariables false

/-- whether a lamp is for a path, and red or green. -/
def forL (ps : List Pth) (x : Lmp) : Bool := decide (¬ findI x.path ps < 0) && inB x.colour 0 1
def goodL (ps : List Pth) (zs : List Lmp) (k : Nat) : Bool := forL ps (lmpA zs k) && !hasL (zs.take k) (lmpA zs k).path (lmpA zs k).colour
/-- what AreLamps answers. -/
def areL (ps : List Pth) (zs : List Lmp) : Bool := arePs ps && (List.range zs.length).all (goodL ps zs)
theorem areL_no {ps : List Pth} {zs : List Lmp} {k : Nat} (hk : k < zs.length) (h : goodL ps zs k = false) : areL ps zs = false := by
  unfold areL
  rw [List.all_eq_false.2 ⟨k, List.mem_range.2 hk, by rw [h]; simp⟩, Bool.and_false]
theorem areL_end {ps : List Pth} {zs : List Lmp} (h : ∀ i, i < zs.length → goodL ps zs i = true) : areL ps zs = arePs ps := by
  unfold areL
  rw [List.all_eq_true.2 (fun i hi => h i (List.mem_range.1 hi)), Bool.and_true]
theorem areL_ps {ps : List Pth} {zs : List Lmp} (h : arePs ps = false) : areL ps zs = false := by unfold areL; rw [h, Bool.false_and]
theorem forL1 {ps : List Pth} {x : Lmp} (h : findI x.path ps < 0) : forL ps x = false := by unfold forL; rw [decide_eq_false (by simpa using h), Bool.false_and]
theorem forL2 {ps : List Pth} {x : Lmp} (h : inB x.colour 0 1 = false) : forL ps x = false := by unfold forL; rw [h, Bool.and_false]
theorem forL3 {ps : List Pth} {x : Lmp} (h1 : ¬ findI x.path ps < 0) (h2 : inB x.colour 0 1 = true) : forL ps x = true := by unfold forL; rw [decide_eq_true h1, h2]; rfl
theorem goodL_bad {ps : List Pth} {zs : List Lmp} {k : Nat} {x : Lmp} (hx : zs[k]? = some x) (h : forL ps x = false) : goodL ps zs k = false := by unfold goodL; rw [lmpA_some hx, h, Bool.false_and]
theorem goodL_ok {ps : List Pth} {zs : List Lmp} {k : Nat} {x : Lmp} (hx : zs[k]? = some x) (h : forL ps x = true) : goodL ps zs k = !hasL (zs.take k) x.path x.colour := by unfold goodL; rw [lmpA_some hx, h, Bool.true_and]
theorem areL_dist {ps : List Pth} {zs : List Lmp} (hp : arePs ps = true) (h : ∀ i, i < zs.length → forL ps (lmpA zs i) = true) : areL ps zs = decide (distL zs zs.length = zs.length) := by
  unfold areL
  rw [hp, Bool.true_and]
  by_cases e : distL zs zs.length = zs.length
  · rw [decide_eq_true e]
    refine List.all_eq_true.2 (fun i hi => ?_)
    have hi := List.mem_range.1 hi
    unfold goodL
    rw [h i hi, (distL_all zs zs.length).1 e i hi]
    rfl
  · rw [decide_eq_false e]
    refine Bool.eq_false_iff.2 fun ht => e ((distL_all zs zs.length).2 fun i hi => ?_)
    have hg := List.all_eq_true.1 ht i (List.mem_range.2 hi)
    unfold goodL at hg
    rw [h i hi, Bool.true_and] at hg
    simpa using hg
set_option maxHeartbeats 4000000 in
set_option maxRecDepth 100000 in
theorem spec_AreLamps (A : Option Addr) (n c B : Nat) (ps : List Pth) (A2 : Option Addr) (n2 c2 B2 : Nat) (zs : List Lmp) (w : World) (h : PthsAt w B A n ps) (h2 : LmpsAt w B2 A2 n2 zs) (hB : B ≤ w.heap.size) (hB2 : B2 ≤ w.heap.size) (hn : n ≤ 4294967296) (hn2 : n2 ≤ 4294967296) :
    Calls Try.prog 28 #[.slice A n c, .slice A2 n2 c2] w fun e w' => e = .returned (.bool (areL ps zs)) ∧ Below w.heap.size w w' := by
  have hl2 := h2.1
  have HEND : Hid ((∀ i, i < n2 → goodL ps zs i = true) → areL ps zs = arePs ps) := Lib.hid (fun hg => by rw [areL_end (fun i hi => hg i (by omega))])
  have HNO : Hid (∀ i, i < n2 → goodL ps zs i = false → areL ps zs = false) := Lib.hid (fun i hi hg => areL_no (by omega) hg)
  clear hl2
  go_enter Try.func28, Try.ntmps28
  go_wp2
  go_loopw [5] (fun i wr => ∃ k : Nat, k ≤ n2 ∧ i = .int .i64 k ∧ (∀ j, j < k → goodL ps zs j = true) ∧ Below w.heap.size w wr) (fun i _ => n2 - (intOf i).toNat)
  case atStart => exact ⟨0, Nat.zero_le _, rfl, fun j hj => absurd hj (by omega), Below.refl _ _⟩
  case round =>
    obtain ⟨k, hk, rfl, hgo, hbl⟩ := hrel
    have hsz := hbl.size
    have HG := Lib.hid hgo
    clear hgo
    by_cases hlt : k < n2
    · obtain ⟨ad, x, rfl, hab, hx, hq⟩ := h2.at hlt
      obtain ⟨c0, c1, c2⟩ := hq.below hbl (by omega)
      have i1 : (0 : Int) ≤ (k : Int) := by omega
      have i2 : (k : Int) < (n2 : Int) := by omega
      have hfp := spec_FindPath A n c B ps x.path wr (h.below (hbl.mono hB)) hn
      have hli := spec_l1In x.colour 0 1 wr
      have HX := Lib.hid hx
      have HA : Hid (forL ps x = false → areL ps zs = false) := Lib.hid (fun e => HNO.out k hlt (goodL_bad hx e))
      have HO : Hid (forL ps x = true → goodL ps zs k = !hasL (zs.take k) x.path x.colour) := Lib.hid (fun e => goodL_ok hx e)
      have HF1 : Hid (findI x.path ps < 0 → forL ps x = false) := Lib.hid forL1
      have HF3 : Hid (¬ findI x.path ps < 0 → inB x.colour 0 1 = true → forL ps x = true) := Lib.hid forL3
      generalize findI x.path ps = fi at *
      clear hx hq
      by_cases hf : fi < 0
      · have HV := Lib.hid (HA.out (HF1.out hf))
        clear HA HO HF1 HF3 hli
        go_wp2_with (go_at_call 84; refine hfp.mono ?_; rintro e w' ⟨rfl, rfl⟩)
        go_ret
        exact ⟨by rw [HV.out]; rfl, hbl⟩
      cases h1 : inB x.colour 0 1
      · have HV := Lib.hid (HA.out (forL2 h1))
        rw [h1] at hli
        clear HA HO HF1 HF3 h1
        go_wp2_with (first | (go_at_call 84; refine hfp.mono ?_; rintro e w' ⟨rfl, rfl⟩) | (go_at_call 85; refine hli.mono ?_; rintro e w' ⟨rfl, rfl⟩))
        go_ret
        exact ⟨by rw [HV.out]; rfl, hbl⟩
      have HO2 := Lib.hid (HO.out (HF3.out hf h1))
      rw [h1] at hli
      clear HA HO HF1 HF3 h1
      go_wp2_with (first | (go_at_call 84; refine hfp.mono ?_; rintro e w' ⟨rfl, rfl⟩) | (go_at_call 85; refine hli.mono ?_; rintro e w' ⟨rfl, rfl⟩))
      clear c0 c1 c2 hli hfp hf
      go_loopw [6] (fun i wq => ∃ m : Nat, m ≤ k ∧ i = .int .i64 m ∧ hasL (zs.take m) x.path x.colour = false ∧ Below w.heap.size w wq) (fun i _ => k - (intOf i).toNat)
      case atStart => exact ⟨0, Nat.zero_le _, rfl, rfl, hbl⟩
      case round =>
        clear hbl
        obtain ⟨m, hm, rfl, hno, hb2⟩ := hrel
        have HN := Lib.hid hno
        clear hno
        by_cases hlt2 : m < k
        · obtain ⟨ad2, y, e, hab2, hy, hqy⟩ := h2.at (k := m) (by omega)
          injection e with e
          subst e
          obtain ⟨ad3, x', e, hab3, hx3, hqx⟩ := h2.at hlt
          injection e with e
          subst e
          obtain rfl : x' = x := by have := HX.out; rw [hx3] at this; exact Option.some.inj this
          obtain ⟨b0, b1, b2⟩ := hqy.below hb2 (by omega)
          obtain ⟨c0, c1, c2⟩ := hqx.below hb2 (by omega)
          have j1 : (0 : Int) ≤ (m : Int) := by omega
          have j2 : (m : Int) < (n2 : Int) := by omega
          have HS := Lib.hid (show hasL (zs.take (m + 1)) x'.path x'.colour = (decide (y.path = x'.path) && decide (y.colour = x'.colour)) by rw [hasL_take hy, HN.out, Bool.false_or])
          have HP : Hid ((decide (y.path = x'.path) && decide (y.colour = x'.colour)) = true → areL ps zs = false) := Lib.hid (fun e => HNO.out k hlt (by
            rw [HO2.out, Bool.not_eq_false']
            refine List.any_eq_true.2 ⟨y, ?_, e⟩
            refine List.mem_of_getElem? (i := m) ?_
            rw [List.getElem?_take, if_pos hlt2, hy]))
          clear hy hqy hqx hx3
          by_cases hf : y.path = x'.path
          · by_cases ht : y.colour = x'.colour
            · have HR := Lib.hid (HP.out (by rw [decide_eq_true hf, decide_eq_true ht]; rfl))
              have e1 : (y.path == x'.path) = true := by simpa using hf
              have e2 : (y.colour == x'.colour) = true := by simpa using ht
              clear hf ht HS HP
              go_wp2
              go_quiet (fail)
              go_wp2
              go_ret
              exact ⟨by rw [HR.out]; rfl, belowN hb2 _⟩
            · have HR := Lib.hid (HS.out.trans (show (decide (y.path = x'.path) && decide (y.colour = x'.colour)) = false by rw [decide_eq_false ht, Bool.and_false]))
              have e1 : (y.path == x'.path) = true := by simpa using hf
              have e2 : (y.colour == x'.colour) = false := by simpa using ht
              clear hf ht HS HP
              go_wp2
              go_quiet (fail)
              go_wp2
              go_roundw
              case rel => exact ⟨m + 1, by omega, by go_num, HR.out, belowN hb2 _⟩
              case measure => simp [intOf]; omega
          · have HR := Lib.hid (HS.out.trans (show (decide (y.path = x'.path) && decide (y.colour = x'.colour)) = false by rw [decide_eq_false hf, Bool.false_and]))
            have e1 : (y.path == x'.path) = false := by simpa using hf
            clear hf HS HP
            go_wp2
            go_quiet (fail)
            go_wp2
            go_roundw
            case rel => exact ⟨m + 1, by omega, by go_num, HR.out, belowN hb2 _⟩
            case measure => simp [intOf]; omega
        · obtain rfl : m = k := by omega
          have HR : Hid (goodL ps zs m = true) := Lib.hid (by rw [HO2.out, HN.out]; rfl)
          have HG2 : Hid (∀ j, j < m + 1 → goodL ps zs j = true) := Lib.hid (fun j hj => by
            by_cases e : j = m
            · subst e; exact HR.out
            · exact HG.out j (by omega))
          go_wp2
          go_roundw
          case rel => exact ⟨m + 1, by omega, by go_num, HG2.out, hb2⟩
          case measure => simp [intOf]; omega
    · obtain rfl : k = n2 := by omega
      have HR := Lib.hid (HEND.out HG.out)
      have hap := spec_ArePaths A n c B ps wr (h.below (hbl.mono hB)) (Nat.le_trans hB hsz) hn
      go_wp2_with fail
      refine hap.mono ?_
      rintro e w1 ⟨rfl, hb1⟩
      go_wp2
      go_ret
      exact ⟨by rw [HR.out]; rfl, hbl.trans (hb1.mono hsz)⟩
theorem impl_isColour (a : Int) (w : World) : Calls Try.prog 90 #[.int .i64 a] w fun e w' => e = .returned (.bool (inB a 0 1)) ∧ w = w' := by
  by_cases h0 : a = 0
  · subst h0
    go_enter Try.func90, Try.ntmps90
    go_wp2
    go_ret
    exact ⟨rfl, rfl⟩
  have e0 : (a == (0 : Int)) = false := by simpa using h0
  by_cases h1 : a = 1
  · subst h1
    go_enter Try.func90, Try.ntmps90
    go_wp2
    go_ret
    exact ⟨rfl, rfl⟩
  have e1 : (a == (1 : Int)) = false := by simpa using h1
  have HV : Hid (inB a 0 1 = false) := Lib.hid (by unfold inB; simp; omega)
  clear h0 h1
  go_enter Try.func90, Try.ntmps90
  go_wp2
  go_ret
  exact ⟨by rw [HV.out]; rfl, rfl⟩
set_option maxHeartbeats 4000000 in
set_option maxRecDepth 100000 in
theorem impl_AreLamps (A : Option Addr) (n c B : Nat) (ps : List Pth) (A2 : Option Addr) (n2 c2 B2 : Nat) (zs : List Lmp) (w : World) (h : PthsAt w B A n ps) (h2 : LmpsAt w B2 A2 n2 zs) (hB : B ≤ w.heap.size) (hB2 : B2 ≤ w.heap.size) (hn : n ≤ 4294967296) (hn2 : n2 ≤ 4294967296) (hw : ∀ z ∈ zs, z.wf) :
    Calls Try.prog 30 #[.slice A n c, .slice A2 n2 c2] w fun e w' => e = .returned (.bool (areL ps zs)) ∧ Below w.heap.size w w' := by
  have hl2 := h2.1
  have hap := impl_ArePaths A n c B ps w h hB hn
  cases hs : arePs ps
  · have HV := Lib.hid (areL_ps (zs := zs) hs)
    rw [hs] at hap
    clear hs
    go_enter Try.func30, Try.ntmps30
    go_wp2_with fail
    refine hap.mono ?_
    rintro e w1 ⟨rfl, hb1⟩
    go_wp2
    go_ret
    exact ⟨by rw [HV.out]; rfl, hb1⟩
  have HEND : Hid ((∀ i, i < n2 → forL ps (lmpA zs i) = true) → areL ps zs = decide (distL zs zs.length = zs.length)) := Lib.hid (fun hg => areL_dist hs (fun i hi => hg i (by omega)))
  have HNO : Hid (∀ i x, zs[i]? = some x → forL ps x = false → areL ps zs = false) := Lib.hid (fun i x hx hg => areL_no (List.getElem?_eq_some_iff.1 hx).1 (goodL_bad hx hg))
  rw [hs] at hap
  have HL := Lib.hid hl2
  clear hs hl2
  go_enter Try.func30, Try.ntmps30
  go_wp2_with fail
  refine hap.mono ?_
  rintro e w1 ⟨rfl, hb1⟩
  clear hap
  go_wp2
  go_loopw [12] (fun i wr => ∃ k : Nat, k ≤ n2 ∧ i = .int .i64 k ∧ (∀ j, j < k → forL ps (lmpA zs j) = true) ∧ Below w.heap.size w wr) (fun i _ => n2 - (intOf i).toNat)
  case atStart => exact ⟨0, Nat.zero_le _, rfl, fun j hj => absurd hj (by omega), hb1⟩
  case round =>
    clear hb1
    obtain ⟨k, hk, rfl, hgo, hbl⟩ := hrel
    have hsz := hbl.size
    have HG := Lib.hid hgo
    clear hgo
    by_cases hlt : k < n2
    · obtain ⟨ad, x, rfl, hab, hx, hq⟩ := h2.at hlt
      obtain ⟨c0, c1, c2⟩ := hq.below hbl (by omega)
      have i1 : (0 : Int) ≤ (k : Int) := by omega
      have i2 : (k : Int) < (n2 : Int) := by omega
      obtain ⟨wA, hwA⟩ : ∃ wA, wA = wr.alloc (.cells #[.int .i64 x.path, .int .i64 x.colour, .bool x.broken] 108) := ⟨_, rfl⟩
      obtain ⟨hk0, hszA, hBA⟩ := one_block hwA
      have bx : LmpAt wA ⟨wr.heap.size, 0, none⟩ x := lmp_of_block hk0
      have ltx : wr.heap.size < wA.heap.size := by omega
      have acc := hbl.trans (hBA.mono hsz)
      have hfp := impl_FindPath A n c B ps x.path wA (h.below (acc.mono hB)) (Nat.le_trans hB acc.size) hn
      have hli := fun w => impl_isColour x.colour w
      have HX := Lib.hid hx
      have HA : Hid (forL ps x = false → areL ps zs = false) := Lib.hid (fun e => HNO.out k x hx e)
      have HF1 : Hid (findI x.path ps < 0 → forL ps x = false) := Lib.hid forL1
      have HF3 : Hid (¬ findI x.path ps < 0 → inB x.colour 0 1 = true → forL ps x = true) := Lib.hid forL3
      have HBX := Lib.hid bx
      have HACC := Lib.hid acc
      obtain ⟨x0, x1, x2⟩ := lmp_head bx
      generalize findI x.path ps = fi at *
      clear hx hq bx acc hk0 hBA
      by_cases hf : fi < 0
      · have HV := Lib.hid (HA.out (HF1.out hf))
        clear HA HF1 HF3 hli
        go_wp2_with fail
        rw [← hwA]
        clear hwA c0 c1 c2
        go_wp2_with fail
        refine hfp.mono ?_
        rintro e w2 ⟨rfl, hb2⟩
        go_wp2
        go_ret
        exact ⟨by rw [HV.out]; rfl, HACC.out.trans (hb2.mono HACC.out.size)⟩
      cases h1 : inB x.colour 0 1
      · have HV := Lib.hid (HA.out (forL2 h1))
        rw [h1] at hli
        clear HA HF1 HF3 h1
        go_wp2_with fail
        rw [← hwA]
        clear hwA c0 c1 c2
        go_wp2_with fail
        refine hfp.mono ?_
        rintro e w2 ⟨rfl, hb2⟩
        obtain ⟨x0, x1, x2⟩ := lmp_head (HBX.out.below hb2 ltx)
        clear hfp
        go_wp2_with (go_at_call 90; refine (hli _).mono ?_; rintro e w' ⟨rfl, rfl⟩)
        go_ret
        exact ⟨by rw [HV.out]; rfl, HACC.out.trans (hb2.mono HACC.out.size)⟩
      have HOK := Lib.hid (HF3.out hf h1)
      rw [h1] at hli
      clear HA HF1 HF3 h1
      go_wp2_with fail
      rw [← hwA]
      clear hwA c0 c1 c2
      go_wp2_with fail
      refine hfp.mono ?_
      rintro e w2 ⟨rfl, hb2⟩
      obtain ⟨x0, x1, x2⟩ := lmp_head (HBX.out.below hb2 ltx)
      have HB2 := Lib.hid (HACC.out.trans (hb2.mono HACC.out.size))
      have HG2 : Hid (∀ j, j < k + 1 → forL ps (lmpA zs j) = true) := Lib.hid (fun j hj => by
        by_cases e : j = k
        · subst e; rw [lmpA_some HX.out]; exact HOK.out
        · exact HG.out j (by omega))
      clear hfp hb2
      go_wp2_with (go_at_call 90; refine (hli _).mono ?_; rintro e w' ⟨rfl, rfl⟩)
      go_roundw
      case rel => exact ⟨k + 1, by omega, by go_num, HG2.out, HB2.out⟩
      case measure => simp [intOf]; omega
    · obtain rfl : k = n2 := by omega
      have HR := Lib.hid (HEND.out HG.out)
      have htb := impl_lampTableOf A2 k c2 B2 zs wr (h2.below (hbl.mono hB2)) (Nat.le_trans hB2 hsz) hn2 hw
      go_wp2_with fail
      refine htb.mono ?_
      rintro e w2 ⟨b0, rfl, ⟨D, hown, htab⟩, hb2⟩
      have HB2 := Lib.hid (hbl.trans (hb2.mono hsz))
      have HT := Lib.hid htab.2.2
      have hrun := hown.len Try.underlying112 3
      rw [HT.out] at hrun
      obtain ⟨d, hd⟩ : ∃ d, distL zs zs.length = d := ⟨_, rfl⟩
      rw [hd] at hrun
      have HR2 : Hid (areL ps zs = decide (d = k)) := Lib.hid (by rw [HR.out, hd, HL.out])
      clear hown htab hd HR HT HL htb hb2
      by_cases e : d = k
      · have E := Lib.hid e
        have e1 : ((d : Int) == (k : Int)) = true := by simp; omega
        clear e
        go_wp2
        go_ret
        exact ⟨by rw [HR2.out, decide_eq_true E.out]; rfl, HB2.out⟩
      · have E := Lib.hid e
        have e1 : ((d : Int) == (k : Int)) = false := by simp; omega
        clear e
        go_wp2
        go_ret
        exact ⟨by rw [HR2.out, decide_eq_false E.out]; rfl, HB2.out⟩
end Go.Proofs.Ytdlcjmdkafebpaa
