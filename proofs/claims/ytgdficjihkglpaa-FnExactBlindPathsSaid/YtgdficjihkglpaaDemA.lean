/- AreDetectors: the model. -/
import Derived.Test.YtgdficjihkglpaaDetB
import Derived.Test.YtgdficjihkglpaaConf2
namespace Go.Proofs.Ytgdficjihkglpaa
open Go.RowKit
set_option linter.unusedVariables false

theorem goodD_cnt {ps : List Pth} {ds : List Det} {k : Nat} (h : inB (dAt ds k).count 0 1000 = false) : goodD ps ds k = false := by unfold goodD okD; rw [h]; simp
theorem goodD_age {ps : List Pth} {ds : List Det} {k : Nat} (h : inB (dAt ds k).age 0 100000 = false) : goodD ps ds k = false := by unfold goodD okD; rw [h]; simp
theorem goodD_new {ps : List Pth} {ds : List Det} {k i : Nat} (h : findK (dAt ds k).path ps = some i) (h1 : inB (dAt ds k).count 0 1000 = true) (h2 : inB (dAt ds k).age 0 100000 = true) : goodD ps ds k = newD ds k := by
  unfold goodD okD
  rw [fI_some h, h1, h2, decide_eq_true (by omega)]
  rfl
set_option maxHeartbeats 1000000 in
set_option maxRecDepth 100000 in
theorem spec_AreDetectors (A : Option Addr) (n c B : Nat) (ps : List Pth) (A2 : Option Addr) (n2 c2 B2 : Nat) (ds : List Det) (w : World) (h : PthsAt w B A n ps) (h2 : DetsAt w B2 A2 n2 ds) (hB : B ≤ w.heap.size) (hB2 : B2 ≤ w.heap.size) (hn : n ≤ 4294967296) (hn2 : n2 ≤ 4294967296) :
    Calls Try.prog 27 #[.slice A n c, .slice A2 n2 c2] w fun e w' => e = .returned (.bool (areD ps ds)) ∧ Below w.heap.size w w' := by
  have hl := h.1
  have hl2 := h2.1
  have HEND : Hid ((∀ i, i < n2 → goodD ps ds i = true) → areD ps ds = (arePs ps && decide (n2 ≤ 12))) := Lib.hid (fun hg => by rw [areD_end (fun i hi => hg i (by omega)), hl2])
  have HNO : Hid (∀ i, i < n2 → goodD ps ds i = false → areD ps ds = false) := Lib.hid (fun i hi hg => areD_no (by omega) hg)
  go_enter Try.func27, Try.ntmps27
  go_wp2
  go_loopw [5] (fun i wr => ∃ k : Nat, k ≤ n2 ∧ i = .int .i64 k ∧ (∀ j, j < k → goodD ps ds j = true) ∧ Below w.heap.size w wr) (fun i _ => n2 - (intOf i).toNat)
  case atStart => exact ⟨0, Nat.zero_le _, rfl, fun j hj => absurd hj (by omega), Below.refl _ _⟩
  case round =>
    obtain ⟨k, hk, rfl, hgo, hbl⟩ := hrel
    have hsz := hbl.size
    have HG := Lib.hid hgo
    clear hgo
    by_cases hlt : k < n2
    · obtain ⟨ad2, d, rfl, hab2, hd, hqd⟩ := h2.at hlt
      have HD : Hid (dAt ds k = d) := Lib.hid (dAt_some hd)
      obtain ⟨c0, c1, c2', c3⟩ := hqd.below hbl (by omega)
      have HQD := Lib.hid hqd
      clear hd hqd
      go_wp2_with fail
      refine (spec_FindPath A n c B ps d.path wr (h.below (hbl.mono hB)) hn).mono ?_
      cases hf : findK d.path ps
      · have HR := Lib.hid (HNO.out k hlt (goodD_none (by rw [HD.out]; exact hf)))
        rw [fI_no hf]
        rintro e w2 ⟨rfl, rfl⟩
        clear hf
        go_wp2
        go_ret
        exact ⟨by rw [HR.out]; rfl, hbl⟩
      · rename_i i
        rw [fI_some hf]
        rintro e w2 ⟨rfl, rfl⟩
        have hi0 : (0 : Int) ≤ (i : Int) := by omega
        have HF := Lib.hid hf
        clear hf
        cases hcn : inB d.count 0 1000
        · have HR := Lib.hid (HNO.out k hlt (goodD_cnt (by rw [HD.out]; exact hcn)))
          have HC := Lib.hid hcn
          clear hcn
          go_wp2_with fail
          refine (spec_l1In _ _ _ _).mono ?_
          rw [HC.out]
          rintro e w3 ⟨rfl, rfl⟩
          go_wp2
          go_ret
          exact ⟨by rw [HR.out]; rfl, hbl⟩
        have HC := Lib.hid hcn
        clear hcn
        cases hag : inB d.age 0 100000
        · have HR := Lib.hid (HNO.out k hlt (goodD_age (by rw [HD.out]; exact hag)))
          have HC2 := Lib.hid hag
          clear hag
          go_wp2_with fail
          refine (spec_l1In _ _ _ _).mono ?_
          rw [HC.out]
          rintro e w3 ⟨rfl, rfl⟩
          go_wp2_with fail
          refine (spec_l1In _ _ _ _).mono ?_
          rw [HC2.out]
          rintro e w3 ⟨rfl, rfl⟩
          go_wp2
          go_ret
          exact ⟨by rw [HR.out]; rfl, hbl⟩
        have HC2 := Lib.hid hag
        clear hag
        go_wp2_with fail
        refine (spec_l1In _ _ _ _).mono ?_
        rw [HC.out]
        rintro e w3 ⟨rfl, rfl⟩
        go_wp2_with fail
        refine (spec_l1In _ _ _ _).mono ?_
        rw [HC2.out]
        rintro e w3 ⟨rfl, rfl⟩
        have HN := Lib.hid (goodD_new (ps := ps) (ds := ds) (k := k) (by rw [HD.out]; exact HF.out) (by rw [HD.out]; exact HC.out) (by rw [HD.out]; exact HC2.out))
        clear c0 c1 c2' c3
        go_wp2
        go_loopw [6] (fun i wr => ∃ m : Nat, m ≤ k ∧ i = .int .i64 m ∧ (∀ j, j < m → (dAt ds j).path ≠ d.path) ∧ Below w.heap.size w wr) (fun i _ => k - (intOf i).toNat)
        case atStart => exact ⟨0, Nat.zero_le _, rfl, fun j hj => absurd hj (by omega), hbl⟩
        case round =>
          clear hbl hsz
          obtain ⟨m, hm, rfl, hne, hbl⟩ := hrel
          have hsz := hbl.size
          have HE := Lib.hid hne
          clear hne
          by_cases hlt3 : m < k
          · obtain ⟨ad3, d2, e, hab3, hd2, hqd2⟩ := h2.at (k := m) (by omega)
            injection e with e
            subst e
            obtain ⟨c0, -, -, -⟩ := HQD.out.below hbl (by omega)
            obtain ⟨b0, -, -, -⟩ := hqd2.below hbl (by omega)
            have HD2 : Hid (dAt ds m = d2) := Lib.hid (dAt_some hd2)
            have i1 : (0 : Int) ≤ (k : Int) := by omega
            have i2 : (k : Int) < (n2 : Int) := by omega
            have j1 : (0 : Int) ≤ (m : Int) := by omega
            have j2 : (m : Int) < (n2 : Int) := by omega
            clear hd2 hqd2
            by_cases he : d2.path = d.path
            · have HR := Lib.hid (HNO.out k hlt (by rw [HN.out]; exact newD_no hlt3 (by rw [HD2.out, HD.out]; exact he)))
              have e1 : (d2.path == d.path) = true := by simpa using he
              clear he
              go_wp2
              go_quiet (fail)
              go_wp2
              go_ret
              exact ⟨by rw [HR.out]; rfl, belowN hbl _⟩
            · have e1 : (d2.path == d.path) = false := by simpa using he
              have HE2 : Hid (∀ j, j < m + 1 → (dAt ds j).path ≠ d.path) := Lib.hid (fun j hj => by
                by_cases e : j = m
                · subst e; rw [HD2.out]; exact he
                · exact HE.out j (by omega))
              clear he
              go_wp2
              go_quiet (fail)
              go_wp2
              go_roundw
              case rel => exact ⟨m + 1, by omega, by go_num, HE2.out, belowN hbl _⟩
              case measure => simp [intOf]; omega
          · obtain rfl : m = k := by omega
            have HGK : Hid (goodD ps ds m = true) := Lib.hid (by rw [HN.out]; exact newD_yes fun x hx => by rw [HD.out]; exact HE.out x hx)
            go_wp2
            go_roundw
            case rel => exact ⟨m + 1, by omega, by go_num, (fun j hj => by
              by_cases e : j = m
              · subst e; exact HGK.out
              · exact HG.out j (by omega)), hbl⟩
            case measure => simp [intOf]; omega
    · obtain rfl : k = n2 := by omega
      have HR := Lib.hid (HEND.out HG.out)
      go_wp2_with fail
      refine (spec_ArePaths A n c B ps wr (h.below (hbl.mono hB)) (by omega) hn).mono ?_
      rintro e w1 ⟨rfl, hb1⟩
      cases ha : arePs ps
      · rw [ha] at HR
        clear ha
        go_wp2
        go_ret
        exact ⟨by rw [HR.out]; rfl, hbl.trans (hb1.mono hsz)⟩
      · rw [ha] at HR
        clear ha
        by_cases h12 : k ≤ 12
        all_goals
          go_wp2
          go_ret
          exact ⟨by rw [HR.out]; simp [h12]; try omega, hbl.trans (hb1.mono hsz)⟩
end Go.Proofs.Ytgdficjihkglpaa
