/- Chapter 5's model: lists of paths. -/
import Derived.Test.YtdlcjmdkafebpaaConf
import Derived.Test.YtdlcjmdkafebpaaGrow
import Derived.BigQuiet
import Derived.Deep.QuietTactic
namespace Go.Proofs.Ytdlcjmdkafebpaa
open Go.RowKit
set_option linter.unusedVariables false

theorem spec_FindPath (A : Option Addr) (n c B : Nat) (ps : List Pth) (id : Int) (w : World) (h : PthsAt w B A n ps) (hn : n ≤ 4294967296) :
    Calls Try.prog 84 #[.slice A n c, .int .i64 id] w fun e w' => e = .returned (.int .i64 (findI id ps)) ∧ w = w' := by
  have hl := h.1
  go_enter Try.func84, Try.ntmps84
  go_wp2
  go_loop [5] (fun i => ∃ k : Nat, k ≤ n ∧ i = .int .i64 k ∧ ∀ j q, j < k → ps[j]? = some q → q.id ≠ id) (fun i => n - (intOf i).toNat)
  case atStart => exact ⟨0, Nat.zero_le _, rfl, fun j q hj => absurd hj (by omega)⟩
  case round =>
    obtain ⟨k, hk, rfl, hno⟩ := hrel
    by_cases hlt : k < n
    · obtain ⟨ad, p, rfl, hab, hp, hq⟩ := h.at hlt
      obtain ⟨c0, c1, c2, c3⟩ := hq
      by_cases he : p.id = id
      · have HR : Hid (findI id ps = (k : Int)) := Lib.hid (by unfold findI; rw [findK_some hno hp he])
        have e1 : (p.id == id) = true := by simpa using he
        clear hno he
        go_wp2
        go_ret
        exact ⟨by rw [HR.out]; rfl, rfl⟩
      · have HN : Hid (∀ j q, j < k + 1 → ps[j]? = some q → q.id ≠ id) := Lib.hid (fun j q hj hq => by
          by_cases e : j = k
          · subst e; rw [hp] at hq; cases hq; exact he
          · exact hno j q (by omega) hq)
        have e1 : (p.id == id) = false := by simpa using he
        clear hno he
        go_wp2
        go_round
        case rel => exact ⟨k + 1, by omega, by go_num, HN.out⟩
        case measure => simp [intOf]; omega
    · obtain rfl : k = n := by omega
      have HR : Hid (findI id ps = -1) := Lib.hid (by
        unfold findI
        rw [findK_none (fun j q hq => hno j q (by have := (List.getElem?_eq_some_iff.1 hq).1; omega) hq)])
      clear hno
      go_wp2
      go_ret
      exact ⟨by rw [HR.out]; rfl, rfl⟩
set_option maxHeartbeats 1000000 in
set_option maxRecDepth 100000 in
theorem spec_ArePaths (A : Option Addr) (n c B : Nat) (ps : List Pth) (w : World) (h : PthsAt w B A n ps) (hB : B ≤ w.heap.size) (hn : n ≤ 4294967296) :
    Calls Try.prog 86 #[.slice A n c] w fun e w' => e = .returned (.bool (arePs ps)) ∧ Below w.heap.size w w' := by
  have hl := h.1
  go_enter Try.func86, Try.ntmps86
  go_wp2
  go_loopw [3] (fun i wr => ∃ k : Nat, k ≤ n ∧ i = .int .i64 k ∧ (∀ j, j < k → goodAt ps j = true) ∧ Below w.heap.size w wr) (fun i _ => n - (intOf i).toNat)
  case atStart => exact ⟨0, Nat.zero_le _, rfl, fun j hj => absurd hj (by omega), Below.refl _ _⟩
  case round =>
    obtain ⟨k, hk, rfl, hgo, hbl⟩ := hrel
    have hsz := hbl.size
    by_cases hlt : k < n
    · obtain ⟨ad, p, rfl, hab, hp, hq⟩ := h.at hlt
      replace hq := hq.below hbl (by omega)
      have i1 : (0 : Int) ≤ (k : Int) := by omega
      have i2 : (k : Int) < (n : Int) := by omega
      cases hv : isP p
      · have HR : Hid (arePs ps = false) := Lib.hid (arePs_no (k := k) (by omega) (by unfold goodAt; rw [hp]; simp [hv]))
        have HV := Lib.hid hv
        clear hgo hv
        go_wp2
        have c0 := fun x : GW wr => (hq.below x.ok (by omega)).c0
        have c1 := fun x : GW wr => (hq.below x.ok (by omega)).c1
        have c2 := fun x : GW wr => (hq.below x.ok (by omega)).c2
        have c3 := fun x : GW wr => (hq.below x.ok (by omega)).c3
        have hcc := fun x : GW wr => spec_IsPath p x.val
        rw [HV.out] at hcc
        refine wp_region_grow (by kernel_rfl) (by kernel_rfl) ?_
        repeat (go_big_quiet_step (first | (go_at_call 133; exact calls_gw _ (hcc _))))
        refine wpQuiet_nil ?_
        intro x3
        have hb3 := x3.ok
        generalize x3.val = w3 at *
        go_wp2
        go_ret
        exact ⟨by rw [HR.out]; rfl, hbl.trans (hb3.mono hsz)⟩
      · have HV := Lib.hid hv
        have c0 := fun x : GW wr => (hq.below x.ok (by omega)).c0
        have c1 := fun x : GW wr => (hq.below x.ok (by omega)).c1
        have c2 := fun x : GW wr => (hq.below x.ok (by omega)).c2
        have c3 := fun x : GW wr => (hq.below x.ok (by omega)).c3
        have hcc := fun x : GW wr => spec_IsPath p x.val
        rw [HV.out] at hcc
        by_cases hk0 : k = 0
        · have HG : Hid (∀ j, j < k + 1 → goodAt ps j = true) := Lib.hid (fun j hj => by
            obtain rfl : j = k := by omega
            subst hk0
            unfold goodAt
            rw [hp]
            simp [hv])
          have d0 : decide (0 < k) = false := decide_eq_false (by omega)
          have d1 : decide ((0 : Int) < (k : Int)) = false := decide_eq_false (by omega)
          clear hgo hv hk0
          go_wp2
          refine wp_region_grow (by kernel_rfl) (by kernel_rfl) ?_
          repeat (go_big_quiet_step (first | (go_at_call 133; exact calls_gw _ (hcc _))))
          refine wpQuiet_nil ?_
          intro x3
          have hb3 := x3.ok
          generalize x3.val = w3 at *
          go_wp2
          go_roundw
          case rel => exact ⟨k + 1, by omega, by go_num, HG.out, hbl.trans (hb3.mono hsz)⟩
          case measure => simp [intOf]; omega
        · obtain ⟨m, hm⟩ : ∃ m, m + 1 = k := ⟨k - 1, by omega⟩
          obtain ⟨ad', q, e, hab2, hp2, hq2⟩ := h.at (k := m) (by omega)
          injection e with e
          subst e
          replace hq2 := hq2.below hbl (by omega)
          have d0 : decide (0 < k) = true := decide_eq_true (by omega)
          have d1 : decide ((0 : Int) < (k : Int)) = true := decide_eq_true (by omega)
          have b0 := fun x : GW wr => (hq2.below x.ok (by omega)).c0
          have j1 : (0 : Int) ≤ (m : Int) := by omega
          have j2 : (m : Int) < (n : Int) := by omega
          have w0 : IntKind.i64.wrap ((k : Int) - 1) = (m : Int) := by rw [IntKind.wrap_i64]; omega
          have w1 : wrap64 ((k : Int) - 1) = (m : Int) := by rw [IntWalk.wrap64_in _ (by omega)]; omega
          by_cases hlt2 : q.id < p.id
          · have HG : Hid (∀ j, j < k + 1 → goodAt ps j = true) := Lib.hid (fun j hj => by
              by_cases e : j = k
              · subst e
                unfold goodAt
                rw [hp]
                obtain rfl := hm
                simp [hv, hp2, hlt2]
              · exact hgo j (by omega))
            have e1 : decide (p.id ≤ q.id) = false := decide_eq_false (by omega)
            have e2 : ¬ q.id ≥ p.id := by omega
            clear hgo hv hp hp2 hm
            go_wp2
            refine wp_region_grow (by kernel_rfl) (by kernel_rfl) ?_
            repeat (go_big_quiet_step (first | (go_at_call 133; exact calls_gw _ (hcc _))))
            refine wpQuiet_nil ?_
            intro x3
            have hb3 := x3.ok
            generalize x3.val = w3 at *
            go_wp2
            go_roundw
            case rel => exact ⟨k + 1, by omega, by go_num, HG.out, hbl.trans (hb3.mono hsz)⟩
            case measure => simp [intOf]; omega
          · have HR : Hid (arePs ps = false) := Lib.hid (arePs_no (k := k) (by omega) (by
              unfold goodAt
              rw [hp]
              obtain rfl := hm
              simp [hv, hp2, hlt2]))
            have e1 : decide (p.id ≤ q.id) = true := decide_eq_true (by omega)
            clear hgo hv hp hp2 hm
            go_wp2
            refine wp_region_grow (by kernel_rfl) (by kernel_rfl) ?_
            repeat (go_big_quiet_step (first | (go_at_call 133; exact calls_gw _ (hcc _))))
            refine wpQuiet_nil ?_
            intro x3
            have hb3 := x3.ok
            generalize x3.val = w3 at *
            go_wp2
            go_ret
            exact ⟨by rw [HR.out]; rfl, hbl.trans (hb3.mono hsz)⟩
    · obtain rfl : k = n := by omega
      have HR := Lib.hid (arePs_end (ps := ps) (fun j hj => hgo j (by omega)))
      clear hgo
      go_wp2
      go_ret
      exact ⟨by rw [HR.out, hl]; simp; try omega, hbl⟩
end Go.Proofs.Ytdlcjmdkafebpaa
