/- Chapter 6's model: lists of stages, read. -/
import Derived.Test.YtgdficjihkglpabDoorStg2
namespace Go.Proofs.YtgdficjihkglpabDoor
open Go.RowKit
set_option linter.unusedVariables false

/-- A slice of slices of numbers, all in blocks below B. -/
def SSAt (w : World) (B : Nat) (A : Option Addr) (n : Nat) (zss : List (List Int)) : Prop :=
  zss.length = n ∧ (0 < n → ∃ ad, A = some ad ∧ ad.block < B ∧ ∀ j, j < n → ∃ A' m c, w.cell? (ad.add j) = some (.slice A' m c) ∧ IntsAt .i64 w B A' m (zss.getD j []) ∧ m ≤ c ∧ (A' = none → m = 0 ∧ c = 0))
theorem SSAt.at {w : World} {B : Nat} {A : Option Addr} {n : Nat} {zss : List (List Int)} (h : SSAt w B A n zss) {j : Nat} (hj : j < n) :
    ∃ ad A' m c, A = some ad ∧ (ad.add j).block < B ∧ w.cell? (ad.add j) = some (.slice A' m c) ∧ IntsAt .i64 w B A' m (zss.getD j []) ∧ m ≤ c ∧ (A' = none → m = 0 ∧ c = 0) := by
  obtain ⟨ad, e, hb, hc⟩ := h.2 (by omega)
  obtain ⟨A', m, c, h1, h2, h3, h4⟩ := hc j hj
  exact ⟨ad, A', m, c, e, by rw [add_block]; exact hb, h1, h2, h3, h4⟩
/-- a path is in one of the stages. -/
def inSome (zss : List (List Int)) (id : Int) : Bool := zss.any (fun zs => hasI zs id)
/-- what Covers answers. -/
def coversP (ps : List Pth) (zss : List (List Int)) : Bool := zss.all (isTog ps) && (List.range ps.length).all (fun i => inSome zss (pAt ps i).id) && arePs ps
theorem covers_tog {ps : List Pth} {zss : List (List Int)} {j : Nat} (hj : j < zss.length) (h : isTog ps (zss.getD j []) = false) : coversP ps zss = false := by
  unfold coversP
  have : zss.all (isTog ps) = false := by
    rw [Bool.eq_false_iff]
    intro ha
    have := List.all_eq_true.1 ha (zss.getD j []) (by rw [List.getD_eq_getElem?_getD, List.getElem?_eq_getElem hj]; exact List.getElem_mem hj)
    rw [h] at this
    cases this
  rw [this]
  rfl
theorem covers_out {ps : List Pth} {zss : List (List Int)} {j : Nat} (hj : j < ps.length) (h : inSome zss (pAt ps j).id = false) : coversP ps zss = false := by
  unfold coversP
  have : (List.range ps.length).all (fun i => inSome zss (pAt ps i).id) = false := by
    rw [Bool.eq_false_iff]
    intro ha
    have := List.all_eq_true.1 ha j (List.mem_range.2 hj)
    rw [h] at this
    cases this
  rw [this]
  simp
theorem covers_end {ps : List Pth} {zss : List (List Int)} (h1 : ∀ j, j < zss.length → isTog ps (zss.getD j []) = true) (h2 : ∀ i, i < ps.length → inSome zss (pAt ps i).id = true) : coversP ps zss = arePs ps := by
  unfold coversP
  have a : zss.all (isTog ps) = true := List.all_eq_true.2 fun zs hz => by
    obtain ⟨j, hj, e⟩ := List.getElem_of_mem hz
    have := h1 j hj
    rw [List.getD_eq_getElem?_getD, List.getElem?_eq_getElem hj] at this
    rw [← e]
    exact this
  have b : (List.range ps.length).all (fun i => inSome zss (pAt ps i).id) = true := List.all_eq_true.2 fun k hk => h2 k (List.mem_range.1 hk)
  rw [a, b]
  simp
theorem inSome_take {zss : List (List Int)} {k : Nat} (id : Int) (hk : k < zss.length) : inSome (zss.take (k + 1)) id = (inSome (zss.take k) id || hasI (zss.getD k []) id) := by
  unfold inSome
  rw [List.take_add_one, List.any_append, List.getElem?_eq_getElem hk, List.getD_eq_getElem?_getD, List.getElem?_eq_getElem hk]
  simp
set_option maxHeartbeats 1000000 in
set_option maxRecDepth 100000 in
theorem spec_Covers (A : Option Addr) (n c B : Nat) (ps : List Pth) (A2 : Option Addr) (n2 c2 B2 : Nat) (zss : List (List Int)) (w : World) (h : PthsAt w B A n ps) (h2 : SSAt w B2 A2 n2 zss) (hB : B ≤ w.heap.size) (hB2 : B2 ≤ w.heap.size) (hn : n ≤ 4294967296) (hn2 : n2 ≤ 4294967296) (hm : ∀ j, j < n2 → (zss.getD j []).length ≤ 4294967296) :
    Calls Tryd.prog 29 #[.slice A n c, .slice A2 n2 c2] w fun e w' => e = .returned (.bool (coversP ps zss)) ∧ Below w.heap.size w w' := by
  have hl := h.1
  have hl2 := h2.1
  have HM := Lib.hid hm
  clear hm
  go_enter Tryd.func29, Tryd.ntmps29
  go_wp2
  go_loopw [5] (fun i wr => ∃ j : Nat, j ≤ n2 ∧ i = .int .i64 j ∧ (∀ i', i' < j → isTog ps (zss.getD i' []) = true) ∧ Below w.heap.size w wr) (fun i _ => n2 - (intOf i).toNat)
  case atStart => exact ⟨0, Nat.zero_le _, rfl, fun i' hi => absurd hi (by omega), Below.refl _ _⟩
  case round =>
    obtain ⟨j, hj, rfl, hgo, hbl⟩ := hrel
    have hsz := hbl.size
    have HG := Lib.hid hgo
    clear hgo
    by_cases hlt : j < n2
    · obtain ⟨ad2, A3, m3, c3, rfl, hab2, hcell, hi3, hc3, hnil3⟩ := h2.at hlt
      have hcw := (hbl.cell (by omega)).trans hcell
      have hl3 := hi3.1
      have hM := HM.out j hlt
      clear hcell
      go_wp2_with fail
      refine (spec_IsTogether A n c B ps A3 m3 c3 B2 _ wr (h.below (hbl.mono hB)) (hi3.laid hB2 hbl) (by omega) (by omega) hn (by omega)).mono ?_
      rintro e w1 ⟨rfl, hb1⟩
      have hbl1 := hbl.trans (hb1.mono hsz)
      clear hb1 hbl
      cases ht : isTog ps (zss.getD j [])
      · have HR : Hid (coversP ps zss = false) := Lib.hid (covers_tog (by omega) ht)
        clear ht
        go_wp2
        go_ret
        exact ⟨by rw [HR.out]; rfl, hbl1⟩
      · have HT := Lib.hid ht
        clear ht
        go_wp2
        go_roundw
        case rel => exact ⟨j + 1, by omega, by go_num, (fun i' hi => by
          by_cases e : i' = j
          · subst e; exact HT.out
          · exact HG.out i' (by omega)), hbl1⟩
        case measure => simp [intOf]; omega
    · obtain rfl : j = n2 := by omega
      go_wp2
      go_loopw [6] (fun i wr => ∃ k : Nat, k ≤ n ∧ i = .int .i64 k ∧ (∀ i', i' < k → inSome zss (pAt ps i').id = true) ∧ Below w.heap.size w wr) (fun i _ => n - (intOf i).toNat)
      case atStart => exact ⟨0, Nat.zero_le _, rfl, fun i' hi => absurd hi (by omega), hbl⟩
      case round =>
        clear hbl hsz
        obtain ⟨k, hk, rfl, hgo, hbl⟩ := hrel
        have hsz := hbl.size
        have HG2 := Lib.hid hgo
        clear hgo
        by_cases hlt2 : k < n
        · obtain ⟨ad, p, rfl, hab, hp, hq⟩ := h.at hlt2
          have HP : Hid (pAt ps k = p) := Lib.hid (pAt_some hp)
          have hq0 := Lib.hid hq
          clear hp hq
          go_wp2
          go_loopw [7, 8] (fun s i wr => ∃ m : Nat, m ≤ j ∧ i = .int .i64 m ∧ s = .bool (inSome (zss.take m) p.id) ∧ Below w.heap.size w wr) (fun _ i _ => j - (intOf i).toNat)
          case atStart => exact ⟨0, Nat.zero_le _, rfl, rfl, hbl⟩
          case round =>
            clear hbl hsz
            obtain ⟨m, hm, rfl, rfl, hbl⟩ := hrel
            have hsz := hbl.size
            by_cases hlt3 : m < j
            · obtain ⟨ad2, A3, m3, c3, rfl, hab2, hcell, hi3, hc3, hnil3⟩ := h2.at hlt3
              have hcw := fun x : GW wr => (x.ok.cell (by omega)).trans ((hbl.cell (by omega)).trans hcell)
              have c0 := fun x : GW wr => ((hq0.out.below hbl (by omega)).below x.ok (by omega)).c0
              have hl3 := hi3.1
              have hM := HM.out m hlt3
              have hcf := fun x : GW wr => spec_l6Has A3 m3 c3 B2 _ p.id x.val ((hi3.laid hB2 hbl).laid (by omega) x.ok) (by omega)
              have HS := Lib.hid (inSome_take p.id (show m < zss.length by omega))
              have i1 : (0 : Int) ≤ (k : Int) := by omega
              have i2 : (k : Int) < (n : Int) := by omega
              have j1 : (0 : Int) ≤ (m : Int) := by omega
              have j2 : (m : Int) < (j : Int) := by omega
              clear hcell hi3
              generalize hasI (zss.getD m []) p.id = b at *
              cases hv : inSome (zss.take m) p.id
              all_goals
                rw [hv] at HS
                clear hv
                go_wp2
                refine wp_region_grow (by kernel_rfl) (by kernel_rfl) ?_
                repeat (go_big_quiet_step (first | (go_at_call 45; exact calls_gw_same _ (hcf _))))
                refine wpQuiet_nil ?_
                intro x3
                have hb3 := x3.ok
                generalize x3.val = w3 at *
                clear hcw c0 hcf
                go_wp2
                go_roundw
                case rel => exact ⟨m + 1, by omega, by go_num, by rw [HS.out]; first | rfl | simp, hbl.trans (hb3.mono hsz)⟩
                case measure => simp [intOf]; omega
            · obtain rfl : m = j := by omega
              rw [List.take_of_length_le (by omega)]
              cases hv : inSome zss p.id
              · have HR : Hid (coversP ps zss = false) := Lib.hid (covers_out (j := k) (by omega) (by rw [HP.out]; exact hv))
                clear hv
                go_wp2
                go_ret
                exact ⟨by rw [HR.out]; rfl, hbl⟩
              · have HT : Hid (inSome zss (pAt ps k).id = true) := Lib.hid (by rw [HP.out]; exact hv)
                clear hv
                go_wp2
                go_roundw
                case rel => exact ⟨k + 1, by omega, by go_num, (fun i' hi => by
                  by_cases e : i' = k
                  · subst e; exact HT.out
                  · exact HG2.out i' (by omega)), hbl⟩
                case measure => simp [intOf]; omega
        · obtain rfl : k = n := by omega
          have HR : Hid (coversP ps zss = arePs ps) := Lib.hid (covers_end (fun i hi => HG.out i (by omega)) (fun i hi => HG2.out i (by omega)))
          go_wp2_with fail
          refine (spec_ArePaths A k c B ps wr (h.below (hbl.mono hB)) (by omega) hn).mono ?_
          rintro e w1 ⟨rfl, hb1⟩
          go_wp2
          go_ret
          exact ⟨by rw [HR.out]; rfl, hbl.trans (hb1.mono hsz)⟩
end Go.Proofs.YtgdficjihkglpabDoor
