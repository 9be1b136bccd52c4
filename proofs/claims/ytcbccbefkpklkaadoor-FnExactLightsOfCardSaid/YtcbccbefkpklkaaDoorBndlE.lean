/- Texts of one chain, put together: AwyB NxtM AwyI IdxN PopI IdsI Cov CoverI Tbl NxtI LawNxt. -/
import Derived.RangeFuncBox
import Derived.Maps.AppendAt
import Derived.BigQuiet
import Derived.Test.YtcbccbefkpklkaaDoorBndlD
set_option linter.unusedSimpArgs false
/- The next green of a row of lights, as Lean data. No walk. -/
namespace Go.Proofs.YtcbccbefkpklkaaDoor
open Go.RowKit
set_option linter.unusedVariables false

/-- is the row green at this second, gone through again and again? -/
def isGr (r : List Int) (s : Nat) : Bool := decide (r.getD (s % r.length) 0 = 1)
/-- in how many seconds the next green comes. -/
def nextD (r : List Int) (s : Nat) : Nat := ((List.range r.length).find? fun i => isGr r (s + i)).getD 0
theorem nextD_eq {r : List Int} {s d : Nat} (hd : d < r.length) (h1 : isGr r (s + d) = true) (h2 : ∀ e, e < d → isGr r (s + e) = false) : nextD r s = d := by
  unfold nextD
  have : (List.range r.length).find? (fun i => isGr r (s + i)) = some d := by
    rw [List.find?_range_eq_some]
    refine ⟨h1, List.mem_range.2 hd, fun j hj => ?_⟩
    rw [h2 j hj]
    rfl
  rw [this]
  rfl
theorem isGr_mod (r : List Int) (s : Nat) : isGr r (s % r.length) = isGr r s := by
  unfold isGr
  rw [Nat.mod_mod]
theorem isGr_add (r : List Int) (s e : Nat) : isGr r (s % r.length + e) = isGr r (s + e) := by
  unfold isGr
  rw [Nat.mod_add_mod]
theorem nextD_mod (r : List Int) (s : Nat) : nextD r (s % r.length) = nextD r s := by
  unfold nextD
  congr 2
  funext i
  exact isGr_add r s i
/-- the first green second from k on, below m: what going down from m leaves. -/
def downG (r : List Int) (m : Nat) : Nat → Int
  | 0 => 0
  | k + 1 => if isGr r (m - (k + 1)) then ((m - (k + 1) : Nat) : Int) else downG r m k
theorem downG_spec {r : List Int} {m : Nat} : ∀ k, k ≤ m → (∃ g, m - k ≤ g ∧ g < m ∧ isGr r g = true) → ∃ g : Nat, downG r m k = (g : Int) ∧ m - k ≤ g ∧ g < m ∧ isGr r g = true ∧ ∀ e, m - k ≤ e → e < g → isGr r e = false
  | 0, _, ⟨g, h1, h2, _⟩ => absurd h2 (by omega)
  | k + 1, hk, ⟨g, h1, h2, h3⟩ => by
    by_cases e : isGr r (m - (k + 1)) = true
    · exact ⟨m - (k + 1), by unfold downG; rw [if_pos e], Nat.le_refl _, by omega, e, fun x hx hx2 => absurd hx2 (by omega)⟩
    · have hg : m - k ≤ g := by
        by_cases q : g = m - (k + 1)
        · rw [q] at h3; exact absurd h3 e
        · omega
      obtain ⟨y, y1, y2, y3, y4, y5⟩ := downG_spec (r := r) (m := m) k (by omega) ⟨g, hg, h2, h3⟩
      refine ⟨y, by unfold downG; rw [if_neg e]; exact y1, by omega, y3, y4, fun x hx hx2 => ?_⟩
      by_cases q : x = m - (k + 1)
      · rw [q]; simpa using e
      · exact y5 x (by omega) hx2
theorem downG_bound (r : List Int) (m : Nat) : ∀ k, 0 ≤ downG r m k ∧ downG r m k ≤ m
  | 0 => by simp [downG]
  | k + 1 => by
    have ih := downG_bound r m k
    unfold downG
    split <;> omega
theorem downG_next {r : List Int} (hg : ∃ g, g < r.length ∧ isGr r g = true) {s : Nat} (hs : s < r.length) : downG r (2 * r.length) (2 * r.length - s) - (s : Int) = (nextD r s : Int) := by
  obtain ⟨g, h1, h2⟩ := hg
  have hgl : isGr r (g + r.length) = true := by
    rw [← h2]
    unfold isGr
    rw [Nat.add_mod_right]
  obtain ⟨y, y1, y2, y3, y4, y5⟩ := downG_spec (r := r) (m := 2 * r.length) (2 * r.length - s) (by omega) ⟨g + r.length, by omega, by omega, hgl⟩
  have e0 : 2 * r.length - (2 * r.length - s) = s := by omega
  rw [e0] at y2 y5
  -- the first one lies within a round
  have hyl : y - s < r.length := by
    by_cases q : s ≤ g
    · have : y ≤ g := by
        by_cases z : g < y
        · have := y5 g q z; rw [h2] at this; cases this
        · omega
      omega
    · have : y ≤ g + r.length := by
        by_cases z : g + r.length < y
        · have := y5 (g + r.length) (by omega) z; rw [hgl] at this; cases this
        · omega
      omega
  rw [y1, nextD_eq (d := y - s) hyl (by rw [show s + (y - s) = y by omega]; exact y4) (fun e he => y5 (s + e) (by omega) (by omega))]
  omega
/-- what away answers. -/
def awayL (r : List Int) : List Int := (List.range r.length).map fun s => (nextD r s : Int)
theorem awayL_len (r : List Int) : (awayL r).length = r.length := by simp [awayL]
theorem awayL_at {r : List Int} {s : Nat} (hs : s < r.length) : (awayL r).getD s 0 = (nextD r s : Int) := by
  unfold awayL
  rw [List.getD_eq_getElem?_getD, List.getElem?_map, List.getElem?_range hs]
  rfl
theorem nextD_lt {r : List Int} {s : Nat} (h : 0 < r.length) : nextD r s < r.length := by
  unfold nextD
  cases hf : (List.range r.length).find? fun i => isGr r (s + i) with
  | none => exact h
  | some d => exact List.mem_range.1 (List.mem_of_find?_eq_some hf)
/-- what is in the list when the seconds from m down to m - k have been gone through. -/
def awayTo (r : List Int) : Nat → List Int
  | 0 => List.replicate r.length 0
  | k + 1 => (awayTo r k).set ((2 * r.length - (k + 1)) % r.length) (downG r (2 * r.length) (k + 1) - ((2 * r.length - (k + 1) : Nat) : Int))
theorem awayTo_len (r : List Int) : ∀ k, (awayTo r k).length = r.length
  | 0 => by simp [awayTo]
  | k + 1 => by unfold awayTo; rw [List.length_set]; exact awayTo_len r k
theorem awayTo_at {r : List Int} (hg : ∃ g, g < r.length ∧ isGr r g = true) : ∀ k, r.length ≤ k → k ≤ 2 * r.length → ∀ s, 2 * r.length - k ≤ s → s < r.length → (awayTo r k).getD s 0 = (nextD r s : Int)
  | 0, h1, _, s, _, h4 => absurd h4 (by omega)
  | k + 1, h1, h2, s, h3, h4 => by
    unfold awayTo
    have hl := awayTo_len r k
    have hm : (2 * r.length - (k + 1)) % r.length < r.length := Nat.mod_lt _ (by omega)
    by_cases e : (2 * r.length - (k + 1)) = s
    · rw [e, Nat.mod_eq_of_lt h4, List.getD_eq_getElem?_getD, List.getElem?_set_self (by rw [hl]; exact h4)]
      have : k + 1 = 2 * r.length - s := by omega
      rw [this]
      exact downG_next hg h4
    · have hk : r.length ≤ k := by omega
      have hne : (2 * r.length - (k + 1)) % r.length ≠ s := by
        rw [Nat.mod_eq_of_lt (by omega)]
        exact e
      rw [List.getD_eq_getElem?_getD, List.getElem?_set_ne hne, ← List.getD_eq_getElem?_getD]
      exact awayTo_at hg k hk (by omega) s (by omega) h4
theorem awayTo_full {r : List Int} (hg : ∃ g, g < r.length ∧ isGr r g = true) : awayTo r (2 * r.length) = awayL r := by
  apply List.ext_getElem
  · rw [awayTo_len, awayL_len]
  · intro s h1 h2
    have hs : s < r.length := by rw [awayL_len] at h2; exact h2
    have a := awayTo_at hg (2 * r.length) (by omega) (Nat.le_refl _) s (by omega) hs
    have b := awayL_at hs
    rw [List.getD_eq_getElem?_getD, List.getElem?_eq_getElem h1] at a
    rw [List.getD_eq_getElem?_getD, List.getElem?_eq_getElem h2] at b
    exact (show _ = _ from a).trans (show _ = _ from b).symm
/-- what NextGreen answers. -/
def nextP (ps : List Pth) (p : List Prt) (id f : Int) : Int :=
  if isPlan ps p && (findK id ps).isSome && inB f 0 100000 then f + (nextD (rowP ps p id) f.toNat : Int) else -1
theorem nextP_off {ps : List Pth} {p : List Prt} {id f : Int} (h : (isPlan ps p && (findK id ps).isSome && inB f 0 100000) = false) : nextP ps p id f = -1 := by unfold nextP; rw [h]; rfl
theorem nextP_on {ps : List Pth} {p : List Prt} {id : Int} {f : Nat} (h : (isPlan ps p && (findK id ps).isSome) = true) (h2 : inB (f : Int) 0 100000 = true) : nextP ps p id f = (f : Int) + (nextD (rowP ps p id) f : Int) := by
  unfold nextP
  rw [h, h2]
  rfl
theorem rowP_gr {ps : List Pth} {p : List Prt} {id : Int} (h : (isPlan ps p && (findK id ps).isSome) = true) : ∃ g, g < (rowP ps p id).length ∧ isGr (rowP ps p id) g = true := by
  have hr : rowP ps p id = rowTo ps p id p.length := by unfold rowP; rw [h]; rfl
  rw [Bool.and_eq_true] at h
  obtain ⟨g, h1, h2⟩ := row_green h.1 h.2
  rw [hr]
  refine ⟨g, h1, ?_⟩
  unfold isGr
  rw [Nat.mod_eq_of_lt h1]
  exact decide_eq_true h2
/-- a green comes within a round, from any second on. -/
theorem gr_from {r : List Int} (h : ∃ g, g < r.length ∧ isGr r g = true) (f : Nat) : ∃ e, e < r.length ∧ isGr r (f + e) = true := by
  obtain ⟨g, h1, h2⟩ := h
  have hf : f % r.length < r.length := Nat.mod_lt _ (by omega)
  refine ⟨(g + r.length - f % r.length) % r.length, Nat.mod_lt _ (by omega), ?_⟩
  rw [← h2]
  unfold isGr
  have e : (f + (g + r.length - f % r.length) % r.length) % r.length = g % r.length := by
    rw [Nat.add_mod_mod, ← Nat.mod_add_mod f, show f % r.length + (g + r.length - f % r.length) = g + r.length by omega, Nat.add_mod_right]
  rw [e]
end Go.Proofs.YtcbccbefkpklkaaDoor

/- NextGreen: the model. -/
namespace Go.Proofs.YtcbccbefkpklkaaDoor
open Go.RowKit
set_option linter.unusedVariables false

set_option maxHeartbeats 4000000 in
theorem spec_NextGreen (A : Option Addr) (n c B : Nat) (ps : List Pth) (A2 : Option Addr) (n2 c2 B2 : Nat) (p : List Prt) (id f : Int) (w : World) (h : PthsAt w B A n ps) (hB : B ≤ w.heap.size) (hn : n ≤ 4294967296) (h2 : PrtsAt w B2 A2 n2 p) (hB2 : B2 ≤ w.heap.size) (hn2 : n2 ≤ 1048576) (hm : ∀ j, j < n2 → (prAt p j).stage.length ≤ 1048576) :
    Calls Tryd.prog 27 #[.slice A n c, .slice A2 n2 c2, .int .i64 id, .int .i64 f] w fun e w' => e = .returned (.int .i64 (nextP ps p id f)) ∧ Below w.heap.size w w' := by
  have HC := Lib.hid (spec_l9Row A n c B ps A2 n2 c2 B2 p id w h hB hn h2 hB2 hn2 hm)
  have hlen := rowP_len (ps := ps) (p := p) id
  have HOF := Lib.hid (fun hh => nextP_off (ps := ps) (p := p) (id := id) (f := f) hh)
  clear h h2 hm hB hB2 hn hn2
  cases hb : (isPlan ps p && (findK id ps).isSome)
  · have HR := Lib.hid (HOF.out (by rw [hb]; rfl))
    have hz := rowP_offM hb
    rw [hz] at HC
    clear hb hz hlen HOF
    go_enter Tryd.func27, Tryd.ntmps27
    go_wp2_with fail
    refine HC.out.mono ?_
    rintro e w1 ⟨v, rfl, hv, hb⟩
    obtain ⟨Av, cv, rfl⟩ := hv.sliced
    have HB := Lib.hid hb
    clear hb hv
    simp only [List.length_nil]
    go_wp2
    go_loopw [10] (fun i wr => i = .int .i64 0 ∧ w1 = wr) (fun i _ => 0)
    case atStart => exact ⟨rfl, rfl⟩
    case round =>
      obtain ⟨rfl, rfl⟩ := hrel
      go_wp2
      go_ret
      exact ⟨by rw [HR.out]; try rfl, HB.out⟩
  · obtain ⟨hrl, hr0⟩ := rowP_pos hb
    have HPB := Lib.hid hb
    have HGR := Lib.hid (rowP_gr hb)
    have HON := Lib.hid (fun (f : Nat) h2 => nextP_on (f := f) hb h2)
    clear hb hrl
    generalize rowP ps p id = zs at *
    cases hf : inB f 0 100000
    · have HR := Lib.hid (HOF.out (by rw [hf, Bool.and_false]))
      have HF := Lib.hid hf
      clear hf HOF
      go_enter Tryd.func27, Tryd.ntmps27
      go_wp2_with fail
      refine HC.out.mono ?_
      rintro e w1 ⟨v, rfl, hv, hb⟩
      obtain ⟨Av, cv, rfl⟩ := hv.sliced
      have HB := Lib.hid hb
      clear hb hv
      obtain ⟨m, hm⟩ : ∃ m, m = zs.length := ⟨_, rfl⟩
      rw [← hm] at hr0 ⊢
      clear hm
      go_wp2
      go_loopw [10] (fun i wr => i = .int .i64 0 ∧ w1 = wr) (fun i _ => 0)
      case atStart => exact ⟨rfl, rfl⟩
      case round =>
        obtain ⟨rfl, rfl⟩ := hrel
        go_wp2_with fail
        refine (spec_l1In _ _ _ _).mono ?_
        rw [HF.out]
        rintro e w2 ⟨rfl, rfl⟩
        go_wp2
        go_ret
        exact ⟨by rw [HR.out]; try rfl, HB.out⟩
    · have hfb := inB_t hf
      obtain ⟨f, rfl⟩ : ∃ g : Nat, f = (g : Int) := ⟨f.toNat, by omega⟩
      have HR := Lib.hid (HON.out f hf)
      have HF := Lib.hid hf
      clear hf HOF HON
      go_enter Tryd.func27, Tryd.ntmps27
      go_wp2_with fail
      refine HC.out.mono ?_
      rintro e w1 ⟨v, rfl, hv, hb⟩
      obtain ⟨Av, cv, rfl⟩ := hv.sliced
      have HI := Lib.hid hv.ints
      have HB := Lib.hid hb
      clear hb hv
      obtain ⟨m, hm⟩ : ∃ m, m = zs.length := ⟨_, rfl⟩
      have HM := Lib.hid hm
      rw [← hm] at hr0 hlen HI ⊢
      clear hm
      go_wp2
      go_loopw [10] (fun i wr => ∃ k : Nat, k ≤ m ∧ i = .int .i64 k ∧ (∀ e, e < k → isGr zs (f + e) = false) ∧ w1 = wr) (fun i _ => m - (intOf i).toNat)
      case atStart => exact ⟨0, Nat.zero_le _, rfl, fun e he => absurd he (by omega), rfl⟩
      case round =>
        obtain ⟨k, hk, rfl, hno, rfl⟩ := hrel
        have HNO := Lib.hid hno
        clear hno
        by_cases hlt : k < m
        · obtain ⟨ad, rfl, hab, hcell⟩ := HI.out.2 (by omega)
          have hc := hcell ((f + k) % m) (Nat.mod_lt _ hr0)
          have e8 : IntKind.i64.wrap ((f : Int) + (k : Int)) = (f : Int) + (k : Int) := by rw [IntKind.wrap_i64]; omega
          have em : ((f : Int) + (k : Int)).tmod (m : Int) = (((f + k) % m : Nat) : Int) := by rw [Int.tmod_eq_emod_of_nonneg (by omega), Int.natCast_emod, Int.natCast_add]
          have z1 : ¬ m = 0 := by omega
          have z2 : ¬ (m : Int) = 0 := by omega
          have hltm : (f + k) % m < m := Nat.mod_lt _ hr0
          have HGK : Hid (isGr zs (f + k) = decide (zs.getD ((f + k) % m) 0 = 1)) := Lib.hid (by unfold isGr; rw [← HM.out])
          clear hcell
          generalize zs.getD ((f + k) % m) 0 = z at *
          generalize (f + k) % m = y at *
          have i1 : (0 : Int) ≤ (y : Int) := by omega
          have i2 : (y : Int) < (m : Int) := by omega
          by_cases h1 : z = 1
          · have HR2 : Hid (nextP ps p id (f : Int) = (f : Int) + (k : Int)) := Lib.hid (by rw [HR.out, nextD_eq (d := k) (by rw [← HM.out]; exact hlt) (by rw [HGK.out, h1]; rfl) HNO.out])
            subst h1
            go_wp2_with fail
            refine (spec_l1In _ _ _ _).mono ?_
            rw [HF.out]
            rintro e w2 ⟨rfl, rfl⟩
            go_wp2
            go_ret
            exact ⟨by rw [HR2.out]; try rfl, HB.out⟩
          · have e0 : (z == 1) = false := by simpa using h1
            have HN2 : Hid (∀ e, e < k + 1 → isGr zs (f + e) = false) := Lib.hid (fun e he => by
              by_cases q : e = k
              · rw [q, HGK.out]; exact decide_eq_false h1
              · exact HNO.out e (by omega))
            clear h1
            go_wp2_with fail
            refine (spec_l1In _ _ _ _).mono ?_
            rw [HF.out]
            rintro e w2 ⟨rfl, rfl⟩
            go_wp2
            go_roundw
            case rel => exact ⟨k + 1, by omega, by go_num, HN2.out, trivial⟩
            case measure => simp [intOf]; omega
        · exfalso
          obtain ⟨e, h3, h4⟩ := gr_from HGR.out f
          have := HNO.out e (by have := HM.out; omega)
          rw [h4] at this
          cases this
end Go.Proofs.YtcbccbefkpklkaaDoor

/- away of the program. -/
namespace Go.Proofs.YtcbccbefkpklkaaDoor
open Go.RowKit
set_option linter.unusedVariables false

set_option maxHeartbeats 4000000 in
theorem impl_away (A : Option Addr) (n c B : Nat) (zs : List Int) (w : World) (h : IntsAt .i64 w B A n zs) (hB : B ≤ w.heap.size) (hn : n ≤ 1000000) (hz : ∀ j, j < n → 0 ≤ zs.getD j 0 ∧ zs.getD j 0 ≤ 2) :
    Calls Tryd.prog 127 #[.slice A n c] w fun e w' => ∃ v, e = .returned v ∧ Own .i64 3 w' w.heap.size v (awayTo zs (2 * n)) ∧ Below w.heap.size w w' := by
  have hl := h.1
  have HL := Lib.hid hl
  have H := Lib.hid h
  have HZ := Lib.hid hz
  have e1 : IntKind.i64.wrap (2 * (n : Int)) = 2 * (n : Int) := by rw [IntKind.wrap_i64]; omega
  have e2 : IntKind.i64.wrap (2 * (n : Int) - 1) = 2 * (n : Int) - 1 := by rw [IntKind.wrap_i64]; omega
  clear h hz hl
  go_enter Tryd.func127, Tryd.ntmps127
  go_wp2_with ((with_reducible show wpList _ _ _ _ _ _); refine wpList_mk rfl _ _ _ rfl .i64 3 8 Tryd.underlying23 info_int1 (by decide) (n : Int) (n : Int) n rfl rfl rfl rfl (by omega) ?_; intro w1 hown hgrow)
  have HB1 := Lib.hid (below_grown hgrow)
  have HO1 : Hid (Own .i64 3 w1 w.heap.size (.slice (some ⟨w.heap.size, 0, none⟩) n n) (awayTo zs 0)) := Lib.hid (by
    show Own _ _ _ _ _ (List.replicate zs.length 0)
    rw [HL.out]
    exact hown)
  clear hown hgrow e1 e2
  go_loopw [4, 5] (fun x i wr => ∃ k : Nat, k ≤ 2 * n ∧ i = .int .i64 (2 * (n : Int) - 1 - (k : Int)) ∧ x = .int .i64 (downG zs (2 * n) k) ∧ Own .i64 3 wr w.heap.size (.slice (some ⟨w.heap.size, 0, none⟩) n n) (awayTo zs k) ∧ Below w.heap.size w wr) (fun _ i _ => (intOf i + 1).toNat)
  case atStart => exact ⟨0, Nat.zero_le _, by simp, rfl, HO1.out, HB1.out⟩
  case round =>
    clear HO1 HB1
    obtain ⟨k, hk, rfl, rfl, hown, hbl⟩ := hrel
    have HOW := Lib.hid hown
    have HBL := Lib.hid hbl
    have hsz := hbl.size
    have hdb := downG_bound zs (2 * n) k
    clear hown hbl
    by_cases hlt : k < 2 * n
    · have hn0 : 0 < n := by omega
      obtain ⟨s, hs⟩ : ∃ s : Nat, s = 2 * n - (k + 1) := ⟨_, rfl⟩
      have hs2 : 2 * (n : Int) - 1 - (k : Int) = (s : Int) := by omega
      have hs3 : s ≤ 2000000 := by omega
      have HA := Lib.hid (impl_rowAt A n c B zs s wr (H.out.laid hB HBL.out) hn0 hn (by omega))
      have hzz := HZ.out (s % n) (Nat.mod_lt _ hn0)
      have em : ((s : Nat) : Int).tmod (n : Int) = ((s % n : Nat) : Int) := by rw [Int.tmod_eq_emod_of_nonneg (by omega), Int.natCast_emod]
      have z1 : ¬ n = 0 := by omega
      have z2 : ¬ (n : Int) = 0 := by omega
      have hltm : s % n < n := Nat.mod_lt _ hn0
      have HDG : Hid (downG zs (2 * n) (k + 1) = if zs.getD (s % n) 0 = 1 then (s : Int) else downG zs (2 * n) k) := Lib.hid (by
        show (if isGr zs (2 * n - (k + 1)) then ((2 * n - (k + 1) : Nat) : Int) else downG zs (2 * n) k) = _
        rw [← hs]
        have hg : isGr zs s = decide (zs.getD (s % n) 0 = 1) := by unfold isGr; rw [HL.out]
        rw [hg]
        by_cases q : zs.getD (s % n) 0 = 1
        · rw [if_pos q, if_pos (decide_eq_true q)]
        · rw [if_neg q, if_neg (by simpa using q)])
      have HAW : Hid (∀ d, downG zs (2 * n) (k + 1) = d → awayTo zs (k + 1) = (awayTo zs k).set (s % n) (d - (s : Int))) := Lib.hid (fun d hd => by
        show (awayTo zs k).set _ _ = _
        rw [HL.out, ← hs, hd])
      have HS : Hid (2 * (n : Int) - 1 - ((k + 1 : Nat) : Int) = (s : Int) - 1) := Lib.hid (by omega)
      have e5 : IntKind.i64.wrap ((s : Int) - 1) = (s : Int) - 1 := by rw [IntKind.wrap_i64]; omega
      have hO4' : wr.ownsRow w.heap.size 3 1 (.slice (some ⟨w.heap.size, 0, none⟩) n n) n ((awayTo zs k).map (Value.int .i64)) := by
        have := HOW.out
        unfold Own at this
        rwa [awayTo_len, HL.out] at this
      have HO5 : Hid (∀ d, downG zs (2 * n) (k + 1) = d → Own .i64 3 (wr.setCell ⟨w.heap.size, s % n, none⟩ (.int .i64 (d - (s : Int)))) w.heap.size (.slice (some ⟨w.heap.size, 0, none⟩) n n) (awayTo zs (k + 1))) := Lib.hid (fun d hd => by
        unfold Own
        rw [HAW.out d hd, List.map_set, List.length_set, awayTo_len, HL.out]
        exact (World.ownsRow.stored hO4' (s % n) (.int .i64 (d - (s : Int)))).1)
      have hf := World.ownsRow.frozenAt hO4' (s % n)
      obtain ⟨x0, hx0⟩ := ownr_some hO4' (j := s % n) (by omega)
      have HB5 := Lib.hid (fun d => HBL.out.setCell (p := ⟨w.heap.size, s % n, none⟩) (Nat.le_refl _) (.int .i64 d))
      clear hO4' hs HAW
      rw [hs2]
      generalize downG zs (2 * n) k = D at *
      generalize zs.getD (s % n) 0 = z at *
      generalize s % n = y at *
      have i1 : (0 : Int) ≤ (y : Int) := by omega
      have i2 : (y : Int) < (n : Int) := by omega
      have e6 : IntKind.i64.wrap (D - (s : Int)) = D - (s : Int) := by rw [IntKind.wrap_i64]; omega
      have e7 : IntKind.i64.wrap ((s : Int) - (s : Int)) = (s : Int) - (s : Int) := by rw [IntKind.wrap_i64]; omega
      clear hs2
      by_cases h1 : z = 1
      · subst h1
        have HD := Lib.hid (HDG.out.trans (if_pos rfl))
        have HO6 := Lib.hid (HO5.out _ HD.out)
        go_wp2_with fail
        refine HA.out.mono ?_
        rintro e w2 ⟨rfl, rfl⟩
        have HO7 := HO6.out
        rw [Int.sub_self] at HO7
        have HO8 := Lib.hid HO7
        clear HO7
        go_wp2
        go_roundw
        case rel => exact ⟨k + 1, by omega, by rw [HS.out], by rw [HD.out], HO8.out, HB5.out _⟩
        case measure => simp [intOf]
      · have HD := Lib.hid (HDG.out.trans (if_neg h1))
        have HO6 := Lib.hid (HO5.out _ HD.out)
        rcases (show z = 0 ∨ z = 2 by omega) with rfl | rfl
        all_goals
          clear h1
          go_wp2_with fail
          refine HA.out.mono ?_
          rintro e w2 ⟨rfl, rfl⟩
          go_wp2
          go_roundw
          case rel => exact ⟨k + 1, by omega, by rw [HS.out], by rw [HD.out], HO6.out, HB5.out _⟩
          case measure => simp [intOf]
    · have hk2 : k = 2 * n := by omega
      have hs2 : 2 * (n : Int) - 1 - (k : Int) = -1 := by omega
      have HK2 := Lib.hid hk2
      rw [hs2]
      clear hk2 hs2
      go_wp2
      go_ret
      exact ⟨_, rfl, by rw [← HK2.out]; exact HOW.out, HBL.out⟩
end Go.Proofs.YtcbccbefkpklkaaDoor

/- The indexes of a mask below a bound: the iterator's contract. -/
namespace Go.Proofs.YtcbccbefkpklkaaDoor
open Go.RowKit Go.Shelf
attribute [local go_sem] Oper.semAt_some
set_option linter.unusedVariables false

abbrev IdxN (N : Nat) := { i : Nat // i < N }
/-- the members, each with its bound. -/
def idxsN (N m : Nat) : List (IdxN N) := (List.finRange N).filterMap fun i => if m.testBit i.val then some ⟨i.val, i.isLt⟩ else none
def encN {N : Nat} (i : IdxN N) : Array Value := #[.int .i64 (i.val : Int)]
theorem idxsN_mem {N m : Nat} {i : IdxN N} : i ∈ idxsN N m ↔ m.testBit i.val = true := by
  unfold idxsN
  rw [List.mem_filterMap]
  constructor
  · rintro ⟨j, _, h⟩
    split at h
    · rename_i hb
      injection h with h
      rw [← h]
      exact hb
    · cases h
  · intro h
    exact ⟨⟨i.val, i.2⟩, List.mem_finRange _, by rw [if_pos h]⟩
theorem idxsN_asc (N m : Nat) : ((idxsN N m).map (·.val)).Pairwise (· < ·) := by
  unfold idxsN
  rw [List.map_filterMap, List.pairwise_filterMap]
  refine (List.pairwise_lt_finRange (n := N)).imp ?_
  intro a b hab x hx y hy
  simp only [Option.map_eq_some_iff] at hx hy
  obtain ⟨x', hx, rfl⟩ := hx
  obtain ⟨y', hy, rfl⟩ := hy
  split at hx
  · split at hy
    · injection hx with hx
      injection hy with hy
      rw [← hx, ← hy]
      exact hab
    · cases hy
  · cases hx
theorem idxsN_val {N m : Nat} (hN : N ≤ 12) (hm : m < 2 ^ N) : (idxsN N m).map (·.val) = bitsOf m := asc_nat (idxsN_asc N m) (bits_asc m) fun x => by
  rw [bitsOf_mem, List.mem_map]
  constructor
  · rintro ⟨i, h, rfl⟩
    exact ⟨by have := i.2; omega, idxsN_mem.1 h⟩
  · rintro ⟨_, h⟩
    exact ⟨⟨x, bit_in hm h⟩, idxsN_mem.2 h, rfl⟩
theorem idxN_inj {N : Nat} : ∀ {a b : List (IdxN N)}, a.map (·.val) = b.map (·.val) → a = b
  | [], [], _ => rfl
  | [], _ :: _, h => by simp at h
  | _ :: _, [], h => by simp at h
  | x :: a, y :: b, h => by
    simp only [List.map_cons, List.cons.injEq] at h
    rw [Subtype.ext h.1, idxN_inj h.2]
theorem idxsN_zero {N : Nat} : idxsN N 0 = [] := by
  apply List.eq_nil_iff_forall_not_mem.2
  intro i hi
  have := idxsN_mem.1 hi
  rw [Nat.zero_testBit] at this
  cases this
theorem low_in {N m : Nat} (hN : N ≤ 12) (h : m < 2 ^ N) (h0 : m ≠ 0) : lowB m < N := by
  have h12 := pow_le12 hN
  have hb := (low_ok (by omega) h0).bits
  have : lowB m ∈ bitsOf m := by rw [hb]; exact List.mem_cons_self
  exact bit_in h (bitsOf_mem.1 this).2
theorem idxsN_cons {N m : Nat} (hN : N ≤ 12) (h : m < 2 ^ N) (h0 : m ≠ 0) (hl : lowB m < N) : idxsN N m = ⟨lowB m, hl⟩ :: idxsN N (clr m) := idxN_inj (by
  have h12 := pow_le12 hN
  have ho := low_ok (by omega) h0
  rw [idxsN_val hN h, List.map_cons, idxsN_val hN (Nat.lt_trans ho.less h)]
  exact ho.bits)
theorem idxsN_len {N m : Nat} (hN : N ≤ 12) (hm : m < 2 ^ N) : (idxsN N m).length ≤ 12 := by
  have h := congrArg List.length (idxsN_val hN hm)
  rw [List.length_map] at h
  rw [h]
  unfold bitsOf
  exact Nat.le_trans (List.length_filter_le _ _) (by simp)
theorem idxsN_map {N m : Nat} (hN : N ≤ 12) (hm : m < 2 ^ N) (ps : List Pth) : (idxsN N m).map (fun i => idAt ps i.val) = idsM ps m := by
  rw [idsM_bits, ← idxsN_val hN hm, List.map_map]
  rfl
set_option maxHeartbeats 1000000 in
set_option maxRecDepth 100000 in
theorem idx1_inN (N : Nat) (hN : N ≤ 12) (n : Nat) (hn : 2 ≤ n) (l Bn n₀ : Nat) (m : Nat) (hm : m < 2 ^ N) (J Jx : List (IdxN N) → World → Prop)
    (hY : ∀ pre x W, J pre W → pre.length < 12 → YieldAt Fence.wide (n - 1) Tryd.prog l (encN x) W fun e W' =>
      (e = .returned (.bool true) ∧ J (pre ++ [x]) W' ∧ Below n₀ W W') ∨ (e = .returned (.bool false) ∧ Jx (pre ++ [x]) W'))
    (W : World) (hBn : W.cell? ⟨Bn, 0, none⟩ = some (.int .u16 (m : Nat))) (hw : Brus W) (hg : 1 < n₀) (h0 : J [] W) :
    CallsIn Fence.wide n Tryd.prog 166 #[.func (.yield l) #[] #[], .pointer (some ⟨Bn, 0, none⟩)] W fun e W' => (∃ v, e = .returned v) ∧
      ((∃ ys, ys = idxsN N m ∧ J ys W') ∨ (∃ pre, pre <+: idxsN N m ∧ Jx pre W')) := by
  refine callsIn_of_wp Tryd.func166 rfl trivial ?_ rfl
  simp only [Tryd.ntmps166, List.size_toArray, List.length_cons, List.length_nil, Nat.reduceAdd, Nat.reduceSub, Array.replicate_succ, Array.replicate_zero, List.push_toArray, List.append_toArray, List.nil_append, List.cons_append]
  have h12 := pow_le12 hN
  have hml := idxsN_len hN hm
  gi_wp2
  gi_loopw [3] (fun p wr => ∃ (pre : List (IdxN N)) (q : Nat), p = .int .u16 (q : Nat) ∧ q < 2 ^ N ∧ idxsN N m = pre ++ idxsN N q ∧ Brus wr ∧ J pre wr)
    (fun p _ => (intOf p).toNat)
  case atStart =>
    exact ⟨[], m, rfl, hm, rfl, hw, h0⟩
  case round =>
    clear hBn hw h0
    obtain ⟨pre, q, rfl, hq, hx, hws, hJs⟩ := hrel
    by_cases hz : q = 0
    · subst hz
      have HX : Hid (pre = idxsN N m) := Lib.hid (by rw [hx, idxsN_zero, List.append_nil])
      clear hx
      gi_wp2
      go_end0
      exact ⟨⟨_, rfl⟩, .inl ⟨pre, HX.out, hJs⟩⟩
    · obtain ⟨hb, hls, hlo12, hng, hdc⟩ := low_ok (Nat.lt_of_lt_of_le hq h12) hz
      have hlo := low_in hN hq hz
      have hc := idxsN_cons hN hq hz hlo
      have HX : Hid (idxsN N m = (pre ++ [⟨lowB q, hlo⟩]) ++ idxsN N (clr q)) := Lib.hid (by rw [hx, hc]; simp)
      have hlen : pre.length < 12 := by
        have := congrArg List.length hx
        rw [hc, List.length_append, List.length_cons] at this
        omega
      obtain ⟨fn, tmps, assign, body, hy, hR⟩ := hY pre ⟨lowB q, hlo⟩ wr hJs hlen
      have hq4 := Nat.lt_of_lt_of_le hq h12
      have ht := impl_Trailing16 q wr hq4 hz hws
      unfold encN at hy
      dsimp only at hy
      have hne : ((q : Int) != 0) = true := by simp; omega
      have HT := Lib.hid ht
      clear hb hng hc hx ht
      gi_wp2
      refine ⟨trivial, fun _ => by omega, ?_⟩
      refine (callsIn_wide.2 HT.out).mono ?_
      rintro e w' ⟨rfl, rfl⟩
      gi_wp2
      refine ⟨fun _ => by omega, ?_⟩
      refine hR.mono ?_
      have hsub : ((q : Int) - 1) = ((q - 1 : Nat) : Int) := by omega
      have hq0 : (0 : Int) ≤ (q : Int) - 1 := by omega
      rintro e W3 (⟨rfl, hJ3, hk3⟩ | ⟨rfl, hJx3⟩)
      · have hw3 := Lib.hid (hws.under hk3 hg)
        have HJ := Lib.hid hJ3
        have hcq : clr q < 2 ^ N := Nat.lt_trans hls hq
        clear hws hJs hR hy hJ3 hk3 hsub HT hY
        gi_wp2
        go_roundw
        case rel => exact ⟨pre ++ [⟨lowB q, hlo⟩], clr q, by first | rfl | (rw [hdc]), hcq, HX.out, hw3.out, HJ.out⟩
        case measure => simp [intOf]; omega
      · have HJ := Lib.hid hJx3
        clear hws hJs hR hy hJx3 hsub HT hY
        gi_wp2
        refine bodyPost_ret (results_none rfl _ _ _) rfl ?_
        exact ⟨⟨_, rfl⟩, .inr ⟨pre ++ [⟨lowB q, hlo⟩], ⟨idxsN N (clr q), HX.out.symm⟩, HJ.out⟩⟩
theorem idx_stopsN (N : Nat) (hN : N ≤ 12) (n : Nat) (hn : 2 ≤ n) (Bn n₀ m : Nat) (hm : m < 2 ^ N) (w : World) (hBn : Bn < w.heap.size) (hn₀ : n₀ ≤ w.heap.size) (hc : w.cell? ⟨Bn, 0, none⟩ = some (.int .u16 (m : Nat))) (hw : Brus w) (hg : 1 < n₀) :
    SeqStopsK Fence.wide n Tryd.prog 166 #[.pointer (some ⟨Bn, 0, none⟩)] encN (Below n₀) (fun ys => ys = idxsN N m) (fun pre => pre <+: idxsN N m) 12 w := fun l J Jx W hW _ _ hY h0 =>
  idx1_inN N hN n hn l Bn n₀ m hm J Jx hY W ((hW.cell (p := ⟨Bn, 0, none⟩) hBn).trans hc) (hw.under hW (by omega)) hg h0
end Go.Proofs.YtcbccbefkpklkaaDoor

/- The size of a mask: math/bits.OnesCount16. -/
namespace Go.Proofs.YtcbccbefkpklkaaDoor
open Go.RowKit
set_option linter.unusedVariables false

/-- how many bits. -/
def popc (m : Nat) : Nat := ((List.range 12).filter m.testBit).length
def bsum (m : Nat) : Nat := ((List.range 8).filter m.testBit).length
/-- the table of the bits of a byte. -/
abbrev popTab : ByteArray := ⟨#[0, 1, 1, 2, 1, 2, 2, 3, 1, 2, 2, 3, 2, 3, 3, 4, 1, 2, 2, 3, 2, 3, 3, 4, 2, 3, 3, 4, 3, 4, 4, 5, 1, 2, 2, 3, 2, 3, 3, 4, 2, 3, 3, 4, 3, 4, 4, 5, 2, 3, 3, 4, 3, 4, 4, 5, 3, 4, 4, 5, 4, 5, 5, 6, 1, 2, 2, 3, 2, 3, 3, 4, 2, 3, 3, 4, 3, 4, 4, 5, 2, 3, 3, 4, 3, 4, 4, 5, 3, 4, 4, 5, 4, 5, 5, 6, 2, 3, 3, 4, 3, 4, 4, 5, 3, 4, 4, 5, 4, 5, 5, 6, 3, 4, 4, 5, 4, 5, 5, 6, 4, 5, 5, 6, 5, 6, 6, 7, 1, 2, 2, 3, 2, 3, 3, 4, 2, 3, 3, 4, 3, 4, 4, 5, 2, 3, 3, 4, 3, 4, 4, 5, 3, 4, 4, 5, 4, 5, 5, 6, 2, 3, 3, 4, 3, 4, 4, 5, 3, 4, 4, 5, 4, 5, 5, 6, 3, 4, 4, 5, 4, 5, 5, 6, 4, 5, 5, 6, 5, 6, 6, 7, 2, 3, 3, 4, 3, 4, 4, 5, 3, 4, 4, 5, 4, 5, 5, 6, 3, 4, 4, 5, 4, 5, 5, 6, 4, 5, 5, 6, 5, 6, 6, 7, 3, 4, 4, 5, 4, 5, 5, 6, 4, 5, 5, 6, 5, 6, 6, 7, 4, 5, 5, 6, 5, 6, 6, 7, 5, 6, 6, 7, 6, 7, 7, 8]⟩
theorem popTab_size : popTab.size = 256 := by kernel_rfl
theorem popTab_at : ∀ b : Fin 256, (popTab[b.val]'(by rw [popTab_size]; exact b.isLt)).toNat = bsum b.val := by decide +kernel
theorem popc_sum (m : Nat) (h : m < 4096) : popc m = bsum (m / 256) + bsum (m % 256) := by
  have e1 : List.range 12 = List.range 8 ++ (List.range 4).map (8 + ·) := by decide
  have e2 : List.range 8 = List.range 4 ++ (List.range 4).map (4 + ·) := by decide
  have h1 : bsum (m % 256) = ((List.range 8).filter m.testBit).length := by
    unfold bsum
    congr 1
    refine List.filter_congr fun j hj => ?_
    have hj8 := List.mem_range.1 hj
    rw [show (256 : Nat) = 2 ^ 8 from rfl, Nat.testBit_mod_two_pow]
    simp [hj8]
  have h2 : bsum (m / 256) = ((List.range 4).filter (fun j => m.testBit (8 + j))).length := by
    unfold bsum
    rw [e2, List.filter_append, List.length_append]
    have z : ((List.range 4).map (4 + ·)).filter (m / 256).testBit = [] := by
      rw [List.filter_eq_nil_iff]
      intro j hj
      obtain ⟨i, _, rfl⟩ := List.mem_map.1 hj
      rw [show (256 : Nat) = 2 ^ 8 from rfl, Nat.testBit_div_two_pow, Nat.testBit_lt_two_pow (Nat.lt_of_lt_of_le h (Nat.pow_le_pow_right (by decide) (by omega) : 2 ^ 12 ≤ _))]
      simp
    rw [z, List.length_nil, Nat.add_zero]
    congr 1
    refine List.filter_congr fun j _ => ?_
    rw [show (256 : Nat) = 2 ^ 8 from rfl, Nat.testBit_div_two_pow, Nat.add_comm]
  rw [h1, h2]
  unfold popc
  rw [e1, List.filter_append, List.length_append, List.filter_map, List.length_map, Nat.add_comm]
  rfl
theorem bsum_le : ∀ b : Fin 256, bsum b.val ≤ 8 := by decide +kernel
theorem popc_le (m : Nat) : popc m ≤ 12 := by
  unfold popc
  exact Nat.le_trans (List.length_filter_le _ _) (by simp)
theorem pop_sum (m x y : Nat) (h : m < 4096) (hx : m % 256 = x) (hy : (m : Int) / 256 = (y : Int)) (p : y < popTab.size) (q : x < popTab.size) :
    (((popTab[y]'p).toNat : Int) + ((popTab[x]'q).toNat : Int)) % 256 = ((popc m : Nat) : Int) := by
  have hy' : m / 256 = y := by omega
  have h1 := popTab_at ⟨y, by omega⟩
  have h2 := popTab_at ⟨x, by omega⟩
  have h3 := popc_sum m h
  have h4 := bsum_le ⟨y, by omega⟩
  have h5 := bsum_le ⟨x, by omega⟩
  simp only at h1 h2 h4 h5
  rw [hx, hy'] at h3
  rw [h1, h2, h3]
  omega
set_option maxRecDepth 100000 in
theorem impl_OnesCount16 (m : Nat) (w : World) (h : m < 4096) : Calls Tryd.prog 170 #[.int .u16 (m : Nat)] w fun e w' => e = .returned (.int .i64 (popc m : Nat)) ∧ ∃ k, w' = w.drewN k := by
  have b1 : bits .and .u16 (m : Int) 255 = ((m % 256 : Nat) : Int) := by
    rw [show (255 : Int) = ((255 : Nat) : Int) from rfl, u16_and_nat m 255 (by omega) (by decide), nat_mask8]
  have i1 : (0 : Int) ≤ (m : Int) / 256 := by omega
  have i2 : (m : Int) / 256 < 256 := by omega
  have i3 : (0 : Int) ≤ ((m % 256 : Nat) : Int) := by omega
  have i4 : ((m % 256 : Nat) : Int) < 256 := by omega
  obtain ⟨x, hx⟩ : ∃ x, m % 256 = x := ⟨_, rfl⟩
  rw [hx] at b1 i3 i4
  have HX := Lib.hid hx
  obtain ⟨y, hy⟩ : ∃ y : Nat, (m : Int) / 256 = (y : Int) := ⟨m / 256, by simp⟩
  rw [hy] at i1 i2
  have HY := Lib.hid hy
  clear hx
  go_enter Tryd.func170, Tryd.ntmps170
  go_wp2
  go_quiet (fail)
  go_wp2
  go_ret
  exact ⟨ret_i (pop_sum m x y h HX.out HY.out (by rw [popTab_size]; omega) (by rw [popTab_size]; omega)), _, rfl⟩
theorem impl_size (m : Nat) (w : World) (h : m < 4096) : Calls Tryd.prog 160 #[.int .u16 (m : Nat)] w fun e w' => e = .returned (.int .i64 (popc m : Nat)) ∧ ∃ k, w' = w.drewN k := by
  go_enter Tryd.func160, Tryd.ntmps160
  go_wp2_with fail
  refine (impl_OnesCount16 m _ h).mono ?_
  rintro e w1 ⟨rfl, k, rfl⟩
  go_wp2
  go_ret
  exact ⟨rfl, k, rfl⟩
end Go.Proofs.YtcbccbefkpklkaaDoor

/- The Ids of a set of paths: the program. -/
namespace Go.Proofs.YtcbccbefkpklkaaDoor
open Go.RowKit Go.Shelf
attribute [local go_sem] Oper.semAt_some
set_option linter.unusedVariables false

theorem popc_bits (m : Nat) : popc m = (bitsOf m).length := rfl
/-- 'append(v, ..)' at a step of a region that draws its order, inside a fence. -/
theorem step_append_in {F : Fence} {n : Nat} {P : Program} {w : World} {ops : Array Oper} {o : Oper} {a : Act} {K : Act → World → Prop} {Q : Exit → Act → World → Prop} {G : Prop}
    (hg : o.guard = none) (s x : Operand) (t : TypeId) (hop : o.op = Op.call { callee := Callee.builtin Builtin.append, args := #[s, x], argTypes := #[t, t] })
    (base : Nat) (e : TypeId) (i : TypeInfo) (z : Value) (size bytes : Nat) (h1 : P.underlying t = some (.slice e)) (h2 : P.info? e = some i) (h3 : i.zero = some z) (h4 : i.size = size) (h5 : i.bytes = bytes) (h6 : z.cells.size = size) (h7 : 0 < size)
    (v : Value) (k : Nat) (xs : List Value) (hs : a.eval s = v) (hown : w.ownsRow base e size v k xs) (ad : Addr) (m c : Nat) (news : List Value) (hx : a.eval x = .slice (some ad) m c) (hn : news.length = m * size)
    (hc : ∀ j u, news[j]? = some u → w.cell? (ad.add j) = some u) (h1c : ∀ u ∈ news, u.oneCell' = true) (b1 : k + m ≤ maxLen) (b2 : (k + m) * bytes ≤ 140737488355328) (b3 : base ≤ w.heap.size)
    (hK : ∀ v' w', w'.ownsRow base e size v' (k + m) (xs ++ news) → w.grownBy w' v.ownBlock → (v' = .slice none 0 0 ↔ v = .slice none 0 0 ∧ m = 0) → K (a.put o.dst v') w') :
    if Region.wanted o (yielded ops a.tmps) = true then Oper.wpIn F n P o a w K Q else G := by
  rw [if_pos (by simp [Region.wanted, hg])]
  obtain ⟨v', w', hrun, r1, r2, r3⟩ := run_append_own (P := P) w base t o.type e i z size bytes h1 h2 h3 h4 h5 h6 h7 v k xs hown ad m c news hn hc h1c b1 b2 b3
  unfold Oper.wpIn
  refine ⟨?_, ?_⟩
  · simp [Oper.about, hop, resolve, Target.leads, Sem.run_pure]
  · rw [Oper.semAt_plain F _ _ (by rw [hop]; intro c hc'; cases hc')]
    simp [execOp, hop, resolve, invoke, builtin, hs, hx, hrun, Result.andThen]
    exact hK v' w' r1 r2 r3
theorem info_int' : (Tryd.prog.info? 3).map (fun i => (i.zero, i.size, i.bytes)) = some (some (.int .i64 0), 1, 8) := by kernel_rfl
set_option maxRecDepth 100000 in
set_option maxHeartbeats 2000000 in
theorem impl_idsOf (A : Option Addr) (n c B : Nat) (ps : List Pth) (f : Nat → Nat) (m : Nat) (w : World) (h : PthsAt w B A n ps) (hB : B ≤ w.heap.size) (h12 : n ≤ 12) (hm : m < 2 ^ n) (hw : Brus w) :
    Calls Tryd.prog 140 #[.agg (xcells A n c f).toArray, .int .u16 (m : Nat)] w fun e W' => ∃ v, e = .returned v ∧ Own .i64 3 W' w.heap.size v (idsM ps m) ∧ Below w.heap.size w W' := by
  have hm4 := Nat.lt_of_lt_of_le hm (pow_le12 h12)
  obtain ⟨i0, hi, hz0, hz1, hz2⟩ := info_parts info_int'
  refine (callsIn_wide (n := 4)).1 ?_
  refine callsIn_of_wp_marks Tryd.func140 rfl trivial ?_ rfl
  simp only [Tryd.ntmps140, List.size_toArray, List.length_cons, List.length_nil, Nat.reduceAdd, Nat.reduceSub, Array.replicate_succ, Array.replicate_zero, List.push_toArray, List.append_toArray, List.nil_append, List.cons_append]
  have hX0 : (w.alloc (.cells (xcells A n c f).toArray 79)).heap[w.heap.size]? = some (.cells (xcells A n c f).toArray 79 (0, 0)) := heap_alloc_new w _
  have hx0 : (xcells A n c f).toArray[0]? = some (.slice A n c) := rfl
  have HP := Lib.hid h
  have hp12 := popc_le m
  generalize (xcells A n c f).toArray = xs at *
  have HX0 := Lib.hid hX0
  have HXS := Lib.hid hx0
  clear hX0 hx0 h
  gi_wp2
  refine ⟨trivial, (callsIn_wide.2 (impl_size m _ hm4)).mono ?_⟩
  rintro e w' ⟨rfl, k0, rfl⟩
  generalize hpc : popc m = pc at *
  gi_wp2_with (gi_at_make; refine wpListIn_make_own _ rfl _ _ 23 rfl (w.heap.size + 1) 3 i0 (.int .i64 0) 1 Tryd.underlying23 hi hz0 hz1 .i64 .i64 _ pc rfl rfl rfl (by rw [hz2]; omega) (by unfold maxLen; omega) (by simp) ?_; intro w1 hown1 hgrow1)
  have es : ((w.alloc (.cells xs 79)).drewN k0).heap.size = w.heap.size + 1 := by simp
  try rw [es] at hown1
  have hs1 : w.heap.size + 1 < w1.heap.size := (hown1.lt (w.heap.size + 1) rfl).2
  have hX1 : w1.heap[w.heap.size]? = some (.cells xs 79 (0, 0)) := (hgrow1.block w.heap.size (by simp) (by simp)).trans HX0.out
  have hBa : Below w.heap.size w (w.alloc (.cells xs 79)) := (Below.refl _ w).alloc (Nat.le_refl _) _
  have hBd : Below w.heap.size w ((w.alloc (.cells xs 79)).drewN k0) := ⟨hBa.os, hBa.tape, hBa.output, hBa.size, hBa.block⟩
  have hB1 : Below w.heap.size w w1 := hBd.grown hgrow1 (by simp) (fun k e => by cases e)
  refine ⟨trivial, (callsIn_wide.2 (impl_indexes m _)).mono ?_⟩
  rintro e w' ⟨rfl, rfl⟩
  gi_wp2
  have hcx : w1.cell? ⟨w.heap.size, 0, none⟩ = some (.slice A n c) := by rw [cell_of_row w1 w.heap.size 0 _ _ _ hX1]; exact HXS.out
  have bO := Boxed.new w1 23 (.slice (some ⟨w.heap.size + 1, 0, none⟩) 0 pc)
  have bN := Boxed.new (w1.alloc (.cells #[.slice (some ⟨w.heap.size + 1, 0, none⟩) 0 pc] 23)) 76 (.int .u16 (m : Nat))
  rw [World.size_alloc] at bN
  have hB0 : Below w.heap.size w ((w1.alloc (.cells #[.slice (some ⟨w.heap.size + 1, 0, none⟩) 0 pc] 23)).alloc (.cells #[.int .u16 (m : Nat)] 76)) := (hB1.alloc hB1.size _).alloc (by simp; omega) _
  have hbru := hw.below hB0 (Nat.le_refl _)
  have hglt := hw.lt
  refine wpIn_rangeFunc_ownF rfl (by omega) (gf := 166) (lb := #[.pointer (some ⟨w1.heap.size + 1, 0, none⟩)]) rfl trivial (enters_of Tryd.func166 (by kernel_rfl) rfl)
    (idx_stopsN n h12 (4 - 1) (by omega) (w1.heap.size + 1) w.heap.size m hm _ (by simp) (by simp; omega) bN.cell hbru hglt) belowK_t (belowK_b (by simp; omega)) (Below.refl _ _) (fun _ => rfl)
    (fun pre W => ((∃ v, Boxed W w1.heap.size 23 v ∧ W.ownsRow (w.heap.size + 1) 3 1 v pre.length (pre.map fun i => Value.int .i64 (idAt ps i.val)) ∧ True) ∧ W.cell? ⟨w.heap.size, 0, none⟩ = some (.slice A n c)) ∧ Below w.heap.size w W)
    (fun _ _ _ => False)
    (OwnFrom.and (Own.from (fun s A B row hs hg hr => ⟨holdsRow_own (w.heap.size + 1) w1.heap.size 23 3 1 (fun pre => pre.length) (fun (pre : List (IdxN n)) => pre.map fun i => Value.int .i64 (idAt ps i.val)) (fun _ _ => True) s A B row hs.1 hg hr, cell_kept hs.2 hg hr⟩) _) (ownFrom_below (Nat.le_refl _) (by simp; omega)))
    (fun _ _ _ _ _ hs _ _ => hs)
    ⟨⟨⟨_, bO.alloc _, (hown1.alloc _).alloc _, trivial⟩, cell_alloc_l _ (cell_alloc_l _ hcx)⟩, hB0⟩
    (fun x => { tmps := #[.agg xs, .int .u16 (m : Nat), .pointer (some ⟨w.heap.size, 0, none⟩), undef, .slice none 0 0, .pointer (some ⟨w1.heap.size, 0, none⟩), .int .i64 (x.val : Int), .int .u16 (m : Nat), .int .i64 (pc : Nat), .slice (some ⟨w.heap.size + 1, 0, none⟩) 0 pc, .int .u16 (m : Nat), .func (.func 166) #[] #[.pointer (some ⟨w1.heap.size + 1, 0, none⟩)], .int .i64 (x.val : Int), undef, undef, undef, undef, undef, undef, undef, undef, undef, undef], defers := [] }) ?assign ?body ?done ?stop
  case assign =>
    intro l x W K hK
    simp only [encN]
    gi_wp2
    exact hK
  case body =>
    rintro l pre x W ⟨⟨⟨v, hv, hrow, -⟩, hcx⟩, hB⟩ hlt
    have hc := hv.cell
    have hmx : Tryd.prog.follows .mixedOrders = true := by kernel_rfl
    obtain ⟨ad, p, hA, hab, hp, hpt⟩ := (HP.out.below (hB.mono ‹B ≤ w.heap.size›)).at x.property
    have hid : idAt ps x.val = p.id := by unfold idAt; rw [pAt_some hp]
    subst hA
    obtain ⟨x0, -, -, -⟩ := hpt
    obtain ⟨k, hk⟩ := x
    simp only at *
    have hlW : w1.heap.size < W.heap.size := hv.lt
    have hvD : Boxed W.drew w1.heap.size 23 v := hv
    have hrD : W.drew.ownsRow (w.heap.size + 1) 3 1 v pre.length (pre.map fun i => Value.int .i64 (idAt ps i.val)) := hrow
    have hab2 : (ad.add (k * 4)).block < W.heap.size := by omega
    gi_wp2
    refine wpIn_region_any hmx ?_
    (try change wpAnyIn _ _ _ _ _ _ _ _ _ (World.drew _))
    repeat' (first
      | refine AllReadyIn.cons rfl (fun K hK => ?_) ?_
      | exact AllReadyIn.nil
      | refine wpAnyIn_ready (rs := [0]) (by decide +kernel) (by simp) ?_
      | refine wpAnyIn_ready (rs := [0, 1]) (by decide +kernel) (by simp) ?_
      | refine wpAnyIn_ready (rs := [0, 1, 3]) (by decide +kernel) (by simp) ?_
      | refine wpAnyIn_ready (rs := [0, 2]) (by decide +kernel) (by simp) ?_
      | refine wpAnyIn_ready (rs := [0, 2, 3]) (by decide +kernel) (by simp) ?_
      | refine wpAnyIn_ready (rs := [0, 3]) (by decide +kernel) (by simp) ?_
      | refine wpAnyIn_ready (rs := [0, 4]) (by decide +kernel) (by simp) ?_
      | refine wpAnyIn_ready (rs := [0, 5]) (by decide +kernel) (by simp) ?_
      | refine wpAnyIn_ready (rs := [0, 6]) (by decide +kernel) (by simp) ?_
      | refine wpAnyIn_ready (rs := [0, 7]) (by decide +kernel) (by simp) ?_
      | refine wpAnyIn_ready (rs := [1]) (by decide +kernel) (by simp) ?_
      | refine wpAnyIn_ready (rs := [1, 3]) (by decide +kernel) (by simp) ?_
      | refine wpAnyIn_ready (rs := [2]) (by decide +kernel) (by simp) ?_
      | refine wpAnyIn_ready (rs := [2, 3]) (by decide +kernel) (by simp) ?_
      | refine wpAnyIn_ready (rs := [3]) (by decide +kernel) (by simp) ?_
      | refine wpAnyIn_ready (rs := [4]) (by decide +kernel) (by simp) ?_
      | refine wpAnyIn_ready (rs := [5]) (by decide +kernel) (by simp) ?_
      | refine wpAnyIn_ready (rs := [6]) (by decide +kernel) (by simp) ?_
      | refine wpAnyIn_ready (rs := [7]) (by decide +kernel) (by simp) ?_
      | refine wpAnyIn_ready (rs := [8]) (by decide +kernel) (by simp) ?_
      | refine wpAnyIn_ready (rs := [9]) (by decide +kernel) (by simp) ?_
      | (refine wpAnyIn_done (by decide +kernel) ?_ _; gi_wp2; exact ⟨(KeepsOthers.drew W).trans hk2, (below_undrew hb2).mono (by omega), ⟨⟨_, hv2, by rw [List.length_append, List.map_append, List.map_singleton, hid]; exact hr2, trivial⟩, (hb2.cell (p := ⟨w.heap.size, 0, none⟩) (by simp)).trans hcx⟩, hB.trans ((below_undrew hb2).mono (by omega))⟩)
      | (refine step_append_in rfl _ _ 23 rfl (w.heap.size + 1) 3 i0 (.int .i64 0) 1 8 Tryd.underlying23 hi hz0 hz1 hz2 rfl (by decide) _ _ _ rfl (hrD.alloc _) ⟨W.heap.size, 0, none⟩ 1 1 [.int .i64 p.id] rfl rfl (cell_one_new _ _ _) (by simp [Value.oneCell']) (by unfold maxLen; omega) (by omega) (by simp; omega) ?_
         intro v' w3 hown' hgrow _
         obtain ⟨g', cap', rfl⟩ := ownsRow_succ hown'
         obtain ⟨hv1, hv2, hr2, hk2, hb2⟩ := hvD.appended (by decide) hrD (by simp; omega) (by omega) hown' hgrow
         have hc1 := hv1.cell
         have hf1 := hv1.frozen
         refine hK _ _ ?_
         clear hK K)
      | (go_simp; refine hK _ _ ?_; clear hK K))
  case done =>
    rintro D ys W hD rfl ⟨⟨⟨v, hv, hrow, -⟩, _⟩, hB⟩ hK
    have hc := hv.cell
    gi_wp2
    refine ⟨by simp, .inl ⟨_, _, rfl, run_takeDeferred hK, ?_⟩⟩
    refine ⟨_, results_tmp rfl _ _ _, v, rfl, ?_, hB.trans (belowK_b (w := w) (Nat.le_refl _) W D _ _ (by simp at hD; omega) hK rfl rfl)⟩
    unfold Own
    rw [← idxsN_map h12 hm ps, List.length_map, List.map_map]
    exact ownr_mono (ownsRow_putObj hrow _ hK rfl) (by omega)
  case stop =>
    rintro D c pre W _ _ h _
    exact h.elim
end Go.Proofs.YtcbccbefkpklkaaDoor

/- Chapter 6's model: CoverOf. -/
namespace Go.Proofs.YtcbccbefkpklkaaDoor
open Go.RowKit
set_option linter.unusedVariables false

theorem addS_one (ps : List Pth) (x : Int) : (addS ps [x]).length ≤ 1 + ps.length := by
  have := addS_length ps [x]
  rw [List.length_singleton] at this
  exact this
end Go.Proofs.YtcbccbefkpklkaaDoor

/- CoverOf: the program; its exact law's contracts. -/
namespace Go.Proofs.YtcbccbefkpklkaaDoor
open Go.RowKit
set_option linter.unusedVariables false

theorem OwnD.hollow {W : World} {lo g : Nat} (h : W.heap[g]? = some (.cells #[] 23 (0, 0))) (hl : lo ≤ g) : OwnD W lo (.slice (some ⟨g, 0, none⟩) 0 0) [] [] :=
  ⟨⟨rfl, .inr ⟨g, 0, #[], rfl, hl, h, Nat.le_refl _, by decide, rfl, rfl⟩⟩, fun j hj => absurd hj (by simp), ApartL.nil⟩
theorem OwnD.put {w w1 w' : World} {lo : Nat} {v v' u : Value} {us : List Value} {zss : List (List Int)} {zs : List Int} (h : OwnD w lo v us zss) (h2 : Own .i64 3 w lo u zs) (hb : Below w.heap.size w w1)
    (hr' : w'.ownsRow lo 23 1 v' (zss.length + 1) (us ++ [u])) (hg : w1.grownBy w' v.ownBlock) (hap : ApartL (us ++ [u])) : OwnD w' lo v' (us ++ [u]) (zss ++ [zs]) := by
  have hl := h.len
  have hr1 := ownr_below h.row hb
  have kept : ∀ {x : Value} {xs : List Int}, Own .i64 3 w lo x xs → Own .i64 3 w' lo x xs := fun hx => (hx.below hb).grown hg (own_apart (hx.below hb) hr1)
  refine ⟨by rw [List.length_append]; exact hr', fun j hj => ?_, hap⟩
  rw [List.length_append, List.length_singleton] at hj
  by_cases e : j < zss.length
  · obtain ⟨x, h1, h3⟩ := h.each j e
    refine ⟨x, by rw [List.getElem?_append_left (by omega)]; exact h1, ?_⟩
    rw [List.getD_eq_getElem?_getD, List.getElem?_append_left e, ← List.getD_eq_getElem?_getD]
    exact kept h3
  · obtain rfl : j = zss.length := by omega
    refine ⟨u, by rw [List.getElem?_append_right (by omega)]; simp [hl], ?_⟩
    rw [List.getD_eq_getElem?_getD, List.getElem?_append_right (by omega)]
    simpa using kept h2
theorem row_not {w : World} {lo E s n b : Nat} {v : Value} {xs : List Value} {cs : Array Value} {T : TypeId} (h : w.ownsRow lo E s v n xs) (hb : w.heap[b]? = some (.cells cs T (0, 0))) (hT : T ≠ E) : v.ownBlock ≠ some b := by
  rcases h.2 with ⟨rfl, _⟩ | ⟨g, cap, cur, rfl, _, hg, _⟩
  · simp [Value.ownBlock]
  · intro e
    have e1 : g = b := Option.some.inj e
    subst e1
    rw [hb] at hg
    injection hg with hg
    injection hg with _ ht
    exact hT ht
theorem cov_len (ps : List Pth) : ∀ k, (covI ps k).1.length ≤ k
  | 0 => Nat.le_refl _
  | k + 1 => by
    have ih := cov_len ps k
    unfold covI
    split
    · omega
    · show ((covI ps k).1 ++ [_]).length ≤ _
      rw [List.length_append, List.length_singleton]
      omega
theorem cov_yes {ps : List Pth} {k q : Nat} {L : List Nat} (h : covI ps k = (L, q)) (hb : q.testBit k = true) : covI ps (k + 1) = (L, q) := by
  unfold covI
  rw [h]
  exact if_pos hb
theorem cov_no {ps : List Pth} {k q : Nat} {L : List Nat} (h : covI ps k = (L, q)) (hb : q.testBit k = false) : covI ps (k + 1) = (L ++ [fillTo (rowSt ps ps.length 0) (2 ^ k) ps.length], q ||| fillTo (rowSt ps ps.length 0) (2 ^ k) ps.length) := by
  unfold covI
  rw [h]
  exact if_neg (by rw [hb]; exact Bool.false_ne_true)
theorem and_bit (q k : Nat) : q &&& 2 ^ k = 0 ↔ q.testBit k = false := by
  rw [and_zero]
  constructor
  · intro h
    rw [Bool.eq_false_iff]
    intro hb
    exact h k ⟨hb, by rw [Nat.testBit_two_pow]; simp⟩
  · rintro h i ⟨h1, h2⟩
    rw [Nat.testBit_two_pow, decide_eq_true_eq] at h2
    subst h2
    rw [h] at h1
    cases h1
theorem cover_off {ps : List Pth} (h : arePs ps = false) : coverP ps = [] := by unfold coverP; rw [h]; rfl
theorem cover_on {ps : List Pth} (h : arePs ps = true) : coverP ps = (covI ps ps.length).1.map (idsM ps) := by
  unfold coverP
  rw [h, if_pos rfl]
  exact (cov_eq h _ (Nat.le_refl _)).1
theorem cover_small (ps : List Pth) : SmallSS (coverP ps) := by
  cases h : arePs ps
  · rw [cover_off h]; exact ⟨by simp, fun j hj => absurd hj (by simp)⟩
  · rw [cover_on h]
    have h12 := arePs_len12 h
    have hl := cov_len ps ps.length
    refine ⟨by rw [List.length_map]; omega, fun j hj => ?_⟩
    rw [List.length_map] at hj
    rw [List.getD_eq_getElem?_getD, List.getElem?_map, List.getElem?_eq_getElem hj]
    show ((idxs _).map _).length ≤ _
    rw [List.length_map]
    have := idxs_len ((covI ps ps.length).1[j])
    omega
end Go.Proofs.YtcbccbefkpklkaaDoor

/- callTableFor, answer, NextGreen: the program (written by gentbl.py). -/
namespace Go.Proofs.YtcbccbefkpklkaaDoor
open Go.RowKit
set_option linter.unusedVariables false

/-- the paths of a table. -/
def tabPs (ps : List Pth) (p : List Prt) : List Pth := if isPlan ps p then ps else []
/-- its first k rows. -/
def awyRows (ps : List Pth) (p : List Prt) (k : Nat) : List (List Int) := (List.range k).map fun i => awayL (rowP ps p (idAt ps i))
theorem awyRows_len (ps : List Pth) (p : List Prt) (k : Nat) : (awyRows ps p k).length = k := by simp [awyRows]
theorem awyRows_succ (ps : List Pth) (p : List Prt) (k : Nat) : awyRows ps p (k + 1) = awyRows ps p k ++ [awayL (rowP ps p (idAt ps k))] := by simp [awyRows, List.range_succ]
theorem awyRows_at {ps : List Pth} {p : List Prt} {k j : Nat} (h : j < k) : (awyRows ps p k).getD j [] = awayL (rowP ps p (idAt ps j)) := by
  unfold awyRows
  rw [List.getD_eq_getElem?_getD, List.getElem?_map, List.getElem?_range h]
  rfl
theorem tab_on {ps : List Pth} {p : List Prt} (h : isPlan ps p = true) : tabPs ps p = ps := by unfold tabPs; rw [h]; rfl
theorem tab_off {ps : List Pth} {p : List Prt} (h : isPlan ps p = false) : tabPs ps p = [] := by unfold tabPs; rw [h]; rfl
theorem awy_row {ps : List Pth} {p : List Prt} (hp : isPlan ps p = true) {i : Nat} (hi : i < ps.length) : rowP ps p (idAt ps i) = rowTo ps p (idAt ps i) p.length := by
  unfold rowP
  rw [hp, findK_of (isPlan_parts hp).2.1 hi]
  rfl
theorem awy_two {ps : List Pth} {p : List Prt} (hp : isPlan ps p = true) {i : Nat} (hi : i < ps.length) : awayTo (rowP ps p (idAt ps i)) (2 * (rowP ps p (idAt ps i)).length) = awayL (rowP ps p (idAt ps i)) :=
  awayTo_full (rowP_gr (by rw [hp, findK_of (isPlan_parts hp).2.1 hi]; rfl))
theorem rowTo_mem {ps : List Pth} {p : List Prt} {id : Int} : ∀ k, ∀ x ∈ rowTo ps p id k, 0 ≤ x ∧ x ≤ 2
  | 0, x, h => by cases h
  | k + 1, x, h => by
    have h' : x ∈ rowTo ps p id k ++ rowJ ps p id k := h
    rw [List.mem_append] at h'
    rcases h' with h' | h'
    · exact rowTo_mem k x h'
    · unfold rowJ at h'
      obtain ⟨s, _, rfl⟩ := List.mem_map.1 h'
      exact lightJ_bound _ _ _ _ _
theorem rowTo_val (ps : List Pth) (p : List Prt) (id : Int) (k j : Nat) : 0 ≤ (rowTo ps p id k).getD j 0 ∧ (rowTo ps p id k).getD j 0 ≤ 2 := by
  by_cases h : j < (rowTo ps p id k).length
  · rw [List.getD_eq_getElem?_getD, List.getElem?_eq_getElem h]
    exact rowTo_mem k _ (List.getElem_mem h)
  · rw [List.getD_eq_getElem?_getD, List.getElem?_eq_none (by omega)]
    exact ⟨Int.le_refl _, by decide⟩
theorem far_setCell {w : World} {g q o : Nat} {v : Value} (h : q ≠ g) : (w.setCell ⟨g, o, none⟩ v).heap[q]? = w.heap[q]? := heap_setCell_other _ _ _ _ (by simp; exact h)
/-- what a table holds. -/
def TabIn (w : World) (B : Nat) (ps : List Pth) (p : List Prt) (At : Option Addr) (nt : Nat) (Aw : Option Addr) : Prop :=
  nt = (tabPs ps p).length ∧ PthsAt w B At nt (tabPs ps p) ∧ SSAt w B Aw nt (awyRows ps p nt)
theorem OwnD.far {w w' : World} {lo g : Nat} {v : Value} {us : List Value} {zss : List (List Int)} (h : OwnD w lo v us zss) (hg : w.grownBy w' (some g)) (hl : g < lo) : OwnD w' lo v us zss :=
  ⟨ownr_grown h.row hg (fun q e h' => by have := (ownr_block h.row q e).1; injection h'; omega), fun j hj => by
    obtain ⟨u, h1, h2⟩ := h.each j hj
    exact ⟨u, h1, h2.grown hg (fun q e h' => by have := (h2.block q e).1; injection h'; omega)⟩, h.apart⟩
set_option maxHeartbeats 8000000 in
set_option maxRecDepth 100000 in
theorem impl_callTableFor {w : World} {A : Option Addr} {n c B : Nat} {ps : List Pth} {A2 : Option Addr} {n2 c2 B2 : Nat} {p : List Prt} (I : PlnIn w A n c B ps A2 n2 c2 B2 p) :
    Calls Tryd.prog 76 #[.slice A n c, .slice A2 n2 c2] w fun e w' => ∃ At nt ct Aw cw, e = .returned (.agg #[.slice At nt ct, .slice Aw nt cw]) ∧ TabIn w' w'.heap.size ps p At nt Aw ∧ Below w.heap.size w w' := by
  obtain ⟨w0, hw0⟩ : ∃ w0, w0 = w.alloc (.cells #[.slice none 0 0, .slice none 0 0] 105) := ⟨_, rfl⟩
  obtain ⟨hr0, hs0, hb0⟩ := one_block hw0
  have HB0 := Lib.hid hb0
  have HR0 := Lib.hid hr0
  have I0 := I.below hb0
  cases hp : isPlan ps p
  · have H := impl_timePlan_off I0 hp
    unfold t16 at H
    have HC := Lib.hid H
    have HT := Lib.hid (tab_off hp)
    clear H hp I I0 hb0 hr0
    go_enter Tryd.func76, Tryd.ntmps76
    go_wp2_with fail
    rw [← hw0]
    refine HC.out.mono ?_
    rintro e w1 ⟨rfl, hb⟩
    clear hw0
    obtain ⟨wA, hwA⟩ : ∃ wA, wA = (w1.alloc (.cells #[.slice none 0 0, .int .u16 0, .int .u16 0, .int .u16 0, .int .u16 0, .int .u16 0, .int .u16 0, .int .u16 0, .int .u16 0, .int .u16 0, .int .u16 0, .int .u16 0, .int .u16 0, .slice none 0 0, .slice none 0 0, .int .i64 0] 95)).alloc (.cells #[.slice none 0 0, .slice none 0 0] 105) := ⟨_, rfl⟩
    obtain ⟨hk0, hk1, hsz, hbA⟩ := two_blocks hwA
    have hbw := hb.trans (hbA.mono hb.size)
    have HBA := Lib.hid (HB0.out.trans (hbw.mono HB0.out.size))
    have hr := (hbw.block w.heap.size (by omega)).trans HR0.out
    have y0 : wA.cell? ⟨w1.heap.size + 1, 0, none⟩ = some (.slice none 0 0) := by rw [cell_of_row wA _ 0 _ _ _ hk1]; rfl
    have y1 : wA.cell? ⟨w1.heap.size + 1, 1, none⟩ = some (.slice none 0 0) := by rw [cell_of_row wA _ 1 _ _ _ hk1]; rfl
    have z0 : wA.cell? ⟨w.heap.size, 0, none⟩ = some (.slice none 0 0) := by rw [cell_of_row wA _ 0 _ _ _ hr]; rfl
    have z1 : wA.cell? ⟨w.heap.size, 1, none⟩ = some (.slice none 0 0) := by rw [cell_of_row wA _ 1 _ _ _ hr]; rfl
    have fz : ∀ j, wA.frozen? ⟨w.heap.size, j, none⟩ = false := fun j => frozen_of_row _ _ j _ _ hr
    have hb9 := hb.size
    have lr : w.heap.size < wA.heap.size := by omega
    have l1 : w1.heap.size + 1 < wA.heap.size := by omega
    clear hk0 hk1 hsz hbA hb hbw hr hb9
    go_wp2
    rw [← hwA]
    clear hwA
    go_loopw [22] (fun i wr => i = .int .i64 0 ∧ wA = wr) (fun _ _ => 0)
    case atStart => exact ⟨rfl, rfl⟩
    case round =>
      obtain ⟨rfl, rfl⟩ := hrel
      go_wp2
      refine bodyPost_ret (by rw [results_cell rfl]; go_simp; try rfl) rfl ?_
      refine ⟨none, 0, 0, none, 0, rfl, ⟨by rw [HT.out]; rfl, ⟨by rw [HT.out]; rfl, by rw [HT.out]; exact ⟨rfl, fun h => absurd h (by decide)⟩⟩, ⟨rfl, fun h => absurd h (by omega)⟩⟩, (HBA.out.setCell (Nat.le_refl _) _).setCell (Nat.le_refl _) _⟩
  · have H := impl_timePlan_on I0 hp
    unfold t16 at H
    have HC := Lib.hid H
    have HP := Lib.hid hp
    have HI := Lib.hid I0
    have HIW := Lib.hid I
    have hlp := I.lenp
    have hn4 := I.hn4
    have HT := Lib.hid (tab_on hp)
    clear H hp I I0 hb0 hr0
    go_enter Tryd.func76, Tryd.ntmps76
    go_wp2_with fail
    rw [← hw0]
    refine HC.out.mono ?_
    rintro e w1 ⟨a1, q1, a2, q2, rfl, hphs, hb1⟩
    clear hw0
    obtain ⟨w3, hw3⟩ : ∃ w3, w3 = (w1.alloc (.cells (t16 A n c (rowSt ps n 0) (.slice a1 n2 q1) (.slice a2 n2 q2) (sumTo ps p n2)) 95)).alloc (.cells #[.slice A n c, .slice none 0 0] 105) := ⟨_, rfl⟩
    obtain ⟨hk0, hk1, hsz3, hb13⟩ := two_blocks hw3
    have hbw := hb1.trans (hb13.mono hb1.size)
    have HB3 := Lib.hid (HB0.out.trans (hbw.mono HB0.out.size))
    have HB03 := Lib.hid hbw
    have HRR := Lib.hid ((hbw.block w.heap.size (by omega)).trans HR0.out)
    have hX3 : w3.heap[w1.heap.size]? = some (.cells (xcells A n c (rowSt ps n 0) ++ [Value.slice a1 n2 q1, .slice a2 n2 q2, .int .i64 (sumTo ps p n2)]).toArray 95) := by rw [t16_list]; exact hk0
    have HX3 := Lib.hid hX3
    have HK3 := Lib.hid hk1
    have HPH3 := Lib.hid (hphs.below hb13)
    have hs1 : w.heap.size < w1.heap.size := by have := hb1.size; omega
    have HG1 := Lib.hid (fun g e => (ownr_block hphs.1 g e).2)
    have HG2 := Lib.hid (fun g e => (ownr_block hphs.2 g e).2)
    have hlen : (xcells A n c (rowSt ps n 0) ++ [Value.slice a1 n2 q1, .slice a2 n2 q2, .int .i64 (sumTo ps p n2)]).length = 16 := by rw [List.length_append, xcells_length]; rfl
    have hinf16 : (Tryd.prog.info? 95).map (·.size) = some (xcells A n c (rowSt ps n 0) ++ [Value.slice a1 n2 q1, .slice a2 n2 q2, .int .i64 (sumTo ps p n2)]).length := by rw [hlen]; exact info_timed
    have HRO := Lib.hid (fun W (hW : Below w.heap.size w W) hP i (hi : i < n) => impl_rowOf (HIW.out.below hW) HP.out (lo0 := w0.heap.size) (a1 := a1) (q1 := q1) (a2 := a2) (q2 := q2) hP i hi)
    rw [← t16_list] at HRO
    have HRW : Hid (∀ i, i < n → rowP ps p (idAt ps i) = rowTo ps p (idAt ps i) n2) := Lib.hid (fun i hi => by rw [awy_row HP.out (by rw [hlp]; exact hi), HI.out.len])
    have HAW : Hid (∀ i, i < n → awayTo (rowP ps p (idAt ps i)) (2 * (rowP ps p (idAt ps i)).length) = awayL (rowP ps p (idAt ps i))) := Lib.hid (fun i hi => awy_two HP.out (by rw [hlp]; exact hi))
    have HRL := Lib.hid (fun i => rowTo_len HP.out (idAt ps i) n2 (by rw [HI.out.len]; exact Nat.le_refl _))
    have HRV := Lib.hid (fun i => rowTo_val ps p (idAt ps i) n2)
    have HSB := Lib.hid (sumTo_bound HP.out n2 (by rw [HI.out.len]; exact Nat.le_refl _))
    have HN1 : Hid (1 ≤ n2 ∧ n2 ≤ 6) := Lib.hid (by have := (isPlan_parts HP.out).1; rw [HI.out.len] at this; exact this)
    have hn12 : n ≤ 12 := by have := arePs_len12 (isPlan_parts HP.out).2.1; omega
    have HPT := Lib.hid (fun x (hx : Below w.heap.size w x) => (HIW.out.below hx).h.up (HIW.out.below hx).hB)
    have hmx : Tryd.prog.follows .mixedOrders = true := by kernel_rfl
    have y0 : w3.cell? ⟨w1.heap.size + 1, 0, none⟩ = some (.slice A n c) := by rw [cell_of_row w3 _ 0 _ _ _ hk1]; rfl
    have l3 : w1.heap.size + 1 < w3.heap.size := by omega
    unfold t16 at hw3
    clear hk0 hk1 hb13 hbw hX3 hlen hb1 hphs
    go_wp2
    rw [← hw3]
    clear hw3 y0
    generalize xcells A n c (rowSt ps n 0) ++ [Value.slice a1 n2 q1, .slice a2 n2 q2, .int .i64 (sumTo ps p n2)] = cs at *
    go_loopw [22] (fun i wr => ∃ (k : Nat) (v : Value) (us : List Value), k ≤ n ∧ i = .int .i64 k ∧ w3.heap.size ≤ wr.heap.size ∧ OwnD wr w3.heap.size v us (awyRows ps p k) ∧ wr.heap[w1.heap.size + 1]? = some (.cells #[.slice A n c, v] 105 (0, 0)) ∧ w3.grownBy wr (some (w1.heap.size + 1)) ∧ Below w.heap.size w wr) (fun i _ => n - (intOf i).toNat)
    case atStart => exact ⟨0, _, [], Nat.zero_le _, rfl, Nat.le_refl _, ⟨ownr_nil _ _ _ _, fun j hj => absurd hj (by simp [awyRows]), ApartL.nil⟩, HK3.out, World.grownBy.refl _ _, HB3.out⟩
    case round =>
      obtain ⟨k, v, us, hk, rfl, hz3r, hod, htb, hke, hbl⟩ := hrel
      have HOD := Lib.hid hod
      have HTB := Lib.hid htb
      have HKE := Lib.hid hke
      have HBL := Lib.hid hbl
      have hszr := hbl.size
      have HX := Lib.hid ((hke.block w1.heap.size (by omega) (fun e => by injection e; omega)).trans HX3.out)
      have HRC := Lib.hid ((hke.block w.heap.size (by omega) (fun e => by injection e; omega)).trans HRR.out)
      have y0 : wr.cell? ⟨w1.heap.size + 1, 0, none⟩ = some (.slice A n c) := by rw [cell_of_row wr _ 0 _ _ _ htb]; rfl
      have y1 : wr.cell? ⟨w1.heap.size + 1, 1, none⟩ = some v := by rw [cell_of_row wr _ 1 _ _ _ htb]; rfl
      clear hod htb hke hbl
      by_cases hlt : k < n
      ·
        have hdd : Below wr.heap.size wr wr.drew := ⟨rfl, rfl, rfl, Nat.le_refl _, fun _ _ => rfl⟩
        have HPR : PhsIn wr w0.heap.size ps p n2 a1 q1 a2 q2 := ⟨ownr_grown HPH3.out.1 HKE.out (fun g e h => by have := HG1.out g e; injection h; omega), ownr_grown HPH3.out.2 HKE.out (fun g e h => by have := HG2.out g e; injection h; omega)⟩
        have HCR := Lib.hid (HRO.out wr.drew (HBL.out.trans (hdd.mono hszr)) (HPR.below hdd) k hlt)
        have hrl := HRL.out k
        have hsb := HSB.out
        have hn1 := HN1.out
        have hzv := HRV.out k
        have hr1 := HRW.out k hlt
        have ha1 := HAW.out k hlt
        have hnx := awyRows_succ ps p k
        rw [hr1] at ha1 hnx
        rw [← ha1] at hnx
        have HNX := Lib.hid hnx
        clear HPR hr1 ha1 hnx
        generalize rowTo ps p (idAt ps k) n2 = zs at *
        have hz1 : zs.length ≤ 1000 := by omega
        have HZV := Lib.hid (fun j (_ : j < zs.length) => hzv j)
        have hrng := range_block HX.out
        have lgt : w1.heap.size < wr.heap.size := by omega
        have lgt1 : w1.heap.size + 1 < wr.heap.size := by omega
        clear hrl hsb hn1 hzv y0
        go_wp2
        refine wp_region_held_drew (S := fun W' => W'.rangeAt w1.heap.size 0 cs) hmx hrng (fun hH => ?_)
        refine wpAnyH_take (i := 0) (v := .pointer (some ⟨w1.heap.size + 1, 1, none⟩)) rfl (by kernel_rfl) (by kernel_rfl) (by kernel_rfl) (fun _ _ _ h => h) (Or.inl ⟨by rfl, by intro W hSw; go_simp⟩) hH ?_
        try simp only [Act.put, List.setIfInBounds_toArray, List.set_cons_zero, List.set_cons_succ]
        refine wpAnyH_take (i := 2) (v := .agg cs.toArray) rfl (by kernel_rfl) (by kernel_rfl) (by kernel_rfl) (fun _ _ _ h => h) (yieldsIf_load_mid (by rfl) 95 _ rfl w1.heap.size 0 rfl cs _ (fun _ h => h) Tryd.underlying95 rfl hinf16) hH ?_
        try simp only [Act.put, List.setIfInBounds_toArray, List.set_cons_zero, List.set_cons_succ]
        refine wpAnyH_take (i := 3) (v := .int .i64 (k : Int)) rfl (by kernel_rfl) (by kernel_rfl) (by kernel_rfl) (fun _ _ _ h => h) (Or.inl ⟨by rfl, by intro W hSw; go_simp⟩) hH ?_
        try simp only [Act.put, List.setIfInBounds_toArray, List.set_cons_zero, List.set_cons_succ]
        refine wpAnyH_ready (rs := [1, 4]) (by decide +kernel) (by simp) ?_
        refine (AllReadyH.cons rfl (fun K hK => ?_) (AllReadyH.cons rfl (fun K hK => ?_) AllReadyH.nil))
        ·
          go_simp
          refine hK.out _ _ hH (fun _ => ?_)
          clear hK K
          try simp only [Act.put, List.setIfInBounds_toArray, List.set_cons_zero, List.set_cons_succ]
          refine wpAnyH_ready (rs := [4]) (by decide +kernel) (by simp) ?_
          refine (AllReadyH.cons rfl (fun K hK => ?_) AllReadyH.nil)
          ·
            go_simp
            refine HCR.out.mono ?_
            rintro e w4 ⟨u4, rfl, hv4, hb4⟩
            obtain ⟨A4, c4, rfl⟩ := ownr_sliced hv4
            have HI4 := Lib.hid (Own.ints (k := .i64) (E := 3) hv4)
            have hb4w := hdd.trans hb4
            have HB4 := Lib.hid hb4w
            have HX4 := Lib.hid ((hb4w.block _ lgt).trans HX.out)
            have HR4 := Lib.hid (range_block HX4.out)
            have y4 : w4.cell? ⟨w1.heap.size + 1, 1, none⟩ = some v := (hb4w.cell (p := ⟨w1.heap.size + 1, 1, none⟩) lgt1).trans y1
            have lz4 := hb4w.size
            clear hv4 hb4 hb4w
            go_wp2_with fail
            refine hK.out _ _ HR4.out (fun _ => ?_)
            clear hK K
            try simp only [Act.put, List.setIfInBounds_toArray, List.set_cons_zero, List.set_cons_succ]
            refine wpAnyH_ready (rs := [5]) (by decide +kernel) (by simp) ?_
            refine (AllReadyH.cons rfl (fun K hK => ?_) AllReadyH.nil)
            ·
              go_simp
              refine (impl_away A4 zs.length c4 _ zs w4 HI4.out (Nat.le_refl _) (by omega) HZV.out).mono ?_
              rintro e w5 ⟨u5, rfl, hu5, hb5⟩
              obtain ⟨A5, c5, rfl⟩ := hu5.sliced
              have HU5 := Lib.hid hu5
              have HB5 := Lib.hid (HB4.out.trans (hb5.mono lz4))
              have HX5 := Lib.hid ((hb5.block _ (by omega)).trans HX4.out)
              have HR5 := Lib.hid (range_block HX5.out)
              have y5 : w5.cell? ⟨w1.heap.size + 1, 1, none⟩ = some v := (hb5.cell (p := ⟨w1.heap.size + 1, 1, none⟩) (by simp only; omega)).trans y4
              have lz5 := hb5.size
              clear hu5 hb5 y4
              go_wp2_with fail
              refine hK.out _ _ HR5.out (fun _ => ?_)
              clear hK K
              try simp only [Act.put, List.setIfInBounds_toArray, List.set_cons_zero, List.set_cons_succ]
              refine wpAnyH_ready (rs := [6]) (by decide +kernel) (by simp) ?_
              refine (AllReadyH.cons rfl (fun K hK => ?_) AllReadyH.nil)
              ·
                go_simp
                obtain ⟨wB, hwB⟩ : ∃ wB, wB = w5.alloc (.cells #[.slice A5 (awayTo zs (2 * zs.length)).length c5] 23) := ⟨_, rfl⟩
                obtain ⟨hkB, hsB, hbB⟩ := one_block hwB
                have HBB := Lib.hid hbB
                have HKB := Lib.hid hkB
                have HXB := Lib.hid ((hbB.block _ (by omega)).trans HX5.out)
                have HRB := Lib.hid (range_block HXB.out)
                have yB : wB.cell? ⟨w1.heap.size + 1, 1, none⟩ = some v := (hbB.cell (p := ⟨w1.heap.size + 1, 1, none⟩) (by simp only; omega)).trans y5
                have lzB := hbB.size
                clear hkB hsB hbB
                rw [← hwB]
                clear hwB
                refine hK.out _ _ HRB.out (fun _ => ?_)
                clear hK K
                try simp only [Act.put, List.setIfInBounds_toArray, List.set_cons_zero, List.set_cons_succ]
                refine wpAnyH_ready (rs := [7]) (by decide +kernel) (by simp) (AllReadyH.cons rfl (fun K hK => ?_) AllReadyH.nil)
                have HD5 := Lib.hid (HOD.out.below HB5.out)
                have HRW5 := Lib.hid (ownr_below HD5.out.row HBB.out)
                have hzl : (awyRows ps p k).length < 1000 := by rw [awyRows_len]; omega
                have HC6 : Hid (∀ (j : Nat) x, [Value.slice A5 (awayTo zs (2 * zs.length)).length c5][j]? = some x → wB.cell? ⟨w5.heap.size, j, none⟩ = some x) := Lib.hid (fun j x hx => (cell_of_row _ _ j _ _ _ HKB.out).trans (by simpa using hx))
                refine step_appR1 rfl _ _ 103 rfl 23 (.slice none 0 0) 1 24 Tryd.underlying103 info_ints rfl (by decide) (by decide) w3.heap.size v _ us rfl HRW5.out (by omega) [.slice A5 (awayTo zs (2 * zs.length)).length c5] rfl (by simp [Value.oneCell']) w5.heap.size (by omega) rfl HC6.out ?_
                intro v7 w7 hown7 hgrow7
                have HAP : Hid (ApartL (us ++ [.slice A5 (awayTo zs (2 * zs.length)).length c5])) := Lib.hid (HOD.out.apart.snoc (b := w4.heap.size) (fun x hx g hg => by
                  obtain ⟨ys, hy⟩ := HOD.out.inner hx
                  have := (hy.block g hg).2
                  omega) (fun g hg => (HU5.out.block g hg).1))
                have HOD7 := Lib.hid (HD5.out.put (HU5.out.mono (by omega)) HBB.out hown7 hgrow7 HAP.out)
                rw [← HNX.out] at HOD7
                have HNE : Hid (∀ b, b < w3.heap.size → some b ≠ v.ownBlock) := Lib.hid (fun b hb e => by have := (ownr_block HRW5.out b e.symm).1; omega)
                have HKB7 : Hid (∀ b, b < w3.heap.size → w7.heap[b]? = wr.heap[b]?) := Lib.hid (fun b hb => (hgrow7.block b (by omega) (HNE.out b hb)).trans ((HBB.out.block b (by omega)).trans (HB5.out.block b (by omega))))
                have HT7 := Lib.hid ((HKB7.out _ l3).trans HTB.out)
                have HX7 := Lib.hid ((HKB7.out w1.heap.size (by omega)).trans HX.out)
                have HBL7 : Hid (Below w.heap.size w w7) := Lib.hid ⟨hgrow7.os.trans (HBB.out.os.trans (HB5.out.os.trans HBL.out.os)), hgrow7.tape.trans (HBB.out.tape.trans (HB5.out.tape.trans HBL.out.tape)), hgrow7.output.trans (HBB.out.output.trans (HB5.out.output.trans HBL.out.output)), by have := hgrow7.size; omega, fun b hb => (HKB7.out b (by omega)).trans (HBL.out.block b hb)⟩
                have HK7 : Hid (w3.grownBy w7 (some (w1.heap.size + 1))) := Lib.hid ⟨hgrow7.os.trans (HBB.out.os.trans (HB5.out.os.trans HKE.out.os)), hgrow7.tape.trans (HBB.out.tape.trans (HB5.out.tape.trans HKE.out.tape)), hgrow7.output.trans (HBB.out.output.trans (HB5.out.output.trans HKE.out.output)), by have := hgrow7.size; omega, fun b hb hne => (HKB7.out b hb).trans (HKE.out.block b hb hne)⟩
                have hz37 : w3.heap.size ≤ w7.heap.size := HK7.out.size
                obtain ⟨A7, c7, rfl⟩ := HOD7.out.ss.sliced
                refine hK.out _ _ (range_block HX7.out) (fun _ => ?_)
                clear hK K hown7 hgrow7
                try simp only [Act.put, List.setIfInBounds_toArray, List.set_cons_zero, List.set_cons_succ]
                refine wpAnyH_take (i := 8) (v := .pointer (some ⟨w1.heap.size + 1, 1, none⟩)) rfl (by kernel_rfl) (by kernel_rfl) (by kernel_rfl) (fun _ _ _ h => h) (Or.inl ⟨by rfl, by intro W hSw; go_simp⟩) (range_block HX7.out) ?_
                try simp only [Act.put, List.setIfInBounds_toArray, List.set_cons_zero, List.set_cons_succ]
                refine wpAnyH_ready (rs := [9]) (by decide +kernel) (by simp) (AllReadyH.cons rfl (fun K hK => ?_) AllReadyH.nil)
                have y7 : w7.cell? ⟨w1.heap.size + 1, 1, none⟩ = some v := by rw [cell_of_row w7 _ 1 _ _ _ HT7.out]; rfl
                have f7 : w7.frozen? ⟨w1.heap.size + 1, 1, none⟩ = false := frozen_of_row _ _ 1 _ _ HT7.out
                have l7 : w1.heap.size + 1 < w7.heap.size := by omega
                go_simp
                have HX8 := Lib.hid ((far_setCell (w := w7) (g := w1.heap.size + 1) (q := w1.heap.size) (o := 1) (v := .slice A7 (awyRows ps p (k + 1)).length c7) (by omega)).trans HX7.out)
                have HT8 : Hid ((w7.setCell ⟨w1.heap.size + 1, 1, none⟩ (.slice A7 (awyRows ps p (k + 1)).length c7)).heap[w1.heap.size + 1]? = some (.cells #[.slice A n c, .slice A7 (awyRows ps p (k + 1)).length c7] 105 (0, 0))) := Lib.hid (by rw [heap_setCell_same _ _ _ _ _ _ HT7.out]; rfl)
                have HD8 := Lib.hid (HOD7.out.far (only_setCell (World.grownBy.refl w7 (some (w1.heap.size + 1))) 1 (.slice A7 (awyRows ps p (k + 1)).length c7)) l3)
                have HK8 := Lib.hid (only_setCell HK7.out 1 (.slice A7 (awyRows ps p (k + 1)).length c7))
                have HB8 := Lib.hid (HBL7.out.setCell (p := ⟨w1.heap.size + 1, 1, none⟩) (show w.heap.size ≤ w1.heap.size + 1 by omega) (.slice A7 (awyRows ps p (k + 1)).length c7))
                have hz8 : w3.heap.size ≤ (w7.setCell ⟨w1.heap.size + 1, 1, none⟩ (.slice A7 (awyRows ps p (k + 1)).length c7)).heap.size := by simpa using hz37
                refine hK.out _ _ (range_block HX8.out) (fun _ => ?_)
                clear hK K y7 f7
                try simp only [Act.put, List.setIfInBounds_toArray, List.set_cons_zero, List.set_cons_succ]
                refine wpAnyH_done (by decide +kernel) ?_ _
                go_wp2
                go_roundw
                case rel => exact ⟨k + 1, _, us ++ [.slice A5 (awayTo zs (2 * zs.length)).length c5], by omega, by go_num, hz8, HD8.out, HT8.out, HK8.out, HB8.out⟩
                case measure => simp [intOf]; omega
        ·
          go_simp
          refine HCR.out.mono ?_
          rintro e w4 ⟨u4, rfl, hv4, hb4⟩
          obtain ⟨A4, c4, rfl⟩ := ownr_sliced hv4
          have HI4 := Lib.hid (Own.ints (k := .i64) (E := 3) hv4)
          have hb4w := hdd.trans hb4
          have HB4 := Lib.hid hb4w
          have HX4 := Lib.hid ((hb4w.block _ lgt).trans HX.out)
          have HR4 := Lib.hid (range_block HX4.out)
          have y4 : w4.cell? ⟨w1.heap.size + 1, 1, none⟩ = some v := (hb4w.cell (p := ⟨w1.heap.size + 1, 1, none⟩) lgt1).trans y1
          have lz4 := hb4w.size
          clear hv4 hb4 hb4w
          go_wp2_with fail
          refine hK.out _ _ HR4.out (fun _ => ?_)
          clear hK K
          try simp only [Act.put, List.setIfInBounds_toArray, List.set_cons_zero, List.set_cons_succ]
          refine wpAnyH_ready (rs := [1, 5]) (by decide +kernel) (by simp) ?_
          refine (AllReadyH.cons rfl (fun K hK => ?_) (AllReadyH.cons rfl (fun K hK => ?_) AllReadyH.nil))
          ·
            go_simp
            refine hK.out _ _ HR4.out (fun _ => ?_)
            clear hK K
            try simp only [Act.put, List.setIfInBounds_toArray, List.set_cons_zero, List.set_cons_succ]
            refine wpAnyH_ready (rs := [5]) (by decide +kernel) (by simp) ?_
            refine (AllReadyH.cons rfl (fun K hK => ?_) AllReadyH.nil)
            ·
              go_simp
              refine (impl_away A4 zs.length c4 _ zs w4 HI4.out (Nat.le_refl _) (by omega) HZV.out).mono ?_
              rintro e w5 ⟨u5, rfl, hu5, hb5⟩
              obtain ⟨A5, c5, rfl⟩ := hu5.sliced
              have HU5 := Lib.hid hu5
              have HB5 := Lib.hid (HB4.out.trans (hb5.mono lz4))
              have HX5 := Lib.hid ((hb5.block _ (by omega)).trans HX4.out)
              have HR5 := Lib.hid (range_block HX5.out)
              have y5 : w5.cell? ⟨w1.heap.size + 1, 1, none⟩ = some v := (hb5.cell (p := ⟨w1.heap.size + 1, 1, none⟩) (by simp only; omega)).trans y4
              have lz5 := hb5.size
              clear hu5 hb5 y4
              go_wp2_with fail
              refine hK.out _ _ HR5.out (fun _ => ?_)
              clear hK K
              try simp only [Act.put, List.setIfInBounds_toArray, List.set_cons_zero, List.set_cons_succ]
              refine wpAnyH_ready (rs := [6]) (by decide +kernel) (by simp) ?_
              refine (AllReadyH.cons rfl (fun K hK => ?_) AllReadyH.nil)
              ·
                go_simp
                obtain ⟨wB, hwB⟩ : ∃ wB, wB = w5.alloc (.cells #[.slice A5 (awayTo zs (2 * zs.length)).length c5] 23) := ⟨_, rfl⟩
                obtain ⟨hkB, hsB, hbB⟩ := one_block hwB
                have HBB := Lib.hid hbB
                have HKB := Lib.hid hkB
                have HXB := Lib.hid ((hbB.block _ (by omega)).trans HX5.out)
                have HRB := Lib.hid (range_block HXB.out)
                have yB : wB.cell? ⟨w1.heap.size + 1, 1, none⟩ = some v := (hbB.cell (p := ⟨w1.heap.size + 1, 1, none⟩) (by simp only; omega)).trans y5
                have lzB := hbB.size
                clear hkB hsB hbB
                rw [← hwB]
                clear hwB
                refine hK.out _ _ HRB.out (fun _ => ?_)
                clear hK K
                try simp only [Act.put, List.setIfInBounds_toArray, List.set_cons_zero, List.set_cons_succ]
                refine wpAnyH_ready (rs := [7]) (by decide +kernel) (by simp) (AllReadyH.cons rfl (fun K hK => ?_) AllReadyH.nil)
                have HD5 := Lib.hid (HOD.out.below HB5.out)
                have HRW5 := Lib.hid (ownr_below HD5.out.row HBB.out)
                have hzl : (awyRows ps p k).length < 1000 := by rw [awyRows_len]; omega
                have HC6 : Hid (∀ (j : Nat) x, [Value.slice A5 (awayTo zs (2 * zs.length)).length c5][j]? = some x → wB.cell? ⟨w5.heap.size, j, none⟩ = some x) := Lib.hid (fun j x hx => (cell_of_row _ _ j _ _ _ HKB.out).trans (by simpa using hx))
                refine step_appR1 rfl _ _ 103 rfl 23 (.slice none 0 0) 1 24 Tryd.underlying103 info_ints rfl (by decide) (by decide) w3.heap.size v _ us rfl HRW5.out (by omega) [.slice A5 (awayTo zs (2 * zs.length)).length c5] rfl (by simp [Value.oneCell']) w5.heap.size (by omega) rfl HC6.out ?_
                intro v7 w7 hown7 hgrow7
                have HAP : Hid (ApartL (us ++ [.slice A5 (awayTo zs (2 * zs.length)).length c5])) := Lib.hid (HOD.out.apart.snoc (b := w4.heap.size) (fun x hx g hg => by
                  obtain ⟨ys, hy⟩ := HOD.out.inner hx
                  have := (hy.block g hg).2
                  omega) (fun g hg => (HU5.out.block g hg).1))
                have HOD7 := Lib.hid (HD5.out.put (HU5.out.mono (by omega)) HBB.out hown7 hgrow7 HAP.out)
                rw [← HNX.out] at HOD7
                have HNE : Hid (∀ b, b < w3.heap.size → some b ≠ v.ownBlock) := Lib.hid (fun b hb e => by have := (ownr_block HRW5.out b e.symm).1; omega)
                have HKB7 : Hid (∀ b, b < w3.heap.size → w7.heap[b]? = wr.heap[b]?) := Lib.hid (fun b hb => (hgrow7.block b (by omega) (HNE.out b hb)).trans ((HBB.out.block b (by omega)).trans (HB5.out.block b (by omega))))
                have HT7 := Lib.hid ((HKB7.out _ l3).trans HTB.out)
                have HX7 := Lib.hid ((HKB7.out w1.heap.size (by omega)).trans HX.out)
                have HBL7 : Hid (Below w.heap.size w w7) := Lib.hid ⟨hgrow7.os.trans (HBB.out.os.trans (HB5.out.os.trans HBL.out.os)), hgrow7.tape.trans (HBB.out.tape.trans (HB5.out.tape.trans HBL.out.tape)), hgrow7.output.trans (HBB.out.output.trans (HB5.out.output.trans HBL.out.output)), by have := hgrow7.size; omega, fun b hb => (HKB7.out b (by omega)).trans (HBL.out.block b hb)⟩
                have HK7 : Hid (w3.grownBy w7 (some (w1.heap.size + 1))) := Lib.hid ⟨hgrow7.os.trans (HBB.out.os.trans (HB5.out.os.trans HKE.out.os)), hgrow7.tape.trans (HBB.out.tape.trans (HB5.out.tape.trans HKE.out.tape)), hgrow7.output.trans (HBB.out.output.trans (HB5.out.output.trans HKE.out.output)), by have := hgrow7.size; omega, fun b hb hne => (HKB7.out b hb).trans (HKE.out.block b hb hne)⟩
                have hz37 : w3.heap.size ≤ w7.heap.size := HK7.out.size
                obtain ⟨A7, c7, rfl⟩ := HOD7.out.ss.sliced
                refine hK.out _ _ (range_block HX7.out) (fun _ => ?_)
                clear hK K hown7 hgrow7
                try simp only [Act.put, List.setIfInBounds_toArray, List.set_cons_zero, List.set_cons_succ]
                refine wpAnyH_take (i := 8) (v := .pointer (some ⟨w1.heap.size + 1, 1, none⟩)) rfl (by kernel_rfl) (by kernel_rfl) (by kernel_rfl) (fun _ _ _ h => h) (Or.inl ⟨by rfl, by intro W hSw; go_simp⟩) (range_block HX7.out) ?_
                try simp only [Act.put, List.setIfInBounds_toArray, List.set_cons_zero, List.set_cons_succ]
                refine wpAnyH_ready (rs := [9]) (by decide +kernel) (by simp) (AllReadyH.cons rfl (fun K hK => ?_) AllReadyH.nil)
                have y7 : w7.cell? ⟨w1.heap.size + 1, 1, none⟩ = some v := by rw [cell_of_row w7 _ 1 _ _ _ HT7.out]; rfl
                have f7 : w7.frozen? ⟨w1.heap.size + 1, 1, none⟩ = false := frozen_of_row _ _ 1 _ _ HT7.out
                have l7 : w1.heap.size + 1 < w7.heap.size := by omega
                go_simp
                have HX8 := Lib.hid ((far_setCell (w := w7) (g := w1.heap.size + 1) (q := w1.heap.size) (o := 1) (v := .slice A7 (awyRows ps p (k + 1)).length c7) (by omega)).trans HX7.out)
                have HT8 : Hid ((w7.setCell ⟨w1.heap.size + 1, 1, none⟩ (.slice A7 (awyRows ps p (k + 1)).length c7)).heap[w1.heap.size + 1]? = some (.cells #[.slice A n c, .slice A7 (awyRows ps p (k + 1)).length c7] 105 (0, 0))) := Lib.hid (by rw [heap_setCell_same _ _ _ _ _ _ HT7.out]; rfl)
                have HD8 := Lib.hid (HOD7.out.far (only_setCell (World.grownBy.refl w7 (some (w1.heap.size + 1))) 1 (.slice A7 (awyRows ps p (k + 1)).length c7)) l3)
                have HK8 := Lib.hid (only_setCell HK7.out 1 (.slice A7 (awyRows ps p (k + 1)).length c7))
                have HB8 := Lib.hid (HBL7.out.setCell (p := ⟨w1.heap.size + 1, 1, none⟩) (show w.heap.size ≤ w1.heap.size + 1 by omega) (.slice A7 (awyRows ps p (k + 1)).length c7))
                have hz8 : w3.heap.size ≤ (w7.setCell ⟨w1.heap.size + 1, 1, none⟩ (.slice A7 (awyRows ps p (k + 1)).length c7)).heap.size := by simpa using hz37
                refine hK.out _ _ (range_block HX8.out) (fun _ => ?_)
                clear hK K y7 f7
                try simp only [Act.put, List.setIfInBounds_toArray, List.set_cons_zero, List.set_cons_succ]
                refine wpAnyH_done (by decide +kernel) ?_ _
                go_wp2
                go_roundw
                case rel => exact ⟨k + 1, _, us ++ [.slice A5 (awayTo zs (2 * zs.length)).length c5], by omega, by go_num, hz8, HD8.out, HT8.out, HK8.out, HB8.out⟩
                case measure => simp [intOf]; omega
          ·
            go_simp
            refine (impl_away A4 zs.length c4 _ zs w4 HI4.out (Nat.le_refl _) (by omega) HZV.out).mono ?_
            rintro e w5 ⟨u5, rfl, hu5, hb5⟩
            obtain ⟨A5, c5, rfl⟩ := hu5.sliced
            have HU5 := Lib.hid hu5
            have HB5 := Lib.hid (HB4.out.trans (hb5.mono lz4))
            have HX5 := Lib.hid ((hb5.block _ (by omega)).trans HX4.out)
            have HR5 := Lib.hid (range_block HX5.out)
            have y5 : w5.cell? ⟨w1.heap.size + 1, 1, none⟩ = some v := (hb5.cell (p := ⟨w1.heap.size + 1, 1, none⟩) (by simp only; omega)).trans y4
            have lz5 := hb5.size
            clear hu5 hb5 y4
            go_wp2_with fail
            refine hK.out _ _ HR5.out (fun _ => ?_)
            clear hK K
            try simp only [Act.put, List.setIfInBounds_toArray, List.set_cons_zero, List.set_cons_succ]
            refine wpAnyH_ready (rs := [1, 6]) (by decide +kernel) (by simp) ?_
            refine (AllReadyH.cons rfl (fun K hK => ?_) (AllReadyH.cons rfl (fun K hK => ?_) AllReadyH.nil))
            ·
              go_simp
              refine hK.out _ _ HR5.out (fun _ => ?_)
              clear hK K
              try simp only [Act.put, List.setIfInBounds_toArray, List.set_cons_zero, List.set_cons_succ]
              refine wpAnyH_ready (rs := [6]) (by decide +kernel) (by simp) ?_
              refine (AllReadyH.cons rfl (fun K hK => ?_) AllReadyH.nil)
              ·
                go_simp
                obtain ⟨wB, hwB⟩ : ∃ wB, wB = w5.alloc (.cells #[.slice A5 (awayTo zs (2 * zs.length)).length c5] 23) := ⟨_, rfl⟩
                obtain ⟨hkB, hsB, hbB⟩ := one_block hwB
                have HBB := Lib.hid hbB
                have HKB := Lib.hid hkB
                have HXB := Lib.hid ((hbB.block _ (by omega)).trans HX5.out)
                have HRB := Lib.hid (range_block HXB.out)
                have yB : wB.cell? ⟨w1.heap.size + 1, 1, none⟩ = some v := (hbB.cell (p := ⟨w1.heap.size + 1, 1, none⟩) (by simp only; omega)).trans y5
                have lzB := hbB.size
                clear hkB hsB hbB
                rw [← hwB]
                clear hwB
                refine hK.out _ _ HRB.out (fun _ => ?_)
                clear hK K
                try simp only [Act.put, List.setIfInBounds_toArray, List.set_cons_zero, List.set_cons_succ]
                refine wpAnyH_ready (rs := [7]) (by decide +kernel) (by simp) (AllReadyH.cons rfl (fun K hK => ?_) AllReadyH.nil)
                have HD5 := Lib.hid (HOD.out.below HB5.out)
                have HRW5 := Lib.hid (ownr_below HD5.out.row HBB.out)
                have hzl : (awyRows ps p k).length < 1000 := by rw [awyRows_len]; omega
                have HC6 : Hid (∀ (j : Nat) x, [Value.slice A5 (awayTo zs (2 * zs.length)).length c5][j]? = some x → wB.cell? ⟨w5.heap.size, j, none⟩ = some x) := Lib.hid (fun j x hx => (cell_of_row _ _ j _ _ _ HKB.out).trans (by simpa using hx))
                refine step_appR1 rfl _ _ 103 rfl 23 (.slice none 0 0) 1 24 Tryd.underlying103 info_ints rfl (by decide) (by decide) w3.heap.size v _ us rfl HRW5.out (by omega) [.slice A5 (awayTo zs (2 * zs.length)).length c5] rfl (by simp [Value.oneCell']) w5.heap.size (by omega) rfl HC6.out ?_
                intro v7 w7 hown7 hgrow7
                have HAP : Hid (ApartL (us ++ [.slice A5 (awayTo zs (2 * zs.length)).length c5])) := Lib.hid (HOD.out.apart.snoc (b := w4.heap.size) (fun x hx g hg => by
                  obtain ⟨ys, hy⟩ := HOD.out.inner hx
                  have := (hy.block g hg).2
                  omega) (fun g hg => (HU5.out.block g hg).1))
                have HOD7 := Lib.hid (HD5.out.put (HU5.out.mono (by omega)) HBB.out hown7 hgrow7 HAP.out)
                rw [← HNX.out] at HOD7
                have HNE : Hid (∀ b, b < w3.heap.size → some b ≠ v.ownBlock) := Lib.hid (fun b hb e => by have := (ownr_block HRW5.out b e.symm).1; omega)
                have HKB7 : Hid (∀ b, b < w3.heap.size → w7.heap[b]? = wr.heap[b]?) := Lib.hid (fun b hb => (hgrow7.block b (by omega) (HNE.out b hb)).trans ((HBB.out.block b (by omega)).trans (HB5.out.block b (by omega))))
                have HT7 := Lib.hid ((HKB7.out _ l3).trans HTB.out)
                have HX7 := Lib.hid ((HKB7.out w1.heap.size (by omega)).trans HX.out)
                have HBL7 : Hid (Below w.heap.size w w7) := Lib.hid ⟨hgrow7.os.trans (HBB.out.os.trans (HB5.out.os.trans HBL.out.os)), hgrow7.tape.trans (HBB.out.tape.trans (HB5.out.tape.trans HBL.out.tape)), hgrow7.output.trans (HBB.out.output.trans (HB5.out.output.trans HBL.out.output)), by have := hgrow7.size; omega, fun b hb => (HKB7.out b (by omega)).trans (HBL.out.block b hb)⟩
                have HK7 : Hid (w3.grownBy w7 (some (w1.heap.size + 1))) := Lib.hid ⟨hgrow7.os.trans (HBB.out.os.trans (HB5.out.os.trans HKE.out.os)), hgrow7.tape.trans (HBB.out.tape.trans (HB5.out.tape.trans HKE.out.tape)), hgrow7.output.trans (HBB.out.output.trans (HB5.out.output.trans HKE.out.output)), by have := hgrow7.size; omega, fun b hb hne => (HKB7.out b hb).trans (HKE.out.block b hb hne)⟩
                have hz37 : w3.heap.size ≤ w7.heap.size := HK7.out.size
                obtain ⟨A7, c7, rfl⟩ := HOD7.out.ss.sliced
                refine hK.out _ _ (range_block HX7.out) (fun _ => ?_)
                clear hK K hown7 hgrow7
                try simp only [Act.put, List.setIfInBounds_toArray, List.set_cons_zero, List.set_cons_succ]
                refine wpAnyH_take (i := 8) (v := .pointer (some ⟨w1.heap.size + 1, 1, none⟩)) rfl (by kernel_rfl) (by kernel_rfl) (by kernel_rfl) (fun _ _ _ h => h) (Or.inl ⟨by rfl, by intro W hSw; go_simp⟩) (range_block HX7.out) ?_
                try simp only [Act.put, List.setIfInBounds_toArray, List.set_cons_zero, List.set_cons_succ]
                refine wpAnyH_ready (rs := [9]) (by decide +kernel) (by simp) (AllReadyH.cons rfl (fun K hK => ?_) AllReadyH.nil)
                have y7 : w7.cell? ⟨w1.heap.size + 1, 1, none⟩ = some v := by rw [cell_of_row w7 _ 1 _ _ _ HT7.out]; rfl
                have f7 : w7.frozen? ⟨w1.heap.size + 1, 1, none⟩ = false := frozen_of_row _ _ 1 _ _ HT7.out
                have l7 : w1.heap.size + 1 < w7.heap.size := by omega
                go_simp
                have HX8 := Lib.hid ((far_setCell (w := w7) (g := w1.heap.size + 1) (q := w1.heap.size) (o := 1) (v := .slice A7 (awyRows ps p (k + 1)).length c7) (by omega)).trans HX7.out)
                have HT8 : Hid ((w7.setCell ⟨w1.heap.size + 1, 1, none⟩ (.slice A7 (awyRows ps p (k + 1)).length c7)).heap[w1.heap.size + 1]? = some (.cells #[.slice A n c, .slice A7 (awyRows ps p (k + 1)).length c7] 105 (0, 0))) := Lib.hid (by rw [heap_setCell_same _ _ _ _ _ _ HT7.out]; rfl)
                have HD8 := Lib.hid (HOD7.out.far (only_setCell (World.grownBy.refl w7 (some (w1.heap.size + 1))) 1 (.slice A7 (awyRows ps p (k + 1)).length c7)) l3)
                have HK8 := Lib.hid (only_setCell HK7.out 1 (.slice A7 (awyRows ps p (k + 1)).length c7))
                have HB8 := Lib.hid (HBL7.out.setCell (p := ⟨w1.heap.size + 1, 1, none⟩) (show w.heap.size ≤ w1.heap.size + 1 by omega) (.slice A7 (awyRows ps p (k + 1)).length c7))
                have hz8 : w3.heap.size ≤ (w7.setCell ⟨w1.heap.size + 1, 1, none⟩ (.slice A7 (awyRows ps p (k + 1)).length c7)).heap.size := by simpa using hz37
                refine hK.out _ _ (range_block HX8.out) (fun _ => ?_)
                clear hK K y7 f7
                try simp only [Act.put, List.setIfInBounds_toArray, List.set_cons_zero, List.set_cons_succ]
                refine wpAnyH_done (by decide +kernel) ?_ _
                go_wp2
                go_roundw
                case rel => exact ⟨k + 1, _, us ++ [.slice A5 (awayTo zs (2 * zs.length)).length c5], by omega, by go_num, hz8, HD8.out, HT8.out, HK8.out, HB8.out⟩
                case measure => simp [intOf]; omega
            ·
              go_simp
              obtain ⟨wB, hwB⟩ : ∃ wB, wB = w5.alloc (.cells #[.slice A5 (awayTo zs (2 * zs.length)).length c5] 23) := ⟨_, rfl⟩
              obtain ⟨hkB, hsB, hbB⟩ := one_block hwB
              have HBB := Lib.hid hbB
              have HKB := Lib.hid hkB
              have HXB := Lib.hid ((hbB.block _ (by omega)).trans HX5.out)
              have HRB := Lib.hid (range_block HXB.out)
              have yB : wB.cell? ⟨w1.heap.size + 1, 1, none⟩ = some v := (hbB.cell (p := ⟨w1.heap.size + 1, 1, none⟩) (by simp only; omega)).trans y5
              have lzB := hbB.size
              clear hkB hsB hbB
              rw [← hwB]
              clear hwB
              refine hK.out _ _ HRB.out (fun _ => ?_)
              clear hK K
              try simp only [Act.put, List.setIfInBounds_toArray, List.set_cons_zero, List.set_cons_succ]
              refine wpAnyH_ready (rs := [1]) (by decide +kernel) (by simp) ?_
              refine (AllReadyH.cons rfl (fun K hK => ?_) AllReadyH.nil)
              ·
                go_simp
                refine hK.out _ _ HRB.out (fun _ => ?_)
                clear hK K
                try simp only [Act.put, List.setIfInBounds_toArray, List.set_cons_zero, List.set_cons_succ]
                refine wpAnyH_ready (rs := [7]) (by decide +kernel) (by simp) (AllReadyH.cons rfl (fun K hK => ?_) AllReadyH.nil)
                have HD5 := Lib.hid (HOD.out.below HB5.out)
                have HRW5 := Lib.hid (ownr_below HD5.out.row HBB.out)
                have hzl : (awyRows ps p k).length < 1000 := by rw [awyRows_len]; omega
                have HC6 : Hid (∀ (j : Nat) x, [Value.slice A5 (awayTo zs (2 * zs.length)).length c5][j]? = some x → wB.cell? ⟨w5.heap.size, j, none⟩ = some x) := Lib.hid (fun j x hx => (cell_of_row _ _ j _ _ _ HKB.out).trans (by simpa using hx))
                refine step_appR1 rfl _ _ 103 rfl 23 (.slice none 0 0) 1 24 Tryd.underlying103 info_ints rfl (by decide) (by decide) w3.heap.size v _ us rfl HRW5.out (by omega) [.slice A5 (awayTo zs (2 * zs.length)).length c5] rfl (by simp [Value.oneCell']) w5.heap.size (by omega) rfl HC6.out ?_
                intro v7 w7 hown7 hgrow7
                have HAP : Hid (ApartL (us ++ [.slice A5 (awayTo zs (2 * zs.length)).length c5])) := Lib.hid (HOD.out.apart.snoc (b := w4.heap.size) (fun x hx g hg => by
                  obtain ⟨ys, hy⟩ := HOD.out.inner hx
                  have := (hy.block g hg).2
                  omega) (fun g hg => (HU5.out.block g hg).1))
                have HOD7 := Lib.hid (HD5.out.put (HU5.out.mono (by omega)) HBB.out hown7 hgrow7 HAP.out)
                rw [← HNX.out] at HOD7
                have HNE : Hid (∀ b, b < w3.heap.size → some b ≠ v.ownBlock) := Lib.hid (fun b hb e => by have := (ownr_block HRW5.out b e.symm).1; omega)
                have HKB7 : Hid (∀ b, b < w3.heap.size → w7.heap[b]? = wr.heap[b]?) := Lib.hid (fun b hb => (hgrow7.block b (by omega) (HNE.out b hb)).trans ((HBB.out.block b (by omega)).trans (HB5.out.block b (by omega))))
                have HT7 := Lib.hid ((HKB7.out _ l3).trans HTB.out)
                have HX7 := Lib.hid ((HKB7.out w1.heap.size (by omega)).trans HX.out)
                have HBL7 : Hid (Below w.heap.size w w7) := Lib.hid ⟨hgrow7.os.trans (HBB.out.os.trans (HB5.out.os.trans HBL.out.os)), hgrow7.tape.trans (HBB.out.tape.trans (HB5.out.tape.trans HBL.out.tape)), hgrow7.output.trans (HBB.out.output.trans (HB5.out.output.trans HBL.out.output)), by have := hgrow7.size; omega, fun b hb => (HKB7.out b (by omega)).trans (HBL.out.block b hb)⟩
                have HK7 : Hid (w3.grownBy w7 (some (w1.heap.size + 1))) := Lib.hid ⟨hgrow7.os.trans (HBB.out.os.trans (HB5.out.os.trans HKE.out.os)), hgrow7.tape.trans (HBB.out.tape.trans (HB5.out.tape.trans HKE.out.tape)), hgrow7.output.trans (HBB.out.output.trans (HB5.out.output.trans HKE.out.output)), by have := hgrow7.size; omega, fun b hb hne => (HKB7.out b hb).trans (HKE.out.block b hb hne)⟩
                have hz37 : w3.heap.size ≤ w7.heap.size := HK7.out.size
                obtain ⟨A7, c7, rfl⟩ := HOD7.out.ss.sliced
                refine hK.out _ _ (range_block HX7.out) (fun _ => ?_)
                clear hK K hown7 hgrow7
                try simp only [Act.put, List.setIfInBounds_toArray, List.set_cons_zero, List.set_cons_succ]
                refine wpAnyH_take (i := 8) (v := .pointer (some ⟨w1.heap.size + 1, 1, none⟩)) rfl (by kernel_rfl) (by kernel_rfl) (by kernel_rfl) (fun _ _ _ h => h) (Or.inl ⟨by rfl, by intro W hSw; go_simp⟩) (range_block HX7.out) ?_
                try simp only [Act.put, List.setIfInBounds_toArray, List.set_cons_zero, List.set_cons_succ]
                refine wpAnyH_ready (rs := [9]) (by decide +kernel) (by simp) (AllReadyH.cons rfl (fun K hK => ?_) AllReadyH.nil)
                have y7 : w7.cell? ⟨w1.heap.size + 1, 1, none⟩ = some v := by rw [cell_of_row w7 _ 1 _ _ _ HT7.out]; rfl
                have f7 : w7.frozen? ⟨w1.heap.size + 1, 1, none⟩ = false := frozen_of_row _ _ 1 _ _ HT7.out
                have l7 : w1.heap.size + 1 < w7.heap.size := by omega
                go_simp
                have HX8 := Lib.hid ((far_setCell (w := w7) (g := w1.heap.size + 1) (q := w1.heap.size) (o := 1) (v := .slice A7 (awyRows ps p (k + 1)).length c7) (by omega)).trans HX7.out)
                have HT8 : Hid ((w7.setCell ⟨w1.heap.size + 1, 1, none⟩ (.slice A7 (awyRows ps p (k + 1)).length c7)).heap[w1.heap.size + 1]? = some (.cells #[.slice A n c, .slice A7 (awyRows ps p (k + 1)).length c7] 105 (0, 0))) := Lib.hid (by rw [heap_setCell_same _ _ _ _ _ _ HT7.out]; rfl)
                have HD8 := Lib.hid (HOD7.out.far (only_setCell (World.grownBy.refl w7 (some (w1.heap.size + 1))) 1 (.slice A7 (awyRows ps p (k + 1)).length c7)) l3)
                have HK8 := Lib.hid (only_setCell HK7.out 1 (.slice A7 (awyRows ps p (k + 1)).length c7))
                have HB8 := Lib.hid (HBL7.out.setCell (p := ⟨w1.heap.size + 1, 1, none⟩) (show w.heap.size ≤ w1.heap.size + 1 by omega) (.slice A7 (awyRows ps p (k + 1)).length c7))
                have hz8 : w3.heap.size ≤ (w7.setCell ⟨w1.heap.size + 1, 1, none⟩ (.slice A7 (awyRows ps p (k + 1)).length c7)).heap.size := by simpa using hz37
                refine hK.out _ _ (range_block HX8.out) (fun _ => ?_)
                clear hK K y7 f7
                try simp only [Act.put, List.setIfInBounds_toArray, List.set_cons_zero, List.set_cons_succ]
                refine wpAnyH_done (by decide +kernel) ?_ _
                go_wp2
                go_roundw
                case rel => exact ⟨k + 1, _, us ++ [.slice A5 (awayTo zs (2 * zs.length)).length c5], by omega, by go_num, hz8, HD8.out, HT8.out, HK8.out, HB8.out⟩
                case measure => simp [intOf]; omega
      · obtain rfl : k = n := by omega
        have z0 : wr.cell? ⟨w.heap.size, 0, none⟩ = some (.slice none 0 0) := by rw [cell_of_row wr _ 0 _ _ _ HRC.out]; rfl
        have z1 : wr.cell? ⟨w.heap.size, 1, none⟩ = some (.slice none 0 0) := by rw [cell_of_row wr _ 1 _ _ _ HRC.out]; rfl
        have fz : ∀ j, wr.frozen? ⟨w.heap.size, j, none⟩ = false := fun j => frozen_of_row _ _ j _ _ HRC.out
        have lr : w.heap.size < wr.heap.size := by omega
        have l1 : w1.heap.size + 1 < wr.heap.size := by omega
        obtain ⟨Av, cv, rfl⟩ := HOD.out.ss.sliced
        have hnl := awyRows_len ps p k
        rw [hnl] at y1 HTB
        go_wp2
        refine bodyPost_ret (by rw [results_cell rfl]; go_simp; try rfl) rfl ?_
        have HBE := Lib.hid ((HBL.out.setCell (p := ⟨w.heap.size, 0, none⟩) (Nat.le_refl _) (.slice A k c)).setCell (p := ⟨w.heap.size, 1, none⟩) (Nat.le_refl _) (.slice Av k cv))
        have HDE := HOD.out.far (only_setCell (only_setCell (World.grownBy.refl wr (some w.heap.size)) 0 (.slice A k c)) 1 (.slice Av k cv)) (by omega)
        have HSS := HDE.ss
        rw [hnl] at HSS
        refine ⟨A, k, c, Av, cv, rfl, ⟨by rw [HT.out]; exact hlp.symm, by rw [HT.out]; exact HPT.out _ HBE.out, HSS.rows⟩, HBE.out⟩
end Go.Proofs.YtcbccbefkpklkaaDoor

/- answer, NextGreen: the program. -/
namespace Go.Proofs.YtcbccbefkpklkaaDoor
open Go.RowKit
set_option linter.unusedVariables false

theorem tab_find {ps : List Pth} {p : List Prt} {id : Int} {i : Nat} (h : findK id (tabPs ps p) = some i) : isPlan ps p = true ∧ findK id ps = some i := by
  cases hp : isPlan ps p
  · rw [tab_off hp] at h; cases h
  · rw [tab_on hp] at h; exact ⟨rfl, h⟩
theorem tab_none {ps : List Pth} {p : List Prt} {id : Int} (h : findK id (tabPs ps p) = none) : (isPlan ps p && (findK id ps).isSome) = false := by
  cases hp : isPlan ps p
  · rfl
  · rw [tab_on hp] at h; rw [h]; rfl
theorem TabIn.below {w w' : World} {B : Nat} {ps : List Pth} {p : List Prt} {At : Option Addr} {nt : Nat} {Aw : Option Addr} (h : TabIn w B ps p At nt Aw) (hB : B ≤ w.heap.size) (hb : Below w.heap.size w w') : TabIn w' B ps p At nt Aw :=
  ⟨h.1, h.2.1.below (hb.mono hB), h.2.2.keep fun q hq => hb.cell (Nat.lt_of_lt_of_le hq hB)⟩
theorem tab_small (ps : List Pth) (p : List Prt) : (tabPs ps p).length ≤ 12 := by
  cases hp : isPlan ps p
  · rw [tab_off hp]; simp
  · rw [tab_on hp]; exact arePs_len12 (isPlan_parts hp).2.1
set_option maxHeartbeats 4000000 in
theorem impl_answer {ps : List Pth} {p : List Prt} {At : Option Addr} {nt ct : Nat} {Aw : Option Addr} {cw B : Nat} (id t : Int) (w : World) (h : TabIn w B ps p At nt Aw) (hB : B ≤ w.heap.size) :
    Calls Tryd.prog 77 #[.agg #[.slice At nt ct, .slice Aw nt cw], .agg #[.int .i64 id, .int .i64 t]] w fun e w' => e = .returned (.int .i64 (nextP ps p id t)) ∧ Below w.heap.size w w' := by
  have hnt := tab_small ps p
  rw [← h.1] at hnt
  obtain ⟨wA, hwA⟩ : ∃ wA, wA = (w.alloc (.cells #[.slice At nt ct, .slice Aw nt cw] 105)).alloc (.cells #[.int .i64 id, .int .i64 t] 109) := ⟨_, rfl⟩
  obtain ⟨hk0, hk1, hsz, hbA⟩ := two_blocks hwA
  have HF := Lib.hid (impl_FindPath At nt ct B (tabPs ps p) id wA (h.2.1.below (hbA.mono hB)) (Nat.le_trans hB hbA.size) (by omega))
  have HA := Lib.hid (h.below hB hbA)
  have HBA := Lib.hid hbA
  have HK0 := Lib.hid hk0
  have HK1 := Lib.hid hk1
  have y0 : wA.cell? ⟨w.heap.size, 0, none⟩ = some (.slice At nt ct) := by rw [cell_of_row wA _ 0 _ _ _ hk0]; rfl
  have z0 : wA.cell? ⟨w.heap.size + 1, 0, none⟩ = some (.int .i64 id) := by rw [cell_of_row wA _ 0 _ _ _ hk1]; rfl
  have la0 : w.heap.size < wA.heap.size := by omega
  have la1 : w.heap.size + 1 < wA.heap.size := by omega
  have hBA : B ≤ wA.heap.size := by omega
  clear hk0 hk1 hsz hbA h
  cases hf : findK id (tabPs ps p)
  · have HN := Lib.hid (find_negM hf)
    have HR := Lib.hid (nextP_off (ps := ps) (p := p) (id := id) (f := t) (by rw [tab_none hf]; rfl))
    clear hf
    go_enter Tryd.func77, Tryd.ntmps77
    go_wp2_with fail
    rw [← hwA]
    refine HF.out.mono ?_
    rw [HN.out]
    rintro e w1 ⟨rfl, hb⟩
    clear hwA y0 z0
    go_wp2
    go_ret
    exact ⟨by rw [HR.out]; try rfl, HBA.out.trans (hb.mono HBA.out.size)⟩
  · rename_i i
    obtain ⟨hp, hfi⟩ := tab_find hf
    have HN := Lib.hid (find_posM hf)
    have HOF := Lib.hid (fun hh => nextP_off (ps := ps) (p := p) (id := id) (f := t) hh)
    have hbs : (isPlan ps p && (findK id ps).isSome) = true := by rw [hp, hfi]; rfl
    have HON := Lib.hid (fun (f : Nat) h2 => nextP_on (f := f) hbs h2)
    have hrl := rowP_len (ps := ps) (p := p) id
    obtain ⟨_, hr0⟩ := rowP_pos hbs
    obtain ⟨hin, hid⟩ := idAt_find hfi
    have hnn : nt = ps.length := by rw [HA.out.1, tab_on hp]
    have hit : i < nt := by omega
    have HRA : Hid ((awyRows ps p nt).getD i [] = awayL (rowP ps p id)) := Lib.hid (by rw [awyRows_at hit, hid])
    have HNX := Lib.hid (fun s (hs : s < (rowP ps p id).length) => awayL_at hs)
    have HNM := Lib.hid (fun s => nextD_mod (rowP ps p id) s)
    have HNL := Lib.hid (fun s => nextD_lt (r := rowP ps p id) (s := s) hr0)
    have HLL := Lib.hid (awayL_len (rowP ps p id))
    clear hf hfi hbs hin hid hp hnn
    generalize rowP ps p id = zs at *
    cases ht : inB t 0 100000
    · have HR := Lib.hid (HOF.out (by rw [ht, Bool.and_false]))
      have HT := Lib.hid ht
      clear ht
      have i0 : ¬ (i : Int) < 0 := by omega
      go_enter Tryd.func77, Tryd.ntmps77
      go_wp2_with fail
      rw [← hwA]
      refine HF.out.mono ?_
      rw [HN.out]
      rintro e w1 ⟨rfl, hb⟩
      have HB1 := Lib.hid (HBA.out.trans (hb.mono HBA.out.size))
      have z1 : w1.cell? ⟨w.heap.size + 1, 1, none⟩ = some (.int .i64 t) := by rw [cell_of_row w1 _ 1 _ _ _ ((hb.block _ la1).trans HK1.out)]; rfl
      clear hwA y0 z0 hb
      go_wp2_with fail
      refine (impl_InRange _ _ _ _).mono ?_
      rw [HT.out]
      rintro e w2 ⟨rfl, rfl⟩
      go_wp2
      go_ret
      exact ⟨by rw [HR.out]; try rfl, HB1.out⟩
    · have htb := inB_t ht
      obtain ⟨f, rfl⟩ : ∃ g : Nat, t = (g : Int) := ⟨t.toNat, by omega⟩
      have HR := Lib.hid (HON.out f ht)
      have HT := Lib.hid ht
      clear ht HOF HON
      have i0 : ¬ (i : Int) < 0 := by omega
      go_enter Tryd.func77, Tryd.ntmps77
      go_wp2_with fail
      rw [← hwA]
      refine HF.out.mono ?_
      rw [HN.out]
      rintro e w1 ⟨rfl, hb⟩
      have HB1 := Lib.hid (HBA.out.trans (hb.mono HBA.out.size))
      have x1 : w1.cell? ⟨w.heap.size, 1, none⟩ = some (.slice Aw nt cw) := by rw [cell_of_row w1 _ 1 _ _ _ ((hb.block _ la0).trans HK0.out)]; rfl
      have z1 : w1.cell? ⟨w.heap.size + 1, 1, none⟩ = some (.int .i64 (f : Int)) := by rw [cell_of_row w1 _ 1 _ _ _ ((hb.block _ la1).trans HK1.out)]; rfl
      have HA1 := Lib.hid (HA.out.below hBA hb)
      have ls1 := hb.size
      clear hwA y0 z0 hb
      obtain ⟨aw, rfl, hab, hrow⟩ := HA1.out.2.2.2 (by omega)
      obtain ⟨A', m, c', hci, hi, hmc, hnil⟩ := hrow i hit
      rw [HRA.out] at hi
      have hm := hi.1
      rw [HLL.out] at hm
      obtain ⟨ad, rfl, hab2, hcell⟩ := hi.2 (by omega)
      have hltm : f % m < m := Nat.mod_lt _ (by omega)
      have hcz := hcell (f % m) hltm
      have hnx := HNX.out (f % m) (by omega)
      have hnm := HNM.out f
      have hnl := HNL.out f
      rw [hm] at hnm
      rw [hnx, hnm] at hcz
      have e8 : IntKind.i64.wrap ((f : Int) + (nextD zs f : Int)) = (f : Int) + (nextD zs f : Int) := by rw [IntKind.wrap_i64]; omega
      have em : (f : Int).tmod (m : Int) = ((f % m : Nat) : Int) := by rw [Int.tmod_eq_emod_of_nonneg (by omega), Int.natCast_emod]
      have z2 : ¬ m = 0 := by omega
      have z3 : ¬ (m : Int) = 0 := by omega
      have l0 : w.heap.size < w1.heap.size := by omega
      have l1 : w.heap.size + 1 < w1.heap.size := by omega
      clear hcell hi hrow hnx hnm
      generalize f % m = y at *
      generalize (nextD zs f : Int) = d at *
      have i1 : (0 : Int) ≤ (y : Int) := by omega
      have i2 : (y : Int) < (m : Int) := by omega
      have j1 : (0 : Int) ≤ (i : Int) := by omega
      have j2 : (i : Int) < (nt : Int) := by omega
      go_wp2_with fail
      refine (impl_InRange _ _ _ _).mono ?_
      rw [HT.out]
      rintro e w2 ⟨rfl, rfl⟩
      go_wp2
      go_quiet (fail)
      go_wp2
      go_ret
      exact ⟨by rw [HR.out]; try rfl, belowN HB1.out _⟩
set_option maxHeartbeats 2000000 in
theorem impl_NextGreen {w : World} {A : Option Addr} {n c B : Nat} {ps : List Pth} {A2 : Option Addr} {n2 c2 B2 : Nat} {p : List Prt} (I : PlnIn w A n c B ps A2 n2 c2 B2 p) (id f : Int) :
    Calls Tryd.prog 28 #[.slice A n c, .slice A2 n2 c2, .int .i64 id, .int .i64 f] w fun e w' => e = .returned (.int .i64 (nextP ps p id f)) ∧ Below w.heap.size w w' := by
  have HC := Lib.hid (impl_callTableFor I)
  clear I
  go_enter Tryd.func28, Tryd.ntmps28
  go_wp2_with fail
  refine HC.out.mono ?_
  rintro e w1 ⟨At, nt, ct, Aw, cw, rfl, ht, hb⟩
  have HA := Lib.hid (fun (ct : Nat) => impl_answer (ct := ct) (cw := cw) id f w1 ht (Nat.le_refl _))
  have HB := Lib.hid hb
  clear ht hb
  go_wp2_with fail
  refine (HA.out _).mono ?_
  rintro e w2 ⟨rfl, hb2⟩
  go_wp2
  go_ret
  exact ⟨rfl, HB.out.trans (hb2.mono HB.out.size)⟩
end Go.Proofs.YtcbccbefkpklkaaDoor

/- NextGreen as its exact law meets it. -/
namespace Go.Proofs.YtcbccbefkpklkaaDoor
open Go.RowKit
set_option linter.unusedVariables false

theorem sp_NextGreen (A0 : Option Addr) (n0 c0 : Nat) (zs0 : List Pth) (A1 : Option Addr) (n1 c1 : Nat) (zs1 : List Prt) (a2 : Int) (a3 : Int) (w : World) (h0 : SlP w A0 n0 c0 zs0) (hs0 : n0 ≤ 1048576) (h1 : SlQ w A1 n1 c1 zs1) (hs1 : SmallP zs1) (wa2 : (Lit.int .i64 a2).wf = true) (wa3 : (Lit.int .i64 a3).wf = true) (r : Int) (hr : nextP zs0 zs1 a2 a3 = r) :
    Calls Tryd.prog 27 #[.slice A0 n0 c0, .slice A1 n1 c1, .int .i64 a2, .int .i64 a3] w fun e w' => e = .returned (.int .i64 r) ∧ Below w.heap.size w w' := by
  subst hr
  have hq1 := h1.prts.1
  have hz1 := hs1.1
  exact spec_NextGreen A0 n0 c0 _ zs0 A1 n1 c1 _ zs1 a2 a3 w h0.pths (Nat.le_refl _) (by omega) h1.prts (Nat.le_refl _) (by omega) (hs1.at _ _ hq1.symm (Nat.le_refl _))
theorem im_NextGreen (A0 : Option Addr) (n0 c0 : Nat) (zs0 : List Pth) (A1 : Option Addr) (n1 c1 : Nat) (zs1 : List Prt) (a2 : Int) (a3 : Int) (w : World) (h0 : SlP w A0 n0 c0 zs0) (hs0 : n0 ≤ 1048576) (h1 : SlQ w A1 n1 c1 zs1) (hs1 : SmallP zs1) (wa2 : (Lit.int .i64 a2).wf = true) (wa3 : (Lit.int .i64 a3).wf = true) (hv0 : Brus w) (hv1 : Clrs w) (r : Int) (hr : nextP zs0 zs1 a2 a3 = r) :
    Calls Tryd.prog 28 #[.slice A0 n0 c0, .slice A1 n1 c1, .int .i64 a2, .int .i64 a3] w fun e w' => e = .returned (.int .i64 r) ∧ Below w.heap.size w w' := by
  subst hr
  have hq1 := h1.prts.1
  have hz1 := hs1.1
  exact impl_NextGreen ⟨h0.pths, Nat.le_refl _, h0.cap, by omega, h1.prts, Nat.le_refl _, by omega, hs1.at _ _ hq1.symm (Nat.le_refl _), hv0, hv1⟩ a2 a3
end Go.Proofs.YtcbccbefkpklkaaDoor
