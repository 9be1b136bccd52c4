/- Chapter 10's model. -/
import Derived.Test.YtgdficjihkglpaaDemP
namespace Go.Proofs.Ytgdficjihkglpaa
open Go.RowKit
set_option linter.unusedVariables false

theorem spec_IsTrusted (d : Det) (w : World) : Calls Try.prog 31 #[d.val] w fun e w' => e = .returned (.bool (trust d)) ∧ Below w.heap.size w w' := by
  obtain ⟨a, b, c, x⟩ := d
  simp only [Det.val, trust]
  have HB := Lib.hid ((Below.refl w.heap.size w).alloc (Nat.le_refl _) (.cells #[.int .i64 a, .int .i64 b, .int .i64 c, .bool x] 44))
  cases x
  · by_cases h : c ≤ 900
    all_goals
      go_enter Try.func31, Try.ntmps31
      go_wp2
      go_ret
      exact ⟨by simp [h], HB.out⟩
  · go_enter Try.func31, Try.ntmps31
    go_wp2
    go_ret
    exact ⟨rfl, HB.out⟩
def cntV (ds : List Det) (id : Int) : Value := match trK id ds with | none => .tuple #[.int .i64 0, .bool false] | some k => .tuple #[.int .i64 (dAt ds k).count, .bool true]
set_option maxHeartbeats 1000000 in
theorem spec_l10Count (A : Option Addr) (n c B : Nat) (ds : List Det) (id : Int) (w : World) (h : DetsAt w B A n ds) (hB : B ≤ w.heap.size) (hn : n ≤ 4294967296) :
    Calls Try.prog 62 #[.slice A n c, .int .i64 id] w fun e w' => e = .returned (cntV ds id) ∧ Below w.heap.size w w' := by
  have hl := h.1
  go_enter Try.func62, Try.ntmps62
  go_wp2
  go_loopw [6] (fun i wr => ∃ k : Nat, k ≤ n ∧ i = .int .i64 k ∧ (∀ j, j < k → trFor id (dAt ds j) = false) ∧ Below w.heap.size w wr) (fun i _ => n - (intOf i).toNat)
  case atStart => exact ⟨0, Nat.zero_le _, rfl, fun j hj => absurd hj (by omega), Below.refl _ _⟩
  case round =>
    obtain ⟨k, hk, rfl, hno, hbl⟩ := hrel
    have hsz := hbl.size
    by_cases hlt : k < n
    · obtain ⟨ad, p, rfl, hab, hp, hq⟩ := h.at hlt
      have hdp := dAt_some hp
      have HN := Lib.hid hno
      have hyes := fun (h1 : p.path = id) (h2 : trust p = true) => Lib.hid (trK_some (id := id) (ds := ds) (k := k) HN.out (by omega) (by rw [hdp]; unfold trFor; rw [decide_eq_true h1, h2]; rfl))
      have hstep := fun (h1 : trFor id p = false) => Lib.hid (show ∀ j, j < k + 1 → trFor id (dAt ds j) = false from fun j hj => by
        by_cases e : j = k
        · subst e; rw [hdp]; exact h1
        · exact HN.out j (by omega))
      have hcv : trK id ds = some k → cntV ds id = .tuple #[.int .i64 p.count, .bool true] := fun h => by unfold cntV; rw [h]; simp only [hdp]
      replace hq := hq.below hbl (by omega)
      obtain ⟨c0, c1, c2, c3⟩ := hq
      clear hno hp
      by_cases he : p.path = id
      · have e1 : (p.path == id) = true := by simpa using he
        have hcc := spec_IsTrusted p wr
        have hv : p.val = .agg #[.int .i64 p.path, .int .i64 p.count, .int .i64 p.age, .bool p.broken] := rfl
        rw [hv] at hcc
        clear hv
        cases ht : trust p
        · have HS := hstep (by unfold trFor; rw [ht]; simp)
          rw [ht] at hcc
          clear hyes hstep ht he hcv
          go_wp2_with fail
          refine hcc.mono ?_
          rintro e w1 ⟨rfl, hb1⟩
          go_wp2
          go_roundw
          case rel => exact ⟨k + 1, by omega, by go_num, HS.out, hbl.trans (hb1.mono hsz)⟩
          case measure => simp [intOf]; omega
        · have HR : Hid (cntV ds id = .tuple #[.int .i64 p.count, .bool true]) := Lib.hid (hcv (hyes he ht).out)
          rw [ht] at hcc
          clear hyes hstep ht he hcv
          go_wp2_with fail
          refine hcc.mono ?_
          rintro e w1 ⟨rfl, hb1⟩
          have d1 := (hb1.cell (p := ⟨(ad.add (k * 4)).block, (ad.add (k * 4)).off + 1, none⟩) (Nat.lt_of_lt_of_le hab (Nat.le_trans hB hsz))).trans c1
          clear c0 c1 c2 c3 hcc
          go_wp2
          go_ret2
          exact ⟨by rw [HR.out]; rfl, hbl.trans (hb1.mono hsz)⟩
      · have HS := hstep (by unfold trFor; rw [decide_eq_false he]; rfl)
        have e1 : (p.path == id) = false := by simpa using he
        clear hyes hstep he hcv
        go_wp2
        go_roundw
        case rel => exact ⟨k + 1, by omega, by go_num, HS.out, hbl⟩
        case measure => simp [intOf]; omega
    · obtain rfl : k = n := by omega
      have HR : Hid (cntV ds id = .tuple #[.int .i64 0, .bool false]) := Lib.hid (by unfold cntV; rw [trK_none (fun j hj => hno j (by omega))])
      clear hno
      go_wp2
      go_ret2
      exact ⟨by rw [HR.out]; rfl, hbl⟩
theorem spec_LowDemand (A : Option Addr) (n c B : Nat) (ds : List Det) (id : Int) (w : World) (h : DetsAt w B A n ds) (hB : B ≤ w.heap.size) (hn : n ≤ 4294967296) :
    Calls Try.prog 34 #[.slice A n c, .int .i64 id] w fun e w' => e = .returned (.int .i64 (lowD ds id)) ∧ Below w.heap.size w w' := by
  have hcc := spec_l10Count A n c B ds id w h hB hn
  have HR : Hid (lowD ds id = cntD ds id 0) := Lib.hid rfl
  unfold cntV at hcc
  unfold cntD at HR
  cases hk : trK id ds
  all_goals
    rw [hk] at hcc HR
    clear hk
    go_enter Try.func34, Try.ntmps34
    go_wp2_with fail
    refine hcc.mono ?_
    rintro e w1 ⟨rfl, hb⟩
    go_wp2
    go_ret
    exact ⟨by rw [HR.out]; try rfl, hb⟩
theorem spec_HighDemand (A : Option Addr) (n c B : Nat) (ds : List Det) (id : Int) (w : World) (h : DetsAt w B A n ds) (hB : B ≤ w.heap.size) (hn : n ≤ 4294967296) :
    Calls Try.prog 36 #[.slice A n c, .int .i64 id] w fun e w' => e = .returned (.int .i64 (highD ds id)) ∧ Below w.heap.size w w' := by
  have hcc := spec_l10Count A n c B ds id w h hB hn
  have HR : Hid (highD ds id = cntD ds id 1000) := Lib.hid rfl
  unfold cntV at hcc
  unfold cntD at HR
  cases hk : trK id ds
  all_goals
    rw [hk] at hcc HR
    clear hk
    go_enter Try.func36, Try.ntmps36
    go_wp2_with fail
    refine hcc.mono ?_
    rintro e w1 ⟨rfl, hb⟩
    go_wp2
    go_ret
    exact ⟨by rw [HR.out]; try rfl, hb⟩
set_option maxHeartbeats 1000000 in
theorem spec_StageDemand (A : Option Addr) (n c B : Nat) (ds : List Det) (A2 : Option Addr) (n2 c2 B2 : Nat) (zs : List Int) (w : World) (h : DetsAt w B A n ds) (h2 : IntsAt .i64 w B2 A2 n2 zs) (hB : B ≤ w.heap.size) (hB2 : B2 ≤ w.heap.size) (hn : n ≤ 4294967296) (hn2 : n2 ≤ 4294967296) :
    Calls Try.prog 38 #[.slice A n c, .slice A2 n2 c2] w fun e w' => e = .returned (.int .i64 (stgD ds zs)) ∧ Below w.heap.size w w' := by
  have hl2 := h2.1
  go_enter Try.func38, Try.ntmps38
  go_wp2
  go_loopw [5, 6] (fun x i wr => ∃ k : Nat, k ≤ n2 ∧ i = .int .i64 k ∧ x = .int .i64 (stgTo ds zs k) ∧ Below w.heap.size w wr) (fun _ i _ => n2 - (intOf i).toNat)
  case atStart => exact ⟨0, Nat.zero_le _, rfl, rfl, Below.refl _ _⟩
  case round =>
    obtain ⟨k, hk, rfl, rfl, hbl⟩ := hrel
    have hsz := hbl.size
    by_cases hlt : k < n2
    · obtain ⟨ad, rfl, hab, hcell⟩ := h2.2 (by omega)
      have hc := (hbl.cell (by rw [add_block]; omega)).trans (hcell k hlt)
      have hcw := fun x (hx : Below w.heap.size w x) => (hx.cell (p := ad.add k) (by rw [add_block]; omega)).trans (hcell k hlt)
      have hd := fun x (hx : Below w.heap.size w x) => spec_LowDemand A n c B ds (zs.getD k 0) x (h.below (hx.mono hB)) (by have := hx.size; omega) hn
      have HM : Hid (stgTo ds zs (k + 1) = if k = 0 then lowD ds (zs.getD k 0) else maxI (stgTo ds zs k) (lowD ds (zs.getD k 0))) := Lib.hid (by
        show (if k = 0 then lowD ds (zs.getD 0 0) else _) = _
        by_cases e : k = 0
        · subst e; rfl
        · rw [if_neg e, if_neg e])
      have HW := Lib.hid hcw
      clear hcell hcw
      generalize zs.getD k 0 = z at *
      generalize stgTo ds zs k = m at *
      by_cases e0 : k = 0
      · have e1 : ((k : Int) == 0) = true := by simp [e0]
        rw [if_pos e0] at HM
        clear e0
        go_wp2_with (first | (go_at_call 34; refine (hd _ (by assumption)).mono ?_; rintro e w2 ⟨rfl, hb2⟩; have hbl2 := hbl.trans (hb2.mono hsz); have hc2 := HW.out _ hbl2))
        go_roundw
        case rel => exact ⟨k + 1, by omega, by go_num, by rw [HM.out], by assumption⟩
        case measure => simp [intOf]; omega
      · have e1 : ((k : Int) == 0) = false := by simpa using e0
        rw [if_neg e0] at HM
        clear e0
        go_wp2_with fail
        refine (hd _ hbl).mono ?_
        rintro e w2 ⟨rfl, hb2⟩
        have hbl2 := hbl.trans (hb2.mono hsz)
        have hc2 := HW.out _ hbl2
        have hs2 := hbl2.size
        clear hb2 hc
        generalize hq : lowD ds z = q at *
        by_cases hm : m < q
        · have HM2 : Hid (maxI m q = q) := Lib.hid (by unfold maxI; rw [if_pos hm])
          go_wp2_with fail
          refine (hd _ hbl2).mono ?_
          rintro e w3 ⟨rfl, hb3⟩
          have hbl3 := hbl2.trans (hb3.mono hs2)
          clear hb3
          go_wp2
          go_roundw
          case rel => exact ⟨k + 1, by omega, by go_num, by rw [HM.out, HM2.out], hbl3⟩
          case measure => simp [intOf]; omega
        · have HM2 : Hid (maxI m q = m) := Lib.hid (by unfold maxI; rw [if_neg hm])
          go_wp2
          go_roundw
          case rel => exact ⟨k + 1, by omega, by go_num, by rw [HM.out, HM2.out], hbl2⟩
          case measure => simp [intOf]; omega
    · obtain rfl : k = n2 := by omega
      have HR : Hid (stgD ds zs = stgTo ds zs k) := Lib.hid (by unfold stgD; rw [hl2])
      go_wp2
      go_ret
      exact ⟨by rw [HR.out]; try rfl, hbl⟩
set_option maxHeartbeats 1000000 in
theorem spec_BlindPaths (A : Option Addr) (n c B : Nat) (ps : List Pth) (A2 : Option Addr) (n2 c2 B2 : Nat) (ds : List Det) (w : World) (h : PthsAt w B A n ps) (h2 : DetsAt w B2 A2 n2 ds) (hB : B ≤ w.heap.size) (hB2 : B2 ≤ w.heap.size) (hn : n ≤ 4294967296) (hn2 : n2 ≤ 4294967296) :
    Calls Try.prog 40 #[.slice A n c, .slice A2 n2 c2] w fun e w' => ∃ v, e = .returned v ∧ Own .i64 3 w' w.heap.size v (blindP ps ds) ∧ Below w.heap.size w w' := by
  have hl := h.1
  have own0 := own_bare .i64 3 w
  have hb0 : Below w.heap.size w (w.alloc (.cells #[] 3)) := (Below.refl _ _).alloc (Nat.le_refl _) _
  go_enter Try.func40, Try.ntmps40
  go_wp2
  go_loopw [5, 6] (fun v i wr => ∃ k : Nat, k ≤ n ∧ i = .int .i64 k ∧ Own .i64 3 wr w.heap.size v (blindP (ps.take k) ds) ∧ Below w.heap.size w wr) (fun _ i _ => n - (intOf i).toNat)
  case atStart => exact ⟨0, Nat.zero_le _, rfl, by rw [blind_zero]; exact own0, hb0⟩
  case round =>
    clear own0 hb0
    obtain ⟨k, hk, rfl, hown, hbl⟩ := hrel
    have hsz := hbl.size
    by_cases hlt : k < n
    · obtain ⟨ad, p, rfl, hab, hp, hq⟩ := h.at hlt
      obtain ⟨c0, -, -, -⟩ := hq.below hbl (by omega)
      have hL := blind_len ps ds k
      have hyes := fun h => Lib.hid (blind_yes (ds := ds) hp h)
      have hno := fun h => Lib.hid (blind_no (ds := ds) hp h)
      have hcc := spec_l10Count A2 n2 c2 B2 ds p.id wr (h2.below (hbl.mono hB2)) (by omega) hn2
      unfold cntV at hcc
      generalize blindP (ps.take k) ds = l at *
      cases hk : trK p.id ds
      · rw [hk] at hcc hyes
        have HS := hyes rfl
        clear hyes hno hk
        go_wp2_with fail
        refine hcc.mono ?_
        rintro e w1 ⟨rfl, hb1⟩
        have hown1 := hown.below hb1
        have hbl1 := hbl.trans (hb1.mono hsz)
        have hs1 := hbl1.size
        obtain ⟨d0, -, -, -⟩ := hq.below hbl1 (by omega)
        clear hb1 hbl hown c0
        go_wp2_with (at_builtin; refine wpList_app1 rfl _ _ 22 rfl .i64 3 8 Try.underlying22 info_i64 w.heap.size _ l rfl hown1 (by decide) (by omega) _ _ _ w1.heap.size hs1 rfl (by simp) ?_; intro v4 w4 hown4 hgrow4 hat4)
        have hb4 := hown1.push (Nat.le_refl _) (hbl1.alloc hs1 _) (by simp; omega) hgrow4
        clear hgrow4 hat4 hown1 hbl1
        go_roundw
        case rel => exact ⟨k + 1, by omega, by go_num, by rw [HS.out]; exact hown4, hb4⟩
        case measure => simp [intOf]; omega
      · rw [hk] at hcc hno
        have HS := hno rfl
        clear hyes hno hk
        go_wp2_with fail
        refine hcc.mono ?_
        rintro e w1 ⟨rfl, hb1⟩
        have hown1 := hown.below hb1
        have hbl1 := hbl.trans (hb1.mono hsz)
        clear hb1 hbl hown c0
        go_wp2
        go_roundw
        case rel => exact ⟨k + 1, by omega, by go_num, by rw [HS.out]; exact hown1, hbl1⟩
        case measure => simp [intOf]; omega
    · obtain rfl : k = n := by omega
      rw [List.take_of_length_le (by omega)] at hown
      go_wp2
      go_ret
      exact ⟨_, rfl, hown, hbl⟩
end Go.Proofs.Ytgdficjihkglpaa
