/- Chapter 10's program. -/
import Derived.Test.YtgdficjihkglpaaDemP
import Derived.Test.YtgdficjihkglpaaFindI
import Derived.Test.YtgdficjihkglpaaInts
import Derived.Test.YtgdficjihkglpaaDetB
import Derived.Test.YtgdficjihkglpaaConfI
namespace Go.Proofs.Ytgdficjihkglpaa
open Go.RowKit
set_option linter.unusedVariables false

theorem impl_isTrusted (d : Det) (w : World) : Calls Try.prog 61 #[d.val] w fun e w' => e = .returned (.bool (trust d)) ∧ Below w.heap.size w w' := by
  obtain ⟨a, b, c, x⟩ := d
  simp only [Det.val, trust]
  have HB := Lib.hid ((Below.refl w.heap.size w).alloc (Nat.le_refl _) (.cells #[.int .i64 a, .int .i64 b, .int .i64 c, .bool x] 44))
  cases x
  · by_cases h : c ≤ 900
    all_goals
      go_enter Try.func61, Try.ntmps61
      go_wp2
      go_ret
      exact ⟨by simp [h], HB.out⟩
  · go_enter Try.func61, Try.ntmps61
    go_wp2
    go_ret
    exact ⟨rfl, HB.out⟩
theorem impl_IsTrusted (d : Det) (w : World) : Calls Try.prog 33 #[d.val] w fun e w' => e = .returned (.bool (trust d)) ∧ Below w.heap.size w w' := by
  have hcc := fun x => impl_isTrusted d x
  obtain ⟨a, b, c, x⟩ := d
  simp only [Det.val] at *
  have hb0 := (Below.refl w.heap.size w).alloc (Nat.le_refl _) (.cells #[.int .i64 a, .int .i64 b, .int .i64 c, .bool x] 44)
  have HB := Lib.hid hb0
  clear hb0
  go_enter Try.func33, Try.ntmps33
  go_wp2_with fail
  refine (hcc _).mono ?_
  rintro e w1 ⟨rfl, hb1⟩
  go_wp2
  go_ret
  exact ⟨rfl, HB.out.trans (hb1.mono HB.out.size)⟩
set_option maxHeartbeats 1000000 in
theorem impl_trusted1 (g : Nat) (p : Det) (id : Int) (w : World) (h : w.cell? ⟨g, 0, none⟩ = some (.int .i64 id)) (hg : g < w.heap.size) :
    Calls Try.prog 81 #[p.val, .pointer (some ⟨g, 0, none⟩)] w fun e w' => e = .returned (.bool (trFor id p)) ∧ Below w.heap.size w w' := by
  have HR : Hid (trFor id p = (decide (p.path = id) && trust p)) := Lib.hid rfl
  have hcc := fun x => impl_isTrusted p x
  obtain ⟨a, b, c, d⟩ := p
  simp only [Det.val] at *
  have hb0 := (Below.refl w.heap.size w).alloc (Nat.le_refl _) (.cells #[.int .i64 a, .int .i64 b, .int .i64 c, .bool d] 44)
  have hcell := (hb0.cell (p := ⟨g, 0, none⟩) hg).trans h
  have HB0 := Lib.hid hb0
  clear hb0 h
  by_cases he : a = id
  · have e1 : (a == id) = true := by simpa using he
    rw [decide_eq_true he] at HR
    clear he
    go_enter Try.func81, Try.ntmps81
    go_wp2_with fail
    refine (hcc _).mono ?_
    rintro e w1 ⟨rfl, hb1⟩
    go_wp2
    go_ret
    exact ⟨by rw [HR.out]; rfl, HB0.out.trans (hb1.mono HB0.out.size)⟩
  · have e1 : (a == id) = false := by simpa using he
    rw [decide_eq_false he] at HR
    clear he
    go_enter Try.func81, Try.ntmps81
    go_wp2
    go_ret
    exact ⟨by rw [HR.out]; rfl, HB0.out⟩
/-- the index that is found. -/
def trI (id : Int) (ds : List Det) : Int := match trK id ds with | none => -1 | some k => k
set_option maxHeartbeats 1000000 in
theorem impl_IndexFuncD (g : Nat) (A : Option Addr) (n c B : Nat) (ds : List Det) (id : Int) (w : World) (h : DetsAt w B A n ds) (hB : B ≤ w.heap.size) (hn : n ≤ 4294967296) (hc : w.cell? ⟨g, 0, none⟩ = some (.int .i64 id)) (hg : g < w.heap.size) :
    Calls Try.prog 79 #[.slice A n c, .func (.func 81) #[] #[.pointer (some ⟨g, 0, none⟩)]] w fun e w' => e = .returned (.int .i64 (trI id ds)) ∧ Below w.heap.size w w' := by
  have hl := h.1
  go_enter Try.func79, Try.ntmps79
  go_wp2
  go_loopw [8] (fun i wr => ∃ k : Nat, k ≤ n ∧ i = .int .i64 k ∧ (∀ j, j < k → trFor id (dAt ds j) = false) ∧ Below w.heap.size w wr) (fun i _ => n - (intOf i).toNat)
  case atStart => exact ⟨0, Nat.zero_le _, rfl, fun j hj => absurd hj (by omega), Below.refl _ _⟩
  case round =>
    obtain ⟨k, hk, rfl, hno, hbl⟩ := hrel
    have hsz := hbl.size
    by_cases hlt : k < n
    · obtain ⟨ad, p, rfl, hab, hp, hq⟩ := h.at hlt
      have hdp := dAt_some hp
      obtain ⟨c0, c1, c2, c3⟩ := hq.below hbl (by omega)
      have hcw := (hbl.cell (p := ⟨g, 0, none⟩) hg).trans hc
      have HN := Lib.hid hno
      have hv : p.val = .agg #[.int .i64 p.path, .int .i64 p.count, .int .i64 p.age, .bool p.broken] := rfl
      have hcc := impl_trusted1 g p id wr hcw (by omega)
      rw [hv] at hcc
      have HB := Lib.hid hbl
      clear hno hq hcw hc hbl hv
      go_wp2_with fail
      refine hcc.mono ?_
      rintro e w1 ⟨rfl, hb⟩
      have HB1 := Lib.hid (HB.out.trans (hb.mono HB.out.size))
      clear hb hcc
      cases he : trFor id p
      · have HN2 : Hid (∀ j, j < k + 1 → trFor id (dAt ds j) = false) := Lib.hid (fun j hj => by
          by_cases e : j = k
          · subst e; rw [hdp]; exact he
          · exact HN.out j (by omega))
        clear he
        go_wp2
        go_roundw
        case rel => exact ⟨k + 1, by omega, by go_num, HN2.out, HB1.out⟩
        case measure => simp [intOf]; omega
      · have HR : Hid (trI id ds = (k : Int)) := Lib.hid (by unfold trI; rw [trK_some HN.out (by omega) (by rw [hdp]; exact he)])
        clear he
        go_wp2
        go_ret
        exact ⟨by rw [HR.out]; rfl, HB1.out⟩
    · obtain rfl : k = n := by omega
      have HR : Hid (trI id ds = -1) := Lib.hid (by unfold trI; rw [trK_none (fun j hj => hno j (by omega))])
      clear hno
      go_wp2
      go_ret
      exact ⟨by rw [HR.out]; rfl, hbl⟩
theorem impl_trustedFor (id : Int) (w : World) : Calls Try.prog 66 #[.int .i64 id] w fun e w' => e = .returned (.func (.func 81) #[] #[.pointer (some ⟨w.heap.size, 0, none⟩)]) ∧ w' = w.alloc (.cells #[.int .i64 id] 3) := by
  have hmf : ∀ (fn : Fn) (first cap : Array Value) (w : World), (Instr.makeFunc fn first cap).run Try.prog w = .ok (.func fn first cap) w := fun _ _ _ _ => rfl
  go_enter Try.func66, Try.ntmps66
  go_wp2
  go_ret
  exact ⟨rfl, rfl⟩
set_option maxHeartbeats 1000000 in
theorem impl_trustedCount (A : Option Addr) (n c B : Nat) (ds : List Det) (id o : Int) (w : World) (h : DetsAt w B A n ds) (hB : B ≤ w.heap.size) (hn : n ≤ 4294967296) :
    Calls Try.prog 63 #[.slice A n c, .int .i64 id, .int .i64 o] w fun e w' => e = .returned (.int .i64 (cntD ds id o)) ∧ Below w.heap.size w w' := by
  have hl := h.1
  have hb0 : Below w.heap.size w (w.alloc (.cells #[.int .i64 id] 3)) := (Below.refl _ _).alloc (Nat.le_refl _) _
  have HP := Lib.hid ((h.below (hb0.mono hB)).up (B' := (w.alloc (.cells #[.int .i64 id] 3)).heap.size) (by simp; omega))
  go_enter Try.func63, Try.ntmps63
  go_wp2_with fail
  refine (impl_trustedFor id _).mono ?_
  rintro e w1 ⟨rfl, rfl⟩
  go_wp2_with fail
  refine (impl_IndexFuncD w.heap.size A n c _ ds id _ HP.out (Nat.le_refl _) hn (by go_simp) (by simp)).mono ?_
  rintro e w2 ⟨rfl, hb2⟩
  have hbl2 := hb0.trans (hb2.mono (by simp))
  clear hb2
  cases hk : trK id ds with
  | none =>
    have HR : Hid (cntD ds id o = o) := Lib.hid (by unfold cntD; rw [hk])
    have hi : trI id ds = -1 := by unfold trI; rw [hk]
    rw [hi]
    clear hi hk
    go_wp2
    go_ret
    exact ⟨by rw [HR.out]; try rfl, hbl2⟩
  | some k =>
    have hkl := trK_at hk
    have HR : Hid (cntD ds id o = (dAt ds k).count) := Lib.hid (by unfold cntD; rw [hk])
    have hi : trI id ds = (k : Int) := by unfold trI; rw [hk]
    rw [hi]
    obtain ⟨ad, p, rfl, hab, hp, hq⟩ := h.at (k := k) (by omega)
    rw [dAt_some hp] at HR
    obtain ⟨c0, c1, c2, c3⟩ := hq.below hbl2 (by omega)
    clear hi hk hq hp
    go_wp2
    go_ret
    exact ⟨by rw [HR.out]; try rfl, hbl2⟩
theorem impl_LowDemand (A : Option Addr) (n c B : Nat) (ds : List Det) (id : Int) (w : World) (h : DetsAt w B A n ds) (hB : B ≤ w.heap.size) (hn : n ≤ 4294967296) :
    Calls Try.prog 35 #[.slice A n c, .int .i64 id] w fun e w' => e = .returned (.int .i64 (cntD ds id 0)) ∧ Below w.heap.size w w' := by
  go_enter Try.func35, Try.ntmps35
  go_wp2_with fail
  refine (impl_trustedCount A n c B ds id 0 _ h hB hn).mono ?_
  rintro e w2 ⟨rfl, hb2⟩
  go_wp2
  go_ret
  exact ⟨rfl, hb2⟩
theorem impl_HighDemand (A : Option Addr) (n c B : Nat) (ds : List Det) (id : Int) (w : World) (h : DetsAt w B A n ds) (hB : B ≤ w.heap.size) (hn : n ≤ 4294967296) :
    Calls Try.prog 37 #[.slice A n c, .int .i64 id] w fun e w' => e = .returned (.int .i64 (cntD ds id 1000)) ∧ Below w.heap.size w w' := by
  go_enter Try.func37, Try.ntmps37
  go_wp2_with fail
  refine (impl_trustedCount A n c B ds id 1000 _ h hB hn).mono ?_
  rintro e w2 ⟨rfl, hb2⟩
  go_wp2
  go_ret
  exact ⟨rfl, hb2⟩
set_option maxHeartbeats 1000000 in
theorem impl_StageDemand (A : Option Addr) (n c B : Nat) (ds : List Det) (A2 : Option Addr) (n2 c2 B2 : Nat) (zs : List Int) (w : World) (h : DetsAt w B A n ds) (h2 : IntsAt .i64 w B2 A2 n2 zs) (hB : B ≤ w.heap.size) (hB2 : B2 ≤ w.heap.size) (hn : n ≤ 4294967296) (hn2 : n2 ≤ 4294967296) (hc2 : n2 ≤ c2 ∧ c2 ≤ maxLen) :
    Calls Try.prog 39 #[.slice A n c, .slice A2 n2 c2] w fun e w' => e = .returned (.int .i64 (stgD ds zs)) ∧ Below w.heap.size w w' := by
  have hl2 := h2.1
  obtain ⟨hc3, hc4⟩ := hc2
  unfold maxLen at hc4
  by_cases h0 : n2 = 0
  · subst h0
    have HR : Hid (stgD ds zs = 0) := Lib.hid (by unfold stgD; rw [hl2]; rfl)
    clear hl2
    go_enter Try.func39, Try.ntmps39
    go_wp2
    go_ret
    exact ⟨by rw [HR.out]; try rfl, Below.refl _ _⟩
  obtain ⟨ad, rfl, hab, hcell⟩ := h2.2 (by omega)
  have HD := Lib.hid (fun x id (hx : Below w.heap.size w x) => impl_LowDemand A n c B ds id x (h.below (hx.mono hB)) (by have := hx.size; omega) hn)
  have HCE := Lib.hid hcell
  have HR : Hid (stgD ds zs = stgTo ds zs n2) := Lib.hid (by unfold stgD; rw [hl2])
  have hc0 := hcell 0 (by omega)
  have e0 : ad.add 0 = ad := rfl
  have i0 : (0 : Int) < (n2 : Int) := by omega
  have HS1 : Hid (stgTo ds zs 1 = lowD ds (zs.getD 0 0)) := Lib.hid (by simp [stgTo])
  have HST : Hid (∀ k, stgTo ds zs (k + 1 + 1) = maxI (stgTo ds zs (k + 1)) (lowD ds (zs.getD (k + 1) 0))) := Lib.hid (fun k => by show (if k + 1 = 0 then _ else _) = _; rw [if_neg (by omega)])
  clear hcell hl2
  rw [e0] at hc0
  clear e0
  generalize hz0 : zs.getD 0 0 = z0 at *
  clear hz0
  have HAD : Hid (∀ k, k + 1 < n2 → w.cell? ⟨ad.block, ad.off + 1 + k, none⟩ = some (.int .i64 (zs.getD (k + 1) 0))) := Lib.hid (fun k hk => by
    have h1 := HCE.out (k + 1) hk
    rw [add_plus _ _ (by omega), show ad.off + (k + 1) = ad.off + 1 + k by omega] at h1
    exact h1)
  by_cases hc1 : c2 = 1
  all_goals
    go_enter Try.func39, Try.ntmps39
    go_wp2_with fail
    refine (HD.out w z0 (Below.refl _ _)).mono ?_
    rintro e w1 ⟨rfl, hb1⟩
    rw [show cntD ds z0 0 = stgTo ds zs 1 from HS1.out.symm]
    go_wp2
    go_loopw [5, 19] (fun x i wr => ∃ k : Nat, k ≤ n2 - 1 ∧ i = .int .i64 k ∧ x = .int .i64 (stgTo ds zs (k + 1)) ∧ Below w.heap.size w wr) (fun _ i _ => n2 - 1 - (intOf i).toNat)
    case atStart => exact ⟨0, Nat.zero_le _, rfl, rfl, hb1⟩
    case round =>
      clear hb1
      obtain ⟨k, hk, rfl, rfl, hbl⟩ := hrel
      have hsz := hbl.size
      have HM1 := Lib.hid (HST.out k)
      by_cases hlt : k < n2 - 1
      · first
        | (exfalso; omega)
        | (have hc := (hbl.cell (p := ⟨ad.block, ad.off + 1 + k, none⟩) (Nat.lt_of_lt_of_le hab hB2)).trans (HAD.out k (by omega))
           have hdd := fun x (hx : Below w.heap.size w x) => HD.out x (zs.getD (k + 1) 0) hx
           have hlw : ∀ z, cntD ds z 0 = lowD ds z := fun _ => rfl
           generalize zs.getD (k + 1) 0 = z at *
           generalize stgTo ds zs (k + 1) = m1 at *
           go_wp2_with fail
           refine (hdd _ hbl).mono ?_
           rw [hlw]
           rintro e w2 ⟨rfl, hb2⟩
           have hbl2 := hbl.trans (hb2.mono hsz)
           generalize lowD ds z = y at *
           clear hb2 hdd hlw
           go_wp2_with fail
           refine (impl_Max _ _ _).mono ?_
           rintro e w3 ⟨rfl, hb3⟩
           have hbl3 := hbl2.trans (hb3.mono hbl2.size)
           go_wp2
           go_roundw
           case rel => exact ⟨k + 1, by omega, by go_num, by rw [HM1.out], hbl3⟩
           case measure => simp [intOf]; omega)
      · obtain rfl : k = n2 - 1 := by omega
        have HE : Hid (stgTo ds zs (n2 - 1 + 1) = stgD ds zs) := Lib.hid (by rw [HR.out]; congr 1; omega)
        go_wp2
        go_ret
        exact ⟨by rw [← HE.out]; try rfl, hbl⟩
set_option maxHeartbeats 1000000 in
theorem impl_ContainsFuncD (g : Nat) (A : Option Addr) (n c B : Nat) (ds : List Det) (id : Int) (w : World) (h : DetsAt w B A n ds) (hB : B ≤ w.heap.size) (hn : n ≤ 4294967296) (hc : w.cell? ⟨g, 0, none⟩ = some (.int .i64 id)) (hg : g < w.heap.size) :
    Calls Try.prog 65 #[.slice A n c, .func (.func 81) #[] #[.pointer (some ⟨g, 0, none⟩)]] w fun e w' => e = .returned (.bool (trK id ds).isSome) ∧ Below w.heap.size w w' := by
  have hcc := impl_IndexFuncD g A n c B ds id w h hB hn hc hg
  cases hk : trK id ds
  · have hi : trI id ds = -1 := by unfold trI; rw [hk]
    rw [hi] at hcc
    clear hi hk
    go_enter Try.func65, Try.ntmps65
    go_wp2_with fail
    refine hcc.mono ?_
    rintro e w1 ⟨rfl, hb⟩
    go_wp2
    go_ret
    exact ⟨rfl, hb⟩
  · rename_i k
    have hi : trI id ds = (k : Int) := by unfold trI; rw [hk]
    rw [hi] at hcc
    clear hi hk
    go_enter Try.func65, Try.ntmps65
    go_wp2_with fail
    refine hcc.mono ?_
    rintro e w1 ⟨rfl, hb⟩
    go_wp2
    go_ret
    exact ⟨rfl, hb⟩
set_option maxHeartbeats 1000000 in
theorem impl_BlindPaths (A : Option Addr) (n c B : Nat) (ps : List Pth) (A2 : Option Addr) (n2 c2 B2 : Nat) (ds : List Det) (w : World) (h : PthsAt w B A n ps) (h2 : DetsAt w B2 A2 n2 ds) (hB : B ≤ w.heap.size) (hB2 : B2 ≤ w.heap.size) (hn : n ≤ 4294967296) (hn2 : n2 ≤ 4294967296) :
    Calls Try.prog 41 #[.slice A n c, .slice A2 n2 c2] w fun e w' => ∃ v, e = .returned v ∧ Own .i64 3 w' w.heap.size v (blindP ps ds) ∧ Below w.heap.size w w' := by
  have hl := h.1
  have own0 := own_bare .i64 3 w
  have hb0 : Below w.heap.size w (w.alloc (.cells #[] 3)) := (Below.refl _ _).alloc (Nat.le_refl _) _
  go_enter Try.func41, Try.ntmps41
  go_wp2
  go_loopw [5, 11] (fun v i wr => ∃ k : Nat, k ≤ n ∧ i = .int .i64 k ∧ Own .i64 3 wr w.heap.size v (blindP (ps.take k) ds) ∧ Below w.heap.size w wr) (fun _ i _ => n - (intOf i).toNat)
  case atStart => exact ⟨0, Nat.zero_le _, rfl, by rw [blind_zero]; exact own0, hb0⟩
  case round =>
    clear own0 hb0
    obtain ⟨k, hk, rfl, hown, hbl⟩ := hrel
    have hsz := hbl.size
    by_cases hlt : k < n
    · obtain ⟨ad, p, rfl, hab, hp, hq⟩ := h.at hlt
      obtain ⟨c0, c1, c2', c3⟩ := hq.below hbl (by omega)
      have hL := blind_len ps ds k
      have hyes := fun h => Lib.hid (blind_yes (ds := ds) hp h)
      have hno := fun h => Lib.hid (blind_no (ds := ds) hp h)
      have HD := Lib.hid (h2.below (hbl.mono hB2))
      generalize blindP (ps.take k) ds = l at *
      have HO1 := Lib.hid ((hown.alloc (.cells #[.int .i64 p.id, .int .i64 p.kind, .int .i64 p.frm, .int .i64 p.to] 62)).alloc (.cells #[.int .i64 p.id] 3))
      have hb1 := (hbl.alloc hsz (.cells #[.int .i64 p.id, .int .i64 p.kind, .int .i64 p.frm, .int .i64 p.to] 62)).alloc (by simp; omega) (.cells #[.int .i64 p.id] 3)
      have hbA := ((Below.refl wr.heap.size wr).alloc (Nat.le_refl _) (.cells #[.int .i64 p.id, .int .i64 p.kind, .int .i64 p.frm, .int .i64 p.to] 62)).alloc (by simp) (.cells #[.int .i64 p.id] 3)
      have HDD := Lib.hid (HD.out.below (hbA.mono (by omega)))
      have HB1 := Lib.hid hb1
      clear hp hq hown hbl hb1 hbA
      go_wp2_with fail
      refine (impl_trustedFor p.id _).mono ?_
      rintro e w1 ⟨rfl, rfl⟩
      go_wp2_with fail
      refine (impl_ContainsFuncD (wr.heap.size + 1) A2 n2 c2 B2 ds p.id _ HDD.out (by simp; omega) hn2 (by go_simp) (by simp)).mono ?_
      rintro e w2 ⟨rfl, hb2⟩
      have hown2 := HO1.out.below hb2
      have hbl2 := HB1.out.trans (hb2.mono HB1.out.size)
      have hs2 := hbl2.size
      have d0 : w2.cell? ⟨wr.heap.size, 0, none⟩ = some (.int .i64 p.id) := (hb2.cell (p := ⟨wr.heap.size, 0, none⟩) (by simp; omega)).trans (by go_simp)
      clear hb2 HO1 HB1
      cases hk : trK p.id ds
      · have HS := hyes (by rw [hk]; rfl)
        clear hyes hno hk
        go_wp2_with (at_builtin; refine wpList_app1 rfl _ _ 22 rfl .i64 3 8 Try.underlying22 info_i64 w.heap.size _ l rfl hown2 (by decide) (by omega) _ _ _ w2.heap.size hs2 rfl (by simp) ?_; intro v4 w4 hown4 hgrow4 hat4)
        have hb4 := hown2.push (Nat.le_refl _) (hbl2.alloc hs2 _) (by simp; omega) hgrow4
        clear hgrow4 hat4 hown2 hbl2
        go_roundw
        case rel => exact ⟨k + 1, by omega, by go_num, by rw [HS.out]; exact hown4, hb4⟩
        case measure => simp [intOf]; omega
      · have HS := hno (by rw [hk]; rfl)
        clear hyes hno hk
        go_wp2
        go_roundw
        case rel => exact ⟨k + 1, by omega, by go_num, by rw [HS.out]; exact hown2, hbl2⟩
        case measure => simp [intOf]; omega
    · obtain rfl : k = n := by omega
      rw [List.take_of_length_le (by omega)] at hown
      go_wp2
      go_ret
      exact ⟨_, rfl, hown, hbl⟩
theorem mask_bit (i : Nat) (w : World) (h : i < 12) : Calls Try.prog 58 #[.int .i64 (i : Nat)] w fun e w' => e = .returned (.int .u16 ((2 ^ i : Nat) : Int)) ∧ w = w' := by
  have HS := Lib.hid (shl_bit i h)
  go_enter Try.func58, Try.ntmps58
  go_wp2
  go_ret
  exact ⟨by have := HS.out; rw [Nat.min_eq_left (by omega), Int.one_mul] at this; rw [← this]; rfl, rfl⟩
theorem areD_off {ps : List Pth} {ds : List Det} (h : (arePs ps && decide (ds.length ≤ 12)) = false) : areD ps ds = false := by unfold areD; rw [h, Bool.and_false]
theorem arePs_le {ps : List Pth} (h : arePs ps = true) : ps.length ≤ 12 := by
  unfold arePs at h
  simp only [Bool.and_eq_true, decide_eq_true_eq] at h
  exact h.2
set_option maxHeartbeats 1000000 in
set_option maxRecDepth 100000 in
theorem impl_AreDetectors (A : Option Addr) (n c B : Nat) (ps : List Pth) (A2 : Option Addr) (n2 c2 B2 : Nat) (ds : List Det) (w : World) (h : PthsAt w B A n ps) (h2 : DetsAt w B2 A2 n2 ds) (hB : B ≤ w.heap.size) (hB2 : B2 ≤ w.heap.size) (hn : n ≤ 4294967296) (hn2 : n2 ≤ 4294967296) :
    Calls Try.prog 29 #[.slice A n c, .slice A2 n2 c2] w fun e w' => e = .returned (.bool (areD ps ds)) ∧ Below w.heap.size w w' := by
  have hl := h.1
  have hl2 := h2.1
  have HAP := Lib.hid (impl_ArePaths A n c B ps w h hB hn)
  cases ha : arePs ps
  · have HR : Hid (areD ps ds = false) := Lib.hid (areD_off (by rw [ha]; rfl))
    have HA := Lib.hid ha
    clear ha
    go_enter Try.func29, Try.ntmps29
    go_wp2_with fail
    refine HAP.out.mono ?_
    rw [HA.out]
    rintro e w1 ⟨rfl, hb1⟩
    go_wp2
    go_ret
    exact ⟨by rw [HR.out]; rfl, hb1⟩
  by_cases h12 : n2 ≤ 12
  rotate_left
  · have HR : Hid (areD ps ds = false) := Lib.hid (areD_off (by rw [ha, decide_eq_false (by omega)]; rfl))
    have HA := Lib.hid ha
    clear ha
    go_enter Try.func29, Try.ntmps29
    go_wp2_with fail
    refine HAP.out.mono ?_
    rw [HA.out]
    rintro e w1 ⟨rfl, hb1⟩
    go_wp2
    go_ret
    exact ⟨by rw [HR.out]; rfl, hb1⟩
  have hp12 := arePs_le ha
  have HEND : Hid ((∀ i, i < n2 → goodD ps ds i = true) → areD ps ds = true) := Lib.hid (fun hg => by rw [areD_end (fun i hi => hg i (by omega)), ha, decide_eq_true (by omega)]; rfl)
  have HNO : Hid (∀ i, i < n2 → goodD ps ds i = false → areD ps ds = false) := Lib.hid (fun i hi hg => areD_no (by omega) hg)
  have HA := Lib.hid ha
  have HZ := Lib.hid (metD_zero ps ds)
  clear ha
  go_enter Try.func29, Try.ntmps29
  go_wp2_with fail
  refine HAP.out.mono ?_
  rw [HA.out]
  rintro e w1 ⟨rfl, hb1⟩
  clear HAP
  go_wp2
  go_loopw [5, 19] (fun x i wr => ∃ k q : Nat, k ≤ n2 ∧ i = .int .i64 k ∧ x = .int .u16 (q : Nat) ∧ q = metD ps ds k ∧ (∀ j, j < k → goodD ps ds j = true) ∧ Below w.heap.size w wr) (fun _ i _ => n2 - (intOf i).toNat)
  case atStart => exact ⟨0, 0, Nat.zero_le _, rfl, rfl, HZ.out.symm, fun j hj => absurd hj (by omega), hb1⟩
  case round =>
    clear hb1
    obtain ⟨k, q, hk, rfl, rfl, hq, hgo, hbl⟩ := hrel
    have hsz := hbl.size
    have HQ := Lib.hid hq
    have HG := Lib.hid hgo
    have hq12 : q < 4096 := by rw [hq]; exact metD_lt _ _ _
    clear hq hgo
    by_cases hlt : k < n2
    · obtain ⟨ad2, d, rfl, hab2, hd, hqd⟩ := h2.at hlt
      have HD : Hid (dAt ds k = d) := Lib.hid (dAt_some hd)
      obtain ⟨c0, c1, c2', c3⟩ := hqd.below hbl (by omega)
      have hbA := (Below.refl wr.heap.size wr).alloc (Nat.le_refl _) (.cells #[.int .i64 d.path, .int .i64 d.count, .int .i64 d.age, .bool d.broken] 44)
      have hb1 := hbl.alloc hsz (.cells #[.int .i64 d.path, .int .i64 d.count, .int .i64 d.age, .bool d.broken] 44)
      have HP := Lib.hid ((h.below (hb1.mono hB)))
      have HB1 := Lib.hid hb1
      clear hd hqd hb1 hbA hbl
      go_wp2_with fail
      refine (impl_FindPath A n c B ps d.path _ HP.out (by simp; omega) hn).mono ?_
      cases hf : findK d.path ps
      · have HR := Lib.hid (HNO.out k hlt (goodD_none (by rw [HD.out]; exact hf)))
        rw [fI_no hf]
        rintro e w2 ⟨rfl, hb2⟩
        have HB2 := Lib.hid (HB1.out.trans (hb2.mono HB1.out.size))
        clear hf hb2
        go_wp2
        go_ret
        exact ⟨by rw [HR.out]; rfl, HB2.out⟩
      · rename_i i
        have hi := fK_lt hf
        have hi12 : i < 12 := by omega
        have hgs := goodD_some (ps := ps) (ds := ds) (k := k) (by rw [HD.out]; exact hf) hi12
        have hst := metD_step (ps := ps) (ds := ds) (k := k) (by rw [HD.out]; exact hf) hi12
        rw [← HQ.out] at hgs hst
        rw [HD.out] at hgs
        have HGS := Lib.hid hgs
        have HST := Lib.hid hst
        have hj2 : 2 ^ i < 4096 := Nat.lt_of_lt_of_le (Nat.pow_lt_pow_right (by decide) hi12) (by decide)
        have hand : bits .and .u16 (q : Int) ((2 ^ i : Nat) : Int) = ((q &&& 2 ^ i : Nat) : Int) := u16_and_nat _ _ (by omega) (by omega)
        have hor : bits .or .u16 (q : Int) ((2 ^ i : Nat) : Int) = ((q ||| 2 ^ i : Nat) : Int) := u16_or_nat _ _ (by omega) (by omega)
        have hmb := Lib.hid (fun x => mask_bit i x hi12)
        rw [fI_some hf]
        rintro e w2 ⟨rfl, hb2⟩
        have HB2 := Lib.hid (HB1.out.trans (hb2.mono HB1.out.size))
        have d1 : w2.cell? ⟨wr.heap.size, 1, none⟩ = some (.int .i64 d.count) := (hb2.cell (p := ⟨wr.heap.size, 1, none⟩) (by simp)).trans (by go_simp)
        have d2 : w2.cell? ⟨wr.heap.size, 2, none⟩ = some (.int .i64 d.age) := (hb2.cell (p := ⟨wr.heap.size, 2, none⟩) (by simp)).trans (by go_simp)
        clear hf hb2 hgs hst c0 c1 c2' c3 HB1 HP
        have hi0 : (0 : Int) ≤ (i : Int) := by omega
        generalize hx : q &&& 2 ^ i = x at *
        clear hx
        generalize q ||| 2 ^ i = y at *
        generalize (2 : Nat) ^ i = b at *
        by_cases hx0 : x = 0
        rotate_left
        · have HR := Lib.hid (HNO.out k hlt (by rw [HGS.out, decide_eq_false hx0]; rfl))
          have e1 : ((x : Int) != 0) = true := by simp; omega
          go_wp2_with fail
          refine (hmb.out _).mono ?_
          rintro e w3 ⟨rfl, rfl⟩
          go_wp2
          go_ret
          exact ⟨by rw [HR.out]; rfl, HB2.out⟩
        subst hx0
        have e1 : (((0 : Nat) : Int) != 0) = false := rfl
        cases hcn : inB d.count 0 1000
        · have HR := Lib.hid (HNO.out k hlt (by rw [HGS.out, hcn]; rfl))
          have HC := Lib.hid hcn
          clear hcn
          go_wp2_with fail
          refine (hmb.out _).mono ?_
          rintro e w3 ⟨rfl, rfl⟩
          go_wp2_with fail
          refine (impl_InRange _ _ _ _).mono ?_
          rw [HC.out]
          rintro e w3 ⟨rfl, rfl⟩
          go_wp2
          go_ret
          exact ⟨by rw [HR.out]; rfl, HB2.out⟩
        cases hag : inB d.age 0 100000
        · have HR := Lib.hid (HNO.out k hlt (by rw [HGS.out, hcn, hag]; rfl))
          have HC := Lib.hid hcn
          have HC2 := Lib.hid hag
          clear hcn hag
          go_wp2_with fail
          refine (hmb.out _).mono ?_
          rintro e w3 ⟨rfl, rfl⟩
          go_wp2_with fail
          refine (impl_InRange _ _ _ _).mono ?_
          rw [HC.out]
          rintro e w3 ⟨rfl, rfl⟩
          go_wp2_with fail
          refine (impl_InRange _ _ _ _).mono ?_
          rw [HC2.out]
          rintro e w3 ⟨rfl, rfl⟩
          go_wp2
          go_ret
          exact ⟨by rw [HR.out]; rfl, HB2.out⟩
        have HGK : Hid (goodD ps ds k = true) := Lib.hid (by rw [HGS.out, hcn, hag]; rfl)
        have HC := Lib.hid hcn
        have HC2 := Lib.hid hag
        clear hcn hag
        go_wp2_with fail
        refine (hmb.out _).mono ?_
        rintro e w3 ⟨rfl, rfl⟩
        go_wp2_with fail
        refine (impl_InRange _ _ _ _).mono ?_
        rw [HC.out]
        rintro e w3 ⟨rfl, rfl⟩
        go_wp2_with fail
        refine (impl_InRange _ _ _ _).mono ?_
        rw [HC2.out]
        rintro e w3 ⟨rfl, rfl⟩
        go_wp2_with fail
        refine (hmb.out _).mono ?_
        rintro e w3 ⟨rfl, rfl⟩
        go_wp2
        go_roundw
        case rel => exact ⟨k + 1, y, by omega, by go_num, rfl, HST.out.symm, (fun j hj => by
          by_cases e : j = k
          · subst e; exact HGK.out
          · exact HG.out j (by omega)), HB2.out⟩
        case measure => simp [intOf]; omega
    · obtain rfl : k = n2 := by omega
      have HR := Lib.hid (HEND.out HG.out)
      go_wp2
      go_ret
      exact ⟨by rw [HR.out]; rfl, hbl⟩
end Go.Proofs.Ytgdficjihkglpaa
