/- Chapters 8 and 11: plans compared: EqualPlans, SameStages; TotalGreen. -/
import Derived.Test.YtgdficjihkglpabPrt
import Derived.Test.YtgdficjihkglpabEqual
import Derived.Test.YtgdficjihkglpabQ
import Derived.Test.YtgdficjihkglpabGrow
namespace Go.Proofs.Ytgdficjihkglpab
open Go.RowKit
set_option linter.unusedVariables false

/-- the parts are one. -/
def partEq (p q : Prt) : Bool := decide (p.green = q.green) && decide (p.stage = q.stage)
theorem partEq_iff (p q : Prt) : partEq p q = true ↔ p = q := by
  unfold partEq
  rw [Bool.and_eq_true, decide_eq_true_eq, decide_eq_true_eq]
  constructor
  · rintro ⟨h1, h2⟩
    cases p
    cases q
    simp_all
  · rintro rfl
    exact ⟨rfl, rfl⟩
/-- rows of parts are alike by f, element for element. -/
def allP (f : Prt → Prt → Bool) (a b : List Prt) : Bool := decide (a.length = b.length) && (List.range a.length).all fun i => f (prAt a i) (prAt b i)
theorem allP_len {f : Prt → Prt → Bool} {a b : List Prt} (h : a.length ≠ b.length) : allP f a b = false := by unfold allP; rw [decide_eq_false h]; rfl
theorem allP_no {f : Prt → Prt → Bool} {a b : List Prt} {i : Nat} (hi : i < a.length) (h : f (prAt a i) (prAt b i) = false) : allP f a b = false := by
  unfold allP
  have : ((List.range a.length).all fun i => f (prAt a i) (prAt b i)) = false := by
    rw [Bool.eq_false_iff]
    intro ha
    have := List.all_eq_true.1 ha i (List.mem_range.2 hi)
    rw [h] at this
    cases this
  rw [this]
  simp
theorem allP_yes {f : Prt → Prt → Bool} {a b : List Prt} (hl : a.length = b.length) (h : ∀ i, i < a.length → f (prAt a i) (prAt b i) = true) : allP f a b = true := by
  unfold allP
  have : ((List.range a.length).all fun i => f (prAt a i) (prAt b i)) = true := List.all_eq_true.2 fun k hk => h k (List.mem_range.1 hk)
  rw [this, decide_eq_true hl]
  rfl
/-- what EqualPlans and SameStages answer. -/
def eqPls (a b : List Prt) : Bool := allP partEq a b
def sameSg (p q : Prt) : Bool := decide (p.stage = q.stage)
def sameSt (a b : List Prt) : Bool := allP sameSg a b
/-- what TotalGreen answers. -/
def totG (p : List Prt) : Int := sumC 1000 (p.map Prt.green) p.length
theorem greens_at {p : List Prt} {k : Nat} (h : k < p.length) : (p.map Prt.green).getD k 0 = (prAt p k).green := by
  rw [List.getD_eq_getElem?_getD, List.getElem?_map, prAt_get h]
  rfl
theorem IntsAt.two {w wr x : World} {B : Nat} {A : Option Addr} {n : Nat} {zs : List Int} (h : IntsAt .i64 w B A n zs) (hB : B ≤ w.heap.size) (hb : Below w.heap.size w wr) (hx : Below wr.heap.size wr x) : IntsAt .i64 x B A n zs := (h.laid hB hb).laid (Nat.le_trans hB hb.size) hx
set_option maxHeartbeats 1000000 in
set_option maxRecDepth 100000 in
theorem spec_SameStages (A : Option Addr) (n c B : Nat) (ps : List Prt) (A2 : Option Addr) (n2 c2 B2 : Nat) (qs : List Prt) (w : World) (h : PrtsAt w B A n ps) (h2 : PrtsAt w B2 A2 n2 qs) (hB : B ≤ w.heap.size) (hB2 : B2 ≤ w.heap.size) (hn : n ≤ 1048576) (hn2 : n2 ≤ 1048576) (hm : ∀ j, j < n → (prAt ps j).stage.length ≤ 1048576) (hm2 : ∀ j, j < n2 → (prAt qs j).stage.length ≤ 1048576) :
    Calls Try.prog 10 #[.slice A n c, .slice A2 n2 c2] w fun e w' => e = .returned (.bool (sameSt ps qs)) ∧ Below w.heap.size w w' := by
  have hl := h.1
  have hl2 := h2.1
  by_cases hne : n = n2
  rotate_left
  · have HR : Hid (sameSt ps qs = false) := Lib.hid (allP_len (by omega))
    go_enter Try.func10, Try.ntmps10
    go_wp2
    go_ret
    exact ⟨by rw [HR.out]; rfl, Below.refl _ _⟩
  subst hne
  have HM := Lib.hid hm
  have HM2 := Lib.hid hm2
  have HNO : Hid (∀ i, i < n → sameSg (prAt ps i) (prAt qs i) = false → sameSt ps qs = false) := Lib.hid (fun i hi h => allP_no (by omega) h)
  have HYES : Hid ((∀ i, i < n → sameSg (prAt ps i) (prAt qs i) = true) → sameSt ps qs = true) := Lib.hid (fun h => allP_yes (by omega) fun i hi => h i (by omega))
  clear hm hm2
  go_enter Try.func10, Try.ntmps10
  go_wp2
  go_loopw [5] (fun i wr => ∃ k : Nat, k ≤ n ∧ i = .int .i64 k ∧ (∀ j, j < k → sameSg (prAt ps j) (prAt qs j) = true) ∧ Below w.heap.size w wr) (fun i _ => n - (intOf i).toNat)
  case atStart => exact ⟨0, Nat.zero_le _, rfl, fun j hj => absurd hj (by omega), Below.refl _ _⟩
  case round =>
    obtain ⟨k, hk, rfl, hgo, hbl⟩ := hrel
    have hsz := hbl.size
    have HG := Lib.hid hgo
    clear hgo
    by_cases hlt : k < n
    · obtain ⟨ad, A', m, c', rfl, hab, hq, hi, hmc, hnil⟩ := h.at hlt
      obtain ⟨ad2, A2', m2, c2', rfl, hab2, hq2, hi2, hmc2, hnil2⟩ := h2.at hlt
      have hmk := HM.out k hlt
      have hmk2 := HM2.out k hlt
      have hpe : sameSg (prAt ps k) (prAt qs k) = decide ((prAt ps k).stage = (prAt qs k).stage) := rfl
      have hlz := hi.1
      have hlz2 := hi2.1
      have i1 : (0 : Int) ≤ (k : Int) := by omega
      have i2 : (k : Int) < (n : Int) := by omega
      have c0 := fun x : GW wr => ((hq.below hbl (by omega)).below x.ok (by omega)).c0
      have d0 := fun x : GW wr => ((hq2.below hbl (by omega)).below x.ok (by omega)).c0
      have HI := Lib.hid (fun x : GW wr => hi.two hB hbl x.ok)
      have HI2 := Lib.hid (fun x : GW wr => hi2.two hB2 hbl x.ok)
      have HPE := Lib.hid hpe
      clear hq hq2 hi hi2 hpe
      generalize (prAt ps k).stage = zs at *
      generalize (prAt qs k).stage = zs2 at *
      have hcc := fun x : GW wr => spec_EqualInts A' m c' B zs A2' m2 c2' B2 zs2 x.val (HI.out x) (HI2.out x) (by omega) (by omega)
      clear hlz hlz2 hmk hmk2 HI HI2
      cases hz : decide (zs = zs2)
      · have HR := Lib.hid (HNO.out k hlt (by rw [HPE.out, hz]))
        rw [hz] at hcc
        clear hz
        go_wp2
        refine wp_region_grow (by kernel_rfl) (by kernel_rfl) ?_
        repeat (go_big_quiet_step (first | (go_at_call 32; exact calls_gw _ (hcc _))))
        refine wpQuiet_nil ?_
        intro x3
        have hb3 := x3.ok
        clear c0 d0 hcc
        generalize x3.val = w3 at *
        go_wp2
        go_ret
        exact ⟨by rw [HR.out]; rfl, hbl.trans (hb3.mono hsz)⟩
      · have HK : Hid (sameSg (prAt ps k) (prAt qs k) = true) := Lib.hid (by rw [HPE.out, hz])
        rw [hz] at hcc
        clear hz
        go_wp2
        refine wp_region_grow (by kernel_rfl) (by kernel_rfl) ?_
        repeat (go_big_quiet_step (first | (go_at_call 32; exact calls_gw _ (hcc _))))
        refine wpQuiet_nil ?_
        intro x3
        have hb3 := x3.ok
        clear c0 d0 hcc
        generalize x3.val = w3 at *
        go_wp2
        go_roundw
        case rel => exact ⟨k + 1, by omega, by go_num, (fun j hj => by
          by_cases e : j = k
          · subst e; exact HK.out
          · exact HG.out j (by omega)), hbl.trans (hb3.mono hsz)⟩
        case measure => simp [intOf]; omega
    · obtain rfl : k = n := by omega
      have HR := Lib.hid (HYES.out HG.out)
      go_wp2
      go_ret
      exact ⟨by rw [HR.out]; rfl, hbl⟩
theorem impl_EqInts (A : Option Addr) (n c B : Nat) (zs : List Int) (A2 : Option Addr) (n2 c2 B2 : Nat) (zs2 : List Int) (w : World) (h : IntsAt .i64 w B A n zs) (h2 : IntsAt .i64 w B2 A2 n2 zs2) (hn : n ≤ 4398046511104) (hn2 : n2 ≤ 4398046511104) :
    Calls Try.prog 36 #[.slice A n c, .slice A2 n2 c2] w fun e w' => e = .returned (.bool (decide (zs = zs2))) ∧ Below w.heap.size w w' := by
  obtain ⟨r, hr⟩ : ∃ r, decide (zs = zs2) = r := ⟨_, rfl⟩
  have HC := Lib.hid (cmp_slices A n c _ zs A2 n2 c2 _ zs2 w h h2 hn hn2)
  rw [hr]
  have HR := Lib.hid hr
  clear hr
  go_enter Try.func36, Try.ntmps36
  go_wp2_with fail
  refine HC.out.mono ?_
  rw [HR.out]
  rintro e w1 ⟨rfl, hb⟩
  go_wp2
  go_ret
  exact ⟨rfl, hb⟩
theorem impl_clo_SameStages (A : Option Addr) (n c B : Nat) (p : Prt) (A2 : Option Addr) (n2 c2 B2 : Nat) (q : Prt) (w : World) (h : IntsAt .i64 w B A n p.stage) (h2 : IntsAt .i64 w B2 A2 n2 q.stage) (hB : B ≤ w.heap.size) (hB2 : B2 ≤ w.heap.size) (hn : n ≤ 4398046511104) (hn2 : n2 ≤ 4398046511104) :
    Calls Try.prog 35 #[.agg #[.slice A n c, .int .i64 p.green], .agg #[.slice A2 n2 c2, .int .i64 q.green]] w fun e w' => e = .returned (.bool (sameSg p q)) ∧ Below w.heap.size w w' := by
  have HPE : Hid (sameSg p q = decide (p.stage = q.stage)) := Lib.hid rfl
  have hb0 := ((Below.refl w.heap.size w).alloc (Nat.le_refl _) (.cells #[.slice A n c, .int .i64 p.green] 47)).alloc (by simp) (.cells #[.slice A2 n2 c2, .int .i64 q.green] 47)
  have HC := Lib.hid (impl_EqInts A n c B p.stage A2 n2 c2 B2 q.stage _ (h.laid hB hb0) (h2.laid hB2 hb0) hn hn2)
  have HB0 := Lib.hid hb0
  clear hb0 h h2
  generalize p.green = g at *
  generalize q.green = g2 at *
  go_enter Try.func35, Try.ntmps35
  go_wp2_with fail
  refine HC.out.mono ?_
  rintro e w1 ⟨rfl, hb⟩
  generalize decide (p.stage = q.stage) = r at *
  go_wp2
  go_ret
  exact ⟨by rw [HPE.out]; try rfl, HB0.out.trans (hb.mono HB0.out.size)⟩
set_option maxHeartbeats 1000000 in
set_option maxRecDepth 100000 in
theorem impl_EqFunc_SameStages (A : Option Addr) (n c B : Nat) (ps : List Prt) (A2 : Option Addr) (n2 c2 B2 : Nat) (qs : List Prt) (w : World) (h : PrtsAt w B A n ps) (h2 : PrtsAt w B2 A2 n2 qs) (hB : B ≤ w.heap.size) (hB2 : B2 ≤ w.heap.size) (hn : n ≤ 1048576) (hn2 : n2 ≤ 1048576) (hm : ∀ j, j < n → (prAt ps j).stage.length ≤ 1048576) (hm2 : ∀ j, j < n2 → (prAt qs j).stage.length ≤ 1048576) :
    Calls Try.prog 34 #[.slice A n c, .slice A2 n2 c2, .func (.func 35) #[] #[]] w fun e w' => e = .returned (.bool (sameSt ps qs)) ∧ Below w.heap.size w w' := by
  have hl := h.1
  have hl2 := h2.1
  by_cases hne : n = n2
  rotate_left
  · have HR : Hid (sameSt ps qs = false) := Lib.hid (allP_len (by omega))
    go_enter Try.func34, Try.ntmps34
    go_wp2
    go_ret
    exact ⟨by rw [HR.out]; rfl, Below.refl _ _⟩
  subst hne
  have HM := Lib.hid hm
  have HM2 := Lib.hid hm2
  have HNO : Hid (∀ i, i < n → sameSg (prAt ps i) (prAt qs i) = false → sameSt ps qs = false) := Lib.hid (fun i hi h => allP_no (by omega) h)
  have HYES : Hid ((∀ i, i < n → sameSg (prAt ps i) (prAt qs i) = true) → sameSt ps qs = true) := Lib.hid (fun h => allP_yes (by omega) fun i hi => h i (by omega))
  clear hm hm2
  go_enter Try.func34, Try.ntmps34
  go_wp2
  go_loopw [17] (fun i wr => ∃ k : Nat, k ≤ n ∧ i = .int .i64 k ∧ (∀ j, j < k → sameSg (prAt ps j) (prAt qs j) = true) ∧ Below w.heap.size w wr) (fun i _ => n - (intOf i).toNat)
  case atStart => exact ⟨0, Nat.zero_le _, rfl, fun j hj => absurd hj (by omega), Below.refl _ _⟩
  case round =>
    obtain ⟨k, hk, rfl, hgo, hbl⟩ := hrel
    have hsz := hbl.size
    have HG := Lib.hid hgo
    clear hgo
    by_cases hlt : k < n
    · obtain ⟨ad, A', m, c', rfl, hab, hq, hi, hmc, hnil⟩ := h.at hlt
      obtain ⟨ad2, A2', m2, c2', rfl, hab2, hq2, hi2, hmc2, hnil2⟩ := h2.at hlt
      have hmk := HM.out k hlt
      have hmk2 := HM2.out k hlt
      have hlz := hi.1
      have hlz2 := hi2.1
      obtain ⟨c0, c1⟩ := hq.below hbl (by omega)
      obtain ⟨d0', d1'⟩ := hq2.below hbl (by omega)
      have hbA := ((Below.refl wr.heap.size wr).alloc (Nat.le_refl _) (.cells #[.slice A' m c', .int .i64 (prAt ps k).green] 47)).alloc (by simp) (.cells #[.slice A2' m2 c2', .int .i64 (prAt qs k).green] 47)
      have HC := Lib.hid (impl_clo_SameStages A' m c' B (prAt ps k) A2' m2 c2' B2 (prAt qs k) _ (hi.two hB hbl hbA) (hi2.two hB2 hbl hbA) (Nat.le_trans (Nat.le_trans hB hsz) hbA.size) (Nat.le_trans (Nat.le_trans hB2 hsz) hbA.size) (by omega) (by omega))
      have HBA := Lib.hid hbA
      have d0 : (wr.alloc (.cells #[.slice A' m c', .int .i64 (prAt ps k).green] 47)).cell? (ad2.add (k * 2)) = some (.slice A2' m2 c2') := (((Below.refl wr.heap.size wr).alloc (Nat.le_refl _) _).cell (by omega)).trans d0'
      have d1 : (wr.alloc (.cells #[.slice A' m c', .int .i64 (prAt ps k).green] 47)).cell? ⟨(ad2.add (k * 2)).block, (ad2.add (k * 2)).off + 1, none⟩ = some (.int .i64 (prAt qs k).green) := (((Below.refl wr.heap.size wr).alloc (Nat.le_refl _) _).cell (by simp only; omega)).trans d1'
      clear hq hq2 hi hi2 hbA d0' d1'
      have HPE := Lib.hid (fun h => HNO.out k hlt h)
      have HGE : Hid (sameSg (prAt ps k) (prAt qs k) = true → ∀ j, j < k + 1 → sameSg (prAt ps j) (prAt qs j) = true) := Lib.hid (fun h j hj => by
        by_cases e : j = k
        · subst e; exact h
        · exact HG.out j (by omega))
      generalize (prAt ps k).green = g at *
      generalize (prAt qs k).green = g2 at *
      go_wp2_with fail
      refine HC.out.mono ?_
      cases hr : sameSg (prAt ps k) (prAt qs k)
      · have HR := Lib.hid (HPE.out hr)
        rintro e w3 ⟨rfl, hb3⟩
        have HB3 := Lib.hid (hbl.trans ((HBA.out.trans (hb3.mono HBA.out.size)).mono hsz))
        clear hr hb3 c0 c1 d0 d1
        go_wp2
        go_ret
        exact ⟨by rw [HR.out]; rfl, HB3.out⟩
      · have HR := Lib.hid (HGE.out hr)
        rintro e w3 ⟨rfl, hb3⟩
        have HB3 := Lib.hid (hbl.trans ((HBA.out.trans (hb3.mono HBA.out.size)).mono hsz))
        clear hr hb3 c0 c1 d0 d1
        go_wp2
        go_roundw
        case rel => exact ⟨k + 1, by omega, by go_num, HR.out, HB3.out⟩
        case measure => simp [intOf]; omega
    · obtain rfl : k = n := by omega
      have HR := Lib.hid (HYES.out HG.out)
      go_wp2
      go_ret
      exact ⟨by rw [HR.out]; rfl, hbl⟩
theorem impl_SameStages (A : Option Addr) (n c B : Nat) (ps : List Prt) (A2 : Option Addr) (n2 c2 B2 : Nat) (qs : List Prt) (w : World) (h : PrtsAt w B A n ps) (h2 : PrtsAt w B2 A2 n2 qs) (hB : B ≤ w.heap.size) (hB2 : B2 ≤ w.heap.size) (hn : n ≤ 1048576) (hn2 : n2 ≤ 1048576) (hm : ∀ j, j < n → (prAt ps j).stage.length ≤ 1048576) (hm2 : ∀ j, j < n2 → (prAt qs j).stage.length ≤ 1048576) :
    Calls Try.prog 12 #[.slice A n c, .slice A2 n2 c2] w fun e w' => e = .returned (.bool (sameSt ps qs)) ∧ Below w.heap.size w w' := by
  go_enter Try.func12, Try.ntmps12
  go_wp2_with fail
  refine (impl_EqFunc_SameStages A n c B ps A2 n2 c2 B2 qs w h h2 hB hB2 hn hn2 hm hm2).mono ?_
  rintro e w1 ⟨rfl, hb⟩
  go_wp2
  go_ret
  exact ⟨rfl, hb⟩
set_option maxHeartbeats 1000000 in
theorem spec_TotalGreen (A : Option Addr) (n c B : Nat) (ps : List Prt) (w : World) (h : PrtsAt w B A n ps) (hB : B ≤ w.heap.size) (hn : n ≤ 1048576) :
    Calls Try.prog 14 #[.slice A n c] w fun e w' => e = .returned (.int .i64 (totG ps)) ∧ Below w.heap.size w w' := by
  have hl := h.1
  go_enter Try.func14, Try.ntmps14
  go_wp2
  go_loopw [3, 4] (fun x i wr => ∃ (k : Nat) (q : Int), k ≤ n ∧ i = .int .i64 k ∧ x = .int .i64 q ∧ q = sumC 1000 (ps.map Prt.green) k ∧ Below w.heap.size w wr) (fun _ i _ => n - (intOf i).toNat)
  case atStart => exact ⟨0, 0, Nat.zero_le _, rfl, rfl, rfl, Below.refl _ _⟩
  case round =>
    obtain ⟨k, q, hk, rfl, rfl, hq, hbl⟩ := hrel
    by_cases hlt : k < n
    · obtain ⟨ad, A', m, c', rfl, hab, hqp, hi, hmc, hnil⟩ := h.at hlt
      obtain ⟨c0, c1⟩ := hqp.below hbl (by omega)
      have hqb := sumC_bound 1000 (by decide) (ps.map Prt.green) k
      rw [← hq] at hqb
      obtain ⟨hq1, hq2⟩ := hqb
      have HS : Hid (sumC 1000 (ps.map Prt.green) (k + 1) = q + maxI 0 (minI 1000 (prAt ps k).green)) := Lib.hid (by rw [hq, ← greens_at (by omega)]; rfl)
      have hcb := clampN_bound (prAt ps k).green 1000 (by decide)
      unfold clampN at hcb
      clear hq hqp hi
      generalize (prAt ps k).green = z at *
      generalize hy : maxI 0 (minI 1000 z) = y at *
      obtain ⟨hy1, hy2⟩ := hcb
      have HY := Lib.hid hy
      clear hy
      go_wp2_with fail
      refine (spec_Min _ _ _).mono ?_
      rintro e w1 ⟨rfl, rfl⟩
      go_wp2_with fail
      refine (spec_Max _ _ _).mono ?_
      rw [HY.out]
      rintro e w1 ⟨rfl, rfl⟩
      go_wp2
      go_roundw
      case rel => exact ⟨k + 1, q + y, by omega, by go_num, rfl, HS.out.symm, hbl⟩
      case measure => simp [intOf]; omega
    · obtain rfl : k = n := by omega
      have HR : Hid (totG ps = q) := Lib.hid (by unfold totG; rw [hl, hq])
      clear hq
      go_wp2
      go_ret
      exact ⟨by rw [HR.out]; try rfl, hbl⟩
set_option maxHeartbeats 1000000 in
theorem impl_TotalGreen (A : Option Addr) (n c B : Nat) (ps : List Prt) (w : World) (h : PrtsAt w B A n ps) (hB : B ≤ w.heap.size) (hn : n ≤ 1048576) :
    Calls Try.prog 15 #[.slice A n c] w fun e w' => e = .returned (.int .i64 (totG ps)) ∧ Below w.heap.size w w' := by
  have hl := h.1
  go_enter Try.func15, Try.ntmps15
  go_wp2
  go_loopw [3, 8] (fun x i wr => ∃ (k : Nat) (q : Int), k ≤ n ∧ i = .int .i64 k ∧ x = .int .i64 q ∧ q = sumC 1000 (ps.map Prt.green) k ∧ Below w.heap.size w wr) (fun _ i _ => n - (intOf i).toNat)
  case atStart => exact ⟨0, 0, Nat.zero_le _, rfl, rfl, rfl, Below.refl _ _⟩
  case round =>
    obtain ⟨k, q, hk, rfl, rfl, hq, hbl⟩ := hrel
    have hsz := hbl.size
    by_cases hlt : k < n
    · obtain ⟨ad, A', m, c', rfl, hab, hqp, hi, hmc, hnil⟩ := h.at hlt
      obtain ⟨c0, c1⟩ := hqp.below hbl (by omega)
      have hqb := sumC_bound 1000 (by decide) (ps.map Prt.green) k
      rw [← hq] at hqb
      obtain ⟨hq1, hq2⟩ := hqb
      have HS : Hid (sumC 1000 (ps.map Prt.green) (k + 1) = q + clampN (prAt ps k).green 1000) := Lib.hid (by rw [hq, ← greens_at (by omega)]; rfl)
      have hcb := clampN_bound (prAt ps k).green 1000 (by decide)
      clear hq hqp hi
      generalize (prAt ps k).green = z at *
      have HC := Lib.hid (limit_clamp z 1000)
      generalize clampN z 1000 = y at *
      obtain ⟨hy1, hy2⟩ := hcb
      have HB1 := Lib.hid (hbl.alloc hsz (.cells #[.slice A' m c', .int .i64 z] 47))
      go_wp2_with fail
      refine (impl_limit _ _ _ _).mono ?_
      rw [HC.out]
      rintro e w1 ⟨rfl, hb1⟩
      have HB2 := Lib.hid (HB1.out.trans (hb1.mono HB1.out.size))
      clear hb1 c0 c1
      go_wp2
      go_roundw
      case rel => exact ⟨k + 1, q + y, by omega, by go_num, rfl, HS.out.symm, HB2.out⟩
      case measure => simp [intOf]; omega
    · obtain rfl : k = n := by omega
      have HR : Hid (totG ps = q) := Lib.hid (by unfold totG; rw [hl, hq])
      clear hq
      go_wp2
      go_ret
      exact ⟨by rw [HR.out]; try rfl, hbl⟩
end Go.Proofs.Ytgdficjihkglpab
