/- Chapter 32: WorstService: program and model. -/
import Derived.Test.YtdgpodopkfnpeaaInts
import Derived.Test.YtdgpodopkfnpeaaSvc
import Derived.Test.YtdgpodopkfnpeaaGrow
namespace Go.Proofs.Ytdgpodopkfnpeaa
open Go.RowKit
set_option linter.unusedVariables false

/-- what cmp.Compare answers. -/
def cmpI (a b : Int) : Int := if a < b then -1 else if a > b then 1 else 0
theorem impl_isNaN (a : Int) (w : World) : Calls Try.prog 112 #[.int .i64 a] w fun e w' => e = .returned (.bool false) ∧ w = w' := by
  have e1 : (a != a) = false := by simp
  go_enter Try.func112, Try.ntmps112
  go_wp2
  go_ret
  exact ⟨rfl, rfl⟩
theorem impl_cmp (a b : Int) (w : World) : Calls Try.prog 90 #[.int .i64 a, .int .i64 b] w fun e w' => e = .returned (.int .i64 (cmpI a b)) ∧ w = w' := by
  by_cases h1 : a < b
  · have HV : Hid (cmpI a b = -1) := Lib.hid (by unfold cmpI; rw [if_pos h1])
    go_enter Try.func90, Try.ntmps90
    go_wp2_with (go_at_call 112; refine (impl_isNaN _ _).mono ?_; rintro e w' ⟨rfl, rfl⟩)
    go_ret
    exact ⟨by rw [HV.out]; try rfl, rfl⟩
  · by_cases h2 : a > b
    · have HV : Hid (cmpI a b = 1) := Lib.hid (by unfold cmpI; rw [if_neg h1, if_pos h2])
      go_enter Try.func90, Try.ntmps90
      go_wp2_with (go_at_call 112; refine (impl_isNaN _ _).mono ?_; rintro e w' ⟨rfl, rfl⟩)
      go_ret
      exact ⟨by rw [HV.out]; try rfl, rfl⟩
    · have HV : Hid (cmpI a b = 0) := Lib.hid (by unfold cmpI; rw [if_neg h1, if_neg h2])
      go_enter Try.func90, Try.ntmps90
      go_wp2_with (go_at_call 112; refine (impl_isNaN _ _).mono ?_; rintro e w' ⟨rfl, rfl⟩)
      go_ret
      exact ⟨by rw [HV.out]; try rfl, rfl⟩
def svcA (zs : List Svc) (k : Nat) : Svc := zs.getD k ⟨0, 0, 0, 0⟩
theorem svcA_some {zs : List Svc} {k : Nat} {x : Svc} (h : zs[k]? = some x) : svcA zs k = x := by unfold svcA; rw [List.getD_eq_getElem?_getD, h]; rfl
def wst (m x : Svc) : Svc := if x.wait > m.wait then x else m
/-- the first one with the greatest Wait of the first one and of the first k. -/
def wstK (zs : List Svc) : Nat → Svc
  | 0 => svcA zs 0
  | k + 1 => wst (wstK zs k) (svcA zs k)
/-- what WorstService answers. -/
def worstS (zs : List Svc) : Int := if zs.length = 0 then 0 else (wstK zs zs.length).path
theorem wstK_one (zs : List Svc) : wstK zs 1 = svcA zs 0 := by
  show wst (svcA zs 0) (svcA zs 0) = _
  unfold wst
  split <;> rfl
theorem wstK_yes {zs : List Svc} {k : Nat} {x : Svc} (hx : zs[k]? = some x) (h : x.wait > (wstK zs k).wait) : wstK zs (k + 1) = x := by show wst _ _ = _; unfold wst; rw [svcA_some hx, if_pos h]
theorem wstK_no {zs : List Svc} {k : Nat} {x : Svc} (hx : zs[k]? = some x) (h : ¬ x.wait > (wstK zs k).wait) : wstK zs (k + 1) = wstK zs k := by show wst _ _ = _; unfold wst; rw [svcA_some hx, if_neg h]
theorem impl_WorstService1 (p q : Svc) (w : World) : Calls Try.prog 89 #[p.val, q.val] w fun e w' => e = .returned (.int .i64 (cmpI p.wait q.wait)) ∧ Below w.heap.size w w' := by
  obtain ⟨a, b, c, d⟩ := p
  obtain ⟨a2, b2, c2, d2⟩ := q
  simp only [Svc.val]
  have HB := Lib.hid (((Below.refl w.heap.size w).alloc (Nat.le_refl _) (.cells #[.int .i64 a, .int .i64 b, .int .i64 c, .int .i64 d] 114)).alloc (by simp) (.cells #[.int .i64 a2, .int .i64 b2, .int .i64 c2, .int .i64 d2] 114))
  go_enter Try.func89, Try.ntmps89
  go_wp2_with (go_at_call 90; refine (impl_cmp _ _ _).mono ?_; rintro e w' ⟨rfl, rfl⟩)
  go_ret
  exact ⟨rfl, HB.out⟩
set_option maxHeartbeats 2000000 in
theorem impl_maxS (A : Option Addr) (n c B : Nat) (zs : List Svc) (w : World) (h : SvcsAt w B A n zs) (hB : B ≤ w.heap.size) (hn : n ≤ 4294967296) (h0 : 0 < n) :
    Calls Try.prog 88 #[.slice A n c, .func (.func 89) #[] #[]] w fun e w' => e = .returned (wstK zs n).val ∧ Below w.heap.size w w' := by
  have hl := h.1
  obtain ⟨ad, p0, rfl, hab, hp0, hq0⟩ := h.at h0
  have HS1 : Hid (wstK zs 1 = p0) := Lib.hid (by rw [wstK_one, svcA_some hp0])
  have hpi : (0 : Int) < (n : Int) := by omega
  have hni : ¬ (n : Int) < 1 := by omega
  obtain ⟨wA, hwA⟩ : ∃ wA, wA = (w.alloc (.cells #[.int .i64 0, .int .i64 0, .int .i64 0, .int .i64 0] 114)).alloc (.cells #[.int .i64 p0.path, .int .i64 p0.green, .int .i64 p0.wait, .int .i64 p0.share] 114) := ⟨_, rfl⟩
  obtain ⟨hz, hk, hsz, hBl⟩ := two_blocks hwA
  have hb1 := (Below.refl w.heap.size w).alloc (Nat.le_refl _) (.cells #[.int .i64 0, .int .i64 0, .int .i64 0, .int .i64 0] 114)
  obtain ⟨e0, e1, e2, e3⟩ := hq0.below hb1 (by omega)
  simp only [Nat.zero_mul] at e0 e1 e2 e3
  have ha0 : ad.add 0 = ad := by simp [Addr.add]
  rw [ha0] at e0 e1 e2 e3
  have HK := Lib.hid hk
  have HZ := Lib.hid hz
  have HBl := Lib.hid hBl
  clear hz hk hsz hBl hb1 hp0 hq0 ha0 hab
  go_enter Try.func88, Try.ntmps88
  go_wp2
  rw [← hwA]
  clear hwA e0 e1 e2 e3
  go_loopw [6] (fun i wr => ∃ (k : Nat) (q : Svc), 1 ≤ k ∧ k ≤ n ∧ i = .int .i64 k ∧ wstK zs k = q ∧ wr.heap[w.heap.size]? = some (.cells #[.int .i64 0, .int .i64 0, .int .i64 0, .int .i64 0] 114) ∧ wr.heap[w.heap.size + 1]? = some (.cells #[.int .i64 q.path, .int .i64 q.green, .int .i64 q.wait, .int .i64 q.share] 114) ∧ Below w.heap.size w wr) (fun i _ => n - (intOf i).toNat)
  case atStart => exact ⟨1, p0, by omega, by omega, rfl, HS1.out, HZ.out, HK.out, HBl.out⟩
  case round =>
    obtain ⟨k, q, hk1, hk, rfl, hq, hz, hkk, hbl⟩ := hrel
    have HQ := Lib.hid hq
    have HZ2 := Lib.hid hz
    have HK2 := Lib.hid hkk
    have HB2 := Lib.hid hbl
    have ltz : w.heap.size < wr.heap.size := lt_of_block hz
    have ltk : w.heap.size + 1 < wr.heap.size := lt_of_block hkk
    by_cases hlt : k < n
    · obtain ⟨ad2, p, e, hab2, hp, hqp⟩ := h.at hlt
      injection e with e
      subst e
      have hqw := hqp.below hbl (by omega)
      have c0 := fun x : GW wr => (hqw.below x.ok (by omega)).c0
      have c1 := fun x : GW wr => (hqw.below x.ok (by omega)).c1
      have c2 := fun x : GW wr => (hqw.below x.ok (by omega)).c2
      have c3 := fun x : GW wr => (hqw.below x.ok (by omega)).c3
      have hkx := fun x : GW wr => svc_head (svc_of_block (p := q) ((x.ok.block _ ltk).trans HK2.out))
      have d0 := fun x : GW wr => (hkx x).1
      have d1 := fun x : GW wr => (hkx x).2.1
      have d2 := fun x : GW wr => (hkx x).2.2.1
      have d3 := fun x : GW wr => (hkx x).2.2.2
      have hcc := fun x : GW wr => impl_WorstService1 p q x.val
      have i1 : (0 : Int) ≤ (k : Int) := by omega
      have i2 : (k : Int) < (n : Int) := by omega
      have HP := Lib.hid hp
      have HQW := Lib.hid hqw
      simp only [Svc.val] at hcc
      clear hp hqp hqw hkx hq hz hkk hbl
      by_cases hgt : p.wait > q.wait
      · have hcv : cmpI p.wait q.wait = 1 := by unfold cmpI; rw [if_neg (by omega), if_pos hgt]
        rw [hcv] at hcc
        have HS : Hid (wstK zs (k + 1) = p) := Lib.hid (wstK_yes HP.out (by rw [HQ.out]; exact hgt))
        clear hcv
        go_wp2
        refine wp_region_grow (by kernel_rfl) (by kernel_rfl) ?_
        repeat (go_big_quiet_step (first | (go_at_call 89; exact calls_gw _ (hcc _))))
        refine wpQuiet_nil ?_
        intro x3
        have hb3 := x3.ok
        have b0 := c0 x3
        have b1 := c1 x3
        have b2 := c2 x3
        have b3 := c3 x3
        clear c0 c1 c2 c3 d0 d1 d2 d3 hcc
        generalize x3.val = w3 at *
        have HK3 := Lib.hid ((hb3.block _ ltk).trans HK2.out)
        have HZ3 := Lib.hid ((hb3.block _ ltz).trans HZ2.out)
        have HB3 := Lib.hid (HB2.out.trans (hb3.mono HB2.out.size))
        obtain ⟨f0, f1, f2, f3⟩ := svc_head (svc_of_block (p := q) HK3.out)
        have fz : ∀ i, w3.frozen? ⟨w.heap.size + 1, i, none⟩ = false := fun i => frozen_of_row _ _ i _ _ HK3.out
        have ltk3 : w.heap.size + 1 < w3.heap.size := lt_of_block HK3.out
        clear hb3
        go_wp2
        go_roundw
        case rel =>
          refine ⟨k + 1, p, by omega, by omega, by go_num, HS.out, ?_, ?_, (((HB3.out.setCell (Nat.le_succ _) _).setCell (Nat.le_succ _) _).setCell (Nat.le_succ _) _).setCell (Nat.le_succ _) _⟩
          · exact unstored4 HZ3.out (by omega)
          · exact stored4 HK3.out
        case measure => simp [intOf]; omega
      · have hcv : ¬ cmpI p.wait q.wait > 0 := by unfold cmpI; split <;> first | omega | (rw [if_neg hgt]; omega)
        have HS : Hid (wstK zs (k + 1) = q) := Lib.hid ((wstK_no HP.out (by rw [HQ.out]; exact hgt)).trans HQ.out)
        generalize cmpI p.wait q.wait = v at *
        go_wp2
        refine wp_region_grow (by kernel_rfl) (by kernel_rfl) ?_
        repeat (go_big_quiet_step (first | (go_at_call 89; exact calls_gw _ (hcc _))))
        refine wpQuiet_nil ?_
        intro x3
        have hb3 := x3.ok
        clear c0 c1 c2 c3 d0 d1 d2 d3 hcc
        generalize x3.val = w3 at *
        have HK3 := Lib.hid ((hb3.block _ ltk).trans HK2.out)
        have HZ3 := Lib.hid ((hb3.block _ ltz).trans HZ2.out)
        have HB3 := Lib.hid (HB2.out.trans (hb3.mono HB2.out.size))
        clear hb3
        go_wp2
        go_roundw
        case rel => exact ⟨k + 1, q, by omega, by omega, by go_num, HS.out, HZ3.out, HK3.out, HB3.out⟩
        case measure => simp [intOf]; omega
    · obtain rfl : k = n := by omega
      obtain ⟨f0, f1, f2, f3⟩ := svc_head (svc_of_block (p := q) HK2.out)
      obtain ⟨z0, z1, z2, z3⟩ := svc_head (svc_of_block (p := ⟨0, 0, 0, 0⟩) HZ2.out)
      simp only at z0 z1 z2 z3
      have fz : ∀ i, wr.frozen? ⟨w.heap.size, i, none⟩ = false := fun i => frozen_of_row _ _ i _ _ HZ2.out
      clear hq hz hkk hbl
      go_wp2
      refine bodyPost_ret (by rw [results_cell rfl]; go_simp; try rfl) rfl ?_
      exact ⟨by rw [HQ.out]; rfl, (((HB2.out.setCell (Nat.le_refl _) _).setCell (Nat.le_refl _) _).setCell (Nat.le_refl _) _).setCell (Nat.le_refl _) _⟩
set_option maxRecDepth 100000 in
theorem impl_WorstService (A : Option Addr) (n c B : Nat) (zs : List Svc) (w : World) (h : SvcsAt w B A n zs) (hB : B ≤ w.heap.size) (hn : n ≤ 4294967296) :
    Calls Try.prog 43 #[.slice A n c] w fun e w' => e = .returned (.int .i64 (worstS zs)) ∧ Below w.heap.size w w' := by
  have hl := h.1
  by_cases h0 : n = 0
  · have HV : Hid (worstS zs = 0) := Lib.hid (by unfold worstS; rw [if_pos (by omega)])
    subst h0
    go_enter Try.func43, Try.ntmps43
    go_wp2
    go_ret
    exact ⟨by rw [HV.out]; try rfl, Below.refl _ _⟩
  · have hb0 : ((n : Int) == 0) = false := by simpa using h0
    have HV : Hid (worstS zs = (wstK zs n).path) := Lib.hid (by unfold worstS; rw [if_neg (by omega), hl])
    have hcc := impl_maxS A n c B zs w h hB hn (by omega)
    generalize wstK zs n = q at *
    obtain ⟨a, b, c', d⟩ := q
    simp only [Svc.val] at *
    clear hl h h0
    go_enter Try.func43, Try.ntmps43
    go_wp2_with fail
    refine hcc.mono ?_
    rintro e w1 ⟨rfl, hb1⟩
    clear hcc
    have hfd : ∀ w : World, (Instr.field 114 (.agg #[.int .i64 a, .int .i64 b, .int .i64 c', .int .i64 d]) 0).run Try.prog w = .ok (.int .i64 a) w := fun _ => by kernel_rfl
    go_wp2
    go_ret
    exact ⟨by rw [HV.out]; try rfl, hb1⟩
set_option maxHeartbeats 2000000 in
theorem spec_WorstService (A : Option Addr) (n c B : Nat) (zs : List Svc) (w : World) (h : SvcsAt w B A n zs) (hB : B ≤ w.heap.size) (hn : n ≤ 4294967296) :
    Calls Try.prog 42 #[.slice A n c] w fun e w' => e = .returned (.int .i64 (worstS zs)) ∧ Below w.heap.size w w' := by
  have hl := h.1
  have HV0 : Hid (n = 0 → worstS zs = 0) := Lib.hid (fun e => by unfold worstS; rw [if_pos (by omega)])
  have HV : Hid (0 < n → worstS zs = (wstK zs n).path) := Lib.hid (fun e => by unfold worstS; rw [if_neg (by omega), hl])
  go_enter Try.func42, Try.ntmps42
  go_wp2
  go_loopw [3, 4] (fun b i wr => ∃ k : Nat, k ≤ n ∧ i = .int .i64 k ∧ ((k = 0 ∧ b = .int .i64 (-1)) ∨ (0 < k ∧ ∃ m : Nat, m < k ∧ b = .int .i64 m ∧ zs[m]? = some (wstK zs k))) ∧ Below w.heap.size w wr) (fun _ i _ => n - (intOf i).toNat)
  case atStart => exact ⟨0, Nat.zero_le _, rfl, .inl ⟨rfl, rfl⟩, Below.refl _ _⟩
  case round =>
    obtain ⟨k, hk, rfl, hb, hbl⟩ := hrel
    by_cases hlt : k < n
    · obtain ⟨ad, p, rfl, hab, hp, hqp⟩ := h.at hlt
      obtain ⟨c0, c1, c2, c3⟩ := hqp.below hbl (by omega)
      have i1 : (0 : Int) ≤ (k : Int) := by omega
      have i2 : (k : Int) < (n : Int) := by omega
      have HP := Lib.hid hp
      clear hp hqp
      rcases hb with ⟨rfl, rfl⟩ | ⟨hk0, m, hm, rfl, hmz⟩
      · have HR : Hid (zs[0]? = some (wstK zs 1)) := Lib.hid (by rw [wstK_one, svcA_some HP.out, HP.out])
        have d0 : decide ((-1 : Int) < 0) = true := by decide
        go_wp2
        go_quiet (fail)
        go_wp2
        go_roundw
        case rel => exact ⟨1, by omega, by go_num, .inr ⟨by omega, 0, by omega, rfl, HR.out⟩, belowN hbl _⟩
        case measure => simp [intOf]; omega
      · obtain ⟨ad2, q, e, hab2, hq2, hqq⟩ := h.at (k := m) (by omega)
        injection e with e
        subst e
        obtain ⟨b0, b1, b2, b3⟩ := hqq.below hbl (by omega)
        have HQ : Hid (wstK zs k = q) := Lib.hid (by rw [hq2] at hmz; exact (Option.some.inj hmz).symm)
        have HM := Lib.hid hmz
        have j1 : (0 : Int) ≤ (m : Int) := by omega
        have j2 : (m : Int) < (n : Int) := by omega
        have d0 : decide ((m : Int) < 0) = false := decide_eq_false (by omega)
        clear hq2 hqq hmz
        by_cases hgt : p.wait > q.wait
        · have HR : Hid (zs[k]? = some (wstK zs (k + 1))) := Lib.hid (by rw [wstK_yes HP.out (by rw [HQ.out]; exact hgt), HP.out])
          have d1 : decide (q.wait < p.wait) = true := decide_eq_true hgt
          go_wp2
          go_quiet (fail)
          go_wp2
          go_roundw
          case rel => exact ⟨k + 1, by omega, by go_num, .inr ⟨by omega, k, by omega, rfl, HR.out⟩, belowN hbl _⟩
          case measure => simp [intOf]; omega
        · have HR : Hid (zs[m]? = some (wstK zs (k + 1))) := Lib.hid (by rw [wstK_no HP.out (by rw [HQ.out]; exact hgt)]; exact HM.out)
          have d1 : decide (q.wait < p.wait) = false := decide_eq_false hgt
          go_wp2
          go_quiet (fail)
          go_wp2
          go_roundw
          case rel => exact ⟨k + 1, by omega, by go_num, .inr ⟨by omega, m, by omega, rfl, HR.out⟩, belowN hbl _⟩
          case measure => simp [intOf]; omega
    · obtain rfl : k = n := by omega
      rcases hb with ⟨rfl, rfl⟩ | ⟨hk0, m, hm, rfl, hmz⟩
      · have HR := Lib.hid (HV0.out rfl)
        go_wp2
        go_ret
        exact ⟨by rw [HR.out]; try rfl, hbl⟩
      · obtain ⟨ad2, q, rfl, hab2, hq2, hqq⟩ := h.at (k := m) (by omega)
        obtain ⟨b0, b1, b2, b3⟩ := hqq.below hbl (by omega)
        have HQ : Hid (wstK zs k = q) := Lib.hid (by rw [hq2] at hmz; exact (Option.some.inj hmz).symm)
        have j1 : (0 : Int) ≤ (m : Int) := by omega
        have j2 : (m : Int) < (k : Int) := by omega
        clear hq2 hqq hmz
        go_wp2
        go_ret
        exact ⟨by rw [HV.out (by omega), HQ.out]; try rfl, hbl⟩
end Go.Proofs.Ytdgpodopkfnpeaa
