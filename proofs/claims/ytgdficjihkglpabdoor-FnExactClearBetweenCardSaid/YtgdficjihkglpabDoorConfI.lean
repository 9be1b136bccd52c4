/- Chapter 5's program: lists of paths, conflicts. -/
import Derived.Test.YtgdficjihkglpabDoorInterI
import Derived.Test.YtgdficjihkglpabDoorConf
import Derived.Test.YtgdficjihkglpabDoorGrow
import Derived.Test.YtgdficjihkglpabDoorPths
import Derived.BigQuiet
import Derived.Deep.QuietTactic
namespace Go.Proofs.YtgdficjihkglpabDoor
open Go.RowKit
set_option linter.unusedVariables false

/-- the Id of the path before the k-th. -/
def lastI (ps : List Pth) : Nat → Int
  | 0 => 0
  | m + 1 => match ps[m]? with | none => 0 | some q => q.id
theorem lastI_succ {ps : List Pth} {k : Nat} {p : Pth} (h : ps[k]? = some p) : lastI ps (k + 1) = p.id := by simp [lastI, h]
theorem goodAt_last {ps : List Pth} {k : Nat} {p : Pth} (h : ps[k]? = some p) : goodAt ps k = (isP p && decide (lastI ps k < p.id)) := by
  unfold goodAt
  rw [h]
  have hlt := (List.getElem?_eq_some_iff.1 h).1
  cases k with
  | zero =>
    cases hv : isP p
    · simp [hv]
    · have h1 := (isP_facts p hv).1
      have h0 : lastI ps 0 < p.id := by show (0 : Int) < p.id; omega
      rw [decide_eq_true h0]
      simp [hv]
  | succ m =>
    have h2 : ps[m]? = some ps[m] := List.getElem?_eq_getElem (by omega)
    simp [lastI, h2]
theorem goodAt_step {ps : List Pth} {k : Nat} (h : ∀ j, j < k → goodAt ps j = true) (h2 : goodAt ps k = true) : ∀ j, j < k + 1 → goodAt ps j = true := by
  intro j hj
  by_cases e : j = k
  · subst e; exact h2
  · exact h j (by omega)
theorem arePs_big {ps : List Pth} (h : 12 < ps.length) : arePs ps = false := by
  unfold arePs
  rw [decide_eq_false (by omega), Bool.and_false]
theorem PthAt.plain {w : World} {q : Addr} {p : Pth} (h : PthAt w q p) : w.cell? q = some (.int .i64 p.id) ∧ w.cell? ⟨q.block, q.off + 1, none⟩ = some (.int .i64 p.kind) ∧ w.cell? ⟨q.block, q.off + 2, none⟩ = some (.int .i64 p.frm) ∧ w.cell? ⟨q.block, q.off + 3, none⟩ = some (.int .i64 p.to) := ⟨h.c0, h.c1, h.c2, h.c3⟩
set_option maxHeartbeats 1000000 in
set_option maxRecDepth 100000 in
theorem impl_ArePaths (A : Option Addr) (n c B : Nat) (ps : List Pth) (w : World) (h : PthsAt w B A n ps) (hB : B ≤ w.heap.size) (hn : n ≤ 4294967296) :
    Calls Tryd.prog 59 #[.slice A n c] w fun e w' => e = .returned (.bool (arePs ps)) ∧ Below w.heap.size w w' := by
  have hl := h.1
  by_cases hbig : 12 < n
  · have HR := Lib.hid (arePs_big (ps := ps) (by omega))
    go_enter Tryd.func59, Tryd.ntmps59
    go_wp2
    go_ret
    exact ⟨by rw [HR.out]; rfl, Below.refl _ _⟩
  · go_enter Tryd.func59, Tryd.ntmps59
    go_wp2
    go_loopw [11, 3] (fun i x wr => ∃ k : Nat, k ≤ n ∧ i = .int .i64 k ∧ x = .int .i64 (lastI ps k) ∧ (∀ j, j < k → goodAt ps j = true) ∧ Below w.heap.size w wr) (fun i _ _ => n - (intOf i).toNat)
    case atStart => exact ⟨0, Nat.zero_le _, rfl, rfl, fun j hj => absurd hj (by omega), Below.refl _ _⟩
    case round =>
      obtain ⟨k, hk, rfl, rfl, hgo, hbl⟩ := hrel
      have hsz := hbl.size
      by_cases hlt : k < n
      · obtain ⟨ad, p, rfl, hab, hp, hq⟩ := h.at hlt
        obtain ⟨c0, c1, c2, c3⟩ := (hq.below hbl (by omega)).plain
        have i1 : (0 : Int) ≤ (k : Int) := by omega
        have i2 : (k : Int) < (n : Int) := by omega
        have HG := Lib.hid (goodAt_last hp)
        have HL := Lib.hid (lastI_succ hp)
        have hv : p.val = .agg #[.int .i64 p.id, .int .i64 p.kind, .int .i64 p.frm, .int .i64 p.to] := rfl
        obtain ⟨y, hy⟩ : ∃ y, lastI ps k = y := ⟨_, rfl⟩
        rw [hy] at HG
        have HB0 := Lib.hid hbl
        have HGO := Lib.hid hgo
        have hcc := fun x => impl_IsPath p x
        rw [hv] at hcc
        rw [hy]
        clear hq hy hbl hgo hv
        go_wp2_with fail
        refine (hcc _).mono ?_
        rintro e w1 ⟨rfl, hb⟩
        have hb1 := hb.cell (p := ⟨wr.heap.size, 0, none⟩) (by simp)
        have hB1 := Lib.hid (HB0.out.trans ((((Below.refl _ _).alloc (Nat.le_refl _) _).trans (hb.mono (by simp))).mono HB0.out.size))
        have d0 : w1.cell? ⟨wr.heap.size, 0, none⟩ = some (.int .i64 p.id) := hb1.trans (by go_simp)
        clear hb hb1 hcc
        cases hvp : isP p
        · have HR := Lib.hid (arePs_no (ps := ps) (k := k) (by omega) (by rw [HG.out, hvp]; rfl))
          clear HG
          go_wp2
          go_ret
          exact ⟨by rw [HR.out]; rfl, hB1.out⟩
        · by_cases hle : p.id ≤ y
          · have HR := Lib.hid (arePs_no (ps := ps) (k := k) (by omega) (by rw [HG.out, decide_eq_false (by omega)]; simp))
            clear HG
            go_wp2
            go_ret
            exact ⟨by rw [HR.out]; rfl, hB1.out⟩
          · have HN := Lib.hid (goodAt_step HGO.out (by rw [HG.out, hvp, decide_eq_true (by omega)]; rfl))
            clear HG
            go_wp2
            go_roundw
            case rel => exact ⟨k + 1, by omega, by go_num, by rw [HL.out], HN.out, hB1.out⟩
            case measure => simp [intOf]; omega
      · obtain rfl : k = n := by omega
        have HR := Lib.hid (arePs_end (ps := ps) (fun j hj => hgo j (by omega)))
        clear hgo
        go_wp2
        go_ret
        exact ⟨by rw [HR.out, hl, decide_eq_true (p := k ≤ 12) (by omega)]; rfl, hbl⟩
set_option maxRecDepth 100000 in
theorem impl_isAt (p : Pth) (hp : isP p = true) (arm : Int) (w : World) : Calls Tryd.prog 79 #[.int .i64 (packN p), .int .i64 arm] w fun e w' => e = .returned (.bool (decide (p.frm = arm) || decide (p.to = arm))) ∧ w = w' := by
  obtain ⟨-, h0, h1⟩ := packN_yes hp
  have e1 := Lib.hid (packN_frm hp)
  have e2 := Lib.hid (packN_to hp)
  generalize packN p = v at *
  by_cases ha : p.frm = arm
  · have HE : Hid ((decide (p.frm = arm) || decide (p.to = arm)) = true) := Lib.hid (by simp [ha])
    have b1 : (p.frm == arm) = true := by simpa using ha
    clear ha
    go_enter Tryd.func79, Tryd.ntmps79
    go_wp2_with fail
    refine (impl_from _ _ (by omega) (by omega)).mono ?_
    rintro e w1 ⟨rfl, rfl⟩
    rw [e1.out]
    go_wp2
    go_ret
    exact ⟨by rw [HE.out]; rfl, rfl⟩
  · have HE : Hid ((decide (p.frm = arm) || decide (p.to = arm)) = (p.to == arm)) := Lib.hid (by simp [ha]; rfl)
    have b1 : (p.frm == arm) = false := by simpa using ha
    clear ha
    go_enter Tryd.func79, Tryd.ntmps79
    go_wp2_with fail
    refine (impl_from _ _ (by omega) (by omega)).mono ?_
    rintro e w1 ⟨rfl, rfl⟩
    rw [e1.out]
    go_wp2_with fail
    refine (impl_to _ _ (by omega) (by omega)).mono ?_
    rintro e w1 ⟨rfl, rfl⟩
    rw [e2.out]
    go_wp2
    go_ret
    exact ⟨by rw [HE.out]; rfl, rfl⟩
/-- what meets answers. -/
def meetB (p q : Pth) : Bool := if p.frm ≠ q.frm ∧ p.to = q.to then true else inter (inPl p.frm) (outPl p.to) (inPl q.frm) (outPl q.to)
set_option maxRecDepth 100000 in
theorem impl_meets (p q : Pth) (hp : isP p = true) (hq : isP q = true) (w : World) : Calls Tryd.prog 81 #[.int .i64 (packN p), .int .i64 (packN q)] w fun e w' => e = .returned (.bool (meetB p q)) ∧ Below w.heap.size w w' := by
  obtain ⟨-, h0, h1⟩ := packN_yes hp
  obtain ⟨-, h2, h3⟩ := packN_yes hq
  have e1 := Lib.hid (packN_frm hp)
  have e2 := Lib.hid (packN_to hp)
  have e3 := Lib.hid (packN_frm hq)
  have e4 := Lib.hid (packN_to hq)
  generalize packN p = v at *
  generalize packN q = u at *
  have HM : Hid (meetB p q = if p.frm ≠ q.frm ∧ p.to = q.to then true else inter (inPl p.frm) (outPl p.to) (inPl q.frm) (outPl q.to)) := Lib.hid rfl
  generalize meetB p q = m at *
  generalize p.frm = x1 at *
  generalize p.to = x2 at *
  generalize q.frm = x3 at *
  generalize q.to = x4 at *
  have hm1 : ∀ h : x1 = x3, Hid (m = inter (inPl x1) (outPl x2) (inPl x3) (outPl x4)) := fun h => Lib.hid (by rw [HM.out, if_neg (fun h' => h'.1 h)])
  have hm2 : ∀ h : ¬ x2 = x4, Hid (m = inter (inPl x1) (outPl x2) (inPl x3) (outPl x4)) := fun h => Lib.hid (by rw [HM.out, if_neg (fun h' => h h'.2)])
  have hm3 : ∀ (h : ¬ x1 = x3) (h' : x2 = x4), Hid (m = true) := fun h h' => Lib.hid (by rw [HM.out, if_pos ⟨h, h'⟩])
  by_cases ha : x1 = x3
  all_goals
    by_cases hb : x2 = x4
    all_goals
      first
        | have HQ := hm1 ha
        | have HQ := hm2 hb
        | have HQ := hm3 ha hb
      clear hm1 hm2 hm3 HM
      have b1 : (x1 != x3) = !decide (x1 = x3) := by by_cases e : x1 = x3 <;> simp [e]
      have b2 : (x2 == x4) = decide (x2 = x4) := by by_cases e : x2 = x4 <;> simp [e]
      first | rw [decide_eq_false ha] at b1 | rw [decide_eq_true ha] at b1
      first | rw [decide_eq_true hb] at b2 | rw [decide_eq_false hb] at b2
      clear ha hb
      go_enter Tryd.func81, Tryd.ntmps81
      go_wp2_with fail
      refine (impl_from _ _ (by omega) (by omega)).mono ?_
      rintro e w1 ⟨rfl, rfl⟩
      rw [e1.out]
      go_wp2_with fail
      refine (impl_from _ _ (by omega) (by omega)).mono ?_
      rintro e w1 ⟨rfl, rfl⟩
      rw [e3.out]
      go_wp2_with
        (first
          | (go_at_call 97; refine (impl_to v _ (by omega) (by omega)).mono ?_; rintro e w1 ⟨rfl, rfl⟩; rw [e2.out])
          | (go_at_call 97; refine (impl_to u _ (by omega) (by omega)).mono ?_; rintro e w1 ⟨rfl, rfl⟩; rw [e4.out])
          | (go_at_call 80; refine (impl_from v _ (by omega) (by omega)).mono ?_; rintro e w1 ⟨rfl, rfl⟩; rw [e1.out])
          | (go_at_call 80; refine (impl_from u _ (by omega) (by omega)).mono ?_; rintro e w1 ⟨rfl, rfl⟩; rw [e3.out])
          | (go_at_call 99; refine (impl_InPlace _ _).mono ?_; rintro e w1 ⟨rfl, rfl⟩)
          | (go_at_call 100; refine (impl_OutPlace _ _).mono ?_; rintro e w1 ⟨rfl, rfl⟩)
          | (go_at_call 98; refine (impl_Interleave _ _ _ _ _).mono ?_; rintro e w1 ⟨rfl, hbb⟩))
      go_ret
      first
        | exact ⟨by rw [HQ.out]; rfl, Below.refl _ _⟩
        | exact ⟨by rw [HQ.out]; rfl, hbb⟩
theorem conf_walk1 {p q : Pth} (hp : isP p = true) (hq : isP q = true) (h1 : p.kind = 2) (h2 : q.kind = 2) : conf p q = false := by unfold conf; rw [hp, hq, decide_eq_true h1, decide_eq_true h2]; rfl
theorem conf_walk2 {p q : Pth} (hp : isP p = true) (hq : isP q = true) (h1 : p.kind = 2) (h2 : ¬ q.kind = 2) : conf p q = (decide (q.frm = p.frm) || decide (q.to = p.frm)) := by unfold conf; rw [hp, hq, decide_eq_true h1, decide_eq_false h2, if_pos (by rfl), if_pos h1]
theorem conf_walk3 {p q : Pth} (hp : isP p = true) (hq : isP q = true) (h1 : ¬ p.kind = 2) (h2 : q.kind = 2) : conf p q = (decide (p.frm = q.frm) || decide (p.to = q.frm)) := by unfold conf; rw [hp, hq, decide_eq_false h1, decide_eq_true h2, if_pos (by rfl), if_neg h1, if_pos h2]
theorem conf_walk4 {p q : Pth} (hp : isP p = true) (hq : isP q = true) (h1 : ¬ p.kind = 2) (h2 : ¬ q.kind = 2) : conf p q = meetB p q := by
  unfold conf meetB
  rw [hp, hq, decide_eq_false h1, decide_eq_false h2, if_pos (by rfl), if_neg h1, if_neg h2]
  by_cases e1 : p.frm = q.frm
  · rw [if_pos e1, if_neg (fun h => h.1 e1), e1]
    exact (inter_eq (j := 2) (k := 0) (by decide) (by decide) rfl).symm
  · rw [if_neg e1]
    by_cases e2 : p.to = q.to
    · rw [if_pos e2, if_pos ⟨e1, e2⟩]
    · rw [if_neg e2, if_neg (fun h => e2 h.2)]
theorem conf_no1 {p q : Pth} (h : isP p = false) : conf p q = false := conf_no (by rw [h]; rfl)
theorem conf_no2 {p q : Pth} (h : isP q = false) : conf p q = false := conf_no (by rw [h]; simp)
set_option maxHeartbeats 1000000 in
set_option maxRecDepth 100000 in
theorem impl_Conflict (p q : Pth) (w : World) : Calls Tryd.prog 60 #[p.val, q.val] w fun e w' => e = .returned (.bool (conf p q)) ∧ Below w.heap.size w w' := by
  have hn1 := fun h => Lib.hid (conf_no1 (p := p) (q := q) h)
  have hn2 := fun h => Lib.hid (conf_no2 (p := p) (q := q) h)
  have hw1 := fun hp hq h1 h2 => Lib.hid (conf_walk1 (p := p) (q := q) hp hq h1 h2)
  have hw2 := fun hp hq h1 h2 => Lib.hid (conf_walk2 (p := p) (q := q) hp hq h1 h2)
  have hw3 := fun hp hq h1 h2 => Lib.hid (conf_walk3 (p := p) (q := q) hp hq h1 h2)
  have hw4 := fun hp hq h1 h2 => Lib.hid (conf_walk4 (p := p) (q := q) hp hq h1 h2)
  generalize conf p q = r at *
  have hk1 := fun hp => Lib.hid (packN_kind (p := p) hp)
  have hk2 := fun hp => Lib.hid (packN_kind (p := q) hp)
  have hf1 := fun hp => Lib.hid (packN_frm (p := p) hp)
  have hf2 := fun hp => Lib.hid (packN_frm (p := q) hp)
  have hy1 := fun hp => (packN_yes (p := p) hp).2
  have hy2 := fun hp => (packN_yes (p := q) hp).2
  have hz1 := fun hp => packN_no (p := p) hp
  have hz2 := fun hp => packN_no (p := q) hp
  have hcp := fun x => impl_pack p x
  have hcq := fun x => impl_pack q x
  have ha1 := fun hp arm x => impl_isAt p hp arm x
  have ha2 := fun hp arm x => impl_isAt q hp arm x
  have hm := fun hp hq x => impl_meets p q hp hq x
  generalize meetB p q = mb at *
  generalize packN p = v at *
  generalize packN q = u at *
  generalize hpp : isP p = ip at *
  generalize hqq : isP q = iq at *
  clear hpp hqq
  obtain ⟨a, b, c, d⟩ := p
  obtain ⟨a', b', c', d'⟩ := q
  simp only [Pth.val] at *
  go_enter Tryd.func60, Tryd.ntmps60
  go_wp2
  have hz := Lib.hid (fun x : GW ((w.alloc (.cells #[.int .i64 a, .int .i64 b, .int .i64 c, .int .i64 d] 48)).alloc (.cells #[.int .i64 a', .int .i64 b', .int .i64 c', .int .i64 d'] 48)) => boxed_two (p := ⟨a, b, c, d⟩) (q := ⟨a', b', c', d'⟩) x.ok)
  have x0 := fun x => (pth_head (hz.out x).1).1
  have x1 := fun x => (pth_head (hz.out x).1).2.1
  have x2 := fun x => (pth_head (hz.out x).1).2.2.1
  have x3 := fun x => (pth_head (hz.out x).1).2.2.2
  have y0 := fun x => (pth_head (hz.out x).2.1).1
  have y1 := fun x => (pth_head (hz.out x).2.1).2.1
  have y2 := fun x => (pth_head (hz.out x).2.1).2.2.1
  have y3 := fun x => (pth_head (hz.out x).2.1).2.2.2
  simp only at x0 x1 x2 x3 y0 y1 y2 y3
  have hzb := Lib.hid (fun x => (hz.out x).2.2.2)
  clear hz
  refine wp_region_grow (by kernel_rfl) (by kernel_rfl) ?_
  repeat (go_big_quiet_step (first | (go_at_call 77; (first | with_reducible exact calls_gw _ (hcp _) | with_reducible exact calls_gw _ (hcq _)))))
  refine wpQuiet_nil ?_
  intro x5
  have HB := Lib.hid (hzb.out x5)
  clear hzb x0 x1 x2 x3 y0 y1 y2 y3 hcp hcq
  generalize x5.val = w3 at *
  cases ip
  · have HR := hn1 rfl
    obtain rfl := hz1 rfl
    clear hz1 hz2 hn1 hn2 hw1 hw2 hw3 hw4 hm ha1 ha2 hk1 hk2 hf1 hf2 hy1 hy2
    go_wp2
    go_ret
    exact ⟨by rw [HR.out]; rfl, HB.out⟩
  obtain ⟨v0, v1⟩ := hy1 rfl
  have vz : (v == 0) = false := by simp; omega
  have gk1 := hk1 rfl
  have gf1 := hf1 rfl
  clear hy1
  cases iq
  · have HR := hn2 rfl
    obtain rfl := hz2 rfl
    clear hz1 hz2 hn1 hn2 hw1 hw2 hw3 hw4 hm ha1 ha2 hk1 hk2 hf1 hf2 hy2
    go_wp2
    go_ret
    exact ⟨by rw [HR.out]; rfl, HB.out⟩
  obtain ⟨u0, u1⟩ := hy2 rfl
  have uz : (u == 0) = false := by simp; omega
  have gk2 := hk2 rfl
  have gf2 := hf2 rfl
  have ga1 := Lib.hid (ha1 rfl)
  have ga2 := Lib.hid (ha2 rfl)
  have gm := Lib.hid (hm rfl rfl)
  clear hk1 hk2 hf1 hf2 ha1 ha2 hm
  have kv := Lib.hid (fun x => impl_kind v x (by omega) (by omega))
  have ku := Lib.hid (fun x => impl_kind u x (by omega) (by omega))
  have fv := Lib.hid (fun x => impl_from v x (by omega) (by omega))
  have fu := Lib.hid (fun x => impl_from u x (by omega) (by omega))
  clear hz1 hz2 hn1 hn2 hy2
  by_cases e1 : b = 2
  all_goals
    by_cases e2 : b' = 2
    all_goals
      first
        | have HQ := hw1 rfl rfl e1 e2
        | have HQ := hw2 rfl rfl e1 e2
        | have HQ := hw3 rfl rfl e1 e2
        | have HQ := hw4 rfl rfl e1 e2
      clear hw1 hw2 hw3 hw4
      have b1 : (b == 2) = decide (b = 2) := by by_cases e : b = 2 <;> simp [e]
      have b2 : (b' == 2) = decide (b' = 2) := by by_cases e : b' = 2 <;> simp [e]
      have b3 : (b' != 2) = !decide (b' = 2) := by by_cases e : b' = 2 <;> simp [e]
      first | rw [decide_eq_true e1] at b1 | rw [decide_eq_false e1] at b1
      first | rw [decide_eq_true e2] at b2 b3 | rw [decide_eq_false e2] at b2 b3
      clear e1 e2
      go_wp2_with
        (first
          | (go_at_call 78; (with_reducible refine (kv.out _).mono ?_); rintro e w1 ⟨rfl, rfl⟩; rw [gk1.out])
          | (go_at_call 78; (with_reducible refine (ku.out _).mono ?_); rintro e w1 ⟨rfl, rfl⟩; rw [gk2.out])
          | (go_at_call 80; (with_reducible refine (fv.out _).mono ?_); rintro e w1 ⟨rfl, rfl⟩; rw [gf1.out])
          | (go_at_call 80; (with_reducible refine (fu.out _).mono ?_); rintro e w1 ⟨rfl, rfl⟩; rw [gf2.out])
          | (go_at_call 79; (with_reducible refine (ga1.out _ _).mono ?_); rintro e w1 ⟨rfl, rfl⟩)
          | (go_at_call 79; (with_reducible refine (ga2.out _ _).mono ?_); rintro e w1 ⟨rfl, rfl⟩)
          | (go_at_call 81; (with_reducible refine (gm.out _).mono ?_); rintro e w1 ⟨rfl, hbb⟩))
      go_ret
      first
        | exact ⟨by rw [HQ.out]; rfl, HB.out⟩
        | exact ⟨by rw [HQ.out]; rfl, HB.out.trans (hbb.mono HB.out.size)⟩
end Go.Proofs.YtgdficjihkglpabDoor
