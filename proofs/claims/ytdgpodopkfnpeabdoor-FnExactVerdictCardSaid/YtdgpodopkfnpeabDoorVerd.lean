/- Chapter 38: Verdict: program and model, and the program's table of verdicts. -/
import Derived.Test.YtdgpodopkfnpeabDoorInts
import Derived.Test.YtdgpodopkfnpeabDoorRep
import Derived.Test.YtdgpodopkfnpeabDoorGrow
import Derived.Test.YtdgpodopkfnpeabDoorLawLaid
import Derived.Lib.LaidTab
import Derived.Lib.SmallJoins
namespace Go.Proofs.YtdgpodopkfnpeabDoor
open Go.RowKit
set_option linter.unusedVariables false

/-- what Verdict answers. -/
def verdB (r s : Rep) : ByteArray := if r.second ≠ s.second ∨ inB r.light 0 2 = false ∨ inB s.light 0 2 = false then ⟨#[]⟩ else if r.light = 0 then (if s.light = 0 then ⟨#[98,111,116,104]⟩ else ⟨#[102,105,114,115,116]⟩) else (if s.light = 0 then ⟨#[115,101,99,111,110,100]⟩ else ⟨#[110,101,105,116,104,101,114]⟩)
theorem verdB_bad {r s : Rep} (h : r.second ≠ s.second ∨ inB r.light 0 2 = false ∨ inB s.light 0 2 = false) : verdB r s = ⟨#[]⟩ := if_pos h
theorem verdB_good {r s : Rep} (h1 : r.second = s.second) (h2 : inB r.light 0 2 = true) (h3 : inB s.light 0 2 = true) : verdB r s = if r.light = 0 then (if s.light = 0 then ⟨#[98,111,116,104]⟩ else ⟨#[102,105,114,115,116]⟩) else (if s.light = 0 then ⟨#[115,101,99,111,110,100]⟩ else ⟨#[110,101,105,116,104,101,114]⟩) := if_neg (by simp [h1, h2, h3])
/-- the variable's strings. -/
structure Verds (w : World) : Prop where
  k00 : w.cell? ⟨0, 0, none⟩ = some (.string ⟨#[110,101,105,116,104,101,114]⟩)
  k01 : w.cell? ⟨0, 1, none⟩ = some (.string ⟨#[115,101,99,111,110,100]⟩)
  k10 : w.cell? ⟨0, 2, none⟩ = some (.string ⟨#[102,105,114,115,116]⟩)
  k11 : w.cell? ⟨0, 3, none⟩ = some (.string ⟨#[98,111,116,104]⟩)
theorem Verds.below {w w' : World} {B : Nat} (h : Verds w) (hb : Below B w w') (hB : w.heap.size ≤ B) : Verds w' := by
  have hl : 0 < w.heap.size := by
    have h1 := h.k00
    rcases Nat.lt_or_ge 0 w.heap.size with hl | hl
    · exact hl
    · simp [World.cell?, Array.getElem?_eq_none hl] at h1
  have e := fun i => World.cell?_of_block (a := ⟨0, i, none⟩) (hb.block 0 (Nat.lt_of_lt_of_le hl hB))
  exact ⟨(e 0).trans h.k00, (e 1).trans h.k01, (e 2).trans h.k10, (e 3).trans h.k11⟩
theorem verds_global : Tryd.prog.globalNamed "loop.example/g03006/impl.verdicts" = some 0 := by kernel_rfl
theorem string_of_trodV {H : Type} {enc : TypeId × Value → H} {P : Program} {w : World} {base : Nat} {sp : Nat → Bool} {held : Bool} {fuel : Nat} {t : TypeId} {cs : List Value} {l : List UInt8} {p : List MemPlace}
    (ht : P.underlying t = some .string) (h : DataW.trod enc P w base sp held fuel t cs = some (.lit (.string l), p)) : cs = [.string ⟨l.toArray⟩] := by
  obtain ⟨b, h1, h2, _⟩ := DataW.trod_string ht h
  simp only [Prod.mk.injEq, DataW.lit.injEq, Lit.string.injEq] at h2
  rw [h1, h2.1]
/-- an array's elements, each read by its own. -/
theorem parts_of_array {H : Type} {enc : TypeId × Value → H} {P : Program} {w : World} {base : Nat} {sp : Nat → Bool} {held : Bool} {fuel : Nat} {t e : TypeId} {n m : Nat} {cs : List Value} {ds : List (DataW H)} {p : List MemPlace}
    (ht : P.underlying t = some (.array n e)) (hce : P.cellsOf e = m)
    (h : DataW.trod enc P w base sp held fuel t cs = some (.agg ds, p)) : ∀ i d, ds[i]? = some d → i < n → ∃ f q, DataW.trod enc P w base sp held f e ((cs.drop (i * m)).take m) = some (d, q) := by
  intro i d hd hi
  cases fuel with
  | zero => simp [DataW.trod] at h
  | succ fuel =>
    simp only [DataW.trod, ht, hce] at h
    split at h
    · obtain ⟨xs, hm, hx⟩ := Option.map_eq_some_iff.1 h
      have hxs : xs.map (·.1) = ds := by
        have := congrArg Prod.fst hx
        simpa using this
      obtain ⟨b, hb, hf⟩ := Lib.mapM_at hm i i (by simp [hi])
      have h2 : (xs.map (·.1))[i]? = some b.1 := by simp [hb]
      rw [hxs, hd] at h2
      injection h2 with h2
      exact ⟨fuel, b.2, by rw [h2]; exact hf⟩
    · cases h
theorem verds_of_laid {laid : List (String × DataW Unit)} {W : World} (hL : laidMetH Tryd.prog laid W)
    (e : (laid.filter fun x => x.1 == "loop.example/g03006/impl.verdicts") = [("loop.example/g03006/impl.verdicts", .agg [.agg [.lit (.string [110, 101, 105, 116, 104, 101, 114]), .lit (.string [115, 101, 99, 111, 110, 100])], .agg [.lit (.string [102, 105, 114, 115, 116]), .lit (.string [98, 111, 116, 104])]])]) : Verds W := by
  have h := hL.filter fun x => x.1 == "loop.example/g03006/impl.verdicts"
  rw [e, MakeChecks.laidMetH_plain _ _ _ (by rfl)] at h
  obtain ⟨ps, ⟨g', t', cs, fuel, p, q, hg', ht', hvar, hd, _, _⟩, _⟩ := h
  obtain rfl := Option.some.inj (verds_global.symm.trans hg')
  obtain rfl := Option.some.inj ((show (Tryd.prog.globals[0]?).map (·.type) = some 38 by kernel_rfl).symm.trans ht')
  have hc := fun i => World.var?_cell verds_global hvar i
  have get := fun i j (hi : i < 2) (hj : j < 2) (ds : List (DataW Unit)) (l : List UInt8) (h1 : ([.agg [.lit (.string [110, 101, 105, 116, 104, 101, 114]), .lit (.string [115, 101, 99, 111, 110, 100])], .agg [.lit (.string [102, 105, 114, 115, 116]), .lit (.string [98, 111, 116, 104])]] : List (DataW Unit))[i]? = some (.agg ds)) (h2 : ds[j]? = some (.lit (.string l))) => show cs.toList[i * 2 + j]? = some (Value.string ⟨l.toArray⟩) from by
    obtain ⟨f1, q1, e1⟩ := parts_of_array (m := 2) Tryd.underlying38 (by kernel_rfl) hd i _ h1 hi
    obtain ⟨f2, q2, e2⟩ := parts_of_array (m := 1) Tryd.underlying37 (by kernel_rfl) e1 j _ h2 hj
    have e3 := string_of_trodV Tryd.underlying9 e2
    have e4 := congrArg (·[0]?) e3
    simp only [List.getElem?_take, List.getElem?_drop, Nat.mul_one, Nat.add_zero] at e4
    rw [if_pos (by omega)] at e4
    rw [if_pos hj] at e4
    simpa [Nat.add_comm, Nat.add_assoc] using e4
  obtain ⟨l⟩ := cs
  simp only [List.getElem?_toArray] at get hc
  exact ⟨(hc 0).trans (get 0 0 (by decide) (by decide) _ _ rfl rfl), (hc 1).trans (get 0 1 (by decide) (by decide) _ _ rfl rfl), (hc 2).trans (get 1 0 (by decide) (by decide) _ _ rfl rfl), (hc 3).trans (get 1 1 (by decide) (by decide) _ _ rfl rfl)⟩
theorem impl_isLight (n : Int) (w : World) : Calls Tryd.prog 14 #[.int .i64 n] w fun e w' => e = .returned (.bool (inB n 0 2)) ∧ w = w' := by
  go_enter Tryd.func14, Tryd.ntmps14
  go_wp2_with fail
  refine (impl_InRange _ _ _ _).mono ?_
  rintro e w1 ⟨rfl, rfl⟩
  go_wp2
  go_ret
  exact ⟨rfl, rfl⟩
theorem impl_redNumber0 (w : World) : Calls Tryd.prog 15 #[.int .i64 0] w fun e w' => e = .returned (.int .i64 1) ∧ w = w' := by
  go_enter Tryd.func15, Tryd.ntmps15
  go_wp2
  go_ret
  exact ⟨rfl, rfl⟩
theorem impl_redNumber1 (n : Int) (w : World) (h : n ≠ 0) : Calls Tryd.prog 15 #[.int .i64 n] w fun e w' => e = .returned (.int .i64 0) ∧ w = w' := by
  have e1 : (n == 0) = false := by simpa using h
  go_enter Tryd.func15, Tryd.ntmps15
  go_wp2
  go_ret
  exact ⟨rfl, rfl⟩
set_option maxHeartbeats 2000000 in
theorem spec_Verdict (r s : Rep) (w : World) : Calls Tryd.prog 5 #[r.val, s.val] w fun e w' => e = .returned (.string (verdB r s)) ∧ Below w.heap.size w w' := by
  have HBAD := Lib.hid (@verdB_bad r s)
  have HGOOD := Lib.hid (@verdB_good r s)
  obtain ⟨wA, hwA⟩ : ∃ wA, wA = (w.alloc (.cells #[.int .i64 r.path, .int .i64 r.second, .int .i64 r.light, .int .i64 r.since, .int .i64 r.other] 25)).alloc (.cells #[.int .i64 s.path, .int .i64 s.second, .int .i64 s.light, .int .i64 s.since, .int .i64 s.other] 25) := ⟨_, rfl⟩
  obtain ⟨hk0, hk1, hsz, acc⟩ := two_blocks hwA
  have HB := Lib.hid acc
  clear hk0 hk1 acc
  obtain ⟨a, b, c, d, e'⟩ := r
  obtain ⟨a2, b2, c2, d2, e2⟩ := s
  simp only [Rep.val] at *
  by_cases hs : b = b2
  rotate_left
  · have HV := Lib.hid (HBAD.out (.inl hs))
    have e3 : (b != b2) = true := by simpa using hs
    have H1 : Hid (True) := Lib.hid trivial
    clear HBAD HGOOD hs
    subst hwA
    go_enter Tryd.func5, Tryd.ntmps5
    go_wp2
    go_ret
    exact ⟨by rw [HV.out]; rfl, HB.out⟩
  have e3 : (b != b2) = false := by simpa using hs
  cases h1 : inB c 0 2
  · have HV := Lib.hid (HBAD.out (.inr (.inl h1)))
    have H1 := Lib.hid h1
    have H2 := Lib.hid h1
    clear HBAD HGOOD hs h1
    subst hwA
    go_enter Tryd.func5, Tryd.ntmps5
    go_wp2_with (go_at_call 13; refine (spec_l1In _ _ _ _).mono ?_; rintro e w' ⟨rfl, rfl⟩; first | rw [H1.out] | rw [H2.out])
    go_ret
    exact ⟨by rw [HV.out]; rfl, HB.out⟩
  cases h2 : inB c2 0 2
  · have HV := Lib.hid (HBAD.out (.inr (.inr h2)))
    have H1 := Lib.hid h1
    have H2 := Lib.hid h2
    clear HBAD HGOOD hs h1 h2
    subst hwA
    go_enter Tryd.func5, Tryd.ntmps5
    go_wp2_with (go_at_call 13; refine (spec_l1In _ _ _ _).mono ?_; rintro e w' ⟨rfl, rfl⟩; first | rw [H1.out] | rw [H2.out])
    go_ret
    exact ⟨by rw [HV.out]; rfl, HB.out⟩
  have HG := Lib.hid (HGOOD.out hs h1 h2)
  have H1 := Lib.hid h1
  have H2 := Lib.hid h2
  clear HBAD HGOOD hs h1 h2
  by_cases hr : c = 0
  · by_cases hq : c2 = 0
    · skip
      have HV : Hid (verdB ⟨a, b, c, d, e'⟩ ⟨a2, b2, c2, d2, e2⟩ = ⟨#[98,111,116,104]⟩) := Lib.hid (by rw [HG.out, if_pos hr, if_pos hq])
      have f1 : (c != 0) = false := by simpa using hr
      have f2 : (c2 != 0) = false := by simpa using hq
      have f3 : (c == 0) = true := by simpa using hr
      have f4 : (c2 == 0) = true := by simpa using hq
      clear HG hr hq
      subst hwA
      go_enter Tryd.func5, Tryd.ntmps5
      go_wp2_with (go_at_call 13; refine (spec_l1In _ _ _ _).mono ?_; rintro e w' ⟨rfl, rfl⟩; first | rw [H1.out] | rw [H2.out])
      go_ret
      exact ⟨by rw [HV.out]; try rfl, HB.out⟩
    · skip
      have HV : Hid (verdB ⟨a, b, c, d, e'⟩ ⟨a2, b2, c2, d2, e2⟩ = ⟨#[102,105,114,115,116]⟩) := Lib.hid (by rw [HG.out, if_pos hr, if_neg hq])
      have f1 : (c != 0) = false := by simpa using hr
      have f2 : (c2 != 0) = true := by simpa using hq
      have f3 : (c == 0) = true := by simpa using hr
      have f4 : (c2 == 0) = false := by simpa using hq
      clear HG hr hq
      subst hwA
      go_enter Tryd.func5, Tryd.ntmps5
      go_wp2_with (go_at_call 13; refine (spec_l1In _ _ _ _).mono ?_; rintro e w' ⟨rfl, rfl⟩; first | rw [H1.out] | rw [H2.out])
      go_ret
      exact ⟨by rw [HV.out]; try rfl, HB.out⟩
  · by_cases hq : c2 = 0
    · skip
      have HV : Hid (verdB ⟨a, b, c, d, e'⟩ ⟨a2, b2, c2, d2, e2⟩ = ⟨#[115,101,99,111,110,100]⟩) := Lib.hid (by rw [HG.out, if_neg hr, if_pos hq])
      have f1 : (c != 0) = true := by simpa using hr
      have f2 : (c2 != 0) = false := by simpa using hq
      have f3 : (c == 0) = false := by simpa using hr
      have f4 : (c2 == 0) = true := by simpa using hq
      clear HG hr hq
      subst hwA
      go_enter Tryd.func5, Tryd.ntmps5
      go_wp2_with (go_at_call 13; refine (spec_l1In _ _ _ _).mono ?_; rintro e w' ⟨rfl, rfl⟩; first | rw [H1.out] | rw [H2.out])
      go_ret
      exact ⟨by rw [HV.out]; try rfl, HB.out⟩
    · skip
      have HV : Hid (verdB ⟨a, b, c, d, e'⟩ ⟨a2, b2, c2, d2, e2⟩ = ⟨#[110,101,105,116,104,101,114]⟩) := Lib.hid (by rw [HG.out, if_neg hr, if_neg hq])
      have f1 : (c != 0) = true := by simpa using hr
      have f2 : (c2 != 0) = true := by simpa using hq
      have f3 : (c == 0) = false := by simpa using hr
      have f4 : (c2 == 0) = false := by simpa using hq
      clear HG hr hq
      subst hwA
      go_enter Tryd.func5, Tryd.ntmps5
      go_wp2_with (go_at_call 13; refine (spec_l1In _ _ _ _).mono ?_; rintro e w' ⟨rfl, rfl⟩; first | rw [H1.out] | rw [H2.out])
      go_ret
      exact ⟨by rw [HV.out]; try rfl, HB.out⟩
set_option maxHeartbeats 2000000 in
theorem impl_Verdict (r s : Rep) (w : World) (hv : Verds w) : Calls Tryd.prog 7 #[r.val, s.val] w fun e w' => e = .returned (.string (verdB r s)) ∧ Below w.heap.size w w' := by
  have HBAD := Lib.hid (@verdB_bad r s)
  have HGOOD := Lib.hid (@verdB_good r s)
  obtain ⟨wA, hwA⟩ : ∃ wA, wA = (w.alloc (.cells #[.int .i64 r.path, .int .i64 r.second, .int .i64 r.light, .int .i64 r.since, .int .i64 r.other] 25)).alloc (.cells #[.int .i64 s.path, .int .i64 s.second, .int .i64 s.light, .int .i64 s.since, .int .i64 s.other] 25) := ⟨_, rfl⟩
  obtain ⟨hk0, hk1, hsz, acc⟩ := two_blocks hwA
  have hVA := hv.below acc (Nat.le_refl _)
  have HBL := Lib.hid acc
  have b0 : RepAt wA ⟨w.heap.size, 0, none⟩ r := rep_of_block hk0
  have b1 : RepAt wA ⟨w.heap.size + 1, 0, none⟩ s := rep_of_block hk1
  have lt0 : w.heap.size < wA.heap.size := by omega
  have lt1 : w.heap.size + 1 < wA.heap.size := by omega
  have y0 := fun y : GW wA => (rep_head (b0.below y.ok lt0)).2.2.1
  have y1 := fun y : GW wA => (rep_head (b1.below y.ok lt1)).2.2.1
  have hVY := fun y : GW wA => hVA.below y.ok (Nat.le_refl _)
  have HB := Lib.hid acc
  clear hk0 hk1 acc
  obtain ⟨a, b, c, d, e'⟩ := r
  obtain ⟨a2, b2, c2, d2, e2⟩ := s
  simp only [Rep.val] at *
  by_cases hs : b = b2
  rotate_left
  · have HV := Lib.hid (HBAD.out (.inl hs))
    have e3 : (b != b2) = true := by simpa using hs
    have H1 : Hid (True) := Lib.hid trivial
    clear HBAD HGOOD hs
    subst hwA
    go_enter Tryd.func7, Tryd.ntmps7
    go_wp2
    go_ret
    exact ⟨by rw [HV.out]; rfl, HB.out⟩
  have e3 : (b != b2) = false := by simpa using hs
  cases h1 : inB c 0 2
  · have HV := Lib.hid (HBAD.out (.inr (.inl h1)))
    have H1 := Lib.hid h1
    have H2 := Lib.hid h1
    clear HBAD HGOOD hs h1
    subst hwA
    go_enter Tryd.func7, Tryd.ntmps7
    go_wp2_with (go_at_call 14; refine (impl_isLight _ _).mono ?_; rintro e w' ⟨rfl, rfl⟩; first | rw [H1.out] | rw [H2.out])
    go_ret
    exact ⟨by rw [HV.out]; rfl, HB.out⟩
  cases h2 : inB c2 0 2
  · have HV := Lib.hid (HBAD.out (.inr (.inr h2)))
    have H1 := Lib.hid h1
    have H2 := Lib.hid h2
    clear HBAD HGOOD hs h1 h2
    subst hwA
    go_enter Tryd.func7, Tryd.ntmps7
    go_wp2_with (go_at_call 14; refine (impl_isLight _ _).mono ?_; rintro e w' ⟨rfl, rfl⟩; first | rw [H1.out] | rw [H2.out])
    go_ret
    exact ⟨by rw [HV.out]; rfl, HB.out⟩
  have HG := Lib.hid (HGOOD.out hs h1 h2)
  have H1 := Lib.hid h1
  have H2 := Lib.hid h2
  clear HBAD HGOOD hs h1 h2
  by_cases hr : c = 0
  · by_cases hq : c2 = 0
    · skip
      have HV : Hid (verdB ⟨a, b, c, d, e'⟩ ⟨a2, b2, c2, d2, e2⟩ = ⟨#[98,111,116,104]⟩) := Lib.hid (by rw [HG.out, if_pos hr, if_pos hq])
      have f1 : (c != 0) = false := by simpa using hr
      have f2 : (c2 != 0) = false := by simpa using hq
      have f3 : (c == 0) = true := by simpa using hr
      have f4 : (c2 == 0) = true := by simpa using hq
      have hn1 := fun y : GW wA => show Calls Tryd.prog 15 #[.int .i64 c] y.val _ from by rw [hr]; exact impl_redNumber0 y.val
      have hn2 := fun y : GW wA => show Calls Tryd.prog 15 #[.int .i64 c2] y.val _ from by rw [hq]; exact impl_redNumber0 y.val
      have hkk := fun y : GW wA => (hVY y).k11
      clear HG hr hq hVY hVA hv
      go_enter Tryd.func7, Tryd.ntmps7
      go_wp2_with (go_at_call 14; refine (impl_isLight _ _).mono ?_; rintro e w' ⟨rfl, rfl⟩; first | rw [H1.out] | rw [H2.out])
      try rw [← hwA]
      try clear hwA
      refine wp_region_grow (by kernel_rfl) (by kernel_rfl) ?_
      repeat (go_big_quiet_step (first | (go_at_call 15; first | with_reducible exact calls_gw_same _ (hn1 _) | with_reducible exact calls_gw_same _ (hn2 _))))
      refine wpQuiet_nil ?_
      intro x3
      have hb3 := x3.ok
      generalize x3.val = w3 at *
      go_wp2
      go_ret
      exact ⟨by rw [HV.out]; try rfl, HB.out.trans (hb3.mono HB.out.size)⟩
    · skip
      have HV : Hid (verdB ⟨a, b, c, d, e'⟩ ⟨a2, b2, c2, d2, e2⟩ = ⟨#[102,105,114,115,116]⟩) := Lib.hid (by rw [HG.out, if_pos hr, if_neg hq])
      have f1 : (c != 0) = false := by simpa using hr
      have f2 : (c2 != 0) = true := by simpa using hq
      have f3 : (c == 0) = true := by simpa using hr
      have f4 : (c2 == 0) = false := by simpa using hq
      have hn1 := fun y : GW wA => show Calls Tryd.prog 15 #[.int .i64 c] y.val _ from by rw [hr]; exact impl_redNumber0 y.val
      have hn2 := fun y : GW wA => impl_redNumber1 c2 y.val hq
      have hkk := fun y : GW wA => (hVY y).k10
      clear HG hr hq hVY hVA hv
      go_enter Tryd.func7, Tryd.ntmps7
      go_wp2_with (go_at_call 14; refine (impl_isLight _ _).mono ?_; rintro e w' ⟨rfl, rfl⟩; first | rw [H1.out] | rw [H2.out])
      try rw [← hwA]
      try clear hwA
      refine wp_region_grow (by kernel_rfl) (by kernel_rfl) ?_
      repeat (go_big_quiet_step (first | (go_at_call 15; first | with_reducible exact calls_gw_same _ (hn1 _) | with_reducible exact calls_gw_same _ (hn2 _))))
      refine wpQuiet_nil ?_
      intro x3
      have hb3 := x3.ok
      generalize x3.val = w3 at *
      go_wp2
      go_ret
      exact ⟨by rw [HV.out]; try rfl, HB.out.trans (hb3.mono HB.out.size)⟩
  · by_cases hq : c2 = 0
    · skip
      have HV : Hid (verdB ⟨a, b, c, d, e'⟩ ⟨a2, b2, c2, d2, e2⟩ = ⟨#[115,101,99,111,110,100]⟩) := Lib.hid (by rw [HG.out, if_neg hr, if_pos hq])
      have f1 : (c != 0) = true := by simpa using hr
      have f2 : (c2 != 0) = false := by simpa using hq
      have f3 : (c == 0) = false := by simpa using hr
      have f4 : (c2 == 0) = true := by simpa using hq
      have hn1 := fun y : GW wA => impl_redNumber1 c y.val hr
      have hn2 := fun y : GW wA => show Calls Tryd.prog 15 #[.int .i64 c2] y.val _ from by rw [hq]; exact impl_redNumber0 y.val
      have hkk := fun y : GW wA => (hVY y).k01
      clear HG hr hq hVY hVA hv
      go_enter Tryd.func7, Tryd.ntmps7
      go_wp2_with (go_at_call 14; refine (impl_isLight _ _).mono ?_; rintro e w' ⟨rfl, rfl⟩; first | rw [H1.out] | rw [H2.out])
      try rw [← hwA]
      try clear hwA
      refine wp_region_grow (by kernel_rfl) (by kernel_rfl) ?_
      repeat (go_big_quiet_step (first | (go_at_call 15; first | with_reducible exact calls_gw_same _ (hn1 _) | with_reducible exact calls_gw_same _ (hn2 _))))
      refine wpQuiet_nil ?_
      intro x3
      have hb3 := x3.ok
      generalize x3.val = w3 at *
      go_wp2
      go_ret
      exact ⟨by rw [HV.out]; try rfl, HB.out.trans (hb3.mono HB.out.size)⟩
    · skip
      have HV : Hid (verdB ⟨a, b, c, d, e'⟩ ⟨a2, b2, c2, d2, e2⟩ = ⟨#[110,101,105,116,104,101,114]⟩) := Lib.hid (by rw [HG.out, if_neg hr, if_neg hq])
      have f1 : (c != 0) = true := by simpa using hr
      have f2 : (c2 != 0) = true := by simpa using hq
      have f3 : (c == 0) = false := by simpa using hr
      have f4 : (c2 == 0) = false := by simpa using hq
      have hn1 := fun y : GW wA => impl_redNumber1 c y.val hr
      have hn2 := fun y : GW wA => impl_redNumber1 c2 y.val hq
      have hkk := fun y : GW wA => (hVY y).k00
      clear HG hr hq hVY hVA hv
      go_enter Tryd.func7, Tryd.ntmps7
      go_wp2_with (go_at_call 14; refine (impl_isLight _ _).mono ?_; rintro e w' ⟨rfl, rfl⟩; first | rw [H1.out] | rw [H2.out])
      try rw [← hwA]
      try clear hwA
      refine wp_region_grow (by kernel_rfl) (by kernel_rfl) ?_
      repeat (go_big_quiet_step (first | (go_at_call 15; first | with_reducible exact calls_gw_same _ (hn1 _) | with_reducible exact calls_gw_same _ (hn2 _))))
      refine wpQuiet_nil ?_
      intro x3
      have hb3 := x3.ok
      generalize x3.val = w3 at *
      go_wp2
      go_ret
      exact ⟨by rw [HV.out]; try rfl, HB.out.trans (hb3.mono HB.out.size)⟩
end Go.Proofs.YtdgpodopkfnpeabDoor
