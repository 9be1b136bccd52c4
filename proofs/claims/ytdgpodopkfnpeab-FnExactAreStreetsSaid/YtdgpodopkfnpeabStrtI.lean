/- Chapter 20: AreStreets of the program. -/
import Derived.Test.YtdgpodopkfnpeabStrt
import Derived.Test.YtdgpodopkfnpeabGrow
import Derived.Deep.RegionHeld3
namespace Go.Proofs.Ytdgpodopkfnpeab
open Go.RowKit
set_option linter.unusedVariables false

theorem SttsAt.take {w : World} {B : Nat} {A : Option Addr} {n : Nat} {zs : List Stt} (h : SttsAt w B A n zs) {k : Nat} (hk : k ≤ n) : SttsAt w B A k (zs.take k) := by
  obtain ⟨hl, hc0, hc⟩ := h
  refine ⟨by rw [List.length_take]; omega, by rw [sttcells_length, List.length_take]; congr 1; omega, fun h0 => ?_⟩
  obtain ⟨ad, e, hb, hc⟩ := hc (by omega)
  refine ⟨ad, e, hb, fun j u hu => hc j u ?_⟩
  have e2 : sttcells zs = sttcells (zs.take k) ++ sttcells (zs.drop k) := by unfold sttcells; rw [← List.flatMap_append, List.take_append_drop]
  rw [e2, List.getElem?_append_left (List.getElem?_eq_some_iff.1 hu).1]
  exact hu
theorem impl_isCrossingS (n : Int) (w : World) : Calls Try.prog 87 #[.int .i64 n] w fun e w' => e = .returned (.bool (inB n 1 8)) ∧ w = w' := by
  go_enter Try.func87, Try.ntmps87
  go_wp2_with fail
  refine (impl_InRange _ _ _ _).mono ?_
  rintro e w1 ⟨rfl, rfl⟩
  go_wp2
  go_ret
  exact ⟨rfl, rfl⟩
set_option maxHeartbeats 1000000 in
theorem impl_sttValid (x : Stt) (w : World) : Calls Try.prog 72 #[x.val] w fun e w' => e = .returned (.bool (stOk x)) ∧ Below w.heap.size w w' := by
  have HB := Lib.hid ((Below.refl w.heap.size w).alloc (Nat.le_refl _) (.cells #[.int .i64 x.frm, .int .i64 x.to, .int .i64 x.secs] 101))
  have HF1 := Lib.hid (stOk1 (x := x))
  have HF2 := Lib.hid (stOk2 (x := x))
  have HF3 := Lib.hid (stOk3 (x := x))
  have HF4 := Lib.hid (stOk4 (x := x))
  have HF5 := Lib.hid (stOk5 (x := x))
  generalize stOk x = v at *
  obtain ⟨a, b, s⟩ := x
  simp only [Stt.val] at *
  cases h1 : inB a 1 8
  · have HR := Lib.hid (HF1.out h1)
    have H1 := Lib.hid h1
    clear h1 HF1 HF2 HF3 HF4 HF5
    go_enter Try.func72, Try.ntmps72
    go_wp2_with (go_at_call 87; refine (impl_isCrossingS _ _).mono ?_; rintro e w' ⟨rfl, rfl⟩; rw [H1.out])
    go_ret
    exact ⟨by rw [HR.out]; rfl, HB.out⟩
  cases h2 : inB b 1 8
  · have HR := Lib.hid (HF2.out h2)
    have H1 := Lib.hid h1
    have H2 := Lib.hid h2
    clear h1 h2 HF1 HF2 HF3 HF4 HF5
    go_enter Try.func72, Try.ntmps72
    go_wp2_with (go_at_call 87; refine (impl_isCrossingS _ _).mono ?_; rintro e w' ⟨rfl, rfl⟩; first | rw [H1.out] | rw [H2.out])
    go_ret
    exact ⟨by rw [HR.out]; rfl, HB.out⟩
  by_cases h3 : a = b
  · have HR := Lib.hid (HF3.out h3)
    have e3 : (a != b) = false := by simpa using h3
    have H1 := Lib.hid h1
    have H2 := Lib.hid h2
    clear h1 h2 h3 HF1 HF2 HF3 HF4 HF5
    go_enter Try.func72, Try.ntmps72
    go_wp2_with (go_at_call 87; refine (impl_isCrossingS _ _).mono ?_; rintro e w' ⟨rfl, rfl⟩; first | rw [H1.out] | rw [H2.out])
    go_ret
    exact ⟨by rw [HR.out]; rfl, HB.out⟩
  have e3 : (a != b) = true := by simpa using h3
  cases h4 : inB s 1 300
  · have HR := Lib.hid (HF4.out h4)
    have H1 := Lib.hid h1
    have H2 := Lib.hid h2
    have H4 := Lib.hid h4
    clear h1 h2 h3 h4 HF1 HF2 HF3 HF4 HF5
    go_enter Try.func72, Try.ntmps72
    go_wp2_with (first | (go_at_call 87; refine (impl_isCrossingS _ _).mono ?_; rintro e w' ⟨rfl, rfl⟩; first | rw [H1.out] | rw [H2.out]) | (go_at_call 80; refine (impl_InRange _ _ _ _).mono ?_; rintro e w' ⟨rfl, rfl⟩; rw [H4.out]))
    go_ret
    exact ⟨by rw [HR.out]; rfl, HB.out⟩
  · have HR := Lib.hid (HF5.out h1 h2 h3 h4)
    have H1 := Lib.hid h1
    have H2 := Lib.hid h2
    have H4 := Lib.hid h4
    clear h1 h2 h3 h4 HF1 HF2 HF3 HF4 HF5
    go_enter Try.func72, Try.ntmps72
    go_wp2_with (first | (go_at_call 87; refine (impl_isCrossingS _ _).mono ?_; rintro e w' ⟨rfl, rfl⟩; first | rw [H1.out] | rw [H2.out]) | (go_at_call 80; refine (impl_InRange _ _ _ _).mono ?_; rintro e w' ⟨rfl, rfl⟩; rw [H4.out]))
    go_ret
    exact ⟨by rw [HR.out]; rfl, HB.out⟩
theorem impl_isBeside (x y : Stt) (w : World) : Calls Try.prog 74 #[x.val, y.val] w fun e w' => e = .returned (.bool (besT y x)) ∧ Below w.heap.size w w' := by
  obtain ⟨a, b, s⟩ := x
  obtain ⟨a2, b2, s2⟩ := y
  simp only [Stt.val, besT]
  have HB := Lib.hid (((Below.refl w.heap.size w).alloc (Nat.le_refl _) (.cells #[.int .i64 a, .int .i64 b, .int .i64 s] 101)).alloc (by simp) (.cells #[.int .i64 a2, .int .i64 b2, .int .i64 s2] 101))
  by_cases h1 : a = a2
  · subst h1
    by_cases h2 : b = b2
    · subst h2
      go_enter Try.func74, Try.ntmps74
      go_wp2
      go_ret
      exact ⟨by simp, HB.out⟩
    · have e2 : (b == b2) = false := by simpa using h2
      go_enter Try.func74, Try.ntmps74
      go_wp2
      go_ret
      exact ⟨by simp; exact fun e => h2 e.symm, HB.out⟩
  · have e1 : (a == a2) = false := by simpa using h1
    go_enter Try.func74, Try.ntmps74
    go_wp2
    go_ret
    exact ⟨by rw [decide_eq_false (fun e => h1 e.symm)]; rfl, HB.out⟩
set_option maxHeartbeats 1000000 in
theorem idx_beside (x : Stt) (A : Option Addr) (n c B : Nat) (ds : List Stt) (w : World) (h : SttsAt w B A n ds) (hB : B ≤ w.heap.size) (hn : n ≤ 4294967296) :
    Calls Try.prog 111 #[.slice A n c, .func (.func 74) #[x.val] #[]] w fun e w' => ∃ r : Int, e = .returned (.int .i64 r) ∧ decide (r ≥ 0) = ds.any (fun y => besT y x) ∧ Below w.heap.size w w' := by
  have hl := h.1
  have HL := Lib.hid hl
  clear hl
  go_enter Try.func111, Try.ntmps111
  go_wp2
  go_loopw [8] (fun i wr => ∃ k : Nat, k ≤ n ∧ i = .int .i64 k ∧ (ds.take k).any (fun y => besT y x) = false ∧ Below w.heap.size w wr) (fun i _ => n - (intOf i).toNat)
  case atStart => exact ⟨0, Nat.zero_le _, rfl, rfl, Below.refl _ _⟩
  case round =>
    obtain ⟨k, hk, rfl, hno, hbl⟩ := hrel
    have hsz := hbl.size
    by_cases hlt : k < n
    · obtain ⟨ad, p, rfl, hab, hp, hq⟩ := h.at hlt
      obtain ⟨c0, c1, c2⟩ := hq.below hbl (by omega)
      have HS := Lib.hid (show (ds.take (k + 1)).any (fun y => besT y x) = besT p x by rw [List.take_add_one, hp, List.any_append, hno]; simp)
      have HP := Lib.hid (show besT p x = true → ds.any (fun y => besT y x) = true by intro e; exact List.any_eq_true.2 ⟨p, List.mem_of_getElem? hp, e⟩)
      have hv : p.val = .agg #[.int .i64 p.frm, .int .i64 p.to, .int .i64 p.secs] := rfl
      have hcc := impl_isBeside x p wr
      rw [hv] at hcc
      have HB := Lib.hid hbl
      clear hno hq hbl hv hp
      go_wp2_with fail
      refine hcc.mono ?_
      rintro e w1 ⟨rfl, hb⟩
      have HB1 := Lib.hid (HB.out.trans (hb.mono HB.out.size))
      clear hb hcc
      generalize besT p x = v at HS HP ⊢
      cases v
      · go_wp2
        go_roundw
        case rel => exact ⟨k + 1, by omega, by go_num, HS.out, HB1.out⟩
        case measure => simp [intOf]; omega
      · go_wp2
        go_ret
        exact ⟨_, rfl, by rw [HP.out (by trivial), decide_eq_true (by omega)], HB1.out⟩
    · obtain rfl : k = n := by omega
      have HR : Hid (ds.any (fun y => besT y x) = false) := Lib.hid (by rw [List.take_of_length_le (by have := HL.out; omega)] at hno; exact hno)
      clear hno
      go_wp2
      go_ret
      exact ⟨_, rfl, by rw [HR.out]; rfl, hbl⟩
theorem has_beside (x : Stt) (A : Option Addr) (n c B : Nat) (ds : List Stt) (w : World) (h : SttsAt w B A n ds) (hB : B ≤ w.heap.size) (hn : n ≤ 4294967296) :
    Calls Try.prog 73 #[.slice A n c, .func (.func 74) #[x.val] #[]] w fun e w' => e = .returned (.bool (ds.any (fun y => besT y x))) ∧ Below w.heap.size w w' := by
  have hcc := idx_beside x A n c B ds w h hB hn
  go_enter Try.func73, Try.ntmps73
  go_wp2_with fail
  refine hcc.mono ?_
  rintro e w1 ⟨r, rfl, hr, hb⟩
  have HR := Lib.hid hr
  clear hr hcc
  go_wp2
  go_ret
  exact ⟨by rw [← HR.out]; rfl, hb⟩
set_option maxHeartbeats 4000000 in
theorem impl_AreStreets (A : Option Addr) (n c B : Nat) (zs : List Stt) (w : World) (h : SttsAt w B A n zs) (hB : B ≤ w.heap.size) (hn : n ≤ 4294967296) (hnc : n ≤ c) :
    Calls Try.prog 26 #[.slice A n c] w fun e w' => e = .returned (.bool (areS zs)) ∧ Below w.heap.size w w' := by
  have hl := h.1
  by_cases h16 : 16 < n
  · have HR := Lib.hid (areS_long (zs := zs) (by omega))
    have e1 : (n : Int) > 16 := by omega
    go_enter Try.func26, Try.ntmps26
    go_wp2
    go_ret
    exact ⟨by rw [HR.out]; rfl, Below.refl _ _⟩
  have e16 : ¬ ((n : Int) > 16) := by omega
  have HEND : Hid ((∀ i, i < n → goodS zs i = true) → areS zs = true) := Lib.hid (fun hg => by rw [areS_end (fun i hi => hg i (by omega)), hl, decide_eq_true (by omega)])
  have HNO : Hid (∀ i, i < n → goodS zs i = false → areS zs = false) := Lib.hid (fun i hi hg => areS_no (by omega) hg)
  clear hl
  go_enter Try.func26, Try.ntmps26
  go_wp2
  go_loopw [10] (fun i wr => ∃ k : Nat, k ≤ n ∧ i = .int .i64 k ∧ (∀ j, j < k → goodS zs j = true) ∧ Below w.heap.size w wr) (fun i _ => n - (intOf i).toNat)
  case atStart => exact ⟨0, Nat.zero_le _, rfl, fun j hj => absurd hj (by omega), Below.refl _ _⟩
  case round =>
    obtain ⟨k, hk, rfl, hgo, hbl⟩ := hrel
    have hsz := hbl.size
    have HG := Lib.hid hgo
    clear hgo
    by_cases hlt : k < n
    · have htk := h.take (k := k) (by omega)
      obtain ⟨ad, x, rfl, hab, hx, hq⟩ := h.at hlt
      obtain ⟨c0, c1, c2⟩ := hq.below hbl (by omega)
      have i1 : (0 : Int) ≤ (k : Int) := by omega
      have i2 : (k : Int) < (n : Int) := by omega
      have i3 : (k : Int) ≤ (c : Int) := by omega
      obtain ⟨wA, hwA⟩ : ∃ wA, wA = wr.alloc (.cells #[.int .i64 x.frm, .int .i64 x.to, .int .i64 x.secs] 101) := ⟨_, rfl⟩
      obtain ⟨hk0, hszA, hBA⟩ := one_block hwA
      have bx : SttAt wA ⟨wr.heap.size, 0, none⟩ x := stt_of_block hk0
      have ltx : wr.heap.size < wA.heap.size := by omega
      have acc := hbl.trans (hBA.mono hsz)
      obtain ⟨x0, x1, x2⟩ := stt_head bx
      have htA : SttsAt wA B (some ad) k (zs.take k) := htk.below (acc.mono hB)
      have HX := Lib.hid hx
      have HA : Hid (stOk x = false → areS zs = false) := Lib.hid (fun e => HNO.out k hlt (goodS_bad HX.out e))
      have HO := Lib.hid (goodS_ok HX.out)
      have HNK := Lib.hid (HNO.out k hlt)
      have hcv := fun w => impl_sttValid x w
      have hch := fun w' (hb : Below wA.heap.size wA w') => has_beside x (some ad) k c B (zs.take k) w' (htA.below (hb.mono (by have := acc.size; omega))) (by have := acc.size; have := hb.size; omega) (by omega)
      generalize hso : stOk x = v at *
      generalize hbe : ((zs.take k).any fun y => besT y x) = u at *
      simp only [Stt.val] at hcv hch
      clear hk0 hBA hx hq htk htA
      have accA := Below.refl wA.heap.size wA
      try simp only at x0 x1 x2
      cases v
      · have HR := Lib.hid (HA.out rfl)
        clear HO HA HNK
        have y0 := fun y : GW wA => (stt_head (bx.below y.ok ltx)).1
        have y1 := fun y : GW wA => (stt_head (bx.below y.ok ltx)).2.1
        have y2 := fun y : GW wA => (stt_head (bx.below y.ok ltx)).2.2
        have hcv' := fun y : GW wA => hcv y.val
        clear x0 x1 x2
        go_wp2
        rw [← hwA]
        clear hwA
        refine wp_region_grow (by kernel_rfl) (by kernel_rfl) ?_
        repeat (go_big_quiet_step (first | (go_at_call 72; exact calls_gw _ (hcv' _))))
        refine wpQuiet_nil ?_
        intro x3
        have hb3 := x3.ok
        generalize x3.val = w3 at *
        go_wp2
        go_ret
        exact ⟨by rw [HR.out]; rfl, acc.trans (hb3.mono acc.size)⟩
      · have HO2 := Lib.hid (HO.out rfl)
        clear HO HA
        cases u
        · have HG2 : Hid (∀ j, j < k + 1 → goodS zs j = true) := Lib.hid (fun j hj => by
            by_cases e : j = k
            · subst e; exact HO2.out
            · exact HG.out j (by omega))
          clear HO2 HNK HG
          go_wp2
          rw [← hwA]
          clear hwA
          go_region_held3 (fun W' => W'.cell? ⟨wr.heap.size, 0, none⟩ = some (.int .i64 x.frm) ∧ W'.cell? ⟨wr.heap.size, 1, none⟩ = some (.int .i64 x.to) ∧ W'.cell? ⟨wr.heap.size, 2, none⟩ = some (.int .i64 x.secs)) (first | exact ⟨x0, x1, x2⟩ | fail "keep")
            (first
              | (go_at_call 72; refine (hcv _).mono ?_; rintro e w1 ⟨rfl, hb⟩; (first | replace hb := below_undrew hb | skip); clear x0 x1 x2; replace bx := bx.below hb ltx; replace ltx := Nat.lt_of_lt_of_le ltx hb.size; obtain ⟨x0, x1, x2⟩ := stt_head bx; (try simp only at x0 x1 x2); replace acc := acc.trans (hb.mono acc.size); replace accA := accA.trans (hb.mono accA.size); clear hb)
              | (go_at_call 73; refine (hch _ accA).mono ?_; rintro e w1 ⟨rfl, hb⟩; (first | replace hb := below_undrew hb | skip); clear x0 x1 x2; replace bx := bx.below hb ltx; replace ltx := Nat.lt_of_lt_of_le ltx hb.size; obtain ⟨x0, x1, x2⟩ := stt_head bx; (try simp only at x0 x1 x2); replace acc := acc.trans (hb.mono acc.size); replace accA := accA.trans (hb.mono accA.size); clear hb))
          go_wp2
          go_roundw
          case rel => exact ⟨k + 1, by omega, by go_num, HG2.out, acc⟩
          case measure => simp [intOf]; omega
        · have HR := Lib.hid (HNK.out HO2.out)
          clear HO2 HNK HG
          go_wp2
          rw [← hwA]
          clear hwA
          go_region_held3 (fun W' => W'.cell? ⟨wr.heap.size, 0, none⟩ = some (.int .i64 x.frm) ∧ W'.cell? ⟨wr.heap.size, 1, none⟩ = some (.int .i64 x.to) ∧ W'.cell? ⟨wr.heap.size, 2, none⟩ = some (.int .i64 x.secs)) (first | exact ⟨x0, x1, x2⟩ | fail "keep")
            (first
              | (go_at_call 72; refine (hcv _).mono ?_; rintro e w1 ⟨rfl, hb⟩; (first | replace hb := below_undrew hb | skip); clear x0 x1 x2; replace bx := bx.below hb ltx; replace ltx := Nat.lt_of_lt_of_le ltx hb.size; obtain ⟨x0, x1, x2⟩ := stt_head bx; (try simp only at x0 x1 x2); replace acc := acc.trans (hb.mono acc.size); replace accA := accA.trans (hb.mono accA.size); clear hb)
              | (go_at_call 73; refine (hch _ accA).mono ?_; rintro e w1 ⟨rfl, hb⟩; (first | replace hb := below_undrew hb | skip); clear x0 x1 x2; replace bx := bx.below hb ltx; replace ltx := Nat.lt_of_lt_of_le ltx hb.size; obtain ⟨x0, x1, x2⟩ := stt_head bx; (try simp only at x0 x1 x2); replace acc := acc.trans (hb.mono acc.size); replace accA := accA.trans (hb.mono accA.size); clear hb))
          go_wp2
          go_ret
          exact ⟨by rw [HR.out]; rfl, acc⟩
    · obtain rfl : k = n := by omega
      have HR := Lib.hid (HEND.out HG.out)
      go_wp2
      go_ret
      exact ⟨by rw [HR.out]; rfl, hbl⟩
end Go.Proofs.Ytdgpodopkfnpeab
