/- Texts of one chain, put together: ClrS PthM Lst CtlM Tck FillI TogI StsI ClrT ClrD IdxN PopI IdsI Mach MachC Tick MachE TckI Cut SirT CutI CtlN Equal AskM CtfM SirI Chg CtfI Mkc. -/
import Derived.Lib.LaidTab
import Derived.Lib.SmallJoins
import Derived.BigQuiet
import Derived.Deep.QuietTactic
import Derived.Deep.RegionHeld3
import Derived.RangeFuncBox
import Derived.Maps.AppendAt
import Derived.RangeFuncFrom
import Derived.Test.YtmcoeafkbpeelaaDoorBndlC
set_option linter.unusedSimpArgs false
/- ClearBetween: the model. -/
namespace Go.Proofs.YtmcoeafkbpeelaaDoor
open Go.RowKit
set_option linter.unusedVariables false

theorem tog_find {ps : List Pth} {ids : List Int} (h : isTog ps ids = true) {x : Int} (hx : x ∈ ids) : ∃ j, findK x ps = some j := by
  obtain ⟨ha, m, hm, e, _, _⟩ := tog_stage h
  rw [e] at hx
  obtain ⟨j, h1, rfl⟩ := (idsM_mem (arePs_len12 ha) hm x).1 hx
  exact ⟨j, findK_of ha (bit_in hm h1)⟩
theorem clos_sub {a b : List Int} {k : Nat} (hk : k < (closL a b).length) : (closL a b).getD k 0 ∈ a := by
  have : (closL a b).getD k 0 ∈ closL a b := by rw [List.getD_eq_getElem?_getD, List.getElem?_eq_getElem hk]; exact List.getElem_mem hk
  exact (List.mem_filter.1 this).1
theorem clos_path {ps : List Pth} {a b : List Int} (h : isTog ps a = true) {k : Nat} (hk : k < (closL a b).length) : ∃ j p, findK ((closL a b).getD k 0) ps = some j ∧ ps[j]? = some p ∧ idP ps ((closL a b).getD k 0) = p := by
  obtain ⟨j, hj⟩ := tog_find h (clos_sub hk)
  obtain ⟨p, hp, _⟩ := findK_at hj
  exact ⟨j, p, hj, hp, by unfold idP; rw [hj]; exact pAt_some hp⟩
theorem fI_of {ps : List Pth} {id : Int} {k : Nat} (h : findK id ps = some k) : findI id ps = (k : Int) := by unfold findI; rw [h]
set_option maxHeartbeats 4000000 in
set_option maxRecDepth 100000 in
theorem spec_ClearBetween (A : Option Addr) (n c B : Nat) (ps : List Pth) (A2 : Option Addr) (n2 c2 B2 : Nat) (za : List Int) (A3 : Option Addr) (n3 c3 B3 : Nat) (zb : List Int) (w : World) (h : PthsAt w B A n ps) (hB : B ≤ w.heap.size) (hn : n ≤ 4294967296) (h2 : IntsAt .i64 w B2 A2 n2 za) (hB2 : B2 ≤ w.heap.size) (hn2 : n2 ≤ 4294967296) (h3 : IntsAt .i64 w B3 A3 n3 zb) (hB3 : B3 ≤ w.heap.size) (hn3 : n3 ≤ 4294967296) :
    Calls Tryd.prog 26 #[.slice A n c, .slice A2 n2 c2, .slice A3 n3 c3] w fun e w' => e = .returned (.int .i64 (clrB ps za zb)) ∧ Below w.heap.size w w' := by
  have hl := h.1
  have hl2 := h2.1
  have hl3 := h3.1
  have hxl : (closL za zb).length ≤ za.length := List.length_filter_le _ _
  have hyl : (closL zb za).length ≤ zb.length := List.length_filter_le _ _
  have HOFF := Lib.hid (fun hh => clrB_off (ps := ps) (a := za) (b := zb) hh)
  have HON := Lib.hid (fun q1 q2 => clrB_on (ps := ps) (a := za) (b := zb) q1 q2)
  have HXP := Lib.hid (fun (q : isTog ps za = true) k hk => clos_path (b := zb) (k := k) q hk)
  have HYP := Lib.hid (fun (q : isTog ps zb = true) k hk => clos_path (b := za) (k := k) q hk)
  have HCA := Lib.hid (spec_Closes A2 n2 c2 B2 za A3 n3 c3 B3 zb w h2 h3 hB2 hB3 hn2 hn3)
  have HTA := Lib.hid (fun x (hx : Below w.heap.size w x) => spec_IsTogether A n c B ps A2 n2 c2 B2 za x (h.below (hx.mono hB)) (h2.laid hB2 hx) (Nat.le_trans hB hx.size) (Nat.le_trans hB2 hx.size) hn hn2)
  have HTB := Lib.hid (fun x (hx : Below w.heap.size w x) => spec_IsTogether A n c B ps A3 n3 c3 B3 zb x (h.below (hx.mono hB)) (h3.laid hB3 hx) (Nat.le_trans hB hx.size) (Nat.le_trans hB3 hx.size) hn hn3)
  have HSS := Lib.hid (fun (ys : List Int) (p : Pth) (m : Nat) (hm : m < ys.length) => hold_succ (ps := ps) (p := p) (ys := ys) (k := m) hm)
  have HCS : Hid (∀ xs ys k, clrTo ps xs ys (k + 1) = clrIn (clrTo ps xs ys k) (idP ps (xs.getD k 0)) (holdTo ps (idP ps (xs.getD k 0)) ys ys.length)) := Lib.hid (fun _ _ _ => rfl)
  go_enter Tryd.func26, Tryd.ntmps26
  go_wp2_with fail
  refine HCA.out.mono ?_
  rintro e w1 ⟨v1, rfl, ho1, hb1⟩
  have HCB := Lib.hid (spec_Closes A3 n3 c3 B3 zb A2 n2 c2 B2 za w1 (h3.laid hB3 hb1) (h2.laid hB2 hb1) (Nat.le_trans hB3 hb1.size) (Nat.le_trans hB2 hb1.size) hn3 hn2)
  have HB1 := Lib.hid hb1
  clear hb1 HCA
  generalize closL za zb = X at *
  generalize closL zb za = Y at *
  go_wp2_with fail
  refine HCB.out.mono ?_
  rintro e w2 ⟨v2, rfl, ho2, hb2⟩
  have ho1' := ho1.below hb2
  obtain ⟨A4, c4, rfl⟩ := ho1'.sliced
  obtain ⟨A5, c5, rfl⟩ := ho2.sliced
  have HB2 := Lib.hid (HB1.out.trans (hb2.mono HB1.out.size))
  have hX := ho1'.ints
  have hY := ho2.ints
  clear hb2 ho1 ho2 ho1' HCB
  have HP := Lib.hid h
  go_wp2
  go_loopw [7, 10] (fun x i wr => ∃ (k : Nat) (q : Int), k ≤ X.length ∧ i = .int .i64 k ∧ x = .int .i64 q ∧ q = clrTo ps X Y k ∧ (0 < k → isTog ps za = true ∧ isTog ps zb = true) ∧ Below w2.heap.size w2 wr) (fun _ i _ => X.length - (intOf i).toNat)
  case atStart => exact ⟨0, 0, Nat.zero_le _, rfl, rfl, rfl, fun hh => absurd hh (by omega), Below.refl _ _⟩
  case round =>
    obtain ⟨k, q, hk, rfl, rfl, hq, hgo, hbl⟩ := hrel
    have hsz := hbl.size
    have HG := Lib.hid hgo
    have HQ := Lib.hid hq
    have HBW := Lib.hid (HB2.out.trans (hbl.mono HB2.out.size))
    clear hgo hq
    by_cases hlt : k < X.length
    · go_wp2_with fail
      refine (HTA.out wr HBW.out).mono ?_
      rintro e w3 ⟨rfl, hb3⟩
      have HB3 := Lib.hid (HBW.out.trans (hb3.mono HBW.out.size))
      have HL3 := Lib.hid (hbl.trans (hb3.mono hsz))
      clear hb3
      cases hta : isTog ps za
      · have hk0 : k = 0 := by
          by_cases e : 0 < k
          · have := (HG.out e).1; rw [hta] at this; cases this
          · omega
        have HR : Hid (clrB ps za zb = q) := Lib.hid (by rw [HOFF.out (by rw [hta]; rfl), HQ.out, hk0]; rfl)
        clear hta hk0
        go_wp2
        go_ret
        exact ⟨by rw [HR.out]; try rfl, HB3.out⟩
      have HA := Lib.hid hta
      clear hta
      go_wp2_with fail
      refine (HTB.out w3 HB3.out).mono ?_
      rintro e w4 ⟨rfl, hb4⟩
      have HB4 := Lib.hid (HB3.out.trans (hb4.mono HB3.out.size))
      have HL4 := Lib.hid (HL3.out.trans (hb4.mono HL3.out.size))
      clear hb4
      cases htb : isTog ps zb
      · have hk0 : k = 0 := by
          by_cases e : 0 < k
          · have := (HG.out e).2; rw [htb] at this; cases this
          · omega
        have HR : Hid (clrB ps za zb = q) := Lib.hid (by rw [HOFF.out (by rw [htb, Bool.and_false]), HQ.out, hk0]; rfl)
        clear htb hk0
        go_wp2
        go_ret
        exact ⟨by rw [HR.out]; try rfl, HB4.out⟩
      have HTB2 := Lib.hid htb
      clear htb hbl
      obtain ⟨j, p, hj, hp, hip⟩ := HXP.out HA.out k hlt
      have HJ := Lib.hid (fI_of hj)
      have HPJ := Lib.hid hp
      have HIP := Lib.hid hip
      have hjl : j < n := by have := (List.getElem?_eq_some_iff.1 hp).1; omega
      have HSK : Hid (clrTo ps X Y (k + 1) = clrIn q p (holdTo ps p Y Y.length)) := Lib.hid (by rw [HCS.out, HIP.out, HQ.out])
      have HZK : Hid (q = clrIn q p (holdTo ps p Y 0)) := Lib.hid (by rw [hold_zero]; rfl)
      clear hj hp hip
      go_wp2
      go_loopw [7, 11] (fun x i wr => ∃ (m : Nat) (t : Int), m ≤ Y.length ∧ i = .int .i64 m ∧ x = .int .i64 t ∧ t = clrIn q p (holdTo ps p Y m) ∧ Below w2.heap.size w2 wr) (fun _ i _ => Y.length - (intOf i).toNat)
      case atStart => exact ⟨0, q, Nat.zero_le _, rfl, rfl, HZK.out, HL4.out⟩
      case round =>
        clear HL4 HB4 HL3 HB3 HBW hsz
        obtain ⟨m, t, hm, rfl, rfl, ht, hbl⟩ := hrel
        have hsz := hbl.size
        have HT := Lib.hid ht
        clear ht
        have HBW := Lib.hid (HB2.out.trans (hbl.mono HB2.out.size))
        by_cases hlt2 : m < Y.length
        · obtain ⟨j2, p2, hj2, hp2, hip2⟩ := HYP.out HTB2.out m hlt2
          have hjl2 : j2 < n := by have := (List.getElem?_eq_some_iff.1 hp2).1; omega
          obtain ⟨ax, eax, hax, hxc⟩ := hX.2 (by omega)
          obtain ⟨ay, eay, hay, hyc⟩ := hY.2 (by omega)
          have hcx := (hbl.cell (p := ax.add k) (by rw [add_block]; omega)).trans (hxc k hlt)
          have hcy := (hbl.cell (p := ay.add m) (by rw [add_block]; omega)).trans (hyc m hlt2)
          obtain ⟨ad, p', ead, hab, hp', hqp⟩ := HP.out.at hjl
          obtain ⟨ad2, p2', ead2, hab2, hp2', hqp2⟩ := HP.out.at hjl2
          rw [HPJ.out] at hp'
          rw [hp2] at hp2'
          injection hp' with hp'
          injection hp2' with hp2'
          subst hp'
          subst hp2'
          subst eax
          subst eay
          subst ead
          injection ead2 with ead2
          subst ead2
          obtain ⟨c0, c1, c2', c3'⟩ := hqp.below HBW.out (by omega)
          have HF1 := Lib.hid (spec_FindPath (some ad) n c B ps (X.getD k 0) wr (HP.out.below (HBW.out.mono hB)) hn)
          have HHS := Lib.hid (HSS.out Y p m hlt2)
          rw [hip2] at HHS
          have HJ2 := Lib.hid (fI_of hj2)
          have HQ2 := Lib.hid hqp2
          have HYC := Lib.hid (hyc m hlt2)
          have HJP := Lib.hid HJ.out
          clear hj2 hp2 hip2 hxc hyc hqp
          generalize X.getD k 0 = x at *
          generalize Y.getD m 0 = y at *
          have hbA := (Below.refl wr.heap.size wr).alloc (Nat.le_refl _) (.cells #[.int .i64 p.id, .int .i64 p.kind, .int .i64 p.frm, .int .i64 p.to] 45)
          have HBA := Lib.hid (hbl.trans (hbA.mono hsz))
          have HBAW := Lib.hid (HBW.out.trans (hbA.mono HBW.out.size))
          have HPB : Hid (PthAt (wr.alloc (.cells #[.int .i64 p.id, .int .i64 p.kind, .int .i64 p.frm, .int .i64 p.to] 45)) ⟨wr.heap.size, 0, none⟩ p) := Lib.hid (pth_of_block (heap_alloc_new wr _))
          have HSA : Hid ((wr.alloc (.cells #[.int .i64 p.id, .int .i64 p.kind, .int .i64 p.frm, .int .i64 p.to] 45)).heap.size = wr.heap.size + 1) := Lib.hid (by simp)
          clear hbA hbl
          go_wp2_with fail
          refine HF1.out.mono ?_
          rw [HJP.out]
          rintro e w5 ⟨rfl, rfl⟩
          obtain ⟨wA, hwA⟩ : ∃ wA, wA = wr.alloc (.cells #[.int .i64 p.id, .int .i64 p.kind, .int .i64 p.frm, .int .i64 p.to] 45) := ⟨_, rfl⟩
          rw [← hwA] at HBA HBAW HPB HSA
          have HPX := Lib.hid (fun x : GW wA => pth_head (HPB.out.below x.ok (by have := HSA.out; simp only; omega)))
          have HWX := Lib.hid (fun x : GW wA => HBAW.out.trans (x.ok.mono HBAW.out.size))
          go_wp2
          rw [← hwA]
          clear hwA c0 c1 c2' c3'
          have b0 := fun x : GW wA => (HPX.out x).1
          have b1 := fun x : GW wA => (HPX.out x).2.1
          have b2 := fun x : GW wA => (HPX.out x).2.2.1
          have b3 := fun x : GW wA => (HPX.out x).2.2.2
          try simp only at b0 b1 b2 b3
          have q0 := fun x : GW wA => (HQ2.out.below (HWX.out x) (by omega)).c0
          have q1 := fun x : GW wA => (HQ2.out.below (HWX.out x) (by omega)).c1
          have q2 := fun x : GW wA => (HQ2.out.below (HWX.out x) (by omega)).c2
          have q3 := fun x : GW wA => (HQ2.out.below (HWX.out x) (by omega)).c3
          have yc := fun x : GW wA => ((HBA.out.trans (x.ok.mono HBA.out.size)).cell (p := ay.add m) (by rw [add_block]; omega)).trans HYC.out
          have hff := fun x : GW wA => spec_FindPath (some ad) n c B ps y x.val (HP.out.below ((HWX.out x).mono hB)) hn
          have hcf := fun x : GW wA => spec_Conflict p p2 x.val
          simp only [HJ2.out] at hff
          simp only [Pth.val] at hcf
          have k1 : (0 : Int) ≤ (j2 : Int) := by omega
          have k2 : (j2 : Int) < (n : Int) := by omega
          have k3 : (0 : Int) ≤ (m : Int) := by omega
          have k4 : (m : Int) < (Y.length : Int) := by omega
          have HMX := Lib.hid (fun (u : Int) => clrIn_yes q p (holdTo ps p Y m))
          cases hcv : conf p p2
          · rw [hcv] at HHS
            have HT2 : Hid (t = clrIn q p (holdTo ps p Y (m + 1))) := Lib.hid (by rw [HHS.out, Bool.or_false]; exact HT.out)
            rw [hcv] at hcf
            clear hcv HHS HMX
            refine wp_region_grow (by kernel_rfl) (by kernel_rfl) ?_
            repeat (go_big_quiet_step (first | (go_at_call 23; exact calls_gw_same _ (hff _)) | (go_at_call 48; exact calls_gw _ (hcf _))))
            refine wpQuiet_nil ?_
            intro x5
            have hb5 := HBA.out.trans (x5.ok.mono HBA.out.size)
            clear b0 b1 b2 b3 q0 q1 q2 q3 yc hff hcf
            generalize x5.val = w5 at *
            go_wp2
            go_roundw
            case rel => exact ⟨m + 1, t, by omega, by go_num, rfl, HT2.out, hb5⟩
            case measure => simp [intOf]; omega
          · rw [hcv] at HHS
            have HT2 : Hid (maxI t (clearN p) = clrIn q p (holdTo ps p Y (m + 1))) := Lib.hid (by rw [HHS.out, Bool.or_true, HT.out]; exact HMX.out 0)
            rw [hcv] at hcf
            clear hcv HHS HMX
            refine wp_region_grow (by kernel_rfl) (by kernel_rfl) ?_
            repeat (go_big_quiet_step (first | (go_at_call 23; exact calls_gw_same _ (hff _)) | (go_at_call 48; exact calls_gw _ (hcf _))))
            refine wpQuiet_nil ?_
            intro x5
            have hb5 := HBA.out.trans (x5.ok.mono HBA.out.size)
            have e0 := b0 x5
            have e1 := b1 x5
            have e2 := b2 x5
            have e3 := b3 x5
            clear b0 b1 b2 b3 q0 q1 q2 q3 yc hff hcf
            generalize x5.val = w5 at *
            have HCO := Lib.hid (spec_ClearOf p w5)
            have HB5 := Lib.hid hb5
            clear hb5
            go_wp2_with fail
            refine HCO.out.mono ?_
            rintro e w6 ⟨rfl, hb6⟩
            have HB6 := Lib.hid (HB5.out.trans (hb6.mono HB5.out.size))
            clear hb6 e0 e1 e2 e3
            generalize clearN p = cn at *
            go_wp2_with fail
            refine (spec_Max _ _ _).mono ?_
            rintro e w7 ⟨rfl, rfl⟩
            go_wp2
            go_roundw
            case rel => exact ⟨m + 1, _, by omega, by go_num, rfl, HT2.out, HB6.out⟩
            case measure => simp [intOf]; omega
        · obtain rfl : m = Y.length := by omega
          have HN : Hid (t = clrTo ps X Y (k + 1)) := Lib.hid (by rw [HSK.out, HT.out])
          go_wp2
          go_roundw
          case rel => exact ⟨k + 1, t, by omega, by go_num, rfl, HN.out, fun _ => ⟨HA.out, HTB2.out⟩, hbl⟩
          case measure => simp [intOf]; omega
    · obtain rfl : k = X.length := by omega
      have HR : Hid (clrB ps za zb = q) := Lib.hid (by
        by_cases e : 0 < X.length
        · rw [HON.out (HG.out e).1 (HG.out e).2, HQ.out]
        · have e0 : X.length = 0 := by omega
          cases hta : isTog ps za
          · rw [HOFF.out (by rw [hta]; rfl), HQ.out, e0]; rfl
          · cases htb : isTog ps zb
            · rw [HOFF.out (by rw [htb, Bool.and_false]), HQ.out, e0]; rfl
            · rw [HON.out hta htb, HQ.out])
      go_wp2
      go_ret
      exact ⟨by rw [HR.out]; try rfl, HBW.out⟩
end Go.Proofs.YtmcoeafkbpeelaaDoor

/- Rows of paths as a law's walk knows them. -/
namespace Go.Proofs.YtmcoeafkbpeelaaDoor
open Go.RowKit
set_option linter.unusedVariables false

/-- a slice of paths that may be read. -/
structure SlP (w : World) (A : Option Addr) (n c : Nat) (ps : List Pth) : Prop where
  pths : PthsAt w w.heap.size A n ps
  bare : A = none → n = 0 ∧ c = 0
  small : n ≤ 4294967296
  cap : n ≤ c ∧ c ≤ maxLen
  wf : ∀ p ∈ ps, p.wf
theorem SlP.len {w : World} {A : Option Addr} {n c : Nat} {ps : List Pth} (h : SlP w A n c ps) : ps.length = n := h.pths.1
theorem SlP.below {w w' : World} {A : Option Addr} {n c : Nat} {ps : List Pth} (h : SlP w A n c ps) (hb : Below w.heap.size w w') : SlP w' A n c ps :=
  ⟨(h.pths.below hb).up hb.size, h.bare, h.small, h.cap, h.wf⟩
/-- a row of paths of the call's own, between two block numbers. -/
structure OwP (E : TypeId) (w : World) (lo hi : Nat) (v : Value) (ps : List Pth) : Prop where
  own : w.ownsRow lo E 4 v ps.length (pcells ps)
  lt : ∀ g, v.ownBlock = some g → g < hi
  top : hi ≤ w.heap.size
theorem OwP.new {E : TypeId} {w : World} {lo : Nat} {v : Value} {ps : List Pth} (h : w.ownsRow lo E 4 v ps.length (pcells ps)) : OwP E w lo w.heap.size v ps := ⟨h, fun g e => (ownr_block h g e).2, Nat.le_refl _⟩
theorem OwP.below {E : TypeId} {w w' : World} {lo hi : Nat} {v : Value} {ps : List Pth} (h : OwP E w lo hi v ps) (hb : Below w.heap.size w w') : OwP E w' lo hi v ps := ⟨ownr_below h.own hb, h.lt, Nat.le_trans h.top hb.size⟩
theorem OwP.ints {E : TypeId} {w : World} {lo hi : Nat} {A : Option Addr} {n c : Nat} {ps : List Pth} (h : OwP E w lo hi (.slice A n c) ps) : PthsAt w w.heap.size A n ps := by
  have hn := ownr_len h.own
  subst hn
  exact ⟨rfl, ownr_cells h.own⟩
theorem OwP.sl {E : TypeId} {w : World} {lo hi : Nat} {A : Option Addr} {n c : Nat} {ps : List Pth} (h : OwP E w lo hi (.slice A n c) ps) (hn : n ≤ 4294967296) (hw : ∀ p ∈ ps, p.wf) : SlP w A n c ps :=
  ⟨h.ints, ownr_nilcap h.own, hn, ownr_cap h.own, hw⟩
theorem OwP.part {E : TypeId} {w w' : World} {lo hi l h' : Nat} {v : Value} {ps : List Pth} (h : OwP E w lo hi v ps) (hp : Part l h' w w') (hd : hi ≤ l ∨ h' ≤ lo) : OwP E w' lo hi v ps := by
  refine ⟨⟨h.own.1, ?_⟩, h.lt, Nat.le_trans h.top hp.size⟩
  rcases h.own.2 with h2 | ⟨g, cap, cur, rfl, hl, hg, r⟩
  · exact .inl h2
  · have hlt := h.lt g rfl
    have htop := h.top
    exact .inr ⟨g, cap, cur, rfl, hl, (hp.block g (by omega) (by omega)).trans hg, r⟩
theorem to_pth (A : Option Addr) (n c B : Nat) (ps : List Pth) (w : World) (h : PthsAt w B A n ps) (hB : B ≤ w.heap.size) (hn : n ≤ 1048576) :
    Calls Tryd.prog 9 #[.slice A n c] w fun e w' => e = .returned (.slice (some ⟨w.heap.size, 0, none⟩) n n) ∧ w'.ownsRow w.heap.size 45 4 (.slice (some ⟨w.heap.size, 0, none⟩) n n) ps.length (pcells ps) ∧ Below w.heap.size w w' := by
  have hl := h.1
  refine (law_toPathS A n c B ps w h hB (by omega)).mono fun e w' ⟨h1, h2, h3⟩ => ⟨h1, ?_, h3⟩
  rw [hl]
  exact h2
theorem eqs_pth (A : Option Addr) (n c : Nat) (ps : List Pth) (A2 : Option Addr) (n2 c2 : Nat) (w : World) (h : PthsAt w w.heap.size A n ps) (h2 : PthsAt w w.heap.size A2 n2 ps) (hn : n ≤ 1048576) (hn2 : n2 ≤ 1048576) :
    Calls Tryd.prog 13 #[.slice A n c, .slice A2 n2 c2] w fun e w' => e = .returned (.bool true) ∧ Below w.heap.size w w' :=
  (law_eqPathS A n c _ ps A2 n2 c2 _ ps w h h2 (Nat.le_refl _) (Nat.le_refl _) (by omega) (by omega)).mono fun e w' ⟨he, hb⟩ => ⟨by rw [he, decide_eq_true rfl], hb⟩
theorem marked_pth (A : Option Addr) (n c lo hi s : Nat) (ps : List Pth) (w : World) (h : OwP 45 w lo hi (.slice A n c) ps) (hn : n ≤ 1048576) (hs : s ≤ 70368744177664) :
    Calls Tryd.prog 14 #[.slice A n c, .int .i64 s] w fun e w' => e = .returned (.int .i64 ((s + n * 4 : Nat) : Int)) ∧ Part lo hi w w' := by
  have hl := ownr_len h.own
  refine (law_markPathS A n c lo s (pcells ps) w (by have h2 := h.own; rw [← hl] at h2; exact h2) (by omega) hs).mono fun e w' ⟨he, hg⟩ => ⟨he, ⟨hg.os, hg.tape, hg.output, hg.size, fun i hi' hd => hg.block i hi' fun e => ?_⟩⟩
  have h1 := h.lt i e.symm
  have h2 := (ownr_block h.own i e.symm).1
  omega
theorem sz_pth (A : Option Addr) (n c : Nat) (left : Int) (w : World) (hn : n ≤ 9223372036854775807) (hl : 0 ≤ left ∧ left ≤ 1048576) :
    Calls Tryd.prog 6 #[.slice A n c, .int .i64 left] w fun e w' => e = .returned (.int .i64 (if (n : Int) ≤ left then left - (n : Int) else -1)) ∧ w = w' := by
  obtain ⟨l1, l2⟩ := hl
  by_cases h : (n : Int) ≤ left
  · rw [if_pos h]
    go_enter Tryd.func6, Tryd.ntmps6
    go_wp2
    go_ret
    exact ⟨rfl, rfl⟩
  · rw [if_neg h]
    go_enter Tryd.func6, Tryd.ntmps6
    go_wp2
    go_ret
    exact ⟨rfl, rfl⟩
end Go.Proofs.YtmcoeafkbpeelaaDoor

/- LeastGreen: model and program. -/
namespace Go.Proofs.YtmcoeafkbpeelaaDoor
open Go.RowKit
set_option linter.unusedVariables false

set_option maxHeartbeats 1000000 in
theorem spec_LeastGreen (A : Option Addr) (n c B : Nat) (ps : List Pth) (A2 : Option Addr) (n2 c2 B2 : Nat) (zs : List Int) (w : World) (h : PthsAt w B A n ps) (h2 : IntsAt .i64 w B2 A2 n2 zs) (hB : B ≤ w.heap.size) (hB2 : B2 ≤ w.heap.size) (hn : n ≤ 4294967296) (hn2 : n2 ≤ 4294967296) :
    Calls Tryd.prog 45 #[.slice A n c, .slice A2 n2 c2] w fun e w' => e = .returned (.int .i64 (leastG ps zs)) ∧ Below w.heap.size w w' := by
  have hl := h.1
  have hl2 := h2.1
  go_enter Tryd.func45, Tryd.ntmps45
  go_wp2
  go_loopw [5] (fun i wr => ∃ k : Nat, k ≤ n2 ∧ i = .int .i64 k ∧ (∀ j, j < k → walkId ps (zs.getD j 0) = false) ∧ Below w.heap.size w wr) (fun i _ => n2 - (intOf i).toNat)
  case atStart => exact ⟨0, Nat.zero_le _, rfl, fun j hj => absurd hj (by omega), Below.refl _ _⟩
  case round =>
    obtain ⟨k, hk, rfl, hno, hbl⟩ := hrel
    have hsz := hbl.size
    have HN := Lib.hid hno
    clear hno
    by_cases hlt : k < n2
    · obtain ⟨ad2, rfl, hab2, hcell⟩ := h2.2 (by omega)
      have hc := (hbl.cell (by rw [add_block]; omega)).trans (hcell k hlt)
      have hyes := fun h => Lib.hid (leastG_yes (ps := ps) (zs := zs) (k := k) (by omega) h)
      have hstep := fun (h1 : walkId ps (zs.getD k 0) = false) => Lib.hid (show ∀ j, j < k + 1 → walkId ps (zs.getD j 0) = false from fun j hj => by
        by_cases e : j = k
        · subst e; exact h1
        · exact HN.out j (by omega))
      clear hcell
      generalize zs.getD k 0 = id at *
      go_wp2_with fail
      refine (spec_FindPath A n c B ps id wr (h.below (hbl.mono hB)) hn).mono ?_
      cases hf : findK id ps
      · rw [fI_no hf]
        rintro e w1 ⟨rfl, rfl⟩
        have HS := hstep (walkId_none hf)
        clear hf hyes hstep
        go_wp2
        go_roundw
        case rel => exact ⟨k + 1, by omega, by go_num, HS.out, hbl⟩
        case measure => simp [intOf]; omega
      · rename_i m
        rw [fI_some hf]
        rintro e w1 ⟨rfl, rfl⟩
        have hml := fK_lt hf
        obtain ⟨ad, p, rfl, hab, hp, hq⟩ := h.at (k := m) (by omega)
        have HB1 := Lib.hid (hbl)
        obtain ⟨c0, c1, c2', c3⟩ := hq.below HB1.out (by omega)
        by_cases hkd : p.kind = 2
        · have HR := hyes (by rw [walkId_some hf, pAt_some hp]; exact decide_eq_true hkd)
          have e1 : (p.kind == 2) = true := by simpa using hkd
          clear hf hyes hstep hq hp hkd
          go_wp2
          go_ret
          exact ⟨by rw [HR.out]; try rfl, HB1.out⟩
        · have HS := hstep (by rw [walkId_some hf, pAt_some hp]; exact decide_eq_false hkd)
          have e1 : (p.kind == 2) = false := by simpa using hkd
          clear hf hyes hstep hq hp hkd
          go_wp2
          go_roundw
          case rel => exact ⟨k + 1, by omega, by go_num, HS.out, HB1.out⟩
          case measure => simp [intOf]; omega
    · obtain rfl : k = n2 := by omega
      have HR : Hid (leastG ps zs = 5) := Lib.hid (leastG_no fun j hj => HN.out j (by omega))
      go_wp2
      go_ret
      exact ⟨by rw [HR.out]; try rfl, hbl⟩
end Go.Proofs.YtmcoeafkbpeelaaDoor

/- Chapter 14: the model: IsControl, CanEnd, LightsOf. -/
namespace Go.Proofs.YtmcoeafkbpeelaaDoor
open Go.RowKit
set_option linter.unusedVariables false

/-- what a function of a controller is handed. -/
structure CtlIn (w : World) (A : Option Addr) (n c : Nat) (ps : List Pth) (A2 : Option Addr) (n2 c2 : Nat) (A3 : Option Addr) (n3 c3 : Nat) (x : Ctl) : Prop where
  p : SlP w A n c ps
  s : Sl .i64 w A2 n2 c2 x.stage
  hs : n2 ≤ 1048576
  t : Sl .i64 w A3 n3 c3 x.next
  ht : n3 ≤ 1048576
  ws : -9223372036854775808 ≤ x.since ∧ x.since ≤ 9223372036854775807
  wl : -9223372036854775808 ≤ x.left ∧ x.left ≤ 9223372036854775807
theorem CtlIn.below {w w' : World} {A : Option Addr} {n c : Nat} {ps : List Pth} {A2 : Option Addr} {n2 c2 : Nat} {A3 : Option Addr} {n3 c3 : Nat} {x : Ctl} (I : CtlIn w A n c ps A2 n2 c2 A3 n3 c3 x) (hb : Below w.heap.size w w') : CtlIn w' A n c ps A2 n2 c2 A3 n3 c3 x :=
  ⟨I.p.below hb, I.s.below hb, I.hs, I.t.below hb, I.ht, I.ws, I.wl⟩
set_option maxHeartbeats 4000000 in
theorem spec_IsControl {w : World} {A : Option Addr} {n c : Nat} {ps : List Pth} {A2 : Option Addr} {n2 c2 : Nat} {A3 : Option Addr} {n3 c3 : Nat} {x : Ctl} (I : CtlIn w A n c ps A2 n2 c2 A3 n3 c3 x) :
    Calls Tryd.prog 41 #[.slice A n c, ctlV (.slice A2 n2 c2) x.since (.slice A3 n3 c3) x.left] w fun e w' => e = .returned (.bool (isCtl ps x)) ∧ Below w.heap.size w w' := by
  simp only [ctlV]
  have hls := I.s.len
  have hlt := I.t.len
  have hs2 := I.hs
  have ht2 := I.ht
  have HT2 := Lib.hid (fun y (hy : Below w.heap.size w y) => have J := I.below hy; spec_IsTogether A n c _ ps A2 n2 c2 _ x.stage y J.p.pths J.s.ints (Nat.le_refl _) (Nat.le_refl _) J.p.small (by omega))
  have HT3 := Lib.hid (fun y (hy : Below w.heap.size w y) => have J := I.below hy; spec_IsTogether A n c _ ps A3 n3 c3 _ x.next y J.p.pths J.t.ints (Nat.le_refl _) (Nat.le_refl _) J.p.small (by omega))
  have HCB := Lib.hid (fun y (hy : Below w.heap.size w y) => have J := I.below hy; spec_ClearBetween A n c _ ps A2 n2 c2 _ x.stage A3 n3 c3 _ x.next y J.p.pths (Nat.le_refl _) J.p.small J.s.ints (Nat.le_refl _) (by omega) J.t.ints (Nat.le_refl _) (by omega))
  have HV : Hid (isCtl ps x = (!decide (n2 = 0) && isTog ps x.stage && isTog ps x.next && inB x.since 0 1000000 && (if n3 = 0 then decide (x.left = 0) else inB x.left 1 (clrB ps x.stage x.next)))) := Lib.hid (by unfold isCtl; rw [hls, hlt])
  clear I hls hlt
  obtain ⟨zs, si, zs3, lf⟩ := x
  simp only at HT2 HT3 HCB HV ⊢
  generalize isCtl ps ⟨zs, si, zs3, lf⟩ = r at *
  generalize clrB ps zs zs3 = cb at *
  obtain ⟨wA, hwA⟩ : ∃ wA, wA = w.alloc (.cells #[.slice A2 n2 c2, .int .i64 si, .slice A3 n3 c3, .int .i64 lf] 28) := ⟨_, rfl⟩
  obtain ⟨hk, hsz, hBA⟩ := one_block hwA
  have HK := Lib.hid hk
  have HBA := Lib.hid hBA
  have hltA : w.heap.size < wA.heap.size := by omega
  have k0 := cells4 hk
  clear hk hsz hBA
  by_cases h0 : n2 = 0
  · have HR : Hid (r = false) := Lib.hid (by rw [HV.out, decide_eq_true h0]; rfl)
    have e1 : ((n2 : Int) == 0) = true := by simp [h0]
    obtain ⟨k0, k1, k2, k3⟩ := k0
    go_enter Tryd.func41, Tryd.ntmps41
    go_wp2
    go_ret
    exact ⟨by rw [HR.out]; try rfl, (Below.refl _ _).alloc (Nat.le_refl _) _⟩
  have e1 : ((n2 : Int) == 0) = false := by simpa using h0
  rw [decide_eq_false h0] at HV
  obtain ⟨k0, k1, k2, k3⟩ := k0
  cases h1 : isTog ps zs
  · have HR : Hid (r = false) := Lib.hid (by rw [HV.out, h1]; rfl)
    rw [h1] at HT2
    clear HV h1
    go_enter Tryd.func41, Tryd.ntmps41
    go_wp2_with fail
    rw [← hwA]
    refine (HT2.out _ HBA.out).mono ?_
    rintro e w1 ⟨rfl, hb1⟩
    clear hwA
    go_wp2
    go_ret
    exact ⟨by rw [HR.out]; try rfl, HBA.out.trans (hb1.mono HBA.out.size)⟩
  · rw [h1] at HT2 HV
    cases h2 : isTog ps zs3
    · have HR : Hid (r = false) := Lib.hid (by rw [HV.out, h2]; rfl)
      rw [h2] at HT3
      clear HV h1 h2
      go_enter Tryd.func41, Tryd.ntmps41
      go_wp2_with fail
      rw [← hwA]
      refine (HT2.out _ HBA.out).mono ?_
      rintro e w1 ⟨rfl, hb1⟩
      have HB1 := Lib.hid (HBA.out.trans (hb1.mono HBA.out.size))
      obtain ⟨m0, m1, m2, m3⟩ := cells4 ((hb1.block _ hltA).trans HK.out)
      clear hwA hb1 k0 k1 k2 k3
      go_wp2_with fail
      refine (HT3.out _ HB1.out).mono ?_
      rintro e w2 ⟨rfl, hb2⟩
      clear m0 m1 m2 m3
      go_wp2
      go_ret
      exact ⟨by rw [HR.out]; try rfl, HB1.out.trans (hb2.mono HB1.out.size)⟩
    · rw [h2] at HT3 HV
      cases h3 : inB si 0 1000000
      · have HR : Hid (r = false) := Lib.hid (by rw [HV.out, h3]; rfl)
        have H3 := Lib.hid h3
        clear HV h1 h2 h3
        go_enter Tryd.func41, Tryd.ntmps41
        go_wp2_with fail
        rw [← hwA]
        refine (HT2.out _ HBA.out).mono ?_
        rintro e w1 ⟨rfl, hb1⟩
        have HB1 := Lib.hid (HBA.out.trans (hb1.mono HBA.out.size))
        have HK1 := Lib.hid ((hb1.block _ hltA).trans HK.out)
        obtain ⟨m0, m1, m2, m3⟩ := cells4 HK1.out
        have hlt1 : w.heap.size < w1.heap.size := lt_of_block HK1.out
        clear hwA hb1 k0 k1 k2 k3
        go_wp2_with fail
        refine (HT3.out _ HB1.out).mono ?_
        rintro e w2 ⟨rfl, hb2⟩
        have HB2 := Lib.hid (HB1.out.trans (hb2.mono HB1.out.size))
        obtain ⟨l0, l1, l2, l3⟩ := cells4 ((hb2.block _ hlt1).trans HK1.out)
        clear hb2 m0 m1 m2 m3
        go_wp2_with fail
        refine (spec_l1In _ _ _ _).mono ?_
        rw [H3.out]
        rintro e w3 ⟨rfl, rfl⟩
        go_wp2
        go_ret
        exact ⟨by rw [HR.out]; try rfl, HB2.out⟩
      · rw [h3] at HV
        have H3 := Lib.hid h3
        clear h1 h2 h3
        by_cases h4 : n3 = 0
        · have HR : Hid (r = decide (lf = 0)) := Lib.hid (by rw [HV.out, if_pos h4]; rfl)
          have e2 : ((n3 : Int) == 0) = true := by simp [h4]
          clear HV h4
          go_enter Tryd.func41, Tryd.ntmps41
          go_wp2_with fail
          rw [← hwA]
          refine (HT2.out _ HBA.out).mono ?_
          rintro e w1 ⟨rfl, hb1⟩
          have HB1 := Lib.hid (HBA.out.trans (hb1.mono HBA.out.size))
          have HK1 := Lib.hid ((hb1.block _ hltA).trans HK.out)
          obtain ⟨m0, m1, m2, m3⟩ := cells4 HK1.out
          have hlt1 : w.heap.size < w1.heap.size := lt_of_block HK1.out
          clear hwA hb1 k0 k1 k2 k3
          go_wp2_with fail
          refine (HT3.out _ HB1.out).mono ?_
          rintro e w2 ⟨rfl, hb2⟩
          have HB2 := Lib.hid (HB1.out.trans (hb2.mono HB1.out.size))
          obtain ⟨l0, l1, l2, l3⟩ := cells4 ((hb2.block _ hlt1).trans HK1.out)
          clear hb2 m0 m1 m2 m3
          go_wp2_with fail
          refine (spec_l1In _ _ _ _).mono ?_
          rw [H3.out]
          rintro e w3 ⟨rfl, rfl⟩
          go_wp2
          go_ret
          exact ⟨by rw [HR.out]; try rfl, HB2.out⟩
        · have HR : Hid (r = inB lf 1 cb) := Lib.hid (by rw [HV.out, if_neg h4]; rfl)
          have e2 : ((n3 : Int) == 0) = false := by simpa using h4
          clear HV
          go_enter Tryd.func41, Tryd.ntmps41
          go_wp2_with fail
          rw [← hwA]
          refine (HT2.out _ HBA.out).mono ?_
          rintro e w1 ⟨rfl, hb1⟩
          have HB1 := Lib.hid (HBA.out.trans (hb1.mono HBA.out.size))
          have HK1 := Lib.hid ((hb1.block _ hltA).trans HK.out)
          obtain ⟨m0, m1, m2, m3⟩ := cells4 HK1.out
          have hlt1 : w.heap.size < w1.heap.size := lt_of_block HK1.out
          clear hwA hb1 k0 k1 k2 k3
          go_wp2_with fail
          refine (HT3.out _ HB1.out).mono ?_
          rintro e w2 ⟨rfl, hb2⟩
          have HB2 := Lib.hid (HB1.out.trans (hb2.mono HB1.out.size))
          have HK2 := Lib.hid ((hb2.block _ hlt1).trans HK1.out)
          obtain ⟨l0, l1, l2, l3⟩ := cells4 HK2.out
          clear hb2 m0 m1 m2 m3
          go_wp2_with fail
          refine (spec_l1In _ _ _ _).mono ?_
          rw [H3.out]
          rintro e w3 ⟨rfl, rfl⟩
          have hlt2 : w.heap.size < w2.heap.size := lt_of_block HK2.out
          have q0 := fun y : GW w2 => (cells4 ((y.ok.block _ hlt2).trans HK2.out)).1
          have q2 := fun y : GW w2 => (cells4 ((y.ok.block _ hlt2).trans HK2.out)).2.2.1
          have q3 := fun y : GW w2 => (cells4 ((y.ok.block _ hlt2).trans HK2.out)).2.2.2
          have hcb := fun y : GW w2 => HCB.out y.val (HB2.out.trans (y.ok.mono HB2.out.size))
          have hin := fun y : GW w2 => spec_l1In lf 1 cb y.val
          generalize inB lf 1 cb = u at *
          go_wp2
          refine wp_region_grow (by kernel_rfl) (by kernel_rfl) ?_
          repeat (go_big_quiet_step (first | (go_at_call 26; exact calls_gw _ (hcb _)) | (go_at_call 63; exact calls_gw_same _ (hin _))))
          refine wpQuiet_nil ?_
          intro x5
          have hb5 := HB2.out.trans (x5.ok.mono HB2.out.size)
          clear q0 q2 q3 hcb hin l0 l1 l2 l3
          generalize x5.val = w5 at *
          go_wp2
          go_ret
          exact ⟨by rw [HR.out]; try rfl, hb5⟩
end Go.Proofs.YtmcoeafkbpeelaaDoor

/- TickControl of the model (written by gentck.py). -/
set_option linter.unusedSimpArgs false
namespace Go.Proofs.YtmcoeafkbpeelaaDoor
open Go.RowKit
set_option linter.unusedVariables false

/-- what TickControl answers. -/
def tickC (ps : List Pth) (x : Ctl) : Ctl := if isCtl ps x = true then (if x.next.length = 0 then ⟨x.stage, minI 1000000 (x.since + 1), x.next, x.left⟩ else if x.left - 1 = 0 then ⟨x.next, 0, [], 0⟩ else ⟨x.stage, x.since, x.next, x.left - 1⟩) else x
/-- a controller of a call's own. -/
def OwnC (w : World) (lo : Nat) (v : Value) (y : Ctl) : Prop := ∃ A n c A' n' c', v = ctlV (.slice A n c) y.since (.slice A' n' c') y.left ∧ Own .i64 3 w lo (.slice A n c) y.stage ∧ Own .i64 3 w lo (.slice A' n' c') y.next ∧ (∀ g, (Value.slice A n c).ownBlock = some g → (Value.slice A' n' c').ownBlock ≠ some g)
theorem own_set4 {w : World} {R lo : Nat} {v : Value} {ys : List Int} (y1 y2 y3 y4 : Value) (h : Own .i64 3 w lo v ys) (hlo : R < lo) : Own .i64 3 ((((w.setCell ⟨R, 0, none⟩ y1).setCell ⟨R, 1, none⟩ y2).setCell ⟨R, 2, none⟩ y3).setCell ⟨R, 3, none⟩ y4) lo v ys :=
  h.grown (only_setCell (only_setCell (only_setCell (only_setCell (World.grownBy.refl w (some R)) 0 y1) 1 y2) 2 y3) 3 y4) (fun g e => by have := (h.block g e).1; intro h; injection h; omega)
theorem below_set4 {w w' : World} {B R : Nat} (y1 y2 y3 y4 : Value) (h : Below B w w') (hlo : B ≤ R) : Below B w ((((w'.setCell ⟨R, 0, none⟩ y1).setCell ⟨R, 1, none⟩ y2).setCell ⟨R, 2, none⟩ y3).setCell ⟨R, 3, none⟩ y4) :=
  (((h.setCell hlo _).setCell hlo _).setCell hlo _).setCell hlo _
theorem own_set1 {w : World} {G j lo : Nat} {v : Value} {ys : List Int} (y : Value) (h : Own .i64 3 w lo v ys) (hlt : ∀ g, v.ownBlock = some g → g < G) : Own .i64 3 (w.setCell ⟨G, j, none⟩ y) lo v ys :=
  h.grown (only_setCell (World.grownBy.refl w (some G)) j y) (fun g e => by have := hlt g e; intro h; injection h; omega)
set_option maxHeartbeats 8000000 in
set_option maxRecDepth 100000 in
theorem spec_TickControl {w : World} {A : Option Addr} {n c : Nat} {ps : List Pth} {A2 : Option Addr} {n2 c2 : Nat} {A3 : Option Addr} {n3 c3 : Nat} {x : Ctl} (I : CtlIn w A n c ps A2 n2 c2 A3 n3 c3 x) :
    Calls Tryd.prog 39 #[.slice A n c, ctlV (.slice A2 n2 c2) x.since (.slice A3 n3 c3) x.left] w fun e w' => ∃ v, e = .returned v ∧ OwnC w' w.heap.size v (tickC ps x) ∧ Below w.heap.size w w' := by
  have hlt3 := I.t.len
  have hls2 := I.s.len
  have hs2 := I.hs
  have ht2 := I.ht
  have hws := I.ws
  have hwl := I.wl
  obtain ⟨wA, hwA⟩ : ∃ wA, wA = (w.alloc (.cells #[.slice A2 n2 c2, .int .i64 x.since, .slice A3 n3 c3, .int .i64 x.left] 28)).alloc (.cells #[.slice none 0 0, .int .i64 0, .slice none 0 0, .int .i64 0] 28) := ⟨_, rfl⟩
  obtain ⟨hk, hx, hsz, hBA⟩ := two_blocks hwA
  have HIC := Lib.hid (fun y (hy : Below w.heap.size w y) => spec_IsControl (I.below hy))
  have HCP := Lib.hid (fun y (hy : Below w.heap.size w y) => spec_l14Copy A2 n2 c2 x.stage x.since A3 n3 c3 x.next x.left y (I.below hy).s hs2 (I.below hy).t ht2)
  simp only [ctlV] at HIC HCP ⊢
  have lA : w.heap.size + 1 < wA.heap.size := by omega
  have HB := Lib.hid hBA
  obtain ⟨k0, k1, k2, k3⟩ := cells4 hk
  have HK := Lib.hid hk
  have HX := Lib.hid hx
  have HT3 := Lib.hid hlt3
  clear I hk hx hsz hBA hlt3 hls2
  go_enter Tryd.func39, Tryd.ntmps39
  go_wp2_with fail
  rw [← hwA]
  clear hwA
  refine (HCP.out _ HB.out).mono ?_
  rintro e w1 ⟨E1, e1, E2, e2, rfl, ho1, ho2, hap, hb1⟩
  have HAP := Lib.hid hap
  have HK1 := Lib.hid ((hb1.block _ (by omega)).trans HK.out)
  have HX1 := Lib.hid ((hb1.block _ lA).trans HX.out)
  have HB1 := Lib.hid (HB.out.trans (hb1.mono HB.out.size))
  have L1 := Lib.hid hb1.size
  have LT1 := Lib.hid (fun g e => (ho1.block g e).2)
  have LT2 := Lib.hid (fun g e => (ho2.block g e).2)
  have lK := lt_of_block HK1.out
  have lX := lt_of_block HX1.out
  clear k0 k1 k2 k3 hap hb1
  obtain ⟨w2, hw2⟩ : ∃ w2, w2 = w1.alloc (.cells #[.slice E1 n2 e1, .int .i64 x.since, .slice E2 n3 e2, .int .i64 x.left] 28) := ⟨_, rfl⟩
  obtain ⟨hc2, hs2', hb2⟩ := one_block hw2
  have HC2 := Lib.hid hc2
  have HK2 := Lib.hid ((hb2.block _ lK).trans HK1.out)
  have HX2 := Lib.hid ((hb2.block _ lX).trans HX1.out)
  have HB2 := Lib.hid (HB1.out.trans (hb2.mono HB1.out.size))
  have HO1 := Lib.hid (ho1.below hb2)
  have HO2 := Lib.hid (ho2.below hb2)
  have lC := lt_of_block HC2.out
  replace lK := lt_of_block HK2.out
  replace lX := lt_of_block HX2.out
  have hq := HK2.out
  rw [hw2] at hq
  obtain ⟨k0, k1, k2, k3⟩ := cells4 hq
  clear hc2 hs2' hb2 ho1 ho2 hq
  go_wp2_with fail
  rw [← hw2]
  clear hw2
  refine (HIC.out _ HB2.out).mono ?_
  rintro e w3 ⟨rfl, hb3⟩
  have HK3 := Lib.hid ((hb3.block _ lK).trans HK2.out)
  have HX3 := Lib.hid ((hb3.block _ lX).trans HX2.out)
  have HC3 := Lib.hid ((hb3.block _ lC).trans HC2.out)
  have HB3 := Lib.hid (HB2.out.trans (hb3.mono HB2.out.size))
  have HO13 := Lib.hid (HO1.out.below hb3)
  have HO23 := Lib.hid (HO2.out.below hb3)
  have lgc : w.heap.size + 1 < w1.heap.size := Nat.lt_of_lt_of_le lA L1.out
  replace lK := lt_of_block HK3.out
  replace lX := lt_of_block HX3.out
  replace lC := lt_of_block HC3.out
  clear k0 k1 k2 k3 hb3
  obtain ⟨k0, k1, k2, k3⟩ := cells4 HK3.out
  obtain ⟨z0, z1, z2, z3⟩ := cells4 HX3.out
  obtain ⟨q0, q1, q2, q3⟩ := cells4 HC3.out
  have fz : ∀ j, w3.frozen? ⟨w.heap.size + 1, j, none⟩ = false := fun j => frozen_of_row _ _ j _ _ HX3.out
  have fq : ∀ j, w3.frozen? ⟨w1.heap.size, j, none⟩ = false := fun j => frozen_of_row _ _ j _ _ HC3.out
  rcases hc : isCtl ps x with _ | _
  · have HR : Hid (tickC ps x = x) := Lib.hid (by unfold tickC; rw [hc]; rfl)
    clear hc
    go_wp2
    refine bodyPost_ret (by rw [results_cell rfl]; go_simp; try rfl) rfl ?_
    exact ⟨_, rfl, ⟨_, _, _, _, _, _, by rw [HR.out]; rfl, by rw [HR.out]; exact (own_set4 _ _ _ _ HO13.out (by omega)).mono (by omega), by rw [HR.out]; exact (own_set4 _ _ _ _ HO23.out (by omega)).mono (by omega), HAP.out⟩, below_set4 _ _ _ _ HB3.out (by omega)⟩
  obtain ⟨-, -, -, -, hsi, hlf⟩ := ctl_parts hc
  rw [HT3.out] at hlf
  by_cases hn0 : n3 = 0
  · have HR : Hid (tickC ps x = ⟨x.stage, minI 1000000 (x.since + 1), x.next, x.left⟩) := Lib.hid (by unfold tickC; rw [hc, if_pos rfl, HT3.out, if_pos hn0])
    have hwr : IntKind.i64.wrap (x.since + 1) = x.since + 1 := by rw [IntKind.wrap_i64]; omega
    have hz : ((n3 : Int) == 0) = true := by simp [hn0]
    clear hc hlf hn0
    go_wp2_with fail
    refine (spec_Min 1000000 (x.since + 1) _).mono ?_
    rintro e w4 ⟨rfl, rfl⟩
    go_wp2
    refine bodyPost_ret (by rw [results_cell rfl]; go_simp; try rfl) rfl ?_
    exact ⟨_, rfl, ⟨_, _, _, _, _, _, by rw [HR.out]; rfl, by rw [HR.out]; exact (own_set4 _ _ _ _ (own_set1 _ HO13.out LT1.out) (by omega)).mono (by omega), by rw [HR.out]; exact (own_set4 _ _ _ _ (own_set1 _ HO23.out LT2.out) (by omega)).mono (by omega), HAP.out⟩, below_set4 _ _ _ _ (HB3.out.setCell (show w.heap.size ≤ w1.heap.size by omega) _) (by omega)⟩
  rw [if_neg hn0] at hlf
  have hz : ((n3 : Int) == 0) = false := by simp [hn0]
  have hwr : IntKind.i64.wrap (x.left - 1) = x.left - 1 := by rw [IntKind.wrap_i64]; omega
  by_cases hl0 : x.left - 1 = 0
  · have HR : Hid (tickC ps x = ⟨x.next, 0, [], 0⟩) := Lib.hid (by unfold tickC; rw [hc, if_pos rfl, HT3.out, if_neg hn0, if_pos hl0])
    have hz2 : (x.left - 1 == 0) = true := by simp [hl0]
    clear hc hlf hn0 hl0
    go_wp2
    refine bodyPost_ret (by rw [results_cell rfl]; go_simp; try rfl) rfl ?_
    exact ⟨_, rfl, ⟨_, _, _, _, _, _, by rw [HR.out]; rfl, by rw [HR.out]; exact (own_set4 _ _ _ _ (own_set1 _ HO23.out LT2.out) (by omega)).mono (by omega), by rw [HR.out]; exact own_nil _ _ _ _, fun g _ h => by cases h⟩, below_set4 _ _ _ _ (HB3.out.setCell (show w.heap.size ≤ w1.heap.size by omega) _) (by omega)⟩
  have HR : Hid (tickC ps x = ⟨x.stage, x.since, x.next, x.left - 1⟩) := Lib.hid (by unfold tickC; rw [hc, if_pos rfl, HT3.out, if_neg hn0, if_neg hl0])
  have hz2 : (x.left - 1 == 0) = false := by simp [hl0]
  clear hc hlf hn0 hl0
  go_wp2
  refine bodyPost_ret (by rw [results_cell rfl]; go_simp; try rfl) rfl ?_
  exact ⟨_, rfl, ⟨_, _, _, _, _, _, by rw [HR.out]; rfl, by rw [HR.out]; exact (own_set4 _ _ _ _ (own_set1 _ HO13.out LT1.out) (by omega)).mono (by omega), by rw [HR.out]; exact (own_set4 _ _ _ _ (own_set1 _ HO23.out LT2.out) (by omega)).mono (by omega), HAP.out⟩, below_set4 _ _ _ _ (HB3.out.setCell (show w.heap.size ≤ w1.heap.size by omega) _) (by omega)⟩
end Go.Proofs.YtmcoeafkbpeelaaDoor

/- all, fill, isFull: the program. -/
namespace Go.Proofs.YtmcoeafkbpeelaaDoor
open Go.RowKit
set_option linter.unusedVariables false

theorem fill_lt {f : Nat → Nat} {m N : Nat} (hm : m < 2 ^ N) : ∀ k, k ≤ N → fillTo f m k < 2 ^ N
  | 0, _ => hm
  | k + 1, h => by
    unfold fillTo
    have ih := fill_lt (f := f) hm k (by omega)
    split
    · exact put_lt ih (by omega)
    · exact ih
theorem fill_yes {f : Nat → Nat} {m k : Nat} (h : f k &&& fillTo f m k = 0) : fillTo f m (k + 1) = fillTo f m k ||| 2 ^ k := if_pos h
theorem fill_no {f : Nat → Nat} {m k : Nat} (h : ¬ f k &&& fillTo f m k = 0) : fillTo f m (k + 1) = fillTo f m k := if_neg h
theorem impl_maskBit12 (i : Nat) (w : World) (h : i ≤ 12) : Calls Tryd.prog 56 #[.int .i64 (i : Nat)] w fun e w' => e = .returned (.int .u16 ((2 ^ i : Nat) : Int)) ∧ w = w' := by
  rcases Nat.lt_or_ge i 12 with h1 | h1
  · exact impl_maskBit i w h1
  · obtain rfl : i = 12 := by omega
    go_enter Tryd.func56, Tryd.ntmps56
    go_wp2
    go_ret
    exact ⟨rfl, rfl⟩
end Go.Proofs.YtmcoeafkbpeelaaDoor

/- IsTogether: the program; its exact law's contracts. -/
namespace Go.Proofs.YtmcoeafkbpeelaaDoor
open Go.RowKit
set_option linter.unusedVariables false

end Go.Proofs.YtmcoeafkbpeelaaDoor

/- stagesOf, isCovered, Covers: the program. -/
namespace Go.Proofs.YtmcoeafkbpeelaaDoor
open Go.RowKit
set_option linter.unusedVariables false

/-- all of these are stages. -/
def stsB (ps : List Pth) (zss : List (List Int)) : Bool := zss.all fun zs => (stI ps (rowSt ps ps.length 0) zs).isSome
/-- their sets. -/
def mskI (ps : List Pth) (zss : List (List Int)) : List Int := zss.map fun zs => ((maskL ps zs : Nat) : Int)
theorem mskI_len (ps : List Pth) (zss : List (List Int)) : (mskI ps zss).length = zss.length := by simp [mskI]
theorem mskI_at {ps : List Pth} {zss : List (List Int)} {k : Nat} (h : k < zss.length) : (mskI ps zss).getD k 0 = ((maskL ps (zss.getD k []) : Nat) : Int) := by
  unfold mskI
  rw [List.getD_eq_getElem?_getD, List.getElem?_map, List.getD_eq_getElem?_getD, List.getElem?_eq_getElem h]
  rfl
theorem maskL_some {ps : List Pth} {zs : List Int} {m : Nat} (h : stI ps (rowSt ps ps.length 0) zs = some m) : maskL ps zs = m := by unfold maskL; rw [h]; rfl
theorem stsB_no {ps : List Pth} {zss : List (List Int)} {k : Nat} (hk : k < zss.length) (h : stI ps (rowSt ps ps.length 0) (zss.getD k []) = none) : stsB ps zss = false := by
  unfold stsB
  rw [Bool.eq_false_iff]
  intro ha
  have := List.all_eq_true.1 ha (zss.getD k []) (by rw [List.getD_eq_getElem?_getD, List.getElem?_eq_getElem hk]; exact List.getElem_mem hk)
  rw [h] at this
  cases this
theorem stsB_yes {ps : List Pth} {zss : List (List Int)} (h : ∀ k, k < zss.length → (stI ps (rowSt ps ps.length 0) (zss.getD k [])).isSome = true) : stsB ps zss = true := List.all_eq_true.2 fun zs hz => by
  obtain ⟨j, hj, e⟩ := List.getElem_of_mem hz
  have := h j hj
  rw [List.getD_eq_getElem?_getD, List.getElem?_eq_getElem hj] at this
  rw [← e]
  exact this
theorem stsB_tog {ps : List Pth} (ha : arePs ps = true) {zss : List (List Int)} : stsB ps zss = true ↔ ∀ zs ∈ zss, isTog ps zs = true := by
  unfold stsB
  rw [List.all_eq_true]
  constructor
  · intro h zs hz
    have := h zs hz
    rw [← togI_eq]
    unfold togI
    rw [ha, Bool.true_and]
    exact this
  · intro h zs hz
    obtain ⟨_, _, _, _, h5⟩ := tog_maskL (h zs hz)
    rw [h5]
    rfl
theorem stI_lt {ps : List Pth} {f : Nat → Nat} {zs : List Int} {m : Nat} (h12 : ps.length ≤ 12) (h : stI ps f zs = some m) : m < 4096 := by
  unfold stI at h
  cases hg : goI ps 0 zs with
  | none => rw [hg] at h; cases h
  | some q =>
    rw [hg] at h
    simp only at h
    split at h
    · injection h with h
      subst h
      exact goI_lt h12 (by decide) hg
    · cases h
theorem orM_nat (ps : List Pth) (zss : List (List Int)) {k : Nat} (h : k < zss.length) : orM ((zss.map (maskL ps)).take (k + 1)) = orM ((zss.map (maskL ps)).take k) ||| maskL ps (zss.getD k []) := by
  rw [orM_succ (by rw [List.length_map]; exact h), List.getD_eq_getElem?_getD, List.getElem?_map, List.getD_eq_getElem?_getD, List.getElem?_eq_getElem h]
  rfl
theorem maskL_lt (ps : List Pth) (zs : List Int) (h12 : ps.length ≤ 12) : maskL ps zs < 4096 := by
  unfold maskL
  cases h : stI ps (rowSt ps ps.length 0) zs with
  | none => decide
  | some m => exact stI_lt h12 h
theorem orM_lt (ps : List Pth) (zss : List (List Int)) (h12 : ps.length ≤ 12) : ∀ k, k ≤ zss.length → orM ((zss.map (maskL ps)).take k) < 4096
  | 0, _ => by rw [List.take_zero]; exact (by decide : (0 : Nat) < 4096)
  | k + 1, hk => by
    rw [orM_nat ps zss (by omega)]
    exact or_lt (orM_lt ps zss h12 k (by omega)) (maskL_lt _ _ h12)
theorem info_mask : (Tryd.prog.info? 52).map (fun i => (i.zero, i.size, i.bytes)) = some (some (.int .u16 0), 1, 2) := by kernel_rfl
set_option maxHeartbeats 2000000 in
set_option maxRecDepth 100000 in
theorem impl_stagesOf (A : Option Addr) (n c B : Nat) (ps : List Pth) (A2 : Option Addr) (n2 c2 B2 : Nat) (zss : List (List Int)) (w : World) (h : PthsAt w B A n ps) (hB : B ≤ w.heap.size) (ha : arePs ps = true) (h2 : SSAt w B2 A2 n2 zss) (hB2 : B2 ≤ w.heap.size) (hn2 : n2 ≤ 4294967296) (hm : ∀ j, j < n2 → (zss.getD j []).length ≤ 4294967296) (hw : Brus w) :
    Calls Tryd.prog 52 #[.agg (xcells A n c (rowSt ps n 0)).toArray, .slice A2 n2 c2] w fun e w' => ∃ v, e = .returned (.tuple #[v, .bool (stsB ps zss)]) ∧ (stsB ps zss = true → ∃ g, v = .slice (some ⟨g, 0, none⟩) n2 n2 ∧ Own .u16 52 w' w.heap.size v (mskI ps zss)) ∧ Below w.heap.size w w' := by
  have hl := h.1
  have hl2 := h2.1
  subst hl
  have h12 := arePs_len12 ha
  have HP := Lib.hid h
  have HW := Lib.hid hw
  have HNO := Lib.hid (fun k (hk : k < n2) (hf : stI ps (rowSt ps ps.length 0) (zss.getD k []) = none) => stsB_no (ps := ps) (zss := zss) (k := k) (by omega) hf)
  have HYES := Lib.hid (fun (hf : ∀ k, k < n2 → (stI ps (rowSt ps ps.length 0) (zss.getD k [])).isSome = true) => stsB_yes (ps := ps) (zss := zss) (fun k hk => hf k (by omega)))
  have HMA := Lib.hid (fun k (hk : k < n2) => mskI_at (ps := ps) (zss := zss) (k := k) (by omega))
  have HML : Hid ((mskI ps zss).length = n2) := Lib.hid (by rw [mskI_len]; exact hl2)
  have HSM := Lib.hid (fun zs m (hf : stI ps (rowSt ps ps.length 0) zs = some m) => maskL_some hf)
  have HLT := Lib.hid (fun zs m (hf : stI ps (rowSt ps ps.length 0) zs = some m) => stI_lt h12 hf)
  have hln : (xcells A ps.length c (rowSt ps ps.length 0)).length = 13 := xcells_length _ _ _ _
  have hinf : (Tryd.prog.info? 55).map (·.size) = some (xcells A ps.length c (rowSt ps ps.length 0)).length := by rw [hln]; exact info_cross
  have HS := Lib.hid (fun A' m c' zs x hx hxB hxi hxm hxw => impl_stageOf A ps.length c B ps (rowSt ps ps.length 0) (rowSt_lt ps ps.length 0) A' m c' zs x hx hxB h12 hxi hxm hxw)
  have hX := heap_alloc_new w (.cells (xcells A ps.length c (rowSt ps ps.length 0)).toArray 55)
  have hB1 : Below w.heap.size w (w.alloc (.cells (xcells A ps.length c (rowSt ps ps.length 0)).toArray 55)) := (Below.refl _ _).alloc (Nat.le_refl _) _
  have hs2 : (w.alloc (.cells (xcells A ps.length c (rowSt ps ps.length 0)).toArray 55)).heap.size = w.heap.size + 1 := by simp
  generalize (xcells A ps.length c (rowSt ps ps.length 0)) = xs at *
  generalize hst : stI ps (rowSt ps ps.length 0) = st at *
  clear hst h hw
  obtain ⟨w2, hw2⟩ : ∃ w2, w2 = w.alloc (.cells xs.toArray 55) := ⟨_, rfl⟩
  rw [← hw2] at hX hB1 hs2
  have HX := Lib.hid hX
  have HB1 := Lib.hid hB1
  have HS2 := Lib.hid hs2
  have hlt2 : w.heap.size < w2.heap.size := by omega
  clear hX hB1 hs2
  go_enter Tryd.func52, Tryd.ntmps52
  go_wp2_with ((with_reducible show wpList _ _ _ _ _ _); rw [← hw2]; refine wpList_mk rfl _ _ _ rfl .u16 52 2 Tryd.underlying81 info_mask (by decide) (n2 : Int) (n2 : Int) n2 rfl rfl rfl rfl (by omega) ?_; intro w3 hown3 hgrow3)
  have hb3 := below_grown hgrow3
  have HX3 := Lib.hid ((hb3.block w.heap.size hlt2).trans HX.out)
  have HB3 := Lib.hid (HB1.out.trans (hb3.mono HB1.out.size))
  have HO3 := Lib.hid hown3
  have hlt3 : w2.heap.size < w3.heap.size := (hown3.block _ rfl).2
  rw [HS2.out] at hlt3
  have HO4 : Hid (Own .u16 52 w3 (w.heap.size + 1) (.slice (some ⟨w.heap.size + 1, 0, none⟩) n2 n2) (List.replicate n2 0)) := Lib.hid (by rw [← HS2.out]; exact hown3)
  clear hown3 hgrow3 hb3 hw2 HO3
  go_loopw [16] (fun i wr => ∃ k : Nat, k ≤ n2 ∧ i = .int .i64 k ∧ Own .u16 52 wr (w.heap.size + 1) (.slice (some ⟨w.heap.size + 1, 0, none⟩) n2 n2) ((mskI ps zss).take k ++ (List.replicate n2 0).drop k) ∧ (∀ j, j < k → (st (zss.getD j [])).isSome = true) ∧ wr.heap[w.heap.size]? = some (.cells xs.toArray 55) ∧ Below w.heap.size w wr) (fun i _ => n2 - (intOf i).toNat)
  case atStart => exact ⟨0, Nat.zero_le _, rfl, by simpa using HO4.out, fun j hj => absurd hj (by omega), HX3.out, HB3.out⟩
  case round =>
    clear HO4 HX3 HB3
    obtain ⟨k, hk, rfl, hown, hall, hxb, hbl⟩ := hrel
    have HALL := Lib.hid hall
    have hRg : wr.rangeAt w.heap.size 0 xs := range_block hxb
    have hsz := hbl.size
    clear hall
    by_cases hlt : k < n2
    · obtain ⟨ad, A', m, c', rfl, hab, hc, hi, hmc, hnil⟩ := h2.at hlt
      have hcw : wr.cell? (ad.add k) = some (.slice A' m c') := (hbl.cell (by omega)).trans hc
      have hml := hi.1
      have hmk := hm k hlt
      have HSW := Lib.hid (HS.out A' m c' (zss.getD k []) wr (HP.out.below (hbl.mono hB)) (Nat.le_trans hB hbl.size) ((hi.keep fun p hp => hbl.cell (by omega)).up (Nat.le_trans hB2 hbl.size)) (by omega) (HW.out.below hbl (Nat.le_refl _)))
      have HNO' := Lib.hid (fun hf => HNO.out k hlt hf)
      have HMA' := Lib.hid (HMA.out k hlt)
      have HSM' := Lib.hid (fun q hf => HSM.out (zss.getD k []) q hf)
      have HLT' := Lib.hid (fun q hf => HLT.out (zss.getD k []) q hf)
      clear hc hi hml hmk hnil hmc
      have HBL := Lib.hid hbl
      have HXB := Lib.hid hxb
      have HOW := Lib.hid hown
      have hgl := (hown.block _ rfl).2
      clear hbl hxb hown
      have HK : Hid ((st (zss.getD k [])).isSome = true → ∀ j, j < k + 1 → (st (zss.getD j [])).isSome = true) := Lib.hid (fun hh j hj => by
        by_cases e : j = k
        · subst e; exact hh
        · exact HALL.out j (by omega))
      generalize st (zss.getD k []) = q at *
      go_wp2_with ((with_reducible show wpList _ _ _ _ _ _); refine wpList_load_mid rfl 55 _ rfl w.heap.size 0 rfl xs _ hRg Tryd.underlying55 rfl hinf ?_)
      refine HSW.out.mono ?_
      cases q with
      | none =>
        have HR := Lib.hid (HNO'.out rfl)
        rw [show maskV none = Value.tuple #[.int .u16 0, .bool false] from rfl]
        rintro e w4 ⟨rfl, hb4⟩
        have HB4 := Lib.hid (HBL.out.trans (hb4.mono HBL.out.size))
        clear hb4
        go_wp2
        go_ret2
        exact ⟨_, by rw [HR.out]; rfl, (fun hh => by rw [HR.out] at hh; cases hh), HB4.out⟩
      | some q =>
        have hq := HLT'.out q rfl
        have hqm : (mskI ps zss).getD k 0 = ((q : Nat) : Int) := by rw [HMA'.out, HSM'.out q rfl]
        rw [show maskV (some q) = Value.tuple #[.int .u16 (q : Nat), .bool true] from rfl]
        rintro e w4 ⟨rfl, hb4⟩
        have ho4 := HOW.out.below hb4
        have HB4 := Lib.hid (HBL.out.trans (hb4.mono HBL.out.size))
        have HX4 := Lib.hid ((hb4.block w.heap.size (by omega)).trans HXB.out)
        have hf := ho4.free k
        have hlen : k < ((mskI ps zss).take k ++ (List.replicate n2 (0 : Int)).drop k).length := by rw [List.length_append, List.length_take, List.length_drop, List.length_replicate, HML.out]; omega
        have hc2 := ho4.cell k hlen
        have hs := ho4.stored k (q : Int)
        rw [set_prefix (by simp; omega) hqm (by rw [HML.out]; exact hlt)] at hs
        have HST := Lib.hid hs
        have HKK := Lib.hid (HK.out rfl)
        clear hb4 hs ho4 hqm hlen
        go_wp2
        go_roundw
        case rel => exact ⟨k + 1, by omega, by go_num, HST.out, HKK.out, (Below.heap_setCell _ _ _ _ (by simp only; omega)).trans HX4.out, HB4.out.setCell (by simp only; omega) _⟩
        case measure => simp [intOf]; omega
    · obtain rfl : k = n2 := by omega
      have HR := Lib.hid (HYES.out HALL.out)
      rw [take_all HML.out _ (by simp)] at hown
      have HO := Lib.hid (hown.mono (show w.heap.size ≤ w.heap.size + 1 by omega))
      have HBL := Lib.hid hbl
      clear hbl hown hxb
      go_wp2
      go_ret2
      exact ⟨_, by rw [HR.out]; rfl, fun _ => ⟨_, rfl, HO.out⟩, HBL.out⟩
theorem covers_off {ps : List Pth} (h : arePs ps = false) (zss : List (List Int)) : coversP ps zss = false := by unfold coversP; rw [h]; simp
theorem covers_sts {ps : List Pth} (ha : arePs ps = true) (zss : List (List Int)) : coversP ps zss = (stsB ps zss && decide (orM (zss.map (maskL ps)) = 2 ^ ps.length - 1)) := by
  cases hs : stsB ps zss
  · have : ¬ (zss.all (isTog ps) = true) := fun h => by
      have := (stsB_tog ha).2 fun zs hz => List.all_eq_true.1 h zs hz
      rw [hs] at this
      cases this
    unfold coversP
    rw [Bool.eq_false_iff.2 this]
    rfl
  · rw [covers_masks ha ((stsB_tog ha).1 hs)]
    rfl
end Go.Proofs.YtmcoeafkbpeelaaDoor

/- ClearOf, LongestClear: the program; its table of seconds. -/
namespace Go.Proofs.YtmcoeafkbpeelaaDoor
open Go.RowKit
set_option linter.unusedVariables false

def clrTab : List Int := [0, 2, 5, 3]
/-- the program's table. -/
def Clrs (w : World) : Prop := Lib.TabIs Tryd.prog w "loop.example/g03006/impl.clearTimes" .i64 clrTab
theorem clr_global : Tryd.prog.globalNamed "loop.example/g03006/impl.clearTimes" = some 2 := by kernel_rfl
theorem Clrs.below {w w' : World} {B : Nat} (h : Clrs w) (hb : Below B w w') (hB : w.heap.size ≤ B) : Clrs w' := Joins.tab_stays clr_global h hb hB
theorem clrs_of_laid {laid : List (String × DataW Unit)} {W : World} (hL : laidMetH Tryd.prog laid W)
    (e : (laid.filter fun x => x.1 == "loop.example/g03006/impl.clearTimes") = [("loop.example/g03006/impl.clearTimes", Lib.tabData .i64 clrTab)]) : Clrs W := by
  have h := hL.filter fun x => x.1 == "loop.example/g03006/impl.clearTimes"
  rw [e, MakeChecks.laidMetH_plain _ _ _ (by rfl)] at h
  exact Lib.tabIs_of_head clr_global (by kernel_rfl) Tryd.underlying103 Tryd.underlying3 (by kernel_rfl) (by kernel_rfl) h
theorem impl_ClearOf (p : Pth) (w : World) (ht : Clrs w) : Calls Tryd.prog 94 #[p.val] w fun e w' => e = .returned (.int .i64 (clearN p)) ∧ Below w.heap.size w w' := by
  have hr := isP_facts p
  have hcc := fun x => impl_IsPath p x
  have HR : Hid (clearN p = if isP p then (if p.kind = 1 then 2 else if p.kind = 2 then 5 else 3) else 0) := Lib.hid rfl
  have HT := Lib.hid ht
  clear ht
  obtain ⟨a, b, c, d⟩ := p
  simp only [Pth.val] at *
  have hb0 := (Below.refl w.heap.size w).alloc (Nat.le_refl _) (.cells #[.int .i64 a, .int .i64 b, .int .i64 c, .int .i64 d] 45)
  have HB0 := Lib.hid hb0
  clear hb0
  go_enter Tryd.func94, Tryd.ntmps94
  go_wp2_with fail
  refine (hcc _).mono ?_
  rintro e w1 ⟨rfl, hb1⟩
  have HB := Lib.hid (HB0.out.trans (hb1.mono HB0.out.size))
  have k0 : w1.cell? ⟨w.heap.size, 1, none⟩ = some (.int .i64 b) := (hb1.cell (p := ⟨w.heap.size, 1, none⟩) (by simp)).trans (by go_simp)
  have HT1 := Lib.hid (HT.out.below HB.out (Nat.le_refl _))
  clear hb1 hcc
  cases hp : isP ⟨a, b, c, d⟩
  · rw [hp] at HR
    clear hr hp
    go_wp2
    go_ret
    exact ⟨by rw [HR.out]; rfl, HB.out⟩
  · rw [hp] at HR
    obtain ⟨_, ⟨b1, b2⟩, _⟩ := hr hp
    clear hr hp
    have hb : b = 1 ∨ b = 2 ∨ b = 3 := by omega
    rcases hb with rfl | rfl | rfl
    · have t1 := Lib.TabIs.cell HT1.out clr_global 1 (by decide)
      go_wp2
      go_ret
      exact ⟨by rw [HR.out]; rfl, HB.out⟩
    · have t1 := Lib.TabIs.cell HT1.out clr_global 2 (by decide)
      go_wp2
      go_ret
      exact ⟨by rw [HR.out]; rfl, HB.out⟩
    · have t1 := Lib.TabIs.cell HT1.out clr_global 3 (by decide)
      go_wp2
      go_ret
      exact ⟨by rw [HR.out]; rfl, HB.out⟩
set_option maxHeartbeats 1000000 in
theorem impl_longestC (A : Option Addr) (n c B : Nat) (ps : List Pth) (w : World) (h : PthsAt w B A n ps) (hB : B ≤ w.heap.size) (hn : n ≤ 4294967296) (ht : Clrs w) :
    Calls Tryd.prog 79 #[.slice A n c] w fun e w' => e = .returned (.int .i64 (mostTo ps n)) ∧ Below w.heap.size w w' := by
  have hl := h.1
  have HT := Lib.hid ht
  clear ht
  go_enter Tryd.func79, Tryd.ntmps79
  go_wp2
  go_loopw [3, 8] (fun x i wr => ∃ k : Nat, k ≤ n ∧ i = .int .i64 k ∧ x = .int .i64 (mostTo ps k) ∧ Below w.heap.size w wr) (fun _ i _ => n - (intOf i).toNat)
  case atStart => exact ⟨0, Nat.zero_le _, rfl, rfl, Below.refl _ _⟩
  case round =>
    obtain ⟨k, hk, rfl, rfl, hbl⟩ := hrel
    have hsz := hbl.size
    by_cases hlt : k < n
    · obtain ⟨ad, p, rfl, hab, hp, hq⟩ := h.at hlt
      obtain ⟨c0, c1, c2, c3⟩ := hq.below hbl (by omega)
      have HM : Hid (mostTo ps (k + 1) = maxI (mostTo ps k) (clearN p)) := Lib.hid (by show maxI _ (clearN (pAt ps k)) = _; rw [pAt_some hp])
      have hb1 := hbl.alloc hsz (.cells #[.int .i64 p.id, .int .i64 p.kind, .int .i64 p.frm, .int .i64 p.to] 45)
      have hcc := impl_ClearOf p _ (HT.out.below hb1 (Nat.le_refl _))
      have HB1 := Lib.hid hb1
      have hv : p.val = .agg #[.int .i64 p.id, .int .i64 p.kind, .int .i64 p.frm, .int .i64 p.to] := rfl
      rw [hv] at hcc
      generalize mostTo ps k = m at *
      clear hp hq hv hb1 hbl
      go_wp2_with fail
      refine hcc.mono ?_
      rintro e w2 ⟨rfl, hb2⟩
      have HB2 := Lib.hid (HB1.out.trans (hb2.mono HB1.out.size))
      clear hb2 hcc c0 c1 c2 c3
      generalize clearN p = cn at *
      go_wp2_with fail
      refine (impl_Max _ _ _).mono ?_
      rintro e w3 ⟨rfl, hb3⟩
      have HB3 := Lib.hid (HB2.out.trans (hb3.mono HB2.out.size))
      clear hb3
      go_wp2
      go_roundw
      case rel => exact ⟨k + 1, by omega, by go_num, by rw [HM.out], HB3.out⟩
      case measure => simp [intOf]; omega
    · obtain rfl : k = n := by omega
      go_wp2
      go_ret
      exact ⟨rfl, hbl⟩
end Go.Proofs.YtmcoeafkbpeelaaDoor

/- closes, holdsUp, mustClear, clearing, clearBetween, ClearBetween: the program. -/
namespace Go.Proofs.YtmcoeafkbpeelaaDoor
open Go.RowKit
set_option linter.unusedVariables false

theorem clr_mask2 {ps : List Pth} {a b : List Int} (h1 : isTog ps a = true) (h2 : isTog ps b = true) : clrS ps (rowSt ps ps.length 0) (maskL ps a) (maskL ps b) = clrB ps a b := by
  obtain ⟨ha, a1, a2, a3, _⟩ := tog_maskL h1
  obtain ⟨_, b1, b2, b3, _⟩ := tog_maskL h2
  have := clr_mask ha a1 b1 a3 b3
  rw [← a2, ← b2] at this
  exact this.symm

theorem and_pow0 (m i : Nat) : m &&& 2 ^ i = 0 ↔ m.testBit i = false := by
  constructor
  · intro h
    have e : (m &&& 2 ^ i).testBit i = false := by rw [h]; exact Nat.zero_testBit i
    rw [Nat.testBit_and, Nat.testBit_two_pow, decide_eq_true rfl, Bool.and_true] at e
    exact e
  · intro h
    refine mask_ext fun j => ?_
    rw [Nat.testBit_and, Nat.testBit_two_pow, Nat.zero_testBit]
    by_cases e : i = j
    · subst e; rw [h]; rfl
    · rw [decide_eq_false e, Bool.and_false]
theorem bit_ne0 (m i : Nat) : decide (m &&& 2 ^ i ≠ 0) = m.testBit i := by
  rw [Bool.eq_iff_iff, decide_eq_true_eq, Ne, and_pow0]
  cases m.testBit i <;> simp
/-- the cells of a change. -/
def chgC (A : Option Addr) (n c : Nat) (f : Nat → Nat) (a b : Nat) : List Value := xcells A n c f ++ [.int .u16 (a : Nat), .int .u16 (b : Nat)]
theorem chgC_len (A : Option Addr) (n c : Nat) (f : Nat → Nat) (a b : Nat) : (chgC A n c f a b).length = 15 := by simp [chgC, xcells_length]
theorem chgC_0 (A : Option Addr) (n c : Nat) (f : Nat → Nat) (a b : Nat) : (chgC A n c f a b)[0]? = some (.slice A n c) := rfl
theorem chgC_a (A : Option Addr) (n c : Nat) (f : Nat → Nat) (a b : Nat) : (chgC A n c f a b)[13]? = some (.int .u16 (a : Nat)) := by unfold chgC; rw [List.getElem?_append_right (by rw [xcells_length]; omega), xcells_length]; rfl
theorem chgC_b (A : Option Addr) (n c : Nat) (f : Nat → Nat) (a b : Nat) : (chgC A n c f a b)[14]? = some (.int .u16 (b : Nat)) := by unfold chgC; rw [List.getElem?_append_right (by rw [xcells_length]; omega), xcells_length]; rfl
theorem chgC_row (A : Option Addr) (n c : Nat) (f : Nat → Nat) (a b i : Nat) (h : i < 12) : (chgC A n c f a b)[1 + i]? = some (.int .u16 (f i : Nat)) := by unfold chgC; rw [List.getElem?_append_left (by rw [xcells_length]; omega), xcells_row _ _ _ _ _ h]
theorem chgC_one (A : Option Addr) (n c : Nat) (f : Nat → Nat) (a b : Nat) : ∀ v ∈ chgC A n c f a b, v.oneCell' = true := by
  intro v hv
  unfold chgC at hv
  rcases List.mem_append.1 hv with h | h
  · exact xcells_one _ _ _ _ v h
  · simp only [List.mem_cons, List.not_mem_nil, or_false] at h
    rcases h with rfl | rfl <;> rfl
theorem range_cell {w : World} {g : Nat} {xs : List Value} (h : w.rangeAt g 0 xs) {i : Nat} {v : Value} (hi : xs[i]? = some v) : w.cell? ⟨g, i, none⟩ = some v := by
  have := h i v hi
  rwa [Nat.zero_add] at this
theorem info_change : (Tryd.prog.info? 107).map (·.size) = some 15 := by kernel_rfl
set_option maxHeartbeats 1000000 in
set_option maxRecDepth 100000 in
theorem impl_closes (A : Option Addr) (n c : Nat) (f : Nat → Nat) (a b i : Nat) (ha : a < 4096) (hb : b < 4096) (hi : i < 12) (w : World) :
    Calls Tryd.prog 104 #[.agg (chgC A n c f a b).toArray, .int .i64 (i : Nat)] w fun e w' => e = .returned (.bool ((minusM a b).testBit i)) ∧ Below w.heap.size w w' := by
  have hX := range_block (heap_alloc_new w (.cells (chgC A n c f a b).toArray 107))
  have ca := range_cell hX (chgC_a A n c f a b)
  have cb := range_cell hX (chgC_b A n c f a b)
  have hB0 : Below w.heap.size w (w.alloc (.cells (chgC A n c f a b).toArray 107)) := (Below.refl _ _).alloc (Nat.le_refl _) _
  have HR : Hid ((minusM a b).testBit i = decide (minusM a b &&& 2 ^ i ≠ 0)) := Lib.hid (bit_ne0 _ _).symm
  have hj2 := bit_lt hi
  have hml : minusM a b < 4096 := Nat.lt_of_le_of_lt Nat.and_le_left ha
  have ho1 : bits .andNot .u16 (a : Int) (b : Int) = ((minusM a b : Nat) : Int) := u16_minus (by omega) (by omega)
  have ho2 : bits .and .u16 ((minusM a b : Nat) : Int) ((2 ^ i : Nat) : Int) = ((minusM a b &&& 2 ^ i : Nat) : Int) := u16_and_nat _ _ (by omega) (by omega)
  have hmb := Lib.hid (fun x => impl_maskBit i x hi)
  have HB0 := Lib.hid hB0
  clear hX hB0
  generalize hx : minusM a b &&& 2 ^ i = x at *
  clear hx
  generalize minusM a b = m at *
  generalize (2 : Nat) ^ i = y at *
  generalize chgC A n c f a b = xs at *
  obtain ⟨w0, hw0⟩ : ∃ w0, w0 = w.alloc (.cells xs.toArray 107) := ⟨_, rfl⟩
  rw [← hw0] at ca cb HB0
  have hx0 : ((x : Int) != 0) = decide (x ≠ 0) := by
    by_cases e : x = 0
    · subst e; rfl
    · simp [e]
  have HX0 := Lib.hid hx0
  clear hx0
  go_enter Tryd.func104, Tryd.ntmps104
  go_wp2
  rw [← hw0]
  clear hw0
  go_quiet ((go_at_call 56; exact Calls.quiet_of_same ((hmb.out _).mono fun e w' h => ⟨h.1, h.2.symm⟩)))
  go_wp2
  go_ret
  exact ⟨by rw [HR.out, ← HX0.out]; try rfl, belowN HB0.out _⟩
set_option maxHeartbeats 1000000 in
set_option maxRecDepth 100000 in
theorem impl_holdsUp (A : Option Addr) (n c : Nat) (f : Nat → Nat) (hf : ∀ k, f k < 4096) (a b i : Nat) (ha : a < 4096) (hb : b < 4096) (hi : i < 12) (w : World) :
    Calls Tryd.prog 105 #[.agg (chgC A n c f a b).toArray, .int .i64 (i : Nat)] w fun e w' => e = .returned (.bool (decide (f i &&& minusM b a ≠ 0))) ∧ Below w.heap.size w w' := by
  have hX := range_block (heap_alloc_new w (.cells (chgC A n c f a b).toArray 107))
  have ca := range_cell hX (chgC_a A n c f a b)
  have cb := range_cell hX (chgC_b A n c f a b)
  have ci := range_cell hX (chgC_row A n c f a b i hi)
  have hB0 : Below w.heap.size w (w.alloc (.cells (chgC A n c f a b).toArray 107)) := (Below.refl _ _).alloc (Nat.le_refl _) _
  have hml : minusM b a < 4096 := Nat.lt_of_le_of_lt Nat.and_le_left hb
  have hfi := hf i
  have ho1 : bits .andNot .u16 (b : Int) (a : Int) = ((minusM b a : Nat) : Int) := u16_minus (by omega) (by omega)
  have ho2 : bits .and .u16 ((f i : Nat) : Int) ((minusM b a : Nat) : Int) = ((f i &&& minusM b a : Nat) : Int) := u16_and_nat _ _ (by omega) (by omega)
  have HB0 := Lib.hid hB0
  have i1 : (0 : Int) ≤ (i : Int) := by omega
  have i2 : (i : Int) < 12 := by omega
  clear hX hB0 hf
  generalize f i &&& minusM b a = x at *
  generalize minusM b a = m at *
  generalize chgC A n c f a b = xs at *
  generalize f i = fi at *
  obtain ⟨w0, hw0⟩ : ∃ w0, w0 = w.alloc (.cells xs.toArray 107) := ⟨_, rfl⟩
  rw [← hw0] at ca cb ci HB0
  have hx0 : ((x : Int) != 0) = decide (x ≠ 0) := by
    by_cases e : x = 0
    · subst e; rfl
    · simp [e]
  have HX0 := Lib.hid hx0
  clear hx0
  go_enter Tryd.func105, Tryd.ntmps105
  go_wp2
  rw [← hw0]
  clear hw0
  go_quiet (fail)
  go_wp2
  go_ret
  exact ⟨by rw [← HX0.out]; try rfl, belowN HB0.out _⟩
set_option maxHeartbeats 2000000 in
set_option maxRecDepth 100000 in
theorem impl_mustClear (A : Option Addr) (n c : Nat) (f : Nat → Nat) (hf : ∀ k, f k < 4096) (a b i : Nat) (ha : a < 4096) (hb : b < 4096) (hi : i < 12) (w : World) :
    Calls Tryd.prog 95 #[.agg (chgC A n c f a b).toArray, .int .i64 (i : Nat)] w fun e w' => e = .returned (.bool (mustI f a b i)) ∧ Below w.heap.size w w' := by
  have hX := heap_alloc_new w (.cells (chgC A n c f a b).toArray 107)
  have hB0 : Below w.heap.size w (w.alloc (.cells (chgC A n c f a b).toArray 107)) := (Below.refl _ _).alloc (Nat.le_refl _) _
  have hs0 : (w.alloc (.cells (chgC A n c f a b).toArray 107)).heap.size = w.heap.size + 1 := by simp
  have H1 := Lib.hid (fun x => impl_closes A n c f a b i ha hb hi x)
  have H2 := Lib.hid (fun x => impl_holdsUp A n c f hf a b i ha hb hi x)
  have HR : Hid (mustI f a b i = ((minusM a b).testBit i && decide (f i &&& minusM b a ≠ 0))) := Lib.hid rfl
  have hln := chgC_len A n c f a b
  have hinf : (Tryd.prog.info? 107).map (·.size) = some (chgC A n c f a b).length := by rw [hln]; exact info_change
  have HB0 := Lib.hid hB0
  have HX := Lib.hid hX
  generalize chgC A n c f a b = xs at *
  generalize (minusM a b).testBit i = r1 at *
  generalize decide (f i &&& minusM b a ≠ 0) = r2 at *
  obtain ⟨w0, hw0⟩ : ∃ w0, w0 = w.alloc (.cells xs.toArray 107) := ⟨_, rfl⟩
  rw [← hw0] at HB0 HX hs0
  have HS0 := Lib.hid hs0
  clear hX hB0 hs0 hf
  go_enter Tryd.func95, Tryd.ntmps95
  go_wp2
  rw [← hw0]
  clear hw0
  have hl0 : w.heap.size < w0.heap.size := by have := HS0.out; omega
  obtain ⟨w1, hw1⟩ : ∃ w1, w1 = w0.alloc (.cells #[.func (.func 104) #[] #[], .func (.func 105) #[] #[]] 123) := ⟨_, rfl⟩
  have hN1 : w1.heap[w.heap.size + 1]? = some (.cells #[.func (.func 104) #[] #[], .func (.func 105) #[] #[]] 123) := by rw [hw1, ← HS0.out]; exact heap_alloc_new w0 _
  have hX1 : w1.heap[w.heap.size]? = some (.cells xs.toArray 107) := by rw [hw1]; exact (Below.heap_alloc w0 _ _ hl0).trans HX.out
  have hB1 : Below w.heap.size w w1 := by rw [hw1]; exact HB0.out.alloc HB0.out.size _
  have hs1 : w1.heap.size = w.heap.size + 2 := by rw [hw1]; have := HS0.out; simp; omega
  have HB1 := Lib.hid hB1
  have hR1 := range_block hX1
  have HN1 := Lib.hid hN1
  have HX1 := Lib.hid hX1
  have HS1 := Lib.hid hs1
  have d0 : w1.cell? ⟨w.heap.size + 1, 0, none⟩ = some (.func (.func 104) #[] #[]) := (cell_of_row _ _ 0 _ _ _ hN1).trans rfl
  rw [← hw1]
  clear hw1 hN1 hX1 hB1 hs1 HX HB0 HS0
  refine wp_loop_rounds 3 ?_
  rw [rounds_succ]
  go_wp2_with ((with_reducible show wpList _ _ _ _ _ _); refine wpList_load_mid rfl 107 _ rfl w.heap.size 0 rfl xs _ hR1 Tryd.underlying107 rfl hinf ?_)
  refine (H1.out _).mono ?_
  rintro e w2 ⟨rfl, hb2⟩
  have HB2 := Lib.hid (HB1.out.trans (hb2.mono HB1.out.size))
  have hX2 := (hb2.block w.heap.size (by have := HS1.out; omega)).trans HX1.out
  have hR2 := range_block hX2
  have d1 : w2.cell? ⟨w.heap.size + 1, 1, none⟩ = some (.func (.func 105) #[] #[]) := (cell_of_row _ _ 1 _ _ _ ((hb2.block (w.heap.size + 1) (by have := HS1.out; omega)).trans HN1.out)).trans rfl
  clear hb2 hX2 hR1 d0
  cases r1
  · go_wp2
    go_ret
    exact ⟨by rw [HR.out]; rfl, HB2.out⟩
  · go_wp2
    rw [rounds_succ]
    go_wp2_with ((with_reducible show wpList _ _ _ _ _ _); refine wpList_load_mid rfl 107 _ rfl w.heap.size 0 rfl xs _ hR2 Tryd.underlying107 rfl hinf ?_)
    refine (H2.out _).mono ?_
    rintro e w3 ⟨rfl, hb3⟩
    have HB3 := Lib.hid (HB2.out.trans (hb3.mono HB2.out.size))
    clear hb3 hR2 d1
    cases r2
    · go_wp2
      go_ret
      exact ⟨by rw [HR.out]; rfl, HB3.out⟩
    · go_wp2
      rw [rounds_succ]
      go_wp2
      go_ret
      exact ⟨by rw [HR.out]; rfl, HB3.out⟩

theorem pcells_snoc (ps : List Pth) (p : Pth) : pcells (ps ++ [p]) = pcells ps ++ p.cells := by simp [pcells]
theorem cells_one (p : Pth) : ∀ u ∈ p.cells, u.oneCell' = true := by
  intro u hu
  simp only [Pth.cells, List.mem_cons, List.not_mem_nil, or_false] at hu
  rcases hu with rfl | rfl | rfl | rfl <;> rfl
set_option maxHeartbeats 2000000 in
set_option maxRecDepth 100000 in
theorem impl_clearing (A : Option Addr) (n c B : Nat) (ps : List Pth) (f : Nat → Nat) (hf : ∀ k, f k < 4096) (a b : Nat) (ha : a < 4096) (hb : b < 4096) (h12 : n ≤ 12) (w : World) (h : PthsAt w B A n ps) (hB : B ≤ w.heap.size) :
    Calls Tryd.prog 80 #[.agg (chgC A n c f a b).toArray] w fun e w' => ∃ v, e = .returned v ∧ w'.ownsRow w.heap.size 45 4 v (clrL ps f a b n).length (pcells (clrL ps f a b n)) ∧ Below w.heap.size w w' := by
  have hl := h.1
  have hX := heap_alloc_new w (.cells (chgC A n c f a b).toArray 107)
  have hB0 : Below w.heap.size w (w.alloc (.cells (chgC A n c f a b).toArray 107)) := (Below.refl _ _).alloc (Nat.le_refl _) _
  have hs0 : (w.alloc (.cells (chgC A n c f a b).toArray 107)).heap.size = w.heap.size + 1 := by simp
  have HM := Lib.hid (fun i (hi : i < 12) x => impl_mustClear A n c f hf a b i ha hb hi x)
  have HCS := Lib.hid (fun k => clrL_succ ps f a b k)
  have HCN := Lib.hid (fun k => clrL_len ps f a b k)
  have hln := chgC_len A n c f a b
  have hinf : (Tryd.prog.info? 107).map (·.size) = some (chgC A n c f a b).length := by rw [hln]; exact info_change
  have hx0 : ∀ hh : 0 < (chgC A n c f a b).length, (chgC A n c f a b)[0]'hh = .slice A n c := fun _ => rfl
  have HB0 := Lib.hid hB0
  have HX := Lib.hid hX
  have HP := Lib.hid h
  have hz := clrL_zero ps f a b
  generalize hcl : clrL ps f a b = cl at *
  generalize hmu : mustI f a b = mu at *
  generalize chgC A n c f a b = xs at *
  obtain ⟨w0, hw0⟩ : ∃ w0, w0 = w.alloc (.cells xs.toArray 107) := ⟨_, rfl⟩
  rw [← hw0] at HB0 HX hs0
  have hl0 : w.heap.size < w0.heap.size := by omega
  have HZ := Lib.hid hz
  clear hX hB0 hs0 hf hcl hmu h hz
  go_enter Tryd.func80, Tryd.ntmps80
  go_wp2
  rw [← hw0]
  clear hw0 hx0
  go_loopw [3, 10] (fun v i wr => ∃ k : Nat, k ≤ n ∧ i = .int .i64 k ∧ wr.ownsRow (w.heap.size + 1) 45 4 v (cl k).length (pcells (cl k)) ∧ wr.heap[w.heap.size]? = some (.cells xs.toArray 107) ∧ Below w.heap.size w wr) (fun _ i _ => n - (intOf i).toNat)
  case atStart => exact ⟨0, Nat.zero_le _, rfl, by rw [HZ.out]; exact ownr_nil _ _ _ _, HX.out, HB0.out⟩
  case round =>
    clear HX HB0
    obtain ⟨k, hk, rfl, hown, hxb, hbl⟩ := hrel
    have hsz := hbl.size
    have hxl : w.heap.size < wr.heap.size := by
      rcases Nat.lt_or_ge w.heap.size wr.heap.size with h1 | h1
      · exact h1
      · rw [Array.getElem?_eq_none h1] at hxb; cases hxb
    by_cases hlt : k < n
    · obtain ⟨ad, p, rfl, hab, hp, hq⟩ := HP.out.at hlt
      obtain ⟨c0, c1, c2, c3⟩ := hq.below hbl (by omega)
      have HPA : Hid (pAt ps k = p) := Lib.hid (pAt_some hp)
      have HSN := Lib.hid (HCS.out k)
      have hcn := HCN.out k
      have hbA := (Below.refl wr.heap.size wr).alloc (Nat.le_refl _) (.cells #[.int .i64 p.id, .int .i64 p.kind, .int .i64 p.frm, .int .i64 p.to] 45)
      have hxA := (hbA.block w.heap.size hxl).trans hxb
      have hRA := range_block hxA
      have HXA := Lib.hid hxA
      have HOA := Lib.hid (ownr_below hown hbA)
      have HBA := Lib.hid (hbl.trans (hbA.mono hsz))
      have HMC := Lib.hid (HM.out k (by omega) (wr.alloc (.cells #[.int .i64 p.id, .int .i64 p.kind, .int .i64 p.frm, .int .i64 p.to] 45)))
      have hpb : PthAt (wr.alloc (.cells #[.int .i64 p.id, .int .i64 p.kind, .int .i64 p.frm, .int .i64 p.to] 45)) ⟨wr.heap.size, 0, none⟩ p := pth_of_block (heap_alloc_new wr _)
      have HPB := Lib.hid hpb
      have hsA : (wr.alloc (.cells #[.int .i64 p.id, .int .i64 p.kind, .int .i64 p.frm, .int .i64 p.to] 45)).heap.size = wr.heap.size + 1 := by simp
      have HSA := Lib.hid hsA
      obtain ⟨wA, hwA⟩ : ∃ wA, wA = wr.alloc (.cells #[.int .i64 p.id, .int .i64 p.kind, .int .i64 p.frm, .int .i64 p.to] 45) := ⟨_, rfl⟩
      rw [← hwA] at hRA HXA HOA HBA HMC HPB HSA
      clear hp hq hown hxb hbl hbA hxA hpb hsA
      go_wp2_with ((with_reducible show wpList _ _ _ _ _ _); rw [← hwA]; refine wpList_load_mid rfl 107 _ rfl w.heap.size 0 rfl xs _ hRA Tryd.underlying107 rfl hinf ?_)
      rw [← hwA]
      clear hwA c0 c1 c2 c3
      refine HMC.out.mono ?_
      cases hm : mu k
      · rintro e w2 ⟨rfl, hb2⟩
        have HO2 := Lib.hid (ownr_below HOA.out hb2)
        have HX2 := Lib.hid ((hb2.block w.heap.size (by have := HSA.out; omega)).trans HXA.out)
        have HB2 := Lib.hid (HBA.out.trans (hb2.mono HBA.out.size))
        have HC2 : Hid (cl (k + 1) = cl k) := Lib.hid (by rw [HSN.out, hm]; simp)
        clear hb2 hm hRA
        go_wp2
        go_roundw
        case rel => exact ⟨k + 1, by omega, by go_num, by rw [HC2.out]; exact HO2.out, HX2.out, HB2.out⟩
        case measure => simp [intOf]; omega
      · rintro e w2 ⟨rfl, hb2⟩
        have hO2 := ownr_below HOA.out hb2
        have HX2 := Lib.hid ((hb2.block w.heap.size (by have := HSA.out; omega)).trans HXA.out)
        have hB2 := HBA.out.trans (hb2.mono HBA.out.size)
        have HC2 : Hid (cl (k + 1) = cl k ++ [p]) := Lib.hid (by rw [HSN.out, hm, HPA.out]; simp)
        obtain ⟨d0, d1, d2, d3⟩ := pth_head (HPB.out.below hb2 (by have := HSA.out; simp only; omega))
        have hs2 := hB2.size
        have hx2 : w.heap.size < w2.heap.size := by have := hb2.size; have := HSA.out; omega
        clear hb2 hm hRA
        go_wp2_with (at_builtin; refine wpList_appR1 rfl _ _ 31 rfl 45 _ 4 32 Tryd.underlying31 info_pth rfl (by decide) (by decide) (w.heap.size + 1) _ _ _ rfl hO2 (by omega) p.cells rfl (cells_one p) _ _ w2.heap.size hx2 rfl (by simp) ?_; intro v4 w4 hown4 hgrow4 hat4)
        have hb4 := ownr_push hO2 (Nat.le_succ _) (hB2.alloc hs2 _) (by simp; omega) hgrow4
        have hx4 : w4.heap[w.heap.size]? = some (.cells xs.toArray 107) := by
          have hg := hgrow4.block w.heap.size (by simp; omega) (fun e => ?_)
          · exact hg.trans ((Below.heap_alloc w2 _ _ hx2).trans HX2.out)
          · have := (ownr_block hO2 _ e.symm).1
            omega
        rw [← pcells_snoc] at hown4
        clear hgrow4 hat4 hO2 hB2 d0 d1 d2 d3
        go_roundw
        case rel => exact ⟨k + 1, by omega, by go_num, by rw [HC2.out, List.length_append]; exact hown4, hx4, hb4⟩
        case measure => simp [intOf]; omega
    · obtain rfl : k = n := by omega
      go_wp2
      go_ret
      exact ⟨_, rfl, ownr_mono hown (Nat.le_succ _), hbl⟩
theorem xlit (A : Option Addr) (n c : Nat) (f : Nat → Nat) : xcells A n c f = [.slice A n c, .int .u16 (f 0 : Nat), .int .u16 (f 1 : Nat), .int .u16 (f 2 : Nat), .int .u16 (f 3 : Nat), .int .u16 (f 4 : Nat), .int .u16 (f 5 : Nat), .int .u16 (f 6 : Nat), .int .u16 (f 7 : Nat), .int .u16 (f 8 : Nat), .int .u16 (f 9 : Nat), .int .u16 (f 10 : Nat), .int .u16 (f 11 : Nat)] := rfl
theorem clit (A : Option Addr) (n c : Nat) (f : Nat → Nat) (a b : Nat) : chgC A n c f a b = [.slice A n c, .int .u16 (f 0 : Nat), .int .u16 (f 1 : Nat), .int .u16 (f 2 : Nat), .int .u16 (f 3 : Nat), .int .u16 (f 4 : Nat), .int .u16 (f 5 : Nat), .int .u16 (f 6 : Nat), .int .u16 (f 7 : Nat), .int .u16 (f 8 : Nat), .int .u16 (f 9 : Nat), .int .u16 (f 10 : Nat), .int .u16 (f 11 : Nat), .int .u16 (a : Nat), .int .u16 (b : Nat)] := rfl
set_option maxHeartbeats 2000000 in
set_option maxRecDepth 100000 in
theorem impl_clearB (A : Option Addr) (n c B : Nat) (ps : List Pth) (f : Nat → Nat) (hf : ∀ k, f k < 4096) (a b : Nat) (ha : a < 4096) (hb : b < 4096) (h12 : n ≤ 12) (w : World) (h : PthsAt w B A n ps) (hB : B ≤ w.heap.size) (ht : Clrs w) :
    Calls Tryd.prog 58 #[.agg (xcells A n c f).toArray, .int .u16 (a : Nat), .int .u16 (b : Nat)] w fun e w' => e = .returned (.int .i64 (clrS ps f a b)) ∧ Below w.heap.size w w' := by
  have hl := h.1
  subst hl
  have HR : Hid (clrS ps f a b = mostTo (clrL ps f a b ps.length) (clrL ps f a b ps.length).length) := Lib.hid rfl
  have hX := heap_alloc_new w (.cells (xcells A ps.length c f).toArray 55)
  have hB0 : Below w.heap.size w (w.alloc (.cells (xcells A ps.length c f).toArray 55)) := (Below.refl _ _).alloc (Nat.le_refl _) _
  have hln : (xcells A ps.length c f).length = 13 := xcells_length _ _ _ _
  have hinf : (Tryd.prog.info? 55).map (·.size) = some (xcells A ps.length c f).length := by rw [hln]; exact info_cross
  have HCL := Lib.hid (impl_clearing A ps.length c B ps f hf a b ha hb h12 (w.alloc (.cells (xcells A ps.length c f).toArray 55)) (h.below (hB0.mono hB)) (Nat.le_trans hB hB0.size))
  have hcn := clrL_len ps f a b ps.length
  have hR0 := range_block hX
  have HB0 := Lib.hid hB0
  have HT := Lib.hid ht
  rw [clit] at HCL
  rw [xlit] at HCL HB0 hR0 hinf hX ⊢
  generalize clrL ps f a b ps.length = l at *
  generalize f 0 = f0 at *
  generalize f 1 = f1 at *
  generalize f 2 = f2 at *
  generalize f 3 = f3 at *
  generalize f 4 = f4 at *
  generalize f 5 = f5 at *
  generalize f 6 = f6 at *
  generalize f 7 = f7 at *
  generalize f 8 = f8 at *
  generalize f 9 = f9 at *
  generalize f 10 = f10 at *
  generalize f 11 = f11 at *
  obtain ⟨w0, hw0⟩ : ∃ w0, w0 = w.alloc (.cells [.slice A ps.length c, .int .u16 (f0 : Nat), .int .u16 (f1 : Nat), .int .u16 (f2 : Nat), .int .u16 (f3 : Nat), .int .u16 (f4 : Nat), .int .u16 (f5 : Nat), .int .u16 (f6 : Nat), .int .u16 (f7 : Nat), .int .u16 (f8 : Nat), .int .u16 (f9 : Nat), .int .u16 (f10 : Nat), .int .u16 (f11 : Nat)].toArray 55) := ⟨_, rfl⟩
  rw [← hw0] at HB0 hR0 HCL
  clear hX hB0 hf h ht hln
  go_enter Tryd.func58, Tryd.ntmps58
  go_wp2_with ((with_reducible show wpList _ _ _ _ _ _); rw [← hw0]; refine wpList_load_mid rfl 55 _ rfl w.heap.size 0 rfl _ _ hR0 Tryd.underlying55 rfl hinf ?_)
  rw [← hw0]
  clear hw0
  refine HCL.out.mono ?_
  rintro e w1 ⟨v, rfl, hown, hb1⟩
  obtain ⟨Av, cv, rfl⟩ := ownr_sliced hown
  have HB1 := Lib.hid (HB0.out.trans (hb1.mono HB0.out.size))
  have HPL : Hid (PthsAt w1 w1.heap.size Av l.length l) := Lib.hid ⟨rfl, ownr_cells hown⟩
  have HLC := Lib.hid (impl_longestC Av l.length cv w1.heap.size l w1 HPL.out (Nat.le_refl _) (by omega) (HT.out.below HB1.out (Nat.le_refl _)))
  clear hown hb1 hR0
  go_wp2_with fail
  refine HLC.out.mono ?_
  rintro e w2 ⟨rfl, hb2⟩
  go_wp2
  go_ret
  exact ⟨by rw [HR.out]; try rfl, HB1.out.trans (hb2.mono HB1.out.size)⟩
theorem cells_belowD {B : Nat} {w w' : World} (h : Below B w w') {g : Nat} (hg : g < B) {xs : List Value} (hr : w.rangeAt g 0 xs) : w'.rangeAt g 0 xs := fun j v hj => (h.cell (p := ⟨g, 0 + j, none⟩) hg).trans (hr j v hj)
theorem below_drewD {a w : World} (h : Below a.heap.size a w) : Below a.heap.size a w.drew := ⟨h.os, h.tape, h.output, h.size, h.block⟩
end Go.Proofs.YtmcoeafkbpeelaaDoor

/- The indexes of a mask below a bound: the iterator's contract. -/
namespace Go.Proofs.YtmcoeafkbpeelaaDoor
open Go.RowKit Go.Shelf
attribute [local go_sem] Oper.semAt_some
set_option linter.unusedVariables false

abbrev IdxN (N : Nat) := { i : Nat // i < N }
/-- the members, each with its bound. -/
def idxsN (N m : Nat) : List (IdxN N) := (List.finRange N).filterMap fun i => if m.testBit i.val then some ⟨i.val, i.isLt⟩ else none
def encN {N : Nat} (i : IdxN N) : Array Value := #[.int .i64 (i.val : Int)]
theorem idxsN_mem {N m : Nat} {i : IdxN N} : i ∈ idxsN N m ↔ m.testBit i.val = true := by
  unfold idxsN
  rw [List.mem_filterMap]
  constructor
  · rintro ⟨j, _, h⟩
    split at h
    · rename_i hb
      injection h with h
      rw [← h]
      exact hb
    · cases h
  · intro h
    exact ⟨⟨i.val, i.2⟩, List.mem_finRange _, by rw [if_pos h]⟩
theorem idxsN_asc (N m : Nat) : ((idxsN N m).map (·.val)).Pairwise (· < ·) := by
  unfold idxsN
  rw [List.map_filterMap, List.pairwise_filterMap]
  refine (List.pairwise_lt_finRange (n := N)).imp ?_
  intro a b hab x hx y hy
  simp only [Option.map_eq_some_iff] at hx hy
  obtain ⟨x', hx, rfl⟩ := hx
  obtain ⟨y', hy, rfl⟩ := hy
  split at hx
  · split at hy
    · injection hx with hx
      injection hy with hy
      rw [← hx, ← hy]
      exact hab
    · cases hy
  · cases hx
theorem idxsN_val {N m : Nat} (hN : N ≤ 12) (hm : m < 2 ^ N) : (idxsN N m).map (·.val) = bitsOf m := asc_nat (idxsN_asc N m) (bits_asc m) fun x => by
  rw [bitsOf_mem, List.mem_map]
  constructor
  · rintro ⟨i, h, rfl⟩
    exact ⟨by have := i.2; omega, idxsN_mem.1 h⟩
  · rintro ⟨_, h⟩
    exact ⟨⟨x, bit_in hm h⟩, idxsN_mem.2 h, rfl⟩
theorem idxN_inj {N : Nat} : ∀ {a b : List (IdxN N)}, a.map (·.val) = b.map (·.val) → a = b
  | [], [], _ => rfl
  | [], _ :: _, h => by simp at h
  | _ :: _, [], h => by simp at h
  | x :: a, y :: b, h => by
    simp only [List.map_cons, List.cons.injEq] at h
    rw [Subtype.ext h.1, idxN_inj h.2]
theorem idxsN_zero {N : Nat} : idxsN N 0 = [] := by
  apply List.eq_nil_iff_forall_not_mem.2
  intro i hi
  have := idxsN_mem.1 hi
  rw [Nat.zero_testBit] at this
  cases this
theorem low_in {N m : Nat} (hN : N ≤ 12) (h : m < 2 ^ N) (h0 : m ≠ 0) : lowB m < N := by
  have h12 := pow_le12 hN
  have hb := (low_ok (by omega) h0).bits
  have : lowB m ∈ bitsOf m := by rw [hb]; exact List.mem_cons_self
  exact bit_in h (bitsOf_mem.1 this).2
theorem idxsN_cons {N m : Nat} (hN : N ≤ 12) (h : m < 2 ^ N) (h0 : m ≠ 0) (hl : lowB m < N) : idxsN N m = ⟨lowB m, hl⟩ :: idxsN N (clr m) := idxN_inj (by
  have h12 := pow_le12 hN
  have ho := low_ok (by omega) h0
  rw [idxsN_val hN h, List.map_cons, idxsN_val hN (Nat.lt_trans ho.less h)]
  exact ho.bits)
theorem idxsN_len {N m : Nat} (hN : N ≤ 12) (hm : m < 2 ^ N) : (idxsN N m).length ≤ 12 := by
  have h := congrArg List.length (idxsN_val hN hm)
  rw [List.length_map] at h
  rw [h]
  unfold bitsOf
  exact Nat.le_trans (List.length_filter_le _ _) (by simp)
theorem idxsN_map {N m : Nat} (hN : N ≤ 12) (hm : m < 2 ^ N) (ps : List Pth) : (idxsN N m).map (fun i => idAt ps i.val) = idsM ps m := by
  rw [idsM_bits, ← idxsN_val hN hm, List.map_map]
  rfl
set_option maxHeartbeats 1000000 in
set_option maxRecDepth 100000 in
theorem idx1_inN (N : Nat) (hN : N ≤ 12) (n : Nat) (hn : 2 ≤ n) (l Bn n₀ : Nat) (m : Nat) (hm : m < 2 ^ N) (J Jx : List (IdxN N) → World → Prop)
    (hY : ∀ pre x W, J pre W → pre.length < 12 → YieldAt Fence.wide (n - 1) Tryd.prog l (encN x) W fun e W' =>
      (e = .returned (.bool true) ∧ J (pre ++ [x]) W' ∧ Below n₀ W W') ∨ (e = .returned (.bool false) ∧ Jx (pre ++ [x]) W'))
    (W : World) (hBn : W.cell? ⟨Bn, 0, none⟩ = some (.int .u16 (m : Nat))) (hw : Brus W) (hg : 1 < n₀) (h0 : J [] W) :
    CallsIn Fence.wide n Tryd.prog 91 #[.func (.yield l) #[] #[], .pointer (some ⟨Bn, 0, none⟩)] W fun e W' => (∃ v, e = .returned v) ∧
      ((∃ ys, ys = idxsN N m ∧ J ys W') ∨ (∃ pre, pre <+: idxsN N m ∧ Jx pre W')) := by
  refine callsIn_of_wp Tryd.func91 rfl trivial ?_ rfl
  simp only [Tryd.ntmps91, List.size_toArray, List.length_cons, List.length_nil, Nat.reduceAdd, Nat.reduceSub, Array.replicate_succ, Array.replicate_zero, List.push_toArray, List.append_toArray, List.nil_append, List.cons_append]
  have h12 := pow_le12 hN
  have hml := idxsN_len hN hm
  gi_wp2
  gi_loopw [3] (fun p wr => ∃ (pre : List (IdxN N)) (q : Nat), p = .int .u16 (q : Nat) ∧ q < 2 ^ N ∧ idxsN N m = pre ++ idxsN N q ∧ Brus wr ∧ J pre wr)
    (fun p _ => (intOf p).toNat)
  case atStart =>
    exact ⟨[], m, rfl, hm, rfl, hw, h0⟩
  case round =>
    clear hBn hw h0
    obtain ⟨pre, q, rfl, hq, hx, hws, hJs⟩ := hrel
    by_cases hz : q = 0
    · subst hz
      have HX : Hid (pre = idxsN N m) := Lib.hid (by rw [hx, idxsN_zero, List.append_nil])
      clear hx
      gi_wp2
      go_end0
      exact ⟨⟨_, rfl⟩, .inl ⟨pre, HX.out, hJs⟩⟩
    · obtain ⟨hb, hls, hlo12, hng, hdc⟩ := low_ok (Nat.lt_of_lt_of_le hq h12) hz
      have hlo := low_in hN hq hz
      have hc := idxsN_cons hN hq hz hlo
      have HX : Hid (idxsN N m = (pre ++ [⟨lowB q, hlo⟩]) ++ idxsN N (clr q)) := Lib.hid (by rw [hx, hc]; simp)
      have hlen : pre.length < 12 := by
        have := congrArg List.length hx
        rw [hc, List.length_append, List.length_cons] at this
        omega
      obtain ⟨fn, tmps, assign, body, hy, hR⟩ := hY pre ⟨lowB q, hlo⟩ wr hJs hlen
      have hq4 := Nat.lt_of_lt_of_le hq h12
      have ht := impl_Trailing16 q wr hq4 hz hws
      unfold encN at hy
      dsimp only at hy
      have hne : ((q : Int) != 0) = true := by simp; omega
      have HT := Lib.hid ht
      clear hb hng hc hx ht
      gi_wp2
      refine ⟨trivial, fun _ => by omega, ?_⟩
      refine (callsIn_wide.2 HT.out).mono ?_
      rintro e w' ⟨rfl, rfl⟩
      gi_wp2
      refine ⟨fun _ => by omega, ?_⟩
      refine hR.mono ?_
      have hsub : ((q : Int) - 1) = ((q - 1 : Nat) : Int) := by omega
      have hq0 : (0 : Int) ≤ (q : Int) - 1 := by omega
      rintro e W3 (⟨rfl, hJ3, hk3⟩ | ⟨rfl, hJx3⟩)
      · have hw3 := Lib.hid (hws.under hk3 hg)
        have HJ := Lib.hid hJ3
        have hcq : clr q < 2 ^ N := Nat.lt_trans hls hq
        clear hws hJs hR hy hJ3 hk3 hsub HT hY
        gi_wp2
        go_roundw
        case rel => exact ⟨pre ++ [⟨lowB q, hlo⟩], clr q, by first | rfl | (rw [hdc]), hcq, HX.out, hw3.out, HJ.out⟩
        case measure => simp [intOf]; omega
      · have HJ := Lib.hid hJx3
        clear hws hJs hR hy hJx3 hsub HT hY
        gi_wp2
        refine bodyPost_ret (results_none rfl _ _ _) rfl ?_
        exact ⟨⟨_, rfl⟩, .inr ⟨pre ++ [⟨lowB q, hlo⟩], ⟨idxsN N (clr q), HX.out.symm⟩, HJ.out⟩⟩
theorem idx_stopsN (N : Nat) (hN : N ≤ 12) (n : Nat) (hn : 2 ≤ n) (Bn n₀ m : Nat) (hm : m < 2 ^ N) (w : World) (hBn : Bn < w.heap.size) (hn₀ : n₀ ≤ w.heap.size) (hc : w.cell? ⟨Bn, 0, none⟩ = some (.int .u16 (m : Nat))) (hw : Brus w) (hg : 1 < n₀) :
    SeqStopsK Fence.wide n Tryd.prog 91 #[.pointer (some ⟨Bn, 0, none⟩)] encN (Below n₀) (fun ys => ys = idxsN N m) (fun pre => pre <+: idxsN N m) 12 w := fun l J Jx W hW _ _ hY h0 =>
  idx1_inN N hN n hn l Bn n₀ m hm J Jx hY W ((hW.cell (p := ⟨Bn, 0, none⟩) hBn).trans hc) (hw.under hW (by omega)) hg h0
end Go.Proofs.YtmcoeafkbpeelaaDoor

/- The size of a mask: math/bits.OnesCount16. -/
namespace Go.Proofs.YtmcoeafkbpeelaaDoor
open Go.RowKit
set_option linter.unusedVariables false

/-- how many bits. -/
def popc (m : Nat) : Nat := ((List.range 12).filter m.testBit).length
def bsum (m : Nat) : Nat := ((List.range 8).filter m.testBit).length
/-- the table of the bits of a byte. -/
abbrev popTab : ByteArray := ⟨#[0, 1, 1, 2, 1, 2, 2, 3, 1, 2, 2, 3, 2, 3, 3, 4, 1, 2, 2, 3, 2, 3, 3, 4, 2, 3, 3, 4, 3, 4, 4, 5, 1, 2, 2, 3, 2, 3, 3, 4, 2, 3, 3, 4, 3, 4, 4, 5, 2, 3, 3, 4, 3, 4, 4, 5, 3, 4, 4, 5, 4, 5, 5, 6, 1, 2, 2, 3, 2, 3, 3, 4, 2, 3, 3, 4, 3, 4, 4, 5, 2, 3, 3, 4, 3, 4, 4, 5, 3, 4, 4, 5, 4, 5, 5, 6, 2, 3, 3, 4, 3, 4, 4, 5, 3, 4, 4, 5, 4, 5, 5, 6, 3, 4, 4, 5, 4, 5, 5, 6, 4, 5, 5, 6, 5, 6, 6, 7, 1, 2, 2, 3, 2, 3, 3, 4, 2, 3, 3, 4, 3, 4, 4, 5, 2, 3, 3, 4, 3, 4, 4, 5, 3, 4, 4, 5, 4, 5, 5, 6, 2, 3, 3, 4, 3, 4, 4, 5, 3, 4, 4, 5, 4, 5, 5, 6, 3, 4, 4, 5, 4, 5, 5, 6, 4, 5, 5, 6, 5, 6, 6, 7, 2, 3, 3, 4, 3, 4, 4, 5, 3, 4, 4, 5, 4, 5, 5, 6, 3, 4, 4, 5, 4, 5, 5, 6, 4, 5, 5, 6, 5, 6, 6, 7, 3, 4, 4, 5, 4, 5, 5, 6, 4, 5, 5, 6, 5, 6, 6, 7, 4, 5, 5, 6, 5, 6, 6, 7, 5, 6, 6, 7, 6, 7, 7, 8]⟩
theorem popTab_size : popTab.size = 256 := by kernel_rfl
theorem popTab_at : ∀ b : Fin 256, (popTab[b.val]'(by rw [popTab_size]; exact b.isLt)).toNat = bsum b.val := by decide +kernel
theorem popc_sum (m : Nat) (h : m < 4096) : popc m = bsum (m / 256) + bsum (m % 256) := by
  have e1 : List.range 12 = List.range 8 ++ (List.range 4).map (8 + ·) := by decide
  have e2 : List.range 8 = List.range 4 ++ (List.range 4).map (4 + ·) := by decide
  have h1 : bsum (m % 256) = ((List.range 8).filter m.testBit).length := by
    unfold bsum
    congr 1
    refine List.filter_congr fun j hj => ?_
    have hj8 := List.mem_range.1 hj
    rw [show (256 : Nat) = 2 ^ 8 from rfl, Nat.testBit_mod_two_pow]
    simp [hj8]
  have h2 : bsum (m / 256) = ((List.range 4).filter (fun j => m.testBit (8 + j))).length := by
    unfold bsum
    rw [e2, List.filter_append, List.length_append]
    have z : ((List.range 4).map (4 + ·)).filter (m / 256).testBit = [] := by
      rw [List.filter_eq_nil_iff]
      intro j hj
      obtain ⟨i, _, rfl⟩ := List.mem_map.1 hj
      rw [show (256 : Nat) = 2 ^ 8 from rfl, Nat.testBit_div_two_pow, Nat.testBit_lt_two_pow (Nat.lt_of_lt_of_le h (Nat.pow_le_pow_right (by decide) (by omega) : 2 ^ 12 ≤ _))]
      simp
    rw [z, List.length_nil, Nat.add_zero]
    congr 1
    refine List.filter_congr fun j _ => ?_
    rw [show (256 : Nat) = 2 ^ 8 from rfl, Nat.testBit_div_two_pow, Nat.add_comm]
  rw [h1, h2]
  unfold popc
  rw [e1, List.filter_append, List.length_append, List.filter_map, List.length_map, Nat.add_comm]
  rfl
theorem bsum_le : ∀ b : Fin 256, bsum b.val ≤ 8 := by decide +kernel
theorem popc_le (m : Nat) : popc m ≤ 12 := by
  unfold popc
  exact Nat.le_trans (List.length_filter_le _ _) (by simp)
theorem pop_sum (m x y : Nat) (h : m < 4096) (hx : m % 256 = x) (hy : (m : Int) / 256 = (y : Int)) (p : y < popTab.size) (q : x < popTab.size) :
    (((popTab[y]'p).toNat : Int) + ((popTab[x]'q).toNat : Int)) % 256 = ((popc m : Nat) : Int) := by
  have hy' : m / 256 = y := by omega
  have h1 := popTab_at ⟨y, by omega⟩
  have h2 := popTab_at ⟨x, by omega⟩
  have h3 := popc_sum m h
  have h4 := bsum_le ⟨y, by omega⟩
  have h5 := bsum_le ⟨x, by omega⟩
  simp only at h1 h2 h4 h5
  rw [hx, hy'] at h3
  rw [h1, h2, h3]
  omega
set_option maxRecDepth 100000 in
theorem impl_OnesCount16 (m : Nat) (w : World) (h : m < 4096) : Calls Tryd.prog 96 #[.int .u16 (m : Nat)] w fun e w' => e = .returned (.int .i64 (popc m : Nat)) ∧ ∃ k, w' = w.drewN k := by
  have b1 : bits .and .u16 (m : Int) 255 = ((m % 256 : Nat) : Int) := by
    rw [show (255 : Int) = ((255 : Nat) : Int) from rfl, u16_and_nat m 255 (by omega) (by decide), nat_mask8]
  have i1 : (0 : Int) ≤ (m : Int) / 256 := by omega
  have i2 : (m : Int) / 256 < 256 := by omega
  have i3 : (0 : Int) ≤ ((m % 256 : Nat) : Int) := by omega
  have i4 : ((m % 256 : Nat) : Int) < 256 := by omega
  obtain ⟨x, hx⟩ : ∃ x, m % 256 = x := ⟨_, rfl⟩
  rw [hx] at b1 i3 i4
  have HX := Lib.hid hx
  obtain ⟨y, hy⟩ : ∃ y : Nat, (m : Int) / 256 = (y : Int) := ⟨m / 256, by simp⟩
  rw [hy] at i1 i2
  have HY := Lib.hid hy
  clear hx
  go_enter Tryd.func96, Tryd.ntmps96
  go_wp2
  go_quiet (fail)
  go_wp2
  go_ret
  exact ⟨ret_i (pop_sum m x y h HX.out HY.out (by rw [popTab_size]; omega) (by rw [popTab_size]; omega)), _, rfl⟩
theorem impl_size (m : Nat) (w : World) (h : m < 4096) : Calls Tryd.prog 81 #[.int .u16 (m : Nat)] w fun e w' => e = .returned (.int .i64 (popc m : Nat)) ∧ ∃ k, w' = w.drewN k := by
  go_enter Tryd.func81, Tryd.ntmps81
  go_wp2_with fail
  refine (impl_OnesCount16 m _ h).mono ?_
  rintro e w1 ⟨rfl, k, rfl⟩
  go_wp2
  go_ret
  exact ⟨rfl, k, rfl⟩
end Go.Proofs.YtmcoeafkbpeelaaDoor

/- The Ids of a set of paths: the program. -/
namespace Go.Proofs.YtmcoeafkbpeelaaDoor
open Go.RowKit Go.Shelf
attribute [local go_sem] Oper.semAt_some
set_option linter.unusedVariables false

theorem popc_bits (m : Nat) : popc m = (bitsOf m).length := rfl
/-- 'append(v, ..)' at a step of a region that draws its order, inside a fence. -/
theorem step_append_in {F : Fence} {n : Nat} {P : Program} {w : World} {ops : Array Oper} {o : Oper} {a : Act} {K : Act → World → Prop} {Q : Exit → Act → World → Prop} {G : Prop}
    (hg : o.guard = none) (s x : Operand) (t : TypeId) (hop : o.op = Op.call { callee := Callee.builtin Builtin.append, args := #[s, x], argTypes := #[t, t] })
    (base : Nat) (e : TypeId) (i : TypeInfo) (z : Value) (size bytes : Nat) (h1 : P.underlying t = some (.slice e)) (h2 : P.info? e = some i) (h3 : i.zero = some z) (h4 : i.size = size) (h5 : i.bytes = bytes) (h6 : z.cells.size = size) (h7 : 0 < size)
    (v : Value) (k : Nat) (xs : List Value) (hs : a.eval s = v) (hown : w.ownsRow base e size v k xs) (ad : Addr) (m c : Nat) (news : List Value) (hx : a.eval x = .slice (some ad) m c) (hn : news.length = m * size)
    (hc : ∀ j u, news[j]? = some u → w.cell? (ad.add j) = some u) (h1c : ∀ u ∈ news, u.oneCell' = true) (b1 : k + m ≤ maxLen) (b2 : (k + m) * bytes ≤ 140737488355328) (b3 : base ≤ w.heap.size)
    (hK : ∀ v' w', w'.ownsRow base e size v' (k + m) (xs ++ news) → w.grownBy w' v.ownBlock → (v' = .slice none 0 0 ↔ v = .slice none 0 0 ∧ m = 0) → K (a.put o.dst v') w') :
    if Region.wanted o (yielded ops a.tmps) = true then Oper.wpIn F n P o a w K Q else G := by
  rw [if_pos (by simp [Region.wanted, hg])]
  obtain ⟨v', w', hrun, r1, r2, r3⟩ := run_append_own (P := P) w base t o.type e i z size bytes h1 h2 h3 h4 h5 h6 h7 v k xs hown ad m c news hn hc h1c b1 b2 b3
  unfold Oper.wpIn
  refine ⟨?_, ?_⟩
  · simp [Oper.about, hop, resolve, Target.leads, Sem.run_pure]
  · rw [Oper.semAt_plain F _ _ (by rw [hop]; intro c hc'; cases hc')]
    simp [execOp, hop, resolve, invoke, builtin, hs, hx, hrun, Result.andThen]
    exact hK v' w' r1 r2 r3
theorem info_int' : (Tryd.prog.info? 3).map (fun i => (i.zero, i.size, i.bytes)) = some (some (.int .i64 0), 1, 8) := by kernel_rfl
set_option maxRecDepth 100000 in
set_option maxHeartbeats 2000000 in
theorem impl_idsOf (A : Option Addr) (n c B : Nat) (ps : List Pth) (f : Nat → Nat) (m : Nat) (w : World) (h : PthsAt w B A n ps) (hB : B ≤ w.heap.size) (h12 : n ≤ 12) (hm : m < 2 ^ n) (hw : Brus w) :
    Calls Tryd.prog 60 #[.agg (xcells A n c f).toArray, .int .u16 (m : Nat)] w fun e W' => ∃ v, e = .returned v ∧ Own .i64 3 W' w.heap.size v (idsM ps m) ∧ Below w.heap.size w W' := by
  have hm4 := Nat.lt_of_lt_of_le hm (pow_le12 h12)
  obtain ⟨i0, hi, hz0, hz1, hz2⟩ := info_parts info_int'
  refine (callsIn_wide (n := 4)).1 ?_
  refine callsIn_of_wp_marks Tryd.func60 rfl trivial ?_ rfl
  simp only [Tryd.ntmps60, List.size_toArray, List.length_cons, List.length_nil, Nat.reduceAdd, Nat.reduceSub, Array.replicate_succ, Array.replicate_zero, List.push_toArray, List.append_toArray, List.nil_append, List.cons_append]
  have hX0 : (w.alloc (.cells (xcells A n c f).toArray 55)).heap[w.heap.size]? = some (.cells (xcells A n c f).toArray 55 (0, 0)) := heap_alloc_new w _
  have hx0 : (xcells A n c f).toArray[0]? = some (.slice A n c) := rfl
  have HP := Lib.hid h
  have hp12 := popc_le m
  generalize (xcells A n c f).toArray = xs at *
  have HX0 := Lib.hid hX0
  have HXS := Lib.hid hx0
  clear hX0 hx0 h
  gi_wp2
  refine ⟨trivial, (callsIn_wide.2 (impl_size m _ hm4)).mono ?_⟩
  rintro e w' ⟨rfl, k0, rfl⟩
  generalize hpc : popc m = pc at *
  gi_wp2_with (gi_at_make; refine wpListIn_make_own _ rfl _ _ 23 rfl (w.heap.size + 1) 3 i0 (.int .i64 0) 1 Tryd.underlying23 hi hz0 hz1 .i64 .i64 _ pc rfl rfl rfl (by rw [hz2]; omega) (by unfold maxLen; omega) (by simp) ?_; intro w1 hown1 hgrow1)
  have es : ((w.alloc (.cells xs 55)).drewN k0).heap.size = w.heap.size + 1 := by simp
  try rw [es] at hown1
  have hs1 : w.heap.size + 1 < w1.heap.size := (hown1.lt (w.heap.size + 1) rfl).2
  have hX1 : w1.heap[w.heap.size]? = some (.cells xs 55 (0, 0)) := (hgrow1.block w.heap.size (by simp) (by simp)).trans HX0.out
  have hBa : Below w.heap.size w (w.alloc (.cells xs 55)) := (Below.refl _ w).alloc (Nat.le_refl _) _
  have hBd : Below w.heap.size w ((w.alloc (.cells xs 55)).drewN k0) := ⟨hBa.os, hBa.tape, hBa.output, hBa.size, hBa.block⟩
  have hB1 : Below w.heap.size w w1 := hBd.grown hgrow1 (by simp) (fun k e => by cases e)
  refine ⟨trivial, (callsIn_wide.2 (impl_indexes m _)).mono ?_⟩
  rintro e w' ⟨rfl, rfl⟩
  gi_wp2
  have hcx : w1.cell? ⟨w.heap.size, 0, none⟩ = some (.slice A n c) := by rw [cell_of_row w1 w.heap.size 0 _ _ _ hX1]; exact HXS.out
  have bO := Boxed.new w1 23 (.slice (some ⟨w.heap.size + 1, 0, none⟩) 0 pc)
  have bN := Boxed.new (w1.alloc (.cells #[.slice (some ⟨w.heap.size + 1, 0, none⟩) 0 pc] 23)) 52 (.int .u16 (m : Nat))
  rw [World.size_alloc] at bN
  have hB0 : Below w.heap.size w ((w1.alloc (.cells #[.slice (some ⟨w.heap.size + 1, 0, none⟩) 0 pc] 23)).alloc (.cells #[.int .u16 (m : Nat)] 52)) := (hB1.alloc hB1.size _).alloc (by simp; omega) _
  have hbru := hw.below hB0 (Nat.le_refl _)
  have hglt := hw.lt
  refine wpIn_rangeFunc_ownF rfl (by omega) (gf := 91) (lb := #[.pointer (some ⟨w1.heap.size + 1, 0, none⟩)]) rfl trivial (enters_of Tryd.func91 (by kernel_rfl) rfl)
    (idx_stopsN n h12 (4 - 1) (by omega) (w1.heap.size + 1) w.heap.size m hm _ (by simp) (by simp; omega) bN.cell hbru hglt) belowK_t (belowK_b (by simp; omega)) (Below.refl _ _) (fun _ => rfl)
    (fun pre W => ((∃ v, Boxed W w1.heap.size 23 v ∧ W.ownsRow (w.heap.size + 1) 3 1 v pre.length (pre.map fun i => Value.int .i64 (idAt ps i.val)) ∧ True) ∧ W.cell? ⟨w.heap.size, 0, none⟩ = some (.slice A n c)) ∧ Below w.heap.size w W)
    (fun _ _ _ => False)
    (OwnFrom.and (Own.from (fun s A B row hs hg hr => ⟨holdsRow_own (w.heap.size + 1) w1.heap.size 23 3 1 (fun pre => pre.length) (fun (pre : List (IdxN n)) => pre.map fun i => Value.int .i64 (idAt ps i.val)) (fun _ _ => True) s A B row hs.1 hg hr, cell_kept hs.2 hg hr⟩) _) (ownFrom_below (Nat.le_refl _) (by simp; omega)))
    (fun _ _ _ _ _ hs _ _ => hs)
    ⟨⟨⟨_, bO.alloc _, (hown1.alloc _).alloc _, trivial⟩, cell_alloc_l _ (cell_alloc_l _ hcx)⟩, hB0⟩
    (fun x => { tmps := #[.agg xs, .int .u16 (m : Nat), .pointer (some ⟨w.heap.size, 0, none⟩), undef, .slice none 0 0, .pointer (some ⟨w1.heap.size, 0, none⟩), .int .i64 (x.val : Int), .int .u16 (m : Nat), .int .i64 (pc : Nat), .slice (some ⟨w.heap.size + 1, 0, none⟩) 0 pc, .int .u16 (m : Nat), .func (.func 91) #[] #[.pointer (some ⟨w1.heap.size + 1, 0, none⟩)], .int .i64 (x.val : Int), undef, undef, undef, undef, undef, undef, undef, undef, undef, undef], defers := [] }) ?assign ?body ?done ?stop
  case assign =>
    intro l x W K hK
    simp only [encN]
    gi_wp2
    exact hK
  case body =>
    rintro l pre x W ⟨⟨⟨v, hv, hrow, -⟩, hcx⟩, hB⟩ hlt
    have hc := hv.cell
    have hmx : Tryd.prog.follows .mixedOrders = true := by kernel_rfl
    obtain ⟨ad, p, hA, hab, hp, hpt⟩ := (HP.out.below (hB.mono ‹B ≤ w.heap.size›)).at x.property
    have hid : idAt ps x.val = p.id := by unfold idAt; rw [pAt_some hp]
    subst hA
    obtain ⟨x0, -, -, -⟩ := hpt
    obtain ⟨k, hk⟩ := x
    simp only at *
    have hlW : w1.heap.size < W.heap.size := hv.lt
    have hvD : Boxed W.drew w1.heap.size 23 v := hv
    have hrD : W.drew.ownsRow (w.heap.size + 1) 3 1 v pre.length (pre.map fun i => Value.int .i64 (idAt ps i.val)) := hrow
    have hab2 : (ad.add (k * 4)).block < W.heap.size := by omega
    gi_wp2
    refine wpIn_region_any hmx ?_
    (try change wpAnyIn _ _ _ _ _ _ _ _ _ (World.drew _))
    repeat' (first
      | refine AllReadyIn.cons rfl (fun K hK => ?_) ?_
      | exact AllReadyIn.nil
      | refine wpAnyIn_ready (rs := [0]) (by decide +kernel) (by simp) ?_
      | refine wpAnyIn_ready (rs := [0, 1]) (by decide +kernel) (by simp) ?_
      | refine wpAnyIn_ready (rs := [0, 1, 3]) (by decide +kernel) (by simp) ?_
      | refine wpAnyIn_ready (rs := [0, 2]) (by decide +kernel) (by simp) ?_
      | refine wpAnyIn_ready (rs := [0, 2, 3]) (by decide +kernel) (by simp) ?_
      | refine wpAnyIn_ready (rs := [0, 3]) (by decide +kernel) (by simp) ?_
      | refine wpAnyIn_ready (rs := [0, 4]) (by decide +kernel) (by simp) ?_
      | refine wpAnyIn_ready (rs := [0, 5]) (by decide +kernel) (by simp) ?_
      | refine wpAnyIn_ready (rs := [0, 6]) (by decide +kernel) (by simp) ?_
      | refine wpAnyIn_ready (rs := [0, 7]) (by decide +kernel) (by simp) ?_
      | refine wpAnyIn_ready (rs := [1]) (by decide +kernel) (by simp) ?_
      | refine wpAnyIn_ready (rs := [1, 3]) (by decide +kernel) (by simp) ?_
      | refine wpAnyIn_ready (rs := [2]) (by decide +kernel) (by simp) ?_
      | refine wpAnyIn_ready (rs := [2, 3]) (by decide +kernel) (by simp) ?_
      | refine wpAnyIn_ready (rs := [3]) (by decide +kernel) (by simp) ?_
      | refine wpAnyIn_ready (rs := [4]) (by decide +kernel) (by simp) ?_
      | refine wpAnyIn_ready (rs := [5]) (by decide +kernel) (by simp) ?_
      | refine wpAnyIn_ready (rs := [6]) (by decide +kernel) (by simp) ?_
      | refine wpAnyIn_ready (rs := [7]) (by decide +kernel) (by simp) ?_
      | refine wpAnyIn_ready (rs := [8]) (by decide +kernel) (by simp) ?_
      | refine wpAnyIn_ready (rs := [9]) (by decide +kernel) (by simp) ?_
      | (refine wpAnyIn_done (by decide +kernel) ?_ _; gi_wp2; exact ⟨(KeepsOthers.drew W).trans hk2, (below_undrew hb2).mono (by omega), ⟨⟨_, hv2, by rw [List.length_append, List.map_append, List.map_singleton, hid]; exact hr2, trivial⟩, (hb2.cell (p := ⟨w.heap.size, 0, none⟩) (by simp)).trans hcx⟩, hB.trans ((below_undrew hb2).mono (by omega))⟩)
      | (refine step_append_in rfl _ _ 23 rfl (w.heap.size + 1) 3 i0 (.int .i64 0) 1 8 Tryd.underlying23 hi hz0 hz1 hz2 rfl (by decide) _ _ _ rfl (hrD.alloc _) ⟨W.heap.size, 0, none⟩ 1 1 [.int .i64 p.id] rfl rfl (cell_one_new _ _ _) (by simp [Value.oneCell']) (by unfold maxLen; omega) (by omega) (by simp; omega) ?_
         intro v' w3 hown' hgrow _
         obtain ⟨g', cap', rfl⟩ := ownsRow_succ hown'
         obtain ⟨hv1, hv2, hr2, hk2, hb2⟩ := hvD.appended (by decide) hrD (by simp; omega) (by omega) hown' hgrow
         have hc1 := hv1.cell
         have hf1 := hv1.frozen
         refine hK _ _ ?_
         clear hK K)
      | (go_simp; refine hK _ _ ?_; clear hK K))
  case done =>
    rintro D ys W hD rfl ⟨⟨⟨v, hv, hrow, -⟩, _⟩, hB⟩ hK
    have hc := hv.cell
    gi_wp2
    refine ⟨by simp, .inl ⟨_, _, rfl, run_takeDeferred hK, ?_⟩⟩
    refine ⟨_, results_tmp rfl _ _ _, v, rfl, ?_, hB.trans (belowK_b (w := w) (Nat.le_refl _) W D _ _ (by simp at hD; omega) hK rfl rfl)⟩
    unfold Own
    rw [← idxsN_map h12 hm ps, List.length_map, List.map_map]
    exact ownr_mono (ownsRow_putObj hrow _ hK rfl) (by omega)
  case stop =>
    rintro D c pre W _ _ h _
    exact h.elim
end Go.Proofs.YtmcoeafkbpeelaaDoor

/- Chapter 14's machine: state, isValid, machineOf, IsControl: the program (written by genmach.py). -/
namespace Go.Proofs.YtmcoeafkbpeelaaDoor
open Go.RowKit
set_option linter.unusedVariables false

/-- the cells of a machine. -/
def t17 (A : Option Addr) (n c : Nat) (f : Nat → Nat) (st nx : Nat) (s l : Int) : Array Value := #[.slice A n c, .int .u16 (f 0 : Nat), .int .u16 (f 1 : Nat), .int .u16 (f 2 : Nat), .int .u16 (f 3 : Nat), .int .u16 (f 4 : Nat), .int .u16 (f 5 : Nat), .int .u16 (f 6 : Nat), .int .u16 (f 7 : Nat), .int .u16 (f 8 : Nat), .int .u16 (f 9 : Nat), .int .u16 (f 10 : Nat), .int .u16 (f 11 : Nat), .int .u16 (st : Nat), .int .u16 (nx : Nat), .int .i64 s, .int .i64 l]
def m17 (A : Option Addr) (n c : Nat) (f : Nat → Nat) (st nx : Nat) (s l : Int) : List Value := xcells A n c f ++ [.int .u16 (st : Nat), .int .u16 (nx : Nat), .int .i64 s, .int .i64 l]
theorem t17_list (A : Option Addr) (n c : Nat) (f : Nat → Nat) (st nx : Nat) (s l : Int) : (m17 A n c f st nx s l).toArray = t17 A n c f st nx s l := rfl
theorem m17_len (A : Option Addr) (n c : Nat) (f : Nat → Nat) (st nx : Nat) (s l : Int) : (m17 A n c f st nx s l).length = 17 := by unfold m17; rw [List.length_append, xcells_length]; rfl
theorem m17_pre {A : Option Addr} {n c : Nat} {f : Nat → Nat} {st nx : Nat} {s l : Int} {w : World} {g : Nat} (h : w.rangeAt g 0 (m17 A n c f st nx s l)) : w.rangeAt g 0 (xcells A n c f) := fun j v hj => h j v (by unfold m17; rw [List.getElem?_append_left (List.getElem?_eq_some_iff.1 hj).1]; exact hj)
theorem m17_at {A : Option Addr} {n c : Nat} {f : Nat → Nat} {st nx : Nat} {s l : Int} {w : World} {g : Nat} (h : w.rangeAt g 0 (m17 A n c f st nx s l)) : w.cell? ⟨g, 0, none⟩ = some (.slice A n c) ∧ w.cell? ⟨g, 13, none⟩ = some (.int .u16 (st : Nat)) ∧ w.cell? ⟨g, 14, none⟩ = some (.int .u16 (nx : Nat)) ∧ w.cell? ⟨g, 15, none⟩ = some (.int .i64 s) ∧ w.cell? ⟨g, 16, none⟩ = some (.int .i64 l) :=
  ⟨h 0 _ rfl, h 13 _ rfl, h 14 _ rfl, h 15 _ rfl, h 16 _ rfl⟩
/-- is the machine's state in order? -/
def valM (ps : List Pth) (f : Nat → Nat) (st nx : Nat) (s l : Int) : Bool := !decide (st = 0) && inB s 0 1000000 && (if nx = 0 then decide (l = 0) else inB l 1 (clrS ps f st nx))
theorem info_mach : (Tryd.prog.info? 57).map (·.size) = some 17 := by kernel_rfl
set_option maxHeartbeats 1000000 in
theorem impl_state (A : Option Addr) (n c : Nat) (f : Nat → Nat) (st nx : Nat) (s l : Int) (w : World) :
    Calls Tryd.prog 64 #[.agg (t17 A n c f st nx s l)] w fun e w' => e = .returned (.int .i64 (if nx = 0 then 0 else 1)) ∧ Below w.heap.size w w' := by
  unfold t17
  by_cases h : nx = 0
  · subst h
    go_enter Tryd.func64, Tryd.ntmps64
    go_wp2
    go_ret
    exact ⟨rfl, (Below.refl _ _).alloc (Nat.le_refl _) _⟩
  · have e0 : ((nx : Int) == 0) = false := beq_eq_false_iff_ne.2 (by omega)
    rw [if_neg h]
    go_enter Tryd.func64, Tryd.ntmps64
    go_wp2
    go_ret
    exact ⟨rfl, (Below.refl _ _).alloc (Nat.le_refl _) _⟩
set_option maxHeartbeats 4000000 in
set_option maxRecDepth 100000 in
theorem impl_isValidM (A : Option Addr) (n c B : Nat) (ps : List Pth) (f : Nat → Nat) (hf : ∀ k, f k < 4096) (st nx : Nat) (hst : st < 4096) (hnx : nx < 4096) (s l : Int) (h12 : n ≤ 12) (w : World) (h : PthsAt w B A n ps) (hB : B ≤ w.heap.size) (ht : Clrs w) :
    Calls Tryd.prog 53 #[.agg (t17 A n c f st nx s l)] w fun e w' => e = .returned (.bool (valM ps f st nx s l)) ∧ Below w.heap.size w w' := by
  obtain ⟨wA, hwA⟩ : ∃ wA, wA = w.alloc (.cells (t17 A n c f st nx s l) 57) := ⟨_, rfl⟩
  have hk : wA.heap[w.heap.size]? = some (.cells (m17 A n c f st nx s l).toArray 57) := by rw [hwA, t17_list]; exact heap_alloc_new _ _
  have hbA : Below w.heap.size w wA := by rw [hwA]; exact (Below.refl _ _).alloc (Nat.le_refl _) _
  have hrng := range_block hk
  obtain ⟨k0, k13, k14, k15, k16⟩ := m17_at hrng
  have hlA : w.heap.size < wA.heap.size := lt_of_block hk
  have hinf : (Tryd.prog.info? 57).map (·.size) = some (m17 A n c f st nx s l).length := by rw [m17_len]; exact info_mach
  have hinf13 : (Tryd.prog.info? 55).map (·.size) = some (xcells A n c f).length := by rw [xcells_length]; exact info_cross
  have HST := Lib.hid (impl_state A n c f st nx s l wA)
  have HCB := Lib.hid (fun x (hx : Below w.heap.size w x) => impl_clearB A n c B ps f hf st nx hst hnx h12 x (h.below (hx.mono hB)) (Nat.le_trans hB hx.size) (ht.below hx (Nat.le_refl _)))
  have HV : Hid (valM ps f st nx s l = (!decide (st = 0) && inB s 0 1000000 && (if nx = 0 then decide (l = 0) else inB l 1 (clrS ps f st nx)))) := Lib.hid rfl
  have HPRE := Lib.hid (fun (W : World) (hW : W.rangeAt w.heap.size 0 (m17 A n c f st nx s l)) => m17_pre hW)
  have HAT := Lib.hid (fun (W : World) (hW : W.rangeAt w.heap.size 0 (m17 A n c f st nx s l)) => m17_at hW)
  have HK := Lib.hid hk
  have HBA := Lib.hid hbA
  have hmx : Tryd.prog.follows .mixedOrders = true := by kernel_rfl
  rw [← t17_list] at HST
  clear h ht hf hk hbA
  generalize valM ps f st nx s l = r at *
  generalize clrS ps f st nx = cb at *
  unfold t17 at hwA ⊢
  by_cases h0 : st = 0
  · have HR : Hid (r = false) := Lib.hid (by rw [HV.out, decide_eq_true h0]; rfl)
    subst h0
    clear hrng
    go_enter Tryd.func53, Tryd.ntmps53
    go_wp2
    go_ret
    exact ⟨by rw [HR.out]; try rfl, (Below.refl _ _).alloc (Nat.le_refl _) _⟩
  have e0 : ((st : Int) == 0) = false := beq_eq_false_iff_ne.2 (by omega)
  rw [decide_eq_false h0] at HV
  cases h1 : inB s 0 1000000
  · have HR : Hid (r = false) := Lib.hid (by rw [HV.out, h1]; rfl)
    have H1 := Lib.hid h1
    clear h1 hrng
    go_enter Tryd.func53, Tryd.ntmps53
    go_wp2_with fail
    refine (impl_InRange _ _ _ _).mono ?_
    rw [H1.out]
    rintro e w1 ⟨rfl, rfl⟩
    go_wp2
    go_ret
    exact ⟨by rw [HR.out]; try rfl, (Below.refl _ _).alloc (Nat.le_refl _) _⟩
  have H1 := Lib.hid h1
  rw [h1] at HV
  clear h1
  by_cases h2 : nx = 0
  · have HR : Hid (r = decide (l = 0)) := Lib.hid (by rw [HV.out, if_pos h2]; rfl)
    rw [if_pos h2] at HST
    generalize m17 A n c f st nx s l = cs at *
    have e2 : ((nx : Int) == 0) = true := by rw [h2]; rfl
    clear h2
    go_enter Tryd.func53, Tryd.ntmps53
    go_wp2_with fail
    rw [← hwA]
    clear hwA
    refine (impl_InRange _ _ _ _).mono ?_
    rw [H1.out]
    rintro e w1 ⟨rfl, rfl⟩
    go_wp2_with ((with_reducible show wpList _ _ _ _ _ _); refine wpList_load_mid rfl 57 _ rfl w.heap.size 0 rfl cs _ hrng Tryd.underlying57 rfl hinf ?_)
    refine HST.out.mono ?_
    rintro e w2 ⟨rfl, hb2⟩
    have HB2 := Lib.hid (HBA.out.trans (hb2.mono HBA.out.size))
    have m16 := (hb2.cell (p := ⟨w.heap.size, 16, none⟩) hlA).trans k16
    have l2 : w.heap.size < w2.heap.size := by have := hb2.size; omega
    clear hb2 k0 k13 k14 k15 k16 hrng
    go_wp2
    go_ret
    exact ⟨by rw [HR.out]; try rfl, HB2.out⟩
  · have HR : Hid (r = inB l 1 cb) := Lib.hid (by rw [HV.out, if_neg h2]; rfl)
    rw [if_neg h2] at HST
    generalize m17 A n c f st nx s l = cs at *
    go_enter Tryd.func53, Tryd.ntmps53
    go_wp2_with fail
    rw [← hwA]
    clear hwA
    refine (impl_InRange _ _ _ _).mono ?_
    rw [H1.out]
    rintro e w1 ⟨rfl, rfl⟩
    go_wp2_with ((with_reducible show wpList _ _ _ _ _ _); refine wpList_load_mid rfl 57 _ rfl w.heap.size 0 rfl cs _ hrng Tryd.underlying57 rfl hinf ?_)
    refine HST.out.mono ?_
    rintro e w2 ⟨rfl, hb2⟩
    have HB2 := Lib.hid (HBA.out.trans (hb2.mono HBA.out.size))
    have hk2 := (hb2.block _ hlA).trans HK.out
    have hr2 := range_block hk2
    have HC2 := Lib.hid (HCB.out w2.drew ⟨HB2.out.os, HB2.out.tape, HB2.out.output, HB2.out.size, HB2.out.block⟩)
    clear hb2 k0 k13 k14 k15 k16 hrng
    go_wp2
    refine wp_region_held_drew (S := fun W' => W'.rangeAt w.heap.size 0 cs) hmx hr2 (fun hH => ?_)
    refine wpAnyH_take (i := 0) (v := .pointer (some ⟨w.heap.size, 16, none⟩)) rfl (by kernel_rfl) (by kernel_rfl) (by kernel_rfl) (fun _ _ _ h => h) (Or.inl ⟨by rfl, by intro W hSw; go_simp⟩) hH ?_
    try simp only [Act.put, List.setIfInBounds_toArray, List.set_cons_zero, List.set_cons_succ]
    refine wpAnyH_take (i := 1) (v := .int .i64 l) rfl (by kernel_rfl) (by kernel_rfl) (by kernel_rfl) (fun _ _ _ h => h) (Or.inl ⟨by rfl, by intro W hSw; have hx := (HAT.out W hSw).2.2.2.2; have hy : w.heap.size < W.heap.size := World.block_lt_of_cell? _ _ hx; go_simp⟩) hH ?_
    try simp only [Act.put, List.setIfInBounds_toArray, List.set_cons_zero, List.set_cons_succ]
    refine wpAnyH_take (i := 2) (v := .pointer (some ⟨w.heap.size, 0, none⟩)) rfl (by kernel_rfl) (by kernel_rfl) (by kernel_rfl) (fun _ _ _ h => h) (Or.inl ⟨by rfl, by intro W hSw; go_simp⟩) hH ?_
    try simp only [Act.put, List.setIfInBounds_toArray, List.set_cons_zero, List.set_cons_succ]
    refine wpAnyH_take (i := 3) (v := .agg (xcells A n c f).toArray) rfl (by kernel_rfl) (by kernel_rfl) (by kernel_rfl) (fun _ _ _ h => h) (yieldsIf_load_mid (by rfl) 55 _ rfl w.heap.size 0 rfl (xcells A n c f) _ (fun W hW => HPRE.out W hW) Tryd.underlying55 rfl hinf13) hH ?_
    try simp only [Act.put, List.setIfInBounds_toArray, List.set_cons_zero, List.set_cons_succ]
    refine wpAnyH_take (i := 4) (v := .pointer (some ⟨w.heap.size, 13, none⟩)) rfl (by kernel_rfl) (by kernel_rfl) (by kernel_rfl) (fun _ _ _ h => h) (Or.inl ⟨by rfl, by intro W hSw; go_simp⟩) hH ?_
    try simp only [Act.put, List.setIfInBounds_toArray, List.set_cons_zero, List.set_cons_succ]
    refine wpAnyH_take (i := 5) (v := .int .u16 (st : Nat)) rfl (by kernel_rfl) (by kernel_rfl) (by kernel_rfl) (fun _ _ _ h => h) (Or.inl ⟨by rfl, by intro W hSw; have hx := (HAT.out W hSw).2.1; have hy : w.heap.size < W.heap.size := World.block_lt_of_cell? _ _ hx; go_simp⟩) hH ?_
    try simp only [Act.put, List.setIfInBounds_toArray, List.set_cons_zero, List.set_cons_succ]
    refine wpAnyH_take (i := 6) (v := .pointer (some ⟨w.heap.size, 14, none⟩)) rfl (by kernel_rfl) (by kernel_rfl) (by kernel_rfl) (fun _ _ _ h => h) (Or.inl ⟨by rfl, by intro W hSw; go_simp⟩) hH ?_
    try simp only [Act.put, List.setIfInBounds_toArray, List.set_cons_zero, List.set_cons_succ]
    refine wpAnyH_take (i := 7) (v := .int .u16 (nx : Nat)) rfl (by kernel_rfl) (by kernel_rfl) (by kernel_rfl) (fun _ _ _ h => h) (Or.inl ⟨by rfl, by intro W hSw; have hx := (HAT.out W hSw).2.2.1; have hy : w.heap.size < W.heap.size := World.block_lt_of_cell? _ _ hx; go_simp⟩) hH ?_
    try simp only [Act.put, List.setIfInBounds_toArray, List.set_cons_zero, List.set_cons_succ]
    refine wpAnyH_ready (rs := [8]) (by decide +kernel) (by simp) (AllReadyH.cons rfl (fun K hK => ?_) AllReadyH.nil)
    go_simp
    refine HC2.out.mono ?_
    rintro e w3 ⟨rfl, hb3⟩
    have hb3' : Below w2.heap.size w2 w3 := ⟨hb3.os, hb3.tape, hb3.output, hb3.size, hb3.block⟩
    have HB3 := Lib.hid (HB2.out.trans (hb3'.mono HB2.out.size))
    have hr3 := range_block ((hb3'.block _ (lt_of_block hk2)).trans hk2)
    clear hb3 hb3'
    go_wp2_with fail
    refine hK.out _ _ hr3 (fun _ => ?_)
    clear hK K
    try simp only [Act.put, List.setIfInBounds_toArray, List.set_cons_zero, List.set_cons_succ]
    refine wpAnyH_ready (rs := [9]) (by decide +kernel) (by simp) (AllReadyH.cons rfl (fun K hK => ?_) AllReadyH.nil)
    go_simp
    refine (impl_InRange _ _ _ _).mono ?_
    rw [← HR.out]
    rintro e w4 ⟨rfl, rfl⟩
    go_wp2_with fail
    refine hK.out _ _ hr3 (fun _ => ?_)
    clear hK K
    try simp only [Act.put, List.setIfInBounds_toArray, List.set_cons_zero, List.set_cons_succ]
    refine wpAnyH_ready (rs := [10]) (by decide +kernel) (by simp) (AllReadyH.cons rfl (fun K hK => ?_) AllReadyH.nil)
    go_simp
    refine hK.out _ _ hr3 (fun _ => ?_)
    clear hK K
    try simp only [Act.put, List.setIfInBounds_toArray, List.set_cons_zero, List.set_cons_succ]
    refine wpAnyH_done (by decide +kernel) ?_ _
    go_wp2
    go_ret
    exact ⟨rfl, HB3.out⟩
theorem ctl_arePs {ps : List Pth} {x : Ctl} (h : arePs ps = false) : isCtl ps x = false := by
  rw [Bool.eq_false_iff]
  intro hc
  have := (ctl_parts hc).1
  rw [h] at this
  cases this
def z17 : List Value := [.slice none 0 0, .int .u16 0, .int .u16 0, .int .u16 0, .int .u16 0, .int .u16 0, .int .u16 0, .int .u16 0, .int .u16 0, .int .u16 0, .int .u16 0, .int .u16 0, .int .u16 0, .int .u16 0, .int .u16 0, .int .i64 0, .int .i64 0]
theorem z17_one : ∀ u ∈ z17, u.oneCell' = true := by decide
theorem t17_zero : z17.toArray = t17 none 0 0 (fun _ => 0) 0 0 0 0 := rfl
theorem m17_one (A : Option Addr) (n c : Nat) (f : Nat → Nat) (st nx : Nat) (s l : Int) : ∀ u ∈ m17 A n c f st nx s l, u.oneCell' = true := by
  intro u hu
  unfold m17 at hu
  rw [List.mem_append] at hu
  rcases hu with hu | hu
  · exact xcells_one A n c f u hu
  · simp only [List.mem_cons, List.not_mem_nil, or_false] at hu
    rcases hu with rfl | rfl | rfl | rfl <;> rfl
theorem two_ss {w : World} {g : Nat} {A2 : Option Addr} {n2 c2 : Nat} {zs : List Int} {A3 : Option Addr} {n3 c3 : Nat} {zs3 : List Int} {E : TypeId} {fr : Nat × Nat} (hb : w.heap[g]? = some (.cells #[.slice A2 n2 c2, .slice A3 n3 c3] E fr)) (h2 : Sl .i64 w A2 n2 c2 zs) (h3 : Sl .i64 w A3 n3 c3 zs3) : SSAt w w.heap.size (some ⟨g, 0, none⟩) 2 [zs, zs3] := by
  refine ⟨rfl, fun _ => ⟨⟨g, 0, none⟩, rfl, lt_of_block hb, fun j hj => ?_⟩⟩
  rcases (show j = 0 ∨ j = 1 by omega) with rfl | rfl
  · exact ⟨A2, n2, c2, by show w.cell? ⟨g, 0, none⟩ = _; rw [cell_of_row w g 0 _ E fr hb]; rfl, h2.ints, h2.cap.1, h2.bare⟩
  · exact ⟨A3, n3, c3, by show w.cell? ⟨g, 1, none⟩ = _; rw [cell_of_row w g 1 _ E fr hb]; rfl, h3.ints, h3.cap.1, h3.bare⟩
theorem sts_two {ps : List Pth} (ha : arePs ps = true) {a b : List Int} : stsB ps [a, b] = (isTog ps a && isTog ps b) := by
  have := stsB_tog (zss := [a, b]) ha
  rw [Bool.eq_iff_iff, this, Bool.and_eq_true]
  simp
set_option maxHeartbeats 3000000 in
set_option maxRecDepth 100000 in
theorem impl_machineOf_off {w : World} {A : Option Addr} {n c : Nat} {ps : List Pth} {A2 : Option Addr} {n2 c2 : Nat} {A3 : Option Addr} {n3 c3 : Nat} {x : Ctl} (I : CtlIn w A n c ps A2 n2 c2 A3 n3 c3 x) (ha : arePs ps = false) :
    Calls Tryd.prog 29 #[.slice A n c, ctlV (.slice A2 n2 c2) x.since (.slice A3 n3 c3) x.left] w fun e w' => e = .returned (.tuple #[.agg (t17 none 0 0 (fun _ => 0) 0 0 0 0), .bool false]) ∧ Below w.heap.size w w' := by
  simp only [ctlV]
  rw [show t17 none 0 0 (fun _ => 0) 0 0 0 0 = z17.toArray from rfl]
  obtain ⟨wA, hwA⟩ : ∃ wA, wA = (w.alloc (.cells #[.slice A2 n2 c2, .int .i64 x.since, .slice A3 n3 c3, .int .i64 x.left] 28)).alloc (.cells #[.slice none 0 0, .int .u16 0, .int .u16 0, .int .u16 0, .int .u16 0, .int .u16 0, .int .u16 0, .int .u16 0, .int .u16 0, .int .u16 0, .int .u16 0, .int .u16 0, .int .u16 0, .int .u16 0, .int .u16 0, .int .i64 0, .int .i64 0] 57) := ⟨_, rfl⟩
  obtain ⟨hk, hr, hsz, hbA⟩ := two_blocks hwA
  have HR := Lib.hid hr
  have HBA := Lib.hid hbA
  have lA1 : w.heap.size + 1 < wA.heap.size := by omega
  have J := I.below hbA
  have HC := Lib.hid (impl_crossingOf_no A n c _ ps wA J.p.pths (Nat.le_refl _) J.p.small ha)
  clear ha hk hr hsz hbA I J
  go_enter Tryd.func29, Tryd.ntmps29
  go_wp2_with fail
  rw [← hwA]
  clear hwA
  refine HC.out.mono ?_
  rw [cross_lit]
  rintro e w1 ⟨rfl, hb1⟩
  have HB1 := Lib.hid (HBA.out.trans (hb1.mono HBA.out.size))
  have hr1 := (hb1.block _ lA1).trans HR.out
  have lz : w.heap.size + 1 < w1.heap.size := lt_of_block hr1
  have HTH := Lib.hid (fun o : Obj => (there_block ((Below.heap_alloc w1 o _ lz).trans hr1) 17 rfl : (w1.alloc o).there (w.heap.size + 1) 0 17))
  clear hb1 hr1
  have HTZ : Hid (∀ o, (w1.alloc o).there (w.heap.size + 1) 0 z17.toArray.size) := Lib.hid HTH.out
  have HIZ : Hid ((Tryd.prog.info? 57).map (·.size) = some z17.toArray.size) := Lib.hid info_mach
  have HOZ := Lib.hid (all_oneCell_toArray z17_one)
  go_wp2_with ((with_reducible show wpList _ _ _ _ _ _); (refine wpList_store_mid rfl 57 _ _ rfl (w.heap.size + 1) 0 z17.toArray rfl rfl (HTZ.out _) HIZ.out HOZ.out ?_); generalize hzz : z17 = zz at *)
  refine bodyPost_ret (v := .tuple #[.agg zz.toArray, .bool false]) (by
        have hload := fun o => run_loadVar_mid (P := Tryd.prog) ((w1.alloc o).setCells (w.heap.size + 1) 0 zz) (w.heap.size + 1) 0 57 zz _ (World.rangeAt_setCells_same _ _ _ _ (by have := HTZ.out o; simpa using this)) Tryd.underlying57 rfl (by have := HIZ.out; simpa using this)
        rw [results_cell_tmp rfl]
        simp [asAddr, hload, Result.andThen]) rfl ⟨by rw [hzz], ?_⟩
  exact below_setCells _ (Nat.le_succ _) _ _ _ (HB1.out.alloc HB1.out.size _)
theorem ctl_val {ps : List Pth} {x : Ctl} (h1 : isTog ps x.stage = true) (h2 : isTog ps x.next = true) {n : Nat} (hn : ps.length = n) : isCtl ps x = valM ps (rowSt ps n 0) (maskL ps x.stage) (maskL ps x.next) x.since x.left := by
  rw [ctl_mask h1 h2, hn]
  rfl
set_option maxHeartbeats 3000000 in
set_option maxRecDepth 100000 in
theorem impl_machineOf_on {w : World} {A : Option Addr} {n c : Nat} {ps : List Pth} {A2 : Option Addr} {n2 c2 : Nat} {A3 : Option Addr} {n3 c3 : Nat} {x : Ctl} (I : CtlIn w A n c ps A2 n2 c2 A3 n3 c3 x) (hw : Brus w) (ht : Clrs w) (ha : arePs ps = true) (mv : Value) (hm1 : (isTog ps x.stage && isTog ps x.next) = true → mv = .tuple #[.agg (t17 A n c (rowSt ps n 0) (maskL ps x.stage) (maskL ps x.next) x.since x.left), .bool (isCtl ps x)]) (hm0 : (isTog ps x.stage && isTog ps x.next) = false → mv = .tuple #[.agg z17.toArray, .bool false]) :
    Calls Tryd.prog 29 #[.slice A n c, ctlV (.slice A2 n2 c2) x.since (.slice A3 n3 c3) x.left] w fun e w' => e = .returned mv ∧ Below w.heap.size w w' := by
  simp only [ctlV]
  have HM1 := Lib.hid hm1
  have HM0 := Lib.hid hm0
  clear hm1 hm0
  have hlp := I.p.len
  have h12 : n ≤ 12 := by have := arePs_len12 ha; omega
  have hs2 := I.hs
  have ht2 := I.ht
  have hlz : x.stage.length ≤ 1048576 := by rw [I.s.len]; exact hs2
  have hlz3 : x.next.length ≤ 1048576 := by rw [I.t.len]; exact ht2
  obtain ⟨wA, hwA⟩ : ∃ wA, wA = (w.alloc (.cells #[.slice A2 n2 c2, .int .i64 x.since, .slice A3 n3 c3, .int .i64 x.left] 28)).alloc (.cells #[.slice none 0 0, .int .u16 0, .int .u16 0, .int .u16 0, .int .u16 0, .int .u16 0, .int .u16 0, .int .u16 0, .int .u16 0, .int .u16 0, .int .u16 0, .int .u16 0, .int .u16 0, .int .u16 0, .int .u16 0, .int .i64 0, .int .i64 0] 57) := ⟨_, rfl⟩
  obtain ⟨hk, hr, hsz, hbA⟩ := two_blocks hwA
  have HK := Lib.hid hk
  have HR := Lib.hid hr
  have HBA := Lib.hid hbA
  have lA0 : w.heap.size < wA.heap.size := by omega
  have lA1 : w.heap.size + 1 < wA.heap.size := by omega
  have HI := Lib.hid (fun y (hy : Below w.heap.size w y) => I.below hy)
  have HWW := Lib.hid (fun y (hy : Below w.heap.size w y) => (⟨hw.below hy (Nat.le_refl _), ht.below hy (Nat.le_refl _)⟩ : Brus y ∧ Clrs y))
  have HC := Lib.hid (impl_crossingOf A n c _ ps wA (I.below hbA).p.pths (Nat.le_refl _) I.p.cap ha)
  have HSO := Lib.hid (fun y (hy : Below w.heap.size w y) (g : Nat) (hss : SSAt y y.heap.size (some ⟨g, 0, none⟩) 2 [x.stage, x.next]) => impl_stagesOf A n c _ ps (some ⟨g, 0, none⟩) 2 2 _ [x.stage, x.next] y (I.below hy).p.pths (Nat.le_refl _) ha hss (Nat.le_refl _) (by omega) (fun j hj => by
    rcases (show j = 0 ∨ j = 1 by omega) with rfl | rfl
    · show x.stage.length ≤ _; omega
    · show x.next.length ≤ _; omega) (hw.below hy (Nat.le_refl _)))
  have hmk : mskI ps [x.stage, x.next] = [((maskL ps x.stage : Nat) : Int), ((maskL ps x.next : Nat) : Int)] := rfl
  have hm1 := maskL_lt ps x.stage (by rw [hlp]; exact h12)
  have hm2 := maskL_lt ps x.next (by rw [hlp]; exact h12)
  have HIV := Lib.hid (fun y (hy : Below w.heap.size w y) => impl_isValidM A n c _ ps (rowSt ps n 0) (rowSt_lt ps n 0) (maskL ps x.stage) (maskL ps x.next) hm1 hm2 x.since x.left h12 y (I.below hy).p.pths (Nat.le_refl _) (ht.below hy (Nat.le_refl _)))
  have HVAL := Lib.hid (fun h1 h2 => ctl_val (ps := ps) (x := x) h1 h2 hlp)
  have HST := Lib.hid (sts_two ha (a := x.stage) (b := x.next))
  rw [hmk] at HSO
  obtain ⟨zs, si, zs3, lf⟩ := x
  simp only at *
  generalize maskL ps zs = st at *
  generalize maskL ps zs3 = nx at *
  have hln : (xcells A n c (rowSt ps n 0)).length = 13 := xcells_length _ _ _ _
  have hinf : (Tryd.prog.info? 55).map (·.size) = some (xcells A n c (rowSt ps n 0)).length := by rw [hln]; exact info_cross
  have HCL := Lib.hid (cross_lit A n c (rowSt ps n 0))
  generalize rowSt ps n 0 = f at *
  have hL17 : Hid (m17 A n c f st nx si lf = xcells A n c f ++ [.int .u16 (st : Nat), .int .u16 (nx : Nat), .int .i64 si, .int .i64 lf]) := Lib.hid rfl
  generalize hxs : xcells A n c f = xs at *
  clear I hw ht ha hk hr hsz hbA hmk hln hlz hlz3
  go_enter Tryd.func29, Tryd.ntmps29
  go_wp2_with fail
  rw [← hwA]
  clear hwA
  refine HC.out.mono ?_
  rw [HCL.out]
  rintro e w1 ⟨rfl, hb1⟩
  obtain ⟨w2, hw2⟩ : ∃ w2, w2 = w1.alloc (.cells xs.toArray 55) := ⟨_, rfl⟩
  obtain ⟨hx2, hsz2, hb12⟩ := one_block hw2
  have HB2 := Lib.hid (HBA.out.trans ((hb1.trans (hb12.mono hb1.size)).mono HBA.out.size))
  have HX2 := Lib.hid hx2
  have HK2 := Lib.hid (((hb1.trans (hb12.mono hb1.size)).block _ lA0).trans HK.out)
  have HR2 := Lib.hid (((hb1.trans (hb12.mono hb1.size)).block _ lA1).trans HR.out)
  have l12 : w1.heap.size < w2.heap.size := by omega
  have l0A : w.heap.size + 1 < w1.heap.size := by have := hb1.size; omega
  have hrx := range_block hx2
  obtain ⟨k0, k1, k2, k3⟩ := cells4 HK2.out
  have l02 : w.heap.size < w2.heap.size := by omega
  rw [HCL.out] at hw2
  clear hb1 hb12 hx2 hsz2
  go_wp2_with ((with_reducible show wpList _ _ _ _ _ _); rw [← hw2]; clear hw2; refine wpList_load_mid rfl 55 _ rfl w1.heap.size 0 rfl xs _ hrx Tryd.underlying55 rfl hinf ?_)
  obtain ⟨w3, hw3⟩ : ∃ w3, w3 = w2.alloc (.cells #[.slice A2 n2 c2, .slice A3 n3 c3] 23) := ⟨_, rfl⟩
  rw [← hw3]
  obtain ⟨hk3, hsz3, hb23⟩ := one_block hw3
  have HB3 := Lib.hid (HB2.out.trans (hb23.mono HB2.out.size))
  have HX3 := Lib.hid ((hb23.block _ l12).trans HX2.out)
  have HK3 := Lib.hid ((hb23.block _ l02).trans HK2.out)
  have HR3 := Lib.hid ((hb23.block _ (by omega)).trans HR2.out)
  have HSS := Lib.hid (two_ss hk3 (HI.out w3 HB3.out).s (HI.out w3 HB3.out).t)
  have HC3 := Lib.hid (HSO.out w3 HB3.out _ HSS.out)
  rw [HST.out] at HC3
  have l23 : w2.heap.size < w3.heap.size := by omega
  clear hw3 hk3 hsz3 hb23 k0 k1 k2 k3 hrx
  refine HC3.out.mono ?_
  cases hs : (isTog ps zs && isTog ps zs3)
  · have HMV := Lib.hid (HM0.out hs)
    clear hs
    rintro e w4 ⟨v, rfl, -, hb4⟩
    have HB4 := Lib.hid (HB3.out.trans (hb4.mono HB3.out.size))
    have hr4 := (hb4.block _ (by omega)).trans HR3.out
    have HTZ : Hid (w4.there (w.heap.size + 1) 0 z17.toArray.size) := Lib.hid (there_block hr4 17 rfl)
    have HIZ : Hid ((Tryd.prog.info? 57).map (·.size) = some z17.toArray.size) := Lib.hid info_mach
    have HOZ := Lib.hid (all_oneCell_toArray z17_one)
    clear hb4 hr4
    go_wp2_with ((with_reducible show wpList _ _ _ _ _ _); (refine wpList_store_mid rfl 57 _ _ rfl (w.heap.size + 1) 0 z17.toArray rfl rfl HTZ.out HIZ.out HOZ.out ?_); generalize hzz : z17 = zz at *)
    all_goals
      refine bodyPost_ret (v := .tuple #[.agg zz.toArray, .bool false]) (by
          have hload := run_loadVar_mid (P := Tryd.prog) (w4.setCells (w.heap.size + 1) 0 zz) (w.heap.size + 1) 0 57 zz _ (World.rangeAt_setCells_same _ _ _ _ (by have := HTZ.out; simpa using this)) Tryd.underlying57 rfl (by have := HIZ.out; simpa using this)
          rw [results_cell_tmp rfl]
          simp [asAddr, hload, Result.andThen]) rfl ⟨by rw [HMV.out], ?_⟩
      exact below_setCells _ (Nat.le_succ _) _ _ _ HB4.out
  · rw [Bool.and_eq_true] at hs
    have HVV := Lib.hid (HVAL.out hs.1 hs.2)
    have HMV := Lib.hid (HM1.out (by rw [hs.1, hs.2]; rfl))
    clear hs
    rintro e w4 ⟨v, rfl, hm, hb4⟩
    obtain ⟨g, rfl, hown⟩ := hm rfl
    have HB4 := Lib.hid (HB3.out.trans (hb4.mono HB3.out.size))
    have HX4 := Lib.hid ((hb4.block _ (by omega)).trans HX3.out)
    have HK4 := Lib.hid ((hb4.block _ (by omega)).trans HK3.out)
    have HR4 := Lib.hid ((hb4.block _ (by omega)).trans HR3.out)
    have hg0 := hown.cell 0 (by simp)
    have hg1 := hown.cell 1 (by simp)
    have hgb := (hown.block g rfl).2
    have hrx := range_block HX4.out
    obtain ⟨k0, k1, k2, k3⟩ := cells4 HK4.out
    have hg0' : w4.cell? ⟨g, 0, none⟩ = some (.int .u16 (st : Nat)) := hg0
    have hg1' : w4.cell? ⟨g, 1, none⟩ = some (.int .u16 (nx : Nat)) := hg1
    have lz0 : w.heap.size < w4.heap.size := lt_of_block HK4.out
    have lz1 : w1.heap.size < w4.heap.size := lt_of_block HX4.out
    have hmx : Tryd.prog.follows .mixedOrders = true := by kernel_rfl
    clear hown hb4 hm hg0 hg1
    have hS0 : w4.rangeAt w1.heap.size 0 xs ∧ w4.cell? ⟨g, 0, none⟩ = some (.int .u16 (st : Nat)) ∧ w4.cell? ⟨g, 1, none⟩ = some (.int .u16 (nx : Nat)) ∧ w4.cell? ⟨w.heap.size, 1, none⟩ = some (.int .i64 si) ∧ w4.cell? ⟨w.heap.size, 3, none⟩ = some (.int .i64 lf) := ⟨hrx, hg0', hg1', k1, k3⟩
    have HS0 := Lib.hid hS0
    clear k0 k1 k2 k3 hg0' hg1' hrx
    go_wp2
    refine wp_region_held_drew (S := fun W' => W'.rangeAt w1.heap.size 0 xs ∧ W'.cell? ⟨g, 0, none⟩ = some (.int .u16 (st : Nat)) ∧ W'.cell? ⟨g, 1, none⟩ = some (.int .u16 (nx : Nat)) ∧ W'.cell? ⟨w.heap.size, 1, none⟩ = some (.int .i64 si) ∧ W'.cell? ⟨w.heap.size, 3, none⟩ = some (.int .i64 lf)) hmx hS0 (fun hH => ?_)
    refine wpAnyH_take (i := 0) (v := .agg #[.slice A n c, .int .u16 (f 0 : Nat), .int .u16 (f 1 : Nat), .int .u16 (f 2 : Nat), .int .u16 (f 3 : Nat), .int .u16 (f 4 : Nat), .int .u16 (f 5 : Nat), .int .u16 (f 6 : Nat), .int .u16 (f 7 : Nat), .int .u16 (f 8 : Nat), .int .u16 (f 9 : Nat), .int .u16 (f 10 : Nat), .int .u16 (f 11 : Nat)]) rfl (by kernel_rfl) (by kernel_rfl) (by kernel_rfl) (fun _ _ _ h => h) (by rw [← HCL.out]; exact yieldsIf_load_mid (by rfl) 55 _ rfl w1.heap.size 0 rfl xs _ (fun _ h => h.1) Tryd.underlying55 rfl hinf) hH ?_
    try simp only [Act.put, List.setIfInBounds_toArray, List.set_cons_zero, List.set_cons_succ]
    refine wpAnyH_take (i := 1) (v := .slice (some ⟨g, 0, none⟩) 2 2) rfl (by kernel_rfl) (by kernel_rfl) (by kernel_rfl) (fun _ _ _ h => h) (Or.inl ⟨by rfl, by intro W hSw; go_simp⟩) hH ?_
    try simp only [Act.put, List.setIfInBounds_toArray, List.set_cons_zero, List.set_cons_succ]
    refine wpAnyH_take (i := 2) (v := .pointer (some ⟨g, 0, none⟩)) rfl (by kernel_rfl) (by kernel_rfl) (by kernel_rfl) (fun _ _ _ h => h) (Or.inl ⟨by rfl, by intro W hSw; go_simp⟩) hH ?_
    try simp only [Act.put, List.setIfInBounds_toArray, List.set_cons_zero, List.set_cons_succ]
    refine wpAnyH_take (i := 3) (v := .int .u16 (st : Nat)) rfl (by kernel_rfl) (by kernel_rfl) (by kernel_rfl) (fun _ _ _ h => h) (Or.inl ⟨by rfl, by intro W hSw; have hx := hSw.2.1; have hy := World.block_lt_of_cell? _ _ hx; go_simp⟩) hH ?_
    try simp only [Act.put, List.setIfInBounds_toArray, List.set_cons_zero, List.set_cons_succ]
    refine wpAnyH_take (i := 4) (v := .slice (some ⟨g, 0, none⟩) 2 2) rfl (by kernel_rfl) (by kernel_rfl) (by kernel_rfl) (fun _ _ _ h => h) (Or.inl ⟨by rfl, by intro W hSw; go_simp⟩) hH ?_
    try simp only [Act.put, List.setIfInBounds_toArray, List.set_cons_zero, List.set_cons_succ]
    refine wpAnyH_take (i := 5) (v := .pointer (some ⟨g, 1, none⟩)) rfl (by kernel_rfl) (by kernel_rfl) (by kernel_rfl) (fun _ _ _ h => h) (Or.inl ⟨by rfl, by intro W hSw; go_simp⟩) hH ?_
    try simp only [Act.put, List.setIfInBounds_toArray, List.set_cons_zero, List.set_cons_succ]
    refine wpAnyH_take (i := 6) (v := .int .u16 (nx : Nat)) rfl (by kernel_rfl) (by kernel_rfl) (by kernel_rfl) (fun _ _ _ h => h) (Or.inl ⟨by rfl, by intro W hSw; have hx := hSw.2.2.1; have hy := World.block_lt_of_cell? _ _ hx; go_simp⟩) hH ?_
    try simp only [Act.put, List.setIfInBounds_toArray, List.set_cons_zero, List.set_cons_succ]
    refine wpAnyH_take (i := 7) (v := .pointer (some ⟨w.heap.size, 1, none⟩)) rfl (by kernel_rfl) (by kernel_rfl) (by kernel_rfl) (fun _ _ _ h => h) (Or.inl ⟨by rfl, by intro W hSw; go_simp⟩) hH ?_
    try simp only [Act.put, List.setIfInBounds_toArray, List.set_cons_zero, List.set_cons_succ]
    refine wpAnyH_take (i := 8) (v := .int .i64 si) rfl (by kernel_rfl) (by kernel_rfl) (by kernel_rfl) (fun _ _ _ h => h) (Or.inl ⟨by rfl, by intro W hSw; have hx := hSw.2.2.2.1; have hy := World.block_lt_of_cell? _ _ hx; go_simp⟩) hH ?_
    try simp only [Act.put, List.setIfInBounds_toArray, List.set_cons_zero, List.set_cons_succ]
    refine wpAnyH_take (i := 9) (v := .pointer (some ⟨w.heap.size, 3, none⟩)) rfl (by kernel_rfl) (by kernel_rfl) (by kernel_rfl) (fun _ _ _ h => h) (Or.inl ⟨by rfl, by intro W hSw; go_simp⟩) hH ?_
    try simp only [Act.put, List.setIfInBounds_toArray, List.set_cons_zero, List.set_cons_succ]
    refine wpAnyH_take (i := 10) (v := .int .i64 lf) rfl (by kernel_rfl) (by kernel_rfl) (by kernel_rfl) (fun _ _ _ h => h) (Or.inl ⟨by rfl, by intro W hSw; have hx := hSw.2.2.2.2; have hy := World.block_lt_of_cell? _ _ hx; go_simp⟩) hH ?_
    try simp only [Act.put, List.setIfInBounds_toArray, List.set_cons_zero, List.set_cons_succ]
    refine wpAnyH_take (i := 11) (v := .agg #[.slice A n c, .int .u16 (f 0 : Nat), .int .u16 (f 1 : Nat), .int .u16 (f 2 : Nat), .int .u16 (f 3 : Nat), .int .u16 (f 4 : Nat), .int .u16 (f 5 : Nat), .int .u16 (f 6 : Nat), .int .u16 (f 7 : Nat), .int .u16 (f 8 : Nat), .int .u16 (f 9 : Nat), .int .u16 (f 10 : Nat), .int .u16 (f 11 : Nat), .int .u16 (st : Nat), .int .u16 (nx : Nat), .int .i64 si, .int .i64 lf]) rfl (by kernel_rfl) (by kernel_rfl) (by kernel_rfl) (fun _ _ _ h => h) (Or.inl ⟨by rfl, by intro W hSw; go_simp⟩) hH ?_
    try simp only [Act.put, List.setIfInBounds_toArray, List.set_cons_zero, List.set_cons_succ]
    refine wpAnyH_ready (rs := [12]) (by decide +kernel) (by simp) (AllReadyH.cons rfl (fun K hK => ?_) AllReadyH.nil)
    go_simp
    have HB4d : Hid (Below w4.heap.size w4 (w4.alloc (.cells #[.slice none 0 0, .int .u16 0, .int .u16 0, .int .u16 0, .int .u16 0, .int .u16 0, .int .u16 0, .int .u16 0, .int .u16 0, .int .u16 0, .int .u16 0, .int .u16 0, .int .u16 0, .int .u16 0, .int .u16 0, .int .i64 0, .int .i64 0] 57)).drew) := Lib.hid (by
      have h := (Below.refl w4.heap.size w4).alloc (Nat.le_refl _) (.cells #[.slice none 0 0, .int .u16 0, .int .u16 0, .int .u16 0, .int .u16 0, .int .u16 0, .int .u16 0, .int .u16 0, .int .u16 0, .int .u16 0, .int .u16 0, .int .u16 0, .int .u16 0, .int .u16 0, .int .u16 0, .int .i64 0, .int .i64 0] 57)
      exact ⟨h.os, h.tape, h.output, h.size, h.block⟩)
    obtain ⟨w5, hw5⟩ : ∃ w5, w5 = (w4.alloc (.cells #[.slice none 0 0, .int .u16 0, .int .u16 0, .int .u16 0, .int .u16 0, .int .u16 0, .int .u16 0, .int .u16 0, .int .u16 0, .int .u16 0, .int .u16 0, .int .u16 0, .int .u16 0, .int .u16 0, .int .u16 0, .int .i64 0, .int .i64 0] 57)).drew := ⟨_, rfl⟩
    have hk5 : w5.heap[w4.heap.size]? = some (.cells #[.slice none 0 0, .int .u16 0, .int .u16 0, .int .u16 0, .int .u16 0, .int .u16 0, .int .u16 0, .int .u16 0, .int .u16 0, .int .u16 0, .int .u16 0, .int .u16 0, .int .u16 0, .int .u16 0, .int .u16 0, .int .i64 0, .int .i64 0] 57 (0, 0)) := by rw [hw5]; exact heap_alloc_new w4 _
    rw [← hw5] at HB4d ⊢
    clear hw5
    have HKP := Lib.hid (fun (X : World) (hX : Below w4.heap.size w4 X) => (⟨fun j v hj => (hX.cell (p := ⟨w1.heap.size, 0 + j, none⟩) lz1).trans (HS0.out.1 j v hj), (hX.cell (p := ⟨g, 0, none⟩) hgb).trans HS0.out.2.1, (hX.cell (p := ⟨g, 1, none⟩) hgb).trans HS0.out.2.2.1, (hX.cell (p := ⟨w.heap.size, 1, none⟩) lz0).trans HS0.out.2.2.2.1, (hX.cell (p := ⟨w.heap.size, 3, none⟩) lz0).trans HS0.out.2.2.2.2⟩ : X.rangeAt w1.heap.size 0 xs ∧ X.cell? ⟨g, 0, none⟩ = some (.int .u16 (st : Nat)) ∧ X.cell? ⟨g, 1, none⟩ = some (.int .u16 (nx : Nat)) ∧ X.cell? ⟨w.heap.size, 1, none⟩ = some (.int .i64 si) ∧ X.cell? ⟨w.heap.size, 3, none⟩ = some (.int .i64 lf)))
    refine hK.out _ _ (HKP.out _ HB4d.out) (fun _ => ?_)
    clear hK K hH
    try simp only [Act.put, List.setIfInBounds_toArray, List.set_cons_zero, List.set_cons_succ]
    refine wpAnyH_ready (rs := [13]) (by decide +kernel) (by simp) (AllReadyH.cons rfl (fun K hK => ?_) AllReadyH.nil)
    have hth := there_block hk5 17 rfl
    have HEQ : Hid ((m17 A n c f st nx si lf).toArray = #[.slice A n c, .int .u16 (f 0 : Nat), .int .u16 (f 1 : Nat), .int .u16 (f 2 : Nat), .int .u16 (f 3 : Nat), .int .u16 (f 4 : Nat), .int .u16 (f 5 : Nat), .int .u16 (f 6 : Nat), .int .u16 (f 7 : Nat), .int .u16 (f 8 : Nat), .int .u16 (f 9 : Nat), .int .u16 (f 10 : Nat), .int .u16 (f 11 : Nat), .int .u16 (st : Nat), .int .u16 (nx : Nat), .int .i64 si, .int .i64 lf]) := Lib.hid rfl
    rw [if_pos (by rfl)]
    refine wp_store_mid 57 _ _ rfl w4.heap.size 0 (m17 A n c f st nx si lf).toArray rfl rfl hth info_mach (all_oneCell_toArray (m17_one _ _ _ _ _ _ _ _)) ?_
    obtain ⟨w6, hw6⟩ : ∃ w6, w6 = w5.setCells w4.heap.size 0 (m17 A n c f st nx si lf).toArray.toList := ⟨_, rfl⟩
    have hb46 : Below w4.heap.size w4 w6 := by rw [hw6]; exact below_setCells _ (Nat.le_refl _) _ _ _ HB4d.out
    have hm6 : w6.rangeAt w4.heap.size 0 (m17 A n c f st nx si lf) := by rw [hw6]; exact World.rangeAt_setCells_same _ _ _ _ (by rw [List.toList_toArray, m17_len]; exact hth)
    have l46 : w4.heap.size < w6.heap.size := World.block_lt_of_cell? _ _ (m17_at hm6).1
    have HB46 := Lib.hid hb46
    have HM6 := Lib.hid hm6
    rw [← hw6]
    clear hw6 hb46 hm6 hth HEQ hk5
    refine hK.out _ _ (HKP.out _ HB46.out) (fun _ => ?_)
    clear hK K
    try simp only [Act.put, List.setIfInBounds_toArray, List.set_cons_zero, List.set_cons_succ]
    refine wpAnyH_done (by decide +kernel) ?_ _
    have HB6 := Lib.hid (HB4.out.trans (HB46.out.mono HB4.out.size))
    have HR6 := Lib.hid ((HB46.out.block _ (lt_of_block HR4.out)).trans HR4.out)
    have HIV6 := Lib.hid (HIV.out w6.drew ⟨HB6.out.os, HB6.out.tape, HB6.out.output, HB6.out.size, HB6.out.block⟩)
    rw [← t17_list] at HIV6 HMV
    rw [← HVV.out] at HIV6
    have hL := m17_len A n c f st nx si lf
    have HON := Lib.hid (m17_one A n c f st nx si lf)
    generalize m17 A n c f st nx si lf = ms at *
    generalize isCtl ps ⟨zs, si, zs3, lf⟩ = r at *
    have hinf17 : (Tryd.prog.info? 57).map (·.size) = some ms.length := by rw [hL]; exact info_mach
    have hrm := HM6.out
    clear hL17 HKP HB4d
    go_wp2
    refine wp_region_held_drew (S := fun W' => W'.rangeAt w4.heap.size 0 ms) hmx hrm (fun hH => ?_)
    refine wpAnyH_take (i := 0) (v := .agg ms.toArray) rfl (by kernel_rfl) (by kernel_rfl) (by kernel_rfl) (fun _ _ _ h => h) (yieldsIf_load_mid (by rfl) 57 _ rfl w4.heap.size 0 rfl ms _ (fun _ h => h) Tryd.underlying57 rfl hinf17) hH ?_
    try simp only [Act.put, List.setIfInBounds_toArray, List.set_cons_zero, List.set_cons_succ]
    refine wpAnyH_take (i := 1) (v := .agg ms.toArray) rfl (by kernel_rfl) (by kernel_rfl) (by kernel_rfl) (fun _ _ _ h => h) (yieldsIf_load_mid (by rfl) 57 _ rfl w4.heap.size 0 rfl ms _ (fun _ h => h) Tryd.underlying57 rfl hinf17) hH ?_
    try simp only [Act.put, List.setIfInBounds_toArray, List.set_cons_zero, List.set_cons_succ]
    refine wpAnyH_ready (rs := [2]) (by decide +kernel) (by simp) (AllReadyH.cons rfl (fun K hK => ?_) AllReadyH.nil)
    go_simp
    refine HIV6.out.mono ?_
    rintro e w7 ⟨rfl, hb7⟩
    have hb7' : Below w6.heap.size w6 w7 := ⟨hb7.os, hb7.tape, hb7.output, hb7.size, hb7.block⟩
    have HB7 := Lib.hid (HB6.out.trans (hb7'.mono HB6.out.size))
    have hr7 : w7.rangeAt w4.heap.size 0 ms := fun j v hj => (hb7'.cell (p := ⟨w4.heap.size, 0 + j, none⟩) l46).trans (hrm j v hj)
    have hz7 := (hb7'.block _ (lt_of_block HR6.out)).trans HR6.out
    have hth7 : w7.there (w.heap.size + 1) 0 ms.toArray.size := there_block hz7 _ (by simp [hL])
    have hne : w4.heap.size ≠ w.heap.size + 1 := by have := lt_of_block HR4.out; omega
    have HON2 := all_oneCell_toArray HON.out
    clear hb7 hb7' hz7
    go_wp2_with fail
    refine hK.out _ _ hr7 (fun _ => ?_)
    clear hK K
    try simp only [Act.put, List.setIfInBounds_toArray, List.set_cons_zero, List.set_cons_succ]
    refine wpAnyH_ready (rs := [3]) (by decide +kernel) (by simp) (AllReadyH.cons rfl (fun K hK => ?_) AllReadyH.nil)
    rw [if_pos (by rfl)]
    refine wp_store_mid 57 _ _ rfl (w.heap.size + 1) 0 ms.toArray rfl rfl hth7 (by rw [List.size_toArray]; exact hinf17) HON2 ?_
    have hr8 : (w7.setCells (w.heap.size + 1) 0 ms.toArray.toList).rangeAt w4.heap.size 0 ms := World.rangeAt_setCells_apart hr7 _ _ _ (.inl hne)
    refine hK.out _ _ hr8 (fun _ => ?_)
    clear hK K
    try simp only [Act.put, List.setIfInBounds_toArray, List.set_cons_zero, List.set_cons_succ]
    refine wpAnyH_ready (rs := [4]) (by decide +kernel) (by simp) (AllReadyH.cons rfl (fun K hK => ?_) AllReadyH.nil)
    go_simp
    refine hK.out _ _ (by simpa using hr8) (fun _ => ?_)
    clear hK K
    try simp only [Act.put, List.setIfInBounds_toArray, List.set_cons_zero, List.set_cons_succ]
    refine wpAnyH_done (by decide +kernel) ?_ _
    go_wp2
    refine bodyPost_ret (v := .tuple #[.agg ms.toArray, .bool r]) (by
        have hload := run_loadVar_mid (P := Tryd.prog) (w7.setCells (w.heap.size + 1) 0 ms) (w.heap.size + 1) 0 57 ms _ (World.rangeAt_setCells_same _ _ _ _ (by simpa using hth7)) Tryd.underlying57 rfl hinf17
        rw [results_cell_tmp rfl]
        simp [asAddr, hload, Result.andThen]) rfl ⟨by rw [HMV.out], ?_⟩
    exact below_setCells _ (Nat.le_succ _) _ _ _ HB7.out
/-- what machineOf answers. -/
def machV (A : Option Addr) (n c : Nat) (ps : List Pth) (x : Ctl) : Value :=
  if (arePs ps && (isTog ps x.stage && isTog ps x.next)) = true then .tuple #[.agg (t17 A n c (rowSt ps n 0) (maskL ps x.stage) (maskL ps x.next) x.since x.left), .bool (isCtl ps x)] else .tuple #[.agg z17.toArray, .bool false]
theorem impl_machineOf {w : World} {A : Option Addr} {n c : Nat} {ps : List Pth} {A2 : Option Addr} {n2 c2 : Nat} {A3 : Option Addr} {n3 c3 : Nat} {x : Ctl} (I : CtlIn w A n c ps A2 n2 c2 A3 n3 c3 x) (hw : Brus w) (ht : Clrs w) :
    Calls Tryd.prog 29 #[.slice A n c, ctlV (.slice A2 n2 c2) x.since (.slice A3 n3 c3) x.left] w fun e w' => e = .returned (machV A n c ps x) ∧ Below w.heap.size w w' := by
  cases ha : arePs ps
  · refine (impl_machineOf_off I ha).mono fun e w' h => ⟨?_, h.2⟩
    rw [h.1]
    unfold machV
    rw [ha]
    rfl
  · exact impl_machineOf_on I hw ht ha (machV A n c ps x) (fun h => by unfold machV; rw [ha, h]; rfl) (fun h => by unfold machV; rw [ha, h]; rfl)
/-- for a controller in order. -/
theorem machV_on {A : Option Addr} {n c : Nat} {ps : List Pth} {x : Ctl} (h : isCtl ps x = true) : machV A n c ps x = .tuple #[.agg (t17 A n c (rowSt ps n 0) (maskL ps x.stage) (maskL ps x.next) x.since x.left), .bool true] := by
  obtain ⟨ha, _, h1, h2, _⟩ := ctl_parts h
  unfold machV
  rw [ha, h1, h2, h]
  rfl
theorem machV_off {A : Option Addr} {n c : Nat} {ps : List Pth} {x : Ctl} (h : isCtl ps x = false) : ∃ A' n' c' f st nx s l, machV A n c ps x = .tuple #[.agg (t17 A' n' c' f st nx s l), .bool false] := by
  unfold machV
  split
  · rw [h]; exact ⟨_, _, _, _, _, _, _, _, rfl⟩
  · exact ⟨none, 0, 0, fun _ => 0, 0, 0, 0, 0, rfl⟩
theorem machV_any (A : Option Addr) (n c : Nat) (ps : List Pth) (x : Ctl) : ∃ A' n' c' f st nx s l, machV A n c ps x = .tuple #[.agg (t17 A' n' c' f st nx s l), .bool (isCtl ps x)] := by
  cases h : isCtl ps x
  · exact machV_off h
  · exact ⟨_, _, _, _, _, _, _, _, machV_on h⟩
set_option maxHeartbeats 2000000 in
set_option maxRecDepth 100000 in
theorem impl_lasts (A : Option Addr) (n c : Nat) (f : Nat → Nat) (st nx : Nat) (s l k : Int) (w : World) :
    Calls Tryd.prog 78 #[.agg (t17 A n c f st nx s l), .int .i64 k] w fun e w' => e = .returned (.bool (decide (nx = 0) && decide (k ≤ s))) ∧ Below w.heap.size w w' := by
  obtain ⟨wA, hwA⟩ : ∃ wA, wA = w.alloc (.cells (t17 A n c f st nx s l) 57) := ⟨_, rfl⟩
  have hk : wA.heap[w.heap.size]? = some (.cells (m17 A n c f st nx s l).toArray 57) := by rw [hwA, t17_list]; exact heap_alloc_new _ _
  have hbA : Below w.heap.size w wA := by rw [hwA]; exact (Below.refl _ _).alloc (Nat.le_refl _) _
  have hrng := range_block hk
  have hlA : w.heap.size < wA.heap.size := lt_of_block hk
  have k15 := (m17_at hrng).2.2.2.1
  have hinf : (Tryd.prog.info? 57).map (·.size) = some (m17 A n c f st nx s l).length := by rw [m17_len]; exact info_mach
  have HST := Lib.hid (impl_state A n c f st nx s l wA)
  have HBA := Lib.hid hbA
  rw [← t17_list] at HST
  generalize m17 A n c f st nx s l = cs at *
  unfold t17 at hwA ⊢
  clear hk hbA
  by_cases h : nx = 0
  · rw [if_pos h] at HST
    have HD : Hid ((decide (nx = 0) && decide (k ≤ s)) = decide (k ≤ s)) := Lib.hid (by rw [decide_eq_true h]; rfl)
    clear h
    by_cases hks : k ≤ s
    · have HD2 := Lib.hid (HD.out.trans (decide_eq_true hks))
      go_enter Tryd.func78, Tryd.ntmps78
      go_wp2_with ((with_reducible show wpList _ _ _ _ _ _); rw [← hwA]; clear hwA; refine wpList_load_mid rfl 57 _ rfl w.heap.size 0 rfl cs _ hrng Tryd.underlying57 rfl hinf ?_)
      refine HST.out.mono ?_
      rintro e w2 ⟨rfl, hb2⟩
      have HB2 := Lib.hid (HBA.out.trans (hb2.mono HBA.out.size))
      have m15 := (hb2.cell (p := ⟨w.heap.size, 15, none⟩) hlA).trans k15
      have l2 : w.heap.size < w2.heap.size := by have := hb2.size; omega
      clear hb2 k15 hrng
      go_wp2
      go_ret
      exact ⟨by rw [HD2.out]; try rfl, HB2.out⟩
    · have HD2 := Lib.hid HD.out
      go_enter Tryd.func78, Tryd.ntmps78
      go_wp2_with ((with_reducible show wpList _ _ _ _ _ _); rw [← hwA]; clear hwA; refine wpList_load_mid rfl 57 _ rfl w.heap.size 0 rfl cs _ hrng Tryd.underlying57 rfl hinf ?_)
      refine HST.out.mono ?_
      rintro e w2 ⟨rfl, hb2⟩
      have HB2 := Lib.hid (HBA.out.trans (hb2.mono HBA.out.size))
      have m15 := (hb2.cell (p := ⟨w.heap.size, 15, none⟩) hlA).trans k15
      have l2 : w.heap.size < w2.heap.size := by have := hb2.size; omega
      clear hb2 k15 hrng
      go_wp2
      go_ret
      exact ⟨by rw [HD2.out]; try rfl, HB2.out⟩
  · rw [if_neg h] at HST
    have HD : Hid ((decide (nx = 0) && decide (k ≤ s)) = false) := Lib.hid (by rw [decide_eq_false h]; rfl)
    clear h
    go_enter Tryd.func78, Tryd.ntmps78
    go_wp2_with ((with_reducible show wpList _ _ _ _ _ _); rw [← hwA]; clear hwA; refine wpList_load_mid rfl 57 _ rfl w.heap.size 0 rfl cs _ hrng Tryd.underlying57 rfl hinf ?_)
    refine HST.out.mono ?_
    rintro e w2 ⟨rfl, hb2⟩
    have HB2 := Lib.hid (HBA.out.trans (hb2.mono HBA.out.size))
    clear hb2 k15 hrng
    go_wp2
    go_ret
    exact ⟨by rw [HD.out]; try rfl, HB2.out⟩
end Go.Proofs.YtmcoeafkbpeelaaDoor

/- The program's machine as a controller (written by genctlm.py). -/
set_option linter.unusedSimpArgs false
namespace Go.Proofs.YtmcoeafkbpeelaaDoor
open Go.RowKit
set_option linter.unusedVariables false

set_option maxHeartbeats 8000000 in
set_option maxRecDepth 100000 in
theorem impl_controlM (A : Option Addr) (n c B : Nat) (ps : List Pth) (f : Nat → Nat) (st nx : Nat) (s l : Int) (h12 : n ≤ 12) (hst : st < 2 ^ n) (hnx : nx < 2 ^ n) (w : World) (h : PthsAt w B A n ps) (hB : B ≤ w.heap.size) (hw : Brus w) :
    Calls Tryd.prog 34 #[.agg (t17 A n c f st nx s l)] w fun e w' => ∃ v, e = .returned v ∧ OwnC w' w.heap.size v ⟨idsM ps st, s, idsM ps nx, l⟩ ∧ Below w.heap.size w w' := by
  obtain ⟨wA, hwA⟩ : ∃ wA, wA = (w.alloc (.cells (t17 A n c f st nx s l) 57)).alloc (.cells #[.slice none 0 0, .int .i64 0, .slice none 0 0, .int .i64 0] 28) := ⟨_, rfl⟩
  obtain ⟨hk, hx, hsz, hbA⟩ := two_blocks hwA
  rw [← t17_list] at hk
  have hbD : Below w.heap.size w wA.drew := ⟨hbA.os, hbA.tape, hbA.output, hbA.size, hbA.block⟩
  have hrng := range_block hk
  have hlA : w.heap.size < wA.heap.size := lt_of_block hk
  have hinf13 : (Tryd.prog.info? 55).map (·.size) = some (xcells A n c f).length := by rw [xcells_length]; exact info_cross
  have HPRE := Lib.hid (fun (W : World) (hW : W.rangeAt w.heap.size 0 (m17 A n c f st nx s l)) => m17_pre hW)
  have HAT := Lib.hid (fun (W : World) (hW : W.rangeAt w.heap.size 0 (m17 A n c f st nx s l)) => m17_at hW)
  have HC1 := Lib.hid (fun y (hy : Below w.heap.size w y) => impl_idsOf A n c B ps f st y (h.below (hy.mono hB)) (Nat.le_trans hB hy.size) h12 hst (hw.below hy (Nat.le_refl _)))
  have HC2 := Lib.hid (fun y (hy : Below w.heap.size w y) => impl_idsOf A n c B ps f nx y (h.below (hy.mono hB)) (Nat.le_trans hB hy.size) h12 hnx (hw.below hy (Nat.le_refl _)))
  have HX := Lib.hid hx
  have HB := Lib.hid hbD
  have lA : w.heap.size + 1 < wA.heap.size := by omega
  have lD : w.heap.size + 1 < wA.drew.heap.size := lA
  have hmx : Tryd.prog.follows .mixedOrders = true := by kernel_rfl
  generalize m17 A n c f st nx s l = ms at *
  generalize idsM ps st = zs1 at *
  generalize idsM ps nx = zs2 at *
  unfold t17 at hwA ⊢
  clear h hw hk hx hsz hbA hbD
  go_enter Tryd.func34, Tryd.ntmps34
  go_wp2
  rw [← hwA]
  clear hwA
  refine wp_region_held_drew (S := fun W' => W'.rangeAt w.heap.size 0 ms) hmx hrng (fun hH => ?_)
  refine wpAnyH_take (i := 0) (v := .pointer (some ⟨w.heap.size, 0, none⟩)) rfl (by kernel_rfl) (by kernel_rfl) (by kernel_rfl) (fun _ _ _ h => h) (Or.inl ⟨by rfl, by intro W hSw; go_simp⟩) hH ?_
  try simp only [Act.put, List.setIfInBounds_toArray, List.set_cons_zero, List.set_cons_succ]
  refine wpAnyH_take (i := 1) (v := .agg (xcells A n c f).toArray) rfl (by kernel_rfl) (by kernel_rfl) (by kernel_rfl) (fun _ _ _ h => h) (yieldsIf_load_mid (by rfl) 55 _ rfl w.heap.size 0 rfl (xcells A n c f) _ (fun W hW => HPRE.out W hW) Tryd.underlying55 rfl hinf13) hH ?_
  try simp only [Act.put, List.setIfInBounds_toArray, List.set_cons_zero, List.set_cons_succ]
  refine wpAnyH_take (i := 2) (v := .pointer (some ⟨w.heap.size, 13, none⟩)) rfl (by kernel_rfl) (by kernel_rfl) (by kernel_rfl) (fun _ _ _ h => h) (Or.inl ⟨by rfl, by intro W hSw; go_simp⟩) hH ?_
  try simp only [Act.put, List.setIfInBounds_toArray, List.set_cons_zero, List.set_cons_succ]
  refine wpAnyH_take (i := 3) (v := .int .u16 (st : Nat)) rfl (by kernel_rfl) (by kernel_rfl) (by kernel_rfl) (fun _ _ _ h => h) (Or.inl ⟨by rfl, by intro W hSw; have hx := (HAT.out W hSw).2.1; have hy : w.heap.size < W.heap.size := World.block_lt_of_cell? _ _ hx; go_simp⟩) hH ?_
  try simp only [Act.put, List.setIfInBounds_toArray, List.set_cons_zero, List.set_cons_succ]
  refine wpAnyH_take (i := 5) (v := .pointer (some ⟨w.heap.size, 15, none⟩)) rfl (by kernel_rfl) (by kernel_rfl) (by kernel_rfl) (fun _ _ _ h => h) (Or.inl ⟨by rfl, by intro W hSw; go_simp⟩) hH ?_
  try simp only [Act.put, List.setIfInBounds_toArray, List.set_cons_zero, List.set_cons_succ]
  refine wpAnyH_take (i := 6) (v := .int .i64 s) rfl (by kernel_rfl) (by kernel_rfl) (by kernel_rfl) (fun _ _ _ h => h) (Or.inl ⟨by rfl, by intro W hSw; have hx := (HAT.out W hSw).2.2.2.1; have hy : w.heap.size < W.heap.size := World.block_lt_of_cell? _ _ hx; go_simp⟩) hH ?_
  try simp only [Act.put, List.setIfInBounds_toArray, List.set_cons_zero, List.set_cons_succ]
  refine wpAnyH_take (i := 7) (v := .pointer (some ⟨w.heap.size, 0, none⟩)) rfl (by kernel_rfl) (by kernel_rfl) (by kernel_rfl) (fun _ _ _ h => h) (Or.inl ⟨by rfl, by intro W hSw; go_simp⟩) hH ?_
  try simp only [Act.put, List.setIfInBounds_toArray, List.set_cons_zero, List.set_cons_succ]
  refine wpAnyH_take (i := 8) (v := .agg (xcells A n c f).toArray) rfl (by kernel_rfl) (by kernel_rfl) (by kernel_rfl) (fun _ _ _ h => h) (yieldsIf_load_mid (by rfl) 55 _ rfl w.heap.size 0 rfl (xcells A n c f) _ (fun W hW => HPRE.out W hW) Tryd.underlying55 rfl hinf13) hH ?_
  try simp only [Act.put, List.setIfInBounds_toArray, List.set_cons_zero, List.set_cons_succ]
  refine wpAnyH_take (i := 9) (v := .pointer (some ⟨w.heap.size, 14, none⟩)) rfl (by kernel_rfl) (by kernel_rfl) (by kernel_rfl) (fun _ _ _ h => h) (Or.inl ⟨by rfl, by intro W hSw; go_simp⟩) hH ?_
  try simp only [Act.put, List.setIfInBounds_toArray, List.set_cons_zero, List.set_cons_succ]
  refine wpAnyH_take (i := 10) (v := .int .u16 (nx : Nat)) rfl (by kernel_rfl) (by kernel_rfl) (by kernel_rfl) (fun _ _ _ h => h) (Or.inl ⟨by rfl, by intro W hSw; have hx := (HAT.out W hSw).2.2.1; have hy : w.heap.size < W.heap.size := World.block_lt_of_cell? _ _ hx; go_simp⟩) hH ?_
  try simp only [Act.put, List.setIfInBounds_toArray, List.set_cons_zero, List.set_cons_succ]
  refine wpAnyH_take (i := 12) (v := .pointer (some ⟨w.heap.size, 16, none⟩)) rfl (by kernel_rfl) (by kernel_rfl) (by kernel_rfl) (fun _ _ _ h => h) (Or.inl ⟨by rfl, by intro W hSw; go_simp⟩) hH ?_
  try simp only [Act.put, List.setIfInBounds_toArray, List.set_cons_zero, List.set_cons_succ]
  refine wpAnyH_take (i := 13) (v := .int .i64 l) rfl (by kernel_rfl) (by kernel_rfl) (by kernel_rfl) (fun _ _ _ h => h) (Or.inl ⟨by rfl, by intro W hSw; have hx := (HAT.out W hSw).2.2.2.2; have hy : w.heap.size < W.heap.size := World.block_lt_of_cell? _ _ hx; go_simp⟩) hH ?_
  try simp only [Act.put, List.setIfInBounds_toArray, List.set_cons_zero, List.set_cons_succ]
  refine wpAnyH_ready (rs := [4]) (by decide +kernel) (by simp) (AllReadyH.cons rfl (fun K hK => ?_) AllReadyH.nil)
  go_simp
  refine (HC1.out _ HB.out).mono ?_
  rintro e w1 ⟨v, rfl, ho, hb⟩
  obtain ⟨E1, e1, rfl⟩ := ho.sliced
  have hr1 : w1.rangeAt w.heap.size 0 ms := fun j v hj => (hb.cell (p := ⟨w.heap.size, 0 + j, none⟩) hlA).trans (hrng j v hj)
  have hR1 := (hb.block _ lD).trans HX.out
  have hB1 := HB.out.trans (hb.mono HB.out.size)
  have hs1 := hb.size
  have lw1 : w.heap.size < w1.heap.size := Nat.lt_of_lt_of_le (show w.heap.size < wA.drew.heap.size from hlA) hb.size
  have own1 := ho
  clear ho hb
  go_wp2_with fail
  refine hK.out _ _ hr1 (fun hH => ?_)
  clear hK K
  try simp only [Act.put, List.setIfInBounds_toArray, List.set_cons_zero, List.set_cons_succ]
  refine wpAnyH_ready (rs := [11]) (by decide +kernel) (by simp) (AllReadyH.cons rfl (fun K hK => ?_) AllReadyH.nil)
  go_simp
  refine (HC2.out _ hB1).mono ?_
  rintro e w2 ⟨v, rfl, ho, hb⟩
  obtain ⟨E2, e2, rfl⟩ := ho.sliced
  have hr2 : w2.rangeAt w.heap.size 0 ms := fun j v hj => (hb.cell (p := ⟨w.heap.size, 0 + j, none⟩) lw1).trans (hr1 j v hj)
  have hR2 := (hb.block _ (lt_of_block hR1)).trans hR1
  have hB2 := hB1.trans (hb.mono hB1.size)
  have hs2 := hb.size
  have hap : ∀ g, (Value.slice E1 zs1.length e1).ownBlock = some g → (Value.slice E2 zs2.length e2).ownBlock ≠ some g := fun g g1 g2 => by
    have a1 := (own1.block g g1).2
    have a2 := (ho.block g g2).1
    omega
  replace own1 := own1.below hb
  have own2 := ho
  clear ho hb
  go_wp2_with fail
  refine hK.out _ _ hr2 (fun hH => ?_)
  clear hK K
  try simp only [Act.put, List.setIfInBounds_toArray, List.set_cons_zero, List.set_cons_succ]
  refine wpAnyH_take (i := 14) (v := .agg #[.slice E1 zs1.length e1, .int .i64 s, .slice E2 zs2.length e2, .int .i64 l]) rfl (by kernel_rfl) (by kernel_rfl) (by kernel_rfl) (fun _ _ _ h => h) (Or.inl ⟨by rfl, by intro W hSw; go_simp⟩) hH ?_
  try simp only [Act.put, List.setIfInBounds_toArray, List.set_cons_zero, List.set_cons_succ]
  obtain ⟨z0, z1, z2, z3⟩ := cells4 hR2
  have fz : ∀ j, w2.frozen? ⟨w.heap.size + 1, j, none⟩ = false := fun j => frozen_of_row _ _ j _ _ hR2
  have lr := lt_of_block hR2
  refine wpAnyH_ready (rs := [15]) (by decide +kernel) (by simp) (AllReadyH.cons rfl (fun K hK => ?_) AllReadyH.nil)
  go_simp
  refine hK.out _ _ (fun j v hj => ((below_set4 _ _ _ _ (Below.refl (w.heap.size + 1) w2) (Nat.le_refl _)).cell (p := ⟨w.heap.size, 0 + j, none⟩) (Nat.lt_succ_self _)).trans (hr2 j v hj)) (fun hH => ?_)
  clear hK K
  try simp only [Act.put, List.setIfInBounds_toArray, List.set_cons_zero, List.set_cons_succ]
  refine wpAnyH_done (by decide +kernel) ?_ _
  obtain ⟨r0, r1, r2, r3⟩ := cells4 (stored4 (a := .slice E1 zs1.length e1) (b := .int .i64 s) (c := .slice E2 zs2.length e2) (d := .int .i64 l) hR2)
  have lq : w.heap.size + 1 < ((((w2.setCell ⟨w.heap.size + 1, 0, none⟩ (.slice E1 zs1.length e1)).setCell ⟨w.heap.size + 1, 1, none⟩ (.int .i64 s)).setCell ⟨w.heap.size + 1, 2, none⟩ (.slice E2 zs2.length e2)).setCell ⟨w.heap.size + 1, 3, none⟩ (.int .i64 l)).heap.size := by simpa using lr
  clear z0 z1 z2 z3 fz
  go_wp2
  refine bodyPost_ret (by rw [results_cell rfl]; go_simp; try rfl) rfl ?_
  exact ⟨_, rfl, ⟨_, _, _, _, _, _, rfl, (own_set4 _ _ _ _ own1 (by omega)).mono (by omega), (own_set4 _ _ _ _ own2 (by omega)).mono (by omega), hap⟩, below_set4 _ _ _ _ hB2 (by omega)⟩
end Go.Proofs.YtmcoeafkbpeelaaDoor

/- The program's machine: open, tick. -/
set_option linter.unusedSimpArgs false
namespace Go.Proofs.YtmcoeafkbpeelaaDoor
open Go.RowKit
set_option linter.unusedVariables false

set_option maxHeartbeats 4000000 in
set_option maxRecDepth 100000 in
theorem impl_openM (A : Option Addr) (n c : Nat) (f : Nat → Nat) (st nx : Nat) (s l : Int) (k : Nat) (w : World) :
    Calls Tryd.prog 59 #[.agg (t17 A n c f st nx s l), .int .u16 (k : Nat)] w fun e w' => e = .returned (.agg (t17 A n c f k 0 0 0)) ∧ Below w.heap.size w w' := by
  obtain ⟨wA, hwA⟩ : ∃ wA, wA = (w.alloc (.cells (t17 A n c f st nx s l) 57)).alloc (.cells #[.slice none 0 0, .int .u16 0, .int .u16 0, .int .u16 0, .int .u16 0, .int .u16 0, .int .u16 0, .int .u16 0, .int .u16 0, .int .u16 0, .int .u16 0, .int .u16 0, .int .u16 0, .int .u16 0, .int .u16 0, .int .i64 0, .int .i64 0] 57) := ⟨_, rfl⟩
  obtain ⟨hk, hx, hsz, hbA⟩ := two_blocks hwA
  rw [← t17_list] at hk
  have hrng := m17_pre (range_block hk)
  have lA : w.heap.size + 1 < wA.heap.size := by omega
  have hinf13 : (Tryd.prog.info? 55).map (·.size) = some (xcells A n c f).length := by rw [xcells_length]; exact info_cross
  have hth : wA.there (w.heap.size + 1) 0 (m17 A n c f k 0 0 0).toArray.size := there_block hx _ (by rw [List.size_toArray, m17_len]; rfl)
  have HON := Lib.hid (all_oneCell_toArray (m17_one A n c f k 0 0 0))
  have hinf17 : (Tryd.prog.info? 57).map (·.size) = some (m17 A n c f k 0 0 0).length := by rw [m17_len]; exact info_mach
  have HB := Lib.hid hbA
  have HTH := Lib.hid hth
  clear hk hx hsz hbA hth
  rw [← t17_list (st := k)]
  unfold t17 at hwA ⊢
  go_enter Tryd.func59, Tryd.ntmps59
  go_wp2_with ((with_reducible show wpList _ _ _ _ _ _); first
    | (rw [← hwA]; clear hwA; refine wpList_load_mid rfl 55 _ rfl w.heap.size 0 rfl [.slice A n c, .int .u16 (f 0 : Nat), .int .u16 (f 1 : Nat), .int .u16 (f 2 : Nat), .int .u16 (f 3 : Nat), .int .u16 (f 4 : Nat), .int .u16 (f 5 : Nat), .int .u16 (f 6 : Nat), .int .u16 (f 7 : Nat), .int .u16 (f 8 : Nat), .int .u16 (f 9 : Nat), .int .u16 (f 10 : Nat), .int .u16 (f 11 : Nat)] _ hrng Tryd.underlying55 rfl hinf13 ?_)
    | (refine wpList_store_mid rfl 57 _ _ rfl (w.heap.size + 1) 0 (m17 A n c f k 0 0 0).toArray rfl rfl HTH.out (by rw [List.size_toArray]; exact hinf17) HON.out ?_; generalize hzz : m17 A n c f k 0 0 0 = zz at *))
  all_goals
    refine bodyPost_ret (v := .agg zz.toArray) (by
        have hload := run_loadVar_mid (P := Tryd.prog) (wA.setCells (w.heap.size + 1) 0 zz) (w.heap.size + 1) 0 57 zz _ (World.rangeAt_setCells_same _ _ _ _ (by have := HTH.out; simpa using this)) Tryd.underlying57 rfl hinf17
        rw [results_cell rfl]
        simp [asAddr, Act.eval, Act.put, hload, Result.andThen]) rfl ⟨by rw [hzz], ?_⟩
    exact below_setCells _ (Nat.le_succ _) _ _ _ HB.out
set_option maxHeartbeats 4000000 in
set_option maxRecDepth 100000 in
theorem impl_tickO (A : Option Addr) (n c : Nat) (f : Nat → Nat) (st nx : Nat) (s l : Int) (hnx : nx = 0) (hs : 0 ≤ s ∧ s ≤ 1000000) (w : World) :
    Calls Tryd.prog 62 #[.agg (t17 A n c f st nx s l)] w fun e w' => e = .returned (.agg (t17 A n c f st nx (minI (s + 1) 1000000) l)) ∧ Below w.heap.size w w' := by
  obtain ⟨wA, hwA⟩ : ∃ wA, wA = (w.alloc (.cells (t17 A n c f st nx s l) 57)).alloc (.cells #[.slice none 0 0, .int .u16 0, .int .u16 0, .int .u16 0, .int .u16 0, .int .u16 0, .int .u16 0, .int .u16 0, .int .u16 0, .int .u16 0, .int .u16 0, .int .u16 0, .int .u16 0, .int .u16 0, .int .u16 0, .int .i64 0, .int .i64 0] 57) := ⟨_, rfl⟩
  obtain ⟨hk, hx, hsz, hbA⟩ := two_blocks hwA
  rw [← t17_list] at hk
  have hrng := range_block hk
  have lA : w.heap.size + 1 < wA.heap.size := by omega
  have hinf : (Tryd.prog.info? 57).map (·.size) = some (m17 A n c f st nx s l).length := by rw [m17_len]; exact info_mach
  have HST := Lib.hid (impl_state A n c f st nx s l wA)
  have HK := Lib.hid hk
  have HX := Lib.hid hx
  have HB := Lib.hid hbA
  clear hk hx hsz hbA
  rw [if_pos hnx] at HST
  rw [← t17_list] at HST
  rw [← t17_list (A := A) (n := n) (c := c) (f := f) (st := st) (nx := nx) (s := minI (s + 1) 1000000) (l := l)]
  generalize m17 A n c f st nx s l = cs at HST hrng hinf
  unfold t17 at hwA ⊢
  clear hnx
  go_enter Tryd.func62, Tryd.ntmps62
  go_wp2_with ((with_reducible show wpList _ _ _ _ _ _); rw [← hwA]; clear hwA; refine wpList_load_mid rfl 57 _ rfl w.heap.size 0 rfl cs _ hrng Tryd.underlying57 rfl hinf ?_)
  clear hrng hinf
  refine HST.out.mono ?_
  rintro e w2 ⟨rfl, hb2⟩
  have HB2 := Lib.hid (HB.out.trans (hb2.mono HB.out.size))
  have hk2 := (hb2.block _ (lt_of_block HK.out)).trans HK.out
  have hx2 := (hb2.block _ lA).trans HX.out
  have fk : ∀ j, w2.frozen? ⟨w.heap.size, j, none⟩ = false := fun j => frozen_of_row _ _ j _ _ hk2
  have HK2 := Lib.hid hk2
  have HX2 := Lib.hid hx2
  obtain ⟨k0, k13, k14, k15, k16⟩ := m17_at (range_block hk2)
  have lk := lt_of_block hk2
  clear hb2 hk2 hx2
  have hwr : IntKind.i64.wrap (s + 1) = s + 1 := by rw [IntKind.wrap_i64]; omega
  go_wp2_with fail
  refine (impl_Min (s + 1) 1000000 _).mono ?_
  rintro e w3 ⟨rfl, hb3⟩
  have hk3 := (hb3.block _ (lt_of_block HK2.out)).trans HK2.out
  have hx3 := (hb3.block _ (lt_of_block HX2.out)).trans HX2.out
  have HB3 := Lib.hid (HB2.out.trans (hb3.mono HB2.out.size))
  clear k0 k13 k14 k15 k16 fk lk hb3
  obtain ⟨k0, k13, k14, k15, k16⟩ := m17_at (range_block hk3)
  have fk : ∀ j, w3.frozen? ⟨w.heap.size, j, none⟩ = false := fun j => frozen_of_row _ _ j _ _ hk3
  have lk := lt_of_block hk3
  obtain ⟨w4, hw4⟩ : ∃ w4, w4 = w3.setCell ⟨w.heap.size, 15, none⟩ (.int .i64 (minI (s + 1) 1000000)) := ⟨_, rfl⟩
  have hk4 : w4.heap[w.heap.size]? = some (.cells (m17 A n c f st nx (minI (s + 1) 1000000) l).toArray 57 (0, 0)) := by rw [hw4]; exact heap_set hk3 15 _
  have hx4 : w4.heap[w.heap.size + 1]? = some (.cells #[.slice none 0 0, .int .u16 0, .int .u16 0, .int .u16 0, .int .u16 0, .int .u16 0, .int .u16 0, .int .u16 0, .int .u16 0, .int .u16 0, .int .u16 0, .int .u16 0, .int .u16 0, .int .u16 0, .int .u16 0, .int .i64 0, .int .i64 0] 57 (0, 0)) := by rw [hw4]; exact ((only_setCell (World.grownBy.refl w3 (some w.heap.size)) 15 _).block _ (lt_of_block hx3) (by simp)).trans hx3
  have HB4 : Hid (Below w.heap.size w w4) := Lib.hid (by rw [hw4]; exact HB3.out.setCell (Nat.le_refl _) _)
  have HMI : Hid (minI (s + 1) 1000000 = minI (s + 1) 1000000) := Lib.hid rfl

  have HON := Lib.hid (all_oneCell_toArray (m17_one A n c f st nx (minI (s + 1) 1000000) l))
  have hinf17 : (Tryd.prog.info? 57).map (·.size) = some (m17 A n c f st nx (minI (s + 1) 1000000) l).length := by rw [m17_len]; exact info_mach
  have HTH : Hid (w4.there (w.heap.size + 1) 0 (m17 A n c f st nx (minI (s + 1) 1000000) l).toArray.size) := Lib.hid (there_block hx4 _ (by rw [List.size_toArray, m17_len]; rfl))
  have hr4 := range_block hk4
  clear hk4 hx4
  generalize hzz : m17 A n c f st nx (minI (s + 1) 1000000) l = zz at *
  go_wp2_with ((with_reducible show wpList _ _ _ _ _ _); first
    | (rw [← hw4]; clear hw4; refine wpList_load_mid rfl 57 _ rfl w.heap.size 0 rfl zz _ hr4 Tryd.underlying57 rfl hinf17 ?_)
    | (refine wpList_store_mid rfl 57 _ _ rfl (w.heap.size + 1) 0 zz.toArray rfl rfl HTH.out (by rw [List.size_toArray]; exact hinf17) HON.out ?_))
  all_goals
    refine bodyPost_ret (v := .agg zz.toArray) (by
        have hload := run_loadVar_mid (P := Tryd.prog) (w4.setCells (w.heap.size + 1) 0 zz) (w.heap.size + 1) 0 57 zz _ (World.rangeAt_setCells_same _ _ _ _ (by have := HTH.out; simpa using this)) Tryd.underlying57 rfl hinf17
        rw [results_cell rfl]
        simp [asAddr, Act.eval, Act.put, hload, Result.andThen]) rfl ⟨by rw [hzz], ?_⟩
    exact below_setCells _ (Nat.le_succ _) _ _ _ HB4.out
set_option maxHeartbeats 4000000 in
set_option maxRecDepth 100000 in
theorem impl_tickL (A : Option Addr) (n c : Nat) (f : Nat → Nat) (st nx : Nat) (s l : Int) (hnx : ¬ nx = 0) (hl : 1 < l ∧ l ≤ 9223372036854775807) (w : World) :
    Calls Tryd.prog 62 #[.agg (t17 A n c f st nx s l)] w fun e w' => e = .returned (.agg (t17 A n c f st nx s (l - 1))) ∧ Below w.heap.size w w' := by
  obtain ⟨wA, hwA⟩ : ∃ wA, wA = (w.alloc (.cells (t17 A n c f st nx s l) 57)).alloc (.cells #[.slice none 0 0, .int .u16 0, .int .u16 0, .int .u16 0, .int .u16 0, .int .u16 0, .int .u16 0, .int .u16 0, .int .u16 0, .int .u16 0, .int .u16 0, .int .u16 0, .int .u16 0, .int .u16 0, .int .u16 0, .int .i64 0, .int .i64 0] 57) := ⟨_, rfl⟩
  obtain ⟨hk, hx, hsz, hbA⟩ := two_blocks hwA
  rw [← t17_list] at hk
  have hrng := range_block hk
  have lA : w.heap.size + 1 < wA.heap.size := by omega
  have hinf : (Tryd.prog.info? 57).map (·.size) = some (m17 A n c f st nx s l).length := by rw [m17_len]; exact info_mach
  have HST := Lib.hid (impl_state A n c f st nx s l wA)
  have HK := Lib.hid hk
  have HX := Lib.hid hx
  have HB := Lib.hid hbA
  clear hk hx hsz hbA
  rw [if_neg hnx] at HST
  rw [← t17_list] at HST
  rw [← t17_list (A := A) (n := n) (c := c) (f := f) (st := st) (nx := nx) (s := s) (l := l - 1)]
  generalize m17 A n c f st nx s l = cs at HST hrng hinf
  unfold t17 at hwA ⊢
  go_enter Tryd.func62, Tryd.ntmps62
  go_wp2_with ((with_reducible show wpList _ _ _ _ _ _); rw [← hwA]; clear hwA; refine wpList_load_mid rfl 57 _ rfl w.heap.size 0 rfl cs _ hrng Tryd.underlying57 rfl hinf ?_)
  clear hrng hinf
  refine HST.out.mono ?_
  rintro e w2 ⟨rfl, hb2⟩
  have HB2 := Lib.hid (HB.out.trans (hb2.mono HB.out.size))
  have hk2 := (hb2.block _ (lt_of_block HK.out)).trans HK.out
  have hx2 := (hb2.block _ lA).trans HX.out
  have fk : ∀ j, w2.frozen? ⟨w.heap.size, j, none⟩ = false := fun j => frozen_of_row _ _ j _ _ hk2
  have HK2 := Lib.hid hk2
  have HX2 := Lib.hid hx2
  obtain ⟨k0, k13, k14, k15, k16⟩ := m17_at (range_block hk2)
  have lk := lt_of_block hk2
  clear hb2 hk2 hx2
  have hwr : IntKind.i64.wrap (l - 1) = l - 1 := by rw [IntKind.wrap_i64]; omega
  have hz : (l - 1 == 0) = false := beq_eq_false_iff_ne.2 (by omega)
  obtain ⟨w4, hw4⟩ : ∃ w4, w4 = w2.setCell ⟨w.heap.size, 16, none⟩ (.int .i64 (l - 1)) := ⟨_, rfl⟩
  have hk4 : w4.heap[w.heap.size]? = some (.cells (m17 A n c f st nx s (l - 1)).toArray 57 (0, 0)) := by rw [hw4]; exact heap_set HK2.out 16 _
  have hx4 : w4.heap[w.heap.size + 1]? = some (.cells #[.slice none 0 0, .int .u16 0, .int .u16 0, .int .u16 0, .int .u16 0, .int .u16 0, .int .u16 0, .int .u16 0, .int .u16 0, .int .u16 0, .int .u16 0, .int .u16 0, .int .u16 0, .int .u16 0, .int .u16 0, .int .i64 0, .int .i64 0] 57 (0, 0)) := by rw [hw4]; exact ((only_setCell (World.grownBy.refl w2 (some w.heap.size)) 16 _).block _ (lt_of_block HX2.out) (by simp)).trans HX2.out
  have HB4 : Hid (Below w.heap.size w w4) := Lib.hid (by rw [hw4]; exact HB2.out.setCell (Nat.le_refl _) _)

  have HON := Lib.hid (all_oneCell_toArray (m17_one A n c f st nx s (l - 1)))
  have hinf17 : (Tryd.prog.info? 57).map (·.size) = some (m17 A n c f st nx s (l - 1)).length := by rw [m17_len]; exact info_mach
  have HTH : Hid (w4.there (w.heap.size + 1) 0 (m17 A n c f st nx s (l - 1)).toArray.size) := Lib.hid (there_block hx4 _ (by rw [List.size_toArray, m17_len]; rfl))
  have hr4 := range_block hk4
  clear hk4 hx4
  generalize hzz : m17 A n c f st nx s (l - 1) = zz at *
  go_wp2_with ((with_reducible show wpList _ _ _ _ _ _); first
    | (rw [← hw4]; clear hw4; refine wpList_load_mid rfl 57 _ rfl w.heap.size 0 rfl zz _ hr4 Tryd.underlying57 rfl hinf17 ?_)
    | (refine wpList_store_mid rfl 57 _ _ rfl (w.heap.size + 1) 0 zz.toArray rfl rfl HTH.out (by rw [List.size_toArray]; exact hinf17) HON.out ?_))
  all_goals
    refine bodyPost_ret (v := .agg zz.toArray) (by
        have hload := run_loadVar_mid (P := Tryd.prog) (w4.setCells (w.heap.size + 1) 0 zz) (w.heap.size + 1) 0 57 zz _ (World.rangeAt_setCells_same _ _ _ _ (by have := HTH.out; simpa using this)) Tryd.underlying57 rfl hinf17
        rw [results_cell rfl]
        simp [asAddr, Act.eval, Act.put, hload, Result.andThen]) rfl ⟨by rw [hzz], ?_⟩
    exact below_setCells _ (Nat.le_succ _) _ _ _ HB4.out
set_option maxHeartbeats 4000000 in
set_option maxRecDepth 100000 in
theorem impl_tickE (A : Option Addr) (n c : Nat) (f : Nat → Nat) (st nx : Nat) (s l : Int) (hnx : ¬ nx = 0) (hl : l = 1) (w : World) :
    Calls Tryd.prog 62 #[.agg (t17 A n c f st nx s l)] w fun e w' => e = .returned (.agg (t17 A n c f nx 0 0 0)) ∧ Below w.heap.size w w' := by
  obtain ⟨wA, hwA⟩ : ∃ wA, wA = (w.alloc (.cells (t17 A n c f st nx s l) 57)).alloc (.cells #[.slice none 0 0, .int .u16 0, .int .u16 0, .int .u16 0, .int .u16 0, .int .u16 0, .int .u16 0, .int .u16 0, .int .u16 0, .int .u16 0, .int .u16 0, .int .u16 0, .int .u16 0, .int .u16 0, .int .u16 0, .int .i64 0, .int .i64 0] 57) := ⟨_, rfl⟩
  obtain ⟨hk, hx, hsz, hbA⟩ := two_blocks hwA
  rw [← t17_list] at hk
  have hrng := range_block hk
  have lA : w.heap.size + 1 < wA.heap.size := by omega
  have hinf : (Tryd.prog.info? 57).map (·.size) = some (m17 A n c f st nx s l).length := by rw [m17_len]; exact info_mach
  have HST := Lib.hid (impl_state A n c f st nx s l wA)
  have HK := Lib.hid hk
  have HX := Lib.hid hx
  have HB := Lib.hid hbA
  clear hk hx hsz hbA
  have hwr : IntKind.i64.wrap (l - 1) = l - 1 := by rw [IntKind.wrap_i64]; omega
  have hz : (l - 1 == 0) = true := by subst hl; rfl
  clear hl
  rw [if_neg hnx] at HST
  rw [← t17_list] at HST
  rw [← t17_list (A := A) (n := n) (c := c) (f := f) (st := nx) (nx := 0) (s := 0) (l := 0)]
  generalize m17 A n c f st nx s l = cs at HST hrng hinf
  unfold t17 at hwA ⊢
  go_enter Tryd.func62, Tryd.ntmps62
  go_wp2_with ((with_reducible show wpList _ _ _ _ _ _); rw [← hwA]; clear hwA; refine wpList_load_mid rfl 57 _ rfl w.heap.size 0 rfl cs _ hrng Tryd.underlying57 rfl hinf ?_)
  clear hrng hinf
  refine HST.out.mono ?_
  rintro e w2 ⟨rfl, hb2⟩
  have HB2 := Lib.hid (HB.out.trans (hb2.mono HB.out.size))
  have hk2 := (hb2.block _ (lt_of_block HK.out)).trans HK.out
  have hx2 := (hb2.block _ lA).trans HX.out
  have fk : ∀ j, w2.frozen? ⟨w.heap.size, j, none⟩ = false := fun j => frozen_of_row _ _ j _ _ hk2
  have HK2 := Lib.hid hk2
  have HX2 := Lib.hid hx2
  obtain ⟨k0, k13, k14, k15, k16⟩ := m17_at (range_block hk2)
  have lk := lt_of_block hk2
  clear hb2 hk2 hx2
  obtain ⟨w4, hw4⟩ : ∃ w4, w4 = w2.setCell ⟨w.heap.size, 16, none⟩ (.int .i64 (l - 1)) := ⟨_, rfl⟩
  have hk4 : w4.heap[w.heap.size]? = some (.cells (m17 A n c f st nx s (l - 1)).toArray 57 (0, 0)) := by rw [hw4]; exact heap_set HK2.out 16 _
  have hx4 : w4.heap[w.heap.size + 1]? = some (.cells #[.slice none 0 0, .int .u16 0, .int .u16 0, .int .u16 0, .int .u16 0, .int .u16 0, .int .u16 0, .int .u16 0, .int .u16 0, .int .u16 0, .int .u16 0, .int .u16 0, .int .u16 0, .int .u16 0, .int .u16 0, .int .i64 0, .int .i64 0] 57 (0, 0)) := by rw [hw4]; exact ((only_setCell (World.grownBy.refl w2 (some w.heap.size)) 16 _).block _ (lt_of_block HX2.out) (by simp)).trans HX2.out
  have HB4 : Hid (Below w.heap.size w w4) := Lib.hid (by rw [hw4]; exact HB2.out.setCell (Nat.le_refl _) _)

  have HON := Lib.hid (all_oneCell_toArray (m17_one A n c f nx 0 0 0))
  have hinf17 : (Tryd.prog.info? 57).map (·.size) = some (m17 A n c f st nx s (l - 1)).length := by rw [m17_len]; exact info_mach
  have hinf2 : (Tryd.prog.info? 57).map (·.size) = some (m17 A n c f nx 0 0 0).length := by rw [m17_len]; exact info_mach
  have HTH : ∀ y, Below w4.heap.size w4 y → Hid (y.there (w.heap.size + 1) 0 (m17 A n c f nx 0 0 0).toArray.size) := fun y hy => Lib.hid (there_block ((hy.block _ (lt_of_block hx4)).trans hx4) _ (by rw [List.size_toArray, m17_len]; rfl))
  have HTT := Lib.hid HTH
  have HOP := Lib.hid (impl_openM A n c f st nx s (l - 1) nx w4)
  rw [← t17_list, ← t17_list] at HOP
  have hr4 := range_block hk4
  have h14 : w4.cell? ⟨w.heap.size, 14, none⟩ = some (.int .u16 (nx : Nat)) := (m17_at hr4).2.2.1
  have lk4 := lt_of_block hk4
  clear hk4 hx4 HTH
  generalize hzz : m17 A n c f nx 0 0 0 = zz at *
  generalize m17 A n c f st nx s (l - 1) = z1 at hr4 hinf17 HOP
  go_wp2_with ((with_reducible show wpList _ _ _ _ _ _); rw [← hw4]; clear hw4; refine wpList_load_mid rfl 57 _ rfl w.heap.size 0 rfl z1 _ hr4 Tryd.underlying57 rfl hinf17 ?_)
  refine HOP.out.mono ?_
  rintro e w5 ⟨rfl, hb5⟩
  have HT5 := HTT.out w5 hb5
  have HB5 := Lib.hid (HB4.out.trans (hb5.mono HB4.out.size))
  clear hb5 h14 hr4 k0 k13 k14 k15 k16 fk lk lk4
  go_wp2_with ((with_reducible show wpList _ _ _ _ _ _); refine wpList_store_mid rfl 57 _ _ rfl (w.heap.size + 1) 0 zz.toArray rfl rfl HT5.out (by rw [List.size_toArray]; exact hinf2) HON.out ?_)
  all_goals
    refine bodyPost_ret (v := .agg zz.toArray) (by
        have hload := run_loadVar_mid (P := Tryd.prog) (w5.setCells (w.heap.size + 1) 0 zz) (w.heap.size + 1) 0 57 zz _ (World.rangeAt_setCells_same _ _ _ _ (by have := HT5.out; simpa using this)) Tryd.underlying57 rfl hinf2
        rw [results_cell rfl]
        simp [asAddr, Act.eval, Act.put, hload, Result.andThen]) rfl ⟨by rw [hzz], ?_⟩
    exact below_setCells _ (Nat.le_succ _) _ _ _ HB5.out
end Go.Proofs.YtmcoeafkbpeelaaDoor

/- CanEnd: the program. -/
namespace Go.Proofs.YtmcoeafkbpeelaaDoor
open Go.RowKit
set_option linter.unusedVariables false

end Go.Proofs.YtmcoeafkbpeelaaDoor

/- TickControl of the program. -/
set_option linter.unusedSimpArgs false
namespace Go.Proofs.YtmcoeafkbpeelaaDoor
open Go.RowKit
set_option linter.unusedVariables false

theorem idsM_none (ps : List Pth) : idsM ps 0 = [] := by
  unfold idsM
  rw [idxs_zero]
  rfl
theorem tick_all {A : Option Addr} {n c : Nat} {ps : List Pth} {x : Ctl} (hn : ps.length = n) (hc : isCtl ps x = true) (hwl : -9223372036854775808 ≤ x.left ∧ x.left ≤ 9223372036854775807) :
    ∃ st nx s l, st < 2 ^ n ∧ nx < 2 ^ n ∧ tickC ps x = ⟨idsM ps st, s, idsM ps nx, l⟩ ∧ ∀ (f : Nat → Nat) (y : World), Calls Tryd.prog 62 #[.agg (t17 A n c f (maskL ps x.stage) (maskL ps x.next) x.since x.left)] y fun e w' => e = .returned (.agg (t17 A n c f st nx s l)) ∧ Below y.heap.size y w' := by
  obtain ⟨-, -, h1, h2, hsi, hlf⟩ := ctl_parts hc
  obtain ⟨-, a1, a2, -, -⟩ := tog_maskL h1
  obtain ⟨-, b1, b2, -, -⟩ := tog_maskL h2
  rw [hn] at a1 b1
  by_cases e : maskL ps x.next = 0
  · have e' := (maskL_empty h2).1 e
    refine ⟨_, _, _, _, a1, b1, ?_, fun f y => impl_tickO A n c f _ _ x.since x.left e hsi y⟩
    unfold tickC
    rw [hc, if_pos rfl, if_pos e', ← a2, ← b2]
    congr 1
    unfold minI
    split <;> split <;> omega
  · have e' : ¬ x.next.length = 0 := fun h => e ((maskL_empty h2).2 h)
    rw [if_neg e'] at hlf
    by_cases hl : x.left = 1
    · refine ⟨_, 0, _, _, b1, Nat.pow_pos (by omega), ?_, fun f y => impl_tickE A n c f _ _ x.since x.left e hl y⟩
      unfold tickC
      rw [hc, if_pos rfl, if_neg e', if_pos (by omega), ← b2, idsM_none]
    · refine ⟨_, _, _, _, a1, b1, ?_, fun f y => impl_tickL A n c f _ _ x.since x.left e ⟨by omega, hwl.2⟩ y⟩
      unfold tickC
      rw [hc, if_pos rfl, if_neg e', if_neg (by omega), ← a2, ← b2]
end Go.Proofs.YtmcoeafkbpeelaaDoor

/- Whether a siren can cut the stage: data, and the model. -/
namespace Go.Proofs.YtmcoeafkbpeelaaDoor
open Go.RowKit
set_option linter.unusedVariables false

/-- for how long a path of this kind must have been open. -/
def cutNs (k : Int) : Int := if k = 2 then 7 else 4
/-- the least time of these. -/
def cutLs (ps : List Pth) {N : Nat} (l : List (IdxN N)) : Int := l.foldl (fun a i => maxI a (cutNs (pAt ps i.val).kind)) 0
theorem cutLs_snoc (ps : List Pth) {N : Nat} (l : List (IdxN N)) (x : IdxN N) : cutLs ps (l ++ [x]) = maxI (cutLs ps l) (cutNs (pAt ps x.val).kind) := by simp [cutLs]
def cutGs (lg : Int) : Int := if lg = 7 then 7 else 4
theorem cut_seven (ps : List Pth) {N : Nat} : ∀ (l : List (IdxN N)) (a : Int), a ≤ 7 → (a = 7 ∨ ∃ i ∈ l, (pAt ps i.val).kind = 2) → l.foldl (fun a i => maxI a (cutNs (pAt ps i.val).kind)) a = 7
  | [], a, _, h => by
    rcases h with h | ⟨i, hi, _⟩
    · exact h
    · cases hi
  | x :: l, a, ha, h => by
    rw [List.foldl_cons]
    have hs : cutNs (pAt ps x.val).kind ≤ 7 := by unfold cutNs; split <;> omega
    refine cut_seven ps l _ (by unfold maxI; split <;> omega) ?_
    rcases h with h | ⟨i, hi, hk⟩
    · left
      unfold maxI
      split <;> omega
    · rcases List.mem_cons.1 hi with rfl | hi
      · left
        have : cutNs (pAt ps i.val).kind = 7 := by unfold cutNs; rw [if_pos hk]
        rw [this]
        unfold maxI
        split <;> omega
      · exact .inr ⟨i, hi, hk⟩
theorem cut_four (ps : List Pth) {N : Nat} : ∀ (l : List (IdxN N)) (a : Int), a ≤ 4 → l ≠ [] → (∀ i ∈ l, (pAt ps i.val).kind ≠ 2) → l.foldl (fun a i => maxI a (cutNs (pAt ps i.val).kind)) a = 4
  | [], a, _, h, _ => absurd rfl h
  | x :: l, a, ha, _, h => by
    rw [List.foldl_cons]
    have e : maxI a (cutNs (pAt ps x.val).kind) = 4 := by
      have : cutNs (pAt ps x.val).kind = 4 := by unfold cutNs; rw [if_neg (h x List.mem_cons_self)]
      rw [this]
      unfold maxI
      split <;> omega
    rw [e]
    by_cases hl : l = []
    · subst hl
      rfl
    · exact cut_four ps l 4 (by omega) hl fun i hi => h i (List.mem_cons_of_mem _ hi)
theorem cut_least {ps : List Pth} (ha : arePs ps = true) {n m : Nat} (hn : ps.length = n) (h12 : n ≤ 12) (hm : m < 2 ^ n) (h0 : idsM ps m ≠ []) : cutLs ps (idxsN n m) = cutGs (leastG ps (idsM ps m)) := by
  have hmap := idxsN_map h12 hm ps
  have hw : ∀ i : IdxN n, walkId ps (idAt ps i.val) = decide ((pAt ps i.val).kind = 2) := fun i => walkId_some (findK_of ha (by have := i.2; omega))
  unfold cutLs
  by_cases h : (idsM ps m).any (walkId ps) = true
  · have e : leastG ps (idsM ps m) = 7 := by unfold leastG; rw [if_pos h]
    rw [e]
    obtain ⟨y, hy, hw2⟩ := List.any_eq_true.1 h
    rw [← hmap] at hy
    obtain ⟨i, hi, rfl⟩ := List.mem_map.1 hy
    rw [hw i] at hw2
    exact cut_seven ps _ 0 (by decide) (.inr ⟨i, hi, of_decide_eq_true hw2⟩)
  · have e : leastG ps (idsM ps m) = 5 := by unfold leastG; rw [if_neg h]
    rw [e]
    refine cut_four ps _ 0 (by decide) (fun e => h0 (by rw [← hmap, e]; rfl)) fun i hi hk => h (List.any_eq_true.2 ⟨idAt ps i.val, ?_, by rw [hw i]; exact decide_eq_true hk⟩)
    rw [← hmap]
    exact List.mem_map_of_mem hi
/-- CanCut. -/
def canC (ps : List Pth) (x : Ctl) : Bool := isCtl ps x && decide (x.next.length = 0) && decide (cutGs (leastG ps x.stage) ≤ x.since)
theorem canC_off {ps : List Pth} {x : Ctl} (h : isCtl ps x = false) : canC ps x = false := by unfold canC; rw [h]; rfl
theorem canC_on {ps : List Pth} {x : Ctl} (h : isCtl ps x = true) {n : Nat} (hn : ps.length = n) : canC ps x = (decide (maskL ps x.next = 0) && decide (cutLs ps (idxsN n (maskL ps x.stage)) ≤ x.since)) := by
  obtain ⟨ha, h0, h1, h2, _⟩ := ctl_parts h
  obtain ⟨_, a1, a2, _, _⟩ := tog_maskL h1
  have h12 := arePs_len12 ha
  rw [cut_least ha hn (by omega) (by rw [← hn]; exact a1) (by rw [← a2]; exact fun e => h0 (by rw [e]; rfl))]
  unfold canC
  rw [h, Bool.true_and, ← a2]
  congr 1
  exact decide_eq_decide.2 (maskL_empty h2).symm
set_option maxHeartbeats 4000000 in
set_option maxRecDepth 100000 in
theorem spec_CanCut {w : World} {A : Option Addr} {n c : Nat} {ps : List Pth} {A2 : Option Addr} {n2 c2 : Nat} {A3 : Option Addr} {n3 c3 : Nat} {x : Ctl} (I : CtlIn w A n c ps A2 n2 c2 A3 n3 c3 x) :
    Calls Tryd.prog 24 #[.slice A n c, ctlV (.slice A2 n2 c2) x.since (.slice A3 n3 c3) x.left] w fun e w' => e = .returned (.bool (canC ps x)) ∧ Below w.heap.size w w' := by
  have hlt := I.t.len
  have hs2 := I.hs
  obtain ⟨wA, hwA⟩ : ∃ wA, wA = w.alloc (.cells #[.slice A2 n2 c2, .int .i64 x.since, .slice A3 n3 c3, .int .i64 x.left] 28) := ⟨_, rfl⟩
  obtain ⟨hk, hsz, hBA⟩ := one_block hwA
  have hltA : w.heap.size < wA.heap.size := by omega
  have hLG : Calls Tryd.prog 45 #[.slice A n c, .slice A2 n2 c2] wA fun e w' => e = .returned (.int .i64 (leastG ps x.stage)) ∧ Below wA.heap.size wA w' := by
    have J := I.below hBA
    exact spec_LeastGreen A n c _ ps A2 n2 c2 _ x.stage wA J.p.pths J.s.ints (Nat.le_refl _) (Nat.le_refl _) J.p.small (by omega)
  have HIC := Lib.hid (fun y (hy : Below wA.heap.size wA y) => spec_IsControl (I.below (hBA.trans (hy.mono hBA.size))))
  obtain ⟨q0, q1, q2, q3⟩ := cells4 hk
  have HV : Hid (canC ps x = (isCtl ps x && decide (n3 = 0) && decide (cutGs (leastG ps x.stage) ≤ x.since))) := Lib.hid (by unfold canC; rw [hlt])
  have HBA := Lib.hid hBA
  have HK := Lib.hid hk
  simp only [ctlV] at HIC ⊢
  obtain ⟨zs, si, zs3, lf⟩ := x
  simp only at *
  generalize canC ps ⟨zs, si, zs3, lf⟩ = r at *
  generalize leastG ps zs = lg at *
  clear I hk hsz hBA hlt
  go_enter Tryd.func24, Tryd.ntmps24
  go_wp2_with fail
  rw [← hwA]
  clear hwA
  refine hLG.mono ?_
  rintro e w1 ⟨rfl, hb1⟩
  have hk1 := (hb1.block _ hltA).trans HK.out
  have hic := HIC.out w1 hb1
  have HB1 := Lib.hid (HBA.out.trans (hb1.mono HBA.out.size))
  have hl1 : w.heap.size < w1.heap.size := by have := hb1.size; omega
  clear q0 q1 q2 q3 HIC hLG hb1
  obtain ⟨q0, q1, q2, q3⟩ := cells4 hk1
  obtain ⟨sg, hsg⟩ : ∃ sg, cutGs lg = sg := ⟨_, rfl⟩
  rw [hsg] at HV
  have HK1 := Lib.hid hk1
  clear hk1
  by_cases h7 : lg = 7
  · subst h7
    obtain rfl : (7 : Int) = sg := hsg
    go_wp2_with fail
    refine hic.mono ?_
    rintro e w2 ⟨rfl, hb2⟩
    have HB2 := Lib.hid (HB1.out.trans (hb2.mono HB1.out.size))
    have hk2 := (hb2.block _ hl1).trans HK1.out
    have hl2 : w.heap.size < w2.heap.size := by have := hb2.size; omega
    clear q0 q1 q2 q3 hic hb2
    obtain ⟨q0, q1, q2, q3⟩ := cells4 hk2
    clear hk2
    cases h1 : isCtl ps ⟨zs, si, zs3, lf⟩
    · have HR : Hid (r = false) := Lib.hid (by rw [HV.out, h1]; rfl)
      clear h1
      go_wp2
      go_ret
      exact ⟨by rw [HR.out]; try rfl, HB2.out⟩
    · rw [h1] at HV
      clear h1
      by_cases h3 : n3 = 0
      · have e3 : ((n3 : Int) == 0) = true := by rw [h3]; rfl
        have HR : Hid (r = decide ((7 : Int) ≤ si)) := Lib.hid (by rw [HV.out, decide_eq_true h3]; rfl)
        clear h3
        go_wp2
        go_ret
        exact ⟨by rw [HR.out]; try rfl, HB2.out⟩
      · have e3 : ((n3 : Int) == 0) = false := beq_eq_false_iff_ne.2 (by omega)
        have HR : Hid (r = false) := Lib.hid (by rw [HV.out, decide_eq_false h3]; rfl)
        clear h3
        go_wp2
        go_ret
        exact ⟨by rw [HR.out]; try rfl, HB2.out⟩
  · obtain rfl : (4 : Int) = sg := by rw [← hsg]; unfold cutGs; rw [if_neg h7]
    have e7 : (lg == 7) = false := beq_eq_false_iff_ne.2 h7
    clear h7 hsg
    go_wp2_with fail
    refine hic.mono ?_
    rintro e w2 ⟨rfl, hb2⟩
    have HB2 := Lib.hid (HB1.out.trans (hb2.mono HB1.out.size))
    have hk2 := (hb2.block _ hl1).trans HK1.out
    have hl2 : w.heap.size < w2.heap.size := by have := hb2.size; omega
    clear q0 q1 q2 q3 hic hb2
    obtain ⟨q0, q1, q2, q3⟩ := cells4 hk2
    clear hk2
    cases h1 : isCtl ps ⟨zs, si, zs3, lf⟩
    · have HR : Hid (r = false) := Lib.hid (by rw [HV.out, h1]; rfl)
      clear h1
      go_wp2
      go_ret
      exact ⟨by rw [HR.out]; try rfl, HB2.out⟩
    · rw [h1] at HV
      clear h1
      by_cases h3 : n3 = 0
      · have e3 : ((n3 : Int) == 0) = true := by rw [h3]; rfl
        have HR : Hid (r = decide ((4 : Int) ≤ si)) := Lib.hid (by rw [HV.out, decide_eq_true h3]; rfl)
        clear h3
        go_wp2
        go_ret
        exact ⟨by rw [HR.out]; try rfl, HB2.out⟩
      · have e3 : ((n3 : Int) == 0) = false := beq_eq_false_iff_ne.2 (by omega)
        have HR : Hid (r = false) := Lib.hid (by rw [HV.out, decide_eq_false h3]; rfl)
        clear h3
        go_wp2
        go_ret
        exact ⟨by rw [HR.out]; try rfl, HB2.out⟩
end Go.Proofs.YtmcoeafkbpeelaaDoor

/- The program's table of the sirens' seconds. -/
namespace Go.Proofs.YtmcoeafkbpeelaaDoor
open Go.RowKit
set_option linter.unusedVariables false

def sirTab : List Int := [0, 4, 7, 4]
/-- the program's table. -/
def Sirs (w : World) : Prop := Lib.TabIs Tryd.prog w "loop.example/g03006/impl.sirenTimes" .i64 sirTab
theorem sir_global : Tryd.prog.globalNamed "loop.example/g03006/impl.sirenTimes" = some 0 := by kernel_rfl
theorem Sirs.below {w w' : World} {B : Nat} (h : Sirs w) (hb : Below B w w') (hB : w.heap.size ≤ B) : Sirs w' := Joins.tab_stays sir_global h hb hB
theorem sirs_of_laid {laid : List (String × DataW Unit)} {W : World} (hL : laidMetH Tryd.prog laid W)
    (e : (laid.filter fun x => x.1 == "loop.example/g03006/impl.sirenTimes") = [("loop.example/g03006/impl.sirenTimes", Lib.tabData .i64 sirTab)]) : Sirs W := by
  have h := hL.filter fun x => x.1 == "loop.example/g03006/impl.sirenTimes"
  rw [e, MakeChecks.laidMetH_plain _ _ _ (by rfl)] at h
  exact Lib.tabIs_of_head sir_global (by kernel_rfl) Tryd.underlying103 Tryd.underlying3 (by kernel_rfl) (by kernel_rfl) h
end Go.Proofs.YtmcoeafkbpeelaaDoor

/- CanCut: the program. -/
namespace Go.Proofs.YtmcoeafkbpeelaaDoor
open Go.RowKit Go.Shelf
attribute [local go_sem] Oper.semAt_some
set_option linter.unusedVariables false

/-- the load of a whole struct, inside a fence. -/
theorem wpListIn_load_mid {F : Fence} {N : Nat} {P : Program} {ops : Array Oper} {rest : List Oper} {op : Oper} {a : Act} {w : World} {Q : Exit → Act → World → Prop} (hgd : op.guard = none) (ty : TypeId) (x : Operand) (ho : op.op = .load ty x)
    (b o : Nat) (hx : a.eval x = .pointer (some ⟨b, o, none⟩)) (cs : List Value) (d : TypeDesc) (hc : w.rangeAt b o cs)
    (hu : P.underlying ty = some d) (hd : d.isRow = true) (hi : (P.info? ty).map (·.size) = some cs.length)
    (h : wpListIn F N P ops Q rest (a.put op.dst (.agg cs.toArray)) w) : wpListIn F N P ops Q (op :: rest) a w :=
  wpListIn_plain hgd fun K hK => by
    unfold Oper.wpIn
    refine ⟨by simp [Oper.about, ho], ?_⟩
    rw [Oper.semAt_plain F _ _ (by rw [ho]; intro c hc'; cases hc')]
    unfold execOp
    simp only [ho, hx, Instr.loadAt, Instr.sureAddr, Sem.run_bind, Sem.run_pure, Result.andThen_ok, run_loadVar_mid w b o ty cs d hc hu hd hi]
    exact hK _ _ h
theorem keeps_below {W w' : World} (h : Below W.heap.size W w') : KeepsOthers W w' := ⟨h.size, fun k o hk _ => (h.block k (lt_of_block hk)).trans hk⟩
/-- what a round leaves. -/
theorem end_cut {W w' : World} {g : Nat} {a b r : Int} {ms : List Value} {w : World} (hg : w.heap.size < W.heap.size) (hb : Below W.heap.size W w') (hc : W.cell? ⟨w.heap.size + 1, 0, none⟩ = some (.int .i64 a)) (hf : W.frozen? ⟨w.heap.size + 1, 0, none⟩ = false) (hr : W.rangeAt w.heap.size 0 ms) (hB : Below w.heap.size w W) (hs : r = b) :
    KeepsOthers W (w'.setCell ⟨w.heap.size + 1, 0, none⟩ (.int .i64 b)) ∧ Below w.heap.size W (w'.setCell ⟨w.heap.size + 1, 0, none⟩ (.int .i64 b)) ∧
      (((w'.setCell ⟨w.heap.size + 1, 0, none⟩ (.int .i64 b)).cell? ⟨w.heap.size + 1, 0, none⟩ = some (.int .i64 r) ∧ (w'.setCell ⟨w.heap.size + 1, 0, none⟩ (.int .i64 b)).frozen? ⟨w.heap.size + 1, 0, none⟩ = false ∧ (w'.setCell ⟨w.heap.size + 1, 0, none⟩ (.int .i64 b)).rangeAt w.heap.size 0 ms) ∧ Below w.heap.size w (w'.setCell ⟨w.heap.size + 1, 0, none⟩ (.int .i64 b))) := by
  have hlW : w.heap.size + 1 < W.heap.size := World.block_lt_of_cell? _ _ hc
  have hc2 := (hb.cell (p := ⟨w.heap.size + 1, 0, none⟩) hlW).trans hc
  have hf2 := (hb.frozen (p := ⟨w.heap.size + 1, 0, none⟩) hlW).trans hf
  have hb1 : Below w.heap.size W w' := hb.mono (by omega)
  refine ⟨(keeps_below hb).trans (KeepsOthers.setCell _ _ _), hb1.setCell (p := ⟨w.heap.size + 1, 0, none⟩) (by simp) _, ⟨?_, (World.frozen?_setCell _ _ _ _).trans hf2, fun j v hj => ?_⟩, (hB.trans hb1).setCell (p := ⟨w.heap.size + 1, 0, none⟩) (by simp) _⟩
  · rw [hs]
    exact World.cell?_setCell_same' _ _ _ (by rw [hc2]; rfl)
  · exact (World.cell?_setCell_other _ _ _ _ (by simp)).trans ((hb.cell hg).trans (hr j v hj))
set_option maxRecDepth 100000 in
set_option maxHeartbeats 4000000 in
theorem impl_canCut (A : Option Addr) (n c B : Nat) (ps : List Pth) (f : Nat → Nat) (st nx : Nat) (s l : Int) (h12 : n ≤ 12) (hst : st < 2 ^ n) (ha : arePs ps = true) (w : World) (h : PthsAt w B A n ps) (hB : B ≤ w.heap.size) (hw : Brus w) (hsr : Sirs w) :
    Calls Tryd.prog 57 #[.agg (t17 A n c f st nx s l)] w fun e W' => e = .returned (.bool (decide (nx = 0) && decide (cutLs ps (idxsN n st) ≤ s))) ∧ Below w.heap.size w W' := by
  have hst4 := Nat.lt_of_lt_of_le hst (pow_le12 h12)
  refine (callsIn_wide (n := 4)).1 ?_
  refine callsIn_of_wp_marks Tryd.func57 rfl trivial ?_ rfl
  simp only [Tryd.ntmps57, List.size_toArray, List.length_cons, List.length_nil, Nat.reduceAdd, Nat.reduceSub, Array.replicate_succ, Array.replicate_zero, List.push_toArray, List.append_toArray, List.nil_append, List.cons_append]
  obtain ⟨wA, hwA⟩ : ∃ wA, wA = w.alloc (.cells (t17 A n c f st nx s l) 57) := ⟨_, rfl⟩
  have hk : wA.heap[w.heap.size]? = some (.cells (m17 A n c f st nx s l).toArray 57) := by rw [hwA, t17_list]; exact heap_alloc_new _ _
  have hbA : Below w.heap.size w wA := by rw [hwA]; exact (Below.refl _ _).alloc (Nat.le_refl _) _
  have hsA : wA.heap.size = w.heap.size + 1 := by rw [hwA]; simp
  have hrng := range_block hk
  have hlA : w.heap.size < wA.heap.size := lt_of_block hk
  have hinf : (Tryd.prog.info? 57).map (·.size) = some (m17 A n c f st nx s l).length := by rw [m17_len]; exact info_mach
  have HAT := Lib.hid (fun (W : World) (hW : W.rangeAt w.heap.size 0 (m17 A n c f st nx s l)) => m17_at hW)
  have HLA := Lib.hid (fun k y => impl_lasts A n c f st nx s l k y)
  have HP := Lib.hid h
  have HA := Lib.hid ha
  have HHK := Lib.hid hk
  rw [← t17_list] at HLA hwA ⊢
  generalize m17 A n c f st nx s l = ms at *
  have x13 : (wA.alloc (.cells #[.int .i64 0] 3)).cell? ⟨w.heap.size, 13, none⟩ = some (.int .u16 (st : Nat)) := cell_alloc_l _ (HAT.out wA hrng).2.1
  rw [hwA] at x13
  gi_wp2
  refine ⟨trivial, (callsIn_wide.2 (impl_indexes st _)).mono ?_⟩
  rintro e w' ⟨rfl, rfl⟩
  gi_wp2
  rw [← hwA]
  clear x13 hwA
  have hs := cell_new_l wA (.int .i64 0) 3
  have bN := Boxed.new (wA.alloc (.cells #[.int .i64 0] 3)) 52 (.int .u16 (st : Nat))
  rw [hsA] at hs
  rw [World.size_alloc, hsA] at bN
  have hB0 : Below w.heap.size w ((wA.alloc (.cells #[.int .i64 0] 3)).alloc (.cells #[.int .u16 (st : Nat)] 52)) := (hbA.alloc hbA.size _).alloc (by simp; omega) _
  have hbru := hw.below hB0 (Nat.le_refl _)
  have hglt := hw.lt
  have hsz2 : (wA.alloc (.cells #[.int .i64 0] 3)).heap.size = w.heap.size + 2 := by simp [hsA]
  refine wpIn_rangeFunc_ownF rfl (by omega) (gf := 91) (lb := #[.pointer (some ⟨w.heap.size + 1 + 1, 0, none⟩)]) rfl trivial (enters_of Tryd.func91 (by kernel_rfl) rfl)
    (idx_stopsN n h12 (4 - 1) (by omega) (w.heap.size + 1 + 1) w.heap.size st hst _ (by simp [hsA]) (by simp; omega) bN.cell hbru hglt) belowK_t (belowK_b (by simp; omega)) (Below.refl _ _) (fun _ => rfl)
    (fun pre W => (W.cell? ⟨w.heap.size + 1, 0, none⟩ = some (.int .i64 (cutLs ps pre)) ∧ W.frozen? ⟨w.heap.size + 1, 0, none⟩ = false ∧ W.rangeAt w.heap.size 0 ms) ∧ Below w.heap.size w W)
    (fun _ _ _ => False)
    (OwnFrom.and (Own.from (fun s A B row hs hg hr => ⟨cell_kept hs.1 hg hr, (frozen_kept hs.1 hg hr).trans hs.2.1, fun j v hj => cell_kept (hs.2.2 j v hj) hg hr⟩) _) (ownFrom_below (Nat.le_refl _) (by simp; omega)))
    (fun _ _ _ _ _ hs _ _ => hs)
    ⟨⟨cell_alloc_l _ hs.1, frozen_alloc_l _ hs.1 hs.2, fun j v hj => cell_alloc_l _ (cell_alloc_l _ (hrng j v hj))⟩, hB0⟩
    (fun x => { tmps := #[.agg ms.toArray, .pointer (some ⟨w.heap.size, 0, none⟩), .bool false, .pointer (some ⟨w.heap.size + 1, 0, none⟩), .int .i64 (x.val : Int), .pointer (some ⟨w.heap.size, 13, none⟩), .int .u16 (st : Nat), .func (.func 91) #[] #[.pointer (some ⟨w.heap.size + 1 + 1, 0, none⟩)], .int .i64 (x.val : Int), undef, undef, undef, undef, undef, undef, undef, undef, undef, undef, undef, undef, undef, undef], defers := [] }) ?assign ?body ?done ?stop
  case assign =>
    intro l x W K hK
    simp only [encN]
    gi_wp2
    exact hK
  case body =>
    rintro l pre x W ⟨⟨hc, hfr, hrw⟩, hBW⟩ _
    have hmx : Tryd.prog.follows .mixedOrders = true := by kernel_rfl
    have m0 := (HAT.out W hrw).1
    obtain ⟨ad, p, hA, hab, hp, hpt⟩ := (HP.out.below (hBW.mono hB)).at x.property
    obtain ⟨_, ⟨k1, k2⟩, _⟩ := isP_facts p (arePs_valid HA.out hp)
    have HSN := Lib.hid (cutLs_snoc ps pre x)
    rw [pAt_some hp] at HSN
    subst hA
    obtain ⟨-, y1, -, -⟩ := hpt
    have hlW : w.heap.size + 1 < W.heap.size := World.block_lt_of_cell? _ _ hc
    have HSR := Lib.hid (hsr.below hBW (Nat.le_refl _))
    have HMX := Lib.hid (fun a b y => impl_Max a b y)
    have HC := Lib.hid hc
    have HFR := Lib.hid hfr
    have HRW := Lib.hid hrw
    have HBW := Lib.hid hBW
    clear hrng hfr hrw hBW hsr hw h HP HA
    generalize cutLs ps pre = a at *
    obtain ⟨k, hk'⟩ := x
    simp only at *
    generalize hkk : p.kind = kd at *
    clear hkk hp
    have x1 : (0 : Int) ≤ (k : Int) := by omega
    have x2 : (k : Int) < (n : Int) := by omega
    have t1 : ∃ kk : Nat, kd = (kk : Int) ∧ kk < 4 ∧ W.cell? ⟨0, kk, none⟩ = some (.int .i64 (cutNs kd)) := by
      rcases (show kd = 1 ∨ kd = 2 ∨ kd = 3 by omega) with rfl | rfl | rfl
      · exact ⟨1, rfl, by decide, Lib.TabIs.cell HSR.out sir_global 1 (by decide)⟩
      · exact ⟨2, rfl, by decide, Lib.TabIs.cell HSR.out sir_global 2 (by decide)⟩
      · exact ⟨3, rfl, by decide, Lib.TabIs.cell HSR.out sir_global 3 (by decide)⟩
    obtain ⟨kk, e, hk4, t1⟩ := t1
    generalize cutNs kd = v at *
    subst e
    have x3 : (0 : Int) ≤ (kk : Int) := by omega
    have x4 : (kk : Int) < 4 := by omega
    have HKT := Lib.hid hk4
    clear k1 k2 HSR HHK hk hinf HLA HAT hs bN hB0 hbru hk4 hbA hsA hlA ha hst4
    gi_wp2
    gi_region_with_o (refine ⟨trivial, (CallsIn.inRound l (callsIn_wide.2 (HMX.out _ _ _))).mono ?_⟩; rintro e w' ⟨rfl, hb⟩; have hc2 := (hb.cell (p := ⟨w.heap.size + 1, 0, none⟩) hlW).trans HC.out; have hf2 := (hb.frozen (p := ⟨w.heap.size + 1, 0, none⟩) hlW).trans HFR.out; clear hc m0 y1 t1)
    all_goals exact end_cut (g := 0) (Nat.lt_of_succ_lt hlW) (below_undrew hb) HC.out HFR.out HRW.out HBW.out HSN.out
  case done =>
    rintro D ys W hD rfl ⟨⟨hc, _, hrw⟩, hB2⟩ hK
    have hll := HLA.out (cutLs ps (idxsN n st)) W
    obtain ⟨r, hr⟩ : ∃ r, (decide (nx = 0) && decide (cutLs ps (idxsN n st) ≤ s)) = r := ⟨_, rfl⟩
    rw [hr] at hll
    obtain ⟨k, hk2⟩ : ∃ k, cutLs ps (idxsN n st) = k := ⟨_, rfl⟩
    rw [hk2] at hll hc
    have HLL := Lib.hid hll
    have HR := Lib.hid hr
    clear hr hk2 hll
    gi_wp2_with ((with_reducible show wpListIn _ _ _ _ _ _ _ _); refine wpListIn_load_mid rfl 57 _ rfl w.heap.size 0 rfl ms _ hrw Tryd.underlying57 rfl hinf ?_)
    refine ⟨trivial, (callsIn_wide.2 HLL.out).mono ?_⟩
    rintro e w2 ⟨rfl, hb2⟩
    have hK2 := (hb2.block D (lt_of_block hK)).trans hK
    have hB3 := hB2.trans (hb2.mono hB2.size)
    clear hc
    gi_wp2
    refine ⟨by simp, .inl ⟨_, _, rfl, run_takeDeferred hK2, ?_⟩⟩
    exact ⟨_, results_tmp rfl _ _ _, by rw [HR.out]; rfl, hB3.trans (belowK_b (w := w) (Nat.le_refl _) w2 D _ _ (by simp at hD; omega) hK2 rfl rfl)⟩
  case stop =>
    rintro D c pre W _ _ h _
    exact h.elim
end Go.Proofs.YtmcoeafkbpeelaaDoor

/- Chapter 14: the model: CanEnd. -/
namespace Go.Proofs.YtmcoeafkbpeelaaDoor
open Go.RowKit
set_option linter.unusedVariables false

end Go.Proofs.YtmcoeafkbpeelaaDoor

/- Contracts of EqualBytes and EqualInts: program and model. -/
namespace Go.Proofs.YtmcoeafkbpeelaaDoor
open Go.RowKit
set_option linter.unusedVariables false

/-- what EqualBytes and EqualInts answer. -/
def eqL (a b : List Int) : Bool := decide (a = b)
/-- the string of these bytes. -/
def bstr (zs : List Int) : ByteArray := zs.foldl (fun r n => r.push (UInt8.ofNat n.toNat)) ByteArray.empty
theorem bstr_fold (zs : List Int) : ∀ r : ByteArray, (zs.foldl (fun r n => r.push (UInt8.ofNat n.toNat)) r).toList = r.toList ++ zs.map fun n => UInt8.ofNat n.toNat := by
  induction zs with
  | nil => intro r; simp
  | cons z zs ih =>
    intro r
    rw [List.foldl_cons, ih, List.map_cons]
    simp [ByteArray.toList_eq]
theorem bstr_list (zs : List Int) : (bstr zs).toList = zs.map fun n => UInt8.ofNat n.toNat := by
  unfold bstr
  rw [bstr_fold]
  simp [ByteArray.toList_eq]
theorem bytes_inj : ∀ (a b : List Int), (∀ z ∈ a, 0 ≤ z ∧ z ≤ 255) → (∀ z ∈ b, 0 ≤ z ∧ z ≤ 255) → (a.map fun n => UInt8.ofNat n.toNat) = (b.map fun n => UInt8.ofNat n.toNat) → a = b
  | [], [], _, _, _ => rfl
  | [], _ :: _, _, _, h => by simp at h
  | _ :: _, [], _, _, h => by simp at h
  | x :: a, y :: b, ha, hb, h => by
    simp only [List.map_cons, List.cons.injEq] at h
    have hx := ha x List.mem_cons_self
    have hy := hb y List.mem_cons_self
    have h1 := congrArg UInt8.toNat h.1
    simp only [UInt8.toNat_ofNat'] at h1
    have e : x = y := by omega
    rw [e, bytes_inj a b (fun z hz => ha z (List.mem_cons_of_mem _ hz)) (fun z hz => hb z (List.mem_cons_of_mem _ hz)) h.2]
theorem bstr_inj {a b : List Int} (ha : ∀ z ∈ a, 0 ≤ z ∧ z ≤ 255) (hb : ∀ z ∈ b, 0 ≤ z ∧ z ≤ 255) (h : bstr a = bstr b) : a = b :=
  bytes_inj a b ha hb (by rw [← bstr_list, ← bstr_list, h])
/-- 'string(b)'. -/
theorem run_string_of_bytes {P : Program} {src dst e : TypeId} (hs : P.underlying src = some (.slice e)) (he : P.underlying e = some (.int .u8)) (hd : P.underlying dst = some .string) (A : Option Addr) (n c B : Nat) (zs : List Int) (w : World) (h : IntsAt .u8 w B A n zs) :
    (convert src dst (.slice A n c)).run P w = .ok (.string (bstr zs)) w := by
  rw [run_convert_bytes_string _ src dst e _ _ _ hs he hd]
  have hl := h.1
  cases A with
  | none =>
    have h0 : n = 0 := by
      rcases Nat.eq_zero_or_pos n with h0 | h0
      · exact h0
      · obtain ⟨ad, e, _⟩ := h.2 h0; cases e
    subst h0
    have : zs = [] := List.eq_nil_of_length_eq_zero hl
    subst this
    simp [Conv.bytesToString, bstr]
  | some ad =>
    refine run_bytesToString _ _ _ _ zs ?_
    have h2 := run_loadCells_list (P := P) w ad (zs.map (Value.int .u8)) (ints_news h)
    rw [List.length_map, hl] at h2
    exact h2
end Go.Proofs.YtmcoeafkbpeelaaDoor

/- AskStage of the model (written by genaskm.py). -/
set_option linter.unusedSimpArgs false
namespace Go.Proofs.YtmcoeafkbpeelaaDoor
open Go.RowKit
set_option linter.unusedVariables false

/-- whether a stage may be asked for. -/
def askOk (ps : List Pth) (x : Ctl) (zs : List Int) : Bool := canE ps x && (!decide (zs.length = 0) && (isTog ps zs && !decide (zs = x.stage)))
/-- the controller whose stage ends for another one. -/
def endC (ps : List Pth) (x : Ctl) (zs : List Int) : Ctl := if clrB ps x.stage zs = 0 then ⟨zs, 0, [], 0⟩ else ⟨x.stage, x.since, zs, clrB ps x.stage zs⟩
/-- what AskStage answers. -/
def askC (ps : List Pth) (x : Ctl) (zs : List Int) : Ctl × Bool := if askOk ps x zs then (endC ps x zs, true) else (x, false)
theorem askC_no {ps : List Pth} {x : Ctl} {zs : List Int} (h : askOk ps x zs = false) : askC ps x zs = (x, false) := by unfold askC; rw [h]; rfl
theorem askC_yes {ps : List Pth} {x : Ctl} {zs : List Int} (h : askOk ps x zs = true) : askC ps x zs = (endC ps x zs, true) := by unfold askC; rw [h]; rfl
end Go.Proofs.YtmcoeafkbpeelaaDoor

/- CutFor: data and the model (written by genctf.py). -/
set_option linter.unusedSimpArgs false
namespace Go.Proofs.YtmcoeafkbpeelaaDoor
open Go.RowKit
set_option linter.unusedVariables false

/-- whether help may come by this path. -/
def okSir (ps : List Pth) (id : Int) : Bool := match findK id ps with | none => false | some k => !decide ((pAt ps k).kind = 2)
/-- whether the stage may be cut for this path. -/
def cutOk (ps : List Pth) (x : Ctl) (id : Int) : Bool := canC ps x && (okSir ps id && !hasI x.stage id)
/-- what CutFor answers. -/
def cutF (ps : List Pth) (x : Ctl) (id : Int) : Ctl × Bool := if cutOk ps x id then (endC ps x [id], true) else (x, false)
theorem cutF_no {ps : List Pth} {x : Ctl} {id : Int} (h : cutOk ps x id = false) : cutF ps x id = (x, false) := by unfold cutF; rw [h]; rfl
theorem cutF_yes {ps : List Pth} {x : Ctl} {id : Int} (h : cutOk ps x id = true) : cutF ps x id = (endC ps x [id], true) := by unfold cutF; rw [h]; rfl
set_option maxHeartbeats 8000000 in
set_option maxRecDepth 100000 in
theorem spec_CutFor {w : World} {A : Option Addr} {n c : Nat} {ps : List Pth} {A2 : Option Addr} {n2 c2 : Nat} {A3 : Option Addr} {n3 c3 : Nat} {x : Ctl} (I : CtlIn w A n c ps A2 n2 c2 A3 n3 c3 x) (id : Int) (hid : (Lit.int .i64 id).wf = true) :
    Calls Tryd.prog 8 #[.slice A n c, ctlV (.slice A2 n2 c2) x.since (.slice A3 n3 c3) x.left, .int .i64 id] w fun e w' => ∃ v, e = .returned (.tuple #[v, .bool (cutF ps x id).2]) ∧ OwnC w' w.heap.size v (cutF ps x id).1 ∧ Below w.heap.size w w' := by
  have hlt3 := I.t.len
  have hls2 := I.s.len
  have hs2 := I.hs
  have ht2 := I.ht
  obtain ⟨wA, hwA⟩ : ∃ wA, wA = (w.alloc (.cells #[.slice A2 n2 c2, .int .i64 x.since, .slice A3 n3 c3, .int .i64 x.left] 28)).alloc (.cells #[.slice none 0 0, .int .i64 0, .slice none 0 0, .int .i64 0] 28) := ⟨_, rfl⟩
  obtain ⟨hk, hx, hsz, hBA⟩ := two_blocks hwA
  have HFP := Lib.hid (fun y (hy : Below w.heap.size w y) => spec_FindPath A n c _ ps id y (I.below hy).p.pths I.p.small)
  have HCC := Lib.hid (fun y (hy : Below w.heap.size w y) => spec_CanCut (I.below hy))
  have HHA := Lib.hid (fun y (hy : Below w.heap.size w y) => spec_l6Has A2 n2 c2 _ x.stage id y (I.below hy).s.ints (by omega))
  have HAT := Lib.hid (fun y (hy : Below w.heap.size w y) k (hk : k < n) => (I.below hy).p.pths.at hk)
  have HCP := Lib.hid (fun y (hy : Below w.heap.size w y) => spec_l14Copy A2 n2 c2 x.stage x.since A3 n3 c3 x.next x.left y (I.below hy).s hs2 (I.below hy).t ht2)
  have HCL := Lib.hid (fun y (hy : Below w.heap.size w y) A4 n4 c4 (h4 : IntsAt .i64 y y.heap.size A4 n4 [id]) => spec_ClearBetween A n c _ ps A2 n2 c2 _ x.stage A4 n4 c4 _ [id] y (I.below hy).p.pths (Nat.le_refl _) I.p.small (I.below hy).s.ints (Nat.le_refl _) (by omega) h4 (Nat.le_refl _) (by have := h4.1; simp at this; omega))
  have HPL := Lib.hid I.p.len
  simp only [ctlV] at HCC HCP ⊢
  have lA : w.heap.size + 1 < wA.heap.size := by omega
  have HB := Lib.hid hBA
  obtain ⟨k0, k1, k2, k3⟩ := cells4 hk
  have HK := Lib.hid hk
  have HX := Lib.hid hx
  have HAO : Hid (cutOk ps x id = (canC ps x && (okSir ps id && !hasI x.stage id))) := Lib.hid rfl
  clear I hk hx hsz hBA hlt3 hls2
  go_enter Tryd.func8, Tryd.ntmps8
  go_wp2_with fail
  rw [← hwA]
  clear hwA
  refine (HCP.out _ HB.out).mono ?_
  rintro e w1 ⟨E1, e1, E2, e2, rfl, ho1, ho2, hap, hb1⟩
  have HAP := Lib.hid hap
  have HK1 := Lib.hid ((hb1.block _ (by omega)).trans HK.out)
  have HX1 := Lib.hid ((hb1.block _ lA).trans HX.out)
  have HB1 := Lib.hid (HB.out.trans (hb1.mono HB.out.size))
  have L1 := Lib.hid hb1.size
  have LT1 := Lib.hid (fun g e => (ho1.block g e).2)
  have LT2 := Lib.hid (fun g e => (ho2.block g e).2)
  have lK := lt_of_block HK1.out
  have lX := lt_of_block HX1.out
  clear k0 k1 k2 k3 hap hb1
  obtain ⟨w2, hw2⟩ : ∃ w2, w2 = w1.alloc (.cells #[.slice E1 n2 e1, .int .i64 x.since, .slice E2 n3 e2, .int .i64 x.left] 28) := ⟨_, rfl⟩
  obtain ⟨hc2, hs2', hb2⟩ := one_block hw2
  have HC2 := Lib.hid hc2
  have HK2 := Lib.hid ((hb2.block _ lK).trans HK1.out)
  have HX2 := Lib.hid ((hb2.block _ lX).trans HX1.out)
  have HB2 := Lib.hid (HB1.out.trans (hb2.mono HB1.out.size))
  have HO1 := Lib.hid (ho1.below hb2)
  have HO2 := Lib.hid (ho2.below hb2)
  have lgc : w.heap.size + 1 < w1.heap.size := Nat.lt_of_lt_of_le lA L1.out
  clear hc2 hs2' hb2 ho1 ho2 lK lX
  go_wp2_with fail
  rw [← hw2]
  clear hw2
  refine (HFP.out _ HB2.out).mono ?_
  rintro e w2' ⟨rfl, rfl⟩
  have hCC := HCC.out _ HB2.out
  obtain ⟨k0, k1, k2, k3⟩ := cells4 HK2.out
  have lK := lt_of_block HK2.out
  go_wp2_with fail
  refine hCC.mono ?_
  rintro e w3 ⟨rfl, hb⟩
  have HK3 := Lib.hid ((hb.block _ (lt_of_block HK2.out)).trans HK2.out)
  have HX3 := Lib.hid ((hb.block _ (lt_of_block HX2.out)).trans HX2.out)
  have HC3 := Lib.hid ((hb.block _ (lt_of_block HC2.out)).trans HC2.out)
  have HB3 := Lib.hid (HB2.out.trans (hb.mono HB2.out.size))
  have HO1_3 := Lib.hid (HO1.out.below hb)
  have HO2_3 := Lib.hid (HO2.out.below hb)
  clear hb
  clear hCC k0 k1 k2 k3 lK
  cases h1 : canC ps x
  · have HR := Lib.hid (cutF_no (show cutOk ps x id = false by rw [HAO.out, h1]; rfl))
    clear h1
    cases hfk : findK id ps
    · have hfi : findI id ps = -1 := by unfold findI; rw [hfk]
      rw [hfi]
      clear hfk hfi
      obtain ⟨z0, z1, z2, z3⟩ := cells4 HX3.out
      have fz : ∀ j, w3.frozen? ⟨w.heap.size + 1, j, none⟩ = false := fun j => frozen_of_row _ _ j _ _ HX3.out
      have lX := lt_of_block HX3.out
      obtain ⟨q0, q1, q2, q3⟩ := cells4 HC3.out
      have fq : ∀ j, w3.frozen? ⟨w1.heap.size, j, none⟩ = false := fun j => frozen_of_row _ _ j _ _ HC3.out
      have lC := lt_of_block HC3.out
      go_wp2
      refine bodyPost_ret (by rw [results_cell_tmpF rfl]; go_simp; try rfl) rfl ?_
      rw [HR.out]
      exact ⟨_, rfl, ⟨_, _, _, _, _, _, rfl, (own_set4 _ _ _ _ HO1_3.out (by omega)).mono (by omega), (own_set4 _ _ _ _ HO2_3.out (by omega)).mono (by omega), HAP.out⟩, below_set4 _ _ _ _ HB3.out (by omega)⟩
    · rename_i k
      obtain ⟨p0, hp0, -, -⟩ := findK_at hfk
      have hfi : findI id ps = (k : Int) := by unfold findI; rw [hfk]
      rw [hfi]
      clear hfk hfi hp0
      obtain ⟨z0, z1, z2, z3⟩ := cells4 HX3.out
      have fz : ∀ j, w3.frozen? ⟨w.heap.size + 1, j, none⟩ = false := fun j => frozen_of_row _ _ j _ _ HX3.out
      have lX := lt_of_block HX3.out
      obtain ⟨q0, q1, q2, q3⟩ := cells4 HC3.out
      have fq : ∀ j, w3.frozen? ⟨w1.heap.size, j, none⟩ = false := fun j => frozen_of_row _ _ j _ _ HC3.out
      have lC := lt_of_block HC3.out
      go_wp2
      refine bodyPost_ret (by rw [results_cell_tmpF rfl]; go_simp; try rfl) rfl ?_
      rw [HR.out]
      exact ⟨_, rfl, ⟨_, _, _, _, _, _, rfl, (own_set4 _ _ _ _ HO1_3.out (by omega)).mono (by omega), (own_set4 _ _ _ _ HO2_3.out (by omega)).mono (by omega), HAP.out⟩, below_set4 _ _ _ _ HB3.out (by omega)⟩
  cases hfk : findK id ps
  · have HR := Lib.hid (cutF_no (show cutOk ps x id = false by rw [HAO.out, show okSir ps id = false by unfold okSir; rw [hfk]]; simp))
    have hfi : findI id ps = -1 := by unfold findI; rw [hfk]
    rw [hfi]
    clear h1 hfk hfi
    obtain ⟨z0, z1, z2, z3⟩ := cells4 HX3.out
    have fz : ∀ j, w3.frozen? ⟨w.heap.size + 1, j, none⟩ = false := fun j => frozen_of_row _ _ j _ _ HX3.out
    have lX := lt_of_block HX3.out
    obtain ⟨q0, q1, q2, q3⟩ := cells4 HC3.out
    have fq : ∀ j, w3.frozen? ⟨w1.heap.size, j, none⟩ = false := fun j => frozen_of_row _ _ j _ _ HC3.out
    have lC := lt_of_block HC3.out
    go_wp2
    refine bodyPost_ret (by rw [results_cell_tmpF rfl]; go_simp; try rfl) rfl ?_
    rw [HR.out]
    exact ⟨_, rfl, ⟨_, _, _, _, _, _, rfl, (own_set4 _ _ _ _ HO1_3.out (by omega)).mono (by omega), (own_set4 _ _ _ _ HO2_3.out (by omega)).mono (by omega), HAP.out⟩, below_set4 _ _ _ _ HB3.out (by omega)⟩
  rename_i k
  obtain ⟨p0, hp0, -, -⟩ := findK_at hfk
  have hkn : k < n := by have := (List.getElem?_eq_some_iff.1 hp0).1; have := HPL.out; omega
  have hfi : findI id ps = (k : Int) := by unfold findI; rw [hfk]
  rw [hfi]
  have HOS : Hid (okSir ps id = !decide (p0.kind = 2)) := Lib.hid (by unfold okSir; rw [hfk]; simp only [pAt_some hp0])
  obtain ⟨ad, p, rfl, hab, hp, hq⟩ := HAT.out _ HB3.out k hkn
  rw [hp0] at hp
  cases hp
  obtain ⟨c0, c1, c2', c3'⟩ := hq
  have i1 : (0 : Int) ≤ (k : Int) := by omega
  have i2 : (k : Int) < (n : Int) := by omega
  clear hfk hfi hp0 hab
  by_cases h2 : p0.kind = 2
  · have HR := Lib.hid (cutF_no (show cutOk ps x id = false by rw [HAO.out, HOS.out, h2]; simp))
    clear h1
    obtain ⟨z0, z1, z2, z3⟩ := cells4 HX3.out
    have fz : ∀ j, w3.frozen? ⟨w.heap.size + 1, j, none⟩ = false := fun j => frozen_of_row _ _ j _ _ HX3.out
    have lX := lt_of_block HX3.out
    obtain ⟨q0, q1, q2, q3⟩ := cells4 HC3.out
    have fq : ∀ j, w3.frozen? ⟨w1.heap.size, j, none⟩ = false := fun j => frozen_of_row _ _ j _ _ HC3.out
    have lC := lt_of_block HC3.out
    go_wp2
    refine bodyPost_ret (by rw [results_cell_tmpF rfl]; go_simp; try rfl) rfl ?_
    rw [HR.out]
    exact ⟨_, rfl, ⟨_, _, _, _, _, _, rfl, (own_set4 _ _ _ _ HO1_3.out (by omega)).mono (by omega), (own_set4 _ _ _ _ HO2_3.out (by omega)).mono (by omega), HAP.out⟩, below_set4 _ _ _ _ HB3.out (by omega)⟩
  have e2 : (p0.kind == 2) = false := beq_eq_false_iff_ne.2 h2
  have hHA := HHA.out _ HB3.out
  obtain ⟨k0, k1, k2, k3⟩ := cells4 HK3.out
  have lK := lt_of_block HK3.out
  go_wp2_with fail
  refine hHA.mono ?_
  rintro e w3' ⟨rfl, rfl⟩
  clear hHA k0 k1 k2 k3 lK c0 c1 c2' c3'
  cases h3 : hasI x.stage id
  rotate_left
  · have HR := Lib.hid (cutF_no (show cutOk ps x id = false by rw [HAO.out, h3]; simp))
    clear h1 h3 h2 e2
    obtain ⟨z0, z1, z2, z3⟩ := cells4 HX3.out
    have fz : ∀ j, w3.frozen? ⟨w.heap.size + 1, j, none⟩ = false := fun j => frozen_of_row _ _ j _ _ HX3.out
    have lX := lt_of_block HX3.out
    obtain ⟨q0, q1, q2, q3⟩ := cells4 HC3.out
    have fq : ∀ j, w3.frozen? ⟨w1.heap.size, j, none⟩ = false := fun j => frozen_of_row _ _ j _ _ HC3.out
    have lC := lt_of_block HC3.out
    go_wp2
    refine bodyPost_ret (by rw [results_cell_tmpF rfl]; go_simp; try rfl) rfl ?_
    rw [HR.out]
    exact ⟨_, rfl, ⟨_, _, _, _, _, _, rfl, (own_set4 _ _ _ _ HO1_3.out (by omega)).mono (by omega), (own_set4 _ _ _ _ HO2_3.out (by omega)).mono (by omega), HAP.out⟩, below_set4 _ _ _ _ HB3.out (by omega)⟩
  have HR := Lib.hid (cutF_yes (show cutOk ps x id = true by rw [HAO.out, h1, h3, HOS.out, decide_eq_false h2]; rfl))
  have HEN : Hid (endC ps x [id] = if clrB ps x.stage [id] = 0 then ⟨[id], 0, [], 0⟩ else ⟨x.stage, x.since, [id], clrB ps x.stage [id]⟩) := Lib.hid rfl
  clear h1 h2 h3 e2
  obtain ⟨w4, hw4⟩ : ∃ w4, w4 = w3.alloc (.cells #[.int .i64 id] 3) := ⟨_, rfl⟩
  have hb4 : Below w3.heap.size w3 w4 := by rw [hw4]; exact (Below.refl _ _).alloc (Nat.le_refl _) _
  have hO4 : Own .i64 3 w4 w3.heap.size (.slice (some ⟨w3.heap.size, 0, none⟩) 1 1) [id] := by rw [hw4]; exact own_lit w3 [id] 1 (Nat.le_refl _) (by decide) rfl
  have HK4 := Lib.hid ((hb4.block _ (lt_of_block HK3.out)).trans HK3.out)
  have HX4 := Lib.hid ((hb4.block _ (lt_of_block HX3.out)).trans HX3.out)
  have HC4 := Lib.hid ((hb4.block _ (lt_of_block HC3.out)).trans HC3.out)
  have HB4 := Lib.hid (HB3.out.trans (hb4.mono HB3.out.size))
  have HO1_4 := Lib.hid (HO1_3.out.below hb4)
  have HO2_4 := Lib.hid (HO2_3.out.below hb4)
  have hC := HCL.out _ HB4.out _ 1 1 hO4.ints
  have hcb := clrB_bound ps x.stage [id]
  generalize clrB ps x.stage [id] = cb at *
  clear hb4 hO4
  obtain ⟨k0, k1, k2, k3⟩ := cells4 HK3.out
  have lK := lt_of_block HK3.out
  go_wp2_with fail
  rw [← hw4]
  clear hw4
  refine hC.mono ?_
  rintro e w5 ⟨rfl, hb⟩
  have HK5 := Lib.hid ((hb.block _ (lt_of_block HK4.out)).trans HK4.out)
  have HX5 := Lib.hid ((hb.block _ (lt_of_block HX4.out)).trans HX4.out)
  have HC5 := Lib.hid ((hb.block _ (lt_of_block HC4.out)).trans HC4.out)
  have HB5 := Lib.hid (HB4.out.trans (hb.mono HB4.out.size))
  have HO1_5 := Lib.hid (HO1_4.out.below hb)
  have HO2_5 := Lib.hid (HO2_4.out.below hb)
  clear hb
  clear hC k0 k1 k2 k3 lK
  obtain ⟨w6, hw6⟩ : ∃ w6, w6 = w5.alloc (.cells #[.int .i64 id] 3) := ⟨_, rfl⟩
  have hb6 : Below w5.heap.size w5 w6 := by rw [hw6]; exact (Below.refl _ _).alloc (Nat.le_refl _) _
  have hO6 : Own .i64 3 w6 w5.heap.size (.slice (some ⟨w5.heap.size, 0, none⟩) 1 1) [id] := by rw [hw6]; exact own_lit w5 [id] 1 (Nat.le_refl _) (by decide) rfl
  have HX6 := Lib.hid ((hb6.block _ (lt_of_block HX5.out)).trans HX5.out)
  have HC6 := Lib.hid ((hb6.block _ (lt_of_block HC5.out)).trans HC5.out)
  have HB6 := Lib.hid (HB5.out.trans (hb6.mono HB5.out.size))
  have HO1_6 := Lib.hid (HO1_5.out.below hb6)
  have HO6 := Lib.hid hO6
  have LC5 := Lib.hid (lt_of_block HC5.out)
  have L5 := Lib.hid HB5.out.size
  clear hb6 hO6
  have hx6 := HX6.out
  have hc6 := HC6.out
  rw [hw6] at hx6 hc6
  by_cases h6 : cb = 0
  · have HE2 : Hid (endC ps x [id] = ⟨[id], 0, [], 0⟩) := Lib.hid (by rw [HEN.out, if_pos h6])
    have e6 : (cb == 0) = true := by rw [beq_iff_eq]; exact h6
    clear h6
    obtain ⟨z0, z1, z2, z3⟩ := cells4 hx6
    have fz : ∀ j, (w5.alloc (.cells #[.int .i64 id] 3)).frozen? ⟨w.heap.size + 1, j, none⟩ = false := fun j => frozen_of_row _ _ j _ _ hx6
    have lX := lt_of_block hx6
    have lX6 := lt_of_block HX6.out
    clear hx6 hc6
    go_wp2_with (rw [← hw6])
    refine bodyPost_ret (by rw [results_cell_tmpF rfl]; go_simp; try rfl) rfl ?_
    rw [HR.out, HE2.out]
    have := LC5.out
    have := L5.out
    exact ⟨_, rfl, ⟨_, _, _, _, _, _, rfl, (own_set4 _ _ _ _ HO6.out (by omega)).mono (by omega), own_nil _ _ _ _, fun g _ h => by cases h⟩, below_set4 _ _ _ _ HB6.out (by omega)⟩
  · have HE2 : Hid (endC ps x [id] = ⟨x.stage, x.since, [id], cb⟩) := Lib.hid (by rw [HEN.out, if_neg h6])
    have e6 : (cb == 0) = false := by rw [beq_eq_false_iff_ne]; exact h6
    clear h6
    obtain ⟨z0, z1, z2, z3⟩ := cells4 hx6
    have fz : ∀ j, (w5.alloc (.cells #[.int .i64 id] 3)).frozen? ⟨w.heap.size + 1, j, none⟩ = false := fun j => frozen_of_row _ _ j _ _ hx6
    have lX := lt_of_block hx6
    obtain ⟨q0, q1, q2, q3⟩ := cells4 hc6
    have fq : ∀ j, (w5.alloc (.cells #[.int .i64 id] 3)).frozen? ⟨w1.heap.size, j, none⟩ = false := fun j => frozen_of_row _ _ j _ _ hc6
    have lC := lt_of_block hc6
    clear hx6 hc6
    go_wp2
    refine bodyPost_ret (by rw [results_cell_tmpF rfl]; go_simp; try rfl) rfl ?_
    rw [HR.out, HE2.out, ← hw6]
    have hA := LC5.out
    have hL5 := L5.out
    have hO1 := own_set1 (G := w1.heap.size) (j := 3) (.int .i64 cb) (own_set1 (G := w1.heap.size) (j := 2) (.slice (some ⟨w5.heap.size, 0, none⟩) 1 1) HO1_6.out LT1.out) LT1.out
    have hO6 := HO6.out.grown (only_setCell (only_setCell (World.grownBy.refl w6 (some w1.heap.size)) 2 (.slice (some ⟨w5.heap.size, 0, none⟩) 1 1)) 3 (.int .i64 cb)) (fun g e => by have := (HO6.out.block g e).1; intro h; injection h; omega)
    have hB6 := (HB6.out.setCell (p := ⟨w1.heap.size, 2, none⟩) (show w.heap.size ≤ w1.heap.size by omega) (.slice (some ⟨w5.heap.size, 0, none⟩) 1 1)).setCell (p := ⟨w1.heap.size, 3, none⟩) (show w.heap.size ≤ w1.heap.size by omega) (.int .i64 cb)
    exact ⟨_, rfl, ⟨_, _, _, _, _, _, rfl, (own_set4 _ _ _ _ hO1 (by omega)).mono (by omega), (own_set4 _ _ _ _ hO6 (by omega)).mono (by omega), (fun g e e' => by have := LT1.out g e; have := (HO6.out.block g e').1; omega)⟩, below_set4 _ _ _ _ hB6 (by omega)⟩
end Go.Proofs.YtmcoeafkbpeelaaDoor

/- Sirens, the program: whom a siren is for, and when it is heard. -/
set_option linter.unusedSimpArgs false
namespace Go.Proofs.YtmcoeafkbpeelaaDoor
open Go.RowKit
set_option linter.unusedVariables false

/-- a load of a whole struct, in a region whose callees make new memory alone. -/
theorem wpQuiet_load_mid {P : Program} {ops : Array Oper} {C : World → Prop} {Q : Act → Prop} {rest : List Oper} {op : Oper} {a : Act} (hw : Region.wanted op (yielded ops a.tmps) = true) (ty : TypeId) (x : Operand) (ho : op.op = .load ty x)
    (b o : Nat) (hx : a.eval x = .pointer (some ⟨b, o, none⟩)) (cs : List Value) (d : TypeDesc) (hC : ∀ w, C w → w.rangeAt b o cs)
    (hu : P.underlying ty = some d) (hd : d.isRow = true) (hi : (P.info? ty).map (·.size) = some cs.length)
    (h : wpQuiet P ops C Q rest (a.put op.dst (.agg cs.toArray))) : wpQuiet P ops C Q (op :: rest) a := by
  unfold wpQuiet
  rw [if_pos hw]
  refine ⟨.agg cs.toArray, fun w hw' => ?_, h⟩
  unfold Oper.quietAt execOp
  simp only [ho, hx, Instr.loadAt, Instr.sureAddr, Sem.run_bind, Sem.run_pure, Result.andThen_ok, run_loadVar_mid w b o ty cs d (hC w hw') hu hd hi]
  exact ⟨rfl, rfl⟩
/-- the set that a siren opens. -/
def sirP (ps : List Pth) (id : Int) : Nat := match findK id ps with | none => 0 | some k => if (pAt ps k).kind = 2 then 0 else 2 ^ k
theorem sirP_okSir (ps : List Pth) (id : Int) : okSir ps id = !decide (sirP ps id = 0) := by
  unfold okSir sirP
  cases findK id ps with
  | none => rfl
  | some k =>
    simp only
    by_cases h : (pAt ps k).kind = 2
    · simp [h]
    · have : (2 : Nat) ^ k ≠ 0 := by have := Nat.pow_pos (n := k) (show 0 < 2 by decide); omega
      simp [h, this]
theorem sirP_lt {ps : List Pth} (id : Int) {n : Nat} (hn : ps.length = n) (h12 : n ≤ 12) : sirP ps id < 2 ^ n := by
  unfold sirP
  cases hk : findK id ps with
  | none => exact Nat.pow_pos (by decide)
  | some k =>
    obtain ⟨p0, hp0, -, -⟩ := findK_at hk
    have hkl := (List.getElem?_eq_some_iff.1 hp0).1
    simp only
    split
    · exact Nat.pow_pos (by decide)
    · exact Nat.pow_lt_pow_right (by decide) (by omega)
set_option maxHeartbeats 1000000 in
theorem impl_isHeard (k : Nat) (w : World) :
    Calls Tryd.prog 43 #[.agg #[.int .u16 (k : Nat)]] w fun e w' => e = .returned (.bool (!decide (k = 0))) ∧ Below w.heap.size w w' := by
  by_cases h : k = 0
  · have e1 : ((k : Int) != 0) = false := by rw [h]; rfl
    have HR : Hid ((!decide (k = 0)) = false) := Lib.hid (by rw [h]; rfl)
    clear h
    go_enter Tryd.func43, Tryd.ntmps43
    go_wp2
    go_ret
    exact ⟨by rw [HR.out]; try rfl, (Below.refl _ _).alloc (Nat.le_refl _) _⟩
  · have e1 : ((k : Int) != 0) = true := by rw [bne_iff_ne]; omega
    have HR : Hid ((!decide (k = 0)) = true) := Lib.hid (by rw [decide_eq_false h]; rfl)
    clear h
    go_enter Tryd.func43, Tryd.ntmps43
    go_wp2
    go_ret
    exact ⟨by rw [HR.out]; try rfl, (Below.refl _ _).alloc (Nat.le_refl _) _⟩
set_option maxHeartbeats 4000000 in
set_option maxRecDepth 100000 in
theorem impl_sirenFor (A : Option Addr) (n c B : Nat) (ps : List Pth) (f : Nat → Nat) (st nx : Nat) (s l : Int) (id : Int) (h12 : n ≤ 12) (w : World) (h : PthsAt w B A n ps) (hB : B ≤ w.heap.size) :
    Calls Tryd.prog 31 #[.agg (t17 A n c f st nx s l), .int .i64 id] w fun e w' => e = .returned (.agg #[.int .u16 (sirP ps id : Nat)]) ∧ Below w.heap.size w w' := by
  obtain ⟨wA, hwA⟩ : ∃ wA, wA = (w.alloc (.cells (t17 A n c f st nx s l) 57)).alloc (.cells #[.int .u16 0] 62) := ⟨_, rfl⟩
  obtain ⟨hk, hx, hsz, hbA⟩ := two_blocks hwA
  rw [← t17_list] at hk
  obtain ⟨k0, k13, k14, k15, k16⟩ := m17_at (range_block hk)
  have lA : w.heap.size + 1 < wA.heap.size := by omega
  have l0 : w.heap.size < wA.heap.size := by omega
  have HFP := Lib.hid (impl_FindPath A n c B ps id wA (h.below (hbA.mono hB)) (Nat.le_trans hB hbA.size) (by omega))
  have HB := Lib.hid hbA
  have HX := Lib.hid hx
  have HK := Lib.hid hk
  have HL := Lib.hid h.1
  have HP := Lib.hid h
  clear hk hx hsz hbA h
  unfold t17 at hwA ⊢
  cases hfk : findK id ps with
  | none =>
    have HR : Hid (sirP ps id = 0) := Lib.hid (by unfold sirP; rw [hfk])
    have hi : findI id ps = -1 := by unfold findI; rw [hfk]
    rw [hi] at HFP
    clear hfk hi
    go_enter Tryd.func31, Tryd.ntmps31
    go_wp2_with fail
    rw [← hwA]
    clear hwA
    refine HFP.out.mono ?_
    rintro e w1 ⟨rfl, hb1⟩
    have hx1 := (hb1.block _ lA).trans HX.out
    have fz : ∀ j, w1.frozen? ⟨w.heap.size + 1, j, none⟩ = false := fun j => frozen_of_row _ _ j _ _ hx1
    have z0 : w1.cell? ⟨w.heap.size + 1, 0, none⟩ = some (.int .u16 0) := range_block (cs := [.int .u16 0]) hx1 0 _ rfl
    have l1 := lt_of_block hx1
    have HB1 := Lib.hid (HB.out.trans (hb1.mono HB.out.size))
    clear hb1 hx1 k0 k13 k14 k15 k16
    go_wp2
    refine bodyPost_ret (by rw [results_cell rfl]; go_simp; try rfl) rfl ?_
    exact ⟨by rw [HR.out]; rfl, HB1.out.setCell (by simp) _⟩
  | some k =>
    obtain ⟨p0, hp0, -, -⟩ := findK_at hfk
    have hkn : k < n := by have := (List.getElem?_eq_some_iff.1 hp0).1; have := HL.out; omega
    have HS : Hid (sirP ps id = if p0.kind = 2 then 0 else 2 ^ k) := Lib.hid (by unfold sirP; rw [hfk]; simp only [pAt_some hp0])
    have hi : findI id ps = (k : Int) := by unfold findI; rw [hfk]
    rw [hi] at HFP
    obtain ⟨ad, p, rfl, hab, hp, hq⟩ := HP.out.at hkn
    rw [hp0] at hp
    cases hp
    have i1 : (0 : Int) ≤ (k : Int) := by omega
    have i2 : (k : Int) < (n : Int) := by omega
    have HQ := Lib.hid hq
    have HK12 : Hid (k < 12) := Lib.hid (by omega)
    clear hfk hi hp0 hq HP
    by_cases h3 : p0.kind = 2
    · have HR : Hid (sirP ps id = 0) := Lib.hid (by rw [HS.out, if_pos h3])
      have e3 : (p0.kind == 2) = true := by rw [beq_iff_eq]; exact h3
      go_enter Tryd.func31, Tryd.ntmps31
      go_wp2_with fail
      rw [← hwA]
      clear hwA
      refine HFP.out.mono ?_
      rintro e w1 ⟨rfl, hb1⟩
      have hx1 := (hb1.block _ lA).trans HX.out
      have hk1 := (hb1.block _ l0).trans HK.out
      have fz : ∀ j, w1.frozen? ⟨w.heap.size + 1, j, none⟩ = false := fun j => frozen_of_row _ _ j _ _ hx1
      have z0 : w1.cell? ⟨w.heap.size + 1, 0, none⟩ = some (.int .u16 0) := range_block (cs := [.int .u16 0]) hx1 0 _ rfl
      have l1 := lt_of_block hx1
      have HB1 := Lib.hid (HB.out.trans (hb1.mono HB.out.size))
      obtain ⟨c0, c1, c2, c3⟩ := HQ.out.below HB1.out (by omega)
      have hm := (m17_at (range_block hk1)).1
      clear hb1 hx1 hk1 k0 k13 k14 k15 k16
      go_wp2
      refine bodyPost_ret (by rw [results_cell rfl]; go_simp; try rfl) rfl ?_
      exact ⟨by rw [HR.out]; rfl, HB1.out.setCell (by simp) _⟩
    · have HR : Hid (sirP ps id = 2 ^ k) := Lib.hid (by rw [HS.out, if_neg h3])
      have e3 : (p0.kind == 2) = false := beq_eq_false_iff_ne.2 h3
      go_enter Tryd.func31, Tryd.ntmps31
      go_wp2_with fail
      rw [← hwA]
      clear hwA
      refine HFP.out.mono ?_
      rintro e w1 ⟨rfl, hb1⟩
      have hx1 := (hb1.block _ lA).trans HX.out
      have hk1 := (hb1.block _ l0).trans HK.out
      have fz : ∀ j, w1.frozen? ⟨w.heap.size + 1, j, none⟩ = false := fun j => frozen_of_row _ _ j _ _ hx1
      have z0 : w1.cell? ⟨w.heap.size + 1, 0, none⟩ = some (.int .u16 0) := range_block (cs := [.int .u16 0]) hx1 0 _ rfl
      have l1 := lt_of_block hx1
      have HB1 := Lib.hid (HB.out.trans (hb1.mono HB.out.size))
      obtain ⟨c0, c1, c2, c3⟩ := HQ.out.below HB1.out (by omega)
      have hm := (m17_at (range_block hk1)).1
      clear hb1 hx1 hk1 k0 k13 k14 k15 k16
      go_wp2_with fail
      refine (impl_maskBit k _ HK12.out).mono ?_
      rintro e w2 ⟨rfl, rfl⟩
      go_wp2
      refine bodyPost_ret (by rw [results_cell rfl]; go_simp; try rfl) rfl ?_
      exact ⟨by rw [HR.out]; rfl, HB1.out.setCell (by simp) _⟩
set_option maxHeartbeats 4000000 in
set_option maxRecDepth 100000 in
theorem impl_sirenChoose (A : Option Addr) (n c B : Nat) (ps : List Pth) (f : Nat → Nat) (st nx : Nat) (s l : Int) (k : Nat) (h12 : n ≤ 12) (hst : st < 2 ^ n) (hk : k < 4096) (ha : arePs ps = true) (w : World) (h : PthsAt w B A n ps) (hB : B ≤ w.heap.size) (hw : Brus w) (hsr : Sirs w) :
    Calls Tryd.prog 32 #[.agg #[.int .u16 (k : Nat)], .agg (t17 A n c f st nx s l)] w fun e w' => e = .returned (.tuple #[.int .u16 (k : Nat), .bool (!decide (k = 0) && (decide (st &&& k = 0) && (decide (nx = 0) && decide (cutLs ps (idxsN n st) ≤ s))))]) ∧ Below w.heap.size w w' := by
  have hst4 := Nat.lt_of_lt_of_le hst (pow_le12 h12)
  have HCC := Lib.hid (fun (y : World) (hy : Below w.heap.size w y) => impl_canCut A n c B ps f st nx s l h12 hst ha y (h.below (hy.mono hB)) (Nat.le_trans hB hy.size) (hw.below hy (Nat.le_refl _)) (hsr.below hy (Nat.le_refl _)))
  obtain ⟨wA, hwA⟩ : ∃ wA, wA = (w.alloc (.cells #[.int .u16 (k : Nat)] 62)).alloc (.cells (t17 A n c f st nx s l) 57) := ⟨_, rfl⟩
  obtain ⟨hs0, hk0, hsz, hbA⟩ := two_blocks hwA
  rw [← t17_list] at hk0
  have hrng := range_block hk0
  have hinf : (Tryd.prog.info? 57).map (·.size) = some (m17 A n c f st nx s l).length := by rw [m17_len]; exact info_mach
  have lA : w.heap.size + 1 < wA.heap.size := by omega
  have l0 : w.heap.size < wA.heap.size := by omega
  have s0 : wA.cell? ⟨w.heap.size, 0, none⟩ = some (.int .u16 (k : Nat)) := range_block (cs := [.int .u16 (k : Nat)]) hs0 0 _ rfl
  have HRG := Lib.hid (fun y : GW wA => fun j v (hj : (m17 A n c f st nx s l)[j]? = some v) => (y.ok.cell (p := ⟨w.heap.size + 1, 0 + j, none⟩) lA).trans (hrng j v hj))
  have g0 := fun y : GW wA => (y.ok.cell (p := ⟨w.heap.size, 0, none⟩) l0).trans s0
  have g13 := fun y : GW wA => (y.ok.cell (p := ⟨w.heap.size + 1, 13, none⟩) lA).trans (m17_at hrng).2.1
  have hHD := fun y : GW wA => impl_isHeard k y.val
  have hCC := fun y : GW wA => HCC.out y.val (hbA.trans (y.ok.mono hbA.size))
  have hab : bits .and .u16 (st : Int) (k : Int) = ((st &&& k : Nat) : Int) := u16_and_nat _ _ (by omega) (by omega)
  have HB := Lib.hid hbA
  clear hrng hs0 hk0 hsz hbA s0 h hw hsr HCC lA l0 hst hst4
  rw [← t17_list] at hCC
  generalize (decide (nx = 0) && decide (cutLs ps (idxsN n st) ≤ s)) = cc at *
  generalize m17 A n c f st nx s l = ms at *
  unfold t17 at hwA ⊢
  generalize st &&& k = x1 at *
  by_cases h1 : k = 0
  · have e1 : (!decide (k = 0)) = false := by rw [h1]; rfl
    rw [e1] at hHD
    have HR : Hid ((!decide (k = 0) && (decide (x1 = 0) && cc)) = false) := Lib.hid (by rw [e1]; rfl)
    clear h1 e1
    go_enter Tryd.func32, Tryd.ntmps32
    go_wp2
    rw [← hwA]
    clear hwA
    refine wp_region_grow (by kernel_rfl) (by kernel_rfl) ?_
    repeat (first | go_big_quiet_step (exact calls_gw _ (hHD _)))
    refine wpQuiet_nil ?_
    intro x
    go_wp2
    go_ret2
    exact ⟨by rw [HR.out]; try rfl, HB.out.trans (x.ok.mono HB.out.size)⟩
  have e1 : (!decide (k = 0)) = true := by rw [decide_eq_false h1]; rfl
  rw [e1] at hHD ⊢
  rw [Bool.true_and]
  clear h1 e1
  by_cases h2 : x1 = 0
  · have HR : Hid ((decide (x1 = 0) && cc) = cc) := Lib.hid (by rw [decide_eq_true h2]; rfl)
    have e2 : ((x1 : Int) == 0) = true := by rw [h2]; rfl
    clear h2
    go_enter Tryd.func32, Tryd.ntmps32
    go_wp2
    rw [← hwA]
    clear hwA
    refine wp_region_grow (by kernel_rfl) (by kernel_rfl) ?_
    iterate 13 (go_big_quiet_step (exact calls_gw _ (hHD _)))
    refine wpQuiet_load_mid (by rfl) 57 _ rfl (w.heap.size + 1) 0 rfl ms _ (fun y ⟨x, hx⟩ => hx ▸ HRG.out x) Tryd.underlying57 rfl hinf ?_
    try simp only [Act.put, List.setIfInBounds_toArray, List.set_cons_zero, List.set_cons_succ]
    repeat (first | go_big_quiet_step (exact calls_gw _ (hCC _)))
    refine wpQuiet_nil ?_
    intro x
    go_wp2
    go_ret2
    exact ⟨by rw [HR.out]; try rfl, HB.out.trans (x.ok.mono HB.out.size)⟩
  · have HR : Hid ((decide (x1 = 0) && cc) = false) := Lib.hid (by rw [decide_eq_false h2]; rfl)
    have e2 : ((x1 : Int) == 0) = false := beq_eq_false_iff_ne.2 (by omega)
    clear h2
    go_enter Tryd.func32, Tryd.ntmps32
    go_wp2
    rw [← hwA]
    clear hwA
    refine wp_region_grow (by kernel_rfl) (by kernel_rfl) ?_
    repeat (first | go_big_quiet_step (exact calls_gw _ (hHD _)))
    refine wpQuiet_nil ?_
    intro x
    go_wp2
    go_ret2
    exact ⟨by rw [HR.out]; try rfl, HB.out.trans (x.ok.mono HB.out.size)⟩
end Go.Proofs.YtmcoeafkbpeelaaDoor

/- The program's machine: changeTo. -/
set_option linter.unusedSimpArgs false
namespace Go.Proofs.YtmcoeafkbpeelaaDoor
open Go.RowKit
set_option linter.unusedVariables false

/-- what changeTo answers. -/
def chgT (ps : List Pth) (A : Option Addr) (n c : Nat) (f : Nat → Nat) (st : Nat) (s : Int) (k : Nat) : Array Value := if clrS ps f st k = 0 then t17 A n c f k 0 0 0 else t17 A n c f st k s (clrS ps f st k)
set_option maxHeartbeats 4000000 in
set_option maxRecDepth 100000 in
theorem impl_changeTo (A : Option Addr) (n c B : Nat) (ps : List Pth) (f : Nat → Nat) (hf : ∀ k, f k < 4096) (st nx : Nat) (s l : Int) (k : Nat) (hst : st < 4096) (hkk : k < 4096) (h12 : n ≤ 12) (w : World) (h : PthsAt w B A n ps) (hB : B ≤ w.heap.size) (ht : Clrs w) :
    Calls Tryd.prog 33 #[.agg (t17 A n c f st nx s l), .int .u16 (k : Nat)] w fun e w' => e = .returned (.agg (chgT ps A n c f st s k)) ∧ Below w.heap.size w w' := by
  obtain ⟨wA, hwA⟩ : ∃ wA, wA = (w.alloc (.cells (t17 A n c f st nx s l) 57)).alloc (.cells #[.slice none 0 0, .int .u16 0, .int .u16 0, .int .u16 0, .int .u16 0, .int .u16 0, .int .u16 0, .int .u16 0, .int .u16 0, .int .u16 0, .int .u16 0, .int .u16 0, .int .u16 0, .int .u16 0, .int .u16 0, .int .i64 0, .int .i64 0] 57) := ⟨_, rfl⟩
  obtain ⟨hk, hx, hsz, hbA⟩ := two_blocks hwA
  rw [← t17_list] at hk
  have hrng := m17_pre (range_block hk)
  have lA : w.heap.size + 1 < wA.heap.size := by omega
  obtain ⟨k0, k13, k14, k15, k16⟩ := m17_at (range_block hk)
  have hinf13 : (Tryd.prog.info? 55).map (·.size) = some (xcells A n c f).length := by rw [xcells_length]; exact info_cross
  have hCL := impl_clearB A n c B ps f hf st k hst hkk h12 wA (h.below (hbA.mono hB)) (by omega) (ht.below hbA (Nat.le_refl _))
  have HC := Lib.hid hCL
  have HK := Lib.hid hk
  have HX := Lib.hid hx
  have HB := Lib.hid hbA
  have HV : Hid (chgT ps A n c f st s k = if clrS ps f st k = 0 then t17 A n c f k 0 0 0 else t17 A n c f st k s (clrS ps f st k)) := Lib.hid rfl
  have lk := lt_of_block hk
  clear hk hx hsz hbA hCL h ht
  generalize xcells A n c f = xs at HC hrng hinf13
  generalize chgT ps A n c f st s k = q at *
  generalize clrS ps f st k = r at *
  unfold t17 at hwA
  have hT : t17 A n c f st nx s l = #[.slice A n c, .int .u16 (f 0 : Nat), .int .u16 (f 1 : Nat), .int .u16 (f 2 : Nat), .int .u16 (f 3 : Nat), .int .u16 (f 4 : Nat), .int .u16 (f 5 : Nat), .int .u16 (f 6 : Nat), .int .u16 (f 7 : Nat), .int .u16 (f 8 : Nat), .int .u16 (f 9 : Nat), .int .u16 (f 10 : Nat), .int .u16 (f 11 : Nat), .int .u16 (st : Nat), .int .u16 (nx : Nat), .int .i64 s, .int .i64 l] := rfl
  rw [hT]
  go_enter Tryd.func33, Tryd.ntmps33
  go_wp2_with ((with_reducible show wpList _ _ _ _ _ _); rw [← hwA]; clear hwA; refine wpList_load_mid rfl 55 _ rfl w.heap.size 0 rfl xs _ hrng Tryd.underlying55 rfl hinf13 ?_)
  clear hrng hinf13 hT
  refine HC.out.mono ?_
  rintro e w2 ⟨rfl, hb2⟩
  have HB2 := Lib.hid (HB.out.trans (hb2.mono HB.out.size))
  have hk2 := (hb2.block _ (lt_of_block HK.out)).trans HK.out
  have hx2 := (hb2.block _ lA).trans HX.out
  have HK2 := Lib.hid hk2
  have HX2 := Lib.hid hx2
  clear hb2 k0 k13 k14 k15 k16 lk
  obtain ⟨k0, k13, k14, k15, k16⟩ := m17_at (range_block hk2)
  have fk : ∀ j, w2.frozen? ⟨w.heap.size, j, none⟩ = false := fun j => frozen_of_row _ _ j _ _ hk2
  have lk := lt_of_block hk2
  clear hk2 hx2
  obtain ⟨w4, hw4⟩ : ∃ w4, w4 = (w2.setCell ⟨w.heap.size, 14, none⟩ (.int .u16 (k : Nat))).setCell ⟨w.heap.size, 16, none⟩ (.int .i64 r) := ⟨_, rfl⟩
  have hk4 : w4.heap[w.heap.size]? = some (.cells (m17 A n c f st k s r).toArray 57 (0, 0)) := by rw [hw4]; exact heap_set (heap_set HK2.out 14 _) 16 _
  have hx4 : w4.heap[w.heap.size + 1]? = some (.cells #[.slice none 0 0, .int .u16 0, .int .u16 0, .int .u16 0, .int .u16 0, .int .u16 0, .int .u16 0, .int .u16 0, .int .u16 0, .int .u16 0, .int .u16 0, .int .u16 0, .int .u16 0, .int .u16 0, .int .u16 0, .int .i64 0, .int .i64 0] 57 (0, 0)) := by rw [hw4]; exact ((only_setCell (only_setCell (World.grownBy.refl w2 (some w.heap.size)) 14 _) 16 _).block _ (lt_of_block HX2.out) (by simp)).trans HX2.out
  have HB4 : Hid (Below w.heap.size w w4) := Lib.hid (by rw [hw4]; exact (HB2.out.setCell (Nat.le_refl _) _).setCell (Nat.le_refl _) _)
  have lk4 := lt_of_block hk4
  have h16 : w4.cell? ⟨w.heap.size, 16, none⟩ = some (.int .i64 r) := (m17_at (range_block hk4)).2.2.2.2
  by_cases hr : r = 0
  · subst hr
    rw [if_pos rfl] at HV
    have HON := Lib.hid (all_oneCell_toArray (m17_one A n c f k 0 0 0))
    have hinf17 : (Tryd.prog.info? 57).map (·.size) = some (m17 A n c f st k s 0).length := by rw [m17_len]; exact info_mach
    have hinf2 : (Tryd.prog.info? 57).map (·.size) = some (m17 A n c f k 0 0 0).length := by rw [m17_len]; exact info_mach
    have HTT : Hid (∀ y, Below w4.heap.size w4 y → y.there (w.heap.size + 1) 0 (m17 A n c f k 0 0 0).toArray.size) := Lib.hid (fun y hy => there_block ((hy.block _ (lt_of_block hx4)).trans hx4) _ (by rw [List.size_toArray, m17_len]; rfl))
    have HOP := Lib.hid (impl_openM A n c f st k s 0 k w4)
    rw [← t17_list, ← t17_list] at HOP
    rw [← t17_list] at HV
    have hr4 := range_block hk4
    clear hk4 hx4
    generalize hzz : m17 A n c f k 0 0 0 = zz at *
    generalize m17 A n c f st k s 0 = z1 at hr4 hinf17 HOP
    go_wp2_with ((with_reducible show wpList _ _ _ _ _ _); rw [← hw4]; clear hw4; refine wpList_load_mid rfl 57 _ rfl w.heap.size 0 rfl z1 _ hr4 Tryd.underlying57 rfl hinf17 ?_)
    refine HOP.out.mono ?_
    rintro e w5 ⟨rfl, hb5⟩
    have HT5 := HTT.out w5 hb5
    have HB5 := Lib.hid (HB4.out.trans (hb5.mono HB4.out.size))
    clear hb5 h16 hr4 k0 k13 k14 k15 k16 fk lk lk4
    go_wp2_with ((with_reducible show wpList _ _ _ _ _ _); refine wpList_store_mid rfl 57 _ _ rfl (w.heap.size + 1) 0 zz.toArray rfl rfl HT5 (by rw [List.size_toArray]; exact hinf2) HON.out ?_)
    all_goals
      refine bodyPost_ret (v := .agg zz.toArray) (by
          have hload := run_loadVar_mid (P := Tryd.prog) (w5.setCells (w.heap.size + 1) 0 zz) (w.heap.size + 1) 0 57 zz _ (World.rangeAt_setCells_same _ _ _ _ (by have := HT5; simpa using this)) Tryd.underlying57 rfl hinf2
          rw [results_cell rfl]
          simp [asAddr, Act.eval, Act.put, hload, Result.andThen]) rfl ⟨by rw [HV.out], ?_⟩
      exact below_setCells _ (Nat.le_succ _) _ _ _ HB5.out
  · rw [if_neg hr] at HV
    have e6 : (r == 0) = false := by rw [beq_eq_false_iff_ne]; exact hr
    have HON := Lib.hid (all_oneCell_toArray (m17_one A n c f st k s r))
    have hinf17 : (Tryd.prog.info? 57).map (·.size) = some (m17 A n c f st k s r).length := by rw [m17_len]; exact info_mach
    have HTH : Hid (w4.there (w.heap.size + 1) 0 (m17 A n c f st k s r).toArray.size) := Lib.hid (there_block hx4 _ (by rw [List.size_toArray, m17_len]; rfl))
    rw [← t17_list] at HV
    have hr4 := range_block hk4
    clear hk4 hx4
    generalize hzz : m17 A n c f st k s r = zz at *
    go_wp2_with ((with_reducible show wpList _ _ _ _ _ _); first
      | (rw [← hw4]; clear hw4; refine wpList_load_mid rfl 57 _ rfl w.heap.size 0 rfl zz _ hr4 Tryd.underlying57 rfl hinf17 ?_)
      | (refine wpList_store_mid rfl 57 _ _ rfl (w.heap.size + 1) 0 zz.toArray rfl rfl HTH.out (by rw [List.size_toArray]; exact hinf17) HON.out ?_))
    all_goals
      refine bodyPost_ret (v := .agg zz.toArray) (by
          have hload := run_loadVar_mid (P := Tryd.prog) (w4.setCells (w.heap.size + 1) 0 zz) (w.heap.size + 1) 0 57 zz _ (World.rangeAt_setCells_same _ _ _ _ (by have := HTH.out; simpa using this)) Tryd.underlying57 rfl hinf17
          rw [results_cell rfl]
          simp [asAddr, Act.eval, Act.put, hload, Result.andThen]) rfl ⟨by rw [HV.out], ?_⟩
      exact below_setCells _ (Nat.le_succ _) _ _ _ HB4.out
end Go.Proofs.YtmcoeafkbpeelaaDoor

/- CutFor of the program (written by genctfi.py). -/
set_option linter.unusedSimpArgs false
namespace Go.Proofs.YtmcoeafkbpeelaaDoor
open Go.RowKit
set_option linter.unusedVariables false

theorem range_belowC {w w' : World} {g : Nat} {cs : List Value} (h : w.rangeAt g 0 cs) (hb : Below w.heap.size w w') (lt : g < w.heap.size) : w'.rangeAt g 0 cs := fun j v hj => (hb.cell (by exact lt)).trans (h j v hj)
theorem and_bitC (q k : Nat) : q &&& 2 ^ k = 0 ↔ q.testBit k = false := by
  rw [and_zero]
  constructor
  · intro h
    rw [Bool.eq_false_iff]
    intro hb
    exact h k ⟨hb, by rw [Nat.testBit_two_pow]; simp⟩
  · rintro h i ⟨h1, h2⟩
    rw [Nat.testBit_two_pow, decide_eq_true_eq] at h2
    subst h2
    rw [h] at h1
    cases h1
theorem sirP_mask {ps : List Pth} {id : Int} (ha : arePs ps = true) (h : sirP ps id ≠ 0) : isTog ps [id] = true ∧ maskL ps [id] = sirP ps id ∧ ∃ k, k < ps.length ∧ sirP ps id = 2 ^ k ∧ idAt ps k = id := by
  have h12 := arePs_len12 ha
  unfold sirP at h ⊢
  cases hk : findK id ps with
  | none => rw [hk] at h; exact absurd rfl h
  | some k =>
    obtain ⟨p0, hp0, hid, -⟩ := findK_at hk
    have hkl := (List.getElem?_eq_some_iff.1 hp0).1
    rw [hk] at h
    simp only at h ⊢
    have h2 : ¬ (pAt ps k).kind = 2 := fun e => h (by rw [if_pos e])
    rw [if_neg h2]
    have hia : idAt ps k = id := by rw [← hid]; unfold idAt; rw [pAt_some hp0]
    have ht := tog_one ha hkl
    obtain ⟨-, -, -, -, hs⟩ := tog_maskL ht
    have hm : (2 : Nat) ^ k < 2 ^ ps.length := Nat.pow_lt_pow_right (by decide) hkl
    have hs2 := st_mask ha hm (free_one h12 hkl)
    rw [ids_one ha hkl, hs] at hs2
    injection hs2 with hs2
    rw [hia] at ht hs2
    exact ⟨ht, hs2, k, hkl, rfl, hia⟩
theorem cutOk_mask {ps : List Pth} {x : Ctl} (hr : isCtl ps x = true) {n : Nat} (hn : ps.length = n) (id : Int) : cutOk ps x id = (!decide (sirP ps id = 0) && (decide (maskL ps x.stage &&& sirP ps id = 0) && (decide (maskL ps x.next = 0) && decide (cutLs ps (idxsN n (maskL ps x.stage)) ≤ x.since)))) := by
  obtain ⟨ha, _, h1, h2, _⟩ := ctl_parts hr
  unfold cutOk
  rw [canC_on hr hn, sirP_okSir]
  by_cases h : sirP ps id = 0
  · simp [h]
  · obtain ⟨-, -, k, hk, hs, hi⟩ := sirP_mask ha h
    obtain ⟨-, a1, a2, -, -⟩ := tog_maskL h1
    have e : hasI x.stage id = (maskL ps x.stage).testBit k := by
      have := has_ids ha a1 hk
      rwa [← a2, hi] at this
    rw [e, decide_eq_false h, hs]
    have e2 := and_bitC (maskL ps x.stage) k
    cases hb : (maskL ps x.stage).testBit k
    · rw [decide_eq_true (e2.2 hb)]; simp
    · have hne : ¬ (maskL ps x.stage &&& 2 ^ k = 0) := fun q => by rw [e2.1 q] at hb; cases hb
      rw [decide_eq_false hne]; simp
theorem cutOk_off {ps : List Pth} {x : Ctl} {id : Int} (h : isCtl ps x = false) : cutOk ps x id = false := by unfold cutOk; rw [canC_off h]; rfl
set_option maxHeartbeats 16000000 in
set_option maxRecDepth 100000 in
theorem impl_CutFor {w : World} {A : Option Addr} {n c : Nat} {ps : List Pth} {A2 : Option Addr} {n2 c2 : Nat} {A3 : Option Addr} {n3 c3 : Nat} {x : Ctl} (I : CtlIn w A n c ps A2 n2 c2 A3 n3 c3 x) (id : Int) (hid : (Lit.int .i64 id).wf = true) (hw : Brus w) (ht : Clrs w) (hsr : Sirs w) :
    Calls Tryd.prog 11 #[.slice A n c, ctlV (.slice A2 n2 c2) x.since (.slice A3 n3 c3) x.left, .int .i64 id] w fun e w' => ∃ v, e = .returned (.tuple #[v, .bool (cutF ps x id).2]) ∧ OwnC w' w.heap.size v (cutF ps x id).1 ∧ Below w.heap.size w w' := by
  obtain ⟨wA, hwA⟩ : ∃ wA, wA = (w.alloc (.cells #[.slice A2 n2 c2, .int .i64 x.since, .slice A3 n3 c3, .int .i64 x.left] 28)).alloc (.cells #[.slice none 0 0, .int .i64 0, .slice none 0 0, .int .i64 0] 28) := ⟨_, rfl⟩
  obtain ⟨hk, hx, hsz, hbA⟩ := two_blocks hwA
  have HC := impl_machineOf (I.below hbA) (hw.below hbA (Nat.le_refl _)) (ht.below hbA (Nat.le_refl _))
  have HBA := Lib.hid hbA
  have HK := Lib.hid hk
  have HX := Lib.hid hx
  have HCP := Lib.hid (fun y (hy : Below w.heap.size w y) => impl_copyControl A2 n2 c2 x.stage x.since A3 n3 c3 x.next x.left y (I.below hy).s I.hs (I.below hy).t I.ht)
  have lA : w.heap.size + 1 < wA.heap.size := by omega
  cases hr : isCtl ps x
  · obtain ⟨A', n', c', f, st, nx, s, l, hv⟩ := machV_off (A := A) (n := n) (c := c) hr
    have HR := Lib.hid (cutF_no (cutOk_off (id := id) hr))
    rw [hv] at HC
    simp only [ctlV] at HC HCP ⊢
    unfold t17 at HC
    have HCC := Lib.hid HC
    obtain ⟨k0, k1, k2, k3⟩ := cells4 hk
    clear hk hx hsz hbA HC hv I hw ht hr hsr
    go_enter Tryd.func11, Tryd.ntmps11
    go_wp2_with fail
    rw [← hwA]
    clear hwA
    refine HCC.out.mono ?_
    rintro e w1 ⟨rfl, hb1⟩
    have HK1 := Lib.hid ((hb1.block _ (Nat.lt_of_succ_lt lA)).trans HK.out)
    have HX1 := Lib.hid ((hb1.block _ lA).trans HX.out)
    have HB1 := Lib.hid (HBA.out.trans (hb1.mono HBA.out.size))
    clear hb1 k0 k1 k2 k3
    obtain ⟨w2, hw2⟩ : ∃ w2, w2 = w1.alloc (.cells (t17 A' n' c' f st nx s l) 57) := ⟨_, rfl⟩
    obtain ⟨-, -, hb2⟩ := one_block hw2
    have HK2 := Lib.hid ((hb2.block _ (lt_of_block HK1.out)).trans HK1.out)
    have HX2 := Lib.hid ((hb2.block _ (lt_of_block HX1.out)).trans HX1.out)
    have HB2 := Lib.hid (HB1.out.trans (hb2.mono HB1.out.size))
    have l2 := lt_of_block HX2.out
    clear hb2
    unfold t17 at hw2
    have hq := HK2.out
    rw [hw2] at hq
    obtain ⟨k0, k1, k2, k3⟩ := cells4 hq
    clear hq
    go_wp2_with fail
    rw [← hw2]
    clear hw2
    refine (HCP.out _ HB2.out).mono ?_
    rintro e w9 ⟨E1, e1, E2, e2, rfl, ho1, ho2, hap, hb9⟩
    have HX9 := Lib.hid ((hb9.block _ (lt_of_block HX2.out)).trans HX2.out)
    have HB9 := Lib.hid (HB2.out.trans (hb9.mono HB2.out.size))
    have HO1 := Lib.hid ho1
    have HO2 := Lib.hid ho2
    have HAP := Lib.hid hap
    have l9 := lt_of_block HX2.out
    clear hb9 ho1 ho2 hap k0 k1 k2 k3
    obtain ⟨z0, z1, z2, z3⟩ := cells4 HX9.out
    have fz : ∀ j, w9.frozen? ⟨w.heap.size + 1, j, none⟩ = false := fun j => frozen_of_row _ _ j _ _ HX9.out
    have l3 := lt_of_block HX9.out
    go_wp2
    refine bodyPost_ret (by rw [results_cell_tmpF rfl]; go_simp; try rfl) rfl ?_
    rw [HR.out]
    exact ⟨_, rfl, ⟨_, _, _, _, _, _, rfl, (own_set4 _ _ _ _ HO1.out l9).mono (by omega), (own_set4 _ _ _ _ HO2.out l9).mono (by omega), HAP.out⟩, below_set4 _ _ _ _ HB9.out (by omega)⟩
  · have hv := machV_on (A := A) (n := n) (c := c) hr
    have HCE := Lib.hid (cutOk_mask hr I.p.len id)
    obtain ⟨ha, _, h1, h2, _⟩ := ctl_parts hr
    obtain ⟨-, hm1, e1, _, _⟩ := tog_maskL h1
    rw [I.p.len] at hm1
    have h12 : n ≤ 12 := by have := arePs_len12 ha; have := I.p.len; omega
    have hp12 : 2 ^ n ≤ 4096 := Nat.le_trans (Nat.pow_le_pow_right (by omega) h12) (by decide)
    have hf12 := fun k => rowSt_lt ps n 0 k
    have HSF := Lib.hid (fun y (hy : Below w.heap.size w y) => impl_sirenFor A n c _ ps (rowSt ps n 0) (maskL ps x.stage) (maskL ps x.next) x.since x.left id h12 y (I.below hy).p.pths (Nat.le_refl _))
    have hk4096 : sirP ps id < 4096 := by have := sirP_lt id I.p.len h12; omega
    have HCZ := Lib.hid (fun y (hy : Below w.heap.size w y) => impl_sirenChoose A n c _ ps (rowSt ps n 0) (maskL ps x.stage) (maskL ps x.next) x.since x.left (sirP ps id) h12 hm1 hk4096 ha y (I.below hy).p.pths (Nat.le_refl _) (hw.below hy (Nat.le_refl _)) (hsr.below hy (Nat.le_refl _)))
    have HSM := Lib.hid (fun h => sirP_mask (id := id) ha h)
    rw [← HCE.out] at HCZ
    have HCH := Lib.hid (fun y (hy : Below w.heap.size w y) => impl_changeTo A n c _ ps (rowSt ps n 0) hf12 (maskL ps x.stage) (maskL ps x.next) x.since x.left (sirP ps id) (by omega) hk4096 h12 y (I.below hy).p.pths (Nat.le_refl _) (ht.below hy (Nat.le_refl _)))
    have HCT := Lib.hid (fun (st nx : Nat) (s l : Int) (hst : st < 2 ^ n) (hnx : nx < 2 ^ n) y (hy : Below w.heap.size w y) => impl_controlM A n c _ ps (rowSt ps n 0) st nx s l h12 hst hnx y (I.below hy).p.pths (Nat.le_refl _) (hw.below hy (Nat.le_refl _)))
    have HCHT : Hid (chgT ps A n c (rowSt ps n 0) (maskL ps x.stage) x.since (sirP ps id) = if clrS ps (rowSt ps n 0) (maskL ps x.stage) (sirP ps id) = 0 then t17 A n c (rowSt ps n 0) (sirP ps id) 0 0 0 else t17 A n c (rowSt ps n 0) (maskL ps x.stage) (sirP ps id) x.since (clrS ps (rowSt ps n 0) (maskL ps x.stage) (sirP ps id))) := Lib.hid rfl
    have hln := I.p.len
    rw [hv, ← t17_list] at HC
    rw [← t17_list] at HSF HCZ
    rw [← t17_list] at HCH
    have hL := m17_len A n c (rowSt ps n 0) (maskL ps x.stage) (maskL ps x.next) x.since x.left
    have HON := Lib.hid (all_oneCell_toArray (m17_one A n c (rowSt ps n 0) (maskL ps x.stage) (maskL ps x.next) x.since x.left))
    simp only [ctlV] at HC HCP ⊢
    have HCC := Lib.hid HC
    generalize m17 A n c (rowSt ps n 0) (maskL ps x.stage) (maskL ps x.next) x.since x.left = ms at *
    have hinf17 : (Tryd.prog.info? 57).map (·.size) = some ms.length := by rw [hL]; exact info_mach
    have HIA : Hid ((Tryd.prog.info? 57).map (·.size) = some ms.toArray.size) := Lib.hid (by rw [List.size_toArray]; exact hinf17)
    obtain ⟨k0, k1, k2, k3⟩ := cells4 hk
    clear hk hx hsz hbA HC hv I hw ht hsr
    go_enter Tryd.func11, Tryd.ntmps11
    go_wp2_with fail
    rw [← hwA]
    clear hwA
    refine HCC.out.mono ?_
    rintro e w1 ⟨rfl, hb1⟩
    have HK1 := Lib.hid ((hb1.block _ (Nat.lt_of_succ_lt lA)).trans HK.out)
    have HX1 := Lib.hid ((hb1.block _ lA).trans HX.out)
    have HB1 := Lib.hid (HBA.out.trans (hb1.mono HBA.out.size))
    have lw1 : w.heap.size + 1 < w1.heap.size := Nat.lt_of_lt_of_le lA hb1.size
    have HTH := Lib.hid (there_block (heap_alloc_new w1 (.cells #[.slice none 0 0, .int .u16 0, .int .u16 0, .int .u16 0, .int .u16 0, .int .u16 0, .int .u16 0, .int .u16 0, .int .u16 0, .int .u16 0, .int .u16 0, .int .u16 0, .int .u16 0, .int .u16 0, .int .u16 0, .int .i64 0, .int .i64 0] 57)) ms.toArray.size (by simp [hL]))
    obtain ⟨wz, hwz⟩ : ∃ wz, wz = w1.alloc (.cells #[.slice none 0 0, .int .u16 0, .int .u16 0, .int .u16 0, .int .u16 0, .int .u16 0, .int .u16 0, .int .u16 0, .int .u16 0, .int .u16 0, .int .u16 0, .int .u16 0, .int .u16 0, .int .u16 0, .int .u16 0, .int .i64 0, .int .i64 0] 57) := ⟨_, rfl⟩
    obtain ⟨w2, hw2⟩ : ∃ w2, w2 = wz.setCells w1.heap.size 0 ms := ⟨_, rfl⟩
    have HRG : Hid (w2.rangeAt w1.heap.size 0 ms) := Lib.hid (by rw [hw2, hwz]; exact World.rangeAt_setCells_same _ _ _ _ (by have := HTH.out; simpa using this))
    have hb12 : Below w1.heap.size w1 w2 := by rw [hw2, hwz]; exact below_setCells _ (Nat.le_refl _) _ _ _ ((Below.refl _ _).alloc (Nat.le_refl _) _)
    have hzz1 : wz.heap.size ≤ w2.heap.size := by rw [hw2]; exact (below_setCells _ (Nat.le_refl _) _ _ _ (Below.refl w1.heap.size wz)).size
    have hzz2 : wz.heap.size = w1.heap.size + 1 := by rw [hwz]; exact heap_size_allocF _ _
    have HLT : Hid (w1.heap.size < w2.heap.size) := Lib.hid (by omega)
    clear hzz1 hzz2
    have HB2 := Lib.hid (HB1.out.trans (hb12.mono HB1.out.size))
    have HX2 := Lib.hid ((hb12.block _ lw1).trans HX1.out)
    have HK2 := Lib.hid ((hb12.block _ (Nat.lt_of_succ_lt lw1)).trans HK1.out)
    have HE2 : Hid ((w1.alloc (.cells #[.slice none 0 0, .int .u16 0, .int .u16 0, .int .u16 0, .int .u16 0, .int .u16 0, .int .u16 0, .int .u16 0, .int .u16 0, .int .u16 0, .int .u16 0, .int .u16 0, .int .u16 0, .int .u16 0, .int .u16 0, .int .i64 0, .int .i64 0] 57)).setCells w1.heap.size 0 ms.toArray.toList = w2) := Lib.hid (by rw [hw2, hwz])
    clear hb1 hwz hw2 hb12 k0 k1 k2 k3
    go_wp2_with ((with_reducible show wpList _ _ _ _ _ _); refine wpList_store_mid rfl 57 _ _ rfl w1.heap.size 0 ms.toArray rfl rfl HTH.out HIA.out HON.out ?_; rw [HE2.out])
    have hSF := fun y : GW w2 => HSF.out y.val (HB2.out.trans (y.ok.mono HB2.out.size))
    have hCZ := fun y : GW w2 => HCZ.out y.val (HB2.out.trans (y.ok.mono HB2.out.size))
    refine wp_region_grow (by kernel_rfl) (by kernel_rfl) ?_
    refine wpQuiet_load_mid (by rfl) 57 _ rfl w1.heap.size 0 rfl ms _ (fun y ⟨x, hx⟩ => hx ▸ range_belowC HRG.out x.ok HLT.out) Tryd.underlying57 rfl hinf17 ?_
    try simp only [Act.put, List.setIfInBounds_toArray, List.set_cons_zero, List.set_cons_succ]
    iterate 2 (go_big_quiet_step (exact calls_gw _ (hSF _)))
    refine wpQuiet_load_mid (by rfl) 57 _ rfl w1.heap.size 0 rfl ms _ (fun y ⟨x, hx⟩ => hx ▸ range_belowC HRG.out x.ok HLT.out) Tryd.underlying57 rfl hinf17 ?_
    try simp only [Act.put, List.setIfInBounds_toArray, List.set_cons_zero, List.set_cons_succ]
    repeat (first | go_big_quiet_step (exact calls_gw _ (hCZ _)))
    refine wpQuiet_nil ?_
    intro y
    obtain ⟨w4, hw4⟩ : ∃ w4, w4 = y.val := ⟨_, rfl⟩
    have hb4 : Below w2.heap.size w2 w4 := by rw [hw4]; exact y.ok
    rw [← hw4]
    have HX4 := Lib.hid ((hb4.block _ (lt_of_block HX2.out)).trans HX2.out)
    have HK4 := Lib.hid ((hb4.block _ (lt_of_block HK2.out)).trans HK2.out)
    have HB4 := Lib.hid (HB2.out.trans (hb4.mono HB2.out.size))
    have HRG4 := Lib.hid (range_belowC HRG.out hb4 HLT.out)
    clear hb4 hw4 y hSF hCZ
    cases hco : cutOk ps x id
    · have HR := Lib.hid (cutF_no hco)
      clear hco
      obtain ⟨k0, k1, k2, k3⟩ := cells4 HK4.out
      have lk4 := lt_of_block HK4.out
      go_wp2_with fail
      refine (HCP.out _ HB4.out).mono ?_
      rintro e w9 ⟨E1, e1, E2, e2, rfl, ho1, ho2, hap, hb9⟩
      have HX9 := Lib.hid ((hb9.block _ (lt_of_block HX4.out)).trans HX4.out)
      have HB9 := Lib.hid (HB4.out.trans (hb9.mono HB4.out.size))
      have HO1 := Lib.hid ho1
      have HO2 := Lib.hid ho2
      have HAP := Lib.hid hap
      have l9 := lt_of_block HX4.out
      clear hb9 ho1 ho2 hap k0 k1 k2 k3
      obtain ⟨z0, z1, z2, z3⟩ := cells4 HX9.out
      have fz : ∀ j, w9.frozen? ⟨w.heap.size + 1, j, none⟩ = false := fun j => frozen_of_row _ _ j _ _ HX9.out
      have l3 := lt_of_block HX9.out
      go_wp2
      refine bodyPost_ret (by rw [results_cell_tmpF rfl]; go_simp; try rfl) rfl ?_
      rw [HR.out]
      exact ⟨_, rfl, ⟨_, _, _, _, _, _, rfl, (own_set4 _ _ _ _ HO1.out l9).mono (by omega), (own_set4 _ _ _ _ HO2.out l9).mono (by omega), HAP.out⟩, below_set4 _ _ _ _ HB9.out (by omega)⟩
    · have HR := Lib.hid (cutF_yes hco)
      have hs0 : sirP ps id ≠ 0 := by
        intro e
        have := HCE.out
        rw [hco, e] at this
        cases this
      obtain ⟨htg, hms, -⟩ := HSM.out hs0
      obtain ⟨-, hkz, ez, -, -⟩ := tog_maskL htg
      rw [hln, hms] at hkz
      rw [hms] at ez
      have HCB : Hid (clrS ps (rowSt ps n 0) (maskL ps x.stage) (sirP ps id) = clrB ps x.stage [id]) := Lib.hid (by rw [← hln, ← hms]; exact clr_mask2 h1 htg)
      rw [HCB.out] at HCHT
      have HEN : Hid (endC ps x [id] = if clrB ps x.stage [id] = 0 then ⟨[id], 0, [], 0⟩ else ⟨x.stage, x.since, [id], clrB ps x.stage [id]⟩) := Lib.hid rfl
      have HE1 := Lib.hid e1
      have HEZ := Lib.hid ez
      clear hco hs0 htg hms ez e1 h1 h2 HCB HCE HSM HSF HCZ
      generalize clrB ps x.stage [id] = cb at *
      generalize hkq : sirP ps id = kq at *
      generalize hst : maskL ps x.stage = st at *
      clear hkq hst
      go_wp2_with ((with_reducible show wpList _ _ _ _ _ _); refine wpList_load_mid rfl 57 _ rfl w1.heap.size 0 rfl ms _ HRG4.out Tryd.underlying57 rfl hinf17 ?_)
      refine (HCH.out _ HB4.out).mono ?_
      rintro e w5 ⟨rfl, hb5⟩
      have HX5 := Lib.hid ((hb5.block _ (lt_of_block HX4.out)).trans HX4.out)
      have HB5 := Lib.hid (HB4.out.trans (hb5.mono HB4.out.size))
      clear hb5
      rw [HCHT.out]
      by_cases hcb : cb = 0
      · rw [if_pos hcb] at HEN ⊢
        have HQ := HCT.out kq 0 0 0 hkz (Nat.pow_pos (by omega)) _ HB5.out
        have HID : Hid ((⟨idsM ps kq, 0, idsM ps 0, 0⟩ : Ctl) = endC ps x [id]) := Lib.hid (by rw [HEN.out, idsM_none, ← HEZ.out])
        rw [HID.out] at HQ
        have HCQ := Lib.hid HQ
        unfold t17 at HCQ ⊢
        clear HQ hcb
        go_wp2_with fail
        refine HCQ.out.mono ?_
        rintro e w6 ⟨v, rfl, ⟨F1, N1, f1, F2, N2, f2, rfl, ho1, ho2, hap⟩, hb6⟩
        have HX6 := Lib.hid ((hb6.block _ (lt_of_block HX5.out)).trans HX5.out)
        have HB6 := Lib.hid (HB5.out.trans (hb6.mono HB5.out.size))
        have HO1 := Lib.hid ho1
        have HO2 := Lib.hid ho2
        have HAP := Lib.hid hap
        have lx5 := lt_of_block HX5.out
        clear hb6 ho1 ho2 hap
        simp only [ctlV]
        obtain ⟨q0, q1, q2, q3⟩ := cells4 HX6.out
        have fz : ∀ j, w6.frozen? ⟨w.heap.size + 1, j, none⟩ = false := fun j => frozen_of_row _ _ j _ _ HX6.out
        have l4 := lt_of_block HX6.out
        go_wp2
        refine bodyPost_ret (by rw [results_cell_tmpF rfl]; go_simp; try rfl) rfl ?_
        rw [HR.out]
        exact ⟨_, rfl, ⟨_, _, _, _, _, _, rfl, (own_set4 _ _ _ _ HO1.out lx5).mono (by omega), (own_set4 _ _ _ _ HO2.out lx5).mono (by omega), HAP.out⟩, below_set4 _ _ _ _ HB6.out (by omega)⟩
      · rw [if_neg hcb] at HEN ⊢
        have HQ := HCT.out st kq x.since cb hm1 hkz _ HB5.out
        have HID : Hid ((⟨idsM ps st, x.since, idsM ps kq, cb⟩ : Ctl) = endC ps x [id]) := Lib.hid (by rw [HEN.out, ← HE1.out, ← HEZ.out])
        rw [HID.out] at HQ
        have HCQ := Lib.hid HQ
        unfold t17 at HCQ ⊢
        clear HQ hcb
        go_wp2_with fail
        refine HCQ.out.mono ?_
        rintro e w6 ⟨v, rfl, ⟨F1, N1, f1, F2, N2, f2, rfl, ho1, ho2, hap⟩, hb6⟩
        have HX6 := Lib.hid ((hb6.block _ (lt_of_block HX5.out)).trans HX5.out)
        have HB6 := Lib.hid (HB5.out.trans (hb6.mono HB5.out.size))
        have HO1 := Lib.hid ho1
        have HO2 := Lib.hid ho2
        have HAP := Lib.hid hap
        have lx5 := lt_of_block HX5.out
        clear hb6 ho1 ho2 hap
        simp only [ctlV]
        obtain ⟨q0, q1, q2, q3⟩ := cells4 HX6.out
        have fz : ∀ j, w6.frozen? ⟨w.heap.size + 1, j, none⟩ = false := fun j => frozen_of_row _ _ j _ _ HX6.out
        have l4 := lt_of_block HX6.out
        go_wp2
        refine bodyPost_ret (by rw [results_cell_tmpF rfl]; go_simp; try rfl) rfl ?_
        rw [HR.out]
        exact ⟨_, rfl, ⟨_, _, _, _, _, _, rfl, (own_set4 _ _ _ _ HO1.out lx5).mono (by omega), (own_set4 _ _ _ _ HO2.out lx5).mono (by omega), HAP.out⟩, below_set4 _ _ _ _ HB6.out (by omega)⟩
end Go.Proofs.YtmcoeafkbpeelaaDoor

/- A controller's rows marked: what the laws' helper does. -/
namespace Go.Proofs.YtmcoeafkbpeelaaDoor
open Go.RowKit
set_option linter.unusedVariables false

set_option maxHeartbeats 4000000 in
theorem mark_ctl (x0 x1 : Int) (A : Option Addr) (n c : Nat) (zs : List Int) (A2 : Option Addr) (n2 c2 lo hi s : Nat) (zs2 : List Int) (w : World) (h : Ow .i64 3 w lo hi (.slice A n c) zs) (h2 : Ow .i64 3 w lo hi (.slice A2 n2 c2) zs2) (hap : ∀ g, (Value.slice A n c).ownBlock = some g → (Value.slice A2 n2 c2).ownBlock ≠ some g) (hn : n ≤ 1048576) (hn2 : n2 ≤ 1048576) (hs : s ≤ 16777216) :
    Calls Tryd.prog 15 #[ctlV (.slice A n c) x0 (.slice A2 n2 c2) x1, .int .i64 s] w fun e w' => e = .returned (.int .i64 ((s + n + n2 : Nat) : Int)) ∧ Part lo hi w w' := by
  simp only [ctlV]
  obtain ⟨wA, hwA⟩ : ∃ wA, wA = w.alloc (.cells #[.slice A n c, .int .i64 x0, .slice A2 n2 c2, .int .i64 x1] 28) := ⟨_, rfl⟩
  obtain ⟨hk, hsz, hB⟩ := one_block hwA
  have hcc := mark_i64 A n c lo s zs wA (h.below hB).own (by omega) (by omega)
  have HO2 := Lib.hid (h2.below hB)
  have HK := Lib.hid hk
  have HT := Lib.hid h.top
  have HL := Lib.hid h.lt
  have HL2 := Lib.hid h2.lt
  have hlo := h.own.block
  have hlo2 := h2.own.block
  have HLO := Lib.hid hlo
  have HLO2 := Lib.hid hlo2
  have HAP := Lib.hid hap
  have HSZ := Lib.hid (show wA.heap.size = w.heap.size + 1 by omega)
  have HB := Lib.hid hB
  obtain ⟨k0, k1, k2, k3⟩ := cells4 hk
  clear hk hsz hB h h2 hlo hlo2 hap
  go_enter Tryd.func15, Tryd.ntmps15
  go_wp2_with fail
  rw [← hwA]
  refine hcc.mono ?_
  rintro e w1 ⟨rfl, ho, hg⟩
  have hk1 : w1.heap[w.heap.size]? = wA.heap[w.heap.size]? := hg.block _ (by have := HSZ.out; omega) (fun e => by have := HL.out _ e.symm; have := HT.out; omega)
  replace hk1 := hk1.trans HK.out
  have hcc2 := mark_i64 A2 n2 c2 lo (s + n) zs2 w1 (HO2.out.own.grown hg (fun g e e' => HAP.out g e' e)) (by omega) (by omega)
  have HG := Lib.hid hg
  clear hwA k0 k1 k2 k3 ho hg
  obtain ⟨k0, k1, k2, k3⟩ := cells4 hk1
  go_wp2_with fail
  refine hcc2.mono ?_
  rintro e w2 ⟨rfl, ho2, hg2⟩
  clear k0 k1 k2 k3
  go_wp2
  go_ret
  refine ⟨rfl, ⟨hg2.os.trans (HG.out.os.trans HB.out.os), hg2.tape.trans (HG.out.tape.trans HB.out.tape), hg2.output.trans (HG.out.output.trans HB.out.output), Nat.le_trans HB.out.size (Nat.le_trans HG.out.size hg2.size), fun i hi' hd => ?_⟩⟩
  have e1 : w2.heap[i]? = w1.heap[i]? := hg2.block i (Nat.lt_of_lt_of_le hi' (Nat.le_trans HB.out.size HG.out.size)) (fun e => by have := HL2.out _ e.symm; have := (HLO2.out _ e.symm).1; omega)
  have e2 : w1.heap[i]? = wA.heap[i]? := HG.out.block i (Nat.lt_of_lt_of_le hi' HB.out.size) (fun e => by have := HL.out _ e.symm; have := (HLO.out _ e.symm).1; omega)
  exact e1.trans (e2.trans (HB.out.block i hi'))
end Go.Proofs.YtmcoeafkbpeelaaDoor
