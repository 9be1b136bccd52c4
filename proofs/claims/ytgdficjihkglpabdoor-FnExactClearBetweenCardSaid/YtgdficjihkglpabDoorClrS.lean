/- ClearBetween: the model. -/
import Derived.Test.YtgdficjihkglpabDoorClrB
import Derived.Test.YtgdficjihkglpabDoorClrM
import Derived.Test.YtgdficjihkglpabDoorConf2
import Derived.Test.YtgdficjihkglpabDoorTog2
import Derived.Test.YtgdficjihkglpabDoorGrow
namespace Go.Proofs.YtgdficjihkglpabDoor
open Go.RowKit
set_option linter.unusedVariables false

theorem tog_find {ps : List Pth} {ids : List Int} (h : isTog ps ids = true) {x : Int} (hx : x ∈ ids) : ∃ j, findK x ps = some j := by
  obtain ⟨ha, m, hm, e, _, _⟩ := tog_stage h
  rw [e] at hx
  obtain ⟨j, h1, rfl⟩ := (idsM_mem (arePs_len12 ha) hm x).1 hx
  exact ⟨j, findK_of ha (bit_in hm h1)⟩
theorem clos_sub {a b : List Int} {k : Nat} (hk : k < (closL a b).length) : (closL a b).getD k 0 ∈ a := by
  have : (closL a b).getD k 0 ∈ closL a b := by rw [List.getD_eq_getElem?_getD, List.getElem?_eq_getElem hk]; exact List.getElem_mem hk
  exact (List.mem_filter.1 this).1
theorem clos_path {ps : List Pth} {a b : List Int} (h : isTog ps a = true) {k : Nat} (hk : k < (closL a b).length) : ∃ j p, findK ((closL a b).getD k 0) ps = some j ∧ ps[j]? = some p ∧ idP ps ((closL a b).getD k 0) = p := by
  obtain ⟨j, hj⟩ := tog_find h (clos_sub hk)
  obtain ⟨p, hp, _⟩ := findK_at hj
  exact ⟨j, p, hj, hp, by unfold idP; rw [hj]; exact pAt_some hp⟩
theorem fI_of {ps : List Pth} {id : Int} {k : Nat} (h : findK id ps = some k) : findI id ps = (k : Int) := by unfold findI; rw [h]
set_option maxHeartbeats 4000000 in
set_option maxRecDepth 100000 in
theorem spec_ClearBetween (A : Option Addr) (n c B : Nat) (ps : List Pth) (A2 : Option Addr) (n2 c2 B2 : Nat) (za : List Int) (A3 : Option Addr) (n3 c3 B3 : Nat) (zb : List Int) (w : World) (h : PthsAt w B A n ps) (hB : B ≤ w.heap.size) (hn : n ≤ 4294967296) (h2 : IntsAt .i64 w B2 A2 n2 za) (hB2 : B2 ≤ w.heap.size) (hn2 : n2 ≤ 4294967296) (h3 : IntsAt .i64 w B3 A3 n3 zb) (hB3 : B3 ≤ w.heap.size) (hn3 : n3 ≤ 4294967296) :
    Calls Tryd.prog 32 #[.slice A n c, .slice A2 n2 c2, .slice A3 n3 c3] w fun e w' => e = .returned (.int .i64 (clrB ps za zb)) ∧ Below w.heap.size w w' := by
  have hl := h.1
  have hl2 := h2.1
  have hl3 := h3.1
  have hxl : (closL za zb).length ≤ za.length := List.length_filter_le _ _
  have hyl : (closL zb za).length ≤ zb.length := List.length_filter_le _ _
  have HOFF := Lib.hid (fun hh => clrB_off (ps := ps) (a := za) (b := zb) hh)
  have HON := Lib.hid (fun q1 q2 => clrB_on (ps := ps) (a := za) (b := zb) q1 q2)
  have HXP := Lib.hid (fun (q : isTog ps za = true) k hk => clos_path (b := zb) (k := k) q hk)
  have HYP := Lib.hid (fun (q : isTog ps zb = true) k hk => clos_path (b := za) (k := k) q hk)
  have HCA := Lib.hid (spec_Closes A2 n2 c2 B2 za A3 n3 c3 B3 zb w h2 h3 hB2 hB3 hn2 hn3)
  have HTA := Lib.hid (fun x (hx : Below w.heap.size w x) => spec_IsTogether A n c B ps A2 n2 c2 B2 za x (h.below (hx.mono hB)) (h2.laid hB2 hx) (Nat.le_trans hB hx.size) (Nat.le_trans hB2 hx.size) hn hn2)
  have HTB := Lib.hid (fun x (hx : Below w.heap.size w x) => spec_IsTogether A n c B ps A3 n3 c3 B3 zb x (h.below (hx.mono hB)) (h3.laid hB3 hx) (Nat.le_trans hB hx.size) (Nat.le_trans hB3 hx.size) hn hn3)
  have HSS := Lib.hid (fun (ys : List Int) (p : Pth) (m : Nat) (hm : m < ys.length) => hold_succ (ps := ps) (p := p) (ys := ys) (k := m) hm)
  have HCS : Hid (∀ xs ys k, clrTo ps xs ys (k + 1) = clrIn (clrTo ps xs ys k) (idP ps (xs.getD k 0)) (holdTo ps (idP ps (xs.getD k 0)) ys ys.length)) := Lib.hid (fun _ _ _ => rfl)
  go_enter Tryd.func32, Tryd.ntmps32
  go_wp2_with fail
  refine HCA.out.mono ?_
  rintro e w1 ⟨v1, rfl, ho1, hb1⟩
  have HCB := Lib.hid (spec_Closes A3 n3 c3 B3 zb A2 n2 c2 B2 za w1 (h3.laid hB3 hb1) (h2.laid hB2 hb1) (Nat.le_trans hB3 hb1.size) (Nat.le_trans hB2 hb1.size) hn3 hn2)
  have HB1 := Lib.hid hb1
  clear hb1 HCA
  generalize closL za zb = X at *
  generalize closL zb za = Y at *
  go_wp2_with fail
  refine HCB.out.mono ?_
  rintro e w2 ⟨v2, rfl, ho2, hb2⟩
  have ho1' := ho1.below hb2
  obtain ⟨A4, c4, rfl⟩ := ho1'.sliced
  obtain ⟨A5, c5, rfl⟩ := ho2.sliced
  have HB2 := Lib.hid (HB1.out.trans (hb2.mono HB1.out.size))
  have hX := ho1'.ints
  have hY := ho2.ints
  clear hb2 ho1 ho2 ho1' HCB
  have HP := Lib.hid h
  go_wp2
  go_loopw [7, 10] (fun x i wr => ∃ (k : Nat) (q : Int), k ≤ X.length ∧ i = .int .i64 k ∧ x = .int .i64 q ∧ q = clrTo ps X Y k ∧ (0 < k → isTog ps za = true ∧ isTog ps zb = true) ∧ Below w2.heap.size w2 wr) (fun _ i _ => X.length - (intOf i).toNat)
  case atStart => exact ⟨0, 0, Nat.zero_le _, rfl, rfl, rfl, fun hh => absurd hh (by omega), Below.refl _ _⟩
  case round =>
    obtain ⟨k, q, hk, rfl, rfl, hq, hgo, hbl⟩ := hrel
    have hsz := hbl.size
    have HG := Lib.hid hgo
    have HQ := Lib.hid hq
    have HBW := Lib.hid (HB2.out.trans (hbl.mono HB2.out.size))
    clear hgo hq
    by_cases hlt : k < X.length
    · go_wp2_with fail
      refine (HTA.out wr HBW.out).mono ?_
      rintro e w3 ⟨rfl, hb3⟩
      have HB3 := Lib.hid (HBW.out.trans (hb3.mono HBW.out.size))
      have HL3 := Lib.hid (hbl.trans (hb3.mono hsz))
      clear hb3
      cases hta : isTog ps za
      · have hk0 : k = 0 := by
          by_cases e : 0 < k
          · have := (HG.out e).1; rw [hta] at this; cases this
          · omega
        have HR : Hid (clrB ps za zb = q) := Lib.hid (by rw [HOFF.out (by rw [hta]; rfl), HQ.out, hk0]; rfl)
        clear hta hk0
        go_wp2
        go_ret
        exact ⟨by rw [HR.out]; try rfl, HB3.out⟩
      have HA := Lib.hid hta
      clear hta
      go_wp2_with fail
      refine (HTB.out w3 HB3.out).mono ?_
      rintro e w4 ⟨rfl, hb4⟩
      have HB4 := Lib.hid (HB3.out.trans (hb4.mono HB3.out.size))
      have HL4 := Lib.hid (HL3.out.trans (hb4.mono HL3.out.size))
      clear hb4
      cases htb : isTog ps zb
      · have hk0 : k = 0 := by
          by_cases e : 0 < k
          · have := (HG.out e).2; rw [htb] at this; cases this
          · omega
        have HR : Hid (clrB ps za zb = q) := Lib.hid (by rw [HOFF.out (by rw [htb, Bool.and_false]), HQ.out, hk0]; rfl)
        clear htb hk0
        go_wp2
        go_ret
        exact ⟨by rw [HR.out]; try rfl, HB4.out⟩
      have HTB2 := Lib.hid htb
      clear htb hbl
      obtain ⟨j, p, hj, hp, hip⟩ := HXP.out HA.out k hlt
      have HJ := Lib.hid (fI_of hj)
      have HPJ := Lib.hid hp
      have HIP := Lib.hid hip
      have hjl : j < n := by have := (List.getElem?_eq_some_iff.1 hp).1; omega
      have HSK : Hid (clrTo ps X Y (k + 1) = clrIn q p (holdTo ps p Y Y.length)) := Lib.hid (by rw [HCS.out, HIP.out, HQ.out])
      have HZK : Hid (q = clrIn q p (holdTo ps p Y 0)) := Lib.hid (by rw [hold_zero]; rfl)
      clear hj hp hip
      go_wp2
      go_loopw [7, 11] (fun x i wr => ∃ (m : Nat) (t : Int), m ≤ Y.length ∧ i = .int .i64 m ∧ x = .int .i64 t ∧ t = clrIn q p (holdTo ps p Y m) ∧ Below w2.heap.size w2 wr) (fun _ i _ => Y.length - (intOf i).toNat)
      case atStart => exact ⟨0, q, Nat.zero_le _, rfl, rfl, HZK.out, HL4.out⟩
      case round =>
        clear HL4 HB4 HL3 HB3 HBW hsz
        obtain ⟨m, t, hm, rfl, rfl, ht, hbl⟩ := hrel
        have hsz := hbl.size
        have HT := Lib.hid ht
        clear ht
        have HBW := Lib.hid (HB2.out.trans (hbl.mono HB2.out.size))
        by_cases hlt2 : m < Y.length
        · obtain ⟨j2, p2, hj2, hp2, hip2⟩ := HYP.out HTB2.out m hlt2
          have hjl2 : j2 < n := by have := (List.getElem?_eq_some_iff.1 hp2).1; omega
          obtain ⟨ax, eax, hax, hxc⟩ := hX.2 (by omega)
          obtain ⟨ay, eay, hay, hyc⟩ := hY.2 (by omega)
          have hcx := (hbl.cell (p := ax.add k) (by rw [add_block]; omega)).trans (hxc k hlt)
          have hcy := (hbl.cell (p := ay.add m) (by rw [add_block]; omega)).trans (hyc m hlt2)
          obtain ⟨ad, p', ead, hab, hp', hqp⟩ := HP.out.at hjl
          obtain ⟨ad2, p2', ead2, hab2, hp2', hqp2⟩ := HP.out.at hjl2
          rw [HPJ.out] at hp'
          rw [hp2] at hp2'
          injection hp' with hp'
          injection hp2' with hp2'
          subst hp'
          subst hp2'
          subst eax
          subst eay
          subst ead
          injection ead2 with ead2
          subst ead2
          obtain ⟨c0, c1, c2', c3'⟩ := hqp.below HBW.out (by omega)
          have HF1 := Lib.hid (spec_FindPath (some ad) n c B ps (X.getD k 0) wr (HP.out.below (HBW.out.mono hB)) hn)
          have HHS := Lib.hid (HSS.out Y p m hlt2)
          rw [hip2] at HHS
          have HJ2 := Lib.hid (fI_of hj2)
          have HQ2 := Lib.hid hqp2
          have HYC := Lib.hid (hyc m hlt2)
          have HJP := Lib.hid HJ.out
          clear hj2 hp2 hip2 hxc hyc hqp
          generalize X.getD k 0 = x at *
          generalize Y.getD m 0 = y at *
          have hbA := (Below.refl wr.heap.size wr).alloc (Nat.le_refl _) (.cells #[.int .i64 p.id, .int .i64 p.kind, .int .i64 p.frm, .int .i64 p.to] 48)
          have HBA := Lib.hid (hbl.trans (hbA.mono hsz))
          have HBAW := Lib.hid (HBW.out.trans (hbA.mono HBW.out.size))
          have HPB : Hid (PthAt (wr.alloc (.cells #[.int .i64 p.id, .int .i64 p.kind, .int .i64 p.frm, .int .i64 p.to] 48)) ⟨wr.heap.size, 0, none⟩ p) := Lib.hid (pth_of_block (heap_alloc_new wr _))
          have HSA : Hid ((wr.alloc (.cells #[.int .i64 p.id, .int .i64 p.kind, .int .i64 p.frm, .int .i64 p.to] 48)).heap.size = wr.heap.size + 1) := Lib.hid (by simp)
          clear hbA hbl
          go_wp2_with fail
          refine HF1.out.mono ?_
          rw [HJP.out]
          rintro e w5 ⟨rfl, rfl⟩
          obtain ⟨wA, hwA⟩ : ∃ wA, wA = wr.alloc (.cells #[.int .i64 p.id, .int .i64 p.kind, .int .i64 p.frm, .int .i64 p.to] 48) := ⟨_, rfl⟩
          rw [← hwA] at HBA HBAW HPB HSA
          have HPX := Lib.hid (fun x : GW wA => pth_head (HPB.out.below x.ok (by have := HSA.out; simp only; omega)))
          have HWX := Lib.hid (fun x : GW wA => HBAW.out.trans (x.ok.mono HBAW.out.size))
          go_wp2
          rw [← hwA]
          clear hwA c0 c1 c2' c3'
          have b0 := fun x : GW wA => (HPX.out x).1
          have b1 := fun x : GW wA => (HPX.out x).2.1
          have b2 := fun x : GW wA => (HPX.out x).2.2.1
          have b3 := fun x : GW wA => (HPX.out x).2.2.2
          try simp only at b0 b1 b2 b3
          have q0 := fun x : GW wA => (HQ2.out.below (HWX.out x) (by omega)).c0
          have q1 := fun x : GW wA => (HQ2.out.below (HWX.out x) (by omega)).c1
          have q2 := fun x : GW wA => (HQ2.out.below (HWX.out x) (by omega)).c2
          have q3 := fun x : GW wA => (HQ2.out.below (HWX.out x) (by omega)).c3
          have yc := fun x : GW wA => ((HBA.out.trans (x.ok.mono HBA.out.size)).cell (p := ay.add m) (by rw [add_block]; omega)).trans HYC.out
          have hff := fun x : GW wA => spec_FindPath (some ad) n c B ps y x.val (HP.out.below ((HWX.out x).mono hB)) hn
          have hcf := fun x : GW wA => spec_Conflict p p2 x.val
          simp only [HJ2.out] at hff
          simp only [Pth.val] at hcf
          have k1 : (0 : Int) ≤ (j2 : Int) := by omega
          have k2 : (j2 : Int) < (n : Int) := by omega
          have k3 : (0 : Int) ≤ (m : Int) := by omega
          have k4 : (m : Int) < (Y.length : Int) := by omega
          have HMX := Lib.hid (fun (u : Int) => clrIn_yes q p (holdTo ps p Y m))
          cases hcv : conf p p2
          · rw [hcv] at HHS
            have HT2 : Hid (t = clrIn q p (holdTo ps p Y (m + 1))) := Lib.hid (by rw [HHS.out, Bool.or_false]; exact HT.out)
            rw [hcv] at hcf
            clear hcv HHS HMX
            refine wp_region_grow (by kernel_rfl) (by kernel_rfl) ?_
            repeat (go_big_quiet_step (first | (go_at_call 42; exact calls_gw_same _ (hff _)) | (go_at_call 43; exact calls_gw _ (hcf _))))
            refine wpQuiet_nil ?_
            intro x5
            have hb5 := HBA.out.trans (x5.ok.mono HBA.out.size)
            clear b0 b1 b2 b3 q0 q1 q2 q3 yc hff hcf
            generalize x5.val = w5 at *
            go_wp2
            go_roundw
            case rel => exact ⟨m + 1, t, by omega, by go_num, rfl, HT2.out, hb5⟩
            case measure => simp [intOf]; omega
          · rw [hcv] at HHS
            have HT2 : Hid (maxI t (clearN p) = clrIn q p (holdTo ps p Y (m + 1))) := Lib.hid (by rw [HHS.out, Bool.or_true, HT.out]; exact HMX.out 0)
            rw [hcv] at hcf
            clear hcv HHS HMX
            refine wp_region_grow (by kernel_rfl) (by kernel_rfl) ?_
            repeat (go_big_quiet_step (first | (go_at_call 42; exact calls_gw_same _ (hff _)) | (go_at_call 43; exact calls_gw _ (hcf _))))
            refine wpQuiet_nil ?_
            intro x5
            have hb5 := HBA.out.trans (x5.ok.mono HBA.out.size)
            have e0 := b0 x5
            have e1 := b1 x5
            have e2 := b2 x5
            have e3 := b3 x5
            clear b0 b1 b2 b3 q0 q1 q2 q3 yc hff hcf
            generalize x5.val = w5 at *
            have HCO := Lib.hid (spec_ClearOf p w5)
            have HB5 := Lib.hid hb5
            clear hb5
            go_wp2_with fail
            refine HCO.out.mono ?_
            rintro e w6 ⟨rfl, hb6⟩
            have HB6 := Lib.hid (HB5.out.trans (hb6.mono HB5.out.size))
            clear hb6 e0 e1 e2 e3
            generalize clearN p = cn at *
            go_wp2_with fail
            refine (spec_Max _ _ _).mono ?_
            rintro e w7 ⟨rfl, rfl⟩
            go_wp2
            go_roundw
            case rel => exact ⟨m + 1, _, by omega, by go_num, rfl, HT2.out, HB6.out⟩
            case measure => simp [intOf]; omega
        · obtain rfl : m = Y.length := by omega
          have HN : Hid (t = clrTo ps X Y (k + 1)) := Lib.hid (by rw [HSK.out, HT.out])
          go_wp2
          go_roundw
          case rel => exact ⟨k + 1, t, by omega, by go_num, rfl, HN.out, fun _ => ⟨HA.out, HTB2.out⟩, hbl⟩
          case measure => simp [intOf]; omega
    · obtain rfl : k = X.length := by omega
      have HR : Hid (clrB ps za zb = q) := Lib.hid (by
        by_cases e : 0 < X.length
        · rw [HON.out (HG.out e).1 (HG.out e).2, HQ.out]
        · have e0 : X.length = 0 := by omega
          cases hta : isTog ps za
          · rw [HOFF.out (by rw [hta]; rfl), HQ.out, e0]; rfl
          · cases htb : isTog ps zb
            · rw [HOFF.out (by rw [htb, Bool.and_false]), HQ.out, e0]; rfl
            · rw [HON.out hta htb, HQ.out])
      go_wp2
      go_ret
      exact ⟨by rw [HR.out]; try rfl, HBW.out⟩
end Go.Proofs.YtgdficjihkglpabDoor
