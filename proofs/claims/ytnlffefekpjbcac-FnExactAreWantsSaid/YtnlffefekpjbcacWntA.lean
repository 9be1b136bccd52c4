/- Chapter 15: AreWants: program and model. -/
import Derived.Test.YtnlffefekpjbcacFindI
import Derived.Test.YtnlffefekpjbcacConf2
import Derived.Test.YtnlffefekpjbcacConfI
import Derived.Test.YtnlffefekpjbcacWnt
import Derived.BigQuiet
import Derived.Deep.QuietTactic
namespace Go.Proofs.Ytnlffefekpjbcac
open Go.RowKit
set_option linter.unusedVariables false

/-- the want with an index. -/
def wntA (ws : List Wnt) (k : Nat) : Wnt := ws.getD k ⟨0, 0⟩
theorem wntA_some {ws : List Wnt} {k : Nat} {x : Wnt} (h : ws[k]? = some x) : wntA ws k = x := by unfold wntA; rw [List.getD_eq_getElem?_getD, h]; rfl
/-- the k-th want is for a path, waits in range, and is beyond the one before. -/
def okW (ps : List Pth) (ws : List Wnt) (k : Nat) : Bool := decide (0 ≤ findI (wntA ws k).path ps) && inB (wntA ws k).wait 0 100000 && (decide (k = 0) || decide ((wntA ws (k - 1)).path < (wntA ws k).path))
/-- what AreWants answers. -/
def areW (ps : List Pth) (ws : List Wnt) : Bool := arePs ps && (List.range ws.length).all (okW ps ws)
theorem areW_no {ps : List Pth} {ws : List Wnt} {k : Nat} (hk : k < ws.length) (h : okW ps ws k = false) : areW ps ws = false := by
  unfold areW
  rw [show (List.range ws.length).all (okW ps ws) = false from List.all_eq_false.2 ⟨k, List.mem_range.2 hk, by rw [h]; decide⟩, Bool.and_false]
theorem areW_end {ps : List Pth} {ws : List Wnt} (h : ∀ k, k < ws.length → okW ps ws k = true) : areW ps ws = arePs ps := by
  unfold areW
  rw [show (List.range ws.length).all (okW ps ws) = true from List.all_eq_true.2 fun k hk => h k (List.mem_range.1 hk), Bool.and_true]
theorem id_pos {ps : List Pth} {id : Int} (ha : arePs ps = true) (h : 0 ≤ findI id ps) : 1 ≤ id := by
  unfold findI at h
  cases e : findK id ps with
  | none => rw [e] at h; simp at h
  | some k =>
    obtain ⟨p, hp, rfl, _⟩ := findK_at e
    have hk := (List.getElem?_eq_some_iff.1 hp).1
    unfold arePs at ha
    simp only [Bool.and_eq_true] at ha
    have hg := List.all_eq_true.1 ha.1 k (List.mem_range.2 hk)
    unfold goodAt at hg
    rw [hp] at hg
    simp only [Bool.and_eq_true] at hg
    exact (isP_facts p hg.1).1.1
set_option maxHeartbeats 4000000 in
theorem spec_AreWants (A : Option Addr) (n c B : Nat) (ps : List Pth) (A2 : Option Addr) (n2 c2 B2 : Nat) (ws : List Wnt) (w : World) (h : PthsAt w B A n ps) (h2 : WntsAt w B2 A2 n2 ws) (hB : B ≤ w.heap.size) (hB2 : B2 ≤ w.heap.size) (hn : n ≤ 4294967296) (hn2 : n2 ≤ 4294967296) :
    Calls Try.prog 7 #[.slice A n c, .slice A2 n2 c2] w fun e w' => e = .returned (.bool (areW ps ws)) ∧ Below w.heap.size w w' := by
  have HL := Lib.hid h2.1
  have HH := Lib.hid h
  clear h
  go_enter Try.func7, Try.ntmps7
  go_wp2
  go_loopw [5] (fun i wr => ∃ k : Nat, k ≤ n2 ∧ i = .int .i64 k ∧ (∀ j, j < k → okW ps ws j = true) ∧ Below w.heap.size w wr) (fun i _ => n2 - (intOf i).toNat)
  case atStart => exact ⟨0, Nat.zero_le _, rfl, fun j hj => absurd hj (by omega), Below.refl _ _⟩
  case round =>
    obtain ⟨k, hk, rfl, hall, hbl⟩ := hrel
    by_cases hlt : k < n2
    · obtain ⟨ad, p, rfl, hab, hp, hq⟩ := h2.at hlt
      obtain ⟨d0, d1⟩ := hq.below hbl (by omega)
      have hok : okW ps ws k = (decide (0 ≤ findI p.path ps) && inB p.wait 0 100000 && (decide (k = 0) || decide ((wntA ws (k - 1)).path < p.path))) := by unfold okW; rw [wntA_some hp]
      have hf := fun y => spec_FindPath A n c B ps p.path (y : World)
      have hP : ∀ m, PthsAt (wr.drewN m) B A n ps := fun m => HH.out.below ((belowN hbl m).mono hB)
      have hf2 := fun m => hf (wr.drewN m) (hP m) hn
      have hbad : okW ps ws k = false → areW ps ws = false := areW_no (by have := HL.out; omega)
      have HBAD := Lib.hid hbad
      have HALL := Lib.hid hall
      have HBL := Lib.hid hbl
      have i1 : (0 : Int) ≤ (k : Int) := by omega
      have i2 : (k : Int) < (n2 : Int) := by omega
      clear hf hP hbad hall hbl hq
      cases hf0 : decide (findI p.path ps < 0)
      rotate_left
      · have HF := Lib.hid (HBAD.out (by rw [hok, decide_eq_false (by have := of_decide_eq_true hf0; omega)]; rfl))
        clear hok HBAD HALL hp h2
        go_wp2
        go_quiet ((go_at_call 18; exact Calls.quiet_of_same ((hf2 _).mono fun e w' h => ⟨h.1, h.2.symm⟩)))
        go_wp2
        go_ret
        exact ⟨by rw [HF.out]; rfl, belowN HBL.out _⟩
      have hf1 : 0 ≤ findI p.path ps := by have := of_decide_eq_false hf0; omega
      rw [decide_eq_true hf1, Bool.true_and] at hok
      cases hw : inB p.wait 0 100000
      · have HF := Lib.hid (HBAD.out (by rw [hok, hw]; rfl))
        have hl := fun y => spec_l1In p.wait 0 100000 y
        rw [hw] at hl
        clear hok HBAD HALL hp h2 hw
        go_wp2
        go_quiet (first | (go_at_call 18; exact Calls.quiet_of_same ((hf2 _).mono fun e w' h => ⟨h.1, h.2.symm⟩)) | (go_at_call 19; exact Calls.quiet_of_same ((hl _).mono fun e w' h => ⟨h.1, h.2.symm⟩)))
        go_wp2
        go_ret
        exact ⟨by rw [HF.out]; rfl, belowN HBL.out _⟩
      rw [hw, Bool.true_and] at hok
      have hl := fun y => spec_l1In p.wait 0 100000 y
      rw [hw] at hl
      clear hw
      by_cases hk0 : k = 0
      · have HOK := Lib.hid (show ∀ j, j < k + 1 → okW ps ws j = true from fun j hj => by
          by_cases e : j = k
          · subst e; rw [hok, decide_eq_true hk0]; rfl
          · exact HALL.out j (by omega))
        clear hok HBAD HALL hp h2
        subst hk0
        have ha0 : ad.add 0 = ad := by simp [Addr.add]
        simp only [Nat.zero_mul, ha0] at hab d0 d1
        go_wp2
        go_quiet (first | (go_at_call 18; exact Calls.quiet_of_same ((hf2 _).mono fun e w' h => ⟨h.1, h.2.symm⟩)) | (go_at_call 19; exact Calls.quiet_of_same ((hl _).mono fun e w' h => ⟨h.1, h.2.symm⟩)))
        go_wp2
        go_roundw
        case rel => exact ⟨0 + 1, by omega, by go_num, HOK.out, belowN HBL.out _⟩
        case measure => simp [intOf]; omega
      · have hg0 : (0 : Int) < (k : Int) := by omega
        have hg1 : 0 < k := by omega
        obtain ⟨ad2, q, e2, hab2, hp2, hq2⟩ := h2.at (k := k - 1) (by omega)
        injection e2 with e2
        subst e2
        obtain ⟨b0, b1⟩ := hq2.below HBL.out (by omega)
        have hwr : IntKind.i64.wrap ((k : Int) - 1) = ((k - 1 : Nat) : Int) := by rw [IntKind.wrap_i64]; omega
        have i3 : (0 : Int) ≤ ((k - 1 : Nat) : Int) := by omega
        have i4 : ((k - 1 : Nat) : Int) < (n2 : Int) := by omega
        rw [decide_eq_false hk0, Bool.false_or, wntA_some hp2] at hok
        clear hq2 hp2 hp h2
        cases hge : decide (q.path ≥ p.path)
        · have HOK := Lib.hid (show ∀ j, j < k + 1 → okW ps ws j = true from fun j hj => by
            by_cases e : j = k
            · subst e; rw [hok, decide_eq_true (by have := of_decide_eq_false hge; omega)]
            · exact HALL.out j (by omega))
          clear hok HBAD HALL
          go_wp2
          go_quiet (first | (go_at_call 18; exact Calls.quiet_of_same ((hf2 _).mono fun e w' h => ⟨h.1, h.2.symm⟩)) | (go_at_call 19; exact Calls.quiet_of_same ((hl _).mono fun e w' h => ⟨h.1, h.2.symm⟩)))
          go_wp2
          go_roundw
          case rel => exact ⟨k + 1, by omega, by go_num, HOK.out, belowN HBL.out _⟩
          case measure => simp [intOf]; omega
        · have HF := Lib.hid (HBAD.out (by rw [hok, decide_eq_false (by have := of_decide_eq_true hge; omega)]))
          clear hok HBAD HALL
          go_wp2
          go_quiet (first | (go_at_call 18; exact Calls.quiet_of_same ((hf2 _).mono fun e w' h => ⟨h.1, h.2.symm⟩)) | (go_at_call 19; exact Calls.quiet_of_same ((hl _).mono fun e w' h => ⟨h.1, h.2.symm⟩)))
          go_wp2
          go_ret
          exact ⟨by rw [HF.out]; rfl, belowN HBL.out _⟩
    · obtain rfl : k = n2 := by omega
      have HE := Lib.hid (areW_end (ps := ps) (ws := ws) (fun j hj => hall j (by have := HL.out; omega)))
      have hA := spec_ArePaths A n c B ps wr (HH.out.below (hbl.mono hB)) (Nat.le_trans hB hbl.size) hn
      clear hall
      go_wp2_with fail
      refine hA.mono ?_
      rintro e w1 ⟨rfl, hb⟩
      go_wp2
      go_ret
      exact ⟨by rw [HE.out]; rfl, hbl.trans (hb.mono hbl.size)⟩
/-- the Id of the want before. -/
def lastW (ws : List Wnt) (k : Nat) : Int := if k = 0 then 0 else (wntA ws (k - 1)).path
set_option maxHeartbeats 4000000 in
theorem impl_AreWants (A : Option Addr) (n c B : Nat) (ps : List Pth) (A2 : Option Addr) (n2 c2 B2 : Nat) (ws : List Wnt) (w : World) (h : PthsAt w B A n ps) (h2 : WntsAt w B2 A2 n2 ws) (hB : B ≤ w.heap.size) (hB2 : B2 ≤ w.heap.size) (hn : n ≤ 4294967296) (hn2 : n2 ≤ 4294967296) :
    Calls Try.prog 10 #[.slice A n c, .slice A2 n2 c2] w fun e w' => e = .returned (.bool (areW ps ws)) ∧ Below w.heap.size w w' := by
  have HL := Lib.hid h2.1
  have hA := impl_ArePaths A n c B ps w h hB hn
  have HH := Lib.hid h
  clear h
  cases ha : arePs ps
  · have HF : Hid (areW ps ws = false) := Lib.hid (by unfold areW; rw [ha]; rfl)
    rw [ha] at hA
    clear ha
    go_enter Try.func10, Try.ntmps10
    go_wp2_with fail
    refine hA.mono ?_
    rintro e w1 ⟨rfl, hb1⟩
    go_wp2
    go_ret
    exact ⟨by rw [HF.out]; rfl, hb1⟩
  rw [ha] at hA
  have HA := Lib.hid ha
  clear ha
  go_enter Try.func10, Try.ntmps10
  go_wp2_with fail
  refine hA.mono ?_
  rintro e w1 ⟨rfl, hb1⟩
  have HB1 := Lib.hid hb1
  clear hb1 hA
  go_wp2
  go_loopw [5, 13] (fun l i wr => ∃ k : Nat, k ≤ n2 ∧ i = .int .i64 k ∧ l = .int .i64 (lastW ws k) ∧ (∀ j, j < k → okW ps ws j = true) ∧ Below w.heap.size w wr) (fun _ i _ => n2 - (intOf i).toNat)
  case atStart => exact ⟨0, Nat.zero_le _, rfl, rfl, fun j hj => absurd hj (by omega), HB1.out⟩
  case round =>
    obtain ⟨k, hk, rfl, rfl, hall, hbl⟩ := hrel
    by_cases hlt : k < n2
    · obtain ⟨ad, p, rfl, hab, hp, hq⟩ := h2.at hlt
      obtain ⟨d0, d1⟩ := hq.below hbl (by omega)
      have hok : okW ps ws k = (decide (0 ≤ findI p.path ps) && inB p.wait 0 100000 && (decide (k = 0) || decide ((wntA ws (k - 1)).path < p.path))) := by unfold okW; rw [wntA_some hp]
      have hls : lastW ws (k + 1) = p.path := by unfold lastW; rw [if_neg (by omega), Nat.add_sub_cancel, wntA_some hp]
      have hbad : okW ps ws k = false → areW ps ws = false := areW_no (by have := HL.out; omega)
      have hpos : 0 ≤ findI p.path ps → 1 ≤ p.path := id_pos HA.out
      have hlast : ¬ p.path ≤ lastW ws k → (decide (k = 0) || decide ((wntA ws (k - 1)).path < p.path)) = true := by
        intro hx
        unfold lastW at hx
        by_cases e : k = 0
        · rw [decide_eq_true e]; rfl
        · rw [if_neg e] at hx
          rw [decide_eq_true (by omega : (wntA ws (k - 1)).path < p.path), Bool.or_true]
      have hlast2 : p.path ≤ lastW ws k → okW ps ws k = false := by
        intro hx
        rw [hok]
        unfold lastW at hx
        by_cases e : k = 0
        · rw [if_pos e] at hx
          rw [decide_eq_false (by intro hy; have := hpos hy; omega : ¬ 0 ≤ findI p.path ps)]
          rfl
        · rw [if_neg e] at hx
          rw [decide_eq_false e, decide_eq_false (by omega : ¬ (wntA ws (k - 1)).path < p.path), Bool.or_false, Bool.and_false]
      obtain ⟨pa, pb⟩ := p
      simp only at d0 d1 hok hls hpos hlast hlast2
      obtain ⟨wA, hwA⟩ : ∃ wA, wA = wr.alloc (.cells #[.int .i64 pa, .int .i64 pb] 44) := ⟨_, rfl⟩
      obtain ⟨hx, hsz, hBA⟩ := one_block hwA
      have HX := Lib.hid hx
      have HBA := Lib.hid (hbl.trans (hBA.mono hbl.size))
      have hf := impl_FindPath A n c B ps pa wA (HH.out.below (HBA.out.mono hB)) (Nat.le_trans hB HBA.out.size) hn
      have ltx : wr.heap.size < wA.heap.size := by omega
      have HALL := Lib.hid hall
      have HLS := Lib.hid hls
      have HBAD := Lib.hid hbad
      clear hx hsz hBA hall hbl hq hp hls hbad hpos
      generalize lastW ws k = l at *
      by_cases h1 : pa ≤ l
      · have HF := Lib.hid (HBAD.out (hlast2 h1))
        have HBW := Lib.hid (hwA ▸ HBA.out)
        clear hok hlast hlast2 HBAD HALL hf hwA
        go_wp2
        go_ret
        exact ⟨by rw [HF.out]; rfl, HBW.out⟩
      rw [hlast h1, Bool.and_true] at hok
      clear hlast hlast2
      have h1' : l < pa := by omega
      by_cases h3 : findI pa ps < 0
      · have HF := Lib.hid (HBAD.out (by rw [hok, decide_eq_false (by omega)]; rfl))
        clear hok HBAD HALL
        go_wp2_with fail
        rw [← hwA]
        refine hf.mono ?_
        rintro e w2 ⟨rfl, hb2⟩
        have HB2 := Lib.hid (HBA.out.trans (hb2.mono HBA.out.size))
        clear hb2 hf hwA
        go_wp2
        go_ret
        exact ⟨by rw [HF.out]; rfl, HB2.out⟩
      rw [decide_eq_true (by omega : 0 ≤ findI pa ps), Bool.true_and] at hok
      cases h4 : inB pb 0 100000
      · have HF := Lib.hid (HBAD.out (by rw [hok, h4]))
        have H4 := Lib.hid h4
        clear hok HBAD HALL h4
        go_wp2_with fail
        rw [← hwA]
        refine hf.mono ?_
        rintro e w2 ⟨rfl, hb2⟩
        have HB2 := Lib.hid (HBA.out.trans (hb2.mono HBA.out.size))
        obtain ⟨x0, x1⟩ := wnt_head (wnt_of_block (p := ⟨pa, pb⟩) ((hb2.block _ ltx).trans HX.out))
        simp only at x0 x1
        clear hb2 hf hwA
        go_wp2_with (go_at_call 25; refine (impl_InRange _ _ _ _).mono ?_; rintro e w' ⟨rfl, rfl⟩; rw [H4.out])
        go_ret
        exact ⟨by rw [HF.out]; rfl, HB2.out⟩
      · have HOK := Lib.hid (show ∀ j, j < k + 1 → okW ps ws j = true from fun j hj => by
          by_cases e : j = k
          · subst e; rw [hok, h4]
          · exact HALL.out j (by omega))
        have H4 := Lib.hid h4
        clear hok HBAD HALL h4
        go_wp2_with fail
        rw [← hwA]
        refine hf.mono ?_
        rintro e w2 ⟨rfl, hb2⟩
        have HB2 := Lib.hid (HBA.out.trans (hb2.mono HBA.out.size))
        obtain ⟨x0, x1⟩ := wnt_head (wnt_of_block (p := ⟨pa, pb⟩) ((hb2.block _ ltx).trans HX.out))
        simp only at x0 x1
        clear hb2 hf hwA
        go_wp2_with (go_at_call 25; refine (impl_InRange _ _ _ _).mono ?_; rintro e w' ⟨rfl, rfl⟩; rw [H4.out])
        go_roundw
        case rel => exact ⟨k + 1, by omega, by go_num, by rw [HLS.out], HOK.out, HB2.out⟩
        case measure => simp [intOf]; omega
    · obtain rfl : k = n2 := by omega
      have HE := Lib.hid (areW_end (ps := ps) (ws := ws) (fun j hj => hall j (by have := HL.out; omega)))
      clear hall
      go_wp2
      go_ret
      exact ⟨by rw [HE.out, HA.out]; rfl, hbl⟩
end Go.Proofs.Ytnlffefekpjbcac
