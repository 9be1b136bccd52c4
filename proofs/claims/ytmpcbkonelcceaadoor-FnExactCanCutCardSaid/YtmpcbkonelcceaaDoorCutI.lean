/- CanCut: the program. -/
import Derived.Test.YtmpcbkonelcceaaDoorBndlD
import Derived.Test.YtmpcbkonelcceaaDoorCut
import Derived.Test.YtmpcbkonelcceaaDoorSirT
import Derived.RangeFuncFrom
namespace Go.Proofs.YtmpcbkonelcceaaDoor
open Go.RowKit Go.Shelf
attribute [local go_sem] Oper.semAt_some
set_option linter.unusedVariables false

/-- the load of a whole struct, inside a fence. -/
theorem wpListIn_load_mid {F : Fence} {N : Nat} {P : Program} {ops : Array Oper} {rest : List Oper} {op : Oper} {a : Act} {w : World} {Q : Exit → Act → World → Prop} (hgd : op.guard = none) (ty : TypeId) (x : Operand) (ho : op.op = .load ty x)
    (b o : Nat) (hx : a.eval x = .pointer (some ⟨b, o, none⟩)) (cs : List Value) (d : TypeDesc) (hc : w.rangeAt b o cs)
    (hu : P.underlying ty = some d) (hd : d.isRow = true) (hi : (P.info? ty).map (·.size) = some cs.length)
    (h : wpListIn F N P ops Q rest (a.put op.dst (.agg cs.toArray)) w) : wpListIn F N P ops Q (op :: rest) a w :=
  wpListIn_plain hgd fun K hK => by
    unfold Oper.wpIn
    refine ⟨by simp [Oper.about, ho], ?_⟩
    rw [Oper.semAt_plain F _ _ (by rw [ho]; intro c hc'; cases hc')]
    unfold execOp
    simp only [ho, hx, Instr.loadAt, Instr.sureAddr, Sem.run_bind, Sem.run_pure, Result.andThen_ok, run_loadVar_mid w b o ty cs d hc hu hd hi]
    exact hK _ _ h
theorem keeps_below {W w' : World} (h : Below W.heap.size W w') : KeepsOthers W w' := ⟨h.size, fun k o hk _ => (h.block k (lt_of_block hk)).trans hk⟩
/-- what a round leaves. -/
theorem end_cut {W w' : World} {g : Nat} {a b r : Int} {ms : List Value} {w : World} (hg : w.heap.size < W.heap.size) (hb : Below W.heap.size W w') (hc : W.cell? ⟨w.heap.size + 1, 0, none⟩ = some (.int .i64 a)) (hf : W.frozen? ⟨w.heap.size + 1, 0, none⟩ = false) (hr : W.rangeAt w.heap.size 0 ms) (hB : Below w.heap.size w W) (hs : r = b) :
    KeepsOthers W (w'.setCell ⟨w.heap.size + 1, 0, none⟩ (.int .i64 b)) ∧ Below w.heap.size W (w'.setCell ⟨w.heap.size + 1, 0, none⟩ (.int .i64 b)) ∧
      (((w'.setCell ⟨w.heap.size + 1, 0, none⟩ (.int .i64 b)).cell? ⟨w.heap.size + 1, 0, none⟩ = some (.int .i64 r) ∧ (w'.setCell ⟨w.heap.size + 1, 0, none⟩ (.int .i64 b)).frozen? ⟨w.heap.size + 1, 0, none⟩ = false ∧ (w'.setCell ⟨w.heap.size + 1, 0, none⟩ (.int .i64 b)).rangeAt w.heap.size 0 ms) ∧ Below w.heap.size w (w'.setCell ⟨w.heap.size + 1, 0, none⟩ (.int .i64 b))) := by
  have hlW : w.heap.size + 1 < W.heap.size := World.block_lt_of_cell? _ _ hc
  have hc2 := (hb.cell (p := ⟨w.heap.size + 1, 0, none⟩) hlW).trans hc
  have hf2 := (hb.frozen (p := ⟨w.heap.size + 1, 0, none⟩) hlW).trans hf
  have hb1 : Below w.heap.size W w' := hb.mono (by omega)
  refine ⟨(keeps_below hb).trans (KeepsOthers.setCell _ _ _), hb1.setCell (p := ⟨w.heap.size + 1, 0, none⟩) (by simp) _, ⟨?_, (World.frozen?_setCell _ _ _ _).trans hf2, fun j v hj => ?_⟩, (hB.trans hb1).setCell (p := ⟨w.heap.size + 1, 0, none⟩) (by simp) _⟩
  · rw [hs]
    exact World.cell?_setCell_same' _ _ _ (by rw [hc2]; rfl)
  · exact (World.cell?_setCell_other _ _ _ _ (by simp)).trans ((hb.cell hg).trans (hr j v hj))
set_option maxRecDepth 100000 in
set_option maxHeartbeats 4000000 in
theorem impl_canCut (A : Option Addr) (n c B : Nat) (ps : List Pth) (f : Nat → Nat) (st nx : Nat) (s l : Int) (h12 : n ≤ 12) (hst : st < 2 ^ n) (ha : arePs ps = true) (w : World) (h : PthsAt w B A n ps) (hB : B ≤ w.heap.size) (hw : Brus w) (hsr : Sirs w) :
    Calls Tryd.prog 46 #[.agg (t17 A n c f st nx s l)] w fun e W' => e = .returned (.bool (decide (nx = 0) && decide (cutLs ps (idxsN n st) ≤ s))) ∧ Below w.heap.size w W' := by
  have hst4 := Nat.lt_of_lt_of_le hst (pow_le12 h12)
  refine (callsIn_wide (n := 4)).1 ?_
  refine callsIn_of_wp_marks Tryd.func46 rfl trivial ?_ rfl
  simp only [Tryd.ntmps46, List.size_toArray, List.length_cons, List.length_nil, Nat.reduceAdd, Nat.reduceSub, Array.replicate_succ, Array.replicate_zero, List.push_toArray, List.append_toArray, List.nil_append, List.cons_append]
  obtain ⟨wA, hwA⟩ : ∃ wA, wA = w.alloc (.cells (t17 A n c f st nx s l) 59) := ⟨_, rfl⟩
  have hk : wA.heap[w.heap.size]? = some (.cells (m17 A n c f st nx s l).toArray 59) := by rw [hwA, t17_list]; exact heap_alloc_new _ _
  have hbA : Below w.heap.size w wA := by rw [hwA]; exact (Below.refl _ _).alloc (Nat.le_refl _) _
  have hsA : wA.heap.size = w.heap.size + 1 := by rw [hwA]; simp
  have hrng := range_block hk
  have hlA : w.heap.size < wA.heap.size := lt_of_block hk
  have hinf : (Tryd.prog.info? 59).map (·.size) = some (m17 A n c f st nx s l).length := by rw [m17_len]; exact info_mach
  have HAT := Lib.hid (fun (W : World) (hW : W.rangeAt w.heap.size 0 (m17 A n c f st nx s l)) => m17_at hW)
  have HLA := Lib.hid (fun k y => impl_lasts A n c f st nx s l k y)
  have HP := Lib.hid h
  have HA := Lib.hid ha
  have HHK := Lib.hid hk
  rw [← t17_list] at HLA hwA ⊢
  generalize m17 A n c f st nx s l = ms at *
  have x13 : (wA.alloc (.cells #[.int .i64 0] 3)).cell? ⟨w.heap.size, 13, none⟩ = some (.int .u16 (st : Nat)) := cell_alloc_l _ (HAT.out wA hrng).2.1
  rw [hwA] at x13
  gi_wp2
  refine ⟨trivial, (callsIn_wide.2 (impl_indexes st _)).mono ?_⟩
  rintro e w' ⟨rfl, rfl⟩
  gi_wp2
  rw [← hwA]
  clear x13 hwA
  have hs := cell_new_l wA (.int .i64 0) 3
  have bN := Boxed.new (wA.alloc (.cells #[.int .i64 0] 3)) 54 (.int .u16 (st : Nat))
  rw [hsA] at hs
  rw [World.size_alloc, hsA] at bN
  have hB0 : Below w.heap.size w ((wA.alloc (.cells #[.int .i64 0] 3)).alloc (.cells #[.int .u16 (st : Nat)] 54)) := (hbA.alloc hbA.size _).alloc (by simp; omega) _
  have hbru := hw.below hB0 (Nat.le_refl _)
  have hglt := hw.lt
  have hsz2 : (wA.alloc (.cells #[.int .i64 0] 3)).heap.size = w.heap.size + 2 := by simp [hsA]
  refine wpIn_rangeFunc_ownF rfl (by omega) (gf := 86) (lb := #[.pointer (some ⟨w.heap.size + 1 + 1, 0, none⟩)]) rfl trivial (enters_of Tryd.func86 (by kernel_rfl) rfl)
    (idx_stopsN n h12 (4 - 1) (by omega) (w.heap.size + 1 + 1) w.heap.size st hst _ (by simp [hsA]) (by simp; omega) bN.cell hbru hglt) belowK_t (belowK_b (by simp; omega)) (Below.refl _ _) (fun _ => rfl)
    (fun pre W => (W.cell? ⟨w.heap.size + 1, 0, none⟩ = some (.int .i64 (cutLs ps pre)) ∧ W.frozen? ⟨w.heap.size + 1, 0, none⟩ = false ∧ W.rangeAt w.heap.size 0 ms) ∧ Below w.heap.size w W)
    (fun _ _ _ => False)
    (OwnFrom.and (Own.from (fun s A B row hs hg hr => ⟨cell_kept hs.1 hg hr, (frozen_kept hs.1 hg hr).trans hs.2.1, fun j v hj => cell_kept (hs.2.2 j v hj) hg hr⟩) _) (ownFrom_below (Nat.le_refl _) (by simp; omega)))
    (fun _ _ _ _ _ hs _ _ => hs)
    ⟨⟨cell_alloc_l _ hs.1, frozen_alloc_l _ hs.1 hs.2, fun j v hj => cell_alloc_l _ (cell_alloc_l _ (hrng j v hj))⟩, hB0⟩
    (fun x => { tmps := #[.agg ms.toArray, .pointer (some ⟨w.heap.size, 0, none⟩), .bool false, .pointer (some ⟨w.heap.size + 1, 0, none⟩), .int .i64 (x.val : Int), .pointer (some ⟨w.heap.size, 13, none⟩), .int .u16 (st : Nat), .func (.func 86) #[] #[.pointer (some ⟨w.heap.size + 1 + 1, 0, none⟩)], .int .i64 (x.val : Int), undef, undef, undef, undef, undef, undef, undef, undef, undef, undef, undef, undef, undef, undef], defers := [] }) ?assign ?body ?done ?stop
  case assign =>
    intro l x W K hK
    simp only [encN]
    gi_wp2
    exact hK
  case body =>
    rintro l pre x W ⟨⟨hc, hfr, hrw⟩, hBW⟩ _
    have hmx : Tryd.prog.follows .mixedOrders = true := by kernel_rfl
    have m0 := (HAT.out W hrw).1
    obtain ⟨ad, p, hA, hab, hp, hpt⟩ := (HP.out.below (hBW.mono hB)).at x.property
    obtain ⟨_, ⟨k1, k2⟩, _⟩ := isP_facts p (arePs_valid HA.out hp)
    have HSN := Lib.hid (cutLs_snoc ps pre x)
    rw [pAt_some hp] at HSN
    subst hA
    obtain ⟨-, y1, -, -⟩ := hpt
    have hlW : w.heap.size + 1 < W.heap.size := World.block_lt_of_cell? _ _ hc
    have HSR := Lib.hid (hsr.below hBW (Nat.le_refl _))
    have HMX := Lib.hid (fun a b y => impl_Max a b y)
    have HC := Lib.hid hc
    have HFR := Lib.hid hfr
    have HRW := Lib.hid hrw
    have HBW := Lib.hid hBW
    clear hrng hfr hrw hBW hsr hw h HP HA
    generalize cutLs ps pre = a at *
    obtain ⟨k, hk'⟩ := x
    simp only at *
    generalize hkk : p.kind = kd at *
    clear hkk hp
    have x1 : (0 : Int) ≤ (k : Int) := by omega
    have x2 : (k : Int) < (n : Int) := by omega
    have t1 : ∃ kk : Nat, kd = (kk : Int) ∧ kk < 4 ∧ W.cell? ⟨0, kk, none⟩ = some (.int .i64 (cutNs kd)) := by
      rcases (show kd = 1 ∨ kd = 2 ∨ kd = 3 by omega) with rfl | rfl | rfl
      · exact ⟨1, rfl, by decide, Lib.TabIs.cell HSR.out sir_global 1 (by decide)⟩
      · exact ⟨2, rfl, by decide, Lib.TabIs.cell HSR.out sir_global 2 (by decide)⟩
      · exact ⟨3, rfl, by decide, Lib.TabIs.cell HSR.out sir_global 3 (by decide)⟩
    obtain ⟨kk, e, hk4, t1⟩ := t1
    generalize cutNs kd = v at *
    subst e
    have x3 : (0 : Int) ≤ (kk : Int) := by omega
    have x4 : (kk : Int) < 4 := by omega
    have HKT := Lib.hid hk4
    clear k1 k2 HSR HHK hk hinf HLA HAT hs bN hB0 hbru hk4 hbA hsA hlA ha hst4
    gi_wp2
    gi_region_with_o (refine ⟨trivial, (CallsIn.inRound l (callsIn_wide.2 (HMX.out _ _ _))).mono ?_⟩; rintro e w' ⟨rfl, hb⟩; have hc2 := (hb.cell (p := ⟨w.heap.size + 1, 0, none⟩) hlW).trans HC.out; have hf2 := (hb.frozen (p := ⟨w.heap.size + 1, 0, none⟩) hlW).trans HFR.out; clear hc m0 y1 t1)
    all_goals exact end_cut (g := 0) (Nat.lt_of_succ_lt hlW) (below_undrew hb) HC.out HFR.out HRW.out HBW.out HSN.out
  case done =>
    rintro D ys W hD rfl ⟨⟨hc, _, hrw⟩, hB2⟩ hK
    have hll := HLA.out (cutLs ps (idxsN n st)) W
    obtain ⟨r, hr⟩ : ∃ r, (decide (nx = 0) && decide (cutLs ps (idxsN n st) ≤ s)) = r := ⟨_, rfl⟩
    rw [hr] at hll
    obtain ⟨k, hk2⟩ : ∃ k, cutLs ps (idxsN n st) = k := ⟨_, rfl⟩
    rw [hk2] at hll hc
    have HLL := Lib.hid hll
    have HR := Lib.hid hr
    clear hr hk2 hll
    gi_wp2_with ((with_reducible show wpListIn _ _ _ _ _ _ _ _); refine wpListIn_load_mid rfl 59 _ rfl w.heap.size 0 rfl ms _ hrw Tryd.underlying59 rfl hinf ?_)
    refine ⟨trivial, (callsIn_wide.2 HLL.out).mono ?_⟩
    rintro e w2 ⟨rfl, hb2⟩
    have hK2 := (hb2.block D (lt_of_block hK)).trans hK
    have hB3 := hB2.trans (hb2.mono hB2.size)
    clear hc
    gi_wp2
    refine ⟨by simp, .inl ⟨_, _, rfl, run_takeDeferred hK2, ?_⟩⟩
    exact ⟨_, results_tmp rfl _ _ _, by rw [HR.out]; rfl, hB3.trans (belowK_b (w := w) (Nat.le_refl _) w2 D _ _ (by simp at hD; omega) hK2 rfl rfl)⟩
  case stop =>
    rintro D c pre W _ _ h _
    exact h.elim
set_option maxHeartbeats 4000000 in
set_option maxRecDepth 100000 in
theorem impl_CanCut {w : World} {A : Option Addr} {n c : Nat} {ps : List Pth} {A2 : Option Addr} {n2 c2 : Nat} {A3 : Option Addr} {n3 c3 : Nat} {x : Ctl} (I : CtlIn w A n c ps A2 n2 c2 A3 n3 c3 x) (hw : Brus w) (ht : Clrs w) (hsr : Sirs w) :
    Calls Tryd.prog 24 #[.slice A n c, ctlV (.slice A2 n2 c2) x.since (.slice A3 n3 c3) x.left] w fun e w' => e = .returned (.bool (canC ps x)) ∧ Below w.heap.size w w' := by
  obtain ⟨wA, hwA⟩ : ∃ wA, wA = w.alloc (.cells #[.slice A2 n2 c2, .int .i64 x.since, .slice A3 n3 c3, .int .i64 x.left] 28) := ⟨_, rfl⟩
  obtain ⟨hk, hsz, hbA⟩ := one_block hwA
  have HC := impl_machineOf (I.below hbA) (hw.below hbA (Nat.le_refl _)) (ht.below hbA (Nat.le_refl _))
  have HBA := Lib.hid hbA
  cases hr : isCtl ps x
  · obtain ⟨A', n', c', f, st, nx, s, l, hv⟩ := machV_off (A := A) (n := n) (c := c) hr
    have HR := Lib.hid (canC_off hr)
    rw [hv] at HC
    simp only [ctlV] at HC ⊢
    unfold t17 at HC
    have HCC := Lib.hid HC
    clear hk hsz hbA HC hv I hw ht hsr hr
    go_enter Tryd.func24, Tryd.ntmps24
    go_wp2_with fail
    rw [← hwA]
    clear hwA
    refine HCC.out.mono ?_
    rintro e w1 ⟨rfl, hb1⟩
    have HB1 := Lib.hid (HBA.out.trans (hb1.mono HBA.out.size))
    clear hb1
    go_wp2
    go_ret
    exact ⟨by rw [HR.out]; try rfl, HB1.out.alloc HB1.out.size _⟩
  · have hv := machV_on (A := A) (n := n) (c := c) hr
    have HR := Lib.hid (canC_on hr I.p.len)
    obtain ⟨ha, _, h1, h2, _⟩ := ctl_parts hr
    obtain ⟨_, hm1, _, _, _⟩ := tog_maskL h1
    rw [I.p.len] at hm1
    have h12 : n ≤ 12 := by have := arePs_len12 ha; have := I.p.len; omega
    have HM := Lib.hid (fun y (hy : Below w.heap.size w y) => impl_canCut A n c _ ps (rowSt ps n 0) (maskL ps x.stage) (maskL ps x.next) x.since x.left h12 hm1 ha y (I.below hy).p.pths (Nat.le_refl _) (hw.below hy (Nat.le_refl _)) (hsr.below hy (Nat.le_refl _)))
    rw [hv, ← t17_list] at HC
    rw [← t17_list] at HM
    have hL := m17_len A n c (rowSt ps n 0) (maskL ps x.stage) (maskL ps x.next) x.since x.left
    have HON := Lib.hid (all_oneCell_toArray (m17_one A n c (rowSt ps n 0) (maskL ps x.stage) (maskL ps x.next) x.since x.left))
    simp only [ctlV] at HC ⊢
    have HCC := Lib.hid HC
    generalize m17 A n c (rowSt ps n 0) (maskL ps x.stage) (maskL ps x.next) x.since x.left = ms at *
    have hinf17 : (Tryd.prog.info? 59).map (·.size) = some ms.length := by rw [hL]; exact info_mach
    have HIA : Hid ((Tryd.prog.info? 59).map (·.size) = some ms.toArray.size) := Lib.hid (by rw [List.size_toArray]; exact hinf17)
    clear hk hsz hbA HC hv I hw ht hsr hr ha h1 h2 hm1
    generalize canC ps x = ce at *
    generalize (decide (maskL ps x.next = 0) && decide (cutLs ps (idxsN n (maskL ps x.stage)) ≤ x.since)) = ce2 at *
    go_enter Tryd.func24, Tryd.ntmps24
    go_wp2_with fail
    rw [← hwA]
    clear hwA
    refine HCC.out.mono ?_
    rintro e w1 ⟨rfl, hb1⟩
    have HB1 := Lib.hid (HBA.out.trans (hb1.mono HBA.out.size))
    have HTH := Lib.hid (there_block (heap_alloc_new w1 (.cells #[.slice none 0 0, .int .u16 0, .int .u16 0, .int .u16 0, .int .u16 0, .int .u16 0, .int .u16 0, .int .u16 0, .int .u16 0, .int .u16 0, .int .u16 0, .int .u16 0, .int .u16 0, .int .u16 0, .int .u16 0, .int .i64 0, .int .i64 0] 59)) ms.toArray.size (by simp [hL]))
    obtain ⟨wz, hwz⟩ : ∃ wz, wz = w1.alloc (.cells #[.slice none 0 0, .int .u16 0, .int .u16 0, .int .u16 0, .int .u16 0, .int .u16 0, .int .u16 0, .int .u16 0, .int .u16 0, .int .u16 0, .int .u16 0, .int .u16 0, .int .u16 0, .int .u16 0, .int .u16 0, .int .i64 0, .int .i64 0] 59) := ⟨_, rfl⟩
    obtain ⟨w2, hw2⟩ : ∃ w2, w2 = wz.setCells w1.heap.size 0 ms := ⟨_, rfl⟩
    have HRG : Hid (w2.rangeAt w1.heap.size 0 ms) := Lib.hid (by rw [hw2, hwz]; exact World.rangeAt_setCells_same _ _ _ _ (by have := HTH.out; simpa using this))
    have HB2 : Hid (Below w.heap.size w w2) := Lib.hid (by rw [hw2, hwz]; exact below_setCells _ (by have := HB1.out.size; exact this) _ _ _ (HB1.out.alloc HB1.out.size _))
    have HE2 : Hid ((w1.alloc (.cells #[.slice none 0 0, .int .u16 0, .int .u16 0, .int .u16 0, .int .u16 0, .int .u16 0, .int .u16 0, .int .u16 0, .int .u16 0, .int .u16 0, .int .u16 0, .int .u16 0, .int .u16 0, .int .u16 0, .int .u16 0, .int .i64 0, .int .i64 0] 59)).setCells w1.heap.size 0 ms.toArray.toList = w2) := Lib.hid (by rw [hw2, hwz])
    clear hb1 hwz hw2
    go_wp2_with (first
      | ((with_reducible show wpList _ _ _ _ _ _); refine wpList_store_mid rfl 59 _ _ rfl w1.heap.size 0 ms.toArray rfl rfl HTH.out HIA.out HON.out ?_; rw [HE2.out])
      | ((with_reducible show wpList _ _ _ _ _ _); refine wpList_want (by rfl) ?_; refine wpList_load_mid rfl 59 _ rfl w1.heap.size 0 rfl ms _ HRG.out Tryd.underlying59 rfl hinf17 ?_))
    refine (HM.out _ HB2.out).mono ?_
    rintro e w3 ⟨rfl, hb3⟩
    have HB3 := Lib.hid (HB2.out.trans (hb3.mono HB2.out.size))
    clear hb3
    go_wp2
    go_ret
    exact ⟨by rw [HR.out]; try rfl, HB3.out⟩
end Go.Proofs.YtmpcbkonelcceaaDoor
