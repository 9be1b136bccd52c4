/- closes, holdsUp, mustClear, clearing, clearBetween, ClearBetween: the program. -/
import Derived.Test.YtgdficjihkglpabDoorStsI
import Derived.Test.YtgdficjihkglpabDoorClrB
import Derived.Test.YtgdficjihkglpabDoorMskP
import Derived.Test.YtgdficjihkglpabDoorClrT
import Derived.Test.YtgdficjihkglpabDoorPthM
import Derived.BigQuiet
import Derived.Deep.QuietTactic
import Derived.Deep.RegionHeld3
namespace Go.Proofs.YtgdficjihkglpabDoor
open Go.RowKit
set_option linter.unusedVariables false

theorem clr_mask2 {ps : List Pth} {a b : List Int} (h1 : isTog ps a = true) (h2 : isTog ps b = true) : clrS ps (rowSt ps ps.length 0) (maskL ps a) (maskL ps b) = clrB ps a b := by
  obtain ⟨ha, a1, a2, a3, _⟩ := tog_maskL h1
  obtain ⟨_, b1, b2, b3, _⟩ := tog_maskL h2
  have := clr_mask ha a1 b1 a3 b3
  rw [← a2, ← b2] at this
  exact this.symm

theorem and_pow0 (m i : Nat) : m &&& 2 ^ i = 0 ↔ m.testBit i = false := by
  constructor
  · intro h
    have e : (m &&& 2 ^ i).testBit i = false := by rw [h]; exact Nat.zero_testBit i
    rw [Nat.testBit_and, Nat.testBit_two_pow, decide_eq_true rfl, Bool.and_true] at e
    exact e
  · intro h
    refine mask_ext fun j => ?_
    rw [Nat.testBit_and, Nat.testBit_two_pow, Nat.zero_testBit]
    by_cases e : i = j
    · subst e; rw [h]; rfl
    · rw [decide_eq_false e, Bool.and_false]
theorem bit_ne0 (m i : Nat) : decide (m &&& 2 ^ i ≠ 0) = m.testBit i := by
  rw [Bool.eq_iff_iff, decide_eq_true_eq, Ne, and_pow0]
  cases m.testBit i <;> simp
/-- the cells of a change. -/
def chgC (A : Option Addr) (n c : Nat) (f : Nat → Nat) (a b : Nat) : List Value := xcells A n c f ++ [.int .u16 (a : Nat), .int .u16 (b : Nat)]
theorem chgC_len (A : Option Addr) (n c : Nat) (f : Nat → Nat) (a b : Nat) : (chgC A n c f a b).length = 15 := by simp [chgC, xcells_length]
theorem chgC_0 (A : Option Addr) (n c : Nat) (f : Nat → Nat) (a b : Nat) : (chgC A n c f a b)[0]? = some (.slice A n c) := rfl
theorem chgC_a (A : Option Addr) (n c : Nat) (f : Nat → Nat) (a b : Nat) : (chgC A n c f a b)[13]? = some (.int .u16 (a : Nat)) := by unfold chgC; rw [List.getElem?_append_right (by rw [xcells_length]; omega), xcells_length]; rfl
theorem chgC_b (A : Option Addr) (n c : Nat) (f : Nat → Nat) (a b : Nat) : (chgC A n c f a b)[14]? = some (.int .u16 (b : Nat)) := by unfold chgC; rw [List.getElem?_append_right (by rw [xcells_length]; omega), xcells_length]; rfl
theorem chgC_row (A : Option Addr) (n c : Nat) (f : Nat → Nat) (a b i : Nat) (h : i < 12) : (chgC A n c f a b)[1 + i]? = some (.int .u16 (f i : Nat)) := by unfold chgC; rw [List.getElem?_append_left (by rw [xcells_length]; omega), xcells_row _ _ _ _ _ h]
theorem chgC_one (A : Option Addr) (n c : Nat) (f : Nat → Nat) (a b : Nat) : ∀ v ∈ chgC A n c f a b, v.oneCell' = true := by
  intro v hv
  unfold chgC at hv
  rcases List.mem_append.1 hv with h | h
  · exact xcells_one _ _ _ _ v h
  · simp only [List.mem_cons, List.not_mem_nil, or_false] at h
    rcases h with rfl | rfl <;> rfl
theorem range_cell {w : World} {g : Nat} {xs : List Value} (h : w.rangeAt g 0 xs) {i : Nat} {v : Value} (hi : xs[i]? = some v) : w.cell? ⟨g, i, none⟩ = some v := by
  have := h i v hi
  rwa [Nat.zero_add] at this
theorem info_change : (Tryd.prog.info? 94).map (·.size) = some 15 := by kernel_rfl
set_option maxHeartbeats 1000000 in
set_option maxRecDepth 100000 in
theorem impl_closes (A : Option Addr) (n c : Nat) (f : Nat → Nat) (a b i : Nat) (ha : a < 4096) (hb : b < 4096) (hi : i < 12) (w : World) :
    Calls Tryd.prog 115 #[.agg (chgC A n c f a b).toArray, .int .i64 (i : Nat)] w fun e w' => e = .returned (.bool ((minusM a b).testBit i)) ∧ Below w.heap.size w w' := by
  have hX := range_block (heap_alloc_new w (.cells (chgC A n c f a b).toArray 94))
  have ca := range_cell hX (chgC_a A n c f a b)
  have cb := range_cell hX (chgC_b A n c f a b)
  have hB0 : Below w.heap.size w (w.alloc (.cells (chgC A n c f a b).toArray 94)) := (Below.refl _ _).alloc (Nat.le_refl _) _
  have HR : Hid ((minusM a b).testBit i = decide (minusM a b &&& 2 ^ i ≠ 0)) := Lib.hid (bit_ne0 _ _).symm
  have hj2 := bit_lt hi
  have hml : minusM a b < 4096 := Nat.lt_of_le_of_lt Nat.and_le_left ha
  have ho1 : bits .andNot .u16 (a : Int) (b : Int) = ((minusM a b : Nat) : Int) := u16_minus (by omega) (by omega)
  have ho2 : bits .and .u16 ((minusM a b : Nat) : Int) ((2 ^ i : Nat) : Int) = ((minusM a b &&& 2 ^ i : Nat) : Int) := u16_and_nat _ _ (by omega) (by omega)
  have hmb := Lib.hid (fun x => impl_maskBit i x hi)
  have HB0 := Lib.hid hB0
  clear hX hB0
  generalize hx : minusM a b &&& 2 ^ i = x at *
  clear hx
  generalize minusM a b = m at *
  generalize (2 : Nat) ^ i = y at *
  generalize chgC A n c f a b = xs at *
  obtain ⟨w0, hw0⟩ : ∃ w0, w0 = w.alloc (.cells xs.toArray 94) := ⟨_, rfl⟩
  rw [← hw0] at ca cb HB0
  have hx0 : ((x : Int) != 0) = decide (x ≠ 0) := by
    by_cases e : x = 0
    · subst e; rfl
    · simp [e]
  have HX0 := Lib.hid hx0
  clear hx0
  go_enter Tryd.func115, Tryd.ntmps115
  go_wp2
  rw [← hw0]
  clear hw0
  go_quiet ((go_at_call 61; exact Calls.quiet_of_same ((hmb.out _).mono fun e w' h => ⟨h.1, h.2.symm⟩)))
  go_wp2
  go_ret
  exact ⟨by rw [HR.out, ← HX0.out]; try rfl, belowN HB0.out _⟩
set_option maxHeartbeats 1000000 in
set_option maxRecDepth 100000 in
theorem impl_holdsUp (A : Option Addr) (n c : Nat) (f : Nat → Nat) (hf : ∀ k, f k < 4096) (a b i : Nat) (ha : a < 4096) (hb : b < 4096) (hi : i < 12) (w : World) :
    Calls Tryd.prog 116 #[.agg (chgC A n c f a b).toArray, .int .i64 (i : Nat)] w fun e w' => e = .returned (.bool (decide (f i &&& minusM b a ≠ 0))) ∧ Below w.heap.size w w' := by
  have hX := range_block (heap_alloc_new w (.cells (chgC A n c f a b).toArray 94))
  have ca := range_cell hX (chgC_a A n c f a b)
  have cb := range_cell hX (chgC_b A n c f a b)
  have ci := range_cell hX (chgC_row A n c f a b i hi)
  have hB0 : Below w.heap.size w (w.alloc (.cells (chgC A n c f a b).toArray 94)) := (Below.refl _ _).alloc (Nat.le_refl _) _
  have hml : minusM b a < 4096 := Nat.lt_of_le_of_lt Nat.and_le_left hb
  have hfi := hf i
  have ho1 : bits .andNot .u16 (b : Int) (a : Int) = ((minusM b a : Nat) : Int) := u16_minus (by omega) (by omega)
  have ho2 : bits .and .u16 ((f i : Nat) : Int) ((minusM b a : Nat) : Int) = ((f i &&& minusM b a : Nat) : Int) := u16_and_nat _ _ (by omega) (by omega)
  have HB0 := Lib.hid hB0
  have i1 : (0 : Int) ≤ (i : Int) := by omega
  have i2 : (i : Int) < 12 := by omega
  clear hX hB0 hf
  generalize f i &&& minusM b a = x at *
  generalize minusM b a = m at *
  generalize chgC A n c f a b = xs at *
  generalize f i = fi at *
  obtain ⟨w0, hw0⟩ : ∃ w0, w0 = w.alloc (.cells xs.toArray 94) := ⟨_, rfl⟩
  rw [← hw0] at ca cb ci HB0
  have hx0 : ((x : Int) != 0) = decide (x ≠ 0) := by
    by_cases e : x = 0
    · subst e; rfl
    · simp [e]
  have HX0 := Lib.hid hx0
  clear hx0
  go_enter Tryd.func116, Tryd.ntmps116
  go_wp2
  rw [← hw0]
  clear hw0
  go_quiet (fail)
  go_wp2
  go_ret
  exact ⟨by rw [← HX0.out]; try rfl, belowN HB0.out _⟩
set_option maxHeartbeats 2000000 in
set_option maxRecDepth 100000 in
theorem impl_mustClear (A : Option Addr) (n c : Nat) (f : Nat → Nat) (hf : ∀ k, f k < 4096) (a b i : Nat) (ha : a < 4096) (hb : b < 4096) (hi : i < 12) (w : World) :
    Calls Tryd.prog 94 #[.agg (chgC A n c f a b).toArray, .int .i64 (i : Nat)] w fun e w' => e = .returned (.bool (mustI f a b i)) ∧ Below w.heap.size w w' := by
  have hX := heap_alloc_new w (.cells (chgC A n c f a b).toArray 94)
  have hB0 : Below w.heap.size w (w.alloc (.cells (chgC A n c f a b).toArray 94)) := (Below.refl _ _).alloc (Nat.le_refl _) _
  have hs0 : (w.alloc (.cells (chgC A n c f a b).toArray 94)).heap.size = w.heap.size + 1 := by simp
  have H1 := Lib.hid (fun x => impl_closes A n c f a b i ha hb hi x)
  have H2 := Lib.hid (fun x => impl_holdsUp A n c f hf a b i ha hb hi x)
  have HR : Hid (mustI f a b i = ((minusM a b).testBit i && decide (f i &&& minusM b a ≠ 0))) := Lib.hid rfl
  have hln := chgC_len A n c f a b
  have hinf : (Tryd.prog.info? 94).map (·.size) = some (chgC A n c f a b).length := by rw [hln]; exact info_change
  have HB0 := Lib.hid hB0
  have HX := Lib.hid hX
  generalize chgC A n c f a b = xs at *
  generalize (minusM a b).testBit i = r1 at *
  generalize decide (f i &&& minusM b a ≠ 0) = r2 at *
  obtain ⟨w0, hw0⟩ : ∃ w0, w0 = w.alloc (.cells xs.toArray 94) := ⟨_, rfl⟩
  rw [← hw0] at HB0 HX hs0
  have HS0 := Lib.hid hs0
  clear hX hB0 hs0 hf
  go_enter Tryd.func94, Tryd.ntmps94
  go_wp2
  rw [← hw0]
  clear hw0
  have hl0 : w.heap.size < w0.heap.size := by have := HS0.out; omega
  obtain ⟨w1, hw1⟩ : ∃ w1, w1 = w0.alloc (.cells #[.func (.func 115) #[] #[], .func (.func 116) #[] #[]] 133) := ⟨_, rfl⟩
  have hN1 : w1.heap[w.heap.size + 1]? = some (.cells #[.func (.func 115) #[] #[], .func (.func 116) #[] #[]] 133) := by rw [hw1, ← HS0.out]; exact heap_alloc_new w0 _
  have hX1 : w1.heap[w.heap.size]? = some (.cells xs.toArray 94) := by rw [hw1]; exact (Below.heap_alloc w0 _ _ hl0).trans HX.out
  have hB1 : Below w.heap.size w w1 := by rw [hw1]; exact HB0.out.alloc HB0.out.size _
  have hs1 : w1.heap.size = w.heap.size + 2 := by rw [hw1]; have := HS0.out; simp; omega
  have HB1 := Lib.hid hB1
  have hR1 := range_block hX1
  have HN1 := Lib.hid hN1
  have HX1 := Lib.hid hX1
  have HS1 := Lib.hid hs1
  have d0 : w1.cell? ⟨w.heap.size + 1, 0, none⟩ = some (.func (.func 115) #[] #[]) := (cell_of_row _ _ 0 _ _ _ hN1).trans rfl
  rw [← hw1]
  clear hw1 hN1 hX1 hB1 hs1 HX HB0 HS0
  refine wp_loop_rounds 3 ?_
  rw [rounds_succ]
  go_wp2_with ((with_reducible show wpList _ _ _ _ _ _); refine wpList_load_mid rfl 94 _ rfl w.heap.size 0 rfl xs _ hR1 Tryd.underlying94 rfl hinf ?_)
  refine (H1.out _).mono ?_
  rintro e w2 ⟨rfl, hb2⟩
  have HB2 := Lib.hid (HB1.out.trans (hb2.mono HB1.out.size))
  have hX2 := (hb2.block w.heap.size (by have := HS1.out; omega)).trans HX1.out
  have hR2 := range_block hX2
  have d1 : w2.cell? ⟨w.heap.size + 1, 1, none⟩ = some (.func (.func 116) #[] #[]) := (cell_of_row _ _ 1 _ _ _ ((hb2.block (w.heap.size + 1) (by have := HS1.out; omega)).trans HN1.out)).trans rfl
  clear hb2 hX2 hR1 d0
  cases r1
  · go_wp2
    go_ret
    exact ⟨by rw [HR.out]; rfl, HB2.out⟩
  · go_wp2
    rw [rounds_succ]
    go_wp2_with ((with_reducible show wpList _ _ _ _ _ _); refine wpList_load_mid rfl 94 _ rfl w.heap.size 0 rfl xs _ hR2 Tryd.underlying94 rfl hinf ?_)
    refine (H2.out _).mono ?_
    rintro e w3 ⟨rfl, hb3⟩
    have HB3 := Lib.hid (HB2.out.trans (hb3.mono HB2.out.size))
    clear hb3 hR2 d1
    cases r2
    · go_wp2
      go_ret
      exact ⟨by rw [HR.out]; rfl, HB3.out⟩
    · go_wp2
      rw [rounds_succ]
      go_wp2
      go_ret
      exact ⟨by rw [HR.out]; rfl, HB3.out⟩

theorem pcells_snoc (ps : List Pth) (p : Pth) : pcells (ps ++ [p]) = pcells ps ++ p.cells := by simp [pcells]
theorem cells_one (p : Pth) : ∀ u ∈ p.cells, u.oneCell' = true := by
  intro u hu
  simp only [Pth.cells, List.mem_cons, List.not_mem_nil, or_false] at hu
  rcases hu with rfl | rfl | rfl | rfl <;> rfl
set_option maxHeartbeats 2000000 in
set_option maxRecDepth 100000 in
theorem impl_clearing (A : Option Addr) (n c B : Nat) (ps : List Pth) (f : Nat → Nat) (hf : ∀ k, f k < 4096) (a b : Nat) (ha : a < 4096) (hb : b < 4096) (h12 : n ≤ 12) (w : World) (h : PthsAt w B A n ps) (hB : B ≤ w.heap.size) :
    Calls Tryd.prog 74 #[.agg (chgC A n c f a b).toArray] w fun e w' => ∃ v, e = .returned v ∧ w'.ownsRow w.heap.size 48 4 v (clrL ps f a b n).length (pcells (clrL ps f a b n)) ∧ Below w.heap.size w w' := by
  have hl := h.1
  have hX := heap_alloc_new w (.cells (chgC A n c f a b).toArray 94)
  have hB0 : Below w.heap.size w (w.alloc (.cells (chgC A n c f a b).toArray 94)) := (Below.refl _ _).alloc (Nat.le_refl _) _
  have hs0 : (w.alloc (.cells (chgC A n c f a b).toArray 94)).heap.size = w.heap.size + 1 := by simp
  have HM := Lib.hid (fun i (hi : i < 12) x => impl_mustClear A n c f hf a b i ha hb hi x)
  have HCS := Lib.hid (fun k => clrL_succ ps f a b k)
  have HCN := Lib.hid (fun k => clrL_len ps f a b k)
  have hln := chgC_len A n c f a b
  have hinf : (Tryd.prog.info? 94).map (·.size) = some (chgC A n c f a b).length := by rw [hln]; exact info_change
  have hx0 : ∀ hh : 0 < (chgC A n c f a b).length, (chgC A n c f a b)[0]'hh = .slice A n c := fun _ => rfl
  have HB0 := Lib.hid hB0
  have HX := Lib.hid hX
  have HP := Lib.hid h
  have hz := clrL_zero ps f a b
  generalize hcl : clrL ps f a b = cl at *
  generalize hmu : mustI f a b = mu at *
  generalize chgC A n c f a b = xs at *
  obtain ⟨w0, hw0⟩ : ∃ w0, w0 = w.alloc (.cells xs.toArray 94) := ⟨_, rfl⟩
  rw [← hw0] at HB0 HX hs0
  have hl0 : w.heap.size < w0.heap.size := by omega
  have HZ := Lib.hid hz
  clear hX hB0 hs0 hf hcl hmu h hz
  go_enter Tryd.func74, Tryd.ntmps74
  go_wp2
  rw [← hw0]
  clear hw0 hx0
  go_loopw [3, 10] (fun v i wr => ∃ k : Nat, k ≤ n ∧ i = .int .i64 k ∧ wr.ownsRow (w.heap.size + 1) 48 4 v (cl k).length (pcells (cl k)) ∧ wr.heap[w.heap.size]? = some (.cells xs.toArray 94) ∧ Below w.heap.size w wr) (fun _ i _ => n - (intOf i).toNat)
  case atStart => exact ⟨0, Nat.zero_le _, rfl, by rw [HZ.out]; exact ownr_nil _ _ _ _, HX.out, HB0.out⟩
  case round =>
    clear HX HB0
    obtain ⟨k, hk, rfl, hown, hxb, hbl⟩ := hrel
    have hsz := hbl.size
    have hxl : w.heap.size < wr.heap.size := by
      rcases Nat.lt_or_ge w.heap.size wr.heap.size with h1 | h1
      · exact h1
      · rw [Array.getElem?_eq_none h1] at hxb; cases hxb
    by_cases hlt : k < n
    · obtain ⟨ad, p, rfl, hab, hp, hq⟩ := HP.out.at hlt
      obtain ⟨c0, c1, c2, c3⟩ := hq.below hbl (by omega)
      have HPA : Hid (pAt ps k = p) := Lib.hid (pAt_some hp)
      have HSN := Lib.hid (HCS.out k)
      have hcn := HCN.out k
      have hbA := (Below.refl wr.heap.size wr).alloc (Nat.le_refl _) (.cells #[.int .i64 p.id, .int .i64 p.kind, .int .i64 p.frm, .int .i64 p.to] 48)
      have hxA := (hbA.block w.heap.size hxl).trans hxb
      have hRA := range_block hxA
      have HXA := Lib.hid hxA
      have HOA := Lib.hid (ownr_below hown hbA)
      have HBA := Lib.hid (hbl.trans (hbA.mono hsz))
      have HMC := Lib.hid (HM.out k (by omega) (wr.alloc (.cells #[.int .i64 p.id, .int .i64 p.kind, .int .i64 p.frm, .int .i64 p.to] 48)))
      have hpb : PthAt (wr.alloc (.cells #[.int .i64 p.id, .int .i64 p.kind, .int .i64 p.frm, .int .i64 p.to] 48)) ⟨wr.heap.size, 0, none⟩ p := pth_of_block (heap_alloc_new wr _)
      have HPB := Lib.hid hpb
      have hsA : (wr.alloc (.cells #[.int .i64 p.id, .int .i64 p.kind, .int .i64 p.frm, .int .i64 p.to] 48)).heap.size = wr.heap.size + 1 := by simp
      have HSA := Lib.hid hsA
      obtain ⟨wA, hwA⟩ : ∃ wA, wA = wr.alloc (.cells #[.int .i64 p.id, .int .i64 p.kind, .int .i64 p.frm, .int .i64 p.to] 48) := ⟨_, rfl⟩
      rw [← hwA] at hRA HXA HOA HBA HMC HPB HSA
      clear hp hq hown hxb hbl hbA hxA hpb hsA
      go_wp2_with ((with_reducible show wpList _ _ _ _ _ _); rw [← hwA]; refine wpList_load_mid rfl 94 _ rfl w.heap.size 0 rfl xs _ hRA Tryd.underlying94 rfl hinf ?_)
      rw [← hwA]
      clear hwA c0 c1 c2 c3
      refine HMC.out.mono ?_
      cases hm : mu k
      · rintro e w2 ⟨rfl, hb2⟩
        have HO2 := Lib.hid (ownr_below HOA.out hb2)
        have HX2 := Lib.hid ((hb2.block w.heap.size (by have := HSA.out; omega)).trans HXA.out)
        have HB2 := Lib.hid (HBA.out.trans (hb2.mono HBA.out.size))
        have HC2 : Hid (cl (k + 1) = cl k) := Lib.hid (by rw [HSN.out, hm]; simp)
        clear hb2 hm hRA
        go_wp2
        go_roundw
        case rel => exact ⟨k + 1, by omega, by go_num, by rw [HC2.out]; exact HO2.out, HX2.out, HB2.out⟩
        case measure => simp [intOf]; omega
      · rintro e w2 ⟨rfl, hb2⟩
        have hO2 := ownr_below HOA.out hb2
        have HX2 := Lib.hid ((hb2.block w.heap.size (by have := HSA.out; omega)).trans HXA.out)
        have hB2 := HBA.out.trans (hb2.mono HBA.out.size)
        have HC2 : Hid (cl (k + 1) = cl k ++ [p]) := Lib.hid (by rw [HSN.out, hm, HPA.out]; simp)
        obtain ⟨d0, d1, d2, d3⟩ := pth_head (HPB.out.below hb2 (by have := HSA.out; simp only; omega))
        have hs2 := hB2.size
        have hx2 : w.heap.size < w2.heap.size := by have := hb2.size; have := HSA.out; omega
        clear hb2 hm hRA
        go_wp2_with (at_builtin; refine wpList_appR1 rfl _ _ 26 rfl 48 _ 4 32 Tryd.underlying26 info_pth rfl (by decide) (by decide) (w.heap.size + 1) _ _ _ rfl hO2 (by omega) p.cells rfl (cells_one p) _ _ w2.heap.size hx2 rfl (by simp) ?_; intro v4 w4 hown4 hgrow4 hat4)
        have hb4 := ownr_push hO2 (Nat.le_succ _) (hB2.alloc hs2 _) (by simp; omega) hgrow4
        have hx4 : w4.heap[w.heap.size]? = some (.cells xs.toArray 94) := by
          have hg := hgrow4.block w.heap.size (by simp; omega) (fun e => ?_)
          · exact hg.trans ((Below.heap_alloc w2 _ _ hx2).trans HX2.out)
          · have := (ownr_block hO2 _ e.symm).1
            omega
        rw [← pcells_snoc] at hown4
        clear hgrow4 hat4 hO2 hB2 d0 d1 d2 d3
        go_roundw
        case rel => exact ⟨k + 1, by omega, by go_num, by rw [HC2.out, List.length_append]; exact hown4, hx4, hb4⟩
        case measure => simp [intOf]; omega
    · obtain rfl : k = n := by omega
      go_wp2
      go_ret
      exact ⟨_, rfl, ownr_mono hown (Nat.le_succ _), hbl⟩
theorem xlit (A : Option Addr) (n c : Nat) (f : Nat → Nat) : xcells A n c f = [.slice A n c, .int .u16 (f 0 : Nat), .int .u16 (f 1 : Nat), .int .u16 (f 2 : Nat), .int .u16 (f 3 : Nat), .int .u16 (f 4 : Nat), .int .u16 (f 5 : Nat), .int .u16 (f 6 : Nat), .int .u16 (f 7 : Nat), .int .u16 (f 8 : Nat), .int .u16 (f 9 : Nat), .int .u16 (f 10 : Nat), .int .u16 (f 11 : Nat)] := rfl
theorem clit (A : Option Addr) (n c : Nat) (f : Nat → Nat) (a b : Nat) : chgC A n c f a b = [.slice A n c, .int .u16 (f 0 : Nat), .int .u16 (f 1 : Nat), .int .u16 (f 2 : Nat), .int .u16 (f 3 : Nat), .int .u16 (f 4 : Nat), .int .u16 (f 5 : Nat), .int .u16 (f 6 : Nat), .int .u16 (f 7 : Nat), .int .u16 (f 8 : Nat), .int .u16 (f 9 : Nat), .int .u16 (f 10 : Nat), .int .u16 (f 11 : Nat), .int .u16 (a : Nat), .int .u16 (b : Nat)] := rfl
set_option maxHeartbeats 2000000 in
set_option maxRecDepth 100000 in
theorem impl_clearB (A : Option Addr) (n c B : Nat) (ps : List Pth) (f : Nat → Nat) (hf : ∀ k, f k < 4096) (a b : Nat) (ha : a < 4096) (hb : b < 4096) (h12 : n ≤ 12) (w : World) (h : PthsAt w B A n ps) (hB : B ≤ w.heap.size) (ht : Clrs w) :
    Calls Tryd.prog 57 #[.agg (xcells A n c f).toArray, .int .u16 (a : Nat), .int .u16 (b : Nat)] w fun e w' => e = .returned (.int .i64 (clrS ps f a b)) ∧ Below w.heap.size w w' := by
  have hl := h.1
  subst hl
  have HR : Hid (clrS ps f a b = mostTo (clrL ps f a b ps.length) (clrL ps f a b ps.length).length) := Lib.hid rfl
  have hX := heap_alloc_new w (.cells (xcells A ps.length c f).toArray 55)
  have hB0 : Below w.heap.size w (w.alloc (.cells (xcells A ps.length c f).toArray 55)) := (Below.refl _ _).alloc (Nat.le_refl _) _
  have hln : (xcells A ps.length c f).length = 13 := xcells_length _ _ _ _
  have hinf : (Tryd.prog.info? 55).map (·.size) = some (xcells A ps.length c f).length := by rw [hln]; exact info_cross
  have HCL := Lib.hid (impl_clearing A ps.length c B ps f hf a b ha hb h12 (w.alloc (.cells (xcells A ps.length c f).toArray 55)) (h.below (hB0.mono hB)) (Nat.le_trans hB hB0.size))
  have hcn := clrL_len ps f a b ps.length
  have hR0 := range_block hX
  have HB0 := Lib.hid hB0
  have HT := Lib.hid ht
  rw [clit] at HCL
  rw [xlit] at HCL HB0 hR0 hinf hX ⊢
  generalize clrL ps f a b ps.length = l at *
  generalize f 0 = f0 at *
  generalize f 1 = f1 at *
  generalize f 2 = f2 at *
  generalize f 3 = f3 at *
  generalize f 4 = f4 at *
  generalize f 5 = f5 at *
  generalize f 6 = f6 at *
  generalize f 7 = f7 at *
  generalize f 8 = f8 at *
  generalize f 9 = f9 at *
  generalize f 10 = f10 at *
  generalize f 11 = f11 at *
  obtain ⟨w0, hw0⟩ : ∃ w0, w0 = w.alloc (.cells [.slice A ps.length c, .int .u16 (f0 : Nat), .int .u16 (f1 : Nat), .int .u16 (f2 : Nat), .int .u16 (f3 : Nat), .int .u16 (f4 : Nat), .int .u16 (f5 : Nat), .int .u16 (f6 : Nat), .int .u16 (f7 : Nat), .int .u16 (f8 : Nat), .int .u16 (f9 : Nat), .int .u16 (f10 : Nat), .int .u16 (f11 : Nat)].toArray 55) := ⟨_, rfl⟩
  rw [← hw0] at HB0 hR0 HCL
  clear hX hB0 hf h ht hln
  go_enter Tryd.func57, Tryd.ntmps57
  go_wp2_with ((with_reducible show wpList _ _ _ _ _ _); rw [← hw0]; refine wpList_load_mid rfl 55 _ rfl w.heap.size 0 rfl _ _ hR0 Tryd.underlying55 rfl hinf ?_)
  rw [← hw0]
  clear hw0
  refine HCL.out.mono ?_
  rintro e w1 ⟨v, rfl, hown, hb1⟩
  obtain ⟨Av, cv, rfl⟩ := ownr_sliced hown
  have HB1 := Lib.hid (HB0.out.trans (hb1.mono HB0.out.size))
  have HPL : Hid (PthsAt w1 w1.heap.size Av l.length l) := Lib.hid ⟨rfl, ownr_cells hown⟩
  have HLC := Lib.hid (impl_longestC Av l.length cv w1.heap.size l w1 HPL.out (Nat.le_refl _) (by omega) (HT.out.below HB1.out (Nat.le_refl _)))
  clear hown hb1 hR0
  go_wp2_with fail
  refine HLC.out.mono ?_
  rintro e w2 ⟨rfl, hb2⟩
  go_wp2
  go_ret
  exact ⟨by rw [HR.out]; try rfl, HB1.out.trans (hb2.mono HB1.out.size)⟩
theorem cells_belowD {B : Nat} {w w' : World} (h : Below B w w') {g : Nat} (hg : g < B) {xs : List Value} (hr : w.rangeAt g 0 xs) : w'.rangeAt g 0 xs := fun j v hj => (h.cell (p := ⟨g, 0 + j, none⟩) hg).trans (hr j v hj)
theorem below_drewD {a w : World} (h : Below a.heap.size a w) : Below a.heap.size a w.drew := ⟨h.os, h.tape, h.output, h.size, h.block⟩
set_option maxHeartbeats 4000000 in
set_option maxRecDepth 100000 in
theorem impl_ClearBetween (A : Option Addr) (n c B : Nat) (ps : List Pth) (A2 : Option Addr) (n2 c2 B2 : Nat) (za : List Int) (A3 : Option Addr) (n3 c3 B3 : Nat) (zb : List Int) (w : World) (h : PthsAt w B A n ps) (hB : B ≤ w.heap.size) (hn : n ≤ c ∧ c ≤ maxLen) (hn1 : n ≤ 4294967296) (h2 : IntsAt .i64 w B2 A2 n2 za) (hB2 : B2 ≤ w.heap.size) (hn2 : n2 ≤ 4294967296) (hc2 : n2 ≤ c2) (hnil2 : A2 = none → n2 = 0 ∧ c2 = 0) (h3 : IntsAt .i64 w B3 A3 n3 zb) (hB3 : B3 ≤ w.heap.size) (hn3 : n3 ≤ 4294967296) (hc3 : n3 ≤ c3) (hnil3 : A3 = none → n3 = 0 ∧ c3 = 0) (hw : Brus w) (ht : Clrs w) :
    Calls Tryd.prog 33 #[.slice A n c, .slice A2 n2 c2, .slice A3 n3 c3] w fun e w' => e = .returned (.int .i64 (clrB ps za zb)) ∧ Below w.heap.size w w' := by
  have hl := h.1
  have hl2 := h2.1
  have hl3 := h3.1
  have HP := Lib.hid h
  have HW := Lib.hid hw
  have HT := Lib.hid ht
  cases ha : arePs ps
  · have htn : ∀ zs, isTog ps zs = false := fun zs => by unfold isTog; rw [ha, Bool.and_false]
    have HR : Hid (clrB ps za zb = 0) := Lib.hid (clrB_off (by rw [htn za]; rfl))
    have HC := Lib.hid (impl_crossingOf_no A n c B ps w h hB hn1 ha)
    clear h hw ht ha htn
    go_enter Tryd.func33, Tryd.ntmps33
    go_wp2_with fail
    refine HC.out.mono ?_
    rw [cross_lit]
    rintro e w1 ⟨rfl, hb⟩
    go_wp2
    go_ret
    exact ⟨by rw [HR.out]; rfl, hb.alloc hb.size _⟩
  · subst hl
    have h12 := arePs_len12 ha
    have hp12 := pow_le12 h12
    have HC := Lib.hid (impl_crossingOf A ps.length c B ps w h hB hn ha)
    have hsb : stsB ps [za, zb] = (isTog ps za && isTog ps zb) := by
      rw [Bool.eq_iff_iff, stsB_tog ha, Bool.and_eq_true]
      simp
    have HSB := Lib.hid hsb
    have HST := Lib.hid (fun A4 c4 B4 x hx hxB h2x hxB2 hm hxw => impl_stagesOf A ps.length c B ps A4 2 c4 B4 [za, zb] x hx hxB ha h2x hxB2 (by decide) hm hxw)
    have hmk : ∀ zs, maskL ps zs < 4096 := fun zs => maskL_lt ps zs h12
    have HCB := Lib.hid (fun x hx hxB hxt => impl_clearB A ps.length c B ps (rowSt ps ps.length 0) (rowSt_lt ps ps.length 0) (maskL ps za) (maskL ps zb) (hmk za) (hmk zb) h12 x hx hxB hxt)
    have HCM := Lib.hid (fun (q1 : isTog ps za = true) (q2 : isTog ps zb = true) => clr_mask2 q1 q2)
    have HMI : Hid (mskI ps [za, zb] = [((maskL ps za : Nat) : Int), ((maskL ps zb : Nat) : Int)]) := Lib.hid rfl
    have hln : (xcells A ps.length c (rowSt ps ps.length 0)).length = 13 := xcells_length _ _ _ _
    have hinf : (Tryd.prog.info? 55).map (·.size) = some (xcells A ps.length c (rowSt ps ps.length 0)).length := by rw [hln]; exact info_cross
    have HCL := Lib.hid (cross_lit A ps.length c (rowSt ps ps.length 0))
    generalize (xcells A ps.length c (rowSt ps ps.length 0)) = xs at *
    generalize rowSt ps ps.length 0 = f at *
    generalize maskL ps za = ma at *
    generalize maskL ps zb = mb at *
    clear h hw ht ha hsb hmk hp12
    go_enter Tryd.func33, Tryd.ntmps33
    go_wp2_with fail
    refine HC.out.mono ?_
    rw [HCL.out]
    rintro e w1 ⟨rfl, hb⟩
    have hX := heap_alloc_new w1 (.cells xs.toArray 55)
    have hB1 : Below w.heap.size w (w1.alloc (.cells xs.toArray 55)) := hb.alloc hb.size _
    have hs2 : (w1.alloc (.cells xs.toArray 55)).heap.size = w1.heap.size + 1 := by simp
    obtain ⟨w2, hw2⟩ : ∃ w2, w2 = w1.alloc (.cells xs.toArray 55) := ⟨_, rfl⟩
    rw [← hw2] at hX hB1 hs2
    rw [HCL.out] at hw2
    have hlt2 : w1.heap.size < w2.heap.size := by omega
    have hR2 := range_block hX
    have hbB := (Below.refl w2.heap.size w2).alloc (Nat.le_refl _) (.cells #[.slice A2 n2 c2, .slice A3 n3 c3] 33)
    have hN := heap_alloc_new w2 (.cells #[.slice A2 n2 c2, .slice A3 n3 c3] 33)
    have hB3' := hB1.trans (hbB.mono hB1.size)
    have hss : SSAt (w2.alloc (.cells #[.slice A2 n2 c2, .slice A3 n3 c3] 33)) (w2.heap.size + 1) (some ⟨w2.heap.size, 0, none⟩) 2 [za, zb] := by
      refine ⟨rfl, fun _ => ⟨_, rfl, Nat.lt_succ_self _, fun j hj => ?_⟩⟩
      have hk2 := (h2.keep (w' := w2.alloc (.cells #[.slice A2 n2 c2, .slice A3 n3 c3] 33)) fun p hp => hB3'.cell (by omega)).up (B' := w2.heap.size + 1) (by have := hB1.size; omega)
      have hk3 := (h3.keep (w' := w2.alloc (.cells #[.slice A2 n2 c2, .slice A3 n3 c3] 33)) fun p hp => hB3'.cell (by omega)).up (B' := w2.heap.size + 1) (by have := hB1.size; omega)
      match j, hj with
      | 0, _ => exact ⟨A2, n2, c2, (cell_of_row _ _ 0 _ _ _ hN).trans rfl, hk2, hc2, hnil2⟩
      | 1, _ => exact ⟨A3, n3, c3, (cell_of_row _ _ 1 _ _ _ hN).trans rfl, hk3, hc3, hnil3⟩
    have HSW := Lib.hid (HST.out (some ⟨w2.heap.size, 0, none⟩) 2 (w2.heap.size + 1) _ (HP.out.below (hB3'.mono hB)) (Nat.le_trans hB hB3'.size) hss (by simp) (fun j hj => by
      match j, hj with
      | 0, _ => show za.length ≤ _; omega
      | 1, _ => show zb.length ≤ _; omega) (HW.out.below hB3' (Nat.le_refl _)))
    have HX := Lib.hid ((hbB.block w1.heap.size hlt2).trans hX)
    have HB1 := Lib.hid hB3'
    have hlt3 : w1.heap.size < (w2.alloc (.cells #[.slice A2 n2 c2, .slice A3 n3 c3] 33)).heap.size := by simp; omega
    have HLT := Lib.hid hlt3
    clear hX hb HC hbB hN hss hB1 hB3' hlt3
    go_wp2_with ((with_reducible show wpList _ _ _ _ _ _); rw [← hw2]; refine wpList_load_mid rfl 55 _ rfl w1.heap.size 0 rfl xs _ hR2 Tryd.underlying55 rfl hinf ?_)
    rw [← hw2]
    clear hw2 hR2
    have HSX := HSW.out
    rw [hs2] at HSX
    clear hs2
    refine HSX.mono ?_
    rw [HSB.out]
    cases hta : isTog ps za
    · have HR : Hid (clrB ps za zb = 0) := Lib.hid (clrB_off (by rw [hta]; rfl))
      rintro e w3 ⟨v, rfl, -, hb3⟩
      have HB3 := Lib.hid (HB1.out.trans (hb3.mono HB1.out.size))
      clear hb3 hta
      go_wp2
      go_ret
      exact ⟨by rw [HR.out]; rfl, HB3.out⟩
    cases htb : isTog ps zb
    · have HR : Hid (clrB ps za zb = 0) := Lib.hid (clrB_off (by rw [htb, Bool.and_false]))
      rintro e w3 ⟨v, rfl, -, hb3⟩
      have HB3 := Lib.hid (HB1.out.trans (hb3.mono HB1.out.size))
      clear hb3 hta htb
      go_wp2
      go_ret
      exact ⟨by rw [HR.out]; rfl, HB3.out⟩
    have HR := Lib.hid (HCM.out hta htb)
    rintro e w3 ⟨v, rfl, hv, hb3⟩
    obtain ⟨g, rfl, hown⟩ := hv rfl
    rw [HMI.out] at hown
    have m0 := hown.cell 0 (by simp)
    have m1 := hown.cell 1 (by simp)
    have hB3 : Below w.heap.size w w3 := HB1.out.trans (hb3.mono HB1.out.size)
    have hR3 : w3.rangeAt w1.heap.size 0 xs := range_block ((hb3.block w1.heap.size HLT.out).trans HX.out)
    have hS3 : w1.heap.size < w3.heap.size := Nat.lt_of_lt_of_le HLT.out hb3.size
    have HCW := Lib.hid (HCB.out w3.drew (HP.out.below ((below_drewD hB3).mono hB)) (Nat.le_trans hB hB3.size) (HT.out.below (below_drewD hB3) (Nat.le_refl _)))
    have m0' : w3.cell? ⟨g, 0, none⟩ = some (.int .u16 (ma : Nat)) := m0
    have m1' : w3.cell? ⟨g, 1, none⟩ = some (.int .u16 (mb : Nat)) := m1
    have hmx : Tryd.prog.follows .mixedOrders = true := by kernel_rfl
    have HB3 := Lib.hid (below_drewD hB3)
    clear hb3 hv hta htb hown HX HLT HSW HSX m0 m1 hB3 HCB HCM HP HT HW HST HSB HMI
    go_wp2
    refine wp_region_held_drew (S := fun W' => W'.rangeAt w1.heap.size 0 xs ∧ W'.cell? ⟨g, 0, none⟩ = some (.int .u16 (ma : Nat)) ∧ W'.cell? ⟨g, 1, none⟩ = some (.int .u16 (mb : Nat))) hmx ⟨hR3, m0', m1'⟩ (fun hH => ?_)
    refine wpAnyH_take (i := 0) (v := .agg xs.toArray) rfl (by kernel_rfl) (by kernel_rfl) (by kernel_rfl) (fun _ _ _ h => h) (yieldsIf_load_mid (by rfl) 55 _ rfl w1.heap.size 0 rfl xs _ (fun _ h => h.1) Tryd.underlying55 rfl hinf) hH ?_
    try simp only [Act.put, List.setIfInBounds_toArray, List.set_cons_zero, List.set_cons_succ]
    refine wpAnyH_take (i := 1) (v := .slice (some ⟨g, 0, none⟩) 2 2) rfl (by kernel_rfl) (by kernel_rfl) (by kernel_rfl) (fun _ _ _ h => h) (Or.inl ⟨by rfl, by intro w hSw; go_simp⟩) hH ?_
    try simp only [Act.put, List.setIfInBounds_toArray, List.set_cons_zero, List.set_cons_succ]
    refine wpAnyH_take (i := 2) (v := .pointer (some ⟨g, 0, none⟩)) rfl (by kernel_rfl) (by kernel_rfl) (by kernel_rfl) (fun _ _ _ h => h) (Or.inl ⟨by rfl, by intro w hSw; go_simp⟩) hH ?_
    try simp only [Act.put, List.setIfInBounds_toArray, List.set_cons_zero, List.set_cons_succ]
    refine wpAnyH_take (i := 3) (v := .int .u16 (ma : Nat)) rfl (by kernel_rfl) (by kernel_rfl) (by kernel_rfl) (fun _ _ _ h => h) (Or.inl ⟨by rfl, by intro w hSw; have hSw2 := hSw.2.1; clear hSw; go_simp⟩) hH ?_
    try simp only [Act.put, List.setIfInBounds_toArray, List.set_cons_zero, List.set_cons_succ]
    refine wpAnyH_take (i := 4) (v := .slice (some ⟨g, 0, none⟩) 2 2) rfl (by kernel_rfl) (by kernel_rfl) (by kernel_rfl) (fun _ _ _ h => h) (Or.inl ⟨by rfl, by intro w hSw; go_simp⟩) hH ?_
    try simp only [Act.put, List.setIfInBounds_toArray, List.set_cons_zero, List.set_cons_succ]
    refine wpAnyH_take (i := 5) (v := .pointer (some ⟨g, 1, none⟩)) rfl (by kernel_rfl) (by kernel_rfl) (by kernel_rfl) (fun _ _ _ h => h) (Or.inl ⟨by rfl, by intro w hSw; go_simp⟩) hH ?_
    try simp only [Act.put, List.setIfInBounds_toArray, List.set_cons_zero, List.set_cons_succ]
    refine wpAnyH_take (i := 6) (v := .int .u16 (mb : Nat)) rfl (by kernel_rfl) (by kernel_rfl) (by kernel_rfl) (fun _ _ _ h => h) (Or.inl ⟨by rfl, by intro w hSw; have hSw2 := hSw.2.2; clear hSw; go_simp⟩) hH ?_
    try simp only [Act.put, List.setIfInBounds_toArray, List.set_cons_zero, List.set_cons_succ]
    refine wpAnyH_ready (rs := [7]) (by decide +kernel) (by simp) (AllReadyH.cons rfl (fun K hK => ?_) AllReadyH.nil)
    go_simp
    refine HCW.out.mono ?_
    rintro e w4 ⟨rfl, hb4⟩
    go_wp2_with fail
    have hg4 : g < w3.heap.size := World.block_lt_of_cell? _ _ m0'
    have hH4 : w4.rangeAt w1.heap.size 0 xs ∧ w4.cell? ⟨g, 0, none⟩ = some (.int .u16 (ma : Nat)) ∧ w4.cell? ⟨g, 1, none⟩ = some (.int .u16 (mb : Nat)) := ⟨cells_belowD hb4 hS3 hH.1, (hb4.cell (p := ⟨g, 0, none⟩) hg4).trans hH.2.1, (hb4.cell (p := ⟨g, 1, none⟩) hg4).trans hH.2.2⟩
    have HB4 := Lib.hid (HB3.out.trans (hb4.mono HB3.out.size))
    refine hK.out _ _ hH4 (fun _ => ?_)
    clear hK K hb4 HCW HB3 m0' m1'
    try simp only [Act.put, List.setIfInBounds_toArray, List.set_cons_zero, List.set_cons_succ]
    refine wpAnyH_ready (rs := [8]) (by decide +kernel) (by simp) (AllReadyH.cons rfl (fun K hK => ?_) AllReadyH.nil)
    go_simp
    refine hK.out _ _ hH4 (fun _ => ?_)
    clear hK K
    try simp only [Act.put, List.setIfInBounds_toArray, List.set_cons_zero, List.set_cons_succ]
    refine wpAnyH_done (by decide +kernel) ?_ _
    go_wp2
    go_ret
    exact ⟨by rw [HR.out]; try rfl, HB4.out⟩
end Go.Proofs.YtgdficjihkglpabDoor
