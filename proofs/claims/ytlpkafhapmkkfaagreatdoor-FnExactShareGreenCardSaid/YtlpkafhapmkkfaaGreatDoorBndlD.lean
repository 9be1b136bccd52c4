/- Texts of one chain, put together: ClrD RowB SwB ClrM ClrS Lst PlnM LgtM PlnI PlnJ PlnK Flat RowI RowF RowG RowM Equal SwM. -/
import Derived.BigQuiet
import Derived.Deep.QuietTactic
import Derived.Deep.RegionHeld3
import Derived.Deep.RegionLaw
import Derived.BigRegion
import Derived.Laws.Rows
import Derived.Test.YtlpkafhapmkkfaaGreatDoorBndlC
set_option linter.unusedSimpArgs false
/- closes, holdsUp, mustClear, clearing, clearBetween, ClearBetween: the program. -/
namespace Go.Proofs.YtlpkafhapmkkfaaGreatDoor
open Go.RowKit
set_option linter.unusedVariables false

theorem clr_mask2 {ps : List Pth} {a b : List Int} (h1 : isTog ps a = true) (h2 : isTog ps b = true) : clrS ps (rowSt ps ps.length 0) (maskL ps a) (maskL ps b) = clrB ps a b := by
  obtain ⟨ha, a1, a2, a3, _⟩ := tog_maskL h1
  obtain ⟨_, b1, b2, b3, _⟩ := tog_maskL h2
  have := clr_mask ha a1 b1 a3 b3
  rw [← a2, ← b2] at this
  exact this.symm

theorem and_pow0 (m i : Nat) : m &&& 2 ^ i = 0 ↔ m.testBit i = false := by
  constructor
  · intro h
    have e : (m &&& 2 ^ i).testBit i = false := by rw [h]; exact Nat.zero_testBit i
    rw [Nat.testBit_and, Nat.testBit_two_pow, decide_eq_true rfl, Bool.and_true] at e
    exact e
  · intro h
    refine mask_ext fun j => ?_
    rw [Nat.testBit_and, Nat.testBit_two_pow, Nat.zero_testBit]
    by_cases e : i = j
    · subst e; rw [h]; rfl
    · rw [decide_eq_false e, Bool.and_false]
theorem bit_ne0 (m i : Nat) : decide (m &&& 2 ^ i ≠ 0) = m.testBit i := by
  rw [Bool.eq_iff_iff, decide_eq_true_eq, Ne, and_pow0]
  cases m.testBit i <;> simp
/-- the cells of a change. -/
def chgC (A : Option Addr) (n c : Nat) (f : Nat → Nat) (a b : Nat) : List Value := xcells A n c f ++ [.int .u16 (a : Nat), .int .u16 (b : Nat)]
theorem chgC_len (A : Option Addr) (n c : Nat) (f : Nat → Nat) (a b : Nat) : (chgC A n c f a b).length = 15 := by simp [chgC, xcells_length]
theorem chgC_0 (A : Option Addr) (n c : Nat) (f : Nat → Nat) (a b : Nat) : (chgC A n c f a b)[0]? = some (.slice A n c) := rfl
theorem chgC_a (A : Option Addr) (n c : Nat) (f : Nat → Nat) (a b : Nat) : (chgC A n c f a b)[13]? = some (.int .u16 (a : Nat)) := by unfold chgC; rw [List.getElem?_append_right (by rw [xcells_length]; omega), xcells_length]; rfl
theorem chgC_b (A : Option Addr) (n c : Nat) (f : Nat → Nat) (a b : Nat) : (chgC A n c f a b)[14]? = some (.int .u16 (b : Nat)) := by unfold chgC; rw [List.getElem?_append_right (by rw [xcells_length]; omega), xcells_length]; rfl
theorem chgC_row (A : Option Addr) (n c : Nat) (f : Nat → Nat) (a b i : Nat) (h : i < 12) : (chgC A n c f a b)[1 + i]? = some (.int .u16 (f i : Nat)) := by unfold chgC; rw [List.getElem?_append_left (by rw [xcells_length]; omega), xcells_row _ _ _ _ _ h]
theorem chgC_one (A : Option Addr) (n c : Nat) (f : Nat → Nat) (a b : Nat) : ∀ v ∈ chgC A n c f a b, v.oneCell' = true := by
  intro v hv
  unfold chgC at hv
  rcases List.mem_append.1 hv with h | h
  · exact xcells_one _ _ _ _ v h
  · simp only [List.mem_cons, List.not_mem_nil, or_false] at h
    rcases h with rfl | rfl <;> rfl
theorem range_cell {w : World} {g : Nat} {xs : List Value} (h : w.rangeAt g 0 xs) {i : Nat} {v : Value} (hi : xs[i]? = some v) : w.cell? ⟨g, i, none⟩ = some v := by
  have := h i v hi
  rwa [Nat.zero_add] at this
theorem info_change : (Tryz.prog.info? 152).map (·.size) = some 15 := by kernel_rfl
set_option maxHeartbeats 1000000 in
set_option maxRecDepth 100000 in
theorem impl_closes (A : Option Addr) (n c : Nat) (f : Nat → Nat) (a b i : Nat) (ha : a < 4096) (hb : b < 4096) (hi : i < 12) (w : World) :
    Calls Tryz.prog 159 #[.agg (chgC A n c f a b).toArray, .int .i64 (i : Nat)] w fun e w' => e = .returned (.bool ((minusM a b).testBit i)) ∧ Below w.heap.size w w' := by
  have hX := range_block (heap_alloc_new w (.cells (chgC A n c f a b).toArray 152))
  have ca := range_cell hX (chgC_a A n c f a b)
  have cb := range_cell hX (chgC_b A n c f a b)
  have hB0 : Below w.heap.size w (w.alloc (.cells (chgC A n c f a b).toArray 152)) := (Below.refl _ _).alloc (Nat.le_refl _) _
  have HR : Hid ((minusM a b).testBit i = decide (minusM a b &&& 2 ^ i ≠ 0)) := Lib.hid (bit_ne0 _ _).symm
  have hj2 := bit_lt hi
  have hml : minusM a b < 4096 := Nat.lt_of_le_of_lt Nat.and_le_left ha
  have ho1 : bits .andNot .u16 (a : Int) (b : Int) = ((minusM a b : Nat) : Int) := u16_minus (by omega) (by omega)
  have ho2 : bits .and .u16 ((minusM a b : Nat) : Int) ((2 ^ i : Nat) : Int) = ((minusM a b &&& 2 ^ i : Nat) : Int) := u16_and_nat _ _ (by omega) (by omega)
  have hmb := Lib.hid (fun x => impl_maskBit i x hi)
  have HB0 := Lib.hid hB0
  clear hX hB0
  generalize hx : minusM a b &&& 2 ^ i = x at *
  clear hx
  generalize minusM a b = m at *
  generalize (2 : Nat) ^ i = y at *
  generalize chgC A n c f a b = xs at *
  obtain ⟨w0, hw0⟩ : ∃ w0, w0 = w.alloc (.cells xs.toArray 152) := ⟨_, rfl⟩
  rw [← hw0] at ca cb HB0
  have hx0 : ((x : Int) != 0) = decide (x ≠ 0) := by
    by_cases e : x = 0
    · subst e; rfl
    · simp [e]
  have HX0 := Lib.hid hx0
  clear hx0
  go_enter Tryz.func159, Tryz.ntmps159
  go_wp2
  rw [← hw0]
  clear hw0
  go_quiet ((go_at_call 108; exact Calls.quiet_of_same ((hmb.out _).mono fun e w' h => ⟨h.1, h.2.symm⟩)))
  go_wp2
  go_ret
  exact ⟨by rw [HR.out, ← HX0.out]; try rfl, belowN HB0.out _⟩
set_option maxHeartbeats 1000000 in
set_option maxRecDepth 100000 in
theorem impl_holdsUp (A : Option Addr) (n c : Nat) (f : Nat → Nat) (hf : ∀ k, f k < 4096) (a b i : Nat) (ha : a < 4096) (hb : b < 4096) (hi : i < 12) (w : World) :
    Calls Tryz.prog 160 #[.agg (chgC A n c f a b).toArray, .int .i64 (i : Nat)] w fun e w' => e = .returned (.bool (decide (f i &&& minusM b a ≠ 0))) ∧ Below w.heap.size w w' := by
  have hX := range_block (heap_alloc_new w (.cells (chgC A n c f a b).toArray 152))
  have ca := range_cell hX (chgC_a A n c f a b)
  have cb := range_cell hX (chgC_b A n c f a b)
  have ci := range_cell hX (chgC_row A n c f a b i hi)
  have hB0 : Below w.heap.size w (w.alloc (.cells (chgC A n c f a b).toArray 152)) := (Below.refl _ _).alloc (Nat.le_refl _) _
  have hml : minusM b a < 4096 := Nat.lt_of_le_of_lt Nat.and_le_left hb
  have hfi := hf i
  have ho1 : bits .andNot .u16 (b : Int) (a : Int) = ((minusM b a : Nat) : Int) := u16_minus (by omega) (by omega)
  have ho2 : bits .and .u16 ((f i : Nat) : Int) ((minusM b a : Nat) : Int) = ((f i &&& minusM b a : Nat) : Int) := u16_and_nat _ _ (by omega) (by omega)
  have HB0 := Lib.hid hB0
  have i1 : (0 : Int) ≤ (i : Int) := by omega
  have i2 : (i : Int) < 12 := by omega
  clear hX hB0 hf
  generalize f i &&& minusM b a = x at *
  generalize minusM b a = m at *
  generalize chgC A n c f a b = xs at *
  generalize f i = fi at *
  obtain ⟨w0, hw0⟩ : ∃ w0, w0 = w.alloc (.cells xs.toArray 152) := ⟨_, rfl⟩
  rw [← hw0] at ca cb ci HB0
  have hx0 : ((x : Int) != 0) = decide (x ≠ 0) := by
    by_cases e : x = 0
    · subst e; rfl
    · simp [e]
  have HX0 := Lib.hid hx0
  clear hx0
  go_enter Tryz.func160, Tryz.ntmps160
  go_wp2
  rw [← hw0]
  clear hw0
  go_quiet (fail)
  go_wp2
  go_ret
  exact ⟨by rw [← HX0.out]; try rfl, belowN HB0.out _⟩
set_option maxHeartbeats 2000000 in
set_option maxRecDepth 100000 in
theorem impl_mustClear (A : Option Addr) (n c : Nat) (f : Nat → Nat) (hf : ∀ k, f k < 4096) (a b i : Nat) (ha : a < 4096) (hb : b < 4096) (hi : i < 12) (w : World) :
    Calls Tryz.prog 149 #[.agg (chgC A n c f a b).toArray, .int .i64 (i : Nat)] w fun e w' => e = .returned (.bool (mustI f a b i)) ∧ Below w.heap.size w w' := by
  have hX := heap_alloc_new w (.cells (chgC A n c f a b).toArray 152)
  have hB0 : Below w.heap.size w (w.alloc (.cells (chgC A n c f a b).toArray 152)) := (Below.refl _ _).alloc (Nat.le_refl _) _
  have hs0 : (w.alloc (.cells (chgC A n c f a b).toArray 152)).heap.size = w.heap.size + 1 := by simp
  have H1 := Lib.hid (fun x => impl_closes A n c f a b i ha hb hi x)
  have H2 := Lib.hid (fun x => impl_holdsUp A n c f hf a b i ha hb hi x)
  have HR : Hid (mustI f a b i = ((minusM a b).testBit i && decide (f i &&& minusM b a ≠ 0))) := Lib.hid rfl
  have hln := chgC_len A n c f a b
  have hinf : (Tryz.prog.info? 152).map (·.size) = some (chgC A n c f a b).length := by rw [hln]; exact info_change
  have HB0 := Lib.hid hB0
  have HX := Lib.hid hX
  generalize chgC A n c f a b = xs at *
  generalize (minusM a b).testBit i = r1 at *
  generalize decide (f i &&& minusM b a ≠ 0) = r2 at *
  obtain ⟨w0, hw0⟩ : ∃ w0, w0 = w.alloc (.cells xs.toArray 152) := ⟨_, rfl⟩
  rw [← hw0] at HB0 HX hs0
  have HS0 := Lib.hid hs0
  clear hX hB0 hs0 hf
  go_enter Tryz.func149, Tryz.ntmps149
  go_wp2
  rw [← hw0]
  clear hw0
  have hl0 : w.heap.size < w0.heap.size := by have := HS0.out; omega
  obtain ⟨w1, hw1⟩ : ∃ w1, w1 = w0.alloc (.cells #[.func (.func 159) #[] #[], .func (.func 160) #[] #[]] 177) := ⟨_, rfl⟩
  have hN1 : w1.heap[w.heap.size + 1]? = some (.cells #[.func (.func 159) #[] #[], .func (.func 160) #[] #[]] 177) := by rw [hw1, ← HS0.out]; exact heap_alloc_new w0 _
  have hX1 : w1.heap[w.heap.size]? = some (.cells xs.toArray 152) := by rw [hw1]; exact (Below.heap_alloc w0 _ _ hl0).trans HX.out
  have hB1 : Below w.heap.size w w1 := by rw [hw1]; exact HB0.out.alloc HB0.out.size _
  have hs1 : w1.heap.size = w.heap.size + 2 := by rw [hw1]; have := HS0.out; simp; omega
  have HB1 := Lib.hid hB1
  have hR1 := range_block hX1
  have HN1 := Lib.hid hN1
  have HX1 := Lib.hid hX1
  have HS1 := Lib.hid hs1
  have d0 : w1.cell? ⟨w.heap.size + 1, 0, none⟩ = some (.func (.func 159) #[] #[]) := (cell_of_row _ _ 0 _ _ _ hN1).trans rfl
  rw [← hw1]
  clear hw1 hN1 hX1 hB1 hs1 HX HB0 HS0
  refine wp_loop_rounds 3 ?_
  rw [rounds_succ]
  go_wp2_with ((with_reducible show wpList _ _ _ _ _ _); refine wpList_load_mid rfl 152 _ rfl w.heap.size 0 rfl xs _ hR1 Tryz.underlying152 rfl hinf ?_)
  refine (H1.out _).mono ?_
  rintro e w2 ⟨rfl, hb2⟩
  have HB2 := Lib.hid (HB1.out.trans (hb2.mono HB1.out.size))
  have hX2 := (hb2.block w.heap.size (by have := HS1.out; omega)).trans HX1.out
  have hR2 := range_block hX2
  have d1 : w2.cell? ⟨w.heap.size + 1, 1, none⟩ = some (.func (.func 160) #[] #[]) := (cell_of_row _ _ 1 _ _ _ ((hb2.block (w.heap.size + 1) (by have := HS1.out; omega)).trans HN1.out)).trans rfl
  clear hb2 hX2 hR1 d0
  cases r1
  · go_wp2
    go_ret
    exact ⟨by rw [HR.out]; rfl, HB2.out⟩
  · go_wp2
    rw [rounds_succ]
    go_wp2_with ((with_reducible show wpList _ _ _ _ _ _); refine wpList_load_mid rfl 152 _ rfl w.heap.size 0 rfl xs _ hR2 Tryz.underlying152 rfl hinf ?_)
    refine (H2.out _).mono ?_
    rintro e w3 ⟨rfl, hb3⟩
    have HB3 := Lib.hid (HB2.out.trans (hb3.mono HB2.out.size))
    clear hb3 hR2 d1
    cases r2
    · go_wp2
      go_ret
      exact ⟨by rw [HR.out]; rfl, HB3.out⟩
    · go_wp2
      rw [rounds_succ]
      go_wp2
      go_ret
      exact ⟨by rw [HR.out]; rfl, HB3.out⟩

theorem pcells_snoc (ps : List Pth) (p : Pth) : pcells (ps ++ [p]) = pcells ps ++ p.cells := by simp [pcells]
theorem cells_one (p : Pth) : ∀ u ∈ p.cells, u.oneCell' = true := by
  intro u hu
  simp only [Pth.cells, List.mem_cons, List.not_mem_nil, or_false] at hu
  rcases hu with rfl | rfl | rfl | rfl <;> rfl
set_option maxHeartbeats 2000000 in
set_option maxRecDepth 100000 in
theorem impl_clearing (A : Option Addr) (n c B : Nat) (ps : List Pth) (f : Nat → Nat) (hf : ∀ k, f k < 4096) (a b : Nat) (ha : a < 4096) (hb : b < 4096) (h12 : n ≤ 12) (w : World) (h : PthsAt w B A n ps) (hB : B ≤ w.heap.size) :
    Calls Tryz.prog 124 #[.agg (chgC A n c f a b).toArray] w fun e w' => ∃ v, e = .returned v ∧ w'.ownsRow w.heap.size 67 4 v (clrL ps f a b n).length (pcells (clrL ps f a b n)) ∧ Below w.heap.size w w' := by
  have hl := h.1
  have hX := heap_alloc_new w (.cells (chgC A n c f a b).toArray 152)
  have hB0 : Below w.heap.size w (w.alloc (.cells (chgC A n c f a b).toArray 152)) := (Below.refl _ _).alloc (Nat.le_refl _) _
  have hs0 : (w.alloc (.cells (chgC A n c f a b).toArray 152)).heap.size = w.heap.size + 1 := by simp
  have HM := Lib.hid (fun i (hi : i < 12) x => impl_mustClear A n c f hf a b i ha hb hi x)
  have HCS := Lib.hid (fun k => clrL_succ ps f a b k)
  have HCN := Lib.hid (fun k => clrL_len ps f a b k)
  have hln := chgC_len A n c f a b
  have hinf : (Tryz.prog.info? 152).map (·.size) = some (chgC A n c f a b).length := by rw [hln]; exact info_change
  have hx0 : ∀ hh : 0 < (chgC A n c f a b).length, (chgC A n c f a b)[0]'hh = .slice A n c := fun _ => rfl
  have HB0 := Lib.hid hB0
  have HX := Lib.hid hX
  have HP := Lib.hid h
  have hz := clrL_zero ps f a b
  generalize hcl : clrL ps f a b = cl at *
  generalize hmu : mustI f a b = mu at *
  generalize chgC A n c f a b = xs at *
  obtain ⟨w0, hw0⟩ : ∃ w0, w0 = w.alloc (.cells xs.toArray 152) := ⟨_, rfl⟩
  rw [← hw0] at HB0 HX hs0
  have hl0 : w.heap.size < w0.heap.size := by omega
  have HZ := Lib.hid hz
  clear hX hB0 hs0 hf hcl hmu h hz
  go_enter Tryz.func124, Tryz.ntmps124
  go_wp2
  rw [← hw0]
  clear hw0 hx0
  go_loopw [3, 10] (fun v i wr => ∃ k : Nat, k ≤ n ∧ i = .int .i64 k ∧ wr.ownsRow (w.heap.size + 1) 67 4 v (cl k).length (pcells (cl k)) ∧ wr.heap[w.heap.size]? = some (.cells xs.toArray 152) ∧ Below w.heap.size w wr) (fun _ i _ => n - (intOf i).toNat)
  case atStart => exact ⟨0, Nat.zero_le _, rfl, by rw [HZ.out]; exact ownr_nil _ _ _ _, HX.out, HB0.out⟩
  case round =>
    clear HX HB0
    obtain ⟨k, hk, rfl, hown, hxb, hbl⟩ := hrel
    have hsz := hbl.size
    have hxl : w.heap.size < wr.heap.size := by
      rcases Nat.lt_or_ge w.heap.size wr.heap.size with h1 | h1
      · exact h1
      · rw [Array.getElem?_eq_none h1] at hxb; cases hxb
    by_cases hlt : k < n
    · obtain ⟨ad, p, rfl, hab, hp, hq⟩ := HP.out.at hlt
      obtain ⟨c0, c1, c2, c3⟩ := hq.below hbl (by omega)
      have HPA : Hid (pAt ps k = p) := Lib.hid (pAt_some hp)
      have HSN := Lib.hid (HCS.out k)
      have hcn := HCN.out k
      have hbA := (Below.refl wr.heap.size wr).alloc (Nat.le_refl _) (.cells #[.int .i64 p.id, .int .i64 p.kind, .int .i64 p.frm, .int .i64 p.to] 67)
      have hxA := (hbA.block w.heap.size hxl).trans hxb
      have hRA := range_block hxA
      have HXA := Lib.hid hxA
      have HOA := Lib.hid (ownr_below hown hbA)
      have HBA := Lib.hid (hbl.trans (hbA.mono hsz))
      have HMC := Lib.hid (HM.out k (by omega) (wr.alloc (.cells #[.int .i64 p.id, .int .i64 p.kind, .int .i64 p.frm, .int .i64 p.to] 67)))
      have hpb : PthAt (wr.alloc (.cells #[.int .i64 p.id, .int .i64 p.kind, .int .i64 p.frm, .int .i64 p.to] 67)) ⟨wr.heap.size, 0, none⟩ p := pth_of_block (heap_alloc_new wr _)
      have HPB := Lib.hid hpb
      have hsA : (wr.alloc (.cells #[.int .i64 p.id, .int .i64 p.kind, .int .i64 p.frm, .int .i64 p.to] 67)).heap.size = wr.heap.size + 1 := by simp
      have HSA := Lib.hid hsA
      obtain ⟨wA, hwA⟩ : ∃ wA, wA = wr.alloc (.cells #[.int .i64 p.id, .int .i64 p.kind, .int .i64 p.frm, .int .i64 p.to] 67) := ⟨_, rfl⟩
      rw [← hwA] at hRA HXA HOA HBA HMC HPB HSA
      clear hp hq hown hxb hbl hbA hxA hpb hsA
      go_wp2_with ((with_reducible show wpList _ _ _ _ _ _); rw [← hwA]; refine wpList_load_mid rfl 152 _ rfl w.heap.size 0 rfl xs _ hRA Tryz.underlying152 rfl hinf ?_)
      rw [← hwA]
      clear hwA c0 c1 c2 c3
      refine HMC.out.mono ?_
      cases hm : mu k
      · rintro e w2 ⟨rfl, hb2⟩
        have HO2 := Lib.hid (ownr_below HOA.out hb2)
        have HX2 := Lib.hid ((hb2.block w.heap.size (by have := HSA.out; omega)).trans HXA.out)
        have HB2 := Lib.hid (HBA.out.trans (hb2.mono HBA.out.size))
        have HC2 : Hid (cl (k + 1) = cl k) := Lib.hid (by rw [HSN.out, hm]; simp)
        clear hb2 hm hRA
        go_wp2
        go_roundw
        case rel => exact ⟨k + 1, by omega, by go_num, by rw [HC2.out]; exact HO2.out, HX2.out, HB2.out⟩
        case measure => simp [intOf]; omega
      · rintro e w2 ⟨rfl, hb2⟩
        have hO2 := ownr_below HOA.out hb2
        have HX2 := Lib.hid ((hb2.block w.heap.size (by have := HSA.out; omega)).trans HXA.out)
        have hB2 := HBA.out.trans (hb2.mono HBA.out.size)
        have HC2 : Hid (cl (k + 1) = cl k ++ [p]) := Lib.hid (by rw [HSN.out, hm, HPA.out]; simp)
        obtain ⟨d0, d1, d2, d3⟩ := pth_head (HPB.out.below hb2 (by have := HSA.out; simp only; omega))
        have hs2 := hB2.size
        have hx2 : w.heap.size < w2.heap.size := by have := hb2.size; have := HSA.out; omega
        clear hb2 hm hRA
        go_wp2_with (at_builtin; refine wpList_appR1 rfl _ _ 28 rfl 67 _ 4 32 Tryz.underlying28 info_pth rfl (by decide) (by decide) (w.heap.size + 1) _ _ _ rfl hO2 (by omega) p.cells rfl (cells_one p) _ _ w2.heap.size hx2 rfl (by simp) ?_; intro v4 w4 hown4 hgrow4 hat4)
        have hb4 := ownr_push hO2 (Nat.le_succ _) (hB2.alloc hs2 _) (by simp; omega) hgrow4
        have hx4 : w4.heap[w.heap.size]? = some (.cells xs.toArray 152) := by
          have hg := hgrow4.block w.heap.size (by simp; omega) (fun e => ?_)
          · exact hg.trans ((Below.heap_alloc w2 _ _ hx2).trans HX2.out)
          · have := (ownr_block hO2 _ e.symm).1
            omega
        rw [← pcells_snoc] at hown4
        clear hgrow4 hat4 hO2 hB2 d0 d1 d2 d3
        go_roundw
        case rel => exact ⟨k + 1, by omega, by go_num, by rw [HC2.out, List.length_append]; exact hown4, hx4, hb4⟩
        case measure => simp [intOf]; omega
    · obtain rfl : k = n := by omega
      go_wp2
      go_ret
      exact ⟨_, rfl, ownr_mono hown (Nat.le_succ _), hbl⟩
theorem xlit (A : Option Addr) (n c : Nat) (f : Nat → Nat) : xcells A n c f = [.slice A n c, .int .u16 (f 0 : Nat), .int .u16 (f 1 : Nat), .int .u16 (f 2 : Nat), .int .u16 (f 3 : Nat), .int .u16 (f 4 : Nat), .int .u16 (f 5 : Nat), .int .u16 (f 6 : Nat), .int .u16 (f 7 : Nat), .int .u16 (f 8 : Nat), .int .u16 (f 9 : Nat), .int .u16 (f 10 : Nat), .int .u16 (f 11 : Nat)] := rfl
theorem clit (A : Option Addr) (n c : Nat) (f : Nat → Nat) (a b : Nat) : chgC A n c f a b = [.slice A n c, .int .u16 (f 0 : Nat), .int .u16 (f 1 : Nat), .int .u16 (f 2 : Nat), .int .u16 (f 3 : Nat), .int .u16 (f 4 : Nat), .int .u16 (f 5 : Nat), .int .u16 (f 6 : Nat), .int .u16 (f 7 : Nat), .int .u16 (f 8 : Nat), .int .u16 (f 9 : Nat), .int .u16 (f 10 : Nat), .int .u16 (f 11 : Nat), .int .u16 (a : Nat), .int .u16 (b : Nat)] := rfl
set_option maxHeartbeats 2000000 in
set_option maxRecDepth 100000 in
theorem impl_clearB (A : Option Addr) (n c B : Nat) (ps : List Pth) (f : Nat → Nat) (hf : ∀ k, f k < 4096) (a b : Nat) (ha : a < 4096) (hb : b < 4096) (h12 : n ≤ 12) (w : World) (h : PthsAt w B A n ps) (hB : B ≤ w.heap.size) (ht : Clrs w) :
    Calls Tryz.prog 95 #[.agg (xcells A n c f).toArray, .int .u16 (a : Nat), .int .u16 (b : Nat)] w fun e w' => e = .returned (.int .i64 (clrS ps f a b)) ∧ Below w.heap.size w w' := by
  have hl := h.1
  subst hl
  have HR : Hid (clrS ps f a b = mostTo (clrL ps f a b ps.length) (clrL ps f a b ps.length).length) := Lib.hid rfl
  have hX := heap_alloc_new w (.cells (xcells A ps.length c f).toArray 76)
  have hB0 : Below w.heap.size w (w.alloc (.cells (xcells A ps.length c f).toArray 76)) := (Below.refl _ _).alloc (Nat.le_refl _) _
  have hln : (xcells A ps.length c f).length = 13 := xcells_length _ _ _ _
  have hinf : (Tryz.prog.info? 76).map (·.size) = some (xcells A ps.length c f).length := by rw [hln]; exact info_cross
  have HCL := Lib.hid (impl_clearing A ps.length c B ps f hf a b ha hb h12 (w.alloc (.cells (xcells A ps.length c f).toArray 76)) (h.below (hB0.mono hB)) (Nat.le_trans hB hB0.size))
  have hcn := clrL_len ps f a b ps.length
  have hR0 := range_block hX
  have HB0 := Lib.hid hB0
  have HT := Lib.hid ht
  rw [clit] at HCL
  rw [xlit] at HCL HB0 hR0 hinf hX ⊢
  generalize clrL ps f a b ps.length = l at *
  generalize f 0 = f0 at *
  generalize f 1 = f1 at *
  generalize f 2 = f2 at *
  generalize f 3 = f3 at *
  generalize f 4 = f4 at *
  generalize f 5 = f5 at *
  generalize f 6 = f6 at *
  generalize f 7 = f7 at *
  generalize f 8 = f8 at *
  generalize f 9 = f9 at *
  generalize f 10 = f10 at *
  generalize f 11 = f11 at *
  obtain ⟨w0, hw0⟩ : ∃ w0, w0 = w.alloc (.cells [.slice A ps.length c, .int .u16 (f0 : Nat), .int .u16 (f1 : Nat), .int .u16 (f2 : Nat), .int .u16 (f3 : Nat), .int .u16 (f4 : Nat), .int .u16 (f5 : Nat), .int .u16 (f6 : Nat), .int .u16 (f7 : Nat), .int .u16 (f8 : Nat), .int .u16 (f9 : Nat), .int .u16 (f10 : Nat), .int .u16 (f11 : Nat)].toArray 76) := ⟨_, rfl⟩
  rw [← hw0] at HB0 hR0 HCL
  clear hX hB0 hf h ht hln
  go_enter Tryz.func95, Tryz.ntmps95
  go_wp2_with ((with_reducible show wpList _ _ _ _ _ _); rw [← hw0]; refine wpList_load_mid rfl 76 _ rfl w.heap.size 0 rfl _ _ hR0 Tryz.underlying76 rfl hinf ?_)
  rw [← hw0]
  clear hw0
  refine HCL.out.mono ?_
  rintro e w1 ⟨v, rfl, hown, hb1⟩
  obtain ⟨Av, cv, rfl⟩ := ownr_sliced hown
  have HB1 := Lib.hid (HB0.out.trans (hb1.mono HB0.out.size))
  have HPL : Hid (PthsAt w1 w1.heap.size Av l.length l) := Lib.hid ⟨rfl, ownr_cells hown⟩
  have HLC := Lib.hid (impl_longestC Av l.length cv w1.heap.size l w1 HPL.out (Nat.le_refl _) (by omega) (HT.out.below HB1.out (Nat.le_refl _)))
  clear hown hb1 hR0
  go_wp2_with fail
  refine HLC.out.mono ?_
  rintro e w2 ⟨rfl, hb2⟩
  go_wp2
  go_ret
  exact ⟨by rw [HR.out]; try rfl, HB1.out.trans (hb2.mono HB1.out.size)⟩
theorem cells_belowD {B : Nat} {w w' : World} (h : Below B w w') {g : Nat} (hg : g < B) {xs : List Value} (hr : w.rangeAt g 0 xs) : w'.rangeAt g 0 xs := fun j v hj => (h.cell (p := ⟨g, 0 + j, none⟩) hg).trans (hr j v hj)
theorem below_drewD {a w : World} (h : Below a.heap.size a w) : Below a.heap.size a w.drew := ⟨h.os, h.tape, h.output, h.size, h.block⟩
end Go.Proofs.YtlpkafhapmkkfaaGreatDoor

/- What the phases of a plan show to a path, as Lean data. No walk. -/
namespace Go.Proofs.YtlpkafhapmkkfaaGreatDoor
open Go.RowKit
set_option linter.unusedVariables false

/-- what a phase shows to the path with the index i. -/
def showP (f : Phs) (i : Nat) (most : Int) : List Int :=
  if f.opn.testBit i then List.replicate f.green.toNat 1 ++ (if f.nxt.testBit i then List.replicate f.clr.toNat 1 else List.replicate (minI most f.clr).toNat 2 ++ List.replicate (f.clr - minI most f.clr).toNat 0)
  else List.replicate (f.green + f.clr).toNat 0
theorem map_const {f : Nat → Int} {v : Int} (n : Nat) (h : ∀ s, s < n → f s = v) : (List.range n).map f = List.replicate n v := by
  apply List.ext_getElem
  · simp
  · intro k h1 h2
    simp only [List.getElem_map, List.getElem_range, List.getElem_replicate]
    exact h k (by simpa using h1)
theorem map_split (f : Nat → Int) (a b : Nat) : (List.range (a + b)).map f = (List.range a).map f ++ (List.range b).map fun s => f (a + s) := by
  rw [List.range_add, List.map_append, List.map_map]
  rfl
theorem has_maskL {ps : List Pth} {zs : List Int} (h : isTog ps zs = true) {i : Nat} (hi : i < ps.length) : hasI zs (idAt ps i) = (maskL ps zs).testBit i := by
  obtain ⟨ha, h1, h2, _, _⟩ := tog_maskL h
  have := has_ids ha h1 hi
  rwa [← h2] at this
theorem idP_row {ps : List Pth} (h : arePs ps = true) {i : Nat} (hi : i < ps.length) : idP ps (idAt ps i) = pAt ps i := by
  unfold idP
  rw [findK_of h hi]
  rfl
theorem show_row {ps : List Pth} {p : List Prt} (h : isPlan ps p = true) {j i : Nat} (hj : j < p.length) (hi : i < ps.length) : showP (phsAt ps p j) i (clearN (pAt ps i)) = rowJ ps p (idAt ps i) j := by
  obtain ⟨⟨hl, _⟩, ha, _, hok⟩ := isPlan_parts h
  have hnx := nextJ_lt (p := p) (j := j) (by omega)
  have t1 := (okPrt_parts (hok j hj)).2.1
  have t2 := (okPrt_parts (hok _ hnx)).2.1
  have hg := (okPrt_parts (hok j hj)).2.2
  have hlb := leastG_bound ps (prAt p j).stage
  have hc := clrAt_bound ps p j
  have hcn := clearN_bound (pAt ps i)
  have b1 := has_maskL t1 hi
  have b2 := has_maskL t2 hi
  have hlj : ∀ s : Nat, lightJ ps p j s (idAt ps i) = if (maskL ps (prAt p j).stage).testBit i then (if decide ((s : Int) < (prAt p j).green) || (maskL ps (prAt p (nextJ p j)).stage).testBit i then 1 else if (s : Int) < (prAt p j).green + clearN (pAt ps i) then 2 else 0) else 0 := fun s => by
    unfold lightJ
    rw [idP_row ha hi, b1, b2]
  unfold rowJ showP phsAt longAt
  simp only
  generalize (prAt p j).green = g at *
  generalize clrAt ps p j = c at *
  generalize clearN (pAt ps i) = m at *
  have ef : (fun (s : Nat) => lightJ ps p j s (idAt ps i)) = fun s : Nat => if (maskL ps (prAt p j).stage).testBit i then (if decide ((s : Int) < g) || (maskL ps (prAt p (nextJ p j)).stage).testBit i then 1 else if (s : Int) < g + m then 2 else 0) else 0 := funext hlj
  rw [ef]
  cases (maskL ps (prAt p j).stage).testBit i
  · rw [if_neg (by decide)]
    exact (map_const _ fun s _ => rfl).symm
  · rw [if_pos rfl, show (g + c).toNat = g.toNat + c.toNat by omega, map_split, map_const (v := 1) g.toNat (fun s hs => by
      rw [if_pos rfl, decide_eq_true (by omega)]; rfl)]
    congr 1
    cases (maskL ps (prAt p (nextJ p j)).stage).testBit i
    · rw [if_neg (by decide)]
      obtain ⟨k, hk⟩ : ∃ k : Nat, minI m c = k := ⟨(minI m c).toNat, by unfold minI; split <;> omega⟩
      have hkc : (k : Int) ≤ c ∧ (k : Int) ≤ m ∧ ((k : Int) = c ∨ (k : Int) = m) := by
        unfold minI at hk
        split at hk <;> omega
      rw [hk, show c.toNat = k + (c - k).toNat by omega, map_split]
      congr 1
      · exact (map_const _ fun s hs => by
          rw [if_pos rfl, decide_eq_false (by omega), Bool.or_self, if_neg (by decide), if_pos (by omega)]).symm
      · exact (map_const _ fun s hs => by
          rw [if_pos rfl, decide_eq_false (by omega), Bool.or_self, if_neg (by decide), if_neg (by omega)]).symm
    · rw [if_pos rfl]
      exact (map_const _ fun s hs => by rw [if_pos rfl, Bool.or_true]; rfl).symm
theorem phs_at {ps : List Pth} {p : List Prt} {k j : Nat} (h : j < k) : (phsTo ps p k)[j]? = some (phsAt ps p j) := by
  unfold phsTo
  rw [List.getElem?_map, List.getElem?_range h]
  rfl
theorem phs_cell {l : List Phs} {j : Nat} {f : Phs} (h : l[j]? = some f) (d : Nat) (hd : d < 5) : (l.flatMap Phs.cells)[j * 5 + d]? = f.cells[d]? := by
  induction l generalizing j with
  | nil => simp at h
  | cons x l ih =>
    rw [List.flatMap_cons]
    cases j with
    | zero =>
      obtain rfl : x = f := by simpa using h
      rw [List.getElem?_append_left (by show 0 * 5 + d < 5; omega), Nat.zero_mul, Nat.zero_add]
    | succ j =>
      rw [List.getElem?_append_right (by show 5 ≤ _; omega), show (j + 1) * 5 + d - x.cells.length = j * 5 + d by show (j + 1) * 5 + d - 5 = _; omega]
      exact ih (by simpa using h)
theorem showP_len {f : Phs} {i : Nat} {most : Int} (hg : 0 ≤ f.green) (hc : 0 ≤ f.clr) (hm : 0 ≤ most) : (showP f i most).length = (f.green + f.clr).toNat := by
  have hk : 0 ≤ minI most f.clr ∧ minI most f.clr ≤ f.clr := by unfold minI; split <;> omega
  unfold showP
  split
  · split
    · simp only [List.length_append, List.length_replicate]; omega
    · simp only [List.length_append, List.length_replicate]; omega
  · simp
end Go.Proofs.YtlpkafhapmkkfaaGreatDoor

/- The change from one plan to another, as Lean data. No walk. -/
namespace Go.Proofs.YtlpkafhapmkkfaaGreatDoor
open Go.RowKit
set_option linter.unusedVariables false

/-- the seconds at which one of the first k parts of a begins with the first stage of b. -/
def swTo (ps : List Pth) (a b : List Prt) : Nat → List Int
  | 0 => []
  | k + 1 => if (prAt a k).stage = (prAt b 0).stage then swTo ps a b k ++ [sumTo ps a k] else swTo ps a b k
theorem swTo_yes {ps : List Pth} {a b : List Prt} {k : Nat} (h : (prAt a k).stage = (prAt b 0).stage) : swTo ps a b (k + 1) = swTo ps a b k ++ [sumTo ps a k] := by
  show (if _ then _ else _) = _
  rw [if_pos h]
theorem swTo_no {ps : List Pth} {a b : List Prt} {k : Nat} (h : ¬ (prAt a k).stage = (prAt b 0).stage) : swTo ps a b (k + 1) = swTo ps a b k := by
  show (if _ then _ else _) = _
  rw [if_neg h]
theorem swTo_len (ps : List Pth) (a b : List Prt) : ∀ k, (swTo ps a b k).length ≤ k
  | 0 => Nat.le_refl _
  | k + 1 => by
    have ih := swTo_len ps a b k
    by_cases e : (prAt a k).stage = (prAt b 0).stage
    · rw [swTo_yes e, List.length_append, List.length_singleton]; omega
    · rw [swTo_no e]; omega
/-- what SwitchSeconds answers. -/
def swP (ps : List Pth) (a b : List Prt) : List Int := if isPlan ps a && isPlan ps b then swTo ps a b a.length else []
theorem swP_off {ps : List Pth} {a b : List Prt} (h : (isPlan ps a && isPlan ps b) = false) : swP ps a b = [] := by unfold swP; rw [h]; rfl
theorem swP_on {ps : List Pth} {a b : List Prt} (h1 : isPlan ps a = true) (h2 : isPlan ps b = true) : swP ps a b = swTo ps a b a.length := by unfold swP; rw [h1, h2]; rfl
theorem swP_len (ps : List Pth) (a b : List Prt) : (swP ps a b).length ≤ 6 := by
  cases h1 : isPlan ps a
  · rw [swP_off (by rw [h1]; rfl)]; simp
  · cases h2 : isPlan ps b
    · rw [swP_off (by rw [h1, h2]; rfl)]; simp
    · rw [swP_on h1 h2]
      have := (isPlan_parts h1).1
      have := swTo_len ps a b a.length
      omega
/-- what CanSwitch answers. -/
def canSw (ps : List Pth) (a b : List Prt) : Bool := decide (0 < (swP ps a b).length)
/-- what LightAfter answers. -/
def afterP (ps : List Pth) (a b : List Prt) (t s id : Int) : Int :=
  if inB t 0 200000 && inB s 0 1000000 then (if s < t then lightP ps a s id else lightP ps b (s - t) id) else 0
theorem afterP_off {ps : List Pth} {a b : List Prt} {t s id : Int} (h : (inB t 0 200000 && inB s 0 1000000) = false) : afterP ps a b t s id = 0 := by unfold afterP; rw [h]; rfl
theorem afterP_on {ps : List Pth} {a b : List Prt} {t s id : Int} (h : inB t 0 200000 = true) (h2 : inB s 0 1000000 = true) : afterP ps a b t s id = if s < t then lightP ps a s id else lightP ps b (s - t) id := by unfold afterP; rw [h, h2]; rfl
/-- two stages are the same iff their sets are. -/
theorem maskL_same {ps : List Pth} {x y : List Int} (h1 : isTog ps x = true) (h2 : isTog ps y = true) : maskL ps x = maskL ps y ↔ x = y := by
  obtain ⟨_, _, a2, _, _⟩ := tog_maskL h1
  obtain ⟨_, _, b2, _, _⟩ := tog_maskL h2
  constructor
  · intro e
    rw [a2, b2, e]
  · intro e
    rw [e]
theorem plan_same {ps : List Pth} {a b : List Prt} (h1 : isPlan ps a = true) (h2 : isPlan ps b = true) {k : Nat} (hk : k < a.length) : maskL ps (prAt a k).stage = maskL ps (prAt b 0).stage ↔ (prAt a k).stage = (prAt b 0).stage := by
  obtain ⟨_, _, _, ok1⟩ := isPlan_parts h1
  obtain ⟨⟨hl, _⟩, _, _, ok2⟩ := isPlan_parts h2
  exact maskL_same (okPrt_parts (ok1 k hk)).2.1 (okPrt_parts (ok2 0 (by omega))).2.1

/-! The first second from f on that is one of these. -/
/-- in how many seconds the second s of the cycle n comes, from f on. -/
def comeIn (n f s : Int) : Int := (s - f) % n
def leastL : List Int → Int
  | [] => 0
  | [x] => x
  | x :: y :: l => minI x (leastL (y :: l))
theorem leastL_mem : ∀ {l : List Int}, l ≠ [] → leastL l ∈ l
  | [], h => absurd rfl h
  | [x], _ => by simp [leastL]
  | x :: y :: l, _ => by
    have ih := leastL_mem (l := y :: l) (by simp)
    show minI x (leastL (y :: l)) ∈ _
    unfold minI
    split <;> first | exact List.mem_cons_of_mem _ ih | exact List.mem_cons_self
theorem leastL_le : ∀ {l : List Int} {x : Int}, x ∈ l → leastL l ≤ x
  | [], _, h => by cases h
  | [y], x, h => by
    have : x = y := by simpa using h
    subst this
    exact Int.le_refl _
  | z :: y :: l, x, h => by
    show minI z (leastL (y :: l)) ≤ x
    rcases List.mem_cons.1 h with rfl | h
    · unfold minI; split <;> omega
    · have := leastL_le h
      unfold minI; split <;> omega
/-- what SwitchAt answers. -/
def swAtP (ps : List Pth) (a b : List Prt) (f : Int) : Int :=
  if (swP ps a b).length = 0 then -1 else if inB f 0 100000 then leastL ((swP ps a b).map fun s => f + comeIn (cycleP ps a) f s) else -1
theorem hasI_mem {zs : List Int} {x : Int} : hasI zs x = true ↔ x ∈ zs := by
  unfold hasI
  rw [List.contains_iff_mem]
theorem come_hit {n f s : Int} (hn : 0 < n) (h0 : 0 ≤ s) (h1 : s < n) : (f + comeIn n f s) % n = s := by
  unfold comeIn
  rw [Int.add_emod_emod, show f + (s - f) = s by omega]
  exact Int.emod_eq_of_lt h0 h1
theorem come_bound {n f s : Int} (hn : 0 < n) : 0 ≤ comeIn n f s ∧ comeIn n f s < n := ⟨Int.emod_nonneg _ (by omega), Int.emod_lt_of_pos _ hn⟩
theorem sw_first {zs : List Int} {n f t : Int} (hn : 0 < n) (hz : ∀ s ∈ zs, 0 ≤ s ∧ s < n) (hf : f ≤ t) (hno : ∀ u, f ≤ u → u < t → hasI zs (u % n) = false) (hy : hasI zs (t % n) = true) :
    leastL (zs.map fun s => f + comeIn n f s) = t := by
  have hm := hasI_mem.1 hy
  have htn : t < f + n := by
    by_cases q : t < f + n
    · exact q
    · have := hno (t - n) (by omega) (by omega)
      rw [Int.sub_emod_right, hy] at this
      cases this
  have ht : f + comeIn n f (t % n) = t := by
    unfold comeIn
    rw [Int.emod_sub_emod, Int.emod_eq_of_lt (by omega) (by omega)]
    omega
  have hne : (zs.map fun s => f + comeIn n f s) ≠ [] := by
    intro e
    rw [List.map_eq_nil_iff] at e
    rw [e] at hm
    cases hm
  have h1 : leastL (zs.map fun s => f + comeIn n f s) ≤ t := leastL_le (List.mem_map.2 ⟨t % n, hm, ht⟩)
  obtain ⟨s, hs, he⟩ := List.mem_map.1 (leastL_mem hne)
  obtain ⟨b0, b1⟩ := hz s hs
  have hc := come_bound (n := n) (f := f) (s := s) hn
  have hh := come_hit (f := f) hn b0 b1
  have h2 : ¬ f + comeIn n f s < t := fun q => by
    have := hno (f + comeIn n f s) (by omega) q
    rw [hh, hasI_mem.2 hs] at this
    cases this
  rw [← he] at h1 ⊢
  omega
/-- there is one within a round. -/
theorem sw_within {zs : List Int} {n f t : Int} (hn : 0 < n) (hz : ∀ s ∈ zs, 0 ≤ s ∧ s < n) (h0 : zs ≠ []) (hno : ∀ u, f ≤ u → u < t → hasI zs (u % n) = false) : t < f + n := by
  obtain ⟨s, hs⟩ := List.exists_mem_of_ne_nil _ h0
  obtain ⟨b0, b1⟩ := hz s hs
  have hc := come_bound (n := n) (f := f) (s := s) hn
  have hh := come_hit (f := f) hn b0 b1
  by_cases q : f + comeIn n f s < t
  · have := hno (f + comeIn n f s) (by omega) q
    rw [hh, hasI_mem.2 hs] at this
    cases this
  · omega
theorem swTo_in {ps : List Pth} {a b : List Prt} (h : isPlan ps a = true) : ∀ k, k ≤ a.length → ∀ s ∈ swTo ps a b k, 0 ≤ s ∧ s < sumTo ps a a.length
  | 0, _, s, hs => by cases hs
  | k + 1, hk, s, hs => by
    have ih := swTo_in (b := b) h k (by omega)
    by_cases e : (prAt a k).stage = (prAt b 0).stage
    · rw [swTo_yes e, List.mem_append, List.mem_singleton] at hs
      rcases hs with hs | rfl
      · exact ih s hs
      · have h1 := sumTo_bound h k (by omega)
        have h2 := longAt_bound h (j := k) (by omega)
        have h3 := sumTo_mono h (i := k + 1) (j := a.length) hk (Nat.le_refl _)
        have h4 : sumTo ps a (k + 1) = sumTo ps a k + longAt ps a k := rfl
        omega
    · rw [swTo_no e] at hs
      exact ih s hs
theorem swP_in {ps : List Pth} {a b : List Prt} : ∀ s ∈ swP ps a b, 0 ≤ s ∧ s < cycleP ps a := by
  intro s hs
  cases h1 : isPlan ps a
  · rw [swP_off (by rw [h1]; rfl)] at hs; cases hs
  · cases h2 : isPlan ps b
    · rw [swP_off (by rw [h1, h2]; rfl)] at hs; cases hs
    · rw [swP_on h1 h2] at hs
      rw [cycle_yes h1]
      exact swTo_in h1 _ (Nat.le_refl _) s hs
theorem swP_plan {ps : List Pth} {a b : List Prt} (h : (swP ps a b).length ≠ 0) : isPlan ps a = true := by
  cases h1 : isPlan ps a
  · rw [swP_off (by rw [h1]; rfl)] at h; exact absurd rfl h
  · rfl
theorem swAtP_none {ps : List Pth} {a b : List Prt} {f : Int} (h : (swP ps a b).length = 0) : swAtP ps a b f = -1 := by unfold swAtP; rw [if_pos h]
theorem swAtP_off {ps : List Pth} {a b : List Prt} {f : Int} (h : inB f 0 100000 = false) : swAtP ps a b f = -1 := by
  unfold swAtP
  rw [h]
  split <;> rfl
theorem swAtP_on {ps : List Pth} {a b : List Prt} {f : Int} (h : (swP ps a b).length ≠ 0) (h2 : inB f 0 100000 = true) : swAtP ps a b f = leastL ((swP ps a b).map fun s => f + comeIn (cycleP ps a) f s) := by unfold swAtP; rw [if_neg h, h2]; rfl
end Go.Proofs.YtlpkafhapmkkfaaGreatDoor

/- Chapter 7's model: ClearOf, StaysOpen, Closes, LongestClear. -/
namespace Go.Proofs.YtlpkafhapmkkfaaGreatDoor
open Go.RowKit
set_option linter.unusedVariables false

set_option maxHeartbeats 1000000 in
theorem spec_Closes (A : Option Addr) (n c B : Nat) (zs : List Int) (A2 : Option Addr) (n2 c2 B2 : Nat) (ys : List Int) (w : World) (h : IntsAt .i64 w B A n zs) (h2 : IntsAt .i64 w B2 A2 n2 ys) (hB : B ≤ w.heap.size) (hB2 : B2 ≤ w.heap.size) (hn : n ≤ 4294967296) (hn2 : n2 ≤ 4294967296) :
    Calls Tryz.prog 125 #[.slice A n c, .slice A2 n2 c2] w fun e w' => ∃ v, e = .returned v ∧ Own .i64 3 w' w.heap.size v (closL zs ys) ∧ Below w.heap.size w w' := by
  have hl := h.1
  have own0 := own_bare .i64 3 w
  have hb0 : Below w.heap.size w (w.alloc (.cells #[] 3)) := (Below.refl _ _).alloc (Nat.le_refl _) _
  go_enter Tryz.func125, Tryz.ntmps125
  go_wp2
  go_loopw [5, 6] (fun v i wr => ∃ k : Nat, k ≤ n ∧ i = .int .i64 k ∧ Own .i64 3 wr w.heap.size v (pickL (zs.take k) ys false) ∧ Below w.heap.size w wr) (fun _ i _ => n - (intOf i).toNat)
  case atStart => exact ⟨0, Nat.zero_le _, rfl, by rw [pick_zero]; exact own0, hb0⟩
  case round =>
    clear own0 hb0
    obtain ⟨k, hk, rfl, hown, hbl⟩ := hrel
    have hsz := hbl.size
    by_cases hlt : k < n
    · obtain ⟨ad, rfl, hab, hcell⟩ := h.2 (by omega)
      have hc := (hbl.cell (by rw [add_block]; omega)).trans (hcell k hlt)
      have hL := pick_len_take zs ys false k
      have hyes := fun h => Lib.hid (pick_yes (zs := zs) (ys := ys) (b := false) (k := k) (by omega) h)
      have hno := fun h => Lib.hid (pick_no (zs := zs) (ys := ys) (b := false) (k := k) (by omega) h)
      clear hcell
      generalize zs.getD k 0 = z at *
      generalize pickL (zs.take k) ys false = l at *
      go_wp2_with fail
      refine (spec_l6Has A2 n2 c2 B2 ys z wr (h2.laid hB2 hbl) hn2).mono ?_
      rintro e w1 ⟨rfl, rfl⟩
      cases hh : hasI ys z
      all_goals
        first
        | (have HS := hyes hh
           clear hh hyes hno
           go_wp2_with (at_builtin; refine wpList_app1 rfl _ _ 58 rfl .i64 3 8 Tryz.underlying58 info_i64 w.heap.size _ l rfl hown (by decide) (by omega) _ _ _ wr.heap.size hsz rfl (by simp) ?_; intro v4 w4 hown4 hgrow4 hat4)
           have hb4 := hown.push (Nat.le_refl _) (hbl.alloc hsz _) (by simp; omega) hgrow4
           clear hgrow4 hat4 hown hbl
           go_roundw
           case rel => exact ⟨k + 1, by omega, by go_num, by rw [HS.out]; exact hown4, hb4⟩
           case measure => simp [intOf]; omega)
        | (have HS := hno hh
           clear hh hyes hno
           go_wp2
           go_roundw
           case rel => exact ⟨k + 1, by omega, by go_num, by rw [HS.out]; exact hown, hbl⟩
           case measure => simp [intOf]; omega)
    · obtain rfl : k = n := by omega
      rw [List.take_of_length_le (by omega), pick_false] at hown
      go_wp2
      go_ret
      exact ⟨_, rfl, hown, hbl⟩
theorem spec_ClearOf (p : Pth) (w : World) : Calls Tryz.prog 126 #[p.val] w fun e w' => e = .returned (.int .i64 (clearN p)) ∧ Below w.heap.size w w' := by
  have hr := isP_facts p
  have hcc := fun x => spec_IsPath p x
  have HR : Hid (clearN p = if isP p then (if p.kind = 1 then 2 else if p.kind = 2 then 5 else 3) else 0) := Lib.hid rfl
  obtain ⟨a, b, c, d⟩ := p
  simp only [Pth.val] at *
  have hb0 := (Below.refl w.heap.size w).alloc (Nat.le_refl _) (.cells #[.int .i64 a, .int .i64 b, .int .i64 c, .int .i64 d] 67)
  have HB0 := Lib.hid hb0
  clear hb0
  go_enter Tryz.func126, Tryz.ntmps126
  go_wp2_with fail
  refine (hcc _).mono ?_
  rintro e w1 ⟨rfl, hb1⟩
  have HB := Lib.hid (HB0.out.trans (hb1.mono HB0.out.size))
  have k0 : w1.cell? ⟨w.heap.size, 1, none⟩ = some (.int .i64 b) := (hb1.cell (p := ⟨w.heap.size, 1, none⟩) (by simp)).trans (by go_simp)
  have hlt : w.heap.size < w1.heap.size := by have := hb1.size; simp at this; omega
  clear hb1 hcc
  cases hp : isP ⟨a, b, c, d⟩
  · rw [hp] at HR
    clear hr hp
    go_wp2
    go_ret
    exact ⟨by rw [HR.out]; rfl, HB.out⟩
  · rw [hp] at HR
    obtain ⟨_, ⟨b1, b2⟩, _⟩ := hr hp
    clear hr hp
    have hb : b = 1 ∨ b = 2 ∨ b = 3 := by omega
    rcases hb with rfl | rfl | rfl
    all_goals
      go_wp2
      go_ret
      exact ⟨by rw [HR.out]; rfl, HB.out.alloc HB.out.size _⟩
end Go.Proofs.YtlpkafhapmkkfaaGreatDoor

/- ClearBetween: the model. -/
namespace Go.Proofs.YtlpkafhapmkkfaaGreatDoor
open Go.RowKit
set_option linter.unusedVariables false

theorem tog_find {ps : List Pth} {ids : List Int} (h : isTog ps ids = true) {x : Int} (hx : x ∈ ids) : ∃ j, findK x ps = some j := by
  obtain ⟨ha, m, hm, e, _, _⟩ := tog_stage h
  rw [e] at hx
  obtain ⟨j, h1, rfl⟩ := (idsM_mem (arePs_len12 ha) hm x).1 hx
  exact ⟨j, findK_of ha (bit_in hm h1)⟩
theorem clos_sub {a b : List Int} {k : Nat} (hk : k < (closL a b).length) : (closL a b).getD k 0 ∈ a := by
  have : (closL a b).getD k 0 ∈ closL a b := by rw [List.getD_eq_getElem?_getD, List.getElem?_eq_getElem hk]; exact List.getElem_mem hk
  exact (List.mem_filter.1 this).1
theorem clos_path {ps : List Pth} {a b : List Int} (h : isTog ps a = true) {k : Nat} (hk : k < (closL a b).length) : ∃ j p, findK ((closL a b).getD k 0) ps = some j ∧ ps[j]? = some p ∧ idP ps ((closL a b).getD k 0) = p := by
  obtain ⟨j, hj⟩ := tog_find h (clos_sub hk)
  obtain ⟨p, hp, _⟩ := findK_at hj
  exact ⟨j, p, hj, hp, by unfold idP; rw [hj]; exact pAt_some hp⟩
theorem fI_of {ps : List Pth} {id : Int} {k : Nat} (h : findK id ps = some k) : findI id ps = (k : Int) := by unfold findI; rw [h]
set_option maxHeartbeats 4000000 in
set_option maxRecDepth 100000 in
theorem spec_ClearBetween (A : Option Addr) (n c B : Nat) (ps : List Pth) (A2 : Option Addr) (n2 c2 B2 : Nat) (za : List Int) (A3 : Option Addr) (n3 c3 B3 : Nat) (zb : List Int) (w : World) (h : PthsAt w B A n ps) (hB : B ≤ w.heap.size) (hn : n ≤ 4294967296) (h2 : IntsAt .i64 w B2 A2 n2 za) (hB2 : B2 ≤ w.heap.size) (hn2 : n2 ≤ 4294967296) (h3 : IntsAt .i64 w B3 A3 n3 zb) (hB3 : B3 ≤ w.heap.size) (hn3 : n3 ≤ 4294967296) :
    Calls Tryz.prog 100 #[.slice A n c, .slice A2 n2 c2, .slice A3 n3 c3] w fun e w' => e = .returned (.int .i64 (clrB ps za zb)) ∧ Below w.heap.size w w' := by
  have hl := h.1
  have hl2 := h2.1
  have hl3 := h3.1
  have hxl : (closL za zb).length ≤ za.length := List.length_filter_le _ _
  have hyl : (closL zb za).length ≤ zb.length := List.length_filter_le _ _
  have HOFF := Lib.hid (fun hh => clrB_off (ps := ps) (a := za) (b := zb) hh)
  have HON := Lib.hid (fun q1 q2 => clrB_on (ps := ps) (a := za) (b := zb) q1 q2)
  have HXP := Lib.hid (fun (q : isTog ps za = true) k hk => clos_path (b := zb) (k := k) q hk)
  have HYP := Lib.hid (fun (q : isTog ps zb = true) k hk => clos_path (b := za) (k := k) q hk)
  have HCA := Lib.hid (spec_Closes A2 n2 c2 B2 za A3 n3 c3 B3 zb w h2 h3 hB2 hB3 hn2 hn3)
  have HTA := Lib.hid (fun x (hx : Below w.heap.size w x) => spec_IsTogether A n c B ps A2 n2 c2 B2 za x (h.below (hx.mono hB)) (h2.laid hB2 hx) (Nat.le_trans hB hx.size) (Nat.le_trans hB2 hx.size) hn hn2)
  have HTB := Lib.hid (fun x (hx : Below w.heap.size w x) => spec_IsTogether A n c B ps A3 n3 c3 B3 zb x (h.below (hx.mono hB)) (h3.laid hB3 hx) (Nat.le_trans hB hx.size) (Nat.le_trans hB3 hx.size) hn hn3)
  have HSS := Lib.hid (fun (ys : List Int) (p : Pth) (m : Nat) (hm : m < ys.length) => hold_succ (ps := ps) (p := p) (ys := ys) (k := m) hm)
  have HCS : Hid (∀ xs ys k, clrTo ps xs ys (k + 1) = clrIn (clrTo ps xs ys k) (idP ps (xs.getD k 0)) (holdTo ps (idP ps (xs.getD k 0)) ys ys.length)) := Lib.hid (fun _ _ _ => rfl)
  go_enter Tryz.func100, Tryz.ntmps100
  go_wp2_with fail
  refine HCA.out.mono ?_
  rintro e w1 ⟨v1, rfl, ho1, hb1⟩
  have HCB := Lib.hid (spec_Closes A3 n3 c3 B3 zb A2 n2 c2 B2 za w1 (h3.laid hB3 hb1) (h2.laid hB2 hb1) (Nat.le_trans hB3 hb1.size) (Nat.le_trans hB2 hb1.size) hn3 hn2)
  have HB1 := Lib.hid hb1
  clear hb1 HCA
  generalize closL za zb = X at *
  generalize closL zb za = Y at *
  go_wp2_with fail
  refine HCB.out.mono ?_
  rintro e w2 ⟨v2, rfl, ho2, hb2⟩
  have ho1' := ho1.below hb2
  obtain ⟨A4, c4, rfl⟩ := ho1'.sliced
  obtain ⟨A5, c5, rfl⟩ := ho2.sliced
  have HB2 := Lib.hid (HB1.out.trans (hb2.mono HB1.out.size))
  have hX := ho1'.ints
  have hY := ho2.ints
  clear hb2 ho1 ho2 ho1' HCB
  have HP := Lib.hid h
  go_wp2
  go_loopw [7, 10] (fun x i wr => ∃ (k : Nat) (q : Int), k ≤ X.length ∧ i = .int .i64 k ∧ x = .int .i64 q ∧ q = clrTo ps X Y k ∧ (0 < k → isTog ps za = true ∧ isTog ps zb = true) ∧ Below w2.heap.size w2 wr) (fun _ i _ => X.length - (intOf i).toNat)
  case atStart => exact ⟨0, 0, Nat.zero_le _, rfl, rfl, rfl, fun hh => absurd hh (by omega), Below.refl _ _⟩
  case round =>
    obtain ⟨k, q, hk, rfl, rfl, hq, hgo, hbl⟩ := hrel
    have hsz := hbl.size
    have HG := Lib.hid hgo
    have HQ := Lib.hid hq
    have HBW := Lib.hid (HB2.out.trans (hbl.mono HB2.out.size))
    clear hgo hq
    by_cases hlt : k < X.length
    · go_wp2_with fail
      refine (HTA.out wr HBW.out).mono ?_
      rintro e w3 ⟨rfl, hb3⟩
      have HB3 := Lib.hid (HBW.out.trans (hb3.mono HBW.out.size))
      have HL3 := Lib.hid (hbl.trans (hb3.mono hsz))
      clear hb3
      cases hta : isTog ps za
      · have hk0 : k = 0 := by
          by_cases e : 0 < k
          · have := (HG.out e).1; rw [hta] at this; cases this
          · omega
        have HR : Hid (clrB ps za zb = q) := Lib.hid (by rw [HOFF.out (by rw [hta]; rfl), HQ.out, hk0]; rfl)
        clear hta hk0
        go_wp2
        go_ret
        exact ⟨by rw [HR.out]; try rfl, HB3.out⟩
      have HA := Lib.hid hta
      clear hta
      go_wp2_with fail
      refine (HTB.out w3 HB3.out).mono ?_
      rintro e w4 ⟨rfl, hb4⟩
      have HB4 := Lib.hid (HB3.out.trans (hb4.mono HB3.out.size))
      have HL4 := Lib.hid (HL3.out.trans (hb4.mono HL3.out.size))
      clear hb4
      cases htb : isTog ps zb
      · have hk0 : k = 0 := by
          by_cases e : 0 < k
          · have := (HG.out e).2; rw [htb] at this; cases this
          · omega
        have HR : Hid (clrB ps za zb = q) := Lib.hid (by rw [HOFF.out (by rw [htb, Bool.and_false]), HQ.out, hk0]; rfl)
        clear htb hk0
        go_wp2
        go_ret
        exact ⟨by rw [HR.out]; try rfl, HB4.out⟩
      have HTB2 := Lib.hid htb
      clear htb hbl
      obtain ⟨j, p, hj, hp, hip⟩ := HXP.out HA.out k hlt
      have HJ := Lib.hid (fI_of hj)
      have HPJ := Lib.hid hp
      have HIP := Lib.hid hip
      have hjl : j < n := by have := (List.getElem?_eq_some_iff.1 hp).1; omega
      have HSK : Hid (clrTo ps X Y (k + 1) = clrIn q p (holdTo ps p Y Y.length)) := Lib.hid (by rw [HCS.out, HIP.out, HQ.out])
      have HZK : Hid (q = clrIn q p (holdTo ps p Y 0)) := Lib.hid (by rw [hold_zero]; rfl)
      clear hj hp hip
      go_wp2
      go_loopw [7, 11] (fun x i wr => ∃ (m : Nat) (t : Int), m ≤ Y.length ∧ i = .int .i64 m ∧ x = .int .i64 t ∧ t = clrIn q p (holdTo ps p Y m) ∧ Below w2.heap.size w2 wr) (fun _ i _ => Y.length - (intOf i).toNat)
      case atStart => exact ⟨0, q, Nat.zero_le _, rfl, rfl, HZK.out, HL4.out⟩
      case round =>
        clear HL4 HB4 HL3 HB3 HBW hsz
        obtain ⟨m, t, hm, rfl, rfl, ht, hbl⟩ := hrel
        have hsz := hbl.size
        have HT := Lib.hid ht
        clear ht
        have HBW := Lib.hid (HB2.out.trans (hbl.mono HB2.out.size))
        by_cases hlt2 : m < Y.length
        · obtain ⟨j2, p2, hj2, hp2, hip2⟩ := HYP.out HTB2.out m hlt2
          have hjl2 : j2 < n := by have := (List.getElem?_eq_some_iff.1 hp2).1; omega
          obtain ⟨ax, eax, hax, hxc⟩ := hX.2 (by omega)
          obtain ⟨ay, eay, hay, hyc⟩ := hY.2 (by omega)
          have hcx := (hbl.cell (p := ax.add k) (by rw [add_block]; omega)).trans (hxc k hlt)
          have hcy := (hbl.cell (p := ay.add m) (by rw [add_block]; omega)).trans (hyc m hlt2)
          obtain ⟨ad, p', ead, hab, hp', hqp⟩ := HP.out.at hjl
          obtain ⟨ad2, p2', ead2, hab2, hp2', hqp2⟩ := HP.out.at hjl2
          rw [HPJ.out] at hp'
          rw [hp2] at hp2'
          injection hp' with hp'
          injection hp2' with hp2'
          subst hp'
          subst hp2'
          subst eax
          subst eay
          subst ead
          injection ead2 with ead2
          subst ead2
          obtain ⟨c0, c1, c2', c3'⟩ := hqp.below HBW.out (by omega)
          have HF1 := Lib.hid (spec_FindPath (some ad) n c B ps (X.getD k 0) wr (HP.out.below (HBW.out.mono hB)) hn)
          have HHS := Lib.hid (HSS.out Y p m hlt2)
          rw [hip2] at HHS
          have HJ2 := Lib.hid (fI_of hj2)
          have HQ2 := Lib.hid hqp2
          have HYC := Lib.hid (hyc m hlt2)
          have HJP := Lib.hid HJ.out
          clear hj2 hp2 hip2 hxc hyc hqp
          generalize X.getD k 0 = x at *
          generalize Y.getD m 0 = y at *
          have hbA := (Below.refl wr.heap.size wr).alloc (Nat.le_refl _) (.cells #[.int .i64 p.id, .int .i64 p.kind, .int .i64 p.frm, .int .i64 p.to] 67)
          have HBA := Lib.hid (hbl.trans (hbA.mono hsz))
          have HBAW := Lib.hid (HBW.out.trans (hbA.mono HBW.out.size))
          have HPB : Hid (PthAt (wr.alloc (.cells #[.int .i64 p.id, .int .i64 p.kind, .int .i64 p.frm, .int .i64 p.to] 67)) ⟨wr.heap.size, 0, none⟩ p) := Lib.hid (pth_of_block (heap_alloc_new wr _))
          have HSA : Hid ((wr.alloc (.cells #[.int .i64 p.id, .int .i64 p.kind, .int .i64 p.frm, .int .i64 p.to] 67)).heap.size = wr.heap.size + 1) := Lib.hid (by simp)
          clear hbA hbl
          go_wp2_with fail
          refine HF1.out.mono ?_
          rw [HJP.out]
          rintro e w5 ⟨rfl, rfl⟩
          obtain ⟨wA, hwA⟩ : ∃ wA, wA = wr.alloc (.cells #[.int .i64 p.id, .int .i64 p.kind, .int .i64 p.frm, .int .i64 p.to] 67) := ⟨_, rfl⟩
          rw [← hwA] at HBA HBAW HPB HSA
          have HPX := Lib.hid (fun x : GW wA => pth_head (HPB.out.below x.ok (by have := HSA.out; simp only; omega)))
          have HWX := Lib.hid (fun x : GW wA => HBAW.out.trans (x.ok.mono HBAW.out.size))
          go_wp2
          rw [← hwA]
          clear hwA c0 c1 c2' c3'
          have b0 := fun x : GW wA => (HPX.out x).1
          have b1 := fun x : GW wA => (HPX.out x).2.1
          have b2 := fun x : GW wA => (HPX.out x).2.2.1
          have b3 := fun x : GW wA => (HPX.out x).2.2.2
          try simp only at b0 b1 b2 b3
          have q0 := fun x : GW wA => (HQ2.out.below (HWX.out x) (by omega)).c0
          have q1 := fun x : GW wA => (HQ2.out.below (HWX.out x) (by omega)).c1
          have q2 := fun x : GW wA => (HQ2.out.below (HWX.out x) (by omega)).c2
          have q3 := fun x : GW wA => (HQ2.out.below (HWX.out x) (by omega)).c3
          have yc := fun x : GW wA => ((HBA.out.trans (x.ok.mono HBA.out.size)).cell (p := ay.add m) (by rw [add_block]; omega)).trans HYC.out
          have hff := fun x : GW wA => spec_FindPath (some ad) n c B ps y x.val (HP.out.below ((HWX.out x).mono hB)) hn
          have hcf := fun x : GW wA => spec_Conflict p p2 x.val
          simp only [HJ2.out] at hff
          simp only [Pth.val] at hcf
          have k1 : (0 : Int) ≤ (j2 : Int) := by omega
          have k2 : (j2 : Int) < (n : Int) := by omega
          have k3 : (0 : Int) ≤ (m : Int) := by omega
          have k4 : (m : Int) < (Y.length : Int) := by omega
          have HMX := Lib.hid (fun (u : Int) => clrIn_yes q p (holdTo ps p Y m))
          cases hcv : conf p p2
          · rw [hcv] at HHS
            have HT2 : Hid (t = clrIn q p (holdTo ps p Y (m + 1))) := Lib.hid (by rw [HHS.out, Bool.or_false]; exact HT.out)
            rw [hcv] at hcf
            clear hcv HHS HMX
            refine wp_region_grow (by kernel_rfl) (by kernel_rfl) ?_
            repeat (go_big_quiet_step (first | (go_at_call 86; exact calls_gw_same _ (hff _)) | (go_at_call 118; exact calls_gw _ (hcf _))))
            refine wpQuiet_nil ?_
            intro x5
            have hb5 := HBA.out.trans (x5.ok.mono HBA.out.size)
            clear b0 b1 b2 b3 q0 q1 q2 q3 yc hff hcf
            generalize x5.val = w5 at *
            go_wp2
            go_roundw
            case rel => exact ⟨m + 1, t, by omega, by go_num, rfl, HT2.out, hb5⟩
            case measure => simp [intOf]; omega
          · rw [hcv] at HHS
            have HT2 : Hid (maxI t (clearN p) = clrIn q p (holdTo ps p Y (m + 1))) := Lib.hid (by rw [HHS.out, Bool.or_true, HT.out]; exact HMX.out 0)
            rw [hcv] at hcf
            clear hcv HHS HMX
            refine wp_region_grow (by kernel_rfl) (by kernel_rfl) ?_
            repeat (go_big_quiet_step (first | (go_at_call 86; exact calls_gw_same _ (hff _)) | (go_at_call 118; exact calls_gw _ (hcf _))))
            refine wpQuiet_nil ?_
            intro x5
            have hb5 := HBA.out.trans (x5.ok.mono HBA.out.size)
            have e0 := b0 x5
            have e1 := b1 x5
            have e2 := b2 x5
            have e3 := b3 x5
            clear b0 b1 b2 b3 q0 q1 q2 q3 yc hff hcf
            generalize x5.val = w5 at *
            have HCO := Lib.hid (spec_ClearOf p w5)
            have HB5 := Lib.hid hb5
            clear hb5
            go_wp2_with fail
            refine HCO.out.mono ?_
            rintro e w6 ⟨rfl, hb6⟩
            have HB6 := Lib.hid (HB5.out.trans (hb6.mono HB5.out.size))
            clear hb6 e0 e1 e2 e3
            generalize clearN p = cn at *
            go_wp2_with fail
            refine (spec_Max _ _ _).mono ?_
            rintro e w7 ⟨rfl, rfl⟩
            go_wp2
            go_roundw
            case rel => exact ⟨m + 1, _, by omega, by go_num, rfl, HT2.out, HB6.out⟩
            case measure => simp [intOf]; omega
        · obtain rfl : m = Y.length := by omega
          have HN : Hid (t = clrTo ps X Y (k + 1)) := Lib.hid (by rw [HSK.out, HT.out])
          go_wp2
          go_roundw
          case rel => exact ⟨k + 1, t, by omega, by go_num, rfl, HN.out, fun _ => ⟨HA.out, HTB2.out⟩, hbl⟩
          case measure => simp [intOf]; omega
    · obtain rfl : k = X.length := by omega
      have HR : Hid (clrB ps za zb = q) := Lib.hid (by
        by_cases e : 0 < X.length
        · rw [HON.out (HG.out e).1 (HG.out e).2, HQ.out]
        · have e0 : X.length = 0 := by omega
          cases hta : isTog ps za
          · rw [HOFF.out (by rw [hta]; rfl), HQ.out, e0]; rfl
          · cases htb : isTog ps zb
            · rw [HOFF.out (by rw [htb, Bool.and_false]), HQ.out, e0]; rfl
            · rw [HON.out hta htb, HQ.out])
      go_wp2
      go_ret
      exact ⟨by rw [HR.out]; try rfl, HBW.out⟩
end Go.Proofs.YtlpkafhapmkkfaaGreatDoor

/- LeastGreen: model and program. -/
namespace Go.Proofs.YtlpkafhapmkkfaaGreatDoor
open Go.RowKit
set_option linter.unusedVariables false

set_option maxHeartbeats 1000000 in
theorem spec_LeastGreen (A : Option Addr) (n c B : Nat) (ps : List Pth) (A2 : Option Addr) (n2 c2 B2 : Nat) (zs : List Int) (w : World) (h : PthsAt w B A n ps) (h2 : IntsAt .i64 w B2 A2 n2 zs) (hB : B ≤ w.heap.size) (hB2 : B2 ≤ w.heap.size) (hn : n ≤ 4294967296) (hn2 : n2 ≤ 4294967296) :
    Calls Tryz.prog 54 #[.slice A n c, .slice A2 n2 c2] w fun e w' => e = .returned (.int .i64 (leastG ps zs)) ∧ Below w.heap.size w w' := by
  have hl := h.1
  have hl2 := h2.1
  go_enter Tryz.func54, Tryz.ntmps54
  go_wp2
  go_loopw [5] (fun i wr => ∃ k : Nat, k ≤ n2 ∧ i = .int .i64 k ∧ (∀ j, j < k → walkId ps (zs.getD j 0) = false) ∧ Below w.heap.size w wr) (fun i _ => n2 - (intOf i).toNat)
  case atStart => exact ⟨0, Nat.zero_le _, rfl, fun j hj => absurd hj (by omega), Below.refl _ _⟩
  case round =>
    obtain ⟨k, hk, rfl, hno, hbl⟩ := hrel
    have hsz := hbl.size
    have HN := Lib.hid hno
    clear hno
    by_cases hlt : k < n2
    · obtain ⟨ad2, rfl, hab2, hcell⟩ := h2.2 (by omega)
      have hc := (hbl.cell (by rw [add_block]; omega)).trans (hcell k hlt)
      have hyes := fun h => Lib.hid (leastG_yes (ps := ps) (zs := zs) (k := k) (by omega) h)
      have hstep := fun (h1 : walkId ps (zs.getD k 0) = false) => Lib.hid (show ∀ j, j < k + 1 → walkId ps (zs.getD j 0) = false from fun j hj => by
        by_cases e : j = k
        · subst e; exact h1
        · exact HN.out j (by omega))
      clear hcell
      generalize zs.getD k 0 = id at *
      go_wp2_with fail
      refine (spec_FindPath A n c B ps id wr (h.below (hbl.mono hB)) hn).mono ?_
      cases hf : findK id ps
      · rw [fI_no hf]
        rintro e w1 ⟨rfl, rfl⟩
        have HS := hstep (walkId_none hf)
        clear hf hyes hstep
        go_wp2
        go_roundw
        case rel => exact ⟨k + 1, by omega, by go_num, HS.out, hbl⟩
        case measure => simp [intOf]; omega
      · rename_i m
        rw [fI_some hf]
        rintro e w1 ⟨rfl, rfl⟩
        have hml := fK_lt hf
        obtain ⟨ad, p, rfl, hab, hp, hq⟩ := h.at (k := m) (by omega)
        have HB1 := Lib.hid (hbl)
        obtain ⟨c0, c1, c2', c3⟩ := hq.below HB1.out (by omega)
        by_cases hkd : p.kind = 2
        · have HR := hyes (by rw [walkId_some hf, pAt_some hp]; exact decide_eq_true hkd)
          have e1 : (p.kind == 2) = true := by simpa using hkd
          clear hf hyes hstep hq hp hkd
          go_wp2
          go_ret
          exact ⟨by rw [HR.out]; try rfl, HB1.out⟩
        · have HS := hstep (by rw [walkId_some hf, pAt_some hp]; exact decide_eq_false hkd)
          have e1 : (p.kind == 2) = false := by simpa using hkd
          clear hf hyes hstep hq hp hkd
          go_wp2
          go_roundw
          case rel => exact ⟨k + 1, by omega, by go_num, HS.out, HB1.out⟩
          case measure => simp [intOf]; omega
    · obtain rfl : k = n2 := by omega
      have HR : Hid (leastG ps zs = 5) := Lib.hid (leastG_no fun j hj => HN.out j (by omega))
      go_wp2
      go_ret
      exact ⟨by rw [HR.out]; try rfl, hbl⟩
set_option maxHeartbeats 1000000 in
theorem impl_LeastGreen (A : Option Addr) (n c B : Nat) (ps : List Pth) (A2 : Option Addr) (n2 c2 B2 : Nat) (zs : List Int) (w : World) (h : PthsAt w B A n ps) (h2 : IntsAt .i64 w B2 A2 n2 zs) (hB : B ≤ w.heap.size) (hB2 : B2 ≤ w.heap.size) (hn : n ≤ 4294967296) (hn2 : n2 ≤ 4294967296) :
    Calls Tryz.prog 63 #[.slice A n c, .slice A2 n2 c2] w fun e w' => e = .returned (.int .i64 (leastG ps zs)) ∧ Below w.heap.size w w' := by
  have hl := h.1
  have hl2 := h2.1
  go_enter Tryz.func63, Tryz.ntmps63
  go_wp2
  go_loopw [10] (fun i wr => ∃ k : Nat, k ≤ n2 ∧ i = .int .i64 k ∧ (∀ j, j < k → walkId ps (zs.getD j 0) = false) ∧ Below w.heap.size w wr) (fun i _ => n2 - (intOf i).toNat)
  case atStart => exact ⟨0, Nat.zero_le _, rfl, fun j hj => absurd hj (by omega), Below.refl _ _⟩
  case round =>
    obtain ⟨k, hk, rfl, hno, hbl⟩ := hrel
    have hsz := hbl.size
    have HN := Lib.hid hno
    clear hno
    by_cases hlt : k < n2
    · obtain ⟨ad2, rfl, hab2, hcell⟩ := h2.2 (by omega)
      have hc := (hbl.cell (by rw [add_block]; omega)).trans (hcell k hlt)
      have hyes := fun h => Lib.hid (leastG_yes (ps := ps) (zs := zs) (k := k) (by omega) h)
      have hstep := fun (h1 : walkId ps (zs.getD k 0) = false) => Lib.hid (show ∀ j, j < k + 1 → walkId ps (zs.getD j 0) = false from fun j hj => by
        by_cases e : j = k
        · subst e; exact h1
        · exact HN.out j (by omega))
      clear hcell
      generalize zs.getD k 0 = id at *
      go_wp2_with fail
      refine (impl_FindPath A n c B ps id wr (h.below (hbl.mono hB)) (by omega) hn).mono ?_
      cases hf : findK id ps
      · rw [fI_no hf]
        rintro e w1 ⟨rfl, hb1⟩
        have HS := hstep (walkId_none hf)
        clear hf hyes hstep
        go_wp2
        go_roundw
        case rel => exact ⟨k + 1, by omega, by go_num, HS.out, hbl.trans (hb1.mono hsz)⟩
        case measure => simp [intOf]; omega
      · rename_i m
        rw [fI_some hf]
        rintro e w1 ⟨rfl, hb1⟩
        have hml := fK_lt hf
        obtain ⟨ad, p, rfl, hab, hp, hq⟩ := h.at (k := m) (by omega)
        have HB1 := Lib.hid (hbl.trans (hb1.mono hsz))
        obtain ⟨c0, c1, c2', c3⟩ := hq.below HB1.out (by omega)
        by_cases hkd : p.kind = 2
        · have HR := hyes (by rw [walkId_some hf, pAt_some hp]; exact decide_eq_true hkd)
          have e1 : (p.kind == 2) = true := by simpa using hkd
          clear hf hyes hstep hq hp hkd
          go_wp2
          go_ret
          exact ⟨by rw [HR.out]; try rfl, HB1.out⟩
        · have HS := hstep (by rw [walkId_some hf, pAt_some hp]; exact decide_eq_false hkd)
          have e1 : (p.kind == 2) = false := by simpa using hkd
          clear hf hyes hstep hq hp hkd
          go_wp2
          go_roundw
          case rel => exact ⟨k + 1, by omega, by go_num, HS.out, HB1.out⟩
          case measure => simp [intOf]; omega
    · obtain rfl : k = n2 := by omega
      have HR : Hid (leastG ps zs = 5) := Lib.hid (leastG_no fun j hj => HN.out j (by omega))
      go_wp2
      go_ret
      exact ⟨by rw [HR.out]; try rfl, hbl⟩
theorem sp_LeastGreen (A0 : Option Addr) (n0 c0 : Nat) (zs0 : List Pth) (A1 : Option Addr) (n1 c1 : Nat) (zs1 : List Int) (w : World) (h0 : SlP w A0 n0 c0 zs0) (hs0 : n0 ≤ 1048576) (h1 : Sl .i64 w A1 n1 c1 zs1) (hs1 : n1 ≤ 1048576) (r : Int) (hr : leastG zs0 zs1 = r) :
    Calls Tryz.prog 54 #[.slice A0 n0 c0, .slice A1 n1 c1] w fun e w' => e = .returned (.int .i64 r) ∧ Below w.heap.size w w' := by
  subst hr
  exact spec_LeastGreen A0 n0 c0 _ zs0 A1 n1 c1 _ zs1 w h0.pths h1.ints (Nat.le_refl _) (Nat.le_refl _) h0.small (by omega)
theorem im_LeastGreen (A0 : Option Addr) (n0 c0 : Nat) (zs0 : List Pth) (A1 : Option Addr) (n1 c1 : Nat) (zs1 : List Int) (w : World) (h0 : SlP w A0 n0 c0 zs0) (hs0 : n0 ≤ 1048576) (h1 : Sl .i64 w A1 n1 c1 zs1) (hs1 : n1 ≤ 1048576) (r : Int) (hr : leastG zs0 zs1 = r) :
    Calls Tryz.prog 63 #[.slice A0 n0 c0, .slice A1 n1 c1] w fun e w' => e = .returned (.int .i64 r) ∧ Below w.heap.size w w' := by
  subst hr
  exact impl_LeastGreen A0 n0 c0 _ zs0 A1 n1 c1 _ zs1 w h0.pths h1.ints (Nat.le_refl _) (Nat.le_refl _) h0.small (by omega)
end Go.Proofs.YtlpkafhapmkkfaaGreatDoor

/- Chapter 8's model: IsPlan, Cycle, StartOf. -/
namespace Go.Proofs.YtlpkafhapmkkfaaGreatDoor
open Go.RowKit
set_option linter.unusedVariables false

theorem own_row0 (w : World) (E : TypeId) (s : Nat) : (w.alloc (.cells #[] E)).ownsRow w.heap.size E s (.slice (some ⟨w.heap.size, 0, none⟩) 0 0) 0 [] := ⟨by simp, .inr ⟨w.heap.size, 0, #[], rfl, Nat.le_refl _, heap_alloc_new w _, Nat.le_refl _, by decide, by simp, by simp⟩⟩
theorem IntsAt.two' {w wr x : World} {B : Nat} {A : Option Addr} {n : Nat} {zs : List Int} (h : IntsAt .i64 w B A n zs) (hB : B ≤ w.heap.size) (hb : Below w.heap.size w wr) (hx : Below wr.heap.size wr x) : IntsAt .i64 x B A n zs := (h.laid hB hb).laid (Nat.le_trans hB hb.size) hx
set_option maxHeartbeats 2000000 in
theorem spec_l8Stages (A : Option Addr) (n c B : Nat) (p : List Prt) (w : World) (h : PrtsAt w B A n p) (hB : B ≤ w.heap.size) (hn : n ≤ 1048576) :
    Calls Tryz.prog 85 #[.slice A n c] w fun e w' => ∃ A' c', e = .returned (.slice A' n c') ∧ SSAt w' w'.heap.size A' n (stgsOf p) ∧ Below w.heap.size w w' := by
  have hl := h.1
  have hr0 : (w.alloc (.cells #[] 58)).ownsRow w.heap.size 58 1 (.slice (some ⟨w.heap.size, 0, none⟩) 0 0) 0 [] := own_row0 _ _ _
  have hb0 : Below w.heap.size w (w.alloc (.cells #[] 58)) := (Below.refl _ _).alloc (Nat.le_refl _) _
  go_enter Tryz.func85, Tryz.ntmps85
  go_wp2
  go_loopw [3, 4] (fun v i wr => ∃ (k : Nat) (us : List Value), k ≤ n ∧ i = .int .i64 k ∧ wr.ownsRow w.heap.size 58 1 v k us ∧ (∀ j, j < k → ∃ A' m c', us[j]? = some (.slice A' m c') ∧ IntsAt .i64 w B A' m (prAt p j).stage ∧ m ≤ c' ∧ (A' = none → m = 0 ∧ c' = 0)) ∧ Below w.heap.size w wr) (fun _ i _ => n - (intOf i).toNat)
  case atStart => exact ⟨0, [], Nat.zero_le _, rfl, hr0, fun j hj => absurd hj (by omega), hb0⟩
  case round =>
    clear hr0 hb0
    obtain ⟨k, us, hk, rfl, hown, heach, hbl⟩ := hrel
    have hsz := hbl.size
    have HE := Lib.hid heach
    clear heach
    by_cases hlt : k < n
    · obtain ⟨ad, A', m, c', rfl, hab, hq, hi, hmc, hnil⟩ := h.at hlt
      obtain ⟨c0, c1⟩ := hq.below hbl (by omega)
      have hul : us.length = k := by have := hown.1; omega
      have HE2 : Hid (∀ j, j < k + 1 → ∃ A'' m' c'', (us ++ [.slice A' m c'])[j]? = some (.slice A'' m' c'') ∧ IntsAt .i64 w B A'' m' (prAt p j).stage ∧ m' ≤ c'' ∧ (A'' = none → m' = 0 ∧ c'' = 0)) := Lib.hid (fun j hj => by
        by_cases e : j < k
        · obtain ⟨A1, m1, c1, q1, q2⟩ := HE.out j e
          exact ⟨A1, m1, c1, by rw [List.getElem?_append_left (by omega)]; exact q1, q2⟩
        · obtain rfl : j = k := by omega
          exact ⟨A', m, c', by rw [List.getElem?_append_right (by omega), hul, Nat.sub_self]; rfl, hi, hmc.1, hnil⟩)
      clear hq hi hul
      go_wp2_with (at_builtin; refine wpList_appR1 rfl _ _ 50 rfl 58 (.slice none 0 0) 1 24 Tryz.underlying50 info_ints rfl (by decide) (by decide) w.heap.size _ _ _ rfl hown (by omega) [.slice A' m c'] rfl (by simp [Value.oneCell']) _ _ wr.heap.size hsz rfl (by simp) ?_; intro v4 w4 hown4 hgrow4 hat4)
      have hb4 := ownr_push hown (Nat.le_refl _) (hbl.alloc hsz _) (by simp; omega) hgrow4
      clear hgrow4 hat4 hown hbl
      go_roundw
      case rel => exact ⟨k + 1, _, by omega, by go_num, hown4, HE2.out, hb4⟩
      case measure => simp [intOf]; omega
    · obtain rfl : k = n := by omega
      obtain ⟨Av, cv, rfl⟩ := ownr_sliced hown
      have HSS : Hid (SSAt wr wr.heap.size Av k (stgsOf p)) := Lib.hid ⟨by rw [stgsOf_len]; exact hl, fun h0 => by
        obtain ⟨ad, e, hb, hc⟩ := (ownr_cells hown).2 (by omega)
        refine ⟨ad, e, hb, fun j hj => ?_⟩
        obtain ⟨A1, m1, c1, q1, q2, q3, q4⟩ := HE.out j hj
        exact ⟨A1, m1, c1, hc _ _ q1, by rw [stgsOf_at (by omega)]; exact (q2.laid hB hbl).up (Nat.le_trans hB hsz), q3, q4⟩⟩
      go_wp2
      go_ret
      exact ⟨_, _, rfl, HSS.out, hbl⟩
set_option maxHeartbeats 4000000 in
set_option maxRecDepth 100000 in
theorem spec_IsPlan (A : Option Addr) (n c B : Nat) (ps : List Pth) (A2 : Option Addr) (n2 c2 B2 : Nat) (p : List Prt) (w : World) (h : PthsAt w B A n ps) (hB : B ≤ w.heap.size) (hn : n ≤ 4294967296) (h2 : PrtsAt w B2 A2 n2 p) (hB2 : B2 ≤ w.heap.size) (hn2 : n2 ≤ 1048576) (hm : ∀ j, j < n2 → (prAt p j).stage.length ≤ 1048576) :
    Calls Tryz.prog 38 #[.slice A n c, .slice A2 n2 c2] w fun e w' => e = .returned (.bool (isPlan ps p)) ∧ Below w.heap.size w w' := by
  have hl2 := h2.1
  have HM := Lib.hid hm
  have HNO := Lib.hid (fun j (hj : j < n2) hh => isPlan_no (ps := ps) (p := p) (j := j) (by omega) hh)
  have HS8 := Lib.hid (fun x (hx : Below w.heap.size w x) => spec_l8Stages A2 n2 c2 B2 p x (h2.below hB2 hx) (Nat.le_trans hB2 hx.size) hn2)
  clear hm
  cases hin : inB (p.length : Int) 1 6
  · have HR := Lib.hid (isPlan_len (ps := ps) hin)
    have HI := Lib.hid (spec_l1In (n2 : Int) 1 6 w)
    rw [← hl2] at HI
    have HIN := Lib.hid hin
    clear hin
    go_enter Tryz.func38, Tryz.ntmps38
    go_wp2_with fail
    rw [← hl2]
    refine HI.out.mono ?_
    rw [HIN.out]
    rintro e w1 ⟨rfl, rfl⟩
    go_wp2
    go_ret
    exact ⟨by rw [HR.out]; try rfl, Below.refl _ _⟩
  have HEND := Lib.hid (fun hh => isPlan_end (ps := ps) hin hh)
  have hin6 := inB_t hin
  have HIN : Hid (inB (n2 : Int) 1 6 = true) := Lib.hid (by rw [← hl2]; exact hin)
  have HL2 := Lib.hid hl2
  clear hin hl2
  go_enter Tryz.func38, Tryz.ntmps38
  go_wp2_with fail
  refine (spec_l1In _ _ _ _).mono ?_
  rw [HIN.out]
  rintro e w1 ⟨rfl, rfl⟩
  go_wp2
  go_loopw [5] (fun i wr => ∃ k : Nat, k ≤ n2 ∧ i = .int .i64 k ∧ (∀ j, j < k → okPrt ps (prAt p j) = true) ∧ Below w.heap.size w wr) (fun i _ => n2 - (intOf i).toNat)
  case atStart => exact ⟨0, Nat.zero_le _, rfl, fun j hj => absurd hj (by omega), Below.refl _ _⟩
  case round =>
    obtain ⟨k, hk, rfl, hgo, hbl⟩ := hrel
    have hsz := hbl.size
    have HG := Lib.hid hgo
    clear hgo
    by_cases hlt : k < n2
    · obtain ⟨ad, A', m, c', rfl, hab, hq, hi, hmc, hnil⟩ := h2.at hlt
      have hmk := HM.out k hlt
      have hlz := hi.1
      have hok : okPrt ps (prAt p k) = (!decide ((prAt p k).stage.length = 0) && isTog ps (prAt p k).stage && inB (prAt p k).green (leastG ps (prAt p k).stage) 60) := rfl
      have HOK := Lib.hid hok
      have HNK := Lib.hid (HNO.out k hlt)
      have HGK : Hid (okPrt ps (prAt p k) = true → ∀ j, j < k + 1 → okPrt ps (prAt p j) = true) := Lib.hid (fun hh j hj => by
        by_cases e : j = k
        · subst e; exact hh
        · exact HG.out j (by omega))
      have c0 := fun x : GW wr => ((hq.below hbl (by omega)).below x.ok (by omega)).c0
      have c1 := fun x : GW wr => ((hq.below hbl (by omega)).below x.ok (by omega)).c1
      have HIX := Lib.hid (fun x : GW wr => hi.two' hB2 hbl x.ok)
      have HWX := Lib.hid (fun x : GW wr => hbl.trans (x.ok.mono hsz))
      have i1 : (0 : Int) ≤ (k : Int) := by omega
      have i2 : (k : Int) < (n2 : Int) := by omega
      clear hq hi hok
      generalize (prAt p k).stage = zs at *
      generalize (prAt p k).green = g at *
      have hT := fun x : GW wr => spec_IsTogether A n c B ps A' m c' B2 zs x.val (h.below ((HWX.out x).mono hB)) (HIX.out x) (Nat.le_trans hB (HWX.out x).size) (Nat.le_trans hB2 (HWX.out x).size) hn (by omega)
      have hLG := fun x : GW wr => spec_LeastGreen A n c B ps A' m c' B2 zs x.val (h.below ((HWX.out x).mono hB)) (HIX.out x) (Nat.le_trans hB (HWX.out x).size) (Nat.le_trans hB2 (HWX.out x).size) hn (by omega)
      have hIN := fun x : GW wr => spec_l1In g (leastG ps zs) 60 x.val
      rw [hlz] at HOK
      clear hlz hmk HIX HWX
      by_cases hm0 : m = 0
      · have HR := Lib.hid (HNK.out (by rw [HOK.out, decide_eq_true hm0]; rfl))
        have e1 : ((m : Int) == 0) = true := by simp [hm0]
        clear hm0
        go_wp2
        refine wp_region_grow (by kernel_rfl) (by kernel_rfl) ?_
        repeat (go_big_quiet_step (first | (go_at_call 83; exact calls_gw _ (hT _)) | (go_at_call 54; exact calls_gw _ (hLG _)) | (go_at_call 66; exact calls_gw_same _ (hIN _))))
        refine wpQuiet_nil ?_
        intro x3
        have hb3 := x3.ok
        clear c0 c1 hT hLG hIN
        generalize x3.val = w3 at *
        go_wp2
        go_ret
        exact ⟨by rw [HR.out]; try rfl, hbl.trans (hb3.mono hsz)⟩
      have e1 : ((m : Int) == 0) = false := by simpa using hm0
      cases ht : isTog ps zs
      · have HR := Lib.hid (HNK.out (by rw [HOK.out, ht, Bool.and_false]; rfl))
        rw [ht] at hT
        clear ht hm0
        go_wp2
        refine wp_region_grow (by kernel_rfl) (by kernel_rfl) ?_
        repeat (go_big_quiet_step (first | (go_at_call 83; exact calls_gw _ (hT _)) | (go_at_call 54; exact calls_gw _ (hLG _)) | (go_at_call 66; exact calls_gw_same _ (hIN _))))
        refine wpQuiet_nil ?_
        intro x3
        have hb3 := x3.ok
        clear c0 c1 hT hLG hIN
        generalize x3.val = w3 at *
        go_wp2
        go_ret
        exact ⟨by rw [HR.out]; try rfl, hbl.trans (hb3.mono hsz)⟩
      cases hg : inB g (leastG ps zs) 60
      · have HR := Lib.hid (HNK.out (by rw [HOK.out, hg, Bool.and_false]))
        rw [ht] at hT
        rw [hg] at hIN
        clear ht hm0 hg
        generalize leastG ps zs = lg at *
        go_wp2
        refine wp_region_grow (by kernel_rfl) (by kernel_rfl) ?_
        repeat (go_big_quiet_step (first | (go_at_call 83; exact calls_gw _ (hT _)) | (go_at_call 54; exact calls_gw _ (hLG _)) | (go_at_call 66; exact calls_gw_same _ (hIN _))))
        refine wpQuiet_nil ?_
        intro x3
        have hb3 := x3.ok
        clear c0 c1 hT hLG hIN
        generalize x3.val = w3 at *
        go_wp2
        go_ret
        exact ⟨by rw [HR.out]; try rfl, hbl.trans (hb3.mono hsz)⟩
      · have HR := Lib.hid (HGK.out (by rw [HOK.out, ht, hg, decide_eq_false hm0]; rfl))
        rw [ht] at hT
        rw [hg] at hIN
        clear ht hm0 hg
        generalize leastG ps zs = lg at *
        go_wp2
        refine wp_region_grow (by kernel_rfl) (by kernel_rfl) ?_
        repeat (go_big_quiet_step (first | (go_at_call 83; exact calls_gw _ (hT _)) | (go_at_call 54; exact calls_gw _ (hLG _)) | (go_at_call 66; exact calls_gw_same _ (hIN _))))
        refine wpQuiet_nil ?_
        intro x3
        have hb3 := x3.ok
        clear c0 c1 hT hLG hIN
        generalize x3.val = w3 at *
        go_wp2
        go_roundw
        case rel => exact ⟨k + 1, by omega, by go_num, HR.out, hbl.trans (hb3.mono hsz)⟩
        case measure => simp [intOf]; omega
    · obtain rfl : k = n2 := by omega
      have HR := Lib.hid (HEND.out fun j hj => HG.out j (by have := HL2.out; omega))
      have HS := Lib.hid (HS8.out wr hbl)
      have HBL := Lib.hid hbl
      clear hbl
      go_wp2_with fail
      refine HS.out.mono ?_
      rintro e w3 ⟨A4, c4, rfl, hss, hb3⟩
      have HB3 := Lib.hid (HBL.out.trans (hb3.mono HBL.out.size))
      have HCV := Lib.hid (spec_Covers A n c B ps A4 k c4 w3.heap.size (stgsOf p) w3 (h.below (HB3.out.mono hB)) hss (Nat.le_trans hB HB3.out.size) (Nat.le_refl _) hn (by omega) (fun j hj => by rw [stgsOf_at (by have := HL2.out; omega)]; have := HM.out j hj; omega))
      clear hb3 hss
      go_wp2_with fail
      refine HCV.out.mono ?_
      rintro e w4 ⟨rfl, hb4⟩
      go_wp2
      go_ret
      exact ⟨by rw [HR.out]; try rfl, HB3.out.trans (hb4.mono HB3.out.size)⟩
set_option maxHeartbeats 2000000 in
theorem spec_l8Long (A : Option Addr) (n c B : Nat) (ps : List Pth) (A2 : Option Addr) (n2 c2 B2 : Nat) (p : List Prt) (k : Nat) (w : World) (h : PthsAt w B A n ps) (hB : B ≤ w.heap.size) (hn : n ≤ 4294967296) (h2 : PrtsAt w B2 A2 n2 p) (hB2 : B2 ≤ w.heap.size) (hn2 : n2 ≤ 1048576) (hm : ∀ j, j < n2 → (prAt p j).stage.length ≤ 1048576) (hk : k < n2) (hg : -1000 ≤ (prAt p k).green ∧ (prAt p k).green ≤ 1000) :
    Calls Tryz.prog 111 #[.slice A n c, .slice A2 n2 c2, .int .i64 k] w fun e w' => e = .returned (.int .i64 (longAt ps p k)) ∧ Below w.heap.size w w' := by
  have hl2 := h2.1
  have hnx : nextJ p k < n2 := by have := nextJ_lt (p := p) (j := k) (by omega); omega
  have e1 : IntKind.i64.wrap ((k : Int) + 1) = (k : Int) + 1 := by rw [IntKind.wrap_i64]; omega
  have e2 : ((k : Int) + 1).tmod (n2 : Int) = ((nextJ p k : Nat) : Int) := by
    unfold nextJ
    rw [hl2, Int.tmod_eq_emod_of_nonneg (by omega), Int.natCast_emod, Int.natCast_add]
    rfl
  have hcb := clrAt_bound ps p k
  have e3 : IntKind.i64.wrap ((prAt p k).green + clrAt ps p k) = longAt ps p k := by
    unfold longAt
    rw [IntKind.wrap_i64]
    omega
  have HL : Hid (clrAt ps p k = clrB ps (prAt p k).stage (prAt p (nextJ p k)).stage) := Lib.hid rfl
  have hm1 := hm k hk
  have hm2 := hm _ hnx
  obtain ⟨ad, A', m, c', rfl, hab, hq, hi, hmc, hnil⟩ := h2.at hk
  obtain ⟨ad', A3, m3, c3, ea, hab3, hq3, hi3, hmc3, hnil3⟩ := h2.at hnx
  obtain rfl : ad = ad' := by injection ea
  clear ea
  have hlz := hi.1
  have hlz3 := hi3.1
  have HIX := Lib.hid (fun x : GW w => hi.laid hB2 x.ok)
  have HIX3 := Lib.hid (fun x : GW w => hi3.laid hB2 x.ok)
  have c0 := fun x : GW w => (hq.below x.ok (by omega)).c0
  have c1 := fun x : GW w => (hq.below x.ok (by omega)).c1
  have d0 := fun x : GW w => (hq3.below x.ok (by omega)).c0
  have i1 : (0 : Int) ≤ (k : Int) := by omega
  have i2 : (k : Int) < (n2 : Int) := by omega
  have z1 : ¬ n2 = 0 := by omega
  have z2 : ¬ (n2 : Int) = 0 := by omega
  generalize nextJ p k = nx at *
  have i3 : (0 : Int) ≤ (nx : Int) := by omega
  have i4 : (nx : Int) < (n2 : Int) := by omega
  generalize (prAt p nx).stage = zb at *
  generalize (prAt p k).stage = za at *
  generalize (prAt p k).green = g at *
  have hCB := fun x : GW w => spec_ClearBetween A n c B ps A' m c' B2 za A3 m3 c3 B2 zb x.val (h.below (x.ok.mono hB)) (Nat.le_trans hB x.ok.size) hn (HIX.out x) (Nat.le_trans hB2 x.ok.size) (by omega) (HIX3.out x) (Nat.le_trans hB2 x.ok.size) (by omega)
  rw [← HL.out] at hCB
  generalize clrAt ps p k = cl at *
  generalize longAt ps p k = r at *
  clear HL hlz hlz3 hm1 hm2 HIX HIX3 hq hi hq3 hi3 hl2 hm hg hcb hmc hmc3 hnil hnil3 hk hnx
  go_enter Tryz.func111, Tryz.ntmps111
  go_wp2
  refine wp_region_grow (by kernel_rfl) (by kernel_rfl) ?_
  repeat (go_big_quiet_step (first | (go_at_call 100; exact calls_gw _ (hCB _))))
  refine wpQuiet_nil ?_
  intro x3
  have hb3 := x3.ok
  clear c0 c1 d0 hCB
  generalize x3.val = w3 at *
  go_wp2
  go_ret
  exact ⟨rfl, hb3⟩
theorem plan_green {ps : List Pth} {p : List Prt} (h : isPlan ps p = true) {k : Nat} (hk : k < p.length) : -1000 ≤ (prAt p k).green ∧ (prAt p k).green ≤ 1000 := by
  obtain ⟨_, _, _, h4⟩ := isPlan_parts h
  obtain ⟨_, _, h5, h6⟩ := okPrt_parts (h4 k hk)
  have := leastG_bound ps (prAt p k).stage
  omega
theorem sum_wrap {ps : List Pth} {p : List Prt} (h : isPlan ps p = true) {k : Nat} (hk : k < p.length) : wrap64 (sumTo ps p k + longAt ps p k) = sumTo ps p (k + 1) := by
  obtain ⟨⟨_, h6⟩, _⟩ := isPlan_parts h
  have h1 := sumTo_bound h k (by omega)
  have h2 := longAt_bound h hk
  show _ = sumTo ps p k + longAt ps p k
  unfold wrap64
  omega
theorem isPlan_zero {ps : List Pth} {p : List Prt} (h : p.length = 0) : isPlan ps p = false := isPlan_len (by rw [h]; rfl)
set_option maxHeartbeats 2000000 in
theorem spec_Cycle (A : Option Addr) (n c B : Nat) (ps : List Pth) (A2 : Option Addr) (n2 c2 B2 : Nat) (p : List Prt) (w : World) (h : PthsAt w B A n ps) (hB : B ≤ w.heap.size) (hn : n ≤ 4294967296) (h2 : PrtsAt w B2 A2 n2 p) (hB2 : B2 ≤ w.heap.size) (hn2 : n2 ≤ 1048576) (hm : ∀ j, j < n2 → (prAt p j).stage.length ≤ 1048576) :
    Calls Tryz.prog 89 #[.slice A n c, .slice A2 n2 c2] w fun e w' => e = .returned (.int .i64 (cycleP ps p)) ∧ Below w.heap.size w w' := by
  have hl2 := h2.1
  have HIP := Lib.hid (fun x (hx : Below w.heap.size w x) => spec_IsPlan A n c B ps A2 n2 c2 B2 p x (h.below (hx.mono hB)) (Nat.le_trans hB hx.size) hn (h2.below hB2 hx) (Nat.le_trans hB2 hx.size) hn2 hm)
  have HL8 := Lib.hid (fun k x (hx : Below w.heap.size w x) (hk : k < n2) hg => spec_l8Long A n c B ps A2 n2 c2 B2 p k x (h.below (hx.mono hB)) (Nat.le_trans hB hx.size) hn (h2.below hB2 hx) (Nat.le_trans hB2 hx.size) hn2 hm hk hg)
  have HGR := Lib.hid (fun (hh : isPlan ps p = true) k (hk : k < n2) => plan_green hh (show k < p.length by omega))
  have HSM := Lib.hid (fun (hh : isPlan ps p = true) k (hk : k < n2) => sum_wrap hh (show k < p.length by omega))
  have HY : Hid (isPlan ps p = true → cycleP ps p = sumTo ps p n2) := Lib.hid (fun hh => by rw [cycle_yes hh, hl2])
  have HN := Lib.hid (fun (hh : isPlan ps p = false) => cycle_no hh)
  have HZ : Hid (n2 = 0 → isPlan ps p = false) := Lib.hid (fun hh => isPlan_zero (by omega))
  clear hl2 hm h h2 hB hB2
  go_enter Tryz.func89, Tryz.ntmps89
  go_wp2
  go_loopw [5, 6] (fun x i wr => ∃ (k : Nat) (q : Int), k ≤ n2 ∧ i = .int .i64 k ∧ x = .int .i64 q ∧ q = sumTo ps p k ∧ (0 < k → isPlan ps p = true) ∧ Below w.heap.size w wr) (fun _ i _ => n2 - (intOf i).toNat)
  case atStart => exact ⟨0, 0, Nat.zero_le _, rfl, rfl, rfl, fun hh => absurd hh (by omega), Below.refl _ _⟩
  case round =>
    obtain ⟨k, q, hk, rfl, rfl, hq, hgo, hbl⟩ := hrel
    have HGO := Lib.hid hgo
    have HQ := Lib.hid hq
    have HBW := Lib.hid hbl
    clear hgo hq hbl
    by_cases hlt : k < n2
    · go_wp2_with fail
      refine (HIP.out wr HBW.out).mono ?_
      cases hp : isPlan ps p
      · have HR : Hid (cycleP ps p = q) := Lib.hid (by
          rw [HN.out hp, HQ.out]
          by_cases e : 0 < k
          · have := HGO.out e
            rw [hp] at this
            cases this
          · obtain rfl : k = 0 := by omega
            rfl)
        rintro e w3 ⟨rfl, hb3⟩
        have HB3 := Lib.hid (HBW.out.trans (hb3.mono HBW.out.size))
        clear hb3 hp
        go_wp2
        go_ret
        exact ⟨by rw [HR.out]; try rfl, HB3.out⟩
      · rintro e w3 ⟨rfl, hb3⟩
        have HB3 := Lib.hid (HBW.out.trans (hb3.mono HBW.out.size))
        have HL := Lib.hid (HL8.out k w3 HB3.out hlt (HGR.out hp k hlt))
        have hS := HSM.out hp k hlt
        rw [← HQ.out] at hS
        have HS := Lib.hid hS
        have HP := Lib.hid hp
        clear hb3 hp hS
        generalize longAt ps p k = lo at *
        go_wp2_with fail
        refine HL.out.mono ?_
        rintro e w4 ⟨rfl, hb4⟩
        have HB4 := Lib.hid (HB3.out.trans (hb4.mono HB3.out.size))
        clear hb4
        go_wp2
        go_roundw
        case rel => exact ⟨k + 1, _, by omega, by go_num, rfl, HS.out, fun _ => HP.out, HB4.out⟩
        case measure => simp [intOf]; omega
    · obtain rfl : k = n2 := by omega
      have HR : Hid (cycleP ps p = q) := Lib.hid (by
        rw [HQ.out]
        by_cases e : 0 < k
        · exact HY.out (HGO.out e)
        · obtain rfl : k = 0 := by omega
          exact HN.out (HZ.out rfl))
      go_wp2
      go_ret
      exact ⟨by rw [HR.out]; try rfl, HBW.out⟩
set_option maxHeartbeats 2000000 in
theorem spec_StartOf (A : Option Addr) (n c B : Nat) (ps : List Pth) (A2 : Option Addr) (n2 c2 B2 : Nat) (p : List Prt) (a : Int) (w : World) (h : PthsAt w B A n ps) (hB : B ≤ w.heap.size) (hn : n ≤ 4294967296) (h2 : PrtsAt w B2 A2 n2 p) (hB2 : B2 ≤ w.heap.size) (hn2 : n2 ≤ 1048576) (hm : ∀ j, j < n2 → (prAt p j).stage.length ≤ 1048576) :
    Calls Tryz.prog 136 #[.slice A n c, .slice A2 n2 c2, .int .i64 a] w fun e w' => e = .returned (.int .i64 (startP ps p a)) ∧ Below w.heap.size w w' := by
  have hl2 := h2.1
  have HIP := Lib.hid (fun x (hx : Below w.heap.size w x) => spec_IsPlan A n c B ps A2 n2 c2 B2 p x (h.below (hx.mono hB)) (Nat.le_trans hB hx.size) hn (h2.below hB2 hx) (Nat.le_trans hB2 hx.size) hn2 hm)
  have HL8 := Lib.hid (fun k x (hx : Below w.heap.size w x) (hk : k < n2) hg => spec_l8Long A n c B ps A2 n2 c2 B2 p k x (h.below (hx.mono hB)) (Nat.le_trans hB hx.size) hn (h2.below hB2 hx) (Nat.le_trans hB2 hx.size) hn2 hm hk hg)
  have HGR := Lib.hid (fun (hh : isPlan ps p = true) k (hk : k < n2) => plan_green hh (show k < p.length by omega))
  have HSM := Lib.hid (fun (hh : isPlan ps p = true) k (hk : k < n2) => sum_wrap hh (show k < p.length by omega))
  have e1 : IntKind.i64.wrap ((n2 : Int) - 1) = (n2 : Int) - 1 := by rw [IntKind.wrap_i64]; omega
  have hst : startP ps p a = if isPlan ps p && inB a 0 ((n2 : Int) - 1) then sumTo ps p a.toNat else -1 := by unfold startP; rw [hl2]
  have HST := Lib.hid hst
  clear hl2 hm h h2 hB hB2 hst
  go_enter Tryz.func136, Tryz.ntmps136
  go_wp2_with fail
  refine (HIP.out w (Below.refl _ _)).mono ?_
  cases hp : isPlan ps p
  · have HR : Hid (startP ps p a = -1) := Lib.hid (by rw [HST.out, hp]; rfl)
    rintro e w3 ⟨rfl, hb3⟩
    clear hp
    go_wp2
    go_ret
    exact ⟨by rw [HR.out]; try rfl, hb3⟩
  rintro e w3 ⟨rfl, hb3⟩
  have HB3 := Lib.hid hb3
  have HP := Lib.hid hp
  clear hb3 hp
  have HIN := Lib.hid (spec_l1In a 0 ((n2 : Int) - 1) w3)
  go_wp2_with fail
  refine HIN.out.mono ?_
  cases hi : inB a 0 ((n2 : Int) - 1)
  · have HR : Hid (startP ps p a = -1) := Lib.hid (by rw [HST.out, hi, Bool.and_false]; rfl)
    rintro e w4 ⟨rfl, rfl⟩
    clear hi
    go_wp2
    go_ret
    exact ⟨by rw [HR.out]; try rfl, HB3.out⟩
  rintro e w4 ⟨rfl, rfl⟩
  have hab := inB_t hi
  obtain ⟨m, rfl⟩ : ∃ m : Nat, a = (m : Int) := ⟨a.toNat, by omega⟩
  have hmn : m < n2 := by omega
  have HR : Hid (startP ps p (m : Int) = sumTo ps p m) := Lib.hid (by rw [HST.out, hi, HP.out]; rfl)
  clear hi hab HST HIN
  go_wp2
  go_loopw [7, 8] (fun x i wr => ∃ (k : Nat) (q : Int), k ≤ m ∧ i = .int .i64 k ∧ x = .int .i64 q ∧ q = sumTo ps p k ∧ Below w.heap.size w wr) (fun _ i _ => m - (intOf i).toNat)
  case atStart => exact ⟨0, 0, Nat.zero_le _, rfl, rfl, rfl, HB3.out⟩
  case round =>
    obtain ⟨k, q, hk, rfl, rfl, hq, hbl⟩ := hrel
    have HQ := Lib.hid hq
    have HBW := Lib.hid hbl
    clear hq hbl
    by_cases hlt : k < m
    · have HL := Lib.hid (HL8.out k wr HBW.out (by omega) (HGR.out HP.out k (by omega)))
      have hS := HSM.out HP.out k (by omega)
      rw [← HQ.out] at hS
      have HS := Lib.hid hS
      clear hS
      generalize longAt ps p k = lo at *
      go_wp2_with fail
      refine HL.out.mono ?_
      rintro e w5 ⟨rfl, hb5⟩
      have HB5 := Lib.hid (HBW.out.trans (hb5.mono HBW.out.size))
      clear hb5
      go_wp2
      go_roundw
      case rel => exact ⟨k + 1, _, by omega, by go_num, rfl, HS.out, HB5.out⟩
      case measure => simp [intOf]; omega
    · obtain rfl : k = m := by omega
      have HR2 : Hid (startP ps p (k : Int) = q) := Lib.hid (by rw [HR.out, HQ.out])
      go_wp2
      go_ret
      exact ⟨by rw [HR2.out]; try rfl, HBW.out⟩
end Go.Proofs.YtlpkafhapmkkfaaGreatDoor

/- Chapter 9's model: PartAt. -/
namespace Go.Proofs.YtlpkafhapmkkfaaGreatDoor
open Go.RowKit
set_option linter.unusedVariables false

theorem part_off {ps : List Pth} {p : List Prt} {t : Int} (h : (isPlan ps p && inB t 0 1000000) = false) : partP ps p t = (-1, 0) := by unfold partP; rw [h]; rfl
theorem part_on {ps : List Pth} {p : List Prt} {t : Int} (h : isPlan ps p = true) (ht : inB t 0 1000000 = true) {k : Nat} {q : Int} (hk : k < p.length) (hq : q = t % sumTo ps p p.length - sumTo ps p k) (h0 : 0 ≤ q) (h1 : q < longAt ps p k) : partP ps p t = ((k : Int), q) := by
  have e : locP ps p (t % sumTo ps p p.length) = k := locD_eq h (by omega) (by show _ < sumTo ps p k + longAt ps p k; omega) (by omega) (by omega)
  unfold partP
  rw [h, ht, e, ← hq]
  rfl
set_option maxHeartbeats 4000000 in
set_option maxRecDepth 100000 in
theorem spec_l9Light (A : Option Addr) (n c B : Nat) (ps : List Pth) (A2 : Option Addr) (n2 c2 B2 : Nat) (p : List Prt) (k : Nat) (s id : Int) (m : Nat) (w : World) (h : PthsAt w B A n ps) (hB : B ≤ w.heap.size) (hn : n ≤ 4294967296) (h2 : PrtsAt w B2 A2 n2 p) (hB2 : B2 ≤ w.heap.size) (hn2 : n2 ≤ 1048576) (hm : ∀ j, j < n2 → (prAt p j).stage.length ≤ 1048576) (hk : k < n2) (hf : findK id ps = some m) (hs : -1000000 ≤ s ∧ s ≤ 1000000) (hg : -1000 ≤ (prAt p k).green ∧ (prAt p k).green ≤ 1000) :
    Calls Tryz.prog 112 #[.slice A n c, .slice A2 n2 c2, .int .i64 k, .int .i64 s, .int .i64 id] w fun e w' => e = .returned (.int .i64 (lightJ ps p k s id)) ∧ Below w.heap.size w w' := by
  have hl := h.1
  have hl2 := h2.1
  have hnx : nextJ p k < n2 := by have := nextJ_lt (p := p) (j := k) (by omega); omega
  have e1 : IntKind.i64.wrap ((k : Int) + 1) = (k : Int) + 1 := by rw [IntKind.wrap_i64]; omega
  have e2 : ((k : Int) + 1).tmod (n2 : Int) = ((nextJ p k : Nat) : Int) := by
    unfold nextJ
    rw [hl2, Int.tmod_eq_emod_of_nonneg (by omega), Int.natCast_emod, Int.natCast_add]
    rfl
  have hlj : lightJ ps p k s id = if hasI (prAt p k).stage id then (if decide (s < (prAt p k).green) || hasI (prAt p (nextJ p k)).stage id then 1 else if s < (prAt p k).green + clearN (pAt ps m) then 2 else 0) else 0 := by unfold lightJ idP; rw [hf]; rfl
  have HLJ := Lib.hid hlj
  have hml := findK_at hf
  have hfi : findI id ps = (m : Int) := by unfold findI; rw [hf]
  have hmn : m < n := by
    obtain ⟨q, hq, _⟩ := hml
    have := (List.getElem?_eq_some_iff.1 hq).1
    omega
  have hcb := clearN_bound (pAt ps m)
  have hm1 := hm k hk
  have hm2 := hm _ hnx
  obtain ⟨ad, A', mm, c', rfl, hab, hq, hi, hmc, hnil⟩ := h2.at hk
  obtain ⟨ad', A3, m3, c3, ea, hab3, hq3, hi3, hmc3, hnil3⟩ := h2.at hnx
  obtain rfl : ad = ad' := by injection ea
  clear ea
  have hlz := hi.1
  have hlz3 := hi3.1
  have c0 := hq.c0
  have c1 := hq.c1
  have d0 := hq3.c0
  have g1 := fun x : GW w => (hq.below x.ok (by omega)).c1
  have hH1 := spec_l6Has A' mm c' B2 (prAt p k).stage id w hi (by omega)
  have hH2 := spec_l6Has A3 m3 c3 B2 (prAt p (nextJ p k)).stage id w hi3 (by omega)
  have i1 : (0 : Int) ≤ (k : Int) := by omega
  have i2 : (k : Int) < (n2 : Int) := by omega
  have z1 : ¬ n2 = 0 := by omega
  have z2 : ¬ (n2 : Int) = 0 := by omega
  have e3 : IntKind.i64.wrap ((prAt p k).green + clearN (pAt ps m)) = (prAt p k).green + clearN (pAt ps m) := by rw [IntKind.wrap_i64]; omega
  generalize nextJ p k = nx at *
  have i3 : (0 : Int) ≤ (nx : Int) := by omega
  have i4 : (nx : Int) < (n2 : Int) := by omega
  generalize (prAt p nx).stage = zb at *
  generalize (prAt p k).stage = za at *
  generalize (prAt p k).green = g at *
  have hFP := fun x : GW w => spec_FindPath A n c x.val.heap.size ps id x.val ((h.below (x.ok.mono hB)).up (Nat.le_trans hB x.ok.size)) hn
  rw [hfi] at hFP
  obtain ⟨pd, pp0, rfl, hpb, hpe, hpc⟩ := h.at hmn
  obtain rfl : pAt ps m = pp0 := pAt_some hpe
  clear hpe
  have q0 := fun x : GW w => (hpc.below x.ok (by omega)).c0
  have q1 := fun x : GW w => (hpc.below x.ok (by omega)).c1
  have q2 := fun x : GW w => (hpc.below x.ok (by omega)).c2
  have q3 := fun x : GW w => (hpc.below x.ok (by omega)).c3
  have j1 : (0 : Int) ≤ (m : Int) := by omega
  have j2 : (m : Int) < (n : Int) := by omega
  generalize pAt ps m = pp at *
  have hCO := fun x : GW w => spec_ClearOf pp x.val
  unfold Pth.val at hCO
  generalize clearN pp = cl at *
  clear hlj hml hfi hcb hm1 hm2 hq hi hq3 hi3 hmc hmc3 hnil hnil3 hm hlz hlz3 hl hl2 hpc hnx hk hf hg h h2
  have H1 := Lib.hid hH1
  have H2 := Lib.hid hH2
  clear hH1 hH2
  go_enter Tryz.func112, Tryz.ntmps112
  go_wp2_with fail
  refine H1.out.mono ?_
  cases ha : hasI za id
  · have HR : Hid (lightJ ps p k s id = 0) := Lib.hid (by rw [HLJ.out, ha]; rfl)
    rintro e w1 ⟨rfl, rfl⟩
    clear ha HLJ
    go_wp2
    refine wp_region_grow (by kernel_rfl) (by kernel_rfl) ?_
    repeat (go_big_quiet_step (first | (go_at_call 126; exact calls_gw _ (hCO _)) | (go_at_call 86; exact calls_gw_same _ (hFP _))))
    refine wpQuiet_nil ?_
    intro x3
    have hb3 := x3.ok
    clear q0 q1 q2 q3 hCO hFP
    generalize x3.val = w3 at *
    go_wp2
    go_ret
    exact ⟨by rw [HR.out]; try rfl, hb3⟩
  by_cases hlt : s < g
  · have HR : Hid (lightJ ps p k s id = 1) := Lib.hid (by rw [HLJ.out, ha, decide_eq_true hlt]; rfl)
    rintro e w1 ⟨rfl, rfl⟩
    clear ha HLJ g1 q0 q1 q2 q3 hCO hFP
    go_wp2
    go_ret
    exact ⟨by rw [HR.out]; try rfl, Below.refl _ _⟩
  rintro e w1 ⟨rfl, rfl⟩
  go_wp2_with fail
  refine H2.out.mono ?_
  cases hb : hasI zb id
  · rintro e w1 ⟨rfl, rfl⟩
    by_cases h5 : s < g + cl
    · have HR : Hid (lightJ ps p k s id = 2) := Lib.hid (by rw [HLJ.out, ha, hb, decide_eq_false (show ¬ s < g by omega), if_pos rfl, if_neg (by decide), if_pos h5])
      clear ha hb HLJ
      go_wp2
      refine wp_region_grow (by kernel_rfl) (by kernel_rfl) ?_
      repeat (go_big_quiet_step (first | (go_at_call 126; exact calls_gw _ (hCO _)) | (go_at_call 86; exact calls_gw_same _ (hFP _))))
      refine wpQuiet_nil ?_
      intro x3
      have hb3 := x3.ok
      clear q0 q1 q2 q3 hCO hFP
      generalize x3.val = w3 at *
      go_wp2
      go_ret
      exact ⟨by rw [HR.out]; try rfl, hb3⟩
    · have HR : Hid (lightJ ps p k s id = 0) := Lib.hid (by rw [HLJ.out, ha, hb, decide_eq_false (show ¬ s < g by omega), if_pos rfl, if_neg (by decide), if_neg (show ¬ s < g + cl by omega)])
      clear ha hb HLJ
      go_wp2
      refine wp_region_grow (by kernel_rfl) (by kernel_rfl) ?_
      repeat (go_big_quiet_step (first | (go_at_call 126; exact calls_gw _ (hCO _)) | (go_at_call 86; exact calls_gw_same _ (hFP _))))
      refine wpQuiet_nil ?_
      intro x3
      have hb3 := x3.ok
      clear q0 q1 q2 q3 hCO hFP
      generalize x3.val = w3 at *
      go_wp2
      go_ret
      exact ⟨by rw [HR.out]; try rfl, hb3⟩
  · have HR : Hid (lightJ ps p k s id = 1) := Lib.hid (by rw [HLJ.out, ha, hb, Bool.or_true]; rfl)
    rintro e w1 ⟨rfl, rfl⟩
    clear ha hb HLJ g1 q0 q1 q2 q3 hCO hFP
    go_wp2
    go_ret
    exact ⟨by rw [HR.out]; try rfl, Below.refl _ _⟩
theorem part_yes {ps : List Pth} {p : List Prt} {t : Int} (h : isPlan ps p = true) (ht : inB t 0 1000000 = true) (id : Int) : ∃ (k : Nat) (q : Int), k < p.length ∧ partP ps p t = ((k : Int), q) ∧ 0 ≤ q ∧ q ≤ 65 ∧ lightP ps p t id = if (findK id ps).isSome then lightJ ps p k q id else 0 := by
  have hb := cycle_bound h
  rw [cycle_yes h] at hb
  have h0 := Int.emod_nonneg t (show sumTo ps p p.length ≠ 0 by omega)
  have h1 := Int.emod_lt_of_pos t (show 0 < sumTo ps p p.length by omega)
  have hs := locP_spec h h0 h1
  have hl := locP_lt h (t % sumTo ps p p.length)
  have hlb := longAt_bound h hl
  refine ⟨locP ps p (t % sumTo ps p p.length), _, hl, by unfold partP; rw [h, ht]; rfl, by omega, by omega, ?_⟩
  unfold lightP
  rw [h, ht, Bool.true_and, Bool.true_and]
theorem light_off {ps : List Pth} {p : List Prt} {t : Int} (h : (isPlan ps p && inB t 0 1000000) = false) (id : Int) : lightP ps p t id = 0 := by unfold lightP; rw [h, Bool.false_and]; rfl
end Go.Proofs.YtlpkafhapmkkfaaGreatDoor

/- Chapter 8's program: stagesIn, timePlan and what asks it. -/
namespace Go.Proofs.YtlpkafhapmkkfaaGreatDoor
open Go.RowKit
set_option linter.unusedVariables false

/-- the cells of a phase. -/
def phC (a b : Nat) (gr cl le : Int) : List Value := [.int .u16 (a : Nat), .int .u16 (b : Nat), .int .i64 gr, .int .i64 cl, .int .i64 le]
theorem phs_push (ps : List Pth) (p : List Prt) (k : Nat) : (phsTo ps p (k + 1)).flatMap Phs.cells = (phsTo ps p k).flatMap Phs.cells ++ phC (maskL ps (prAt p k).stage) (maskL ps (prAt p (nextJ p k)).stage) (prAt p k).green (clrAt ps p k) (leastG ps (prAt p k).stage) := by
  rw [phsTo_succ, List.flatMap_append]
  rfl
theorem plan_off {ps : List Pth} {p : List Prt} (ha : arePs ps = false) : isPlan ps p = false := by
  rw [Bool.eq_false_iff]
  intro h
  have := (isPlan_parts h).2.1
  rw [ha] at this
  cases this
theorem stgs_mem {p : List Prt} {zs : List Int} (h : zs ∈ stgsOf p) : ∃ j, j < p.length ∧ zs = (prAt p j).stage := by
  obtain ⟨j, hj, e⟩ := List.getElem_of_mem h
  have hj' : j < p.length := by rw [stgsOf_len] at hj; exact hj
  refine ⟨j, hj', ?_⟩
  rw [← stgsOf_at hj', List.getD_eq_getElem?_getD, List.getElem?_eq_getElem hj, ← e]
  rfl
theorem plan_tog {ps : List Pth} {p : List Prt} (ha : arePs ps = true) (h : stsB ps (stgsOf p) = false) : isPlan ps p = false := by
  rw [Bool.eq_false_iff]
  intro hp
  have h4 := (isPlan_parts hp).2.2.2
  have : stsB ps (stgsOf p) = true := (stsB_tog ha).2 fun zs hz => by
    obtain ⟨j, hj, rfl⟩ := stgs_mem hz
    exact (okPrt_parts (h4 j hj)).2.1
  rw [h] at this
  cases this
theorem tog_at {ps : List Pth} {p : List Prt} (ha : arePs ps = true) (h : stsB ps (stgsOf p) = true) {j : Nat} (hj : j < p.length) : isTog ps (prAt p j).stage = true := by
  refine (stsB_tog ha).1 h _ ?_
  rw [← stgsOf_at hj, List.getD_eq_getElem?_getD, List.getElem?_eq_getElem (by rw [stgsOf_len]; exact hj)]
  exact List.getElem_mem _
theorem plan_cov {ps : List Pth} {p : List Prt} (h : coversP ps (stgsOf p) = false) : isPlan ps p = false := by unfold isPlan; rw [h, Bool.and_false]
theorem okPrt_mask {ps : List Pth} {q : Prt} (ht : isTog ps q.stage = true) : okPrt ps q = (!decide (maskL ps q.stage = 0) && inB q.green (leastG ps q.stage) 60) := by
  unfold okPrt
  rw [ht, Bool.and_true]
  congr 2
  exact decide_eq_decide.2 (maskL_empty ht).symm
set_option maxHeartbeats 2000000 in
theorem impl_stagesIn (A : Option Addr) (n c B : Nat) (p : List Prt) (w : World) (h : PrtsAt w B A n p) (hB : B ≤ w.heap.size) (hn : n ≤ 1048576) :
    Calls Tryz.prog 93 #[.slice A n c] w fun e w' => ∃ A' c', e = .returned (.slice A' n c') ∧ SSAt w' w'.heap.size A' n (stgsOf p) ∧ Below w.heap.size w w' := by
  have hl := h.1
  go_enter Tryz.func93, Tryz.ntmps93
  go_wp2_with ((with_reducible show wpList _ _ _ _ _ _); refine wpList_mkR rfl _ _ _ rfl 58 _ 1 _ Tryz.underlying50 info_ints (by decide) (n : Int) (n : Int) n rfl rfl rfl rfl (by omega) ?_; intro w1 hown hgrow)
  go_loopw [11] (fun i wr => ∃ (k : Nat) (us : List Value), k ≤ n ∧ i = .int .i64 k ∧ wr.ownsRow w.heap.size 58 1 (.slice (some ⟨w.heap.size, 0, none⟩) n n) n us ∧ (∀ j, j < k → ∃ A' m c', us[j]? = some (.slice A' m c') ∧ IntsAt .i64 w B A' m (prAt p j).stage ∧ m ≤ c' ∧ (A' = none → m = 0 ∧ c' = 0)) ∧ Below w.heap.size w wr) (fun i _ => n - (intOf i).toNat)
  case atStart => exact ⟨0, _, Nat.zero_le _, rfl, hown, fun j hj => absurd hj (by omega), below_grown hgrow⟩
  case round =>
    clear hown hgrow
    obtain ⟨k, us, hk, rfl, hown, heach, hbl⟩ := hrel
    have hsz := hbl.size
    have HE := Lib.hid heach
    clear heach
    by_cases hlt : k < n
    · obtain ⟨ad, A', m, c', rfl, hab, hq, hi, hmc, hnil⟩ := h.at hlt
      obtain ⟨c0, c1⟩ := hq.below hbl (by omega)
      generalize (prAt p k).green = g at *
      have hul : us.length = n := by have := hown.1; omega
      have HE2 : Hid (∀ j, j < k + 1 → ∃ A'' m' c'', (us.set k (.slice A' m c'))[j]? = some (.slice A'' m' c'') ∧ IntsAt .i64 w B A'' m' (prAt p j).stage ∧ m' ≤ c'' ∧ (A'' = none → m' = 0 ∧ c'' = 0)) := Lib.hid (fun j hj => by
        by_cases e : j < k
        · obtain ⟨A1, m1, c1, q1, q2⟩ := HE.out j e
          exact ⟨A1, m1, c1, by rw [List.getElem?_set_ne (by omega)]; exact q1, q2⟩
        · obtain rfl : j = k := by omega
          exact ⟨A', m, c', by rw [List.getElem?_set_self (by omega)], hi, hmc.1, hnil⟩)
      have hbA := (Below.refl wr.heap.size wr).alloc (Nat.le_refl _) (.cells #[.slice A' m c', .int .i64 g] 70)
      have hoA := ownr_below hown hbA
      have hbB := hbl.trans (hbA.mono hsz)
      obtain ⟨x0, hx0⟩ := ownr_some hoA (j := k) (by omega)
      have hf := World.ownsRow.frozenAt hoA k
      have hs := (World.ownsRow.stored hoA k (.slice A' m c')).1
      have HS := Lib.hid hs
      have HBS := Lib.hid (hbB.setCell (p := ⟨w.heap.size, k, none⟩) (Nat.le_refl _) (.slice A' m c'))
      clear hq hi hul hs hown hoA hbA hbB
      go_wp2
      go_roundw
      case rel => exact ⟨k + 1, _, by omega, by go_num, HS.out, HE2.out, HBS.out⟩
      case measure => simp [intOf]; omega
    · obtain rfl : k = n := by omega
      have HSS : Hid (SSAt wr wr.heap.size (some ⟨w.heap.size, 0, none⟩) k (stgsOf p)) := Lib.hid ⟨by rw [stgsOf_len]; exact hl, fun h0 => by
        obtain ⟨ad, e, hb, hc⟩ := (ownr_cells hown).2 (by omega)
        refine ⟨ad, e, hb, fun j hj => ?_⟩
        obtain ⟨A1, m1, c1, q1, q2, q3, q4⟩ := HE.out j hj
        exact ⟨A1, m1, c1, hc _ _ q1, by rw [stgsOf_at (by omega)]; exact (q2.laid hB hbl).up (Nat.le_trans hB hsz), q3, q4⟩⟩
      clear hown
      go_wp2
      go_ret
      exact ⟨_, _, rfl, HSS.out, hbl⟩
theorem phC_one (a b : Nat) (gr cl le : Int) : ∀ u ∈ phC a b gr cl le, u.oneCell' = true := by
  intro u hu
  simp only [phC, List.mem_cons, List.not_mem_nil, or_false] at hu
  rcases hu with rfl | rfl | rfl | rfl | rfl <;> rfl
theorem info_phase : (Tryz.prog.info? 129).map (fun i => (i.zero, i.size, i.bytes)) = some (some (.agg #[.int .u16 0, .int .u16 0, .int .i64 0, .int .i64 0, .int .i64 0]), 5, 32) := by kernel_rfl
theorem info_int1 : (Tryz.prog.info? 3).map (fun i => (i.zero, i.size, i.bytes)) = some (some (.int .i64 0), 1, 8) := by kernel_rfl
theorem row_cell {w : World} {lo : Nat} {E : TypeId} {g n c : Nat} {vs : List Value} (h : w.ownsRow lo E 1 (.slice (some ⟨g, 0, none⟩) n c) n vs) {j : Nat} {u : Value} (hj : vs[j]? = some u) : w.cell? ⟨g, j, none⟩ = some u := by
  rw [World.ownsRow.cellAt h j (by have := (List.getElem?_eq_some_iff.1 hj).1; rw [h.1] at this; exact this), hj]
theorem t13 {xs : List Value} (hx : xs.length = 13) (a b c u : Value) : (xs ++ [a, b, c])[13]? = some a ∧ (xs ++ [a, b, c])[14]? = some b ∧ (xs ++ [a, b, c])[15]? = some c ∧ (xs ++ [a, b, c]).set 13 u = xs ++ [u, b, c] ∧ (xs ++ [a, b, c]).set 14 u = xs ++ [a, u, c] ∧ (xs ++ [a, b, c]).set 15 u = xs ++ [a, b, u] := by
  refine ⟨?_, ?_, ?_, ?_, ?_, ?_⟩
  · rw [List.getElem?_append_right (by omega), hx]; rfl
  · rw [List.getElem?_append_right (by omega), hx]; rfl
  · rw [List.getElem?_append_right (by omega), hx]; rfl
  · rw [List.set_append_right _ _ (by omega), hx]; rfl
  · rw [List.set_append_right _ _ (by omega), hx]; rfl
  · rw [List.set_append_right _ _ (by omega), hx]; rfl
theorem apart_types {w : World} {lo lo' s s' n n' : Nat} {E E' : TypeId} {v v' : Value} {vs vs' : List Value} (h : w.ownsRow lo E s v n vs) (h' : w.ownsRow lo' E' s' v' n' vs') (hE : E ≠ E') (b : Nat) (e : v.ownBlock = some b) (e' : v'.ownBlock = some b) : False := by
  rcases h.2 with ⟨q, _⟩ | ⟨g, cap, cur, hv, hb, hg, _⟩
  · rw [q] at e; cases e
  rcases h'.2 with ⟨q, _⟩ | ⟨g', cap', cur', hv', hb', hg', _⟩
  · rw [q] at e'; cases e'
  rw [hv] at e
  rw [hv'] at e'
  have e1 : g = b := Option.some.inj e
  have e2 : g' = b := Option.some.inj e'
  subst e1
  subst e2
  rw [hg] at hg'
  injection hg' with q1
  injection q1 with q2 q3
  exact hE q3
set_option maxHeartbeats 4000000 in
set_option maxRecDepth 100000 in
theorem impl_tadd (g : Nat) (xs : List Value) (hx : xs.length = 13) (v1 v2 : Value) (L s : Int) (n : Nat) (us : List Value) (zs : List Int) (a b : Nat) (gr cl le : Int) (w : World) (hT : w.ownsRow g 81 1 (.slice (some ⟨g, 0, none⟩) 16 16) 16 (xs ++ [v1, v2, .int .i64 L]))
    (h1 : w.ownsRow (g + 1) 129 5 v1 n us) (h2 : w.ownsRow (g + 1) 3 1 v2 n (zs.map (Value.int .i64))) (hn : n ≤ 1000) (hL : -1000000 ≤ L ∧ L ≤ 1000000) (hS : -1000000 ≤ s ∧ s ≤ 1000000) :
    Calls Tryz.prog 96 #[.pointer (some ⟨g, 13, none⟩), .agg (phC a b gr cl le).toArray, .int .i64 s] w fun e w' => e = .returned (.tuple #[]) ∧ ∃ v1' v2', w'.ownsRow g 81 1 (.slice (some ⟨g, 0, none⟩) 16 16) 16 (xs ++ [v1', v2', .int .i64 (L + s)]) ∧
      w'.ownsRow (g + 1) 129 5 v1' (n + 1) (us ++ phC a b gr cl le) ∧ w'.ownsRow (g + 1) 3 1 v2' (n + 1) ((zs ++ [L]).map (Value.int .i64)) ∧ Below g w w' := by
  have hgw : g < w.heap.size := (ownr_block hT _ rfl).2
  have c13 := row_cell hT (t13 hx v1 v2 (.int .i64 L) v1).1
  have c14 := row_cell hT (t13 hx v1 v2 (.int .i64 L) v1).2.1
  have c15 := row_cell hT (t13 hx v1 v2 (.int .i64 L) v1).2.2.1
  have HT := Lib.hid hT
  have H1 := Lib.hid h1
  have H2 := Lib.hid h2
  clear hT h1 h2
  have hlit : (phC a b gr cl le).toArray = #[.int .u16 (a : Nat), .int .u16 (b : Nat), .int .i64 gr, .int .i64 cl, .int .i64 le] := rfl
  have HC : Hid (∀ (X : Obj) (j : Nat) (u : Value), (phC a b gr cl le)[j]? = some u → ((w.alloc X).alloc (.cells (phC a b gr cl le).toArray 129)).cell? ⟨w.heap.size + 1, j, none⟩ = some u) := Lib.hid (fun X j u hj => by
    have := cell_of_row ((w.alloc X).alloc (.cells (phC a b gr cl le).toArray 129)) (w.alloc X).heap.size j _ _ _ (heap_alloc_new _ _)
    rw [show (w.alloc X).heap.size = w.heap.size + 1 by simp] at this
    rw [this]
    simpa using hj)
  have ht5 : 81 ≠ 129 := by decide
  have ht6 : 81 ≠ 3 := by decide
  have ht7 : 129 ≠ 3 := by decide
  rw [hlit] at HC ⊢
  go_enter Tryz.func96, Tryz.ntmps96
  go_wp2
  go_region_law (refine step_appR1 rfl _ _ 77 rfl 129 _ 5 32 Tryz.underlying77 info_phase rfl (by decide) (by decide) (g + 1) v1 n us rfl (ownr_below H1.out (by exact ⟨rfl, rfl, rfl, by (first | omega | (simp only [alloc_heap, drew_heap, Array.size_push]; omega)), fun i hi => by (simp only [alloc_heap, drew_heap, Array.getElem?_push, Array.size_push]; (repeat first | rw [if_neg (by omega)] | rw [if_pos (by omega)]))⟩)) (by omega) (phC a b gr cl le) rfl (phC_one a b gr cl le) _ (by (first | omega | (simp only [alloc_heap, drew_heap, Array.size_push]; omega))) rfl (fun j u hj => HC.out _ j u hj) ?_; intro v3 w3 h3 g3; have hT3 := ownr_grown (ownr_below HT.out (by exact ⟨rfl, rfl, rfl, by (first | omega | (simp only [alloc_heap, drew_heap, Array.size_push]; omega)), fun i hi => by (simp only [alloc_heap, drew_heap, Array.getElem?_push, Array.size_push]; (repeat first | rw [if_neg (by omega)] | rw [if_pos (by omega)]))⟩)) g3 (fun q e h' => apart_types HT.out H1.out ht5 q e h'); have h23 := ownr_grown (ownr_below H2.out (by exact ⟨rfl, rfl, rfl, by (first | omega | (simp only [alloc_heap, drew_heap, Array.size_push]; omega)), fun i hi => by (simp only [alloc_heap, drew_heap, Array.getElem?_push, Array.size_push]; (repeat first | rw [if_neg (by omega)] | rw [if_pos (by omega)]))⟩)) g3 (fun q e h' => apart_types H1.out H2.out ht7 q h' e); have hB3 := ownr_push H1.out (Nat.le_succ g) (a := w) (B := g) (by exact ⟨rfl, rfl, rfl, by (first | omega | (simp only [alloc_heap, drew_heap, Array.size_push]; omega)), fun i hi => by (simp only [alloc_heap, drew_heap, Array.getElem?_push, Array.size_push]; (repeat first | rw [if_neg (by omega)] | rw [if_pos (by omega)]))⟩) (by (first | omega | (simp only [alloc_heap, drew_heap, Array.size_push]; omega))) g3; obtain ⟨A3, d3, rfl⟩ := ownr_sliced h3; obtain ⟨x3, hx3⟩ := ownr_some hT3 (j := 13) (by decide); have hf3 := World.ownsRow.frozenAt hT3 13)
  all_goals
    have hs := World.ownsRow.stored hT3 13 (.slice A3 (n + 1) d3)
    have t4 := hs.1
    rw [(t13 hx _ _ _ _).2.2.2.1] at t4
    have r4 := ownr_grown h3 hs.2 (fun q e h' => apart_types hT3 h3 ht5 q h' e)
    have i4 := ownr_grown h23 hs.2 (fun q e h' => apart_types hT3 h23 ht6 q h' e)
    have b4 := hB3.setCell (p := ⟨g, 13, none⟩) (Nat.le_refl _) (.slice A3 (n + 1) d3)
    clear hs hT3 h23 hB3 hx3 hf3 g3 h3 c13 c14 c15
    generalize w3.setCell ⟨g, 13, none⟩ (.slice A3 (n + 1) d3) = w4 at *
    clear HC HT H1 H2
    have hgw4 : g < w4.heap.size := (ownr_block t4 _ rfl).2
    have c14 := row_cell t4 (t13 hx _ v2 (.int .i64 L) v1).2.1
    have c15 := row_cell t4 (t13 hx _ v2 (.int .i64 L) v1).2.2.1
    have T4 := Lib.hid t4
    have R4 := Lib.hid r4
    have I4 := Lib.hid i4
    have B4 := Lib.hid b4
    clear t4 r4 i4 b4
    go_wp2
    have HC2 : Hid (∀ (W : World) (j : Nat) (u : Value), [Value.int .i64 L][j]? = some u → (W.alloc (.cells #[.int .i64 L] 3)).cell? ⟨W.heap.size, j, none⟩ = some u) := Lib.hid (fun W j u hj => (cell_of_row _ _ j _ _ _ (heap_alloc_new _ _)).trans (by simpa using hj))
    go_region_law (refine step_appR1 rfl _ _ 58 rfl 3 _ 1 8 Tryz.underlying58 info_int1 rfl (by decide) (by decide) (g + 1) v2 n (zs.map (Value.int .i64)) rfl (ownr_below I4.out (by exact ⟨rfl, rfl, rfl, by (first | omega | (simp only [alloc_heap, drew_heap, Array.size_push]; omega)), fun i hi => by (simp only [alloc_heap, drew_heap, Array.getElem?_push, Array.size_push]; (repeat first | rw [if_neg (by omega)] | rw [if_pos (by omega)]))⟩)) (by omega) [.int .i64 L] rfl (fun u hu => by simp only [List.mem_cons, List.not_mem_nil, or_false] at hu; subst hu; rfl) _ (by (first | omega | (simp only [alloc_heap, drew_heap, Array.size_push]; omega))) rfl (fun j u hj => HC2.out _ j u hj) ?_; intro v5 w5 h5 g5; have hT5 := ownr_grown (ownr_below T4.out (by exact ⟨rfl, rfl, rfl, by (first | omega | (simp only [alloc_heap, drew_heap, Array.size_push]; omega)), fun i hi => by (simp only [alloc_heap, drew_heap, Array.getElem?_push, Array.size_push]; (repeat first | rw [if_neg (by omega)] | rw [if_pos (by omega)]))⟩)) g5 (fun q e h' => apart_types T4.out I4.out ht6 q e h'); have h15 := ownr_grown (ownr_below R4.out (by exact ⟨rfl, rfl, rfl, by (first | omega | (simp only [alloc_heap, drew_heap, Array.size_push]; omega)), fun i hi => by (simp only [alloc_heap, drew_heap, Array.getElem?_push, Array.size_push]; (repeat first | rw [if_neg (by omega)] | rw [if_pos (by omega)]))⟩)) g5 (fun q e h' => apart_types R4.out I4.out ht7 q e h'); have hB5 := ownr_push I4.out (Nat.le_succ g) (a := w4) (B := g) (by exact ⟨rfl, rfl, rfl, by (first | omega | (simp only [alloc_heap, drew_heap, Array.size_push]; omega)), fun i hi => by (simp only [alloc_heap, drew_heap, Array.getElem?_push, Array.size_push]; (repeat first | rw [if_neg (by omega)] | rw [if_pos (by omega)]))⟩) (by (first | omega | (simp only [alloc_heap, drew_heap, Array.size_push]; omega))) g5; obtain ⟨A5, d5, rfl⟩ := ownr_sliced h5; obtain ⟨x5, hx5⟩ := ownr_some hT5 (j := 14) (by decide); have hf5 := World.ownsRow.frozenAt hT5 14)
  all_goals
    have hs := World.ownsRow.stored hT5 14 (.slice A5 (n + 1) d5)
    have t6 := hs.1
    rw [(t13 hx _ _ _ _).2.2.2.2.1] at t6
    have r6 := ownr_grown h15 hs.2 (fun q e h' => apart_types hT5 h15 ht5 q h' e)
    have i6 := ownr_grown h5 hs.2 (fun q e h' => apart_types hT5 h5 ht6 q h' e)
    have b6 := (B4.out.trans hB5).setCell (p := ⟨g, 14, none⟩) (Nat.le_refl _) (.slice A5 (n + 1) d5)
    clear hs hT5 h15 hB5 hx5 hf5 g5 h5 c14 c15 HC2 T4 R4 I4 B4
    generalize w5.setCell ⟨g, 14, none⟩ (.slice A5 (n + 1) d5) = w6 at *
    have c15 := row_cell t6 (t13 hx _ _ (.int .i64 L) v1).2.2.1
    have f15 := World.ownsRow.frozenAt t6 15
    have hs := World.ownsRow.stored t6 15 (.int .i64 (L + s))
    have t7 := hs.1
    rw [(t13 hx _ _ _ _).2.2.2.2.2] at t7
    have T7 := Lib.hid t7
    have R7 := Lib.hid (ownr_grown r6 hs.2 (fun q e h' => apart_types t6 r6 ht5 q h' e))
    have i7 := ownr_grown i6 hs.2 (fun q e h' => apart_types t6 i6 ht6 q h' e)
    rw [show zs.map (Value.int .i64) ++ [.int .i64 L] = (zs ++ [L]).map (Value.int .i64) by simp] at i7
    have I7 := Lib.hid i7
    have B7 := Lib.hid (b6.setCell (p := ⟨g, 15, none⟩) (Nat.le_refl _) (.int .i64 (L + s)))
    clear hs t7 i7 t6 r6 i6 b6
    go_wp2
    go_end0
    exact ⟨rfl, _, _, T7.out, R7.out, I7.out, B7.out⟩
end Go.Proofs.YtlpkafhapmkkfaaGreatDoor

/- timePlan: the program. -/
namespace Go.Proofs.YtlpkafhapmkkfaaGreatDoor
open Go.RowKit
set_option linter.unusedVariables false

def z16 : List Value := [.slice none 0 0, .int .u16 0, .int .u16 0, .int .u16 0, .int .u16 0, .int .u16 0, .int .u16 0, .int .u16 0, .int .u16 0, .int .u16 0, .int .u16 0, .int .u16 0, .int .u16 0, .slice none 0 0, .slice none 0 0, .int .i64 0]
/-- what timePlan leaves. -/
def TimedAt (w' : World) (lo : Nat) (A : Option Addr) (n c : Nat) (ps : List Pth) (p : List Prt) (cs : List Value) : Prop :=
  (isPlan ps p = false → cs = z16) ∧ (isPlan ps p = true → ∃ v1 v2, cs = xcells A n c (rowSt ps n 0) ++ [v1, v2, .int .i64 (sumTo ps p p.length)] ∧
    w'.ownsRow lo 129 5 v1 p.length ((phsTo ps p p.length).flatMap Phs.cells) ∧ w'.ownsRow lo 3 1 v2 p.length ((begTo ps p p.length).map (Value.int .i64)))
theorem sumTo_ok {ps : List Pth} {p : List Prt} : ∀ k, (∀ j, j < k → okPrt ps (prAt p j) = true) → 0 ≤ sumTo ps p k ∧ sumTo ps p k ≤ 65 * k
  | 0, _ => by simp [sumTo]
  | k + 1, h => by
    have ih := sumTo_ok k fun j hj => h j (by omega)
    obtain ⟨_, _, h5, h6⟩ := okPrt_parts (h k (by omega))
    have := leastG_bound ps (prAt p k).stage
    have := clrAt_bound ps p k
    show 0 ≤ sumTo ps p k + ((prAt p k).green + clrAt ps p k) ∧ sumTo ps p k + ((prAt p k).green + clrAt ps p k) ≤ _
    omega
theorem grown_setCells {a : World} {b : Nat} : ∀ (vs : List Value) (o : Nat) (w : World), a.grownBy w (some b) → a.grownBy (w.setCells b o vs) (some b)
  | [], _, _, h => h
  | u :: vs, o, w, h => grown_setCells vs (o + 1) _ (only_setCell h o u)
theorem info_timed : (Tryz.prog.info? 81).map (·.size) = some 16 := by kernel_rfl
theorem z16_one : ∀ u ∈ z16, u.oneCell' = true := by decide
theorem stored5P {w : World} {g : Nat} {x0 x1 x2 x3 x4 a b c d e : Value} {E : TypeId} (h : w.heap[g]? = some (.cells #[x0, x1, x2, x3, x4] E)) : (((((w.setCell ⟨g, 0, none⟩ a).setCell ⟨g, 1, none⟩ b).setCell ⟨g, 2, none⟩ c).setCell ⟨g, 3, none⟩ d).setCell ⟨g, 4, none⟩ e).heap[g]? = some (.cells #[a, b, c, d, e] E) :=
  heap_setCell_same _ g 4 _ E e (heap_setCell_same _ g 3 _ E d (heap_setCell_same _ g 2 _ E c (heap_setCell_same _ g 1 _ E b (heap_setCell_same w g 0 _ E a h))))
theorem below5P {w u : World} {B g : Nat} {a b c d e : Value} (h : Below B w u) (hg : B ≤ g) : Below B w (((((u.setCell ⟨g, 0, none⟩ a).setCell ⟨g, 1, none⟩ b).setCell ⟨g, 2, none⟩ c).setCell ⟨g, 3, none⟩ d).setCell ⟨g, 4, none⟩ e) :=
  ((((h.setCell (p := ⟨g, 0, none⟩) hg a).setCell (p := ⟨g, 1, none⟩) hg b).setCell (p := ⟨g, 2, none⟩) hg c).setCell (p := ⟨g, 3, none⟩) hg d).setCell (p := ⟨g, 4, none⟩) hg e
set_option maxHeartbeats 4000000 in
set_option maxRecDepth 100000 in
theorem impl_timePlan_no (A : Option Addr) (n c B : Nat) (ps : List Pth) (A2 : Option Addr) (n2 c2 B2 : Nat) (p : List Prt) (w : World) (h : PthsAt w B A n ps) (hB : B ≤ w.heap.size) (hn : n ≤ 4294967296) (h2 : PrtsAt w B2 A2 n2 p) (hB2 : B2 ≤ w.heap.size) (hn2 : n2 ≤ 1048576) (ha : arePs ps = false) :
    Calls Tryz.prog 42 #[.slice A n c, .slice A2 n2 c2] w fun e w' => ∃ cs, e = .returned (.tuple #[.agg cs.toArray, .bool (isPlan ps p)]) ∧ TimedAt w' w.heap.size A n c ps p cs ∧ Below w.heap.size w w' := by
  have hl2 := h2.1
  have HPN := Lib.hid (plan_off (p := p) ha)
  have HC := Lib.hid (fun x (hx : Below w.heap.size w x) => impl_crossingOf_no A n c B ps x (h.below (hx.mono hB)) (Nat.le_trans hB hx.size) hn ha)
  have hxz : (xcells none 0 0 fun _ => 0).toArray = #[.slice none 0 0, .int .u16 0, .int .u16 0, .int .u16 0, .int .u16 0, .int .u16 0, .int .u16 0, .int .u16 0, .int .u16 0, .int .u16 0, .int .u16 0, .int .u16 0, .int .u16 0] := rfl
  rw [hxz] at HC
  have hb0 : Below w.heap.size w (w.alloc (.cells z16.toArray 81)) := (Below.refl _ _).alloc (Nat.le_refl _) _
  have HC0 := Lib.hid (HC.out _ hb0)
  have hz : z16.toArray = #[.slice none 0 0, .int .u16 0, .int .u16 0, .int .u16 0, .int .u16 0, .int .u16 0, .int .u16 0, .int .u16 0, .int .u16 0, .int .u16 0, .int .u16 0, .int .u16 0, .int .u16 0, .slice none 0 0, .slice none 0 0, .int .i64 0] := rfl
  rw [hz] at HC0 hb0
  clear h h2 HC hxz
  go_enter Tryz.func42, Tryz.ntmps42
  go_wp2_with fail
  refine HC0.out.mono ?_
  rintro e w1 ⟨rfl, hb⟩
  have hRz := (hb.block w.heap.size (by simp)).trans (heap_alloc_new w (.cells #[.slice none 0 0, .int .u16 0, .int .u16 0, .int .u16 0, .int .u16 0, .int .u16 0, .int .u16 0, .int .u16 0, .int .u16 0, .int .u16 0, .int .u16 0, .int .u16 0, .int .u16 0, .slice none 0 0, .slice none 0 0, .int .i64 0] 81))
  have hlt1 : w.heap.size < w1.heap.size := by have := hb.size; simp at this; omega
  have hth : ∀ o : Obj, (w1.alloc o).there w.heap.size 0 16 := fun o => there_block ((Below.heap_alloc w1 o _ hlt1).trans hRz) 16 rfl
  have HTH := Lib.hid hth
  have HB1 := Lib.hid (hb0.trans (hb.mono hb0.size))
  clear hth hb hRz hb0 HC0
  go_wp2_with ((with_reducible show wpList _ _ _ _ _ _); refine wpList_store_mid rfl 81 _ _ rfl w.heap.size 0 z16.toArray rfl rfl (HTH.out _) info_timed (all_oneCell_toArray z16_one) ?_)
  refine bodyPost_ret (v := .tuple #[.agg z16.toArray, .bool false]) (by
        have hload := fun o => run_loadVar_mid (P := Tryz.prog) ((w1.alloc o).setCells w.heap.size 0 z16) w.heap.size 0 81 z16 _ (World.rangeAt_setCells_same _ _ _ _ (HTH.out o)) Tryz.underlying81 rfl info_timed
        rw [results_cell_tmp rfl]
        simp [asAddr, hload, Result.andThen]) rfl ⟨z16, by rw [HPN.out], ⟨fun _ => rfl, fun hh => by rw [HPN.out] at hh; cases hh⟩, ?_⟩
  exact below_setCells _ (Nat.le_refl _) _ _ _ (HB1.out.alloc HB1.out.size _)
set_option maxHeartbeats 40000000 in
set_option maxRecDepth 100000 in
theorem impl_timePlan_yes (A : Option Addr) (n c B : Nat) (ps : List Pth) (A2 : Option Addr) (n2 c2 B2 : Nat) (p : List Prt) (w : World) (h : PthsAt w B A n ps) (hB : B ≤ w.heap.size) (hn : n ≤ c ∧ c ≤ maxLen) (h2 : PrtsAt w B2 A2 n2 p) (hB2 : B2 ≤ w.heap.size) (hn2 : n2 ≤ 1048576) (hm : ∀ j, j < n2 → (prAt p j).stage.length ≤ 1048576) (ha : arePs ps = true) (hw : Brus w) (ht : Clrs w) :
    Calls Tryz.prog 42 #[.slice A n c, .slice A2 n2 c2] w fun e w' => ∃ cs, e = .returned (.tuple #[.agg cs.toArray, .bool (isPlan ps p)]) ∧ TimedAt w' w.heap.size A n c ps p cs ∧ Below w.heap.size w w' := by
  have hl := h.1
  have hl2 := h2.1
  subst hl
  have h12 := arePs_len12 ha
  have HP := Lib.hid h
  have H2 := Lib.hid h2
  have HW := Lib.hid hw
  have HT := Lib.hid ht
  have HA := Lib.hid ha
  have HM := Lib.hid hm
  have hln : (xcells A ps.length c (rowSt ps ps.length 0)).length = 13 := xcells_length _ _ _ _
  have hinf : (Tryz.prog.info? 76).map (·.size) = some (xcells A ps.length c (rowSt ps ps.length 0)).length := by rw [hln]; exact info_cross
  have HCL := Lib.hid (cross_lit A ps.length c (rowSt ps ps.length 0))
  have HSI := Lib.hid (fun x (hx : Below w.heap.size w x) => impl_stagesIn A2 n2 c2 B2 p x (h2.below hB2 hx) (Nat.le_trans hB2 hx.size) hn2)
  have HSO := Lib.hid (fun A4 c4 x (hx : Below w.heap.size w x) hss hxw => impl_stagesOf A ps.length c B ps A4 n2 c4 x.heap.size (stgsOf p) x (h.below (hx.mono hB)) (Nat.le_trans hB hx.size) ha hss (Nat.le_refl _) (by omega) (fun j hj => by rw [stgsOf_at (by omega)]; have := hm j hj; omega) hxw)
  have hb0 : Below w.heap.size w (w.alloc (.cells #[.slice none 0 0, .int .u16 0, .int .u16 0, .int .u16 0, .int .u16 0, .int .u16 0, .int .u16 0, .int .u16 0, .int .u16 0, .int .u16 0, .int .u16 0, .int .u16 0, .int .u16 0, .slice none 0 0, .slice none 0 0, .int .i64 0] 81)) := (Below.refl _ _).alloc (Nat.le_refl _) _
  have HC0 := Lib.hid (impl_crossingOf A ps.length c B ps _ (h.below (hb0.mono hB)) (Nat.le_trans hB hb0.size) hn ha)
  generalize hxs : (xcells A ps.length c (rowSt ps ps.length 0)) = xs at *
  generalize hfs : rowSt ps ps.length 0 = f at *
  have HXS := Lib.hid hxs
  have HFS := Lib.hid hfs
  clear h hw ht hm ha h2 hxs hfs
  go_enter Tryz.func42, Tryz.ntmps42
  go_wp2_with fail
  refine HC0.out.mono ?_
  rw [HCL.out]
  rintro e w1 ⟨rfl, hb⟩
  have hRz := (hb.block w.heap.size (by simp)).trans (heap_alloc_new w (.cells #[.slice none 0 0, .int .u16 0, .int .u16 0, .int .u16 0, .int .u16 0, .int .u16 0, .int .u16 0, .int .u16 0, .int .u16 0, .int .u16 0, .int .u16 0, .int .u16 0, .int .u16 0, .slice none 0 0, .slice none 0 0, .int .i64 0] 81))
  have hlt1 : w.heap.size < w1.heap.size := by have := hb.size; simp at this; omega
  have hX := heap_alloc_new w1 (.cells xs.toArray 76)
  have hB1 : Below w.heap.size w (w1.alloc (.cells xs.toArray 76)) := (hb0.trans (hb.mono hb0.size)).alloc (by omega) _
  have hs2 : (w1.alloc (.cells xs.toArray 76)).heap.size = w1.heap.size + 1 := by simp
  have hRz2 := (Below.heap_alloc w1 (.cells xs.toArray 76) _ hlt1).trans hRz
  obtain ⟨w2, hw2⟩ : ∃ w2, w2 = w1.alloc (.cells xs.toArray 76) := ⟨_, rfl⟩
  rw [← hw2] at hX hB1 hs2 hRz2
  rw [HCL.out] at hw2
  clear hb hRz hb0 HC0
  have HRZ := Lib.hid hRz2
  have HB1 := Lib.hid hB1
  have HX := Lib.hid hX
  clear hRz2 hB1 hX
  go_wp2_with fail
  rw [← hw2]
  refine (impl_InRange _ _ _ _).mono ?_
  cases hin : inB (n2 : Int) 1 6
  · have HPN : Hid (isPlan ps p = false) := Lib.hid (isPlan_len (by rw [hl2]; exact hin))
    have hth : w2.there w.heap.size 0 16 := there_block HRZ.out 16 rfl
    rintro e w3 ⟨rfl, rfl⟩
    clear hin hw2
    go_wp2_with ((with_reducible show wpList _ _ _ _ _ _); refine wpList_store_mid rfl 81 _ _ rfl w.heap.size 0 z16.toArray rfl rfl hth info_timed (all_oneCell_toArray z16_one) ?_)
    refine bodyPost_ret (v := .tuple #[.agg z16.toArray, .bool false]) (by
        have hload := run_loadVar_mid (P := Tryz.prog) (w2.setCells w.heap.size 0 z16) w.heap.size 0 81 z16 _ (World.rangeAt_setCells_same _ _ _ _ hth) Tryz.underlying81 rfl info_timed
        rw [results_cell_tmp rfl]
        simp [asAddr, hload, Result.andThen]) rfl ⟨z16, by rw [HPN.out], ⟨fun _ => rfl, fun hh => by rw [HPN.out] at hh; cases hh⟩, ?_⟩
    exact below_setCells _ (Nat.le_refl _) _ _ _ HB1.out
  rintro e w3 ⟨rfl, rfl⟩
  clear hw2
  have hin6 := inB_t hin
  have HIN := Lib.hid hin
  clear hin
  have hlt2 : w1.heap.size < w2.heap.size := by omega
  have hmx : Tryz.prog.follows .mixedOrders = true := by kernel_rfl
  have hR2 : w2.rangeAt w1.heap.size 0 xs := range_block HX.out
  have HIW := Lib.hid (HSI.out w2.drew (below_drewD HB1.out))
  clear HSI
  go_wp2
  refine wp_region_held_drew (S := fun W' => W'.rangeAt w1.heap.size 0 xs) hmx hR2 (fun hH => ?_)
  refine wpAnyH_take (i := 0) (v := .agg xs.toArray) rfl (by kernel_rfl) (by kernel_rfl) (by kernel_rfl) (fun _ _ _ h => h) (yieldsIf_load_mid (by rfl) 76 _ rfl w1.heap.size 0 rfl xs _ (fun _ h => h) Tryz.underlying76 rfl hinf) hH ?_
  try simp only [Act.put, List.setIfInBounds_toArray, List.set_cons_zero, List.set_cons_succ]
  refine wpAnyH_take (i := 1) (v := .slice A2 n2 c2) rfl (by kernel_rfl) (by kernel_rfl) (by kernel_rfl) (fun _ _ _ h => h) (Or.inl ⟨by rfl, by intro w hSw; go_simp⟩) hH ?_
  try simp only [Act.put, List.setIfInBounds_toArray, List.set_cons_zero, List.set_cons_succ]
  refine wpAnyH_ready (rs := [2]) (by decide +kernel) (by simp) (AllReadyH.cons rfl (fun K hK => ?_) AllReadyH.nil)
  go_simp
  refine HIW.out.mono ?_
  rintro e w3 ⟨A4, c4, rfl, hss, hb3⟩
  go_wp2_with fail
  have hH3 : w3.rangeAt w1.heap.size 0 xs := cells_belowD hb3 hlt2 hH
  have HB3 := Lib.hid ((below_drewD HB1.out).trans (hb3.mono HB1.out.size))
  have HSW := Lib.hid (HSO.out A4 c4 w3 HB3.out hss (HW.out.below HB3.out (Nat.le_refl _)))
  have HRZ3 := Lib.hid ((hb3.block w.heap.size (by show w.heap.size < w2.heap.size; omega)).trans HRZ.out)
  have HX3 := Lib.hid ((hb3.block w1.heap.size hlt2).trans HX.out)
  have hlt3 : w1.heap.size < w3.heap.size := Nat.lt_of_lt_of_le hlt2 hb3.size
  refine hK.out _ _ hH3 (fun _ => ?_)
  clear hK K hb3 hss HIW HSO hR2
  try simp only [Act.put, List.setIfInBounds_toArray, List.set_cons_zero, List.set_cons_succ]
  refine wpAnyH_ready (rs := [3]) (by decide +kernel) (by simp) (AllReadyH.cons rfl (fun K hK => ?_) AllReadyH.nil)
  go_simp
  refine HSW.out.mono ?_
  rintro e w4 ⟨v, rfl, hv, hb4⟩
  go_wp2_with fail
  have hH4 : w4.rangeAt w1.heap.size 0 xs := cells_belowD hb4 hlt3 hH3
  have HB4 := Lib.hid (HB3.out.trans (hb4.mono HB3.out.size))
  have HRZ4 := Lib.hid ((hb4.block w.heap.size (by omega)).trans HRZ3.out)
  have HX4 := Lib.hid ((hb4.block w1.heap.size hlt3).trans HX3.out)
  have hlt4 : w1.heap.size < w4.heap.size := Nat.lt_of_lt_of_le hlt3 hb4.size
  have hsz4 := hb4.size
  have HV := Lib.hid hv
  refine hK.out _ _ hH4 (fun _ => ?_)
  clear hK K hb4 hv HSW HRZ HX HRZ3 HX3 hH3 hH
  try simp only [Act.put, List.setIfInBounds_toArray, List.set_cons_zero, List.set_cons_succ]
  generalize hsb : stsB ps (stgsOf p) = sb at *
  refine wpAnyH_take (i := 4) (v := .tuple #[v, .bool sb]) rfl (by kernel_rfl) (by kernel_rfl) (by kernel_rfl) (fun _ _ _ h => h) (Or.inl ⟨by rfl, by intro w hSw; go_simp⟩) hH4 ?_
  try simp only [Act.put, List.setIfInBounds_toArray, List.set_cons_zero, List.set_cons_succ]
  refine wpAnyH_take (i := 5) (v := v) rfl (by kernel_rfl) (by kernel_rfl) (by kernel_rfl) (fun _ _ _ h => h) (Or.inl ⟨by rfl, by intro w hSw; go_simp⟩) hH4 ?_
  try simp only [Act.put, List.setIfInBounds_toArray, List.set_cons_zero, List.set_cons_succ]
  refine wpAnyH_take (i := 6) (v := .bool sb) rfl (by kernel_rfl) (by kernel_rfl) (by kernel_rfl) (fun _ _ _ h => h) (Or.inl ⟨by rfl, by intro w hSw; go_simp⟩) hH4 ?_
  try simp only [Act.put, List.setIfInBounds_toArray, List.set_cons_zero, List.set_cons_succ]
  refine wpAnyH_ready (rs := [7]) (by decide +kernel) (by simp) (AllReadyH.cons rfl (fun K hK => ?_) AllReadyH.nil)
  go_simp
  refine hK.out _ _ hH4 (fun _ => ?_)
  clear hK K
  try simp only [Act.put, List.setIfInBounds_toArray, List.set_cons_zero, List.set_cons_succ]
  refine wpAnyH_ready (rs := [8]) (by decide +kernel) (by simp) (AllReadyH.cons rfl (fun K hK => ?_) AllReadyH.nil)
  go_simp
  refine hK.out _ _ hH4 (fun _ => ?_)
  clear hK K
  try simp only [Act.put, List.setIfInBounds_toArray, List.set_cons_zero, List.set_cons_succ]
  refine wpAnyH_done (by decide +kernel) ?_ _
  cases sb
  · have HPN : Hid (isPlan ps p = false) := Lib.hid (plan_tog HA.out hsb)
    have hth : w4.there w.heap.size 0 16 := there_block HRZ4.out 16 rfl
    clear hsb
    go_wp2_with ((with_reducible show wpList _ _ _ _ _ _); refine wpList_store_mid rfl 81 _ _ rfl w.heap.size 0 z16.toArray rfl rfl hth info_timed (all_oneCell_toArray z16_one) ?_)
    refine bodyPost_ret (v := .tuple #[.agg z16.toArray, .bool false]) (by
        have hload := run_loadVar_mid (P := Tryz.prog) (w4.setCells w.heap.size 0 z16) w.heap.size 0 81 z16 _ (World.rangeAt_setCells_same _ _ _ _ hth) Tryz.underlying81 rfl info_timed
        rw [results_cell_tmp rfl]
        simp [asAddr, hload, Result.andThen]) rfl ⟨z16, by rw [HPN.out], ⟨fun _ => rfl, fun hh => by rw [HPN.out] at hh; cases hh⟩, ?_⟩
    exact below_setCells _ (Nat.le_refl _) _ _ _ HB4.out
  obtain ⟨g, rfl, hown⟩ := HV.out rfl
  have hints := hown.ints
  have hga := hown.block g rfl
  have HOWN := Lib.hid hown
  have HIC0 := impl_isCovered A ps.length c ps rfl f h12 (some ⟨g, 0, none⟩) n2 n2 w4.heap.size (stgsOf p) w4 hints (Nat.le_refl _) (by omega)
  rw [HXS.out, HCL.out] at HIC0
  have hcv : coversP ps (stgsOf p) = decide (orM ((stgsOf p).map (maskL ps)) = 2 ^ ps.length - 1) := covers_masks HA.out ((stsB_tog HA.out).1 hsb)
  rw [← hcv] at HIC0
  have HIC := Lib.hid HIC0
  have HSB := Lib.hid hsb
  have hxl : xs = [.slice A ps.length c, .int .u16 (f 0 : Nat), .int .u16 (f 1 : Nat), .int .u16 (f 2 : Nat), .int .u16 (f 3 : Nat), .int .u16 (f 4 : Nat), .int .u16 (f 5 : Nat), .int .u16 (f 6 : Nat), .int .u16 (f 7 : Nat), .int .u16 (f 8 : Nat), .int .u16 (f 9 : Nat), .int .u16 (f 10 : Nat), .int .u16 (f 11 : Nat)] := by have := congrArg Array.toList HCL.out; simpa using this
  have d0 : w4.cell? ⟨w1.heap.size, 0, none⟩ = some (.slice A ps.length c) := by simpa using hH4 0 _ (by rw [hxl]; rfl)
  have d1 : w4.cell? ⟨w1.heap.size, 1, none⟩ = some (.int .u16 (f 0 : Nat)) := by simpa using hH4 1 _ (by rw [hxl]; rfl)
  have d2 : w4.cell? ⟨w1.heap.size, 2, none⟩ = some (.int .u16 (f 1 : Nat)) := by simpa using hH4 2 _ (by rw [hxl]; rfl)
  have d3 : w4.cell? ⟨w1.heap.size, 3, none⟩ = some (.int .u16 (f 2 : Nat)) := by simpa using hH4 3 _ (by rw [hxl]; rfl)
  have d4 : w4.cell? ⟨w1.heap.size, 4, none⟩ = some (.int .u16 (f 3 : Nat)) := by simpa using hH4 4 _ (by rw [hxl]; rfl)
  have d5 : w4.cell? ⟨w1.heap.size, 5, none⟩ = some (.int .u16 (f 4 : Nat)) := by simpa using hH4 5 _ (by rw [hxl]; rfl)
  have d6 : w4.cell? ⟨w1.heap.size, 6, none⟩ = some (.int .u16 (f 5 : Nat)) := by simpa using hH4 6 _ (by rw [hxl]; rfl)
  have d7 : w4.cell? ⟨w1.heap.size, 7, none⟩ = some (.int .u16 (f 6 : Nat)) := by simpa using hH4 7 _ (by rw [hxl]; rfl)
  have d8 : w4.cell? ⟨w1.heap.size, 8, none⟩ = some (.int .u16 (f 7 : Nat)) := by simpa using hH4 8 _ (by rw [hxl]; rfl)
  have d9 : w4.cell? ⟨w1.heap.size, 9, none⟩ = some (.int .u16 (f 8 : Nat)) := by simpa using hH4 9 _ (by rw [hxl]; rfl)
  have d10 : w4.cell? ⟨w1.heap.size, 10, none⟩ = some (.int .u16 (f 9 : Nat)) := by simpa using hH4 10 _ (by rw [hxl]; rfl)
  have d11 : w4.cell? ⟨w1.heap.size, 11, none⟩ = some (.int .u16 (f 10 : Nat)) := by simpa using hH4 11 _ (by rw [hxl]; rfl)
  have d12 : w4.cell? ⟨w1.heap.size, 12, none⟩ = some (.int .u16 (f 11 : Nat)) := by simpa using hH4 12 _ (by rw [hxl]; rfl)
  clear HIC0 hcv hints hown HV hsb hxl
  go_wp2_with fail
  refine HIC.out.mono ?_
  cases hcp : coversP ps (stgsOf p)
  · rintro e w5 ⟨rfl, hb5⟩
    have HPN : Hid (isPlan ps p = false) := Lib.hid (plan_cov hcp)
    have hth : w5.there w.heap.size 0 16 := there_block ((hb5.block w.heap.size (by omega)).trans HRZ4.out) 16 rfl
    have HB5 := Lib.hid (HB4.out.trans (hb5.mono HB4.out.size))
    clear hcp hb5 d0 d1 d2 d3 d4 d5 d6 d7 d8 d9 d10 d11 d12
    go_wp2_with ((with_reducible show wpList _ _ _ _ _ _); refine wpList_store_mid rfl 81 _ _ rfl w.heap.size 0 z16.toArray rfl rfl hth info_timed (all_oneCell_toArray z16_one) ?_)
    refine bodyPost_ret (v := .tuple #[.agg z16.toArray, .bool false]) (by
        have hload := run_loadVar_mid (P := Tryz.prog) (w5.setCells w.heap.size 0 z16) w.heap.size 0 81 z16 _ (World.rangeAt_setCells_same _ _ _ _ hth) Tryz.underlying81 rfl info_timed
        rw [results_cell_tmp rfl]
        simp [asAddr, hload, Result.andThen]) rfl ⟨z16, by rw [HPN.out], ⟨fun _ => rfl, fun hh => by rw [HPN.out] at hh; cases hh⟩, ?_⟩
    exact below_setCells _ (Nat.le_refl _) _ _ _ HB5.out
  rintro e w5 ⟨rfl, hb5⟩
  have HCP := Lib.hid hcp
  have e0 := (hb5.cell (p := ⟨w1.heap.size, 0, none⟩) hlt4).trans d0
  have e1 := (hb5.cell (p := ⟨w1.heap.size, 1, none⟩) hlt4).trans d1
  have e2 := (hb5.cell (p := ⟨w1.heap.size, 2, none⟩) hlt4).trans d2
  have e3 := (hb5.cell (p := ⟨w1.heap.size, 3, none⟩) hlt4).trans d3
  have e4 := (hb5.cell (p := ⟨w1.heap.size, 4, none⟩) hlt4).trans d4
  have e5 := (hb5.cell (p := ⟨w1.heap.size, 5, none⟩) hlt4).trans d5
  have e6 := (hb5.cell (p := ⟨w1.heap.size, 6, none⟩) hlt4).trans d6
  have e7 := (hb5.cell (p := ⟨w1.heap.size, 7, none⟩) hlt4).trans d7
  have e8 := (hb5.cell (p := ⟨w1.heap.size, 8, none⟩) hlt4).trans d8
  have e9 := (hb5.cell (p := ⟨w1.heap.size, 9, none⟩) hlt4).trans d9
  have e10 := (hb5.cell (p := ⟨w1.heap.size, 10, none⟩) hlt4).trans d10
  have e11 := (hb5.cell (p := ⟨w1.heap.size, 11, none⟩) hlt4).trans d11
  have e12 := (hb5.cell (p := ⟨w1.heap.size, 12, none⟩) hlt4).trans d12
  have hlt5 : w1.heap.size < w5.heap.size := Nat.lt_of_lt_of_le hlt4 hb5.size
  have HB5 := Lib.hid (HB4.out.trans (hb5.mono HB4.out.size))
  have HRZ5 := Lib.hid ((hb5.block w.heap.size (by omega)).trans HRZ4.out)
  have HX5 := Lib.hid ((hb5.block w1.heap.size hlt4).trans HX4.out)
  have HOW5 := Lib.hid (HOWN.out.below hb5)
  have hg5 : g < w5.heap.size := Nat.lt_of_lt_of_le hga.2 hb5.size
  have hxl : xs = [.slice A ps.length c, .int .u16 (f 0 : Nat), .int .u16 (f 1 : Nat), .int .u16 (f 2 : Nat), .int .u16 (f 3 : Nat), .int .u16 (f 4 : Nat), .int .u16 (f 5 : Nat), .int .u16 (f 6 : Nat), .int .u16 (f 7 : Nat), .int .u16 (f 8 : Nat), .int .u16 (f 9 : Nat), .int .u16 (f 10 : Nat), .int .u16 (f 11 : Nat)] := by have := congrArg Array.toList HCL.out; simpa using this
  have hT0 : (w5.alloc (.cells #[.slice A ps.length c, .int .u16 (f 0 : Nat), .int .u16 (f 1 : Nat), .int .u16 (f 2 : Nat), .int .u16 (f 3 : Nat), .int .u16 (f 4 : Nat), .int .u16 (f 5 : Nat), .int .u16 (f 6 : Nat), .int .u16 (f 7 : Nat), .int .u16 (f 8 : Nat), .int .u16 (f 9 : Nat), .int .u16 (f 10 : Nat), .int .u16 (f 11 : Nat), .slice none 0 0, .slice none 0 0, .int .i64 0] 81)).ownsRow w5.heap.size 81 1 (.slice (some ⟨w5.heap.size, 0, none⟩) 16 16) 16 (xs ++ [.slice none 0 0, .slice none 0 0, .int .i64 0]) := by
    rw [hxl]
    exact World.ownsRow_lit (base := w5.heap.size) (e := 81) (size := 1) w5 #[.slice A ps.length c, .int .u16 (f 0 : Nat), .int .u16 (f 1 : Nat), .int .u16 (f 2 : Nat), .int .u16 (f 3 : Nat), .int .u16 (f 4 : Nat), .int .u16 (f 5 : Nat), .int .u16 (f 6 : Nat), .int .u16 (f 7 : Nat), .int .u16 (f 8 : Nat), .int .u16 (f 9 : Nat), .int .u16 (f 10 : Nat), .int .u16 (f 11 : Nat), .slice none 0 0, .slice none 0 0, .int .i64 0] 16 (Nat.le_refl _) (by decide) rfl
  have HT0 := Lib.hid hT0
  have HBT : Hid (Below w5.heap.size w5 (w5.alloc (.cells #[.slice A ps.length c, .int .u16 (f 0 : Nat), .int .u16 (f 1 : Nat), .int .u16 (f 2 : Nat), .int .u16 (f 3 : Nat), .int .u16 (f 4 : Nat), .int .u16 (f 5 : Nat), .int .u16 (f 6 : Nat), .int .u16 (f 7 : Nat), .int .u16 (f 8 : Nat), .int .u16 (f 9 : Nat), .int .u16 (f 10 : Nat), .int .u16 (f 11 : Nat), .slice none 0 0, .slice none 0 0, .int .i64 0] 81))) := Lib.hid ((Below.refl _ _).alloc (Nat.le_refl _) _)
  clear hcp d0 d1 d2 d3 d4 d5 d6 d7 d8 d9 d10 d11 d12 hb5 hT0 HRZ4 HX4 HOWN hH4 hxl hga
  go_wp2
  clear e0 e1 e2 e3 e4 e5 e6 e7 e8 e9 e10 e11 e12
  go_loopw [48] (fun i wr => ∃ (k : Nat) (v1 v2 : Value), k ≤ n2 ∧ i = .int .i64 k ∧ wr.ownsRow w5.heap.size 81 1 (.slice (some ⟨w5.heap.size, 0, none⟩) 16 16) 16 (xs ++ [v1, v2, .int .i64 (sumTo ps p k)]) ∧
      wr.ownsRow (w5.heap.size + 1) 129 5 v1 k ((phsTo ps p k).flatMap Phs.cells) ∧ wr.ownsRow (w5.heap.size + 1) 3 1 v2 k ((begTo ps p k).map (Value.int .i64)) ∧ (∀ j, j < k → okPrt ps (prAt p j) = true) ∧ Below w5.heap.size w5 wr) (fun i _ => n2 - (intOf i).toNat)
  case atStart => exact ⟨0, _, _, Nat.zero_le _, rfl, HT0.out, ownr_nil _ _ _ _, ownr_nil _ _ _ _, fun j hj => absurd hj (by omega), HBT.out⟩
  case round =>
    clear HT0 HBT
    obtain ⟨k, v1, v2, hk, rfl, ht16, hph, hbg, hgo, hbl⟩ := hrel
    have HT16 := Lib.hid ht16
    have HPH := Lib.hid hph
    have HBG := Lib.hid hbg
    have HG := Lib.hid hgo
    have HBL := Lib.hid hbl
    have hsz := hbl.size
    clear ht16 hph hbg hgo hbl
    by_cases hlt : k < n2
    · obtain ⟨ad, A', m, c', rfl, hab, hq, hi, hmc, hnil⟩ := H2.out.at hlt
      have hnx : nextJ p k < n2 := by have := nextJ_lt (p := p) (j := k) (by omega); omega
      have e1 : IntKind.i64.wrap ((k : Int) + 1) = (k : Int) + 1 := by rw [IntKind.wrap_i64]; omega
      have e2 : ((k : Int) + 1).tmod (n2 : Int) = ((nextJ p k : Nat) : Int) := by
        unfold nextJ
        rw [hl2, Int.tmod_eq_emod_of_nonneg (by omega), Int.natCast_emod, Int.natCast_add]
        rfl
      have htog := tog_at HA.out HSB.out (show k < p.length by omega)
      have htogN := tog_at HA.out HSB.out (show nextJ p k < p.length by omega)
      have HOK := Lib.hid (okPrt_mask (q := prAt p k) htog)
      have HNO := Lib.hid (fun hh => isPlan_no (ps := ps) (p := p) (j := k) (by omega) hh)
      have HCK : Hid (clrS ps f (maskL ps (prAt p k).stage) (maskL ps (prAt p (nextJ p k)).stage) = clrAt ps p k) := Lib.hid (by rw [← HFS.out]; exact clr_mask2 htog htogN)
      have HMA := Lib.hid (maskL_lt ps (prAt p k).stage h12)
      have HMB := Lib.hid (maskL_lt ps (prAt p (nextJ p k)).stage h12)
      have hBW := HB5.out.trans (HBL.out.mono HB5.out.size)
      obtain ⟨c0, c1⟩ := hq.below hBW (by omega)
      have hil : (mskI ps (stgsOf p)).length = n2 := by rw [mskI_len, stgsOf_len]; exact hl2
      have mk : wr.cell? ⟨g, k, none⟩ = some (.int .u16 (maskL ps (prAt p k).stage : Nat)) := by
        rw [HBL.out.cell (p := ⟨g, k, none⟩) hg5, HOW5.out.cell k (by omega), mskI_at (by rw [stgsOf_len]; omega), stgsOf_at (by omega)]
      have mn : wr.cell? ⟨g, nextJ p k, none⟩ = some (.int .u16 (maskL ps (prAt p (nextJ p k)).stage : Nat)) := by
        rw [HBL.out.cell (p := ⟨g, nextJ p k, none⟩) hg5, HOW5.out.cell (nextJ p k) (by omega), mskI_at (by rw [stgsOf_len]; omega), stgsOf_at (by omega)]
      have HI := Lib.hid hi
      have hm1 := HM.out k hlt
      have hlz := hi.1
      have HPS := Lib.hid (phs_push ps p k)
      have HLA : Hid (longAt ps p k = (prAt p k).green + clrAt ps p k) := Lib.hid rfl
      generalize (prAt p k).green = gr at *
      generalize (prAt p k).stage = za at *
      generalize maskL ps (prAt p (nextJ p k)).stage = mb at *
      generalize maskL ps za = ma at *
      generalize nextJ p k = nx at *
      have hbA := (Below.refl wr.heap.size wr).alloc (Nat.le_refl _) (.cells #[.slice A' m c', .int .i64 gr] 70)
      have mn' := (hbA.cell (p := ⟨g, nx, none⟩) (by show g < _; omega)).trans mn
      have mk' := (hbA.cell (p := ⟨g, k, none⟩) (by show g < _; omega)).trans mk
      have hgA := heap_alloc_new wr (.cells #[.slice A' m c', .int .i64 gr] 70)
      have p0 : (wr.alloc (.cells #[.slice A' m c', .int .i64 gr] 70)).cell? ⟨wr.heap.size, 0, none⟩ = some (.slice A' m c') := (cell_of_row _ _ 0 _ _ _ hgA).trans rfl
      have p1 : (wr.alloc (.cells #[.slice A' m c', .int .i64 gr] 70)).cell? ⟨wr.heap.size, 1, none⟩ = some (.int .i64 gr) := (cell_of_row _ _ 1 _ _ _ hgA).trans rfl
      have r6 := range_block ((hbA.block w1.heap.size (by omega)).trans ((HBL.out.block w1.heap.size hlt5).trans HX5.out))
      have t6 := Lib.hid (ownr_below HT16.out hbA)
      have f6 := Lib.hid (ownr_below HPH.out hbA)
      have s6 := Lib.hid (ownr_below HBG.out hbA)
      have b6 := Lib.hid (HBL.out.trans (hbA.mono hsz))
      have hs6 : wr.heap.size < (wr.alloc (.cells #[.slice A' m c', .int .i64 gr] 70)).heap.size := by simp
      have i1 : (0 : Int) ≤ (k : Int) := by omega
      have i2 : (k : Int) < (n2 : Int) := by omega
      have i3 : (0 : Int) ≤ (nx : Int) := by omega
      have i4 : (nx : Int) < (n2 : Int) := by omega
      have z1 : ¬ n2 = 0 := by omega
      have z2 : ¬ (n2 : Int) = 0 := by omega
      clear hq hi htog htogN hil mk mn hmc hnil hbA hgA HT16 HPH HBG hBW
      go_wp2
      clear c0 c1 mn' e1 e2 i3 i4 z1 z2
      generalize hw6 : wr.alloc (.cells #[.slice A' m c', .int .i64 gr] 70) = w6 at *
      clear hw6
      have HSK : Hid (∀ W, Below w6.heap.size w6 W → W.rangeAt w1.heap.size 0 xs ∧ W.cell? ⟨g, k, none⟩ = some (.int .u16 (ma : Nat)) ∧ W.cell? ⟨wr.heap.size, 0, none⟩ = some (.slice A' m c') ∧ W.cell? ⟨wr.heap.size, 1, none⟩ = some (.int .i64 gr)) := Lib.hid (fun W hW => ⟨cells_belowD hW (by omega) r6, (hW.cell (p := ⟨g, k, none⟩) (by show g < _; omega)).trans mk', (hW.cell (p := ⟨wr.heap.size, 0, none⟩) hs6).trans p0, (hW.cell (p := ⟨wr.heap.size, 1, none⟩) hs6).trans p1⟩)
      have HW6 := Lib.hid (HB5.out.trans (b6.out.mono HB5.out.size))
      have HBX : Hid (∀ W, Below w6.heap.size w6 W → Below w.heap.size w W) := Lib.hid (fun W hW => HW6.out.trans (hW.mono HW6.out.size))
      have HCC : Hid (∀ W, Below w6.heap.size w6 W → Calls Tryz.prog 95 #[.agg xs.toArray, .int .u16 (ma : Nat), .int .u16 (mb : Nat)] W fun e w' => e = .returned (.int .i64 (clrAt ps p k)) ∧ Below W.heap.size W w') := Lib.hid (fun W hW => by
        have hb := HBX.out W hW
        have := impl_clearB A ps.length c B ps f (fun j => by rw [← HFS.out]; exact rowSt_lt _ _ _ _) ma mb HMA.out HMB.out h12 W (HP.out.below (hb.mono hB)) (Nat.le_trans hB hb.size) (HT.out.below hb (Nat.le_refl _))
        rw [HXS.out, HCK.out] at this
        exact this)
      have HLC : Hid (∀ W, Below w6.heap.size w6 W → Calls Tryz.prog 63 #[.slice A ps.length c, .slice A' m c'] W fun e w' => e = .returned (.int .i64 (leastG ps za)) ∧ Below W.heap.size W w') := Lib.hid (fun W hW => by
        have hb := HBX.out W hW
        exact impl_LeastGreen A ps.length c B ps A' m c' B2 za W (HP.out.below (hb.mono hB)) (HI.out.laid hB2 hb) (Nat.le_trans hB hb.size) (Nat.le_trans hB2 hb.size) (by omega) (by omega))
      clear mk' p0 p1 r6
      refine wp_region_held_drew (S := fun W => W.rangeAt w1.heap.size 0 xs ∧ W.cell? ⟨g, k, none⟩ = some (.int .u16 (ma : Nat)) ∧ W.cell? ⟨wr.heap.size, 0, none⟩ = some (.slice A' m c') ∧ W.cell? ⟨wr.heap.size, 1, none⟩ = some (.int .i64 gr)) hmx (HSK.out _ (below_drewD (Below.refl _ _))) (fun hH => ?_)
      refine wpAnyH_take (i := 0) (v := .slice (some ⟨g, 0, none⟩) n2 n2) rfl (by kernel_rfl) (by kernel_rfl) (by kernel_rfl) (fun _ _ _ h => h) (Or.inl ⟨by rfl, by intro w hSw; go_simp⟩) hH ?_
      try simp only [Act.put, List.setIfInBounds_toArray, List.set_cons_zero, List.set_cons_succ]
      refine wpAnyH_take (i := 1) (v := .int .i64 (k : Int)) rfl (by kernel_rfl) (by kernel_rfl) (by kernel_rfl) (fun _ _ _ h => h) (Or.inl ⟨by rfl, by intro w hSw; go_simp⟩) hH ?_
      try simp only [Act.put, List.setIfInBounds_toArray, List.set_cons_zero, List.set_cons_succ]
      refine wpAnyH_take (i := 2) (v := .pointer (some ⟨g, k, none⟩)) rfl (by kernel_rfl) (by kernel_rfl) (by kernel_rfl) (fun _ _ _ h => h) (Or.inl ⟨by rfl, by intro w hSw; go_simp⟩) hH ?_
      try simp only [Act.put, List.setIfInBounds_toArray, List.set_cons_zero, List.set_cons_succ]
      refine wpAnyH_take (i := 3) (v := .int .u16 (ma : Nat)) rfl (by kernel_rfl) (by kernel_rfl) (by kernel_rfl) (fun _ _ _ h => h) (Or.inl ⟨by rfl, by intro w hSw; have hSw2 := hSw.2.1; clear hSw; go_simp⟩) hH ?_
      try simp only [Act.put, List.setIfInBounds_toArray, List.set_cons_zero, List.set_cons_succ]
      refine wpAnyH_take (i := 4) (v := .int .u16 (mb : Nat)) rfl (by kernel_rfl) (by kernel_rfl) (by kernel_rfl) (fun _ _ _ h => h) (Or.inl ⟨by rfl, by intro w hSw; go_simp⟩) hH ?_
      try simp only [Act.put, List.setIfInBounds_toArray, List.set_cons_zero, List.set_cons_succ]
      refine wpAnyH_take (i := 5) (v := .pointer (some ⟨wr.heap.size, 1, none⟩)) rfl (by kernel_rfl) (by kernel_rfl) (by kernel_rfl) (fun _ _ _ h => h) (Or.inl ⟨by rfl, by intro w hSw; go_simp⟩) hH ?_
      try simp only [Act.put, List.setIfInBounds_toArray, List.set_cons_zero, List.set_cons_succ]
      refine wpAnyH_take (i := 6) (v := .int .i64 gr) rfl (by kernel_rfl) (by kernel_rfl) (by kernel_rfl) (fun _ _ _ h => h) (Or.inl ⟨by rfl, by intro w hSw; have hSw2 := hSw.2.2.2; clear hSw; go_simp⟩) hH ?_
      try simp only [Act.put, List.setIfInBounds_toArray, List.set_cons_zero, List.set_cons_succ]
      refine wpAnyH_take (i := 7) (v := .agg xs.toArray) rfl (by kernel_rfl) (by kernel_rfl) (by kernel_rfl) (fun _ _ _ h => h) (yieldsIf_load_mid (by rfl) 76 _ rfl w1.heap.size 0 rfl xs _ (fun _ h => h.1) Tryz.underlying76 rfl hinf) hH ?_
      try simp only [Act.put, List.setIfInBounds_toArray, List.set_cons_zero, List.set_cons_succ]
      refine wpAnyH_take (i := 8) (v := .slice (some ⟨g, 0, none⟩) n2 n2) rfl (by kernel_rfl) (by kernel_rfl) (by kernel_rfl) (fun _ _ _ h => h) (Or.inl ⟨by rfl, by intro w hSw; go_simp⟩) hH ?_
      try simp only [Act.put, List.setIfInBounds_toArray, List.set_cons_zero, List.set_cons_succ]
      refine wpAnyH_take (i := 9) (v := .int .i64 (k : Int)) rfl (by kernel_rfl) (by kernel_rfl) (by kernel_rfl) (fun _ _ _ h => h) (Or.inl ⟨by rfl, by intro w hSw; go_simp⟩) hH ?_
      try simp only [Act.put, List.setIfInBounds_toArray, List.set_cons_zero, List.set_cons_succ]
      refine wpAnyH_take (i := 10) (v := .pointer (some ⟨g, k, none⟩)) rfl (by kernel_rfl) (by kernel_rfl) (by kernel_rfl) (fun _ _ _ h => h) (Or.inl ⟨by rfl, by intro w hSw; go_simp⟩) hH ?_
      try simp only [Act.put, List.setIfInBounds_toArray, List.set_cons_zero, List.set_cons_succ]
      refine wpAnyH_take (i := 11) (v := .int .u16 (ma : Nat)) rfl (by kernel_rfl) (by kernel_rfl) (by kernel_rfl) (fun _ _ _ h => h) (Or.inl ⟨by rfl, by intro w hSw; have hSw2 := hSw.2.1; clear hSw; go_simp⟩) hH ?_
      try simp only [Act.put, List.setIfInBounds_toArray, List.set_cons_zero, List.set_cons_succ]
      refine wpAnyH_take (i := 12) (v := .int .u16 (mb : Nat)) rfl (by kernel_rfl) (by kernel_rfl) (by kernel_rfl) (fun _ _ _ h => h) (Or.inl ⟨by rfl, by intro w hSw; go_simp⟩) hH ?_
      try simp only [Act.put, List.setIfInBounds_toArray, List.set_cons_zero, List.set_cons_succ]
      refine wpAnyH_take (i := 14) (v := .slice A ps.length c) rfl (by kernel_rfl) (by kernel_rfl) (by kernel_rfl) (fun _ _ _ h => h) (Or.inl ⟨by rfl, by intro w hSw; go_simp⟩) hH ?_
      try simp only [Act.put, List.setIfInBounds_toArray, List.set_cons_zero, List.set_cons_succ]
      refine wpAnyH_take (i := 15) (v := .pointer (some ⟨wr.heap.size, 0, none⟩)) rfl (by kernel_rfl) (by kernel_rfl) (by kernel_rfl) (fun _ _ _ h => h) (Or.inl ⟨by rfl, by intro w hSw; go_simp⟩) hH ?_
      try simp only [Act.put, List.setIfInBounds_toArray, List.set_cons_zero, List.set_cons_succ]
      refine wpAnyH_take (i := 16) (v := .slice A' m c') rfl (by kernel_rfl) (by kernel_rfl) (by kernel_rfl) (fun _ _ _ h => h) (Or.inl ⟨by rfl, by intro w hSw; have hSw2 := hSw.2.2.1; clear hSw; go_simp⟩) hH ?_
      try simp only [Act.put, List.setIfInBounds_toArray, List.set_cons_zero, List.set_cons_succ]
      refine wpAnyH_ready (rs := [13, 19]) (by decide +kernel) (by simp) (AllReadyH.cons rfl (fun K hK => ?_) (AllReadyH.cons rfl (fun K hK => ?_) AllReadyH.nil))
      focus
        go_simp
        refine (HCC.out _ (below_drewD (Below.refl _ _))).mono ?_
        rintro e w7 ⟨rfl, hbc⟩
        have hbd := below_drewD (Below.refl w6.heap.size w6)
        have hb67 := hbd.trans (hbc.mono hbd.size)
        clear hbc
        go_wp2_with fail
        refine hK.out _ _ (HSK.out _ hb67) (fun hH7 => ?_)
        clear hK K
        try simp only [Act.put, List.setIfInBounds_toArray, List.set_cons_zero, List.set_cons_succ]
        refine wpAnyH_ready (rs := [17, 19]) (by decide +kernel) (by simp) (AllReadyH.cons rfl (fun K hK => ?_) (AllReadyH.cons rfl (fun K hK => ?_) AllReadyH.nil))
        focus
          go_simp
          refine (HLC.out _ hb67).mono ?_
          rintro e w8 ⟨rfl, hbc⟩
          have hb68 := hb67.trans (hbc.mono hb67.size)
          clear hbc
          go_wp2_with fail
          refine hK.out _ _ (HSK.out _ hb68) (fun hH8 => ?_)
          clear hK K
          try simp only [Act.put, List.setIfInBounds_toArray, List.set_cons_zero, List.set_cons_succ]
          refine wpAnyH_take (i := 18) (v := .agg #[.int .u16 (ma : Nat), .int .u16 (mb : Nat), .int .i64 gr, .int .i64 (clrAt ps p k), .int .i64 (leastG ps za)]) rfl (by kernel_rfl) (by kernel_rfl) (by kernel_rfl) (fun _ _ _ h => h) (Or.inl ⟨by rfl, by intro w hSw; go_simp⟩) hH8 ?_
          try simp only [Act.put, List.setIfInBounds_toArray, List.set_cons_zero, List.set_cons_succ]
          refine wpAnyH_ready (rs := [19]) (by decide +kernel) (by simp) (AllReadyH.cons rfl (fun K hK => ?_) AllReadyH.nil)
          go_simp
          have hb69 := hb68.alloc hb68.size (.cells #[.int .u16 0, .int .u16 0, .int .i64 0, .int .i64 0, .int .i64 0] 129)
          refine hK.out _ _ (HSK.out _ hb69) (fun hH9 => ?_)
          clear hK K
          try simp only [Act.put, List.setIfInBounds_toArray, List.set_cons_zero, List.set_cons_succ]
          refine wpAnyH_ready (rs := [20]) (by decide +kernel) (by simp) (AllReadyH.cons rfl (fun K hK => ?_) AllReadyH.nil)
          go_simp
          have hb6a := hb68.alloc hb68.size (.cells #[.int .u16 (ma : Nat), .int .u16 (mb : Nat), .int .i64 gr, .int .i64 (clrAt ps p k), .int .i64 (leastG ps za)] 129)
          have hga := heap_alloc_new w8 (.cells #[.int .u16 (ma : Nat), .int .u16 (mb : Nat), .int .i64 gr, .int .i64 (clrAt ps p k), .int .i64 (leastG ps za)] 129)
          have hgz := hb68.size
          refine hK.out _ _ (HSK.out _ hb6a) (fun hHa => ?_)
          clear hK K hHa hH9 hH8 hH7 hb69 hb68 hb67 hbd
          try simp only [Act.put, List.setIfInBounds_toArray, List.set_cons_zero, List.set_cons_succ]
          refine wpAnyH_done (by decide +kernel) ?_ _
          generalize w8.alloc (.cells #[.int .u16 (ma : Nat), .int .u16 (mb : Nat), .int .i64 gr, .int .i64 (clrAt ps p k), .int .i64 (leastG ps za)] 129) = w9 at *
          generalize w8.heap.size = ga at *
        rotate_left
        focus
          go_simp
          have hbz := hb67.alloc hb67.size (.cells #[.int .u16 0, .int .u16 0, .int .i64 0, .int .i64 0, .int .i64 0] 129)
          have hgz := hb67.size
          have hga : (w7.alloc (.cells #[.int .u16 0, .int .u16 0, .int .i64 0, .int .i64 0, .int .i64 0] 129)).heap[w7.heap.size]? = some (.cells #[.int .u16 0, .int .u16 0, .int .i64 0, .int .i64 0, .int .i64 0] 129) := heap_alloc_new w7 (.cells #[.int .u16 0, .int .u16 0, .int .i64 0, .int .i64 0, .int .i64 0] 129)
          have hgl : w7.heap.size < (w7.alloc (.cells #[.int .u16 0, .int .u16 0, .int .i64 0, .int .i64 0, .int .i64 0] 129)).heap.size := by simp
          refine hK.out _ _ (HSK.out _ hbz) (fun hHz => ?_)
          clear hK K
          try simp only [Act.put, List.setIfInBounds_toArray, List.set_cons_zero, List.set_cons_succ]
          generalize w7.alloc (.cells #[.int .u16 0, .int .u16 0, .int .i64 0, .int .i64 0, .int .i64 0] 129) = wz at *
          refine wpAnyH_ready (rs := [17]) (by decide +kernel) (by simp) (AllReadyH.cons rfl (fun K hK => ?_) AllReadyH.nil)
          go_simp
          refine (HLC.out _ hbz).mono ?_
          rintro e w8 ⟨rfl, hbc⟩
          have hb68 := hbz.trans (hbc.mono hbz.size)
          have hga' := (hbc.block _ hgl).trans hga
          have hgl' := Nat.lt_of_lt_of_le hgl hbc.size
          clear hga hgl
          have hga := hga'
          have hgl := hgl'
          clear hga' hgl'
          clear hbc
          go_wp2_with fail
          refine hK.out _ _ (HSK.out _ hb68) (fun hH8 => ?_)
          clear hK K
          try simp only [Act.put, List.setIfInBounds_toArray, List.set_cons_zero, List.set_cons_succ]
          clear hHz hH7
          refine wpAnyH_take (i := 18) (v := .agg #[.int .u16 (ma : Nat), .int .u16 (mb : Nat), .int .i64 gr, .int .i64 (clrAt ps p k), .int .i64 (leastG ps za)]) rfl (by kernel_rfl) (by kernel_rfl) (by kernel_rfl) (fun _ _ _ h => h) (Or.inl ⟨by rfl, by intro w hSw; go_simp⟩) hH8 ?_
          try simp only [Act.put, List.setIfInBounds_toArray, List.set_cons_zero, List.set_cons_succ]
          refine wpAnyH_ready (rs := [20]) (by decide +kernel) (by simp) (AllReadyH.cons rfl (fun K hK => ?_) AllReadyH.nil)
          have z0 : w8.cell? ⟨w7.heap.size, 0, none⟩ = some (.int .u16 0) := (cell_of_row _ _ 0 _ _ _ hga).trans rfl
          have z1 : w8.cell? ⟨w7.heap.size, 1, none⟩ = some (.int .u16 0) := (cell_of_row _ _ 1 _ _ _ hga).trans rfl
          have z2 : w8.cell? ⟨w7.heap.size, 2, none⟩ = some (.int .i64 0) := (cell_of_row _ _ 2 _ _ _ hga).trans rfl
          have z3 : w8.cell? ⟨w7.heap.size, 3, none⟩ = some (.int .i64 0) := (cell_of_row _ _ 3 _ _ _ hga).trans rfl
          have z4 : w8.cell? ⟨w7.heap.size, 4, none⟩ = some (.int .i64 0) := (cell_of_row _ _ 4 _ _ _ hga).trans rfl
          have zf : ∀ j, w8.frozen? ⟨w7.heap.size, j, none⟩ = false := fun j => frozen_of_row _ _ j _ _ hga
          go_simp
          have hgv := stored5P (a := .int .u16 (ma : Nat)) (b := .int .u16 (mb : Nat)) (c := .int .i64 gr) (d := .int .i64 (clrAt ps p k)) (e := .int .i64 (leastG ps za)) hga
          have hb6a := below5P (a := .int .u16 (ma : Nat)) (b := .int .u16 (mb : Nat)) (c := .int .i64 gr) (d := .int .i64 (clrAt ps p k)) (e := .int .i64 (leastG ps za)) hb68 hgz
          clear z0 z1 z2 z3 z4 zf hga hgl
          refine hK.out _ _ (HSK.out _ hb6a) (fun hHa => ?_)
          clear hK K hHa
          try simp only [Act.put, List.setIfInBounds_toArray, List.set_cons_zero, List.set_cons_succ]
          refine wpAnyH_done (by decide +kernel) ?_ _
          have hga := hgv
          clear hgv
          generalize (((((w8.setCell ⟨w7.heap.size, 0, none⟩ (.int .u16 (ma : Nat))).setCell ⟨w7.heap.size, 1, none⟩ (.int .u16 (mb : Nat))).setCell ⟨w7.heap.size, 2, none⟩ (.int .i64 gr)).setCell ⟨w7.heap.size, 3, none⟩ (.int .i64 (clrAt ps p k))).setCell ⟨w7.heap.size, 4, none⟩ (.int .i64 (leastG ps za))) = w9 at *
          obtain ⟨ga, hge⟩ : ∃ ga : Nat, ga = w7.heap.size := ⟨_, rfl⟩
          rw [← hge] at hga ⊢
          have hgz' : w6.heap.size ≤ ga := by omega
          clear hge hgz
          have hgz := hgz'
          clear hgz'
          clear hbz hb67 hb68 hH8 hbd
      rotate_left 2
      focus
        go_simp
        have hbz := below_drewD ((Below.refl w6.heap.size w6).alloc (Nat.le_refl _) (.cells #[.int .u16 0, .int .u16 0, .int .i64 0, .int .i64 0, .int .i64 0] 129))
        have hgz : w6.heap.size ≤ w6.heap.size := Nat.le_refl _
        have hga : (w6.alloc (.cells #[.int .u16 0, .int .u16 0, .int .i64 0, .int .i64 0, .int .i64 0] 129)).drew.heap[w6.heap.size]? = some (.cells #[.int .u16 0, .int .u16 0, .int .i64 0, .int .i64 0, .int .i64 0] 129) := heap_alloc_new w6 (.cells #[.int .u16 0, .int .u16 0, .int .i64 0, .int .i64 0, .int .i64 0] 129)
        have hgl : w6.heap.size < (w6.alloc (.cells #[.int .u16 0, .int .u16 0, .int .i64 0, .int .i64 0, .int .i64 0] 129)).drew.heap.size := by show _ < (w6.alloc (.cells #[.int .u16 0, .int .u16 0, .int .i64 0, .int .i64 0, .int .i64 0] 129)).heap.size; simp
        refine hK.out _ _ (HSK.out _ hbz) (fun hHz => ?_)
        clear hK K
        try simp only [Act.put, List.setIfInBounds_toArray, List.set_cons_zero, List.set_cons_succ]
        generalize (w6.alloc (.cells #[.int .u16 0, .int .u16 0, .int .i64 0, .int .i64 0, .int .i64 0] 129)).drew = wz at *
        refine wpAnyH_ready (rs := [13]) (by decide +kernel) (by simp) (AllReadyH.cons rfl (fun K hK => ?_) AllReadyH.nil)
        go_simp
        refine (HCC.out _ hbz).mono ?_
        rintro e w7 ⟨rfl, hbc⟩
        have hb67 := hbz.trans (hbc.mono hbz.size)
        have hga' := (hbc.block _ hgl).trans hga
        have hgl' := Nat.lt_of_lt_of_le hgl hbc.size
        clear hga hgl
        have hga := hga'
        have hgl := hgl'
        clear hga' hgl'
        clear hbc
        go_wp2_with fail
        refine hK.out _ _ (HSK.out _ hb67) (fun hH7 => ?_)
        clear hK K
        try simp only [Act.put, List.setIfInBounds_toArray, List.set_cons_zero, List.set_cons_succ]
        refine wpAnyH_ready (rs := [17]) (by decide +kernel) (by simp) (AllReadyH.cons rfl (fun K hK => ?_) AllReadyH.nil)
        go_simp
        refine (HLC.out _ hb67).mono ?_
        rintro e w8 ⟨rfl, hbc⟩
        have hb68 := hb67.trans (hbc.mono hb67.size)
        have hga' := (hbc.block _ hgl).trans hga
        have hgl' := Nat.lt_of_lt_of_le hgl hbc.size
        clear hga hgl
        have hga := hga'
        have hgl := hgl'
        clear hga' hgl'
        clear hbc
        go_wp2_with fail
        refine hK.out _ _ (HSK.out _ hb68) (fun hH8 => ?_)
        clear hK K
        try simp only [Act.put, List.setIfInBounds_toArray, List.set_cons_zero, List.set_cons_succ]
        clear hHz hH7
        refine wpAnyH_take (i := 18) (v := .agg #[.int .u16 (ma : Nat), .int .u16 (mb : Nat), .int .i64 gr, .int .i64 (clrAt ps p k), .int .i64 (leastG ps za)]) rfl (by kernel_rfl) (by kernel_rfl) (by kernel_rfl) (fun _ _ _ h => h) (Or.inl ⟨by rfl, by intro w hSw; go_simp⟩) hH8 ?_
        try simp only [Act.put, List.setIfInBounds_toArray, List.set_cons_zero, List.set_cons_succ]
        refine wpAnyH_ready (rs := [20]) (by decide +kernel) (by simp) (AllReadyH.cons rfl (fun K hK => ?_) AllReadyH.nil)
        have z0 : w8.cell? ⟨w6.heap.size, 0, none⟩ = some (.int .u16 0) := (cell_of_row _ _ 0 _ _ _ hga).trans rfl
        have z1 : w8.cell? ⟨w6.heap.size, 1, none⟩ = some (.int .u16 0) := (cell_of_row _ _ 1 _ _ _ hga).trans rfl
        have z2 : w8.cell? ⟨w6.heap.size, 2, none⟩ = some (.int .i64 0) := (cell_of_row _ _ 2 _ _ _ hga).trans rfl
        have z3 : w8.cell? ⟨w6.heap.size, 3, none⟩ = some (.int .i64 0) := (cell_of_row _ _ 3 _ _ _ hga).trans rfl
        have z4 : w8.cell? ⟨w6.heap.size, 4, none⟩ = some (.int .i64 0) := (cell_of_row _ _ 4 _ _ _ hga).trans rfl
        have zf : ∀ j, w8.frozen? ⟨w6.heap.size, j, none⟩ = false := fun j => frozen_of_row _ _ j _ _ hga
        go_simp
        have hgv := stored5P (a := .int .u16 (ma : Nat)) (b := .int .u16 (mb : Nat)) (c := .int .i64 gr) (d := .int .i64 (clrAt ps p k)) (e := .int .i64 (leastG ps za)) hga
        have hb6a := below5P (a := .int .u16 (ma : Nat)) (b := .int .u16 (mb : Nat)) (c := .int .i64 gr) (d := .int .i64 (clrAt ps p k)) (e := .int .i64 (leastG ps za)) hb68 hgz
        clear z0 z1 z2 z3 z4 zf hga hgl
        refine hK.out _ _ (HSK.out _ hb6a) (fun hHa => ?_)
        clear hK K hHa
        try simp only [Act.put, List.setIfInBounds_toArray, List.set_cons_zero, List.set_cons_succ]
        refine wpAnyH_done (by decide +kernel) ?_ _
        have hga := hgv
        clear hgv
        generalize (((((w8.setCell ⟨w6.heap.size, 0, none⟩ (.int .u16 (ma : Nat))).setCell ⟨w6.heap.size, 1, none⟩ (.int .u16 (mb : Nat))).setCell ⟨w6.heap.size, 2, none⟩ (.int .i64 gr)).setCell ⟨w6.heap.size, 3, none⟩ (.int .i64 (clrAt ps p k))).setCell ⟨w6.heap.size, 4, none⟩ (.int .i64 (leastG ps za))) = w9 at *
        obtain ⟨ga, hge⟩ : ∃ ga : Nat, ga = w6.heap.size := ⟨_, rfl⟩
        rw [← hge] at hga ⊢
        have hgz' : w6.heap.size ≤ ga := by omega
        clear hge hgz
        have hgz := hgz'
        clear hgz'
        clear hbz hb67 hb68 hH8
      all_goals
          have q0 : w9.cell? ⟨ga, 0, none⟩ = some (.int .u16 (ma : Nat)) := (cell_of_row _ _ 0 _ _ _ hga).trans rfl
          have q1 : w9.cell? ⟨ga, 1, none⟩ = some (.int .u16 (mb : Nat)) := (cell_of_row _ _ 1 _ _ _ hga).trans rfl
          have q2 : w9.cell? ⟨ga, 2, none⟩ = some (.int .i64 gr) := (cell_of_row _ _ 2 _ _ _ hga).trans rfl
          have q3 : w9.cell? ⟨ga, 3, none⟩ = some (.int .i64 (clrAt ps p k)) := (cell_of_row _ _ 3 _ _ _ hga).trans rfl
          have q4 : w9.cell? ⟨ga, 4, none⟩ = some (.int .i64 (leastG ps za)) := (cell_of_row _ _ 4 _ _ _ hga).trans rfl
          have HB9 := Lib.hid hb6a
          have HW9 := Lib.hid (HBX.out _ hb6a)
          have hcb := clrAt_bound ps p k
          have hlb := leastG_bound ps za
          have HLG : Hid (longAt ps p k = gr + clrAt ps p k) := Lib.hid HLA.out
          clear hb6a hga HCC HLC HSK HBX
          generalize clrAt ps p k = cl at *
          generalize leastG ps za = lg at *
          by_cases hm0 : ma = 0
          · have HPN : Hid (isPlan ps p = false) := Lib.hid (HNO.out (by rw [HOK.out, hm0]; rfl))
            have e0 : ((ma : Int) == 0) = true := by rw [hm0]; rfl
            have hth : w9.there w.heap.size 0 16 := there_block ((HB9.out.block w.heap.size (by omega)).trans ((b6.out.block w.heap.size (by omega)).trans HRZ5.out)) 16 rfl
            go_wp2_with ((with_reducible show wpList _ _ _ _ _ _); refine wpList_store_mid rfl 81 _ _ rfl w.heap.size 0 z16.toArray rfl rfl hth info_timed (all_oneCell_toArray z16_one) ?_)
            refine bodyPost_ret (v := .tuple #[.agg z16.toArray, .bool false]) (by
              have hload := run_loadVar_mid (P := Tryz.prog) (w9.setCells w.heap.size 0 z16) w.heap.size 0 81 z16 _ (World.rangeAt_setCells_same _ _ _ _ hth) Tryz.underlying81 rfl info_timed
              rw [results_cell_tmp rfl]
              simp [asAddr, hload, Result.andThen]) rfl ⟨z16, by rw [HPN.out], ⟨fun _ => rfl, fun hh => by rw [HPN.out] at hh; cases hh⟩, ?_⟩
            exact below_setCells _ (Nat.le_refl _) _ _ _ HW9.out
          · have e0 : ((ma : Int) == 0) = false := by simpa using hm0
            go_wp2_with fail
            refine (impl_InRange _ _ _ _).mono ?_
            cases hir : inB gr lg 60
            · have HPN : Hid (isPlan ps p = false) := Lib.hid (HNO.out (by rw [HOK.out, hir, Bool.and_false]))
              have hth : w9.there w.heap.size 0 16 := there_block ((HB9.out.block w.heap.size (by omega)).trans ((b6.out.block w.heap.size (by omega)).trans HRZ5.out)) 16 rfl
              rintro e wx ⟨rfl, rfl⟩
              clear hir
              go_wp2_with ((with_reducible show wpList _ _ _ _ _ _); refine wpList_store_mid rfl 81 _ _ rfl w.heap.size 0 z16.toArray rfl rfl hth info_timed (all_oneCell_toArray z16_one) ?_)
              refine bodyPost_ret (v := .tuple #[.agg z16.toArray, .bool false]) (by
                have hload := run_loadVar_mid (P := Tryz.prog) (w9.setCells w.heap.size 0 z16) w.heap.size 0 81 z16 _ (World.rangeAt_setCells_same _ _ _ _ hth) Tryz.underlying81 rfl info_timed
                rw [results_cell_tmp rfl]
                simp [asAddr, hload, Result.andThen]) rfl ⟨z16, by rw [HPN.out], ⟨fun _ => rfl, fun hh => by rw [HPN.out] at hh; cases hh⟩, ?_⟩
              exact below_setCells _ (Nat.le_refl _) _ _ _ HW9.out
            · rintro e wx ⟨rfl, rfl⟩
              have hgr := inB_t hir
              have HOKY : Hid (okPrt ps (prAt p k) = true) := Lib.hid (by rw [HOK.out, hir, decide_eq_false hm0]; rfl)
              have e8 : IntKind.i64.wrap (gr + cl) = gr + cl := by rw [IntKind.wrap_i64]; omega
              clear hir
              have hsk := sumTo_ok k HG.out
              have HAD := Lib.hid (impl_tadd w5.heap.size xs hln v1 v2 (sumTo ps p k) (gr + cl) k _ (begTo ps p k) ma mb gr cl lg w9 (ownr_below t6.out HB9.out) (ownr_below f6.out HB9.out) (ownr_below s6.out HB9.out) (by omega) (by omega) (by omega))
              rw [show (phC ma mb gr cl lg).toArray = #[.int .u16 (ma : Nat), .int .u16 (mb : Nat), .int .i64 gr, .int .i64 cl, .int .i64 lg] from rfl, ← HPS.out, ← begTo_succ, show sumTo ps p k + (gr + cl) = sumTo ps p (k + 1) by rw [← HLA.out]; rfl] at HAD
              go_wp2_with fail
              refine HAD.out.mono ?_
              rintro e w10 ⟨rfl, v1', v2', t10, f10, s10, b10⟩
              have T10 := Lib.hid t10
              have F10 := Lib.hid f10
              have S10 := Lib.hid s10
              have B10 := Lib.hid ((b6.out.trans (HB9.out.mono b6.out.size)).trans b10)
              have HG10 : Hid (∀ j, j < k + 1 → okPrt ps (prAt p j) = true) := Lib.hid (fun j hj => by
                by_cases e : j = k
                · subst e; exact HOKY.out
                · exact HG.out j (by omega))
              clear t10 f10 s10 b10 HAD q0 q1 q2 q3 q4 e0 e8 hH
              go_wp2
              go_roundw
              case rel => exact ⟨k + 1, v1', v2', by omega, by go_num, T10.out, F10.out, S10.out, HG10.out, B10.out⟩
              case measure => simp [intOf]; omega
    · obtain rfl : k = n2 := by omega
      have hp : isPlan ps p = true := by rw [isPlan_end (by rw [hl2]; exact HIN.out) (fun j hj => HG.out j (by omega))]; exact HCP.out
      have HPY := Lib.hid hp
      obtain ⟨a1, q1, rfl⟩ := ownr_sliced HPH.out
      obtain ⟨a2, q2, rfl⟩ := ownr_sliced HBG.out
      have hone : ∀ u ∈ xs, u.oneCell' = true := by rw [← HXS.out]; exact xcells_one _ _ _ _
      obtain ⟨cs, hcs⟩ : ∃ cs, cs = xs ++ [.slice a1 k q1, .slice a2 k q2, .int .i64 (sumTo ps p k)] := ⟨_, rfl⟩
      have ht := HT16.out
      rw [← hcs] at ht
      have hclen : cs.length = 16 := ht.1
      have hcone : ∀ u ∈ cs, u.oneCell' = true := fun u hu => by
        rw [hcs, List.mem_append] at hu
        rcases hu with hu | hu
        · exact hone u hu
        · simp only [List.mem_cons, List.not_mem_nil, or_false] at hu
          rcases hu with rfl | rfl | rfl <;> rfl
      have hrng : wr.rangeAt w5.heap.size 0 cs := fun j v hj => by rw [Nat.zero_add]; exact row_cell ht hj
      have hth : wr.there w.heap.size 0 16 := there_block ((HBL.out.block w.heap.size (by omega)).trans HRZ5.out) 16 rfl
      have hinf16 : (Tryz.prog.info? 81).map (·.size) = some cs.length := by rw [hclen]; exact info_timed
      have hth2 : wr.there w.heap.size 0 cs.toArray.size := by rw [show cs.toArray.size = 16 by simpa using hclen]; exact hth
      have hinf2 : (Tryz.prog.info? 81).map (·.size) = some cs.toArray.size := by rw [List.size_toArray]; exact hinf16
      have HCS := Lib.hid hcs
      have hgr := grown_setCells (b := w.heap.size) cs 0 wr (World.grownBy.refl _ _)
      have HPH2 := Lib.hid (ownr_grown HPH.out hgr (fun q e h' => by have := (ownr_block HPH.out q e).1; have := Option.some.inj h'; omega))
      have HBG2 := Lib.hid (ownr_grown HBG.out hgr (fun q e h' => by have := (ownr_block HBG.out q e).1; have := Option.some.inj h'; omega))
      have HBE := Lib.hid (HB5.out.trans (HBL.out.mono HB5.out.size))
      clear hp hone ht hgr hcs
      go_wp2_with
        (first
          | ((with_reducible show wpList _ _ _ _ _ _); refine wpList_load_mid rfl 81 _ rfl w5.heap.size 0 rfl cs _ hrng Tryz.underlying81 rfl hinf16 ?_)
          | ((with_reducible show wpList _ _ _ _ _ _); refine wpList_store_mid rfl 81 _ _ rfl w.heap.size 0 cs.toArray rfl rfl hth2 hinf2 (all_oneCell_toArray hcone) ?_))
      refine bodyPost_ret (v := .tuple #[.agg cs.toArray, .bool true]) (by
        have hload := run_loadVar_mid (P := Tryz.prog) (wr.setCells w.heap.size 0 cs) w.heap.size 0 81 cs _ (World.rangeAt_setCells_same _ _ _ _ (by rw [hclen]; exact hth)) Tryz.underlying81 rfl hinf16
        rw [results_cell_tmp rfl]
        simp [asAddr, hload, Result.andThen]) rfl ⟨cs, by rw [HPY.out], ⟨(fun hh => by rw [HPY.out] at hh; cases hh), fun _ => ⟨_, _, by rw [HCS.out, HFS.out, HXS.out, hl2], by rw [hl2]; exact ownr_mono HPH2.out (by omega), by rw [hl2]; exact ownr_mono HBG2.out (by omega)⟩⟩, ?_⟩
      exact below_setCells _ (Nat.le_refl _) _ _ _ HBE.out
end Go.Proofs.YtlpkafhapmkkfaaGreatDoor

/- timePlan in one piece; IsPlan, Cycle, StartOf of the program. -/
namespace Go.Proofs.YtlpkafhapmkkfaaGreatDoor
open Go.RowKit
set_option linter.unusedVariables false

/-- the cells of a timed plan. -/
def t16 (A : Option Addr) (n c : Nat) (f : Nat → Nat) (v1 v2 : Value) (L : Int) : Array Value := #[.slice A n c, .int .u16 (f 0 : Nat), .int .u16 (f 1 : Nat), .int .u16 (f 2 : Nat), .int .u16 (f 3 : Nat), .int .u16 (f 4 : Nat), .int .u16 (f 5 : Nat), .int .u16 (f 6 : Nat), .int .u16 (f 7 : Nat), .int .u16 (f 8 : Nat), .int .u16 (f 9 : Nat), .int .u16 (f 10 : Nat), .int .u16 (f 11 : Nat), v1, v2, .int .i64 L]
theorem t16_list (A : Option Addr) (n c : Nat) (f : Nat → Nat) (v1 v2 : Value) (L : Int) : (xcells A n c f ++ [v1, v2, .int .i64 L]).toArray = t16 A n c f v1 v2 L := rfl
/-- what a function of a plan is handed. -/
structure PlnIn (w : World) (A : Option Addr) (n c B : Nat) (ps : List Pth) (A2 : Option Addr) (n2 c2 B2 : Nat) (p : List Prt) : Prop where
  h : PthsAt w B A n ps
  hB : B ≤ w.heap.size
  hn : n ≤ c ∧ c ≤ maxLen
  hn4 : n ≤ 4294967296
  h2 : PrtsAt w B2 A2 n2 p
  hB2 : B2 ≤ w.heap.size
  hn2 : n2 ≤ 1048576
  hm : ∀ j, j < n2 → (prAt p j).stage.length ≤ 1048576
  hw : Brus w
  ht : Clrs w
theorem PlnIn.below {w w' : World} {A : Option Addr} {n c B : Nat} {ps : List Pth} {A2 : Option Addr} {n2 c2 B2 : Nat} {p : List Prt} (I : PlnIn w A n c B ps A2 n2 c2 B2 p) (hb : Below w.heap.size w w') : PlnIn w' A n c B ps A2 n2 c2 B2 p :=
  ⟨I.h.below (hb.mono I.hB), Nat.le_trans I.hB hb.size, I.hn, I.hn4, I.h2.below I.hB2 hb, Nat.le_trans I.hB2 hb.size, I.hn2, I.hm, I.hw.below hb (Nat.le_refl _), I.ht.below hb (Nat.le_refl _)⟩
theorem PlnIn.len {w : World} {A : Option Addr} {n c B : Nat} {ps : List Pth} {A2 : Option Addr} {n2 c2 B2 : Nat} {p : List Prt} (I : PlnIn w A n c B ps A2 n2 c2 B2 p) : p.length = n2 := I.h2.1
theorem PlnIn.lenp {w : World} {A : Option Addr} {n c B : Nat} {ps : List Pth} {A2 : Option Addr} {n2 c2 B2 : Nat} {p : List Prt} (I : PlnIn w A n c B ps A2 n2 c2 B2 p) : ps.length = n := I.h.1
/-- what a plan leaves in memory. -/
def PhsIn (w' : World) (lo : Nat) (ps : List Pth) (p : List Prt) (n2 : Nat) (a1 : Option Addr) (q1 : Nat) (a2 : Option Addr) (q2 : Nat) : Prop :=
  w'.ownsRow lo 129 5 (.slice a1 n2 q1) n2 ((phsTo ps p n2).flatMap Phs.cells) ∧ w'.ownsRow lo 3 1 (.slice a2 n2 q2) n2 ((begTo ps p n2).map (Value.int .i64))
theorem PhsIn.below {w w' : World} {lo : Nat} {ps : List Pth} {p : List Prt} {n2 : Nat} {a1 : Option Addr} {q1 : Nat} {a2 : Option Addr} {q2 : Nat} (h : PhsIn w lo ps p n2 a1 q1 a2 q2) (hb : Below w.heap.size w w') : PhsIn w' lo ps p n2 a1 q1 a2 q2 := ⟨ownr_below h.1 hb, ownr_below h.2 hb⟩
theorem impl_timePlan_off {w : World} {A : Option Addr} {n c B : Nat} {ps : List Pth} {A2 : Option Addr} {n2 c2 B2 : Nat} {p : List Prt} (I : PlnIn w A n c B ps A2 n2 c2 B2 p) (hp : isPlan ps p = false) :
    Calls Tryz.prog 42 #[.slice A n c, .slice A2 n2 c2] w fun e w' => e = .returned (.tuple #[.agg (t16 none 0 0 (fun _ => 0) (.slice none 0 0) (.slice none 0 0) 0), .bool false]) ∧ Below w.heap.size w w' := by
  have hl := I.h.1
  subst hl
  cases ha : arePs ps
  · refine (impl_timePlan_no A _ c B ps A2 n2 c2 B2 p w I.h I.hB I.hn4 I.h2 I.hB2 I.hn2 ha).mono ?_
    rintro e w' ⟨cs, rfl, ht, hb⟩
    obtain rfl := ht.1 hp
    exact ⟨by rw [hp]; rfl, hb⟩
  · refine (impl_timePlan_yes A _ c B ps A2 n2 c2 B2 p w I.h I.hB I.hn I.h2 I.hB2 I.hn2 I.hm ha I.hw I.ht).mono ?_
    rintro e w' ⟨cs, rfl, ht, hb⟩
    obtain rfl := ht.1 hp
    exact ⟨by rw [hp]; rfl, hb⟩
theorem impl_timePlan_on {w : World} {A : Option Addr} {n c B : Nat} {ps : List Pth} {A2 : Option Addr} {n2 c2 B2 : Nat} {p : List Prt} (I : PlnIn w A n c B ps A2 n2 c2 B2 p) (hp : isPlan ps p = true) :
    Calls Tryz.prog 42 #[.slice A n c, .slice A2 n2 c2] w fun e w' => ∃ a1 q1 a2 q2, e = .returned (.tuple #[.agg (t16 A n c (rowSt ps n 0) (.slice a1 n2 q1) (.slice a2 n2 q2) (sumTo ps p n2)), .bool true]) ∧ PhsIn w' w.heap.size ps p n2 a1 q1 a2 q2 ∧ Below w.heap.size w w' := by
  have hl := I.h.1
  have hl2 := I.h2.1
  subst hl
  have ha := (isPlan_parts hp).2.1
  refine (impl_timePlan_yes A _ c B ps A2 n2 c2 B2 p w I.h I.hB I.hn I.h2 I.hB2 I.hn2 I.hm ha I.hw I.ht).mono ?_
  rintro e w' ⟨cs, rfl, ht, hb⟩
  obtain ⟨v1, v2, rfl, o1, o2⟩ := ht.2 hp
  rw [hl2] at o1 o2 ⊢
  obtain ⟨a1, q1, rfl⟩ := ownr_sliced o1
  obtain ⟨a2, q2, rfl⟩ := ownr_sliced o2
  exact ⟨a1, q1, a2, q2, by rw [hp]; rfl, ⟨o1, o2⟩, hb⟩
set_option maxHeartbeats 2000000 in
set_option maxRecDepth 100000 in
theorem impl_IsPlan {w : World} {A : Option Addr} {n c B : Nat} {ps : List Pth} {A2 : Option Addr} {n2 c2 B2 : Nat} {p : List Prt} (I : PlnIn w A n c B ps A2 n2 c2 B2 p) :
    Calls Tryz.prog 79 #[.slice A n c, .slice A2 n2 c2] w fun e w' => e = .returned (.bool (isPlan ps p)) ∧ Below w.heap.size w w' := by
  cases hp : isPlan ps p
  · have H := impl_timePlan_off I hp
    unfold t16 at H
    have HC := Lib.hid H
    clear H hp I
    go_enter Tryz.func79, Tryz.ntmps79
    go_wp2_with fail
    refine HC.out.mono ?_
    rintro e w1 ⟨rfl, hb⟩
    have HB := Lib.hid hb
    clear hb
    go_wp2
    go_ret
    exact ⟨rfl, HB.out.alloc HB.out.size _⟩
  · have H := impl_timePlan_on I hp
    unfold t16 at H
    have HC := Lib.hid H
    clear H hp I
    go_enter Tryz.func79, Tryz.ntmps79
    go_wp2_with fail
    refine HC.out.mono ?_
    rintro e w1 ⟨a1, q1, a2, q2, rfl, -, hb⟩
    have HB := Lib.hid hb
    clear hb
    go_wp2
    go_ret
    exact ⟨rfl, HB.out.alloc HB.out.size _⟩
end Go.Proofs.YtlpkafhapmkkfaaGreatDoor

/- Rows of elements of two or three cells. No program. -/
namespace Go.Proofs.YtlpkafhapmkkfaaGreatDoor
open Go.RowKit

theorem stored2 {w : World} {g : Nat} {x0 x1 a b : Value} {E : TypeId} (h : w.heap[g]? = some (.cells #[x0, x1] E)) : ((w.setCell ⟨g, 0, none⟩ a).setCell ⟨g, 1, none⟩ b).heap[g]? = some (.cells #[a, b] E) :=
  heap_setCell_same _ g 1 _ E b (heap_setCell_same w g 0 _ E a h)
theorem stored3 {w : World} {g : Nat} {x0 x1 x2 a b c : Value} {E : TypeId} (h : w.heap[g]? = some (.cells #[x0, x1, x2] E)) : (((w.setCell ⟨g, 0, none⟩ a).setCell ⟨g, 1, none⟩ b).setCell ⟨g, 2, none⟩ c).heap[g]? = some (.cells #[a, b, c] E) :=
  heap_setCell_same _ g 2 _ E c (heap_setCell_same _ g 1 _ E b (heap_setCell_same w g 0 _ E a h))
theorem stored4 {w : World} {g : Nat} {x0 x1 x2 x3 a b c d : Value} {E : TypeId} (h : w.heap[g]? = some (.cells #[x0, x1, x2, x3] E)) : ((((w.setCell ⟨g, 0, none⟩ a).setCell ⟨g, 1, none⟩ b).setCell ⟨g, 2, none⟩ c).setCell ⟨g, 3, none⟩ d).heap[g]? = some (.cells #[a, b, c, d] E) :=
  heap_setCell_same _ g 3 _ E d (heap_setCell_same _ g 2 _ E c (heap_setCell_same _ g 1 _ E b (heap_setCell_same w g 0 _ E a h)))
theorem unstored2 {w : World} {g k : Nat} {a b : Value} {x : Obj} (h : w.heap[k]? = some x) (hk : k ≠ g) : ((w.setCell ⟨g, 0, none⟩ a).setCell ⟨g, 1, none⟩ b).heap[k]? = some x :=
  (heap_setCell_other _ _ k b hk).trans ((heap_setCell_other w _ k a hk).trans h)
theorem unstored3 {w : World} {g k : Nat} {a b c : Value} {x : Obj} (h : w.heap[k]? = some x) (hk : k ≠ g) : (((w.setCell ⟨g, 0, none⟩ a).setCell ⟨g, 1, none⟩ b).setCell ⟨g, 2, none⟩ c).heap[k]? = some x :=
  (heap_setCell_other _ _ k c hk).trans ((heap_setCell_other _ _ k b hk).trans ((heap_setCell_other w _ k a hk).trans h))
theorem unstored4 {w : World} {g k : Nat} {a b c d : Value} {x : Obj} (h : w.heap[k]? = some x) (hk : k ≠ g) : ((((w.setCell ⟨g, 0, none⟩ a).setCell ⟨g, 1, none⟩ b).setCell ⟨g, 2, none⟩ c).setCell ⟨g, 3, none⟩ d).heap[k]? = some x :=
  (heap_setCell_other _ _ k d hk).trans ((heap_setCell_other _ _ k c hk).trans ((heap_setCell_other _ _ k b hk).trans ((heap_setCell_other w _ k a hk).trans h)))
theorem add_plusF (q : Addr) (i : Nat) (h : 0 < i) : q.add i = ⟨q.block, q.off + i, none⟩ := by unfold Addr.add; rw [if_neg (by omega)]
theorem heap_size_allocF (w : World) (o : Obj) : (w.alloc o).heap.size = w.heap.size + 1 := by simp
theorem heap_old (w : World) (o : Obj) {g : Nat} {x : Obj} (h : w.heap[g]? = some x) : (w.alloc o).heap[g]? = some x := (Below.heap_alloc _ _ _ (lt_of_block h)).trans h
theorem heap_newF (w : World) (o : Obj) {g : Nat} (h : w.heap.size = g) : (w.alloc o).heap[g]? = some o := by subst h; exact heap_alloc_new w o
theorem one_block {w wA : World} {o0 : Obj} (h : wA = w.alloc o0) : wA.heap[w.heap.size]? = some o0 ∧ wA.heap.size = w.heap.size + 1 ∧ Below w.heap.size w wA := by
  subst h
  exact ⟨heap_alloc_new w o0, heap_size_allocF _ _, (Below.refl _ _).alloc (Nat.le_refl _) _⟩
theorem two_blocks {w wA : World} {o0 o1 : Obj} (h : wA = (w.alloc o0).alloc o1) : wA.heap[w.heap.size]? = some o0 ∧ wA.heap[w.heap.size + 1]? = some o1 ∧ wA.heap.size = w.heap.size + 2 ∧ Below w.heap.size w wA := by
  subst h
  refine ⟨heap_old _ _ (heap_alloc_new w o0), heap_newF _ _ (heap_size_allocF _ _), ?_, ((Below.refl _ _).alloc (Nat.le_refl _) _).alloc ?_ _⟩
  · rw [heap_size_allocF, heap_size_allocF]
  · rw [heap_size_allocF]; omega
theorem three_blocks {w wA : World} {o0 o1 o2 : Obj} (h : wA = ((w.alloc o0).alloc o1).alloc o2) : wA.heap[w.heap.size]? = some o0 ∧ wA.heap[w.heap.size + 1]? = some o1 ∧ wA.heap[w.heap.size + 1 + 1]? = some o2 ∧ wA.heap.size = w.heap.size + 3 ∧ Below w.heap.size w wA := by
  subst h
  refine ⟨heap_old _ _ (heap_old _ _ (heap_alloc_new w o0)), heap_old _ _ (heap_newF _ _ (heap_size_allocF _ _)), heap_newF _ _ ?_, ?_, (((Below.refl _ _).alloc (Nat.le_refl _) _).alloc ?_ _).alloc ?_ _⟩
  · rw [heap_size_allocF, heap_size_allocF]
  · rw [heap_size_allocF, heap_size_allocF, heap_size_allocF]
  · rw [heap_size_allocF]; omega
  · rw [heap_size_allocF, heap_size_allocF]; omega
theorem results_cell_tmpF {fn : Func} {p q : Tmp} {ty : TypeId} (h : fn.results = #[.cell p ty, .tmp q]) (tmps : Array Value) (P : Program) (w : World) :
    (results fn tmps).run P w = ((asAddr (tmps.getD p undef)).run P w).andThen fun a w₁ => ((loadVar ty a).run P w₁).andThen fun v w₂ => .ok (.tuple #[v, tmps.getD q undef]) w₂ := by
  simp only [results, h]
  simp [Sem.run_bind, Result.andThen]
theorem set2 {pre rest : List Value} {z0 z1 a b : Value} {m : Nat} (h : pre.length = m) : (((pre ++ z0 :: z1 :: rest).set m a).set (m + 1) b) = pre ++ a :: b :: rest := by
  rw [set_at h]
  have e1 : pre ++ a :: z1 :: rest = (pre ++ [a]) ++ z1 :: rest := by simp
  rw [e1, set_at (by simp [h])]
  simp
theorem drop2 {zs : List Value} {m : Nat} (h : m + 2 ≤ zs.length) : ∃ z0 z1, zs.drop m = z0 :: z1 :: zs.drop (m + 2) :=
  ⟨zs[m], zs[m + 1], by rw [List.drop_eq_getElem_cons (by omega), List.drop_eq_getElem_cons (by omega)]⟩
theorem set3 {pre rest : List Value} {z0 z1 z2 a b c : Value} {m : Nat} (h : pre.length = m) : (((pre ++ z0 :: z1 :: z2 :: rest).set m a).set (m + 1) b).set (m + 2) c = pre ++ a :: b :: c :: rest := by
  rw [set_at h]
  have e1 : pre ++ a :: z1 :: z2 :: rest = (pre ++ [a]) ++ z1 :: z2 :: rest := by simp
  rw [e1, set_at (by simp [h])]
  have e2 : (pre ++ [a]) ++ b :: z2 :: rest = (pre ++ [a, b]) ++ z2 :: rest := by simp
  rw [e2, set_at (by simp [h])]
  simp
theorem drop3 {zs : List Value} {m : Nat} (h : m + 3 ≤ zs.length) : ∃ z0 z1 z2, zs.drop m = z0 :: z1 :: z2 :: zs.drop (m + 3) :=
  ⟨zs[m], zs[m + 1], zs[m + 2], by rw [List.drop_eq_getElem_cons (by omega), List.drop_eq_getElem_cons (by omega), List.drop_eq_getElem_cons (by omega)]⟩
theorem set5 {pre rest : List Value} {z0 z1 z2 z3 z4 a b c d e : Value} {m : Nat} (h : pre.length = m) : (((((pre ++ z0 :: z1 :: z2 :: z3 :: z4 :: rest).set m a).set (m + 1) b).set (m + 2) c).set (m + 3) d).set (m + 4) e = pre ++ a :: b :: c :: d :: e :: rest := by
  rw [set4 h]
  have e1 : pre ++ a :: b :: c :: d :: z4 :: rest = (pre ++ [a, b, c, d]) ++ z4 :: rest := by simp
  rw [e1, set_at (by simp [h])]
  simp
theorem drop5 {zs : List Value} {m : Nat} (h : m + 5 ≤ zs.length) : ∃ z0 z1 z2 z3 z4, zs.drop m = z0 :: z1 :: z2 :: z3 :: z4 :: zs.drop (m + 5) :=
  ⟨zs[m], zs[m + 1], zs[m + 2], zs[m + 3], zs[m + 4], by rw [List.drop_eq_getElem_cons (by omega), List.drop_eq_getElem_cons (by omega), List.drop_eq_getElem_cons (by omega), List.drop_eq_getElem_cons (by omega), List.drop_eq_getElem_cons (by omega)]⟩
end Go.Proofs.YtlpkafhapmkkfaaGreatDoor

/- The program's rows of lights: show, showTo, rowOf. -/
namespace Go.Proofs.YtlpkafhapmkkfaaGreatDoor
open Go.RowKit
set_option linter.unusedVariables false

/-- the variable at g holds a row of lights of the call's own. -/
def RowAt (w : World) (lo g : Nat) (v : Value) (zs : List Int) : Prop :=
  w.ownsRow lo 107 1 (.slice (some ⟨g, 0, none⟩) 1 1) 1 [v] ∧ w.ownsRow lo 3 1 v zs.length (zs.map (Value.int .i64))
theorem RowAt.below {w w' : World} {lo g : Nat} {v : Value} {zs : List Int} (h : RowAt w lo g v zs) (hb : Below w.heap.size w w') : RowAt w' lo g v zs := ⟨ownr_below h.1 hb, ownr_below h.2 hb⟩
theorem RowAt.cell {w : World} {lo g : Nat} {v : Value} {zs : List Int} (h : RowAt w lo g v zs) : w.cell? ⟨g, 0, none⟩ = some v := row_cell h.1 rfl
theorem RowAt.lt {w : World} {lo g : Nat} {v : Value} {zs : List Int} (h : RowAt w lo g v zs) : lo ≤ g ∧ g < w.heap.size := ownr_block h.1 _ rfl
/-- beside the variable at g and what it holds nothing has changed. -/
structure KeptR (w w' : World) (lo g : Nat) (v v' : Value) : Prop where
  below : Below lo w w'
  block : ∀ b, b < w.heap.size → b ≠ g → v.ownBlock ≠ some b → w'.heap[b]? = w.heap[b]?
  own : ∀ b, v'.ownBlock = some b → v.ownBlock = some b ∨ w.heap.size ≤ b
theorem KeptR.refl (w : World) (lo g : Nat) (v : Value) : KeptR w w lo g v v := ⟨Below.refl _ _, fun _ _ _ _ => rfl, fun _ h => .inl h⟩
theorem KeptR.trans {w w' w'' : World} {lo g : Nat} {v v' v'' : Value} (h : KeptR w w' lo g v v') (k : KeptR w' w'' lo g v' v'') : KeptR w w'' lo g v v'' := by
  have hs := h.below.size
  refine ⟨h.below.trans k.below, fun b hb hg hv => (k.block b (by omega) hg fun e => ?_).trans (h.block b hb hg hv), fun b e => ?_⟩
  · rcases h.own b e with q | q
    · exact hv q
    · omega
  · rcases k.own b e with q | q
    · exact h.own b q
    · exact .inr (by omega)
theorem KeptR.of_below {w w' : World} {lo g : Nat} {v : Value} (hb : Below w.heap.size w w') (hl : lo ≤ w.heap.size) : KeptR w w' lo g v v := ⟨hb.mono hl, fun b h _ _ => hb.block b h, fun _ h => .inl h⟩
theorem keptr_grown {w wr w4 : World} {lo g : Nat} {v u v4 : Value} {o : Obj} (h : KeptR w wr lo g v u) (hg : (wr.alloc o).grownBy w4 u.ownBlock) (ha : v4.ownBlock = u.ownBlock ∨ v4.ownBlock = some (wr.heap.size + 1)) :
    (∀ b, b < w.heap.size → v.ownBlock ≠ some b → b ≠ g → w4.heap[b]? = w.heap[b]?) ∧ ∀ b, v4.ownBlock = some b → v.ownBlock = some b ∨ w.heap.size ≤ b := by
  have hs := h.below.size
  refine ⟨fun b hb hv hne => ?_, fun b e => ?_⟩
  · have h1 := hg.block b (by simp; omega) (fun e => by
      rcases h.own b e.symm with q | q
      · exact hv q
      · omega)
    have h2 := Below.heap_alloc wr o b (by omega)
    exact h1.trans (h2.trans (h.block b hb hne hv))
  · rcases ha with q | q
    · rw [q] at e; exact h.own b e
    · rw [q] at e; injection e with e; exact .inr (by omega)
set_option maxHeartbeats 2000000 in
theorem impl_show (g lo : Nat) (v : Value) (zs : List Int) (light : Int) (secs : Nat) (w : World) (h : RowAt w lo g v zs) (hn : zs.length + secs ≤ 1000000) :
    Calls Tryz.prog 134 #[.pointer (some ⟨g, 0, none⟩), .int .i64 light, .int .i64 (secs : Nat)] w fun e w' => e = .returned (.tuple #[]) ∧ ∃ v', RowAt w' lo g v' (zs ++ List.replicate secs light) ∧ KeptR w w' lo g v v' := by
  have hlg := h.lt
  have H := Lib.hid h
  have ht : 107 ≠ 3 := by decide
  clear h
  go_enter Tryz.func134, Tryz.ntmps134
  go_wp2
  go_loopw [7] (fun i wr => ∃ (k : Nat) (u : Value), k ≤ secs ∧ i = .int .i64 k ∧ RowAt wr lo g u (zs ++ List.replicate k light) ∧ KeptR w wr lo g v u) (fun i _ => secs - (intOf i).toNat)
  case atStart => exact ⟨0, v, Nat.zero_le _, rfl, by simpa using H.out, KeptR.refl _ _ _ _⟩
  case round =>
    obtain ⟨k, u, hk, rfl, hrow, hbl⟩ := hrel
    have hsz := hbl.below.size
    by_cases hlt : k < secs
    · obtain ⟨ys, hys⟩ : ∃ ys, ys = zs ++ List.replicate k light := ⟨_, rfl⟩
      have hlen : ys.length ≤ 1000000 := by rw [hys]; simp only [List.length_append, List.length_replicate]; omega
      rw [← hys] at hrow
      have c0 := hrow.cell
      have HR := Lib.hid hrow
      have HB := Lib.hid hbl
      have hlo : lo ≤ wr.heap.size := by have := hrow.lt; omega
      have HPU : Hid (ys ++ [light] = zs ++ List.replicate (k + 1) light) := Lib.hid (by rw [hys, List.append_assoc]; congr 1; rw [List.replicate_succ']) 
      clear hrow hbl hys
      go_wp2_with (at_builtin; refine wpList_appR1 rfl _ _ 107 rfl 3 (.int .i64 0) 1 8 Tryz.underlying107 info_int1 rfl (by decide) (by decide) lo _ _ _ rfl HR.out.2 (by omega) [.int .i64 light] rfl (by simp [Value.oneCell']) _ _ wr.heap.size hlo rfl (by simp) ?_; intro v4 w4 hown4 hgrow4 hat4; have hT4 := ownr_grown (ownr_below HR.out.1 ((Below.refl wr.heap.size wr).alloc (Nat.le_refl _) _)) hgrow4 (fun q e h' => apart_types HR.out.1 HR.out.2 ht q e h'); have hB4 := ownr_push HR.out.2 (Nat.le_refl lo) (HB.out.below.alloc hlo _) (by simp; omega) hgrow4; have hK4 := keptr_grown HB.out hgrow4 hat4; obtain ⟨A4, d4, rfl⟩ := ownr_sliced hown4; obtain ⟨x4, hx4⟩ := ownr_some hT4 (j := 0) (by decide); have hf4 := World.ownsRow.frozenAt hT4 0; clear hgrow4 hat4 c0)
      have hs := World.ownsRow.stored hT4 0 (.slice A4 (ys.length + 1) d4)
      have hR5 : Hid (RowAt (w4.setCell ⟨g, 0, none⟩ (.slice A4 (ys.length + 1) d4)) lo g (.slice A4 (ys.length + 1) d4) (zs ++ List.replicate (k + 1) light)) := Lib.hid (by
        have h2 := ownr_grown hown4 hs.2 (fun q e h' => apart_types hT4 hown4 ht q h' e)
        refine ⟨hs.1, ?_⟩
        rw [← HPU.out, List.map_append]
        simpa using h2)
      have hB5 : Hid (KeptR w (w4.setCell ⟨g, 0, none⟩ (.slice A4 (ys.length + 1) d4)) lo g v (.slice A4 (ys.length + 1) d4)) := Lib.hid ⟨hB4.setCell (p := ⟨g, 0, none⟩) hlg.1 _, fun b hb hne hv => (heap_setCell_other _ _ _ _ hne).trans (hK4.1 b hb hv hne), hK4.2⟩
      clear hs hB4 hown4 hT4 hx4 hf4 hK4
      go_roundw
      case rel => exact ⟨k + 1, _, by omega, by go_num, hR5.out, hB5.out⟩
      case measure => simp [intOf]; omega
    · obtain rfl : k = secs := by omega
      have HR := Lib.hid hrow
      have HB := Lib.hid hbl
      clear hrow hbl
      go_wp2
      go_end0
      exact ⟨rfl, _, HR.out, HB.out⟩
theorem bit_u16 (m i : Nat) (hm : m < 4096) (hi : i < 12) : bits .and .u16 ((m : Nat) : Int) ((2 ^ i : Nat) : Int) = ((m &&& 2 ^ i : Nat) : Int) := by
  have : 2 ^ i ≤ 2 ^ 11 := Nat.pow_le_pow_right (by decide) (by omega)
  exact u16_and_nat _ _ (by omega) (by omega)
set_option maxHeartbeats 2000000 in
set_option maxRecDepth 100000 in
theorem impl_showTo (f : Phs) (g lo : Nat) (v : Value) (zs : List Int) (i : Nat) (most : Int) (w : World) (h : RowAt w lo g v zs) (ho : f.opn < 4096) (hx : f.nxt < 4096) (hi : i < 12) (hg : 0 ≤ f.green ∧ f.green ≤ 60) (hc : 0 ≤ f.clr ∧ f.clr ≤ 5) (hm : 0 ≤ most ∧ most ≤ 1000) (hn : zs.length ≤ 100000) :
    Calls Tryz.prog 113 #[.agg f.cells.toArray, .pointer (some ⟨g, 0, none⟩), .int .u16 ((2 ^ i : Nat) : Int), .int .i64 most] w fun e w' => e = .returned (.tuple #[]) ∧ ∃ v', RowAt w' lo g v' (zs ++ showP f i most) ∧ KeptR w w' lo g v v' := by
  obtain ⟨o, x, gr, cl, le⟩ := f
  simp only at *
  have hlg := h.lt
  have ho2 := bit_u16 o i ho hi
  have hx2 := bit_u16 x i hx hi
  have hbA := (Below.refl w.heap.size w).alloc (Nat.le_refl _) (.cells #[.int .u16 (o : Nat), .int .u16 (x : Nat), .int .i64 gr, .int .i64 cl, .int .i64 le] 129)
  have HBA := Lib.hid (KeptR.of_below (g := g) (v := v) hbA (show lo ≤ w.heap.size by omega))
  have HR := Lib.hid (h.below hbA)
  have HSP : Hid (showP ⟨o, x, gr, cl, le⟩ i most = if o.testBit i then List.replicate gr.toNat 1 ++ (if x.testBit i then List.replicate cl.toNat 1 else List.replicate (minI most cl).toNat 2 ++ List.replicate (cl - minI most cl).toNat 0) else List.replicate (gr + cl).toNat 0) := Lib.hid rfl
  have hkm : 0 ≤ minI most cl ∧ minI most cl ≤ cl := by unfold minI; split <;> omega
  have e8 : IntKind.i64.wrap (gr + cl) = gr + cl := by rw [IntKind.wrap_i64]; omega
  have e9 : IntKind.i64.wrap (cl - minI most cl) = cl - minI most cl := by rw [IntKind.wrap_i64]; omega
  have n1 : gr = (gr.toNat : Int) := by omega
  have n2 : cl = (cl.toNat : Int) := by omega
  have n3 : gr + cl = ((gr + cl).toNat : Int) := by omega
  have n4 : minI most cl = ((minI most cl).toNat : Int) := by omega
  have n5 : cl - minI most cl = ((cl - minI most cl).toNat : Int) := by omega
  have hz1 := and_pow0 o i
  have hz2 := and_pow0 x i
  obtain ⟨wA, hwA⟩ : ∃ wA, wA = w.alloc (.cells #[.int .u16 (o : Nat), .int .u16 (x : Nat), .int .i64 gr, .int .i64 cl, .int .i64 le] 129) := ⟨_, rfl⟩
  obtain ⟨hk0, hsz, hbw⟩ := one_block hwA
  rw [← hwA] at HBA HR
  have hvb : ∀ b, v.ownBlock = some b → b < w.heap.size := fun b e => (ownr_block h.2 b e).2
  have hcells : ∀ W v', KeptR wA W lo g v v' → W.heap[w.heap.size]? = some (.cells #[.int .u16 (o : Nat), .int .u16 (x : Nat), .int .i64 gr, .int .i64 cl, .int .i64 le] 129) := fun W v' hk => (hk.block w.heap.size (by omega) (by omega) (fun e => by have := hvb _ e; omega)).trans hk0
  have HCE := Lib.hid hcells
  have HVB := Lib.hid hvb
  have HK0 := Lib.hid hk0
  have HB1 := Lib.hid hbA
  clear h hbA ho hx hcells hk0 hvb hbw
  have HN1 := Lib.hid n1
  have HN2 := Lib.hid n2
  have HN3 := Lib.hid n3
  have HN4 := Lib.hid n4
  have HN5 := Lib.hid n5
  clear n1 n2 n3 n4 n5
  have c0 : wA.cell? ⟨w.heap.size, 0, none⟩ = some (.int .u16 (o : Nat)) := (cell_of_row _ _ 0 _ _ _ HK0.out).trans rfl
  have c2 : wA.cell? ⟨w.heap.size, 2, none⟩ = some (.int .i64 gr) := (cell_of_row _ _ 2 _ _ _ HK0.out).trans rfl
  have c3 : wA.cell? ⟨w.heap.size, 3, none⟩ = some (.int .i64 cl) := (cell_of_row _ _ 3 _ _ _ HK0.out).trans rfl
  show Calls _ _ #[.agg #[.int .u16 (o : Nat), .int .u16 (x : Nat), .int .i64 gr, .int .i64 cl, .int .i64 le], _, _, _] _ _
  obtain ⟨pw, hpw⟩ : ∃ pw, pw = 2 ^ i := ⟨_, rfl⟩
  rw [← hpw] at ho2 hx2 hz1 hz2 ⊢
  clear hpw
  cases hbo : o.testBit i
  · have e0 : (((o &&& pw : Nat) : Int) == 0) = true := by rw [hz1.2 hbo]; rfl
    have H1 := impl_show g lo v zs 0 (gr + cl).toNat wA HR.out (by omega)
    rw [← HN3.out] at H1
    have HC := Lib.hid H1
    have HE : Hid (showP ⟨o, x, gr, cl, le⟩ i most = List.replicate (gr + cl).toNat 0) := Lib.hid (by rw [HSP.out, hbo]; rfl)
    clear hbo H1 hz1 hz2
    go_enter Tryz.func113, Tryz.ntmps113
    go_wp2_with fail
    rw [← hwA]
    clear hwA
    refine HC.out.mono ?_
    rintro e w1 ⟨rfl, v1, hr1, hk1⟩
    have HR1 := Lib.hid hr1
    have HK1 := Lib.hid (HBA.out.trans hk1)
    clear hr1 hk1 c0 c2 c3
    go_wp2
    exact bodyPost_ret (results_none rfl _ _ _) rfl ⟨rfl, _, by rw [HE.out]; exact HR1.out, HK1.out⟩
  · have e0 : (((o &&& pw : Nat) : Int) == 0) = false := by
      have : ¬ (o &&& pw) = 0 := fun e => by rw [hz1.1 e] at hbo; cases hbo
      simpa using this
    have H1 := impl_show g lo v zs 1 gr.toNat wA HR.out (by omega)
    rw [← HN1.out] at H1
    have HC := Lib.hid H1
    have hl1 : (zs ++ List.replicate gr.toNat 1).length = zs.length + gr.toNat := by simp
    cases hbx : x.testBit i
    · have ex : (((x &&& pw : Nat) : Int) != 0) = false := by rw [hz2.2 hbx]; rfl
      have HE : Hid (showP ⟨o, x, gr, cl, le⟩ i most = List.replicate gr.toNat 1 ++ (List.replicate (minI most cl).toNat 2 ++ List.replicate (cl - minI most cl).toNat 0)) := Lib.hid (by rw [HSP.out, hbo, hbx]; rfl)
      clear hbo hbx H1 hz1 hz2
      go_enter Tryz.func113, Tryz.ntmps113
      go_wp2_with fail
      rw [← hwA]
      clear hwA
      refine HC.out.mono ?_
      rintro e w1 ⟨rfl, v1, hr1, hk1⟩
      have hk := HCE.out w1 _ hk1
      have HR1 := Lib.hid hr1
      have HK1 := Lib.hid hk1
      have hsz1 := hk1.below.size
      clear hr1 hk1 c0 c2 c3
      have d1 : w1.cell? ⟨w.heap.size, 1, none⟩ = some (.int .u16 (x : Nat)) := (cell_of_row _ _ 1 _ _ _ hk).trans rfl
      have d3 : w1.cell? ⟨w.heap.size, 3, none⟩ = some (.int .i64 cl) := (cell_of_row _ _ 3 _ _ _ hk).trans rfl
      go_wp2_with fail
      refine (impl_Min most cl w1).mono ?_
      generalize hown : minI most cl = own at *
      rintro e w2 ⟨rfl, hb2⟩
      have hlo1 : lo ≤ w1.heap.size := by have := HR1.out.lt; omega
      have H2 := impl_show g lo v1 _ 2 own.toNat w2 (HR1.out.below hb2) (by rw [hl1]; omega)
      rw [← HN4.out] at H2
      have HC2 := Lib.hid H2
      have hvb : ∀ b, v1.ownBlock = some b → b < w1.heap.size ∧ b ≠ w.heap.size := fun b e => by
        have h1 := (ownr_block HR1.out.2 b e).2
        refine ⟨h1, fun e2 => ?_⟩
        subst e2
        rcases HK1.out.own _ e with q | q
        · have := HVB.out _ q; omega
        · omega
      have HCE2 : Hid (∀ W v', KeptR w2 W lo g v1 v' → W.heap[w.heap.size]? = some (.cells #[.int .u16 (o : Nat), .int .u16 (x : Nat), .int .i64 gr, .int .i64 cl, .int .i64 le] 129)) := Lib.hid (fun W v' hkk => (hkk.block w.heap.size (by have := hb2.size; omega) (by omega) (fun e => (hvb _ e).2 rfl)).trans ((hb2.block w.heap.size (by omega)).trans hk))
      have HKA := Lib.hid ((HBA.out.trans HK1.out).trans (KeptR.of_below hb2 hlo1))
      clear H2 hb2 hvb hk d1 d3
      go_wp2_with fail
      refine HC2.out.mono ?_
      rintro e w3 ⟨rfl, v3, hr3, hk3⟩
      have hk := HCE2.out w3 _ hk3
      have HKB := Lib.hid (HKA.out.trans hk3)
      have d3 : w3.cell? ⟨w.heap.size, 3, none⟩ = some (.int .i64 cl) := (cell_of_row _ _ 3 _ _ _ hk).trans rfl
      have H3 := impl_show g lo v3 _ 0 (cl - own).toNat w3 hr3 (by simp only [List.length_append, List.length_replicate] at hl1 ⊢; omega)
      rw [← HN5.out] at H3
      have HC3 := Lib.hid H3
      clear H3 hk hr3 hk3
      go_wp2_with fail
      refine HC3.out.mono ?_
      rintro e w4 ⟨rfl, v4, hr4, hk4⟩
      have HKC := Lib.hid (HKB.out.trans hk4)
      rw [List.append_assoc, List.append_assoc, ← HE.out] at hr4
      have HR4 := Lib.hid hr4
      clear hr4 hk4 d3
      go_wp2
      go_end0
      exact ⟨rfl, _, HR4.out, HKC.out⟩
    · have ex : (((x &&& pw : Nat) : Int) != 0) = true := by
        have : ¬ (x &&& pw) = 0 := fun e => by rw [hz2.1 e] at hbx; cases hbx
        simpa using this
      have HE : Hid (showP ⟨o, x, gr, cl, le⟩ i most = List.replicate gr.toNat 1 ++ List.replicate cl.toNat 1) := Lib.hid (by rw [HSP.out, hbo, hbx]; rfl)
      clear hbo hbx H1 hz1 hz2
      go_enter Tryz.func113, Tryz.ntmps113
      go_wp2_with fail
      rw [← hwA]
      clear hwA
      refine HC.out.mono ?_
      rintro e w1 ⟨rfl, v1, hr1, hk1⟩
      have hk := HCE.out w1 _ hk1
      have HK1 := Lib.hid (HBA.out.trans hk1)
      have H2 := impl_show g lo v1 _ 1 cl.toNat w1 hr1 (by rw [hl1]; omega)
      rw [← HN2.out] at H2
      have HC2 := Lib.hid H2
      clear hr1 hk1 c0 c2 c3 H2
      have d1 : w1.cell? ⟨w.heap.size, 1, none⟩ = some (.int .u16 (x : Nat)) := (cell_of_row _ _ 1 _ _ _ hk).trans rfl
      have d3 : w1.cell? ⟨w.heap.size, 3, none⟩ = some (.int .i64 cl) := (cell_of_row _ _ 3 _ _ _ hk).trans rfl
      clear hk
      go_wp2_with fail
      refine HC2.out.mono ?_
      rintro e w2 ⟨rfl, v2, hr2, hk2⟩
      have HK2 := Lib.hid (HK1.out.trans hk2)
      rw [List.append_assoc, ← HE.out] at hr2
      have HR2 := Lib.hid hr2
      clear hr2 hk2 d1 d3
      go_wp2
      exact bodyPost_ret (results_none rfl _ _ _) rfl ⟨rfl, _, HR2.out, HK2.out⟩
theorem okPhs {ps : List Pth} {p : List Prt} (h : isPlan ps p = true) {j : Nat} (hj : j < p.length) : (phsAt ps p j).opn < 4096 ∧ (phsAt ps p j).nxt < 4096 ∧ (0 ≤ (phsAt ps p j).green ∧ (phsAt ps p j).green ≤ 60) ∧ (0 ≤ (phsAt ps p j).clr ∧ (phsAt ps p j).clr ≤ 5) := by
  obtain ⟨⟨_, _⟩, ha, _, hok⟩ := isPlan_parts h
  have h12 := arePs_len12 ha
  have hg := (okPrt_parts (hok j hj)).2.2
  have hlb := leastG_bound ps (prAt p j).stage
  have hc := clrAt_bound ps p j
  exact ⟨maskL_lt _ _ h12, maskL_lt _ _ h12, by show 0 ≤ (prAt p j).green ∧ (prAt p j).green ≤ 60; omega, hc⟩
theorem PhsIn.cells {w : World} {lo : Nat} {ps : List Pth} {p : List Prt} {n2 : Nat} {g : Nat} {q1 : Nat} {a2 : Option Addr} {q2 : Nat} (h : PhsIn w lo ps p n2 (some ⟨g, 0, none⟩) q1 a2 q2) {k : Nat} (hk : k < n2) (d : Nat) (hd : d < 5) : w.cell? ⟨g, k * 5 + d, none⟩ = (phsAt ps p k).cells[d]? := by
  rw [World.ownsRow.cellAt h.1 (k * 5 + d) (by omega)]
  exact phs_cell (phs_at hk) d hd
theorem PhsIn.some {w : World} {lo : Nat} {ps : List Pth} {p : List Prt} {n2 : Nat} {a1 : Option Addr} {q1 : Nat} {a2 : Option Addr} {q2 : Nat} (h : PhsIn w lo ps p n2 a1 q1 a2 q2) (h0 : 0 < n2) : ∃ g, a1 = some ⟨g, 0, none⟩ ∧ lo ≤ g ∧ g < w.heap.size := by
  obtain ⟨g, rfl⟩ : ∃ g, a1 = Option.some ⟨g, 0, none⟩ := by
    rcases h.1.2 with ⟨q, _⟩ | ⟨g, cap, cur, hv, _⟩
    · injection q; omega
    · injection hv with h1 h2 h3; exact ⟨_, h1⟩
  exact ⟨g, rfl, ownr_block h.1 _ rfl⟩
set_option maxHeartbeats 8000000 in
set_option maxRecDepth 100000 in
theorem impl_rowOf {w : World} {A : Option Addr} {n c B : Nat} {ps : List Pth} {A2 : Option Addr} {n2 c2 B2 : Nat} {p : List Prt} (I : PlnIn w A n c B ps A2 n2 c2 B2 p) (hp : isPlan ps p = true) {lo0 : Nat} {a1 : Option Addr} {q1 : Nat} {a2 : Option Addr} {q2 : Nat} (hP : PhsIn w lo0 ps p n2 a1 q1 a2 q2) (i : Nat) (hi : i < n) :
    Calls Tryz.prog 70 #[.agg (t16 A n c (rowSt ps n 0) (.slice a1 n2 q1) (.slice a2 n2 q2) (sumTo ps p n2)), .int .i64 (i : Nat)] w fun e w' => ∃ v, e = .returned v ∧ w'.ownsRow w.heap.size 3 1 v (rowTo ps p (idAt ps i) n2).length ((rowTo ps p (idAt ps i) n2).map (Value.int .i64)) ∧ Below w.heap.size w w' := by
  have hl := I.len
  have hlp := I.lenp
  obtain ⟨⟨h1, h6⟩, ha, _, _⟩ := isPlan_parts hp
  have h12 := arePs_len12 ha
  obtain ⟨g1, rfl, hg1⟩ := hP.some (by omega)
  have hsb := sumTo_bound hp n2 (by omega)
  have hC : sumTo ps p n2 = ((sumTo ps p n2).toNat : Int) := by omega
  have HC := Lib.hid hC
  have HP := Lib.hid hp
  have HPH := Lib.hid hP
  have HI := Lib.hid I
  obtain ⟨ad, pp, rfl, hab, hpp, hq⟩ := I.h.at hi
  have hab2 : (ad.add (i * 4)).block < w.heap.size := Nat.lt_of_lt_of_le hab I.hB
  have hpa := pAt_some hpp
  obtain ⟨pid, pkd, pfr, pto⟩ := pp
  have HQ := Lib.hid hq
  have HPA := Lib.hid hpa
  have HTC : Hid (∀ W, Below w.heap.size w W → Clrs W) := Lib.hid (fun W hW => I.ht.below hW (Nat.le_refl _))
  obtain ⟨pw, hpw⟩ : ∃ pw, pw = 2 ^ i := ⟨_, rfl⟩
  have HPW := Lib.hid hpw
  have hmb := fun W => impl_maskBit i W (by omega)
  rw [← hpw] at hmb
  have HMB := Lib.hid hmb
  have HRL := Lib.hid (fun k (hk : k ≤ n2) => rowTo_len hp (idAt ps i) k (by omega))
  have HSB := Lib.hid (fun k (hk : k ≤ n2) => sumTo_bound hp k (by omega))
  clear hq hpa hpw hmb hab
  generalize hL : sumTo ps p n2 = L at *
  clear hp hP I hC
  unfold t16
  generalize hf : rowSt ps n 0 = f at *
  clear hf
  obtain ⟨wA, hwA⟩ : ∃ wA, wA = w.alloc (.cells #[.slice (some ad) n c, .int .u16 (f 0 : Nat), .int .u16 (f 1 : Nat), .int .u16 (f 2 : Nat), .int .u16 (f 3 : Nat), .int .u16 (f 4 : Nat), .int .u16 (f 5 : Nat), .int .u16 (f 6 : Nat), .int .u16 (f 7 : Nat), .int .u16 (f 8 : Nat), .int .u16 (f 9 : Nat), .int .u16 (f 10 : Nat), .int .u16 (f 11 : Nat), .slice (some ⟨g1, 0, none⟩) n2 q1, .slice a2 n2 q2, .int .i64 L] 81) := ⟨_, rfl⟩
  obtain ⟨hk0, hsz, hbw⟩ := one_block hwA
  have hszl : w.heap.size < wA.heap.size := by omega
  have HK0 := Lib.hid hk0
  have HBW := Lib.hid hbw
  have HWA := Lib.hid hwA
  have HTC2 : Hid (∀ W, Below wA.heap.size wA W → Clrs W) := Lib.hid (fun W hW => HTC.out W (hbw.trans (hW.mono (by omega))))
  clear hk0 hbw hwA hsz
  go_enter Tryz.func70, Tryz.ntmps70
  go_wp2_with ((with_reducible show wpList _ _ _ _ _ _); rw [← HWA.out]; refine wpList_mk0 rfl _ _ _ rfl .i64 3 8 Tryz.underlying107 info_int1 (by decide) L L.toNat rfl rfl HC.out (by omega) ?_; intro w1 hown hgrow; have hs1 := hgrow.size; have hb1 := below_grown hgrow; have hk1 := (hb1.block w.heap.size (by omega)).trans HK0.out; have c13 := fun o => (cell_of_row _ _ 13 _ _ _ (heap_old w1 o hk1)).trans rfl)
  obtain ⟨v0, hv0⟩ : ∃ v0, v0 = Value.slice (some ⟨wA.heap.size, 0, none⟩) 0 L.toNat := ⟨_, rfl⟩
  have hR2 : RowAt (w1.alloc (.cells #[.slice (some ⟨wA.heap.size, 0, none⟩) 0 L.toNat] 107)) wA.heap.size w1.heap.size (.slice (some ⟨wA.heap.size, 0, none⟩) 0 L.toNat) [] := by
    refine ⟨World.ownsRow_lit (base := wA.heap.size) (e := 107) (size := 1) w1 #[.slice (some ⟨wA.heap.size, 0, none⟩) 0 L.toNat] 1 hs1 (by decide) rfl, ?_⟩
    have h2 := ownr_below hown ((Below.refl _ _).alloc (Nat.le_refl _) (.cells #[.slice (some ⟨wA.heap.size, 0, none⟩) 0 L.toNat] 107))
    exact h2
  have hB2 := Lib.hid (hb1.alloc hs1 (.cells #[.slice (some ⟨wA.heap.size, 0, none⟩) 0 L.toNat] 107))
  have HR2 := Lib.hid hR2
  clear hown hgrow hk1 c13 hR2 hv0 hb1
  go_loopw [16] (fun i' wr => ∃ (k : Nat) (u : Value), k ≤ n2 ∧ i' = .int .i64 k ∧ RowAt wr wA.heap.size w1.heap.size u (rowTo ps p (idAt ps i) k) ∧ Below wA.heap.size wA wr) (fun i' _ => n2 - (intOf i').toNat)
  case atStart => exact ⟨0, _, Nat.zero_le _, rfl, HR2.out, hB2.out⟩
  case round =>
    clear HR2 hB2
    obtain ⟨k, u, hk, rfl, hrow, hbl⟩ := hrel
    have hsz2 := hbl.size
    have HR := Lib.hid hrow
    have HBL := Lib.hid hbl
    have hglt := hrow.lt
    clear hrow hbl
    by_cases hlt : k < n2
    · have HBW2 := Lib.hid (HBW.out.trans (HBL.out.mono (by omega)))
      have hph := HPH.out.below HBW2.out
      obtain ⟨q1, q2, q3, q4⟩ := okPhs HP.out (j := k) (by omega)
      have hsr := show_row HP.out (j := k) (i := i) (by omega) (by omega)
      rw [HPA.out] at hsr
      have HLEN : Hid ((rowTo ps p (idAt ps i) k).length ≤ 100000) := Lib.hid (by have := HRL.out k hk; have := HSB.out k hk; omega)
      have HSR := Lib.hid hsr
      have hce := fun d hd => hph.cells hlt d hd
      generalize hphs : phsAt ps p k = ph at *
      obtain ⟨o, x, gr, cl, le⟩ := ph
      simp only at q1 q2 q3 q4
      have e0 : wr.cell? ⟨g1, k * 5, none⟩ = some (.int .u16 (o : Nat)) := hce 0 (by decide)
      have e1 : wr.cell? ⟨g1, k * 5 + 1, none⟩ = some (.int .u16 (x : Nat)) := hce 1 (by decide)
      have e2 : wr.cell? ⟨g1, k * 5 + 2, none⟩ = some (.int .i64 gr) := hce 2 (by decide)
      have e3 : wr.cell? ⟨g1, k * 5 + 3, none⟩ = some (.int .i64 cl) := hce 3 (by decide)
      have e4 : wr.cell? ⟨g1, k * 5 + 4, none⟩ = some (.int .i64 le) := hce 4 (by decide)
      clear hce hph hphs hsr
      go_wp2
      obtain ⟨w3, hw3⟩ : ∃ w3, w3 = wr.alloc (.cells #[.int .u16 (o : Nat), .int .u16 (x : Nat), .int .i64 gr, .int .i64 cl, .int .i64 le] 129) := ⟨_, rfl⟩
      obtain ⟨hp3, hs3, hb3⟩ := one_block hw3
      rw [← hw3]
      clear hw3 e0 e1 e2 e3 e4
      have z0 : wA.cell? ⟨w.heap.size, 0, none⟩ = some (.slice (some ad) n c) := (cell_of_row _ _ 0 _ _ _ HK0.out).trans rfl
      have hW3 := HBL.out.trans (hb3.mono hsz2)
      have hub : ∀ b, u.ownBlock = some b → b < wr.heap.size := fun b e => (ownr_block HR.out.2 b e).2
      have HUB := Lib.hid hub
      have HSD : Hid (Below wA.heap.size wA w3.drew ∧ w3.drew.heap[wr.heap.size]? = some (.cells #[.int .u16 (o : Nat), .int .u16 (x : Nat), .int .i64 gr, .int .i64 cl, .int .i64 le] 129)) := Lib.hid ⟨below_drewD hW3, hp3⟩
      have HB3 := Lib.hid (below_drewD hb3)
      have hs3' : wr.heap.size < w3.drew.heap.size := by show _ < w3.heap.size; omega
      clear hub hW3 hb3 hp3 hs3
      have i1 : (0 : Int) ≤ (i : Int) := by omega
      have i2 : (i : Int) < (n : Int) := by omega
      refine wp_region_held_drew (S := fun W => Below wA.heap.size wA W ∧ W.heap[wr.heap.size]? = some (.cells #[.int .u16 (o : Nat), .int .u16 (x : Nat), .int .i64 gr, .int .i64 cl, .int .i64 le] 129)) (by kernel_rfl) HSD.out (fun hH => ?_)
      refine wpAnyH_take (i := 0) (v := .agg #[.int .u16 (o : Nat), .int .u16 (x : Nat), .int .i64 gr, .int .i64 cl, .int .i64 le]) rfl (by kernel_rfl) (by kernel_rfl) (by kernel_rfl) (fun _ _ _ h => h) (Or.inl ⟨by rfl, by intro W hSw; have y0 : W.cell? ⟨wr.heap.size, 0, none⟩ = some (.int .u16 (o : Nat)) := (cell_of_row _ _ 0 _ _ _ hSw.2).trans rfl; have y1 : W.cell? ⟨wr.heap.size, 1, none⟩ = some (.int .u16 (x : Nat)) := (cell_of_row _ _ 1 _ _ _ hSw.2).trans rfl; have y2 : W.cell? ⟨wr.heap.size, 2, none⟩ = some (.int .i64 gr) := (cell_of_row _ _ 2 _ _ _ hSw.2).trans rfl; have y3 : W.cell? ⟨wr.heap.size, 3, none⟩ = some (.int .i64 cl) := (cell_of_row _ _ 3 _ _ _ hSw.2).trans rfl; have y4 : W.cell? ⟨wr.heap.size, 4, none⟩ = some (.int .i64 le) := (cell_of_row _ _ 4 _ _ _ hSw.2).trans rfl; clear hSw; go_simp⟩) hH ?_
      try simp only [Act.put, List.setIfInBounds_toArray, List.set_cons_zero, List.set_cons_succ]
      refine wpAnyH_take (i := 1) (v := .int .i64 (i : Nat)) rfl (by kernel_rfl) (by kernel_rfl) (by kernel_rfl) (fun _ _ _ h => h) (Or.inl ⟨by rfl, by intro W hSw; go_simp⟩) hH ?_
      try simp only [Act.put, List.setIfInBounds_toArray, List.set_cons_zero, List.set_cons_succ]
      refine wpAnyH_take (i := 3) (v := .pointer (some ⟨w.heap.size, 0, none⟩)) rfl (by kernel_rfl) (by kernel_rfl) (by kernel_rfl) (fun _ _ _ h => h) (Or.inl ⟨by rfl, by intro W hSw; go_simp⟩) hH ?_
      try simp only [Act.put, List.setIfInBounds_toArray, List.set_cons_zero, List.set_cons_succ]
      refine wpAnyH_take (i := 4) (v := .pointer (some ⟨w.heap.size, 0, none⟩)) rfl (by kernel_rfl) (by kernel_rfl) (by kernel_rfl) (fun _ _ _ h => h) (Or.inl ⟨by rfl, by intro W hSw; go_simp⟩) hH ?_
      try simp only [Act.put, List.setIfInBounds_toArray, List.set_cons_zero, List.set_cons_succ]
      refine wpAnyH_take (i := 5) (v := .slice (some ad) n c) rfl (by kernel_rfl) (by kernel_rfl) (by kernel_rfl) (fun _ _ _ h => h) (Or.inl ⟨by rfl, by intro W hSw; have y0 : W.cell? ⟨w.heap.size, 0, none⟩ = some (.slice (some ad) n c) := (hSw.1.cell (p := ⟨w.heap.size, 0, none⟩) hszl).trans z0; clear hSw; go_simp⟩) hH ?_
      try simp only [Act.put, List.setIfInBounds_toArray, List.set_cons_zero, List.set_cons_succ]
      refine wpAnyH_take (i := 6) (v := .int .i64 (i : Nat)) rfl (by kernel_rfl) (by kernel_rfl) (by kernel_rfl) (fun _ _ _ h => h) (Or.inl ⟨by rfl, by intro W hSw; go_simp⟩) hH ?_
      try simp only [Act.put, List.setIfInBounds_toArray, List.set_cons_zero, List.set_cons_succ]
      refine wpAnyH_take (i := 7) (v := .pointer (some (ad.add (i * 4)))) rfl (by kernel_rfl) (by kernel_rfl) (by kernel_rfl) (fun _ _ _ h => h) (Or.inl ⟨by rfl, by intro W hSw; go_simp⟩) hH ?_
      try simp only [Act.put, List.setIfInBounds_toArray, List.set_cons_zero, List.set_cons_succ]
      refine wpAnyH_take (i := 8) (v := .agg #[.int .i64 pid, .int .i64 pkd, .int .i64 pfr, .int .i64 pto]) rfl (by kernel_rfl) (by kernel_rfl) (by kernel_rfl) (fun _ _ _ h => h) (Or.inl ⟨by rfl, by intro W hSw; have y := HQ.out.below (HBW.out.trans (hSw.1.mono (by omega))) hab2; have y0 := y.c0; have y1 := y.c1; have y2 := y.c2; have y3 := y.c3; simp only at y0 y1 y2 y3; clear y hSw; go_simp⟩) hH ?_
      try simp only [Act.put, List.setIfInBounds_toArray, List.set_cons_zero, List.set_cons_succ]
      refine wpAnyH_ready (rs := [2]) (by decide +kernel) (by simp) (AllReadyH.cons rfl (fun K hK => ?_) AllReadyH.nil)
      go_simp
      refine (HMB.out _).mono ?_
      rintro e w4 ⟨rfl, rfl⟩
      go_wp2_with fail
      refine hK.out _ _ hH (fun _ => ?_)
      clear hK K
      try simp only [Act.put, List.setIfInBounds_toArray, List.set_cons_zero, List.set_cons_succ]
      refine wpAnyH_ready (rs := [9]) (by decide +kernel) (by simp) (AllReadyH.cons rfl (fun K hK => ?_) AllReadyH.nil)
      go_simp
      refine (impl_ClearOf ⟨pid, pkd, pfr, pto⟩ _ (HTC2.out _ hH.1)).mono ?_
      rintro e w5 ⟨rfl, hb5⟩
      have hS5 : Below wA.heap.size wA w5 ∧ w5.heap[wr.heap.size]? = some (.cells #[.int .u16 (o : Nat), .int .u16 (x : Nat), .int .i64 gr, .int .i64 cl, .int .i64 le] 129) := ⟨hH.1.trans (hb5.mono hH.1.size), (hb5.block _ hs3').trans hH.2⟩
      have HB5 := Lib.hid (HB3.out.trans (hb5.mono HB3.out.size))
      have hs5 : wr.heap.size < w5.heap.size := Nat.lt_of_lt_of_le hs3' hb5.size
      clear hb5
      go_wp2_with fail
      refine hK.out _ _ hS5 (fun _ => ?_)
      clear hK K hH
      try simp only [Act.put, List.setIfInBounds_toArray, List.set_cons_zero, List.set_cons_succ]
      have HSH := Lib.hid (impl_showTo ⟨o, x, gr, cl, le⟩ w1.heap.size wA.heap.size u _ i (clearN ⟨pid, pkd, pfr, pto⟩) w5 (HR.out.below HB5.out) q1 q2 (by omega) q3 q4 (by have := clearN_bound ⟨pid, pkd, pfr, pto⟩; omega) HLEN.out)
      rw [← HPW.out] at HSH
      rw [show (Phs.cells ⟨o, x, gr, cl, le⟩).toArray = #[.int .u16 (o : Nat), .int .u16 (x : Nat), .int .i64 gr, .int .i64 cl, .int .i64 le] from rfl, HSR.out] at HSH
      refine wpAnyH_ready (rs := [10]) (by decide +kernel) (by simp) (AllReadyH.cons rfl (fun K hK => ?_) AllReadyH.nil)
      go_simp
      refine HSH.out.mono ?_
      rintro e w6 ⟨rfl, u6, hr6, hk6⟩
      have hS6 : Below wA.heap.size wA w6 ∧ w6.heap[wr.heap.size]? = some (.cells #[.int .u16 (o : Nat), .int .u16 (x : Nat), .int .i64 gr, .int .i64 cl, .int .i64 le] 129) := ⟨hS5.1.trans hk6.below, (hk6.block _ hs5 (by omega) (fun e => by have := HUB.out _ e; omega)).trans hS5.2⟩
      have HR6 := Lib.hid hr6
      have HB6 := Lib.hid hS6.1
      clear hk6 hr6
      go_wp2_with fail
      refine hK.out _ _ hS6 (fun _ => ?_)
      clear hK K
      try simp only [Act.put, List.setIfInBounds_toArray, List.set_cons_zero, List.set_cons_succ]
      refine wpAnyH_done (by decide +kernel) ?_ _
      clear hS5 hS6 z0
      go_wp2
      go_roundw
      case rel => exact ⟨k + 1, u6, by omega, by go_num, HR6.out, HB6.out⟩
      case measure => simp [intOf]; omega
    · obtain rfl : k = n2 := by omega
      have c0 := HR.out.cell
      obtain ⟨Au, cu, rfl⟩ := ownr_sliced HR.out.2
      have hout := Lib.hid (ownr_mono HR.out.2 (lo' := w.heap.size) (by omega))
      go_wp2
      go_ret
      exact ⟨_, rfl, hout.out, HBW.out.trans (HBL.out.mono (by omega))⟩
end Go.Proofs.YtlpkafhapmkkfaaGreatDoor

/- The program's functions over rows of lights: rowFor, at, greens, longestWait; LightAt, GreenOf, WaitOf. -/
namespace Go.Proofs.YtlpkafhapmkkfaaGreatDoor
open Go.RowKit
set_option linter.unusedVariables false

theorem rowP_on {ps : List Pth} {p : List Prt} {id : Int} (hp : isPlan ps p = true) {i : Nat} (hi : findK id ps = some i) : rowP ps p id = rowTo ps p id p.length := by
  unfold rowP
  rw [hp, hi]
  rfl
theorem rowP_off {ps : List Pth} {p : List Prt} {id : Int} (h : (isPlan ps p && (findK id ps).isSome) = false) : rowP ps p id = [] := by
  unfold rowP
  rw [h]
  rfl
theorem find_neg {ps : List Pth} {id : Int} (h : findK id ps = none) : findI id ps = -1 := by unfold findI; rw [h]
theorem find_pos {ps : List Pth} {id : Int} {i : Nat} (h : findK id ps = some i) : findI id ps = (i : Int) := by unfold findI; rw [h]
end Go.Proofs.YtlpkafhapmkkfaaGreatDoor

/- The program's rows of lights, asked: at, greens, longestWait; LightAt, GreenOf, WaitOf. -/
namespace Go.Proofs.YtlpkafhapmkkfaaGreatDoor
open Go.RowKit
set_option linter.unusedVariables false

/-- how many of the first k seconds are green. -/
def grnTo (r : List Int) : Nat → Int
  | 0 => 0
  | k + 1 => grnTo r k + if r.getD k 0 = 1 then 1 else 0
theorem grnTo_bound (r : List Int) : ∀ k : Nat, 0 ≤ grnTo r k ∧ grnTo r k ≤ k
  | 0 => by simp [grnTo]
  | k + 1 => by
    have ih := grnTo_bound r k
    unfold grnTo
    split <;> omega
theorem grnTo_all (r : List Int) : grnTo r r.length = ((r.filter fun x => decide (x = 1)).length : Int) := by
  have h : ∀ k, k ≤ r.length → grnTo r k = (((r.take k).filter fun x => decide (x = 1)).length : Int) := by
    intro k
    induction k with
    | zero => intro _; simp [grnTo]
    | succ k ih =>
      intro hk
      have e : r.getD k 0 = r[k] := by rw [List.getD_eq_getElem?_getD, List.getElem?_eq_getElem (by omega)]; rfl
      rw [List.take_succ_eq_append_getElem (by omega), List.filter_append, List.length_append]
      show grnTo r k + _ = _
      rw [ih (by omega), e]
      by_cases h1 : r[k] = 1
      · simp [h1]
      · simp [h1]
  have := h r.length (Nat.le_refl _)
  rwa [List.take_length] at this
theorem grn_sum {r : List Int} : ((r.filter fun x => decide (x = 1)).length : Int) = grnTo r r.length := (grnTo_all r).symm
theorem rowP_len {ps : List Pth} {p : List Prt} (id : Int) : (rowP ps p id).length ≤ 1000 := by
  unfold rowP
  split
  · rename_i h
    rw [Bool.and_eq_true] at h
    have := rowTo_len h.1 id p.length (Nat.le_refl _)
    have := sumTo_bound h.1 p.length (Nat.le_refl _)
    obtain ⟨⟨_, h6⟩, _⟩ := isPlan_parts h.1
    omega
  · simp
theorem rowP_pos {ps : List Pth} {p : List Prt} {id : Int} (h : (isPlan ps p && (findK id ps).isSome) = true) : ((rowP ps p id).length : Int) = sumTo ps p p.length ∧ 0 < (rowP ps p id).length := by
  have hl : ((rowP ps p id).length : Int) = sumTo ps p p.length := by
    unfold rowP
    rw [h]
    rw [Bool.and_eq_true] at h
    exact rowTo_len h.1 id p.length (Nat.le_refl _)
  rw [Bool.and_eq_true] at h
  have := sumTo_bound h.1 p.length (Nat.le_refl _)
  obtain ⟨⟨h6, _⟩, _⟩ := isPlan_parts h.1
  exact ⟨hl, by omega⟩
set_option maxHeartbeats 2000000 in
theorem impl_rowAt (A : Option Addr) (n c B : Nat) (zs : List Int) (s : Nat) (w : World) (h : IntsAt .i64 w B A n zs) (h0 : 0 < n) (hn : n ≤ 1000000) (hs : s ≤ 1000000000) :
    Calls Tryz.prog 75 #[.slice A n c, .int .i64 (s : Nat)] w fun e w' => e = .returned (.int .i64 (zs.getD (s % n) 0)) ∧ w = w' := by
  obtain ⟨ad, rfl, hab, hcell⟩ := h.2 (by omega)
  have hc := hcell (s % n) (Nat.mod_lt _ h0)
  have e1 : ((s : Nat) : Int).tmod (n : Int) = ((s % n : Nat) : Int) := by rw [Int.tmod_eq_emod_of_nonneg (by omega), Int.natCast_emod]
  have z1 : ¬ n = 0 := by omega
  have z2 : ¬ (n : Int) = 0 := by omega
  have hlt : s % n < n := Nat.mod_lt _ h0
  clear hcell h
  generalize s % n = q at *
  have i1 : (0 : Int) ≤ (q : Int) := by omega
  have i2 : (q : Int) < (n : Int) := by omega
  generalize zs.getD q 0 = z at *
  go_enter Tryz.func75, Tryz.ntmps75
  go_wp2
  go_ret
  exact ⟨rfl, rfl⟩
set_option maxHeartbeats 2000000 in
theorem impl_greens (A : Option Addr) (n c B : Nat) (zs : List Int) (w : World) (h : IntsAt .i64 w B A n zs) (hn : n ≤ 1000000) :
    Calls Tryz.prog 97 #[.slice A n c] w fun e w' => e = .returned (.int .i64 (grnTo zs n)) ∧ w = w' := by
  go_enter Tryz.func97, Tryz.ntmps97
  go_wp2
  go_loop [3, 8] (fun x i => ∃ (k : Nat) (q : Int), k ≤ n ∧ i = .int .i64 k ∧ x = .int .i64 q ∧ q = grnTo zs k) (fun _ i => n - (intOf i).toNat)
  case atStart => exact ⟨0, 0, Nat.zero_le _, rfl, rfl, rfl⟩
  case round =>
    obtain ⟨k, q, hk, rfl, rfl, hq⟩ := hrel
    by_cases hlt : k < n
    · obtain ⟨ad, rfl, hab, hcell⟩ := h.2 (by omega)
      have hc := hcell k hlt
      have hqb := grnTo_bound zs k
      rw [← hq] at hqb
      by_cases h1 : zs.getD k 0 = 1
      · have HS : Hid (grnTo zs (k + 1) = q + 1) := Lib.hid (by show grnTo zs k + _ = _; rw [if_pos h1, hq])
        have e0 : (zs.getD k 0 == 1) = true := by rw [h1]; rfl
        clear hcell hq h1
        generalize zs.getD k 0 = z at *
        go_wp2
        go_round
        case rel => exact ⟨k + 1, q + 1, by omega, by go_num, rfl, HS.out.symm⟩
        case measure => simp [intOf]; omega
      · have HS : Hid (grnTo zs (k + 1) = q) := Lib.hid (by show grnTo zs k + _ = _; rw [if_neg h1, Int.add_zero, hq])
        have e0 : (zs.getD k 0 == 1) = false := by generalize zs.getD k 0 = z at h1; simpa using h1
        clear hcell hq h1
        generalize zs.getD k 0 = z at *
        go_wp2
        go_round
        case rel => exact ⟨k + 1, q, by omega, by go_num, rfl, HS.out.symm⟩
        case measure => simp [intOf]; omega
    · obtain rfl : k = n := by omega
      have HR := Lib.hid hq
      clear hq
      go_wp2
      go_ret
      exact ⟨by rw [← HR.out]; try rfl, rfl⟩
set_option maxHeartbeats 4000000 in
theorem impl_longestW (A : Option Addr) (n c B : Nat) (zs : List Int) (w : World) (h : IntsAt .i64 w B A n zs) (hB : B ≤ w.heap.size) (hn : n ≤ 1000000) :
    Calls Tryz.prog 98 #[.slice A n c] w fun e w' => e = .returned (.int .i64 (waitTo zs (2 * n)).2) ∧ Below w.heap.size w w' := by
  have hl := h.1
  have H := Lib.hid h
  have hm2 : IntKind.i64.wrap (2 * (n : Int)) = ((2 * n : Nat) : Int) := by rw [IntKind.wrap_i64]; omega
  obtain ⟨m, hm⟩ : ∃ m, m = 2 * n := ⟨_, rfl⟩
  rw [← hm] at hm2 ⊢
  have HMM := Lib.hid hm
  have hmn : m ≤ 2000000 := by omega
  clear h hm
  go_enter Tryz.func98, Tryz.ntmps98
  go_wp2
  go_loopw [3, 4, 9] (fun x y i wr => ∃ (k : Nat) (q r : Int), k ≤ m ∧ i = .int .i64 k ∧ x = .int .i64 q ∧ y = .int .i64 r ∧ q = (waitTo zs k).2 ∧ r = (waitTo zs k).1 ∧ Below w.heap.size w wr) (fun _ _ i _ => m - (intOf i).toNat)
  case atStart => exact ⟨0, 0, 0, Nat.zero_le _, rfl, rfl, rfl, rfl, rfl, Below.refl _ _⟩
  case round =>
    obtain ⟨k, q, r, hk, rfl, rfl, rfl, hq, hr, hbl⟩ := hrel
    have HBL := Lib.hid hbl
    have hqb := waitTo_bound zs k
    rw [← hq, ← hr] at hqb
    obtain ⟨⟨hr1, hr2⟩, hq1, hq2⟩ := hqb
    by_cases hlt : k < m
    · have hn0 : 0 < n := by have := HMM.out; omega
      have HA := Lib.hid (impl_rowAt A n c B zs k wr (H.out.laid hB hbl) hn0 hn (by omega))
      have e9 : IntKind.i64.wrap (r + 1) = r + 1 := by rw [IntKind.wrap_i64]; omega
      by_cases h1 : zs.getD (k % n) 0 = 1
      · have HS : Hid ((waitTo zs (k + 1)).2 = maxI q 0 ∧ (waitTo zs (k + 1)).1 = 0) := Lib.hid (by unfold waitTo; rw [hl, if_pos h1, ← hq]; exact ⟨rfl, rfl⟩)
        have e0 : (zs.getD (k % n) 0 == 1) = true := by rw [h1]; rfl
        clear hq hr h1 hbl
        generalize zs.getD (k % n) 0 = z at *
        go_wp2_with fail
        refine HA.out.mono ?_
        rintro e w1 ⟨rfl, rfl⟩
        go_wp2_with fail
        refine (impl_Max _ _ _).mono ?_
        generalize maxI q 0 = mx at *
        rintro e w1 ⟨rfl, hb1⟩
        have HB1 := Lib.hid (HBL.out.trans (hb1.mono HBL.out.size))
        clear hb1
        go_wp2
        go_roundw
        case rel => exact ⟨k + 1, mx, 0, by omega, by go_num, rfl, rfl, HS.out.1.symm, HS.out.2.symm, HB1.out⟩
        case measure => simp [intOf]; omega
      · have HS : Hid ((waitTo zs (k + 1)).2 = maxI q (r + 1) ∧ (waitTo zs (k + 1)).1 = r + 1) := Lib.hid (by unfold waitTo; rw [hl, if_neg h1, ← hq, ← hr]; exact ⟨rfl, rfl⟩)
        have e0 : (zs.getD (k % n) 0 == 1) = false := by generalize zs.getD (k % n) 0 = z at h1; simpa using h1
        clear hq hr h1 hbl
        generalize zs.getD (k % n) 0 = z at *
        go_wp2_with fail
        refine HA.out.mono ?_
        rintro e w1 ⟨rfl, rfl⟩
        go_wp2_with fail
        refine (impl_Max _ _ _).mono ?_
        generalize maxI q (r + 1) = mx at *
        rintro e w1 ⟨rfl, hb1⟩
        have HB1 := Lib.hid (HBL.out.trans (hb1.mono HBL.out.size))
        clear hb1
        go_wp2
        go_roundw
        case rel => exact ⟨k + 1, mx, r + 1, by omega, by go_num, rfl, rfl, HS.out.1.symm, HS.out.2.symm, HB1.out⟩
        case measure => simp [intOf]; omega
    · obtain rfl : k = m := by omega
      have HR := Lib.hid hq
      clear hq hr hbl
      go_wp2
      go_ret
      exact ⟨by rw [← HR.out]; try rfl, HBL.out⟩
end Go.Proofs.YtlpkafhapmkkfaaGreatDoor

/- Chapter 9's model, the rest: l9Row, GreenOf, WaitOf. -/
namespace Go.Proofs.YtlpkafhapmkkfaaGreatDoor
open Go.RowKit
set_option linter.unusedVariables false

/-- the first k parts' lights and m of the next. -/
def rowS (ps : List Pth) (p : List Prt) (id : Int) (k m : Nat) : List Int := rowTo ps p id k ++ (List.range m).map fun (s : Nat) => lightJ ps p k s id
theorem rowS_zero (ps : List Pth) (p : List Prt) (id : Int) (k : Nat) : rowS ps p id k 0 = rowTo ps p id k := by simp [rowS]
theorem rowS_push (ps : List Pth) (p : List Prt) (id : Int) (k m : Nat) : rowS ps p id k (m + 1) = rowS ps p id k m ++ [lightJ ps p k m id] := by simp [rowS, List.range_succ]
theorem rowS_full {ps : List Pth} {p : List Prt} (id : Int) (k : Nat) {m : Nat} (h : (m : Int) = longAt ps p k) : rowS ps p id k m = rowTo ps p id (k + 1) := by
  unfold rowS
  show _ = rowTo ps p id k ++ rowJ ps p id k
  unfold rowJ
  rw [← h]
  rfl
theorem rowS_len {ps : List Pth} {p : List Prt} (h : isPlan ps p = true) (id : Int) {k m : Nat} (hk : k < p.length) (hm : (m : Int) ≤ longAt ps p k) : (rowS ps p id k m).length ≤ 1000 := by
  have h1 := rowTo_len h id k (by omega)
  have h2 := sumTo_bound h k (by omega)
  have h3 := longAt_bound h hk
  obtain ⟨⟨_, h6⟩, _⟩ := isPlan_parts h
  unfold rowS
  rw [List.length_append, List.length_map, List.length_range]
  omega
theorem rowP_fullM {ps : List Pth} {p : List Prt} {id : Int} (hp : isPlan ps p = true) {i : Nat} (hi : findK id ps = some i) : rowP ps p id = rowTo ps p id p.length := by
  unfold rowP
  rw [hp, hi]
  rfl
theorem rowP_offM {ps : List Pth} {p : List Prt} {id : Int} (h : (isPlan ps p && (findK id ps).isSome) = false) : rowP ps p id = [] := by
  unfold rowP
  rw [h]
  rfl
theorem find_negM {ps : List Pth} {id : Int} (h : findK id ps = none) : findI id ps = -1 := by unfold findI; rw [h]
theorem find_posM {ps : List Pth} {id : Int} {i : Nat} (h : findK id ps = some i) : findI id ps = (i : Int) := by unfold findI; rw [h]
set_option maxHeartbeats 4000000 in
theorem spec_l9Row (A : Option Addr) (n c B : Nat) (ps : List Pth) (A2 : Option Addr) (n2 c2 B2 : Nat) (p : List Prt) (id : Int) (w : World) (h : PthsAt w B A n ps) (hB : B ≤ w.heap.size) (hn : n ≤ 4294967296) (h2 : PrtsAt w B2 A2 n2 p) (hB2 : B2 ≤ w.heap.size) (hn2 : n2 ≤ 1048576) (hm : ∀ j, j < n2 → (prAt p j).stage.length ≤ 1048576) :
    Calls Tryz.prog 67 #[.slice A n c, .slice A2 n2 c2, .int .i64 id] w fun e w' => ∃ v, e = .returned v ∧ Own .i64 3 w' w.heap.size v (rowP ps p id) ∧ Below w.heap.size w w' := by
  have hl2 := h2.1
  have HIP := Lib.hid (fun x (hx : Below w.heap.size w x) => spec_IsPlan A n c B ps A2 n2 c2 B2 p x (h.below (hx.mono hB)) (Nat.le_trans hB hx.size) hn (h2.below hB2 hx) (Nat.le_trans hB2 hx.size) hn2 hm)
  have HFP := Lib.hid (fun x (hx : Below w.heap.size w x) => spec_FindPath A n c B ps id x (h.below (hx.mono hB)) hn)
  have HL8 := Lib.hid (fun k x (hx : Below w.heap.size w x) (hk : k < n2) hg => spec_l8Long A n c B ps A2 n2 c2 B2 p k x (h.below (hx.mono hB)) (Nat.le_trans hB hx.size) hn (h2.below hB2 hx) (Nat.le_trans hB2 hx.size) hn2 hm hk hg)
  have HL9 := Lib.hid (fun k s m x (hx : Below w.heap.size w x) (hk : k < n2) hf hs hg => spec_l9Light A n c B ps A2 n2 c2 B2 p k s id m x (h.below (hx.mono hB)) (Nat.le_trans hB hx.size) hn (h2.below hB2 hx) (Nat.le_trans hB2 hx.size) hn2 hm hk hf hs hg)
  have own0 := own_bare .i64 3 w
  have hb0 : Below w.heap.size w (w.alloc (.cells #[] 3)) := (Below.refl _ _).alloc (Nat.le_refl _) _
  have HO0 := Lib.hid own0
  have HB0 := Lib.hid hb0
  have HL2 := Lib.hid hl2
  clear h h2 hm own0 hb0 hl2
  cases hp : isPlan ps p
  · have HR := Lib.hid (rowP_offM (ps := ps) (p := p) (id := id) (by rw [hp]; rfl))
    have HP := Lib.hid hp
    clear hp
    go_enter Tryz.func67, Tryz.ntmps67
    go_wp2_with fail
    refine (HIP.out _ HB0.out).mono ?_
    rw [HP.out]
    rintro e w1 ⟨rfl, hb1⟩
    have HO1 := Lib.hid (HO0.out.below hb1)
    have HB1 := Lib.hid (HB0.out.trans (hb1.mono HB0.out.size))
    clear hb1
    go_wp2
    go_ret
    exact ⟨_, rfl, by rw [HR.out]; exact HO1.out, HB1.out⟩
  · have HP := Lib.hid hp
    clear hp
    cases hf : findK id ps
    · have HR := Lib.hid (rowP_offM (ps := ps) (p := p) (id := id) (by rw [HP.out, hf]; rfl))
      have HN := Lib.hid (find_negM hf)
      clear hf
      go_enter Tryz.func67, Tryz.ntmps67
      go_wp2_with fail
      refine (HIP.out _ HB0.out).mono ?_
      rw [HP.out]
      rintro e w1 ⟨rfl, hb1⟩
      have HO1 := Lib.hid (HO0.out.below hb1)
      have HB1 := Lib.hid (HB0.out.trans (hb1.mono HB0.out.size))
      clear hb1
      go_wp2_with fail
      refine (HFP.out _ HB1.out).mono ?_
      rw [HN.out]
      rintro e w2 ⟨rfl, rfl⟩
      go_wp2
      go_ret
      exact ⟨_, rfl, by rw [HR.out]; exact HO1.out, HB1.out⟩
    · rename_i q
      have HR := Lib.hid (rowP_fullM HP.out hf)
      have HN := Lib.hid (find_posM hf)
      have HF := Lib.hid hf
      rw [HL2.out] at HR
      clear hf
      go_enter Tryz.func67, Tryz.ntmps67
      go_wp2_with fail
      refine (HIP.out _ HB0.out).mono ?_
      rw [HP.out]
      rintro e w1 ⟨rfl, hb1⟩
      have HO1 := Lib.hid (HO0.out.below hb1)
      have HB1 := Lib.hid (HB0.out.trans (hb1.mono HB0.out.size))
      clear hb1
      go_wp2_with fail
      refine (HFP.out _ HB1.out).mono ?_
      rw [HN.out]
      rintro e w2 ⟨rfl, rfl⟩
      go_wp2
      go_loopw [7, 8] (fun v i wr => ∃ k : Nat, k ≤ n2 ∧ i = .int .i64 k ∧ Own .i64 3 wr w.heap.size v (rowTo ps p id k) ∧ Below w.heap.size w wr) (fun _ i _ => n2 - (intOf i).toNat)
      case atStart => exact ⟨0, Nat.zero_le _, rfl, HO1.out, HB1.out⟩
      case round =>
        clear HO1 HB1
        obtain ⟨k, hk, rfl, hown, hbl⟩ := hrel
        have HOW := Lib.hid hown
        have HBL := Lib.hid hbl
        clear hown hbl
        by_cases hlt : k < n2
        · have hg := plan_green HP.out (k := k) (by rw [HL2.out]; exact hlt)
          have HG := Lib.hid hg
          have hlb := longAt_bound HP.out (j := k) (by rw [HL2.out]; exact hlt)
          have HSL := Lib.hid (fun m hm => rowS_len HP.out id (k := k) (m := m) (by rw [HL2.out]; exact hlt) hm)
          have HSF := Lib.hid (fun m hm => rowS_full (ps := ps) (p := p) id k (m := m) hm)
          have HLL := Lib.hid (fun x (hx : Below w.heap.size w x) => HL8.out k x hx hlt hg)
          clear hg
          generalize longAt ps p k = lo at *
          obtain ⟨wo, rfl⟩ : ∃ wo : World, wo = wr := ⟨_, rfl⟩
          go_wp2
          go_loopw [7, 9] (fun v s wr => ∃ m : Nat, (m : Int) ≤ lo ∧ s = .int .i64 m ∧ Own .i64 3 wr w.heap.size v (rowS ps p id k m) ∧ Below w.heap.size w wr) (fun _ s _ => lo.toNat - (intOf s).toNat)
          case atStart => exact ⟨0, by omega, rfl, by rw [rowS_zero]; exact HOW.out, HBL.out⟩
          case round =>
            clear HOW HBL
            obtain ⟨m, hm, rfl, hown, hbl⟩ := hrel
            have HO2 := Lib.hid hown
            have HB2 := Lib.hid hbl
            clear hown hbl
            have HLC := Lib.hid (HLL.out wr HB2.out)
            go_wp2_with fail
            refine HLC.out.mono ?_
            rintro e w3 ⟨rfl, hb3⟩
            have hO3 := HO2.out.below hb3
            have hB3 := HB2.out.trans (hb3.mono HB2.out.size)
            have HO3 := Lib.hid hO3
            have HB3 := Lib.hid hB3
            clear hb3 hO3 hB3
            by_cases hlm : (m : Int) < lo
            · have HC9 := Lib.hid (HL9.out k (m : Int) q w3 HB3.out hlt HF.out (by omega) HG.out)
              have HPU := Lib.hid (rowS_push ps p id k m)
              have hsl := HSL.out m (by omega)
              generalize rowS ps p id k m = l at *
              generalize lightJ ps p k (m : Int) id = li at *
              go_wp2_with fail
              refine HC9.out.mono ?_
              rintro e w4 ⟨rfl, hb4⟩
              have hO4 := HO3.out.below hb4
              have hB4 := HB3.out.trans (hb4.mono HB3.out.size)
              have hs4 := hB4.size
              clear hb4
              go_wp2_with (at_builtin; refine wpList_app1 rfl _ _ 58 rfl .i64 3 8 Tryz.underlying58 info_i64 w.heap.size _ l rfl hO4 (by decide) (by omega) _ _ _ w4.heap.size hs4 rfl (by simp) ?_; intro v5 w5 hown5 hgrow5 hat5)
              have HB5 := Lib.hid (hO4.push (Nat.le_refl _) (hB4.alloc hs4 _) (by simp; omega) hgrow5)
              have HO5 := Lib.hid hown5
              clear hgrow5 hat5 hO4 hB4 hown5
              go_roundw
              case rel => exact ⟨m + 1, by omega, by go_num, by rw [HPU.out]; exact HO5.out, HB5.out⟩
              case measure => simp [intOf]; omega
            · have hmm : (m : Int) = lo := by omega
              have HO4 : Hid (Own .i64 3 w3 w.heap.size _ (rowTo ps p id (k + 1))) := Lib.hid (by rw [← HSF.out m hmm]; exact HO3.out)
              clear hmm
              go_wp2
              go_roundw
              case rel => exact ⟨k + 1, by omega, by go_num, HO4.out, HB3.out⟩
              case measure => simp [intOf]; omega
        · obtain rfl : k = n2 := by omega
          go_wp2
          go_ret
          exact ⟨_, rfl, by rw [HR.out]; exact HOW.out, HBL.out⟩
set_option maxHeartbeats 2000000 in
theorem spec_GreenOf (A : Option Addr) (n c B : Nat) (ps : List Pth) (A2 : Option Addr) (n2 c2 B2 : Nat) (p : List Prt) (id : Int) (w : World) (h : PthsAt w B A n ps) (hB : B ≤ w.heap.size) (hn : n ≤ 4294967296) (h2 : PrtsAt w B2 A2 n2 p) (hB2 : B2 ≤ w.heap.size) (hn2 : n2 ≤ 1048576) (hm : ∀ j, j < n2 → (prAt p j).stage.length ≤ 1048576) :
    Calls Tryz.prog 87 #[.slice A n c, .slice A2 n2 c2, .int .i64 id] w fun e w' => e = .returned (.int .i64 (greenP ps p id)) ∧ Below w.heap.size w w' := by
  have HC := Lib.hid (spec_l9Row A n c B ps A2 n2 c2 B2 p id w h hB hn h2 hB2 hn2 hm)
  have HR : Hid (greenP ps p id = grnTo (rowP ps p id) (rowP ps p id).length) := Lib.hid grn_sum
  have hlen := rowP_len (ps := ps) (p := p) id
  clear h h2 hm hB hB2 hn hn2
  generalize rowP ps p id = zs at *
  go_enter Tryz.func87, Tryz.ntmps87
  go_wp2_with fail
  refine HC.out.mono ?_
  rintro e w1 ⟨v, rfl, hv, hb⟩
  obtain ⟨Av, cv, rfl⟩ := hv.sliced
  have hi := hv.ints
  have HB := Lib.hid hb
  clear hv hb
  obtain ⟨m, hm⟩ : ∃ m, m = zs.length := ⟨_, rfl⟩
  rw [← hm] at hi HR hlen ⊢
  clear hm
  have hl1 := hi.1
  go_wp2
  go_loop [7, 9] (fun x i => ∃ (k : Nat) (q : Int), k ≤ m ∧ i = .int .i64 k ∧ x = .int .i64 q ∧ q = grnTo zs k) (fun _ i => m - (intOf i).toNat)
  case atStart => exact ⟨0, 0, Nat.zero_le _, rfl, rfl, rfl⟩
  case round =>
    obtain ⟨k, q, hk, rfl, rfl, hq⟩ := hrel
    have hqb := grnTo_bound zs k
    rw [← hq] at hqb
    by_cases hlt : k < m
    · obtain ⟨ad, rfl, hab, hcell⟩ := hi.2 (by omega)
      have hc := hcell k hlt
      have i1 : (0 : Int) ≤ (k : Int) := by omega
      have i2 : (k : Int) < (m : Int) := by omega
      by_cases h1 : zs.getD k 0 = 1
      · have HS : Hid (grnTo zs (k + 1) = q + 1) := Lib.hid (by show grnTo zs k + _ = _; rw [if_pos h1, hq])
        have e0 : (zs.getD k 0 == 1) = true := by rw [h1]; rfl
        clear hcell hq h1 hl1
        generalize zs.getD k 0 = z at *
        go_wp2
        go_round
        case rel => exact ⟨k + 1, q + 1, by omega, by go_num, rfl, HS.out.symm⟩
        case measure => simp [intOf]; omega
      · have HS : Hid (grnTo zs (k + 1) = q) := Lib.hid (by show grnTo zs k + _ = _; rw [if_neg h1, Int.add_zero, hq])
        have e0 : (zs.getD k 0 == 1) = false := by generalize zs.getD k 0 = z at h1; simpa using h1
        clear hcell hq h1 hl1
        generalize zs.getD k 0 = z at *
        go_wp2
        go_round
        case rel => exact ⟨k + 1, q, by omega, by go_num, rfl, HS.out.symm⟩
        case measure => simp [intOf]; omega
    · obtain rfl : k = m := by omega
      have HQ := Lib.hid hq
      clear hq hl1
      go_wp2
      go_ret
      exact ⟨by rw [HR.out, ← HQ.out]; try rfl, HB.out⟩
set_option maxHeartbeats 4000000 in
theorem spec_WaitOf (A : Option Addr) (n c B : Nat) (ps : List Pth) (A2 : Option Addr) (n2 c2 B2 : Nat) (p : List Prt) (id : Int) (w : World) (h : PthsAt w B A n ps) (hB : B ≤ w.heap.size) (hn : n ≤ 4294967296) (h2 : PrtsAt w B2 A2 n2 p) (hB2 : B2 ≤ w.heap.size) (hn2 : n2 ≤ 1048576) (hm : ∀ j, j < n2 → (prAt p j).stage.length ≤ 1048576) :
    Calls Tryz.prog 88 #[.slice A n c, .slice A2 n2 c2, .int .i64 id] w fun e w' => e = .returned (.int .i64 (waitP ps p id)) ∧ Below w.heap.size w w' := by
  have HC := Lib.hid (spec_l9Row A n c B ps A2 n2 c2 B2 p id w h hB hn h2 hB2 hn2 hm)
  have HR : Hid (waitP ps p id = minI (waitTo (rowP ps p id) (2 * (rowP ps p id).length)).2 (rowP ps p id).length) := Lib.hid rfl
  have hlen := rowP_len (ps := ps) (p := p) id
  clear h h2 hm hB hB2 hn hn2
  generalize rowP ps p id = zs at *
  go_enter Tryz.func88, Tryz.ntmps88
  go_wp2_with fail
  refine HC.out.mono ?_
  rintro e w1 ⟨v, rfl, hv, hb⟩
  obtain ⟨Av, cv, rfl⟩ := hv.sliced
  have hi := hv.ints
  have HB := Lib.hid hb
  clear hv hb
  obtain ⟨n3, hn3⟩ : ∃ n3, n3 = zs.length := ⟨_, rfl⟩
  rw [← hn3] at hi HR hlen ⊢
  clear hn3
  have hl := hi.1
  have HL := Lib.hid hl
  have HI := Lib.hid hi
  have hm2 : IntKind.i64.wrap (2 * (n3 : Int)) = ((2 * n3 : Nat) : Int) := by rw [IntKind.wrap_i64]; omega
  obtain ⟨m, hm⟩ : ∃ m, m = 2 * n3 := ⟨_, rfl⟩
  rw [← hm] at hm2 HR
  have HMM := Lib.hid hm
  have hmn : m ≤ 2000000 := by omega
  clear hm hl hi
  go_wp2
  go_loopw [8, 9, 10] (fun x y i wr => ∃ (k : Nat) (q r : Int), k ≤ m ∧ i = .int .i64 k ∧ x = .int .i64 q ∧ y = .int .i64 r ∧ q = (waitTo zs k).2 ∧ r = (waitTo zs k).1 ∧ w1 = wr) (fun _ _ i _ => m - (intOf i).toNat)
  case atStart => exact ⟨0, 0, 0, Nat.zero_le _, rfl, rfl, rfl, rfl, rfl, rfl⟩
  case round =>
    obtain ⟨k, q, r, hk, rfl, rfl, rfl, hq, hr, rfl⟩ := hrel
    have hqb := waitTo_bound zs k
    rw [← hq, ← hr] at hqb
    obtain ⟨⟨hr1, hr2⟩, hq1, hq2⟩ := hqb
    by_cases hlt : k < m
    · have hn0 : 0 < n3 := by have := HMM.out; omega
      obtain ⟨ad, rfl, hab, hcell⟩ := HI.out.2 (by omega)
      have hc := hcell (k % n3) (Nat.mod_lt _ hn0)
      have em : ((k : Nat) : Int).tmod (n3 : Int) = ((k % n3 : Nat) : Int) := by rw [Int.tmod_eq_emod_of_nonneg (by omega), Int.natCast_emod]
      have z1 : ¬ n3 = 0 := by omega
      have z2 : ¬ (n3 : Int) = 0 := by omega
      have hltm : k % n3 < n3 := Nat.mod_lt _ hn0
      have HL2 := HL.out
      clear hcell
      by_cases h1 : zs.getD (k % n3) 0 = 1
      · have HS : Hid ((waitTo zs (k + 1)).2 = maxI q 0 ∧ (waitTo zs (k + 1)).1 = 0) := Lib.hid (by unfold waitTo; rw [HL2, if_pos h1, ← hq]; exact ⟨rfl, rfl⟩)
        have e0 : (zs.getD (k % n3) 0 == 1) = true := by rw [h1]; rfl
        clear hq hr h1 HL2
        generalize zs.getD (k % n3) 0 = z at *
        generalize k % n3 = y at *
        have i1 : (0 : Int) ≤ (y : Int) := by omega
        have i2 : (y : Int) < (n3 : Int) := by omega
        go_wp2_with fail
        refine (spec_Max _ _ _).mono ?_
        generalize maxI q 0 = mx at *
        rintro e w2 ⟨rfl, rfl⟩
        go_wp2
        go_roundw
        case rel => exact ⟨k + 1, mx, 0, by omega, by go_num, rfl, rfl, HS.out.1.symm, HS.out.2.symm, trivial⟩
        case measure => simp [intOf]; omega
      · have HS : Hid ((waitTo zs (k + 1)).2 = maxI q (r + 1) ∧ (waitTo zs (k + 1)).1 = r + 1) := Lib.hid (by unfold waitTo; rw [HL2, if_neg h1, ← hq, ← hr]; exact ⟨rfl, rfl⟩)
        have e0 : (zs.getD (k % n3) 0 == 1) = false := by generalize zs.getD (k % n3) 0 = z at h1; simpa using h1
        clear hq hr h1 HL2
        generalize zs.getD (k % n3) 0 = z at *
        generalize k % n3 = y at *
        have i1 : (0 : Int) ≤ (y : Int) := by omega
        have i2 : (y : Int) < (n3 : Int) := by omega
        go_wp2_with fail
        refine (spec_Max _ _ _).mono ?_
        generalize maxI q (r + 1) = mx at *
        rintro e w2 ⟨rfl, rfl⟩
        go_wp2
        go_roundw
        case rel => exact ⟨k + 1, mx, r + 1, by omega, by go_num, rfl, rfl, HS.out.1.symm, HS.out.2.symm, trivial⟩
        case measure => simp [intOf]; omega
    · obtain rfl : k = m := by omega
      rw [← hq] at HR
      clear hq hr
      go_wp2_with fail
      refine (spec_Min _ _ _).mono ?_
      rintro e w2 ⟨rfl, rfl⟩
      go_wp2
      go_ret
      exact ⟨by rw [HR.out]; try rfl, HB.out⟩
end Go.Proofs.YtlpkafhapmkkfaaGreatDoor

/- Contracts of EqualBytes and EqualInts: program and model. -/
namespace Go.Proofs.YtlpkafhapmkkfaaGreatDoor
open Go.RowKit
set_option linter.unusedVariables false

/-- what EqualBytes and EqualInts answer. -/
def eqL (a b : List Int) : Bool := decide (a = b)
/-- the string of these bytes. -/
def bstr (zs : List Int) : ByteArray := zs.foldl (fun r n => r.push (UInt8.ofNat n.toNat)) ByteArray.empty
theorem bstr_fold (zs : List Int) : ∀ r : ByteArray, (zs.foldl (fun r n => r.push (UInt8.ofNat n.toNat)) r).toList = r.toList ++ zs.map fun n => UInt8.ofNat n.toNat := by
  induction zs with
  | nil => intro r; simp
  | cons z zs ih =>
    intro r
    rw [List.foldl_cons, ih, List.map_cons]
    simp [ByteArray.toList_eq]
theorem bstr_list (zs : List Int) : (bstr zs).toList = zs.map fun n => UInt8.ofNat n.toNat := by
  unfold bstr
  rw [bstr_fold]
  simp [ByteArray.toList_eq]
theorem bytes_inj : ∀ (a b : List Int), (∀ z ∈ a, 0 ≤ z ∧ z ≤ 255) → (∀ z ∈ b, 0 ≤ z ∧ z ≤ 255) → (a.map fun n => UInt8.ofNat n.toNat) = (b.map fun n => UInt8.ofNat n.toNat) → a = b
  | [], [], _, _, _ => rfl
  | [], _ :: _, _, _, h => by simp at h
  | _ :: _, [], _, _, h => by simp at h
  | x :: a, y :: b, ha, hb, h => by
    simp only [List.map_cons, List.cons.injEq] at h
    have hx := ha x List.mem_cons_self
    have hy := hb y List.mem_cons_self
    have h1 := congrArg UInt8.toNat h.1
    simp only [UInt8.toNat_ofNat'] at h1
    have e : x = y := by omega
    rw [e, bytes_inj a b (fun z hz => ha z (List.mem_cons_of_mem _ hz)) (fun z hz => hb z (List.mem_cons_of_mem _ hz)) h.2]
theorem bstr_inj {a b : List Int} (ha : ∀ z ∈ a, 0 ≤ z ∧ z ≤ 255) (hb : ∀ z ∈ b, 0 ≤ z ∧ z ≤ 255) (h : bstr a = bstr b) : a = b :=
  bytes_inj a b ha hb (by rw [← bstr_list, ← bstr_list, h])
/-- 'string(b)'. -/
theorem run_string_of_bytes {P : Program} {src dst e : TypeId} (hs : P.underlying src = some (.slice e)) (he : P.underlying e = some (.int .u8)) (hd : P.underlying dst = some .string) (A : Option Addr) (n c B : Nat) (zs : List Int) (w : World) (h : IntsAt .u8 w B A n zs) :
    (convert src dst (.slice A n c)).run P w = .ok (.string (bstr zs)) w := by
  rw [run_convert_bytes_string _ src dst e _ _ _ hs he hd]
  have hl := h.1
  cases A with
  | none =>
    have h0 : n = 0 := by
      rcases Nat.eq_zero_or_pos n with h0 | h0
      · exact h0
      · obtain ⟨ad, e, _⟩ := h.2 h0; cases e
    subst h0
    have : zs = [] := List.eq_nil_of_length_eq_zero hl
    subst this
    simp [Conv.bytesToString, bstr]
  | some ad =>
    refine run_bytesToString _ _ _ _ zs ?_
    have h2 := run_loadCells_list (P := P) w ad (zs.map (Value.int .u8)) (ints_news h)
    rw [List.length_map, hl] at h2
    exact h2
end Go.Proofs.YtlpkafhapmkkfaaGreatDoor

/- The change from one plan to another: the model. -/
namespace Go.Proofs.YtlpkafhapmkkfaaGreatDoor
open Go.RowKit
set_option linter.unusedVariables false

set_option maxHeartbeats 4000000 in
theorem spec_SwitchSeconds (A : Option Addr) (n c B : Nat) (ps : List Pth) (A2 : Option Addr) (n2 c2 B2 : Nat) (a : List Prt) (A3 : Option Addr) (n3 c3 B3 : Nat) (b : List Prt) (w : World) (h : PthsAt w B A n ps) (hB : B ≤ w.heap.size) (hn : n ≤ 4294967296) (h2 : PrtsAt w B2 A2 n2 a) (hB2 : B2 ≤ w.heap.size) (hn2 : n2 ≤ 1048576) (hm : ∀ j, j < n2 → (prAt a j).stage.length ≤ 1048576) (h3 : PrtsAt w B3 A3 n3 b) (hB3 : B3 ≤ w.heap.size) (hn3 : n3 ≤ 1048576) (hm3 : ∀ j, j < n3 → (prAt b j).stage.length ≤ 1048576) :
    Calls Tryz.prog 115 #[.slice A n c, .slice A2 n2 c2, .slice A3 n3 c3] w fun e w' => ∃ v, e = .returned v ∧ Own .i64 3 w' w.heap.size v (swP ps a b) ∧ Below w.heap.size w w' := by
  have hl2 := h2.1
  have hl3 := h3.1
  have HIA := Lib.hid (fun x (hx : Below w.heap.size w x) => spec_IsPlan A n c B ps A2 n2 c2 B2 a x (h.below (hx.mono hB)) (Nat.le_trans hB hx.size) hn (h2.below hB2 hx) (Nat.le_trans hB2 hx.size) hn2 hm)
  have HIB := Lib.hid (fun x (hx : Below w.heap.size w x) => spec_IsPlan A n c B ps A3 n3 c3 B3 b x (h.below (hx.mono hB)) (Nat.le_trans hB hx.size) hn (h3.below hB3 hx) (Nat.le_trans hB3 hx.size) hn3 hm3)
  have HST := Lib.hid (fun k x (hx : Below w.heap.size w x) => spec_StartOf A n c B ps A2 n2 c2 B2 a k x (h.below (hx.mono hB)) (Nat.le_trans hB hx.size) hn (h2.below hB2 hx) (Nat.le_trans hB2 hx.size) hn2 hm)
  have own0 := own_bare .i64 3 w
  have hb0 : Below w.heap.size w (w.alloc (.cells #[] 3)) := (Below.refl _ _).alloc (Nat.le_refl _) _
  have HO0 := Lib.hid own0
  have HB0 := Lib.hid hb0
  have HL2 := Lib.hid hl2
  have HL3 := Lib.hid hl3
  have H2 := Lib.hid h2
  have H3 := Lib.hid h3
  have HM := Lib.hid hm
  have HM3 := Lib.hid hm3
  clear h h2 h3 hm hm3 own0 hb0 hl2 hl3
  cases hp : isPlan ps a
  · have HR := Lib.hid (swP_off (b := b) (by rw [hp]; rfl))
    have HP := Lib.hid hp
    clear hp
    go_enter Tryz.func115, Tryz.ntmps115
    go_wp2
    go_loopw [7, 8] (fun v i wr => i = .int .i64 0 ∧ Own .i64 3 wr w.heap.size v [] ∧ Below w.heap.size w wr) (fun _ _ _ => 0)
    case atStart => exact ⟨rfl, HO0.out, HB0.out⟩
    case round =>
      clear HO0 HB0
      obtain ⟨rfl, hown, hbl⟩ := hrel
      have HOW := Lib.hid hown
      have HBL := Lib.hid hbl
      clear hown hbl
      by_cases hlt : 0 < n2
      · go_wp2_with fail
        refine (HIA.out _ HBL.out).mono ?_
        rw [HP.out]
        rintro e w1 ⟨rfl, hb1⟩
        have HO1 := Lib.hid (HOW.out.below hb1)
        have HB1 := Lib.hid (HBL.out.trans (hb1.mono HBL.out.size))
        clear hb1
        go_wp2
        go_ret
        exact ⟨_, rfl, by rw [HR.out]; exact HO1.out, HB1.out⟩
      · obtain rfl : n2 = 0 := by omega
        go_wp2
        go_ret
        exact ⟨_, rfl, by rw [HR.out]; exact HOW.out, HBL.out⟩
  · have HP := Lib.hid hp
    have hn6 := (isPlan_parts hp).1
    rw [HL2.out] at hn6
    cases hq : isPlan ps b
    · have HR := Lib.hid (swP_off (a := a) (b := b) (ps := ps) (by rw [hp, hq]; rfl))
      have HQ := Lib.hid hq
      clear hp hq
      go_enter Tryz.func115, Tryz.ntmps115
      go_wp2
      go_loopw [7, 8] (fun v i wr => i = .int .i64 0 ∧ Own .i64 3 wr w.heap.size v [] ∧ Below w.heap.size w wr) (fun _ _ _ => 0)
      case atStart => exact ⟨rfl, HO0.out, HB0.out⟩
      case round =>
        clear HO0 HB0
        obtain ⟨rfl, hown, hbl⟩ := hrel
        have HOW := Lib.hid hown
        have HBL := Lib.hid hbl
        clear hown hbl
        have hlt : 0 < n2 := by omega
        go_wp2_with fail
        refine (HIA.out _ HBL.out).mono ?_
        rw [HP.out]
        rintro e w1 ⟨rfl, hb1⟩
        have HO1 := Lib.hid (HOW.out.below hb1)
        have HB1 := Lib.hid (HBL.out.trans (hb1.mono HBL.out.size))
        clear hb1
        go_wp2_with fail
        refine (HIB.out _ HB1.out).mono ?_
        rw [HQ.out]
        rintro e w2 ⟨rfl, hb2⟩
        have HO2 := Lib.hid (HO1.out.below hb2)
        have HB2 := Lib.hid (HB1.out.trans (hb2.mono HB1.out.size))
        clear hb2
        go_wp2
        go_ret
        exact ⟨_, rfl, by rw [HR.out]; exact HO2.out, HB2.out⟩
    · have HR := Lib.hid (swP_on hp hq)
      rw [HL2.out] at HR
      have HQ := Lib.hid hq
      have hn1 := (isPlan_parts hq).1
      rw [HL3.out] at hn1
      have HSS := Lib.hid (fun k (hk : k < n2) => show startP ps a (k : Int) = sumTo ps a k from by
        unfold startP
        rw [HP.out, HL2.out]
        have e : inB (k : Int) 0 ((n2 : Int) - 1) = true := by unfold inB; simp; omega
        rw [e]
        rfl)
      clear hp hq
      go_enter Tryz.func115, Tryz.ntmps115
      go_wp2
      go_loopw [7, 8] (fun v i wr => ∃ k : Nat, k ≤ n2 ∧ i = .int .i64 k ∧ Own .i64 3 wr w.heap.size v (swTo ps a b k) ∧ Below w.heap.size w wr) (fun _ i _ => n2 - (intOf i).toNat)
      case atStart => exact ⟨0, Nat.zero_le _, rfl, HO0.out, HB0.out⟩
      case round =>
        clear HO0 HB0
        obtain ⟨k, hk, rfl, hown, hbl⟩ := hrel
        have HOW := Lib.hid hown
        have HBL := Lib.hid hbl
        have hln := swTo_len ps a b k
        clear hown hbl
        by_cases hlt : k < n2
        · obtain ⟨ad, A', m, c', rfl, hab, hq, hi, hmc, hnil⟩ := H2.out.at hlt
          obtain ⟨ad2, A2', m2, c2', rfl, hab2, hq2, hi2, hmc2, hnil2⟩ := H3.out.at (j := 0) (by omega)
          have hmk := HM.out k hlt
          have hmk2 := HM3.out 0 (by omega)
          have hlz := hi.1
          have hlz2 := hi2.1
          have HQ1 := Lib.hid hq
          have HQ2 := Lib.hid hq2
          have HI := Lib.hid hi
          have HI2 := Lib.hid hi2
          have HY := Lib.hid (fun hh => swTo_yes (ps := ps) (a := a) (b := b) (k := k) hh)
          have HN := Lib.hid (fun hh => swTo_no (ps := ps) (a := a) (b := b) (k := k) hh)
          have HSK := Lib.hid (fun x hx => HST.out (k : Int) x hx)
          rw [HSS.out k hlt] at HSK
          clear hq hq2 hi hi2
          generalize (prAt a k).stage = zs at *
          generalize (prAt b 0).stage = zs2 at *
          generalize sumTo ps a k = z at *
          have i1 : (0 : Int) ≤ (k : Int) := by omega
          have i2 : (k : Int) < (n2 : Int) := by omega
          have i3 : (0 : Int) < (n3 : Int) := by omega
          go_wp2_with fail
          refine (HIA.out _ HBL.out).mono ?_
          rw [HP.out]
          rintro e w1 ⟨rfl, hb1⟩
          have HO1 := Lib.hid (HOW.out.below hb1)
          have HB1 := Lib.hid (HBL.out.trans (hb1.mono HBL.out.size))
          clear hb1
          go_wp2_with fail
          refine (HIB.out _ HB1.out).mono ?_
          rw [HQ.out]
          rintro e w2 ⟨rfl, hb2⟩
          have hO2 := HO1.out.below hb2
          have hBw := HB1.out.trans (hb2.mono HB1.out.size)
          have HO2 := Lib.hid hO2
          have HBW := Lib.hid hBw
          have hsw := hBw.size
          clear hb2 HO1 HB1
          have c0 := fun x : GW w2 => ((HQ1.out.below hBw (by omega)).below x.ok (by omega)).c0
          have d0 := fun x : GW w2 => (show x.val.cell? ad2 = some (.slice A2' m2 c2') from ((HQ2.out.below hBw (by omega)).below x.ok (by omega)).c0)
          have hcc := fun x : GW w2 => spec_EqualInts A' m c' B2 zs A2' m2 c2' B3 zs2 x.val (HI.out.two' hB2 hBw x.ok) (HI2.out.two' hB3 hBw x.ok) (by omega) (by omega)
          clear hO2 hBw hlz hlz2 hmk hmk2 HI HI2 HQ1 HQ2
          cases hz : decide (zs = zs2)
          · have HL := Lib.hid (HN.out (of_decide_eq_false hz))
            rw [hz] at hcc
            clear hz
            go_wp2
            refine wp_region_grow (by kernel_rfl) (by kernel_rfl) ?_
            repeat (go_big_quiet_step (first | (go_at_call 135; exact calls_gw _ (hcc _))))
            refine wpQuiet_nil ?_
            intro x3
            have HB3 := Lib.hid (HBW.out.trans (x3.ok.mono hsw))
            have HO3 := Lib.hid (HO2.out.below x3.ok)
            clear c0 d0 hcc
            generalize x3.val = w3 at *
            go_wp2
            go_roundw
            case rel => exact ⟨k + 1, by omega, by go_num, by rw [HL.out]; exact HO3.out, HB3.out⟩
            case measure => simp [intOf]; omega
          · have HL := Lib.hid (HY.out (of_decide_eq_true hz))
            rw [hz] at hcc
            clear hz
            go_wp2
            refine wp_region_grow (by kernel_rfl) (by kernel_rfl) ?_
            repeat (go_big_quiet_step (first | (go_at_call 135; exact calls_gw _ (hcc _))))
            refine wpQuiet_nil ?_
            intro x3
            have HB3 := Lib.hid (HBW.out.trans (x3.ok.mono hsw))
            have HO3 := Lib.hid (HO2.out.below x3.ok)
            clear c0 d0 hcc
            generalize x3.val = w3 at *
            go_wp2_with fail
            refine (HSK.out _ HB3.out).mono ?_
            rintro e w4 ⟨rfl, hb4⟩
            have hO4 := HO3.out.below hb4
            have hB4 := HB3.out.trans (hb4.mono HB3.out.size)
            have HB4 := Lib.hid hB4
            have hsz4 := hB4.size
            clear hb4 hB4
            go_wp2_with (at_builtin; refine wpList_app1 rfl _ _ 58 rfl .i64 3 8 Tryz.underlying58 info_i64 w.heap.size _ (swTo ps a b k) rfl hO4 (by decide) (by omega) _ _ _ w4.heap.size hsz4 rfl (by simp) ?_; intro v7 w7 hown7 hgrow7 hat7)
            have HO7 : Hid (Own .i64 3 w7 w.heap.size v7 (swTo ps a b (k + 1))) := Lib.hid (by rw [HL.out]; exact hown7)
            have HB7 := Lib.hid (hO4.push (Nat.le_refl _) (HB4.out.alloc hsz4 _) (by simp; omega) hgrow7)
            clear hown7 hgrow7 hat7 hO4
            go_roundw
            case rel => exact ⟨k + 1, by omega, by go_num, HO7.out, HB7.out⟩
            case measure => simp [intOf]; omega
        · obtain rfl : k = n2 := by omega
          go_wp2
          go_ret
          exact ⟨_, rfl, by rw [HR.out]; exact HOW.out, HBL.out⟩
end Go.Proofs.YtlpkafhapmkkfaaGreatDoor
