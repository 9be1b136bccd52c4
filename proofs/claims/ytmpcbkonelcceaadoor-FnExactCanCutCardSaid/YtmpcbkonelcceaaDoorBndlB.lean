/- Texts of one chain, put together: Mask CrossI. -/
import Derived.Laws.BitsAllLaws
import Derived.StillTailTactics
import Derived.Laws.Rows
import Derived.Deep.MidRow
import Derived.Laws.ResultCell
import Derived.Test.YtmpcbkonelcceaaDoorBndlA
set_option linter.unusedSimpArgs false
/- Sets of indexes as masks. No program. -/
namespace Go.Proofs.YtmpcbkonelcceaaDoor
open Go.RowKit
set_option linter.unusedVariables false

/-- the set of those below n for which f holds. -/
def maskF (f : Nat → Bool) : Nat → Nat
  | 0 => 0
  | n + 1 => maskF f n ||| (if f n then 2 ^ n else 0)
theorem maskF_bit (f : Nat → Bool) (n j : Nat) : (maskF f n).testBit j = (decide (j < n) && f j) := by
  induction n with
  | zero => simp [maskF]
  | succ n ih =>
    rw [maskF, Nat.testBit_or, ih]
    by_cases h : f n
    · rw [if_pos h, Nat.testBit_two_pow]
      by_cases e : n = j
      · subst e; simp [h]
      · have e1 : decide (j < n + 1) = decide (j < n) := by simp; omega
        rw [e1]
        simp [e]
    · rw [if_neg h, Nat.zero_testBit]
      by_cases e : n = j
      · subst e; simp [h]
      · have e1 : decide (j < n + 1) = decide (j < n) := by simp; omega
        rw [e1]
        simp
theorem maskF_lt (f : Nat → Bool) (n : Nat) : maskF f n < 2 ^ n := by
  refine Nat.lt_pow_two_of_testBit _ fun i hi => ?_
  rw [maskF_bit, decide_eq_false (by omega)]
  rfl
theorem mask_ext {a b : Nat} (h : ∀ j, a.testBit j = b.testBit j) : a = b := Nat.eq_of_testBit_eq h
theorem mask_lt {m n : Nat} (h : ∀ j, n ≤ j → m.testBit j = false) : m < 2 ^ n := Nat.lt_pow_two_of_testBit _ fun i hi => h i hi
theorem bit_lt {i : Nat} (h : i < 12) : 2 ^ i < 65536 := Nat.lt_of_lt_of_le (Nat.pow_lt_pow_right (by decide) h) (by decide)
theorem or_lt {a b : Nat} (ha : a < 4096) (hb : b < 4096) : a ||| b < 4096 := Nat.or_lt_two_pow (n := 12) ha hb
theorem shl_bit (i : Nat) (h : i < 12) : IntKind.u16.wrap (1 * 2 ^ min i 16) = ((2 ^ i : Nat) : Int) := by
  have hb := bit_lt h
  rw [Nat.min_eq_left (by omega), Int.one_mul, IntKind.wrap_u16]
  have e : ((2 : Int) ^ i) = ((2 ^ i : Nat) : Int) := by simp
  rw [e]
  generalize 2 ^ i = x at hb ⊢
  omega
end Go.Proofs.YtmpcbkonelcceaaDoor

/- crossingOf: the program. -/
namespace Go.Proofs.YtmpcbkonelcceaaDoor
open Go.RowKit
set_option linter.unusedVariables false

/-- the a-th and the b-th path conflict. -/
def confAt (ps : List Pth) (a b : Nat) : Bool := match ps[a]?, ps[b]? with
  | some p, some q => conf p q
  | _, _ => false
/-- the pairs that have been gone through, at i and j. -/
def stB (ps : List Pth) (i j k l : Nat) : Bool :=
  if l < k then (decide (k < i) || (decide (k = i) && decide (l < j))) && confAt ps k l
  else if k < l then (decide (l < i) || (decide (l = i) && decide (k < j))) && confAt ps l k
  else false
def rowSt (ps : List Pth) (i j k : Nat) : Nat := maskF (stB ps i j k) 12
theorem rowSt_lt (ps : List Pth) (i j k : Nat) : rowSt ps i j k < 4096 := maskF_lt _ 12
theorem rowSt_bit (ps : List Pth) (i j k l : Nat) : (rowSt ps i j k).testBit l = (decide (l < 12) && stB ps i j k l) := maskF_bit _ _ _
/-- the cells of a crossing. -/
def xcells (A : Option Addr) (n c : Nat) (f : Nat → Nat) : List Value := .slice A n c :: (List.range 12).map fun k => Value.int .u16 (f k : Nat)
theorem xcells_length (A : Option Addr) (n c : Nat) (f : Nat → Nat) : (xcells A n c f).length = 13 := by simp [xcells]
theorem xcells_row (A : Option Addr) (n c : Nat) (f : Nat → Nat) (k : Nat) (h : k < 12) : (xcells A n c f)[1 + k]? = some (.int .u16 (f k : Nat)) := by
  rw [Nat.add_comm]
  simp [xcells, h]
theorem xcells_set (A : Option Addr) (n c : Nat) (f : Nat → Nat) (k m : Nat) (h : k < 12) : (xcells A n c f).set (1 + k) (.int .u16 (m : Nat)) = xcells A n c fun l => if l = k then m else f l := by
  unfold xcells
  rw [Nat.add_comm, List.set_cons_succ]
  congr 1
  apply List.ext_getElem?
  intro i
  rw [List.getElem?_set]
  by_cases hi : i < 12
  · by_cases e : k = i
    · subst e; simp [h]
    · have e2 : ¬ i = k := fun h => e h.symm
      simp [e, e2, hi]
  · rw [List.getElem?_eq_none (by simp; omega)]
    have e : ¬ k = i := by omega
    rw [if_neg e, List.getElem?_eq_none (by simp; omega)]
theorem st_step_no {ps : List Pth} {i j : Nat} (hj : j < i) (hc : confAt ps i j = false) (k : Nat) : rowSt ps i (j + 1) k = rowSt ps i j k := by
  apply mask_ext
  intro l
  rw [rowSt_bit, rowSt_bit]
  congr 1
  unfold stB
  by_cases h1 : l < k
  · rw [if_pos h1, if_pos h1]
    by_cases e : k = i ∧ l = j
    · rw [e.1, e.2, hc]; simp
    · have : (decide (k = i) && decide (l < j + 1)) = (decide (k = i) && decide (l < j)) := by
        by_cases ek : k = i
        · have : ¬ l = j := fun el => e ⟨ek, el⟩
          have : decide (l < j + 1) = decide (l < j) := by simp; omega
          rw [this]
        · simp [ek]
      rw [this]
  · rw [if_neg h1, if_neg h1]
    by_cases h2 : k < l
    · rw [if_pos h2, if_pos h2]
      by_cases e : l = i ∧ k = j
      · rw [e.1, e.2, hc]; simp
      · have : (decide (l = i) && decide (k < j + 1)) = (decide (l = i) && decide (k < j)) := by
          by_cases el : l = i
          · have : ¬ k = j := fun ek => e ⟨el, ek⟩
            have : decide (k < j + 1) = decide (k < j) := by simp; omega
            rw [this]
          · simp [el]
        rw [this]
    · rw [if_neg h2, if_neg h2]
theorem st_step_yes {ps : List Pth} {i j : Nat} (hj : j < i) (hi : i < 12) (hc : confAt ps i j = true) (k : Nat) :
    rowSt ps i (j + 1) k = if k = j then rowSt ps i j j ||| 2 ^ i else if k = i then rowSt ps i j i ||| 2 ^ j else rowSt ps i j k := by
  apply mask_ext
  intro l
  by_cases ek : k = j
  · subst ek
    rw [if_pos rfl, Nat.testBit_or, rowSt_bit, rowSt_bit, Nat.testBit_two_pow]
    unfold stB
    by_cases h1 : l < k
    · have e1 : ¬ i = l := by omega
      have e2 : decide (k = i) = false := decide_eq_false (by omega)
      simp [h1, e1, e2]
    · by_cases h2 : k < l
      · by_cases el : l = i
        · subst el
          simp [h1, h2, hc]
          omega
        · have e1 : ¬ i = l := fun h => el h.symm
          simp [h1, h2, el, e1]
      · have : l = k := by omega
        subst this
        have e1 : ¬ i = l := by omega
        simp [e1]
  · rw [if_neg ek]
    by_cases e2 : k = i
    · subst e2
      rw [if_pos rfl, Nat.testBit_or, rowSt_bit, rowSt_bit, Nat.testBit_two_pow]
      unfold stB
      by_cases h1 : l < k
      · by_cases el : l = j
        · subst el
          simp [h1, hc]
          omega
        · have e1 : ¬ j = l := fun h => el h.symm
          have e3 : decide (l < j + 1) = decide (l < j) := by simp; omega
          simp [h1, e1, e3]
      · have e1 : ¬ j = l := by omega
        by_cases h2 : k < l
        · have e3 : decide (l = k) = false := decide_eq_false (by omega)
          simp [h1, h2, e1, e3]
        · have : l = k := by omega
          subst this
          simp [e1]
    · rw [if_neg e2, rowSt_bit, rowSt_bit]
      congr 1
      unfold stB
      by_cases h1 : l < k
      · simp [h1, e2]
      · by_cases h2 : k < l
        · by_cases el : l = i
          · subst el
            have e3 : decide (k < j + 1) = decide (k < j) := by simp; omega
            simp [h1, h2, e3]
          · simp [h1, h2, el]
        · simp [h1, h2]
theorem st_next {ps : List Pth} {i : Nat} (k : Nat) : rowSt ps i i k = rowSt ps (i + 1) 0 k := by
  apply mask_ext
  intro l
  rw [rowSt_bit, rowSt_bit]
  congr 1
  unfold stB
  by_cases h1 : l < k
  · have : (decide (k < i) || (decide (k = i) && decide (l < i))) = (decide (k < i + 1) || (decide (k = i + 1) && decide (l < 0))) := by
      rw [Bool.eq_iff_iff]; simp; omega
    rw [if_pos h1, if_pos h1, this]
  · by_cases h2 : k < l
    · have : (decide (l < i) || (decide (l = i) && decide (k < i))) = (decide (l < i + 1) || (decide (l = i + 1) && decide (k < 0))) := by
        rw [Bool.eq_iff_iff]; simp; omega
      rw [if_neg h1, if_neg h1, if_pos h2, if_pos h2, this]
    · rw [if_neg h1, if_neg h1, if_neg h2, if_neg h2]
theorem st_zero (ps : List Pth) (k : Nat) : rowSt ps 0 0 k = 0 := by
  apply mask_ext
  intro l
  rw [rowSt_bit, Nat.zero_testBit]
  unfold stB
  by_cases h1 : l < k
  · simp [h1]
  · by_cases h2 : k < l <;> simp [h1, h2]
theorem impl_maskBit (i : Nat) (w : World) (h : i < 12) : Calls Tryd.prog 74 #[.int .i64 (i : Nat)] w fun e w' => e = .returned (.int .u16 ((2 ^ i : Nat) : Int)) ∧ w = w' := by
  have HS := Lib.hid (shl_bit i h)
  go_enter Tryd.func74, Tryd.ntmps74
  go_wp2
  go_ret
  exact ⟨by have := HS.out; rw [Nat.min_eq_left (by omega), Int.one_mul] at this; rw [← this]; rfl, rfl⟩
theorem arePs_len12 {ps : List Pth} (h : arePs ps = true) : ps.length ≤ 12 := by
  unfold arePs at h
  simp only [Bool.and_eq_true, decide_eq_true_eq] at h
  exact h.2
theorem or_bit {a i : Nat} (ha : a < 4096) (hi : i < 12) : bits .or .u16 (a : Int) ((2 ^ i : Nat) : Int) = ((a ||| 2 ^ i : Nat) : Int) := u16_or_nat a (2 ^ i) (by omega) (bit_lt hi)
theorem below_setCells {B : Nat} {a : World} (b : Nat) (hb : B ≤ b) : ∀ (vs : List Value) (o : Nat) (w : World), Below B a w → Below B a (w.setCells b o vs)
  | [], _, _, h => h
  | v :: vs, o, w, h => below_setCells b hb vs (o + 1) _ (h.setCell hb v)
theorem range_own {w : World} {lo g n : Nat} {E : TypeId} {xs : List Value} (h : w.ownsRow lo E 1 (.slice (some ⟨g, 0, none⟩) n n) n xs) : w.rangeAt g 0 xs := fun j v hj => by
  have hlt := (List.getElem?_eq_some_iff.1 hj).1
  rw [h.1] at hlt
  rw [Nat.zero_add, World.ownsRow.cellAt h j hlt, hj]
theorem there_block {w : World} {g : Nat} {cs : Array Value} {t : TypeId} (h : w.heap[g]? = some (.cells cs t (0, 0))) (m : Nat) (hm : m = cs.size) : w.there g 0 m := fun j hj => by
  rw [Nat.zero_add, cell_of_row w g j cs t _ h, frozen_of_row w g j cs t h]
  exact ⟨by rw [Array.getElem?_eq_getElem (by omega)]; rfl, rfl⟩
theorem xcells_one (A : Option Addr) (n c : Nat) (f : Nat → Nat) : ∀ v ∈ xcells A n c f, v.oneCell' = true := by
  intro v hv
  unfold xcells at hv
  rcases List.mem_cons.1 hv with rfl | hv
  · rfl
  · obtain ⟨k, _, rfl⟩ := List.mem_map.1 hv
    rfl
theorem info_cross : (Tryd.prog.info? 57).map (·.size) = some 13 := by kernel_rfl
set_option maxHeartbeats 1000000 in
set_option maxRecDepth 100000 in
theorem impl_crossingOf (A : Option Addr) (n c B : Nat) (ps : List Pth) (w : World) (h : PthsAt w B A n ps) (hB : B ≤ w.heap.size) (hn : n ≤ c ∧ c ≤ maxLen) (hp : arePs ps = true) :
    Calls Tryd.prog 50 #[.slice A n c] w fun e w' => e = .returned (.tuple #[.agg (xcells A n c (rowSt ps n 0)).toArray, .bool true]) ∧ Below w.heap.size w w' := by
  have hl := h.1
  have h12 : n ≤ 12 := by have := arePs_len12 hp; omega
  obtain ⟨hn1, hn2⟩ := hn
  unfold maxLen at hn2
  have HPA := Lib.hid hp
  have hba : Below w.heap.size w (w.alloc (.cells #[.slice none 0 0, .int .u16 0, .int .u16 0, .int .u16 0, .int .u16 0, .int .u16 0, .int .u16 0, .int .u16 0, .int .u16 0, .int .u16 0, .int .u16 0, .int .u16 0, .int .u16 0] 57)) := (Below.refl _ _).alloc (Nat.le_refl _) _
  have HA := Lib.hid ((h.below (hba.mono hB)).up (B' := (w.alloc (.cells #[.slice none 0 0, .int .u16 0, .int .u16 0, .int .u16 0, .int .u16 0, .int .u16 0, .int .u16 0, .int .u16 0, .int .u16 0, .int .u16 0, .int .u16 0, .int .u16 0, .int .u16 0] 57)).heap.size) (by simp; omega))
  have HB0 := Lib.hid hba
  clear hba hp
  go_enter Tryd.func50, Tryd.ntmps50
  go_wp2_with fail
  refine (impl_ArePaths A n c _ ps _ HA.out (Nat.le_refl _) (by omega)).mono ?_
  rw [HPA.out]
  rintro e w1 ⟨rfl, hb⟩
  have HB1 := Lib.hid (HB0.out.trans (hb.mono HB0.out.size))
  have HP1 := Lib.hid ((HA.out.below hb).up hb.size)
  have hRz := Lib.hid ((hb.block w.heap.size (by simp)).trans (heap_alloc_new w (.cells #[.slice none 0 0, .int .u16 0, .int .u16 0, .int .u16 0, .int .u16 0, .int .u16 0, .int .u16 0, .int .u16 0, .int .u16 0, .int .u16 0, .int .u16 0, .int .u16 0, .int .u16 0] 57)))
  have hR : w.heap.size < w1.heap.size := by have := hb.size; simp at this; omega
  have own0 : (w1.alloc (.cells #[.slice A n c, .int .u16 0, .int .u16 0, .int .u16 0, .int .u16 0, .int .u16 0, .int .u16 0, .int .u16 0, .int .u16 0, .int .u16 0, .int .u16 0, .int .u16 0, .int .u16 0] 57)).ownsRow w1.heap.size 57 1 (.slice (some ⟨w1.heap.size, 0, none⟩) 13 13) 13 (xcells A n c (rowSt ps 0 0)) := by
    have e : rowSt ps 0 0 = fun _ => 0 := funext fun k => st_zero ps k
    rw [e]
    exact World.ownsRow_lit (base := w1.heap.size) (e := 57) (size := 1) w1 #[.slice A n c, .int .u16 0, .int .u16 0, .int .u16 0, .int .u16 0, .int .u16 0, .int .u16 0, .int .u16 0, .int .u16 0, .int .u16 0, .int .u16 0, .int .u16 0, .int .u16 0] 13 (Nat.le_refl _) (by decide) rfl
  have HO := Lib.hid own0
  have HBX := Lib.hid ((Below.refl w1.heap.size w1).alloc (Nat.le_refl _) (.cells #[.slice A n c, .int .u16 0, .int .u16 0, .int .u16 0, .int .u16 0, .int .u16 0, .int .u16 0, .int .u16 0, .int .u16 0, .int .u16 0, .int .u16 0, .int .u16 0, .int .u16 0] 57))
  clear hb own0 HA HB0
  go_wp2
  go_loopw [17] (fun i wr => ∃ k : Nat, k ≤ n ∧ i = .int .i64 k ∧ wr.ownsRow w1.heap.size 57 1 (.slice (some ⟨w1.heap.size, 0, none⟩) 13 13) 13 (xcells A n c (rowSt ps k 0)) ∧ Below w1.heap.size w1 wr) (fun i _ => n - (intOf i).toNat)
  case atStart => exact ⟨0, Nat.zero_le _, rfl, HO.out, HBX.out⟩
  case round =>
    clear HO HBX
    obtain ⟨k, hk, rfl, hown, hbl⟩ := hrel
    have hsz := hbl.size
    have hX := (World.ownsRow.lt hown w1.heap.size rfl).2
    by_cases hlt : k < n
    · obtain ⟨ad, p, rfl, hab, hpk, hq⟩ := HP1.out.at hlt
      obtain ⟨c0, c1, c2, c3⟩ := (hq.below hbl hab).plain
      have i1 : (0 : Int) ≤ (k : Int) := by omega
      have i2 : (k : Int) < (n : Int) := by omega
      have HBL := Lib.hid hbl
      have HO := Lib.hid (World.ownsRow.alloc hown (.cells #[.int .i64 p.id, .int .i64 p.kind, .int .i64 p.frm, .int .i64 p.to] 50))
      have HBA := Lib.hid (hbl.alloc hsz (.cells #[.int .i64 p.id, .int .i64 p.kind, .int .i64 p.frm, .int .i64 p.to] 50))
      have HPK : Hid (PthAt (wr.alloc (.cells #[.int .i64 p.id, .int .i64 p.kind, .int .i64 p.frm, .int .i64 p.to] 50)) ⟨wr.heap.size, 0, none⟩ p) := Lib.hid (pth_of_block (heap_alloc_new wr _))
      clear hq hown hbl
      obtain ⟨wo, hwo⟩ : ∃ wo : World, wo = wr := ⟨_, rfl⟩
      rw [← hwo] at HBL HO HBA HPK hsz hX
      go_wp2
      rw [← hwo]
      clear c0 c1 c2 c3
      clear hwo
      go_loopw [26] (fun j wr => ∃ m : Nat, m ≤ k ∧ j = .int .i64 m ∧ wr.ownsRow w1.heap.size 57 1 (.slice (some ⟨w1.heap.size, 0, none⟩) 13 13) 13 (xcells (some ad) n c (rowSt ps k m)) ∧ Below w1.heap.size w1 wr ∧ PthAt wr ⟨wo.heap.size, 0, none⟩ p ∧ wo.heap.size < wr.heap.size) (fun j _ => k - (intOf j).toNat)
      case atStart => exact ⟨0, Nat.zero_le _, rfl, HO.out, HBA.out, HPK.out, by simp⟩
      case round =>
        clear HO HBA HPK
        obtain ⟨m, hm, rfl, hown, hbl, hpt, hlo⟩ := hrel
        have hsz2 := hbl.size
        by_cases hlt2 : m < k
        · obtain ⟨ad', q, e, hab2, hqm, hq⟩ := HP1.out.at (k := m) (by omega)
          injection e with e
          subst e
          obtain ⟨c0, c1, c2, c3⟩ := (hq.below hbl hab2).plain
          obtain ⟨d0, d1, d2, d3⟩ := pth_head hpt
          have j1 : (0 : Int) ≤ (m : Int) := by omega
          have j3 : (m : Int) < 12 := by omega
          have j4 : (k : Int) < 12 := by omega
          have j2 : (m : Int) < (k : Int) := by omega
          have HCO : Hid (confAt ps k m = conf p q) := Lib.hid (by unfold confAt; rw [hpk, hqm])
          have hcc := fun x => impl_Conflict p q x
          simp only [Pth.val] at hcc
          have HBL2 := Lib.hid hbl
          have HO2 := Lib.hid (World.ownsRow.alloc hown (.cells #[.int .i64 q.id, .int .i64 q.kind, .int .i64 q.frm, .int .i64 q.to] 50))
          have HBA2 := Lib.hid (hbl.alloc hsz2 (.cells #[.int .i64 q.id, .int .i64 q.kind, .int .i64 q.frm, .int .i64 q.to] 50))
          have HPT := Lib.hid (hpt.below ((Below.refl wr.heap.size wr).alloc (Nat.le_refl _) (.cells #[.int .i64 q.id, .int .i64 q.kind, .int .i64 q.frm, .int .i64 q.to] 50)) hlo)
          clear hq hown hbl hpt
          go_wp2_with fail
          refine (hcc _).mono ?_
          rintro e w3 ⟨rfl, hb⟩
          have own3 := ownr_below HO2.out hb
          have HB3 := Lib.hid (HBA2.out.trans (hb.mono HBA2.out.size))
          have HP3 := Lib.hid (HPT.out.below hb (by simp; omega))
          have hs3 : wr.heap.size < w3.heap.size := by have := hb.size; simp at this; omega
          clear hb hcc HO2 HBA2 HPT c0 c1 c2 c3 d0 d1 d2 d3
          cases hcf : conf p q
          · have HN : Hid (rowSt ps k (m + 1) = rowSt ps k m) := Lib.hid (funext fun l => st_step_no hlt2 (HCO.out.trans hcf) l)
            have HO3 := Lib.hid own3
            clear own3 hcf
            go_wp2
            go_roundw
            case rel => exact ⟨m + 1, by omega, by go_num, by rw [HN.out]; exact HO3.out, HB3.out, HP3.out, by omega⟩
            case measure => simp [intOf]; omega
          · have HN : Hid (rowSt ps k (m + 1) = fun l => if l = m then rowSt ps k m m ||| 2 ^ k else if l = k then rowSt ps k m k ||| 2 ^ m else rowSt ps k m l) := Lib.hid (funext fun l => st_step_yes hlt2 (by omega) (HCO.out.trans hcf) l)
            have hkk := World.ownsRow.cellAt own3 (1 + k) (by omega)
            rw [xcells_row _ _ _ _ _ (by omega)] at hkk
            have hff := World.ownsRow.frozenAt own3 (1 + k)
            have hst := (World.ownsRow.stored own3 (1 + k) (.int .u16 ((rowSt ps k m k ||| 2 ^ m : Nat) : Int))).1
            rw [xcells_set _ _ _ _ _ _ (by omega)] at hst
            have ob := or_bit (rowSt_lt ps k m k) (show m < 12 by omega)
            have hmb := fun x => (impl_maskBit m x (by omega))
            have HST := Lib.hid hst
            have HO3 := Lib.hid own3
            have HN2 : Hid (rowSt ps k (m + 1) = fun l => if l = m then rowSt ps k m m ||| 2 ^ k else if l = k then rowSt ps k m k ||| 2 ^ m else rowSt ps k m l) := Lib.hid HN.out
            have hmb2 := Lib.hid (fun x => (impl_maskBit k x (by omega)))
            have ob2 := or_bit (rowSt_lt ps k m m) (show k < 12 by omega)
            have hkm : ¬ m = k := by omega
            have HFM : Hid ((if m = k then rowSt ps k m k ||| 2 ^ m else rowSt ps k m m) = rowSt ps k m m) := Lib.hid (if_neg hkm)
            have hkm2 : ∀ x : Nat, xcells (some ad) n c (fun l => if l = m then x else if l = k then rowSt ps k m k ||| 2 ^ m else rowSt ps k m l) = (xcells (some ad) n c (fun l => if l = k then rowSt ps k m k ||| 2 ^ m else rowSt ps k m l)).set (1 + m) (.int .u16 (x : Int)) := fun x => (xcells_set _ _ _ _ _ _ (by omega)).symm
            have hrow := xcells_row (some ad) n c (fun l => if l = k then rowSt ps k m k ||| 2 ^ m else rowSt ps k m l) m (by omega)
            simp only [if_neg hkm] at hrow
            clear own3 hcf hst HN hkm
            have HMB := Lib.hid hmb
            clear hmb
            have HOB2 := Lib.hid ob2
            have HKM := Lib.hid hkm2
            have HRW := Lib.hid hrow
            clear ob2 hkm2 hrow HO3 HFM
            generalize rowSt ps k m k ||| 2 ^ m = rk at *
            generalize rowSt ps k m m ||| 2 ^ k = rm at *
            generalize (2 : Nat) ^ m = bm at *
            generalize (2 : Nat) ^ k = bk at *
            go_wp2
            go_still_tail 9, (by kernel_rfl)
            refine wpStill_step (fun K hK => ?_)
            go_simp
            have hcc := (HMB.out w3.drew).mono fun e w' h => (⟨h.1, h.2.symm⟩ : e = .returned (.int .u16 (bm : Int)) ∧ w' = w3.drew)
            refine ⟨Value.int .u16 (bm : Int), hcc, ?_⟩
            refine hK _ ?_
            clear hcc hK K
            repeat still_step
            try refine wpStill_nil ?_
            change wpList _ _ _ _ _ w3.drew
            go_wp2
            obtain ⟨w4, hw4⟩ : ∃ w4, w4 = (w3.setCell ⟨w1.heap.size, 1 + k, none⟩ (.int .u16 (rk : Int))).drew := ⟨_, rfl⟩
            have own4 : w4.ownsRow w1.heap.size 57 1 (.slice (some ⟨w1.heap.size, 0, none⟩) 13 13) 13 (xcells (some ad) n c fun l => if l = k then rk else rowSt ps k m l) := by rw [hw4]; exact HST.out
            have HB4 : Hid (Below w1.heap.size w1 w4) := Lib.hid (by rw [hw4]; exact (HB3.out.setCell (Nat.le_refl _) _).drew)
            have HP4 : Hid (PthAt w4 ⟨wo.heap.size, 0, none⟩ p) := Lib.hid (by rw [hw4]; exact HP3.out.keep (Below.heap_setCell _ _ _ _ (by simp; omega)))
            have hs4 : wr.heap.size < w4.heap.size := by rw [hw4]; simp; omega
            rw [← hw4]
            clear hw4 HST HB3 HP3 hs3 hkk hff HMB ob
            have ob := HOB2.out
            have hkk := World.ownsRow.cellAt own4 (1 + m) (by omega)
            rw [HRW.out] at hkk
            have hff := World.ownsRow.frozenAt own4 (1 + m)
            have hst := (World.ownsRow.stored own4 (1 + m) (.int .u16 (rm : Int))).1
            rw [← HKM.out] at hst
            have HST := Lib.hid hst
            clear hst own4
            go_still_tail 9, (by kernel_rfl)
            refine wpStill_step (fun K hK => ?_)
            go_simp
            have hcc := (hmb2.out w4.drew).mono fun e w' h => (⟨h.1, h.2.symm⟩ : e = .returned (.int .u16 (bk : Int)) ∧ w' = w4.drew)
            refine ⟨Value.int .u16 (bk : Int), hcc, ?_⟩
            refine hK _ ?_
            clear hcc hK K
            repeat still_step
            try refine wpStill_nil ?_
            change wpList _ _ _ _ _ w4.drew
            go_wp2
            go_roundw
            case rel => exact ⟨m + 1, by omega, by go_num, by rw [HN2.out]; exact HST.out, (HB4.out.setCell (Nat.le_refl _) _).drew, HP4.out.keep (Below.heap_setCell _ _ _ _ (by simp; omega)), by simp; omega⟩
            case measure => simp [intOf]; omega
        · obtain rfl : m = k := by omega
          have HN : Hid (rowSt ps m m = rowSt ps (m + 1) 0) := Lib.hid (funext fun l => st_next l)
          go_wp2
          go_roundw
          case rel => exact ⟨m + 1, by omega, by go_num, by rw [← HN.out]; exact hown, hbl⟩
          case measure => simp [intOf]; omega
    · obtain rfl : k = n := by omega
      have hRA := range_own hown
      have hRb : wr.heap[w.heap.size]? = w1.heap[w.heap.size]? := hbl.block _ hR
      have hRc := hRb.trans hRz.out
      have hth := there_block hRc 13 rfl
      have HBL := Lib.hid hbl
      clear hown hbl hRb hRc
      go_wp2_with
        (first
          | ((with_reducible show wpList _ _ _ _ _ _); refine wpList_load_mid rfl 57 _ rfl w1.heap.size 0 rfl (xcells A k c (rowSt ps k 0)) _ hRA Tryd.underlying57 rfl (by rw [xcells_length]; exact info_cross) ?_)
          | ((with_reducible show wpList _ _ _ _ _ _); refine wpList_store_mid rfl 57 _ _ rfl w.heap.size 0 _ rfl rfl hth info_cross (all_oneCell_toArray (xcells_one _ _ _ _)) ?_))
      refine bodyPost_ret (v := .tuple #[.agg (xcells A k c (rowSt ps k 0)).toArray, .bool true]) (by
        have hload := run_loadVar_mid (P := Tryd.prog) (wr.setCells w.heap.size 0 (xcells A k c (rowSt ps k 0))) w.heap.size 0 57 (xcells A k c (rowSt ps k 0)) _ (World.rangeAt_setCells_same _ _ _ _ (by rw [xcells_length]; exact hth)) Tryd.underlying57 rfl (by rw [xcells_length]; exact info_cross)
        rw [results_cell_tmp rfl]
        simp [asAddr, hload, Result.andThen]) rfl ⟨rfl, ?_⟩
      exact below_setCells _ (Nat.le_refl _) _ _ _ (HB1.out.trans (HBL.out.mono HB1.out.size))
theorem zero_crossing (A : Option Addr) : xcells none 0 0 (fun _ => 0) = [.slice none 0 0, .int .u16 0, .int .u16 0, .int .u16 0, .int .u16 0, .int .u16 0, .int .u16 0, .int .u16 0, .int .u16 0, .int .u16 0, .int .u16 0, .int .u16 0, .int .u16 0] := rfl
/-- what crossingOf answers. -/
def crossV (A : Option Addr) (n c : Nat) (ps : List Pth) : Value := if arePs ps then .tuple #[.agg (xcells A n c (rowSt ps n 0)).toArray, .bool true] else .tuple #[.agg (xcells none 0 0 fun _ => 0).toArray, .bool false]
theorem impl_crossingOf_no (A : Option Addr) (n c B : Nat) (ps : List Pth) (w : World) (h : PthsAt w B A n ps) (hB : B ≤ w.heap.size) (hn : n ≤ 4294967296) (hp : arePs ps = false) :
    Calls Tryd.prog 50 #[.slice A n c] w fun e w' => e = .returned (.tuple #[.agg (xcells none 0 0 fun _ => 0).toArray, .bool false]) ∧ Below w.heap.size w w' := by
  have HPA := Lib.hid hp
  have hba : Below w.heap.size w (w.alloc (.cells #[.slice none 0 0, .int .u16 0, .int .u16 0, .int .u16 0, .int .u16 0, .int .u16 0, .int .u16 0, .int .u16 0, .int .u16 0, .int .u16 0, .int .u16 0, .int .u16 0, .int .u16 0] 57)) := (Below.refl _ _).alloc (Nat.le_refl _) _
  have HA := Lib.hid ((h.below (hba.mono hB)).up (B' := (w.alloc (.cells #[.slice none 0 0, .int .u16 0, .int .u16 0, .int .u16 0, .int .u16 0, .int .u16 0, .int .u16 0, .int .u16 0, .int .u16 0, .int .u16 0, .int .u16 0, .int .u16 0, .int .u16 0] 57)).heap.size) (by simp; omega))
  have HB0 := Lib.hid hba
  clear hba hp
  go_enter Tryd.func50, Tryd.ntmps50
  go_wp2_with fail
  refine (impl_ArePaths A n c _ ps _ HA.out (Nat.le_refl _) hn).mono ?_
  rw [HPA.out]
  rintro e w1 ⟨rfl, hb⟩
  have HB1 := Lib.hid (HB0.out.trans (hb.mono HB0.out.size))
  have hRz := (hb.block w.heap.size (by simp)).trans (heap_alloc_new w (.cells #[.slice none 0 0, .int .u16 0, .int .u16 0, .int .u16 0, .int .u16 0, .int .u16 0, .int .u16 0, .int .u16 0, .int .u16 0, .int .u16 0, .int .u16 0, .int .u16 0, .int .u16 0] 57))
  have hth := there_block hRz 13 rfl
  clear hb hRz
  go_wp2_with ((with_reducible show wpList _ _ _ _ _ _); refine wpList_store_mid rfl 57 _ _ rfl w.heap.size 0 (xcells none 0 0 fun _ => 0).toArray rfl rfl hth info_cross (all_oneCell_toArray (xcells_one _ _ _ _)) ?_)
  refine bodyPost_ret (v := .tuple #[.agg (xcells none 0 0 fun _ => 0).toArray, .bool false]) (by
        have hload := run_loadVar_mid (P := Tryd.prog) (w1.setCells w.heap.size 0 (xcells none 0 0 fun _ => 0)) w.heap.size 0 57 (xcells none 0 0 fun _ => 0) _ (World.rangeAt_setCells_same _ _ _ _ (by rw [xcells_length]; exact hth)) Tryd.underlying57 rfl (by rw [xcells_length]; exact info_cross)
        rw [results_cell_tmp rfl]
        simp [asAddr, hload, Result.andThen]) rfl ⟨rfl, ?_⟩
  exact below_setCells _ (Nat.le_refl _) _ _ _ HB1.out
theorem impl_crossingV (A : Option Addr) (n c B : Nat) (ps : List Pth) (w : World) (h : PthsAt w B A n ps) (hB : B ≤ w.heap.size) (hn : n ≤ c ∧ c ≤ maxLen) (hn2 : n ≤ 4294967296) :
    Calls Tryd.prog 50 #[.slice A n c] w fun e w' => e = .returned (crossV A n c ps) ∧ Below w.heap.size w w' := by
  unfold crossV
  cases hp : arePs ps
  · exact impl_crossingOf_no A n c B ps w h hB hn2 hp
  · exact impl_crossingOf A n c B ps w h hB hn hp
end Go.Proofs.YtmpcbkonelcceaaDoor
