/- Chapter 19: MendLamp: program and model. -/
import Derived.Test.YtdlcjmdkafebpaaTab
import Derived.Test.YtdlcjmdkafebpaaMem
import Derived.Test.YtdlcjmdkafebpaaLmpM
namespace Go.Proofs.Ytdlcjmdkafebpaa
open Go.RowKit Go.Maps
set_option linter.unusedVariables false

/-- a lamp that is for this path and colour is not broken any more. -/
def mend1 (a b : Int) (x : Lmp) : Lmp := if decide (x.path = a) && decide (x.colour = b) then ⟨x.path, x.colour, false⟩ else x
/-- what MendLamp answers. -/
def mendL (zs : List Lmp) (a b : Int) : List Lmp := zs.map (mend1 a b)
/-- the first k are mended. -/
def mdK (a b : Int) (zs : List Lmp) (k : Nat) : List Lmp := (zs.take k).map (mend1 a b) ++ zs.drop k
theorem mdK_zero (a b : Int) (zs : List Lmp) : mdK a b zs 0 = zs := by simp [mdK]
theorem mdK_top {a b : Int} {zs : List Lmp} {k : Nat} (h : zs.length ≤ k) : mdK a b zs k = mendL zs a b := by
  unfold mdK mendL
  rw [List.take_of_length_le h, List.drop_of_length_le h, List.append_nil]
theorem mdK_get {a b : Int} {zs : List Lmp} {k : Nat} {p : Lmp} (h : zs[k]? = some p) : (mdK a b zs k)[k]? = some p := by
  have hk := (List.getElem?_eq_some_iff.1 h).1
  unfold mdK
  rw [List.getElem?_append_right (by simp; omega), List.getElem?_drop]
  simp [Nat.min_eq_left (Nat.le_of_lt hk), h]
theorem mdK_step {a b : Int} {zs : List Lmp} {k : Nat} {p : Lmp} (h : zs[k]? = some p) : mdK a b zs (k + 1) = (mdK a b zs k).set k (mend1 a b p) := by
  have hk := (List.getElem?_eq_some_iff.1 h).1
  have hz := (List.getElem?_eq_some_iff.1 h).2
  unfold mdK
  rw [List.drop_eq_getElem_cons hk, hz, List.take_add_one, h]
  rw [List.set_append_right _ _ (by simp; omega)]
  simp [Nat.min_eq_left (Nat.le_of_lt hk)]
theorem mdK_same {l : List Lmp} {k : Nat} {p : Lmp} (h : l[k]? = some p) : l.set k p = l := by
  apply List.ext_getElem?
  intro i
  rw [List.getElem?_set]
  split
  · next e => subst e; rw [h]; simp [(List.getElem?_eq_some_iff.1 h).1]
  · rfl
theorem lmpcells_set : ∀ {l : List Lmp} {k : Nat} {p : Lmp}, l[k]? = some p → ∀ x : Bool, (lmpcells l).set (k * 3 + 2) (.bool x) = lmpcells (l.set k ⟨p.path, p.colour, x⟩)
  | q :: l, 0, p, h, x => by
    obtain rfl : q = p := by simpa using h
    rfl
  | q :: l, k + 1, p, h, x => by
    have ih := lmpcells_set (l := l) (k := k) (p := p) (by simpa using h) x
    have e : (k + 1) * 3 + 2 = (k * 3 + 2) + 1 + 1 + 1 := by omega
    rw [e]
    show _ :: _ :: _ :: (lmpcells l).set (k * 3 + 2) (.bool x) = _ :: _ :: _ :: lmpcells (l.set k ⟨p.path, p.colour, x⟩)
    rw [ih]
theorem lmp_cells_own {w : World} {lo g n c : Nat} {E : TypeId} {zs : List Lmp} {k : Nat} {p : Lmp} (h : w.ownsRow lo E 3 (.slice (some ⟨g, 0, none⟩) n c) n (lmpcells zs)) (hp : zs[k]? = some p) :
    w.cell? ⟨g, k * 3, none⟩ = some (.int .i64 p.path) ∧ w.cell? ⟨g, k * 3 + 1, none⟩ = some (.int .i64 p.colour) ∧ w.cell? ⟨g, k * 3 + 2, none⟩ = some (.bool p.broken) := by
  have hk := (List.getElem?_eq_some_iff.1 hp).1
  have hl : (lmpcells zs).length = n * 3 := h.1
  rw [lmpcells_length] at hl
  have hg := fun i (hi : i < 3) => flat_get (f := Lmp.cells) (fun _ => rfl) zs k i p hp hi
  have e0 := World.ownsRow.cellAt h (k * 3) (by omega)
  have e1 := World.ownsRow.cellAt h (k * 3 + 1) (by omega)
  have e2 := World.ownsRow.cellAt h (k * 3 + 2) (by omega)
  exact ⟨e0.trans (hg 0 (by decide)), e1.trans (hg 1 (by decide)), e2.trans (hg 2 (by decide))⟩
theorem lib_CloneLmp (A : Option Addr) (n c B : Nat) (zs : List Lmp) (w : World) (h : LmpsAt w B A n zs) (hB : B ≤ w.heap.size) (hA : A = none → n = 0 ∧ c = 0) (hn : n ≤ 4294967296) :
    Calls Try.prog 97 #[.slice A n c] w fun e w' => ∃ v, e = .returned v ∧ w'.ownsRow w.heap.size 108 3 v n (lmpcells zs) ∧ Below w.heap.size w w' := by
  have hl := h.1
  cases A with
  | none =>
    obtain ⟨rfl, rfl⟩ := hA rfl
    obtain rfl : zs = [] := List.eq_nil_of_length_eq_zero hl
    have hnil : ∀ W, (binOp .eql 36 (.slice none 0 0) (.slice none 0 0)).run Try.prog W = .ok (.bool true) W := fun W => eql_slice_nil Try.underlying36 _ _ _ W
    go_enter Try.func97, Try.ntmps97
    go_wp2
    go_ret
    exact ⟨_, rfl, ownr_nil _ _ _ _, Below.refl _ _⟩
  | some ad =>
    have hnil : ∀ W, (binOp .eql 36 (.slice (some ad) n c) (.slice none 0 0)).run Try.prog W = .ok (.bool false) W := fun W => eql_slice_nil Try.underlying36 _ _ _ W
    have hrow0 : (w.alloc (.cells #[] 108)).ownsRow w.heap.size 108 3 (.slice (some ⟨w.heap.size, 0, none⟩) 0 0) 0 [] := ⟨rfl, .inr ⟨w.heap.size, 0, #[], rfl, Nat.le_refl _, heap_alloc_new w _, Nat.le_refl _, by decide, rfl, rfl⟩⟩
    have hb0 : Below w.heap.size w (w.alloc (.cells #[] 108)) := (Below.refl _ _).alloc (Nat.le_refl _) _
    have hsrc := h.2.below (hb0.mono hB)
    have HS0 : Hid ((w.alloc (.cells #[] 108)).heap.size = w.heap.size + 1) := Lib.hid (heap_size_allocF _ _)
    go_enter Try.func97, Try.ntmps97
    go_wp2_with (at_builtin; refine wpList_appR rfl _ _ 36 36 rfl 108 108 _ 3 24 Try.underlying36 Try.underlying36 info_lmp rfl (by decide) (by decide) w.heap.size _ 0 [] rfl hrow0 (some ad) n c B (lmpcells zs) rfl hsrc (lmpcells_one zs) hA (by omega) (by have := HS0.out; omega) ?_; intro v1 w1 hown1 hgrow1 hat1; clear hat1)
    have HO := Lib.hid hown1
    have HB := Lib.hid (ownr_push hrow0 (Nat.le_refl _) hb0 (by have := HS0.out; omega) hgrow1)
    clear hown1 hgrow1
    go_ret
    exact ⟨v1, rfl, by simpa using HO.out, HB.out⟩
theorem eql_key (a b c d : Int) (W : World) : (binOp .eql 115 (.agg #[.int .i64 a, .int .i64 b]) (.agg #[.int .i64 c, .int .i64 d])).run Try.prog W = .ok (.bool ((a == c) && (b == d))) W := by
  rw [run_eql_struct, run_equalIn_agg W 9999 115 _ _ (by kernel_rfl) (by kernel_rfl)]
  have hi := fun x y => run_equalIn_int (P := Try.prog) W 9998 3 .i64 .i64 x y Try.underlying3
  simp only [Nat.reduceAdd] at hi
  have hf : (Try.prog.fieldsOf 115).toList.map (fun f => (f.name, f.type, f.offset)) = [("path", 3, 0), ("colour", 3, 1)] := by kernel_rfl
  generalize (Try.prog.fieldsOf 115).toList = l at hf ⊢
  cases l with
  | nil => simp at hf
  | cons f0 l =>
    cases l with
    | nil => simp at hf
    | cons f1 l =>
      cases l with
      | cons f2 l => simp at hf
      | nil =>
        simp only [List.map_cons, List.map_nil, List.cons.injEq, Prod.mk.injEq, and_true] at hf
        obtain ⟨⟨n0, t0, o0⟩, n1, t1, o1⟩ := hf
        simp only [Op.eqFields, n0, t0, o0, n1, t1, o1]
        have q0 : ∀ x y : Int, (part 3 #[.int .i64 x, .int .i64 y] 0).run Try.prog W = .ok (.int .i64 x) W := fun x y => by kernel_rfl
        have q1 : ∀ x y : Int, (part 3 #[.int .i64 x, .int .i64 y] 1).run Try.prog W = .ok (.int .i64 y) W := fun x y => by kernel_rfl
        by_cases h1 : a = c <;> by_cases h2 : b = d <;> simp [q0, q1, hi, h1, h2, Result.andThen]
set_option maxHeartbeats 1000000 in
theorem impl_MendLamp (A : Option Addr) (n c B : Nat) (zs : List Lmp) (a b : Int) (w : World) (h : LmpsAt w B A n zs) (hB : B ≤ w.heap.size) (hA : A = none → n = 0 ∧ c = 0) (hn : n ≤ 4294967296) :
    Calls Try.prog 43 #[.slice A n c, .int .i64 a, .int .i64 b] w fun e w' => ∃ v, e = .returned v ∧ w'.ownsRow w.heap.size 108 3 v n (lmpcells (mendL zs a b)) ∧ Below w.heap.size w w' := by
  have HL := Lib.hid h.1
  have hcl := lib_CloneLmp A n c B zs w h hB hA hn
  clear h
  go_enter Try.func43, Try.ntmps43
  go_wp2_with fail
  refine hcl.mono ?_
  rintro e w1 ⟨v1, rfl, hown1, hb1⟩
  obtain ⟨A', c', rfl⟩ := ownr_sliced hown1
  have HO1 := Lib.hid hown1
  have HB1 := Lib.hid hb1
  clear hcl hown1 hb1
  go_wp2
  go_loopw [13] (fun i wr => ∃ k : Nat, k ≤ n ∧ i = .int .i64 k ∧ wr.ownsRow w.heap.size 108 3 (.slice A' n c') n (lmpcells (mdK a b zs k)) ∧ Below w.heap.size w wr) (fun i _ => n - (intOf i).toNat)
  case atStart => exact ⟨0, Nat.zero_le _, rfl, by rw [mdK_zero]; exact HO1.out, HB1.out⟩
  case round =>
    clear HO1 HB1
    obtain ⟨k, hk, rfl, hown, hbl⟩ := hrel
    have hsz := hbl.size
    by_cases hlt : k < n
    · obtain ⟨p, hp⟩ : ∃ p, zs[k]? = some p := ⟨zs[k]'(by have := HL.out; omega), List.getElem?_eq_getElem (by have := HL.out; omega)⟩
      rcases ownr_shape hown with ⟨e, he⟩ | ⟨g, cap, e, hg, hgs, _⟩
      · omega
      injection e with e1 _ e3
      obtain rfl := e1
      clear e3
      obtain ⟨c0, c1, c2⟩ := lmp_cells_own hown (mdK_get (a := a) (b := b) hp)
      have f0 := World.ownsRow.frozenAt hown
      have hst := (World.ownsRow.stored hown (k * 3 + 2) (.bool false)).1
      rw [lmpcells_set (mdK_get (a := a) (b := b) hp) false] at hst
      have HP := Lib.hid (mdK_step (a := a) (b := b) hp)
      have HOW := Lib.hid hown
      have HST := Lib.hid hst
      have HBL := Lib.hid hbl
      have i1 : (0 : Int) ≤ (k : Int) := by omega
      have i2 : (k : Int) < (n : Int) := by omega
      have HPG := Lib.hid (mdK_get (a := a) (b := b) hp)
      clear hown hbl hst hp
      have hkc := impl_key p wr
      simp only [Lmp.val] at hkc
      by_cases ex : p.path = a
      · by_cases ey : p.colour = b
        · have e1 : (p.path == a) = true := by simpa using ex
          have e2 : (p.colour == b) = true := by simpa using ey
          have HM : Hid (mdK a b zs (k + 1) = (mdK a b zs k).set k ⟨p.path, p.colour, false⟩) := Lib.hid (by rw [HP.out]; unfold mend1; rw [decide_eq_true ex, decide_eq_true ey]; rfl)
          clear HP ex ey
          go_wp2_with fail
          refine hkc.mono ?_
          rintro e w2 ⟨rfl, hb2⟩
          have hown2 := ownr_below HOW.out hb2
          obtain ⟨d0, d1, d2⟩ := lmp_cells_own hown2 HPG.out
          have f1 := World.ownsRow.frozenAt hown2
          have hst2 := (World.ownsRow.stored hown2 (k * 3 + 2) (.bool false)).1
          rw [lmpcells_set HPG.out false] at hst2
          have HST2 := Lib.hid hst2
          have HB2 := Lib.hid ((HBL.out.trans (hb2.mono HBL.out.size)).setCell (p := ⟨g, k * 3 + 2, none⟩) hg (.bool false))
          clear hown2 hst2 hb2 hkc c0 c1 c2 f0
          have hq := eql_key p.path p.colour a b w2
          rw [e1, e2] at hq
          go_wp2
          go_roundw
          case rel => exact ⟨k + 1, by omega, by go_num, by rw [HM.out]; exact HST2.out, HB2.out⟩
          case measure => simp [intOf]; omega
        · have e1 : (p.path == a) = true := by simpa using ex
          have e2 : (p.colour == b) = false := by simpa using ey
          have HM : Hid (mdK a b zs (k + 1) = mdK a b zs k) := Lib.hid (by rw [HP.out]; unfold mend1; rw [decide_eq_false ey, Bool.and_false]; exact mdK_same HPG.out)
          clear HP ex ey
          go_wp2_with fail
          refine hkc.mono ?_
          rintro e w2 ⟨rfl, hb2⟩
          have hown2 := ownr_below HOW.out hb2
          obtain ⟨d0, d1, d2⟩ := lmp_cells_own hown2 HPG.out
          have f1 := World.ownsRow.frozenAt hown2
          have hst2 := (World.ownsRow.stored hown2 (k * 3 + 2) (.bool false)).1
          rw [lmpcells_set HPG.out false] at hst2
          have HST2 := Lib.hid hown2
          have HB2 := Lib.hid (HBL.out.trans (hb2.mono HBL.out.size))
          clear hown2 hst2 hb2 hkc c0 c1 c2 f0
          have hq := eql_key p.path p.colour a b w2
          rw [e1, e2] at hq
          go_wp2
          go_roundw
          case rel => exact ⟨k + 1, by omega, by go_num, by rw [HM.out]; exact HST2.out, HB2.out⟩
          case measure => simp [intOf]; omega
      · have e1 : (p.path == a) = false := by simpa using ex
        have HM : Hid (mdK a b zs (k + 1) = mdK a b zs k) := Lib.hid (by rw [HP.out]; unfold mend1; rw [decide_eq_false ex, Bool.false_and]; exact mdK_same HPG.out)
        clear HP ex
        go_wp2_with fail
        refine hkc.mono ?_
        rintro e w2 ⟨rfl, hb2⟩
        have hown2 := ownr_below HOW.out hb2
        obtain ⟨d0, d1, d2⟩ := lmp_cells_own hown2 HPG.out
        have f1 := World.ownsRow.frozenAt hown2
        have hst2 := (World.ownsRow.stored hown2 (k * 3 + 2) (.bool false)).1
        rw [lmpcells_set HPG.out false] at hst2
        have HST2 := Lib.hid hown2
        have HB2 := Lib.hid (HBL.out.trans (hb2.mono HBL.out.size))
        clear hown2 hst2 hb2 hkc c0 c1 c2 f0
        have hq := eql_key p.path p.colour a b w2
        rw [e1] at hq
        go_wp2
        go_roundw
        case rel => exact ⟨k + 1, by omega, by go_num, by rw [HM.out]; exact HST2.out, HB2.out⟩
        case measure => simp [intOf]; omega
    · obtain rfl : k = n := by omega
      rw [mdK_top (by have := HL.out; omega)] at hown
      have HOW := Lib.hid hown
      clear hown
      go_wp2
      go_ret
      exact ⟨_, rfl, HOW.out, hbl⟩
set_option maxHeartbeats 1000000 in
theorem spec_MendLamp (A : Option Addr) (n c B : Nat) (zs : List Lmp) (a b : Int) (w : World) (h : LmpsAt w B A n zs) (hB : B ≤ w.heap.size) (hA : A = none → n = 0 ∧ c = 0) (hn : n ≤ 4294967296) :
    Calls Try.prog 42 #[.slice A n c, .int .i64 a, .int .i64 b] w fun e w' => ∃ v, e = .returned v ∧ w'.ownsRow w.heap.size 108 3 v n (lmpcells (mendL zs a b)) ∧ Below w.heap.size w w' := by
  have HL := Lib.hid h.1
  have hrow0 : (w.alloc (.cells #[] 108)).ownsRow w.heap.size 108 3 (.slice (some ⟨w.heap.size, 0, none⟩) 0 0) 0 [] := ⟨rfl, .inr ⟨w.heap.size, 0, #[], rfl, Nat.le_refl _, heap_alloc_new w _, Nat.le_refl _, by decide, rfl, rfl⟩⟩
  have hb0 : Below w.heap.size w (w.alloc (.cells #[] 108)) := (Below.refl _ _).alloc (Nat.le_refl _) _
  have hsrc := h.2.below (hb0.mono hB)
  have HS0 : Hid ((w.alloc (.cells #[] 108)).heap.size = w.heap.size + 1) := Lib.hid (heap_size_allocF _ _)
  go_enter Try.func42, Try.ntmps42
  go_wp2_with (at_builtin; refine wpList_appR rfl _ _ 36 36 rfl 108 108 _ 3 24 Try.underlying36 Try.underlying36 info_lmp rfl (by decide) (by decide) w.heap.size _ 0 [] rfl hrow0 A n c B (lmpcells zs) rfl hsrc (lmpcells_one zs) hA (by omega) (by have := HS0.out; omega) ?_; intro v1 w1 hown1 hgrow1 hat1; clear hat1; obtain ⟨A', c', rfl⟩ := ownr_sliced hown1)
  have HO1 := Lib.hid (show w1.ownsRow w.heap.size 108 3 (.slice A' n c') n (lmpcells zs) by simpa using hown1)
  have HB1 := Lib.hid (ownr_push hrow0 (Nat.le_refl _) hb0 (by have := HS0.out; omega) hgrow1)
  clear hown1 hgrow1 hrow0 hb0 hsrc h
  try simp only [Nat.zero_add]
  go_loopw [8] (fun i wr => ∃ k : Nat, k ≤ n ∧ i = .int .i64 k ∧ wr.ownsRow w.heap.size 108 3 (.slice A' n c') n (lmpcells (mdK a b zs k)) ∧ Below w.heap.size w wr) (fun i _ => n - (intOf i).toNat)
  case atStart => exact ⟨0, Nat.zero_le _, rfl, by rw [mdK_zero]; exact HO1.out, HB1.out⟩
  case round =>
    clear HO1 HB1
    obtain ⟨k, hk, rfl, hown, hbl⟩ := hrel
    have hsz := hbl.size
    by_cases hlt : k < n
    · obtain ⟨p, hp⟩ : ∃ p, zs[k]? = some p := ⟨zs[k]'(by have := HL.out; omega), List.getElem?_eq_getElem (by have := HL.out; omega)⟩
      rcases ownr_shape hown with ⟨e, he⟩ | ⟨g, cap, e, hg, hgs, _⟩
      · omega
      injection e with e1 _ e3
      obtain rfl := e1
      clear e3
      obtain ⟨c0, c1, c2⟩ := lmp_cells_own hown (mdK_get (a := a) (b := b) hp)
      have f0 := World.ownsRow.frozenAt hown
      have hst := (World.ownsRow.stored hown (k * 3 + 2) (.bool false)).1
      rw [lmpcells_set (mdK_get (a := a) (b := b) hp) false] at hst
      have HP := Lib.hid (mdK_step (a := a) (b := b) hp)
      have HOW := Lib.hid hown
      have HST := Lib.hid hst
      have HBL := Lib.hid hbl
      have i1 : (0 : Int) ≤ (k : Int) := by omega
      have i2 : (k : Int) < (n : Int) := by omega
      have HPG := Lib.hid (mdK_get (a := a) (b := b) hp)
      clear hown hbl hst hp
      by_cases ex : p.path = a
      · by_cases ey : p.colour = b
        · have e1 : (p.path == a) = true := by simpa using ex
          have e2 : (p.colour == b) = true := by simpa using ey
          have HM : Hid (mdK a b zs (k + 1) = (mdK a b zs k).set k ⟨p.path, p.colour, false⟩) := Lib.hid (by rw [HP.out]; unfold mend1; rw [decide_eq_true ex, decide_eq_true ey]; rfl)
          clear HP ex ey
          have HST2 := HST
          have HB2 := Lib.hid (HBL.out.setCell (p := ⟨g, k * 3 + 2, none⟩) hg (.bool false))
          go_wp2
          go_roundw
          case rel => exact ⟨k + 1, by omega, by go_num, by rw [HM.out]; exact HST2.out, HB2.out⟩
          case measure => simp [intOf]; omega
        · have e1 : (p.path == a) = true := by simpa using ex
          have e2 : (p.colour == b) = false := by simpa using ey
          have HM : Hid (mdK a b zs (k + 1) = mdK a b zs k) := Lib.hid (by rw [HP.out]; unfold mend1; rw [decide_eq_false ey, Bool.and_false]; exact mdK_same HPG.out)
          clear HP ex ey
          have HST2 := HOW
          have HB2 := HBL
          go_wp2
          go_roundw
          case rel => exact ⟨k + 1, by omega, by go_num, by rw [HM.out]; exact HST2.out, HB2.out⟩
          case measure => simp [intOf]; omega
      · have e1 : (p.path == a) = false := by simpa using ex
        have HM : Hid (mdK a b zs (k + 1) = mdK a b zs k) := Lib.hid (by rw [HP.out]; unfold mend1; rw [decide_eq_false ex, Bool.false_and]; exact mdK_same HPG.out)
        clear HP ex
        have HST2 := HOW
        have HB2 := HBL
        go_wp2
        go_roundw
        case rel => exact ⟨k + 1, by omega, by go_num, by rw [HM.out]; exact HST2.out, HB2.out⟩
        case measure => simp [intOf]; omega
    · obtain rfl : k = n := by omega
      rw [mdK_top (by have := HL.out; omega)] at hown
      have HOW := Lib.hid hown
      clear hown
      go_wp2
      go_ret
      exact ⟨_, rfl, HOW.out, hbl⟩
end Go.Proofs.Ytdlcjmdkafebpaa
