/- Texts of one chain, put together: SortF SortC BtwI BtwS BtwB BtwM LawBtw. -/
import Derived.Test.YtblilnfkpfjclaaProg
import Derived.Shelf.Lay
import Derived.Shelf.Sort.Plain
import Derived.Shelf.Slices.In.SortNone
import Derived.Shelf.Slices.CompactI
import Derived.Ground.NamesProg
import Derived.Ground.Names2Prog
import Derived.Sort.OwnSortedInts
import Derived.Lib.SlicesCompact
import Derived.Deep.RegionHeld3
import Derived.Defers
import Derived.Test.YtblilnfkpfjclaaBndlC
set_option linter.unusedSimpArgs false
/- slices.Sort and slices.Compact at []int: the shelf's contracts, laid here. -/
namespace Go.Proofs.Ytblilnfkpfjclaa
open Go.RowKit Go.Shelf Go.Sort
set_option linter.unusedVariables false

shelf_lay Lays.n189 Nm 189 at Try as laysSort
shelf_lay Lays2.n20 Nm2 20 at Try as laysCompact
/-- a row is its block. -/
theorem own_cells {w : World} {lo : Nat} {g n c : Nat} {zs : List Int} (h : Own .i64 3 w lo (.slice (some ⟨g, 0, none⟩) n c) zs) :
    n = zs.length ∧ lo ≤ g ∧ ∃ cur, w.heap[g]? = some (.cells cur 3 (0, 0)) ∧ zs.length ≤ c ∧ c ≤ maxLen ∧ cur.size = c * 1 ∧ cur.toList.take zs.length = zs.map (Value.int .i64) := by
  rcases h.2 with ⟨h', _⟩ | ⟨g', cap', cur, h', hb, hg, hnc, hcm, hcs, htake⟩
  · simp at h'
  · simp only [Value.slice.injEq, Option.some.injEq, Addr.mk.injEq, and_true] at h'
    obtain ⟨rfl, rfl, rfl⟩ := h'
    exact ⟨rfl, hb, cur, hg, hnc, hcm, hcs, by rw [Nat.mul_one] at htake; exact htake⟩
theorem lib_SortF (A : Option Addr) (n c lo : Nat) (zs : List Int) (w : World) (h : Own .i64 3 w lo (.slice A n c) zs) (hn : n ≤ 4294967296) :
    Calls Try.prog 127 #[.slice A n c] w fun e w' => e = .returned (.tuple #[]) ∧ Own .i64 3 w' lo (.slice A n c) (zs.mergeSort fun x y => decide (x ≤ y)) ∧ w.grownBy w' (Value.slice A n c).ownBlock := by
  rcases h.shape with ⟨e, rfl⟩ | ⟨g, cap, e, hlo, hlt, h1, h2⟩
  · injection e with e1 e2 e3
    subst e1; subst e2; subst e3
    refine (Any.slices_Sort_int_none laysSort none 0 w).mono ?_
    rintro e w' ⟨rfl, rfl⟩
    exact ⟨rfl, by simpa using h, World.grownBy.refl _ _⟩
  · injection e with e1 e2 e3
    subst e1; subst e3
    obtain ⟨hl, _, cur, hb, hc1, hc2, hcs, ht⟩ := own_cells h
    subst hl
    refine (Any.slices_Sort_int laysSort g 0 c zs w (holds_of_blockI hb ht) hlt (by omega)).mono ?_
    rintro e w' ⟨rfl, q, os, rfl⟩
    refine ⟨rfl, ?_, grownBy_sortedI _⟩
    have hlen : (zs.mergeSort fun x y => decide (x ≤ y)).length = zs.length := List.length_mergeSort _
    have := ownsRow_sortedI (w := w) (base := lo) (n := q) (os := os) hlen hlo hb hc1 hc2 hcs
    unfold Own
    rw [hlen]
    exact this
theorem own_short {w : World} {lo g n c : Nat} {xs ys : List Int} (h : Own .i64 3 w lo (.slice (some ⟨g, 0, none⟩) n c) (xs ++ ys)) : Own .i64 3 w lo (.slice (some ⟨g, 0, none⟩) xs.length c) xs := by
  obtain ⟨hl, hlo, cur, hb, hc1, hc2, hcs, ht⟩ := own_cells h
  have e1 : List.take xs.length (List.take (xs ++ ys).length cur.toList) = List.take xs.length cur.toList := by rw [List.take_take, List.length_append, Nat.min_eq_left (by omega)]
  have e2 : List.take xs.length ((xs ++ ys).map (Value.int .i64)) = xs.map (Value.int .i64) := by
    rw [List.map_append]
    exact List.take_left' (by simp)
  have e := e1.symm.trans ((congrArg (List.take xs.length) ht).trans e2)
  rw [List.length_append] at hc1
  exact ⟨by simp, .inr ⟨g, c, cur, rfl, hlo, hb, by omega, hc2, hcs, by rw [Nat.mul_one]; exact e⟩⟩
theorem compact_len (zs : List Int) : (Lib.compact zs).length ≤ zs.length := by
  unfold Lib.compact Lib.compactUpTo
  rw [List.length_map]
  exact Nat.le_trans (List.length_filter_le _ _) (by simp)
theorem lib_CompactF (A : Option Addr) (n c lo : Nat) (zs : List Int) (w : World) (h : Own .i64 3 w lo (.slice A n c) zs) (hn : n ≤ 4294967296) :
    Calls Try.prog 128 #[.slice A n c] w fun e w' => e = .returned (.slice A (Lib.compact zs).length c) ∧ Own .i64 3 w' lo (.slice A (Lib.compact zs).length c) (Lib.compact zs) ∧ w.grownBy w' (Value.slice A n c).ownBlock := by
  rcases h.shape with ⟨e, rfl⟩ | ⟨g, cap, e, hlo, hlt, h1, h2⟩
  · injection e with e1 e2 e3
    subst e1; subst e2; subst e3
    refine (Any.slices_Compact_int_empty laysCompact none 0 w).mono ?_
    rintro e w' ⟨rfl, rfl⟩
    exact ⟨rfl, h, World.grownBy.refl _ _⟩
  · injection e with e1 e2 e3
    subst e1; subst e3
    obtain ⟨hl, _, cur, hb, hc1, hc2, hcs, ht⟩ := own_cells h
    subst hl
    refine (Any.slices_Compact_int laysCompact g 0 c zs w (holds_of_blockI hb ht) (by omega) hc1).mono ?_
    rintro e w' ⟨rfl, q, rfl⟩
    have hcl := compact_len zs
    have hlen : (Lib.compact zs ++ List.replicate (zs.length - (Lib.compact zs).length) (0 : Int)).length = zs.length := by rw [List.length_append, List.length_replicate]; omega
    have h3 := ownsRow_sortedI (w := w) (base := lo) (n := q) (os := #[]) hlen hlo hb hc1 hc2 hcs
    rw [grow_empty] at h3
    have h4 : w.grownBy (putRow (Value.int .i64) (Sort.ahead w q) g 0 (Lib.compact zs ++ List.replicate (zs.length - (Lib.compact zs).length) (0 : Int)).toArray) (some g) := by
      have := grownBy_sortedI (w := w) (g := g) (n := q) (os := #[]) (Lib.compact zs ++ List.replicate (zs.length - (Lib.compact zs).length) (0 : Int)).toArray
      rwa [grow_empty] at this
    refine ⟨rfl, own_short (n := zs.length) (ys := List.replicate (zs.length - (Lib.compact zs).length) (0 : Int)) ?_, h4⟩
    unfold Own
    rw [hlen]
    exact h3
end Go.Proofs.Ytblilnfkpfjclaa

/- What slices.Sort and slices.Compact make of a list, and what putting one by one makes of it. No program. -/
namespace Go.Proofs.Ytblilnfkpfjclaa
set_option linter.unusedVariables false

/-- two strictly ascending lists with the same members are one. -/
theorem asc_same : ∀ {a b : List Int}, a.Pairwise (· < ·) → b.Pairwise (· < ·) → (∀ x, x ∈ a ↔ x ∈ b) → a = b
  | [], [], _, _, _ => rfl
  | [], y :: b, _, _, h => by have := (h y).2 List.mem_cons_self; cases this
  | x :: a, [], _, _, h => by have := (h x).1 List.mem_cons_self; cases this
  | x :: a, y :: b, ha, hb, h => by
    rw [List.pairwise_cons] at ha hb
    have hxy : x = y := by
      rcases List.mem_cons.1 ((h x).1 List.mem_cons_self) with e | e
      · exact e
      · rcases List.mem_cons.1 ((h y).2 List.mem_cons_self) with e2 | e2
        · exact e2.symm
        · have h1 := hb.1 x e
          have h2 := ha.1 y e2
          omega
    subst hxy
    rw [asc_same ha.2 hb.2 fun z => ?_]
    constructor
    · intro hz
      rcases List.mem_cons.1 ((h z).1 (List.mem_cons_of_mem _ hz)) with e | e
      · have := ha.1 z hz; omega
      · exact e
    · intro hz
      rcases List.mem_cons.1 ((h z).2 (List.mem_cons_of_mem _ hz)) with e | e
      · have := hb.1 z hz; omega
      · exact e
theorem cmp_up (d : Array Int) (hs : ∀ j, j + 1 < d.size → d[j]! ≤ d[j + 1]!) : ∀ m, m ≤ d.size →
    (Lib.compactUpTo d m).Pairwise (· < ·) ∧ (∀ x, x ∈ Lib.compactUpTo d m ↔ ∃ j, j < m ∧ d[j]! = x) ∧ (∀ x ∈ Lib.compactUpTo d m, x ≤ d[m - 1]!)
  | 0, _ => by
    refine ⟨by simp [Lib.compactUpTo], fun x => ⟨fun h => by simp [Lib.compactUpTo] at h, fun ⟨j, hj, _⟩ => absurd hj (by omega)⟩, fun x h => by simp [Lib.compactUpTo] at h⟩
  | m + 1, hm => by
    obtain ⟨h1, h2, h3⟩ := cmp_up d hs m (by omega)
    rw [Lib.compactUpTo_succ]
    have hle : 0 < m → d[m - 1]! ≤ d[m]! := fun h0 => by
      have := hs (m - 1) (by omega)
      rwa [Nat.sub_add_cancel h0] at this
    cases hk : Lib.keeps d m
    · have hm0 : 0 < m := by
        rcases Nat.eq_zero_or_pos m with e | e
        · subst e
          rw [Lib.keeps_lt_one d 0 (by decide)] at hk
          cases hk
        · exact e
      have he : d[m]! = d[m - 1]! := by
        by_cases e : d[m]! = d[m - 1]!
        · exact e
        · rw [Lib.keeps_pos e] at hk
          cases hk
      simp only [Bool.false_eq_true, if_false, List.append_nil]
      refine ⟨h1, fun x => (h2 x).trans ⟨fun ⟨j, hj, e⟩ => ⟨j, by omega, e⟩, fun ⟨j, hj, e⟩ => ?_⟩, fun x hx => by rw [Nat.add_sub_cancel, he]; exact h3 x hx⟩
      by_cases hjm : j < m
      · exact ⟨j, hjm, e⟩
      · obtain rfl : j = m := by omega
        exact ⟨j - 1, by omega, he.symm.trans e⟩
    · simp only [if_true]
      have hlt : ∀ x ∈ Lib.compactUpTo d m, x < d[m]! := fun x hx => by
        obtain ⟨j, hj, _⟩ := (h2 x).1 hx
        have hx2 := h3 x hx
        have hl := hle (by omega)
        rcases Int.lt_or_eq_of_le (Int.le_trans hx2 hl) with e | e
        · exact e
        · exfalso
          have : d[m]! = d[m - 1]! := by omega
          rw [Lib.keeps_neg (by omega) this] at hk
          cases hk
      refine ⟨?_, fun x => ?_, fun x hx => ?_⟩
      · rw [List.pairwise_append]
        exact ⟨h1, List.pairwise_singleton _ _, fun a ha b hb => by rw [List.mem_singleton.1 hb]; exact hlt a ha⟩
      · rw [List.mem_append, h2 x, List.mem_singleton]
        constructor
        · rintro (⟨j, hj, e⟩ | e)
          · exact ⟨j, by omega, e⟩
          · exact ⟨m, by omega, e.symm⟩
        · rintro ⟨j, hj, e⟩
          by_cases hjm : j < m
          · exact .inl ⟨j, hjm, e⟩
          · obtain rfl : j = m := by omega
            exact .inr e.symm
      · rw [Nat.add_sub_cancel]
        rcases List.mem_append.1 hx with h | h
        · exact Int.le_of_lt (hlt x h)
        · rw [List.mem_singleton.1 h]
          exact Int.le_refl _
/-- sorted, then compacted: strictly ascending, with the same members. -/
theorem cmp_sort (zs : List Int) : (Lib.compact (zs.mergeSort fun x y => decide (x ≤ y))).Pairwise (· < ·) ∧ ∀ x, x ∈ Lib.compact (zs.mergeSort fun x y => decide (x ≤ y)) ↔ x ∈ zs := by
  have hp : (zs.mergeSort fun x y => decide (x ≤ y)).Pairwise (fun a b => decide (a ≤ b) = true) := List.pairwise_mergeSort (le := fun x y : Int => decide (x ≤ y)) (fun a b c h1 h2 => by simp only [decide_eq_true_eq] at *; omega) (fun a b => by simp only [Bool.or_eq_true, decide_eq_true_eq]; omega) zs
  have hm : ∀ x, x ∈ (zs.mergeSort fun x y => decide (x ≤ y)) ↔ x ∈ zs := fun x => List.mem_mergeSort
  generalize (zs.mergeSort fun x y => decide (x ≤ y)) = ys at *
  have h := cmp_up ys.toArray (fun j hj => by
    have hj' : j + 1 < ys.length := by simpa using hj
    have := List.pairwise_iff_getElem.1 hp j (j + 1) (by omega) hj' (by omega)
    simp only [decide_eq_true_eq] at this
    simpa [hj', Nat.lt_of_succ_lt hj'] using this) ys.length (by simp)
  refine ⟨h.1, fun x => ?_⟩
  unfold Lib.compact
  rw [h.2.1 x, ← hm x]
  constructor
  · rintro ⟨j, hj, e⟩
    rw [← e]
    simp [hj]
  · intro hx
    obtain ⟨j, hj, e⟩ := List.getElem_of_mem hx
    exact ⟨j, hj, by rw [← e]; simp [hj]⟩
end Go.Proofs.Ytblilnfkpfjclaa

/- Chapter 28: lightsIn of the program: what is deferred. -/
namespace Go.Proofs.Ytblilnfkpfjclaa
open Go.RowKit
set_option linter.unusedVariables false

/-- sorted, each once. -/
def onceL (zs : List Int) : List Int := Lib.compact (zs.mergeSort fun x y => decide (x ≤ y))
set_option maxHeartbeats 1000000 in
theorem impl_lightsIn1 (g lo B : Nat) (v : Value) (zs : List Int) (u : FrameMode) (w : World) (hb : w.heap[g]? = some (.cells #[v] 42)) (ho : Own .i64 3 w lo v zs) (hg : g < lo) (hB : B ≤ g) (hn : zs.length ≤ 4294967296) :
    CallsD Try.prog 126 #[.pointer (some ⟨g, 0, none⟩)] u w fun e u' w' => u' = u ∧ e = .returned (.tuple #[]) ∧ (∃ v', w'.heap[g]? = some (.cells #[v'] 42) ∧ Own .i64 3 w' lo v' (onceL zs)) ∧ Below B w w' := by
  obtain ⟨A, c, rfl⟩ := ho.sliced
  have hcc := lib_SortF A _ c lo zs w ho hn
  have hlt := lt_of_block hb
  have x0 := cell1w hb
  have HB := Lib.hid hb
  have HNE : Hid (∀ r : Nat, (Value.slice A zs.length c).ownBlock = some r → lo ≤ r) := Lib.hid fun r hr => (ho.block r hr).1
  clear hb ho
  go_enter_d Try.func126, Try.ntmps126
  go_wp2_with fail
  refine hcc.mono ?_
  rintro e w1 ⟨rfl, ho1, hg1⟩
  have hk1 : w1.heap[g]? = w.heap[g]? := hg1.block g hlt (fun e => by have := HNE.out _ e.symm; omega)
  have hk := hk1.trans HB.out
  have hb1 : Below B w w1 := ⟨hg1.os, hg1.tape, hg1.output, hg1.size, fun i hi => hg1.block i (by omega) (fun e => by have := HNE.out _ e.symm; omega)⟩
  have hls : (zs.mergeSort fun x y => decide (x ≤ y)).length = zs.length := List.length_mergeSort _
  have HON : Hid (onceL zs = Lib.compact (zs.mergeSort fun x y => decide (x ≤ y))) := Lib.hid rfl
  generalize (zs.mergeSort fun x y => decide (x ≤ y)) = ys at *
  have hcc2 := lib_CompactF A _ c lo ys w1 ho1 (by omega)
  have hlt1 := lt_of_block hk
  have HB1 := Lib.hid hb1
  have HK := Lib.hid hk
  clear x0 hcc ho1 hg1 hk1 hb1
  have x0 := cell1w hk
  clear hk
  go_wp2_with fail
  refine hcc2.mono ?_
  rintro e w2 ⟨rfl, ho2, hg2⟩
  have hk2 : w2.heap[g]? = w1.heap[g]? := hg2.block g hlt1 (fun e => by have := HNE.out _ e.symm; omega)
  have hk := hk2.trans HK.out
  have hb2 : Below B w w2 := HB1.out.trans ⟨hg2.os, hg2.tape, hg2.output, hg2.size, fun i hi => hg2.block i (by have := HB1.out.size; omega) (fun e => by have := HNE.out _ e.symm; omega)⟩
  have HO2 := Lib.hid ho2
  have HK2 := Lib.hid hk
  have HB2 := Lib.hid hb2
  have hf := frozen_of_row w2 g 0 _ _ hk
  clear x0 hcc2 hg2 hk2 hb2 ho2
  have x0 := cell1w hk
  have hlt2 := lt_of_block hk
  clear hk
  go_wp2
  have hs := heap_setCell_same w2 g 0 _ _ (.slice A (Lib.compact ys).length c) HK2.out
  have hos := HO2.out.grown (only_setCell (World.grownBy.refl w2 (some g)) 0 (.slice A (Lib.compact ys).length c)) (fun r hr e => by
    have h1 := (HO2.out.block r hr).1
    have h2 : g = r := Option.some.inj e
    omega)
  go_end0
  exact ⟨rfl, ⟨_, hs, by rw [HON.out]; exact hos⟩, HB2.out.setCell (p := ⟨g, 0, none⟩) hB _⟩
/-- step_app that says which block the row is in (as XCpy's step_appB). -/
theorem step_appBt {P : Program} {w : World} {ops : Array Oper} {o : Oper} {a : Act} {K : Act → World → Prop} {Q : Exit → Act → World → Prop} {F : Prop} (hgd : o.guard = none) (s x : Operand) (t : TypeId)
    (ho : o.op = .call { callee := .builtin .append, args := #[s, x], argTypes := #[t, t] })
    (k : IntKind) (E : TypeId) (bytes : Nat) (ht : P.underlying t = some (.slice E)) (hi : (P.info? E).map (fun i => (i.zero, i.size, i.bytes)) = some (some (.int k 0), 1, bytes))
    (lo : Nat) (v : Value) (xs : List Int) (hs : a.eval s = v) (hown : Own k E w lo v xs)
    (A : Option Addr) (m c B : Nat) (zs : List Int) (hx : a.eval x = .slice A m c) (hsrc : IntsAt k w B A m zs) (hnil : A = none → m = 0 ∧ c = 0) (hb : bytes ≤ 8)
    (hbytes : xs.length + m ≤ 4398046511104) (hlo : lo ≤ w.heap.size)
    (h : ∀ v' w', Own k E w' lo v' (xs ++ zs) → w.grownBy w' v.ownBlock → (v'.ownBlock = v.ownBlock ∨ v'.ownBlock = some w.heap.size) → K (a.put o.dst v') w') :
    if Region.wanted o (yielded ops a.tmps) = true then Oper.wp P o a w K Q else F := by
  rw [if_pos (by simp [Region.wanted, hgd])]
  obtain ⟨i, hi1, hz, hsz, hby⟩ := info_parts hi
  have hzs := hsrc.1
  obtain ⟨Av, cv, hv⟩ := hown.sliced
  cases A with
  | none =>
    obtain ⟨rfl, rfl⟩ := hnil rfl
    have hz0 : zs = [] := List.eq_nil_of_length_eq_zero hzs
    subst hz0
    have hrun := run_append_owned_none (P := P) (w := w) lo t o.type E i 1 ht hi1 v xs.length _ hown
    have hrun2 := (run_append_types ht ht o.type Av xs.length cv (.slice none 0 0) w).trans (hv ▸ hrun)
    unfold Oper.wp
    simp [execOp, ho, resolve, invoke, builtin, hs, hx, hv, hrun2, Result.andThen]
    exact hv ▸ h v w (by rw [List.append_nil]; exact hown) (World.grownBy.refl _ _) (Or.inl rfl)
  | some ad =>
    obtain ⟨v', w', hr, h2, h3, h4, h5⟩ := run_append_own_at (P := P) w lo t o.type E i (.int k 0) 1 bytes ht hi1 hz hsz hby rfl (by omega) v xs.length _ hown ad m c (zs.map (Value.int k)) (by simp [hzs]) (ints_news hsrc) (ints_one k zs)
      (by unfold maxLen; omega) (by have : (xs.length + m) * bytes ≤ (xs.length + m) * 8 := Nat.mul_le_mul_left _ hb; omega) hlo
    have hrun2 := (run_append_types ht ht o.type Av xs.length cv (.slice (some ad) m c) w).trans (hv ▸ hr)
    unfold Oper.wp execOp
    simp only [ho, resolve, invoke, builtin, Sem.run_bind, Sem.run_pure, Result.andThen_ok, List.map_toArray, List.map_cons, List.map_nil, hs, hx, hv, hrun2]
    refine h v' w' ?_ h3 h5
    unfold Own
    rw [List.length_append, List.map_append, hzs]
    exact h2
/-- the lights of k entries. -/
def litR (zs : List Ent) (i a : Int) (k : Nat) : List Int := (List.range k).map fun (j : Nat) => litE zs i (a + (j : Int))
theorem litR_succ (zs : List Ent) (i a : Int) (k : Nat) : litR zs i a (k + 1) = litR zs i a k ++ [litE zs i (a + (k : Int))] := by simp [litR, List.range_succ]
theorem litR_len (zs : List Ent) (i a : Int) (k : Nat) : (litR zs i a k).length = k := by simp [litR]
/-- where nothing panics. -/
def noPanic (Q : Exit → Act → World → Prop) : Exit → Act → World → Prop
  | .panic _, _, _ => False
  | e, a, w => Q e a w
theorem noPanic_normal {Q : Exit → Act → World → Prop} {a : Act} {w : World} (h : Q .normal a w) : noPanic Q .normal a w := h
theorem wp_nopanic {P : Program} {c : Code} {Q : Exit → Act → World → Prop} {a : Act} {w : World} (h : c.wp P (noPanic Q) a w) : c.wp P Q a w :=
  Code.wp_mono (fun e a w h => by cases e <;> first | exact h | exact h.elim) h
/-- what the loop keeps. -/
structure BtSt (w wr : World) (g : Nat) (A : Option Addr) (n c : Nat) (i : Int) (v : Value) (ys : List Int) : Prop where
  box : wr.heap[w.heap.size + 1]? = some (.cells #[v] 42)
  own : Own .i64 3 wr (w.heap.size + 2) v ys
  far : ∀ r, v.ownBlock = some r → r ≠ g ∧ r ≠ g + 1
  lit : LitAt wr g A n c i
  bel : Below w.heap.size w wr
theorem bt_next {w wr w2 w4 : World} {g : Nat} {A : Option Addr} {n c : Nat} {i : Int} {Av : Option Addr} {cv : Nat} {ys : List Int} {z : Int} {A4 : Option Addr} {c4 : Nat} (h : BtSt w wr g A n c i (.slice Av ys.length cv) ys) (hb2 : Below wr.heap.size wr w2)
    (ho4 : Own .i64 3 w4 (w.heap.size + 2) (.slice A4 (ys ++ [z]).length c4) (ys ++ [z])) (hg4 : (w2.alloc (.cells #[.int .i64 z] 3)).grownBy w4 (Value.slice Av ys.length cv).ownBlock)
    (hv4 : (Value.slice A4 (ys ++ [z]).length c4).ownBlock = (Value.slice Av ys.length cv).ownBlock ∨ (Value.slice A4 (ys ++ [z]).length c4).ownBlock = some (w2.alloc (.cells #[.int .i64 z] 3)).heap.size) :
    BtSt w (w4.setCell ⟨w.heap.size + 1, 0, none⟩ (.slice A4 (ys.length + 1) c4)) g A n c i (.slice A4 (ys.length + 1) c4) (ys ++ [z]) := by
  have e1 : (ys ++ [z]).length = ys.length + 1 := by simp
  rw [e1] at ho4 hv4
  have hb3 : Below w2.heap.size w2 (w2.alloc (.cells #[.int .i64 z] 3)) := (Below.refl _ _).alloc (Nat.le_refl _) _
  have hb := hb2.trans (hb3.mono hb2.size)
  have ho3 := h.own.below hb
  have hx3 := (hb.block _ (lt_of_block h.box)).trans h.box
  have k0 := (hb.block _ (lt_of_block h.lit.k0)).trans h.lit.k0
  have k1 := (hb.block _ (lt_of_block h.lit.k1)).trans h.lit.k1
  have hB := h.bel.trans (hb.mono h.bel.size)
  generalize w2.alloc (.cells #[.int .i64 z] 3) = w3 at *
  have hx4 := (hg4.block _ (lt_of_block hx3) (fun e => by have := (ho3.block _ e.symm).1; omega)).trans hx3
  have q0 := (hg4.block _ (lt_of_block k0) (fun e => (h.far _ e.symm).1 rfl)).trans k0
  have q1 := (hg4.block _ (lt_of_block k1) (fun e => (h.far _ e.symm).2 rfl)).trans k1
  have hlg := lt_of_block k1
  have hB4 : Below w.heap.size w w4 := hB.trans ⟨hg4.os, hg4.tape, hg4.output, hg4.size, fun j hj => hg4.block j (by have := hB.size; omega) (fun e => by have := (ho3.block _ e.symm).1; omega)⟩
  have hgb : g ≠ w.heap.size + 1 := fun e => by
    have := h.box
    rw [← e, h.lit.k0] at this
    injection this with this
    injection this with _ ht
    exact absurd ht (by decide)
  have hgb1 : g + 1 ≠ w.heap.size + 1 := fun e => by
    have := h.box
    rw [← e, h.lit.k1] at this
    injection this with this
    injection this with _ ht
    exact absurd ht (by decide)
  refine ⟨heap_setCell_same w4 (w.heap.size + 1) 0 _ _ _ hx4, ho4.grown (only_setCell (World.grownBy.refl w4 (some (w.heap.size + 1))) 0 _) (fun r hr e => by
    have h1 := (ho4.block r hr).1
    have h2 : w.heap.size + 1 = r := Option.some.inj e
    omega), fun r hr => ?_, ⟨?_, ?_⟩, hB4.setCell (p := ⟨w.heap.size + 1, 0, none⟩) (by simp) _⟩
  · rcases hv4 with e | e
    · exact h.far r (e ▸ hr)
    · rw [e] at hr
      have e2 : w3.heap.size = r := Option.some.inj hr
      omega
  · rw [heap_setCell_other w4 ⟨w.heap.size + 1, 0, none⟩ g _ (fun e => hgb e)]
    exact q0
  · rw [heap_setCell_other w4 ⟨w.heap.size + 1, 0, none⟩ (g + 1) _ (fun e => hgb1 e)]
    exact q1
set_option maxHeartbeats 4000000 in
set_option maxRecDepth 100000 in
theorem impl_lightsIn (A : Option Addr) (n c B : Nat) (zs : List Ent) (i a b : Int) (w : World) (I : WitIn w A n c B zs) (ha : 0 ≤ a ∧ a ≤ 1000) (hb : -1 ≤ b ∧ b < (n : Int)) :
    Calls Try.prog 76 #[.agg #[.slice A n c], .int .i64 i, .int .i64 a, .int .i64 b] w fun e w' => ∃ v, e = .returned v ∧ Own .i64 3 w' w.heap.size v (onceL (litR zs i a (b + 1 - a).toNat)) ∧ Below w.heap.size w w' := by
  have h60 := I.n60
  obtain ⟨wA, hwA⟩ : ∃ wA, wA = ((w.alloc (.cells #[.slice A n c] 96)).alloc (.cells #[.slice (some ⟨w.heap.size + 1 + 1, 0, none⟩) 0 0] 42)).alloc (.cells #[] 3) := ⟨_, rfl⟩
  obtain ⟨hk0, hk1, hk2, hsz, hBA⟩ := three_blocks hwA
  have hcc := impl_lightIn A n c i wA
  have hmx : Try.prog.follows .mixedOrders = true := by kernel_rfl
  have HI := Lib.hid I
  have h0 : Hid (wA.heap[w.heap.size + 1]? = some (.cells #[.slice (some ⟨w.heap.size + 2, 0, none⟩) 0 0] 42) ∧ Own .i64 3 wA (w.heap.size + 2) (.slice (some ⟨w.heap.size + 2, 0, none⟩) 0 0) []) := Lib.hid ⟨hk1, rfl, .inr ⟨w.heap.size + 2, 0, #[], rfl, Nat.le_refl _, hk2, Nat.le_refl _, by decide, rfl, rfl⟩⟩
  have HBA := Lib.hid hBA
  have HSZ := Lib.hid hsz
  clear hk0 hk1 hk2 hsz hBA I
  go_enter_defers Try.func76, Try.ntmps76
  go_wp2_with fail
  rw [← hwA]
  clear hwA
  refine hcc.mono ?_
  rintro e w1 ⟨rfl, L, hb1⟩
  have hg : w.heap.size + 3 ≤ wA.heap.size := by have := HSZ.out; omega
  have hSt : BtSt w w1 wA.heap.size A n c i (.slice (some ⟨w.heap.size + 2, 0, none⟩) 0 0) [] := ⟨(hb1.block _ (by omega)).trans h0.out.1, h0.out.2.below hb1, fun r hr => by
    have e : w.heap.size + 2 = r := Option.some.inj hr
    omega, L, HBA.out.trans (hb1.mono HBA.out.size)⟩
  generalize wA.heap.size = g at *
  have HS0 := Lib.hid hSt
  clear hcc L hb1 hSt h0 HSZ HBA
  unfold litF
  go_wp2
  go_loopw [10] (fun e wr => ∃ (k : Nat) (v : Value), e = .int .i64 (a + (k : Int)) ∧ (k = 0 ∨ a + (k : Int) ≤ b + 1) ∧ BtSt w wr g A n c i v (litR zs i a k)) (fun e _ => (b + 1 - intOf e).toNat)
  case atStart => exact ⟨0, _, by simp, .inl rfl, HS0.out⟩
  case round =>
    obtain ⟨k, v, rfl, hk, hst⟩ := hrel
    obtain ⟨Av, cv, rfl⟩ := hst.own.sliced
    have HST := Lib.hid hst
    clear HS0 hst
    obtain ⟨ee, hee⟩ : ∃ ee : Int, ee = a + (k : Int) := ⟨_, rfl⟩
    rw [← hee]
    have HEE := Lib.hid hee
    by_cases hlt : ee ≤ b
    · have i1 : 0 ≤ ee := by omega
      have i2 : ee ≤ 100 := by omega
      have hk100 : k ≤ 100 := by omega
      have HKL := Lib.hid (litR_len zs i a k)
      have hR := HST.out
      have HCL := Lib.hid (fun y (hy : Below wr.heap.size wr y) => impl_lightIn1 g A n c B zs i ee y (HI.out.below (hR.bel.trans (hy.mono hR.bel.size))) (hR.lit.below hy) (by omega))
      have x0 := cell1w hR.box
      have hlb := lt_of_block hR.box
      have hdd : Below wr.heap.size wr wr.drew := ⟨rfl, rfl, rfl, Nat.le_refl _, fun _ _ => rfl⟩
      clear hee hk hR
      go_wp2
      refine wp_nopanic ?_
      go_region_law (first
        | (go_simp; refine (HCL.out _ hdd).mono ?_; rintro e w2 ⟨rfl, hb2'⟩; have hb2 := below_undrew hb2'; have hx2 := (hb2.block _ hlb).trans HST.out.box; have l2 := lt_of_block hx2; have x2 := cell1w hx2; have ho2 := HST.out.own.below hb2; clear x0 hb2'; go_wp2_with fail)
        | (refine step_appBt rfl _ _ 42 rfl .i64 3 8 Try.underlying42 info_i64 (w.heap.size + 2) _ (litR zs i a k) rfl (ho2.below ((Below.refl _ _).alloc (Nat.le_refl _) _)) (some ⟨w2.heap.size, 0, none⟩) 1 1 (w2.heap.size + 1) [litE zs i ee] rfl ⟨rfl, fun _ => ⟨_, rfl, by simp, fun j hj => by
            obtain rfl : j = 0 := by omega
            rw [add_head]
            exact cell1w (heap_alloc_new w2 _)⟩⟩ (by simp) (by decide) (by have := HKL.out; omega) (by simp; omega) ?_
           intro v4 w4 ho4 hg4 hv4
           obtain ⟨A4, c4, rfl⟩ := ho4.sliced
           have hx4 := (hg4.block (w.heap.size + 1) (by simp; omega) (fun e => by have := (ho2.block _ e.symm).1; omega)).trans (heap_old _ _ hx2)
           have x4 := cell1w hx4
           have f4 := frozen_of_row w4 (w.heap.size + 1) 0 _ _ hx4
           have l4 := lt_of_block hx4
           clear x2))
      · have HN := Lib.hid (bt_next HST.out hb2 ho4 hg4 hv4)
        generalize w4.setCell ⟨w.heap.size + 1, 0, none⟩ (.slice A4 ((litR zs i a k).length + 1) c4) = wN at *
        clear hx2 l2 ho2 ho4 hg4 hv4 hx4 x4 f4 l4 hb2
        refine noPanic_normal ?_
        go_wp2
        go_roundw
        case rel => exact ⟨k + 1, _, by have := HEE.out; go_num, .inr (by have := HEE.out; omega), by rw [litR_succ, ← HEE.out]; exact HN.out⟩
        case measure => simp [intOf]; omega
      · have HN := Lib.hid (bt_next HST.out hb2 ho4 hg4 hv4)
        generalize w4.setCell ⟨w.heap.size + 1, 0, none⟩ (.slice A4 ((litR zs i a k).length + 1) c4) = wN at *
        clear hx2 l2 ho2 ho4 hg4 hv4 hx4 x4 f4 l4 hb2
        refine noPanic_normal ?_
        go_wp2
        go_roundw
        case rel => exact ⟨k + 1, _, by have := HEE.out; go_num, .inr (by have := HEE.out; omega), by rw [litR_succ, ← HEE.out]; exact HN.out⟩
        case measure => simp [intOf]; omega
      · have HN := Lib.hid (bt_next HST.out hb2 ho4 hg4 hv4)
        generalize w4.setCell ⟨w.heap.size + 1, 0, none⟩ (.slice A4 ((litR zs i a k).length + 1) c4) = wN at *
        clear hx2 l2 ho2 ho4 hg4 hv4 hx4 x4 f4 l4 hb2
        refine noPanic_normal ?_
        go_wp2
        go_roundw
        case rel => exact ⟨k + 1, _, by have := HEE.out; go_num, .inr (by have := HEE.out; omega), by rw [litR_succ, ← HEE.out]; exact HN.out⟩
        case measure => simp [intOf]; omega
    · clear hee
      have hx := cell1w HST.out.box
      have fx := frozen_of_row wr (w.heap.size + 1) 0 _ _ HST.out.box
      go_wp2
      have hkk : (b + 1 - a).toNat = k := by have := HEE.out; omega
      rw [hkk]
      have hkb : k ≤ 100 := by have := HEE.out; omega
      have hk1 := heap_setCell_same wr (w.heap.size + 1) 0 _ _ (.slice Av (litR zs i a k).length cv) HST.out.box
      have ho1 := HST.out.own.grown (only_setCell (World.grownBy.refl wr (some (w.heap.size + 1))) 0 (.slice Av (litR zs i a k).length cv)) (fun r hr e => by
        have h1 := (HST.out.own.block r hr).1
        have h2 : w.heap.size + 1 = r := Option.some.inj e
        omega)
      have hB1 := HST.out.bel.setCell (p := ⟨w.heap.size + 1, 0, none⟩) (by simp) (.slice Av (litR zs i a k).length cv)
      refine leaves_cons (f := 126) (args := #[.pointer (some ⟨w.heap.size + 1, 0, none⟩)]) (by simp) (by simp [go_sem]) ?_
      refine (impl_lightsIn1 (w.heap.size + 1) (w.heap.size + 2) w.heap.size _ (litR zs i a k) .returning _ hk1 ho1 (by omega) (by omega) (by rw [litR_len]; omega)).mono ?_
      rintro e u' w'' ⟨rfl, rfl, ⟨v', hb', ho'⟩, hB'⟩
      have y0 := cell1w hb'
      obtain ⟨Ae, ce, rfl⟩ := ho'.sliced
      exact ⟨_, by rw [results_cell rfl]; go_simp; try rfl, _, rfl, ho'.mono (by omega), hB1.trans hB'⟩
end Go.Proofs.Ytblilnfkpfjclaa

/- Chapter 28: ShownBetween of the program. -/
namespace Go.Proofs.Ytblilnfkpfjclaa
open Go.RowKit
set_option linter.unusedVariables false

/-- the lights between two seconds, of a record. -/
def btwR (rs : List Ent) (i fr un : Int) (n : Nat) : List Int := onceL (litR rs i (maxI 0 (atK rs fr n)) (atK rs un n + 1 - maxI 0 (atK rs fr n)).toNat)
def btwL (zs : List Ent) (i fr un : Int) : List Int := if un < fr ∨ hasL (recZ zs) i = false then [] else btwR (recZ zs) i fr un (recZ zs).length
set_option maxHeartbeats 4000000 in
set_option maxRecDepth 100000 in
theorem impl_ShownBetween (A : Option Addr) (n c B : Nat) (zs : List Ent) (i fr un : Int) (w : World) (h : EntsAt w B A n zs) (hB : B ≤ w.heap.size) (hn : n ≤ 4294967296) (hm : ∀ j, j < n → (entA zs j).lights.length ≤ 1048576) :
    Calls Try.prog 27 #[.slice A n c, .int .i64 i, .int .i64 fr, .int .i64 un] w fun e w' => ∃ v, e = .returned v ∧ Own .i64 3 w' w.heap.size v (btwL zs i fr un) ∧ Below w.heap.size w w' := by
  have hcc := impl_witnessOf A n c B zs w h hB hn hm
  have HV : Hid (btwL zs i fr un = if un < fr ∨ hasL (recZ zs) i = false then [] else btwR (recZ zs) i fr un (recZ zs).length) := Lib.hid rfl
  generalize recZ zs = rs at *
  generalize btwL zs i fr un = q at *
  clear h hm
  go_enter Try.func27, Try.ntmps27
  go_wp2_with fail
  refine hcc.mono ?_
  rintro r w1 ⟨A', n', c', rfl, I, hb1⟩
  obtain ⟨w2, hw2⟩ : ∃ w2, w2 = w1.alloc (.cells #[.slice A' n' c'] 96) := ⟨_, rfl⟩
  obtain ⟨hk2, hsz2, hb2⟩ := one_block hw2
  have I2 := Lib.hid (I.below hb2)
  have HB2 := Lib.hid (hb1.trans (hb2.mono hb1.size))
  have HK2 := Lib.hid hk2
  have hlr := I.e.1
  have h60 := I.n60
  rw [hlr] at HV
  clear hcc I hb1 hk2 hb2
  by_cases h1 : un < fr
  · rw [if_pos (.inl h1)] at HV
    obtain rfl : q = [] := HV.out
    go_wp2_with fail
    rw [← hw2]
    clear hw2
    have hO := own_bare .i64 3 w2
    rw [hsz2] at hO
    have hz := HB2.out.size
    go_ret
    exact ⟨_, rfl, hO.mono (by omega), HB2.out.alloc HB2.out.size _⟩
  · clear hsz2
    have x0 := cell1w HK2.out
    rw [hw2] at x0
    go_wp2_with fail
    rw [← hw2]
    rw [← hw2] at x0
    clear x0 hw2
    generalize w1.heap.size = g1 at *
    refine (impl_hasLight A' n' c' B rs i w2 I2.out).mono ?_
    rintro r w3 ⟨rfl, hb3⟩
    have I3 := Lib.hid (I2.out.below hb3)
    have hk3 := (hb3.block _ (lt_of_block HK2.out)).trans HK2.out
    have HB3 := Lib.hid (HB2.out.trans (hb3.mono HB2.out.size))
    clear hb3 I2 HB2 HK2
    cases h2 : hasL rs i
    · rw [if_pos (.inr h2)] at HV
      obtain rfl : q = [] := HV.out
      have HOW := Lib.hid (own_bare .i64 3 w3)
      go_wp2_with fail
      go_ret
      exact ⟨_, rfl, HOW.out.mono HB3.out.size, HB3.out.alloc HB3.out.size _⟩
    · rw [if_neg (by rw [h2]; simp; omega)] at HV
      obtain ⟨b1, b2⟩ := atK_bound rs fr n'
      obtain ⟨b3, b4⟩ := atK_bound rs un n'
      have HAT := Lib.hid (fun s y (hy : Below w3.heap.size w3 y) => impl_witAt A' n' c' B rs s y (I3.out.below hy))
      have HMX := Lib.hid (fun a b y => impl_Max a b y)
      have ha : 0 ≤ maxI 0 (atK rs fr n') ∧ maxI 0 (atK rs fr n') ≤ 1000 := by unfold maxI; split <;> omega
      have HLI := Lib.hid (fun y (hy : Below w3.heap.size w3 y) => impl_lightsIn A' n' c' B rs i (maxI 0 (atK rs fr n')) (atK rs un n') y (I3.out.below hy) ha ⟨b3, b4⟩)
      unfold btwR at HV
      generalize onceL (litR rs i (maxI 0 (atK rs fr n')) (atK rs un n' + 1 - maxI 0 (atK rs fr n')).toNat) = zs2 at *
      have hbw : Below w3.heap.size w3 w3 := Below.refl _ _
      have hdd : Below w3.heap.size w3 w3.drew := ⟨rfl, rfl, rfl, Nat.le_refl _, fun _ _ => rfl⟩
      have x0 := cell1w hk3
      clear b1 b2 b3 b4 ha h2
      go_wp2
      go_region_held3 (fun W' => W'.cell? ⟨g1, 0, none⟩ = some (.slice A' n' c')) (first | exact x0 | fail "keep")
        (first
          | (go_at_call 78; refine (HAT.out _ _ (by first | exact hbw | exact hdd)).mono ?_; rintro e w4 ⟨rfl, hb⟩; (first | replace hb := below_undrew hb | skip); clear x0; replace hk3 := (hb.block _ (lt_of_block hk3)).trans hk3; have x0 := cell1w hk3; replace hbw := hbw.trans (hb.mono hbw.size); clear hb)
          | (go_at_call 77; refine (HMX.out _ _ _).mono ?_; rintro e w4 ⟨rfl, hb⟩; (first | replace hb := below_undrew hb | skip); clear x0; replace hk3 := (hb.block _ (lt_of_block hk3)).trans hk3; have x0 := cell1w hk3; replace hbw := hbw.trans (hb.mono hbw.size); clear hb)
          | (go_at_call 76; refine (HLI.out _ hbw).mono ?_; rintro e w5 ⟨v, rfl, ho, hb⟩; obtain ⟨Av, cv, rfl⟩ := ho.sliced; clear x0; have hbz := hb; replace hk3 := (hb.block _ (lt_of_block hk3)).trans hk3; have x0 := cell1w hk3; replace ho := ho.mono hbw.size; replace hbw := hbw.trans (hb.mono hbw.size); clear hb hbz))
      all_goals go_wp2
      all_goals go_ret
      all_goals exact ⟨_, rfl, by rw [HV.out]; exact ho.mono HB3.out.size, HB3.out.trans (hbw.mono HB3.out.size)⟩
end Go.Proofs.Ytblilnfkpfjclaa

/- Chapter 28: what was shown between two seconds, as data: what the model collects is what the program sorts. No walk. -/
namespace Go.Proofs.Ytblilnfkpfjclaa
open Go.RowKit
set_option linter.unusedVariables false

/- (as in XSetEq, which wants more than a plain seat has) -/
theorem putI_nilB (n : Int) : putI [] n = [n] := by simp [putI, lowN]
theorem putI_consB (z : Int) (zs : List Int) (n : Int) : putI (z :: zs) n = if z < n then z :: putI zs n else if z = n then z :: zs else n :: z :: zs := by
  unfold putI lowN
  by_cases h : z < n
  · rw [if_pos h, List.takeWhile_cons_of_pos (by simpa using h)]
    simp only [List.length_cons, List.getElem?_cons_succ, List.take_succ_cons, List.drop_succ_cons, List.cons_append]
    split <;> rfl
  · rw [if_neg h, List.takeWhile_cons_of_neg (by simpa using h)]
    simp only [List.length_nil, List.getElem?_cons_zero, List.take_zero, List.drop_zero, List.nil_append, Option.some.injEq]
theorem put_memB (n : Int) : ∀ (zs : List Int) (x : Int), x ∈ putI zs n ↔ x ∈ zs ∨ x = n
  | [], x => by rw [putI_nilB]; simp
  | z :: zs, x => by
    rw [putI_consB]
    split
    · rw [List.mem_cons, put_memB n zs x, List.mem_cons, or_assoc]
    · split
      · rename_i h
        subst h
        simp only [List.mem_cons]
        constructor
        · exact fun h => .inl h
        · rintro (h | h)
          · exact h
          · exact .inl h
      · simp only [List.mem_cons]
        constructor
        · rintro (h | h | h)
          · exact .inr h
          · exact .inl (.inl h)
          · exact .inl (.inr h)
        · rintro ((h | h) | h)
          · exact .inr (.inl h)
          · exact .inr (.inr h)
          · exact .inl h
theorem put_ascB (n : Int) : ∀ {zs : List Int}, zs.Pairwise (· < ·) → (putI zs n).Pairwise (· < ·)
  | [], _ => by rw [putI_nilB]; simp
  | z :: zs, h => by
    obtain ⟨h1, h2⟩ := List.pairwise_cons.1 h
    rw [putI_consB]
    split
    · rename_i hlt
      refine List.pairwise_cons.2 ⟨fun y hy => ?_, put_ascB n h2⟩
      rcases (put_memB n zs y).1 hy with h3 | rfl
      · exact h1 y h3
      · exact hlt
    · split
      · exact h
      · refine List.pairwise_cons.2 ⟨fun y hy => ?_, h⟩
        rcases List.mem_cons.1 hy with rfl | h3
        · omega
        · have := h1 y h3; omega
/-- what is put together of those below k that count. -/
def putUp (P : Nat → Bool) (f : Nat → Int) : Nat → List Int
  | 0 => []
  | k + 1 => if P k then putI (putUp P f k) (f k) else putUp P f k
theorem putUp_ok (P : Nat → Bool) (f : Nat → Int) : ∀ k, (putUp P f k).Pairwise (· < ·) ∧ ∀ x, x ∈ putUp P f k ↔ ∃ j, j < k ∧ P j = true ∧ f j = x
  | 0 => ⟨by simp [putUp], fun x => by simp [putUp]⟩
  | k + 1 => by
    obtain ⟨h1, h2⟩ := putUp_ok P f k
    unfold putUp
    cases hp : P k
    · simp only [Bool.false_eq_true, if_false]
      refine ⟨h1, fun x => (h2 x).trans ⟨fun ⟨j, a, b, c⟩ => ⟨j, by omega, b, c⟩, fun ⟨j, a, b, c⟩ => ⟨j, ?_, b, c⟩⟩⟩
      rcases Nat.lt_or_ge j k with h | h
      · exact h
      · obtain rfl : j = k := by omega
        rw [hp] at b
        cases b
    · simp only [if_true]
      refine ⟨put_ascB _ h1, fun x => ?_⟩
      rw [put_memB, h2 x]
      constructor
      · rintro (⟨j, a, b, c⟩ | e)
        · exact ⟨j, by omega, b, c⟩
        · exact ⟨k, by omega, hp, e.symm⟩
      · rintro ⟨j, a, b, c⟩
        rcases Nat.lt_or_ge j k with h | h
        · exact .inl ⟨j, h, b, c⟩
        · obtain rfl : j = k := by omega
          exact .inr c.symm
/-- an entry counts. -/
def inBt (zs : List Ent) (i fr un : Int) (j : Nat) : Bool := (inB i 0 (((entA zs j).lights.length : Int) - 1) && decide ((entA zs j).second ≤ un)) && (decide (j + 1 = zs.length) || decide (fr < (entA zs (j + 1)).second)) && decide (fr ≤ un)
theorem atK_iff {zs : List Ent} {s : Int} : ∀ {k : Nat}, (∀ a b, a < b → b < k → (entA zs a).second < (entA zs b).second) → ∀ j, j < k → ((j : Int) ≤ atK zs s k ↔ (entA zs j).second ≤ s)
  | 0, _, j, hj => absurd hj (by omega)
  | k + 1, h, j, hj => by
    have e : atK zs s (k + 1) = if (entA zs k).second ≤ s then (k : Int) else atK zs s k := rfl
    have hb := atK_bound zs s k
    have ih := fun hjk => atK_iff (s := s) (k := k) (fun a b h1 h2 => h a b h1 (by omega)) j hjk
    rw [e]
    by_cases hjk : j < k
    · have hs := h j k hjk (by omega)
      split
      · rename_i hk
        constructor
        · intro _; omega
        · intro _; omega
      · exact ih hjk
    · obtain rfl : j = k := by omega
      split
      · rename_i hk
        exact ⟨fun _ => hk, fun _ => Int.le_refl _⟩
      · rename_i hk
        constructor
        · intro h2; omega
        · intro h2; exact absurd h2 hk
/-- the model's and the program's are one. -/
theorem btw_same (zs : List Ent) (i fr un : Int) (h : isRec zs = true) : putUp (inBt zs i fr un) (fun j => (entA zs j).lights.getD i.toNat 0) zs.length = btwL zs i fr un := by
  obtain ⟨h60, hok⟩ := isRec_parts h
  have hasc := rec_sec (zs := zs) (k := zs.length) hok
  have hlen := rec_len (zs := zs) (k := zs.length) hok
  obtain ⟨p1, p2⟩ := putUp_ok (inBt zs i fr un) (fun j => (entA zs j).lights.getD i.toNat 0) zs.length
  unfold btwL
  rw [recZ_yes h]
  by_cases h1 : un < fr ∨ hasL zs i = false
  · rw [if_pos h1]
    refine List.eq_nil_iff_forall_not_mem.2 fun x hx => ?_
    obtain ⟨j, hj, hp, _⟩ := (p2 x).1 hx
    unfold inBt at hp
    rw [hlen j hj] at hp
    simp only [Bool.and_eq_true, decide_eq_true_eq] at hp
    rcases h1 with h1 | h1
    · omega
    · unfold hasL at h1
      rw [h1] at hp
      exact absurd hp.1.1.1 (by decide)
  · rw [if_neg h1]
    have hl : hasL zs i = true := by
      cases e : hasL zs i
      · exact absurd (.inr e) h1
      · rfl
    have hfu : fr ≤ un := by
      rcases Int.lt_or_le un fr with e | e
      · exact absurd (.inl e) h1
      · exact e
    unfold btwR onceL
    obtain ⟨c1, c2⟩ := cmp_sort (litR zs i (maxI 0 (atK zs fr zs.length)) (atK zs un zs.length + 1 - maxI 0 (atK zs fr zs.length)).toNat)
    refine asc_same p1 c1 fun x => ?_
    rw [p2 x, c2 x]
    have bf := atK_bound zs fr zs.length
    have bu := atK_bound zs un zs.length
    have hin : ∀ j, j < zs.length → (inBt zs i fr un j = true ↔ maxI 0 (atK zs fr zs.length) ≤ (j : Int) ∧ (j : Int) ≤ atK zs un zs.length) := fun j hj => by
      have hu := atK_iff (s := un) hasc j hj
      have hf : (j + 1 = zs.length ∨ fr < (entA zs (j + 1)).second) ↔ maxI 0 (atK zs fr zs.length) ≤ (j : Int) := by
        have hm : maxI 0 (atK zs fr zs.length) ≤ (j : Int) ↔ atK zs fr zs.length ≤ (j : Int) := by unfold maxI; split <;> omega
        rw [hm]
        by_cases e : j + 1 = zs.length
        · exact ⟨fun _ => by omega, fun _ => .inl e⟩
        · have hq := atK_iff (s := fr) hasc (j + 1) (by omega)
          constructor
          · rintro (e2 | e2)
            · exact absurd e2 e
            · rcases Int.lt_or_le (j : Int) (atK zs fr zs.length) with e3 | e3
              · have := hq.1 (by omega); omega
              · exact e3
          · intro e2
            refine .inr ?_
            rcases Int.lt_or_le fr (entA zs (j + 1)).second with e3 | e3
            · exact e3
            · have := hq.2 e3; omega
      unfold inBt
      rw [hlen j hj]
      unfold hasL at hl
      rw [hl]
      simp only [Bool.true_and, Bool.and_eq_true, Bool.or_eq_true, decide_eq_true_eq]
      rw [hf, ← hu]
      exact ⟨fun h => ⟨h.1.2, h.1.1⟩, fun h => ⟨⟨h.2, h.1⟩, hfu⟩⟩
    have hm0 : 0 ≤ maxI 0 (atK zs fr zs.length) := by unfold maxI; split <;> omega
    have hlit : ∀ j : Nat, litE zs i (j : Int) = (entA zs j).lights.getD i.toNat 0 := fun j => by
      unfold litE
      unfold hasL at hl
      rw [hl, if_neg (by simp), Int.toNat_natCast]
    generalize maxI 0 (atK zs fr zs.length) = a at *
    generalize atK zs un zs.length = b at *
    unfold litR
    rw [List.mem_map]
    constructor
    · rintro ⟨j, hj, hp, e⟩
      obtain ⟨q1, q2⟩ := (hin j hj).1 hp
      refine ⟨(j - a).toNat, List.mem_range.2 (by omega), ?_⟩
      rw [show a + (((j : Int) - a).toNat : Int) = (j : Int) by omega, hlit j]
      exact e
    · rintro ⟨t, ht, e⟩
      have ht := List.mem_range.1 ht
      refine ⟨(a + t).toNat, by omega, (hin _ (by omega)).2 (by omega), ?_⟩
      rw [← hlit, show (((a + (t : Int)).toNat : Nat) : Int) = a + (t : Int) by omega]
      exact e
theorem btw_none (zs : List Ent) (i fr un : Int) (h : isRec zs = false) : btwL zs i fr un = [] := by
  have e : hasL ([] : List Ent) i = false := by
    cases e : hasL ([] : List Ent) i
    · rfl
    · exfalso
      unfold hasL inB at e
      simp only [Bool.and_eq_true, decide_eq_true_eq] at e
      have : (((entA ([] : List Ent) 0).lights.length : Nat) : Int) = 0 := rfl
      omega
  unfold btwL
  rw [recZ_no h, if_pos (.inr e)]
end Go.Proofs.Ytblilnfkpfjclaa

/- Chapter 28: ShownBetween of the model. -/
namespace Go.Proofs.Ytblilnfkpfjclaa
open Go.RowKit
set_option linter.unusedVariables false

theorem putUp_len (P : Nat → Bool) (f : Nat → Int) : ∀ k, (putUp P f k).length ≤ k
  | 0 => by simp [putUp]
  | k + 1 => by
    have := putUp_len P f k
    have h2 := putI_length (putUp P f k) (f k)
    unfold putUp
    split <;> omega
set_option maxHeartbeats 4000000 in
set_option maxRecDepth 100000 in
theorem spec_ShownBetween (A : Option Addr) (n c B : Nat) (zs : List Ent) (i fr un : Int) (w : World) (h : EntsAt w B A n zs) (hB : B ≤ w.heap.size) (hn : n ≤ 4294967296) (hm : ∀ j, j < n → (entA zs j).lights.length ≤ 1048576) :
    Calls Try.prog 26 #[.slice A n c, .int .i64 i, .int .i64 fr, .int .i64 un] w fun e w' => ∃ v, e = .returned v ∧ Own .i64 3 w' w.heap.size v (btwL zs i fr un) ∧ Below w.heap.size w w' := by
  have hl := h.1
  have hcc := fun y (hy : Below w.heap.size w y) => spec_IsRecord A n c B zs y (h.below hB hy) (by have := hy.size; omega) hn hm
  have HOW := Lib.hid (own_bare .i64 3 w)
  have hBA : Below w.heap.size w (w.alloc (.cells #[] 3)) := (Below.refl _ _).alloc (Nat.le_refl _) _
  obtain ⟨wA, hwA⟩ : ∃ wA, wA = w.alloc (.cells #[] 3) := ⟨_, rfl⟩
  rw [← hwA] at HOW hBA
  cases hr : isRec zs
  · have HV := Lib.hid (btw_none zs i fr un hr)
    have hpos : 0 < n := by have := isRec_none hr; omega
    have i1 : (0 : Int) < (n : Int) := by omega
    have i2 : decide ((0 : Int) < (n : Int)) = true := decide_eq_true i1
    rw [hr] at hcc
    have hc0 := hcc wA hBA
    have HB := Lib.hid hBA
    clear hcc hr hBA h hm
    go_enter Try.func26, Try.ntmps26
    go_wp2_with fail
    rw [← hwA]
    clear hwA
    go_loopw [9, 10] (fun v i wr => v = .slice (some ⟨w.heap.size, 0, none⟩) 0 0 ∧ i = .int .i64 0 ∧ wA = wr) (fun _ _ _ => 0)
    case atStart => exact ⟨rfl, rfl, rfl⟩
    case round =>
      obtain ⟨rfl, rfl, rfl⟩ := hrel
      go_wp2_with fail
      refine hc0.mono ?_
      rintro r w1 ⟨rfl, hb1⟩
      have HB1 := Lib.hid (HB.out.trans (hb1.mono HB.out.size))
      have HO1 := Lib.hid (HOW.out.below hb1)
      clear hb1 hc0
      go_wp2_with fail
      go_ret
      exact ⟨_, rfl, by rw [HV.out]; exact HO1.out, HB1.out⟩
  · have HV := Lib.hid (btw_same zs i fr un hr)
    rw [hl] at HV
    rw [hr] at hcc
    have HCC := Lib.hid hcc
    have HE := Lib.hid h
    have hn60 : n ≤ 60 := by have := (isRec_parts hr).1; omega
    have HM := Lib.hid hm
    have HL := Lib.hid hl
    have HB := Lib.hid hBA
    clear hcc hr h hm hBA hl
    go_enter Try.func26, Try.ntmps26
    go_wp2_with fail
    rw [← hwA]
    clear hwA
    go_loopw [9, 10] (fun v i' wr => ∃ k : Nat, k ≤ n ∧ i' = .int .i64 k ∧ Own .i64 3 wr w.heap.size v (putUp (inBt zs i fr un) (fun j => (entA zs j).lights.getD i.toNat 0) k) ∧ Below w.heap.size w wr) (fun _ i' _ => n - (intOf i').toNat)
    case atStart => exact ⟨0, Nat.zero_le _, rfl, HOW.out, HB.out⟩
    case round =>
      obtain ⟨k, hk, rfl, ho, hbl⟩ := hrel
      obtain ⟨Av, cv, rfl⟩ := ho.sliced
      have HBL := Lib.hid hbl
      have HO := Lib.hid ho
      by_cases hlt : k < n
      · have hc0 := HCC.out _ hbl
        have i1 : (0 : Int) ≤ (k : Int) := by omega
        have i2 : (k : Int) < (n : Int) := by omega
        have i3 : decide ((k : Int) < (n : Int)) = true := decide_eq_true i2
        clear hbl ho
        go_wp2_with fail
        refine hc0.mono ?_
        rintro r w1 ⟨rfl, hb1⟩
        have HB1 := Lib.hid (HBL.out.trans (hb1.mono HBL.out.size))
        have HO1 := Lib.hid (HO.out.below hb1)
        clear hb1 hc0 HBL HO
        obtain ⟨ad, eA, hab, hen⟩ := HE.out.2 (by omega)
        obtain ⟨A', m, c', hq, hi, hmc, hnil⟩ := hen k hlt
        have hak : ∀ q : Nat, (ad.add (q * 3)).block < B := fun q => by rw [add_block]; exact hab
        have y0 := (hq.below HB1.out (by have := hak k; omega)).c0
        have y1 := (hq.below HB1.out (by have := hak k; omega)).c1
        have HIW := Lib.hid (hi.keep (w' := w1) (fun p hp => HB1.out.cell (by omega)))
        have hml := hi.1
        have HP : Hid (putUp (inBt zs i fr un) (fun j => (entA zs j).lights.getD i.toNat 0) (k + 1) = if inBt zs i fr un k then putI (putUp (inBt zs i fr un) (fun j => (entA zs j).lights.getD i.toNat 0) k) ((entA zs k).lights.getD i.toNat 0) else putUp (inBt zs i fr un) (fun j => (entA zs j).lights.getD i.toNat 0) k) := Lib.hid rfl
        have HIB : Hid (inBt zs i fr un k = (((inB i 0 ((m : Int) - 1) && decide ((entA zs k).second ≤ un)) && (decide (k + 1 = n) || decide (fr < (entA zs (k + 1)).second))) && decide (fr ≤ un))) := Lib.hid (by unfold inBt; rw [HL.out, hml])
        have hnx : k + 1 < n → w1.cell? (ad.add ((k + 1) * 3)) = some (.int .i64 (entA zs (k + 1)).second) := fun hk1 => by
          obtain ⟨A2, m2, c2, hq2, -⟩ := hen (k + 1) hk1
          exact (hq2.below HB1.out (by have := hak (k + 1); omega)).c0
        have hlm := HM.out k hlt
        rw [hml] at hlm
        subst eA
        have hakw : (ad.add (k * 3)).block < w1.heap.size := by have := hak k; have := HB1.out.size; omega
        clear hen hq hi hak HCC HE HM HOW HB
        have HLEN := Lib.hid (putUp_len (inBt zs i fr un) (fun j => (entA zs j).lights.getD i.toNat 0) k)
        obtain ⟨yn, hyn⟩ : ∃ yn, putUp (inBt zs i fr un) (fun j => (entA zs j).lights.getD i.toNat 0) (k + 1) = yn := ⟨_, rfl⟩
        rw [hyn] at HP
        have HYN := Lib.hid hyn
        clear hyn
        generalize putUp (inBt zs i fr un) (fun j => (entA zs j).lights.getD i.toNat 0) k = ys at *
        generalize inBt zs i fr un k = bb at *
        generalize (entA zs k).second = sc at *
        generalize (entA zs (k + 1)).second = s1 at *
        generalize (entA zs k).lights = ls at *
        have HLM := Lib.hid hml
        clear hml
        obtain ⟨la, hla⟩ : ∃ la, (decide (k + 1 = n) || decide (fr < s1)) = la := ⟨_, rfl⟩
        obtain ⟨c1, hc1⟩ : ∃ c1, inB i 0 ((m : Int) - 1) = c1 := ⟨_, rfl⟩
        rw [hla, hc1] at HIB
        have HC1 := Lib.hid hc1
        clear hc1
        by_cases e : k + 1 = n
        · have e5 : (((k : Int) + 1) == (n : Int)) = true := beq_iff_eq.2 (by omega)
          obtain rfl : true = la := by rw [← hla, decide_eq_true e]; rfl
          clear hla hnx
          go_wp2_with fail
          refine (spec_l1In _ _ _ _).mono ?_
          rintro e' w' ⟨rfl, rfl⟩
          rw [HC1.out]
          by_cases h2 : sc ≤ un
          · by_cases h4 : fr ≤ un
            · cases c1
              · have HN : Hid (yn = ys) := Lib.hid (by rw [HP.out, if_neg (by rw [HIB.out]; simp [*])])
                go_wp2_with fail
                go_roundw
                case rel => exact ⟨k + 1, by omega, by go_num, by rw [HYN.out, HN.out]; exact HO1.out, HB1.out⟩
                case measure => simp [intOf]; omega
              · obtain ⟨q1, q2⟩ := inB_t HC1.out
                obtain ⟨t, rfl⟩ : ∃ t : Nat, i = t := ⟨i.toNat, by omega⟩
                have HN : Hid (yn = putI ys (ls.getD t 0)) := Lib.hid (by rw [HP.out, if_pos (by rw [HIB.out]; simp [*])]; simp)
                obtain ⟨ad2, rfl, hab2, hce⟩ := HIW.out.2 (by omega)
                have y3 := hce t (by omega)
                have i7 : (t : Int) < (m : Int) := by omega
                clear hce
                generalize ls.getD t 0 = x at *
                go_wp2_with fail
                refine (spec_l6Put Av ys.length cv w1.heap.size ys x w1 HO1.out.ints (Nat.le_refl _) (by have := HLEN.out; omega) HO1.out.cap.1 HO1.out.nilcap').mono ?_
                rintro e' w2 ⟨v', rfl, ho', hb'⟩
                have HO2 := Lib.hid (ho'.mono HB1.out.size)
                have HB2 := Lib.hid (HB1.out.trans (hb'.mono HB1.out.size))
                clear ho' hb' y3
                go_wp2_with fail
                go_roundw
                case rel => exact ⟨k + 1, by omega, by go_num, by rw [HYN.out, HN.out]; exact HO2.out, HB2.out⟩
                case measure => simp [intOf]; omega
            · cases c1
              · have HN : Hid (yn = ys) := Lib.hid (by rw [HP.out, if_neg (by rw [HIB.out]; simp [*])])
                go_wp2_with fail
                go_roundw
                case rel => exact ⟨k + 1, by omega, by go_num, by rw [HYN.out, HN.out]; exact HO1.out, HB1.out⟩
                case measure => simp [intOf]; omega
              · have HN : Hid (yn = ys) := Lib.hid (by rw [HP.out, if_neg (by rw [HIB.out]; simp [*])])
                go_wp2_with fail
                go_roundw
                case rel => exact ⟨k + 1, by omega, by go_num, by rw [HYN.out, HN.out]; exact HO1.out, HB1.out⟩
                case measure => simp [intOf]; omega
          · cases c1
            · have HN : Hid (yn = ys) := Lib.hid (by rw [HP.out, if_neg (by rw [HIB.out]; simp [*])])
              go_wp2_with fail
              go_roundw
              case rel => exact ⟨k + 1, by omega, by go_num, by rw [HYN.out, HN.out]; exact HO1.out, HB1.out⟩
              case measure => simp [intOf]; omega
            · have HN : Hid (yn = ys) := Lib.hid (by rw [HP.out, if_neg (by rw [HIB.out]; simp [*])])
              go_wp2_with fail
              go_roundw
              case rel => exact ⟨k + 1, by omega, by go_num, by rw [HYN.out, HN.out]; exact HO1.out, HB1.out⟩
              case measure => simp [intOf]; omega
        · have e5 : (((k : Int) + 1) == (n : Int)) = false := beq_eq_false_iff_ne.2 (by omega)
          have y2 := hnx (by omega)
          have i4 : (k : Int) + 1 < (n : Int) := by omega
          have i5 : (0 : Int) ≤ (k : Int) + 1 := by omega
          rw [decide_eq_false e, Bool.false_or] at hla
          clear hnx
          by_cases g : fr < s1
          · obtain rfl : true = la := by rw [← hla, decide_eq_true g]
            clear hla
            go_wp2_with fail
            refine (spec_l1In _ _ _ _).mono ?_
            rintro e' w' ⟨rfl, rfl⟩
            rw [HC1.out]
            by_cases h2 : sc ≤ un
            · by_cases h4 : fr ≤ un
              · cases c1
                · have HN : Hid (yn = ys) := Lib.hid (by rw [HP.out, if_neg (by rw [HIB.out]; simp [*])])
                  go_wp2_with fail
                  go_roundw
                  case rel => exact ⟨k + 1, by omega, by go_num, by rw [HYN.out, HN.out]; exact HO1.out, HB1.out⟩
                  case measure => simp [intOf]; omega
                · obtain ⟨q1, q2⟩ := inB_t HC1.out
                  obtain ⟨t, rfl⟩ : ∃ t : Nat, i = t := ⟨i.toNat, by omega⟩
                  have HN : Hid (yn = putI ys (ls.getD t 0)) := Lib.hid (by rw [HP.out, if_pos (by rw [HIB.out]; simp [*])]; simp)
                  obtain ⟨ad2, rfl, hab2, hce⟩ := HIW.out.2 (by omega)
                  have y3 := hce t (by omega)
                  have i7 : (t : Int) < (m : Int) := by omega
                  clear hce
                  generalize ls.getD t 0 = x at *
                  go_wp2_with fail
                  refine (spec_l6Put Av ys.length cv w1.heap.size ys x w1 HO1.out.ints (Nat.le_refl _) (by have := HLEN.out; omega) HO1.out.cap.1 HO1.out.nilcap').mono ?_
                  rintro e' w2 ⟨v', rfl, ho', hb'⟩
                  have HO2 := Lib.hid (ho'.mono HB1.out.size)
                  have HB2 := Lib.hid (HB1.out.trans (hb'.mono HB1.out.size))
                  clear ho' hb' y3
                  go_wp2_with fail
                  go_roundw
                  case rel => exact ⟨k + 1, by omega, by go_num, by rw [HYN.out, HN.out]; exact HO2.out, HB2.out⟩
                  case measure => simp [intOf]; omega
              · cases c1
                · have HN : Hid (yn = ys) := Lib.hid (by rw [HP.out, if_neg (by rw [HIB.out]; simp [*])])
                  go_wp2_with fail
                  go_roundw
                  case rel => exact ⟨k + 1, by omega, by go_num, by rw [HYN.out, HN.out]; exact HO1.out, HB1.out⟩
                  case measure => simp [intOf]; omega
                · have HN : Hid (yn = ys) := Lib.hid (by rw [HP.out, if_neg (by rw [HIB.out]; simp [*])])
                  go_wp2_with fail
                  go_roundw
                  case rel => exact ⟨k + 1, by omega, by go_num, by rw [HYN.out, HN.out]; exact HO1.out, HB1.out⟩
                  case measure => simp [intOf]; omega
            · cases c1
              · have HN : Hid (yn = ys) := Lib.hid (by rw [HP.out, if_neg (by rw [HIB.out]; simp [*])])
                go_wp2_with fail
                go_roundw
                case rel => exact ⟨k + 1, by omega, by go_num, by rw [HYN.out, HN.out]; exact HO1.out, HB1.out⟩
                case measure => simp [intOf]; omega
              · have HN : Hid (yn = ys) := Lib.hid (by rw [HP.out, if_neg (by rw [HIB.out]; simp [*])])
                go_wp2_with fail
                go_roundw
                case rel => exact ⟨k + 1, by omega, by go_num, by rw [HYN.out, HN.out]; exact HO1.out, HB1.out⟩
                case measure => simp [intOf]; omega
          · obtain rfl : false = la := by rw [← hla, decide_eq_false g]
            clear hla
            go_wp2_with fail
            refine (spec_l1In _ _ _ _).mono ?_
            rintro e' w' ⟨rfl, rfl⟩
            rw [HC1.out]
            by_cases h2 : sc ≤ un
            · by_cases h4 : fr ≤ un
              · cases c1
                · have HN : Hid (yn = ys) := Lib.hid (by rw [HP.out, if_neg (by rw [HIB.out]; simp [*])])
                  go_wp2_with fail
                  go_roundw
                  case rel => exact ⟨k + 1, by omega, by go_num, by rw [HYN.out, HN.out]; exact HO1.out, HB1.out⟩
                  case measure => simp [intOf]; omega
                · have HN : Hid (yn = ys) := Lib.hid (by rw [HP.out, if_neg (by rw [HIB.out]; simp [*])])
                  go_wp2_with fail
                  go_roundw
                  case rel => exact ⟨k + 1, by omega, by go_num, by rw [HYN.out, HN.out]; exact HO1.out, HB1.out⟩
                  case measure => simp [intOf]; omega
              · cases c1
                · have HN : Hid (yn = ys) := Lib.hid (by rw [HP.out, if_neg (by rw [HIB.out]; simp [*])])
                  go_wp2_with fail
                  go_roundw
                  case rel => exact ⟨k + 1, by omega, by go_num, by rw [HYN.out, HN.out]; exact HO1.out, HB1.out⟩
                  case measure => simp [intOf]; omega
                · have HN : Hid (yn = ys) := Lib.hid (by rw [HP.out, if_neg (by rw [HIB.out]; simp [*])])
                  go_wp2_with fail
                  go_roundw
                  case rel => exact ⟨k + 1, by omega, by go_num, by rw [HYN.out, HN.out]; exact HO1.out, HB1.out⟩
                  case measure => simp [intOf]; omega
            · cases c1
              · have HN : Hid (yn = ys) := Lib.hid (by rw [HP.out, if_neg (by rw [HIB.out]; simp [*])])
                go_wp2_with fail
                go_roundw
                case rel => exact ⟨k + 1, by omega, by go_num, by rw [HYN.out, HN.out]; exact HO1.out, HB1.out⟩
                case measure => simp [intOf]; omega
              · have HN : Hid (yn = ys) := Lib.hid (by rw [HP.out, if_neg (by rw [HIB.out]; simp [*])])
                go_wp2_with fail
                go_roundw
                case rel => exact ⟨k + 1, by omega, by go_num, by rw [HYN.out, HN.out]; exact HO1.out, HB1.out⟩
                case measure => simp [intOf]; omega
      · obtain rfl : k = n := by omega
        have i3 : decide ((k : Int) < (k : Int)) = false := decide_eq_false (by omega)
        clear hbl ho
        go_wp2_with fail
        go_ret
        exact ⟨_, rfl, by rw [← HV.out]; exact HO.out, HBL.out⟩
end Go.Proofs.Ytblilnfkpfjclaa

/- ShownBetween as its exact law meets it. -/
namespace Go.Proofs.Ytblilnfkpfjclaa
open Go.RowKit
set_option linter.unusedVariables false

theorem btw_short {zs : List Ent} (i fr un : Int) (hs : SmallEnt zs) : (btwL zs i fr un).length ≤ 1048576 := by
  cases h : isRec zs
  · rw [btw_none zs i fr un h]; simp
  · rw [← btw_same zs i fr un h]
    exact Nat.le_trans (putUp_len _ _ _) hs.1
theorem sp_ShownBetween (A0 : Option Addr) (n0 c0 : Nat) (zs0 : List Ent) (a1 a2 a3 : Int) (w : World) (h0 : SlEnt w A0 n0 c0 zs0) (hs0 : SmallEnt zs0) (wa1 : (Lit.int .i64 a1).wf = true) (wa2 : (Lit.int .i64 a2).wf = true) (wa3 : (Lit.int .i64 a3).wf = true) (r : List Int) (hr : btwL zs0 a1 a2 a3 = r) :
    Calls Try.prog 26 #[.slice A0 n0 c0, .int .i64 a1, .int .i64 a2, .int .i64 a3] w fun e w' => ∃ v, e = .returned v ∧ Own .i64 3 w' w.heap.size v r ∧ Below w.heap.size w w' ∧ r.length ≤ 1048576 := by
  subst hr
  have hq0 := h0.pths.1
  have hz0 := hs0.1
  exact (spec_ShownBetween A0 n0 c0 _ zs0 a1 a2 a3 w h0.pths (Nat.le_refl _) (by omega) (fun j hj => hs0.2 j (by omega))).mono fun e w' ⟨v, h1, h2, h3⟩ => ⟨v, h1, h2, h3, btw_short a1 a2 a3 hs0⟩
theorem im_ShownBetween (A0 : Option Addr) (n0 c0 : Nat) (zs0 : List Ent) (a1 a2 a3 : Int) (w : World) (h0 : SlEnt w A0 n0 c0 zs0) (hs0 : SmallEnt zs0) (wa1 : (Lit.int .i64 a1).wf = true) (wa2 : (Lit.int .i64 a2).wf = true) (wa3 : (Lit.int .i64 a3).wf = true) (r : List Int) (hr : btwL zs0 a1 a2 a3 = r) :
    Calls Try.prog 27 #[.slice A0 n0 c0, .int .i64 a1, .int .i64 a2, .int .i64 a3] w fun e w' => ∃ v, e = .returned v ∧ Own .i64 3 w' w.heap.size v r ∧ Below w.heap.size w w' ∧ r.length ≤ 1048576 := by
  subst hr
  have hq0 := h0.pths.1
  have hz0 := hs0.1
  exact (impl_ShownBetween A0 n0 c0 _ zs0 a1 a2 a3 w h0.pths (Nat.le_refl _) (by omega) (fun j hj => hs0.2 j (by omega))).mono fun e w' ⟨v, h1, h2, h3⟩ => ⟨v, h1, h2, h3, btw_short a1 a2 a3 hs0⟩
end Go.Proofs.Ytblilnfkpfjclaa
