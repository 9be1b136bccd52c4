/- Texts of one chain, put together: Flat Trn Inter Conf Grow Conf2 Tog Tog2 Stg Stg2 Stg3 SS SSM Tur Bal BalT Vot Cln VotM TrnN LawVot LawTur Ent EntM EntK. -/
import Derived.Laws.Rows
import Derived.Handy
import Derived.BigQuiet
import Derived.Deep.QuietTactic
import Derived.Deep.Quiet
import Derived.Deep.RegionHeld3
import Derived.WalkKit
import Derived.Maps.Own
import Derived.Maps.OwnOps
import Derived.Maps.OwnSet
import Derived.Maps.Views
import Derived.Laws.CopyOwn
import Derived.Test.YtlpkafhapmkkfaaBndlA
set_option linter.unusedSimpArgs false
/- Rows of elements of two or three cells. No program. -/
namespace Go.Proofs.Ytlpkafhapmkkfaa
open Go.RowKit

theorem stored2 {w : World} {g : Nat} {x0 x1 a b : Value} {E : TypeId} (h : w.heap[g]? = some (.cells #[x0, x1] E)) : ((w.setCell ⟨g, 0, none⟩ a).setCell ⟨g, 1, none⟩ b).heap[g]? = some (.cells #[a, b] E) :=
  heap_setCell_same _ g 1 _ E b (heap_setCell_same w g 0 _ E a h)
theorem stored3 {w : World} {g : Nat} {x0 x1 x2 a b c : Value} {E : TypeId} (h : w.heap[g]? = some (.cells #[x0, x1, x2] E)) : (((w.setCell ⟨g, 0, none⟩ a).setCell ⟨g, 1, none⟩ b).setCell ⟨g, 2, none⟩ c).heap[g]? = some (.cells #[a, b, c] E) :=
  heap_setCell_same _ g 2 _ E c (heap_setCell_same _ g 1 _ E b (heap_setCell_same w g 0 _ E a h))
theorem stored4 {w : World} {g : Nat} {x0 x1 x2 x3 a b c d : Value} {E : TypeId} (h : w.heap[g]? = some (.cells #[x0, x1, x2, x3] E)) : ((((w.setCell ⟨g, 0, none⟩ a).setCell ⟨g, 1, none⟩ b).setCell ⟨g, 2, none⟩ c).setCell ⟨g, 3, none⟩ d).heap[g]? = some (.cells #[a, b, c, d] E) :=
  heap_setCell_same _ g 3 _ E d (heap_setCell_same _ g 2 _ E c (heap_setCell_same _ g 1 _ E b (heap_setCell_same w g 0 _ E a h)))
theorem unstored2 {w : World} {g k : Nat} {a b : Value} {x : Obj} (h : w.heap[k]? = some x) (hk : k ≠ g) : ((w.setCell ⟨g, 0, none⟩ a).setCell ⟨g, 1, none⟩ b).heap[k]? = some x :=
  (heap_setCell_other _ _ k b hk).trans ((heap_setCell_other w _ k a hk).trans h)
theorem unstored3 {w : World} {g k : Nat} {a b c : Value} {x : Obj} (h : w.heap[k]? = some x) (hk : k ≠ g) : (((w.setCell ⟨g, 0, none⟩ a).setCell ⟨g, 1, none⟩ b).setCell ⟨g, 2, none⟩ c).heap[k]? = some x :=
  (heap_setCell_other _ _ k c hk).trans ((heap_setCell_other _ _ k b hk).trans ((heap_setCell_other w _ k a hk).trans h))
theorem unstored4 {w : World} {g k : Nat} {a b c d : Value} {x : Obj} (h : w.heap[k]? = some x) (hk : k ≠ g) : ((((w.setCell ⟨g, 0, none⟩ a).setCell ⟨g, 1, none⟩ b).setCell ⟨g, 2, none⟩ c).setCell ⟨g, 3, none⟩ d).heap[k]? = some x :=
  (heap_setCell_other _ _ k d hk).trans ((heap_setCell_other _ _ k c hk).trans ((heap_setCell_other _ _ k b hk).trans ((heap_setCell_other w _ k a hk).trans h)))
theorem add_plusF (q : Addr) (i : Nat) (h : 0 < i) : q.add i = ⟨q.block, q.off + i, none⟩ := by unfold Addr.add; rw [if_neg (by omega)]
theorem heap_size_allocF (w : World) (o : Obj) : (w.alloc o).heap.size = w.heap.size + 1 := by simp
theorem heap_old (w : World) (o : Obj) {g : Nat} {x : Obj} (h : w.heap[g]? = some x) : (w.alloc o).heap[g]? = some x := (Below.heap_alloc _ _ _ (lt_of_block h)).trans h
theorem heap_newF (w : World) (o : Obj) {g : Nat} (h : w.heap.size = g) : (w.alloc o).heap[g]? = some o := by subst h; exact heap_alloc_new w o
theorem one_block {w wA : World} {o0 : Obj} (h : wA = w.alloc o0) : wA.heap[w.heap.size]? = some o0 ∧ wA.heap.size = w.heap.size + 1 ∧ Below w.heap.size w wA := by
  subst h
  exact ⟨heap_alloc_new w o0, heap_size_allocF _ _, (Below.refl _ _).alloc (Nat.le_refl _) _⟩
theorem two_blocks {w wA : World} {o0 o1 : Obj} (h : wA = (w.alloc o0).alloc o1) : wA.heap[w.heap.size]? = some o0 ∧ wA.heap[w.heap.size + 1]? = some o1 ∧ wA.heap.size = w.heap.size + 2 ∧ Below w.heap.size w wA := by
  subst h
  refine ⟨heap_old _ _ (heap_alloc_new w o0), heap_newF _ _ (heap_size_allocF _ _), ?_, ((Below.refl _ _).alloc (Nat.le_refl _) _).alloc ?_ _⟩
  · rw [heap_size_allocF, heap_size_allocF]
  · rw [heap_size_allocF]; omega
theorem three_blocks {w wA : World} {o0 o1 o2 : Obj} (h : wA = ((w.alloc o0).alloc o1).alloc o2) : wA.heap[w.heap.size]? = some o0 ∧ wA.heap[w.heap.size + 1]? = some o1 ∧ wA.heap[w.heap.size + 1 + 1]? = some o2 ∧ wA.heap.size = w.heap.size + 3 ∧ Below w.heap.size w wA := by
  subst h
  refine ⟨heap_old _ _ (heap_old _ _ (heap_alloc_new w o0)), heap_old _ _ (heap_newF _ _ (heap_size_allocF _ _)), heap_newF _ _ ?_, ?_, (((Below.refl _ _).alloc (Nat.le_refl _) _).alloc ?_ _).alloc ?_ _⟩
  · rw [heap_size_allocF, heap_size_allocF]
  · rw [heap_size_allocF, heap_size_allocF, heap_size_allocF]
  · rw [heap_size_allocF]; omega
  · rw [heap_size_allocF, heap_size_allocF]; omega
theorem results_cell_tmpF {fn : Func} {p q : Tmp} {ty : TypeId} (h : fn.results = #[.cell p ty, .tmp q]) (tmps : Array Value) (P : Program) (w : World) :
    (results fn tmps).run P w = ((asAddr (tmps.getD p undef)).run P w).andThen fun a w₁ => ((loadVar ty a).run P w₁).andThen fun v w₂ => .ok (.tuple #[v, tmps.getD q undef]) w₂ := by
  simp only [results, h]
  simp [Sem.run_bind, Result.andThen]
theorem set2 {pre rest : List Value} {z0 z1 a b : Value} {m : Nat} (h : pre.length = m) : (((pre ++ z0 :: z1 :: rest).set m a).set (m + 1) b) = pre ++ a :: b :: rest := by
  rw [set_at h]
  have e1 : pre ++ a :: z1 :: rest = (pre ++ [a]) ++ z1 :: rest := by simp
  rw [e1, set_at (by simp [h])]
  simp
theorem drop2 {zs : List Value} {m : Nat} (h : m + 2 ≤ zs.length) : ∃ z0 z1, zs.drop m = z0 :: z1 :: zs.drop (m + 2) :=
  ⟨zs[m], zs[m + 1], by rw [List.drop_eq_getElem_cons (by omega), List.drop_eq_getElem_cons (by omega)]⟩
theorem set3 {pre rest : List Value} {z0 z1 z2 a b c : Value} {m : Nat} (h : pre.length = m) : (((pre ++ z0 :: z1 :: z2 :: rest).set m a).set (m + 1) b).set (m + 2) c = pre ++ a :: b :: c :: rest := by
  rw [set_at h]
  have e1 : pre ++ a :: z1 :: z2 :: rest = (pre ++ [a]) ++ z1 :: z2 :: rest := by simp
  rw [e1, set_at (by simp [h])]
  have e2 : (pre ++ [a]) ++ b :: z2 :: rest = (pre ++ [a, b]) ++ z2 :: rest := by simp
  rw [e2, set_at (by simp [h])]
  simp
theorem drop3 {zs : List Value} {m : Nat} (h : m + 3 ≤ zs.length) : ∃ z0 z1 z2, zs.drop m = z0 :: z1 :: z2 :: zs.drop (m + 3) :=
  ⟨zs[m], zs[m + 1], zs[m + 2], by rw [List.drop_eq_getElem_cons (by omega), List.drop_eq_getElem_cons (by omega), List.drop_eq_getElem_cons (by omega)]⟩
theorem set5 {pre rest : List Value} {z0 z1 z2 z3 z4 a b c d e : Value} {m : Nat} (h : pre.length = m) : (((((pre ++ z0 :: z1 :: z2 :: z3 :: z4 :: rest).set m a).set (m + 1) b).set (m + 2) c).set (m + 3) d).set (m + 4) e = pre ++ a :: b :: c :: d :: e :: rest := by
  rw [set4 h]
  have e1 : pre ++ a :: b :: c :: d :: z4 :: rest = (pre ++ [a, b, c, d]) ++ z4 :: rest := by simp
  rw [e1, set_at (by simp [h])]
  simp
theorem drop5 {zs : List Value} {m : Nat} (h : m + 5 ≤ zs.length) : ∃ z0 z1 z2 z3 z4, zs.drop m = z0 :: z1 :: z2 :: z3 :: z4 :: zs.drop (m + 5) :=
  ⟨zs[m], zs[m + 1], zs[m + 2], zs[m + 3], zs[m + 4], by rw [List.drop_eq_getElem_cons (by omega), List.drop_eq_getElem_cons (by omega), List.drop_eq_getElem_cons (by omega), List.drop_eq_getElem_cons (by omega), List.drop_eq_getElem_cons (by omega)]⟩
end Go.Proofs.Ytlpkafhapmkkfaa

/- Chapter 24: turns: the laws' helpers, IsTurn of the model, NewTurn. -/
namespace Go.Proofs.Ytlpkafhapmkkfaa
open Go.RowKit
set_option linter.unusedVariables false

/-- a turn, as a value. -/
def trnV (p a : Int) (v : Value) : Value := .agg #[.int .i64 p, .int .i64 a, v]
theorem cells3 {w : World} {g : Nat} {x0 x1 x2 : Value} {E : TypeId} {fr : Nat × Nat} (h : w.heap[g]? = some (.cells #[x0, x1, x2] E fr)) : w.cell? ⟨g, 0, none⟩ = some x0 ∧ w.cell? ⟨g, 1, none⟩ = some x1 ∧ w.cell? ⟨g, 2, none⟩ = some x2 :=
  ⟨by rw [cell_of_row w g 0 _ E fr h]; rfl, by rw [cell_of_row w g _ _ E fr h]; rfl, by rw [cell_of_row w g _ _ E fr h]; rfl⟩
theorem same_trn (p a : Int) (A : Option Addr) (n c : Nat) (A2 : Option Addr) (n2 c2 : Nat) (zs : List Int) (w : World) (h : IntsAt .i64 w w.heap.size A n zs) (h2 : IntsAt .i64 w w.heap.size A2 n2 zs) (hn : n ≤ 1048576) (hn2 : n2 ≤ 1048576) :
    Calls Try.prog 13 #[trnV p a (.slice A n c), trnV p a (.slice A2 n2 c2)] w fun e w' => e = .returned (.bool true) ∧ Below w.heap.size w w' := by
  simp only [trnV]
  obtain ⟨wA, hwA⟩ : ∃ wA, wA = (w.alloc (.cells #[.int .i64 p, .int .i64 a, .slice A n c] 26)).alloc (.cells #[.int .i64 p, .int .i64 a, .slice A2 n2 c2] 26) := ⟨_, rfl⟩
  obtain ⟨hk, hx, hsz, hB⟩ := two_blocks hwA
  have hcc := eqs_i64 A n c zs A2 n2 c2 wA ((h.keep fun _ hp => hB.cell hp).up hB.size) ((h2.keep fun _ hp => hB.cell hp).up hB.size) (by omega) (by omega)
  have HB := Lib.hid hB
  clear hk hx hsz hB h h2
  go_enter Try.func13, Try.ntmps13
  go_wp2_with fail
  rw [← hwA]
  refine hcc.mono ?_
  rintro e w1 ⟨rfl, hb1⟩
  clear hwA
  go_wp2
  go_ret
  exact ⟨rfl, HB.out.trans (hb1.mono HB.out.size)⟩
theorem mark_trn (p a : Int) (A : Option Addr) (n c lo hi s : Nat) (zs : List Int) (w : World) (h : Ow .i64 3 w lo hi (.slice A n c) zs) (hn : n ≤ 1048576) (hs : s ≤ 1048576) :
    Calls Try.prog 14 #[trnV p a (.slice A n c), .int .i64 s] w fun e w' => e = .returned (.int .i64 ((s + n : Nat) : Int)) ∧ Ow .i64 3 w' lo hi (.slice A n c) (marks .i64 s n) ∧ Part lo hi w w' := by
  simp only [trnV]
  obtain ⟨wA, hwA⟩ : ∃ wA, wA = w.alloc (.cells #[.int .i64 p, .int .i64 a, .slice A n c] 26) := ⟨_, rfl⟩
  obtain ⟨hk, hsz, hB⟩ := one_block hwA
  have hcc := marked_i64 A n c lo hi s zs wA (h.below hB) (by omega) (by omega)
  have HB := Lib.hid (show Part lo hi w wA from ⟨hB.os, hB.tape, hB.output, hB.size, fun i hi' _ => hB.block i hi'⟩)
  clear hk hsz hB h
  go_enter Try.func14, Try.ntmps14
  go_wp2_with fail
  rw [← hwA]
  refine hcc.mono ?_
  rintro e w1 ⟨rfl, ho, hp⟩
  clear hwA
  go_wp2
  go_ret
  refine ⟨rfl, ho, ⟨hp.os.trans HB.out.os, hp.tape.trans HB.out.tape, hp.output.trans HB.out.output, Nat.le_trans HB.out.size hp.size, fun i hi' hd => (hp.block i (Nat.lt_of_lt_of_le hi' HB.out.size) hd).trans (HB.out.block i hi' hd)⟩⟩
/-- what IsTurn answers. -/
def isTrn (p a : Int) (zs : List Int) : Bool := zs.all (fun z => inB z 0 2) && (inB p 1 99 && inB a 0 1000000 && inB (zs.length : Int) 1 8)
set_option maxHeartbeats 1000000 in
theorem spec_IsTurn (p a : Int) (A : Option Addr) (n c B : Nat) (zs : List Int) (w : World) (h : IntsAt .i64 w B A n zs) (hB : B ≤ w.heap.size) (hn : n ≤ 4294967296) :
    Calls Try.prog 50 #[trnV p a (.slice A n c)] w fun e w' => e = .returned (.bool (isTrn p a zs)) ∧ Below w.heap.size w w' := by
  simp only [trnV]
  have HL := Lib.hid h.1
  obtain ⟨wA, hwA⟩ : ∃ wA, wA = w.alloc (.cells #[.int .i64 p, .int .i64 a, .slice A n c] 26) := ⟨_, rfl⟩
  obtain ⟨hk, hsz, hBA⟩ := one_block hwA
  obtain ⟨k0, k1, k2⟩ := cells3 hk
  have HB := Lib.hid hBA
  have HH := Lib.hid (h.keep (w' := wA) fun _ hp => hBA.cell (Nat.lt_of_lt_of_le hp hB))
  clear hk hsz hBA h
  go_enter Try.func50, Try.ntmps50
  go_wp2
  rw [← hwA]
  clear hwA
  go_loopw [3] (fun i wr => ∃ k : Nat, k ≤ n ∧ i = .int .i64 k ∧ (zs.take k).all (fun z => inB z 0 2) = true ∧ wr = wA) (fun i _ => n - (intOf i).toNat)
  case atStart => exact ⟨0, Nat.zero_le _, rfl, rfl, rfl⟩
  case round =>
    obtain ⟨k, hk, rfl, hall, rfl⟩ := hrel
    by_cases hlt : k < n
    · obtain ⟨ad, rfl, hab, hc⟩ := HH.out.2 (by omega)
      have cz := hc k hlt
      have hz : zs[k]? = some (zs.getD k 0) := by rw [List.getD_eq_getElem?_getD, List.getElem?_eq_getElem (by have := HL.out; omega)]; rfl
      generalize zs.getD k 0 = z at hz cz
      have i1 : (0 : Int) ≤ (k : Int) := by omega
      have i2 : (k : Int) < (n : Int) := by omega
      have HZ := Lib.hid hz
      have HA := Lib.hid hall
      clear hz hall hc
      cases h4 : inB z 0 2
      · have HF : Hid (isTrn p a zs = false) := Lib.hid (by unfold isTrn; rw [show zs.all (fun z => inB z 0 2) = false from List.all_eq_false.2 ⟨z, List.mem_of_getElem? HZ.out, by rw [h4]; decide⟩]; rfl)
        have H4 := Lib.hid h4
        clear h4
        go_wp2_with fail
        refine (spec_l1In _ _ _ _).mono ?_
        rintro e w2 ⟨rfl, rfl⟩
        rw [H4.out]
        go_wp2
        go_ret
        exact ⟨by rw [HF.out]; rfl, HB.out⟩
      · have HA2 := Lib.hid (show (zs.take (k + 1)).all (fun z => inB z 0 2) = true by rw [List.take_add_one, HZ.out, List.all_append, HA.out]; simp [h4])
        have H4 := Lib.hid h4
        clear h4
        go_wp2_with fail
        refine (spec_l1In _ _ _ _).mono ?_
        rintro e w2 ⟨rfl, rfl⟩
        rw [H4.out]
        go_wp2
        go_roundw
        case rel => exact ⟨k + 1, by omega, by go_num, HA2.out, by first | rfl | trivial⟩
        case measure => simp [intOf]; omega
    · obtain rfl : k = n := by omega
      have HV : Hid (isTrn p a zs = (inB p 1 99 && inB a 0 1000000 && inB (k : Int) 1 8)) := Lib.hid (by unfold isTrn; rw [List.take_of_length_le (by have := HL.out; omega)] at hall; rw [hall, HL.out]; rfl)
      clear hall
      cases h1 : inB p 1 99
      rotate_left
      cases h2 : inB a 0 1000000
      rotate_left
      cases h3 : inB (k : Int) 1 8
      all_goals
        rw [h1] at HV
        try rw [h2] at HV
        try rw [h3] at HV
        have H1 := Lib.hid h1
        try have H2 := Lib.hid h2
        try have H3 := Lib.hid h3
        clear h1
        try clear h2
        try clear h3
        go_wp2_with (go_at_call 51; refine (spec_l1In _ _ _ _).mono ?_; rintro e w' ⟨rfl, rfl⟩; first | rw [H1.out] | rw [H2.out] | rw [H3.out])
        go_ret
        exact ⟨by rw [HV.out]; rfl, HB.out⟩
end Go.Proofs.Ytlpkafhapmkkfaa

/- Interleave: the model. -/
namespace Go.Proofs.Ytlpkafhapmkkfaa
open Go.RowKit
set_option linter.unusedVariables false

theorem nat_one (m : Nat) : ((m : Int) == 1) = decide (m = 1) := by
  by_cases h : m = 1
  · subst h; rfl
  · rw [decide_eq_false h]
    have h2 : ¬ ((m : Int) = 1) := by omega
    simpa using h2
theorem ret_val {x y : Int} (h : x = y) : Value.int .i64 x = Value.int .i64 y := by rw [h]
end Go.Proofs.Ytlpkafhapmkkfaa

/- Chapter 5's model. -/
namespace Go.Proofs.Ytlpkafhapmkkfaa
open Go.RowKit
set_option linter.unusedVariables false

/-- a path that lies at a block's head. -/
theorem pth_head {w : World} {g : Nat} {p : Pth} (h : PthAt w ⟨g, 0, none⟩ p) : w.cell? ⟨g, 0, none⟩ = some (.int .i64 p.id) ∧ w.cell? ⟨g, 1, none⟩ = some (.int .i64 p.kind) ∧ w.cell? ⟨g, 2, none⟩ = some (.int .i64 p.frm) ∧ w.cell? ⟨g, 3, none⟩ = some (.int .i64 p.to) := ⟨h.c0, h.c1, h.c2, h.c3⟩
theorem heap_size_alloc' (w : World) (o : Obj) : (w.alloc o).heap.size = w.heap.size + 1 := by simp
theorem pth_of_block {w : World} {g : Nat} {p : Pth} {T : TypeId} {fr : Nat × Nat} (h : w.heap[g]? = some (.cells #[.int .i64 p.id, .int .i64 p.kind, .int .i64 p.frm, .int .i64 p.to] T fr)) : PthAt w ⟨g, 0, none⟩ p :=
  ⟨by rw [cell_of_row w g 0 _ T fr h]; rfl, by rw [cell_of_row w g _ _ T fr h]; rfl, by rw [cell_of_row w g _ _ T fr h]; rfl, by rw [cell_of_row w g _ _ T fr h]; rfl⟩
theorem boxed_one {w w1 : World} {p : Pth} {T : TypeId} (hb : Below (w.alloc (.cells #[.int .i64 p.id, .int .i64 p.kind, .int .i64 p.frm, .int .i64 p.to] T)).heap.size (w.alloc (.cells #[.int .i64 p.id, .int .i64 p.kind, .int .i64 p.frm, .int .i64 p.to] T)) w1) :
    PthAt w1 ⟨w.heap.size, 0, none⟩ p ∧ w.heap.size + 1 ≤ w1.heap.size ∧ Below w.heap.size w w1 := by
  have hs := hb.size
  rw [heap_size_alloc'] at hs
  exact ⟨pth_of_block ((hb.block _ (by rw [heap_size_alloc']; omega)).trans (heap_alloc_new w _)), hs, ((Below.refl _ _).alloc (Nat.le_refl _) _).trans (hb.mono (by rw [heap_size_alloc']; omega))⟩
theorem boxed_two {w w1 : World} {p q : Pth} {T T2 : TypeId} (hb : Below ((w.alloc (.cells #[.int .i64 p.id, .int .i64 p.kind, .int .i64 p.frm, .int .i64 p.to] T)).alloc (.cells #[.int .i64 q.id, .int .i64 q.kind, .int .i64 q.frm, .int .i64 q.to] T2)).heap.size ((w.alloc (.cells #[.int .i64 p.id, .int .i64 p.kind, .int .i64 p.frm, .int .i64 p.to] T)).alloc (.cells #[.int .i64 q.id, .int .i64 q.kind, .int .i64 q.frm, .int .i64 q.to] T2)) w1) :
    PthAt w1 ⟨w.heap.size, 0, none⟩ p ∧ PthAt w1 ⟨w.heap.size + 1, 0, none⟩ q ∧ w.heap.size + 2 ≤ w1.heap.size ∧ Below w.heap.size w w1 := by
  have hs := hb.size
  rw [heap_size_alloc', heap_size_alloc'] at hs
  obtain ⟨p0, p1, p2, p3⟩ := p
  obtain ⟨q0, q1, q2, q3⟩ := q
  refine ⟨pth_of_block (T := T) (fr := (0, 0)) ((hb.block _ (by rw [heap_size_alloc', heap_size_alloc']; omega)).trans ((Below.heap_alloc _ _ _ (by rw [heap_size_alloc']; omega)).trans (heap_alloc_new w _))), pth_of_block (T := T2) (fr := (0, 0)) ((hb.block _ (by rw [heap_size_alloc', heap_size_alloc']; omega)).trans ?_), hs, (((Below.refl _ _).alloc (Nat.le_refl _) _).alloc (by rw [heap_size_alloc']; omega) _).trans (hb.mono (by rw [heap_size_alloc', heap_size_alloc']; omega))⟩
  have h := heap_alloc_new (w.alloc (.cells #[.int .i64 p0, .int .i64 p1, .int .i64 p2, .int .i64 p3] T)) (.cells #[.int .i64 q0, .int .i64 q1, .int .i64 q2, .int .i64 q3] T2)
  rwa [heap_size_alloc'] at h
end Go.Proofs.Ytlpkafhapmkkfaa

/- Regions that draw their order, whose operations read old memory and whose callees make new memory alone: one walk of the text's order. No program. -/
namespace Go.Proofs.Ytlpkafhapmkkfaa
open Go.RowKit

/-- a world in which only new memory has been made since w. -/
structure GW (w : World) where
  val : World
  ok : Below w.heap.size w val
instance (w : World) : Nonempty (GW w) := ⟨⟨w, Below.refl _ _⟩⟩
theorem wp_region_grow {P : Program} {id : Nat} {Q : Exit → Act → World → Prop} {a : Act} {w : World} {l : List Oper} (hm : P.follows .mixedOrders = true) (hB : Region.lexB .any l.toArray = true)
    (h : wpQuiet P l.toArray (fun w' => ∃ x : GW w, w' = x.val) (fun a' => ∀ x : GW w, Q .normal a' x.val) l a) : (Code.region id l.toArray true).wp P Q a w := by
  refine wp_region_quiet (C := fun w' => ∃ x : GW w, w' = x.val) hm hB ⟨⟨w.drew, ⟨rfl, rfl, rfl, Nat.le_refl _, fun _ _ => rfl⟩⟩, rfl⟩ ?_
  have e : (fun a' => ∀ w', (∃ x : GW w, w' = x.val) → Q .normal a' w') = (fun a' => ∀ x : GW w, Q .normal a' x.val) := by
    funext a'
    exact propext ⟨fun h x => h _ ⟨x, rfl⟩, fun h w' ⟨x, hx⟩ => hx ▸ h x⟩
  rw [e]
  simpa using h
/-- a callee's contract, met in such a world. -/
theorem calls_gw {P : Program} {f : FuncId} {args : Array Value} {w : World} {v : Value} (x : GW w) (h : Calls P f args x.val fun e w'' => e = .returned v ∧ Below x.val.heap.size x.val w'') :
    Calls P f args x.val fun e w'' => e = .returned v ∧ ∃ y : GW w, w'' = y.val := h.mono fun _ w'' ⟨he, hb⟩ => ⟨he, ⟨w'', x.ok.trans (hb.mono x.ok.size)⟩, rfl⟩
theorem calls_gw_same {P : Program} {f : FuncId} {args : Array Value} {w : World} {v : Value} (x : GW w) (h : Calls P f args x.val fun e w'' => e = .returned v ∧ x.val = w'') :
    Calls P f args x.val fun e w'' => e = .returned v ∧ ∃ y : GW w, w'' = y.val := h.mono fun _ _ ⟨he, hb⟩ => ⟨he, x, hb.symm⟩
end Go.Proofs.Ytlpkafhapmkkfaa

/- Chapter 5's model: lists of paths. -/
namespace Go.Proofs.Ytlpkafhapmkkfaa
open Go.RowKit
set_option linter.unusedVariables false

set_option maxHeartbeats 1000000 in
set_option maxRecDepth 100000 in
theorem spec_ArePaths (A : Option Addr) (n c B : Nat) (ps : List Pth) (w : World) (h : PthsAt w B A n ps) (hB : B ≤ w.heap.size) (hn : n ≤ 4294967296) :
    Calls Try.prog 92 #[.slice A n c] w fun e w' => e = .returned (.bool (arePs ps)) ∧ Below w.heap.size w w' := by
  have hl := h.1
  go_enter Try.func92, Try.ntmps92
  go_wp2
  go_loopw [3] (fun i wr => ∃ k : Nat, k ≤ n ∧ i = .int .i64 k ∧ (∀ j, j < k → goodAt ps j = true) ∧ Below w.heap.size w wr) (fun i _ => n - (intOf i).toNat)
  case atStart => exact ⟨0, Nat.zero_le _, rfl, fun j hj => absurd hj (by omega), Below.refl _ _⟩
  case round =>
    obtain ⟨k, hk, rfl, hgo, hbl⟩ := hrel
    have hsz := hbl.size
    by_cases hlt : k < n
    · obtain ⟨ad, p, rfl, hab, hp, hq⟩ := h.at hlt
      replace hq := hq.below hbl (by omega)
      have i1 : (0 : Int) ≤ (k : Int) := by omega
      have i2 : (k : Int) < (n : Int) := by omega
      cases hv : isP p
      · have HR : Hid (arePs ps = false) := Lib.hid (arePs_no (k := k) (by omega) (by unfold goodAt; rw [hp]; simp [hv]))
        have HV := Lib.hid hv
        clear hgo hv
        go_wp2
        have c0 := fun x : GW wr => (hq.below x.ok (by omega)).c0
        have c1 := fun x : GW wr => (hq.below x.ok (by omega)).c1
        have c2 := fun x : GW wr => (hq.below x.ok (by omega)).c2
        have c3 := fun x : GW wr => (hq.below x.ok (by omega)).c3
        have hcc := fun x : GW wr => spec_IsPath p x.val
        rw [HV.out] at hcc
        refine wp_region_grow (by kernel_rfl) (by kernel_rfl) ?_
        repeat (go_big_quiet_step (first | (go_at_call 118; exact calls_gw _ (hcc _))))
        refine wpQuiet_nil ?_
        intro x3
        have hb3 := x3.ok
        generalize x3.val = w3 at *
        go_wp2
        go_ret
        exact ⟨by rw [HR.out]; rfl, hbl.trans (hb3.mono hsz)⟩
      · have HV := Lib.hid hv
        have c0 := fun x : GW wr => (hq.below x.ok (by omega)).c0
        have c1 := fun x : GW wr => (hq.below x.ok (by omega)).c1
        have c2 := fun x : GW wr => (hq.below x.ok (by omega)).c2
        have c3 := fun x : GW wr => (hq.below x.ok (by omega)).c3
        have hcc := fun x : GW wr => spec_IsPath p x.val
        rw [HV.out] at hcc
        by_cases hk0 : k = 0
        · have HG : Hid (∀ j, j < k + 1 → goodAt ps j = true) := Lib.hid (fun j hj => by
            obtain rfl : j = k := by omega
            subst hk0
            unfold goodAt
            rw [hp]
            simp [hv])
          have d0 : decide (0 < k) = false := decide_eq_false (by omega)
          have d1 : decide ((0 : Int) < (k : Int)) = false := decide_eq_false (by omega)
          clear hgo hv hk0
          go_wp2
          refine wp_region_grow (by kernel_rfl) (by kernel_rfl) ?_
          repeat (go_big_quiet_step (first | (go_at_call 118; exact calls_gw _ (hcc _))))
          refine wpQuiet_nil ?_
          intro x3
          have hb3 := x3.ok
          generalize x3.val = w3 at *
          go_wp2
          go_roundw
          case rel => exact ⟨k + 1, by omega, by go_num, HG.out, hbl.trans (hb3.mono hsz)⟩
          case measure => simp [intOf]; omega
        · obtain ⟨m, hm⟩ : ∃ m, m + 1 = k := ⟨k - 1, by omega⟩
          obtain ⟨ad', q, e, hab2, hp2, hq2⟩ := h.at (k := m) (by omega)
          injection e with e
          subst e
          replace hq2 := hq2.below hbl (by omega)
          have d0 : decide (0 < k) = true := decide_eq_true (by omega)
          have d1 : decide ((0 : Int) < (k : Int)) = true := decide_eq_true (by omega)
          have b0 := fun x : GW wr => (hq2.below x.ok (by omega)).c0
          have j1 : (0 : Int) ≤ (m : Int) := by omega
          have j2 : (m : Int) < (n : Int) := by omega
          have w0 : IntKind.i64.wrap ((k : Int) - 1) = (m : Int) := by rw [IntKind.wrap_i64]; omega
          have w1 : wrap64 ((k : Int) - 1) = (m : Int) := by rw [IntWalk.wrap64_in _ (by omega)]; omega
          by_cases hlt2 : q.id < p.id
          · have HG : Hid (∀ j, j < k + 1 → goodAt ps j = true) := Lib.hid (fun j hj => by
              by_cases e : j = k
              · subst e
                unfold goodAt
                rw [hp]
                obtain rfl := hm
                simp [hv, hp2, hlt2]
              · exact hgo j (by omega))
            have e1 : decide (p.id ≤ q.id) = false := decide_eq_false (by omega)
            have e2 : ¬ q.id ≥ p.id := by omega
            clear hgo hv hp hp2 hm
            go_wp2
            refine wp_region_grow (by kernel_rfl) (by kernel_rfl) ?_
            repeat (go_big_quiet_step (first | (go_at_call 118; exact calls_gw _ (hcc _))))
            refine wpQuiet_nil ?_
            intro x3
            have hb3 := x3.ok
            generalize x3.val = w3 at *
            go_wp2
            go_roundw
            case rel => exact ⟨k + 1, by omega, by go_num, HG.out, hbl.trans (hb3.mono hsz)⟩
            case measure => simp [intOf]; omega
          · have HR : Hid (arePs ps = false) := Lib.hid (arePs_no (k := k) (by omega) (by
              unfold goodAt
              rw [hp]
              obtain rfl := hm
              simp [hv, hp2, hlt2]))
            have e1 : decide (p.id ≤ q.id) = true := decide_eq_true (by omega)
            clear hgo hv hp hp2 hm
            go_wp2
            refine wp_region_grow (by kernel_rfl) (by kernel_rfl) ?_
            repeat (go_big_quiet_step (first | (go_at_call 118; exact calls_gw _ (hcc _))))
            refine wpQuiet_nil ?_
            intro x3
            have hb3 := x3.ok
            generalize x3.val = w3 at *
            go_wp2
            go_ret
            exact ⟨by rw [HR.out]; rfl, hbl.trans (hb3.mono hsz)⟩
    · obtain rfl : k = n := by omega
      have HR := Lib.hid (arePs_end (ps := ps) (fun j hj => hgo j (by omega)))
      clear hgo
      go_wp2
      go_ret
      exact ⟨by rw [HR.out, hl]; simp; try omega, hbl⟩
end Go.Proofs.Ytlpkafhapmkkfaa

/- Chapter 5's model: conflicts among the paths of a list. -/

namespace Go.Proofs.Ytlpkafhapmkkfaa
open Go.RowKit
set_option linter.unusedVariables false

/-- the k-th path. -/
def pAt (ps : List Pth) (k : Nat) : Pth := ps.getD k ⟨0, 0, 0, 0⟩
theorem pAt_some {ps : List Pth} {k : Nat} {p : Pth} (h : ps[k]? = some p) : pAt ps k = p := by simp [pAt, List.getD, h]
/-- how many of the first k paths the i-th one conflicts with. -/
def cntTo (ps : List Pth) (i k : Nat) : Nat := ((ps.take k).filter (fun q => conf (pAt ps i) q)).length
def cntAll (ps : List Pth) : Nat → Nat
  | 0 => 0
  | i + 1 => cntAll ps i + cntTo ps i i
/-- what CountConflicts answers. -/
def countCs (ps : List Pth) : Int := if arePs ps then (cntAll ps ps.length : Int) else 0
theorem cntTo_zero (ps : List Pth) (i : Nat) : cntTo ps i 0 = 0 := by simp [cntTo]
theorem cntTo_yes {ps : List Pth} {i k : Nat} {p q : Pth} (hp : ps[i]? = some p) (hq : ps[k]? = some q) (h : conf p q = true) : cntTo ps i (k + 1) = cntTo ps i k + 1 := by
  unfold cntTo
  rw [List.take_add_one, hq, List.filter_append, pAt_some hp]
  simp [h]
theorem cntTo_no {ps : List Pth} {i k : Nat} {p q : Pth} (hp : ps[i]? = some p) (hq : ps[k]? = some q) (h : conf p q = false) : cntTo ps i (k + 1) = cntTo ps i k := by
  unfold cntTo
  rw [List.take_add_one, hq, List.filter_append, pAt_some hp]
  simp [h]
theorem cntTo_le (ps : List Pth) (i k : Nat) : cntTo ps i k ≤ k := by
  unfold cntTo
  exact Nat.le_trans (List.length_filter_le _ _) (by rw [List.length_take]; omega)
theorem cntAll_le (ps : List Pth) : ∀ i, i ≤ 12 → cntAll ps i ≤ 12 * i
  | 0, _ => Nat.le_refl _
  | i + 1, h => by
    have h1 := cntAll_le ps i (by omega)
    have h2 := cntTo_le ps i i
    show cntAll ps i + cntTo ps i i ≤ _
    omega
theorem arePs_len {ps : List Pth} (h : arePs ps = true) : ps.length ≤ 12 := by
  unfold arePs at h
  simp at h
  exact h.2
/-- the Ids of those of the first i paths that conflict with the k-th. -/
def confTo (ps : List Pth) (k i : Nat) : List Int := ((ps.take i).filter (fun q => conf q (pAt ps k))).map Pth.id
/-- what ConflictsOf answers. -/
def confsOf (ps : List Pth) (id : Int) : List Int := match findK id ps with
  | none => []
  | some k => if arePs ps then confTo ps k ps.length else []
theorem confTo_zero (ps : List Pth) (k : Nat) : confTo ps k 0 = [] := by simp [confTo]
theorem confTo_yes {ps : List Pth} {i k : Nat} {p q : Pth} (hp : ps[i]? = some p) (hq : ps[k]? = some q) (h : conf p q = true) : confTo ps k (i + 1) = confTo ps k i ++ [p.id] := by
  unfold confTo
  rw [List.take_add_one, hp, List.filter_append, pAt_some hq]
  simp [h]
theorem confTo_no {ps : List Pth} {i k : Nat} {p q : Pth} (hp : ps[i]? = some p) (hq : ps[k]? = some q) (h : conf p q = false) : confTo ps k (i + 1) = confTo ps k i := by
  unfold confTo
  rw [List.take_add_one, hp, List.filter_append, pAt_some hq]
  simp [h]
theorem confTo_len (ps : List Pth) (k i : Nat) : (confTo ps k i).length ≤ i := by
  unfold confTo
  rw [List.length_map]
  exact Nat.le_trans (List.length_filter_le _ _) (by rw [List.length_take]; omega)
end Go.Proofs.Ytlpkafhapmkkfaa

/- Chapter 5's model: IsTogether. -/
namespace Go.Proofs.Ytlpkafhapmkkfaa
open Go.RowKit
set_option linter.unusedVariables false

/-- the path with the k-th Id. -/
def idPth (ps : List Pth) (ids : List Int) (k : Nat) : Pth := pAt ps ((findK (ids.getD k 0) ps).getD 0)
/-- the i-th Id is a path's, is beyond the one before, and its path conflicts with none of those before. -/
def togAt (ps : List Pth) (ids : List Int) (i : Nat) : Bool := (findK (ids.getD i 0) ps).isSome && (i == 0 || decide (ids.getD (i - 1) 0 < ids.getD i 0)) && (List.range i).all (fun k => !conf (idPth ps ids i) (idPth ps ids k))
/-- what IsTogether answers. -/
def isTog (ps : List Pth) (ids : List Int) : Bool := (List.range ids.length).all (togAt ps ids) && arePs ps
theorem isTog_no {ps : List Pth} {ids : List Int} {i : Nat} (hi : i < ids.length) (h : togAt ps ids i = false) : isTog ps ids = false := by
  unfold isTog
  have : (List.range ids.length).all (togAt ps ids) = false := by
    rw [Bool.eq_false_iff]
    intro ha
    have := List.all_eq_true.1 ha i (List.mem_range.2 hi)
    rw [h] at this
    cases this
  rw [this]
  rfl
theorem isTog_end {ps : List Pth} {ids : List Int} (h : ∀ i, i < ids.length → togAt ps ids i = true) : isTog ps ids = arePs ps := by
  unfold isTog
  have : (List.range ids.length).all (togAt ps ids) = true := List.all_eq_true.2 fun k hk => h k (List.mem_range.1 hk)
  rw [this]
  simp
theorem togAt_none {ps : List Pth} {ids : List Int} {i : Nat} (h : findK (ids.getD i 0) ps = none) : togAt ps ids i = false := by unfold togAt; rw [h]; rfl
theorem togAt_low {ps : List Pth} {ids : List Int} {i : Nat} (h0 : i ≠ 0) (h : ¬ ids.getD (i - 1) 0 < ids.getD i 0) : togAt ps ids i = false := by
  unfold togAt
  have e1 : (i == 0) = false := by simpa using h0
  rw [e1, decide_eq_false h]
  simp
theorem togAt_conf {ps : List Pth} {ids : List Int} {i k : Nat} (hk : k < i) (h : conf (idPth ps ids i) (idPth ps ids k) = true) : togAt ps ids i = false := by
  unfold togAt
  have : (List.range i).all (fun k => !conf (idPth ps ids i) (idPth ps ids k)) = false := by
    rw [Bool.eq_false_iff]
    intro ha
    have := List.all_eq_true.1 ha k (List.mem_range.2 hk)
    rw [h] at this
    cases this
  rw [this]
  simp
theorem togAt_yes {ps : List Pth} {ids : List Int} {i m : Nat} (h : findK (ids.getD i 0) ps = some m) (h1 : i = 0 ∨ ids.getD (i - 1) 0 < ids.getD i 0) (h2 : ∀ k, k < i → conf (idPth ps ids i) (idPth ps ids k) = false) : togAt ps ids i = true := by
  unfold togAt
  have : (List.range i).all (fun k => !conf (idPth ps ids i) (idPth ps ids k)) = true := List.all_eq_true.2 fun k hk => by rw [h2 k (List.mem_range.1 hk)]; rfl
  rw [this, h]
  rcases h1 with rfl | h1
  · rfl
  · rw [decide_eq_true h1]; simp
theorem togAt_some {ps : List Pth} {ids : List Int} {i : Nat} (h : togAt ps ids i = true) : ∃ m p, findK (ids.getD i 0) ps = some m ∧ ps[m]? = some p ∧ idPth ps ids i = p := by
  unfold togAt at h
  cases e : findK (ids.getD i 0) ps with
  | none => rw [e] at h; simp at h
  | some m =>
    obtain ⟨p, hp, _, _⟩ := findK_at e
    exact ⟨m, p, rfl, hp, by unfold idPth; rw [e]; exact pAt_some hp⟩
end Go.Proofs.Ytlpkafhapmkkfaa

/- Chapter 6's model: ascending lists of numbers. -/
namespace Go.Proofs.Ytlpkafhapmkkfaa
open Go.RowKit
set_option linter.unusedVariables false

/-- 'append(v, x...)' at a step of a region that draws its order. -/
theorem step_app {P : Program} {w : World} {ops : Array Oper} {o : Oper} {a : Act} {K : Act → World → Prop} {Q : Exit → Act → World → Prop} {F : Prop} (hgd : o.guard = none) (s x : Operand) (t : TypeId)
    (ho : o.op = .call { callee := .builtin .append, args := #[s, x], argTypes := #[t, t] })
    (k : IntKind) (E : TypeId) (bytes : Nat) (ht : P.underlying t = some (.slice E)) (hi : (P.info? E).map (fun i => (i.zero, i.size, i.bytes)) = some (some (.int k 0), 1, bytes))
    (lo : Nat) (v : Value) (xs : List Int) (hs : a.eval s = v) (hown : Own k E w lo v xs)
    (A : Option Addr) (m c B : Nat) (zs : List Int) (hx : a.eval x = .slice A m c) (hsrc : IntsAt k w B A m zs) (hnil : A = none → m = 0 ∧ c = 0) (hb : bytes ≤ 8)
    (hbytes : xs.length + m ≤ 4398046511104) (hlo : lo ≤ w.heap.size)
    (h : ∀ v' w', Own k E w' lo v' (xs ++ zs) → w.grownBy w' v.ownBlock → K (a.put o.dst v') w') :
    if Region.wanted o (yielded ops a.tmps) = true then Oper.wp P o a w K Q else F := by
  rw [if_pos (by simp [Region.wanted, hgd])]
  obtain ⟨i, hi1, hz, hsz, hby⟩ := info_parts hi
  have hzs := hsrc.1
  obtain ⟨Av, cv, hv⟩ := hown.sliced
  cases A with
  | none =>
    obtain ⟨rfl, rfl⟩ := hnil rfl
    have hz0 : zs = [] := List.eq_nil_of_length_eq_zero hzs
    subst hz0
    have hrun := run_append_owned_none (P := P) (w := w) lo t o.type E i 1 ht hi1 v xs.length _ hown
    have hrun2 := (run_append_types ht ht o.type Av xs.length cv (.slice none 0 0) w).trans (hv ▸ hrun)
    unfold Oper.wp
    simp [execOp, ho, resolve, invoke, builtin, hs, hx, hv, hrun2, Result.andThen]
    exact hv ▸ h v w (by rw [List.append_nil]; exact hown) (World.grownBy.refl _ _)
  | some ad =>
    obtain ⟨v', w', hr, h2, h3, h4, h5⟩ := run_append_own_at (P := P) w lo t o.type E i (.int k 0) 1 bytes ht hi1 hz hsz hby rfl (by omega) v xs.length _ hown ad m c (zs.map (Value.int k)) (by simp [hzs]) (ints_news hsrc) (ints_one k zs)
      (by unfold maxLen; omega) (by have : (xs.length + m) * bytes ≤ (xs.length + m) * 8 := Nat.mul_le_mul_left _ hb; omega) hlo
    have hrun2 := (run_append_types ht ht o.type Av xs.length cv (.slice (some ad) m c) w).trans (hv ▸ hr)
    unfold Oper.wp execOp
    simp only [ho, resolve, invoke, builtin, Sem.run_bind, Sem.run_pure, Result.andThen_ok, List.map_toArray, List.map_cons, List.map_nil, hs, hx, hv, hrun2]
    refine h v' w' ?_ h3
    unfold Own
    rw [List.length_append, List.map_append, hzs]
    exact h2
/-- 'append(v, x)', one number, at such a step. -/
theorem step_one {P : Program} {w : World} {ops : Array Oper} {o : Oper} {a : Act} {K : Act → World → Prop} {Q : Exit → Act → World → Prop} {F : Prop} (hgd : o.guard = none) (s x : Operand) (t : TypeId)
    (ho : o.op = .call { callee := .builtin .append, args := #[s, x], argTypes := #[t, t] })
    (k : IntKind) (E : TypeId) (bytes : Nat) (ht : P.underlying t = some (.slice E)) (hi : (P.info? E).map (fun i => (i.zero, i.size, i.bytes)) = some (some (.int k 0), 1, bytes))
    (lo : Nat) (v : Value) (xs : List Int) (hs : a.eval s = v) (hown : Own k E w lo v xs) (hb : bytes ≤ 8) (hbytes : xs.length < 4398046511104)
    (z : Int) (H : Nat) (hlo : lo ≤ w.heap.size) (hx : a.eval x = .slice (some ⟨H, 0, none⟩) 1 1) (hc : w.cell? ⟨H, 0, none⟩ = some (.int k z))
    (h : ∀ v' w', Own k E w' lo v' (xs ++ [z]) → w.grownBy w' v.ownBlock → K (a.put o.dst v') w') :
    if Region.wanted o (yielded ops a.tmps) = true then Oper.wp P o a w K Q else F :=
  step_app hgd s x t ho k E bytes ht hi lo v xs hs hown (some ⟨H, 0, none⟩) 1 1 (H + 1) [z] hx ⟨rfl, fun _ => ⟨_, rfl, by simp, fun j hj => by
    obtain rfl : j = 0 := by omega
    rw [add_head]
    exact hc⟩⟩ (by simp) hb (by omega) hlo h
/-- how many numbers at the head are below n. -/
def lowN (zs : List Int) (n : Int) : Nat := (zs.takeWhile (fun z => decide (z < n))).length
/-- a number put into an ascending list. -/
def putI (zs : List Int) (n : Int) : List Int := if zs[lowN zs n]? = some n then zs else zs.take (lowN zs n) ++ n :: zs.drop (lowN zs n)
theorem lowN_at : ∀ {zs : List Int} {n : Int} {k : Nat}, k ≤ zs.length → (∀ i, i < k → zs.getD i 0 < n) → (k < zs.length → ¬ zs.getD k 0 < n) → lowN zs n = k
  | [], n, k, hk, _, _ => by
    have : k = 0 := by simpa using hk
    subst this
    rfl
  | z :: zs, n, 0, _, _, h => by
    have := h (by simp)
    simp at this
    unfold lowN
    simp [List.takeWhile, show decide (z < n) = false from decide_eq_false (by omega)]
  | z :: zs, n, k + 1, hk, h, h2 => by
    have h0 := h 0 (by omega)
    simp at h0
    have ih := lowN_at (zs := zs) (n := n) (k := k) (by simpa using hk) (fun i hi => by simpa using h (i + 1) (by omega)) (fun hk => by simpa using h2 (by simpa using hk))
    unfold lowN at ih ⊢
    simp [List.takeWhile, show decide (z < n) = true from decide_eq_true h0, ih]
/-- what has says. -/
def hasI (zs : List Int) (n : Int) : Bool := zs.contains n
theorem hasI_no {zs : List Int} {n : Int} (h : ∀ i, i < zs.length → zs.getD i 0 ≠ n) : hasI zs n = false := by
  unfold hasI
  rw [Bool.eq_false_iff]
  intro hc
  obtain ⟨i, hi, e⟩ := List.getElem_of_mem (List.contains_iff_mem.1 hc)
  exact h i hi (by rw [List.getD_eq_getElem?_getD, List.getElem?_eq_getElem hi]; exact e)
theorem hasI_yes {zs : List Int} {n : Int} {i : Nat} (hi : i < zs.length) (h : zs.getD i 0 = n) : hasI zs n = true := by
  unfold hasI
  refine List.contains_iff_mem.2 ?_
  rw [← h, List.getD_eq_getElem?_getD, List.getElem?_eq_getElem hi]
  exact List.getElem_mem hi
/-- a block of one number that an append has left alone. -/
theorem grown_cell {W w3 : World} {row : Option Nat} (hg : W.grownBy w3 row) {H : Nat} {x : Int} {T : TypeId} (h : W.heap[H]? = some (.cells #[.int .i64 x] T (0, 0))) (hne : row ≠ some H) : w3.cell? ⟨H, 0, none⟩ = some (.int .i64 x) := by
  rw [cell_of_row w3 H 0 #[.int .i64 x] T (0, 0) ((hg.block H (lt_of_block h) (fun e => hne e.symm)).trans h)]
  rfl
/-- an empty row of the call's own. -/
theorem own_hollow {k : IntKind} {E : TypeId} {W : World} {lo g : Nat} (h : W.heap[g]? = some (.cells #[] E (0, 0))) (hl : lo ≤ g) : Own k E W lo (.slice (some ⟨g, 0, none⟩) 0 0) [] :=
  ⟨rfl, .inr ⟨g, 0, #[], rfl, hl, h, Nat.le_refl _, by decide, rfl, rfl⟩⟩
/-- the head of a list of numbers. -/
theorem IntsAt.head {k : IntKind} {w : World} {B : Nat} {A : Option Addr} {n : Nat} {zs : List Int} (h : IntsAt k w B A n zs) (m : Nat) (hm : m ≤ n) : IntsAt k w B A m (zs.take m) := by
  refine ⟨by rw [List.length_take, h.1]; omega, fun h0 => ?_⟩
  obtain ⟨ad, e, hb, hc⟩ := h.2 (by omega)
  refine ⟨ad, e, hb, fun j hj => ?_⟩
  rw [hc j (by omega), List.getD_eq_getElem?_getD, List.getD_eq_getElem?_getD, List.getElem?_take, if_pos hj]
/-- its tail. -/
theorem IntsAt.tail {k : IntKind} {w : World} {B : Nat} {ad : Addr} {n : Nat} {zs : List Int} (h : IntsAt k w B (some ad) n zs) (m : Nat) (hm : m ≤ n) : IntsAt k w B (some (ad.add m)) (n - m) (zs.drop m) := by
  refine ⟨by rw [List.length_drop, h.1], fun h0 => ?_⟩
  obtain ⟨a2, e, hb, hc⟩ := h.2 (by omega)
  injection e with e
  subst e
  refine ⟨_, rfl, by rw [add_block]; exact hb, fun j hj => ?_⟩
  rw [add_add, hc (m + j) (by omega), List.getD_eq_getElem?_getD, List.getD_eq_getElem?_getD, List.getElem?_drop]
theorem IntsAt.laid {k : IntKind} {w W : World} {B : Nat} {A : Option Addr} {n : Nat} {zs : List Int} (h : IntsAt k w B A n zs) (hB : B ≤ w.heap.size) (hb : Below w.heap.size w W) : IntsAt k W B A n zs := h.keep fun _ hp => hb.cell (by omega)
theorem alloc_heap (w : World) (o : Obj) : (w.alloc o).heap = w.heap.push o := rfl
theorem drew_heap (w : World) : w.drew.heap = w.heap := rfl
theorem spec_l6Has (A : Option Addr) (n c B : Nat) (zs : List Int) (x : Int) (w : World) (h : IntsAt .i64 w B A n zs) (hn : n ≤ 4294967296) :
    Calls Try.prog 72 #[.slice A n c, .int .i64 x] w fun e w' => e = .returned (.bool (hasI zs x)) ∧ w = w' := by
  have hl := h.1
  go_enter Try.func72, Try.ntmps72
  go_wp2
  go_loop [5] (fun i => ∃ k : Nat, k ≤ n ∧ i = .int .i64 k ∧ ∀ j, j < k → zs.getD j 0 ≠ x) (fun i => n - (intOf i).toNat)
  case atStart => exact ⟨0, Nat.zero_le _, rfl, fun j hj => absurd hj (by omega)⟩
  case round =>
    obtain ⟨k, hk, rfl, hno⟩ := hrel
    by_cases hlt : k < n
    · obtain ⟨ad, rfl, hab, hcell⟩ := h.2 (by omega)
      have hc := hcell k hlt
      have HN := Lib.hid hno
      clear hno hcell
      by_cases he : zs.getD k 0 = x
      · have HR : Hid (hasI zs x = true) := Lib.hid (hasI_yes (by omega) he)
        rw [he] at hc
        clear he
        go_wp2
        go_ret
        exact ⟨by rw [HR.out]; rfl, rfl⟩
      · have HS : Hid (∀ j, j < k + 1 → zs.getD j 0 ≠ x) := Lib.hid (fun j hj => by
          by_cases e : j = k
          · subst e; exact he
          · exact HN.out j (by omega))
        generalize zs.getD k 0 = z at *
        have e1 : (z == x) = false := by simpa using he
        clear he
        go_wp2
        go_round
        case rel => exact ⟨k + 1, by omega, by go_num, HS.out⟩
        case measure => simp [intOf]; omega
    · obtain rfl : k = n := by omega
      have HR : Hid (hasI zs x = false) := Lib.hid (hasI_no (fun i hi => hno i (by omega)))
      clear hno
      go_wp2
      go_ret
      exact ⟨by rw [HR.out]; rfl, rfl⟩
end Go.Proofs.Ytlpkafhapmkkfaa

/- Chapter 6's model: full stages. -/
namespace Go.Proofs.Ytlpkafhapmkkfaa
open Go.RowKit
set_option linter.unusedVariables false

theorem putI_length (zs : List Int) (n : Int) : (putI zs n).length ≤ zs.length + 1 := by
  unfold putI
  split
  · omega
  · rw [List.length_append, List.length_cons, List.length_take, List.length_drop]
    omega
/-- the i-th path is in the stage, or may not be put into it. -/
def fullAt (ps : List Pth) (zs : List Int) (i : Nat) : Bool := hasI zs (pAt ps i).id || !isTog ps (putI zs (pAt ps i).id)
/-- what IsFullStage answers. -/
def isFull (ps : List Pth) (zs : List Int) : Bool := (List.range ps.length).all (fullAt ps zs) && isTog ps zs
theorem isFull_no {ps : List Pth} {zs : List Int} {i : Nat} (hi : i < ps.length) (h : fullAt ps zs i = false) : isFull ps zs = false := by
  unfold isFull
  have : (List.range ps.length).all (fullAt ps zs) = false := by
    rw [Bool.eq_false_iff]
    intro ha
    have := List.all_eq_true.1 ha i (List.mem_range.2 hi)
    rw [h] at this
    cases this
  rw [this]
  rfl
theorem isFull_end {ps : List Pth} {zs : List Int} (h : ∀ i, i < ps.length → fullAt ps zs i = true) : isFull ps zs = isTog ps zs := by
  unfold isFull
  have : (List.range ps.length).all (fullAt ps zs) = true := List.all_eq_true.2 fun k hk => h k (List.mem_range.1 hk)
  rw [this]
  simp
/-- the first k paths tried one by one. -/
def addTo (ps : List Pth) (zs : List Int) : Nat → List Int
  | 0 => zs
  | k + 1 => if isTog ps (putI (addTo ps zs k) (pAt ps k).id) then putI (addTo ps zs k) (pAt ps k).id else addTo ps zs k
/-- what AddToStage answers. -/
def addS (ps : List Pth) (zs : List Int) : List Int := if isTog ps zs then addTo ps zs ps.length else zs
theorem addTo_length (ps : List Pth) (zs : List Int) : ∀ k, (addTo ps zs k).length ≤ zs.length + k
  | 0 => Nat.le_refl _
  | k + 1 => by
    have ih := addTo_length ps zs k
    have h := putI_length (addTo ps zs k) (pAt ps k).id
    unfold addTo
    split <;> omega
end Go.Proofs.Ytlpkafhapmkkfaa

/- Chapter 6's model: lists of stages, read. -/
namespace Go.Proofs.Ytlpkafhapmkkfaa
open Go.RowKit
set_option linter.unusedVariables false

/-- A slice of slices of numbers, all in blocks below B. -/
def SSAt (w : World) (B : Nat) (A : Option Addr) (n : Nat) (zss : List (List Int)) : Prop :=
  zss.length = n ∧ (0 < n → ∃ ad, A = some ad ∧ ad.block < B ∧ ∀ j, j < n → ∃ A' m c, w.cell? (ad.add j) = some (.slice A' m c) ∧ IntsAt .i64 w B A' m (zss.getD j []) ∧ m ≤ c ∧ (A' = none → m = 0 ∧ c = 0))
theorem SSAt.at {w : World} {B : Nat} {A : Option Addr} {n : Nat} {zss : List (List Int)} (h : SSAt w B A n zss) {j : Nat} (hj : j < n) :
    ∃ ad A' m c, A = some ad ∧ (ad.add j).block < B ∧ w.cell? (ad.add j) = some (.slice A' m c) ∧ IntsAt .i64 w B A' m (zss.getD j []) ∧ m ≤ c ∧ (A' = none → m = 0 ∧ c = 0) := by
  obtain ⟨ad, e, hb, hc⟩ := h.2 (by omega)
  obtain ⟨A', m, c, h1, h2, h3, h4⟩ := hc j hj
  exact ⟨ad, A', m, c, e, by rw [add_block]; exact hb, h1, h2, h3, h4⟩
/-- a path is in one of the stages. -/
def inSome (zss : List (List Int)) (id : Int) : Bool := zss.any (fun zs => hasI zs id)
/-- what Covers answers. -/
def coversP (ps : List Pth) (zss : List (List Int)) : Bool := zss.all (isTog ps) && (List.range ps.length).all (fun i => inSome zss (pAt ps i).id) && arePs ps
theorem covers_tog {ps : List Pth} {zss : List (List Int)} {j : Nat} (hj : j < zss.length) (h : isTog ps (zss.getD j []) = false) : coversP ps zss = false := by
  unfold coversP
  have : zss.all (isTog ps) = false := by
    rw [Bool.eq_false_iff]
    intro ha
    have := List.all_eq_true.1 ha (zss.getD j []) (by rw [List.getD_eq_getElem?_getD, List.getElem?_eq_getElem hj]; exact List.getElem_mem hj)
    rw [h] at this
    cases this
  rw [this]
  rfl
theorem covers_out {ps : List Pth} {zss : List (List Int)} {j : Nat} (hj : j < ps.length) (h : inSome zss (pAt ps j).id = false) : coversP ps zss = false := by
  unfold coversP
  have : (List.range ps.length).all (fun i => inSome zss (pAt ps i).id) = false := by
    rw [Bool.eq_false_iff]
    intro ha
    have := List.all_eq_true.1 ha j (List.mem_range.2 hj)
    rw [h] at this
    cases this
  rw [this]
  simp
theorem covers_end {ps : List Pth} {zss : List (List Int)} (h1 : ∀ j, j < zss.length → isTog ps (zss.getD j []) = true) (h2 : ∀ i, i < ps.length → inSome zss (pAt ps i).id = true) : coversP ps zss = arePs ps := by
  unfold coversP
  have a : zss.all (isTog ps) = true := List.all_eq_true.2 fun zs hz => by
    obtain ⟨j, hj, e⟩ := List.getElem_of_mem hz
    have := h1 j hj
    rw [List.getD_eq_getElem?_getD, List.getElem?_eq_getElem hj] at this
    rw [← e]
    exact this
  have b : (List.range ps.length).all (fun i => inSome zss (pAt ps i).id) = true := List.all_eq_true.2 fun k hk => h2 k (List.mem_range.1 hk)
  rw [a, b]
  simp
theorem inSome_take {zss : List (List Int)} {k : Nat} (id : Int) (hk : k < zss.length) : inSome (zss.take (k + 1)) id = (inSome (zss.take k) id || hasI (zss.getD k []) id) := by
  unfold inSome
  rw [List.take_add_one, List.any_append, List.getElem?_eq_getElem hk, List.getD_eq_getElem?_getD, List.getElem?_eq_getElem hk]
  simp
end Go.Proofs.Ytlpkafhapmkkfaa

/- Slices of slices of numbers of a call's own. -/
namespace Go.Proofs.Ytlpkafhapmkkfaa
open Go.RowKit
set_option linter.unusedVariables false

theorem info_ints : (Try.prog.info? 22).map (fun i => (i.zero, i.size, i.bytes)) = some (some (.slice none 0 0), 1, 24) := by kernel_rfl
/-- v is a slice of the call's own (a block from lo on), of slices of the call's own. -/
def OwnSS (w : World) (lo : Nat) (v : Value) (zss : List (List Int)) : Prop :=
  ∃ vs : List Value, w.ownsRow lo 22 1 v zss.length vs ∧ ∀ j, j < zss.length → ∃ u, vs[j]? = some u ∧ Own .i64 3 w lo u (zss.getD j [])
/-- rows of other types lie in other blocks. -/
theorem own_apart {w : World} {lo lo2 : Nat} {u v : Value} {zs : List Int} {n : Nat} {vs : List Value} (h : Own .i64 3 w lo u zs) (h2 : w.ownsRow lo2 22 1 v n vs) : ∀ g, u.ownBlock = some g → v.ownBlock ≠ some g := by
  intro g hg e
  rcases h.2 with ⟨rfl, _⟩ | ⟨g1, cap, cur, rfl, hb, hg1, r⟩
  · cases hg
  · rcases h2.2 with ⟨rfl, _⟩ | ⟨g2, cap2, cur2, rfl, hb2, hg2, r2⟩
    · cases e
    · have e1 : g1 = g := Option.some.inj hg
      have e2 : g2 = g := Option.some.inj e
      subst e1
      subst e2
      rw [hg1] at hg2
      injection hg2 with hg2
      injection hg2 with _ ht
      exact absurd ht (by decide)
theorem OwnSS.apart {w : World} {lo lo2 : Nat} {u v : Value} {zs : List Int} {zss : List (List Int)} (h : OwnSS w lo2 v zss) (h2 : Own .i64 3 w lo u zs) : ∀ g, u.ownBlock = some g → v.ownBlock ≠ some g := by
  obtain ⟨vs, hr, _⟩ := h
  exact own_apart h2 hr
theorem OwnSS.mono {w : World} {lo lo' : Nat} {v : Value} {zss : List (List Int)} (h : OwnSS w lo v zss) (hl : lo' ≤ lo) : OwnSS w lo' v zss := by
  obtain ⟨vs, hr, hi⟩ := h
  refine ⟨vs, ownr_mono hr hl, fun j hj => ?_⟩
  obtain ⟨u, h1, h2⟩ := hi j hj
  exact ⟨u, h1, h2.mono hl⟩
theorem OwnSS.below {w w' : World} {lo : Nat} {v : Value} {zss : List (List Int)} (h : OwnSS w lo v zss) (hb : Below w.heap.size w w') : OwnSS w' lo v zss := by
  obtain ⟨vs, hr, hi⟩ := h
  refine ⟨vs, ownr_below hr hb, fun j hj => ?_⟩
  obtain ⟨u, h1, h2⟩ := hi j hj
  exact ⟨u, h1, h2.below hb⟩
theorem OwnSS.alloc {w : World} {lo : Nat} {v : Value} {zss : List (List Int)} (h : OwnSS w lo v zss) (o : Obj) : OwnSS (w.alloc o) lo v zss := h.below ((Below.refl _ _).alloc (Nat.le_refl _) _)
theorem OwnSS.sliced {w : World} {lo : Nat} {v : Value} {zss : List (List Int)} (h : OwnSS w lo v zss) : ∃ A c, v = .slice A zss.length c := by
  obtain ⟨vs, hr, _⟩ := h
  exact ownr_sliced hr
theorem OwnSS.block {w : World} {lo : Nat} {v : Value} {zss : List (List Int)} (h : OwnSS w lo v zss) : ∀ g, v.ownBlock = some g → lo ≤ g ∧ g < w.heap.size := by
  obtain ⟨vs, hr, _⟩ := h
  exact ownr_block hr
theorem OwnSS.hollow {W : World} {lo g : Nat} (h : W.heap[g]? = some (.cells #[] 22 (0, 0))) (hl : lo ≤ g) : OwnSS W lo (.slice (some ⟨g, 0, none⟩) 0 0) [] :=
  ⟨[], ⟨rfl, .inr ⟨g, 0, #[], rfl, hl, h, Nat.le_refl _, by decide, rfl, rfl⟩⟩, fun j hj => absurd hj (by simp)⟩
/-- a row of the call's own, put behind. -/
theorem OwnSS.put {w w1 w' : World} {lo : Nat} {v v' u : Value} {zss : List (List Int)} {zs : List Int} (vs : List Value) (hr : w.ownsRow lo 22 1 v zss.length vs) (hi : ∀ j, j < zss.length → ∃ u, vs[j]? = some u ∧ Own .i64 3 w lo u (zss.getD j [])) (h2 : Own .i64 3 w lo u zs)
    (hb : Below w.heap.size w w1) (hr' : w'.ownsRow lo 22 1 v' (zss.length + 1) (vs ++ [u])) (hg : w1.grownBy w' v.ownBlock) : OwnSS w' lo v' (zss ++ [zs]) := by
  have hl : vs.length = zss.length := by have := hr.1; omega
  have hr1 := ownr_below hr hb
  have kept : ∀ {x : Value} {xs : List Int}, Own .i64 3 w lo x xs → Own .i64 3 w' lo x xs := fun hx => (hx.below hb).grown hg (own_apart (hx.below hb) hr1)
  refine ⟨vs ++ [u], by rw [List.length_append]; exact hr', fun j hj => ?_⟩
  rw [List.length_append, List.length_singleton] at hj
  by_cases e : j < zss.length
  · obtain ⟨x, h1, h3⟩ := hi j e
    refine ⟨x, by rw [List.getElem?_append_left (by omega)]; exact h1, ?_⟩
    rw [List.getD_eq_getElem?_getD, List.getElem?_append_left e, ← List.getD_eq_getElem?_getD]
    exact kept h3
  · obtain rfl : j = zss.length := by omega
    refine ⟨u, by rw [List.getElem?_append_right (by omega)]; simp [hl], ?_⟩
    rw [List.getD_eq_getElem?_getD, List.getElem?_append_right (by omega)]
    simpa using kept h2
theorem addS_length (ps : List Pth) (zs : List Int) : (addS ps zs).length ≤ zs.length + ps.length := by
  unfold addS
  split
  · exact addTo_length _ _ _
  · omega
/-- the stages laid for the first i paths, and the paths done by them. -/
def coverTo (ps : List Pth) : Nat → List (List Int) × List Int
  | 0 => ([], [])
  | i + 1 => if hasI (coverTo ps i).2 (pAt ps i).id then coverTo ps i else ((coverTo ps i).1 ++ [addS ps [(pAt ps i).id]], (addS ps [(pAt ps i).id]).foldl putI (coverTo ps i).2)
/-- what CoverOf answers. -/
def coverP (ps : List Pth) : List (List Int) := if arePs ps then (coverTo ps ps.length).1 else []
theorem foldl_putI_length (s d : List Int) : (s.foldl putI d).length ≤ d.length + s.length := by
  induction s generalizing d with
  | nil => exact Nat.le_refl _
  | cons x s ih =>
    have h1 := ih (putI d x)
    have h2 := putI_length d x
    rw [List.foldl_cons, List.length_cons]
    omega
theorem coverTo_len (ps : List Pth) : ∀ i, (coverTo ps i).1.length ≤ i ∧ (coverTo ps i).2.length ≤ i * (1 + ps.length)
  | 0 => ⟨Nat.le_refl _, Nat.zero_le _⟩
  | i + 1 => by
    obtain ⟨h1, h2⟩ := coverTo_len ps i
    have hs := addS_length ps [(pAt ps i).id]
    have hf := foldl_putI_length (addS ps [(pAt ps i).id]) (coverTo ps i).2
    have e : (i + 1) * (1 + ps.length) = i * (1 + ps.length) + (1 + ps.length) := Nat.succ_mul _ _
    rw [List.length_singleton] at hs
    unfold coverTo
    split
    · exact ⟨by omega, by omega⟩
    · refine ⟨?_, ?_⟩
      · show ((coverTo ps i).1 ++ [_]).length ≤ _
        rw [List.length_append, List.length_singleton]
        omega
      · show (List.foldl putI _ _).length ≤ _
        omega
end Go.Proofs.Ytlpkafhapmkkfaa

/- The laws' helpers for slices of slices of numbers. -/
namespace Go.Proofs.Ytlpkafhapmkkfaa
open Go.RowKit
set_option linter.unusedVariables false

/-- no two of these lie in one block. -/
def ApartL (us : List Value) : Prop := ∀ (i j : Nat) (u u' : Value), i ≠ j → us[i]? = some u → us[j]? = some u' → ∀ g, u.ownBlock = some g → u'.ownBlock ≠ some g
theorem ApartL.nil : ApartL [] := fun i j u u' _ h => by simp at h
theorem ApartL.snoc {us : List Value} {u : Value} {b : Nat} (h : ApartL us) (h1 : ∀ x ∈ us, ∀ g, x.ownBlock = some g → g < b) (h2 : ∀ g, u.ownBlock = some g → b ≤ g) : ApartL (us ++ [u]) := by
  intro i j x y hij hx hy g hg e
  rw [List.getElem?_append] at hx hy
  split at hx
  · rename_i hi
    split at hy
    · exact h i j x y hij hx hy g hg e
    · rename_i hj
      have : j - us.length = 0 := by
        have := (List.getElem?_eq_some_iff.1 hy).1
        simp at this; omega
      rw [this] at hy
      simp at hy
      subst hy
      have := h1 x (List.mem_of_getElem? hx) g hg
      have := h2 g e
      omega
  · rename_i hi
    have hi0 : i - us.length = 0 := by
      have := (List.getElem?_eq_some_iff.1 hx).1
      simp at this; omega
    rw [hi0] at hx
    simp at hx
    subst hx
    split at hy
    · have := h1 y (List.mem_of_getElem? hy) g e
      have := h2 g hg
      omega
    · rename_i hj
      have : j - us.length = 0 := by
        have := (List.getElem?_eq_some_iff.1 hy).1
        simp at this; omega
      omega
/-- a row of rows of the call's own; each row in its own block. -/
structure OwnD (w : World) (lo : Nat) (v : Value) (us : List Value) (zss : List (List Int)) : Prop where
  row : w.ownsRow lo 22 1 v zss.length us
  each : ∀ j, j < zss.length → ∃ u, us[j]? = some u ∧ Own .i64 3 w lo u (zss.getD j [])
  apart : ApartL us
theorem OwnD.len {w : World} {lo : Nat} {v : Value} {us : List Value} {zss : List (List Int)} (h : OwnD w lo v us zss) : us.length = zss.length := by have := h.row.1; omega
theorem OwnD.ss {w : World} {lo : Nat} {v : Value} {us : List Value} {zss : List (List Int)} (h : OwnD w lo v us zss) : OwnSS w lo v zss := ⟨us, h.row, h.each⟩
theorem OwnD.below {w w' : World} {lo : Nat} {v : Value} {us : List Value} {zss : List (List Int)} (h : OwnD w lo v us zss) (hb : Below w.heap.size w w') : OwnD w' lo v us zss :=
  ⟨ownr_below h.row hb, fun j hj => by obtain ⟨u, h1, h2⟩ := h.each j hj; exact ⟨u, h1, h2.below hb⟩, h.apart⟩
theorem OwnD.mono {w : World} {lo lo' : Nat} {v : Value} {us : List Value} {zss : List (List Int)} (h : OwnD w lo v us zss) (hl : lo' ≤ lo) : OwnD w lo' v us zss :=
  ⟨ownr_mono h.row hl, fun j hj => by obtain ⟨u, h1, h2⟩ := h.each j hj; exact ⟨u, h1, h2.mono hl⟩, h.apart⟩
theorem OwnSS.rows {w : World} {lo : Nat} {A : Option Addr} {n c : Nat} {zss : List (List Int)} (h : OwnSS w lo (.slice A n c) zss) : SSAt w w.heap.size A n zss := by
  obtain ⟨vs, hr, hi⟩ := h
  have hn := ownr_len hr
  subst hn
  refine ⟨rfl, fun h0 => ?_⟩
  have hcl := (ownr_cells hr).2 (by omega)
  obtain ⟨ad, e, hb, hc⟩ := hcl
  refine ⟨ad, e, hb, fun j hj => ?_⟩
  obtain ⟨u, h1, h2⟩ := hi j hj
  obtain ⟨A', c', rfl⟩ := h2.sliced
  refine ⟨A', _, c', hc j _ h1, ?_, (ownr_cap h2).1, ownr_nilcap h2⟩
  exact h2.ints
theorem OwnSS.cap {w : World} {lo : Nat} {A : Option Addr} {n c : Nat} {zss : List (List Int)} (h : OwnSS w lo (.slice A n c) zss) : (A = none → n = 0 ∧ c = 0) ∧ n ≤ c ∧ c ≤ maxLen := by
  obtain ⟨vs, hr, hi⟩ := h
  exact ⟨ownr_nilcap hr, ownr_cap hr⟩
theorem SSAt.keep {w w' : World} {B : Nat} {A : Option Addr} {n : Nat} {zss : List (List Int)} (h : SSAt w B A n zss) (hk : ∀ p : Addr, p.block < B → w'.cell? p = w.cell? p) : SSAt w' B A n zss := by
  refine ⟨h.1, fun h0 => ?_⟩
  obtain ⟨ad, e, hb, hc⟩ := h.2 h0
  refine ⟨ad, e, hb, fun j hj => ?_⟩
  obtain ⟨A', m, c, h1, h2, h3, h4⟩ := hc j hj
  exact ⟨A', m, c, (hk _ (by rw [add_block]; exact hb)).trans h1, h2.keep hk, h3, h4⟩
theorem SSAt.up {w : World} {B B' : Nat} {A : Option Addr} {n : Nat} {zss : List (List Int)} (h : SSAt w B A n zss) (hB : B ≤ B') : SSAt w B' A n zss := by
  refine ⟨h.1, fun h0 => ?_⟩
  obtain ⟨ad, e, hb, hc⟩ := h.2 h0
  refine ⟨ad, e, by omega, fun j hj => ?_⟩
  obtain ⟨A', m, c, h1, h2, h3, h4⟩ := hc j hj
  exact ⟨A', m, c, h1, h2.up hB, h3, h4⟩
theorem made_nils (n : Nat) : (madeCells (Value.slice none 0 0).cells (n * 1)).toList = List.replicate n (Value.slice none 0 0) := by
  simp only [madeCells, Value.cells]
  apply List.ext_getElem?
  intro i
  simp only [Array.toList_map, List.getElem?_map, Nat.mul_one]
  by_cases h : i < n
  · simp [h, Nat.mod_one]
  · simp [h]
theorem set_next (us : List Value) (n : Nat) (u : Value) (h : us.length < n) : (us ++ List.replicate (n - us.length) (Value.slice none 0 0)).set us.length u = (us ++ [u]) ++ List.replicate (n - (us ++ [u]).length) (Value.slice none 0 0) := by
  rw [List.set_append_right _ _ (Nat.le_refl _), Nat.sub_self, List.length_append, List.length_singleton]
  have e : n - us.length = (n - (us.length + 1)) + 1 := by omega
  rw [e, List.replicate_succ, List.set_cons_zero]
  simp
theorem apart_row {w : World} {lo lo2 : Nat} {u v : Value} {zs : List Int} {n : Nat} {vs : List Value} (h : Own .i64 3 w lo u zs) (h2 : w.ownsRow lo2 22 1 v n vs) : ∀ g, u.ownBlock = some g → v.ownBlock ≠ some g := own_apart h h2
theorem sz_ints (A : Option Addr) (n c : Nat) (left : Int) (w : World) (hn : n ≤ 9223372036854775807) (hl : 0 ≤ left ∧ left ≤ 1048576) :
    Calls Try.prog 49 #[.slice A n c, .int .i64 left] w fun e w' => e = .returned (.int .i64 (if (n : Int) ≤ left then left - (n : Int) else -1)) ∧ w = w' := by
  obtain ⟨l1, l2⟩ := hl
  by_cases h : (n : Int) ≤ left
  · rw [if_pos h]
    go_enter Try.func49, Try.ntmps49
    go_wp2
    go_ret
    exact ⟨rfl, rfl⟩
  · rw [if_neg h]
    go_enter Try.func49, Try.ntmps49
    go_wp2
    go_ret
    exact ⟨rfl, rfl⟩
/-- a slice of slices that a call is given. -/
structure SlSS (w : World) (A : Option Addr) (n c : Nat) (zss : List (List Int)) : Prop where
  ss : SSAt w w.heap.size A n zss
  bare : A = none → n = 0 ∧ c = 0
  cap : n ≤ c ∧ c ≤ maxLen
/-- few and short. -/
def SmallSS (zss : List (List Int)) : Prop := zss.length ≤ 1048576 ∧ ∀ j, j < zss.length → (zss.getD j []).length ≤ 1048576
theorem SmallSS.at {zss : List (List Int)} (h : SmallSS zss) (n M : Nat) (hn : n = zss.length) (hM : 1048576 ≤ M) : ∀ j, j < n → (zss.getD j []).length ≤ M := fun j hj => Nat.le_trans (h.2 j (by omega)) hM
/-- rows of the call's own, between two block numbers. -/
structure OwD (w : World) (lo hi : Nat) (v : Value) (us : List Value) (zss : List (List Int)) : Prop where
  own : OwnD w lo v us zss
  lt : ∀ g, v.ownBlock = some g → g < hi
  ltu : ∀ u ∈ us, ∀ g, u.ownBlock = some g → lo ≤ g ∧ g < hi
  top : hi ≤ w.heap.size
theorem OwnD.inner {w : World} {lo : Nat} {v : Value} {us : List Value} {zss : List (List Int)} (h : OwnD w lo v us zss) {u : Value} (hu : u ∈ us) : ∃ zs, Own .i64 3 w lo u zs := by
  obtain ⟨j, hj, rfl⟩ := List.getElem_of_mem hu
  have hl := h.len
  obtain ⟨x, h1, h2⟩ := h.each j (by omega)
  rw [List.getElem?_eq_getElem hj] at h1
  injection h1 with h1
  subst h1
  exact ⟨_, h2⟩
theorem OwD.new {w : World} {lo : Nat} {v : Value} {us : List Value} {zss : List (List Int)} (h : OwnD w lo v us zss) : OwD w lo w.heap.size v us zss :=
  ⟨h, fun g e => (ownr_block h.row g e).2, fun u hu g e => by obtain ⟨zs, ho⟩ := h.inner hu; exact ho.block g e, Nat.le_refl _⟩
theorem OwD.below {w w' : World} {lo hi : Nat} {v : Value} {us : List Value} {zss : List (List Int)} (h : OwD w lo hi v us zss) (hb : Below w.heap.size w w') : OwD w' lo hi v us zss := ⟨h.own.below hb, h.lt, h.ltu, Nat.le_trans h.top hb.size⟩
theorem OwD.ints {w : World} {lo hi : Nat} {A : Option Addr} {n c : Nat} {us : List Value} {zss : List (List Int)} (h : OwD w lo hi (.slice A n c) us zss) : SSAt w w.heap.size A n zss := h.own.ss.rows
theorem OwD.sl {w : World} {lo hi : Nat} {A : Option Addr} {n c : Nat} {us : List Value} {zss : List (List Int)} (h : OwD w lo hi (.slice A n c) us zss) : SlSS w A n c zss := ⟨h.ints, h.own.ss.cap.1, h.own.ss.cap.2⟩
theorem OwD.part {w w' : World} {lo hi l h' : Nat} {v : Value} {us : List Value} {zss : List (List Int)} (h : OwD w lo hi v us zss) (hp : Part l h' w w') (hd : hi ≤ l ∨ h' ≤ lo) : OwD w' lo hi v us zss := by
  refine ⟨⟨?_, fun j hj => ?_, h.own.apart⟩, h.lt, h.ltu, Nat.le_trans h.top hp.size⟩
  · refine ⟨h.own.row.1, ?_⟩
    rcases h.own.row.2 with h2 | ⟨g, cap, cur, rfl, hl, hg, r⟩
    · exact .inl h2
    · have hlt := h.lt g rfl
      have htop := h.top
      exact .inr ⟨g, cap, cur, rfl, hl, (hp.block g (by omega) (by omega)).trans hg, r⟩
  · obtain ⟨u, h1, h2⟩ := h.own.each j hj
    refine ⟨u, h1, h2.1, ?_⟩
    have hu := List.mem_of_getElem? h1
    rcases h2.2 with h3 | ⟨g, cap, cur, rfl, hl, hg, r⟩
    · exact .inl h3
    · have hlt := h.ltu _ hu g rfl
      have htop := h.top
      exact .inr ⟨g, cap, cur, rfl, hl, (hp.block g (by omega) (by omega)).trans hg, r⟩
/-- how many numbers the first k rows hold. -/
def tot (zss : List (List Int)) (k : Nat) : Nat := ((zss.take k).map List.length).sum
theorem tot_zero (zss : List (List Int)) : tot zss 0 = 0 := by simp [tot]
theorem tot_succ {zss : List (List Int)} {k : Nat} (h : k < zss.length) : tot zss (k + 1) = tot zss k + (zss.getD k []).length := by
  unfold tot
  rw [List.take_add_one, List.getElem?_eq_getElem h, List.map_append, List.sum_append, List.getD_eq_getElem?_getD, List.getElem?_eq_getElem h]
  simp
theorem tot_le {zss : List (List Int)} (h : SmallSS zss) : ∀ k, k ≤ zss.length → tot zss k ≤ k * 1048576
  | 0, _ => by rw [tot_zero]; exact Nat.zero_le _
  | k + 1, hk => by
    have ih := tot_le h k (by omega)
    have := h.2 k (by omega)
    rw [tot_succ (by omega)]
    omega
theorem tot_top {zss : List (List Int)} (h : SmallSS zss) {k : Nat} (hk : k ≤ zss.length) : tot zss k ≤ 1099511627776 := by
  have h1 := tot_le h k hk
  have h2 := h.1
  have : k * 1048576 ≤ 1048576 * 1048576 := Nat.mul_le_mul_right _ (by omega)
  omega
/-- the first k rows marked. -/
def mixS (s : Nat) (zss : List (List Int)) (k : Nat) : List (List Int) := (List.range zss.length).map fun j => if j < k then marks .i64 ((s + tot zss j : Nat) : Int) (zss.getD j []).length else zss.getD j []
theorem mixS_len (s : Nat) (zss : List (List Int)) (k : Nat) : (mixS s zss k).length = zss.length := by simp [mixS]
theorem mixS_at (s : Nat) (zss : List (List Int)) (k : Nat) {j : Nat} (h : j < zss.length) : (mixS s zss k).getD j [] = if j < k then marks .i64 ((s + tot zss j : Nat) : Int) (zss.getD j []).length else zss.getD j [] := by
  simp [mixS, List.getD_eq_getElem?_getD, h]
theorem mixS_row (s : Nat) (zss : List (List Int)) (k : Nat) {j : Nat} (h : j < zss.length) : ((mixS s zss k).getD j []).length = (zss.getD j []).length := by
  rw [mixS_at s zss k h]
  split
  · rw [marks_length]
  · rfl
theorem mixS_zero (s : Nat) (zss : List (List Int)) : mixS s zss 0 = zss := by
  apply List.ext_getElem?
  intro i
  by_cases h : i < zss.length
  · simp [mixS, h]
  · rw [List.getElem?_eq_none (by rw [mixS_len]; omega), List.getElem?_eq_none (by omega)]
/-- the same, where nothing is said of two rows' blocks. -/
structure OwE (w : World) (lo hi : Nat) (v : Value) (us : List Value) (zss : List (List Int)) : Prop where
  row : w.ownsRow lo 22 1 v zss.length us
  each : ∀ j, j < zss.length → ∃ u, us[j]? = some u ∧ Own .i64 3 w lo u (zss.getD j [])
  lt : ∀ g, v.ownBlock = some g → g < hi
  ltu : ∀ (j : Nat) (u : Value), us[j]? = some u → ∀ g, u.ownBlock = some g → lo ≤ g ∧ g < hi
  top : hi ≤ w.heap.size
theorem OwE.new {w : World} {lo : Nat} {v : Value} {us : List Value} {zss : List (List Int)} (hr : w.ownsRow lo 22 1 v zss.length us) (hi : ∀ j, j < zss.length → ∃ u, us[j]? = some u ∧ Own .i64 3 w lo u (zss.getD j [])) : OwE w lo w.heap.size v us zss :=
  ⟨hr, hi, fun g e => (ownr_block hr g e).2, fun j u hj g e => by
    have hl := hr.1
    obtain ⟨u', h1, h2⟩ := hi j (by have := (List.getElem?_eq_some_iff.1 hj).1; omega)
    rw [hj] at h1
    injection h1 with h1
    subst h1
    exact h2.block g e, Nat.le_refl _⟩
theorem OwE.below {w w' : World} {lo hi : Nat} {v : Value} {us : List Value} {zss : List (List Int)} (h : OwE w lo hi v us zss) (hb : Below w.heap.size w w') : OwE w' lo hi v us zss :=
  ⟨ownr_below h.row hb, fun j hj => by obtain ⟨u, h1, h2⟩ := h.each j hj; exact ⟨u, h1, h2.below hb⟩, h.lt, h.ltu, Nat.le_trans h.top hb.size⟩
theorem OwE.ints {w : World} {lo hi : Nat} {A : Option Addr} {n c : Nat} {us : List Value} {zss : List (List Int)} (h : OwE w lo hi (.slice A n c) us zss) : SSAt w w.heap.size A n zss := OwnSS.rows ⟨us, h.row, h.each⟩
theorem OwE.part {w w' : World} {lo hi l h' : Nat} {v : Value} {us : List Value} {zss : List (List Int)} (h : OwE w lo hi v us zss) (hp : Part l h' w w') (hd : hi ≤ l ∨ h' ≤ lo) : OwE w' lo hi v us zss := by
  refine ⟨?_, fun j hj => ?_, h.lt, h.ltu, Nat.le_trans h.top hp.size⟩
  · refine ⟨h.row.1, ?_⟩
    rcases h.row.2 with h2 | ⟨g, cap, cur, rfl, hl, hg, r⟩
    · exact .inl h2
    · have hlt := h.lt g rfl
      have htop := h.top
      exact .inr ⟨g, cap, cur, rfl, hl, (hp.block g (by omega) (by omega)).trans hg, r⟩
  · obtain ⟨u, h1, h2⟩ := h.each j hj
    refine ⟨u, h1, h2.1, ?_⟩
    rcases h2.2 with h3 | ⟨g, cap, cur, rfl, hl, hg, r⟩
    · exact .inl h3
    · have hlt := h.ltu j _ h1 g rfl
      have htop := h.top
      exact .inr ⟨g, cap, cur, rfl, hl, (hp.block g (by omega) (by omega)).trans hg, r⟩
end Go.Proofs.Ytlpkafhapmkkfaa

/- Turn as Lean data; rows of them, and the laws' helpers for these (written by genrow.py). -/
namespace Go.Proofs.Ytlpkafhapmkkfaa
open Go.RowKit
set_option linter.unusedVariables false

structure Tur where
  plan : Int
  sec : Int
  votes : List Int
deriving DecidableEq
def tur0 : Tur := ⟨0, 0, []⟩
def Tur.wf (p : Tur) : Prop := p.votes.length ≤ maxLen ∧ (∀ z ∈ p.votes, (Lit.int .i64 z).wf = true) ∧ (Lit.int .i64 p.plan).wf = true ∧ (Lit.int .i64 p.sec).wf = true
/-- the j-th one. -/
def turA (ps : List Tur) (j : Nat) : Tur := ps.getD j tur0
theorem turA_some {ps : List Tur} {k : Nat} {p : Tur} (h : ps[k]? = some p) : turA ps k = p := by simp [turA, List.getD, h]
theorem turA_get {ps : List Tur} {k : Nat} (h : k < ps.length) : ps[k]? = some (turA ps k) := by
  rw [List.getElem?_eq_getElem h]
  simp [turA, List.getD, List.getElem?_eq_getElem h]
theorem turA_mem {ps : List Tur} {k : Nat} (h : k < ps.length) : turA ps k ∈ ps := List.mem_of_getElem? (turA_get h)
/-- one lies at q: the slice and the ints. -/
structure TurAt (w : World) (q : Addr) (u : Value) (p : Tur) : Prop where
  c0 : w.cell? q = some (.int .i64 p.plan)
  c1 : w.cell? ⟨q.block, q.off + 1, none⟩ = some (.int .i64 p.sec)
  c2 : w.cell? ⟨q.block, q.off + 2, none⟩ = some u
theorem TurAt.keep {w w' : World} {q : Addr} {u : Value} {p : Tur} (h : TurAt w q u p) (e : w'.heap[q.block]? = w.heap[q.block]?) : TurAt w' q u p :=
  ⟨(World.cell?_of_block e).trans h.c0, (World.cell?_of_block (a := ⟨q.block, q.off + 1, none⟩) e).trans h.c1, (World.cell?_of_block (a := ⟨q.block, q.off + 2, none⟩) e).trans h.c2⟩
theorem TurAt.below {w w' : World} {q : Addr} {u : Value} {p : Tur} {B : Nat} (h : TurAt w q u p) (hb : Below B w w') (hB : q.block < B) : TurAt w' q u p := h.keep (hb.block _ hB)
/-- A slice value that holds these, all in blocks below B. -/
def TursAt (w : World) (B : Nat) (A : Option Addr) (n : Nat) (ps : List Tur) : Prop :=
  ps.length = n ∧ (0 < n → ∃ ad, A = some ad ∧ ad.block < B ∧ ∀ j, j < n → ∃ A' m c, TurAt w (ad.add (j * 3)) (.slice A' m c) (turA ps j) ∧ IntsAt .i64 w B A' m (turA ps j).votes ∧ (m ≤ c ∧ c ≤ maxLen) ∧ (A' = none → m = 0 ∧ c = 0))
theorem TursAt.at {w : World} {B : Nat} {A : Option Addr} {n : Nat} {ps : List Tur} (h : TursAt w B A n ps) {j : Nat} (hj : j < n) :
    ∃ ad A' m c, A = some ad ∧ (ad.add (j * 3)).block < B ∧ TurAt w (ad.add (j * 3)) (.slice A' m c) (turA ps j) ∧ IntsAt .i64 w B A' m (turA ps j).votes ∧ (m ≤ c ∧ c ≤ maxLen) ∧ (A' = none → m = 0 ∧ c = 0) := by
  obtain ⟨ad, e, hb, hc⟩ := h.2 (by omega)
  obtain ⟨A', m, c, h1⟩ := hc j hj
  exact ⟨ad, A', m, c, e, by rw [add_block]; exact hb, h1⟩
theorem TursAt.keep {w w' : World} {B : Nat} {A : Option Addr} {n : Nat} {ps : List Tur} (h : TursAt w B A n ps) (hb : Below B w w') : TursAt w' B A n ps := by
  refine ⟨h.1, fun h0 => ?_⟩
  obtain ⟨ad, e, hB, hc⟩ := h.2 h0
  refine ⟨ad, e, hB, fun j hj => ?_⟩
  obtain ⟨A', m, c, h1, h2, h3, h4⟩ := hc j hj
  exact ⟨A', m, c, h1.below hb (by rw [add_block]; exact hB), h2.keep (fun p hp => hb.cell hp), h3, h4⟩
theorem TursAt.below {w w' : World} {B : Nat} {A : Option Addr} {n : Nat} {ps : List Tur} (h : TursAt w B A n ps) (hB : B ≤ w.heap.size) (hb : Below w.heap.size w w') : TursAt w' B A n ps := h.keep (hb.mono hB)
theorem TursAt.up {w : World} {B B' : Nat} {A : Option Addr} {n : Nat} {ps : List Tur} (h : TursAt w B A n ps) (hB : B ≤ B') : TursAt w B' A n ps := by
  refine ⟨h.1, fun h0 => ?_⟩
  obtain ⟨ad, e, hb, hc⟩ := h.2 h0
  refine ⟨ad, e, by omega, fun j hj => ?_⟩
  obtain ⟨A', m, c, h1, h2, h3, h4⟩ := hc j hj
  exact ⟨A', m, c, h1, h2.up hB, h3, h4⟩
/-- the cells of a row. -/
def turrow (xs : List (Value × Tur)) : List Value := xs.flatMap fun x => [.int .i64 x.2.plan, .int .i64 x.2.sec, x.1]
theorem turrow_length (xs : List (Value × Tur)) : (turrow xs).length = xs.length * 3 := flat_length (f := fun x : Value × Tur => [.int .i64 x.2.plan, .int .i64 x.2.sec, x.1]) (fun _ => rfl) xs
theorem turrow_at0 {xs : List (Value × Tur)} {j : Nat} {x : Value × Tur} (h : xs[j]? = some x) : (turrow xs)[j * 3]? = some (.int .i64 x.2.plan) := by
  exact flat_get (f := fun x : Value × Tur => [.int .i64 x.2.plan, .int .i64 x.2.sec, x.1]) (s := 3) (fun _ => rfl) xs j 0 x h (by decide)
theorem turrow_at1 {xs : List (Value × Tur)} {j : Nat} {x : Value × Tur} (h : xs[j]? = some x) : (turrow xs)[j * 3 + 1]? = some (.int .i64 x.2.sec) := by
  exact flat_get (f := fun x : Value × Tur => [.int .i64 x.2.plan, .int .i64 x.2.sec, x.1]) (s := 3) (fun _ => rfl) xs j 1 x h (by decide)
theorem turrow_at2 {xs : List (Value × Tur)} {j : Nat} {x : Value × Tur} (h : xs[j]? = some x) : (turrow xs)[j * 3 + 2]? = some x.1 := by
  exact flat_get (f := fun x : Value × Tur => [.int .i64 x.2.plan, .int .i64 x.2.sec, x.1]) (s := 3) (fun _ => rfl) xs j 2 x h (by decide)
theorem turrow_append (xs ys : List (Value × Tur)) : turrow (xs ++ ys) = turrow xs ++ turrow ys := by simp [turrow]
theorem turrow_next (xs : List (Value × Tur)) (n : Nat) (z x : Value × Tur) (h : xs.length < n) :
    ((((turrow xs ++ turrow (List.replicate (n - xs.length) z)).set (xs.length * 3) (.int .i64 x.2.plan)).set (xs.length * 3 + 1) (.int .i64 x.2.sec)).set (xs.length * 3 + 2) x.1) = turrow (xs ++ [x]) ++ turrow (List.replicate (n - (xs ++ [x]).length) z) := by
  obtain ⟨m, hm⟩ : ∃ m, n - xs.length = m + 1 := ⟨n - xs.length - 1, by omega⟩
  have e2 : n - (xs ++ [x]).length = m := by rw [List.length_append, List.length_singleton]; omega
  rw [e2, hm, List.replicate_succ]
  have e3 : turrow (z :: List.replicate m z) = .int .i64 z.2.plan :: .int .i64 z.2.sec :: z.1 :: turrow (List.replicate m z) := rfl
  rw [e3, set3 (turrow_length xs), turrow_append]
  simp [turrow]
theorem made_tur (n : Nat) : (madeCells (Value.agg #[Value.int .i64 0, Value.int .i64 0, Value.slice none 0 0]).cells (n * 3)).toList = turrow (List.replicate n (Value.slice none 0 0, tur0)) := by
  have h : (Value.agg #[Value.int .i64 0, Value.int .i64 0, Value.slice none 0 0]).cells = #[Value.int .i64 0, Value.int .i64 0, Value.slice none 0 0] := rfl
  rw [h]
  apply List.ext_getElem?
  intro i
  simp only [madeCells, Array.toList_map, List.getElem?_map]
  by_cases hi : i < n * 3
  · have hx : (List.replicate n ((Value.slice none 0 0, tur0) : Value × Tur))[i / 3]? = some (Value.slice none 0 0, tur0) := by rw [List.getElem?_replicate, if_pos (by omega)]
    have h2 : i % 3 = 0 ∨ i % 3 = 1 ∨ i % 3 = 2 := by omega
    rcases h2 with h2 | h2 | h2
    · have := turrow_at0 hx
      rw [show i / 3 * 3 = i by omega] at this
      rw [this]
      simp [hi, h2, tur0]
    · have := turrow_at1 hx
      rw [show i / 3 * 3 + 1 = i by omega] at this
      rw [this]
      simp [hi, h2, tur0]
    · have := turrow_at2 hx
      rw [show i / 3 * 3 + 2 = i by omega] at this
      rw [this]
      simp [hi, h2]
  · rw [List.getElem?_eq_none (l := turrow _) (by rw [turrow_length, List.length_replicate]; omega)]
    simp [hi]
theorem law_toTurn (A : Option Addr) (n c B : Nat) (zs : List Int) (x0 : Int) (x1 : Int) (w : World) (h : IntsAt .i64 w B A n zs) (hB : B ≤ w.heap.size) (hn : n ≤ 1048576) :
    Calls Try.prog 11 #[.agg #[.int .i64 x0, .int .i64 x1, .slice A n c]] w fun e w' => ∃ a, e = .returned (.agg #[.int .i64 x0, .int .i64 x1, .slice (some a) n n]) ∧ Own .i64 3 w' w.heap.size (.slice (some a) n n) zs ∧ Below w.heap.size w w' := by
  have hi := fun w' (hb : Below w.heap.size w w') => h.laid hB hb
  have hb0 := (((Below.refl w.heap.size w).alloc (Nat.le_refl _) (.cells #[.int .i64 x0, .int .i64 x1, .slice A n c] 24)).alloc (by simp) (.cells #[.int .i64 0, .int .i64 0, .slice none 0 0] 26)).alloc (by simp; omega) (.cells #[.int .i64 x0, .int .i64 x1, .slice none 0 0] 26)
  have hs0 := hb0.size
  have HI := Lib.hid hi
  have HB0 := Lib.hid hb0
  clear hi
  go_enter Try.func11, Try.ntmps11
  go_wp2_with fail
  refine (to_i64 A n c B zs _ (HI.out _ HB0.out) (by have := HB0.out.size; omega) (by omega)).mono ?_
  rintro e w2 ⟨rfl, ho, hb2⟩
  have HB := Lib.hid (HB0.out.trans (hb2.mono hs0))
  have k0 : w2.cell? ⟨w.heap.size + 1, 0, none⟩ = some (.int .i64 0) := (hb2.cell (p := ⟨w.heap.size + 1, 0, none⟩) (by simp; try omega)).trans (by go_simp)
  have k1 : w2.cell? ⟨w.heap.size + 1, 1, none⟩ = some (.int .i64 0) := (hb2.cell (p := ⟨w.heap.size + 1, 1, none⟩) (by simp; try omega)).trans (by go_simp)
  have k2 : w2.cell? ⟨w.heap.size + 1, 2, none⟩ = some (.slice none 0 0) := (hb2.cell (p := ⟨w.heap.size + 1, 2, none⟩) (by simp; try omega)).trans (by go_simp)
  have k3 : w2.cell? ⟨w.heap.size + 1 + 1, 0, none⟩ = some (.int .i64 x0) := (hb2.cell (p := ⟨w.heap.size + 1 + 1, 0, none⟩) (by simp; try omega)).trans (by go_simp)
  have k4 : w2.cell? ⟨w.heap.size + 1 + 1, 1, none⟩ = some (.int .i64 x1) := (hb2.cell (p := ⟨w.heap.size + 1 + 1, 1, none⟩) (by simp; try omega)).trans (by go_simp)
  have k5 : w2.cell? ⟨w.heap.size + 1 + 1, 2, none⟩ = some (.slice none 0 0) := (hb2.cell (p := ⟨w.heap.size + 1 + 1, 2, none⟩) (by simp; try omega)).trans (by go_simp)
  have fa0 : w2.frozen? ⟨w.heap.size + 1, 0, none⟩ = false := (hb2.frozen (p := ⟨w.heap.size + 1, 0, none⟩) (by simp; try omega)).trans (by go_simp)
  have fa1 : w2.frozen? ⟨w.heap.size + 1, 1, none⟩ = false := (hb2.frozen (p := ⟨w.heap.size + 1, 1, none⟩) (by simp; try omega)).trans (by go_simp)
  have fa2 : w2.frozen? ⟨w.heap.size + 1, 2, none⟩ = false := (hb2.frozen (p := ⟨w.heap.size + 1, 2, none⟩) (by simp; try omega)).trans (by go_simp)
  have fb2 : w2.frozen? ⟨w.heap.size + 1 + 1, 2, none⟩ = false := (hb2.frozen (p := ⟨w.heap.size + 1 + 1, 2, none⟩) (by simp; try omega)).trans (by go_simp)
  have ho2 : Own .i64 3 w2 w.heap.size (.slice (some ⟨w.heap.size + 1 + 1 + 1, 0, none⟩) n n) zs := by
    have h2 := ho.mono hs0
    simp only [alloc_heap, Array.size_push] at h2
    exact h2
  have HO2 := Lib.hid ho2
  clear hb2 hb0 ho hs0 ho2
  go_wp2
  refine bodyPost_ret (v := .agg #[.int .i64 x0, .int .i64 x1, .slice (some ⟨w.heap.size + 1 + 1 + 1, 0, none⟩) n n]) (by rw [results_cell rfl]; go_simp; try rfl) rfl ?_
  refine ⟨_, rfl, (HO2.out.grown (only_setCell (World.grownBy.refl _ _) _ _) (fun g' e e2 => ?_)).grown (only_setCell (only_setCell (only_setCell (World.grownBy.refl _ _) _ _) _ _) _ _) (fun g' e e2 => ?_), ((((HB.out.setCell (by simp only; omega) _).setCell (by simp only; omega) _).setCell (by simp only; omega) _).setCell (by simp only; omega) _)⟩
  · have h1 : w.heap.size + 1 + 1 + 1 = g' := Option.some.inj e
    have h2 := Option.some.inj e2
    omega
  · have h1 : w.heap.size + 1 + 1 + 1 = g' := Option.some.inj e
    have h2 := Option.some.inj e2
    omega
set_option maxHeartbeats 1000000 in
theorem law_eqTurn (A : Option Addr) (n c B : Nat) (zs : List Int) (x0 : Int) (x1 : Int) (A2 : Option Addr) (n2 c2 : Nat) (w : World) (h : IntsAt .i64 w B A n zs) (h2 : IntsAt .i64 w B A2 n2 zs) (hB : B ≤ w.heap.size) (hn : n ≤ 4398046511104) :
    Calls Try.prog 13 #[.agg #[.int .i64 x0, .int .i64 x1, .slice A n c], .agg #[.int .i64 x0, .int .i64 x1, .slice A2 n2 c2]] w fun e w' => e = .returned (.bool true) ∧ Below w.heap.size w w' := by
  have hl := h.1
  have hl2 := h2.1
  have hq := fun w' (hb : Below w.heap.size w w') => eqs_i64 A n c zs A2 n2 c2 w' ((h.laid hB hb).up (by have := hb.size; omega)) ((h2.laid hB hb).up (by have := hb.size; omega)) (by omega) (by omega)
  have hb0 := ((Below.refl w.heap.size w).alloc (Nat.le_refl _) (.cells #[.int .i64 x0, .int .i64 x1, .slice A n c] 26)).alloc (by simp) (.cells #[.int .i64 x0, .int .i64 x1, .slice A2 n2 c2] 26)
  have HQ := Lib.hid hq
  have HB0 := Lib.hid hb0
  clear hq hb0 h h2
  have e0 : (x0 != x0) = false := by simp
  have g0 : (!(x0 == x0)) = false := by simp
  have e1 : (x1 != x1) = false := by simp
  have g1 : (!(x1 == x1)) = false := by simp
  go_enter Try.func13, Try.ntmps13
  go_wp2_with fail
  refine (HQ.out _ HB0.out).mono ?_
  rintro e w2 ⟨rfl, hb2⟩
  have HB := Lib.hid (HB0.out.trans (hb2.mono HB0.out.size))
  clear hb2
  go_wp2
  go_ret
  exact ⟨rfl, HB.out⟩
theorem sz1_tur (A : Option Addr) (n c : Nat) (x0 : Int) (x1 : Int) (left : Int) (w : World) (hn : n ≤ 9223372036854775807) (hl : 0 ≤ left ∧ left ≤ 1048576) :
    Calls Try.prog 9 #[.agg #[.int .i64 x0, .int .i64 x1, .slice A n c], .int .i64 left] w fun e w' => e = .returned (.int .i64 (if (n : Int) ≤ left then left - (n : Int) else -1)) ∧ Below w.heap.size w w' := by
  have HB := Lib.hid ((Below.refl w.heap.size w).alloc (Nat.le_refl _) (.cells #[.int .i64 x0, .int .i64 x1, .slice A n c] 24))
  by_cases h : (n : Int) ≤ left
  · have hz := fun x => sz_ints A n c left x hn hl
    simp only [if_pos h] at hz ⊢
    have HZ := Lib.hid hz
    clear hz
    go_enter Try.func9, Try.ntmps9
    go_wp2_with fail
    refine (HZ.out _).mono ?_
    rintro e w' ⟨rfl, rfl⟩
    go_wp2
    go_ret
    exact ⟨rfl, HB.out⟩
  · have hz := fun x => sz_ints A n c left x hn hl
    simp only [if_neg h] at hz ⊢
    have HZ := Lib.hid hz
    clear hz
    go_enter Try.func9, Try.ntmps9
    go_wp2_with fail
    refine (HZ.out _).mono ?_
    rintro e w' ⟨rfl, rfl⟩
    go_wp2
    go_ret
    exact ⟨rfl, HB.out⟩
end Go.Proofs.Ytlpkafhapmkkfaa

/- Chapter 24: ballots (how often each vote was given, as a map); CountVotes, IsTurn: program and model. -/
namespace Go.Proofs.Ytlpkafhapmkkfaa
open Go.RowKit Go.Maps
set_option linter.unusedVariables false

/-- how often a vote was given. -/
def cntV (zs : List Int) (v : Int) : Int := ((zs.countP fun z => z == v : Nat) : Int)
theorem cntV_bound (zs : List Int) (v : Int) : 0 ≤ cntV zs v ∧ cntV zs v ≤ zs.length := by
  unfold cntV
  have := List.countP_le_length (p := fun z => z == v) (l := zs)
  omega
theorem cntV_take {zs : List Int} {k : Nat} {z : Int} (h : zs[k]? = some z) (v : Int) : cntV (zs.take (k + 1)) v = cntV (zs.take k) v + if z = v then 1 else 0 := by
  unfold cntV
  rw [List.take_add_one, h, List.countP_append]
  by_cases e : z = v
  · simp [e]
  · simp [e]
/-- what CountVotes answers: the votes first, then Plan and At. -/
def cntVotes (zs : List Int) (p a v : Int) : Int := cntV zs v
def isTurnB (zs : List Int) (p a : Int) : Bool := isTrn p a zs
theorem cntV_cons (z : Int) (l : List Int) (v : Int) : cntV (z :: l) v = cntV l v + if z = v then 1 else 0 := by
  unfold cntV
  rw [List.countP_cons]
  by_cases e : z = v
  · simp [e]
  · simp [e]
theorem three_all (zs : List Int) : cntV zs 0 + cntV zs 1 + cntV zs 2 ≤ zs.length ∧ (cntV zs 0 + cntV zs 1 + cntV zs 2 = zs.length ↔ zs.all (fun z => inB z 0 2) = true) := by
  induction zs with
  | nil => simp [cntV]
  | cons z l ih =>
    obtain ⟨h1, h2⟩ := ih
    rw [cntV_cons, cntV_cons, cntV_cons, List.all_cons, Bool.and_eq_true, ← h2, List.length_cons]
    cases hz : inB z 0 2
    · have := inB_f hz
      rw [if_neg (by omega), if_neg (by omega), if_neg (by omega)]
      constructor
      · omega
      · simp
        omega
    · have := inB_t hz
      by_cases e0 : z = 0
      · rw [if_pos e0, if_neg (by omega), if_neg (by omega)]
        constructor
        · omega
        · simp; omega
      · by_cases e1 : z = 1
        · rw [if_neg e0, if_pos e1, if_neg (by omega)]
          constructor
          · omega
          · simp; omega
        · rw [if_neg e0, if_neg e1, if_pos (by omega)]
          constructor
          · omega
          · simp; omega
theorem wf64B (z : Int) (h : -9223372036854775808 ≤ z ∧ z ≤ 9223372036854775807) : (Lit.int .i64 z).wf = true := by
  show (decide (IntKind.i64.min ≤ z) && decide (z ≤ IntKind.i64.max)) = true
  simp only [Bool.and_eq_true, decide_eq_true_eq]
  exact h
theorem bal_law : Keyed Try.prog 3 := int_keyed Try.underlying3
theorem bal_zero (w : World) : (zeroValue 3).run Try.prog w = .ok (.int .i64 0) w := by kernel_rfl
/-- block b is a map that says of each vote how often it was given. -/
def BalAt (w : World) (b : Nat) (zs : List Int) : Prop :=
  ∃ D : DataW Unit, w.ownsMap Try.prog 3 (plainElem Try.prog 3) b zs.length D ∧ ∀ v, (Lit.int .i64 v).wf = true → D.atKey (.int .i64 v) (.lit (.int .i64 0)) = .lit (.int .i64 (cntV zs v))
theorem BalAt.below {w w' : World} {b : Nat} {zs : List Int} (h : BalAt w b zs) (hb : Below w.heap.size w w') : BalAt w' b zs := by
  obtain ⟨D, h1, h2⟩ := h
  exact ⟨D, h1.kept (only_of_below hb none) (by simp), h2⟩
set_option maxHeartbeats 1000000 in
set_option maxRecDepth 100000 in
theorem impl_ballotOf (A : Option Addr) (n c B : Nat) (zs : List Int) (w : World) (h : IntsAt .i64 w B A n zs) (hB : B ≤ w.heap.size) (hn : n ≤ 4294967296) (hw : ∀ z ∈ zs, (Lit.int .i64 z).wf = true) :
    Calls Try.prog 101 #[.slice A n c] w fun e w' => ∃ b, e = .returned (.map (some b)) ∧ BalAt w' b zs ∧ Below w.heap.size w w' := by
  have hl := h.1
  have hmm := @run_makeMap Try.prog
  go_enter Try.func101, Try.ntmps101
  go_wp2
  go_loopw [9] (fun i wr => ∃ k : Nat, k ≤ n ∧ i = .int .i64 k ∧ BalAt wr w.heap.size (zs.take k) ∧ Below w.heap.size w wr) (fun i _ => n - (intOf i).toNat)
  case atStart => exact ⟨0, Nat.zero_le _, rfl, ⟨.map [], World.ownsMap_made _ _ _ _, fun v _ => rfl⟩, (Below.refl _ _).alloc (Nat.le_refl _) _⟩
  case round =>
    obtain ⟨k, hk, rfl, ⟨D, hown, hat0⟩, hbl⟩ := hrel
    by_cases hlt : k < n
    · obtain ⟨ad, rfl, hab, hc⟩ := h.2 (by omega)
      have cz := (hbl.cell (by rw [add_block]; omega)).trans (hc k hlt)
      have hz : zs[k]? = some (zs.getD k 0) := by rw [List.getD_eq_getElem?_getD, List.getElem?_eq_getElem (by omega)]; rfl
      have hwz := hw _ (List.mem_of_getElem? hz)
      have hlk : (zs.take k).length = k := by rw [List.length_take]; omega
      have hlk1 : (zs.take (k + 1)).length = k + 1 := by rw [List.length_take]; omega
      generalize zs.getD k 0 = z at *
      have hkey : keyOf Try.prog 3 (.int .i64 z) = some (.int .i64 z) := keyOf_int_mk Try.underlying3 hwz
      have hm := hat0 z hwz
      have hbd := cntV_bound (zs.take k) z
      rw [hlk] at hown hbd
      have HT := Lib.hid (fun v => cntV_take hz v)
      have HAT := Lib.hid hat0
      obtain ⟨m, hmq⟩ : ∃ m, cntV (zs.take k) z = m := ⟨_, rfl⟩
      rw [hmq] at hm hbd
      have HMQ := Lib.hid hmq
      have HL1 := Lib.hid hlk1
      obtain ⟨b1, b2⟩ := hbd
      have i1 : (0 : Int) ≤ (k : Int) := by omega
      have i2 : (k : Int) < (n : Int) := by omega
      clear hc hz hlk hlk1 hat0 hmq hmm
      go_wp2_with (first
        | (at_lookup; refine wpList_lookup_own_int _ rfl _ _ 137 rfl 3 3 .i64 bal_law Try.underlying137 Try.underlying3 (bal_zero _) w.heap.size k D rfl hown _ _ rfl hkey ?_; intro c hat hwc; obtain rfl : c = m := by { rw [hm] at hat; injection hat with hat; injection hat with _ hat; exact hat.symm })
        | (at_mapUpdate; refine wpList_mapUpdate_own _ rfl _ _ _ 137 rfl 3 3 bal_law Try.underlying137 _ w.heap.size k D rfl hown (by unfold maxLen; omega) _ _ _ rfl rfl hkey _ [] (plainElem_int Try.underlying3 (wf64B _ (by omega))) ?_; intro w1 hown1 hgrow1))
      have HB1 := Lib.hid (hbl.grown hgrow1 hbl.size (fun j hj => by cases hj; exact Nat.le_refl _))
      have HBAL : Hid (BalAt w1 w.heap.size (zs.take (k + 1))) := Lib.hid ⟨_, by rw [HL1.out]; exact hown1, fun v hv => by
        rw [HT.out v]
        by_cases e : z = v
        · subst e
          rw [if_pos rfl, HMQ.out]
          exact atKey_put_same hown.isMap (bal_law.key hkey) _ _
        · rw [if_neg e, Int.add_zero, ← HAT.out v hv]
          exact atKey_put_other (fun h5 => by injection h5 with _ h5; exact e h5.symm) _ _⟩
      clear hown1 hgrow1 hown hbl hm
      go_roundw
      case rel => exact ⟨k + 1, by omega, by go_num, HBAL.out, HB1.out⟩
      case measure => simp [intOf]; omega
    · obtain rfl : k = n := by omega
      have HO : Hid (BalAt wr w.heap.size zs) := Lib.hid (by rw [List.take_of_length_le (by omega)] at hown hat0; exact ⟨D, hown, hat0⟩)
      clear hown hat0
      go_wp2
      go_ret
      exact ⟨_, rfl, HO.out, hbl⟩
set_option maxRecDepth 100000 in
theorem impl_balValid (b n : Nat) (zs : List Int) (w : World) (hb : BalAt w b zs) (hl : zs.length = n) (hn : n ≤ 4294967296) :
    Calls Try.prog 102 #[.map (some b), .int .i64 n] w fun e w' => e = .returned (.bool (zs.all fun z => inB z 0 2)) ∧ w = w' := by
  obtain ⟨D, hown, hat0⟩ := hb
  have h0 := hat0 0 (by decide)
  have h1 := hat0 1 (by decide)
  have h2 := hat0 2 (by decide)
  obtain ⟨t1, t2⟩ := three_all zs
  have g0 := cntV_bound zs 0
  have g1 := cntV_bound zs 1
  have g2 := cntV_bound zs 2
  rw [hl] at t1 t2
  have HV : Hid ((zs.all fun z => inB z 0 2) = decide (cntV zs 0 + cntV zs 1 + cntV zs 2 = (n : Int))) := Lib.hid (by
    cases hq : zs.all fun z => inB z 0 2
    · rw [hq] at t2
      exact (decide_eq_false (fun e => by have := t2.1 e; cases this)).symm
    · rw [hq] at t2
      exact (decide_eq_true (t2.2 rfl)).symm)
  clear hat0 t2
  generalize cntV zs 0 = m0 at *
  generalize cntV zs 1 = m1 at *
  generalize cntV zs 2 = m2 at *
  have H0 := Lib.hid h0
  have H1 := Lib.hid h1
  have H2 := Lib.hid h2
  clear h0 h1 h2
  rw [HV.out]
  clear HV
  have hk0 : keyOf Try.prog 3 (.int .i64 0) = some (.int .i64 0) := keyOf_int_mk Try.underlying3 (by decide)
  have hk1 : keyOf Try.prog 3 (.int .i64 1) = some (.int .i64 1) := keyOf_int_mk Try.underlying3 (by decide)
  have hk2 : keyOf Try.prog 3 (.int .i64 2) = some (.int .i64 2) := keyOf_int_mk Try.underlying3 (by decide)
  go_enter Try.func102, Try.ntmps102
  go_wp2_with (at_lookup; first
    | (refine wpList_lookup_own_int _ rfl _ _ 137 rfl 3 3 .i64 bal_law Try.underlying137 Try.underlying3 (bal_zero _) b zs.length D rfl hown _ _ rfl hk0 ?_; intro c hat hwc; rw [H0.out] at hat; injection hat with hat; injection hat with _ hat; subst hat)
    | (refine wpList_lookup_own_int _ rfl _ _ 137 rfl 3 3 .i64 bal_law Try.underlying137 Try.underlying3 (bal_zero _) b zs.length D rfl hown _ _ rfl hk1 ?_; intro c hat hwc; rw [H1.out] at hat; injection hat with hat; injection hat with _ hat; subst hat)
    | (refine wpList_lookup_own_int _ rfl _ _ 137 rfl 3 3 .i64 bal_law Try.underlying137 Try.underlying3 (bal_zero _) b zs.length D rfl hown _ _ rfl hk2 ?_; intro c hat hwc; rw [H2.out] at hat; injection hat with hat; injection hat with _ hat; subst hat))
  go_ret
  exact ⟨by rfl, rfl⟩
end Go.Proofs.Ytlpkafhapmkkfaa

/- Chapter 24: IsTurn of the program; IsTurn, CountVotes as their exact laws meet them. -/
namespace Go.Proofs.Ytlpkafhapmkkfaa
open Go.RowKit
set_option linter.unusedVariables false

theorem isTrn_no1 {p a : Int} {zs : List Int} (h : inB p 1 99 = false) : isTrn p a zs = false := by unfold isTrn; rw [h]; simp
theorem isTrn_no2 {p a : Int} {zs : List Int} (h : inB a 0 1000000 = false) : isTrn p a zs = false := by unfold isTrn; rw [h]; simp
theorem isTrn_no3 {p a : Int} {zs : List Int} (h : inB (zs.length : Int) 1 8 = false) : isTrn p a zs = false := by unfold isTrn; rw [h]; simp
theorem isTrn_yes {p a : Int} {zs : List Int} (h1 : inB p 1 99 = true) (h2 : inB a 0 1000000 = true) (h3 : inB (zs.length : Int) 1 8 = true) : isTrn p a zs = zs.all fun z => inB z 0 2 := by unfold isTrn; rw [h1, h2, h3]; simp
theorem impl_isPlanNumberB (n : Int) (w : World) : Calls Try.prog 99 #[.int .i64 n] w fun e w' => e = .returned (.bool (inB n 1 99)) ∧ w = w' := by
  go_enter Try.func99, Try.ntmps99
  go_wp2_with fail
  refine (impl_InRange _ _ _ _).mono ?_
  rintro e w1 ⟨rfl, rfl⟩
  go_wp2
  go_ret
  exact ⟨rfl, rfl⟩
theorem impl_isSecondB (n : Int) (w : World) : Calls Try.prog 71 #[.int .i64 n] w fun e w' => e = .returned (.bool (inB n 0 1000000)) ∧ w = w' := by
  go_enter Try.func71, Try.ntmps71
  go_wp2_with fail
  refine (impl_InRange _ _ _ _).mono ?_
  rintro e w1 ⟨rfl, rfl⟩
  go_wp2
  go_ret
  exact ⟨rfl, rfl⟩
theorem impl_isCrossingB (n : Int) (w : World) : Calls Try.prog 100 #[.int .i64 n] w fun e w' => e = .returned (.bool (inB n 1 8)) ∧ w = w' := by
  go_enter Try.func100, Try.ntmps100
  go_wp2_with fail
  refine (impl_InRange _ _ _ _).mono ?_
  rintro e w1 ⟨rfl, rfl⟩
  go_wp2
  go_ret
  exact ⟨rfl, rfl⟩
set_option maxHeartbeats 2000000 in
theorem impl_IsTurn (p a : Int) (A : Option Addr) (n c B : Nat) (zs : List Int) (w : World) (h : IntsAt .i64 w B A n zs) (hB : B ≤ w.heap.size) (hn : n ≤ 4294967296) (hw : ∀ z ∈ zs, (Lit.int .i64 z).wf = true) :
    Calls Try.prog 53 #[trnV p a (.slice A n c)] w fun e w' => e = .returned (.bool (isTrn p a zs)) ∧ Below w.heap.size w w' := by
  simp only [trnV]
  have hl := h.1
  have HF1 := Lib.hid (@isTrn_no1 p a zs)
  have HF2 := Lib.hid (@isTrn_no2 p a zs)
  have HF3 := Lib.hid (@isTrn_no3 p a zs)
  have HF4 := Lib.hid (@isTrn_yes p a zs)
  rw [hl] at HF3 HF4
  obtain ⟨wA, hwA⟩ : ∃ wA, wA = w.alloc (.cells #[.int .i64 p, .int .i64 a, .slice A n c] 26) := ⟨_, rfl⟩
  obtain ⟨hk, hsz, acc⟩ := one_block hwA
  obtain ⟨k0, k1, k2⟩ := cells3 hk
  have lt0 : w.heap.size < wA.heap.size := by omega
  have HB := Lib.hid acc
  have HH := Lib.hid (h.keep (w' := wA) fun _ hp => acc.cell (Nat.lt_of_lt_of_le hp hB))
  clear hk hsz h
  generalize isTrn p a zs = v at *
  cases h1 : inB p 1 99
  · skip
    have HV := Lib.hid (HF1.out h1)
    have H1 := Lib.hid h1
    have H2 : Hid (True = True) := Lib.hid rfl
    have H3 : Hid (True = True) := Lib.hid rfl
    clear HF1 HF2 HF3 HF4 k0 k1 k2 lt0 acc
    subst hwA
    go_enter Try.func53, Try.ntmps53
    go_wp2_with (first | (go_at_call 99; refine (impl_isPlanNumberB _ _).mono ?_; rintro e w' ⟨rfl, rfl⟩; rw [H1.out]) | (go_at_call 71; refine (impl_isSecondB _ _).mono ?_; rintro e w' ⟨rfl, rfl⟩; rw [H2.out]) | (go_at_call 100; refine (impl_isCrossingB _ _).mono ?_; rintro e w' ⟨rfl, rfl⟩; rw [H3.out]))
    go_ret
    exact ⟨by rw [HV.out]; rfl, HB.out⟩
  cases h2 : inB a 0 1000000
  · skip
    have HV := Lib.hid (HF2.out h2)
    have H1 := Lib.hid h1
    have H2 := Lib.hid h2
    have H3 : Hid (True = True) := Lib.hid rfl
    clear HF1 HF2 HF3 HF4 k0 k1 k2 lt0 acc
    subst hwA
    go_enter Try.func53, Try.ntmps53
    go_wp2_with (first | (go_at_call 99; refine (impl_isPlanNumberB _ _).mono ?_; rintro e w' ⟨rfl, rfl⟩; rw [H1.out]) | (go_at_call 71; refine (impl_isSecondB _ _).mono ?_; rintro e w' ⟨rfl, rfl⟩; rw [H2.out]) | (go_at_call 100; refine (impl_isCrossingB _ _).mono ?_; rintro e w' ⟨rfl, rfl⟩; rw [H3.out]))
    go_ret
    exact ⟨by rw [HV.out]; rfl, HB.out⟩
  cases h3 : inB (n : Int) 1 8
  · skip
    have HV := Lib.hid (HF3.out h3)
    have H1 := Lib.hid h1
    have H2 := Lib.hid h2
    have H3 := Lib.hid h3
    clear HF1 HF2 HF3 HF4 k0 k1 k2 lt0 acc
    subst hwA
    go_enter Try.func53, Try.ntmps53
    go_wp2_with (first | (go_at_call 99; refine (impl_isPlanNumberB _ _).mono ?_; rintro e w' ⟨rfl, rfl⟩; rw [H1.out]) | (go_at_call 71; refine (impl_isSecondB _ _).mono ?_; rintro e w' ⟨rfl, rfl⟩; rw [H2.out]) | (go_at_call 100; refine (impl_isCrossingB _ _).mono ?_; rintro e w' ⟨rfl, rfl⟩; rw [H3.out]))
    go_ret
    exact ⟨by rw [HV.out]; rfl, HB.out⟩
  have HV := Lib.hid (HF4.out h1 h2 h3)
  have H1 := Lib.hid h1
  have H2 := Lib.hid h2
  have H3 := Lib.hid h3
  have K2 := Lib.hid k2
  clear HF1 HF2 HF3 HF4 h1 h2 h3
  go_enter Try.func53, Try.ntmps53
  go_wp2_with (first | (go_at_call 99; refine (impl_isPlanNumberB _ _).mono ?_; rintro e w' ⟨rfl, rfl⟩; rw [H1.out]) | (go_at_call 71; refine (impl_isSecondB _ _).mono ?_; rintro e w' ⟨rfl, rfl⟩; rw [H2.out]) | (go_at_call 100; refine (impl_isCrossingB _ _).mono ?_; rintro e w' ⟨rfl, rfl⟩; rw [H3.out]))
  rw [← hwA]
  clear hwA k0 k1
  go_region_held3 (fun W' => W'.cell? ⟨w.heap.size, 2, none⟩ = some (.slice A n c)) (first | exact k2 | fail "keep")
    (first
      | (go_at_call 101; refine (impl_ballotOf A n c B zs _ (by exact HH.out) (by have := acc.size; exact Nat.le_trans hB this) hn hw).mono ?_; rintro e w1 ⟨b, rfl, hbal, hb⟩; (first | replace hb := below_undrew hb | skip); clear k2; replace k2 := (hb.cell (p := ⟨w.heap.size, 2, none⟩) lt0).trans K2.out; replace lt0 := Nat.lt_of_lt_of_le lt0 hb.size; replace acc := acc.trans (hb.mono acc.size); clear hb)
      | (go_at_call 102; refine (impl_balValid b n zs _ hbal hl hn).mono ?_; rintro e w2 ⟨rfl, rfl⟩))
  go_wp2
  go_ret
  exact ⟨by rw [HV.out]; try rfl, acc⟩
end Go.Proofs.Ytlpkafhapmkkfaa

/- Chapter 24: VoteTurn: the program. -/
namespace Go.Proofs.Ytlpkafhapmkkfaa
open Go.RowKit
set_option linter.unusedVariables false
set_option linter.unusedSimpArgs false

/-- what VoteTurn answers: the votes, and whether one was given. -/
def voteP (p a : Int) (zs : List Int) (cr : Int) (yes : Bool) (now : Int) : List Int × Bool :=
  if isTrn p a zs && inB cr 1 (zs.length : Int) && decide (now < a) && decide (zs.getD (cr - 1).toNat 0 = 0) then (zs.set (cr - 1).toNat (if yes then 1 else 2), true) else (zs, false)
theorem voteP_len (p a : Int) (zs : List Int) (cr : Int) (yes : Bool) (now : Int) : (voteP p a zs cr yes now).1.length = zs.length := by
  unfold voteP
  split <;> simp
theorem voteP_no1 {p a : Int} {zs : List Int} {cr : Int} {yes : Bool} {now : Int} (h : isTrn p a zs = false) : voteP p a zs cr yes now = (zs, false) := by unfold voteP; rw [h]; rfl
theorem voteP_no2 {p a : Int} {zs : List Int} {cr : Int} {yes : Bool} {now : Int} (h : inB cr 1 (zs.length : Int) = false) : voteP p a zs cr yes now = (zs, false) := by unfold voteP; rw [h]; simp
theorem voteP_no3 {p a : Int} {zs : List Int} {cr : Int} {yes : Bool} {now : Int} (h : ¬ now < a) : voteP p a zs cr yes now = (zs, false) := by unfold voteP; rw [decide_eq_false h]; simp
theorem voteP_no4 {p a : Int} {zs : List Int} {cr : Int} {yes : Bool} {now : Int} (h : zs.getD (cr - 1).toNat 0 ≠ 0) : voteP p a zs cr yes now = (zs, false) := by unfold voteP; rw [decide_eq_false h]; simp
theorem voteP_yes {p a : Int} {zs : List Int} {cr : Int} {yes : Bool} {now : Int} (h1 : isTrn p a zs = true) (h2 : inB cr 1 (zs.length : Int) = true) (h3 : now < a) (h4 : zs.getD (cr - 1).toNat 0 = 0) : voteP p a zs cr yes now = (zs.set (cr - 1).toNat (if yes then 1 else 2), true) := by
  unfold voteP; rw [h1, h2, decide_eq_true h3, decide_eq_true h4]; rfl
/-- a row that fills its block. -/
theorem own_exact {w : World} {E : TypeId} {lo g n : Nat} {zs : List Int} (h : Own .i64 E w lo (.slice (some ⟨g, 0, none⟩) n n) zs) : w.heap[g]? = some (.cells (zs.map (Value.int .i64)).toArray E (0, 0)) := by
  have hn := h.len
  subst hn
  rcases h.2 with ⟨e, _⟩ | ⟨g1, cap, cur, e, hb, hg, h1, h2, h3, h4⟩
  · injection e with e; cases e
  · injection e with e e2 e3
    injection e with e
    injection e with e
    subst e
    subst e3
    rw [List.take_of_length_le (by rw [Array.length_toList, h3]; exact Nat.le_refl _)] at h4
    rw [hg, ← h4]
theorem own_of_exact {w : World} {E : TypeId} {lo g n : Nat} {zs : List Int} (h : w.heap[g]? = some (.cells (zs.map (Value.int .i64)).toArray E (0, 0))) (hl : lo ≤ g) (hn : zs.length = n) (hm : n ≤ maxLen) : Own .i64 E w lo (.slice (some ⟨g, 0, none⟩) n n) zs := by
  subst hn
  exact ⟨by simp, .inr ⟨g, zs.length, _, rfl, hl, h, Nat.le_refl _, hm, by simp, by simp [List.take_of_length_le]⟩⟩
set_option maxHeartbeats 2000000 in
set_option maxRecDepth 100000 in
theorem impl_copyTurn (p a : Int) (A : Option Addr) (n c B : Nat) (zs : List Int) (w : World) (h : IntsAt .i64 w B A n zs) (hB : B ≤ w.heap.size) (hn : n ≤ 1048576) :
    Calls Try.prog 52 #[trnV p a (.slice A n c)] w fun e w' => ∃ g, e = .returned (trnV p a (.slice (some ⟨g, 0, none⟩) n n)) ∧ Own .i64 3 w' w.heap.size (.slice (some ⟨g, 0, none⟩) n n) zs ∧ Below w.heap.size w w' := by
  simp only [trnV]
  have hl := h.1
  obtain ⟨wA, hwA⟩ : ∃ wA, wA = (w.alloc (.cells #[.int .i64 p, .int .i64 a, .slice A n c] 26)).alloc (.cells #[.int .i64 0, .int .i64 0, .slice none 0 0] 26) := ⟨_, rfl⟩
  obtain ⟨hk, hx, hsz, hBA⟩ := two_blocks hwA
  have HK := Lib.hid hk
  have HX := Lib.hid hx
  have HB := Lib.hid hBA
  have HL := Lib.hid hl
  have HSZ := Lib.hid hsz
  have HI := Lib.hid (fun x (hx : Below w.heap.size w x) => h.keep (w' := x) (fun p hp => hx.cell (Nat.lt_of_lt_of_le hp hB)))
  have lt0 : w.heap.size < wA.heap.size := by omega
  have lt1 : w.heap.size + 1 < wA.heap.size := by omega
  obtain ⟨k0, k1, k2⟩ := cells3 hk
  obtain ⟨X1, hX1⟩ : ∃ X1, X1 = (List.replicate n (0 : Int)).map (Value.int .i64) := ⟨_, rfl⟩
  obtain ⟨Y1, hY1⟩ : ∃ Y1, Y1 = zs.map (Value.int .i64) := ⟨_, rfl⟩
  have HX1 := Lib.hid hX1
  have HY1 := Lib.hid hY1
  have hyl : Y1.length = n := by rw [hY1, List.length_map]; exact hl
  have hxl : X1.length = n := by rw [hX1]; simp
  have HYL := Lib.hid hyl
  have HXL := Lib.hid hxl
  clear hk hx hsz hBA h hl hX1 hY1 hyl hxl
  go_enter Try.func52, Try.ntmps52
  have HC1 : Hid (Y1.length = Nat.min n n) := Lib.hid (by rw [HYL.out]; simp)
  have HC3 : Hid (0 + Y1.length ≤ X1.length) := Lib.hid (by rw [HYL.out, HXL.out]; omega)
  have HC4 : Hid (∀ v ∈ Y1, v.oneCell' = true) := Lib.hid (by
    rw [HY1.out]
    intro v hv
    obtain ⟨z, _, rfl⟩ := List.mem_map.1 hv
    rfl)
  have HPOS : Hid (∀ x, Below w.heap.size w x → 0 < Y1.length → some (⟨w.heap.size + 1 + 1, 0, none⟩ : Addr) = some ⟨w.heap.size + 1 + 1, 0, none⟩ ∧ ∃ ad, A = some ad ∧ ∀ j v, Y1[j]? = some v → x.cell? (ad.add j) = some v) := Lib.hid (by
    intro x hx h0
    refine ⟨rfl, ?_⟩
    obtain ⟨ad, e, _, hc⟩ := (HI.out x hx).2 (by rw [HYL.out] at h0; exact h0)
    refine ⟨ad, e, fun j v hv => ?_⟩
    rw [HY1.out, List.getElem?_map] at hv
    have hj : j < n := by
      have := (List.getElem?_eq_some_iff.1 (by rw [← List.getElem?_map] at hv; exact hv)).1
      rw [List.length_map, HL.out] at this
      exact this
    have hz : zs[j]? = some (zs.getD j 0) := by rw [List.getD_eq_getElem?_getD, List.getElem?_eq_getElem (by rw [HL.out]; exact hj)]; rfl
    rw [hz] at hv
    simp only [Option.map_some, Option.some.injEq] at hv
    subst hv
    exact hc j hj)
  go_wp2_with (first | ((with_reducible show wpList _ _ _ _ _ _); refine wpList_mk rfl _ _ _ rfl .i64 3 _ Try.underlying22 info_i64 (by decide) (n : Int) (n : Int) n rfl rfl rfl rfl (by omega) ?_; intro w1 hown hgrow; rw [← hwA] at hown hgrow; have HG := Lib.hid hgrow; have HO := Lib.hid hown; clear hgrow hown; have hk1 := (HG.out.block _ lt0 (by simp)).trans HK.out; have hx1 := (HG.out.block _ lt1 (by simp)).trans HX.out; clear k0 k1 k2; obtain ⟨k0, k1, k2⟩ := cells3 hk1; clear hk1 hx1; have HBW : Hid (Below (w.heap.size + 1 + 1) wA w1) := Lib.hid ((below_grown HG.out).mono (by rw [HSZ.out]; exact Nat.le_refl _)); have HP9 := Lib.hid (HPOS.out w1 (HB.out.trans ((below_grown HG.out).mono HB.out.size))); have HG2 : Hid (w1.heap[w.heap.size + 1 + 1]? = some (.cells X1.toArray 3 (0, 0))) := Lib.hid (by have h := own_exact HO.out; rw [HSZ.out, ← HX1.out] at h; exact h)) | ((with_reducible show wpList _ _ _ _ _ _); refine wpList_copy_splice (o := ⟨some 11, _, _, _, _, _⟩) rfl _ _ 22 22 rfl 3 Try.underlying22 (by kernel_rfl) _ _ _ _ _ _ rfl rfl (w.heap.size + 1 + 1) 0 X1 3 HG2.out Y1 HC1.out HP9.out HC3.out HC4.out (w.heap.size + 1 + 1) wA HBW.out (Nat.le_refl _) ?_; intro w2 HG3 hB2; have HB3 := Lib.hid hB2; clear hB2 k0 k1 k2; have hk2 := (HB3.out.block w.heap.size (by omega)).trans HK.out; have hx2 := (HB3.out.block (w.heap.size + 1) (by omega)).trans HX.out; obtain ⟨k0, k1, k2⟩ := cells3 hk2; obtain ⟨z0, z1, z2⟩ := cells3 hx2; have fk : ∀ j, w2.frozen? ⟨w.heap.size, j, none⟩ = false := (fun j => frozen_of_row _ _ j _ _ hk2); have fx : ∀ j, w2.frozen? ⟨w.heap.size + 1, j, none⟩ = false := (fun j => frozen_of_row _ _ j _ _ hx2); have l2 : w.heap.size + 1 < w2.heap.size := lt_of_block hx2; clear hk2 hx2))
  have HO3 : Hid (Own .i64 3 w2 w.heap.size (.slice (some ⟨w.heap.size + 1 + 1, 0, none⟩) n n) zs) := Lib.hid (own_of_exact (by
    have h := HG3.out
    rw [show splice X1 0 Y1 = Y1 by unfold splice; rw [List.take_zero, List.nil_append, List.drop_of_length_le (by rw [HXL.out, HYL.out]; omega), List.append_nil], HY1.out] at h
    exact h) (by omega) HL.out (by unfold maxLen; omega))
  have HBF : Hid (Below w.heap.size w w2) := Lib.hid (HB.out.trans (HB3.out.mono (by omega)))
  refine bodyPost_ret (by rw [results_cell rfl]; go_simp; try rfl) rfl ?_
  refine ⟨w.heap.size + 1 + 1, rfl, (HO3.out.grown (only_setCell (World.grownBy.refl _ _) _ _) (fun g e e2 => ?_)).grown (only_setCell (only_setCell (only_setCell (World.grownBy.refl _ _) _ _) _ _) _ _) (fun g e e2 => ?_), ((((HBF.out.setCell (Nat.le_refl _) _).setCell (by simp only; omega) _).setCell (by simp only; omega) _).setCell (by simp only; omega) _)⟩
  · have h1 : w.heap.size + 1 + 1 = g := Option.some.inj e
    have h2 := Option.some.inj e2
    omega
  · have h1 : w.heap.size + 1 + 1 = g := Option.some.inj e
    have h2 := Option.some.inj e2
    omega
set_option maxHeartbeats 8000000 in
set_option maxRecDepth 100000 in
theorem impl_VoteTurn (p a : Int) (A : Option Addr) (n c B : Nat) (zs : List Int) (cr : Int) (yes : Bool) (now : Int) (w : World) (h : IntsAt .i64 w B A n zs) (hB : B ≤ w.heap.size) (hn : n ≤ 1048576) (hwf : ∀ z ∈ zs, (Lit.int .i64 z).wf = true) :
    Calls Try.prog 12 #[trnV p a (.slice A n c), .int .i64 cr, .bool yes, .int .i64 now] w fun e w' => ∃ v, e = .returned (.tuple #[trnV p a v, .bool (voteP p a zs cr yes now).2]) ∧ Own .i64 3 w' w.heap.size v (voteP p a zs cr yes now).1 ∧ Below w.heap.size w w' := by
  simp only [trnV]
  have hl := h.1
  obtain ⟨wA, hwA⟩ : ∃ wA, wA = (w.alloc (.cells #[.int .i64 p, .int .i64 a, .slice A n c] 26)).alloc (.cells #[.int .i64 0, .int .i64 0, .slice none 0 0] 26) := ⟨_, rfl⟩
  obtain ⟨hk, hx, hsz, hBA⟩ := two_blocks hwA
  have hcp := impl_copyTurn p a A n c B zs wA (h.keep fun p hp => hBA.cell (Nat.lt_of_lt_of_le hp hB)) (Nat.le_trans hB hBA.size) hn
  simp only [trnV] at hcp
  have hit := fun x (hx : Below w.heap.size w x) => impl_IsTurn p a A n c B zs x (h.keep (w' := x) (fun p hp => hx.cell (Nat.lt_of_lt_of_le hp hB))) (Nat.le_trans hB hx.size) (by omega) hwf
  simp only [trnV] at hit
  have HCP := Lib.hid hcp
  have HIT := Lib.hid hit
  have HK := Lib.hid hk
  have HX := Lib.hid hx
  have HB := Lib.hid hBA
  have HL := Lib.hid hl
  have HSZ := Lib.hid hsz
  have lt0 : w.heap.size < wA.heap.size := by omega
  have lt1 : w.heap.size + 1 < wA.heap.size := by omega
  clear hk hx hsz hBA h hl hcp hit hwf
  cases h1 : isTrn p a zs
  · have HV := Lib.hid (voteP_no1 (cr := cr) (yes := yes) (now := now) h1)
    have H1 := Lib.hid h1
    clear h1
    go_enter Try.func12, Try.ntmps12
    go_wp2_with fail
    rw [← hwA]
    clear hwA
    refine HCP.out.mono ?_
    rintro e w1 ⟨g, rfl, ho, hb1⟩
    have hgl := ho.block g rfl
    obtain ⟨gA, hgA⟩ : ∃ gA, gA = w1.heap.size := ⟨_, rfl⟩
    obtain ⟨w2, hw2⟩ : ∃ w2, w2 = w1.alloc (.cells #[.int .i64 p, .int .i64 a, .slice (some ⟨g, 0, none⟩) n n] 26) := ⟨_, rfl⟩
    have hb12 : Below w1.heap.size w1 w2 := by rw [hw2]; exact (Below.refl _ _).alloc (Nat.le_refl _) _
    have HA2 : Hid (w2.heap[gA]? = some (.cells #[.int .i64 p, .int .i64 a, .slice (some ⟨g, 0, none⟩) n n] 26 (0, 0))) := Lib.hid (by rw [hw2, hgA]; exact heap_alloc_new _ _)
    have HK2 := Lib.hid ((hb12.block _ (Nat.lt_of_lt_of_le lt0 hb1.size)).trans ((hb1.block _ lt0).trans HK.out))
    have HX2 := Lib.hid ((hb12.block _ (Nat.lt_of_lt_of_le lt1 hb1.size)).trans ((hb1.block _ lt1).trans HX.out))
    have HO2 := Lib.hid (ho.below hb12)
    have HB2 := Lib.hid ((HB.out.trans (hb1.mono HB.out.size)).trans (hb12.mono (Nat.le_trans HB.out.size hb1.size)))
    have n1 : ¬ w.heap.size + 1 = g := by omega
    have n2 : ¬ g = w.heap.size + 1 := by omega
    have n3 : ¬ gA = g := by omega
    have n4 : ¬ g = gA := by omega
    have n5 : ¬ gA = w.heap.size + 1 := by have := hb1.size; omega
    have n6 : ¬ w.heap.size + 1 = gA := by have := hb1.size; omega
    have n7 : ¬ w.heap.size = g := by omega
    have n8 : ¬ g = w.heap.size := by omega
    have lg : w.heap.size + 1 < g := by omega
    have lgA : g < gA := by omega
    have lA2 : gA < w2.heap.size := lt_of_block HA2.out
    have hk1 := (hb1.block _ lt0).trans HK.out
    have lk1 : w.heap.size < w1.heap.size := lt_of_block hk1
    obtain ⟨k0, k1, k2⟩ := cells3 hk1
    clear ho hb1 hb12 hgl hk1
    go_wp2_with fail
    rw [← hw2, ← hgA]
    clear hw2 hgA
    refine (HIT.out _ HB2.out).mono ?_
    rw [H1.out]
    rintro e w3 ⟨rfl, hb3⟩
    have hk3 := (hb3.block _ (lt_of_block HK2.out)).trans HK2.out
    have hx3 := (hb3.block _ (lt_of_block HX2.out)).trans HX2.out
    have ha3 := (hb3.block _ lA2).trans HA2.out
    have HO3 := Lib.hid (HO2.out.below hb3)
    have HB3 := Lib.hid (HB2.out.trans (hb3.mono HB2.out.size))
    clear k0 k1 k2
    obtain ⟨k0, k1, k2⟩ := cells3 hk3
    obtain ⟨z0, z1, z2⟩ := cells3 hx3
    obtain ⟨a0, a1, a2⟩ := cells3 ha3
    have fx : ∀ j, w3.frozen? ⟨w.heap.size + 1, j, none⟩ = false := fun j => frozen_of_row _ _ j _ _ hx3
    have fg : ∀ j, w3.frozen? ⟨g, j, none⟩ = false := fun j => HO3.out.free j
    have lx3 : w.heap.size + 1 < w3.heap.size := lt_of_block hx3
    have la3 : gA < w3.heap.size := lt_of_block ha3
    have lg3 : g < w3.heap.size := by omega
    clear hk3 hx3 ha3 hb3
    go_wp2
    refine bodyPost_ret (by rw [results_cell_tmpF rfl]; go_simp; try rfl) rfl ?_
    exact ⟨_, by rw [HV.out], by rw [HV.out]; exact (HO3.out.grown (only_setCell (only_setCell (only_setCell (World.grownBy.refl _ _) 0 _) 1 _) 2 _) (fun g' e e2 => by have h1 : g = g' := Option.some.inj e; have h2 := Option.some.inj e2; omega)).mono (by omega), (((HB3.out.setCell (by simp only; omega) _).setCell (by simp only; omega) _).setCell (by simp only; omega) _)⟩
  have H1 := Lib.hid h1
  cases h2 : inB cr 1 (n : Int)
  · have HV := Lib.hid (voteP_no2 (p := p) (a := a) (yes := yes) (now := now) (by rw [HL.out]; exact h2))
    have H2 := Lib.hid h2
    clear h1 h2
    go_enter Try.func12, Try.ntmps12
    go_wp2_with fail
    rw [← hwA]
    clear hwA
    refine HCP.out.mono ?_
    rintro e w1 ⟨g, rfl, ho, hb1⟩
    have hgl := ho.block g rfl
    obtain ⟨gA, hgA⟩ : ∃ gA, gA = w1.heap.size := ⟨_, rfl⟩
    obtain ⟨w2, hw2⟩ : ∃ w2, w2 = w1.alloc (.cells #[.int .i64 p, .int .i64 a, .slice (some ⟨g, 0, none⟩) n n] 26) := ⟨_, rfl⟩
    have hb12 : Below w1.heap.size w1 w2 := by rw [hw2]; exact (Below.refl _ _).alloc (Nat.le_refl _) _
    have HA2 : Hid (w2.heap[gA]? = some (.cells #[.int .i64 p, .int .i64 a, .slice (some ⟨g, 0, none⟩) n n] 26 (0, 0))) := Lib.hid (by rw [hw2, hgA]; exact heap_alloc_new _ _)
    have HK2 := Lib.hid ((hb12.block _ (Nat.lt_of_lt_of_le lt0 hb1.size)).trans ((hb1.block _ lt0).trans HK.out))
    have HX2 := Lib.hid ((hb12.block _ (Nat.lt_of_lt_of_le lt1 hb1.size)).trans ((hb1.block _ lt1).trans HX.out))
    have HO2 := Lib.hid (ho.below hb12)
    have HB2 := Lib.hid ((HB.out.trans (hb1.mono HB.out.size)).trans (hb12.mono (Nat.le_trans HB.out.size hb1.size)))
    have n1 : ¬ w.heap.size + 1 = g := by omega
    have n2 : ¬ g = w.heap.size + 1 := by omega
    have n3 : ¬ gA = g := by omega
    have n4 : ¬ g = gA := by omega
    have n5 : ¬ gA = w.heap.size + 1 := by have := hb1.size; omega
    have n6 : ¬ w.heap.size + 1 = gA := by have := hb1.size; omega
    have n7 : ¬ w.heap.size = g := by omega
    have n8 : ¬ g = w.heap.size := by omega
    have lg : w.heap.size + 1 < g := by omega
    have lgA : g < gA := by omega
    have lA2 : gA < w2.heap.size := lt_of_block HA2.out
    have hk1 := (hb1.block _ lt0).trans HK.out
    have lk1 : w.heap.size < w1.heap.size := lt_of_block hk1
    obtain ⟨k0, k1, k2⟩ := cells3 hk1
    clear ho hb1 hb12 hgl hk1
    go_wp2_with fail
    rw [← hw2, ← hgA]
    clear hw2 hgA
    refine (HIT.out _ HB2.out).mono ?_
    rw [H1.out]
    rintro e w3 ⟨rfl, hb3⟩
    have hk3 := (hb3.block _ (lt_of_block HK2.out)).trans HK2.out
    have hx3 := (hb3.block _ (lt_of_block HX2.out)).trans HX2.out
    have ha3 := (hb3.block _ lA2).trans HA2.out
    have HO3 := Lib.hid (HO2.out.below hb3)
    have HB3 := Lib.hid (HB2.out.trans (hb3.mono HB2.out.size))
    clear k0 k1 k2
    obtain ⟨k0, k1, k2⟩ := cells3 hk3
    obtain ⟨z0, z1, z2⟩ := cells3 hx3
    obtain ⟨a0, a1, a2⟩ := cells3 ha3
    have fx : ∀ j, w3.frozen? ⟨w.heap.size + 1, j, none⟩ = false := fun j => frozen_of_row _ _ j _ _ hx3
    have fg : ∀ j, w3.frozen? ⟨g, j, none⟩ = false := fun j => HO3.out.free j
    have lx3 : w.heap.size + 1 < w3.heap.size := lt_of_block hx3
    have la3 : gA < w3.heap.size := lt_of_block ha3
    have lg3 : g < w3.heap.size := by omega
    clear hk3 hx3 ha3 hb3
    go_wp2_with fail
    refine (impl_InRange _ _ _ _).mono ?_
    rintro e w4 ⟨rfl, rfl⟩
    rw [H2.out]
    go_wp2
    refine bodyPost_ret (by rw [results_cell_tmpF rfl]; go_simp; try rfl) rfl ?_
    exact ⟨_, by rw [HV.out], by rw [HV.out]; exact (HO3.out.grown (only_setCell (only_setCell (only_setCell (World.grownBy.refl _ _) 0 _) 1 _) 2 _) (fun g' e e2 => by have h1 : g = g' := Option.some.inj e; have h2 := Option.some.inj e2; omega)).mono (by omega), (((HB3.out.setCell (by simp only; omega) _).setCell (by simp only; omega) _).setCell (by simp only; omega) _)⟩
  have H2 := Lib.hid h2
  have hcr := inB_t h2
  by_cases h3 : now < a
  rotate_left
  · have HV := Lib.hid (voteP_no3 (p := p) (zs := zs) (cr := cr) (yes := yes) h3)
    have h3' : a ≤ now := by omega
    have h3b : decide (a ≤ now) = true := decide_eq_true h3'
    clear h1 h2 h3
    go_enter Try.func12, Try.ntmps12
    go_wp2_with fail
    rw [← hwA]
    clear hwA
    refine HCP.out.mono ?_
    rintro e w1 ⟨g, rfl, ho, hb1⟩
    have hgl := ho.block g rfl
    obtain ⟨gA, hgA⟩ : ∃ gA, gA = w1.heap.size := ⟨_, rfl⟩
    obtain ⟨w2, hw2⟩ : ∃ w2, w2 = w1.alloc (.cells #[.int .i64 p, .int .i64 a, .slice (some ⟨g, 0, none⟩) n n] 26) := ⟨_, rfl⟩
    have hb12 : Below w1.heap.size w1 w2 := by rw [hw2]; exact (Below.refl _ _).alloc (Nat.le_refl _) _
    have HA2 : Hid (w2.heap[gA]? = some (.cells #[.int .i64 p, .int .i64 a, .slice (some ⟨g, 0, none⟩) n n] 26 (0, 0))) := Lib.hid (by rw [hw2, hgA]; exact heap_alloc_new _ _)
    have HK2 := Lib.hid ((hb12.block _ (Nat.lt_of_lt_of_le lt0 hb1.size)).trans ((hb1.block _ lt0).trans HK.out))
    have HX2 := Lib.hid ((hb12.block _ (Nat.lt_of_lt_of_le lt1 hb1.size)).trans ((hb1.block _ lt1).trans HX.out))
    have HO2 := Lib.hid (ho.below hb12)
    have HB2 := Lib.hid ((HB.out.trans (hb1.mono HB.out.size)).trans (hb12.mono (Nat.le_trans HB.out.size hb1.size)))
    have n1 : ¬ w.heap.size + 1 = g := by omega
    have n2 : ¬ g = w.heap.size + 1 := by omega
    have n3 : ¬ gA = g := by omega
    have n4 : ¬ g = gA := by omega
    have n5 : ¬ gA = w.heap.size + 1 := by have := hb1.size; omega
    have n6 : ¬ w.heap.size + 1 = gA := by have := hb1.size; omega
    have n7 : ¬ w.heap.size = g := by omega
    have n8 : ¬ g = w.heap.size := by omega
    have lg : w.heap.size + 1 < g := by omega
    have lgA : g < gA := by omega
    have lA2 : gA < w2.heap.size := lt_of_block HA2.out
    have hk1 := (hb1.block _ lt0).trans HK.out
    have lk1 : w.heap.size < w1.heap.size := lt_of_block hk1
    obtain ⟨k0, k1, k2⟩ := cells3 hk1
    clear ho hb1 hb12 hgl hk1
    go_wp2_with fail
    rw [← hw2, ← hgA]
    clear hw2 hgA
    refine (HIT.out _ HB2.out).mono ?_
    rw [H1.out]
    rintro e w3 ⟨rfl, hb3⟩
    have hk3 := (hb3.block _ (lt_of_block HK2.out)).trans HK2.out
    have hx3 := (hb3.block _ (lt_of_block HX2.out)).trans HX2.out
    have ha3 := (hb3.block _ lA2).trans HA2.out
    have HO3 := Lib.hid (HO2.out.below hb3)
    have HB3 := Lib.hid (HB2.out.trans (hb3.mono HB2.out.size))
    clear k0 k1 k2
    obtain ⟨k0, k1, k2⟩ := cells3 hk3
    obtain ⟨z0, z1, z2⟩ := cells3 hx3
    obtain ⟨a0, a1, a2⟩ := cells3 ha3
    have fx : ∀ j, w3.frozen? ⟨w.heap.size + 1, j, none⟩ = false := fun j => frozen_of_row _ _ j _ _ hx3
    have fg : ∀ j, w3.frozen? ⟨g, j, none⟩ = false := fun j => HO3.out.free j
    have lx3 : w.heap.size + 1 < w3.heap.size := lt_of_block hx3
    have la3 : gA < w3.heap.size := lt_of_block ha3
    have lg3 : g < w3.heap.size := by omega
    clear hk3 hx3 ha3 hb3
    go_wp2_with fail
    refine (impl_InRange _ _ _ _).mono ?_
    rintro e w4 ⟨rfl, rfl⟩
    rw [H2.out]
    go_wp2
    refine bodyPost_ret (by rw [results_cell_tmpF rfl]; go_simp; try rfl) rfl ?_
    exact ⟨_, by rw [HV.out], by rw [HV.out]; exact (HO3.out.grown (only_setCell (only_setCell (only_setCell (World.grownBy.refl _ _) 0 _) 1 _) 2 _) (fun g' e e2 => by have h1 : g = g' := Option.some.inj e; have h2 := Option.some.inj e2; omega)).mono (by omega), (((HB3.out.setCell (by simp only; omega) _).setCell (by simp only; omega) _).setCell (by simp only; omega) _)⟩
  have H3 := Lib.hid h3
  have h3' : ¬ a ≤ now := by omega
  have h3b : decide (a ≤ now) = false := decide_eq_false h3'
  obtain ⟨k, rfl⟩ : ∃ k : Nat, cr = (k : Int) + 1 := ⟨(cr - 1).toNat, by omega⟩
  have hkn : k < n := by omega
  have ekk : ((k : Int) + 1 - 1).toNat = k := by omega
  by_cases h4 : zs.getD k 0 = 0
  rotate_left
  · have HV := Lib.hid (voteP_no4 (p := p) (a := a) (yes := yes) (now := now) (cr := (k : Int) + 1) (zs := zs) (by rw [ekk]; exact h4))
    have H4 := Lib.hid h4
    clear h1 h2 h3 h4 hcr ekk
    go_enter Try.func12, Try.ntmps12
    go_wp2_with fail
    rw [← hwA]
    clear hwA
    refine HCP.out.mono ?_
    rintro e w1 ⟨g, rfl, ho, hb1⟩
    have hgl := ho.block g rfl
    obtain ⟨gA, hgA⟩ : ∃ gA, gA = w1.heap.size := ⟨_, rfl⟩
    obtain ⟨w2, hw2⟩ : ∃ w2, w2 = w1.alloc (.cells #[.int .i64 p, .int .i64 a, .slice (some ⟨g, 0, none⟩) n n] 26) := ⟨_, rfl⟩
    have hb12 : Below w1.heap.size w1 w2 := by rw [hw2]; exact (Below.refl _ _).alloc (Nat.le_refl _) _
    have HA2 : Hid (w2.heap[gA]? = some (.cells #[.int .i64 p, .int .i64 a, .slice (some ⟨g, 0, none⟩) n n] 26 (0, 0))) := Lib.hid (by rw [hw2, hgA]; exact heap_alloc_new _ _)
    have HK2 := Lib.hid ((hb12.block _ (Nat.lt_of_lt_of_le lt0 hb1.size)).trans ((hb1.block _ lt0).trans HK.out))
    have HX2 := Lib.hid ((hb12.block _ (Nat.lt_of_lt_of_le lt1 hb1.size)).trans ((hb1.block _ lt1).trans HX.out))
    have HO2 := Lib.hid (ho.below hb12)
    have HB2 := Lib.hid ((HB.out.trans (hb1.mono HB.out.size)).trans (hb12.mono (Nat.le_trans HB.out.size hb1.size)))
    have n1 : ¬ w.heap.size + 1 = g := by omega
    have n2 : ¬ g = w.heap.size + 1 := by omega
    have n3 : ¬ gA = g := by omega
    have n4 : ¬ g = gA := by omega
    have n5 : ¬ gA = w.heap.size + 1 := by have := hb1.size; omega
    have n6 : ¬ w.heap.size + 1 = gA := by have := hb1.size; omega
    have n7 : ¬ w.heap.size = g := by omega
    have n8 : ¬ g = w.heap.size := by omega
    have lg : w.heap.size + 1 < g := by omega
    have lgA : g < gA := by omega
    have lA2 : gA < w2.heap.size := lt_of_block HA2.out
    have hk1 := (hb1.block _ lt0).trans HK.out
    have lk1 : w.heap.size < w1.heap.size := lt_of_block hk1
    obtain ⟨k0, k1, k2⟩ := cells3 hk1
    clear ho hb1 hb12 hgl hk1
    go_wp2_with fail
    rw [← hw2, ← hgA]
    clear hw2 hgA
    refine (HIT.out _ HB2.out).mono ?_
    rw [H1.out]
    rintro e w3 ⟨rfl, hb3⟩
    have hk3 := (hb3.block _ (lt_of_block HK2.out)).trans HK2.out
    have hx3 := (hb3.block _ (lt_of_block HX2.out)).trans HX2.out
    have ha3 := (hb3.block _ lA2).trans HA2.out
    have HO3 := Lib.hid (HO2.out.below hb3)
    have HB3 := Lib.hid (HB2.out.trans (hb3.mono HB2.out.size))
    clear k0 k1 k2
    obtain ⟨k0, k1, k2⟩ := cells3 hk3
    obtain ⟨z0, z1, z2⟩ := cells3 hx3
    obtain ⟨a0, a1, a2⟩ := cells3 ha3
    have fx : ∀ j, w3.frozen? ⟨w.heap.size + 1, j, none⟩ = false := fun j => frozen_of_row _ _ j _ _ hx3
    have fg : ∀ j, w3.frozen? ⟨g, j, none⟩ = false := fun j => HO3.out.free j
    have lx3 : w.heap.size + 1 < w3.heap.size := lt_of_block hx3
    have la3 : gA < w3.heap.size := lt_of_block ha3
    have lg3 : g < w3.heap.size := by omega
    clear hk3 hx3 ha3 hb3
    go_wp2_with fail
    refine (impl_InRange _ _ _ _).mono ?_
    rintro e w4 ⟨rfl, rfl⟩
    rw [H2.out]
    have cz := HO3.out.cell k (by rw [HL.out]; exact hkn)
    have h4b : (zs.getD k 0 != 0) = true := bne_iff_ne.2 H4.out
    generalize zs.getD k 0 = z at cz h4b
    have i1 : (0 : Int) ≤ (k : Int) := by omega
    have i2 : (k : Int) < (n : Int) := by omega
    go_wp2
    refine bodyPost_ret (by rw [results_cell_tmpF rfl]; go_simp; try rfl) rfl ?_
    exact ⟨_, by rw [HV.out], by rw [HV.out]; exact (HO3.out.grown (only_setCell (only_setCell (only_setCell (World.grownBy.refl _ _) 0 _) 1 _) 2 _) (fun g' e e2 => by have h1 : g = g' := Option.some.inj e; have h2 := Option.some.inj e2; omega)).mono (by omega), (((HB3.out.setCell (by simp only; omega) _).setCell (by simp only; omega) _).setCell (by simp only; omega) _)⟩
  cases yes
  · have HV := Lib.hid (voteP_yes (p := p) (a := a) (yes := false) (now := now) (cr := (k : Int) + 1) (zs := zs) H1.out (by rw [HL.out]; exact H2.out) H3.out (by rw [ekk]; exact h4))
    rw [ekk] at HV
    have H4 := Lib.hid h4
    clear h1 h2 h3 h4 hcr ekk
    go_enter Try.func12, Try.ntmps12
    go_wp2_with fail
    rw [← hwA]
    clear hwA
    refine HCP.out.mono ?_
    rintro e w1 ⟨g, rfl, ho, hb1⟩
    have hgl := ho.block g rfl
    obtain ⟨gA, hgA⟩ : ∃ gA, gA = w1.heap.size := ⟨_, rfl⟩
    obtain ⟨w2, hw2⟩ : ∃ w2, w2 = w1.alloc (.cells #[.int .i64 p, .int .i64 a, .slice (some ⟨g, 0, none⟩) n n] 26) := ⟨_, rfl⟩
    have hb12 : Below w1.heap.size w1 w2 := by rw [hw2]; exact (Below.refl _ _).alloc (Nat.le_refl _) _
    have HA2 : Hid (w2.heap[gA]? = some (.cells #[.int .i64 p, .int .i64 a, .slice (some ⟨g, 0, none⟩) n n] 26 (0, 0))) := Lib.hid (by rw [hw2, hgA]; exact heap_alloc_new _ _)
    have HK2 := Lib.hid ((hb12.block _ (Nat.lt_of_lt_of_le lt0 hb1.size)).trans ((hb1.block _ lt0).trans HK.out))
    have HX2 := Lib.hid ((hb12.block _ (Nat.lt_of_lt_of_le lt1 hb1.size)).trans ((hb1.block _ lt1).trans HX.out))
    have HO2 := Lib.hid (ho.below hb12)
    have HB2 := Lib.hid ((HB.out.trans (hb1.mono HB.out.size)).trans (hb12.mono (Nat.le_trans HB.out.size hb1.size)))
    have n1 : ¬ w.heap.size + 1 = g := by omega
    have n2 : ¬ g = w.heap.size + 1 := by omega
    have n3 : ¬ gA = g := by omega
    have n4 : ¬ g = gA := by omega
    have n5 : ¬ gA = w.heap.size + 1 := by have := hb1.size; omega
    have n6 : ¬ w.heap.size + 1 = gA := by have := hb1.size; omega
    have n7 : ¬ w.heap.size = g := by omega
    have n8 : ¬ g = w.heap.size := by omega
    have lg : w.heap.size + 1 < g := by omega
    have lgA : g < gA := by omega
    have lA2 : gA < w2.heap.size := lt_of_block HA2.out
    have hk1 := (hb1.block _ lt0).trans HK.out
    have lk1 : w.heap.size < w1.heap.size := lt_of_block hk1
    obtain ⟨k0, k1, k2⟩ := cells3 hk1
    clear ho hb1 hb12 hgl hk1
    go_wp2_with fail
    rw [← hw2, ← hgA]
    clear hw2 hgA
    refine (HIT.out _ HB2.out).mono ?_
    rw [H1.out]
    rintro e w3 ⟨rfl, hb3⟩
    have hk3 := (hb3.block _ (lt_of_block HK2.out)).trans HK2.out
    have hx3 := (hb3.block _ (lt_of_block HX2.out)).trans HX2.out
    have ha3 := (hb3.block _ lA2).trans HA2.out
    have HO3 := Lib.hid (HO2.out.below hb3)
    have HB3 := Lib.hid (HB2.out.trans (hb3.mono HB2.out.size))
    clear k0 k1 k2
    obtain ⟨k0, k1, k2⟩ := cells3 hk3
    obtain ⟨z0, z1, z2⟩ := cells3 hx3
    obtain ⟨a0, a1, a2⟩ := cells3 ha3
    have fx : ∀ j, w3.frozen? ⟨w.heap.size + 1, j, none⟩ = false := fun j => frozen_of_row _ _ j _ _ hx3
    have fg : ∀ j, w3.frozen? ⟨g, j, none⟩ = false := fun j => HO3.out.free j
    have lx3 : w.heap.size + 1 < w3.heap.size := lt_of_block hx3
    have la3 : gA < w3.heap.size := lt_of_block ha3
    have lg3 : g < w3.heap.size := by omega
    clear hk3 hx3 ha3 hb3
    go_wp2_with fail
    refine (impl_InRange _ _ _ _).mono ?_
    rintro e w4 ⟨rfl, rfl⟩
    rw [H2.out]
    have cz := HO3.out.cell k (by rw [HL.out]; exact hkn)
    rw [H4.out] at cz
    have i1 : (0 : Int) ≤ (k : Int) := by omega
    have i2 : (k : Int) < (n : Int) := by omega
    go_wp2
    have HS2 : Hid (Own .i64 3 (w3.setCell ⟨g, k, none⟩ (.int .i64 2)) wA.heap.size (.slice (some ⟨g, 0, none⟩) n n) (zs.set k 2)) := Lib.hid (HO3.out.stored k 2)
    have HSX := HS2
    have HBX := Lib.hid (HB3.out.setCell (p := ⟨g, k, none⟩) (by simp only; omega) (.int .i64 2))
    refine bodyPost_ret (by rw [results_cell_tmpF rfl]; go_simp; try rfl) rfl ?_
    exact ⟨_, by rw [HV.out], by rw [HV.out]; exact (HSX.out.grown (only_setCell (only_setCell (only_setCell (World.grownBy.refl _ _) 0 _) 1 _) 2 _) (fun g' e e2 => by have h1 : g = g' := Option.some.inj e; have h2 := Option.some.inj e2; omega)).mono (by omega), (((HBX.out.setCell (by simp only; omega) _).setCell (by simp only; omega) _).setCell (by simp only; omega) _)⟩
  · have HV := Lib.hid (voteP_yes (p := p) (a := a) (yes := true) (now := now) (cr := (k : Int) + 1) (zs := zs) H1.out (by rw [HL.out]; exact H2.out) H3.out (by rw [ekk]; exact h4))
    rw [ekk] at HV
    have H4 := Lib.hid h4
    clear h1 h2 h3 h4 hcr ekk
    go_enter Try.func12, Try.ntmps12
    go_wp2_with fail
    rw [← hwA]
    clear hwA
    refine HCP.out.mono ?_
    rintro e w1 ⟨g, rfl, ho, hb1⟩
    have hgl := ho.block g rfl
    obtain ⟨gA, hgA⟩ : ∃ gA, gA = w1.heap.size := ⟨_, rfl⟩
    obtain ⟨w2, hw2⟩ : ∃ w2, w2 = w1.alloc (.cells #[.int .i64 p, .int .i64 a, .slice (some ⟨g, 0, none⟩) n n] 26) := ⟨_, rfl⟩
    have hb12 : Below w1.heap.size w1 w2 := by rw [hw2]; exact (Below.refl _ _).alloc (Nat.le_refl _) _
    have HA2 : Hid (w2.heap[gA]? = some (.cells #[.int .i64 p, .int .i64 a, .slice (some ⟨g, 0, none⟩) n n] 26 (0, 0))) := Lib.hid (by rw [hw2, hgA]; exact heap_alloc_new _ _)
    have HK2 := Lib.hid ((hb12.block _ (Nat.lt_of_lt_of_le lt0 hb1.size)).trans ((hb1.block _ lt0).trans HK.out))
    have HX2 := Lib.hid ((hb12.block _ (Nat.lt_of_lt_of_le lt1 hb1.size)).trans ((hb1.block _ lt1).trans HX.out))
    have HO2 := Lib.hid (ho.below hb12)
    have HB2 := Lib.hid ((HB.out.trans (hb1.mono HB.out.size)).trans (hb12.mono (Nat.le_trans HB.out.size hb1.size)))
    have n1 : ¬ w.heap.size + 1 = g := by omega
    have n2 : ¬ g = w.heap.size + 1 := by omega
    have n3 : ¬ gA = g := by omega
    have n4 : ¬ g = gA := by omega
    have n5 : ¬ gA = w.heap.size + 1 := by have := hb1.size; omega
    have n6 : ¬ w.heap.size + 1 = gA := by have := hb1.size; omega
    have n7 : ¬ w.heap.size = g := by omega
    have n8 : ¬ g = w.heap.size := by omega
    have lg : w.heap.size + 1 < g := by omega
    have lgA : g < gA := by omega
    have lA2 : gA < w2.heap.size := lt_of_block HA2.out
    have hk1 := (hb1.block _ lt0).trans HK.out
    have lk1 : w.heap.size < w1.heap.size := lt_of_block hk1
    obtain ⟨k0, k1, k2⟩ := cells3 hk1
    clear ho hb1 hb12 hgl hk1
    go_wp2_with fail
    rw [← hw2, ← hgA]
    clear hw2 hgA
    refine (HIT.out _ HB2.out).mono ?_
    rw [H1.out]
    rintro e w3 ⟨rfl, hb3⟩
    have hk3 := (hb3.block _ (lt_of_block HK2.out)).trans HK2.out
    have hx3 := (hb3.block _ (lt_of_block HX2.out)).trans HX2.out
    have ha3 := (hb3.block _ lA2).trans HA2.out
    have HO3 := Lib.hid (HO2.out.below hb3)
    have HB3 := Lib.hid (HB2.out.trans (hb3.mono HB2.out.size))
    clear k0 k1 k2
    obtain ⟨k0, k1, k2⟩ := cells3 hk3
    obtain ⟨z0, z1, z2⟩ := cells3 hx3
    obtain ⟨a0, a1, a2⟩ := cells3 ha3
    have fx : ∀ j, w3.frozen? ⟨w.heap.size + 1, j, none⟩ = false := fun j => frozen_of_row _ _ j _ _ hx3
    have fg : ∀ j, w3.frozen? ⟨g, j, none⟩ = false := fun j => HO3.out.free j
    have lx3 : w.heap.size + 1 < w3.heap.size := lt_of_block hx3
    have la3 : gA < w3.heap.size := lt_of_block ha3
    have lg3 : g < w3.heap.size := by omega
    clear hk3 hx3 ha3 hb3
    go_wp2_with fail
    refine (impl_InRange _ _ _ _).mono ?_
    rintro e w4 ⟨rfl, rfl⟩
    rw [H2.out]
    have cz := HO3.out.cell k (by rw [HL.out]; exact hkn)
    rw [H4.out] at cz
    have i1 : (0 : Int) ≤ (k : Int) := by omega
    have i2 : (k : Int) < (n : Int) := by omega
    go_wp2
    have HS2 : Hid (Own .i64 3 (w3.setCell ⟨g, k, none⟩ (.int .i64 2)) wA.heap.size (.slice (some ⟨g, 0, none⟩) n n) (zs.set k 2)) := Lib.hid (HO3.out.stored k 2)
    have HSX := Lib.hid (by have h := HS2.out.stored k 1; rw [List.set_set] at h; exact h)
    have HBX := Lib.hid ((HB3.out.setCell (p := ⟨g, k, none⟩) (by simp only; omega) (.int .i64 2)).setCell (p := ⟨g, k, none⟩) (by simp only; omega) (.int .i64 1))
    refine bodyPost_ret (by rw [results_cell_tmpF rfl]; go_simp; try rfl) rfl ?_
    exact ⟨_, by rw [HV.out], by rw [HV.out]; exact (HSX.out.grown (only_setCell (only_setCell (only_setCell (World.grownBy.refl _ _) 0 _) 1 _) 2 _) (fun g' e e2 => by have h1 : g = g' := Option.some.inj e; have h2 := Option.some.inj e2; omega)).mono (by omega), (((HBX.out.setCell (by simp only; omega) _).setCell (by simp only; omega) _).setCell (by simp only; omega) _)⟩
end Go.Proofs.Ytlpkafhapmkkfaa

/- slices.Clone at []int. -/
namespace Go.Proofs.Ytlpkafhapmkkfaa
open Go.RowKit
set_option linter.unusedVariables false

theorem lib_Clone2 (A : Option Addr) (n c B : Nat) (zs : List Int) (w : World) (h : IntsAt .i64 w B A n zs) (hB : B ≤ w.heap.size) (hA : A = none → n = 0 ∧ c = 0) (hn : n ≤ 4294967296) :
    Calls Try.prog 63 #[.slice A n c] w fun e w' => ∃ v, e = .returned v ∧ Own .i64 3 w' w.heap.size v zs ∧ Below w.heap.size w w' := by
  have hl := h.1
  cases A with
  | none =>
    obtain ⟨rfl, rfl⟩ := hA rfl
    obtain rfl : zs = [] := List.eq_nil_of_length_eq_zero hl
    have hnil : ∀ W, (binOp .eql 22 (.slice none 0 0) (.slice none 0 0)).run Try.prog W = .ok (.bool true) W := fun W => eql_slice_nil Try.underlying22 _ _ _ W
    go_enter Try.func63, Try.ntmps63
    go_wp2
    go_ret
    exact ⟨_, rfl, own_nil _ _ _ _, Below.refl _ _⟩
  | some ad =>
    have hnil : ∀ W, (binOp .eql 22 (.slice (some ad) n c) (.slice none 0 0)).run Try.prog W = .ok (.bool false) W := fun W => eql_slice_nil Try.underlying22 _ _ _ W
    go_enter Try.func63, Try.ntmps63
    go_wp2_with (at_builtin; refine wpList_app rfl _ _ 22 22 rfl .i64 3 3 8 Try.underlying22 Try.underlying22 info_i64 w.heap.size _ [] rfl (own_bare _ _ w) (some ad) n c B zs rfl (h.keep fun p hp => World.cell?_of_block (Below.heap_alloc w _ _ (by omega))) hA (by decide) (by simp; omega) (by simp) ?_; intro v1 w1 hown1 hgrow1 hat1)
    go_ret
    exact ⟨v1, rfl, by simpa using hown1, (own_bare .i64 3 w).push (Nat.le_refl _) ((Below.refl _ _).alloc (Nat.le_refl _) _) (by simp) hgrow1⟩
end Go.Proofs.Ytlpkafhapmkkfaa

/- Chapter 24: VoteTurn of the model (written by genvot.py). -/
namespace Go.Proofs.Ytlpkafhapmkkfaa
open Go.RowKit
set_option linter.unusedVariables false
set_option linter.unusedSimpArgs false

theorem tail_thenV {Q : World → Nat → Option Addr → Nat → Nat → Prop} {F : World → Nat → Option Addr → Nat → Prop} {G : Prop} (main : (∀ W g A c s, F W g A c → Q W g A c s) → G) (tail : ∀ W g A c s, F W g A c → Q W g A c s) : G := main tail
theorem below_set3 {lo g : Nat} {a W : World} (x y z : Value) (h : Below lo a W) (hg : lo ≤ g) : Below lo a (((W.setCell ⟨g, 0, none⟩ x).setCell ⟨g, 1, none⟩ y).setCell ⟨g, 2, none⟩ z) := ((h.setCell hg _).setCell hg _).setCell hg _
theorem own_not_turn {w : World} {lo g : Nat} {v : Value} {zs : List Int} {cs : Array Value} {fr : Nat × Nat} (h : Own .i64 3 w lo v zs) (h2 : w.heap[g]? = some (.cells cs 26 fr)) (e : v.ownBlock = some g) : False := by
  rcases h.2 with ⟨rfl, _⟩ | ⟨g1, cap, cur, rfl, hb, hg1, r⟩
  · cases e
  · have e1 : g1 = g := Option.some.inj e
    subst e1
    rw [hg1] at h2
    injection h2 with h2
    injection h2 with _ ht
    exact absurd ht (by decide)
set_option maxHeartbeats 8000000 in
set_option maxRecDepth 100000 in
theorem spec_VoteTurn (p a : Int) (A : Option Addr) (n c B : Nat) (zs : List Int) (cr : Int) (yes : Bool) (now : Int) (w : World) (h : IntsAt .i64 w B A n zs) (hA : A = none → n = 0 ∧ c = 0) (hB : B ≤ w.heap.size) (hn : n ≤ 1048576) :
    Calls Try.prog 10 #[trnV p a (.slice A n c), .int .i64 cr, .bool yes, .int .i64 now] w fun e w' => ∃ v, e = .returned (.tuple #[trnV p a v, .bool (voteP p a zs cr yes now).2]) ∧ Own .i64 3 w' w.heap.size v (voteP p a zs cr yes now).1 ∧ Below w.heap.size w w' := by
  simp only [trnV]
  have hl := h.1
  have hmx : Try.prog.follows .mixedOrders = true := by kernel_rfl
  obtain ⟨wA, hwA⟩ : ∃ wA, wA = (w.alloc (.cells #[.int .i64 p, .int .i64 a, .slice A n c] 26)).alloc (.cells #[.int .i64 0, .int .i64 0, .slice none 0 0] 26) := ⟨_, rfl⟩
  obtain ⟨hk, hx, hsz, hBA⟩ := two_blocks hwA
  have hit := fun x (hx : Below w.heap.size w x) => spec_IsTurn p a A n c B zs x (h.keep (w' := x) (fun p hp => hx.cell (Nat.lt_of_lt_of_le hp hB))) (Nat.le_trans hB hx.size) (by omega)
  simp only [trnV] at hit
  have HI := Lib.hid (fun x (hx : Below w.heap.size w x) => h.keep (w' := x) (fun p hp => hx.cell (Nat.lt_of_lt_of_le hp hB)))
  have HIT := Lib.hid hit
  have HK := Lib.hid hk
  have HX := Lib.hid hx
  have HB := Lib.hid hBA
  have HL := Lib.hid hl
  have HA := Lib.hid hA
  have lt0 : w.heap.size < wA.heap.size := by omega
  have lt1 : w.heap.size + 1 < wA.heap.size := by omega
  clear hk hx hsz hBA h hl hit hA
  go_enter Try.func10, Try.ntmps10
  go_wp2
  rw [← hwA]
  clear hwA
  refine wp_region_held_drew (S := fun W' => W'.heap[w.heap.size]? = some (.cells #[.int .i64 p, .int .i64 a, .slice A n c] 26 (0, 0))) hmx HK.out (fun hH => ?_)
  refine wpAnyH_take (i := 0) (v := .pointer (some ⟨w.heap.size, 0, none⟩)) rfl (by kernel_rfl) (by kernel_rfl) (by kernel_rfl) (fun _ _ _ h => h) (Or.inl ⟨by rfl, by intro W' hSw; go_simp⟩) hH ?_
  try simp only [Act.put, List.setIfInBounds_toArray, List.set_cons_zero, List.set_cons_succ]
  refine wpAnyH_take (i := 1) (v := .int .i64 p) rfl (by kernel_rfl) (by kernel_rfl) (by kernel_rfl) (fun _ _ _ h => h) (Or.inl ⟨by rfl, by intro W' hSw; have hlt := lt_of_block hSw; obtain ⟨k0, k1, k2⟩ := cells3 hSw; go_simp⟩) hH ?_
  try simp only [Act.put, List.setIfInBounds_toArray, List.set_cons_zero, List.set_cons_succ]
  refine wpAnyH_take (i := 2) (v := .pointer (some ⟨w.heap.size, 1, none⟩)) rfl (by kernel_rfl) (by kernel_rfl) (by kernel_rfl) (fun _ _ _ h => h) (Or.inl ⟨by rfl, by intro W' hSw; go_simp⟩) hH ?_
  try simp only [Act.put, List.setIfInBounds_toArray, List.set_cons_zero, List.set_cons_succ]
  refine wpAnyH_take (i := 3) (v := .int .i64 a) rfl (by kernel_rfl) (by kernel_rfl) (by kernel_rfl) (fun _ _ _ h => h) (Or.inl ⟨by rfl, by intro W' hSw; have hlt := lt_of_block hSw; obtain ⟨k0, k1, k2⟩ := cells3 hSw; go_simp⟩) hH ?_
  try simp only [Act.put, List.setIfInBounds_toArray, List.set_cons_zero, List.set_cons_succ]
  refine wpAnyH_take (i := 5) (v := .pointer (some ⟨w.heap.size, 2, none⟩)) rfl (by kernel_rfl) (by kernel_rfl) (by kernel_rfl) (fun _ _ _ h => h) (Or.inl ⟨by rfl, by intro W' hSw; go_simp⟩) hH ?_
  try simp only [Act.put, List.setIfInBounds_toArray, List.set_cons_zero, List.set_cons_succ]
  refine wpAnyH_take (i := 6) (v := .slice A n c) rfl (by kernel_rfl) (by kernel_rfl) (by kernel_rfl) (fun _ _ _ h => h) (Or.inl ⟨by rfl, by intro W' hSw; have hlt := lt_of_block hSw; obtain ⟨k0, k1, k2⟩ := cells3 hSw; go_simp⟩) hH ?_
  try simp only [Act.put, List.setIfInBounds_toArray, List.set_cons_zero, List.set_cons_succ]
  obtain ⟨v0, hv0⟩ : ∃ v0, v0 = wA.drew := ⟨_, rfl⟩
  rw [← hv0]
  have hb : Below wA.heap.size wA v0 := by rw [hv0]; exact ⟨rfl, rfl, rfl, Nat.le_refl _, fun _ _ => rfl⟩
  clear hv0
  replace HK := Lib.hid ((hb.block _ lt0).trans HK.out)
  replace HX := Lib.hid ((hb.block _ lt1).trans HX.out)
  replace HB := Lib.hid (HB.out.trans (hb.mono HB.out.size))
  have lv : w.heap.size + 1 < v0.heap.size := Nat.lt_of_lt_of_le lt1 hb.size
  clear hb lt0 lt1
  refine tail_thenV (Q := ?tailQ) (F := fun W g A3 c3 => W.heap[w.heap.size]? = some (.cells #[.int .i64 p, .int .i64 a, .slice A n c] 26 (0, 0)) ∧ W.heap[w.heap.size + 1]? = some (.cells #[.int .i64 0, .int .i64 0, .slice none 0 0] 26 (0, 0)) ∧ W.heap[g]? = some (.cells #[.int .i64 p, .int .i64 a, .slice A3 n c3] 26 (0, 0)) ∧ w.heap.size + 1 < g ∧ Own .i64 3 W (w.heap.size + 2) (.slice A3 n c3) zs ∧ (∀ i, (Value.slice A3 n c3).ownBlock = some i → i ≠ g) ∧ Below w.heap.size w W) (fun TAIL => ?_) ?_
  rotate_left
  · skip
    refine wpAnyH_ready (rs := [4, 9]) (by decide +kernel) (by simp) (AllReadyH.cons rfl (fun K hK => ?_) (AllReadyH.cons rfl (fun K hK => ?_) AllReadyH.nil))
    · skip
      go_simp
      obtain ⟨gs, hgs⟩ : ∃ g, g = v0.heap.size := ⟨_, rfl⟩
      obtain ⟨v1, hv⟩ : ∃ v, v = v0.alloc (.cells #[] 3) := ⟨_, rfl⟩
      have hb : Below v0.heap.size v0 v1 := by rw [hv]; exact (Below.refl _ _).alloc (Nat.le_refl _) _
      have HO0 : Hid (Own .i64 3 v1 (w.heap.size + 2) (.slice (some ⟨gs, 0, none⟩) 0 0) []) := Lib.hid (by rw [hv, hgs]; exact own_hollow (heap_alloc_new _ _) (by omega))
      rw [← hv, ← hgs]
      have lvs : w.heap.size + 1 < v1.heap.size := by have := hb.size; omega
      replace HK := Lib.hid ((hb.block _ (lt_of_block HK.out)).trans HK.out)
      replace HX := Lib.hid ((hb.block _ (lt_of_block HX.out)).trans HX.out)
      replace HB := Lib.hid (HB.out.trans (hb.mono HB.out.size))
      clear hb hv hgs
      refine hK.out _ _ HK.out (fun hH => ?_)
      clear hK K
      try simp only [Act.put, List.setIfInBounds_toArray, List.set_cons_zero, List.set_cons_succ]
      refine wpAnyH_ready (rs := [7, 9]) (by decide +kernel) (by simp) (AllReadyH.cons rfl (fun K hK => ?_) (AllReadyH.cons rfl (fun K hK => ?_) AllReadyH.nil))
      · skip
        refine step_app rfl _ _ 22 rfl .i64 3 8 Try.underlying22 info_i64 (w.heap.size + 2) _ [] rfl HO0.out A n c B zs rfl (HI.out _ HB.out) HA.out (by decide) (by simp only [List.length_nil]; omega) (by omega) ?_
        intro v' v2 ho hg
        rw [List.nil_append] at ho
        obtain ⟨A3, c3, rfl⟩ := ho.sliced
        rw [HL.out] at ho ⊢
        have HO := Lib.hid ho
        replace HK := Lib.hid ((hg.block _ (lt_of_block HK.out) (fun e => by have := (HO0.out.block _ e.symm).1; omega)).trans HK.out)
        replace HX := Lib.hid ((hg.block _ (lt_of_block HX.out) (fun e => by have := (HO0.out.block _ e.symm).1; omega)).trans HX.out)
        replace HB := Lib.hid (HO0.out.push (show w.heap.size ≤ w.heap.size + 2 by omega) HB.out (by omega) hg)
        have lva : w.heap.size + 1 < v2.heap.size := by have := hg.size; omega
        clear ho hg
        refine hK.out _ _ HK.out (fun hH => ?_)
        clear hK K
        try simp only [Act.put, List.setIfInBounds_toArray, List.set_cons_zero, List.set_cons_succ]
        refine wpAnyH_take (i := 8) (v := .agg #[.int .i64 p, .int .i64 a, .slice A3 n c3]) rfl (by kernel_rfl) (by kernel_rfl) (by kernel_rfl) (fun _ _ _ h => h) (Or.inl ⟨by rfl, by intro W' hSw; go_simp⟩) HK.out ?_
        try simp only [Act.put, List.setIfInBounds_toArray, List.set_cons_zero, List.set_cons_succ]
        refine wpAnyH_ready (rs := [9]) (by decide +kernel) (by simp) (AllReadyH.cons rfl (fun K hK => ?_) AllReadyH.nil)
        go_simp
        obtain ⟨g, hgd⟩ : ∃ g, g = v2.heap.size := ⟨_, rfl⟩
        obtain ⟨v3, hv⟩ : ∃ v, v = v2.alloc (.cells #[.int .i64 0, .int .i64 0, .slice none 0 0] 26) := ⟨_, rfl⟩
        obtain ⟨hz, -, hb⟩ := one_block hv
        rw [← hv, ← hgd]
        rw [← hgd] at hz
        have HZ := Lib.hid hz
        clear hz hv
        have lgX : w.heap.size + 1 < g := by rw [hgd]; omega
        have HNE : Hid (∀ i, (Value.slice A3 n c3).ownBlock = some i → i ≠ g) := Lib.hid (fun i e => by have := (HO.out.block i e).2; omega)
        replace HO := Lib.hid (HO.out.below hb)
        have lvv : w.heap.size + 1 < v3.heap.size := by have := hb.size; omega
        replace HK := Lib.hid ((hb.block _ (lt_of_block HK.out)).trans HK.out)
        replace HX := Lib.hid ((hb.block _ (lt_of_block HX.out)).trans HX.out)
        replace HB := Lib.hid (HB.out.trans (hb.mono HB.out.size))
        clear hb hgd
        refine hK.out _ _ HK.out (fun hH => ?_)
        clear hK K
        try simp only [Act.put, List.setIfInBounds_toArray, List.set_cons_zero, List.set_cons_succ]
        refine wpAnyH_ready (rs := [10]) (by decide +kernel) (by simp) (AllReadyH.cons rfl (fun K hK => ?_) AllReadyH.nil)
        obtain ⟨z0, z1, z2⟩ := cells3 HZ.out
        have fz : ∀ j, v3.frozen? ⟨g, j, none⟩ = false := fun j => frozen_of_row _ _ j _ _ HZ.out
        have lg := lt_of_block HZ.out
        go_simp
        obtain ⟨vS, hvS⟩ : ∃ vS, vS = (((v3.setCell ⟨g, 0, none⟩ (.int .i64 p)).setCell ⟨g, 1, none⟩ (.int .i64 a)).setCell ⟨g, 2, none⟩ (.slice A3 n c3)) := ⟨_, rfl⟩
        have hS1 : vS.heap[w.heap.size]? = some (.cells #[.int .i64 p, .int .i64 a, .slice A n c] 26 (0, 0)) := by rw [hvS]; exact unstored3 HK.out (by omega)
        have hS2 : vS.heap[w.heap.size + 1]? = some (.cells #[.int .i64 0, .int .i64 0, .slice none 0 0] 26 (0, 0)) := by rw [hvS]; exact unstored3 HX.out (by omega)
        have hS3 : vS.heap[g]? = some (.cells #[.int .i64 p, .int .i64 a, .slice A3 n c3] 26 (0, 0)) := by rw [hvS]; exact stored3 HZ.out
        have hS4 : Below w.heap.size w vS := by rw [hvS]; exact below_set3 _ _ _ HB.out (by omega)
        have hS5 : Own .i64 3 vS (w.heap.size + 2) (.slice A3 n c3) zs := by rw [hvS]; exact HO.out.grown (only_setCell (only_setCell (only_setCell (World.grownBy.refl _ (some g)) 0 _) 1 _) 2 _) (fun i e h => HNE.out i e (Option.some.inj h).symm)
        rw [← hvS]
        clear hvS z0 z1 z2 fz
        refine hK.out _ _ hS1 (fun hH => ?_)
        clear hK K
        try simp only [Act.put, List.setIfInBounds_toArray, List.set_cons_zero, List.set_cons_succ]
        refine wpAnyH_done (by decide +kernel) ?_ _
        exact TAIL vS g A3 c3 gs ⟨hS1, hS2, hS3, lgX, hS5, HNE.out, hS4⟩
      · skip
        go_simp
        obtain ⟨g, hgd⟩ : ∃ g, g = v1.heap.size := ⟨_, rfl⟩
        obtain ⟨v2, hv⟩ : ∃ v, v = v1.alloc (.cells #[.int .i64 0, .int .i64 0, .slice none 0 0] 26) := ⟨_, rfl⟩
        obtain ⟨hz, -, hb⟩ := one_block hv
        rw [← hv, ← hgd]
        rw [← hgd] at hz
        have HZ := Lib.hid hz
        clear hz hv
        have lgX : w.heap.size + 1 < g := by rw [hgd]; omega
        have HNE0 : Hid (∀ i, (Value.slice (some ⟨gs, 0, none⟩) 0 0).ownBlock = some i → i ≠ g) := Lib.hid (fun i e => by have := (HO0.out.block i e).2; omega)
        replace HO0 := Lib.hid (HO0.out.below hb)
        have lvv : w.heap.size + 1 < v2.heap.size := by have := hb.size; omega
        replace HK := Lib.hid ((hb.block _ (lt_of_block HK.out)).trans HK.out)
        replace HX := Lib.hid ((hb.block _ (lt_of_block HX.out)).trans HX.out)
        replace HB := Lib.hid (HB.out.trans (hb.mono HB.out.size))
        clear hb hgd
        refine hK.out _ _ HK.out (fun hH => ?_)
        clear hK K
        try simp only [Act.put, List.setIfInBounds_toArray, List.set_cons_zero, List.set_cons_succ]
        refine wpAnyH_ready (rs := [7]) (by decide +kernel) (by simp) (AllReadyH.cons rfl (fun K hK => ?_) AllReadyH.nil)
        refine step_app rfl _ _ 22 rfl .i64 3 8 Try.underlying22 info_i64 (w.heap.size + 2) _ [] rfl HO0.out A n c B zs rfl (HI.out _ HB.out) HA.out (by decide) (by simp only [List.length_nil]; omega) (by omega) ?_
        intro v' v3 ho hg
        rw [List.nil_append] at ho
        obtain ⟨A3, c3, rfl⟩ := ho.sliced
        rw [HL.out] at ho ⊢
        have HO := Lib.hid ho
        replace HK := Lib.hid ((hg.block _ (lt_of_block HK.out) (fun e => by have := (HO0.out.block _ e.symm).1; omega)).trans HK.out)
        replace HX := Lib.hid ((hg.block _ (lt_of_block HX.out) (fun e => by have := (HO0.out.block _ e.symm).1; omega)).trans HX.out)
        skip
        replace HB := Lib.hid (HO0.out.push (show w.heap.size ≤ w.heap.size + 2 by omega) HB.out (by omega) hg)
        have HNE : Hid (∀ i, (Value.slice A3 n c3).ownBlock = some i → i ≠ g) := Lib.hid (fun i e h => by subst h; exact own_not_turn ho ((hg.block _ (lt_of_block HZ.out) (fun e => HNE0.out _ e.symm rfl)).trans HZ.out) e)
        replace HZ := Lib.hid ((hg.block _ (lt_of_block HZ.out) (fun e => HNE0.out _ e.symm rfl)).trans HZ.out)
        have lva : w.heap.size + 1 < v3.heap.size := by have := hg.size; omega
        clear ho hg
        refine hK.out _ _ HK.out (fun hH => ?_)
        clear hK K
        try simp only [Act.put, List.setIfInBounds_toArray, List.set_cons_zero, List.set_cons_succ]
        refine wpAnyH_take (i := 8) (v := .agg #[.int .i64 p, .int .i64 a, .slice A3 n c3]) rfl (by kernel_rfl) (by kernel_rfl) (by kernel_rfl) (fun _ _ _ h => h) (Or.inl ⟨by rfl, by intro W' hSw; go_simp⟩) HK.out ?_
        try simp only [Act.put, List.setIfInBounds_toArray, List.set_cons_zero, List.set_cons_succ]
        refine wpAnyH_ready (rs := [10]) (by decide +kernel) (by simp) (AllReadyH.cons rfl (fun K hK => ?_) AllReadyH.nil)
        obtain ⟨z0, z1, z2⟩ := cells3 HZ.out
        have fz : ∀ j, v3.frozen? ⟨g, j, none⟩ = false := fun j => frozen_of_row _ _ j _ _ HZ.out
        have lg := lt_of_block HZ.out
        go_simp
        obtain ⟨vS, hvS⟩ : ∃ vS, vS = (((v3.setCell ⟨g, 0, none⟩ (.int .i64 p)).setCell ⟨g, 1, none⟩ (.int .i64 a)).setCell ⟨g, 2, none⟩ (.slice A3 n c3)) := ⟨_, rfl⟩
        have hS1 : vS.heap[w.heap.size]? = some (.cells #[.int .i64 p, .int .i64 a, .slice A n c] 26 (0, 0)) := by rw [hvS]; exact unstored3 HK.out (by omega)
        have hS2 : vS.heap[w.heap.size + 1]? = some (.cells #[.int .i64 0, .int .i64 0, .slice none 0 0] 26 (0, 0)) := by rw [hvS]; exact unstored3 HX.out (by omega)
        have hS3 : vS.heap[g]? = some (.cells #[.int .i64 p, .int .i64 a, .slice A3 n c3] 26 (0, 0)) := by rw [hvS]; exact stored3 HZ.out
        have hS4 : Below w.heap.size w vS := by rw [hvS]; exact below_set3 _ _ _ HB.out (by omega)
        have hS5 : Own .i64 3 vS (w.heap.size + 2) (.slice A3 n c3) zs := by rw [hvS]; exact HO.out.grown (only_setCell (only_setCell (only_setCell (World.grownBy.refl _ (some g)) 0 _) 1 _) 2 _) (fun i e h => HNE.out i e (Option.some.inj h).symm)
        rw [← hvS]
        clear hvS z0 z1 z2 fz
        refine hK.out _ _ hS1 (fun hH => ?_)
        clear hK K
        try simp only [Act.put, List.setIfInBounds_toArray, List.set_cons_zero, List.set_cons_succ]
        refine wpAnyH_done (by decide +kernel) ?_ _
        exact TAIL vS g A3 c3 gs ⟨hS1, hS2, hS3, lgX, hS5, HNE.out, hS4⟩
    · skip
      go_simp
      obtain ⟨g, hgd⟩ : ∃ g, g = v0.heap.size := ⟨_, rfl⟩
      obtain ⟨v1, hv⟩ : ∃ v, v = v0.alloc (.cells #[.int .i64 0, .int .i64 0, .slice none 0 0] 26) := ⟨_, rfl⟩
      obtain ⟨hz, -, hb⟩ := one_block hv
      rw [← hv, ← hgd]
      rw [← hgd] at hz
      have HZ := Lib.hid hz
      clear hz hv
      have lgX : w.heap.size + 1 < g := by omega
      have lvv : w.heap.size + 1 < v1.heap.size := by have := hb.size; omega
      replace HK := Lib.hid ((hb.block _ (lt_of_block HK.out)).trans HK.out)
      replace HX := Lib.hid ((hb.block _ (lt_of_block HX.out)).trans HX.out)
      replace HB := Lib.hid (HB.out.trans (hb.mono HB.out.size))
      clear hb hgd
      refine hK.out _ _ HK.out (fun hH => ?_)
      clear hK K
      try simp only [Act.put, List.setIfInBounds_toArray, List.set_cons_zero, List.set_cons_succ]
      refine wpAnyH_ready (rs := [4]) (by decide +kernel) (by simp) (AllReadyH.cons rfl (fun K hK => ?_) AllReadyH.nil)
      go_simp
      obtain ⟨gs, hgs⟩ : ∃ g, g = v1.heap.size := ⟨_, rfl⟩
      obtain ⟨v2, hv⟩ : ∃ v, v = v1.alloc (.cells #[] 3) := ⟨_, rfl⟩
      have hb : Below v1.heap.size v1 v2 := by rw [hv]; exact (Below.refl _ _).alloc (Nat.le_refl _) _
      have HO0 : Hid (Own .i64 3 v2 (w.heap.size + 2) (.slice (some ⟨gs, 0, none⟩) 0 0) []) := Lib.hid (by rw [hv, hgs]; exact own_hollow (heap_alloc_new _ _) (by omega))
      rw [← hv, ← hgs]
      have HNE0 : Hid (∀ i, (Value.slice (some ⟨gs, 0, none⟩) 0 0).ownBlock = some i → i ≠ g) := Lib.hid (fun i e => by have h1 : gs = i := Option.some.inj e; have := lt_of_block HZ.out; omega)
      replace HZ := Lib.hid ((hb.block _ (lt_of_block HZ.out)).trans HZ.out)
      have lvs : w.heap.size + 1 < v2.heap.size := by have := hb.size; omega
      replace HK := Lib.hid ((hb.block _ (lt_of_block HK.out)).trans HK.out)
      replace HX := Lib.hid ((hb.block _ (lt_of_block HX.out)).trans HX.out)
      replace HB := Lib.hid (HB.out.trans (hb.mono HB.out.size))
      clear hb hv hgs
      refine hK.out _ _ HK.out (fun hH => ?_)
      clear hK K
      try simp only [Act.put, List.setIfInBounds_toArray, List.set_cons_zero, List.set_cons_succ]
      refine wpAnyH_ready (rs := [7]) (by decide +kernel) (by simp) (AllReadyH.cons rfl (fun K hK => ?_) AllReadyH.nil)
      refine step_app rfl _ _ 22 rfl .i64 3 8 Try.underlying22 info_i64 (w.heap.size + 2) _ [] rfl HO0.out A n c B zs rfl (HI.out _ HB.out) HA.out (by decide) (by simp only [List.length_nil]; omega) (by omega) ?_
      intro v' v3 ho hg
      rw [List.nil_append] at ho
      obtain ⟨A3, c3, rfl⟩ := ho.sliced
      rw [HL.out] at ho ⊢
      have HO := Lib.hid ho
      replace HK := Lib.hid ((hg.block _ (lt_of_block HK.out) (fun e => by have := (HO0.out.block _ e.symm).1; omega)).trans HK.out)
      replace HX := Lib.hid ((hg.block _ (lt_of_block HX.out) (fun e => by have := (HO0.out.block _ e.symm).1; omega)).trans HX.out)
      skip
      replace HB := Lib.hid (HO0.out.push (show w.heap.size ≤ w.heap.size + 2 by omega) HB.out (by omega) hg)
      have HNE : Hid (∀ i, (Value.slice A3 n c3).ownBlock = some i → i ≠ g) := Lib.hid (fun i e h => by subst h; exact own_not_turn ho ((hg.block _ (lt_of_block HZ.out) (fun e => HNE0.out _ e.symm rfl)).trans HZ.out) e)
      replace HZ := Lib.hid ((hg.block _ (lt_of_block HZ.out) (fun e => HNE0.out _ e.symm rfl)).trans HZ.out)
      have lva : w.heap.size + 1 < v3.heap.size := by have := hg.size; omega
      clear ho hg
      refine hK.out _ _ HK.out (fun hH => ?_)
      clear hK K
      try simp only [Act.put, List.setIfInBounds_toArray, List.set_cons_zero, List.set_cons_succ]
      refine wpAnyH_take (i := 8) (v := .agg #[.int .i64 p, .int .i64 a, .slice A3 n c3]) rfl (by kernel_rfl) (by kernel_rfl) (by kernel_rfl) (fun _ _ _ h => h) (Or.inl ⟨by rfl, by intro W' hSw; go_simp⟩) HK.out ?_
      try simp only [Act.put, List.setIfInBounds_toArray, List.set_cons_zero, List.set_cons_succ]
      refine wpAnyH_ready (rs := [10]) (by decide +kernel) (by simp) (AllReadyH.cons rfl (fun K hK => ?_) AllReadyH.nil)
      obtain ⟨z0, z1, z2⟩ := cells3 HZ.out
      have fz : ∀ j, v3.frozen? ⟨g, j, none⟩ = false := fun j => frozen_of_row _ _ j _ _ HZ.out
      have lg := lt_of_block HZ.out
      go_simp
      obtain ⟨vS, hvS⟩ : ∃ vS, vS = (((v3.setCell ⟨g, 0, none⟩ (.int .i64 p)).setCell ⟨g, 1, none⟩ (.int .i64 a)).setCell ⟨g, 2, none⟩ (.slice A3 n c3)) := ⟨_, rfl⟩
      have hS1 : vS.heap[w.heap.size]? = some (.cells #[.int .i64 p, .int .i64 a, .slice A n c] 26 (0, 0)) := by rw [hvS]; exact unstored3 HK.out (by omega)
      have hS2 : vS.heap[w.heap.size + 1]? = some (.cells #[.int .i64 0, .int .i64 0, .slice none 0 0] 26 (0, 0)) := by rw [hvS]; exact unstored3 HX.out (by omega)
      have hS3 : vS.heap[g]? = some (.cells #[.int .i64 p, .int .i64 a, .slice A3 n c3] 26 (0, 0)) := by rw [hvS]; exact stored3 HZ.out
      have hS4 : Below w.heap.size w vS := by rw [hvS]; exact below_set3 _ _ _ HB.out (by omega)
      have hS5 : Own .i64 3 vS (w.heap.size + 2) (.slice A3 n c3) zs := by rw [hvS]; exact HO.out.grown (only_setCell (only_setCell (only_setCell (World.grownBy.refl _ (some g)) 0 _) 1 _) 2 _) (fun i e h => HNE.out i e (Option.some.inj h).symm)
      rw [← hvS]
      clear hvS z0 z1 z2 fz
      refine hK.out _ _ hS1 (fun hH => ?_)
      clear hK K
      try simp only [Act.put, List.setIfInBounds_toArray, List.set_cons_zero, List.set_cons_succ]
      refine wpAnyH_done (by decide +kernel) ?_ _
      exact TAIL vS g A3 c3 gs ⟨hS1, hS2, hS3, lgX, hS5, HNE.out, hS4⟩
  rintro W g A3 c3 gs ⟨hK, hX, hG, lgX, hO, hNE, hBW⟩
  cases h1 : isTrn p a zs
  · skip
    have HV := Lib.hid (voteP_no1 (cr := cr) (yes := yes) (now := now) h1)
    have H1 := Lib.hid h1
    clear h1
    have HK2 := Lib.hid hK
    have HX2 := Lib.hid hX
    have HG2 := Lib.hid hG
    have HO2 := Lib.hid hO
    have HNE := Lib.hid hNE
    have HB2 := Lib.hid hBW
    obtain ⟨k0, k1, k2⟩ := cells3 hK
    have lW : w.heap.size < W.heap.size := lt_of_block hK
    clear hK hX hG hO hNE hBW
    go_wp2_with fail
    refine (HIT.out _ HB2.out).mono ?_
    rw [H1.out]
    rintro e w3 ⟨rfl, hb3⟩
    have hk3 := (hb3.block _ (lt_of_block HK2.out)).trans HK2.out
    have hx3 := (hb3.block _ (lt_of_block HX2.out)).trans HX2.out
    have ha3 := (hb3.block _ (lt_of_block HG2.out)).trans HG2.out
    have HO3 := Lib.hid (HO2.out.below hb3)
    have HB3 := Lib.hid (HB2.out.trans (hb3.mono HB2.out.size))
    clear k0 k1 k2
    obtain ⟨k0, k1, k2⟩ := cells3 hk3
    obtain ⟨z0, z1, z2⟩ := cells3 hx3
    obtain ⟨a0, a1, a2⟩ := cells3 ha3
    have fx : ∀ j, w3.frozen? ⟨w.heap.size + 1, j, none⟩ = false := fun j => frozen_of_row _ _ j _ _ hx3
    have lx3 : w.heap.size + 1 < w3.heap.size := lt_of_block hx3
    have la3 : g < w3.heap.size := lt_of_block ha3
    have n5 : ¬ g = w.heap.size + 1 := by omega
    have n6 : ¬ w.heap.size + 1 = g := by omega
    have HNX : Hid (∀ i, (Value.slice A3 n c3).ownBlock = some i → i ≠ w.heap.size + 1) := Lib.hid (fun i e => by have := (HO2.out.block i e).1; omega)
    clear hk3 hx3 ha3 hb3 lW
    go_wp2
    refine bodyPost_ret (by rw [results_cell_tmpF rfl]; go_simp; try rfl) rfl ?_
    exact ⟨_, by rw [HV.out], by rw [HV.out]; exact (HO3.out.grown (only_setCell (only_setCell (only_setCell (World.grownBy.refl _ _) 0 _) 1 _) 2 _) (fun g' e e2 => by have h2 := Option.some.inj e2; exact HNX.out g' e h2.symm)).mono (by omega), (((HB3.out.setCell (by simp only; omega) _).setCell (by simp only; omega) _).setCell (by simp only; omega) _)⟩
  have H1 := Lib.hid h1
  cases h2 : inB cr 1 (n : Int)
  · skip
    have HV := Lib.hid (voteP_no2 (p := p) (a := a) (yes := yes) (now := now) (by rw [HL.out]; exact h2))
    have H2 := Lib.hid h2
    clear h1 h2
    have HK2 := Lib.hid hK
    have HX2 := Lib.hid hX
    have HG2 := Lib.hid hG
    have HO2 := Lib.hid hO
    have HNE := Lib.hid hNE
    have HB2 := Lib.hid hBW
    obtain ⟨k0, k1, k2⟩ := cells3 hK
    have lW : w.heap.size < W.heap.size := lt_of_block hK
    clear hK hX hG hO hNE hBW
    go_wp2_with fail
    refine (HIT.out _ HB2.out).mono ?_
    rw [H1.out]
    rintro e w3 ⟨rfl, hb3⟩
    have hk3 := (hb3.block _ (lt_of_block HK2.out)).trans HK2.out
    have hx3 := (hb3.block _ (lt_of_block HX2.out)).trans HX2.out
    have ha3 := (hb3.block _ (lt_of_block HG2.out)).trans HG2.out
    have HO3 := Lib.hid (HO2.out.below hb3)
    have HB3 := Lib.hid (HB2.out.trans (hb3.mono HB2.out.size))
    clear k0 k1 k2
    obtain ⟨k0, k1, k2⟩ := cells3 hk3
    obtain ⟨z0, z1, z2⟩ := cells3 hx3
    obtain ⟨a0, a1, a2⟩ := cells3 ha3
    have fx : ∀ j, w3.frozen? ⟨w.heap.size + 1, j, none⟩ = false := fun j => frozen_of_row _ _ j _ _ hx3
    have lx3 : w.heap.size + 1 < w3.heap.size := lt_of_block hx3
    have la3 : g < w3.heap.size := lt_of_block ha3
    have n5 : ¬ g = w.heap.size + 1 := by omega
    have n6 : ¬ w.heap.size + 1 = g := by omega
    have HNX : Hid (∀ i, (Value.slice A3 n c3).ownBlock = some i → i ≠ w.heap.size + 1) := Lib.hid (fun i e => by have := (HO2.out.block i e).1; omega)
    clear hk3 hx3 ha3 hb3 lW
    go_wp2_with fail
    refine (spec_l1In _ _ _ _).mono ?_
    rintro e w4 ⟨rfl, rfl⟩
    rw [H2.out]
    go_wp2
    refine bodyPost_ret (by rw [results_cell_tmpF rfl]; go_simp; try rfl) rfl ?_
    exact ⟨_, by rw [HV.out], by rw [HV.out]; exact (HO3.out.grown (only_setCell (only_setCell (only_setCell (World.grownBy.refl _ _) 0 _) 1 _) 2 _) (fun g' e e2 => by have h2 := Option.some.inj e2; exact HNX.out g' e h2.symm)).mono (by omega), (((HB3.out.setCell (by simp only; omega) _).setCell (by simp only; omega) _).setCell (by simp only; omega) _)⟩
  have H2 := Lib.hid h2
  have hcr := inB_t h2
  obtain ⟨k, rfl⟩ : ∃ k : Nat, cr = (k : Int) + 1 := ⟨(cr - 1).toNat, by omega⟩
  have hkn : k < n := by omega
  have ekk : ((k : Int) + 1 - 1).toNat = k := by omega
  by_cases h4 : zs.getD k 0 = 0
  rotate_left
  · skip
    have HV := Lib.hid (voteP_no4 (p := p) (a := a) (yes := yes) (now := now) (cr := (k : Int) + 1) (zs := zs) (by rw [ekk]; exact h4))
    have H4 := Lib.hid h4
    clear h1 h2 h4 hcr ekk
    have HK2 := Lib.hid hK
    have HX2 := Lib.hid hX
    have HG2 := Lib.hid hG
    have HO2 := Lib.hid hO
    have HNE := Lib.hid hNE
    have HB2 := Lib.hid hBW
    obtain ⟨k0, k1, k2⟩ := cells3 hK
    have lW : w.heap.size < W.heap.size := lt_of_block hK
    clear hK hX hG hO hNE hBW
    go_wp2_with fail
    refine (HIT.out _ HB2.out).mono ?_
    rw [H1.out]
    rintro e w3 ⟨rfl, hb3⟩
    have hk3 := (hb3.block _ (lt_of_block HK2.out)).trans HK2.out
    have hx3 := (hb3.block _ (lt_of_block HX2.out)).trans HX2.out
    have ha3 := (hb3.block _ (lt_of_block HG2.out)).trans HG2.out
    have HO3 := Lib.hid (HO2.out.below hb3)
    have HB3 := Lib.hid (HB2.out.trans (hb3.mono HB2.out.size))
    clear k0 k1 k2
    obtain ⟨k0, k1, k2⟩ := cells3 hk3
    obtain ⟨z0, z1, z2⟩ := cells3 hx3
    obtain ⟨a0, a1, a2⟩ := cells3 ha3
    have fx : ∀ j, w3.frozen? ⟨w.heap.size + 1, j, none⟩ = false := fun j => frozen_of_row _ _ j _ _ hx3
    have lx3 : w.heap.size + 1 < w3.heap.size := lt_of_block hx3
    have la3 : g < w3.heap.size := lt_of_block ha3
    have n5 : ¬ g = w.heap.size + 1 := by omega
    have n6 : ¬ w.heap.size + 1 = g := by omega
    have HNX : Hid (∀ i, (Value.slice A3 n c3).ownBlock = some i → i ≠ w.heap.size + 1) := Lib.hid (fun i e => by have := (HO2.out.block i e).1; omega)
    clear hk3 hx3 ha3 hb3 lW
    go_wp2_with fail
    refine (spec_l1In _ _ _ _).mono ?_
    rintro e w4 ⟨rfl, rfl⟩
    rw [H2.out]
    obtain ⟨ad, rfl, hab, hc⟩ := (HI.out _ HB3.out).2 (by omega)
    have cz := hc k hkn
    clear hc
    have i1 : (0 : Int) ≤ (k : Int) := by omega
    have i2 : (k : Int) < (n : Int) := by omega
    have h4b : (zs.getD k 0 != 0) = true := bne_iff_ne.2 H4.out
    generalize zs.getD k 0 = z at cz h4b
    go_wp2
    refine bodyPost_ret (by rw [results_cell_tmpF rfl]; go_simp; try rfl) rfl ?_
    exact ⟨_, by rw [HV.out], by rw [HV.out]; exact (HO3.out.grown (only_setCell (only_setCell (only_setCell (World.grownBy.refl _ _) 0 _) 1 _) 2 _) (fun g' e e2 => by have h2 := Option.some.inj e2; exact HNX.out g' e h2.symm)).mono (by omega), (((HB3.out.setCell (by simp only; omega) _).setCell (by simp only; omega) _).setCell (by simp only; omega) _)⟩
  by_cases h3 : now < a
  rotate_left
  · skip
    have HV := Lib.hid (voteP_no3 (p := p) (zs := zs) (cr := (k : Int) + 1) (yes := yes) h3)
    have h3' : a ≤ now := by omega
    have h3b : decide (a ≤ now) = true := decide_eq_true h3'
    have H4 := Lib.hid h4
    clear h1 h2 h3 h4 hcr ekk
    have HK2 := Lib.hid hK
    have HX2 := Lib.hid hX
    have HG2 := Lib.hid hG
    have HO2 := Lib.hid hO
    have HNE := Lib.hid hNE
    have HB2 := Lib.hid hBW
    obtain ⟨k0, k1, k2⟩ := cells3 hK
    have lW : w.heap.size < W.heap.size := lt_of_block hK
    clear hK hX hG hO hNE hBW
    go_wp2_with fail
    refine (HIT.out _ HB2.out).mono ?_
    rw [H1.out]
    rintro e w3 ⟨rfl, hb3⟩
    have hk3 := (hb3.block _ (lt_of_block HK2.out)).trans HK2.out
    have hx3 := (hb3.block _ (lt_of_block HX2.out)).trans HX2.out
    have ha3 := (hb3.block _ (lt_of_block HG2.out)).trans HG2.out
    have HO3 := Lib.hid (HO2.out.below hb3)
    have HB3 := Lib.hid (HB2.out.trans (hb3.mono HB2.out.size))
    clear k0 k1 k2
    obtain ⟨k0, k1, k2⟩ := cells3 hk3
    obtain ⟨z0, z1, z2⟩ := cells3 hx3
    obtain ⟨a0, a1, a2⟩ := cells3 ha3
    have fx : ∀ j, w3.frozen? ⟨w.heap.size + 1, j, none⟩ = false := fun j => frozen_of_row _ _ j _ _ hx3
    have lx3 : w.heap.size + 1 < w3.heap.size := lt_of_block hx3
    have la3 : g < w3.heap.size := lt_of_block ha3
    have n5 : ¬ g = w.heap.size + 1 := by omega
    have n6 : ¬ w.heap.size + 1 = g := by omega
    have HNX : Hid (∀ i, (Value.slice A3 n c3).ownBlock = some i → i ≠ w.heap.size + 1) := Lib.hid (fun i e => by have := (HO2.out.block i e).1; omega)
    clear hk3 hx3 ha3 hb3 lW
    go_wp2_with fail
    refine (spec_l1In _ _ _ _).mono ?_
    rintro e w4 ⟨rfl, rfl⟩
    rw [H2.out]
    obtain ⟨ad, rfl, hab, hc⟩ := (HI.out _ HB3.out).2 (by omega)
    have cz := hc k hkn
    clear hc
    have i1 : (0 : Int) ≤ (k : Int) := by omega
    have i2 : (k : Int) < (n : Int) := by omega
    rw [H4.out] at cz
    go_wp2
    refine bodyPost_ret (by rw [results_cell_tmpF rfl]; go_simp; try rfl) rfl ?_
    exact ⟨_, by rw [HV.out], by rw [HV.out]; exact (HO3.out.grown (only_setCell (only_setCell (only_setCell (World.grownBy.refl _ _) 0 _) 1 _) 2 _) (fun g' e e2 => by have h2 := Option.some.inj e2; exact HNX.out g' e h2.symm)).mono (by omega), (((HB3.out.setCell (by simp only; omega) _).setCell (by simp only; omega) _).setCell (by simp only; omega) _)⟩
  cases yes
  · skip
    have HV := Lib.hid (voteP_yes (p := p) (a := a) (yes := false) (now := now) (cr := (k : Int) + 1) (zs := zs) H1.out (by rw [HL.out]; exact H2.out) h3 (by rw [ekk]; exact h4))
    rw [ekk] at HV
    have H4 := Lib.hid h4
    have h3' : ¬ a ≤ now := by omega
    have h3b : decide (a ≤ now) = false := decide_eq_false h3'
    clear h1 h2 h3 h4 hcr ekk
    have HK2 := Lib.hid hK
    have HX2 := Lib.hid hX
    have HG2 := Lib.hid hG
    have HO2 := Lib.hid hO
    have HNE := Lib.hid hNE
    have HB2 := Lib.hid hBW
    obtain ⟨k0, k1, k2⟩ := cells3 hK
    have lW : w.heap.size < W.heap.size := lt_of_block hK
    clear hK hX hG hO hNE hBW
    go_wp2_with fail
    refine (HIT.out _ HB2.out).mono ?_
    rw [H1.out]
    rintro e w3 ⟨rfl, hb3⟩
    have hk3 := (hb3.block _ (lt_of_block HK2.out)).trans HK2.out
    have hx3 := (hb3.block _ (lt_of_block HX2.out)).trans HX2.out
    have ha3 := (hb3.block _ (lt_of_block HG2.out)).trans HG2.out
    have HO3 := Lib.hid (HO2.out.below hb3)
    have HB3 := Lib.hid (HB2.out.trans (hb3.mono HB2.out.size))
    clear k0 k1 k2
    obtain ⟨k0, k1, k2⟩ := cells3 hk3
    obtain ⟨z0, z1, z2⟩ := cells3 hx3
    obtain ⟨a0, a1, a2⟩ := cells3 ha3
    have fx : ∀ j, w3.frozen? ⟨w.heap.size + 1, j, none⟩ = false := fun j => frozen_of_row _ _ j _ _ hx3
    have lx3 : w.heap.size + 1 < w3.heap.size := lt_of_block hx3
    have la3 : g < w3.heap.size := lt_of_block ha3
    have n5 : ¬ g = w.heap.size + 1 := by omega
    have n6 : ¬ w.heap.size + 1 = g := by omega
    have HNX : Hid (∀ i, (Value.slice A3 n c3).ownBlock = some i → i ≠ w.heap.size + 1) := Lib.hid (fun i e => by have := (HO2.out.block i e).1; omega)
    clear hk3 hx3 ha3 hb3 lW
    obtain ⟨gv, rfl⟩ : ∃ gv, A3 = some ⟨gv, 0, none⟩ := by
      rcases HO2.out.shape with ⟨e, e2⟩ | ⟨gv, cap, e, _⟩
      · rw [e2] at HL; have := HL.out; simp at this; omega
      · injection e with e; exact ⟨gv, e⟩
    have m1 : ¬ gv = g := HNE.out gv rfl
    have m2 : ¬ g = gv := fun h => m1 h.symm
    have m3 : ¬ gv = w.heap.size + 1 := HNX.out gv rfl
    have m4 : ¬ w.heap.size + 1 = gv := fun h => m3 h.symm
    have lgv : gv < w3.heap.size := (HO3.out.block gv rfl).2
    have hgv : w.heap.size + 2 ≤ gv := (HO3.out.block gv rfl).1
    have fg : ∀ j, w3.frozen? ⟨gv, j, none⟩ = false := fun j => HO3.out.free j
    have cw := HO3.out.cell k (by rw [HL.out]; exact hkn)
    go_wp2_with fail
    refine (spec_l1In _ _ _ _).mono ?_
    rintro e w4 ⟨rfl, rfl⟩
    rw [H2.out]
    obtain ⟨ad, rfl, hab, hc⟩ := (HI.out _ HB3.out).2 (by omega)
    have cz := hc k hkn
    clear hc
    have i1 : (0 : Int) ≤ (k : Int) := by omega
    have i2 : (k : Int) < (n : Int) := by omega
    rw [H4.out] at cz cw
    go_wp2
    have HS2 : Hid (Own .i64 3 (w3.setCell ⟨gv, k, none⟩ (.int .i64 2)) (w.heap.size + 2) (.slice (some ⟨gv, 0, none⟩) n c3) (zs.set k 2)) := Lib.hid (HO3.out.stored k 2)
    have HSX := HS2
    have HBX := Lib.hid (HB3.out.setCell (p := ⟨gv, k, none⟩) (by simp only; omega) (.int .i64 2))
    refine bodyPost_ret (by rw [results_cell_tmpF rfl]; go_simp; try rfl) rfl ?_
    exact ⟨_, by rw [HV.out], by rw [HV.out]; exact (HSX.out.grown (only_setCell (only_setCell (only_setCell (World.grownBy.refl _ _) 0 _) 1 _) 2 _) (fun g' e e2 => by have h2 := Option.some.inj e2; exact HNX.out g' e h2.symm)).mono (by omega), (((HBX.out.setCell (by simp only; omega) _).setCell (by simp only; omega) _).setCell (by simp only; omega) _)⟩
  · skip
    have HV := Lib.hid (voteP_yes (p := p) (a := a) (yes := true) (now := now) (cr := (k : Int) + 1) (zs := zs) H1.out (by rw [HL.out]; exact H2.out) h3 (by rw [ekk]; exact h4))
    rw [ekk] at HV
    have H4 := Lib.hid h4
    have h3' : ¬ a ≤ now := by omega
    have h3b : decide (a ≤ now) = false := decide_eq_false h3'
    clear h1 h2 h3 h4 hcr ekk
    have HK2 := Lib.hid hK
    have HX2 := Lib.hid hX
    have HG2 := Lib.hid hG
    have HO2 := Lib.hid hO
    have HNE := Lib.hid hNE
    have HB2 := Lib.hid hBW
    obtain ⟨k0, k1, k2⟩ := cells3 hK
    have lW : w.heap.size < W.heap.size := lt_of_block hK
    clear hK hX hG hO hNE hBW
    go_wp2_with fail
    refine (HIT.out _ HB2.out).mono ?_
    rw [H1.out]
    rintro e w3 ⟨rfl, hb3⟩
    have hk3 := (hb3.block _ (lt_of_block HK2.out)).trans HK2.out
    have hx3 := (hb3.block _ (lt_of_block HX2.out)).trans HX2.out
    have ha3 := (hb3.block _ (lt_of_block HG2.out)).trans HG2.out
    have HO3 := Lib.hid (HO2.out.below hb3)
    have HB3 := Lib.hid (HB2.out.trans (hb3.mono HB2.out.size))
    clear k0 k1 k2
    obtain ⟨k0, k1, k2⟩ := cells3 hk3
    obtain ⟨z0, z1, z2⟩ := cells3 hx3
    obtain ⟨a0, a1, a2⟩ := cells3 ha3
    have fx : ∀ j, w3.frozen? ⟨w.heap.size + 1, j, none⟩ = false := fun j => frozen_of_row _ _ j _ _ hx3
    have lx3 : w.heap.size + 1 < w3.heap.size := lt_of_block hx3
    have la3 : g < w3.heap.size := lt_of_block ha3
    have n5 : ¬ g = w.heap.size + 1 := by omega
    have n6 : ¬ w.heap.size + 1 = g := by omega
    have HNX : Hid (∀ i, (Value.slice A3 n c3).ownBlock = some i → i ≠ w.heap.size + 1) := Lib.hid (fun i e => by have := (HO2.out.block i e).1; omega)
    clear hk3 hx3 ha3 hb3 lW
    obtain ⟨gv, rfl⟩ : ∃ gv, A3 = some ⟨gv, 0, none⟩ := by
      rcases HO2.out.shape with ⟨e, e2⟩ | ⟨gv, cap, e, _⟩
      · rw [e2] at HL; have := HL.out; simp at this; omega
      · injection e with e; exact ⟨gv, e⟩
    have m1 : ¬ gv = g := HNE.out gv rfl
    have m2 : ¬ g = gv := fun h => m1 h.symm
    have m3 : ¬ gv = w.heap.size + 1 := HNX.out gv rfl
    have m4 : ¬ w.heap.size + 1 = gv := fun h => m3 h.symm
    have lgv : gv < w3.heap.size := (HO3.out.block gv rfl).2
    have hgv : w.heap.size + 2 ≤ gv := (HO3.out.block gv rfl).1
    have fg : ∀ j, w3.frozen? ⟨gv, j, none⟩ = false := fun j => HO3.out.free j
    have cw := HO3.out.cell k (by rw [HL.out]; exact hkn)
    go_wp2_with fail
    refine (spec_l1In _ _ _ _).mono ?_
    rintro e w4 ⟨rfl, rfl⟩
    rw [H2.out]
    obtain ⟨ad, rfl, hab, hc⟩ := (HI.out _ HB3.out).2 (by omega)
    have cz := hc k hkn
    clear hc
    have i1 : (0 : Int) ≤ (k : Int) := by omega
    have i2 : (k : Int) < (n : Int) := by omega
    rw [H4.out] at cz cw
    go_wp2
    have HS2 : Hid (Own .i64 3 (w3.setCell ⟨gv, k, none⟩ (.int .i64 2)) (w.heap.size + 2) (.slice (some ⟨gv, 0, none⟩) n c3) (zs.set k 2)) := Lib.hid (HO3.out.stored k 2)
    have HSX := Lib.hid (by have h := HS2.out.stored k 1; rw [List.set_set] at h; exact h)
    have HBX := Lib.hid ((HB3.out.setCell (p := ⟨gv, k, none⟩) (by simp only; omega) (.int .i64 2)).setCell (p := ⟨gv, k, none⟩) (by simp only; omega) (.int .i64 1))
    refine bodyPost_ret (by rw [results_cell_tmpF rfl]; go_simp; try rfl) rfl ?_
    exact ⟨_, by rw [HV.out], by rw [HV.out]; exact (HSX.out.grown (only_setCell (only_setCell (only_setCell (World.grownBy.refl _ _) 0 _) 1 _) 2 _) (fun g' e e2 => by have h2 := Option.some.inj e2; exact HNX.out g' e h2.symm)).mono (by omega), (((HBX.out.setCell (by simp only; omega) _).setCell (by simp only; omega) _).setCell (by simp only; omega) _)⟩
end Go.Proofs.Ytlpkafhapmkkfaa

/- Chapter 24: NewTurn of the program. -/
namespace Go.Proofs.Ytlpkafhapmkkfaa
open Go.RowKit
set_option linter.unusedVariables false

theorem held_trn (p a : Int) (A : Option Addr) (n c B s : Nat) (w : World) (h : IntsAt .i64 w B A n (marks .i64 s n)) (hB : B ≤ w.heap.size) (hn : n ≤ 1048576) (hs : s ≤ 1048576) :
    Calls Try.prog 15 #[trnV p a (.slice A n c), .int .i64 s] w fun e w' => e = .returned (.int .i64 ((s + n : Nat) : Int)) ∧ Below w.heap.size w w' := by
  simp only [trnV]
  obtain ⟨wA, hwA⟩ : ∃ wA, wA = w.alloc (.cells #[.int .i64 p, .int .i64 a, .slice A n c] 26) := ⟨_, rfl⟩
  obtain ⟨hk, hsz, hB1⟩ := one_block hwA
  have hcc := held_i64 A n c B s wA (h.keep fun _ hp => hB1.cell (Nat.lt_of_lt_of_le hp hB)) (by omega) (by omega)
  have HB := Lib.hid hB1
  have hnn : ((s + n : Nat) : Int) < 0 ↔ False := ⟨fun h => by omega, False.elim⟩
  clear hk hsz hB1 h
  generalize ((s + n : Nat) : Int) = q at *
  have hq : ¬ q < 0 := fun h => hnn.1 h
  clear hnn
  go_enter Try.func15, Try.ntmps15
  go_wp2_with fail
  rw [← hwA]
  refine hcc.mono ?_
  rintro e w1 ⟨rfl, hb1⟩
  clear hwA
  go_wp2
  go_ret
  exact ⟨rfl, HB.out.trans (hb1.mono HB.out.size)⟩
/-- what NewTurn answers. -/
def newT (p a c : Int) : Int × Int × List Int × Bool := if inB p 1 99 && inB a 0 1000000 && inB c 1 8 then (p, a, List.replicate c.toNat 0, true) else (0, 0, [], false)
end Go.Proofs.Ytlpkafhapmkkfaa

/- VoteTurn as its exact law meets it (written by genvl.py). -/
namespace Go.Proofs.Ytlpkafhapmkkfaa
open Go.RowKit
set_option linter.unusedVariables false

theorem sp_VoteTurn (A0 : Option Addr) (n0 c0 : Nat) (zs0 : List Int) (x0 x1 a1 : Int) (b2 : Bool) (a3 : Int) (w : World) (h0 : Sl .i64 w A0 n0 c0 zs0) (hs0 : n0 ≤ 1048576) (r : List Int) (rb : Bool) (hr : voteP x0 x1 zs0 a1 b2 a3 = (r, rb)) :
    Calls Try.prog 10 #[.agg #[.int .i64 x0, .int .i64 x1, .slice A0 n0 c0], .int .i64 a1, .bool b2, .int .i64 a3] w fun e w' => ∃ A c, e = .returned (.tuple #[.agg #[.int .i64 x0, .int .i64 x1, .slice A n0 c], .bool rb]) ∧ Own .i64 3 w' w.heap.size (.slice A n0 c) r ∧ Below w.heap.size w w' := by
  have hl := voteP_len x0 x1 zs0 a1 b2 a3
  rw [hr, h0.len] at hl
  refine (spec_VoteTurn x0 x1 A0 n0 c0 _ zs0 a1 b2 a3 w h0.ints h0.bare (Nat.le_refl _) hs0).mono ?_
  rintro e w' ⟨v, he, ho, hb⟩
  rw [hr] at he ho
  obtain ⟨A, c, rfl⟩ := ho.sliced
  simp only [hl] at he ho
  exact ⟨A, c, he, ho, hb⟩
theorem im_VoteTurn (A0 : Option Addr) (n0 c0 : Nat) (zs0 : List Int) (x0 x1 a1 : Int) (b2 : Bool) (a3 : Int) (w : World) (h0 : Sl .i64 w A0 n0 c0 zs0) (hs0 : n0 ≤ 1048576) (r : List Int) (rb : Bool) (hr : voteP x0 x1 zs0 a1 b2 a3 = (r, rb)) :
    Calls Try.prog 12 #[.agg #[.int .i64 x0, .int .i64 x1, .slice A0 n0 c0], .int .i64 a1, .bool b2, .int .i64 a3] w fun e w' => ∃ A c, e = .returned (.tuple #[.agg #[.int .i64 x0, .int .i64 x1, .slice A n0 c], .bool rb]) ∧ Own .i64 3 w' w.heap.size (.slice A n0 c) r ∧ Below w.heap.size w w' := by
  have hl := voteP_len x0 x1 zs0 a1 b2 a3
  rw [hr, h0.len] at hl
  refine (impl_VoteTurn x0 x1 A0 n0 c0 _ zs0 a1 b2 a3 w h0.ints (Nat.le_refl _) hs0 h0.wf).mono ?_
  rintro e w' ⟨v, he, ho, hb⟩
  rw [hr] at he ho
  obtain ⟨A, c, rfl⟩ := ho.sliced
  simp only [hl] at he ho
  exact ⟨A, c, he, ho, hb⟩
end Go.Proofs.Ytlpkafhapmkkfaa

/- A law's arguments that are rows of Turn (written by genrow.py). -/
namespace Go.Proofs.Ytlpkafhapmkkfaa
open Go.ChangeShapes Go.WideShapes Go.ChangeAt Go.RowKit Go.Joins
open Go.Deep (oneCellFields open_slice hone_of)
set_option linter.unusedVariables false

section
variable {H : Type} {enc : TypeId × Value → H} {P : Program}
theorem arg_tur {t i : TypeId} {f0 f1 f2 : Field} {W : World} {base : Nat} {v : Value} {d : DataW H} {ps : List MemPlace} (hs : P.underlying t = some (.struct #[f0, f1, f2])) (hone : oneCellFields P #[f0, f1, f2] = true) (hC : P.cellsOf t = 3)
    (h0 : P.underlying f0.type = some (.int .i64)) (h1 : P.underlying f1.type = some (.int .i64)) (h2 : P.underlying f2.type = some (.slice i)) (hi : P.underlying i = some (.int .i64)) (hci : P.cellsOf i = 1)
    (hval : Value.okWide P W .any base t v) (hd : DataW.Trod enc P W 0 (fun _ => true) true t v d ps) (hlt : ∀ x ∈ ps, x.block < W.heap.size) :
    ∃ (A : Option Addr) (n c : Nat) (zs : List Int) (x0 x1 : Int), v = .agg #[.int .i64 x0, .int .i64 x1, .slice A n c] ∧ (IntsAt .i64 W W.heap.size A n zs ∧ (∀ z ∈ zs, (Lit.int .i64 z).wf = true) ∧ n ≤ c ∧ c ≤ maxLen) ∧ (Lit.int .i64 x0).wf = true ∧ (Lit.int .i64 x1).wf = true := by
  obtain ⟨v0, v1, v2, y0, y1, y2, n, rfl, -, hps, t0, t1, t2⟩ := open_agg3 hs hone hC hval hd
  obtain ⟨x0, rfl, w0, -⟩ := cell_int h0 t0
  obtain ⟨x1, rfl, w1, -⟩ := cell_int h1 t1
  rcases open_ints h2 hi hci t2 with ⟨h2, _⟩ | ⟨b, l2, cp2, zs, h2, _, hl2, hm2, hzl2, hx2, hc2, hwf2⟩
  · simp only [List.cons.injEq, and_true] at h2
    subst h2
    exact ⟨none, 0, 0, [], _, _, rfl, ⟨⟨rfl, fun h => absurd h (by omega)⟩, by simp, Nat.le_refl _, Nat.zero_le _⟩, w0, w1⟩
  · simp only [List.cons.injEq, and_true] at h2
    subst h2
    rw [if_pos rfl] at hzl2
    refine ⟨some b, l2, cp2, zs.take l2, _, _, rfl, ⟨⟨by simp only [List.length_take]; omega, fun hn => ⟨b, rfl, ?_, fun q hq => ?_⟩⟩, fun z hzm => hwf2 z (List.mem_of_mem_take hzm), hl2, hm2⟩, w0, w1⟩
    · have hmem : MemPlace.cell b.block (b.off + 0) ∈ ps := by
        rw [hps]
        have e2 : y2.2 = MemPlace.row b zs.length := congrArg Prod.snd hx2
        have hin : MemPlace.cell b.block (b.off + 0) ∈ y2.2 := by
          rw [e2]
          exact List.mem_map.2 ⟨0, List.mem_range.2 (by omega), rfl⟩
        simp only [List.mem_append]
        first | exact hin | exact Or.inl hin | exact Or.inr hin | exact Or.inr (Or.inl hin) | exact Or.inr (Or.inr hin)
      exact hlt _ hmem
    · rw [hc2 q (by omega)]
      simp [List.getD_eq_getElem?_getD, hq]
theorem arg_turs {t e i : TypeId} {f0 f1 f2 : Field} {W : World} {base : Nat} {v : Value} {d : DataW H} {ps : List MemPlace} (ht : P.underlying t = some (.slice e)) (he : P.underlying e = some (.struct #[f0, f1, f2])) (hone : oneCellFields P #[f0, f1, f2] = true) (hC : P.cellsOf e = 3)
    (h0 : P.underlying f0.type = some (.int .i64)) (h1 : P.underlying f1.type = some (.int .i64)) (h2 : P.underlying f2.type = some (.slice i)) (hi : P.underlying i = some (.int .i64)) (hci : P.cellsOf i = 1)
    (hval : Value.okWide P W .any base t v) (hd : DataW.Trod enc P W 0 (fun _ => true) true t v d ps) (hlt : ∀ x ∈ ps, x.block < W.heap.size) :
    ∃ (A : Option Addr) (n c : Nat) (zs : List Tur), v = .slice A n c ∧ (TursAt W W.heap.size A n zs ∧ (∀ z ∈ zs, z.wf) ∧ n ≤ c ∧ c ≤ maxLen) := by
  obtain ⟨a, len, cap, rfl⟩ := okWide_slice ht hval
  obtain ⟨fuel, hf⟩ := hd
  rcases open_slice_fields ht he hone (by rw [hC]; rfl) hf with ⟨h1, _⟩ | ⟨a', len', cap', m, D, Pl, hcs, _, hl, hm, hmm, hx, hii⟩
  · have h1' : [Value.slice a len cap] = [Value.slice none 0 0] := h1
    simp only [List.cons.injEq, and_true] at h1'
    exact ⟨none, 0, 0, [], h1', ⟨rfl, fun h => absurd h (by omega)⟩, by simp, Nat.le_refl _, Nat.zero_le _⟩
  · have h1' : [Value.slice a len cap] = [Value.slice (some a') len' cap'] := hcs
    simp only [List.cons.injEq, and_true] at h1'
    rw [if_pos rfl] at hmm
    subst hmm
    have hps : ps = MemPlace.row a' (m * 3) ++ (List.range m).flatMap Pl := congrArg Prod.snd hx
    obtain ⟨zs, hzl, hz⟩ := choose_upto (n := len') (R := fun j (p : Tur) => p.wf ∧ ∃ A' m' c', TurAt W (a'.add (j * 3)) (.slice A' m' c') p ∧ IntsAt .i64 W W.heap.size A' m' p.votes ∧ (m' ≤ c' ∧ c' ≤ maxLen) ∧ (A' = none → m' = 0 ∧ c' = 0)) (fun j hjl => by
      obtain ⟨ys, n, _, hPl, _, hj⟩ := hii j (by omega)
      obtain ⟨v0, y0, c0, g0, t0⟩ := hj 0 f0 rfl
      obtain ⟨v1, y1, c1, g1, t1⟩ := hj 1 f1 rfl
      obtain ⟨v2, y2, c2, g2, t2⟩ := hj 2 f2 rfl
      obtain ⟨x0, rfl, w0, -⟩ := cell_int h0 t0
      obtain ⟨x1, rfl, w1, -⟩ := cell_int h1 t1
      have d1 : W.cell? ⟨(a'.add (j * 3)).block, (a'.add (j * 3)).off + 1, none⟩ = some (.int .i64 x1) := by
        rw [← add_plusF _ 1 (by decide), add_add]
        exact c1
      have d2 : W.cell? ⟨(a'.add (j * 3)).block, (a'.add (j * 3)).off + 2, none⟩ = some v2 := by
        rw [← add_plusF _ 2 (by decide), add_add]
        exact c2
      have d0 := c0
      rcases open_ints h2 hi hci t2 with ⟨h2, _⟩ | ⟨b, l2, cp2, zs, h2, _, hl2, hm2, hzl2, hx2, hc2, hwf2⟩
      · simp only [List.cons.injEq, and_true] at h2
        exact ⟨⟨x0, x1, []⟩, ⟨Nat.zero_le _, by simp, w0, w1⟩, none, 0, 0, ⟨d0, d1, by rw [← h2]; exact d2⟩, ⟨rfl, fun h => absurd h (by omega)⟩, ⟨Nat.le_refl _, Nat.zero_le _⟩, fun _ => ⟨rfl, rfl⟩⟩
      · simp only [List.cons.injEq, and_true] at h2
        rw [if_pos rfl] at hzl2
        refine ⟨⟨x0, x1, zs.take l2⟩, ⟨by simp only [List.length_take]; omega, fun z hzm => hwf2 z (List.mem_of_mem_take hzm), w0, w1⟩, some b, l2, cp2, ⟨d0, d1, by rw [← h2]; exact d2⟩, ⟨by simp only [List.length_take]; omega, fun hn => ⟨b, rfl, ?_, fun q hq => ?_⟩⟩, ⟨hl2, hm2⟩, by simp⟩
        · have hmem : MemPlace.cell b.block (b.off + 0) ∈ ps := by
            rw [hps]
            refine List.mem_append_right _ (List.mem_flatMap.2 ⟨j, List.mem_range.2 (by omega), ?_⟩)
            rw [hPl]
            refine List.mem_flatMap.2 ⟨y2, List.mem_of_getElem? g2, ?_⟩
            have e2 : y2.2 = MemPlace.row b zs.length := congrArg Prod.snd hx2
            rw [e2]
            exact List.mem_map.2 ⟨0, List.mem_range.2 (by omega), rfl⟩
          exact hlt _ hmem
        · rw [hc2 q (by omega)]
          simp [List.getD_eq_getElem?_getD, hq])
    refine ⟨some a', len', m, zs, h1', ⟨hzl, fun hn => ⟨a', rfl, ?_, fun j hj => ?_⟩⟩, fun z hzm => ?_, hl, hm⟩
    · have hmem : MemPlace.cell a'.block (a'.off + 0) ∈ ps := by
        rw [hps]
        exact List.mem_append_left _ (List.mem_map.2 ⟨0, List.mem_range.2 (by omega), rfl⟩)
      exact hlt _ hmem
    · exact (hz j _ (turA_get (by omega))).2
    · obtain ⟨j, hj, rfl⟩ := List.getElem_of_mem hzm
      exact (hz j _ (List.getElem?_eq_getElem hj)).1
end
end Go.Proofs.Ytlpkafhapmkkfaa

/- Entry as Lean data; rows of them, and the laws' helpers for these (written by genrow.py). -/
namespace Go.Proofs.Ytlpkafhapmkkfaa
open Go.RowKit
set_option linter.unusedVariables false

structure Ent where
  second : Int
  lights : List Int
  mac : Int
deriving DecidableEq
def ent0 : Ent := ⟨0, [], 0⟩
def Ent.wf (p : Ent) : Prop := p.lights.length ≤ maxLen ∧ (∀ z ∈ p.lights, (Lit.int .i64 z).wf = true) ∧ (Lit.int .i64 p.second).wf = true ∧ (Lit.int .i64 p.mac).wf = true
/-- the j-th one. -/
def entA (ps : List Ent) (j : Nat) : Ent := ps.getD j ent0
theorem entA_some {ps : List Ent} {k : Nat} {p : Ent} (h : ps[k]? = some p) : entA ps k = p := by simp [entA, List.getD, h]
theorem entA_get {ps : List Ent} {k : Nat} (h : k < ps.length) : ps[k]? = some (entA ps k) := by
  rw [List.getElem?_eq_getElem h]
  simp [entA, List.getD, List.getElem?_eq_getElem h]
theorem entA_mem {ps : List Ent} {k : Nat} (h : k < ps.length) : entA ps k ∈ ps := List.mem_of_getElem? (entA_get h)
/-- one lies at q: the slice and the ints. -/
structure EntAt (w : World) (q : Addr) (u : Value) (p : Ent) : Prop where
  c0 : w.cell? q = some (.int .i64 p.second)
  c1 : w.cell? ⟨q.block, q.off + 1, none⟩ = some u
  c2 : w.cell? ⟨q.block, q.off + 2, none⟩ = some (.int .i64 p.mac)
theorem EntAt.keep {w w' : World} {q : Addr} {u : Value} {p : Ent} (h : EntAt w q u p) (e : w'.heap[q.block]? = w.heap[q.block]?) : EntAt w' q u p :=
  ⟨(World.cell?_of_block e).trans h.c0, (World.cell?_of_block (a := ⟨q.block, q.off + 1, none⟩) e).trans h.c1, (World.cell?_of_block (a := ⟨q.block, q.off + 2, none⟩) e).trans h.c2⟩
theorem EntAt.below {w w' : World} {q : Addr} {u : Value} {p : Ent} {B : Nat} (h : EntAt w q u p) (hb : Below B w w') (hB : q.block < B) : EntAt w' q u p := h.keep (hb.block _ hB)
/-- A slice value that holds these, all in blocks below B. -/
def EntsAt (w : World) (B : Nat) (A : Option Addr) (n : Nat) (ps : List Ent) : Prop :=
  ps.length = n ∧ (0 < n → ∃ ad, A = some ad ∧ ad.block < B ∧ ∀ j, j < n → ∃ A' m c, EntAt w (ad.add (j * 3)) (.slice A' m c) (entA ps j) ∧ IntsAt .i64 w B A' m (entA ps j).lights ∧ (m ≤ c ∧ c ≤ maxLen) ∧ (A' = none → m = 0 ∧ c = 0))
theorem EntsAt.at {w : World} {B : Nat} {A : Option Addr} {n : Nat} {ps : List Ent} (h : EntsAt w B A n ps) {j : Nat} (hj : j < n) :
    ∃ ad A' m c, A = some ad ∧ (ad.add (j * 3)).block < B ∧ EntAt w (ad.add (j * 3)) (.slice A' m c) (entA ps j) ∧ IntsAt .i64 w B A' m (entA ps j).lights ∧ (m ≤ c ∧ c ≤ maxLen) ∧ (A' = none → m = 0 ∧ c = 0) := by
  obtain ⟨ad, e, hb, hc⟩ := h.2 (by omega)
  obtain ⟨A', m, c, h1⟩ := hc j hj
  exact ⟨ad, A', m, c, e, by rw [add_block]; exact hb, h1⟩
theorem EntsAt.keep {w w' : World} {B : Nat} {A : Option Addr} {n : Nat} {ps : List Ent} (h : EntsAt w B A n ps) (hb : Below B w w') : EntsAt w' B A n ps := by
  refine ⟨h.1, fun h0 => ?_⟩
  obtain ⟨ad, e, hB, hc⟩ := h.2 h0
  refine ⟨ad, e, hB, fun j hj => ?_⟩
  obtain ⟨A', m, c, h1, h2, h3, h4⟩ := hc j hj
  exact ⟨A', m, c, h1.below hb (by rw [add_block]; exact hB), h2.keep (fun p hp => hb.cell hp), h3, h4⟩
theorem EntsAt.below {w w' : World} {B : Nat} {A : Option Addr} {n : Nat} {ps : List Ent} (h : EntsAt w B A n ps) (hB : B ≤ w.heap.size) (hb : Below w.heap.size w w') : EntsAt w' B A n ps := h.keep (hb.mono hB)
theorem EntsAt.up {w : World} {B B' : Nat} {A : Option Addr} {n : Nat} {ps : List Ent} (h : EntsAt w B A n ps) (hB : B ≤ B') : EntsAt w B' A n ps := by
  refine ⟨h.1, fun h0 => ?_⟩
  obtain ⟨ad, e, hb, hc⟩ := h.2 h0
  refine ⟨ad, e, by omega, fun j hj => ?_⟩
  obtain ⟨A', m, c, h1, h2, h3, h4⟩ := hc j hj
  exact ⟨A', m, c, h1, h2.up hB, h3, h4⟩
/-- the cells of a row. -/
def entrow (xs : List (Value × Ent)) : List Value := xs.flatMap fun x => [.int .i64 x.2.second, x.1, .int .i64 x.2.mac]
theorem entrow_length (xs : List (Value × Ent)) : (entrow xs).length = xs.length * 3 := flat_length (f := fun x : Value × Ent => [.int .i64 x.2.second, x.1, .int .i64 x.2.mac]) (fun _ => rfl) xs
theorem entrow_at0 {xs : List (Value × Ent)} {j : Nat} {x : Value × Ent} (h : xs[j]? = some x) : (entrow xs)[j * 3]? = some (.int .i64 x.2.second) := by
  exact flat_get (f := fun x : Value × Ent => [.int .i64 x.2.second, x.1, .int .i64 x.2.mac]) (s := 3) (fun _ => rfl) xs j 0 x h (by decide)
theorem entrow_at1 {xs : List (Value × Ent)} {j : Nat} {x : Value × Ent} (h : xs[j]? = some x) : (entrow xs)[j * 3 + 1]? = some x.1 := by
  exact flat_get (f := fun x : Value × Ent => [.int .i64 x.2.second, x.1, .int .i64 x.2.mac]) (s := 3) (fun _ => rfl) xs j 1 x h (by decide)
theorem entrow_at2 {xs : List (Value × Ent)} {j : Nat} {x : Value × Ent} (h : xs[j]? = some x) : (entrow xs)[j * 3 + 2]? = some (.int .i64 x.2.mac) := by
  exact flat_get (f := fun x : Value × Ent => [.int .i64 x.2.second, x.1, .int .i64 x.2.mac]) (s := 3) (fun _ => rfl) xs j 2 x h (by decide)
theorem entrow_append (xs ys : List (Value × Ent)) : entrow (xs ++ ys) = entrow xs ++ entrow ys := by simp [entrow]
theorem entrow_next (xs : List (Value × Ent)) (n : Nat) (z x : Value × Ent) (h : xs.length < n) :
    ((((entrow xs ++ entrow (List.replicate (n - xs.length) z)).set (xs.length * 3) (.int .i64 x.2.second)).set (xs.length * 3 + 1) x.1).set (xs.length * 3 + 2) (.int .i64 x.2.mac)) = entrow (xs ++ [x]) ++ entrow (List.replicate (n - (xs ++ [x]).length) z) := by
  obtain ⟨m, hm⟩ : ∃ m, n - xs.length = m + 1 := ⟨n - xs.length - 1, by omega⟩
  have e2 : n - (xs ++ [x]).length = m := by rw [List.length_append, List.length_singleton]; omega
  rw [e2, hm, List.replicate_succ]
  have e3 : entrow (z :: List.replicate m z) = .int .i64 z.2.second :: z.1 :: .int .i64 z.2.mac :: entrow (List.replicate m z) := rfl
  rw [e3, set3 (entrow_length xs), entrow_append]
  simp [entrow]
theorem made_ent (n : Nat) : (madeCells (Value.agg #[Value.int .i64 0, Value.slice none 0 0, Value.int .i64 0]).cells (n * 3)).toList = entrow (List.replicate n (Value.slice none 0 0, ent0)) := by
  have h : (Value.agg #[Value.int .i64 0, Value.slice none 0 0, Value.int .i64 0]).cells = #[Value.int .i64 0, Value.slice none 0 0, Value.int .i64 0] := rfl
  rw [h]
  apply List.ext_getElem?
  intro i
  simp only [madeCells, Array.toList_map, List.getElem?_map]
  by_cases hi : i < n * 3
  · have hx : (List.replicate n ((Value.slice none 0 0, ent0) : Value × Ent))[i / 3]? = some (Value.slice none 0 0, ent0) := by rw [List.getElem?_replicate, if_pos (by omega)]
    have h2 : i % 3 = 0 ∨ i % 3 = 1 ∨ i % 3 = 2 := by omega
    rcases h2 with h2 | h2 | h2
    · have := entrow_at0 hx
      rw [show i / 3 * 3 = i by omega] at this
      rw [this]
      simp [hi, h2, ent0]
    · have := entrow_at1 hx
      rw [show i / 3 * 3 + 1 = i by omega] at this
      rw [this]
      simp [hi, h2]
    · have := entrow_at2 hx
      rw [show i / 3 * 3 + 2 = i by omega] at this
      rw [this]
      simp [hi, h2, ent0]
  · rw [List.getElem?_eq_none (l := entrow _) (by rw [entrow_length, List.length_replicate]; omega)]
    simp [hi]
theorem info_ent : (Try.prog.info? 84).map (fun i => (i.zero, i.size, i.bytes)) = some (some (.agg #[.int .i64 0, .slice none 0 0, .int .i64 0]), 3, 40) := by kernel_rfl
/-- rows of other types lie in other blocks. -/
theorem own_apart_ent {w : World} {lo lo2 : Nat} {u v : Value} {zs : List Int} {n : Nat} {vs : List Value} (h : Own .i64 3 w lo u zs) (h2 : w.ownsRow lo2 84 3 v n vs) : ∀ g, u.ownBlock = some g → v.ownBlock ≠ some g := by
  intro g hg e
  rcases h.2 with ⟨rfl, _⟩ | ⟨g1, cap, cur, rfl, hb, hg1, r⟩
  · cases hg
  · rcases h2.2 with ⟨rfl, _⟩ | ⟨g2, cap2, cur2, rfl, hb2, hg2, r2⟩
    · cases e
    · have e1 : g1 = g := Option.some.inj hg
      have e2 : g2 = g := Option.some.inj e
      subst e1
      subst e2
      rw [hg1] at hg2
      injection hg2 with hg2
      injection hg2 with _ ht
      exact absurd ht (by decide)
/-- a row of the call's own. -/
structure OwnEnt (w : World) (lo : Nat) (v : Value) (xs : List (Value × Ent)) (ps : List Ent) : Prop where
  row : w.ownsRow lo 84 3 v ps.length (entrow xs)
  each : ∀ j, j < ps.length → ∃ u, xs[j]? = some (u, entA ps j) ∧ Own .i64 3 w lo u (entA ps j).lights
  apart : ApartL (xs.map (·.1))
theorem OwnEnt.len {w : World} {lo : Nat} {v : Value} {xs : List (Value × Ent)} {ps : List Ent} (h : OwnEnt w lo v xs ps) : xs.length = ps.length := by
  have := h.row.1
  rw [entrow_length] at this
  omega
theorem OwnEnt.below {w w' : World} {lo : Nat} {v : Value} {xs : List (Value × Ent)} {ps : List Ent} (h : OwnEnt w lo v xs ps) (hb : Below w.heap.size w w') : OwnEnt w' lo v xs ps :=
  ⟨ownr_below h.row hb, fun j hj => by obtain ⟨u, h1, h2⟩ := h.each j hj; exact ⟨u, h1, h2.below hb⟩, h.apart⟩
theorem OwnEnt.ss {w : World} {lo : Nat} {A : Option Addr} {n c : Nat} {xs : List (Value × Ent)} {ps : List Ent} (h : OwnEnt w lo (.slice A n c) xs ps) : EntsAt w w.heap.size A n ps := by
  have hn := ownr_len h.row
  subst hn
  refine ⟨rfl, fun h0 => ?_⟩
  obtain ⟨ad, e, hb, hc⟩ := (ownr_cells h.row).2 (by omega)
  refine ⟨ad, e, hb, fun j hj => ?_⟩
  obtain ⟨u, h1, h2⟩ := h.each j hj
  obtain ⟨A', c', rfl⟩ := h2.sliced
  refine ⟨A', _, c', ⟨hc _ _ (entrow_at0 h1), ?_, ?_⟩, h2.ints, h2.cap, h2.nilcap'⟩
  · rw [← add_plusF _ 1 (by decide), add_add]
    exact hc _ _ (entrow_at1 h1)
  · rw [← add_plusF _ 2 (by decide), add_add]
    exact hc _ _ (entrow_at2 h1)
/-- rows between two block numbers. -/
structure OwEnt (w : World) (lo hi : Nat) (v : Value) (xs : List (Value × Ent)) (ps : List Ent) : Prop where
  own : OwnEnt w lo v xs ps
  lt : ∀ g, v.ownBlock = some g → g < hi
  top : hi ≤ w.heap.size
theorem OwEnt.new {w : World} {lo : Nat} {v : Value} {xs : List (Value × Ent)} {ps : List Ent} (h : OwnEnt w lo v xs ps) : OwEnt w lo w.heap.size v xs ps :=
  ⟨h, fun g e => (ownr_block h.row g e).2, Nat.le_refl _⟩
theorem OwEnt.below {w w' : World} {lo hi : Nat} {v : Value} {xs : List (Value × Ent)} {ps : List Ent} (h : OwEnt w lo hi v xs ps) (hb : Below w.heap.size w w') : OwEnt w' lo hi v xs ps := ⟨h.own.below hb, h.lt, Nat.le_trans h.top hb.size⟩
theorem OwEnt.ints {w : World} {lo hi : Nat} {A : Option Addr} {n c : Nat} {xs : List (Value × Ent)} {ps : List Ent} (h : OwEnt w lo hi (.slice A n c) xs ps) : EntsAt w w.heap.size A n ps := h.own.ss
/-- a slice that a call is given. -/
structure SlEnt (w : World) (A : Option Addr) (n c : Nat) (ps : List Ent) : Prop where
  pths : EntsAt w w.heap.size A n ps
  bare : A = none → n = 0 ∧ c = 0
  cap : n ≤ c ∧ c ≤ maxLen
  wf : ∀ p ∈ ps, p.wf
theorem OwEnt.sl {w : World} {lo hi : Nat} {A : Option Addr} {n c : Nat} {xs : List (Value × Ent)} {ps : List Ent} (h : OwEnt w lo hi (.slice A n c) xs ps) (hw : ∀ p ∈ ps, p.wf) : SlEnt w A n c ps := ⟨h.ints, ownr_nilcap h.own.row, ownr_cap h.own.row, hw⟩
theorem SlEnt.below {w w' : World} {A : Option Addr} {n c : Nat} {ps : List Ent} (h : SlEnt w A n c ps) (hb : Below w.heap.size w w') : SlEnt w' A n c ps :=
  ⟨(h.pths.keep hb).up hb.size, h.bare, h.cap, h.wf⟩
/-- few and short. -/
def SmallEnt (ps : List Ent) : Prop := ps.length ≤ 1048576 ∧ ∀ j, j < ps.length → (entA ps j).lights.length ≤ 1048576
theorem SmallEnt.at {ps : List Ent} (h : SmallEnt ps) (n M : Nat) (hn : n = ps.length) (hM : 1048576 ≤ M) : ∀ j, j < n → (entA ps j).lights.length ≤ M := fun j hj => Nat.le_trans (h.2 j (by omega)) hM
theorem law_toEntry (A : Option Addr) (n c B : Nat) (zs : List Int) (x0 : Int) (x2 : Int) (w : World) (h : IntsAt .i64 w B A n zs) (hB : B ≤ w.heap.size) (hn : n ≤ 1048576) :
    Calls Try.prog 61 #[.agg #[.int .i64 x0, .slice A n c, .int .i64 x2]] w fun e w' => ∃ a, e = .returned (.agg #[.int .i64 x0, .slice (some a) n n, .int .i64 x2]) ∧ Own .i64 3 w' w.heap.size (.slice (some a) n n) zs ∧ Below w.heap.size w w' := by
  have hi := fun w' (hb : Below w.heap.size w w') => h.laid hB hb
  have hb0 := (((Below.refl w.heap.size w).alloc (Nat.le_refl _) (.cells #[.int .i64 x0, .slice A n c, .int .i64 x2] 80)).alloc (by simp) (.cells #[.int .i64 0, .slice none 0 0, .int .i64 0] 84)).alloc (by simp; omega) (.cells #[.int .i64 x0, .slice none 0 0, .int .i64 0] 84)
  have hs0 := hb0.size
  have HI := Lib.hid hi
  have HB0 := Lib.hid hb0
  clear hi
  go_enter Try.func61, Try.ntmps61
  go_wp2_with fail
  refine (to_i64 A n c B zs _ (HI.out _ HB0.out) (by have := HB0.out.size; omega) (by omega)).mono ?_
  rintro e w2 ⟨rfl, ho, hb2⟩
  have HB := Lib.hid (HB0.out.trans (hb2.mono hs0))
  have k0 : w2.cell? ⟨w.heap.size, 2, none⟩ = some (.int .i64 x2) := (hb2.cell (p := ⟨w.heap.size, 2, none⟩) (by simp; try omega)).trans (by go_simp)
  have k1 : w2.cell? ⟨w.heap.size + 1, 0, none⟩ = some (.int .i64 0) := (hb2.cell (p := ⟨w.heap.size + 1, 0, none⟩) (by simp; try omega)).trans (by go_simp)
  have k2 : w2.cell? ⟨w.heap.size + 1, 1, none⟩ = some (.slice none 0 0) := (hb2.cell (p := ⟨w.heap.size + 1, 1, none⟩) (by simp; try omega)).trans (by go_simp)
  have k3 : w2.cell? ⟨w.heap.size + 1, 2, none⟩ = some (.int .i64 0) := (hb2.cell (p := ⟨w.heap.size + 1, 2, none⟩) (by simp; try omega)).trans (by go_simp)
  have k4 : w2.cell? ⟨w.heap.size + 1 + 1, 0, none⟩ = some (.int .i64 x0) := (hb2.cell (p := ⟨w.heap.size + 1 + 1, 0, none⟩) (by simp; try omega)).trans (by go_simp)
  have k5 : w2.cell? ⟨w.heap.size + 1 + 1, 1, none⟩ = some (.slice none 0 0) := (hb2.cell (p := ⟨w.heap.size + 1 + 1, 1, none⟩) (by simp; try omega)).trans (by go_simp)
  have k6 : w2.cell? ⟨w.heap.size + 1 + 1, 2, none⟩ = some (.int .i64 0) := (hb2.cell (p := ⟨w.heap.size + 1 + 1, 2, none⟩) (by simp; try omega)).trans (by go_simp)
  have fa0 : w2.frozen? ⟨w.heap.size + 1, 0, none⟩ = false := (hb2.frozen (p := ⟨w.heap.size + 1, 0, none⟩) (by simp; try omega)).trans (by go_simp)
  have fa1 : w2.frozen? ⟨w.heap.size + 1, 1, none⟩ = false := (hb2.frozen (p := ⟨w.heap.size + 1, 1, none⟩) (by simp; try omega)).trans (by go_simp)
  have fa2 : w2.frozen? ⟨w.heap.size + 1, 2, none⟩ = false := (hb2.frozen (p := ⟨w.heap.size + 1, 2, none⟩) (by simp; try omega)).trans (by go_simp)
  have fb1 : w2.frozen? ⟨w.heap.size + 1 + 1, 1, none⟩ = false := (hb2.frozen (p := ⟨w.heap.size + 1 + 1, 1, none⟩) (by simp; try omega)).trans (by go_simp)
  have fb2 : w2.frozen? ⟨w.heap.size + 1 + 1, 2, none⟩ = false := (hb2.frozen (p := ⟨w.heap.size + 1 + 1, 2, none⟩) (by simp; try omega)).trans (by go_simp)
  have ho2 : Own .i64 3 w2 w.heap.size (.slice (some ⟨w.heap.size + 1 + 1 + 1, 0, none⟩) n n) zs := by
    have h2 := ho.mono hs0
    simp only [alloc_heap, Array.size_push] at h2
    exact h2
  have HO2 := Lib.hid ho2
  clear hb2 hb0 ho hs0 ho2
  go_wp2
  refine bodyPost_ret (v := .agg #[.int .i64 x0, .slice (some ⟨w.heap.size + 1 + 1 + 1, 0, none⟩) n n, .int .i64 x2]) (by rw [results_cell rfl]; go_simp; try rfl) rfl ?_
  refine ⟨_, rfl, (HO2.out.grown (only_setCell (only_setCell (World.grownBy.refl _ _) _ _) _ _) (fun g' e e2 => ?_)).grown (only_setCell (only_setCell (only_setCell (World.grownBy.refl _ _) _ _) _ _) _ _) (fun g' e e2 => ?_), (((((HB.out.setCell (by simp only; omega) _).setCell (by simp only; omega) _).setCell (by simp only; omega) _).setCell (by simp only; omega) _).setCell (by simp only; omega) _)⟩
  · have h1 : w.heap.size + 1 + 1 + 1 = g' := Option.some.inj e
    have h2 := Option.some.inj e2
    omega
  · have h1 : w.heap.size + 1 + 1 + 1 = g' := Option.some.inj e
    have h2 := Option.some.inj e2
    omega
set_option maxHeartbeats 1000000 in
theorem to_ent (A : Option Addr) (n c B : Nat) (ps : List Ent) (w : World) (h : EntsAt w B A n ps) (hB : B ≤ w.heap.size) (hn : n ≤ 1048576) (hm : ∀ j, j < n → (entA ps j).lights.length ≤ 1048576) :
    Calls Try.prog 18 #[.slice A n c] w fun e w' => e = .returned (.slice (some ⟨w.heap.size, 0, none⟩) n n) ∧ (∃ xs, OwnEnt w' w.heap.size (.slice (some ⟨w.heap.size, 0, none⟩) n n) xs ps) ∧ Below w.heap.size w w' := by
  have hl := h.1
  go_enter Try.func18, Try.ntmps18
  go_wp2_with ((with_reducible show wpList _ _ _ _ _ _); refine wpList_mkR rfl _ _ _ rfl 84 _ 3 _ Try.underlying35 info_ent (by decide) (n : Int) (n : Int) n rfl rfl rfl rfl (by omega) ?_; intro w1 hown hgrow)
  rw [made_ent] at hown
  go_loopw [4] (fun i wr => ∃ (k : Nat) (xs : List (Value × Ent)), k ≤ n ∧ xs.length = k ∧ i = .int .i64 k ∧ wr.ownsRow w.heap.size 84 3 (.slice (some ⟨w.heap.size, 0, none⟩) n n) n (entrow xs ++ entrow (List.replicate (n - xs.length) (.slice none 0 0, ent0))) ∧
      (∀ j, j < k → ∃ u, xs[j]? = some (u, entA ps j) ∧ Own .i64 3 wr w.heap.size u (entA ps j).lights) ∧ ApartL (xs.map (·.1)) ∧ Below w.heap.size w wr) (fun i _ => n - (intOf i).toNat)
  case atStart => exact ⟨0, [], Nat.zero_le _, rfl, rfl, by simpa [entrow] using hown, fun j hj => absurd hj (by omega), ApartL.nil, below_grown hgrow⟩
  case round =>
    clear hown hgrow
    obtain ⟨k, xs, hk, hul, rfl, hrow, heach, hap, hbl⟩ := hrel
    have hsz := hbl.size
    by_cases hlt : k < n
    · obtain ⟨ad, A', m, c', rfl, hab, hq, hi, hmc, hnil⟩ := h.at hlt
      obtain ⟨q0, q1, q2⟩ := hq.below hbl (by omega)
      have hml := hi.1
      have hmk := hm k hlt
      have hiw := hi.keep (w' := wr) (fun p hp => hbl.cell (by omega))
      clear hq hi
      go_wp2_with fail
      refine (law_toEntry A' m c' B (entA ps k).lights (entA ps k).second (entA ps k).mac wr hiw (by omega) (by omega)).mono ?_
      rintro e w2 ⟨a, rfl, ho, hb2⟩
      have hrow2 := ownr_below hrow hb2
      obtain ⟨y0, hy0⟩ := ownr_some hrow2 (j := k * 3) (by omega)
      obtain ⟨y1, hy1⟩ := ownr_some hrow2 (j := k * 3 + 1) (by omega)
      obtain ⟨y2, hy2⟩ := ownr_some hrow2 (j := k * 3 + 2) (by omega)
      have f0 := World.ownsRow.frozenAt hrow2
      have hst := (World.ownsRow.stored (World.ownsRow.stored (World.ownsRow.stored hrow2 (k * 3) (.int .i64 (entA ps k).second)).1 (k * 3 + 1) (.slice (some a) m m)).1 (k * 3 + 2) (.int .i64 (entA ps k).mac)).1
      have hb3 := hbl.trans (hb2.mono hsz)
      have hgs : w2.grownBy (((w2.setCell ⟨w.heap.size, k * 3, none⟩ (.int .i64 (entA ps k).second)).setCell ⟨w.heap.size, k * 3 + 1, none⟩ (.slice (some a) m m)).setCell ⟨w.heap.size, k * 3 + 2, none⟩ (.int .i64 (entA ps k).mac)) (some w.heap.size) := only_setCell (only_setCell (only_setCell (World.grownBy.refl _ _) _ _) _ _) _ _
      have hkept : ∀ {x : Value} {xs : List Int} {l : Nat}, Own .i64 3 w2 l x xs → Own .i64 3 (((w2.setCell ⟨w.heap.size, k * 3, none⟩ (.int .i64 (entA ps k).second)).setCell ⟨w.heap.size, k * 3 + 1, none⟩ (.slice (some a) m m)).setCell ⟨w.heap.size, k * 3 + 2, none⟩ (.int .i64 (entA ps k).mac)) l x xs := fun hx => hx.grown hgs (fun g hg e => own_apart_ent hx hrow2 g hg e)
      have hsn : xs.length < n := by omega
      have hnx := entrow_next xs n (.slice none 0 0, ent0) (.slice (some a) m m, entA ps k) hsn
      rw [hul] at hnx
      simp only at hnx
      rw [hul] at hst
      rw [hnx] at hst
      have HR := Lib.hid hst
      have HE : Hid (∀ j, j < k + 1 → ∃ u, (xs ++ [(.slice (some a) m m, entA ps k)])[j]? = some (u, entA ps j) ∧ Own .i64 3 (((w2.setCell ⟨w.heap.size, k * 3, none⟩ (.int .i64 (entA ps k).second)).setCell ⟨w.heap.size, k * 3 + 1, none⟩ (.slice (some a) m m)).setCell ⟨w.heap.size, k * 3 + 2, none⟩ (.int .i64 (entA ps k).mac)) w.heap.size u (entA ps j).lights) := Lib.hid (by
        intro j hj
        by_cases hjk : j < k
        · obtain ⟨u, h1, h2⟩ := heach j hjk
          exact ⟨u, by rw [List.getElem?_append_left (by omega)]; exact h1, hkept (h2.below hb2)⟩
        · obtain rfl : j = xs.length := by omega
          refine ⟨_, (List.getElem?_append_right (Nat.le_refl _)).trans (by rw [Nat.sub_self, show xs.length = k from hul]; rfl), ?_⟩
          rw [show xs.length = k from hul]
          exact hkept (ho.mono hsz))
      have HA : Hid (ApartL ((xs ++ [((Value.slice (some a) m m), entA ps k)]).map (·.1))) := Lib.hid (by
        rw [List.map_append]
        refine hap.snoc (b := wr.heap.size) (fun x hx g hg => ?_) (fun g hg => (ho.block g hg).1)
        obtain ⟨y, hy, rfl⟩ := List.mem_map.1 hx
        obtain ⟨j, hj, rfl⟩ := List.getElem_of_mem hy
        obtain ⟨u, h1, h2⟩ := heach j (by omega)
        rw [List.getElem?_eq_getElem hj] at h1
        injection h1 with h1
        rw [h1] at hg
        exact (h2.block g hg).2)
      have HB := Lib.hid hb3
      clear hrow heach hap hbl hb2 hb3 hgs hkept hst hrow2 ho hiw hnx
      go_wp2
      go_roundw
      case rel => exact ⟨k + 1, xs ++ [(.slice (some a) m m, entA ps k)], by omega, by rw [List.length_append, hul]; rfl, by go_num, HR.out, HE.out, HA.out, (((HB.out.setCell (Nat.le_refl _) _).setCell (Nat.le_refl _) _).setCell (Nat.le_refl _) _)⟩
      case measure => simp [intOf]; omega
    · obtain rfl : k = n := by omega
      rw [hul, Nat.sub_self, List.replicate_zero] at hrow
      have HO : Hid (OwnEnt wr w.heap.size (.slice (some ⟨w.heap.size, 0, none⟩) k k) xs ps) := Lib.hid ⟨by rw [hl]; simpa [entrow] using hrow, fun j hj => heach j (by omega), hap⟩
      clear hrow heach hap
      go_wp2
      go_ret
      exact ⟨rfl, ⟨xs, HO.out⟩, hbl⟩
set_option maxHeartbeats 1000000 in
theorem law_eqEntry (A : Option Addr) (n c B : Nat) (zs : List Int) (x0 : Int) (x2 : Int) (A2 : Option Addr) (n2 c2 : Nat) (w : World) (h : IntsAt .i64 w B A n zs) (h2 : IntsAt .i64 w B A2 n2 zs) (hB : B ≤ w.heap.size) (hn : n ≤ 4398046511104) :
    Calls Try.prog 67 #[.agg #[.int .i64 x0, .slice A n c, .int .i64 x2], .agg #[.int .i64 x0, .slice A2 n2 c2, .int .i64 x2]] w fun e w' => e = .returned (.bool true) ∧ Below w.heap.size w w' := by
  have hl := h.1
  have hl2 := h2.1
  have hq := fun w' (hb : Below w.heap.size w w') => eqs_i64 A n c zs A2 n2 c2 w' ((h.laid hB hb).up (by have := hb.size; omega)) ((h2.laid hB hb).up (by have := hb.size; omega)) (by omega) (by omega)
  have hb0 := ((Below.refl w.heap.size w).alloc (Nat.le_refl _) (.cells #[.int .i64 x0, .slice A n c, .int .i64 x2] 84)).alloc (by simp) (.cells #[.int .i64 x0, .slice A2 n2 c2, .int .i64 x2] 84)
  have HQ := Lib.hid hq
  have HB0 := Lib.hid hb0
  clear hq hb0 h h2
  have e0 : (x0 != x0) = false := by simp
  have g0 : (!(x0 == x0)) = false := by simp
  have e2 : (x2 != x2) = false := by simp
  have g2 : (!(x2 == x2)) = false := by simp
  go_enter Try.func67, Try.ntmps67
  go_wp2_with fail
  refine (HQ.out _ HB0.out).mono ?_
  rintro e w2 ⟨rfl, hb2⟩
  have HB := Lib.hid (HB0.out.trans (hb2.mono HB0.out.size))
  have k0 : w2.cell? ⟨w.heap.size, 2, none⟩ = some (.int .i64 x2) := (hb2.cell (p := ⟨w.heap.size, 2, none⟩) (by simp; try omega)).trans (by go_simp)
  have k1 : w2.cell? ⟨w.heap.size + 1, 2, none⟩ = some (.int .i64 x2) := (hb2.cell (p := ⟨w.heap.size + 1, 2, none⟩) (by simp; try omega)).trans (by go_simp)
  clear hb2
  go_wp2
  go_ret
  exact ⟨rfl, HB.out⟩
set_option maxHeartbeats 1000000 in
theorem eqs_ent (A : Option Addr) (n c : Nat) (ps : List Ent) (A2 : Option Addr) (n2 c2 : Nat) (w : World) (h : EntsAt w w.heap.size A n ps) (h2 : EntsAt w w.heap.size A2 n2 ps) (hn : n ≤ 4398046511104) (hn2 : n2 ≤ 4398046511104) (hm : ∀ j, j < n → (entA ps j).lights.length ≤ 4398046511104) :
    Calls Try.prog 21 #[.slice A n c, .slice A2 n2 c2] w fun e w' => e = .returned (.bool true) ∧ Below w.heap.size w w' := by
  have hl := h.1
  have hl2 := h2.1
  obtain rfl : n = n2 := by omega
  go_enter Try.func21, Try.ntmps21
  go_wp2
  go_loopw [5] (fun i wr => ∃ k : Nat, k ≤ n ∧ i = .int .i64 k ∧ Below w.heap.size w wr) (fun i _ => n - (intOf i).toNat)
  case atStart => exact ⟨0, Nat.zero_le _, rfl, Below.refl _ _⟩
  case round =>
    obtain ⟨k, hk, rfl, hbl⟩ := hrel
    have hsz := hbl.size
    by_cases hlt : k < n
    · obtain ⟨ad, A', m, c', rfl, hab, hq, hi, hmc, hnil⟩ := h.at hlt
      obtain ⟨ad2, A2', m2, c2', rfl, hab2, hq2, hi2, hmc2, hnil2⟩ := h2.at hlt
      have hqq := fun x (hx : Below wr.heap.size wr x) => (hq.below hbl (by omega)).below hx (by omega)
      have hqq2 := fun x (hx : Below wr.heap.size wr x) => (hq2.below hbl (by omega)).below hx (by omega)
      have hmk := hm k hlt
      have hml := hi.1
      have hml2 := hi2.1
      have hiw := hi.keep (w' := wr) (fun p hp => hbl.cell (by omega))
      have hiw2 := hi2.keep (w' := wr) (fun p hp => hbl.cell (by omega))
      clear hq hq2 hi hi2
      generalize entA ps k = pk at *
      obtain ⟨x0, zs, x2⟩ := pk
      simp only at *
      have hcc := fun x (hx : Below wr.heap.size wr x) => law_eqEntry A' m c' w.heap.size zs x0 x2 A2' m2 c2' x (hiw.keep (w' := x) fun p hp => hx.cell (by omega)) (hiw2.keep (w' := x) fun p hp => hx.cell (by omega)) (by have := hx.size; omega) (by omega)
      have i1 : (0 : Int) ≤ (k : Int) := by omega
      have i2 : (k : Int) < (n : Int) := by omega
      have hdr : Below wr.heap.size wr wr.drew := ⟨rfl, rfl, rfl, Nat.le_refl _, fun _ _ => rfl⟩
      obtain ⟨y0, y1, y2⟩ := hqq _ hdr
      obtain ⟨z0, z1, z2⟩ := hqq2 _ hdr
      have HQ := Lib.hid hcc
      have HC := Lib.hid hqq
      have HC2 := Lib.hid hqq2
      clear hqq hqq2 hcc hiw hiw2
      go_wp2
      go_region_held3 (fun W' => W'.cell? (ad.add (k * 3)) = some (.int .i64 x0) ∧ W'.cell? ⟨(ad.add (k * 3)).block, (ad.add (k * 3)).off + 1, none⟩ = some (.slice A' m c') ∧ W'.cell? ⟨(ad.add (k * 3)).block, (ad.add (k * 3)).off + 2, none⟩ = some (.int .i64 x2) ∧ W'.cell? (ad2.add (k * 3)) = some (.int .i64 x0) ∧ W'.cell? ⟨(ad2.add (k * 3)).block, (ad2.add (k * 3)).off + 1, none⟩ = some (.slice A2' m2 c2') ∧ W'.cell? ⟨(ad2.add (k * 3)).block, (ad2.add (k * 3)).off + 2, none⟩ = some (.int .i64 x2)) (first | exact ⟨y0, y1, y2, z0, z1, z2⟩ | exact ⟨hy.c0, hy.c1, hy.c2, hz.c0, hz.c1, hz.c2⟩ | fail "keep")
        (first
          | (go_at_call 67; refine (HQ.out _ hdr).mono ?_; rintro e w3 ⟨rfl, hb3⟩; have hb4 := hdr.trans hb3; have hy := HC.out _ hb4; have hz := HC2.out _ hb4))
      have HB := Lib.hid (hbl.trans (hb4.mono hsz))
      clear hb3 hb4 y0 y1 y2 z0 z1 z2 hy hz hbl HQ HC HC2 hdr
      go_wp2
      go_roundw
      case rel => exact ⟨k + 1, by omega, by go_num, HB.out⟩
      case measure => simp [intOf]; omega
    · obtain rfl : k = n := by omega
      go_wp2
      go_ret
      exact ⟨rfl, hbl⟩
theorem sz1_ent (A : Option Addr) (n c : Nat) (x0 : Int) (x2 : Int) (left : Int) (w : World) (hn : n ≤ 9223372036854775807) (hl : 0 ≤ left ∧ left ≤ 1048576) :
    Calls Try.prog 56 #[.agg #[.int .i64 x0, .slice A n c, .int .i64 x2], .int .i64 left] w fun e w' => e = .returned (.int .i64 (if (n : Int) ≤ left then left - (n : Int) else -1)) ∧ Below w.heap.size w w' := by
  have HB := Lib.hid ((Below.refl w.heap.size w).alloc (Nat.le_refl _) (.cells #[.int .i64 x0, .slice A n c, .int .i64 x2] 80))
  by_cases h : (n : Int) ≤ left
  · have hz := fun x => sz_ints A n c left x hn hl
    simp only [if_pos h] at hz ⊢
    have HZ := Lib.hid hz
    clear hz
    go_enter Try.func56, Try.ntmps56
    go_wp2_with fail
    refine (HZ.out _).mono ?_
    rintro e w' ⟨rfl, rfl⟩
    go_wp2
    go_ret
    exact ⟨rfl, HB.out⟩
  · have hz := fun x => sz_ints A n c left x hn hl
    simp only [if_neg h] at hz ⊢
    have HZ := Lib.hid hz
    clear hz
    go_enter Try.func56, Try.ntmps56
    go_wp2_with fail
    refine (HZ.out _).mono ?_
    rintro e w' ⟨rfl, rfl⟩
    go_wp2
    go_ret
    exact ⟨rfl, HB.out⟩
/-- what sz says of a row. -/
def szSaidEnt (left : Int) (n : Nat) (ps : List Ent) (r : Int) : Prop := r < 0 ∨ (0 ≤ r ∧ r ≤ left ∧ (n : Int) ≤ left ∧ ∀ j, j < n → ((entA ps j).lights.length : Int) ≤ left)
set_option maxHeartbeats 1000000 in
theorem sz_ent (A : Option Addr) (n c B : Nat) (ps : List Ent) (left : Int) (w : World) (h : EntsAt w B A n ps) (hB : B ≤ w.heap.size) (hn : n ≤ 9223372036854775807) (hm : ∀ j, j < n → (entA ps j).lights.length ≤ 9223372036854775807) (hl : 0 ≤ left ∧ left ≤ 1048576) :
    Calls Try.prog 16 #[.slice A n c, .int .i64 left] w fun e w' => (∃ r : Int, e = .returned (.int .i64 r) ∧ szSaidEnt left n ps r) ∧ Below w.heap.size w w' := by
  have hl0 := h.1
  obtain ⟨l1, l2⟩ := hl
  by_cases hlt0 : (n : Int) ≤ left
  · go_enter Try.func16, Try.ntmps16
    go_wp2
    go_loopw [1, 5] (fun r i wr => ∃ (k : Nat) (q : Int), k ≤ n ∧ i = .int .i64 k ∧ r = .int .i64 q ∧ 0 ≤ q ∧ q ≤ left ∧ (∀ j, j < k → ((entA ps j).lights.length : Int) ≤ left) ∧ Below w.heap.size w wr) (fun _ i _ => n - (intOf i).toNat)
    case atStart => exact ⟨0, left - n, Nat.zero_le _, rfl, rfl, by omega, by omega, fun j hj => absurd hj (by omega), Below.refl _ _⟩
    case round =>
      obtain ⟨k, q, hk, rfl, rfl, hq0, hq1, hall, hbl⟩ := hrel
      have HALL := Lib.hid hall
      clear hall
      by_cases hlt : k < n
      · obtain ⟨ad, A', m, c', rfl, hab, hq, hi, hmc, hnil⟩ := h.at hlt
        obtain ⟨y0, y1, y2⟩ := hq.below hbl (by omega)
        have hml := hi.1
        have hmk := hm k hlt
        go_wp2_with fail
        refine (sz1_ent A' m c' _ _ q _ (by omega) ⟨hq0, by omega⟩).mono ?_
        rintro e w' ⟨rfl, hb2⟩
        have HB := Lib.hid (hbl.trans (hb2.mono hbl.size))
        clear hb2
        by_cases hle : (m : Int) ≤ q
        · rw [if_pos hle]
          have HK : Hid (((entA ps k).lights.length : Int) ≤ left) := Lib.hid (by omega)
          clear hi hml hmk
          go_wp2
          go_roundw
          case rel => exact ⟨k + 1, q - m, by omega, by go_num, rfl, by omega, by omega, (fun j hj => by
            by_cases e : j < k
            · exact HALL.out j e
            · obtain rfl : j = k := by omega
              exact HK.out), HB.out⟩
          case measure => simp [intOf]; omega
        · rw [if_neg hle]
          go_wp2
          go_ret
          exact ⟨⟨-1, rfl, .inl (by decide)⟩, HB.out⟩
      · obtain rfl : k = n := by omega
        go_wp2
        go_ret
        exact ⟨⟨q, rfl, .inr ⟨hq0, hq1, hlt0, HALL.out⟩⟩, hbl⟩
  · go_enter Try.func16, Try.ntmps16
    go_wp2
    go_ret
    exact ⟨⟨-1, rfl, .inl (by decide)⟩, Below.refl _ _⟩
end Go.Proofs.Ytlpkafhapmkkfaa

/- Rows of entries marked: what the laws' helper does (the marks themselves are not said). -/
namespace Go.Proofs.Ytlpkafhapmkkfaa
open Go.RowKit
set_option linter.unusedVariables false

/-- how many marks the first k entries take. -/
def totE (ps : List Ent) (k : Nat) : Nat := ((ps.take k).map fun p => p.lights.length + 2).sum
theorem totE_zero (ps : List Ent) : totE ps 0 = 0 := by simp [totE]
theorem totE_succ {ps : List Ent} {k : Nat} (h : k < ps.length) : totE ps (k + 1) = totE ps k + ((entA ps k).lights.length + 2) := by
  unfold totE
  rw [List.take_add_one, entA_get h, List.map_append, List.sum_append]
  simp
theorem totE_le {ps : List Ent} (h : SmallEnt ps) : ∀ k, k ≤ ps.length → totE ps k ≤ k * 1048578
  | 0, _ => by rw [totE_zero]; exact Nat.zero_le _
  | k + 1, hk => by
    have ih := totE_le h k (by omega)
    have := h.2 k (by omega)
    rw [totE_succ (by omega)]
    omega
theorem totE_top {ps : List Ent} (h : SmallEnt ps) {k : Nat} (hk : k ≤ ps.length) : totE ps k ≤ 1099513724928 := by
  have h1 := totE_le h k hk
  have h2 := h.1
  have : k * 1048578 ≤ 1048576 * 1048578 := Nat.mul_le_mul_right _ (by omega)
  omega
/-- the rows of the entries lie below hi. -/
theorem ent_ltu {w : World} {lo : Nat} {v : Value} {xs : List (Value × Ent)} {ps : List Ent} (h : OwnEnt w lo v xs ps) : ∀ x ∈ xs, ∀ g, x.1.ownBlock = some g → g < w.heap.size := by
  intro x hx g hg
  obtain ⟨j, hj, rfl⟩ := List.getElem_of_mem hx
  obtain ⟨u, h1, h2⟩ := h.each j (by have := h.len; omega)
  rw [List.getElem?_eq_getElem hj] at h1
  injection h1 with h1
  rw [h1] at hg
  exact (ownr_block h2 g hg).2
/-- the entries from the k-th on, as they were. -/
def RestE (w : World) (lo k n : Nat) (xs : List (Value × Ent)) (ps : List Ent) (cs : List Value) : Prop :=
  ∀ j, k ≤ j → j < n → ∃ u, xs[j]? = some (u, entA ps j) ∧ cs[j * 3 + 1]? = some u ∧ Own .i64 3 w lo u (entA ps j).lights
theorem RestE.grown {w w' : World} {lo k n : Nat} {xs : List (Value × Ent)} {ps : List Ent} {cs cs' : List Value} (h : RestE w lo k n xs ps cs) {g : Nat} (hg : w.grownBy w' (some g)) (hne : ∀ j, k ≤ j → j < n → ∀ u, xs[j]? = some (u, entA ps j) → Own .i64 3 w lo u (entA ps j).lights → ∀ g', u.ownBlock = some g' → some g ≠ some g') (hcs : ∀ j, k ≤ j → j < n → cs'[j * 3 + 1]? = cs[j * 3 + 1]?) : RestE w' lo k n xs ps cs' := by
  intro j hj hn
  obtain ⟨u, h1, h2, h3⟩ := h j hj hn
  exact ⟨u, h1, (hcs j hj hn).trans h2, h3.grown hg (fun g' hg' => hne j hj hn u h1 h3 g' hg')⟩
set_option maxHeartbeats 1000000 in
set_option maxRecDepth 100000 in
theorem marked_ent (A : Option Addr) (n c lo hi s : Nat) (xs : List (Value × Ent)) (ps : List Ent) (w : World) (h : OwEnt w lo hi (.slice A n c) xs ps) (hlu : ∀ x ∈ xs, ∀ g, x.1.ownBlock = some g → g < hi) (hz : SmallEnt ps) (hs : s ≤ 2199023255552) :
    Calls Try.prog 23 #[.slice A n c, .int .i64 s] w fun e w' => e = .returned (.int .i64 ((s + totE ps n : Nat) : Int)) ∧ Part lo hi w w' := by
  have hl : ps.length = n := (ownr_len h.own.row).symm
  have hz1 := hz.1
  have hrow0 : w.ownsRow lo 84 3 (.slice A n c) n (entrow xs) := by have := h.own.row; rw [hl] at this; exact this
  have hrest0 : RestE w lo 0 n xs ps (entrow xs) := fun j _ hj => by
    obtain ⟨u, h1, h2⟩ := h.own.each j (by omega)
    exact ⟨u, h1, entrow_at1 h1, h2⟩
  have HAP := Lib.hid h.own.apart
  have HLT := Lib.hid h.lt
  have HTOP := Lib.hid h.top
  have HLU := Lib.hid hlu
  have HZ := Lib.hid hz
  clear h hlu hz
  go_enter Try.func23, Try.ntmps23
  go_wp2
  go_loopw [1, 5] (fun x i wr => ∃ (k q : Nat) (cs : List Value), k ≤ n ∧ i = .int .i64 k ∧ x = .int .i64 (q : Int) ∧ q = s + totE ps k ∧ wr.ownsRow lo 84 3 (.slice A n c) n cs ∧ RestE wr lo k n xs ps cs ∧ Part lo hi w wr) (fun _ i _ => n - (intOf i).toNat)
  case atStart => exact ⟨0, s, _, Nat.zero_le _, rfl, rfl, by rw [totE_zero]; rfl, hrow0, hrest0, ⟨rfl, rfl, rfl, Nat.le_refl _, fun _ _ _ => rfl⟩⟩
  case round =>
    clear hrow0 hrest0
    obtain ⟨k, q, cs, hk, rfl, rfl, hq, hrow, hrest, hp⟩ := hrel
    have HQ := Lib.hid hq
    clear hq
    by_cases hlt : k < n
    · obtain ⟨u, hu, hcu, hown⟩ := hrest k (Nat.le_refl _) hlt
      obtain ⟨zs, hzs⟩ : ∃ zs, (entA ps k).lights = zs := ⟨_, rfl⟩
      rw [hzs] at hown
      have hlen := HZ.out.2 k (by omega)
      rw [hzs] at hlen
      have htt := totE_top HZ.out (k := k) (by omega)
      have hts := totE_succ (ps := ps) (k := k) (by omega)
      rw [hzs] at hts
      have hqb : q ≤ 4398046511104 := by have := HQ.out; omega
      have HQ2 : Hid (q + 1 + zs.length + 1 = s + totE ps (k + 1)) := Lib.hid (by have := HQ.out; omega)
      clear hts htt hzs
      obtain ⟨A', c', rfl⟩ := hown.sliced
      rcases ownr_shape hrow with ⟨e, he⟩ | ⟨g, cap, e, hg, hgs, _⟩
      · exfalso; omega
      injection e with e1 e2 e3
      clear e2 e3
      obtain rfl := e1
      have hglt := HLT.out g rfl
      have hf := World.ownsRow.frozenAt hrow (k * 3)
      obtain ⟨x0, hx0⟩ := ownr_some hrow (j := k * 3) (by omega)
      obtain ⟨w1, hw1⟩ : ∃ w1, w1 = wr.setCell ⟨g, k * 3, none⟩ (.int .i64 (q : Int)) := ⟨_, rfl⟩
      obtain ⟨hrow1, hg1⟩ := World.ownsRow.stored hrow (k * 3) (.int .i64 (q : Int))
      rw [← hw1] at hrow1 hg1
      have q1 : w1.cell? ⟨g, k * 3 + 1, none⟩ = some (.slice A' zs.length c') := (World.ownsRow.cellAt hrow1 (k * 3 + 1) (by omega)).trans (by rw [List.getElem?_set_ne (by omega)]; exact hcu)
      have hown1 := hown.grown hg1 (fun g' hg' e => own_apart_ent hown hrow g' hg' e)
      have hrest1 : RestE w1 lo k n xs ps (cs.set (k * 3) (.int .i64 (q : Int))) := hrest.grown hg1 (fun j _ _ u _ ho g' hg' e => own_apart_ent ho hrow g' hg' e) (fun j _ _ => List.getElem?_set_ne (by omega))
      have hcc := mark_i64 A' _ c' lo (q + 1) zs w1 hown1 (by omega) (by omega)
      have q2 := q1
      rw [hw1] at q1
      have HP := Lib.hid hp
      have HU := Lib.hid hu
      have HROW1 := Lib.hid hrow1
      have HREST1 := Lib.hid hrest1
      have HG1 := Lib.hid hg1
      have HOWN := Lib.hid hown1
      clear hp hu hrow hrow1 hg1 hrest hrest1 hown hown1 hcu
      go_wp2_with fail
      rw [← hw1]
      refine hcc.mono ?_
      rintro e w3 ⟨rfl, ho3, hg3⟩
      clear q1 q2 hf hx0
      have hrow3 := ownr_grown HROW1.out hg3 (fun g hg e => own_apart_ent HOWN.out HROW1.out g e hg)
      have hf := World.ownsRow.frozenAt hrow3 (k * 3 + 2)
      obtain ⟨x1, hx1⟩ := ownr_some hrow3 (j := k * 3 + 2) (by omega)
      obtain ⟨hrow4, hg4⟩ := World.ownsRow.stored hrow3 (k * 3 + 2) (.int .i64 ((q + 1 + zs.length : Nat) : Int))
      have HREST : Hid (RestE (w3.setCell ⟨g, k * 3 + 2, none⟩ (.int .i64 ((q + 1 + zs.length : Nat) : Int))) lo (k + 1) n xs ps ((cs.set (k * 3) (.int .i64 (q : Int))).set (k * 3 + 2) (.int .i64 ((q + 1 + zs.length : Nat) : Int)))) := Lib.hid fun j hj hn => by
        obtain ⟨u, h1, h2, h3⟩ := HREST1.out j (by omega) hn
        refine ⟨u, h1, (List.getElem?_set_ne (by omega)).trans h2, ?_⟩
        have h4 := h3.grown hg3 (fun g' hg' e => by
          have f1 : (xs.map (·.1))[j]? = some u := by rw [List.getElem?_map, h1]; rfl
          have f2 : (xs.map (·.1))[k]? = some (.slice A' zs.length c') := by rw [List.getElem?_map, HU.out]; rfl
          exact HAP.out j k _ _ (by omega) f1 f2 g' hg' e)
        exact h4.grown hg4 (fun g' hg' e => own_apart_ent h4 hrow3 g' hg' e)
      have HP4 : Hid (Part lo hi w (w3.setCell ⟨g, k * 3 + 2, none⟩ (.int .i64 ((q + 1 + zs.length : Nat) : Int)))) := by
        have hp := HP.out
        have hg1 := HG1.out
        refine Lib.hid ⟨hg4.os.trans (hg3.os.trans (hg1.os.trans hp.os)), hg4.tape.trans (hg3.tape.trans (hg1.tape.trans hp.tape)), hg4.output.trans (hg3.output.trans (hg1.output.trans hp.output)), Nat.le_trans hp.size (Nat.le_trans hg1.size (Nat.le_trans hg3.size hg4.size)), fun i hi' hd => ?_⟩
        have s1 := Nat.lt_of_lt_of_le hi' hp.size
        have s2 := Nat.lt_of_lt_of_le s1 hg1.size
        have s3 := Nat.lt_of_lt_of_le s2 hg3.size
        have b4 := hg4.block i s3 (fun e => by
          have e' : i = g := Option.some.inj e
          omega)
        have b3 := hg3.block i s2 (fun e => by
          have t1 := HLU.out _ (List.mem_of_getElem? HU.out) i e.symm
          have t2 := (ownr_block HOWN.out i e.symm).1
          omega)
        have b1 := hg1.block i s1 (fun e => by
          have e' : i = g := Option.some.inj e
          omega)
        exact b4.trans (b3.trans (b1.trans (hp.block i hi' hd)))
      have HROW4 := Lib.hid hrow4
      have hq2b : q + 1 + zs.length ≤ 8796093022208 := by omega
      generalize q + 1 + zs.length = q2 at *
      clear hrow3 hrow4 hg3 hg4 ho3 hcc hw1 HP HU HROW1 HREST1 HG1 HOWN HAP
      go_wp2
      go_roundw
      case rel => exact ⟨k + 1, q2 + 1, _, by omega, by go_num, by go_num, HQ2.out, HROW4.out, HREST.out, HP4.out⟩
      case measure => simp [intOf]; omega
    · obtain rfl : k = n := by omega
      have HP := Lib.hid hp
      clear hp
      go_wp2
      go_ret
      exact ⟨by first | (rw [← HQ.out]; rfl) | (rw [show ((s : Int) + (totE ps k : Int)) = ((q : Nat) : Int) by rw [HQ.out]; simp]; rfl), HP.out⟩
end Go.Proofs.Ytlpkafhapmkkfaa

/- Rows of entries marked and held: the marks themselves (results that are rows of entries). -/
namespace Go.Proofs.Ytlpkafhapmkkfaa
open Go.RowKit
set_option linter.unusedVariables false

theorem OwnEnt.sliced {w : World} {lo : Nat} {v : Value} {xs : List (Value × Ent)} {ps : List Ent} (h : OwnEnt w lo v xs ps) : ∃ A c, v = .slice A ps.length c := ownr_sliced h.row
theorem OwnEnt.mono {w : World} {lo lo' : Nat} {v : Value} {xs : List (Value × Ent)} {ps : List Ent} (h : OwnEnt w lo v xs ps) (hl : lo' ≤ lo) : OwnEnt w lo' v xs ps :=
  ⟨ownr_mono h.row hl, fun j hj => by obtain ⟨u, h1, h2⟩ := h.each j hj; exact ⟨u, h1, h2.mono hl⟩, h.apart⟩
theorem OwEnt.part {w w' : World} {lo hi l h' : Nat} {v : Value} {xs : List (Value × Ent)} {ps : List Ent} (h : OwEnt w lo hi v xs ps) (hlu : ∀ x ∈ xs, ∀ g, x.1.ownBlock = some g → g < hi) (hp : Part l h' w w') (hd : hi ≤ l ∨ h' ≤ lo) : OwEnt w' lo hi v xs ps := by
  refine ⟨⟨?_, fun j hj => ?_, h.own.apart⟩, h.lt, Nat.le_trans h.top hp.size⟩
  · refine ⟨h.own.row.1, ?_⟩
    rcases h.own.row.2 with h2 | ⟨g, cap, cur, rfl, hl, hg, r⟩
    · exact .inl h2
    · have hlt := h.lt g rfl
      have htop := h.top
      exact .inr ⟨g, cap, cur, rfl, hl, (hp.block g (by omega) (by omega)).trans hg, r⟩
  · obtain ⟨u, h1, h2⟩ := h.own.each j hj
    refine ⟨u, h1, h2.1, ?_⟩
    have hu := List.mem_of_getElem? h1
    rcases h2.2 with h3 | ⟨g, cap, cur, rfl, hl, hg, r⟩
    · exact .inl h3
    · have hlt := hlu _ hu g rfl
      have htop := h.top
      exact .inr ⟨g, cap, cur, rfl, hl, (hp.block g (by omega) (by omega)).trans hg, r⟩
/-- the j-th entry when it is marked. -/
def mkE (s : Nat) (ps : List Ent) (j : Nat) : Ent := ⟨((s + totE ps j : Nat) : Int), marks .i64 ((s + totE ps j + 1 : Nat) : Int) (entA ps j).lights.length, ((s + totE ps j + 1 + (entA ps j).lights.length : Nat) : Int)⟩
/-- the first k entries marked. -/
def mixE (s : Nat) (ps : List Ent) (k : Nat) : List Ent := (List.range ps.length).map fun j => if j < k then mkE s ps j else entA ps j
theorem mixE_len (s : Nat) (ps : List Ent) (k : Nat) : (mixE s ps k).length = ps.length := by simp [mixE]
theorem mixE_at (s : Nat) (ps : List Ent) (k : Nat) {j : Nat} (h : j < ps.length) : entA (mixE s ps k) j = if j < k then mkE s ps j else entA ps j := entA_some (by simp [mixE, h])
theorem mixE_zero (s : Nat) (ps : List Ent) : mixE s ps 0 = ps := by
  apply List.ext_getElem?
  intro i
  by_cases h : i < ps.length
  · rw [entA_get h]
    simp [mixE, h]
  · rw [List.getElem?_eq_none (by rw [mixE_len]; omega), List.getElem?_eq_none (by omega)]
theorem set_two {α : Type} {pre rest : List α} {a b c x z : α} {m : Nat} (h : pre.length = m) : ((pre ++ a :: b :: c :: rest).set m x).set (m + 2) z = pre ++ x :: b :: z :: rest := by
  subst h
  rw [List.set_append_right _ _ (Nat.le_refl _), Nat.sub_self, List.set_cons_zero, List.set_append_right _ _ (by omega), show pre.length + 2 - pre.length = 2 by omega]
  rfl
theorem set_mid {α : Type} {pre rest : List α} {z a : α} {m : Nat} (h : pre.length = m) : (pre ++ z :: rest).set m a = pre ++ a :: rest := by
  subst h
  rw [List.set_append_right _ _ (Nat.le_refl _), Nat.sub_self, List.set_cons_zero]
theorem entrow_set {xs : List (Value × Ent)} {k : Nat} {u : Value} {e : Ent} (h : xs[k]? = some (u, e)) (e' : Ent) : ((entrow xs).set (k * 3) (.int .i64 e'.second)).set (k * 3 + 2) (.int .i64 e'.mac) = entrow (xs.set k (u, e')) := by
  have hk := (List.getElem?_eq_some_iff.1 h).1
  have hx := (List.getElem?_eq_some_iff.1 h).2
  have e1 : xs = xs.take k ++ (u, e) :: xs.drop (k + 1) := by
    rw [← hx, ← List.drop_eq_getElem_cons hk, List.take_append_drop]
  have hl : (xs.take k).length = k := by rw [List.length_take]; omega
  have e2 : xs.set k (u, e') = xs.take k ++ (u, e') :: xs.drop (k + 1) := by
    conv => lhs; rw [e1]
    exact set_mid hl
  have e3 : entrow xs = entrow (xs.take k) ++ .int .i64 e.second :: u :: .int .i64 e.mac :: entrow (xs.drop (k + 1)) := by
    conv => lhs; rw [e1, entrow_append]
    simp [entrow]
  rw [e2, e3, set_two (by rw [entrow_length, hl]), entrow_append]
  simp [entrow]
theorem fst_setE {xs : List (Value × Ent)} {k : Nat} {u : Value} {g : Ent} (h : xs[k]? = some (u, g)) (g' : Ent) : (xs.set k (u, g')).map (·.1) = xs.map (·.1) := by
  apply List.ext_getElem?
  intro i
  rw [List.getElem?_map, List.getElem?_map, List.getElem?_set]
  by_cases e : k = i
  · subst e
    rw [if_pos rfl, h, if_pos (List.getElem?_eq_some_iff.1 h).1]
    rfl
  · rw [if_neg e]
set_option maxHeartbeats 1000000 in
set_option maxRecDepth 100000 in
theorem markd_ent (A : Option Addr) (n c lo hi s : Nat) (xs : List (Value × Ent)) (ps : List Ent) (w : World) (h : OwEnt w lo hi (.slice A n c) xs ps) (hlu : ∀ x ∈ xs, ∀ g, x.1.ownBlock = some g → g < hi) (hz : SmallEnt ps) (hs : s ≤ 2199023255552) :
    Calls Try.prog 23 #[.slice A n c, .int .i64 s] w fun e w' => e = .returned (.int .i64 ((s + totE ps n : Nat) : Int)) ∧ (∃ xs', OwEnt w' lo hi (.slice A n c) xs' (mixE s ps n)) ∧ Part lo hi w w' := by
  have hl : ps.length = n := (ownr_len h.own.row).symm
  have hz1 := hz.1
  have HAP := Lib.hid h.own.apart
  have HLU := Lib.hid hlu
  have HZ := Lib.hid hz
  clear hlu hz
  go_enter Try.func23, Try.ntmps23
  go_wp2
  go_loopw [1, 5] (fun x i wr => ∃ (k q : Nat) (xs' : List (Value × Ent)), k ≤ n ∧ i = .int .i64 k ∧ x = .int .i64 (q : Int) ∧ q = s + totE ps k ∧ xs'.map (·.1) = xs.map (·.1) ∧ OwEnt wr lo hi (.slice A n c) xs' (mixE s ps k) ∧ Part lo hi w wr) (fun _ i _ => n - (intOf i).toNat)
  case atStart => exact ⟨0, s, xs, Nat.zero_le _, rfl, rfl, by rw [totE_zero]; rfl, rfl, by rw [mixE_zero]; exact h, ⟨rfl, rfl, rfl, Nat.le_refl _, fun _ _ _ => rfl⟩⟩
  case round =>
    clear h
    obtain ⟨k, q, xs', hk, rfl, rfl, hq, hxs, ho, hp⟩ := hrel
    have HQ := Lib.hid hq
    clear hq
    by_cases hlt : k < n
    · have hml := mixE_len s ps k
      obtain ⟨u, hu, hown⟩ := ho.own.each k (by omega)
      have hmk := mixE_at s ps k (j := k) (by omega)
      rw [if_neg (Nat.lt_irrefl k)] at hmk
      obtain ⟨zs, hzs⟩ : ∃ zs, (entA ps k).lights = zs := ⟨_, rfl⟩
      rw [hmk] at hown hu
      rw [hzs] at hown
      have hlen := HZ.out.2 k (by omega)
      rw [hzs] at hlen
      have htt := totE_top HZ.out (k := k) (by omega)
      have hts := totE_succ (ps := ps) (k := k) (by omega)
      rw [hzs] at hts
      have HZS := Lib.hid hzs
      have hqb : q ≤ 4398046511104 := by have := HQ.out; omega
      have HQ2 : Hid (q + 1 + zs.length + 1 = s + totE ps (k + 1)) := Lib.hid (by have := HQ.out; omega)
      clear hts htt hzs
      obtain ⟨A', c', rfl⟩ := hown.sliced
      have hrow : wr.ownsRow lo 84 3 (.slice A n c) n (entrow xs') := by have := ho.own.row; rw [mixE_len, hl] at this; exact this
      rcases ownr_shape hrow with ⟨e, he⟩ | ⟨g, cap, e, hg, hgs, _⟩
      · exfalso; omega
      injection e with e1 e2 e3
      clear e2 e3
      obtain rfl := e1
      have hglt := ho.lt g rfl
      have hf := World.ownsRow.frozenAt hrow (k * 3)
      obtain ⟨x0, hx0⟩ := ownr_some hrow (j := k * 3) (by omega)
      obtain ⟨w1, hw1⟩ : ∃ w1, w1 = wr.setCell ⟨g, k * 3, none⟩ (.int .i64 (q : Int)) := ⟨_, rfl⟩
      obtain ⟨hrow1, hg1⟩ := World.ownsRow.stored hrow (k * 3) (.int .i64 (q : Int))
      rw [← hw1] at hrow1 hg1
      have q1 : w1.cell? ⟨g, k * 3 + 1, none⟩ = some (.slice A' zs.length c') := (World.ownsRow.cellAt hrow1 (k * 3 + 1) (by omega)).trans (by rw [List.getElem?_set_ne (by omega)]; exact entrow_at1 hu)
      have hown1 := hown.grown hg1 (fun g' hg' e => own_apart_ent hown hrow g' hg' e)
      have hcc := mark_i64 A' _ c' lo (q + 1) zs w1 hown1 (by omega) (by omega)
      have q2 := q1
      rw [hw1] at q1
      have HP := Lib.hid hp
      have HU := Lib.hid hu
      have HMK := Lib.hid hmk
      have HXS := Lib.hid hxs
      have HO := Lib.hid ho
      have HROW := Lib.hid hrow
      have HROW1 := Lib.hid hrow1
      have HG1 := Lib.hid hg1
      have HOWN := Lib.hid hown1
      clear hp hu hrow hrow1 hg1 ho hmk hxs hown hown1
      go_wp2_with fail
      rw [← hw1]
      refine hcc.mono ?_
      rintro e w3 ⟨rfl, ho3, hg3⟩
      clear q1 q2 hf hx0
      have hrow3 := ownr_grown HROW1.out hg3 (fun g hg e => own_apart_ent HOWN.out HROW1.out g e hg)
      have hf := World.ownsRow.frozenAt hrow3 (k * 3 + 2)
      obtain ⟨x1, hx1⟩ := ownr_some hrow3 (j := k * 3 + 2) (by omega)
      obtain ⟨hrow4, hg4⟩ := World.ownsRow.stored hrow3 (k * 3 + 2) (.int .i64 ((q + 1 + zs.length : Nat) : Int))
      have hmk' : mkE s ps k = ⟨(q : Int), marks .i64 ((q + 1 : Nat) : Int) zs.length, ((q + 1 + zs.length : Nat) : Int)⟩ := by
        unfold mkE
        rw [HZS.out, ← HQ.out]
      have hset := entrow_set HU.out (mkE s ps k)
      rw [hmk'] at hset
      simp only at hset
      rw [hset] at hrow4
      have HO4 : Hid (OwEnt (w3.setCell ⟨g, k * 3 + 2, none⟩ (.int .i64 ((q + 1 + zs.length : Nat) : Int))) lo hi (.slice (some ⟨g, 0, none⟩) n c) (xs'.set k (.slice A' zs.length c', ⟨(q : Int), marks .i64 ((q + 1 : Nat) : Int) zs.length, ((q + 1 + zs.length : Nat) : Int)⟩)) (mixE s ps (k + 1))) := by
        refine Lib.hid ⟨⟨?_, fun j hj => ?_, ?_⟩, HO.out.lt, Nat.le_trans HO.out.top (Nat.le_trans HG1.out.size (Nat.le_trans hg3.size hg4.size))⟩
        · rw [mixE_len, hl]
          exact hrow4
        · rw [mixE_len] at hj
          rw [mixE_at s ps (k + 1) hj]
          by_cases hjk : j = k
          · subst hjk
            rw [if_pos (Nat.lt_succ_self _), hmk']
            refine ⟨.slice A' zs.length c', by rw [List.getElem?_set_self (List.getElem?_eq_some_iff.1 HU.out).1], ?_⟩
            exact ho3.grown hg4 (fun g' hg' e => own_apart_ent ho3 hrow3 g' hg' e)
          · obtain ⟨x, h1, h2⟩ := HO.out.own.each j (by rw [mixE_len]; exact hj)
            rw [mixE_at s ps k hj] at h1 h2
            have hif : (if j < k + 1 then mkE s ps j else entA ps j) = (if j < k then mkE s ps j else entA ps j) := by
              by_cases hj2 : j < k
              · rw [if_pos hj2, if_pos (by omega)]
              · rw [if_neg hj2, if_neg (by omega)]
            rw [hif]
            refine ⟨x, by rw [List.getElem?_set_ne (fun e => hjk e.symm)]; exact h1, ?_⟩
            have h3 := h2.grown HG1.out (fun g' hg' e => own_apart_ent h2 HROW.out g' hg' e)
            have h4 := h3.grown hg3 (fun g' hg' e => by
              have f1 : (xs'.map (·.1))[j]? = some x := by rw [List.getElem?_map, h1]; rfl
              have f2 : (xs'.map (·.1))[k]? = some (.slice A' zs.length c') := by rw [List.getElem?_map, HU.out]; rfl
              rw [HXS.out] at f1 f2
              exact HAP.out j k _ _ hjk f1 f2 g' hg' e)
            exact h4.grown hg4 (fun g' hg' e => own_apart_ent h4 hrow3 g' hg' e)
        · rw [fst_setE HU.out, HXS.out]
          exact HAP.out
      have HX4 : Hid ((xs'.set k (.slice A' zs.length c', ⟨(q : Int), marks .i64 ((q + 1 : Nat) : Int) zs.length, ((q + 1 + zs.length : Nat) : Int)⟩)).map (·.1) = xs.map (·.1)) := Lib.hid ((fst_setE HU.out _).trans HXS.out)
      have HP4 : Hid (Part lo hi w (w3.setCell ⟨g, k * 3 + 2, none⟩ (.int .i64 ((q + 1 + zs.length : Nat) : Int)))) := by
        have hp := HP.out
        have hg1 := HG1.out
        refine Lib.hid ⟨hg4.os.trans (hg3.os.trans (hg1.os.trans hp.os)), hg4.tape.trans (hg3.tape.trans (hg1.tape.trans hp.tape)), hg4.output.trans (hg3.output.trans (hg1.output.trans hp.output)), Nat.le_trans hp.size (Nat.le_trans hg1.size (Nat.le_trans hg3.size hg4.size)), fun i hi' hd => ?_⟩
        have s1 := Nat.lt_of_lt_of_le hi' hp.size
        have s2 := Nat.lt_of_lt_of_le s1 hg1.size
        have s3 := Nat.lt_of_lt_of_le s2 hg3.size
        have b4 := hg4.block i s3 (fun e => by
          have e' : i = g := Option.some.inj e
          omega)
        have b3 := hg3.block i s2 (fun e => by
          have hin : (Value.slice A' zs.length c') ∈ xs.map (·.1) := by
            rw [← HXS.out]
            exact List.mem_map.2 ⟨_, List.mem_of_getElem? HU.out, rfl⟩
          obtain ⟨y, hy, ey⟩ := List.mem_map.1 hin
          have t1 := HLU.out y hy i (by rw [ey]; exact e.symm)
          have t2 := (ownr_block HOWN.out i e.symm).1
          omega)
        have b1 := hg1.block i s1 (fun e => by
          have e' : i = g := Option.some.inj e
          omega)
        exact b4.trans (b3.trans (b1.trans (hp.block i hi' hd)))
      have hq2b : q + 1 + zs.length ≤ 8796093022208 := by omega
      clear hmk' hset
      generalize q + 1 + zs.length = q2 at *
      clear hrow3 hrow4 hg3 hg4 ho3 hcc hw1 HP HU HROW HROW1 HG1 HOWN HAP HO
      go_wp2
      go_roundw
      case rel => exact ⟨k + 1, q2 + 1, _, by omega, by go_num, by go_num, HQ2.out, HX4.out, HO4.out, HP4.out⟩
      case measure => simp [intOf]; omega
    · obtain rfl : k = n := by omega
      have HP := Lib.hid hp
      have HO := Lib.hid ho
      clear hp ho
      go_wp2
      go_ret
      exact ⟨by first | (rw [← HQ.out]; rfl) | (rw [show ((s : Int) + (totE ps k : Int)) = ((q : Nat) : Int) by rw [HQ.out]; simp]; rfl), ⟨_, HO.out⟩, HP.out⟩
set_option maxHeartbeats 1000000 in
set_option maxRecDepth 100000 in
theorem held_ent (A : Option Addr) (n c s : Nat) (ps : List Ent) (w : World) (h : EntsAt w w.heap.size A n (mixE s ps n)) (hn : n = ps.length) (hz : SmallEnt ps) (hs : s ≤ 2199023255552) :
    Calls Try.prog 25 #[.slice A n c, .int .i64 s] w fun e w' => e = .returned (.int .i64 ((s + totE ps n : Nat) : Int)) ∧ Below w.heap.size w w' := by
  have hz1 := hz.1
  have hn' := hn.symm
  have HH := Lib.hid h
  have HZ := Lib.hid hz
  clear hn h hz
  go_enter Try.func25, Try.ntmps25
  go_wp2
  go_loopw [1, 5] (fun x i wr => ∃ k q : Nat, k ≤ n ∧ i = .int .i64 k ∧ x = .int .i64 (q : Int) ∧ q = s + totE ps k ∧ Below w.heap.size w wr) (fun _ i _ => n - (intOf i).toNat)
  case atStart => exact ⟨0, s, Nat.zero_le _, rfl, rfl, by rw [totE_zero]; rfl, Below.refl _ _⟩
  case round =>
    obtain ⟨k, q, hk, rfl, rfl, hq, hbl⟩ := hrel
    have HQ := Lib.hid hq
    clear hq
    by_cases hlt : k < n
    · obtain ⟨ad, A', m, c', rfl, hab, hpa, hi, hmc, hnil⟩ := HH.out.at hlt
      have hmk := mixE_at s ps n (j := k) (by omega)
      rw [if_pos hlt] at hmk
      obtain ⟨zs, hzs⟩ : ∃ zs, (entA ps k).lights = zs := ⟨_, rfl⟩
      rw [hmk] at hi hpa
      unfold mkE at hi hpa
      simp only [hzs, ← HQ.out] at hi hpa
      have hml := hi.1
      rw [marks_length] at hml
      subst hml
      have hlen := HZ.out.2 k (by omega)
      rw [hzs] at hlen
      have htt := totE_top HZ.out (k := k) (by omega)
      have hts := totE_succ (ps := ps) (k := k) (by omega)
      rw [hzs] at hts
      have hqb : q ≤ 4398046511104 := by have := HQ.out; omega
      have HQ2 : Hid (q + 1 + zs.length + 1 = s + totE ps (k + 1)) := Lib.hid (by have := HQ.out; omega)
      clear hts htt hzs
      obtain ⟨q0, q1, q2c⟩ := hpa.below hbl (by omega)
      have hiw := hi.keep (w' := wr) (fun p hp => hbl.cell (by omega))
      have HB := Lib.hid hbl
      have habw := Nat.lt_of_lt_of_le hab hbl.size
      clear hi hbl hmk hpa
      go_wp2_with fail
      refine (held_i64 A' _ c' w.heap.size (q + 1) wr hiw (by omega) (by omega)).mono ?_
      rintro e w3 ⟨rfl, hb3⟩
      have HB3 := Lib.hid (HB.out.trans (hb3.mono HB.out.size))
      have r2 := (hb3.cell (p := ⟨(ad.add (k * 3)).block, (ad.add (k * 3)).off + 2, none⟩) habw).trans q2c
      have hq2b : q + 1 + zs.length ≤ 8796093022208 := by omega
      have r1 := (hb3.cell (p := ⟨(ad.add (k * 3)).block, (ad.add (k * 3)).off + 1, none⟩) habw).trans q1
      have r0 := (hb3.cell habw).trans q0
      have e1 : ((((q + 1 + zs.length : Nat)) : Int) != ((q + 1 + zs.length : Nat) : Int)) = false := by simp
      generalize q + 1 + zs.length = q2 at *
      clear hb3 hiw q0 q1 q2c
      go_wp2
      go_roundw
      case rel => exact ⟨k + 1, q2 + 1, by omega, by go_num, by go_num, HQ2.out, HB3.out⟩
      case measure => simp [intOf]; omega
    · obtain rfl : k = n := by omega
      have HP := Lib.hid hbl
      clear hbl
      go_wp2
      go_ret
      exact ⟨by first | (rw [← HQ.out]; rfl) | (rw [show ((s : Int) + (totE ps k : Int)) = ((q : Nat) : Int) by rw [HQ.out]; simp]; rfl), HP.out⟩
end Go.Proofs.Ytlpkafhapmkkfaa
