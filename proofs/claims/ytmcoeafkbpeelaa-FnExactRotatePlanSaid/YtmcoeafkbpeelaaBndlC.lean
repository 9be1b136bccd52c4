/- Texts of one chain, put together: Flat Stt Conf2 Tog Tog2 Stg SortC SortF Stf LawStf LawDet0 LawStt Q Bls Qrn QrnI LawQrn LawBls Stg2 Stg3 SS SSM Prt PrtM Cln Cpl Cat. -/
import Derived.Laws.Rows
import Derived.Deep.RegionHeld3
import Derived.Deep.DrawnRows
import Derived.BigQuiet
import Derived.Deep.QuietTactic
import Derived.Lib.SlicesCompact
import Derived.Test.YtmcoeafkbpeelaaProg
import Derived.Shelf.Lay
import Derived.Shelf.Sort.Plain
import Derived.Shelf.Slices.In.SortNone
import Derived.Shelf.Slices.CompactI
import Derived.Ground.NamesProg
import Derived.Ground.Names2Prog
import Derived.Sort.OwnSortedInts
import Derived.Laws.StructEq
import Derived.RangeFuncNested
import Derived.RangeFuncBound
import Derived.RangeFuncCalls
import Derived.RangeFuncLeaves
import Derived.RangeFuncBox
import Derived.RangeFuncFrom
import Derived.Shelf.Abstract
import Derived.Shelf.RegionOpen
import Derived.WalkKit
import Derived.OwnWalkIn
import Derived.TacticsInMore
import Derived.LoopNIn
import Derived.LoopIn
import Derived.Deep.Grids
import Derived.Lib.AppendZeros
import Derived.Test.YtmcoeafkbpeelaaBndlB
set_option linter.unusedSimpArgs false
/- Rows of elements of two or three cells. No program. -/
namespace Go.Proofs.Ytmcoeafkbpeelaa
open Go.RowKit

theorem stored2 {w : World} {g : Nat} {x0 x1 a b : Value} {E : TypeId} (h : w.heap[g]? = some (.cells #[x0, x1] E)) : ((w.setCell ⟨g, 0, none⟩ a).setCell ⟨g, 1, none⟩ b).heap[g]? = some (.cells #[a, b] E) :=
  heap_setCell_same _ g 1 _ E b (heap_setCell_same w g 0 _ E a h)
theorem stored3 {w : World} {g : Nat} {x0 x1 x2 a b c : Value} {E : TypeId} (h : w.heap[g]? = some (.cells #[x0, x1, x2] E)) : (((w.setCell ⟨g, 0, none⟩ a).setCell ⟨g, 1, none⟩ b).setCell ⟨g, 2, none⟩ c).heap[g]? = some (.cells #[a, b, c] E) :=
  heap_setCell_same _ g 2 _ E c (heap_setCell_same _ g 1 _ E b (heap_setCell_same w g 0 _ E a h))
theorem stored4 {w : World} {g : Nat} {x0 x1 x2 x3 a b c d : Value} {E : TypeId} (h : w.heap[g]? = some (.cells #[x0, x1, x2, x3] E)) : ((((w.setCell ⟨g, 0, none⟩ a).setCell ⟨g, 1, none⟩ b).setCell ⟨g, 2, none⟩ c).setCell ⟨g, 3, none⟩ d).heap[g]? = some (.cells #[a, b, c, d] E) :=
  heap_setCell_same _ g 3 _ E d (heap_setCell_same _ g 2 _ E c (heap_setCell_same _ g 1 _ E b (heap_setCell_same w g 0 _ E a h)))
theorem unstored2 {w : World} {g k : Nat} {a b : Value} {x : Obj} (h : w.heap[k]? = some x) (hk : k ≠ g) : ((w.setCell ⟨g, 0, none⟩ a).setCell ⟨g, 1, none⟩ b).heap[k]? = some x :=
  (heap_setCell_other _ _ k b hk).trans ((heap_setCell_other w _ k a hk).trans h)
theorem unstored3 {w : World} {g k : Nat} {a b c : Value} {x : Obj} (h : w.heap[k]? = some x) (hk : k ≠ g) : (((w.setCell ⟨g, 0, none⟩ a).setCell ⟨g, 1, none⟩ b).setCell ⟨g, 2, none⟩ c).heap[k]? = some x :=
  (heap_setCell_other _ _ k c hk).trans ((heap_setCell_other _ _ k b hk).trans ((heap_setCell_other w _ k a hk).trans h))
theorem unstored4 {w : World} {g k : Nat} {a b c d : Value} {x : Obj} (h : w.heap[k]? = some x) (hk : k ≠ g) : ((((w.setCell ⟨g, 0, none⟩ a).setCell ⟨g, 1, none⟩ b).setCell ⟨g, 2, none⟩ c).setCell ⟨g, 3, none⟩ d).heap[k]? = some x :=
  (heap_setCell_other _ _ k d hk).trans ((heap_setCell_other _ _ k c hk).trans ((heap_setCell_other _ _ k b hk).trans ((heap_setCell_other w _ k a hk).trans h)))
theorem add_plusF (q : Addr) (i : Nat) (h : 0 < i) : q.add i = ⟨q.block, q.off + i, none⟩ := by unfold Addr.add; rw [if_neg (by omega)]
theorem heap_size_allocF (w : World) (o : Obj) : (w.alloc o).heap.size = w.heap.size + 1 := by simp
theorem heap_old (w : World) (o : Obj) {g : Nat} {x : Obj} (h : w.heap[g]? = some x) : (w.alloc o).heap[g]? = some x := (Below.heap_alloc _ _ _ (lt_of_block h)).trans h
theorem heap_newF (w : World) (o : Obj) {g : Nat} (h : w.heap.size = g) : (w.alloc o).heap[g]? = some o := by subst h; exact heap_alloc_new w o
theorem one_block {w wA : World} {o0 : Obj} (h : wA = w.alloc o0) : wA.heap[w.heap.size]? = some o0 ∧ wA.heap.size = w.heap.size + 1 ∧ Below w.heap.size w wA := by
  subst h
  exact ⟨heap_alloc_new w o0, heap_size_allocF _ _, (Below.refl _ _).alloc (Nat.le_refl _) _⟩
theorem two_blocks {w wA : World} {o0 o1 : Obj} (h : wA = (w.alloc o0).alloc o1) : wA.heap[w.heap.size]? = some o0 ∧ wA.heap[w.heap.size + 1]? = some o1 ∧ wA.heap.size = w.heap.size + 2 ∧ Below w.heap.size w wA := by
  subst h
  refine ⟨heap_old _ _ (heap_alloc_new w o0), heap_newF _ _ (heap_size_allocF _ _), ?_, ((Below.refl _ _).alloc (Nat.le_refl _) _).alloc ?_ _⟩
  · rw [heap_size_allocF, heap_size_allocF]
  · rw [heap_size_allocF]; omega
theorem three_blocks {w wA : World} {o0 o1 o2 : Obj} (h : wA = ((w.alloc o0).alloc o1).alloc o2) : wA.heap[w.heap.size]? = some o0 ∧ wA.heap[w.heap.size + 1]? = some o1 ∧ wA.heap[w.heap.size + 1 + 1]? = some o2 ∧ wA.heap.size = w.heap.size + 3 ∧ Below w.heap.size w wA := by
  subst h
  refine ⟨heap_old _ _ (heap_old _ _ (heap_alloc_new w o0)), heap_old _ _ (heap_newF _ _ (heap_size_allocF _ _)), heap_newF _ _ ?_, ?_, (((Below.refl _ _).alloc (Nat.le_refl _) _).alloc ?_ _).alloc ?_ _⟩
  · rw [heap_size_allocF, heap_size_allocF]
  · rw [heap_size_allocF, heap_size_allocF, heap_size_allocF]
  · rw [heap_size_allocF]; omega
  · rw [heap_size_allocF, heap_size_allocF]; omega
theorem results_cell_tmpF {fn : Func} {p q : Tmp} {ty : TypeId} (h : fn.results = #[.cell p ty, .tmp q]) (tmps : Array Value) (P : Program) (w : World) :
    (results fn tmps).run P w = ((asAddr (tmps.getD p undef)).run P w).andThen fun a w₁ => ((loadVar ty a).run P w₁).andThen fun v w₂ => .ok (.tuple #[v, tmps.getD q undef]) w₂ := by
  simp only [results, h]
  simp [Sem.run_bind, Result.andThen]
theorem set2 {pre rest : List Value} {z0 z1 a b : Value} {m : Nat} (h : pre.length = m) : (((pre ++ z0 :: z1 :: rest).set m a).set (m + 1) b) = pre ++ a :: b :: rest := by
  rw [set_at h]
  have e1 : pre ++ a :: z1 :: rest = (pre ++ [a]) ++ z1 :: rest := by simp
  rw [e1, set_at (by simp [h])]
  simp
theorem drop2 {zs : List Value} {m : Nat} (h : m + 2 ≤ zs.length) : ∃ z0 z1, zs.drop m = z0 :: z1 :: zs.drop (m + 2) :=
  ⟨zs[m], zs[m + 1], by rw [List.drop_eq_getElem_cons (by omega), List.drop_eq_getElem_cons (by omega)]⟩
theorem set3 {pre rest : List Value} {z0 z1 z2 a b c : Value} {m : Nat} (h : pre.length = m) : (((pre ++ z0 :: z1 :: z2 :: rest).set m a).set (m + 1) b).set (m + 2) c = pre ++ a :: b :: c :: rest := by
  rw [set_at h]
  have e1 : pre ++ a :: z1 :: z2 :: rest = (pre ++ [a]) ++ z1 :: z2 :: rest := by simp
  rw [e1, set_at (by simp [h])]
  have e2 : (pre ++ [a]) ++ b :: z2 :: rest = (pre ++ [a, b]) ++ z2 :: rest := by simp
  rw [e2, set_at (by simp [h])]
  simp
theorem drop3 {zs : List Value} {m : Nat} (h : m + 3 ≤ zs.length) : ∃ z0 z1 z2, zs.drop m = z0 :: z1 :: z2 :: zs.drop (m + 3) :=
  ⟨zs[m], zs[m + 1], zs[m + 2], by rw [List.drop_eq_getElem_cons (by omega), List.drop_eq_getElem_cons (by omega), List.drop_eq_getElem_cons (by omega)]⟩
theorem set5 {pre rest : List Value} {z0 z1 z2 z3 z4 a b c d e : Value} {m : Nat} (h : pre.length = m) : (((((pre ++ z0 :: z1 :: z2 :: z3 :: z4 :: rest).set m a).set (m + 1) b).set (m + 2) c).set (m + 3) d).set (m + 4) e = pre ++ a :: b :: c :: d :: e :: rest := by
  rw [set4 h]
  have e1 : pre ++ a :: b :: c :: d :: z4 :: rest = (pre ++ [a, b, c, d]) ++ z4 :: rest := by simp
  rw [e1, set_at (by simp [h])]
  simp
theorem drop5 {zs : List Value} {m : Nat} (h : m + 5 ≤ zs.length) : ∃ z0 z1 z2 z3 z4, zs.drop m = z0 :: z1 :: z2 :: z3 :: z4 :: zs.drop (m + 5) :=
  ⟨zs[m], zs[m + 1], zs[m + 2], zs[m + 3], zs[m + 4], by rw [List.drop_eq_getElem_cons (by omega), List.drop_eq_getElem_cons (by omega), List.drop_eq_getElem_cons (by omega), List.drop_eq_getElem_cons (by omega), List.drop_eq_getElem_cons (by omega)]⟩
end Go.Proofs.Ytmcoeafkbpeelaa

/- Street as Lean data; rows of them, and the laws' helpers for these (written by gentype.py). -/
namespace Go.Proofs.Ytmcoeafkbpeelaa
open Go.RowKit
set_option linter.unusedVariables false

structure Stt where
  frm : Int
  to : Int
  secs : Int
deriving DecidableEq
def Stt.cells (p : Stt) : List Value := [.int .i64 p.frm, .int .i64 p.to, .int .i64 p.secs]
def Stt.val (p : Stt) : Value := .agg #[.int .i64 p.frm, .int .i64 p.to, .int .i64 p.secs]
def Stt.wf (p : Stt) : Prop := (Lit.int .i64 p.frm).wf = true ∧ (Lit.int .i64 p.to).wf = true ∧ (Lit.int .i64 p.secs).wf = true
def sttcells (ps : List Stt) : List Value := ps.flatMap Stt.cells
theorem sttcells_length (ps : List Stt) : (sttcells ps).length = ps.length * 3 := flat_length (f := Stt.cells) (fun _ => rfl) ps
theorem sttcells_take {ps : List Stt} {k : Nat} {p : Stt} (h : ps[k]? = some p) : sttcells (ps.take (k + 1)) = sttcells (ps.take k) ++ p.cells := by
  unfold sttcells
  rw [List.take_add_one, h, List.flatMap_append]
  simp
theorem sttcells_one (ps : List Stt) : ∀ u ∈ sttcells ps, u.oneCell' = true := by
  intro u hu
  obtain ⟨p, _, hp⟩ := List.mem_flatMap.1 hu
  simp only [Stt.cells, List.mem_cons, List.not_mem_nil, or_false] at hp
  rcases hp with rfl | rfl | rfl <;> rfl
theorem sttcells_put {ps : List Stt} {zs : List Value} {k : Nat} {p : Stt} (h : ps[k]? = some p) (hz : k * 3 + 3 ≤ zs.length) :
    (((sttcells (ps.take k) ++ zs.drop (k * 3)).set (k * 3) (.int .i64 p.frm)).set (k * 3 + 1) (.int .i64 p.to)).set (k * 3 + 2) (.int .i64 p.secs) = sttcells (ps.take (k + 1)) ++ zs.drop ((k + 1) * 3) := by
  obtain ⟨z0, z1, z2, hd⟩ := drop3 hz
  have hk := (List.getElem?_eq_some_iff.1 h).1
  rw [hd, set3 (by rw [sttcells_length, List.length_take]; omega), sttcells_take h]
  simp [Stt.cells, Nat.add_mul]
def SttsAt (w : World) (B : Nat) (A : Option Addr) (n : Nat) (ps : List Stt) : Prop := ps.length = n ∧ CellsAt w B A (n * 3) (sttcells ps)
theorem SttsAt.keep {w w' : World} {B : Nat} {A : Option Addr} {n : Nat} {ps : List Stt} (h : SttsAt w B A n ps) (hk : ∀ p : Addr, p.block < B → w'.cell? p = w.cell? p) : SttsAt w' B A n ps := ⟨h.1, h.2.keep hk⟩
theorem SttsAt.below {w w' : World} {B : Nat} {A : Option Addr} {n : Nat} {ps : List Stt} (h : SttsAt w B A n ps) (hb : Below B w w') : SttsAt w' B A n ps := ⟨h.1, h.2.below hb⟩
theorem SttsAt.up {w : World} {B B' : Nat} {A : Option Addr} {n : Nat} {ps : List Stt} (h : SttsAt w B A n ps) (hB : B ≤ B') : SttsAt w B' A n ps := ⟨h.1, h.2.up hB⟩
structure SttAt (w : World) (q : Addr) (p : Stt) : Prop where
  c0 : w.cell? q = some (.int .i64 p.frm)
  c1 : w.cell? ⟨q.block, q.off + 1, none⟩ = some (.int .i64 p.to)
  c2 : w.cell? ⟨q.block, q.off + 2, none⟩ = some (.int .i64 p.secs)
theorem SttAt.keep {w w' : World} {q : Addr} {p : Stt} (h : SttAt w q p) (e : w'.heap[q.block]? = w.heap[q.block]?) : SttAt w' q p :=
  ⟨(World.cell?_of_block e).trans h.c0, (World.cell?_of_block (a := ⟨q.block, q.off + 1, none⟩) e).trans h.c1, (World.cell?_of_block (a := ⟨q.block, q.off + 2, none⟩) e).trans h.c2⟩
theorem SttAt.below {w w' : World} {q : Addr} {p : Stt} {B : Nat} (h : SttAt w q p) (hb : Below B w w') (hB : q.block < B) : SttAt w' q p := h.keep (hb.block _ hB)
theorem stt_head {w : World} {g : Nat} {p : Stt} (h : SttAt w ⟨g, 0, none⟩ p) : w.cell? ⟨g, 0, none⟩ = some (.int .i64 p.frm) ∧ w.cell? ⟨g, 1, none⟩ = some (.int .i64 p.to) ∧ w.cell? ⟨g, 2, none⟩ = some (.int .i64 p.secs) := ⟨h.c0, h.c1, h.c2⟩
theorem stt_of_block {w : World} {g : Nat} {p : Stt} {E : TypeId} {fr : Nat × Nat} (h : w.heap[g]? = some (.cells #[.int .i64 p.frm, .int .i64 p.to, .int .i64 p.secs] E fr)) : SttAt w ⟨g, 0, none⟩ p :=
  ⟨by rw [cell_of_row w g 0 _ E fr h]; rfl, by rw [cell_of_row w g _ _ E fr h]; rfl, by rw [cell_of_row w g _ _ E fr h]; rfl⟩
theorem SttsAt.at {w : World} {B : Nat} {A : Option Addr} {n : Nat} {ps : List Stt} (h : SttsAt w B A n ps) {k : Nat} (hk : k < n) : ∃ ad p, A = some ad ∧ (ad.add (k * 3)).block < B ∧ ps[k]? = some p ∧ SttAt w (ad.add (k * 3)) p := by
  obtain ⟨hl, _, hc⟩ := h
  obtain ⟨ad, e, hb, hc⟩ := hc (by omega)
  have hp : ps[k]? = some ps[k] := List.getElem?_eq_getElem (by omega)
  have hg := fun i (hi : i < 3) => flat_get (f := Stt.cells) (fun _ => rfl) ps k i _ hp hi
  have ha := fun i (hi : 0 < i) => (add_add ad (k * 3) i).symm.trans (add_plusF _ i hi)
  refine ⟨ad, ps[k], e, by rw [add_block]; exact hb, hp, hc _ _ (hg 0 (by decide)), ?_, ?_⟩
  · rw [← ha 1 (by decide)]; exact hc _ _ (hg 1 (by decide))
  · rw [← ha 2 (by decide)]; exact hc _ _ (hg 2 (by decide))
theorem law_toStreet (p : Stt) (w : World) : Calls Try.prog 84 #[p.val] w fun e w' => e = .returned p.val ∧ Below w.heap.size w w' := by
  obtain ⟨a, b, c⟩ := p
  simp only [Stt.val]
  go_enter Try.func84, Try.ntmps84
  go_wp2
  refine bodyPost_ret (by rw [results_cell rfl]; go_simp; try rfl) rfl ?_
  exact ⟨rfl, ((((Below.refl _ _).alloc (Nat.le_refl _) _).alloc (by simp) _).alloc (by simp; omega) _)⟩
theorem info_stt : (Try.prog.info? 103).map (fun i => (i.zero, i.size, i.bytes)) = some (some (.agg #[.int .i64 0, .int .i64 0, .int .i64 0]), 3, 24) := by kernel_rfl
theorem made_stt (n : Nat) : (madeCells (Value.agg #[Value.int .i64 0, Value.int .i64 0, Value.int .i64 0]).cells (n * 3)).toList = sttcells (List.replicate n ⟨0, 0, 0⟩) := by
  have h : (Value.agg #[Value.int .i64 0, Value.int .i64 0, Value.int .i64 0]).cells = #[Value.int .i64 0, Value.int .i64 0, Value.int .i64 0] := rfl
  rw [h]
  apply List.ext_getElem?
  intro i
  simp only [madeCells, Array.toList_map, List.getElem?_map]
  by_cases hi : i < n * 3
  · have hg := flat_get (f := Stt.cells) (fun _ => rfl) (List.replicate n ⟨0, 0, 0⟩) (i / 3) (i % 3) ⟨0, 0, 0⟩ (by rw [List.getElem?_replicate, if_pos (by omega)]) (Nat.mod_lt _ (by decide))
    rw [show i / 3 * 3 + i % 3 = i by omega] at hg
    unfold sttcells
    rw [hg]
    have h4 : i % 3 = 0 ∨ i % 3 = 1 ∨ i % 3 = 2 := by omega
    rcases h4 with h4 | h4 | h4 <;> simp [hi, h4, Stt.cells]
  · rw [List.getElem?_eq_none (l := sttcells _) (by rw [sttcells_length, List.length_replicate]; omega)]
    simp [hi]
theorem law_toStreetS (A : Option Addr) (n c B : Nat) (ps : List Stt) (w : World) (h : SttsAt w B A n ps) (hB : B ≤ w.heap.size) (hn : n ≤ 4294967296) :
    Calls Try.prog 32 #[.slice A n c] w fun e w' => e = .returned (.slice (some ⟨w.heap.size, 0, none⟩) n n) ∧ w'.ownsRow w.heap.size 103 3 (.slice (some ⟨w.heap.size, 0, none⟩) n n) n (sttcells ps) ∧ Below w.heap.size w w' := by
  have hl := h.1
  go_enter Try.func32, Try.ntmps32
  go_wp2_with ((with_reducible show wpList _ _ _ _ _ _); refine wpList_mkR rfl _ _ _ rfl 103 _ 3 _ Try.underlying48 info_stt (by decide) (n : Int) (n : Int) n rfl rfl rfl rfl (by omega) ?_; intro w1 hown hgrow)
  go_loopw [4] (fun i wr => ∃ k : Nat, k ≤ n ∧ i = .int .i64 k ∧ wr.ownsRow w.heap.size 103 3 (.slice (some ⟨w.heap.size, 0, none⟩) n n) n (sttcells (ps.take k) ++ (sttcells (List.replicate n ⟨0, 0, 0⟩)).drop (k * 3)) ∧ Below w.heap.size w wr) (fun i _ => n - (intOf i).toNat)
  case atStart => exact ⟨0, Nat.zero_le _, rfl, by rw [made_stt] at hown; simpa [sttcells] using hown, below_grown hgrow⟩
  case round =>
    obtain ⟨k, hk, rfl, hown, hbl⟩ := hrel
    by_cases hlt : k < n
    · obtain ⟨ad, p, rfl, hab, hp, hq⟩ := h.at hlt
      obtain ⟨c0, c1, c2⟩ := hq.below hbl (by omega)
      go_wp2_with fail
      refine (law_toStreet p _).mono ?_
      rintro e w2 ⟨rfl, hb2⟩
      have hown2 := ownr_below hown hb2
      obtain ⟨x0, hx0⟩ := ownr_some hown2 (j := k * 3) (by omega)
      obtain ⟨x1, hx1⟩ := ownr_some hown2 (j := k * 3 + 1) (by omega)
      obtain ⟨x2, hx2⟩ := ownr_some hown2 (j := k * 3 + 2) (by omega)
      have f0 := World.ownsRow.frozenAt hown2
      have hst := (World.ownsRow.stored (World.ownsRow.stored (World.ownsRow.stored hown2 (k * 3) (.int .i64 p.frm)).1 (k * 3 + 1) (.int .i64 p.to)).1 (k * 3 + 2) (.int .i64 p.secs)).1
      rw [sttcells_put hp (by rw [sttcells_length, List.length_replicate]; omega)] at hst
      have HS := Lib.hid hst
      have HB := Lib.hid (hbl.trans (hb2.mono hbl.size))
      simp only [Stt.val]
      clear hown hown2 hbl hb2 hst hq
      go_wp2
      go_roundw
      case rel => exact ⟨k + 1, by omega, by go_num, HS.out, (((HB.out.setCell (Nat.le_refl _) _).setCell (Nat.le_refl _) _).setCell (Nat.le_refl _) _)⟩
      case measure => simp [intOf]; omega
    · obtain rfl : k = n := by omega
      rw [List.take_of_length_le (by omega), List.drop_of_length_le (by rw [sttcells_length, List.length_replicate]; exact Nat.le_refl _), List.append_nil] at hown
      go_wp2
      go_ret
      exact ⟨rfl, hown, hbl⟩
theorem law_eqStreet (p q : Stt) (w : World) : Calls Try.prog 87 #[p.val, q.val] w fun e w' => e = .returned (.bool (decide (p = q))) ∧ Below w.heap.size w w' := by
  obtain ⟨a, b, c⟩ := p
  obtain ⟨a', b', c'⟩ := q
  simp only [Stt.val, Stt.mk.injEq]
  have hb0 := ((Below.refl w.heap.size w).alloc (Nat.le_refl _) (.cells #[.int .i64 a, .int .i64 b, .int .i64 c] 103)).alloc (by simp) (.cells #[.int .i64 a', .int .i64 b', .int .i64 c'] 103)
  have HB := Lib.hid hb0
  clear hb0
  by_cases h0 : a = a'
  rotate_left
  · have e0 : (a != a') = true := by simpa using h0
    go_enter Try.func87, Try.ntmps87
    go_wp2
    go_ret
    exact ⟨by simp [h0], HB.out⟩
  subst h0
  by_cases h1 : b = b'
  rotate_left
  · have e0 : (b != b') = true := by simpa using h1
    go_enter Try.func87, Try.ntmps87
    go_wp2
    go_ret
    exact ⟨by simp [h1], HB.out⟩
  subst h1
  by_cases h2 : c = c'
  rotate_left
  · have e0 : (c != c') = true := by simpa using h2
    go_enter Try.func87, Try.ntmps87
    go_wp2
    go_ret
    exact ⟨by simp [h2], HB.out⟩
  subst h2
  go_enter Try.func87, Try.ntmps87
  go_wp2
  go_ret
  exact ⟨by simp, HB.out⟩
theorem same_stt (p : Stt) (w : World) : Calls Try.prog 87 #[p.val, p.val] w fun e w' => e = .returned (.bool true) ∧ Below w.heap.size w w' := (law_eqStreet p p w).mono fun e w' ⟨he, hb⟩ => ⟨by rw [he, decide_eq_true rfl], hb⟩
theorem law_eqStreetS (A : Option Addr) (n c B : Nat) (ps : List Stt) (A2 : Option Addr) (n2 c2 B2 : Nat) (qs : List Stt) (w : World) (h : SttsAt w B A n ps) (h2 : SttsAt w B2 A2 n2 qs) (hB : B ≤ w.heap.size) (hB2 : B2 ≤ w.heap.size) (hn : n ≤ 4294967296) (hn2 : n2 ≤ 4294967296) :
    Calls Try.prog 34 #[.slice A n c, .slice A2 n2 c2] w fun e w' => e = .returned (.bool (decide (ps = qs))) ∧ Below w.heap.size w w' := by
  have hl := h.1
  have hl2 := h2.1
  by_cases hne : n = n2
  · subst hne
    go_enter Try.func34, Try.ntmps34
    go_wp2
    go_loopw [5] (fun i wr => ∃ k : Nat, k ≤ n ∧ i = .int .i64 k ∧ ps.take k = qs.take k ∧ Below w.heap.size w wr) (fun i _ => n - (intOf i).toNat)
    case atStart => exact ⟨0, Nat.zero_le _, rfl, by simp, Below.refl _ _⟩
    case round =>
      obtain ⟨k, hk, rfl, hsame, hbl⟩ := hrel
      by_cases hlt : k < n
      · obtain ⟨ad, p, rfl, hab, hp, hq⟩ := h.at hlt
        obtain ⟨ad2, q, rfl, hab2, hp2, hq2⟩ := h2.at hlt
        replace hq := hq.below hbl (by omega)
        replace hq2 := hq2.below hbl (by omega)
        have i1 : (0 : Int) ≤ (k : Int) := by omega
        have i2 : (k : Int) < (n : Int) := by omega
        have hsz := hbl.size
        go_wp2
        go_region_held3 (fun W' => W'.cell? (ad.add (k * 3)) = some (.int .i64 p.frm) ∧ W'.cell? ⟨(ad.add (k * 3)).block, (ad.add (k * 3)).off + 1, none⟩ = some (.int .i64 p.to) ∧ W'.cell? ⟨(ad.add (k * 3)).block, (ad.add (k * 3)).off + 2, none⟩ = some (.int .i64 p.secs) ∧
            W'.cell? (ad2.add (k * 3)) = some (.int .i64 q.frm) ∧ W'.cell? ⟨(ad2.add (k * 3)).block, (ad2.add (k * 3)).off + 1, none⟩ = some (.int .i64 q.to) ∧ W'.cell? ⟨(ad2.add (k * 3)).block, (ad2.add (k * 3)).off + 2, none⟩ = some (.int .i64 q.secs))
          (first | exact ⟨hq.c0, hq.c1, hq.c2, hq2.c0, hq2.c1, hq2.c2⟩ | exact ⟨hr.c0, hr.c1, hr.c2, hr2.c0, hr2.c1, hr2.c2⟩ | fail "keep")
          (first
            | (go_at_call 87; refine (law_eqStreet p q _).mono ?_; rintro e w3 ⟨rfl, hb3⟩; have hb3' : Below wr.heap.size wr w3 := below_undrew hb3; have hr := hq.below hb3' (by omega); have hr2 := hq2.below hb3' (by omega)))
        have HB := Lib.hid (hbl.trans (hb3'.mono hsz))
        clear hq hq2 hr hr2 hb3 hb3' hbl
        by_cases hpq : p = q
        · have HT : Hid (ps.take (k + 1) = qs.take (k + 1)) := Lib.hid (by rw [List.take_add_one, List.take_add_one, hsame, hp, hp2, hpq])
          rw [decide_eq_true hpq]
          clear hsame hp hp2
          go_wp2
          go_roundw
          case rel => exact ⟨k + 1, by omega, by go_num, HT.out, HB.out⟩
          case measure => simp [intOf]; omega
        · have HN : Hid (decide (ps = qs) = false) := Lib.hid (by rw [decide_eq_false_iff_not]; rintro rfl; rw [hp] at hp2; exact hpq (Option.some.inj hp2))
          rw [decide_eq_false hpq]
          clear hsame hp hp2
          go_wp2
          go_ret
          exact ⟨by rw [HN.out]; rfl, HB.out⟩
      · obtain rfl : k = n := by omega
        have HN : Hid (decide (ps = qs) = true) := Lib.hid (by rw [decide_eq_true_eq]; rwa [List.take_of_length_le (by omega), List.take_of_length_le (by omega)] at hsame)
        go_wp2
        go_ret
        exact ⟨by rw [HN.out]; rfl, hbl⟩
  · have HN : Hid (decide (ps = qs) = false) := Lib.hid (by rw [decide_eq_false_iff_not]; rintro rfl; omega)
    go_enter Try.func34, Try.ntmps34
    go_wp2
    go_ret
    exact ⟨by rw [HN.out]; rfl, Below.refl _ _⟩
theorem sz_stt (A : Option Addr) (n c : Nat) (left : Int) (w : World) (hn : n ≤ 9223372036854775807) (hl : 0 ≤ left ∧ left ≤ 1048576) :
    Calls Try.prog 30 #[.slice A n c, .int .i64 left] w fun e w' => e = .returned (.int .i64 (if (n : Int) ≤ left then left - (n : Int) else -1)) ∧ w = w' := by
  obtain ⟨l1, l2⟩ := hl
  by_cases h : (n : Int) ≤ left
  · rw [if_pos h]
    go_enter Try.func30, Try.ntmps30
    go_wp2
    go_ret
    exact ⟨rfl, rfl⟩
  · rw [if_neg h]
    go_enter Try.func30, Try.ntmps30
    go_wp2
    go_ret
    exact ⟨rfl, rfl⟩
theorem law_markStreetS (A : Option Addr) (n c lo s : Nat) (vs : List Value) (w : World) (h : w.ownsRow lo 103 3 (.slice A n c) n vs) (hn : n ≤ 4294967296) (hs : s ≤ 70368744177664) :
    Calls Try.prog 35 #[.slice A n c, .int .i64 s] w fun e w' => e = .returned (.int .i64 ((s + n * 3 : Nat) : Int)) ∧ w.grownBy w' (Value.ownBlock (.slice A n c)) := by
  go_enter Try.func35, Try.ntmps35
  go_wp2
  go_loopw [1, 5] (fun x i wr => ∃ k : Nat, k ≤ n ∧ i = .int .i64 k ∧ x = .int .i64 ((s + k * 3 : Nat) : Int) ∧ (∃ vs', wr.ownsRow lo 103 3 (.slice A n c) n vs') ∧ w.grownBy wr (Value.ownBlock (.slice A n c))) (fun _ i _ => n - (intOf i).toNat)
  case atStart => exact ⟨0, Nat.zero_le _, rfl, by simp, ⟨vs, h⟩, World.grownBy.refl _ _⟩
  case round =>
    obtain ⟨k, hk, rfl, rfl, ⟨vs', hown⟩, hbl⟩ := hrel
    by_cases hlt : k < n
    · rcases ownr_shape hown with ⟨e, he⟩ | ⟨g, cap, e, hg, hgs, _⟩
      · omega
      injection e with e1 _ e3
      obtain rfl := e1
      obtain ⟨x0, hx0⟩ := ownr_some hown (j := k * 3) (by omega)
      obtain ⟨x1, hx1⟩ := ownr_some hown (j := k * 3 + 1) (by omega)
      obtain ⟨x2, hx2⟩ := ownr_some hown (j := k * 3 + 2) (by omega)
      have f0 := World.ownsRow.frozenAt hown
      have hst := (World.ownsRow.stored (World.ownsRow.stored (World.ownsRow.stored hown (k * 3) (.int .i64 ((s : Int) + (k : Int) * 3))).1 (k * 3 + 1) (.int .i64 ((s : Int) + (k : Int) * 3 + 1))).1 (k * 3 + 2) (.int .i64 ((s : Int) + (k : Int) * 3 + 1 + 1))).1
      have HS := Lib.hid hst
      have HG := Lib.hid hbl
      clear hown hbl hst
      go_wp2
      go_roundw
      case rel => exact ⟨k + 1, by omega, by go_num, by go_num, ⟨_, HS.out⟩, (only_setCell (only_setCell (only_setCell HG.out _ _) _ _) _ _)⟩
      case measure => simp [intOf]; omega
    · obtain rfl : k = n := by omega
      go_wp2
      go_ret
      exact ⟨rfl, hbl⟩
structure SlStt (w : World) (A : Option Addr) (n c : Nat) (ps : List Stt) : Prop where
  pths : SttsAt w w.heap.size A n ps
  bare : A = none → n = 0 ∧ c = 0
  small : n ≤ 4294967296
  cap : n ≤ c ∧ c ≤ maxLen
  wf : ∀ p ∈ ps, p.wf
theorem SlStt.len {w : World} {A : Option Addr} {n c : Nat} {ps : List Stt} (h : SlStt w A n c ps) : ps.length = n := h.pths.1
theorem SlStt.below {w w' : World} {A : Option Addr} {n c : Nat} {ps : List Stt} (h : SlStt w A n c ps) (hb : Below w.heap.size w w') : SlStt w' A n c ps :=
  ⟨(h.pths.below hb).up hb.size, h.bare, h.small, h.cap, h.wf⟩
structure OwStt (E : TypeId) (w : World) (lo hi : Nat) (v : Value) (ps : List Stt) : Prop where
  own : w.ownsRow lo E 3 v ps.length (sttcells ps)
  lt : ∀ g, v.ownBlock = some g → g < hi
  top : hi ≤ w.heap.size
theorem OwStt.new {E : TypeId} {w : World} {lo : Nat} {v : Value} {ps : List Stt} (h : w.ownsRow lo E 3 v ps.length (sttcells ps)) : OwStt E w lo w.heap.size v ps := ⟨h, fun g e => (ownr_block h g e).2, Nat.le_refl _⟩
theorem OwStt.below {E : TypeId} {w w' : World} {lo hi : Nat} {v : Value} {ps : List Stt} (h : OwStt E w lo hi v ps) (hb : Below w.heap.size w w') : OwStt E w' lo hi v ps := ⟨ownr_below h.own hb, h.lt, Nat.le_trans h.top hb.size⟩
theorem OwStt.ints {E : TypeId} {w : World} {lo hi : Nat} {A : Option Addr} {n c : Nat} {ps : List Stt} (h : OwStt E w lo hi (.slice A n c) ps) : SttsAt w w.heap.size A n ps := by
  have hn := ownr_len h.own
  subst hn
  exact ⟨rfl, ownr_cells h.own⟩
theorem OwStt.sl {E : TypeId} {w : World} {lo hi : Nat} {A : Option Addr} {n c : Nat} {ps : List Stt} (h : OwStt E w lo hi (.slice A n c) ps) (hn : n ≤ 4294967296) (hw : ∀ p ∈ ps, p.wf) : SlStt w A n c ps :=
  ⟨h.ints, ownr_nilcap h.own, hn, ownr_cap h.own, hw⟩
theorem OwStt.part {E : TypeId} {w w' : World} {lo hi l h' : Nat} {v : Value} {ps : List Stt} (h : OwStt E w lo hi v ps) (hp : Part l h' w w') (hd : hi ≤ l ∨ h' ≤ lo) : OwStt E w' lo hi v ps := by
  refine ⟨⟨h.own.1, ?_⟩, h.lt, Nat.le_trans h.top hp.size⟩
  rcases h.own.2 with h2 | ⟨g, cap, cur, rfl, hl, hg, r⟩
  · exact .inl h2
  · have hlt := h.lt g rfl
    have htop := h.top
    exact .inr ⟨g, cap, cur, rfl, hl, (hp.block g (by omega) (by omega)).trans hg, r⟩
theorem to_stt (A : Option Addr) (n c B : Nat) (ps : List Stt) (w : World) (h : SttsAt w B A n ps) (hB : B ≤ w.heap.size) (hn : n ≤ 1048576) :
    Calls Try.prog 32 #[.slice A n c] w fun e w' => e = .returned (.slice (some ⟨w.heap.size, 0, none⟩) n n) ∧ w'.ownsRow w.heap.size 103 3 (.slice (some ⟨w.heap.size, 0, none⟩) n n) ps.length (sttcells ps) ∧ Below w.heap.size w w' := by
  have hl := h.1
  refine (law_toStreetS A n c B ps w h hB (by omega)).mono fun e w' ⟨h1, h2, h3⟩ => ⟨h1, ?_, h3⟩
  rw [hl]
  exact h2
theorem eqs_stt (A : Option Addr) (n c : Nat) (ps : List Stt) (A2 : Option Addr) (n2 c2 : Nat) (w : World) (h : SttsAt w w.heap.size A n ps) (h2 : SttsAt w w.heap.size A2 n2 ps) (hn : n ≤ 1048576) (hn2 : n2 ≤ 1048576) :
    Calls Try.prog 34 #[.slice A n c, .slice A2 n2 c2] w fun e w' => e = .returned (.bool true) ∧ Below w.heap.size w w' :=
  (law_eqStreetS A n c _ ps A2 n2 c2 _ ps w h h2 (Nat.le_refl _) (Nat.le_refl _) (by omega) (by omega)).mono fun e w' ⟨he, hb⟩ => ⟨by rw [he, decide_eq_true rfl], hb⟩
theorem marked_stt (A : Option Addr) (n c lo hi s : Nat) (ps : List Stt) (w : World) (h : OwStt 103 w lo hi (.slice A n c) ps) (hn : n ≤ 1048576) (hs : s ≤ 70368744177664) :
    Calls Try.prog 35 #[.slice A n c, .int .i64 s] w fun e w' => e = .returned (.int .i64 ((s + n * 3 : Nat) : Int)) ∧ Part lo hi w w' := by
  have hl := ownr_len h.own
  refine (law_markStreetS A n c lo s (sttcells ps) w (by have h2 := h.own; rw [← hl] at h2; exact h2) (by omega) hs).mono fun e w' ⟨he, hg⟩ => ⟨he, ⟨hg.os, hg.tape, hg.output, hg.size, fun i hi' hd => hg.block i hi' fun e => ?_⟩⟩
  have h1 := h.lt i e.symm
  have h2 := (ownr_block h.own i e.symm).1
  omega
end Go.Proofs.Ytmcoeafkbpeelaa

/- Chapter 5's model: lists of paths. -/
namespace Go.Proofs.Ytmcoeafkbpeelaa
open Go.RowKit
set_option linter.unusedVariables false

end Go.Proofs.Ytmcoeafkbpeelaa

/- Chapter 5's model: conflicts among the paths of a list. -/

namespace Go.Proofs.Ytmcoeafkbpeelaa
open Go.RowKit
set_option linter.unusedVariables false

/-- the k-th path. -/
def pAt (ps : List Pth) (k : Nat) : Pth := ps.getD k ⟨0, 0, 0, 0⟩
theorem pAt_some {ps : List Pth} {k : Nat} {p : Pth} (h : ps[k]? = some p) : pAt ps k = p := by simp [pAt, List.getD, h]
/-- how many of the first k paths the i-th one conflicts with. -/
def cntTo (ps : List Pth) (i k : Nat) : Nat := ((ps.take k).filter (fun q => conf (pAt ps i) q)).length
def cntAll (ps : List Pth) : Nat → Nat
  | 0 => 0
  | i + 1 => cntAll ps i + cntTo ps i i
/-- what CountConflicts answers. -/
def countCs (ps : List Pth) : Int := if arePs ps then (cntAll ps ps.length : Int) else 0
theorem cntTo_zero (ps : List Pth) (i : Nat) : cntTo ps i 0 = 0 := by simp [cntTo]
theorem cntTo_yes {ps : List Pth} {i k : Nat} {p q : Pth} (hp : ps[i]? = some p) (hq : ps[k]? = some q) (h : conf p q = true) : cntTo ps i (k + 1) = cntTo ps i k + 1 := by
  unfold cntTo
  rw [List.take_add_one, hq, List.filter_append, pAt_some hp]
  simp [h]
theorem cntTo_no {ps : List Pth} {i k : Nat} {p q : Pth} (hp : ps[i]? = some p) (hq : ps[k]? = some q) (h : conf p q = false) : cntTo ps i (k + 1) = cntTo ps i k := by
  unfold cntTo
  rw [List.take_add_one, hq, List.filter_append, pAt_some hp]
  simp [h]
theorem cntTo_le (ps : List Pth) (i k : Nat) : cntTo ps i k ≤ k := by
  unfold cntTo
  exact Nat.le_trans (List.length_filter_le _ _) (by rw [List.length_take]; omega)
theorem cntAll_le (ps : List Pth) : ∀ i, i ≤ 12 → cntAll ps i ≤ 12 * i
  | 0, _ => Nat.le_refl _
  | i + 1, h => by
    have h1 := cntAll_le ps i (by omega)
    have h2 := cntTo_le ps i i
    show cntAll ps i + cntTo ps i i ≤ _
    omega
theorem arePs_len {ps : List Pth} (h : arePs ps = true) : ps.length ≤ 12 := by
  unfold arePs at h
  simp at h
  exact h.2
/-- the Ids of those of the first i paths that conflict with the k-th. -/
def confTo (ps : List Pth) (k i : Nat) : List Int := ((ps.take i).filter (fun q => conf q (pAt ps k))).map Pth.id
/-- what ConflictsOf answers. -/
def confsOf (ps : List Pth) (id : Int) : List Int := match findK id ps with
  | none => []
  | some k => if arePs ps then confTo ps k ps.length else []
theorem confTo_zero (ps : List Pth) (k : Nat) : confTo ps k 0 = [] := by simp [confTo]
theorem confTo_yes {ps : List Pth} {i k : Nat} {p q : Pth} (hp : ps[i]? = some p) (hq : ps[k]? = some q) (h : conf p q = true) : confTo ps k (i + 1) = confTo ps k i ++ [p.id] := by
  unfold confTo
  rw [List.take_add_one, hp, List.filter_append, pAt_some hq]
  simp [h]
theorem confTo_no {ps : List Pth} {i k : Nat} {p q : Pth} (hp : ps[i]? = some p) (hq : ps[k]? = some q) (h : conf p q = false) : confTo ps k (i + 1) = confTo ps k i := by
  unfold confTo
  rw [List.take_add_one, hp, List.filter_append, pAt_some hq]
  simp [h]
theorem confTo_len (ps : List Pth) (k i : Nat) : (confTo ps k i).length ≤ i := by
  unfold confTo
  rw [List.length_map]
  exact Nat.le_trans (List.length_filter_le _ _) (by rw [List.length_take]; omega)
end Go.Proofs.Ytmcoeafkbpeelaa

/- Chapter 5's model: IsTogether. -/
namespace Go.Proofs.Ytmcoeafkbpeelaa
open Go.RowKit
set_option linter.unusedVariables false

/-- the path with the k-th Id. -/
def idPth (ps : List Pth) (ids : List Int) (k : Nat) : Pth := pAt ps ((findK (ids.getD k 0) ps).getD 0)
/-- the i-th Id is a path's, is beyond the one before, and its path conflicts with none of those before. -/
def togAt (ps : List Pth) (ids : List Int) (i : Nat) : Bool := (findK (ids.getD i 0) ps).isSome && (i == 0 || decide (ids.getD (i - 1) 0 < ids.getD i 0)) && (List.range i).all (fun k => !conf (idPth ps ids i) (idPth ps ids k))
/-- what IsTogether answers. -/
def isTog (ps : List Pth) (ids : List Int) : Bool := (List.range ids.length).all (togAt ps ids) && arePs ps
theorem isTog_no {ps : List Pth} {ids : List Int} {i : Nat} (hi : i < ids.length) (h : togAt ps ids i = false) : isTog ps ids = false := by
  unfold isTog
  have : (List.range ids.length).all (togAt ps ids) = false := by
    rw [Bool.eq_false_iff]
    intro ha
    have := List.all_eq_true.1 ha i (List.mem_range.2 hi)
    rw [h] at this
    cases this
  rw [this]
  rfl
theorem isTog_end {ps : List Pth} {ids : List Int} (h : ∀ i, i < ids.length → togAt ps ids i = true) : isTog ps ids = arePs ps := by
  unfold isTog
  have : (List.range ids.length).all (togAt ps ids) = true := List.all_eq_true.2 fun k hk => h k (List.mem_range.1 hk)
  rw [this]
  simp
theorem togAt_none {ps : List Pth} {ids : List Int} {i : Nat} (h : findK (ids.getD i 0) ps = none) : togAt ps ids i = false := by unfold togAt; rw [h]; rfl
theorem togAt_low {ps : List Pth} {ids : List Int} {i : Nat} (h0 : i ≠ 0) (h : ¬ ids.getD (i - 1) 0 < ids.getD i 0) : togAt ps ids i = false := by
  unfold togAt
  have e1 : (i == 0) = false := by simpa using h0
  rw [e1, decide_eq_false h]
  simp
theorem togAt_conf {ps : List Pth} {ids : List Int} {i k : Nat} (hk : k < i) (h : conf (idPth ps ids i) (idPth ps ids k) = true) : togAt ps ids i = false := by
  unfold togAt
  have : (List.range i).all (fun k => !conf (idPth ps ids i) (idPth ps ids k)) = false := by
    rw [Bool.eq_false_iff]
    intro ha
    have := List.all_eq_true.1 ha k (List.mem_range.2 hk)
    rw [h] at this
    cases this
  rw [this]
  simp
theorem togAt_yes {ps : List Pth} {ids : List Int} {i m : Nat} (h : findK (ids.getD i 0) ps = some m) (h1 : i = 0 ∨ ids.getD (i - 1) 0 < ids.getD i 0) (h2 : ∀ k, k < i → conf (idPth ps ids i) (idPth ps ids k) = false) : togAt ps ids i = true := by
  unfold togAt
  have : (List.range i).all (fun k => !conf (idPth ps ids i) (idPth ps ids k)) = true := List.all_eq_true.2 fun k hk => by rw [h2 k (List.mem_range.1 hk)]; rfl
  rw [this, h]
  rcases h1 with rfl | h1
  · rfl
  · rw [decide_eq_true h1]; simp
theorem togAt_some {ps : List Pth} {ids : List Int} {i : Nat} (h : togAt ps ids i = true) : ∃ m p, findK (ids.getD i 0) ps = some m ∧ ps[m]? = some p ∧ idPth ps ids i = p := by
  unfold togAt at h
  cases e : findK (ids.getD i 0) ps with
  | none => rw [e] at h; simp at h
  | some m =>
    obtain ⟨p, hp, _, _⟩ := findK_at e
    exact ⟨m, p, rfl, hp, by unfold idPth; rw [e]; exact pAt_some hp⟩
end Go.Proofs.Ytmcoeafkbpeelaa

/- Chapter 6's model: ascending lists of numbers. -/
namespace Go.Proofs.Ytmcoeafkbpeelaa
open Go.RowKit
set_option linter.unusedVariables false

/-- 'append(v, x...)' at a step of a region that draws its order. -/
theorem step_app {P : Program} {w : World} {ops : Array Oper} {o : Oper} {a : Act} {K : Act → World → Prop} {Q : Exit → Act → World → Prop} {F : Prop} (hgd : o.guard = none) (s x : Operand) (t : TypeId)
    (ho : o.op = .call { callee := .builtin .append, args := #[s, x], argTypes := #[t, t] })
    (k : IntKind) (E : TypeId) (bytes : Nat) (ht : P.underlying t = some (.slice E)) (hi : (P.info? E).map (fun i => (i.zero, i.size, i.bytes)) = some (some (.int k 0), 1, bytes))
    (lo : Nat) (v : Value) (xs : List Int) (hs : a.eval s = v) (hown : Own k E w lo v xs)
    (A : Option Addr) (m c B : Nat) (zs : List Int) (hx : a.eval x = .slice A m c) (hsrc : IntsAt k w B A m zs) (hnil : A = none → m = 0 ∧ c = 0) (hb : bytes ≤ 8)
    (hbytes : xs.length + m ≤ 4398046511104) (hlo : lo ≤ w.heap.size)
    (h : ∀ v' w', Own k E w' lo v' (xs ++ zs) → w.grownBy w' v.ownBlock → K (a.put o.dst v') w') :
    if Region.wanted o (yielded ops a.tmps) = true then Oper.wp P o a w K Q else F := by
  rw [if_pos (by simp [Region.wanted, hgd])]
  obtain ⟨i, hi1, hz, hsz, hby⟩ := info_parts hi
  have hzs := hsrc.1
  obtain ⟨Av, cv, hv⟩ := hown.sliced
  cases A with
  | none =>
    obtain ⟨rfl, rfl⟩ := hnil rfl
    have hz0 : zs = [] := List.eq_nil_of_length_eq_zero hzs
    subst hz0
    have hrun := run_append_owned_none (P := P) (w := w) lo t o.type E i 1 ht hi1 v xs.length _ hown
    have hrun2 := (run_append_types ht ht o.type Av xs.length cv (.slice none 0 0) w).trans (hv ▸ hrun)
    unfold Oper.wp
    simp [execOp, ho, resolve, invoke, builtin, hs, hx, hv, hrun2, Result.andThen]
    exact hv ▸ h v w (by rw [List.append_nil]; exact hown) (World.grownBy.refl _ _)
  | some ad =>
    obtain ⟨v', w', hr, h2, h3, h4, h5⟩ := run_append_own_at (P := P) w lo t o.type E i (.int k 0) 1 bytes ht hi1 hz hsz hby rfl (by omega) v xs.length _ hown ad m c (zs.map (Value.int k)) (by simp [hzs]) (ints_news hsrc) (ints_one k zs)
      (by unfold maxLen; omega) (by have : (xs.length + m) * bytes ≤ (xs.length + m) * 8 := Nat.mul_le_mul_left _ hb; omega) hlo
    have hrun2 := (run_append_types ht ht o.type Av xs.length cv (.slice (some ad) m c) w).trans (hv ▸ hr)
    unfold Oper.wp execOp
    simp only [ho, resolve, invoke, builtin, Sem.run_bind, Sem.run_pure, Result.andThen_ok, List.map_toArray, List.map_cons, List.map_nil, hs, hx, hv, hrun2]
    refine h v' w' ?_ h3
    unfold Own
    rw [List.length_append, List.map_append, hzs]
    exact h2
/-- 'append(v, x)', one number, at such a step. -/
theorem step_one {P : Program} {w : World} {ops : Array Oper} {o : Oper} {a : Act} {K : Act → World → Prop} {Q : Exit → Act → World → Prop} {F : Prop} (hgd : o.guard = none) (s x : Operand) (t : TypeId)
    (ho : o.op = .call { callee := .builtin .append, args := #[s, x], argTypes := #[t, t] })
    (k : IntKind) (E : TypeId) (bytes : Nat) (ht : P.underlying t = some (.slice E)) (hi : (P.info? E).map (fun i => (i.zero, i.size, i.bytes)) = some (some (.int k 0), 1, bytes))
    (lo : Nat) (v : Value) (xs : List Int) (hs : a.eval s = v) (hown : Own k E w lo v xs) (hb : bytes ≤ 8) (hbytes : xs.length < 4398046511104)
    (z : Int) (H : Nat) (hlo : lo ≤ w.heap.size) (hx : a.eval x = .slice (some ⟨H, 0, none⟩) 1 1) (hc : w.cell? ⟨H, 0, none⟩ = some (.int k z))
    (h : ∀ v' w', Own k E w' lo v' (xs ++ [z]) → w.grownBy w' v.ownBlock → K (a.put o.dst v') w') :
    if Region.wanted o (yielded ops a.tmps) = true then Oper.wp P o a w K Q else F :=
  step_app hgd s x t ho k E bytes ht hi lo v xs hs hown (some ⟨H, 0, none⟩) 1 1 (H + 1) [z] hx ⟨rfl, fun _ => ⟨_, rfl, by simp, fun j hj => by
    obtain rfl : j = 0 := by omega
    rw [add_head]
    exact hc⟩⟩ (by simp) hb (by omega) hlo h
/-- how many numbers at the head are below n. -/
def lowN (zs : List Int) (n : Int) : Nat := (zs.takeWhile (fun z => decide (z < n))).length
/-- a number put into an ascending list. -/
def putI (zs : List Int) (n : Int) : List Int := if zs[lowN zs n]? = some n then zs else zs.take (lowN zs n) ++ n :: zs.drop (lowN zs n)
theorem lowN_at : ∀ {zs : List Int} {n : Int} {k : Nat}, k ≤ zs.length → (∀ i, i < k → zs.getD i 0 < n) → (k < zs.length → ¬ zs.getD k 0 < n) → lowN zs n = k
  | [], n, k, hk, _, _ => by
    have : k = 0 := by simpa using hk
    subst this
    rfl
  | z :: zs, n, 0, _, _, h => by
    have := h (by simp)
    simp at this
    unfold lowN
    simp [List.takeWhile, show decide (z < n) = false from decide_eq_false (by omega)]
  | z :: zs, n, k + 1, hk, h, h2 => by
    have h0 := h 0 (by omega)
    simp at h0
    have ih := lowN_at (zs := zs) (n := n) (k := k) (by simpa using hk) (fun i hi => by simpa using h (i + 1) (by omega)) (fun hk => by simpa using h2 (by simpa using hk))
    unfold lowN at ih ⊢
    simp [List.takeWhile, show decide (z < n) = true from decide_eq_true h0, ih]
/-- what has says. -/
def hasI (zs : List Int) (n : Int) : Bool := zs.contains n
theorem hasI_no {zs : List Int} {n : Int} (h : ∀ i, i < zs.length → zs.getD i 0 ≠ n) : hasI zs n = false := by
  unfold hasI
  rw [Bool.eq_false_iff]
  intro hc
  obtain ⟨i, hi, e⟩ := List.getElem_of_mem (List.contains_iff_mem.1 hc)
  exact h i hi (by rw [List.getD_eq_getElem?_getD, List.getElem?_eq_getElem hi]; exact e)
theorem hasI_yes {zs : List Int} {n : Int} {i : Nat} (hi : i < zs.length) (h : zs.getD i 0 = n) : hasI zs n = true := by
  unfold hasI
  refine List.contains_iff_mem.2 ?_
  rw [← h, List.getD_eq_getElem?_getD, List.getElem?_eq_getElem hi]
  exact List.getElem_mem hi
/-- a block of one number that an append has left alone. -/
theorem grown_cell {W w3 : World} {row : Option Nat} (hg : W.grownBy w3 row) {H : Nat} {x : Int} {T : TypeId} (h : W.heap[H]? = some (.cells #[.int .i64 x] T (0, 0))) (hne : row ≠ some H) : w3.cell? ⟨H, 0, none⟩ = some (.int .i64 x) := by
  rw [cell_of_row w3 H 0 #[.int .i64 x] T (0, 0) ((hg.block H (lt_of_block h) (fun e => hne e.symm)).trans h)]
  rfl
/-- an empty row of the call's own. -/
theorem own_hollow {k : IntKind} {E : TypeId} {W : World} {lo g : Nat} (h : W.heap[g]? = some (.cells #[] E (0, 0))) (hl : lo ≤ g) : Own k E W lo (.slice (some ⟨g, 0, none⟩) 0 0) [] :=
  ⟨rfl, .inr ⟨g, 0, #[], rfl, hl, h, Nat.le_refl _, by decide, rfl, rfl⟩⟩
/-- the head of a list of numbers. -/
theorem IntsAt.head {k : IntKind} {w : World} {B : Nat} {A : Option Addr} {n : Nat} {zs : List Int} (h : IntsAt k w B A n zs) (m : Nat) (hm : m ≤ n) : IntsAt k w B A m (zs.take m) := by
  refine ⟨by rw [List.length_take, h.1]; omega, fun h0 => ?_⟩
  obtain ⟨ad, e, hb, hc⟩ := h.2 (by omega)
  refine ⟨ad, e, hb, fun j hj => ?_⟩
  rw [hc j (by omega), List.getD_eq_getElem?_getD, List.getD_eq_getElem?_getD, List.getElem?_take, if_pos hj]
/-- its tail. -/
theorem IntsAt.tail {k : IntKind} {w : World} {B : Nat} {ad : Addr} {n : Nat} {zs : List Int} (h : IntsAt k w B (some ad) n zs) (m : Nat) (hm : m ≤ n) : IntsAt k w B (some (ad.add m)) (n - m) (zs.drop m) := by
  refine ⟨by rw [List.length_drop, h.1], fun h0 => ?_⟩
  obtain ⟨a2, e, hb, hc⟩ := h.2 (by omega)
  injection e with e
  subst e
  refine ⟨_, rfl, by rw [add_block]; exact hb, fun j hj => ?_⟩
  rw [add_add, hc (m + j) (by omega), List.getD_eq_getElem?_getD, List.getD_eq_getElem?_getD, List.getElem?_drop]
theorem IntsAt.laid {k : IntKind} {w W : World} {B : Nat} {A : Option Addr} {n : Nat} {zs : List Int} (h : IntsAt k w B A n zs) (hB : B ≤ w.heap.size) (hb : Below w.heap.size w W) : IntsAt k W B A n zs := h.keep fun _ hp => hb.cell (by omega)
theorem alloc_heap (w : World) (o : Obj) : (w.alloc o).heap = w.heap.push o := rfl
theorem drew_heap (w : World) : w.drew.heap = w.heap := rfl
theorem spec_l6Has (A : Option Addr) (n c B : Nat) (zs : List Int) (x : Int) (w : World) (h : IntsAt .i64 w B A n zs) (hn : n ≤ 4294967296) :
    Calls Try.prog 88 #[.slice A n c, .int .i64 x] w fun e w' => e = .returned (.bool (hasI zs x)) ∧ w = w' := by
  have hl := h.1
  go_enter Try.func88, Try.ntmps88
  go_wp2
  go_loop [5] (fun i => ∃ k : Nat, k ≤ n ∧ i = .int .i64 k ∧ ∀ j, j < k → zs.getD j 0 ≠ x) (fun i => n - (intOf i).toNat)
  case atStart => exact ⟨0, Nat.zero_le _, rfl, fun j hj => absurd hj (by omega)⟩
  case round =>
    obtain ⟨k, hk, rfl, hno⟩ := hrel
    by_cases hlt : k < n
    · obtain ⟨ad, rfl, hab, hcell⟩ := h.2 (by omega)
      have hc := hcell k hlt
      have HN := Lib.hid hno
      clear hno hcell
      by_cases he : zs.getD k 0 = x
      · have HR : Hid (hasI zs x = true) := Lib.hid (hasI_yes (by omega) he)
        rw [he] at hc
        clear he
        go_wp2
        go_ret
        exact ⟨by rw [HR.out]; rfl, rfl⟩
      · have HS : Hid (∀ j, j < k + 1 → zs.getD j 0 ≠ x) := Lib.hid (fun j hj => by
          by_cases e : j = k
          · subst e; exact he
          · exact HN.out j (by omega))
        generalize zs.getD k 0 = z at *
        have e1 : (z == x) = false := by simpa using he
        clear he
        go_wp2
        go_round
        case rel => exact ⟨k + 1, by omega, by go_num, HS.out⟩
        case measure => simp [intOf]; omega
    · obtain rfl : k = n := by omega
      have HR : Hid (hasI zs x = false) := Lib.hid (hasI_no (fun i hi => hno i (by omega)))
      clear hno
      go_wp2
      go_ret
      exact ⟨by rw [HR.out]; rfl, rfl⟩
set_option maxHeartbeats 1000000 in
theorem spec_l6Put (A : Option Addr) (n c B : Nat) (zs : List Int) (x : Int) (w : World) (h : IntsAt .i64 w B A n zs) (hB : B ≤ w.heap.size) (hn : n ≤ 4294967296) (hc : n ≤ c) (hnil : A = none → n = 0 ∧ c = 0) :
    Calls Try.prog 83 #[.slice A n c, .int .i64 x] w fun e w' => ∃ v, e = .returned v ∧ Own .i64 3 w' w.heap.size v (putI zs x) ∧ Below w.heap.size w w' := by
  have hl := h.1
  have own0 := own_bare .i64 3 w
  go_enter Try.func83, Try.ntmps83
  go_wp2
  go_loop [5] (fun i => ∃ k : Nat, k ≤ n ∧ i = .int .i64 k ∧ ∀ j, j < k → zs.getD j 0 < x) (fun i => n - (intOf i).toNat)
  case atStart => exact ⟨0, Nat.zero_le _, rfl, fun j hj => absurd hj (by omega)⟩
  case round =>
    obtain ⟨k, hk, rfl, hno⟩ := hrel
    by_cases hlt : k < n
    · obtain ⟨ad, rfl, hab, hcell⟩ := h.2 (by omega)
      have hck := hcell k hlt
      have HN := Lib.hid hno
      clear hno hcell
      generalize hz : zs.getD k 0 = z at *
      have HZ := Lib.hid hz
      clear hz
      by_cases he : z < x
      · have e1 : decide (z < x) = true := decide_eq_true he
        go_wp2
        go_round
        case rel => exact ⟨k + 1, by omega, by go_num, fun j hj => by
          by_cases e : j = k
          · subst e; rw [HZ.out]; exact he
          · exact HN.out j (by omega)⟩
        case measure => simp [intOf]; omega
      · have HL : Hid (lowN zs x = k) := Lib.hid (lowN_at (by omega) HN.out (fun _ => by rw [HZ.out]; exact he))
        have hg : zs[k]? = some z := by
          rw [← HZ.out, List.getD_eq_getElem?_getD, List.getElem?_eq_getElem (by omega)]; rfl
        have e1 : decide (z < x) = false := decide_eq_false he
        by_cases he2 : z = x
        · have HR : Hid (putI zs x = [] ++ zs) := Lib.hid (by unfold putI; rw [HL.out, hg, he2]; simp)
          have e2 : (z == x) = true := by simpa using he2
          clear hg he2 he
          go_wp2_with (at_builtin; refine wpList_app rfl _ _ 23 23 rfl .i64 3 3 8 Try.underlying23 Try.underlying23 info_i64 w.heap.size _ [] rfl own0 (some ad) n c B zs rfl (h.keep fun p hp => World.cell?_of_block (Below.heap_alloc w _ _ (by omega))) (by simp) (by decide) (by simp; omega) (by simp) ?_; intro v1 w1 hown1 hgrow1 hat1; have hb1 := own0.push (Nat.le_refl _) ((Below.refl _ _).alloc (Nat.le_refl _) _) (by simp) hgrow1; clear hgrow1 hat1)
          go_ret
          exact ⟨_, rfl, by rw [HR.out]; exact hown1, hb1⟩
        · have HR : Hid (putI zs x = [] ++ zs.take k ++ [x] ++ zs.drop k) := Lib.hid (by unfold putI; rw [HL.out, hg, if_neg (by simpa using he2)]; simp)
          have e2 : (z == x) = false := by simpa using he2
          clear hg he2 he
          have i1 : (0 : Int) ≤ (k : Int) := by omega
          have i2 : (k : Int) ≤ (n : Int) := by omega
          have i3 : (k : Int) ≤ (c : Int) := by omega
          go_wp2_with fail
          have nck : ¬ c = k := by omega
          have hk1 := fun W hW => (h.head k (by omega)).laid (W := W) hB hW
          have hk2 := fun W hW => (h.tail k (by omega)).laid (W := W) hB hW
          have hlt1 : (zs.take k).length = k := by rw [List.length_take]; omega
          go_region_held3 (fun _ => True) (trivial) (first
            | (refine step_app rfl _ _ 23 rfl .i64 3 8 Try.underlying23 info_i64 w.heap.size _ [] rfl (own_hollow (by (simp only [alloc_heap, drew_heap, Array.getElem?_push, Array.size_push]; (repeat first | rw [if_neg (by omega)] | rw [if_pos (by omega)]))) (by (first | omega | (simp only [alloc_heap, drew_heap, Array.size_push]; omega)))) (some ad) k c B (zs.take k) rfl (hk1 _ (by exact ⟨rfl, rfl, rfl, by (first | omega | (simp only [alloc_heap, drew_heap, Array.size_push]; omega)), fun i hi => by (simp only [alloc_heap, drew_heap, Array.getElem?_push, Array.size_push]; (repeat first | rw [if_neg (by omega)] | rw [if_pos (by omega)]))⟩)) (by simp) (by decide) (by simp only [List.length_nil]; omega) (by (first | omega | (simp only [alloc_heap, drew_heap, Array.size_push]; omega))) ?_; intro v3 w3 hown3 hgrow3; have hb3 : Below w.heap.size w w3 := Below.grown (by exact ⟨rfl, rfl, rfl, by (first | omega | (simp only [alloc_heap, drew_heap, Array.size_push]; omega)), fun i hi => by (simp only [alloc_heap, drew_heap, Array.getElem?_push, Array.size_push]; (repeat first | rw [if_neg (by omega)] | rw [if_pos (by omega)]))⟩) hgrow3 (by (first | omega | (simp only [alloc_heap, drew_heap, Array.size_push]; omega))) (fun g' e' => by cases e'; (first | omega | (simp only [alloc_heap, drew_heap, Array.size_push]; omega))))
            | (refine step_one rfl _ _ 23 rfl .i64 3 8 Try.underlying23 info_i64 w.heap.size _ ([] ++ zs.take k) rfl (by first | exact hown3 | exact hown3.alloc _) (by decide) (by simp only [List.nil_append, hlt1]; omega) x _ (by have := hb3.size; (first | omega | (simp only [alloc_heap, drew_heap, Array.size_push]; omega))) rfl (by first | (exact (cell_of_row _ _ 0 _ _ _ (heap_alloc_new w3 _)).trans rfl) | (refine grown_cell hgrow3 (by (simp only [alloc_heap, drew_heap, Array.getElem?_push, Array.size_push]; (repeat first | rw [if_neg (by omega)] | rw [if_pos (by omega)]))) (fun e => ?_); have he := Option.some.inj e; first | omega | (simp only [alloc_heap, drew_heap, Array.size_push] at he; omega))) ?_; intro v4 w4 hown4 hgrow4; have hb4 : Below w.heap.size w w4 := hown3.push (Nat.le_refl _) (by first | exact hb3 | exact hb3.alloc hb3.size _) (by have := hb3.size; (first | omega | (simp only [alloc_heap, drew_heap, Array.size_push]; omega))) hgrow4)
            | (refine step_app rfl _ _ 23 rfl .i64 3 8 Try.underlying23 info_i64 w.heap.size _ _ rfl hown4 (some (ad.add k)) _ _ B (zs.drop k) rfl (hk2 _ hb4) (by simp) (by decide) (by simp only [List.length_append, List.nil_append, hlt1, List.length_singleton]; omega) hb4.size ?_; intro v5 w5 hown5 hgrow5; have hb5 : Below w.heap.size w w5 := hown4.push (Nat.le_refl _) hb4 hb4.size hgrow5)
            | fail "arm")
          all_goals
            go_wp2
            go_ret
            exact ⟨_, rfl, by rw [HR.out]; exact hown5, hb5⟩
    · obtain rfl : k = n := by omega
      have HR : Hid (putI zs x = [] ++ zs.take k ++ [x] ++ []) := Lib.hid (by
        unfold putI
        rw [lowN_at (k := k) (by omega) (fun i hi => hno i (by omega)) (fun h => absurd h (by omega)), List.getElem?_eq_none (by omega), if_neg (by simp), List.drop_of_length_le (by omega)]
        simp)
      have hk1 := fun W hW => (h.head k (by omega)).laid (W := W) hB hW
      have hl1 : (zs.take k).length = k := by rw [List.length_take]; omega
      have hk2 : ∀ (W : World) (A' : Option Addr), IntsAt .i64 W B A' 0 [] := fun W A' => ⟨rfl, fun h => absurd h (by omega)⟩
      generalize zs.take k = l at *
      clear hno h hl hlt hk own0
      have hcs : (A = none ∧ k = 0 ∧ c = 0) ∨ (∃ ad, A = some ad ∧ c = k) ∨ (∃ ad, A = some ad ∧ ¬ c = k) := by
        cases A with
        | none => exact .inl ⟨rfl, hnil rfl⟩
        | some ad => by_cases e : c = k
                     · exact .inr (.inl ⟨ad, rfl, e⟩)
                     · exact .inr (.inr ⟨ad, rfl, e⟩)
      rcases hcs with ⟨rfl, rfl, rfl⟩ | ⟨ad, rfl, rfl⟩ | ⟨ad, rfl, nck⟩
      all_goals
        go_wp2_with fail
        go_region_held3 (fun _ => True) (trivial) (first
          | (refine step_app rfl _ _ 23 rfl .i64 3 8 Try.underlying23 info_i64 w.heap.size _ [] rfl (own_hollow (by (simp only [alloc_heap, drew_heap, Array.getElem?_push, Array.size_push]; (repeat first | rw [if_neg (by omega)] | rw [if_pos (by omega)]))) (by (first | omega | (simp only [alloc_heap, drew_heap, Array.size_push]; omega)))) _ _ _ B l rfl (hk1 _ (by exact ⟨rfl, rfl, rfl, by (first | omega | (simp only [alloc_heap, drew_heap, Array.size_push]; omega)), fun i hi => by (simp only [alloc_heap, drew_heap, Array.getElem?_push, Array.size_push]; (repeat first | rw [if_neg (by omega)] | rw [if_pos (by omega)]))⟩)) (by simp) (by decide) (by simp only [List.length_nil]; omega) (by (first | omega | (simp only [alloc_heap, drew_heap, Array.size_push]; omega))) ?_; intro v3 w3 hown3 hgrow3; have hb3 : Below w.heap.size w w3 := Below.grown (by exact ⟨rfl, rfl, rfl, by (first | omega | (simp only [alloc_heap, drew_heap, Array.size_push]; omega)), fun i hi => by (simp only [alloc_heap, drew_heap, Array.getElem?_push, Array.size_push]; (repeat first | rw [if_neg (by omega)] | rw [if_pos (by omega)]))⟩) hgrow3 (by (first | omega | (simp only [alloc_heap, drew_heap, Array.size_push]; omega))) (fun g' e' => by cases e'; (first | omega | (simp only [alloc_heap, drew_heap, Array.size_push]; omega))))
          | (refine step_one rfl _ _ 23 rfl .i64 3 8 Try.underlying23 info_i64 w.heap.size _ ([] ++ l) rfl (by first | exact hown3 | exact hown3.alloc _) (by decide) (by simp only [List.nil_append]; omega) x _ (by have := hb3.size; (first | omega | (simp only [alloc_heap, drew_heap, Array.size_push]; omega))) rfl (by first | (exact (cell_of_row _ _ 0 _ _ _ (heap_alloc_new w3 _)).trans rfl) | (refine grown_cell hgrow3 (by (simp only [alloc_heap, drew_heap, Array.getElem?_push, Array.size_push]; (repeat first | rw [if_neg (by omega)] | rw [if_pos (by omega)]))) (fun e => ?_); have he := Option.some.inj e; first | omega | (simp only [alloc_heap, drew_heap, Array.size_push] at he; omega))) ?_; intro v4 w4 hown4 hgrow4; have hb4 : Below w.heap.size w w4 := hown3.push (Nat.le_refl _) (by first | exact hb3 | exact hb3.alloc hb3.size _) (by have := hb3.size; (first | omega | (simp only [alloc_heap, drew_heap, Array.size_push]; omega))) hgrow4)
          | (refine step_app rfl _ _ 23 rfl .i64 3 8 Try.underlying23 info_i64 w.heap.size _ _ rfl hown4 _ _ _ B [] rfl (hk2 _ _) (by simp) (by decide) (by simp only [List.length_append, List.nil_append, List.length_singleton]; omega) hb4.size ?_; intro v5 w5 hown5 hgrow5; have hb5 : Below w.heap.size w w5 := hown4.push (Nat.le_refl _) hb4 hb4.size hgrow5)
          | fail "arm")
        all_goals
          go_wp2
          go_ret
          exact ⟨_, rfl, by rw [HR.out]; exact hown5, hb5⟩
end Go.Proofs.Ytmcoeafkbpeelaa

/- What slices.Sort and slices.Compact make of a list, and what putting one by one makes of it. No program. -/
namespace Go.Proofs.Ytmcoeafkbpeelaa
set_option linter.unusedVariables false

/-- two strictly ascending lists with the same members are one. -/
theorem asc_same : ∀ {a b : List Int}, a.Pairwise (· < ·) → b.Pairwise (· < ·) → (∀ x, x ∈ a ↔ x ∈ b) → a = b
  | [], [], _, _, _ => rfl
  | [], y :: b, _, _, h => by have := (h y).2 List.mem_cons_self; cases this
  | x :: a, [], _, _, h => by have := (h x).1 List.mem_cons_self; cases this
  | x :: a, y :: b, ha, hb, h => by
    rw [List.pairwise_cons] at ha hb
    have hxy : x = y := by
      rcases List.mem_cons.1 ((h x).1 List.mem_cons_self) with e | e
      · exact e
      · rcases List.mem_cons.1 ((h y).2 List.mem_cons_self) with e2 | e2
        · exact e2.symm
        · have h1 := hb.1 x e
          have h2 := ha.1 y e2
          omega
    subst hxy
    rw [asc_same ha.2 hb.2 fun z => ?_]
    constructor
    · intro hz
      rcases List.mem_cons.1 ((h z).1 (List.mem_cons_of_mem _ hz)) with e | e
      · have := ha.1 z hz; omega
      · exact e
    · intro hz
      rcases List.mem_cons.1 ((h z).2 (List.mem_cons_of_mem _ hz)) with e | e
      · have := hb.1 z hz; omega
      · exact e
theorem cmp_up (d : Array Int) (hs : ∀ j, j + 1 < d.size → d[j]! ≤ d[j + 1]!) : ∀ m, m ≤ d.size →
    (Lib.compactUpTo d m).Pairwise (· < ·) ∧ (∀ x, x ∈ Lib.compactUpTo d m ↔ ∃ j, j < m ∧ d[j]! = x) ∧ (∀ x ∈ Lib.compactUpTo d m, x ≤ d[m - 1]!)
  | 0, _ => by
    refine ⟨by simp [Lib.compactUpTo], fun x => ⟨fun h => by simp [Lib.compactUpTo] at h, fun ⟨j, hj, _⟩ => absurd hj (by omega)⟩, fun x h => by simp [Lib.compactUpTo] at h⟩
  | m + 1, hm => by
    obtain ⟨h1, h2, h3⟩ := cmp_up d hs m (by omega)
    rw [Lib.compactUpTo_succ]
    have hle : 0 < m → d[m - 1]! ≤ d[m]! := fun h0 => by
      have := hs (m - 1) (by omega)
      rwa [Nat.sub_add_cancel h0] at this
    cases hk : Lib.keeps d m
    · have hm0 : 0 < m := by
        rcases Nat.eq_zero_or_pos m with e | e
        · subst e
          rw [Lib.keeps_lt_one d 0 (by decide)] at hk
          cases hk
        · exact e
      have he : d[m]! = d[m - 1]! := by
        by_cases e : d[m]! = d[m - 1]!
        · exact e
        · rw [Lib.keeps_pos e] at hk
          cases hk
      simp only [Bool.false_eq_true, if_false, List.append_nil]
      refine ⟨h1, fun x => (h2 x).trans ⟨fun ⟨j, hj, e⟩ => ⟨j, by omega, e⟩, fun ⟨j, hj, e⟩ => ?_⟩, fun x hx => by rw [Nat.add_sub_cancel, he]; exact h3 x hx⟩
      by_cases hjm : j < m
      · exact ⟨j, hjm, e⟩
      · obtain rfl : j = m := by omega
        exact ⟨j - 1, by omega, he.symm.trans e⟩
    · simp only [if_true]
      have hlt : ∀ x ∈ Lib.compactUpTo d m, x < d[m]! := fun x hx => by
        obtain ⟨j, hj, _⟩ := (h2 x).1 hx
        have hx2 := h3 x hx
        have hl := hle (by omega)
        rcases Int.lt_or_eq_of_le (Int.le_trans hx2 hl) with e | e
        · exact e
        · exfalso
          have : d[m]! = d[m - 1]! := by omega
          rw [Lib.keeps_neg (by omega) this] at hk
          cases hk
      refine ⟨?_, fun x => ?_, fun x hx => ?_⟩
      · rw [List.pairwise_append]
        exact ⟨h1, List.pairwise_singleton _ _, fun a ha b hb => by rw [List.mem_singleton.1 hb]; exact hlt a ha⟩
      · rw [List.mem_append, h2 x, List.mem_singleton]
        constructor
        · rintro (⟨j, hj, e⟩ | e)
          · exact ⟨j, by omega, e⟩
          · exact ⟨m, by omega, e.symm⟩
        · rintro ⟨j, hj, e⟩
          by_cases hjm : j < m
          · exact .inl ⟨j, hjm, e⟩
          · obtain rfl : j = m := by omega
            exact .inr e.symm
      · rw [Nat.add_sub_cancel]
        rcases List.mem_append.1 hx with h | h
        · exact Int.le_of_lt (hlt x h)
        · rw [List.mem_singleton.1 h]
          exact Int.le_refl _
/-- sorted, then compacted: strictly ascending, with the same members. -/
theorem cmp_sort (zs : List Int) : (Lib.compact (zs.mergeSort fun x y => decide (x ≤ y))).Pairwise (· < ·) ∧ ∀ x, x ∈ Lib.compact (zs.mergeSort fun x y => decide (x ≤ y)) ↔ x ∈ zs := by
  have hp : (zs.mergeSort fun x y => decide (x ≤ y)).Pairwise (fun a b => decide (a ≤ b) = true) := List.pairwise_mergeSort (le := fun x y : Int => decide (x ≤ y)) (fun a b c h1 h2 => by simp only [decide_eq_true_eq] at *; omega) (fun a b => by simp only [Bool.or_eq_true, decide_eq_true_eq]; omega) zs
  have hm : ∀ x, x ∈ (zs.mergeSort fun x y => decide (x ≤ y)) ↔ x ∈ zs := fun x => List.mem_mergeSort
  generalize (zs.mergeSort fun x y => decide (x ≤ y)) = ys at *
  have h := cmp_up ys.toArray (fun j hj => by
    have hj' : j + 1 < ys.length := by simpa using hj
    have := List.pairwise_iff_getElem.1 hp j (j + 1) (by omega) hj' (by omega)
    simp only [decide_eq_true_eq] at this
    simpa [hj', Nat.lt_of_succ_lt hj'] using this) ys.length (by simp)
  refine ⟨h.1, fun x => ?_⟩
  unfold Lib.compact
  rw [h.2.1 x, ← hm x]
  constructor
  · rintro ⟨j, hj, e⟩
    rw [← e]
    simp [hj]
  · intro hx
    obtain ⟨j, hj, e⟩ := List.getElem_of_mem hx
    exact ⟨j, hj, by rw [← e]; simp [hj]⟩
end Go.Proofs.Ytmcoeafkbpeelaa

/- slices.Sort and slices.Compact at []int: the shelf's contracts, laid here. -/
namespace Go.Proofs.Ytmcoeafkbpeelaa
open Go.RowKit Go.Shelf Go.Sort
set_option linter.unusedVariables false

shelf_lay Lays.n189 Nm 189 at Try as laysSort
shelf_lay Lays2.n20 Nm2 20 at Try as laysCompact
/-- a row is its block. -/
theorem own_cells {w : World} {lo : Nat} {g n c : Nat} {zs : List Int} (h : Own .i64 3 w lo (.slice (some ⟨g, 0, none⟩) n c) zs) :
    n = zs.length ∧ lo ≤ g ∧ ∃ cur, w.heap[g]? = some (.cells cur 3 (0, 0)) ∧ zs.length ≤ c ∧ c ≤ maxLen ∧ cur.size = c * 1 ∧ cur.toList.take zs.length = zs.map (Value.int .i64) := by
  rcases h.2 with ⟨h', _⟩ | ⟨g', cap', cur, h', hb, hg, hnc, hcm, hcs, htake⟩
  · simp at h'
  · simp only [Value.slice.injEq, Option.some.injEq, Addr.mk.injEq, and_true] at h'
    obtain ⟨rfl, rfl, rfl⟩ := h'
    exact ⟨rfl, hb, cur, hg, hnc, hcm, hcs, by rw [Nat.mul_one] at htake; exact htake⟩
theorem lib_SortF (A : Option Addr) (n c lo : Nat) (zs : List Int) (w : World) (h : Own .i64 3 w lo (.slice A n c) zs) (hn : n ≤ 4294967296) :
    Calls Try.prog 85 #[.slice A n c] w fun e w' => e = .returned (.tuple #[]) ∧ Own .i64 3 w' lo (.slice A n c) (zs.mergeSort fun x y => decide (x ≤ y)) ∧ w.grownBy w' (Value.slice A n c).ownBlock := by
  rcases h.shape with ⟨e, rfl⟩ | ⟨g, cap, e, hlo, hlt, h1, h2⟩
  · injection e with e1 e2 e3
    subst e1; subst e2; subst e3
    refine (Any.slices_Sort_int_none laysSort none 0 w).mono ?_
    rintro e w' ⟨rfl, rfl⟩
    exact ⟨rfl, by simpa using h, World.grownBy.refl _ _⟩
  · injection e with e1 e2 e3
    subst e1; subst e3
    obtain ⟨hl, _, cur, hb, hc1, hc2, hcs, ht⟩ := own_cells h
    subst hl
    refine (Any.slices_Sort_int laysSort g 0 c zs w (holds_of_blockI hb ht) hlt (by omega)).mono ?_
    rintro e w' ⟨rfl, q, os, rfl⟩
    refine ⟨rfl, ?_, grownBy_sortedI _⟩
    have hlen : (zs.mergeSort fun x y => decide (x ≤ y)).length = zs.length := List.length_mergeSort _
    have := ownsRow_sortedI (w := w) (base := lo) (n := q) (os := os) hlen hlo hb hc1 hc2 hcs
    unfold Own
    rw [hlen]
    exact this
theorem own_short {w : World} {lo g n c : Nat} {xs ys : List Int} (h : Own .i64 3 w lo (.slice (some ⟨g, 0, none⟩) n c) (xs ++ ys)) : Own .i64 3 w lo (.slice (some ⟨g, 0, none⟩) xs.length c) xs := by
  obtain ⟨hl, hlo, cur, hb, hc1, hc2, hcs, ht⟩ := own_cells h
  have e1 : List.take xs.length (List.take (xs ++ ys).length cur.toList) = List.take xs.length cur.toList := by rw [List.take_take, List.length_append, Nat.min_eq_left (by omega)]
  have e2 : List.take xs.length ((xs ++ ys).map (Value.int .i64)) = xs.map (Value.int .i64) := by
    rw [List.map_append]
    exact List.take_left' (by simp)
  have e := e1.symm.trans ((congrArg (List.take xs.length) ht).trans e2)
  rw [List.length_append] at hc1
  exact ⟨by simp, .inr ⟨g, c, cur, rfl, hlo, hb, by omega, hc2, hcs, by rw [Nat.mul_one]; exact e⟩⟩
theorem compact_len (zs : List Int) : (Lib.compact zs).length ≤ zs.length := by
  unfold Lib.compact Lib.compactUpTo
  rw [List.length_map]
  exact Nat.le_trans (List.length_filter_le _ _) (by simp)
theorem lib_CompactF (A : Option Addr) (n c lo : Nat) (zs : List Int) (w : World) (h : Own .i64 3 w lo (.slice A n c) zs) (hn : n ≤ 4294967296) :
    Calls Try.prog 86 #[.slice A n c] w fun e w' => e = .returned (.slice A (Lib.compact zs).length c) ∧ Own .i64 3 w' lo (.slice A (Lib.compact zs).length c) (Lib.compact zs) ∧ w.grownBy w' (Value.slice A n c).ownBlock := by
  rcases h.shape with ⟨e, rfl⟩ | ⟨g, cap, e, hlo, hlt, h1, h2⟩
  · injection e with e1 e2 e3
    subst e1; subst e2; subst e3
    refine (Any.slices_Compact_int_empty laysCompact none 0 w).mono ?_
    rintro e w' ⟨rfl, rfl⟩
    exact ⟨rfl, h, World.grownBy.refl _ _⟩
  · injection e with e1 e2 e3
    subst e1; subst e3
    obtain ⟨hl, _, cur, hb, hc1, hc2, hcs, ht⟩ := own_cells h
    subst hl
    refine (Any.slices_Compact_int laysCompact g 0 c zs w (holds_of_blockI hb ht) (by omega) hc1).mono ?_
    rintro e w' ⟨rfl, q, rfl⟩
    have hcl := compact_len zs
    have hlen : (Lib.compact zs ++ List.replicate (zs.length - (Lib.compact zs).length) (0 : Int)).length = zs.length := by rw [List.length_append, List.length_replicate]; omega
    have h3 := ownsRow_sortedI (w := w) (base := lo) (n := q) (os := #[]) hlen hlo hb hc1 hc2 hcs
    rw [grow_empty] at h3
    have h4 : w.grownBy (putRow (Value.int .i64) (Sort.ahead w q) g 0 (Lib.compact zs ++ List.replicate (zs.length - (Lib.compact zs).length) (0 : Int)).toArray) (some g) := by
      have := grownBy_sortedI (w := w) (g := g) (n := q) (os := #[]) (Lib.compact zs ++ List.replicate (zs.length - (Lib.compact zs).length) (0 : Int)).toArray
      rwa [grow_empty] at this
    refine ⟨rfl, own_short (n := zs.length) (ys := List.replicate (zs.length - (Lib.compact zs).length) (0 : Int)) ?_, h4⟩
    unfold Own
    rw [hlen]
    exact h3
end Go.Proofs.Ytmcoeafkbpeelaa

/- Chapter 20: StreetsFrom: program and model. -/
namespace Go.Proofs.Ytmcoeafkbpeelaa
open Go.RowKit
set_option linter.unusedVariables false

theorem putI_nilF (n : Int) : putI [] n = [n] := by simp [putI, lowN]
theorem putI_consF (z : Int) (zs : List Int) (n : Int) : putI (z :: zs) n = if z < n then z :: putI zs n else if z = n then z :: zs else n :: z :: zs := by
  unfold putI lowN
  by_cases h : z < n
  · rw [if_pos h, List.takeWhile_cons_of_pos (by simpa using h)]
    simp only [List.length_cons, List.getElem?_cons_succ, List.take_succ_cons, List.drop_succ_cons, List.cons_append]
    split <;> rfl
  · rw [if_neg h, List.takeWhile_cons_of_neg (by simpa using h)]
    simp only [List.length_nil, List.getElem?_cons_zero, List.take_zero, List.drop_zero, List.nil_append, Option.some.injEq]
theorem put_memF (n : Int) : ∀ (zs : List Int) (x : Int), x ∈ putI zs n ↔ x ∈ zs ∨ x = n
  | [], x => by rw [putI_nilF]; simp
  | z :: zs, x => by
    rw [putI_consF]
    split
    · rw [List.mem_cons, put_memF n zs x, List.mem_cons, or_assoc]
    · split
      · rename_i h
        subst h
        simp only [List.mem_cons]
        constructor
        · exact fun h => .inl h
        · rintro (h | h)
          · exact h
          · exact .inl h
      · simp only [List.mem_cons]
        constructor
        · rintro (h | h | h)
          · exact .inr h
          · exact .inl (.inl h)
          · exact .inl (.inr h)
        · rintro ((h | h) | h)
          · exact .inr (.inl h)
          · exact .inr (.inr h)
          · exact .inl h
theorem put_ascF (n : Int) : ∀ {zs : List Int}, zs.Pairwise (· < ·) → (putI zs n).Pairwise (· < ·)
  | [], _ => by rw [putI_nilF]; simp
  | z :: zs, h => by
    obtain ⟨h1, h2⟩ := List.pairwise_cons.1 h
    rw [putI_consF]
    split
    · rename_i hlt
      refine List.pairwise_cons.2 ⟨fun y hy => ?_, put_ascF n h2⟩
      rcases (put_memF n zs y).1 hy with h3 | rfl
      · exact h1 y h3
      · exact hlt
    · split
      · exact h
      · refine List.pairwise_cons.2 ⟨fun y hy => ?_, h⟩
        rcases List.mem_cons.1 hy with rfl | h3
        · omega
        · have := h1 y h3; omega
theorem putI_lengthF (zs : List Int) (n : Int) : (putI zs n).length ≤ zs.length + 1 := by
  unfold putI
  split
  · omega
  · rw [List.length_append, List.length_cons, List.length_take, List.length_drop]
    omega
def sttF (zs : List Stt) (k : Nat) : Stt := zs.getD k ⟨0, 0, 0⟩
theorem sttF_some {zs : List Stt} {k : Nat} {x : Stt} (h : zs[k]? = some x) : sttF zs k = x := by unfold sttF; rw [List.getD_eq_getElem?_getD, h]; rfl
/-- the ends of the first k streets from a crossing, as the program gathers them. -/
def stfT (zs : List Stt) (f : Int) : Nat → List Int
  | 0 => []
  | k + 1 => if (sttF zs k).frm = f then stfT zs f k ++ [(sttF zs k).to] else stfT zs f k
/-- as the model puts them into their places. -/
def stfP (zs : List Stt) (f : Int) : Nat → List Int
  | 0 => []
  | k + 1 => if (sttF zs k).frm = f then putI (stfP zs f k) (sttF zs k).to else stfP zs f k
/-- what StreetsFrom answers. -/
def stF (zs : List Stt) (f : Int) : List Int := stfP zs f zs.length
theorem stfT_len (zs : List Stt) (f : Int) : ∀ k, (stfT zs f k).length ≤ k
  | 0 => by simp [stfT]
  | k + 1 => by
    have := stfT_len zs f k
    unfold stfT
    split
    · simp; omega
    · omega
theorem stf_mem (zs : List Stt) (f : Int) : ∀ k x, x ∈ stfP zs f k ↔ x ∈ stfT zs f k
  | 0, x => by simp [stfP, stfT]
  | k + 1, x => by
    unfold stfP stfT
    split
    · rw [put_memF, stf_mem zs f k x]; simp
    · exact stf_mem zs f k x
theorem stf_asc (zs : List Stt) (f : Int) : ∀ k, (stfP zs f k).Pairwise (· < ·)
  | 0 => by simp [stfP]
  | k + 1 => by
    unfold stfP
    split
    · exact put_ascF _ (stf_asc zs f k)
    · exact stf_asc zs f k
theorem stf_eq (zs : List Stt) (f : Int) (k : Nat) : Lib.compact ((stfT zs f k).mergeSort fun x y => decide (x ≤ y)) = stfP zs f k := by
  obtain ⟨h1, h2⟩ := cmp_sort (stfT zs f k)
  exact asc_same h1 (stf_asc zs f k) fun x => by rw [h2, stf_mem]
theorem stfP_len (zs : List Stt) (f : Int) : ∀ k, (stfP zs f k).length ≤ k
  | 0 => by simp [stfP]
  | k + 1 => by
    have := stfP_len zs f k
    unfold stfP
    split
    · have := putI_lengthF (stfP zs f k) (sttF zs k).to
      omega
    · omega
theorem stF_len (zs : List Stt) (f : Int) : (stF zs f).length ≤ zs.length := stfP_len zs f zs.length
set_option maxHeartbeats 2000000 in
theorem spec_StreetsFrom (A : Option Addr) (n c B : Nat) (zs : List Stt) (f : Int) (w : World) (h : SttsAt w B A n zs) (hB : B ≤ w.heap.size) (hn : n ≤ 1048576) :
    Calls Try.prog 31 #[.slice A n c, .int .i64 f] w fun e w' => ∃ v, e = .returned v ∧ Own .i64 3 w' w.heap.size v (stF zs f) ∧ Below w.heap.size w w' := by
  have hl := h.1
  have HV : Hid (stF zs f = stfP zs f n) := Lib.hid (by unfold stF; rw [hl])
  have HH := Lib.hid h
  clear h hl
  go_enter Try.func31, Try.ntmps31
  have own0 := own_bare .i64 3 w
  go_wp2
  go_loopw [5, 6] (fun v i wr => ∃ k : Nat, k ≤ n ∧ i = .int .i64 k ∧ Own .i64 3 wr w.heap.size v (stfP zs f k) ∧ Below w.heap.size w wr) (fun _ i _ => n - (intOf i).toNat)
  case atStart => exact ⟨0, Nat.zero_le _, rfl, own0, (Below.refl _ _).alloc (Nat.le_refl _) _⟩
  case round =>
    clear own0
    obtain ⟨k, hk, rfl, ho, hbl⟩ := hrel
    have hsz := hbl.size
    have hpl := stfP_len zs f k
    have HO := Lib.hid ho
    have HB := Lib.hid hbl
    by_cases hlt : k < n
    · obtain ⟨ad, x, rfl, hab, hx, hq⟩ := HH.out.at hlt
      obtain ⟨c0, c1, c2⟩ := hq.below hbl (by omega)
      have i1 : (0 : Int) ≤ (k : Int) := by omega
      have i2 : (k : Int) < (n : Int) := by omega
      have HS : Hid (stfP zs f (k + 1) = if x.frm = f then putI (stfP zs f k) x.to else stfP zs f k) := Lib.hid (by rw [← sttF_some hx]; rfl)
      obtain ⟨ys, hys⟩ : ∃ ys, stfP zs f k = ys := ⟨_, rfl⟩
      rw [hys] at HO HS hpl
      clear hx hq hbl hys ho
      obtain ⟨Av, cv, rfl⟩ := HO.out.sliced
      by_cases g1 : x.frm = f
      · have HN : Hid (stfP zs f (k + 1) = putI ys x.to) := Lib.hid (by rw [HS.out, if_pos g1])
        have e1 : (x.frm == f) = true := by rw [beq_iff_eq]; exact g1
        have hp := spec_l6Put Av ys.length cv wr.heap.size ys x.to wr HO.out.ints (Nat.le_refl _) (by omega) HO.out.cap.1 HO.out.nilcap'
        have HLL := Lib.hid hpl
        clear g1 HS hpl
        go_wp2_with fail
        refine hp.mono ?_
        rintro e w2 ⟨v, rfl, ho2, hb2⟩
        have HB2 := Lib.hid (HB.out.trans (hb2.mono hsz))
        have HO2 := Lib.hid (ho2.mono hsz)
        clear hb2 ho2 hp c0 c1 c2
        go_wp2
        go_roundw
        case rel => exact ⟨k + 1, by omega, by go_num, by rw [HN.out]; exact HO2.out, HB2.out⟩
        case measure => simp [intOf]; omega
      · have HN : Hid (stfP zs f (k + 1) = ys) := Lib.hid (by rw [HS.out, if_neg g1])
        have e1 : (x.frm == f) = false := by rw [beq_eq_false_iff_ne]; exact g1
        clear g1 HS
        go_wp2
        go_roundw
        case rel => exact ⟨k + 1, by omega, by go_num, by rw [HN.out]; exact HO.out, HB.out⟩
        case measure => simp [intOf]; omega
    · obtain rfl : k = n := by omega
      clear ho hbl
      go_wp2
      go_ret
      exact ⟨_, rfl, by rw [HV.out]; exact HO.out, HB.out⟩
set_option maxHeartbeats 2000000 in
theorem impl_StreetsFrom (A : Option Addr) (n c B : Nat) (zs : List Stt) (f : Int) (w : World) (h : SttsAt w B A n zs) (hB : B ≤ w.heap.size) (hn : n ≤ 1048576) :
    Calls Try.prog 33 #[.slice A n c, .int .i64 f] w fun e w' => ∃ v, e = .returned v ∧ Own .i64 3 w' w.heap.size v (stF zs f) ∧ Below w.heap.size w w' := by
  have hl := h.1
  have HV : Hid (stF zs f = stfP zs f n) := Lib.hid (by unfold stF; rw [hl])
  have HH := Lib.hid h
  clear h hl
  go_enter Try.func33, Try.ntmps33
  have own0 := own_bare .i64 3 w
  go_wp2
  go_loopw [5, 11] (fun v i wr => ∃ k : Nat, k ≤ n ∧ i = .int .i64 k ∧ Own .i64 3 wr w.heap.size v (stfT zs f k) ∧ Below w.heap.size w wr) (fun _ i _ => n - (intOf i).toNat)
  case atStart => exact ⟨0, Nat.zero_le _, rfl, own0, (Below.refl _ _).alloc (Nat.le_refl _) _⟩
  case round =>
    clear own0
    obtain ⟨k, hk, rfl, ho, hbl⟩ := hrel
    have hsz := hbl.size
    have hpl := stfT_len zs f k
    have HO := Lib.hid ho
    have HB := Lib.hid hbl
    by_cases hlt : k < n
    · obtain ⟨ad, x, rfl, hab, hx, hq⟩ := HH.out.at hlt
      obtain ⟨c0, c1, c2⟩ := hq.below hbl (by omega)
      have i1 : (0 : Int) ≤ (k : Int) := by omega
      have i2 : (k : Int) < (n : Int) := by omega
      have HS : Hid (stfT zs f (k + 1) = if x.frm = f then stfT zs f k ++ [x.to] else stfT zs f k) := Lib.hid (by rw [← sttF_some hx]; rfl)
      obtain ⟨ys, hys⟩ : ∃ ys, stfT zs f k = ys := ⟨_, rfl⟩
      rw [hys] at HO HS hpl
      clear hx hq hbl hys ho
      obtain ⟨Av, cv, rfl⟩ := HO.out.sliced
      obtain ⟨wf, hwf⟩ : ∃ wf, wf = wr.alloc (.cells #[.int .i64 x.frm, .int .i64 x.to, .int .i64 x.secs] 103) := ⟨_, rfl⟩
      have hbf : Below wr.heap.size wr wf := by rw [hwf]; exact (Below.refl _ _).alloc (Nat.le_refl _) _
      have HOF := Lib.hid (HO.out.below hbf)
      have HBF := Lib.hid (HB.out.trans (hbf.mono hsz))
      have hszf : w.heap.size ≤ wf.heap.size := Nat.le_trans hsz hbf.size
      clear hbf
      by_cases g1 : x.frm = f
      · have HN : Hid (stfT zs f (k + 1) = ys ++ [x.to]) := Lib.hid (by rw [HS.out, if_pos g1])
        have e1 : (x.frm == f) = true := by rw [beq_iff_eq]; exact g1
        have HOQ := HOF.out
        rw [hwf] at HOQ
        have hs1 : w.heap.size ≤ wr.heap.size + 1 := by omega
        clear g1 HS
        go_wp2_with (at_builtin; refine wpList_app1 rfl _ _ 23 rfl .i64 3 8 Try.underlying23 info_i64 w.heap.size _ _ rfl HOQ (by decide) (by omega) _ _ _ (wr.heap.size + 1) hs1 rfl (by simp) ?_; intro v7 w7 hown7 hgrow7 hat7)
        have HB7 : Hid (Below w.heap.size w w7) := Lib.hid (HOF.out.push (Nat.le_refl _) (HBF.out.alloc hszf (.cells #[.int .i64 x.to] 3)) (by simp; omega) (by rw [hwf]; exact hgrow7))
        have HO7 := Lib.hid hown7
        clear hown7 hgrow7 hat7 HOQ hwf
        go_roundw
        case rel => exact ⟨k + 1, by omega, by go_num, by rw [HN.out]; exact HO7.out, HB7.out⟩
        case measure => simp [intOf]; omega
      · have HN : Hid (stfT zs f (k + 1) = ys) := Lib.hid (by rw [HS.out, if_neg g1])
        have e1 : (x.frm == f) = false := by rw [beq_eq_false_iff_ne]; exact g1
        clear g1 HS
        go_wp2
        go_roundw
        case rel => exact ⟨k + 1, by omega, by go_num, by rw [HN.out, ← hwf]; exact HOF.out, by rw [← hwf]; exact HBF.out⟩
        case measure => simp [intOf]; omega
    · obtain rfl : k = n := by omega
      clear ho hbl
      obtain ⟨ys, hys⟩ : ∃ ys, stfT zs f k = ys := ⟨_, rfl⟩
      have HEQ := Lib.hid (stf_eq zs f k)
      rw [hys] at HO HEQ hpl
      clear hys
      obtain ⟨Av, cv, rfl⟩ := HO.out.sliced
      have hcc := lib_SortF Av _ cv w.heap.size ys wr HO.out (by omega)
      go_wp2_with fail
      refine hcc.mono ?_
      rintro e w1 ⟨rfl, ho1, hg1⟩
      have hls : (ys.mergeSort fun x y => decide (x ≤ y)).length = ys.length := List.length_mergeSort _
      generalize (ys.mergeSort fun x y => decide (x ≤ y)) = qs at *
      have hcc2 := lib_CompactF Av _ cv w.heap.size qs w1 ho1 (by omega)
      have HB1 : Hid (Below w.heap.size w w1) := Lib.hid (HO.out.push (Nat.le_refl _) HB.out hsz hg1)
      have HB1S := Lib.hid HB1.out.size
      have HNE := Lib.hid (HO.out.block)
      clear hcc
      have HO1 := Lib.hid ho1
      clear ho1
      go_wp2_with fail
      refine hcc2.mono ?_
      rintro e w2 ⟨rfl, ho2, hg2⟩
      have hb2 : Below w.heap.size w w2 := HO1.out.push (Nat.le_refl _) HB1.out HB1S.out hg2
      clear hcc2 hg2 hg1
      go_wp2
      go_ret
      exact ⟨_, rfl, by rw [HV.out, ← HEQ.out]; exact ho2, hb2⟩
end Go.Proofs.Ytmcoeafkbpeelaa

/- StreetsFrom as exact laws meet it. -/
namespace Go.Proofs.Ytmcoeafkbpeelaa
open Go.RowKit
set_option linter.unusedVariables false

theorem sp_StreetsFrom (A0 : Option Addr) (n0 c0 : Nat) (zs0 : List Stt) (a1 : Int) (w : World) (h0 : SlStt w A0 n0 c0 zs0) (hs0 : n0 ≤ 1048576) (wa1 : (Lit.int .i64 a1).wf = true) (r : List Int) (hr : stF zs0 a1 = r) :
    Calls Try.prog 31 #[.slice A0 n0 c0, .int .i64 a1] w fun e w' => ∃ v, e = .returned v ∧ Own .i64 3 w' w.heap.size v r ∧ Below w.heap.size w w' ∧ r.length ≤ 1048576 := by
  subst hr
  have hl := h0.len
  have := stF_len zs0 a1
  exact (spec_StreetsFrom A0 n0 c0 _ zs0 a1 w h0.pths (Nat.le_refl _) hs0).mono fun e w' ⟨v, h1, h2, h3⟩ => ⟨v, h1, h2, h3, by omega⟩
theorem im_StreetsFrom (A0 : Option Addr) (n0 c0 : Nat) (zs0 : List Stt) (a1 : Int) (w : World) (h0 : SlStt w A0 n0 c0 zs0) (hs0 : n0 ≤ 1048576) (wa1 : (Lit.int .i64 a1).wf = true) (r : List Int) (hr : stF zs0 a1 = r) :
    Calls Try.prog 33 #[.slice A0 n0 c0, .int .i64 a1] w fun e w' => ∃ v, e = .returned v ∧ Own .i64 3 w' w.heap.size v r ∧ Below w.heap.size w w' ∧ r.length ≤ 1048576 := by
  subst hr
  have hl := h0.len
  have := stF_len zs0 a1
  exact (impl_StreetsFrom A0 n0 c0 _ zs0 a1 w h0.pths (Nat.le_refl _) hs0).mono fun e w' ⟨v, h1, h2, h3⟩ => ⟨v, h1, h2, h3, by omega⟩
end Go.Proofs.Ytmcoeafkbpeelaa

/- A cell of a law's argument that is a bool. -/
namespace Go.Proofs.Ytmcoeafkbpeelaa
open Go.ChangeShapes Go.WideShapes Go.ChangeAt Go.RowKit Go.Joins
open Go.Deep (oneCellFields open_slice hone_of)

theorem cell_boolF {H : Type} {enc : TypeId × Value → H} {P : Program} {W : World} {b0 : Nat} {sp : Nat → Bool} {hd : Bool} {n : Nat} {t : TypeId} {v : Value} {y : DataW H × List MemPlace} (ht : P.underlying t = some .bool) (h : DataW.trod enc P W b0 sp hd n t [v] = some y) : ∃ a : Bool, v = .bool a ∧ y.2 = [] := by
  obtain ⟨a, h1, h2⟩ := DataW.trod_bool ht h
  simp at h1
  exact ⟨a, h1, by rw [h2]⟩
end Go.Proofs.Ytmcoeafkbpeelaa

/- A law's arguments that are Street or rows of them (written by gentype.py). -/
namespace Go.Proofs.Ytmcoeafkbpeelaa
open Go.ChangeShapes Go.WideShapes Go.ChangeAt Go.RowKit Go.Joins
open Go.Deep (oneCellFields open_slice hone_of)
set_option linter.unusedVariables false

section
variable {H : Type} {enc : TypeId × Value → H} {P : Program}
theorem arg_stt {t : TypeId} {f0 f1 f2 : Field} {W : World} {base : Nat} {v : Value} {d : DataW H} {ps : List MemPlace} (hs : P.underlying t = some (.struct #[f0, f1, f2])) (hone : oneCellFields P #[f0, f1, f2] = true) (hC : P.cellsOf t = 3)
    (h0 : P.underlying f0.type = some (.int .i64)) (h1 : P.underlying f1.type = some (.int .i64)) (h2 : P.underlying f2.type = some (.int .i64))
    (hval : Value.okWide P W .any base t v) (hd : DataW.Trod enc P W 0 (fun _ => true) true t v d ps) : ∃ p : Stt, v = p.val ∧ p.wf := by
  obtain ⟨v0, v1, v2, y0, y1, y2, n, rfl, -, -, t0, t1, t2⟩ := open_agg3 hs hone hC hval hd
  obtain ⟨a, rfl, w0, -⟩ := cell_int h0 t0
  obtain ⟨b, rfl, w1, -⟩ := cell_int h1 t1
  obtain ⟨c, rfl, w2, -⟩ := cell_int h2 t2
  exact ⟨⟨a, b, c⟩, rfl, w0, w1, w2⟩
theorem arg_stts {t e : TypeId} {f0 f1 f2 : Field} {W : World} {base : Nat} {v : Value} {d : DataW H} {ps : List MemPlace} (ht : P.underlying t = some (.slice e)) (he : P.underlying e = some (.struct #[f0, f1, f2])) (hone : oneCellFields P #[f0, f1, f2] = true) (hC : P.cellsOf e = 3)
    (h0 : P.underlying f0.type = some (.int .i64)) (h1 : P.underlying f1.type = some (.int .i64)) (h2 : P.underlying f2.type = some (.int .i64))
    (hval : Value.okWide P W .any base t v) (hd : DataW.Trod enc P W 0 (fun _ => true) true t v d ps) (hlt : ∀ x ∈ ps, x.block < W.heap.size) :
    ∃ (A : Option Addr) (n c : Nat) (zs : List Stt), v = .slice A n c ∧ (SttsAt W W.heap.size A n zs ∧ (∀ z ∈ zs, z.wf) ∧ n ≤ c ∧ c ≤ maxLen) := by
  obtain ⟨a, len, cap, rfl⟩ := okWide_slice ht hval
  obtain ⟨fuel, hf⟩ := hd
  rcases open_slice_fields ht he hone (by rw [hC]; rfl) hf with ⟨h1, _⟩ | ⟨a', len', cap', m, D, Pl, hcs, _, hl, hm, hmm, hx, hi⟩
  · have h1' : [Value.slice a len cap] = [Value.slice none 0 0] := h1
    simp only [List.cons.injEq, and_true] at h1'
    exact ⟨none, 0, 0, [], h1', ⟨rfl, rfl, fun h => absurd h (by omega)⟩, by simp, Nat.le_refl _, Nat.zero_le _⟩
  · have h1' : [Value.slice a len cap] = [Value.slice (some a') len' cap'] := hcs
    simp only [List.cons.injEq, and_true] at h1'
    rw [if_pos rfl] at hmm
    subst hmm
    obtain ⟨zs, hzl, hz⟩ := choose_upto (n := len') (R := fun i (p : Stt) => p.wf ∧ ∀ (j : Nat) u, p.cells[j]? = some u → W.cell? (a'.add (i * 3 + j)) = some u) (fun i hil => by
      obtain ⟨ys, n, _, _, _, hj⟩ := hi i (by omega)
      obtain ⟨v0, y0, c0, _, t0⟩ := hj 0 f0 rfl
      obtain ⟨v1, y1, c1, _, t1⟩ := hj 1 f1 rfl
      obtain ⟨v2, y2, c2, _, t2⟩ := hj 2 f2 rfl
      obtain ⟨x0, rfl, w0, -⟩ := cell_int h0 t0
      obtain ⟨x1, rfl, w1, -⟩ := cell_int h1 t1
      obtain ⟨x2, rfl, w2, -⟩ := cell_int h2 t2
      refine ⟨⟨x0, x1, x2⟩, ⟨w0, w1, w2⟩, fun j u hu => ?_⟩
      match j, hu with
      | 0, hu => simp [Stt.cells] at hu; subst hu; exact c0
      | 1, hu => simp [Stt.cells] at hu; subst hu; exact c1
      | 2, hu => simp [Stt.cells] at hu; subst hu; exact c2
      | j + 3, hu => simp [Stt.cells] at hu)
    refine ⟨some a', len', m, zs, h1', ⟨hzl, by rw [sttcells_length, hzl], fun hn => ⟨a', rfl, ?_, fun j u hu => ?_⟩⟩, fun z hzm => ?_, hl, hm⟩
    · have hmem : MemPlace.cell a'.block (a'.off + 0) ∈ ps := by
        have e := congrArg Prod.snd hx
        simp only at e
        rw [e]
        exact List.mem_append_left _ (List.mem_map.2 ⟨0, List.mem_range.2 (by simp; omega), rfl⟩)
      exact hlt _ hmem
    · have hlen : j < zs.length * 3 := by
        have := (List.getElem?_eq_some_iff.1 hu).1
        rwa [sttcells_length] at this
      have hd4 : j / 3 < zs.length := by omega
      have hp : zs[j / 3]? = some zs[j / 3] := List.getElem?_eq_getElem hd4
      have hg := flat_get (s := 3) (f := Stt.cells) (fun _ => rfl) zs (j / 3) (j % 3) _ hp (by omega)
      have ej : j / 3 * 3 + j % 3 = j := by clear hi hz hx; omega
      rw [ej] at hg
      have := (hz _ _ hp).2 (j % 3) u (hg.symm.trans hu)
      rwa [ej] at this
    · obtain ⟨i, hil, rfl⟩ := List.getElem_of_mem hzm
      exact (hz i _ (List.getElem?_eq_getElem hil)).1
end
end Go.Proofs.Ytmcoeafkbpeelaa

/- Chapter 12: a second of a queue, the sum of a queue, and its end: program and model. -/
namespace Go.Proofs.Ytmcoeafkbpeelaa
open Go.RowKit
set_option linter.unusedVariables false

/-- next to n between 0 and hi. -/
def clampN (n hi : Int) : Int := maxI 0 (minI hi n)
theorem minI_comm (a b : Int) : minI a b = minI b a := by unfold minI; split <;> split <;> omega
theorem clampN_bound (n hi : Int) (h : 0 ≤ hi) : 0 ≤ clampN n hi ∧ clampN n hi ≤ hi := by
  unfold clampN minI maxI
  split <;> split <;> omega
/-- what QueueStep answers. -/
def qstep (a b : Int) (o : Bool) : Int := if inB a 0 10000 && inB b 0 10000 then clampN (a + b - (if o then 1 else 0)) 10000 else 0
theorem qstep_in {a b : Int} {o : Bool} (ha : inB a 0 10000 = true) (hb : inB b 0 10000 = true) : qstep a b o = clampN (a + b - (if o then 1 else 0)) 10000 := by unfold qstep; rw [ha, hb]; rfl
theorem qstep_out {a b : Int} {o : Bool} (h : (inB a 0 10000 && inB b 0 10000) = false) : qstep a b o = 0 := by unfold qstep; rw [h]; rfl
theorem qstep_bound (a b : Int) (o : Bool) : 0 ≤ qstep a b o ∧ qstep a b o ≤ 10000 := by
  unfold qstep
  split
  · exact clampN_bound _ _ (by decide)
  · omega
/-- the sum of the first k, each between 0 and hi. -/
def sumC (hi : Int) (zs : List Int) : Nat → Int
  | 0 => 0
  | k + 1 => sumC hi zs k + clampN (zs.getD k 0) hi
theorem sumC_bound (hi : Int) (h : 0 ≤ hi) (zs : List Int) : ∀ k : Nat, 0 ≤ sumC hi zs k ∧ sumC hi zs k ≤ k * hi
  | 0 => by simp [sumC]
  | k + 1 => by
    obtain ⟨h1, h2⟩ := sumC_bound hi h zs k
    obtain ⟨h3, h4⟩ := clampN_bound (zs.getD k 0) hi h
    have e : (((k + 1 : Nat) : Int)) * hi = k * hi + hi := by rw [Int.natCast_add, Int.add_mul]; simp
    show 0 ≤ sumC hi zs k + _ ∧ sumC hi zs k + _ ≤ _
    omega
/-- what TotalWait answers. -/
def totW (zs : List Int) : Int := sumC 10000 zs zs.length
/-- what IsServed answers. -/
def isSrv (zs : List Int) : Bool := decide (zs.length = 0) || decide (zs.getD (zs.length - 1) 0 = 0)
theorem spec_QueueStep (a b : Int) (o : Bool) (w : World) : Calls Try.prog 98 #[.int .i64 a, .int .i64 b, .bool o] w fun e w' => e = .returned (.int .i64 (qstep a b o)) ∧ w = w' := by
  cases h1 : inB a 0 10000
  · have HR : Hid (qstep a b o = 0) := Lib.hid (qstep_out (by rw [h1]; rfl))
    have H1 := Lib.hid h1
    clear h1
    go_enter Try.func98, Try.ntmps98
    go_wp2_with (go_at_call 74; refine (spec_l1In _ _ _ _).mono ?_; rintro e w' ⟨rfl, rfl⟩; rw [H1.out])
    go_ret
    exact ⟨by rw [HR.out]; rfl, rfl⟩
  · cases h2 : inB b 0 10000
    · have HR : Hid (qstep a b o = 0) := Lib.hid (qstep_out (by rw [h1, h2]; rfl))
      have H1 := Lib.hid h1
      have H2 := Lib.hid h2
      clear h1 h2
      go_enter Try.func98, Try.ntmps98
      go_wp2_with fail
      refine (spec_l1In _ _ _ _).mono ?_
      rintro e w' ⟨rfl, rfl⟩
      rw [H1.out]
      go_wp2_with fail
      refine (spec_l1In _ _ _ _).mono ?_
      rintro e w' ⟨rfl, rfl⟩
      rw [H2.out]
      go_wp2
      go_ret
      exact ⟨by rw [HR.out]; rfl, rfl⟩
    · obtain ⟨ha1, ha2⟩ := inB_t h1
      obtain ⟨hb1, hb2⟩ := inB_t h2
      have HR : Hid (qstep a b o = clampN (a + b - (if o then 1 else 0)) 10000) := Lib.hid (qstep_in h1 h2)
      have H1 := Lib.hid h1
      have H2 := Lib.hid h2
      clear h1 h2
      cases o
      all_goals
        go_enter Try.func98, Try.ntmps98
        go_wp2_with fail
        refine (spec_l1In _ _ _ _).mono ?_
        rintro e w' ⟨rfl, rfl⟩
        rw [H1.out]
        go_wp2_with fail
        refine (spec_l1In _ _ _ _).mono ?_
        rintro e w' ⟨rfl, rfl⟩
        rw [H2.out]
        go_wp2_with (first | (go_at_call 133; refine (spec_Min _ _ _).mono ?_; rintro e w' ⟨rfl, rfl⟩) | (go_at_call 132; refine (spec_Max _ _ _).mono ?_; rintro e w' ⟨rfl, rfl⟩))
        go_ret
        refine ⟨ret_i ?_, rfl⟩
        rw [HR.out]
        unfold clampN
        try rw [IntWalk.wrap64_in _ (by omega)]
        simp
theorem impl_limit (n lo hi : Int) (w : World) : Calls Try.prog 157 #[.int .i64 n, .int .i64 lo, .int .i64 hi] w fun e w' => e = .returned (.int .i64 (maxI lo (minI n hi))) ∧ Below w.heap.size w w' := by
  go_enter Try.func157, Try.ntmps157
  go_wp2_with fail
  refine (impl_Min _ _ _).mono ?_
  rintro e w1 ⟨rfl, hb1⟩
  go_wp2_with fail
  refine (impl_Max _ _ _).mono ?_
  rintro e w2 ⟨rfl, hb2⟩
  go_wp2
  go_ret
  exact ⟨rfl, hb1.trans (hb2.mono hb1.size)⟩
theorem limit_clamp (n hi : Int) : maxI 0 (minI n hi) = clampN n hi := by unfold clampN; rw [minI_comm]
theorem impl_isQueue (n : Int) (w : World) : Calls Try.prog 134 #[.int .i64 n] w fun e w' => e = .returned (.bool (inB n 0 10000)) ∧ w = w' := by
  go_enter Try.func134, Try.ntmps134
  go_wp2_with fail
  refine (impl_InRange _ _ _ _).mono ?_
  rintro e w1 ⟨rfl, rfl⟩
  go_wp2
  go_ret
  exact ⟨rfl, rfl⟩
/-- a second of a queue. -/
def stepQ (t a : Int) (o : Bool) : Int := clampN (t + a - (if o then 1 else 0)) 10000
theorem stepQ_still {t : Int} (h : 0 ≤ t ∧ t ≤ 10000) : stepQ t 0 false = t := by
  unfold stepQ clampN minI maxI
  simp only [Bool.false_eq_true, if_false]
  split <;> split <;> omega
theorem stepQ_bound (t a : Int) (o : Bool) : 0 ≤ stepQ t a o ∧ stepQ t a o ≤ 10000 := clampN_bound _ _ (by decide)
theorem eq_moment (a : Int) (o : Bool) (w : World) : (binOp .eql 160 (.agg #[.int .i64 a, .bool o]) (.agg #[.int .i64 0, .bool false])).run Try.prog w = .ok (.bool (decide (a = 0) && !o)) w := by
  have hS : Try.prog.underlying 160 = some (.struct (Try.prog.fieldsOf 160)) := by kernel_rfl
  have hp : Try.prog.stoodInHeld 160 = false := by kernel_rfl
  have u3 := Try.underlying3
  have u4 := Try.underlying4
  have z3 : Try.prog.cellsOf 3 = 1 := by kernel_rfl
  have z4 : Try.prog.cellsOf 4 = 1 := by kernel_rfl
  rw [run_eql_struct, show (10000 : Nat) = 9999 + 1 from rfl, run_equalIn_agg w 9999 160 _ _ hS hp]
  simp only [Program.fieldsOf, Try.underlying160]
  go_simp
  by_cases h1 : a = 0 <;> cases o <;> simp [h1]
theorem impl_after (a t : Int) (o : Bool) (w : World) (ha : inB a 0 10000 = true) (ht : 0 ≤ t ∧ t ≤ 10000) : Calls Try.prog 136 #[.agg #[.int .i64 a, .bool o], .int .i64 t] w fun e w' => e = .returned (.int .i64 (stepQ t a o)) ∧ Below w.heap.size w w' := by
  obtain ⟨ha1, ha2⟩ := inB_t ha
  clear ha
  have HEQ := Lib.hid (eq_moment a o)
  have HST := Lib.hid (stepQ_still ht)
  obtain ⟨ht1, ht2⟩ := ht
  have hb0 := (Below.refl w.heap.size w).alloc (Nat.le_refl _) (.cells #[.int .i64 a, .bool o] 160)
  have HB0 := Lib.hid hb0
  clear hb0
  by_cases hz : a = 0 ∧ o = false
  · obtain ⟨rfl, rfl⟩ := hz
    have hq := HEQ.out
    rw [show (decide ((0 : Int) = 0) && !false) = true from rfl] at hq
    go_enter Try.func136, Try.ntmps136
    go_wp2
    go_ret
    exact ⟨by rw [HST.out]; try rfl, HB0.out⟩
  · have hq := HEQ.out
    have hn : (decide (a = 0) && !o) = false := by
      by_cases h1 : a = 0
      · cases o
        · exact absurd ⟨h1, rfl⟩ hz
        · simp
      · simp [h1]
    rw [hn] at hq
    clear hn hz HEQ HST
    have HSQ : Hid (stepQ t a o = maxI 0 (minI (t + a - (if o then 1 else 0)) 10000)) := Lib.hid (limit_clamp _ _).symm
    cases o
    · go_enter Try.func136, Try.ntmps136
      go_wp2_with fail
      refine (impl_limit _ _ _ _).mono ?_
      rintro e w2 ⟨rfl, hb2⟩
      go_wp2
      go_ret
      exact ⟨by rw [HSQ.out]; simp; try rfl, HB0.out.trans (hb2.mono HB0.out.size)⟩
    · go_enter Try.func136, Try.ntmps136
      go_wp2_with fail
      refine (impl_limit _ _ _ _).mono ?_
      rintro e w2 ⟨rfl, hb2⟩
      go_wp2
      go_ret
      exact ⟨by rw [HSQ.out]; rfl, HB0.out.trans (hb2.mono HB0.out.size)⟩
end Go.Proofs.Ytmcoeafkbpeelaa

/- Rows of bools; the laws' helpers for these. -/
namespace Go.Proofs.Ytmcoeafkbpeelaa
open Go.RowKit
set_option linter.unusedVariables false

def bAt (bs : List Bool) (j : Nat) : Bool := bs.getD j false
theorem bAt_get {bs : List Bool} {j : Nat} (h : j < bs.length) : bs[j]? = some (bAt bs j) := by
  rw [List.getElem?_eq_getElem h]
  simp [bAt, List.getD, List.getElem?_eq_getElem h]
/-- A slice value that holds these bools, in a block below B. -/
def BlsAt (w : World) (B : Nat) (A : Option Addr) (n : Nat) (bs : List Bool) : Prop :=
  bs.length = n ∧ (0 < n → ∃ ad, A = some ad ∧ ad.block < B ∧ ∀ j, j < n → w.cell? (ad.add j) = some (.bool (bAt bs j)))
theorem BlsAt.keep {w w' : World} {B : Nat} {A : Option Addr} {n : Nat} {bs : List Bool} (h : BlsAt w B A n bs) (hb : Below B w w') : BlsAt w' B A n bs :=
  ⟨h.1, fun h0 => by
    obtain ⟨ad, e, hB, hc⟩ := h.2 h0
    exact ⟨ad, e, hB, fun j hj => (hb.cell (by rw [add_block]; exact hB)).trans (hc j hj)⟩⟩
theorem BlsAt.up {w : World} {B B' : Nat} {A : Option Addr} {n : Nat} {bs : List Bool} (h : BlsAt w B A n bs) (hB : B ≤ B') : BlsAt w B' A n bs :=
  ⟨h.1, fun h0 => by
    obtain ⟨ad, e, hb, hc⟩ := h.2 h0
    exact ⟨ad, e, by omega, hc⟩⟩
theorem set_prefixB {zs ys : List Bool} {j : Nat} {x : Bool} (h : j < zs.length) (hx : ys[j]? = some x) : (ys.take j ++ zs.drop j).set j x = ys.take (j + 1) ++ zs.drop (j + 1) := by
  have hj := (List.getElem?_eq_some_iff.1 hx).1
  have hl : (ys.take j).length = j := by rw [List.length_take]; omega
  rw [List.set_append_right _ _ (by omega), hl, Nat.sub_self, List.drop_eq_getElem_cons h, List.set_cons_zero, List.take_add_one, hx]
  simp
theorem made_bls (n : Nat) : (madeCells (Value.bool false).cells (n * 1)).toList = (List.replicate n false).map Value.bool := by
  simp only [madeCells, Value.cells]
  apply List.ext_getElem?
  intro i
  simp only [Array.toList_map, List.getElem?_map, Nat.mul_one]
  by_cases h : i < n
  · simp [h, Nat.mod_one]
  · simp [h]
/-- a row of bools of the call's own. -/
def OwnB (E : TypeId) (w : World) (lo : Nat) (v : Value) (bs : List Bool) : Prop := w.ownsRow lo E 1 v bs.length (bs.map Value.bool)
theorem OwnB.bls {E : TypeId} {w : World} {lo : Nat} {A : Option Addr} {n c : Nat} {bs : List Bool} (h : OwnB E w lo (.slice A n c) bs) : BlsAt w w.heap.size A n bs := by
  have hn := ownr_len h
  subst hn
  refine ⟨rfl, fun h0 => ?_⟩
  obtain ⟨ad, e, hb, hc⟩ := (ownr_cells h).2 (by omega)
  refine ⟨ad, e, hb, fun j hj => hc j _ ?_⟩
  rw [List.getElem?_map, bAt_get hj]
  rfl
theorem OwnB.below {E : TypeId} {w w' : World} {lo : Nat} {v : Value} {bs : List Bool} (h : OwnB E w lo v bs) (hb : Below w.heap.size w w') : OwnB E w' lo v bs := ownr_below h hb
theorem OwnB.mono {E : TypeId} {w : World} {lo lo' : Nat} {v : Value} {bs : List Bool} (h : OwnB E w lo v bs) (hl : lo' ≤ lo) : OwnB E w lo' v bs := ownr_mono h hl
theorem OwnB.sliced {E : TypeId} {w : World} {lo : Nat} {v : Value} {bs : List Bool} (h : OwnB E w lo v bs) : ∃ A c, v = .slice A bs.length c := ownr_sliced h
/-- the same between two block numbers. -/
structure OwB (E : TypeId) (w : World) (lo hi : Nat) (v : Value) (bs : List Bool) : Prop where
  own : OwnB E w lo v bs
  lt : ∀ g, v.ownBlock = some g → g < hi
  top : hi ≤ w.heap.size
theorem OwB.new {E : TypeId} {w : World} {lo : Nat} {v : Value} {bs : List Bool} (h : OwnB E w lo v bs) : OwB E w lo w.heap.size v bs := ⟨h, fun g e => (ownr_block h g e).2, Nat.le_refl _⟩
theorem OwB.below {E : TypeId} {w w' : World} {lo hi : Nat} {v : Value} {bs : List Bool} (h : OwB E w lo hi v bs) (hb : Below w.heap.size w w') : OwB E w' lo hi v bs := ⟨h.own.below hb, h.lt, Nat.le_trans h.top hb.size⟩
theorem OwB.ints {E : TypeId} {w : World} {lo hi : Nat} {A : Option Addr} {n c : Nat} {bs : List Bool} (h : OwB E w lo hi (.slice A n c) bs) : BlsAt w w.heap.size A n bs := h.own.bls
theorem OwB.part {E : TypeId} {w w' : World} {lo hi l h' : Nat} {v : Value} {bs : List Bool} (h : OwB E w lo hi v bs) (hp : Part l h' w w') (hd : hi ≤ l ∨ h' ≤ lo) : OwB E w' lo hi v bs := by
  refine ⟨⟨h.own.1, ?_⟩, h.lt, Nat.le_trans h.top hp.size⟩
  rcases h.own.2 with h2 | ⟨g, cap, cur, rfl, hl, hg, r⟩
  · exact .inl h2
  · have hlt := h.lt g rfl
    have htop := h.top
    exact .inr ⟨g, cap, cur, rfl, hl, (hp.block g (by omega) (by omega)).trans hg, r⟩
/-- a slice of bools that a call is given. -/
structure SlB (w : World) (A : Option Addr) (n c : Nat) (bs : List Bool) : Prop where
  bls : BlsAt w w.heap.size A n bs
  bare : A = none → n = 0 ∧ c = 0
  cap : n ≤ c ∧ c ≤ maxLen
theorem OwB.sl {E : TypeId} {w : World} {lo hi : Nat} {A : Option Addr} {n c : Nat} {bs : List Bool} (h : OwB E w lo hi (.slice A n c) bs) : SlB w A n c bs := ⟨h.ints, ownr_nilcap h.own, ownr_cap h.own⟩
theorem SlB.below {w w' : World} {A : Option Addr} {n c : Nat} {bs : List Bool} (h : SlB w A n c bs) (hb : Below w.heap.size w w') : SlB w' A n c bs := ⟨(h.bls.keep hb).up hb.size, h.bare, h.cap⟩
/-- the laws' marks of bools. -/
def marksB (s : Nat) (n : Nat) : List Bool := (List.range n).map fun j => decide ((s + j) % 3 = 0)
theorem marksB_length (s n : Nat) : (marksB s n).length = n := by simp [marksB]
theorem marksB_get {s n j : Nat} (h : j < n) : (marksB s n)[j]? = some (decide ((s + j) % 3 = 0)) := by simp [marksB, h]
theorem tmod_three (m : Nat) : (((m : Nat) : Int).tmod 3 == 0) = decide (m % 3 = 0) := by
  have e : ((m : Nat) : Int).tmod 3 = ((m % 3 : Nat) : Int) := by rw [Int.tmod_eq_emod_of_nonneg (by omega)]; omega
  rw [e]
  by_cases h : m % 3 = 0
  · simp [h]
  · rw [decide_eq_false h]
    rw [beq_eq_false_iff_ne]
    omega
theorem info_bool : (Try.prog.info? 4).map (fun i => (i.zero, i.size, i.bytes)) = some (some (.bool false), 1, 1) := by kernel_rfl
theorem to_bls (A : Option Addr) (n c B : Nat) (bs : List Bool) (w : World) (h : BlsAt w B A n bs) (hB : B ≤ w.heap.size) (hn : n ≤ 1048576) :
    Calls Try.prog 43 #[.slice A n c] w fun e w' => e = .returned (.slice (some ⟨w.heap.size, 0, none⟩) n n) ∧ OwnB 4 w' w.heap.size (.slice (some ⟨w.heap.size, 0, none⟩) n n) bs ∧ Below w.heap.size w w' := by
  have hl := h.1
  go_enter Try.func43, Try.ntmps43
  go_wp2_with ((with_reducible show wpList _ _ _ _ _ _); refine wpList_mkR rfl _ _ _ rfl 4 _ 1 _ Try.underlying60 info_bool (by decide) (n : Int) (n : Int) n rfl rfl rfl rfl (by omega) ?_; intro w1 hown hgrow)
  rw [made_bls] at hown
  go_loopw [4] (fun i wr => ∃ k : Nat, k ≤ n ∧ i = .int .i64 k ∧ wr.ownsRow w.heap.size 4 1 (.slice (some ⟨w.heap.size, 0, none⟩) n n) n ((bs.take k ++ (List.replicate n false).drop k).map Value.bool) ∧ Below w.heap.size w wr) (fun i _ => n - (intOf i).toNat)
  case atStart => exact ⟨0, Nat.zero_le _, rfl, by simpa using hown, below_grown hgrow⟩
  case round =>
    clear hown hgrow
    obtain ⟨k, hk, rfl, hown, hbl⟩ := hrel
    by_cases hlt : k < n
    · obtain ⟨ad, rfl, hab, hcell⟩ := h.2 (by omega)
      have hc := (hbl.cell (by rw [add_block]; omega)).trans (hcell k hlt)
      obtain ⟨x0, hx0⟩ := ownr_some hown (j := k) (by omega)
      have hf := World.ownsRow.frozenAt hown k
      have hs := (World.ownsRow.stored hown k (.bool (bAt bs k))).1
      rw [← List.map_set, set_prefixB (by simp; omega) (bAt_get (by omega))] at hs
      have HS := Lib.hid hs
      clear hcell hown hs
      generalize bAt bs k = z at *
      go_wp2
      go_roundw
      case rel => exact ⟨k + 1, by omega, by go_num, HS.out, hbl.setCell (Nat.le_refl _) _⟩
      case measure => simp [intOf]; omega
    · obtain rfl : k = n := by omega
      rw [List.take_of_length_le (by omega), List.drop_of_length_le (by simp), List.append_nil] at hown
      have HO : Hid (OwnB 4 wr w.heap.size (.slice (some ⟨w.heap.size, 0, none⟩) k k) bs) := Lib.hid (by unfold OwnB; rw [hl]; exact hown)
      clear hown
      go_wp2
      go_ret
      exact ⟨rfl, HO.out, hbl⟩
theorem eqs_bls (A : Option Addr) (n c : Nat) (bs : List Bool) (A2 : Option Addr) (n2 c2 : Nat) (w : World) (h : BlsAt w w.heap.size A n bs) (h2 : BlsAt w w.heap.size A2 n2 bs) (hn : n ≤ 1048576) (hn2 : n2 ≤ 1048576) :
    Calls Try.prog 45 #[.slice A n c, .slice A2 n2 c2] w fun e w' => e = .returned (.bool true) ∧ Below w.heap.size w w' := by
  have hl := h.1
  have hl2 := h2.1
  obtain rfl : n = n2 := by omega
  go_enter Try.func45, Try.ntmps45
  go_wp2
  go_loopw [5] (fun i wr => ∃ k : Nat, k ≤ n ∧ i = .int .i64 k ∧ Below w.heap.size w wr ∧ wr.heap = w.heap) (fun i _ => n - (intOf i).toNat)
  case atStart => exact ⟨0, Nat.zero_le _, rfl, Below.refl _ _, rfl⟩
  case round =>
    obtain ⟨k, hk, rfl, hbl, hheap⟩ := hrel
    by_cases hlt : k < n
    · obtain ⟨ad, rfl, hab, hcell⟩ := h.2 (by omega)
      obtain ⟨ad2, rfl, hab2, hcell2⟩ := h2.2 (by omega)
      have hc : wr.cell? (ad.add k) = _ := (World.cell?_of_block (by rw [hheap])).trans (hcell k hlt)
      have hc2 : wr.cell? (ad2.add k) = _ := (World.cell?_of_block (by rw [hheap])).trans (hcell2 k hlt)
      have HH := Lib.hid hheap
      clear hcell hcell2 hheap
      generalize bAt bs k = z at *
      have e1 : (z != z) = false := by simp
      have e2 : (!(z == z)) = false := by simp
      go_wp2
      go_quiet (fail)
      go_wp2
      go_roundw
      case rel => exact ⟨k + 1, by omega, by go_num, belowN hbl _, HH.out⟩
      case measure => simp [intOf]; omega
    · obtain rfl : k = n := by omega
      go_wp2
      go_ret
      exact ⟨rfl, hbl⟩
theorem marked_bls (A : Option Addr) (n c lo hi s : Nat) (bs : List Bool) (w : World) (h : OwB 4 w lo hi (.slice A n c) bs) (hn : n ≤ 1048576) (hs : s ≤ 70368744177664) :
    Calls Try.prog 46 #[.slice A n c, .int .i64 s] w fun e w' => e = .returned (.int .i64 ((s + n : Nat) : Int)) ∧ OwB 4 w' lo hi (.slice A n c) (marksB s n) ∧ Part lo hi w w' := by
  have hl : n = bs.length := ownr_len h.own
  have hrow : w.ownsRow lo 4 1 (.slice A n c) n (bs.map Value.bool) := by rw [show n = bs.length from hl]; have := h.own; unfold OwnB at this; rw [← hl] at this ⊢; exact this
  have HL := Lib.hid hl
  clear hl
  suffices H : Calls Try.prog 46 #[.slice A n c, .int .i64 s] w fun e w' => e = .returned (.int .i64 ((s + n : Nat) : Int)) ∧ w'.ownsRow lo 4 1 (.slice A n c) n ((marksB s n).map Value.bool) ∧ w.grownBy w' (Value.ownBlock (.slice A n c)) by
    refine H.mono fun e w' ⟨he, ho, hg⟩ => ⟨he, ⟨by unfold OwnB; rw [marksB_length]; exact ho, h.lt, Nat.le_trans h.top hg.size⟩, ⟨hg.os, hg.tape, hg.output, hg.size, fun i hi' hd => hg.block i hi' fun e => ?_⟩⟩
    have h1 := h.lt i e.symm
    have h2 := (ownr_block h.own i e.symm).1
    omega
  go_enter Try.func46, Try.ntmps46
  go_wp2
  go_loopw [1, 5] (fun x i wr => ∃ k : Nat, k ≤ n ∧ i = .int .i64 k ∧ x = .int .i64 ((s + k : Nat) : Int) ∧ wr.ownsRow lo 4 1 (.slice A n c) n (((marksB s n).take k ++ bs.drop k).map Value.bool) ∧ w.grownBy wr (Value.ownBlock (.slice A n c))) (fun _ i _ => n - (intOf i).toNat)
  case atStart => exact ⟨0, Nat.zero_le _, rfl, rfl, by simpa using hrow, World.grownBy.refl _ _⟩
  case round =>
    clear hrow h
    obtain ⟨k, hk, rfl, rfl, hown, hbl⟩ := hrel
    by_cases hlt : k < n
    · rcases ownr_shape hown with ⟨e, he⟩ | ⟨g, cap, e, hg, hgs, _⟩
      · omega
      injection e with e1 _ e3
      obtain rfl := e1
      obtain ⟨x0, hx0⟩ := ownr_some hown (j := k) (by omega)
      have hf := World.ownsRow.frozenAt hown k
      have hst := (World.ownsRow.stored hown k (.bool (decide ((s + k) % 3 = 0)))).1
      rw [← List.map_set, set_prefixB (by rw [← HL.out]; exact hlt) (marksB_get hlt)] at hst
      have hb := tmod_three (s + k)
      obtain ⟨b, hbb⟩ : ∃ b, b = decide ((s + k) % 3 = 0) := ⟨_, rfl⟩
      rw [← hbb] at hst hb
      rw [show (((s + k : Nat)) : Int) = (s : Int) + (k : Int) by omega] at hb
      have hb2 : (((s : Int) + (k : Int)) % 3 == 0) = b := by rw [← hb, Int.tmod_eq_emod_of_nonneg (by omega)]
      have HS := Lib.hid hst
      have HG := Lib.hid hbl
      clear hown hst hbl hbb
      go_wp2
      go_roundw
      case rel => exact ⟨k + 1, by omega, by go_num, by go_num, HS.out, only_setCell HG.out _ _⟩
      case measure => simp [intOf]; omega
    · obtain rfl : k = n := by omega
      rw [List.take_of_length_le (by rw [marksB_length]; exact Nat.le_refl _), List.drop_of_length_le (by rw [← HL.out]; exact Nat.le_refl _), List.append_nil] at hown
      have HO := Lib.hid hown
      clear hown
      go_wp2
      go_ret
      exact ⟨rfl, HO.out, hbl⟩
end Go.Proofs.Ytmcoeafkbpeelaa

/- Chapter 12: QueueRun: data, the model, what the program's helpers answer. -/
namespace Go.Proofs.Ytmcoeafkbpeelaa
open Go.RowKit
set_option linter.unusedVariables false

/-- the queue after k seconds. -/
def queK (zs : List Int) (bs : List Bool) : Nat → Int
  | 0 => 0
  | k + 1 => stepQ (queK zs bs k) (zs.getD k 0) (bAt bs k)
theorem queK_bound (zs : List Int) (bs : List Bool) : ∀ k, 0 ≤ queK zs bs k ∧ queK zs bs k ≤ 10000
  | 0 => by simp [queK]
  | k + 1 => stepQ_bound _ _ _
def allQ (zs : List Int) : Bool := zs.all fun z => inB z 0 10000
theorem allQ_no {zs : List Int} {k : Nat} (hk : k < zs.length) (h : inB (zs.getD k 0) 0 10000 = false) : allQ zs = false := by
  unfold allQ
  rw [Bool.eq_false_iff]
  intro ha
  have := List.all_eq_true.1 ha (zs.getD k 0) (by rw [List.getD_eq_getElem?_getD, List.getElem?_eq_getElem hk]; exact List.getElem_mem hk)
  rw [h] at this
  cases this
theorem allQ_yes {zs : List Int} (h : ∀ k, k < zs.length → inB (zs.getD k 0) 0 10000 = true) : allQ zs = true := by
  unfold allQ
  refine List.all_eq_true.2 fun z hz => ?_
  obtain ⟨k, hk, rfl⟩ := List.mem_iff_getElem.1 hz
  have := h k hk
  rwa [List.getD_eq_getElem?_getD, List.getElem?_eq_getElem hk] at this
theorem allQ_at {zs : List Int} (h : allQ zs = true) {k : Nat} (hk : k < zs.length) : inB (zs.getD k 0) 0 10000 = true := by
  cases e : inB (zs.getD k 0) 0 10000 with
  | true => rfl
  | false => rw [allQ_no hk e] at h; cases h
/-- the queues after each of the first k seconds. -/
def queTo (zs : List Int) (bs : List Bool) (k : Nat) : List Int := (List.range k).map fun j => queK zs bs (j + 1)
theorem queTo_len (zs : List Int) (bs : List Bool) (k : Nat) : (queTo zs bs k).length = k := by simp [queTo]
theorem queTo_succ (zs : List Int) (bs : List Bool) (k : Nat) : queTo zs bs (k + 1) = queTo zs bs k ++ [queK zs bs (k + 1)] := by simp [queTo, List.range_succ]
/-- what QueueRun answers. -/
def queR (zs : List Int) (bs : List Bool) : List Int := if decide (zs.length = bs.length) && decide (zs.length ≤ 1000) && allQ zs then queTo zs bs zs.length else []
theorem queR_no {zs : List Int} {bs : List Bool} (h : (decide (zs.length = bs.length) && decide (zs.length ≤ 1000) && allQ zs) = false) : queR zs bs = [] := by unfold queR; rw [h]; rfl
theorem queR_yes {zs : List Int} {bs : List Bool} (h : zs.length = bs.length) (h2 : zs.length ≤ 1000) (h3 : allQ zs = true) : queR zs bs = queTo zs bs zs.length := by unfold queR; rw [decide_eq_true h, decide_eq_true h2, h3]; rfl
theorem queR_len (zs : List Int) (bs : List Bool) : (queR zs bs).length ≤ zs.length := by
  unfold queR
  split
  · rw [queTo_len]; exact Nat.le_refl _
  · exact Nat.zero_le _
set_option maxHeartbeats 2000000 in
theorem spec_QueueRun (A : Option Addr) (n c B : Nat) (zs : List Int) (A2 : Option Addr) (n2 c2 B2 : Nat) (bs : List Bool) (w : World) (h : IntsAt .i64 w B A n zs) (hB : B ≤ w.heap.size) (hn : n ≤ 4294967296) (h2 : BlsAt w B2 A2 n2 bs) (hB2 : B2 ≤ w.heap.size) (hn2 : n2 ≤ 4294967296) :
    Calls Try.prog 42 #[.slice A n c, .slice A2 n2 c2] w fun e w' => ∃ v, e = .returned v ∧ Own .i64 3 w' w.heap.size v (queR zs bs) ∧ Below w.heap.size w w' := by
  have hl := h.1
  have hl2 := h2.1
  have HNO := Lib.hid (fun hh => queR_no (zs := zs) (bs := bs) hh)
  have HYES := Lib.hid (fun a b hh => queR_yes (zs := zs) (bs := bs) a b hh)
  have own0 := own_bare .i64 3 w
  have HB0 : Hid (Below w.heap.size w (w.alloc (.cells #[] 3))) := Lib.hid ((Below.refl _ _).alloc (Nat.le_refl _) _)
  by_cases hne : n = n2
  rotate_left
  · have HR := Lib.hid (HNO.out (by rw [decide_eq_false (by omega)]; rfl))
    have e1 : ((n : Int) != (n2 : Int)) = true := by rw [bne_iff_ne]; omega
    clear h h2 hne hl hl2
    go_enter Try.func42, Try.ntmps42
    go_wp2
    go_ret
    exact ⟨_, rfl, by rw [HR.out]; exact own0, HB0.out⟩
  subst hne
  have e1 : ((n : Int) != (n : Int)) = false := by simp
  by_cases hbig : (1000 : Int) < (n : Int)
  · have HR := Lib.hid (HNO.out (by rw [decide_eq_false (show ¬ zs.length ≤ 1000 by omega)]; simp))
    clear h h2 hl hl2
    go_enter Try.func42, Try.ntmps42
    go_wp2
    go_ret
    exact ⟨_, rfl, by rw [HR.out]; exact own0, HB0.out⟩
  have HALL : Hid ((∀ j, j < n → inB (zs.getD j 0) 0 10000 = true) → queR zs bs = queTo zs bs n) := Lib.hid (fun hh => by
    have := HYES.out (by omega) (by omega) (allQ_yes (by rw [hl]; exact hh))
    rwa [hl] at this)
  have HBAD : Hid (∀ k, k < n → inB (zs.getD k 0) 0 10000 = false → queR zs bs = []) := Lib.hid (fun k hk hh => HNO.out (by rw [allQ_no (by omega) hh, Bool.and_false]))
  have H := Lib.hid h
  have H2 := Lib.hid h2
  have hn3 : n ≤ 1000 := by omega
  clear h h2 hl hl2 HNO HYES
  go_enter Try.func42, Try.ntmps42
  go_wp2
  go_loopw [5, 6, 7] (fun v q i wr => ∃ k : Nat, k ≤ n ∧ i = .int .i64 k ∧ q = .int .i64 (queK zs bs k) ∧ Own .i64 3 wr w.heap.size v (queTo zs bs k) ∧ (∀ j, j < k → inB (zs.getD j 0) 0 10000 = true) ∧ Below w.heap.size w wr) (fun _ _ i _ => n - (intOf i).toNat)
  case atStart => exact ⟨0, Nat.zero_le _, rfl, rfl, own0, fun j hj => absurd hj (by omega), HB0.out⟩
  case round =>
    clear own0 HB0
    obtain ⟨k, hk, rfl, rfl, ho, hall, hbl⟩ := hrel
    have hsz := hbl.size
    have HO := Lib.hid ho
    have HB := Lib.hid hbl
    have HAL := Lib.hid hall
    clear hall hbl ho
    by_cases hlt : k < n
    · obtain ⟨ad, rfl, hab, hcell⟩ := H.out.2 (by omega)
      obtain ⟨ad2, rfl, hab2, hcell2⟩ := H2.out.2 (by omega)
      have HC := Lib.hid (fun x (hx : Below w.heap.size w x) => (hx.cell (p := ad.add k) (by rw [add_block]; omega)).trans (hcell k hlt))
      have HC2 := Lib.hid (fun x (hx : Below w.heap.size w x) => (hx.cell (p := ad2.add k) (by rw [add_block]; omega)).trans (hcell2 k hlt))
      have hc := HC.out wr HB.out
      have i1 : (0 : Int) ≤ (k : Int) := by omega
      have i2 : (k : Int) < (n : Int) := by omega
      have hqb := queK_bound zs bs k
      have HS : Hid (queTo zs bs (k + 1) = queTo zs bs k ++ [stepQ (queK zs bs k) (zs.getD k 0) (bAt bs k)]) := Lib.hid (queTo_succ zs bs k)
      have HS2 : Hid (queK zs bs (k + 1) = stepQ (queK zs bs k) (zs.getD k 0) (bAt bs k)) := Lib.hid rfl
      have HBK := Lib.hid (HBAD.out k hlt)
      have hln := queTo_len zs bs k
      obtain ⟨z, hz⟩ : ∃ z, zs.getD k 0 = z := ⟨_, rfl⟩
      obtain ⟨b, hb⟩ : ∃ b, bAt bs k = b := ⟨_, rfl⟩
      obtain ⟨ys, hys⟩ : ∃ ys, queTo zs bs k = ys := ⟨_, rfl⟩
      obtain ⟨q, hq⟩ : ∃ q, queK zs bs k = q := ⟨_, rfl⟩
      have HZ := Lib.hid hz
      rw [hz] at hc HC HBK
      rw [hb] at HC2
      rw [hys, hq, hz, hb] at HS
      rw [hq, hz, hb] at HS2
      rw [hys] at HO hln
      rw [hq] at hqb ⊢
      clear hcell hcell2 hz hb hys hq
      have hly : ys.length ≤ 1000 := by omega
      clear hln
      obtain ⟨Av, cv, rfl⟩ := HO.out.sliced
      cases hin : inB z 0 10000
      · have HR := Lib.hid (HBK.out hin)
        have HIN := Lib.hid hin
        clear hin
        go_wp2_with fail
        refine (spec_l1In _ _ _ _).mono ?_
        rw [HIN.out]
        rintro e w2 ⟨rfl, rfl⟩
        go_wp2
        go_ret
        exact ⟨_, rfl, by rw [HR.out]; exact (own_bare .i64 3 wr).mono hsz, HB.out.alloc hsz _⟩
      · have HIN := Lib.hid hin
        have hst : qstep q z b = stepQ q z b := qstep_in (show inB q 0 10000 = true by unfold inB; simp; omega) hin
        rw [← hst] at HS HS2
        clear hin hst
        have g1 := fun x : GW wr => HC.out x.val (HB.out.trans (x.ok.mono hsz))
        have g2 := fun x : GW wr => HC2.out x.val (HB.out.trans (x.ok.mono hsz))
        have g3 := fun x : GW wr => spec_QueueStep q z b x.val
        generalize qstep q z b = r at *
        go_wp2_with fail
        refine (spec_l1In _ _ _ _).mono ?_
        rw [HIN.out]
        rintro e w2 ⟨rfl, rfl⟩
        go_wp2
        refine wp_region_grow (by kernel_rfl) (by kernel_rfl) ?_
        repeat (go_big_quiet_step (exact calls_gw_same _ (g3 _)))
        refine wpQuiet_nil ?_
        intro x
        have hox := HO.out.below x.ok
        have hbx := HB.out.trans (x.ok.mono hsz)
        have hsx := hbx.size
        clear g1 g2 g3 hc
        generalize x.val = wx at *
        go_wp2_with (at_builtin; refine wpList_app1 rfl _ _ 23 rfl .i64 3 8 Try.underlying23 info_i64 w.heap.size _ _ rfl hox (by decide) (by omega) _ _ _ wx.heap.size hsx rfl (by simp) ?_; intro v7 w7 hown7 hgrow7 hat7)
        have HB7 : Hid (Below w.heap.size w w7) := Lib.hid (hox.push (Nat.le_refl _) (hbx.alloc hsx (.cells #[.int .i64 r] 3)) (by simp; omega) hgrow7)
        have HO7 := Lib.hid hown7
        clear hown7 hgrow7 hat7 hox hbx
        go_roundw
        case rel => exact ⟨k + 1, by omega, by go_num, by rw [HS2.out], by rw [HS.out]; exact HO7.out, fun j hj => by
          by_cases e : j = k
          · subst e; rw [HZ.out]; exact HIN.out
          · exact HAL.out j (by omega), HB7.out⟩
        case measure => simp [intOf]; omega
    · obtain rfl : k = n := by omega
      have HR := Lib.hid (HALL.out HAL.out)
      go_wp2
      go_ret
      exact ⟨_, rfl, by rw [HR.out]; exact HO.out, HB.out⟩
set_option maxHeartbeats 2000000 in
theorem impl_areArrivals (A : Option Addr) (n c B : Nat) (zs : List Int) (w : World) (h : IntsAt .i64 w B A n zs) (hB : B ≤ w.heap.size) (hn : n ≤ 4294967296) :
    Calls Try.prog 99 #[.slice A n c] w fun e w' => e = .returned (.bool (allQ zs)) ∧ Below w.heap.size w w' := by
  have hl := h.1
  have HBAD : Hid (∀ k, k < n → inB (zs.getD k 0) 0 10000 = false → allQ zs = false) := Lib.hid (fun k hk hh => allQ_no (by omega) hh)
  have HALL : Hid ((∀ j, j < n → inB (zs.getD j 0) 0 10000 = true) → allQ zs = true) := Lib.hid (fun hh => allQ_yes (by rw [hl]; exact hh))
  have H := Lib.hid h
  clear h hl
  go_enter Try.func99, Try.ntmps99
  go_wp2
  go_loopw [7] (fun i wr => ∃ k : Nat, k ≤ n ∧ i = .int .i64 k ∧ (∀ j, j < k → inB (zs.getD j 0) 0 10000 = true) ∧ Below w.heap.size w wr) (fun i _ => n - (intOf i).toNat)
  case atStart => exact ⟨0, Nat.zero_le _, rfl, fun j hj => absurd hj (by omega), Below.refl _ _⟩
  case round =>
    obtain ⟨k, hk, rfl, hall, hbl⟩ := hrel
    have HB := Lib.hid hbl
    have HAL := Lib.hid hall
    by_cases hlt : k < n
    · obtain ⟨ad, rfl, hab, hcell⟩ := H.out.2 (by omega)
      have hc := (hbl.cell (p := ad.add k) (by rw [add_block]; omega)).trans (hcell k hlt)
      have i1 : (0 : Int) ≤ (k : Int) := by omega
      have i2 : (k : Int) < (n : Int) := by omega
      have HBK := Lib.hid (HBAD.out k hlt)
      obtain ⟨z, hz⟩ : ∃ z, zs.getD k 0 = z := ⟨_, rfl⟩
      have HZ := Lib.hid hz
      rw [hz] at hc HBK
      clear hcell hz hbl hall
      cases hin : inB z 0 10000
      · have HR := Lib.hid (HBK.out hin)
        have HIN := Lib.hid hin
        clear hin
        go_wp2_with fail
        refine (impl_isQueue _ _).mono ?_
        rw [HIN.out]
        rintro e w2 ⟨rfl, rfl⟩
        go_wp2
        go_ret
        exact ⟨by rw [HR.out]; try rfl, HB.out⟩
      · have HIN := Lib.hid hin
        clear hin
        go_wp2_with fail
        refine (impl_isQueue _ _).mono ?_
        rw [HIN.out]
        rintro e w2 ⟨rfl, rfl⟩
        go_wp2
        go_roundw
        case rel => exact ⟨k + 1, by omega, by go_num, fun j hj => by
          by_cases e : j = k
          · subst e; rw [HZ.out]; exact HIN.out
          · exact HAL.out j (by omega), HB.out⟩
        case measure => simp [intOf]; omega
    · obtain rfl : k = n := by omega
      have HR := Lib.hid (HALL.out HAL.out)
      go_wp2
      go_ret
      exact ⟨by rw [HR.out]; try rfl, hbl⟩
end Go.Proofs.Ytmcoeafkbpeelaa

/- Chapter 12: QueueRun: the program: a range over a function of two values. -/
namespace Go.Proofs.Ytmcoeafkbpeelaa
open Go.RowKit Go.Shelf
attribute [local go_sem] Oper.semAt_some
set_option linter.unusedVariables false

/-- the seconds below n. -/
abbrev IdxQ (n : Nat) := {i : Nat // i < n}
def preI (n : Nat) : (k : Nat) → k ≤ n → List (IdxQ n)
  | 0, _ => []
  | k + 1, h => preI n k (by omega) ++ [⟨k, by omega⟩]
theorem preI_len (n : Nat) : ∀ (k : Nat) (h : k ≤ n), (preI n k h).length = k
  | 0, _ => rfl
  | k + 1, h => by simp [preI, preI_len n k (by omega)]
theorem preI_pre (n : Nat) : ∀ (m : Nat) (hm : m ≤ n) (k : Nat) (hk : k ≤ m), preI n k (by omega) <+: preI n m hm
  | 0, _, k, hk => by
    obtain rfl : k = 0 := by omega
    exact List.prefix_refl _
  | m + 1, hm, k, hk => by
    by_cases e : k = m + 1
    · subst e; exact List.prefix_refl _
    · exact (preI_pre n m (by omega) k (by omega)).trans ⟨[⟨m, by omega⟩], rfl⟩
/-- what the iterator hands over. -/
def encQ (zs : List Int) (bs : List Bool) {n : Nat} (x : IdxQ n) : Array Value := #[.int .i64 (x.val : Int), .int .i64 (queK zs bs (x.val + 1))]
/-- what a round keeps: what lay below n₀, and the box b. -/
def keepQ (n₀ b : Nat) (W W' : World) : Prop := Below n₀ W W' ∧ W'.heap[b]? = W.heap[b]?
theorem keepQ_t {n₀ b : Nat} {A B C : World} (h : keepQ n₀ b A B) (k : keepQ n₀ b B C) : keepQ n₀ b A C := ⟨h.1.trans k.1, k.2.trans h.2⟩
theorem keepQ_b {n₀ b : Nat} {w : World} (hn : n₀ ≤ w.heap.size) (hb : b < w.heap.size) (W : World) (l : Nat) (o o' : Obj) (hl : w.heap.size ≤ l) (h : W.heap[l]? = some o) (h2 : o.isCells = false) (h3 : o.isWalk = false) : keepQ n₀ b W (W.putObj l o') :=
  ⟨belowK_b hn W l o o' hl h h2 h3, World.putObj_heap_other (by omega)⟩
theorem cellQ {w : World} {g : Nat} {x : Value} {E : TypeId} {fr : Nat × Nat} (h : w.heap[g]? = some (.cells #[x] E fr)) : w.cell? ⟨g, 0, none⟩ = some x := by
  rw [cell_of_row w g 0 _ _ _ h]; rfl
set_option maxHeartbeats 2000000 in
set_option maxRecDepth 100000 in
theorem que_in (m : Nat) (hm : 2 ≤ m) (l b0 b1 n₀ : Nat) (A : Option Addr) (n c : Nat) (zs : List Int) (A2 : Option Addr) (c2 : Nat) (bs : List Bool) (hn : n ≤ 1000) (hall : allQ zs = true) (J Jx : List (IdxQ n) → World → Prop)
    (W : World) (hJ : AbidesFrom W.heap.size J) (h0 : W.heap[b0]? = some (.cells #[.slice A n c] 23)) (h1 : W.heap[b1]? = some (.cells #[.slice A2 n c2] 60)) (hz : IntsAt .i64 W n₀ A n zs) (hb : BlsAt W n₀ A2 n bs) (hn₀ : n₀ ≤ W.heap.size)
    (hY : ∀ pre x W1, J pre W1 → pre.length < 1000 → YieldAt Fence.wide (m - 1) Try.prog l (encQ zs bs x) W1 fun e W' =>
      (e = .returned (.bool true) ∧ J (pre ++ [x]) W' ∧ keepQ n₀ b1 W1 W') ∨ (e = .returned (.bool false) ∧ Jx (pre ++ [x]) W'))
    (hj0 : J [] W) :
    CallsIn Fence.wide m Try.prog 135 #[.func (.yield l) #[] #[], .pointer (some ⟨b0, 0, none⟩), .pointer (some ⟨b1, 0, none⟩)] W fun e W' => (∃ v, e = .returned v) ∧
      ((∃ ys, ys = preI n n (Nat.le_refl _) ∧ J ys W') ∨ (∃ pre, pre <+: preI n n (Nat.le_refl _) ∧ Jx pre W')) := by
  refine callsIn_of_wp Try.func135 rfl trivial ?_ rfl
  simp only [Try.ntmps135, List.size_toArray, List.length_cons, List.length_nil, Nat.reduceAdd, Nat.reduceSub, Array.replicate_succ, Array.replicate_zero, List.push_toArray, List.append_toArray, List.nil_append, List.cons_append]
  have x0 := cellQ h0
  have HL := Lib.hid hz.1
  have HBZ := Lib.hid (fun (V : World) (hV : Below n₀ W V) => hz.keep fun p hp => hV.cell hp)
  have HBB := Lib.hid (fun (V : World) (hV : Below n₀ W V) => hb.keep hV)
  have HBX := Lib.hid h1
  have HN0 := Lib.hid hn₀
  have HALL := Lib.hid (fun k (hk : k < n) => allQ_at hall (k := k) (by rw [hz.1]; exact hk))
  clear h0 h1 hz hb hall
  gi_wp2
  gi_loopw [9, 4] (fun i q wr => ∃ (k : Nat) (hk : k ≤ n), i = .int .i64 k ∧ q = .int .i64 (queK zs bs k) ∧ keepQ n₀ b1 W wr ∧ W.heap.size ≤ wr.heap.size ∧ J (preI n k hk) wr)
    (fun i _ _ => n - (intOf i).toNat)
  case atStart =>
    exact ⟨0, Nat.zero_le _, rfl, rfl, ⟨Below.refl _ _, rfl⟩, Nat.le_refl _, hj0⟩
  case round =>
    clear x0 hj0
    obtain ⟨k, hk, rfl, rfl, hkp, hsz, hJs⟩ := hrel
    by_cases hlt : k < n
    · obtain ⟨ad, rfl, hab, hcell⟩ := (HBZ.out _ hkp.1).2 (by omega)
      obtain ⟨ad2, rfl, hab2, hcell2⟩ := (HBB.out _ hkp.1).2 (by omega)
      have hc := hcell k hlt
      have hbx := hkp.2.trans HBX.out
      have x1 := cellQ hbx
      have hc2 := hcell2 k hlt
      have i1 : (0 : Int) ≤ (k : Int) := by omega
      have i2 : (k : Int) < (n : Int) := by omega
      have hin := HALL.out k hlt
      have hqb := queK_bound zs bs k
      have HS : Hid (queK zs bs (k + 1) = stepQ (queK zs bs k) (zs.getD k 0) (bAt bs k)) := Lib.hid rfl
      have hlen : (preI n k hk).length < 1000 := by rw [preI_len]; omega
      have HPR : Hid (preI n k hk ++ [⟨k, hlt⟩] = preI n (k + 1) hlt) := Lib.hid rfl
      have HKP := Lib.hid hkp
      have lt1 : b1 < wr.heap.size := lt_of_block hbx
      have lta : (ad.add k).block < wr.heap.size := by rw [add_block]; omega
      have lta2 : (ad2.add k).block < wr.heap.size := by rw [add_block]; omega
      generalize queK zs bs k = q at *
      have hAF := impl_after (zs.getD k 0) q (bAt bs k) wr hin hqb
      rw [← HS.out] at hAF
      generalize zs.getD k 0 = z at *
      generalize bAt bs k = b at *
      have HAF := Lib.hid hAF
      have HJs := Lib.hid hJs
      clear hcell hcell2 hin hAF hbx hkp hJs
      gi_wp2
      refine ⟨trivial, fun _ => by omega, ?_⟩
      refine (callsIn_wide.2 HAF.out).mono ?_
      rintro e w2 ⟨rfl, hb2⟩
      have hJ2 : J (preI n k hk) w2 := hJ _ _ _ none HJs.out (only_of_below hb2 none) (fun r e => by cases e)
      obtain ⟨fn, tmps, assign, body, hy, hR⟩ := hY (preI n k hk) ⟨k, hlt⟩ w2 hJ2 hlen
      have HK2 : Hid (keepQ n₀ b1 W w2) := Lib.hid (keepQ_t HKP.out ⟨hb2.mono (by omega), hb2.block _ lt1⟩)
      have hs2 : W.heap.size ≤ w2.heap.size := Nat.le_trans hsz hb2.size
      unfold encQ at hy
      dsimp only at hy
      clear hb2 x1 hc hc2
      gi_wp2
      refine ⟨fun _ => by omega, ?_⟩
      refine hR.mono ?_
      rintro e W3 (⟨rfl, hJ3, hk3⟩ | ⟨rfl, hJx3⟩)
      · have HK3 := Lib.hid (keepQ_t HK2.out hk3)
        have hs3 : W.heap.size ≤ W3.heap.size := Nat.le_trans hs2 hk3.1.size
        rw [HPR.out] at hJ3
        have HJ := Lib.hid hJ3
        clear hR hy hJ3 hk3 hJ2 hY
        gi_wp2
        go_roundw
        case rel => exact ⟨k + 1, hlt, by go_num, rfl, HK3.out, hs3, HJ.out⟩
        case measure => simp [intOf]; omega
      · rw [HPR.out] at hJx3
        have HJ := Lib.hid hJx3
        clear hR hy hJx3 hJ2 hY
        gi_wp2
        refine bodyPost_ret (results_none rfl _ _ _) rfl ?_
        exact ⟨⟨_, rfl⟩, .inr ⟨preI n (k + 1) hlt, preI_pre n n (Nat.le_refl _) (k + 1) hlt, HJ.out⟩⟩
    · obtain rfl : k = n := by omega
      gi_wp2
      go_end0
      exact ⟨⟨_, rfl⟩, .inl ⟨_, rfl, hJs⟩⟩
theorem impl_queueOver (A : Option Addr) (n c : Nat) (A2 : Option Addr) (n2 c2 : Nat) (w : World) : Calls Try.prog 100 #[.slice A n c, .slice A2 n2 c2] w fun e w' => e = .returned (.func (.func 135) #[] #[.pointer (some ⟨w.heap.size, 0, none⟩), .pointer (some ⟨w.heap.size + 1, 0, none⟩)]) ∧ w' = (w.alloc (.cells #[.slice A n c] 23)).alloc (.cells #[.slice A2 n2 c2] 60) := by
  have hmf : ∀ (fn : Fn) (first cap : Array Value) (w : World), (Instr.makeFunc fn first cap).run Try.prog w = .ok (.func fn first cap) w := fun _ _ _ _ => rfl
  go_enter Try.func100, Try.ntmps100
  go_wp2
  go_ret
  exact ⟨rfl, rfl⟩
theorem que_stops (m : Nat) (hm : 2 ≤ m) (b0 b1 n₀ : Nat) (A : Option Addr) (n c : Nat) (zs : List Int) (A2 : Option Addr) (c2 : Nat) (bs : List Bool) (hn : n ≤ 1000) (hall : allQ zs = true) (w : World)
    (h0 : w.heap[b0]? = some (.cells #[.slice A n c] 23)) (h1 : w.heap[b1]? = some (.cells #[.slice A2 n c2] 60)) (hz : IntsAt .i64 w n₀ A n zs) (hb : BlsAt w n₀ A2 n bs) (hn₀ : n₀ ≤ w.heap.size) :
    SeqStopsK Fence.wide m Try.prog 135 #[.pointer (some ⟨b0, 0, none⟩), .pointer (some ⟨b1, 0, none⟩)] (encQ zs bs (n := n)) (keepQ n₀ b1) (fun ys => ys = preI n n (Nat.le_refl _)) (fun pre => pre <+: preI n n (Nat.le_refl _)) 1000 w := fun l J Jx W hW hJ _ hY hj0 =>
  que_in m hm l b0 b1 n₀ A n c zs A2 c2 bs hn hall J Jx W hJ ((hW.block _ (lt_of_block h0)).trans h0) ((hW.block _ (lt_of_block h1)).trans h1) (hz.keep fun p hp => hW.cell (by omega)) (hb.keep (hW.mono hn₀)) (Nat.le_trans hn₀ hW.size) hY hj0
/-- 'make([]T, n)' inside a fence. -/
theorem wpListIn_mkF {F : Fence} {N : Nat} {P : Program} {w : World} {ops : Array Oper} {rest : List Oper} {o : Oper} {a : Act} {Q : Exit → Act → World → Prop}
    (hg : o.guard = none) (l c : Operand) (t : TypeId) (hop : o.op = Op.makeSlice t l c)
    (k : IntKind) (E : TypeId) (bytes : Nat) (ht : P.underlying t = some (.slice E)) (hi : (P.info? E).map (fun i => (i.zero, i.size, i.bytes)) = some (some (.int k 0), 1, bytes)) (hb : bytes ≤ 8)
    (L C : Int) (n : Nat) (hl : a.eval l = .int .i64 L) (hc : a.eval c = .int .i64 C) (hL : L = (n : Int)) (hC : C = (n : Int)) (hn : n ≤ 4398046511104)
    (hK : ∀ w', Own k E w' w.heap.size (.slice (some ⟨w.heap.size, 0, none⟩) n n) (List.replicate n 0) → w.grownBy w' none → wpListIn F N P ops Q rest (a.put o.dst (.slice (some ⟨w.heap.size, 0, none⟩) n n)) w') :
    wpListIn F N P ops Q (o :: rest) a w := by
  obtain ⟨i, hi1, hz, hsz, hby⟩ := info_parts hi
  refine wpListIn_plain hg fun K hK' => ?_
  obtain ⟨w', hrun, r1, r2⟩ := run_make_full (P := P) w w.heap.size t E i (.int k 0) 1 ht hi1 hz hsz .i64 .i64 n (by rw [hby]; have : bytes * n ≤ 8 * n := Nat.mul_le_mul_right _ hb; omega) (by unfold maxLen; omega) (Nat.le_refl _)
  subst hL
  subst hC
  unfold Oper.wpIn
  refine ⟨?_, ?_⟩
  · simp [Oper.about, hop]
  · rw [Oper.semAt_plain F _ _ (by rw [hop]; intro c hc'; cases hc')]
    simp [execOp, hop, hl, hc, hrun, Result.andThen]
    refine hK' _ _ (hK w' ?_ r2)
    unfold Own
    rw [made_ints] at r1
    simpa using r1
/-- the row behind some seconds. -/
def rowQ (zs : List Int) (bs : List Bool) {n : Nat} (pre : List (IdxQ n)) : List Int := pre.foldl (fun r x => r.set x.val (queK zs bs (x.val + 1))) (List.replicate n 0)
theorem rowQ_snoc (zs : List Int) (bs : List Bool) {n : Nat} (pre : List (IdxQ n)) (x : IdxQ n) : rowQ zs bs (pre ++ [x]) = (rowQ zs bs pre).set x.val (queK zs bs (x.val + 1)) := by simp [rowQ]
theorem rowQ_len (zs : List Int) (bs : List Bool) {n : Nat} (pre : List (IdxQ n)) : (rowQ zs bs pre).length = n := by
  unfold rowQ
  have : ∀ (l : List (IdxQ n)) (r : List Int), r.length = n → (l.foldl (fun r x => r.set x.val (queK zs bs (x.val + 1))) r).length = n := by
    intro l
    induction l with
    | nil => intro r h; exact h
    | cons x l ih => intro r h; exact ih _ (by rw [List.length_set]; exact h)
  exact this pre _ (by simp)
theorem rowQ_pre (zs : List Int) (bs : List Bool) (n : Nat) : ∀ (k : Nat) (hk : k ≤ n) (j : Nat), j < n → (rowQ zs bs (preI n k hk))[j]? = some (if j < k then queK zs bs (j + 1) else 0)
  | 0, hk, j, hj => by simp [rowQ, preI, hj]
  | k + 1, hk, j, hj => by
    show (rowQ zs bs (preI n k (by omega) ++ [⟨k, by omega⟩]))[j]? = _
    rw [rowQ_snoc, List.getElem?_set]
    have hl := rowQ_len zs bs (preI n k (by omega))
    simp only
    by_cases e : k = j
    · subst e
      rw [if_pos rfl, if_pos (by omega), if_pos (by omega)]
    · rw [if_neg e, rowQ_pre zs bs n k (by omega) j hj]
      by_cases h2 : j < k
      · rw [if_pos h2, if_pos (by omega)]
      · rw [if_neg h2, if_neg (by omega)]
theorem rowQ_all (zs : List Int) (bs : List Bool) (n : Nat) : rowQ zs bs (preI n n (Nat.le_refl _)) = queTo zs bs n := by
  apply List.ext_getElem?
  intro j
  by_cases hj : j < n
  · rw [rowQ_pre zs bs n n (Nat.le_refl _) j hj, if_pos hj]
    simp [queTo, hj]
  · rw [List.getElem?_eq_none (by rw [rowQ_len]; omega), List.getElem?_eq_none (by rw [queTo_len]; omega)]
theorem own_abide {k : IntKind} {E : TypeId} {W W' : World} {lo : Nat} {v : Value} {zs : List Int} {row : Option Nat} (h : Own k E W lo v zs) (hg : W.grownBy W' row) (hr : ∀ r, row = some r → ∃ o : Obj, W.heap[r]? = some o ∧ o.isCells = false) : Own k E W' lo v zs := by
  refine h.grown hg fun g e e' => ?_
  obtain ⟨o, ho, hc⟩ := hr g e'
  rcases h.2 with ⟨rfl, _⟩ | ⟨g', cap, cur, rfl, _, hgb, _⟩
  · cases e
  · have : g' = g := by simpa [Value.ownBlock] using e
    subst this
    rw [hgb] at ho
    cases ho
    cases hc
theorem box_abide {W W' : World} {g : Nat} {cs : Array Value} {E : TypeId} {row : Option Nat} (h : W.heap[g]? = some (.cells cs E)) (hg : W.grownBy W' row) (hr : ∀ r, row = some r → ∃ o : Obj, W.heap[r]? = some o ∧ o.isCells = false) : W'.heap[g]? = some (.cells cs E) := by
  refine (hg.block g (lt_of_block h) fun e => ?_).trans h
  obtain ⟨o, ho, hc⟩ := hr g e.symm
  rw [h] at ho
  cases ho
  cases hc
set_option maxHeartbeats 4000000 in
set_option maxRecDepth 100000 in
theorem impl_QueueRun (A : Option Addr) (n c B : Nat) (zs : List Int) (A2 : Option Addr) (n2 c2 B2 : Nat) (bs : List Bool) (w : World) (h : IntsAt .i64 w B A n zs) (hB : B ≤ w.heap.size) (hn : n ≤ 4294967296) (h2 : BlsAt w B2 A2 n2 bs) (hB2 : B2 ≤ w.heap.size) (hn2 : n2 ≤ 4294967296) :
    Calls Try.prog 44 #[.slice A n c, .slice A2 n2 c2] w fun e w' => ∃ v, e = .returned v ∧ Own .i64 3 w' w.heap.size v (queR zs bs) ∧ Below w.heap.size w w' := by
  have hl := h.1
  have hl2 := h2.1
  have HNO := Lib.hid (fun hh => queR_no (zs := zs) (bs := bs) hh)
  have HYES := Lib.hid (fun a b hh => queR_yes (zs := zs) (bs := bs) a b hh)
  have own0 := own_bare .i64 3 w
  have HB0 : Hid (Below w.heap.size w (w.alloc (.cells #[] 3))) := Lib.hid ((Below.refl _ _).alloc (Nat.le_refl _) _)
  by_cases hne : n = n2
  rotate_left
  · have HR := Lib.hid (HNO.out (by rw [decide_eq_false (by omega)]; rfl))
    have e1 : ((n : Int) != (n2 : Int)) = true := by rw [bne_iff_ne]; omega
    clear h h2 hne hl hl2
    go_enter Try.func44, Try.ntmps44
    go_wp2
    go_ret
    exact ⟨_, rfl, by rw [HR.out]; exact own0, HB0.out⟩
  subst hne
  have e1 : ((n : Int) != (n : Int)) = false := by simp
  by_cases hbig : (1000 : Int) < (n : Int)
  · have HR := Lib.hid (HNO.out (by rw [decide_eq_false (show ¬ zs.length ≤ 1000 by omega)]; simp))
    clear h h2 hl hl2
    go_enter Try.func44, Try.ntmps44
    go_wp2
    go_ret
    exact ⟨_, rfl, by rw [HR.out]; exact own0, HB0.out⟩
  have hAA := impl_areArrivals A n c B zs w h hB hn
  cases hall : allQ zs
  · have HR := Lib.hid (HNO.out (by rw [hall, Bool.and_false]))
    rw [hall] at hAA
    clear h h2 hl hl2 hall own0 HB0
    go_enter Try.func44, Try.ntmps44
    go_wp2_with fail
    refine hAA.mono ?_
    rintro e w1 ⟨rfl, hb1⟩
    have hsz := hb1.size
    go_wp2
    go_ret
    exact ⟨_, rfl, by rw [HR.out]; exact (own_bare .i64 3 w1).mono hsz, hb1.alloc hsz _⟩
  have HR : Hid (queR zs bs = queTo zs bs n) := Lib.hid (by rw [HYES.out (by omega) (by omega) hall, hl])
  rw [hall] at hAA
  have H := Lib.hid h
  have H2 := Lib.hid h2
  have HAL := Lib.hid hall
  have HAA := Lib.hid hAA
  clear own0 HB0 HNO HYES h h2 hl hl2 hall hAA
  refine (callsIn_wide (n := 4)).1 ?_
  refine callsIn_of_wp_marks Try.func44 rfl trivial ?_ rfl
  simp only [Try.ntmps44, List.size_toArray, List.length_cons, List.length_nil, Nat.reduceAdd, Nat.reduceSub, Array.replicate_succ, Array.replicate_zero, List.push_toArray, List.append_toArray, List.nil_append, List.cons_append]
  gi_wp2
  refine ⟨trivial, (callsIn_wide.2 HAA.out).mono ?_⟩
  rintro e w1 ⟨rfl, hb1⟩
  have hs1 := hb1.size
  gi_wp2_with (gi_at_make; refine wpListIn_mkF rfl _ _ 23 rfl .i64 3 8 Try.underlying23 info_i64 (by decide) _ _ n rfl rfl rfl rfl (by omega) ?_; intro w2 hown2 hgrow2)
  refine ⟨trivial, (callsIn_wide.2 (impl_queueOver A n c A2 n c2 _)).mono ?_⟩
  rintro e w' ⟨rfl, rfl⟩
  obtain ⟨w3, hw3⟩ : ∃ w3, w3 = ((w2.alloc (.cells #[.slice (some ⟨w1.heap.size, 0, none⟩) n n] 23)).alloc (.cells #[.slice A n c] 23)).alloc (.cells #[.slice A2 n c2] 60) := ⟨_, rfl⟩
  obtain ⟨q0, q1, q2, hs3, hb3⟩ := three_blocks hw3
  have hb2 : Below w.heap.size w w2 := hb1.grown hgrow2 hs1 (fun k e => by cases e)
  have hB3 : Below w.heap.size w w3 := hb2.trans (hb3.mono hb2.size)
  have ho3 : Own .i64 3 w3 w.heap.size (.slice (some ⟨w1.heap.size, 0, none⟩) n n) (rowQ zs bs ([] : List (IdxQ n))) := (hown2.mono hs1).below hb3
  have lg : w1.heap.size < w2.heap.size := (hown2.block _ rfl).2
  have HZ3 := (H.out.keep (w' := w3) fun p hp => hB3.cell (by omega)).up (show B ≤ w.heap.size by omega)
  have HB3 := (H2.out.keep (w' := w3) (hB3.mono hB2)).up (show B2 ≤ w.heap.size by omega)
  have hst := que_stops (4 - 1) (by omega) (w2.heap.size + 1) (w2.heap.size + 1 + 1) w.heap.size A n c zs A2 c2 bs (by omega) HAL.out w3 q1 q2 HZ3 HB3 hB3.size
  have hz2 : ((w2.alloc (.cells #[.slice (some ⟨w1.heap.size, 0, none⟩) n n] 23)).heap.size) = w2.heap.size + 1 := heap_size_allocF _ _
  rw [hz2]
  gi_wp2
  rw [← hw3]
  clear hw3 hown2 hgrow2 hb1 hb2 hb3 q1 q2 HZ3 HB3
  refine wpIn_rangeFunc_ownF rfl (by omega) (gf := 135) (lb := #[.pointer (some ⟨w2.heap.size + 1, 0, none⟩), .pointer (some ⟨w2.heap.size + 1 + 1, 0, none⟩)]) rfl trivial (enters_of Try.func135 (by kernel_rfl) rfl)
    hst keepQ_t (keepQ_b hB3.size (by omega)) (Below.refl _ _) (fun _ => rfl)
    (fun pre W => (W.heap[w2.heap.size]? = some (.cells #[.slice (some ⟨w1.heap.size, 0, none⟩) n n] 23) ∧ Own .i64 3 W w.heap.size (.slice (some ⟨w1.heap.size, 0, none⟩) n n) (rowQ zs bs pre)) ∧ Below w.heap.size w W)
    (fun _ _ _ => False)
    (OwnFrom.and (Own.from (fun s A B row hs hg hr => ⟨box_abide hs.1 hg hr, own_abide hs.2 hg hr⟩) _) (ownFrom_below (Nat.le_refl _) (by omega)))
    (fun _ _ _ _ _ hs _ _ => hs)
    ⟨⟨q0, ho3⟩, hB3⟩
    (fun x => { tmps := #[.slice A n c, .slice A2 n c2, undef, undef, .slice none 0 0, .pointer (some ⟨w2.heap.size, 0, none⟩), .int .i64 (x.val : Int), .int .i64 (queK zs bs (x.val + 1)), .slice A n c, .int .i64 (n : Int), .slice A2 n c2, .int .i64 (n : Int), .bool false, .bool false, .slice A n c, .int .i64 (n : Int), .bool false, .bool false, .bool false, .slice A n c, .bool true, .bool false, .bool false, undef, .slice A n c, .int .i64 (n : Int), .slice (some ⟨w1.heap.size, 0, none⟩) n n, .slice A n c, .slice A2 n c2, .func (.func 135) #[] #[.pointer (some ⟨w2.heap.size + 1, 0, none⟩), .pointer (some ⟨w2.heap.size + 1 + 1, 0, none⟩)], .int .i64 (x.val : Int), .int .i64 (queK zs bs (x.val + 1)), undef, undef, undef, undef, undef], defers := [] }) ?assign ?body ?done ?stop
  case assign =>
    intro l x W K hK
    simp only [encQ]
    gi_wp2
    exact hK
  case body =>
    rintro l pre x W ⟨⟨hbx, ho⟩, hBW⟩ _
    have HSN := Lib.hid (rowQ_snoc zs bs pre x)
    have hlr := rowQ_len zs bs pre
    obtain ⟨k, hk⟩ := x
    simp only at *
    have x0 := cellQ hbx
    have c0 := ho.cell k (by rw [hlr]; exact hk)
    have f0 := ho.free k
    have i1 : (0 : Int) ≤ (k : Int) := by omega
    have i2 : (k : Int) < (n : Int) := by omega
    have lb : w2.heap.size < W.heap.size := lt_of_block hbx
    have lr : w1.heap.size < W.heap.size := (ho.block _ rfl).2
    have hs := ho.stored k (queK zs bs (k + 1))
    have HO := Lib.hid hs
    have HBX := Lib.hid hbx
    have HBW := Lib.hid hBW
    have HKB : Hid (∀ v : Value, W.heap.size ≤ (W.setCell ⟨w1.heap.size, k, none⟩ v).heap.size) := Lib.hid (fun v => ((Below.refl 0 W).setCell (p := ⟨w1.heap.size, k, none⟩) (Nat.zero_le _) v).size)
    clear hs ho hbx hBW hlr hst
    generalize queK zs bs (k + 1) = q at *
    gi_wp2
    have hn1 : w2.heap.size ≠ w1.heap.size := by omega
    have hn2 : w2.heap.size + 1 + 1 ≠ w1.heap.size := by omega
    refine ⟨KeepsOthers.setCell _ _ _, ⟨(Below.refl _ W).setCell (p := ⟨w1.heap.size, k, none⟩) hs1 _, heap_setCell_other W ⟨w1.heap.size, k, none⟩ _ _ hn2⟩, ⟨(heap_setCell_other W ⟨w1.heap.size, k, none⟩ _ _ hn1).trans HBX.out, by rw [HSN.out]; exact HO.out⟩, HBW.out.setCell (p := ⟨w1.heap.size, k, none⟩) hs1 _⟩
  case done =>
    rintro D ys W hD rfl ⟨⟨hbx, ho⟩, hBW⟩ hK
    rw [rowQ_all] at ho
    have x0 := cellQ hbx
    have lb : w2.heap.size < W.heap.size := lt_of_block hbx
    have HO := Lib.hid ho
    have HBW := Lib.hid hBW
    clear ho hst hBW
    gi_wp2
    refine ⟨by simp, .inl ⟨_, _, rfl, run_takeDeferred hK, ?_⟩⟩
    exact ⟨_, results_tmp rfl _ _ _, ⟨_, rfl, by rw [HR.out]; exact own_abide HO.out (grownBy_putObj' W D _) (fun r e => by cases e; exact ⟨_, hK, rfl⟩), HBW.out.trans (belowK_b (w := w) (Nat.le_refl _) W D _ _ (by omega) hK rfl rfl)⟩⟩
  case stop =>
    rintro D c pre W _ _ h _
    exact h.elim
end Go.Proofs.Ytmcoeafkbpeelaa

/- QueueRun as exact laws meet it. -/
namespace Go.Proofs.Ytmcoeafkbpeelaa
open Go.RowKit
set_option linter.unusedVariables false

theorem sp_QueueRun (A0 : Option Addr) (n0 c0 : Nat) (zs0 : List Int) (A1 : Option Addr) (n1 c1 : Nat) (zs1 : List Bool) (w : World) (h0 : Sl .i64 w A0 n0 c0 zs0) (hs0 : n0 ≤ 1048576) (h1 : SlB w A1 n1 c1 zs1) (hs1 : n1 ≤ 1048576) (r : List Int) (hr : queR zs0 zs1 = r) :
    Calls Try.prog 42 #[.slice A0 n0 c0, .slice A1 n1 c1] w fun e w' => ∃ v, e = .returned v ∧ Own .i64 3 w' w.heap.size v r ∧ Below w.heap.size w w' ∧ r.length ≤ 1048576 := by
  subst hr
  have hl := h0.len
  have := queR_len zs0 zs1
  exact (spec_QueueRun A0 n0 c0 _ zs0 A1 n1 c1 _ zs1 w h0.ints (Nat.le_refl _) (by omega) h1.bls (Nat.le_refl _) (by omega)).mono fun e w' ⟨v, h1, h2, h3⟩ => ⟨v, h1, h2, h3, by omega⟩
theorem im_QueueRun (A0 : Option Addr) (n0 c0 : Nat) (zs0 : List Int) (A1 : Option Addr) (n1 c1 : Nat) (zs1 : List Bool) (w : World) (h0 : Sl .i64 w A0 n0 c0 zs0) (hs0 : n0 ≤ 1048576) (h1 : SlB w A1 n1 c1 zs1) (hs1 : n1 ≤ 1048576) (r : List Int) (hr : queR zs0 zs1 = r) :
    Calls Try.prog 44 #[.slice A0 n0 c0, .slice A1 n1 c1] w fun e w' => ∃ v, e = .returned v ∧ Own .i64 3 w' w.heap.size v r ∧ Below w.heap.size w w' ∧ r.length ≤ 1048576 := by
  subst hr
  have hl := h0.len
  have := queR_len zs0 zs1
  exact (impl_QueueRun A0 n0 c0 _ zs0 A1 n1 c1 _ zs1 w h0.ints (Nat.le_refl _) (by omega) h1.bls (Nat.le_refl _) (by omega)).mono fun e w' ⟨v, h1, h2, h3⟩ => ⟨v, h1, h2, h3, by omega⟩
end Go.Proofs.Ytmcoeafkbpeelaa

/- A law's arguments that are rows of bools. -/
namespace Go.Proofs.Ytmcoeafkbpeelaa
open Go.ChangeShapes Go.WideShapes Go.ChangeAt Go.RowKit

section
variable {H : Type} {enc : TypeId × Value → H} {P : Program}
/-- A slice of bools that came in. -/
theorem arg_bools {t e : TypeId} {W : World} {base : Nat} {v : Value} {d : DataW H} {ps : List MemPlace} (ht : P.underlying t = some (.slice e)) (he : P.underlying e = some .bool) (hc : P.cellsOf e = 1)
    (hval : Value.okWide P W .any base t v) (hd : DataW.Trod enc P W 0 (fun _ => true) true t v d ps) (hlt : ∀ x ∈ ps, x.block < W.heap.size) :
    ∃ (A : Option Addr) (n c : Nat) (zs : List Bool), v = .slice A n c ∧ (BlsAt W W.heap.size A n zs ∧ True ∧ n ≤ c ∧ c ≤ maxLen) := by
  obtain ⟨a, len, cap, rfl⟩ := okWide_slice ht hval
  obtain ⟨fuel, hf⟩ := hd
  rcases Go.Deep.open_bools ht he hc hf with ⟨h1, _⟩ | ⟨a', len', cap', Bf, h1, _, hl, hm, hx, hcell⟩
  · have h1' : [Value.slice a len cap] = [Value.slice none 0 0] := h1
    simp only [List.cons.injEq, and_true] at h1'
    exact ⟨none, 0, 0, [], h1', ⟨rfl, fun h => absurd h (by omega)⟩, trivial, Nat.le_refl _, Nat.zero_le _⟩
  · have h1' : [Value.slice a len cap] = [Value.slice (some a') len' cap'] := h1
    simp only [List.cons.injEq, and_true] at h1'
    refine ⟨some a', len', cap', (List.range len').map Bf, h1', ⟨by simp, fun hn => ⟨a', rfl, ?_, fun j hj => ?_⟩⟩, trivial, hl, hm⟩
    · have hmem : MemPlace.cell a'.block (a'.off + 0) ∈ ps := by
        have e := congrArg Prod.snd hx
        simp only at e
        rw [e]
        exact List.mem_map.2 ⟨0, List.mem_range.2 (by omega), rfl⟩
      exact hlt _ hmem
    · rw [hcell j (by omega)]
      simp [bAt, List.getD_eq_getElem?_getD, hj]
end
end Go.Proofs.Ytmcoeafkbpeelaa

/- Chapter 6's model: full stages. -/
namespace Go.Proofs.Ytmcoeafkbpeelaa
open Go.RowKit
set_option linter.unusedVariables false

theorem putI_length (zs : List Int) (n : Int) : (putI zs n).length ≤ zs.length + 1 := by
  unfold putI
  split
  · omega
  · rw [List.length_append, List.length_cons, List.length_take, List.length_drop]
    omega
/-- the i-th path is in the stage, or may not be put into it. -/
def fullAt (ps : List Pth) (zs : List Int) (i : Nat) : Bool := hasI zs (pAt ps i).id || !isTog ps (putI zs (pAt ps i).id)
/-- what IsFullStage answers. -/
def isFull (ps : List Pth) (zs : List Int) : Bool := (List.range ps.length).all (fullAt ps zs) && isTog ps zs
theorem isFull_no {ps : List Pth} {zs : List Int} {i : Nat} (hi : i < ps.length) (h : fullAt ps zs i = false) : isFull ps zs = false := by
  unfold isFull
  have : (List.range ps.length).all (fullAt ps zs) = false := by
    rw [Bool.eq_false_iff]
    intro ha
    have := List.all_eq_true.1 ha i (List.mem_range.2 hi)
    rw [h] at this
    cases this
  rw [this]
  rfl
theorem isFull_end {ps : List Pth} {zs : List Int} (h : ∀ i, i < ps.length → fullAt ps zs i = true) : isFull ps zs = isTog ps zs := by
  unfold isFull
  have : (List.range ps.length).all (fullAt ps zs) = true := List.all_eq_true.2 fun k hk => h k (List.mem_range.1 hk)
  rw [this]
  simp
/-- the first k paths tried one by one. -/
def addTo (ps : List Pth) (zs : List Int) : Nat → List Int
  | 0 => zs
  | k + 1 => if isTog ps (putI (addTo ps zs k) (pAt ps k).id) then putI (addTo ps zs k) (pAt ps k).id else addTo ps zs k
/-- what AddToStage answers. -/
def addS (ps : List Pth) (zs : List Int) : List Int := if isTog ps zs then addTo ps zs ps.length else zs
theorem addTo_length (ps : List Pth) (zs : List Int) : ∀ k, (addTo ps zs k).length ≤ zs.length + k
  | 0 => Nat.le_refl _
  | k + 1 => by
    have ih := addTo_length ps zs k
    have h := putI_length (addTo ps zs k) (pAt ps k).id
    unfold addTo
    split <;> omega
end Go.Proofs.Ytmcoeafkbpeelaa

/- Chapter 6's model: lists of stages, read. -/
namespace Go.Proofs.Ytmcoeafkbpeelaa
open Go.RowKit
set_option linter.unusedVariables false

/-- A slice of slices of numbers, all in blocks below B. -/
def SSAt (w : World) (B : Nat) (A : Option Addr) (n : Nat) (zss : List (List Int)) : Prop :=
  zss.length = n ∧ (0 < n → ∃ ad, A = some ad ∧ ad.block < B ∧ ∀ j, j < n → ∃ A' m c, w.cell? (ad.add j) = some (.slice A' m c) ∧ IntsAt .i64 w B A' m (zss.getD j []) ∧ m ≤ c ∧ (A' = none → m = 0 ∧ c = 0))
theorem SSAt.at {w : World} {B : Nat} {A : Option Addr} {n : Nat} {zss : List (List Int)} (h : SSAt w B A n zss) {j : Nat} (hj : j < n) :
    ∃ ad A' m c, A = some ad ∧ (ad.add j).block < B ∧ w.cell? (ad.add j) = some (.slice A' m c) ∧ IntsAt .i64 w B A' m (zss.getD j []) ∧ m ≤ c ∧ (A' = none → m = 0 ∧ c = 0) := by
  obtain ⟨ad, e, hb, hc⟩ := h.2 (by omega)
  obtain ⟨A', m, c, h1, h2, h3, h4⟩ := hc j hj
  exact ⟨ad, A', m, c, e, by rw [add_block]; exact hb, h1, h2, h3, h4⟩
/-- a path is in one of the stages. -/
def inSome (zss : List (List Int)) (id : Int) : Bool := zss.any (fun zs => hasI zs id)
/-- what Covers answers. -/
def coversP (ps : List Pth) (zss : List (List Int)) : Bool := zss.all (isTog ps) && (List.range ps.length).all (fun i => inSome zss (pAt ps i).id) && arePs ps
theorem covers_tog {ps : List Pth} {zss : List (List Int)} {j : Nat} (hj : j < zss.length) (h : isTog ps (zss.getD j []) = false) : coversP ps zss = false := by
  unfold coversP
  have : zss.all (isTog ps) = false := by
    rw [Bool.eq_false_iff]
    intro ha
    have := List.all_eq_true.1 ha (zss.getD j []) (by rw [List.getD_eq_getElem?_getD, List.getElem?_eq_getElem hj]; exact List.getElem_mem hj)
    rw [h] at this
    cases this
  rw [this]
  rfl
theorem covers_out {ps : List Pth} {zss : List (List Int)} {j : Nat} (hj : j < ps.length) (h : inSome zss (pAt ps j).id = false) : coversP ps zss = false := by
  unfold coversP
  have : (List.range ps.length).all (fun i => inSome zss (pAt ps i).id) = false := by
    rw [Bool.eq_false_iff]
    intro ha
    have := List.all_eq_true.1 ha j (List.mem_range.2 hj)
    rw [h] at this
    cases this
  rw [this]
  simp
theorem covers_end {ps : List Pth} {zss : List (List Int)} (h1 : ∀ j, j < zss.length → isTog ps (zss.getD j []) = true) (h2 : ∀ i, i < ps.length → inSome zss (pAt ps i).id = true) : coversP ps zss = arePs ps := by
  unfold coversP
  have a : zss.all (isTog ps) = true := List.all_eq_true.2 fun zs hz => by
    obtain ⟨j, hj, e⟩ := List.getElem_of_mem hz
    have := h1 j hj
    rw [List.getD_eq_getElem?_getD, List.getElem?_eq_getElem hj] at this
    rw [← e]
    exact this
  have b : (List.range ps.length).all (fun i => inSome zss (pAt ps i).id) = true := List.all_eq_true.2 fun k hk => h2 k (List.mem_range.1 hk)
  rw [a, b]
  simp
theorem inSome_take {zss : List (List Int)} {k : Nat} (id : Int) (hk : k < zss.length) : inSome (zss.take (k + 1)) id = (inSome (zss.take k) id || hasI (zss.getD k []) id) := by
  unfold inSome
  rw [List.take_add_one, List.any_append, List.getElem?_eq_getElem hk, List.getD_eq_getElem?_getD, List.getElem?_eq_getElem hk]
  simp
end Go.Proofs.Ytmcoeafkbpeelaa

/- Slices of slices of numbers of a call's own. -/
namespace Go.Proofs.Ytmcoeafkbpeelaa
open Go.RowKit
set_option linter.unusedVariables false

theorem info_ints : (Try.prog.info? 23).map (fun i => (i.zero, i.size, i.bytes)) = some (some (.slice none 0 0), 1, 24) := by kernel_rfl
/-- v is a slice of the call's own (a block from lo on), of slices of the call's own. -/
def OwnSS (w : World) (lo : Nat) (v : Value) (zss : List (List Int)) : Prop :=
  ∃ vs : List Value, w.ownsRow lo 23 1 v zss.length vs ∧ ∀ j, j < zss.length → ∃ u, vs[j]? = some u ∧ Own .i64 3 w lo u (zss.getD j [])
/-- rows of other types lie in other blocks. -/
theorem own_apart {w : World} {lo lo2 : Nat} {u v : Value} {zs : List Int} {n : Nat} {vs : List Value} (h : Own .i64 3 w lo u zs) (h2 : w.ownsRow lo2 23 1 v n vs) : ∀ g, u.ownBlock = some g → v.ownBlock ≠ some g := by
  intro g hg e
  rcases h.2 with ⟨rfl, _⟩ | ⟨g1, cap, cur, rfl, hb, hg1, r⟩
  · cases hg
  · rcases h2.2 with ⟨rfl, _⟩ | ⟨g2, cap2, cur2, rfl, hb2, hg2, r2⟩
    · cases e
    · have e1 : g1 = g := Option.some.inj hg
      have e2 : g2 = g := Option.some.inj e
      subst e1
      subst e2
      rw [hg1] at hg2
      injection hg2 with hg2
      injection hg2 with _ ht
      exact absurd ht (by decide)
theorem OwnSS.apart {w : World} {lo lo2 : Nat} {u v : Value} {zs : List Int} {zss : List (List Int)} (h : OwnSS w lo2 v zss) (h2 : Own .i64 3 w lo u zs) : ∀ g, u.ownBlock = some g → v.ownBlock ≠ some g := by
  obtain ⟨vs, hr, _⟩ := h
  exact own_apart h2 hr
theorem OwnSS.mono {w : World} {lo lo' : Nat} {v : Value} {zss : List (List Int)} (h : OwnSS w lo v zss) (hl : lo' ≤ lo) : OwnSS w lo' v zss := by
  obtain ⟨vs, hr, hi⟩ := h
  refine ⟨vs, ownr_mono hr hl, fun j hj => ?_⟩
  obtain ⟨u, h1, h2⟩ := hi j hj
  exact ⟨u, h1, h2.mono hl⟩
theorem OwnSS.below {w w' : World} {lo : Nat} {v : Value} {zss : List (List Int)} (h : OwnSS w lo v zss) (hb : Below w.heap.size w w') : OwnSS w' lo v zss := by
  obtain ⟨vs, hr, hi⟩ := h
  refine ⟨vs, ownr_below hr hb, fun j hj => ?_⟩
  obtain ⟨u, h1, h2⟩ := hi j hj
  exact ⟨u, h1, h2.below hb⟩
theorem OwnSS.alloc {w : World} {lo : Nat} {v : Value} {zss : List (List Int)} (h : OwnSS w lo v zss) (o : Obj) : OwnSS (w.alloc o) lo v zss := h.below ((Below.refl _ _).alloc (Nat.le_refl _) _)
theorem OwnSS.sliced {w : World} {lo : Nat} {v : Value} {zss : List (List Int)} (h : OwnSS w lo v zss) : ∃ A c, v = .slice A zss.length c := by
  obtain ⟨vs, hr, _⟩ := h
  exact ownr_sliced hr
theorem OwnSS.block {w : World} {lo : Nat} {v : Value} {zss : List (List Int)} (h : OwnSS w lo v zss) : ∀ g, v.ownBlock = some g → lo ≤ g ∧ g < w.heap.size := by
  obtain ⟨vs, hr, _⟩ := h
  exact ownr_block hr
theorem OwnSS.hollow {W : World} {lo g : Nat} (h : W.heap[g]? = some (.cells #[] 23 (0, 0))) (hl : lo ≤ g) : OwnSS W lo (.slice (some ⟨g, 0, none⟩) 0 0) [] :=
  ⟨[], ⟨rfl, .inr ⟨g, 0, #[], rfl, hl, h, Nat.le_refl _, by decide, rfl, rfl⟩⟩, fun j hj => absurd hj (by simp)⟩
/-- a row of the call's own, put behind. -/
theorem OwnSS.put {w w1 w' : World} {lo : Nat} {v v' u : Value} {zss : List (List Int)} {zs : List Int} (vs : List Value) (hr : w.ownsRow lo 23 1 v zss.length vs) (hi : ∀ j, j < zss.length → ∃ u, vs[j]? = some u ∧ Own .i64 3 w lo u (zss.getD j [])) (h2 : Own .i64 3 w lo u zs)
    (hb : Below w.heap.size w w1) (hr' : w'.ownsRow lo 23 1 v' (zss.length + 1) (vs ++ [u])) (hg : w1.grownBy w' v.ownBlock) : OwnSS w' lo v' (zss ++ [zs]) := by
  have hl : vs.length = zss.length := by have := hr.1; omega
  have hr1 := ownr_below hr hb
  have kept : ∀ {x : Value} {xs : List Int}, Own .i64 3 w lo x xs → Own .i64 3 w' lo x xs := fun hx => (hx.below hb).grown hg (own_apart (hx.below hb) hr1)
  refine ⟨vs ++ [u], by rw [List.length_append]; exact hr', fun j hj => ?_⟩
  rw [List.length_append, List.length_singleton] at hj
  by_cases e : j < zss.length
  · obtain ⟨x, h1, h3⟩ := hi j e
    refine ⟨x, by rw [List.getElem?_append_left (by omega)]; exact h1, ?_⟩
    rw [List.getD_eq_getElem?_getD, List.getElem?_append_left e, ← List.getD_eq_getElem?_getD]
    exact kept h3
  · obtain rfl : j = zss.length := by omega
    refine ⟨u, by rw [List.getElem?_append_right (by omega)]; simp [hl], ?_⟩
    rw [List.getD_eq_getElem?_getD, List.getElem?_append_right (by omega)]
    simpa using kept h2
theorem addS_length (ps : List Pth) (zs : List Int) : (addS ps zs).length ≤ zs.length + ps.length := by
  unfold addS
  split
  · exact addTo_length _ _ _
  · omega
/-- the stages laid for the first i paths, and the paths done by them. -/
def coverTo (ps : List Pth) : Nat → List (List Int) × List Int
  | 0 => ([], [])
  | i + 1 => if hasI (coverTo ps i).2 (pAt ps i).id then coverTo ps i else ((coverTo ps i).1 ++ [addS ps [(pAt ps i).id]], (addS ps [(pAt ps i).id]).foldl putI (coverTo ps i).2)
/-- what CoverOf answers. -/
def coverP (ps : List Pth) : List (List Int) := if arePs ps then (coverTo ps ps.length).1 else []
theorem foldl_putI_length (s d : List Int) : (s.foldl putI d).length ≤ d.length + s.length := by
  induction s generalizing d with
  | nil => exact Nat.le_refl _
  | cons x s ih =>
    have h1 := ih (putI d x)
    have h2 := putI_length d x
    rw [List.foldl_cons, List.length_cons]
    omega
theorem coverTo_len (ps : List Pth) : ∀ i, (coverTo ps i).1.length ≤ i ∧ (coverTo ps i).2.length ≤ i * (1 + ps.length)
  | 0 => ⟨Nat.le_refl _, Nat.zero_le _⟩
  | i + 1 => by
    obtain ⟨h1, h2⟩ := coverTo_len ps i
    have hs := addS_length ps [(pAt ps i).id]
    have hf := foldl_putI_length (addS ps [(pAt ps i).id]) (coverTo ps i).2
    have e : (i + 1) * (1 + ps.length) = i * (1 + ps.length) + (1 + ps.length) := Nat.succ_mul _ _
    rw [List.length_singleton] at hs
    unfold coverTo
    split
    · exact ⟨by omega, by omega⟩
    · refine ⟨?_, ?_⟩
      · show ((coverTo ps i).1 ++ [_]).length ≤ _
        rw [List.length_append, List.length_singleton]
        omega
      · show (List.foldl putI _ _).length ≤ _
        omega
end Go.Proofs.Ytmcoeafkbpeelaa

/- The laws' helpers for slices of slices of numbers. -/
namespace Go.Proofs.Ytmcoeafkbpeelaa
open Go.RowKit
set_option linter.unusedVariables false

/-- no two of these lie in one block. -/
def ApartL (us : List Value) : Prop := ∀ (i j : Nat) (u u' : Value), i ≠ j → us[i]? = some u → us[j]? = some u' → ∀ g, u.ownBlock = some g → u'.ownBlock ≠ some g
theorem ApartL.nil : ApartL [] := fun i j u u' _ h => by simp at h
theorem ApartL.snoc {us : List Value} {u : Value} {b : Nat} (h : ApartL us) (h1 : ∀ x ∈ us, ∀ g, x.ownBlock = some g → g < b) (h2 : ∀ g, u.ownBlock = some g → b ≤ g) : ApartL (us ++ [u]) := by
  intro i j x y hij hx hy g hg e
  rw [List.getElem?_append] at hx hy
  split at hx
  · rename_i hi
    split at hy
    · exact h i j x y hij hx hy g hg e
    · rename_i hj
      have : j - us.length = 0 := by
        have := (List.getElem?_eq_some_iff.1 hy).1
        simp at this; omega
      rw [this] at hy
      simp at hy
      subst hy
      have := h1 x (List.mem_of_getElem? hx) g hg
      have := h2 g e
      omega
  · rename_i hi
    have hi0 : i - us.length = 0 := by
      have := (List.getElem?_eq_some_iff.1 hx).1
      simp at this; omega
    rw [hi0] at hx
    simp at hx
    subst hx
    split at hy
    · have := h1 y (List.mem_of_getElem? hy) g e
      have := h2 g hg
      omega
    · rename_i hj
      have : j - us.length = 0 := by
        have := (List.getElem?_eq_some_iff.1 hy).1
        simp at this; omega
      omega
/-- a row of rows of the call's own; each row in its own block. -/
structure OwnD (w : World) (lo : Nat) (v : Value) (us : List Value) (zss : List (List Int)) : Prop where
  row : w.ownsRow lo 23 1 v zss.length us
  each : ∀ j, j < zss.length → ∃ u, us[j]? = some u ∧ Own .i64 3 w lo u (zss.getD j [])
  apart : ApartL us
theorem OwnD.len {w : World} {lo : Nat} {v : Value} {us : List Value} {zss : List (List Int)} (h : OwnD w lo v us zss) : us.length = zss.length := by have := h.row.1; omega
theorem OwnD.ss {w : World} {lo : Nat} {v : Value} {us : List Value} {zss : List (List Int)} (h : OwnD w lo v us zss) : OwnSS w lo v zss := ⟨us, h.row, h.each⟩
theorem OwnD.below {w w' : World} {lo : Nat} {v : Value} {us : List Value} {zss : List (List Int)} (h : OwnD w lo v us zss) (hb : Below w.heap.size w w') : OwnD w' lo v us zss :=
  ⟨ownr_below h.row hb, fun j hj => by obtain ⟨u, h1, h2⟩ := h.each j hj; exact ⟨u, h1, h2.below hb⟩, h.apart⟩
theorem OwnD.mono {w : World} {lo lo' : Nat} {v : Value} {us : List Value} {zss : List (List Int)} (h : OwnD w lo v us zss) (hl : lo' ≤ lo) : OwnD w lo' v us zss :=
  ⟨ownr_mono h.row hl, fun j hj => by obtain ⟨u, h1, h2⟩ := h.each j hj; exact ⟨u, h1, h2.mono hl⟩, h.apart⟩
theorem OwnSS.rows {w : World} {lo : Nat} {A : Option Addr} {n c : Nat} {zss : List (List Int)} (h : OwnSS w lo (.slice A n c) zss) : SSAt w w.heap.size A n zss := by
  obtain ⟨vs, hr, hi⟩ := h
  have hn := ownr_len hr
  subst hn
  refine ⟨rfl, fun h0 => ?_⟩
  have hcl := (ownr_cells hr).2 (by omega)
  obtain ⟨ad, e, hb, hc⟩ := hcl
  refine ⟨ad, e, hb, fun j hj => ?_⟩
  obtain ⟨u, h1, h2⟩ := hi j hj
  obtain ⟨A', c', rfl⟩ := h2.sliced
  refine ⟨A', _, c', hc j _ h1, ?_, (ownr_cap h2).1, ownr_nilcap h2⟩
  exact h2.ints
theorem OwnSS.cap {w : World} {lo : Nat} {A : Option Addr} {n c : Nat} {zss : List (List Int)} (h : OwnSS w lo (.slice A n c) zss) : (A = none → n = 0 ∧ c = 0) ∧ n ≤ c ∧ c ≤ maxLen := by
  obtain ⟨vs, hr, hi⟩ := h
  exact ⟨ownr_nilcap hr, ownr_cap hr⟩
theorem SSAt.keep {w w' : World} {B : Nat} {A : Option Addr} {n : Nat} {zss : List (List Int)} (h : SSAt w B A n zss) (hk : ∀ p : Addr, p.block < B → w'.cell? p = w.cell? p) : SSAt w' B A n zss := by
  refine ⟨h.1, fun h0 => ?_⟩
  obtain ⟨ad, e, hb, hc⟩ := h.2 h0
  refine ⟨ad, e, hb, fun j hj => ?_⟩
  obtain ⟨A', m, c, h1, h2, h3, h4⟩ := hc j hj
  exact ⟨A', m, c, (hk _ (by rw [add_block]; exact hb)).trans h1, h2.keep hk, h3, h4⟩
theorem SSAt.up {w : World} {B B' : Nat} {A : Option Addr} {n : Nat} {zss : List (List Int)} (h : SSAt w B A n zss) (hB : B ≤ B') : SSAt w B' A n zss := by
  refine ⟨h.1, fun h0 => ?_⟩
  obtain ⟨ad, e, hb, hc⟩ := h.2 h0
  refine ⟨ad, e, by omega, fun j hj => ?_⟩
  obtain ⟨A', m, c, h1, h2, h3, h4⟩ := hc j hj
  exact ⟨A', m, c, h1, h2.up hB, h3, h4⟩
theorem made_nils (n : Nat) : (madeCells (Value.slice none 0 0).cells (n * 1)).toList = List.replicate n (Value.slice none 0 0) := by
  simp only [madeCells, Value.cells]
  apply List.ext_getElem?
  intro i
  simp only [Array.toList_map, List.getElem?_map, Nat.mul_one]
  by_cases h : i < n
  · simp [h, Nat.mod_one]
  · simp [h]
theorem set_next (us : List Value) (n : Nat) (u : Value) (h : us.length < n) : (us ++ List.replicate (n - us.length) (Value.slice none 0 0)).set us.length u = (us ++ [u]) ++ List.replicate (n - (us ++ [u]).length) (Value.slice none 0 0) := by
  rw [List.set_append_right _ _ (Nat.le_refl _), Nat.sub_self, List.length_append, List.length_singleton]
  have e : n - us.length = (n - (us.length + 1)) + 1 := by omega
  rw [e, List.replicate_succ, List.set_cons_zero]
  simp
theorem apart_row {w : World} {lo lo2 : Nat} {u v : Value} {zs : List Int} {n : Nat} {vs : List Value} (h : Own .i64 3 w lo u zs) (h2 : w.ownsRow lo2 23 1 v n vs) : ∀ g, u.ownBlock = some g → v.ownBlock ≠ some g := own_apart h h2
theorem sz_ints (A : Option Addr) (n c : Nat) (left : Int) (w : World) (hn : n ≤ 9223372036854775807) (hl : 0 ≤ left ∧ left ≤ 1048576) :
    Calls Try.prog 78 #[.slice A n c, .int .i64 left] w fun e w' => e = .returned (.int .i64 (if (n : Int) ≤ left then left - (n : Int) else -1)) ∧ w = w' := by
  obtain ⟨l1, l2⟩ := hl
  by_cases h : (n : Int) ≤ left
  · rw [if_pos h]
    go_enter Try.func78, Try.ntmps78
    go_wp2
    go_ret
    exact ⟨rfl, rfl⟩
  · rw [if_neg h]
    go_enter Try.func78, Try.ntmps78
    go_wp2
    go_ret
    exact ⟨rfl, rfl⟩
/-- a slice of slices that a call is given. -/
structure SlSS (w : World) (A : Option Addr) (n c : Nat) (zss : List (List Int)) : Prop where
  ss : SSAt w w.heap.size A n zss
  bare : A = none → n = 0 ∧ c = 0
  cap : n ≤ c ∧ c ≤ maxLen
/-- few and short. -/
def SmallSS (zss : List (List Int)) : Prop := zss.length ≤ 1048576 ∧ ∀ j, j < zss.length → (zss.getD j []).length ≤ 1048576
theorem SmallSS.at {zss : List (List Int)} (h : SmallSS zss) (n M : Nat) (hn : n = zss.length) (hM : 1048576 ≤ M) : ∀ j, j < n → (zss.getD j []).length ≤ M := fun j hj => Nat.le_trans (h.2 j (by omega)) hM
/-- rows of the call's own, between two block numbers. -/
structure OwD (w : World) (lo hi : Nat) (v : Value) (us : List Value) (zss : List (List Int)) : Prop where
  own : OwnD w lo v us zss
  lt : ∀ g, v.ownBlock = some g → g < hi
  ltu : ∀ u ∈ us, ∀ g, u.ownBlock = some g → lo ≤ g ∧ g < hi
  top : hi ≤ w.heap.size
theorem OwnD.inner {w : World} {lo : Nat} {v : Value} {us : List Value} {zss : List (List Int)} (h : OwnD w lo v us zss) {u : Value} (hu : u ∈ us) : ∃ zs, Own .i64 3 w lo u zs := by
  obtain ⟨j, hj, rfl⟩ := List.getElem_of_mem hu
  have hl := h.len
  obtain ⟨x, h1, h2⟩ := h.each j (by omega)
  rw [List.getElem?_eq_getElem hj] at h1
  injection h1 with h1
  subst h1
  exact ⟨_, h2⟩
theorem OwD.new {w : World} {lo : Nat} {v : Value} {us : List Value} {zss : List (List Int)} (h : OwnD w lo v us zss) : OwD w lo w.heap.size v us zss :=
  ⟨h, fun g e => (ownr_block h.row g e).2, fun u hu g e => by obtain ⟨zs, ho⟩ := h.inner hu; exact ho.block g e, Nat.le_refl _⟩
theorem OwD.below {w w' : World} {lo hi : Nat} {v : Value} {us : List Value} {zss : List (List Int)} (h : OwD w lo hi v us zss) (hb : Below w.heap.size w w') : OwD w' lo hi v us zss := ⟨h.own.below hb, h.lt, h.ltu, Nat.le_trans h.top hb.size⟩
theorem OwD.ints {w : World} {lo hi : Nat} {A : Option Addr} {n c : Nat} {us : List Value} {zss : List (List Int)} (h : OwD w lo hi (.slice A n c) us zss) : SSAt w w.heap.size A n zss := h.own.ss.rows
theorem OwD.sl {w : World} {lo hi : Nat} {A : Option Addr} {n c : Nat} {us : List Value} {zss : List (List Int)} (h : OwD w lo hi (.slice A n c) us zss) : SlSS w A n c zss := ⟨h.ints, h.own.ss.cap.1, h.own.ss.cap.2⟩
theorem OwD.part {w w' : World} {lo hi l h' : Nat} {v : Value} {us : List Value} {zss : List (List Int)} (h : OwD w lo hi v us zss) (hp : Part l h' w w') (hd : hi ≤ l ∨ h' ≤ lo) : OwD w' lo hi v us zss := by
  refine ⟨⟨?_, fun j hj => ?_, h.own.apart⟩, h.lt, h.ltu, Nat.le_trans h.top hp.size⟩
  · refine ⟨h.own.row.1, ?_⟩
    rcases h.own.row.2 with h2 | ⟨g, cap, cur, rfl, hl, hg, r⟩
    · exact .inl h2
    · have hlt := h.lt g rfl
      have htop := h.top
      exact .inr ⟨g, cap, cur, rfl, hl, (hp.block g (by omega) (by omega)).trans hg, r⟩
  · obtain ⟨u, h1, h2⟩ := h.own.each j hj
    refine ⟨u, h1, h2.1, ?_⟩
    have hu := List.mem_of_getElem? h1
    rcases h2.2 with h3 | ⟨g, cap, cur, rfl, hl, hg, r⟩
    · exact .inl h3
    · have hlt := h.ltu _ hu g rfl
      have htop := h.top
      exact .inr ⟨g, cap, cur, rfl, hl, (hp.block g (by omega) (by omega)).trans hg, r⟩
/-- how many numbers the first k rows hold. -/
def tot (zss : List (List Int)) (k : Nat) : Nat := ((zss.take k).map List.length).sum
theorem tot_zero (zss : List (List Int)) : tot zss 0 = 0 := by simp [tot]
theorem tot_succ {zss : List (List Int)} {k : Nat} (h : k < zss.length) : tot zss (k + 1) = tot zss k + (zss.getD k []).length := by
  unfold tot
  rw [List.take_add_one, List.getElem?_eq_getElem h, List.map_append, List.sum_append, List.getD_eq_getElem?_getD, List.getElem?_eq_getElem h]
  simp
theorem tot_le {zss : List (List Int)} (h : SmallSS zss) : ∀ k, k ≤ zss.length → tot zss k ≤ k * 1048576
  | 0, _ => by rw [tot_zero]; exact Nat.zero_le _
  | k + 1, hk => by
    have ih := tot_le h k (by omega)
    have := h.2 k (by omega)
    rw [tot_succ (by omega)]
    omega
theorem tot_top {zss : List (List Int)} (h : SmallSS zss) {k : Nat} (hk : k ≤ zss.length) : tot zss k ≤ 1099511627776 := by
  have h1 := tot_le h k hk
  have h2 := h.1
  have : k * 1048576 ≤ 1048576 * 1048576 := Nat.mul_le_mul_right _ (by omega)
  omega
/-- the first k rows marked. -/
def mixS (s : Nat) (zss : List (List Int)) (k : Nat) : List (List Int) := (List.range zss.length).map fun j => if j < k then marks .i64 ((s + tot zss j : Nat) : Int) (zss.getD j []).length else zss.getD j []
theorem mixS_len (s : Nat) (zss : List (List Int)) (k : Nat) : (mixS s zss k).length = zss.length := by simp [mixS]
theorem mixS_at (s : Nat) (zss : List (List Int)) (k : Nat) {j : Nat} (h : j < zss.length) : (mixS s zss k).getD j [] = if j < k then marks .i64 ((s + tot zss j : Nat) : Int) (zss.getD j []).length else zss.getD j [] := by
  simp [mixS, List.getD_eq_getElem?_getD, h]
theorem mixS_row (s : Nat) (zss : List (List Int)) (k : Nat) {j : Nat} (h : j < zss.length) : ((mixS s zss k).getD j []).length = (zss.getD j []).length := by
  rw [mixS_at s zss k h]
  split
  · rw [marks_length]
  · rfl
theorem mixS_zero (s : Nat) (zss : List (List Int)) : mixS s zss 0 = zss := by
  apply List.ext_getElem?
  intro i
  by_cases h : i < zss.length
  · simp [mixS, h]
  · rw [List.getElem?_eq_none (by rw [mixS_len]; omega), List.getElem?_eq_none (by omega)]
/-- the same, where nothing is said of two rows' blocks. -/
structure OwE (w : World) (lo hi : Nat) (v : Value) (us : List Value) (zss : List (List Int)) : Prop where
  row : w.ownsRow lo 23 1 v zss.length us
  each : ∀ j, j < zss.length → ∃ u, us[j]? = some u ∧ Own .i64 3 w lo u (zss.getD j [])
  lt : ∀ g, v.ownBlock = some g → g < hi
  ltu : ∀ (j : Nat) (u : Value), us[j]? = some u → ∀ g, u.ownBlock = some g → lo ≤ g ∧ g < hi
  top : hi ≤ w.heap.size
theorem OwE.new {w : World} {lo : Nat} {v : Value} {us : List Value} {zss : List (List Int)} (hr : w.ownsRow lo 23 1 v zss.length us) (hi : ∀ j, j < zss.length → ∃ u, us[j]? = some u ∧ Own .i64 3 w lo u (zss.getD j [])) : OwE w lo w.heap.size v us zss :=
  ⟨hr, hi, fun g e => (ownr_block hr g e).2, fun j u hj g e => by
    have hl := hr.1
    obtain ⟨u', h1, h2⟩ := hi j (by have := (List.getElem?_eq_some_iff.1 hj).1; omega)
    rw [hj] at h1
    injection h1 with h1
    subst h1
    exact h2.block g e, Nat.le_refl _⟩
theorem OwE.below {w w' : World} {lo hi : Nat} {v : Value} {us : List Value} {zss : List (List Int)} (h : OwE w lo hi v us zss) (hb : Below w.heap.size w w') : OwE w' lo hi v us zss :=
  ⟨ownr_below h.row hb, fun j hj => by obtain ⟨u, h1, h2⟩ := h.each j hj; exact ⟨u, h1, h2.below hb⟩, h.lt, h.ltu, Nat.le_trans h.top hb.size⟩
theorem OwE.ints {w : World} {lo hi : Nat} {A : Option Addr} {n c : Nat} {us : List Value} {zss : List (List Int)} (h : OwE w lo hi (.slice A n c) us zss) : SSAt w w.heap.size A n zss := OwnSS.rows ⟨us, h.row, h.each⟩
theorem OwE.part {w w' : World} {lo hi l h' : Nat} {v : Value} {us : List Value} {zss : List (List Int)} (h : OwE w lo hi v us zss) (hp : Part l h' w w') (hd : hi ≤ l ∨ h' ≤ lo) : OwE w' lo hi v us zss := by
  refine ⟨?_, fun j hj => ?_, h.lt, h.ltu, Nat.le_trans h.top hp.size⟩
  · refine ⟨h.row.1, ?_⟩
    rcases h.row.2 with h2 | ⟨g, cap, cur, rfl, hl, hg, r⟩
    · exact .inl h2
    · have hlt := h.lt g rfl
      have htop := h.top
      exact .inr ⟨g, cap, cur, rfl, hl, (hp.block g (by omega) (by omega)).trans hg, r⟩
  · obtain ⟨u, h1, h2⟩ := h.each j hj
    refine ⟨u, h1, h2.1, ?_⟩
    rcases h2.2 with h3 | ⟨g, cap, cur, rfl, hl, hg, r⟩
    · exact .inl h3
    · have hlt := h.ltu j _ h1 g rfl
      have htop := h.top
      exact .inr ⟨g, cap, cur, rfl, hl, (hp.block g (by omega) (by omega)).trans hg, r⟩
end Go.Proofs.Ytmcoeafkbpeelaa

/- Parts of plans as Lean data; rows of them, and the laws' helpers for these. -/
namespace Go.Proofs.Ytmcoeafkbpeelaa
open Go.RowKit
set_option linter.unusedVariables false

/-- a part of a plan. -/
structure Prt where
  stage : List Int
  green : Int
deriving DecidableEq
def prt0 : Prt := ⟨[], 0⟩
def Prt.wf (p : Prt) : Prop := p.stage.length ≤ maxLen ∧ (∀ z ∈ p.stage, (Lit.int .i64 z).wf = true) ∧ (Lit.int .i64 p.green).wf = true
/-- the j-th part. -/
def prAt (ps : List Prt) (j : Nat) : Prt := ps.getD j prt0
theorem prAt_some {ps : List Prt} {k : Nat} {p : Prt} (h : ps[k]? = some p) : prAt ps k = p := by simp [prAt, List.getD, h]
theorem prAt_get {ps : List Prt} {k : Nat} (h : k < ps.length) : ps[k]? = some (prAt ps k) := by
  rw [List.getElem?_eq_getElem h]
  simp [prAt, List.getD, List.getElem?_eq_getElem h]
theorem prAt_mem {ps : List Prt} {k : Nat} (h : k < ps.length) : prAt ps k ∈ ps := List.mem_of_getElem? (prAt_get h)
theorem prAt_append {ps : List Prt} {q : Prt} {k : Nat} : prAt (ps ++ [q]) k = if k < ps.length then prAt ps k else if k = ps.length then q else prt0 := by
  unfold prAt
  rw [List.getD_eq_getElem?_getD, List.getElem?_append]
  by_cases h : k < ps.length
  · rw [if_pos h, if_pos h, List.getD_eq_getElem?_getD]
  · rw [if_neg h, if_neg h]
    by_cases e : k = ps.length
    · rw [if_pos e, e, Nat.sub_self]; rfl
    · rw [if_neg e, List.getElem?_eq_none (by simp; omega)]; rfl
/-- a part lies at q: its stage's slice and its green. -/
structure PrtAt (w : World) (q : Addr) (u : Value) (g : Int) : Prop where
  c0 : w.cell? q = some u
  c1 : w.cell? ⟨q.block, q.off + 1, none⟩ = some (.int .i64 g)
theorem PrtAt.keep {w w' : World} {q : Addr} {u : Value} {g : Int} (h : PrtAt w q u g) (e : w'.heap[q.block]? = w.heap[q.block]?) : PrtAt w' q u g :=
  ⟨(World.cell?_of_block e).trans h.c0, (World.cell?_of_block (a := ⟨q.block, q.off + 1, none⟩) e).trans h.c1⟩
theorem PrtAt.below {w w' : World} {q : Addr} {u : Value} {g : Int} {B : Nat} (h : PrtAt w q u g) (hb : Below B w w') (hB : q.block < B) : PrtAt w' q u g := h.keep (hb.block _ hB)
/-- A slice value that holds these parts, all in blocks below B. -/
def PrtsAt (w : World) (B : Nat) (A : Option Addr) (n : Nat) (ps : List Prt) : Prop :=
  ps.length = n ∧ (0 < n → ∃ ad, A = some ad ∧ ad.block < B ∧ ∀ j, j < n → ∃ A' m c, PrtAt w (ad.add (j * 2)) (.slice A' m c) (prAt ps j).green ∧ IntsAt .i64 w B A' m (prAt ps j).stage ∧ (m ≤ c ∧ c ≤ maxLen) ∧ (A' = none → m = 0 ∧ c = 0))
theorem PrtsAt.at {w : World} {B : Nat} {A : Option Addr} {n : Nat} {ps : List Prt} (h : PrtsAt w B A n ps) {j : Nat} (hj : j < n) :
    ∃ ad A' m c, A = some ad ∧ (ad.add (j * 2)).block < B ∧ PrtAt w (ad.add (j * 2)) (.slice A' m c) (prAt ps j).green ∧ IntsAt .i64 w B A' m (prAt ps j).stage ∧ (m ≤ c ∧ c ≤ maxLen) ∧ (A' = none → m = 0 ∧ c = 0) := by
  obtain ⟨ad, e, hb, hc⟩ := h.2 (by omega)
  obtain ⟨A', m, c, h1⟩ := hc j hj
  exact ⟨ad, A', m, c, e, by rw [add_block]; exact hb, h1⟩
theorem PrtsAt.keep {w w' : World} {B : Nat} {A : Option Addr} {n : Nat} {ps : List Prt} (h : PrtsAt w B A n ps) (hb : Below B w w') : PrtsAt w' B A n ps := by
  refine ⟨h.1, fun h0 => ?_⟩
  obtain ⟨ad, e, hB, hc⟩ := h.2 h0
  refine ⟨ad, e, hB, fun j hj => ?_⟩
  obtain ⟨A', m, c, h1, h2, h3, h4⟩ := hc j hj
  exact ⟨A', m, c, h1.below hb (by rw [add_block]; exact hB), h2.keep (fun p hp => hb.cell hp), h3, h4⟩
theorem PrtsAt.below {w w' : World} {B : Nat} {A : Option Addr} {n : Nat} {ps : List Prt} (h : PrtsAt w B A n ps) (hB : B ≤ w.heap.size) (hb : Below w.heap.size w w') : PrtsAt w' B A n ps := h.keep (hb.mono hB)
theorem PrtsAt.up {w : World} {B B' : Nat} {A : Option Addr} {n : Nat} {ps : List Prt} (h : PrtsAt w B A n ps) (hB : B ≤ B') : PrtsAt w B' A n ps := by
  refine ⟨h.1, fun h0 => ?_⟩
  obtain ⟨ad, e, hb, hc⟩ := h.2 h0
  refine ⟨ad, e, by omega, fun j hj => ?_⟩
  obtain ⟨A', m, c, h1, h2, h3, h4⟩ := hc j hj
  exact ⟨A', m, c, h1, h2.up hB, h3, h4⟩
/-- the cells of a row of parts. -/
def prow (xs : List (Value × Int)) : List Value := xs.flatMap fun x => [x.1, .int .i64 x.2]
theorem prow_length (xs : List (Value × Int)) : (prow xs).length = xs.length * 2 := flat_length (f := fun x : Value × Int => [x.1, .int .i64 x.2]) (fun _ => rfl) xs
theorem prow_at0 {xs : List (Value × Int)} {j : Nat} {x : Value × Int} (h : xs[j]? = some x) : (prow xs)[j * 2]? = some x.1 := by
  exact flat_get (f := fun x : Value × Int => [x.1, .int .i64 x.2]) (s := 2) (fun _ => rfl) xs j 0 x h (by decide)
theorem prow_at1 {xs : List (Value × Int)} {j : Nat} {x : Value × Int} (h : xs[j]? = some x) : (prow xs)[j * 2 + 1]? = some (.int .i64 x.2) := by
  exact flat_get (f := fun x : Value × Int => [x.1, .int .i64 x.2]) (s := 2) (fun _ => rfl) xs j 1 x h (by decide)
theorem prow_append (xs ys : List (Value × Int)) : prow (xs ++ ys) = prow xs ++ prow ys := by simp [prow]
theorem prow_next (xs : List (Value × Int)) (n : Nat) (z x : Value × Int) (h : xs.length < n) :
    ((prow xs ++ prow (List.replicate (n - xs.length) z)).set (xs.length * 2) x.1).set (xs.length * 2 + 1) (.int .i64 x.2) = prow (xs ++ [x]) ++ prow (List.replicate (n - (xs ++ [x]).length) z) := by
  obtain ⟨m, hm⟩ : ∃ m, n - xs.length = m + 1 := ⟨n - xs.length - 1, by omega⟩
  have e2 : n - (xs ++ [x]).length = m := by rw [List.length_append, List.length_singleton]; omega
  rw [e2, hm, List.replicate_succ]
  have e3 : prow (z :: List.replicate m z) = z.1 :: .int .i64 z.2 :: prow (List.replicate m z) := rfl
  rw [e3, set_at (prow_length xs)]
  have e4 : prow xs ++ x.1 :: .int .i64 z.2 :: prow (List.replicate m z) = (prow xs ++ [x.1]) ++ .int .i64 z.2 :: prow (List.replicate m z) := by simp
  rw [e4, set_at (by simp [prow_length]), prow_append]
  simp [prow]
theorem prow_one (xs : List (Value × Int)) (h : ∀ x ∈ xs, x.1.oneCell' = true) : ∀ u ∈ prow xs, u.oneCell' = true := by
  intro u hu
  obtain ⟨x, hx, hp⟩ := List.mem_flatMap.1 hu
  simp only [List.mem_cons, List.not_mem_nil, or_false] at hp
  rcases hp with rfl | rfl
  · exact h x hx
  · rfl
theorem made_prt (n : Nat) : (madeCells (Value.agg #[Value.slice none 0 0, Value.int .i64 0]).cells (n * 2)).toList = prow (List.replicate n (Value.slice none 0 0, 0)) := by
  have h : (Value.agg #[Value.slice none 0 0, Value.int .i64 0]).cells = #[Value.slice none 0 0, Value.int .i64 0] := rfl
  rw [h]
  apply List.ext_getElem?
  intro i
  simp only [madeCells, Array.toList_map, List.getElem?_map]
  by_cases hi : i < n * 2
  · have hx : (List.replicate n ((Value.slice none 0 0, 0) : Value × Int))[i / 2]? = some (Value.slice none 0 0, 0) := by rw [List.getElem?_replicate, if_pos (by omega)]
    have h2 : i % 2 = 0 ∨ i % 2 = 1 := by omega
    rcases h2 with h2 | h2
    · have := prow_at0 hx
      rw [show i / 2 * 2 = i by omega] at this
      rw [this]
      simp [hi, h2]
    · have := prow_at1 hx
      rw [show i / 2 * 2 + 1 = i by omega] at this
      rw [this]
      simp [hi, h2]
  · rw [List.getElem?_eq_none (l := prow _) (by rw [prow_length, List.length_replicate]; omega)]
    simp [hi]
theorem info_prt : (Try.prog.info? 141).map (fun i => (i.zero, i.size, i.bytes)) = some (some (.agg #[.slice none 0 0, .int .i64 0]), 2, 32) := by kernel_rfl
/-- rows of other types lie in other blocks. -/
theorem own_apartP {w : World} {lo lo2 : Nat} {u v : Value} {zs : List Int} {n : Nat} {vs : List Value} (h : Own .i64 3 w lo u zs) (h2 : w.ownsRow lo2 141 2 v n vs) : ∀ g, u.ownBlock = some g → v.ownBlock ≠ some g := by
  intro g hg e
  rcases h.2 with ⟨rfl, _⟩ | ⟨g1, cap, cur, rfl, hb, hg1, r⟩
  · cases hg
  · rcases h2.2 with ⟨rfl, _⟩ | ⟨g2, cap2, cur2, rfl, hb2, hg2, r2⟩
    · cases e
    · have e1 : g1 = g := Option.some.inj hg
      have e2 : g2 = g := Option.some.inj e
      subst e1
      subst e2
      rw [hg1] at hg2
      injection hg2 with hg2
      injection hg2 with _ ht
      exact absurd ht (by decide)
/-- a row of parts of the call's own; each stage in its own block. -/
structure OwnPr (w : World) (lo : Nat) (v : Value) (xs : List (Value × Int)) (ps : List Prt) : Prop where
  row : w.ownsRow lo 141 2 v ps.length (prow xs)
  each : ∀ j, j < ps.length → ∃ u, xs[j]? = some (u, (prAt ps j).green) ∧ Own .i64 3 w lo u (prAt ps j).stage
  apart : ApartL (xs.map (·.1))
/-- the same, where nothing is said of two stages' blocks. -/
structure OwnPe (w : World) (lo : Nat) (v : Value) (xs : List (Value × Int)) (ps : List Prt) : Prop where
  row : w.ownsRow lo 141 2 v ps.length (prow xs)
  each : ∀ j, j < ps.length → ∃ u, xs[j]? = some (u, (prAt ps j).green) ∧ Own .i64 3 w lo u (prAt ps j).stage
theorem OwnPr.pe {w : World} {lo : Nat} {v : Value} {xs : List (Value × Int)} {ps : List Prt} (h : OwnPr w lo v xs ps) : OwnPe w lo v xs ps := ⟨h.row, h.each⟩
theorem OwnPe.len {w : World} {lo : Nat} {v : Value} {xs : List (Value × Int)} {ps : List Prt} (h : OwnPe w lo v xs ps) : xs.length = ps.length := by
  have := h.row.1
  rw [prow_length] at this
  omega
theorem OwnPe.below {w w' : World} {lo : Nat} {v : Value} {xs : List (Value × Int)} {ps : List Prt} (h : OwnPe w lo v xs ps) (hb : Below w.heap.size w w') : OwnPe w' lo v xs ps :=
  ⟨ownr_below h.row hb, fun j hj => by obtain ⟨u, h1, h2⟩ := h.each j hj; exact ⟨u, h1, h2.below hb⟩⟩
theorem OwnPe.mono {w : World} {lo lo' : Nat} {v : Value} {xs : List (Value × Int)} {ps : List Prt} (h : OwnPe w lo v xs ps) (hl : lo' ≤ lo) : OwnPe w lo' v xs ps :=
  ⟨ownr_mono h.row hl, fun j hj => by obtain ⟨u, h1, h2⟩ := h.each j hj; exact ⟨u, h1, h2.mono hl⟩⟩
theorem OwnPe.prts {w : World} {lo : Nat} {A : Option Addr} {n c : Nat} {xs : List (Value × Int)} {ps : List Prt} (h : OwnPe w lo (.slice A n c) xs ps) : PrtsAt w w.heap.size A n ps := by
  have hn := ownr_len h.row
  subst hn
  refine ⟨rfl, fun h0 => ?_⟩
  obtain ⟨ad, e, hb, hc⟩ := (ownr_cells h.row).2 (by omega)
  refine ⟨ad, e, hb, fun j hj => ?_⟩
  obtain ⟨u, h1, h2⟩ := h.each j hj
  obtain ⟨A', c', rfl⟩ := h2.sliced
  refine ⟨A', _, c', ⟨hc _ _ (prow_at0 h1), ?_⟩, h2.ints, h2.cap, h2.nilcap'⟩
  rw [← add_plus _ 1 (by decide), add_add]
  exact hc _ _ (prow_at1 h1)
theorem OwnPe.sliced {w : World} {lo : Nat} {v : Value} {xs : List (Value × Int)} {ps : List Prt} (h : OwnPe w lo v xs ps) : ∃ A c, v = .slice A ps.length c := ownr_sliced h.row
theorem OwnPr.below {w w' : World} {lo : Nat} {v : Value} {xs : List (Value × Int)} {ps : List Prt} (h : OwnPr w lo v xs ps) (hb : Below w.heap.size w w') : OwnPr w' lo v xs ps := ⟨(h.pe.below hb).row, (h.pe.below hb).each, h.apart⟩
theorem OwnPr.mono {w : World} {lo lo' : Nat} {v : Value} {xs : List (Value × Int)} {ps : List Prt} (h : OwnPr w lo v xs ps) (hl : lo' ≤ lo) : OwnPr w lo' v xs ps := ⟨(h.pe.mono hl).row, (h.pe.mono hl).each, h.apart⟩
/-- rows of parts between two block numbers. -/
structure OwQ (w : World) (lo hi : Nat) (v : Value) (xs : List (Value × Int)) (ps : List Prt) : Prop where
  own : OwnPe w lo v xs ps
  lt : ∀ g, v.ownBlock = some g → g < hi
  ltu : ∀ x ∈ xs, ∀ g, x.1.ownBlock = some g → lo ≤ g ∧ g < hi
  top : hi ≤ w.heap.size
theorem OwQ.new {w : World} {lo : Nat} {v : Value} {xs : List (Value × Int)} {ps : List Prt} (h : OwnPe w lo v xs ps) : OwQ w lo w.heap.size v xs ps :=
  ⟨h, fun g e => (ownr_block h.row g e).2, fun x hx g e => by
    have hl := h.len
    obtain ⟨j, hj, rfl⟩ := List.getElem_of_mem hx
    obtain ⟨u, h1, h2⟩ := h.each j (by omega)
    rw [List.getElem?_eq_getElem hj] at h1
    injection h1 with h1
    rw [h1] at e
    exact h2.block g e, Nat.le_refl _⟩
theorem OwQ.below {w w' : World} {lo hi : Nat} {v : Value} {xs : List (Value × Int)} {ps : List Prt} (h : OwQ w lo hi v xs ps) (hb : Below w.heap.size w w') : OwQ w' lo hi v xs ps := ⟨h.own.below hb, h.lt, h.ltu, Nat.le_trans h.top hb.size⟩
theorem OwQ.ints {w : World} {lo hi : Nat} {A : Option Addr} {n c : Nat} {xs : List (Value × Int)} {ps : List Prt} (h : OwQ w lo hi (.slice A n c) xs ps) : PrtsAt w w.heap.size A n ps := h.own.prts
theorem OwQ.part {w w' : World} {lo hi l h' : Nat} {v : Value} {xs : List (Value × Int)} {ps : List Prt} (h : OwQ w lo hi v xs ps) (hp : Part l h' w w') (hd : hi ≤ l ∨ h' ≤ lo) : OwQ w' lo hi v xs ps := by
  refine ⟨⟨?_, fun j hj => ?_⟩, h.lt, h.ltu, Nat.le_trans h.top hp.size⟩
  · refine ⟨h.own.row.1, ?_⟩
    rcases h.own.row.2 with h2 | ⟨g, cap, cur, rfl, hl, hg, r⟩
    · exact .inl h2
    · have hlt := h.lt g rfl
      have htop := h.top
      exact .inr ⟨g, cap, cur, rfl, hl, (hp.block g (by omega) (by omega)).trans hg, r⟩
  · obtain ⟨u, h1, h2⟩ := h.own.each j hj
    refine ⟨u, h1, h2.1, ?_⟩
    have hu := List.mem_of_getElem? h1
    rcases h2.2 with h3 | ⟨g, cap, cur, rfl, hl, hg, r⟩
    · exact .inl h3
    · have hlt := h.ltu _ hu g rfl
      have htop := h.top
      exact .inr ⟨g, cap, cur, rfl, hl, (hp.block g (by omega) (by omega)).trans hg, r⟩
/-- a slice of parts that a call is given. -/
structure SlQ (w : World) (A : Option Addr) (n c : Nat) (ps : List Prt) : Prop where
  prts : PrtsAt w w.heap.size A n ps
  bare : A = none → n = 0 ∧ c = 0
  cap : n ≤ c ∧ c ≤ maxLen
  wf : ∀ p ∈ ps, p.wf
theorem OwQ.sl {w : World} {lo hi : Nat} {A : Option Addr} {n c : Nat} {xs : List (Value × Int)} {ps : List Prt} (h : OwQ w lo hi (.slice A n c) xs ps) (hw : ∀ p ∈ ps, p.wf) : SlQ w A n c ps := ⟨h.ints, ownr_nilcap h.own.row, ownr_cap h.own.row, hw⟩
theorem SlQ.below {w w' : World} {A : Option Addr} {n c : Nat} {ps : List Prt} (h : SlQ w A n c ps) (hb : Below w.heap.size w w') : SlQ w' A n c ps :=
  ⟨(h.prts.keep hb).up hb.size, h.bare, h.cap, h.wf⟩
/-- few and short. -/
def SmallP (ps : List Prt) : Prop := ps.length ≤ 1048576 ∧ ∀ j, j < ps.length → (prAt ps j).stage.length ≤ 1048576
theorem SmallP.at {ps : List Prt} (h : SmallP ps) (n M : Nat) (hn : n = ps.length) (hM : 1048576 ≤ M) : ∀ j, j < n → (prAt ps j).stage.length ≤ M := fun j hj => Nat.le_trans (h.2 j (by omega)) hM
theorem law_toPart (A : Option Addr) (n c B : Nat) (zs : List Int) (g : Int) (w : World) (h : IntsAt .i64 w B A n zs) (hB : B ≤ w.heap.size) (hn : n ≤ 1048576) :
    Calls Try.prog 111 #[.agg #[.slice A n c, .int .i64 g]] w fun e w' => ∃ a, e = .returned (.agg #[.slice (some a) n n, .int .i64 g]) ∧ Own .i64 3 w' w.heap.size (.slice (some a) n n) zs ∧ Below w.heap.size w w' := by
  have hi := fun w' (hb : Below w.heap.size w w') => h.laid hB hb
  have hb0 := (((Below.refl w.heap.size w).alloc (Nat.le_refl _) (.cells #[.slice A n c, .int .i64 g] 139)).alloc (by simp) (.cells #[.slice none 0 0, .int .i64 0] 141)).alloc (by simp; omega) (.cells #[.slice none 0 0, .int .i64 0] 141)
  have hs0 := hb0.size
  have HI := Lib.hid hi
  have HB0 := Lib.hid hb0
  clear hi
  go_enter Try.func111, Try.ntmps111
  go_wp2_with fail
  refine (to_i64 A n c B zs _ (HI.out _ HB0.out) (by omega) (by omega)).mono ?_
  rintro e w2 ⟨rfl, ho, hb2⟩
  have HB := Lib.hid (HB0.out.trans (hb2.mono hs0))
  have HO := Lib.hid (ho.mono hs0)
  have k1 : w2.cell? ⟨w.heap.size, 1, none⟩ = some (.int .i64 g) := (hb2.cell (p := ⟨w.heap.size, 1, none⟩) (by simp; omega)).trans (by go_simp)
  have k2 : w2.cell? ⟨w.heap.size + 1, 0, none⟩ = some (.slice none 0 0) := (hb2.cell (p := ⟨w.heap.size + 1, 0, none⟩) (by simp)).trans (by go_simp)
  have k3 : w2.cell? ⟨w.heap.size + 1, 1, none⟩ = some (.int .i64 0) := (hb2.cell (p := ⟨w.heap.size + 1, 1, none⟩) (by simp)).trans (by go_simp)
  have k4 : w2.cell? ⟨w.heap.size + 1 + 1, 0, none⟩ = some (.slice none 0 0) := (hb2.cell (p := ⟨w.heap.size + 1 + 1, 0, none⟩) (by simp)).trans (by go_simp)
  have k5 : w2.cell? ⟨w.heap.size + 1 + 1, 1, none⟩ = some (.int .i64 0) := (hb2.cell (p := ⟨w.heap.size + 1 + 1, 1, none⟩) (by simp)).trans (by go_simp)
  have f2 : w2.frozen? ⟨w.heap.size + 1, 0, none⟩ = false := (hb2.frozen (p := ⟨w.heap.size + 1, 0, none⟩) (by simp)).trans (by go_simp)
  have f3 : w2.frozen? ⟨w.heap.size + 1, 1, none⟩ = false := (hb2.frozen (p := ⟨w.heap.size + 1, 1, none⟩) (by simp)).trans (by go_simp)
  have f4 : w2.frozen? ⟨w.heap.size + 1 + 1, 0, none⟩ = false := (hb2.frozen (p := ⟨w.heap.size + 1 + 1, 0, none⟩) (by simp)).trans (by go_simp)
  have f5 : w2.frozen? ⟨w.heap.size + 1 + 1, 1, none⟩ = false := (hb2.frozen (p := ⟨w.heap.size + 1 + 1, 1, none⟩) (by simp)).trans (by go_simp)
  have ho2 : Own .i64 3 w2 w.heap.size (.slice (some ⟨w.heap.size + 1 + 1 + 1, 0, none⟩) n n) zs := by
    have h2 := ho.mono hs0
    simp only [alloc_heap, Array.size_push] at h2
    exact h2
  have HO2 := Lib.hid ho2
  clear hb2 hb0 ho hs0 ho2 HO
  go_wp2
  refine bodyPost_ret (v := .agg #[.slice (some ⟨w.heap.size + 1 + 1 + 1, 0, none⟩) n n, .int .i64 g]) (by rw [results_cell rfl]; go_simp; try rfl) rfl ?_
  refine ⟨_, rfl, (HO2.out.grown (only_setCell (only_setCell (World.grownBy.refl _ _) _ _) _ _) (fun g' e e2 => ?_)).grown (only_setCell (only_setCell (World.grownBy.refl _ _) _ _) _ _) (fun g' e e2 => ?_), (((HB.out.setCell (by simp only; omega) _).setCell (by simp only; omega) _).setCell (by simp only; omega) _).setCell (by simp only; omega) _⟩
  · have h1 : w.heap.size + 1 + 1 + 1 = g' := Option.some.inj e
    have h2 := Option.some.inj e2
    omega
  · have h1 : w.heap.size + 1 + 1 + 1 = g' := Option.some.inj e
    have h2 := Option.some.inj e2
    omega
end Go.Proofs.Ytmcoeafkbpeelaa

/- The laws' helpers for rows of parts. -/
namespace Go.Proofs.Ytmcoeafkbpeelaa
open Go.RowKit
set_option linter.unusedVariables false

set_option maxHeartbeats 1000000 in
theorem to_prt (A : Option Addr) (n c B : Nat) (ps : List Prt) (w : World) (h : PrtsAt w B A n ps) (hB : B ≤ w.heap.size) (hn : n ≤ 1048576) (hm : ∀ j, j < n → (prAt ps j).stage.length ≤ 1048576) :
    Calls Try.prog 56 #[.slice A n c] w fun e w' => e = .returned (.slice (some ⟨w.heap.size, 0, none⟩) n n) ∧ (∃ xs, OwnPr w' w.heap.size (.slice (some ⟨w.heap.size, 0, none⟩) n n) xs ps) ∧ Below w.heap.size w w' := by
  have hl := h.1
  go_enter Try.func56, Try.ntmps56
  go_wp2_with ((with_reducible show wpList _ _ _ _ _ _); refine wpList_mkR rfl _ _ _ rfl 141 _ 2 _ Try.underlying77 info_prt (by decide) (n : Int) (n : Int) n rfl rfl rfl rfl (by omega) ?_; intro w1 hown hgrow)
  rw [made_prt] at hown
  go_loopw [4] (fun i wr => ∃ (k : Nat) (xs : List (Value × Int)), k ≤ n ∧ xs.length = k ∧ i = .int .i64 k ∧ wr.ownsRow w.heap.size 141 2 (.slice (some ⟨w.heap.size, 0, none⟩) n n) n (prow xs ++ prow (List.replicate (n - xs.length) (.slice none 0 0, 0))) ∧
      (∀ j, j < k → ∃ u, xs[j]? = some (u, (prAt ps j).green) ∧ Own .i64 3 wr w.heap.size u (prAt ps j).stage) ∧ ApartL (xs.map (·.1)) ∧ Below w.heap.size w wr) (fun i _ => n - (intOf i).toNat)
  case atStart => exact ⟨0, [], Nat.zero_le _, rfl, rfl, by simpa [prow] using hown, fun j hj => absurd hj (by omega), ApartL.nil, below_grown hgrow⟩
  case round =>
    clear hown hgrow
    obtain ⟨k, xs, hk, hul, rfl, hrow, heach, hap, hbl⟩ := hrel
    have hsz := hbl.size
    by_cases hlt : k < n
    · obtain ⟨ad, A', m, c', rfl, hab, hq, hi, hmc, hnil⟩ := h.at hlt
      obtain ⟨q0, q1⟩ := hq.below hbl (by omega)
      have hml := hi.1
      have hmk := hm k hlt
      have hiw := hi.keep (w' := wr) (fun p hp => hbl.cell (by omega))
      clear hq hi
      obtain ⟨zs, hzs⟩ : ∃ zs, (prAt ps k).stage = zs := ⟨_, rfl⟩
      obtain ⟨g, hgr⟩ : ∃ g, (prAt ps k).green = g := ⟨_, rfl⟩
      rw [hzs] at hml hmk hiw
      rw [hgr] at q1
      have HZS := Lib.hid hzs
      have HG := Lib.hid hgr
      clear hzs hgr
      go_wp2_with fail
      refine (law_toPart A' m c' B zs g wr hiw (by omega) (by omega)).mono ?_
      rintro e w2 ⟨a, rfl, ho, hb2⟩
      have hrow2 := ownr_below hrow hb2
      obtain ⟨x0, hx0⟩ := ownr_some hrow2 (j := k * 2) (by omega)
      obtain ⟨x1, hx1⟩ := ownr_some hrow2 (j := k * 2 + 1) (by omega)
      have f0 := World.ownsRow.frozenAt hrow2
      have hst := (World.ownsRow.stored (World.ownsRow.stored hrow2 (k * 2) (.slice (some a) m m)).1 (k * 2 + 1) (.int .i64 g)).1
      have hb3 := hbl.trans (hb2.mono hsz)
      have hgs : w2.grownBy ((w2.setCell ⟨w.heap.size, k * 2, none⟩ (.slice (some a) m m)).setCell ⟨w.heap.size, k * 2 + 1, none⟩ (.int .i64 g)) (some w.heap.size) := only_setCell (only_setCell (World.grownBy.refl _ _) _ _) _ _
      have hkept : ∀ {x : Value} {xs : List Int} {l : Nat}, Own .i64 3 w2 l x xs → Own .i64 3 ((w2.setCell ⟨w.heap.size, k * 2, none⟩ (.slice (some a) m m)).setCell ⟨w.heap.size, k * 2 + 1, none⟩ (.int .i64 g)) l x xs := fun hx => hx.grown hgs (fun g hg e => own_apartP hx hrow2 g hg e)
      have hsn : xs.length < n := by omega
      rw [← hul, prow_next xs n _ (.slice (some a) m m, g) hsn, hul] at hst
      have HR := Lib.hid hst
      have HE : Hid (∀ j, j < k + 1 → ∃ u, (xs ++ [(.slice (some a) m m, g)])[j]? = some (u, (prAt ps j).green) ∧ Own .i64 3 ((w2.setCell ⟨w.heap.size, k * 2, none⟩ (.slice (some a) m m)).setCell ⟨w.heap.size, k * 2 + 1, none⟩ (.int .i64 g)) w.heap.size u (prAt ps j).stage) := Lib.hid (by
        intro j hj
        by_cases hjk : j < k
        · obtain ⟨u, h1, h2⟩ := heach j hjk
          exact ⟨u, by rw [List.getElem?_append_left (by omega)]; exact h1, hkept (h2.below hb2)⟩
        · obtain rfl : j = xs.length := by omega
          refine ⟨_, (List.getElem?_append_right (Nat.le_refl _)).trans (by rw [Nat.sub_self, show xs.length = k from hul, HG.out]; rfl), ?_⟩
          rw [show xs.length = k from hul, HZS.out]
          exact hkept (ho.mono hsz))
      have HA : Hid (ApartL ((xs ++ [((Value.slice (some a) m m), g)]).map (·.1))) := Lib.hid (by
        rw [List.map_append]
        refine hap.snoc (b := wr.heap.size) (fun x hx g hg => ?_) (fun g hg => (ho.block g hg).1)
        obtain ⟨y, hy, rfl⟩ := List.mem_map.1 hx
        obtain ⟨j, hj, rfl⟩ := List.getElem_of_mem hy
        obtain ⟨u, h1, h2⟩ := heach j (by omega)
        rw [List.getElem?_eq_getElem hj] at h1
        injection h1 with h1
        rw [h1] at hg
        exact (h2.block g hg).2)
      have HB := Lib.hid hb3
      clear hrow heach hap hbl hb2 hb3 hgs hkept hst hrow2 ho hiw
      go_wp2
      go_roundw
      case rel => exact ⟨k + 1, xs ++ [(.slice (some a) m m, g)], by omega, by rw [List.length_append, hul]; rfl, by go_num, HR.out, HE.out, HA.out, (HB.out.setCell (Nat.le_refl _) _).setCell (Nat.le_refl _) _⟩
      case measure => simp [intOf]; omega
    · obtain rfl : k = n := by omega
      rw [hul, Nat.sub_self, List.replicate_zero] at hrow
      have HO : Hid (OwnPr wr w.heap.size (.slice (some ⟨w.heap.size, 0, none⟩) k k) xs ps) := Lib.hid ⟨by rw [hl]; simpa [prow] using hrow, fun j hj => heach j (by omega), hap⟩
      clear hrow heach hap
      go_wp2
      go_ret
      exact ⟨rfl, ⟨xs, HO.out⟩, hbl⟩
set_option maxHeartbeats 1000000 in
theorem law_eqPart (A : Option Addr) (n c B : Nat) (zs : List Int) (g : Int) (A2 : Option Addr) (n2 c2 : Nat) (w : World) (h : IntsAt .i64 w B A n zs) (h2 : IntsAt .i64 w B A2 n2 zs) (hB : B ≤ w.heap.size) (hn : n ≤ 4398046511104) :
    Calls Try.prog 114 #[.agg #[.slice A n c, .int .i64 g], .agg #[.slice A2 n2 c2, .int .i64 g]] w fun e w' => e = .returned (.bool true) ∧ Below w.heap.size w w' := by
  have hl := h.1
  have hl2 := h2.1
  have hq := fun w' (hb : Below w.heap.size w w') => eqs_i64 A n c zs A2 n2 c2 w' ((h.laid hB hb).up (by have := hb.size; omega)) ((h2.laid hB hb).up (by have := hb.size; omega)) (by omega) (by omega)
  have hb0 := ((Below.refl w.heap.size w).alloc (Nat.le_refl _) (.cells #[.slice A n c, .int .i64 g] 141)).alloc (by simp) (.cells #[.slice A2 n2 c2, .int .i64 g] 141)
  have HQ := Lib.hid hq
  have HB0 := Lib.hid hb0
  clear hq hb0 h h2
  have e1 : (g != g) = false := by simp
  have e2 : (!(g == g)) = false := by simp
  go_enter Try.func114, Try.ntmps114
  go_wp2_with fail
  refine (HQ.out _ HB0.out).mono ?_
  rintro e w2 ⟨rfl, hb2⟩
  have HB := Lib.hid (HB0.out.trans (hb2.mono HB0.out.size))
  have k0 : w2.cell? ⟨w.heap.size, 1, none⟩ = some (.int .i64 g) := (hb2.cell (p := ⟨w.heap.size, 1, none⟩) (by simp; omega)).trans (by go_simp)
  have k1 : w2.cell? ⟨w.heap.size + 1, 1, none⟩ = some (.int .i64 g) := (hb2.cell (p := ⟨w.heap.size + 1, 1, none⟩) (by simp)).trans (by go_simp)
  clear hb2
  go_wp2
  go_ret
  exact ⟨rfl, HB.out⟩
set_option maxHeartbeats 1000000 in
theorem eqs_prt (A : Option Addr) (n c : Nat) (ps : List Prt) (A2 : Option Addr) (n2 c2 : Nat) (w : World) (h : PrtsAt w w.heap.size A n ps) (h2 : PrtsAt w w.heap.size A2 n2 ps) (hn : n ≤ 4398046511104) (hn2 : n2 ≤ 4398046511104) (hm : ∀ j, j < n → (prAt ps j).stage.length ≤ 4398046511104) :
    Calls Try.prog 58 #[.slice A n c, .slice A2 n2 c2] w fun e w' => e = .returned (.bool true) ∧ Below w.heap.size w w' := by
  have hl := h.1
  have hl2 := h2.1
  obtain rfl : n = n2 := by omega
  go_enter Try.func58, Try.ntmps58
  go_wp2
  go_loopw [5] (fun i wr => ∃ k : Nat, k ≤ n ∧ i = .int .i64 k ∧ Below w.heap.size w wr) (fun i _ => n - (intOf i).toNat)
  case atStart => exact ⟨0, Nat.zero_le _, rfl, Below.refl _ _⟩
  case round =>
    obtain ⟨k, hk, rfl, hbl⟩ := hrel
    have hsz := hbl.size
    by_cases hlt : k < n
    · obtain ⟨ad, A', m, c', rfl, hab, hq, hi, hmc, hnil⟩ := h.at hlt
      obtain ⟨ad2, A2', m2, c2', rfl, hab2, hq2, hi2, hmc2, hnil2⟩ := h2.at hlt
      have hqq := fun x (hx : Below wr.heap.size wr x) => (hq.below hbl (by omega)).below hx (by omega)
      have hqq2 := fun x (hx : Below wr.heap.size wr x) => (hq2.below hbl (by omega)).below hx (by omega)
      have hmk := hm k hlt
      have hml := hi.1
      have hml2 := hi2.1
      have hiw := hi.keep (w' := wr) (fun p hp => hbl.cell (by omega))
      have hiw2 := hi2.keep (w' := wr) (fun p hp => hbl.cell (by omega))
      clear hq hq2 hi hi2
      generalize (prAt ps k).stage = zs at *
      generalize (prAt ps k).green = g at *
      have hcc := fun x (hx : Below wr.heap.size wr x) => law_eqPart A' m c' w.heap.size zs g A2' m2 c2' x (hiw.keep (w' := x) fun p hp => hx.cell (by omega)) (hiw2.keep (w' := x) fun p hp => hx.cell (by omega)) (by have := hx.size; omega) (by omega)
      have x1 : (0 : Int) ≤ (k : Int) := by omega
      have x2 : (k : Int) < (n : Int) := by omega
      have hdr : Below wr.heap.size wr wr.drew := ⟨rfl, rfl, rfl, Nat.le_refl _, fun _ _ => rfl⟩
      obtain ⟨y0, y1⟩ := hqq _ hdr
      obtain ⟨z0, z1⟩ := hqq2 _ hdr
      have HQ := Lib.hid hcc
      have HC := Lib.hid hqq
      have HC2 := Lib.hid hqq2
      clear hqq hqq2 hcc hiw hiw2
      go_wp2
      go_region_held3 (fun W' => W'.cell? (ad.add (k * 2)) = some (.slice A' m c') ∧ W'.cell? ⟨(ad.add (k * 2)).block, (ad.add (k * 2)).off + 1, none⟩ = some (.int .i64 g) ∧ W'.cell? (ad2.add (k * 2)) = some (.slice A2' m2 c2') ∧ W'.cell? ⟨(ad2.add (k * 2)).block, (ad2.add (k * 2)).off + 1, none⟩ = some (.int .i64 g)) (first | exact ⟨y0, y1, z0, z1⟩ | exact ⟨hy.c0, hy.c1, hz.c0, hz.c1⟩ | fail "keep")
        (first
          | (go_at_call 114; refine (HQ.out _ hdr).mono ?_; rintro e w3 ⟨rfl, hb3⟩; have hb4 := hdr.trans hb3; have hy := HC.out _ hb4; have hz := HC2.out _ hb4))
      have HB := Lib.hid (hbl.trans (hb4.mono hsz))
      clear hb3 hb4 y0 z0 y1 z1 hy hz hbl HQ HC HC2 hdr
      go_wp2
      go_roundw
      case rel => exact ⟨k + 1, by omega, by go_num, HB.out⟩
      case measure => simp [intOf]; omega
    · obtain rfl : k = n := by omega
      go_wp2
      go_ret
      exact ⟨rfl, hbl⟩
theorem sz_part (A : Option Addr) (n c : Nat) (g : Int) (left : Int) (w : World) (hn : n ≤ 9223372036854775807) (hl : 0 ≤ left ∧ left ≤ 1048576) :
    Calls Try.prog 109 #[.agg #[.slice A n c, .int .i64 g], .int .i64 left] w fun e w' => e = .returned (.int .i64 (if (n : Int) ≤ left then left - (n : Int) else -1)) ∧ Below w.heap.size w w' := by
  have HB := Lib.hid ((Below.refl w.heap.size w).alloc (Nat.le_refl _) (.cells #[.slice A n c, .int .i64 g] 139))
  by_cases h : (n : Int) ≤ left
  · have hz := fun x => sz_ints A n c left x hn hl
    simp only [if_pos h] at hz ⊢
    have HZ := Lib.hid hz
    clear hz
    go_enter Try.func109, Try.ntmps109
    go_wp2_with fail
    refine (HZ.out _).mono ?_
    rintro e w' ⟨rfl, rfl⟩
    go_wp2
    go_ret
    exact ⟨rfl, HB.out⟩
  · have hz := fun x => sz_ints A n c left x hn hl
    simp only [if_neg h] at hz ⊢
    have HZ := Lib.hid hz
    clear hz
    go_enter Try.func109, Try.ntmps109
    go_wp2_with fail
    refine (HZ.out _).mono ?_
    rintro e w' ⟨rfl, rfl⟩
    go_wp2
    go_ret
    exact ⟨rfl, HB.out⟩
/-- what szPartS says. -/
def szSaidP (left : Int) (n : Nat) (ps : List Prt) (r : Int) : Prop := r < 0 ∨ (0 ≤ r ∧ r ≤ left ∧ (n : Int) ≤ left ∧ ∀ j, j < n → ((prAt ps j).stage.length : Int) ≤ left)
set_option maxHeartbeats 1000000 in
theorem sz_prt (A : Option Addr) (n c B : Nat) (ps : List Prt) (left : Int) (w : World) (h : PrtsAt w B A n ps) (hB : B ≤ w.heap.size) (hn : n ≤ 9223372036854775807) (hm : ∀ j, j < n → (prAt ps j).stage.length ≤ 9223372036854775807) (hl : 0 ≤ left ∧ left ≤ 1048576) :
    Calls Try.prog 54 #[.slice A n c, .int .i64 left] w fun e w' => (∃ r : Int, e = .returned (.int .i64 r) ∧ szSaidP left n ps r) ∧ Below w.heap.size w w' := by
  have hl0 := h.1
  obtain ⟨l1, l2⟩ := hl
  by_cases hlt0 : (n : Int) ≤ left
  · go_enter Try.func54, Try.ntmps54
    go_wp2
    go_loopw [1, 5] (fun r i wr => ∃ (k : Nat) (q : Int), k ≤ n ∧ i = .int .i64 k ∧ r = .int .i64 q ∧ 0 ≤ q ∧ q ≤ left ∧ (∀ j, j < k → ((prAt ps j).stage.length : Int) ≤ left) ∧ Below w.heap.size w wr) (fun _ i _ => n - (intOf i).toNat)
    case atStart => exact ⟨0, left - n, Nat.zero_le _, rfl, rfl, by omega, by omega, fun j hj => absurd hj (by omega), Below.refl _ _⟩
    case round =>
      obtain ⟨k, q, hk, rfl, rfl, hq0, hq1, hall, hbl⟩ := hrel
      have HALL := Lib.hid hall
      clear hall
      by_cases hlt : k < n
      · obtain ⟨ad, A', m, c', rfl, hab, hq, hi, hmc, hnil⟩ := h.at hlt
        obtain ⟨y0, y1⟩ := hq.below hbl (by omega)
        have hml := hi.1
        have hmk := hm k hlt
        go_wp2_with fail
        refine (sz_part A' m c' _ q _ (by omega) ⟨hq0, by omega⟩).mono ?_
        rintro e w' ⟨rfl, hb2⟩
        have HB := Lib.hid (hbl.trans (hb2.mono hbl.size))
        clear hb2
        by_cases hle : (m : Int) ≤ q
        · rw [if_pos hle]
          have HK : Hid (((prAt ps k).stage.length : Int) ≤ left) := Lib.hid (by omega)
          clear hi hml hmk
          go_wp2
          go_roundw
          case rel => exact ⟨k + 1, q - m, by omega, by go_num, rfl, by omega, by omega, (fun j hj => by
            by_cases e : j < k
            · exact HALL.out j e
            · obtain rfl : j = k := by omega
              exact HK.out), HB.out⟩
          case measure => simp [intOf]; omega
        · rw [if_neg hle]
          go_wp2
          go_ret
          exact ⟨⟨-1, rfl, .inl (by decide)⟩, HB.out⟩
      · obtain rfl : k = n := by omega
        go_wp2
        go_ret
        exact ⟨⟨q, rfl, .inr ⟨hq0, hq1, hlt0, HALL.out⟩⟩, hbl⟩
  · go_enter Try.func54, Try.ntmps54
    go_wp2
    go_ret
    exact ⟨⟨-1, rfl, .inl (by decide)⟩, Below.refl _ _⟩
/-- how many marks the first k parts take. -/
def totP (ps : List Prt) (k : Nat) : Nat := ((ps.take k).map fun p => p.stage.length + 1).sum
theorem totP_zero (ps : List Prt) : totP ps 0 = 0 := by simp [totP]
theorem totP_succ {ps : List Prt} {k : Nat} (h : k < ps.length) : totP ps (k + 1) = totP ps k + ((prAt ps k).stage.length + 1) := by
  unfold totP
  rw [List.take_add_one, prAt_get h, List.map_append, List.sum_append]
  simp
theorem totP_le {ps : List Prt} (h : SmallP ps) : ∀ k, k ≤ ps.length → totP ps k ≤ k * 1048577
  | 0, _ => by rw [totP_zero]; exact Nat.zero_le _
  | k + 1, hk => by
    have ih := totP_le h k (by omega)
    have := h.2 k (by omega)
    rw [totP_succ (by omega)]
    omega
theorem totP_top {ps : List Prt} (h : SmallP ps) {k : Nat} (hk : k ≤ ps.length) : totP ps k ≤ 1099512676352 := by
  have h1 := totP_le h k hk
  have h2 := h.1
  have : k * 1048577 ≤ 1048576 * 1048577 := Nat.mul_le_mul_right _ (by omega)
  omega
/-- the j-th part when it is marked. -/
def mkP (s : Nat) (ps : List Prt) (j : Nat) : Prt := ⟨marks .i64 ((s + totP ps j : Nat) : Int) (prAt ps j).stage.length, ((s + totP ps j + (prAt ps j).stage.length : Nat) : Int)⟩
/-- the first k parts marked. -/
def mixP (s : Nat) (ps : List Prt) (k : Nat) : List Prt := (List.range ps.length).map fun j => if j < k then mkP s ps j else prAt ps j
theorem mixP_len (s : Nat) (ps : List Prt) (k : Nat) : (mixP s ps k).length = ps.length := by simp [mixP]
theorem mixP_at (s : Nat) (ps : List Prt) (k : Nat) {j : Nat} (h : j < ps.length) : prAt (mixP s ps k) j = if j < k then mkP s ps j else prAt ps j := prAt_some (by simp [mixP, h])
theorem mixP_zero (s : Nat) (ps : List Prt) : mixP s ps 0 = ps := by
  apply List.ext_getElem?
  intro i
  by_cases h : i < ps.length
  · rw [prAt_get h]
    simp [mixP, h]
  · rw [List.getElem?_eq_none (by rw [mixP_len]; omega), List.getElem?_eq_none (by omega)]
theorem set_atP {α : Type} {pre rest : List α} {z a : α} {m : Nat} (h : pre.length = m) : (pre ++ z :: rest).set m a = pre ++ a :: rest := by
  subst h
  rw [List.set_append_right _ _ (Nat.le_refl _), Nat.sub_self, List.set_cons_zero]
theorem prow_green {xs : List (Value × Int)} {k : Nat} {u : Value} {g : Int} (h : xs[k]? = some (u, g)) (g' : Int) : (prow xs).set (k * 2 + 1) (.int .i64 g') = prow (xs.set k (u, g')) := by
  have hk := (List.getElem?_eq_some_iff.1 h).1
  have hx := (List.getElem?_eq_some_iff.1 h).2
  have e : xs = xs.take k ++ (u, g) :: xs.drop (k + 1) := by
    rw [← hx, ← List.drop_eq_getElem_cons hk, List.take_append_drop]
  have hl : (xs.take k).length = k := by rw [List.length_take]; omega
  have e2 : xs.set k (u, g') = xs.take k ++ (u, g') :: xs.drop (k + 1) := by
    conv => lhs; rw [e]
    exact set_atP hl
  have e3 : prow xs = (prow (xs.take k) ++ [u]) ++ .int .i64 g :: prow (xs.drop (k + 1)) := by
    conv => lhs; rw [e, prow_append]
    simp [prow]
  rw [e2, e3, set_at (by rw [List.length_append, prow_length, hl]; rfl), prow_append]
  simp [prow]
theorem fst_set {xs : List (Value × Int)} {k : Nat} {u : Value} {g : Int} (h : xs[k]? = some (u, g)) (g' : Int) : (xs.set k (u, g')).map (·.1) = xs.map (·.1) := by
  apply List.ext_getElem?
  intro i
  rw [List.getElem?_map, List.getElem?_map, List.getElem?_set]
  by_cases e : k = i
  · subst e
    rw [if_pos rfl, h, if_pos (List.getElem?_eq_some_iff.1 h).1]
    rfl
  · rw [if_neg e]
set_option maxHeartbeats 1000000 in
set_option maxRecDepth 100000 in
theorem marked_prt (A : Option Addr) (n c lo hi s : Nat) (xs : List (Value × Int)) (ps : List Prt) (w : World) (h : OwQ w lo hi (.slice A n c) xs ps) (hap : ApartL (xs.map (·.1))) (hz : SmallP ps) (hs : s ≤ 2199023255552) :
    Calls Try.prog 59 #[.slice A n c, .int .i64 s] w fun e w' => e = .returned (.int .i64 ((s + totP ps n : Nat) : Int)) ∧ (∃ xs', OwQ w' lo hi (.slice A n c) xs' (mixP s ps n)) ∧ Part lo hi w w' := by
  have hl : ps.length = n := (ownr_len h.own.row).symm
  have hz1 := hz.1
  go_enter Try.func59, Try.ntmps59
  go_wp2
  go_loopw [1, 5] (fun x i wr => ∃ (k q : Nat) (xs' : List (Value × Int)), k ≤ n ∧ i = .int .i64 k ∧ x = .int .i64 (q : Int) ∧ q = s + totP ps k ∧ xs'.map (·.1) = xs.map (·.1) ∧ OwQ wr lo hi (.slice A n c) xs' (mixP s ps k) ∧ Part lo hi w wr) (fun _ i _ => n - (intOf i).toNat)
  case atStart => exact ⟨0, s, xs, Nat.zero_le _, rfl, rfl, by rw [totP_zero]; rfl, rfl, by rw [mixP_zero]; exact h, ⟨rfl, rfl, rfl, Nat.le_refl _, fun _ _ _ => rfl⟩⟩
  case round =>
    clear h
    obtain ⟨k, q, xs', hk, rfl, rfl, hq, hxs, ho, hp⟩ := hrel
    have HQ := Lib.hid hq
    clear hq
    by_cases hlt : k < n
    · have hml := mixP_len s ps k
      obtain ⟨u, hu, hown⟩ := ho.own.each k (by omega)
      have hmk := mixP_at s ps k (j := k) (by omega)
      rw [if_neg (Nat.lt_irrefl k)] at hmk
      obtain ⟨zs, hzs⟩ : ∃ zs, (prAt ps k).stage = zs := ⟨_, rfl⟩
      obtain ⟨gr, hgr⟩ : ∃ gr, (prAt ps k).green = gr := ⟨_, rfl⟩
      rw [hmk, hzs] at hown
      rw [hmk, hgr] at hu
      have hlen := hz.2 k (by omega)
      rw [hzs] at hlen
      have htt := totP_top hz (k := k) (by omega)
      have hts := totP_succ (ps := ps) (k := k) (by omega)
      rw [hzs] at hts
      have HZS := Lib.hid hzs
      have hqb : q ≤ 4398046511104 := by have := HQ.out; omega
      have HQ2 : Hid (q + zs.length + 1 = s + totP ps (k + 1)) := Lib.hid (by have := HQ.out; omega)
      clear hts htt hzs
      obtain ⟨A', c', rfl⟩ := hown.sliced
      rcases ownr_shape ho.own.row with ⟨e, he⟩ | ⟨g, cap, e, hg, hgs, _⟩
      · exfalso; omega
      injection e with e1 e2 e3
      clear e2 e3
      obtain rfl := e1
      have hrow := ho.own.row
      rw [mixP_len, hl] at hrow
      have hca := World.ownsRow.cellAt hrow (k * 2)
      have q0 := (hca (by omega)).trans (prow_at0 hu)
      clear hca
      have HO := Lib.hid ho
      have HP := Lib.hid hp
      have HU := Lib.hid hu
      have HMK := Lib.hid hmk
      have HXS := Lib.hid hxs
      clear ho hp hu hmk hxs hrow
      go_wp2_with fail
      refine (mark_i64 A' _ c' lo q zs wr hown (by omega) (by omega)).mono ?_
      rintro e w3 ⟨rfl, ho3, hg3⟩
      have hrow3 := ownr_grown HO.out.own.row hg3 (fun g hg e => own_apartP hown HO.out.own.row g e hg)
      rw [mixP_len, hl] at hrow3
      have hf := World.ownsRow.frozenAt hrow3
      obtain ⟨x1, hx1⟩ := ownr_some hrow3 (j := k * 2 + 1) (by omega)
      have hca := World.ownsRow.cellAt hrow3 (k * 2)
      have q0' := (hca (by omega)).trans (prow_at0 HU.out)
      clear hca
      have hst := (World.ownsRow.stored hrow3 (k * 2 + 1) (.int .i64 ((q + zs.length : Nat) : Int))).1
      rw [prow_green HU.out] at hst
      have hgs3 : w3.grownBy (w3.setCell ⟨g, k * 2 + 1, none⟩ (.int .i64 ((q + zs.length : Nat) : Int))) (some g) := only_setCell (World.grownBy.refl _ _) _ _
      have hkept : ∀ {x : Value} {ys : List Int} {l : Nat}, Own .i64 3 w3 l x ys → Own .i64 3 (w3.setCell ⟨g, k * 2 + 1, none⟩ (.int .i64 ((q + zs.length : Nat) : Int))) l x ys := fun hx => hx.grown hgs3 (fun g' hg' e => own_apartP hx hrow3 g' hg' e)
      have HO3 : Hid (OwQ (w3.setCell ⟨g, k * 2 + 1, none⟩ (.int .i64 ((q + zs.length : Nat) : Int))) lo hi (.slice (some ⟨g, 0, none⟩) n c) (xs'.set k (.slice A' zs.length c', ((q + zs.length : Nat) : Int))) (mixP s ps (k + 1))) := Lib.hid ⟨⟨by
          rw [mixP_len, hl]
          exact hst, fun j hj => by
          rw [mixP_len] at hj
          rw [mixP_at s ps (k + 1) hj]
          by_cases hjk : j = k
          · subst hjk
            rw [if_pos (Nat.lt_succ_self _)]
            refine ⟨.slice A' zs.length c', ?_, ?_⟩
            · rw [List.getElem?_set_self (List.getElem?_eq_some_iff.1 HU.out).1]
              unfold mkP
              simp only [HZS.out, ← HQ.out]
            · unfold mkP
              simp only [HZS.out, ← HQ.out]
              exact hkept ho3
          · obtain ⟨x, h1, h2⟩ := HO.out.own.each j (by rw [mixP_len]; exact hj)
            rw [mixP_at s ps k hj] at h1 h2
            have hif : (if j < k + 1 then mkP s ps j else prAt ps j) = (if j < k then mkP s ps j else prAt ps j) := by
              by_cases hj2 : j < k
              · rw [if_pos hj2, if_pos (by omega)]
              · rw [if_neg hj2, if_neg (by omega)]
            rw [hif]
            refine ⟨x, ?_, hkept (h2.grown hg3 (fun g' hg' e => ?_))⟩
            · rw [List.getElem?_set_ne (fun e => hjk e.symm)]
              exact h1
            · have f1 : (xs'.map (·.1))[j]? = some x := by rw [List.getElem?_map, h1]; rfl
              have f2 : (xs'.map (·.1))[k]? = some (.slice A' zs.length c') := by rw [List.getElem?_map, HU.out]; rfl
              rw [HXS.out] at f1 f2
              exact hap j k _ _ hjk f1 f2 g' hg' e⟩, HO.out.lt, fun y hy g' hg' => by
          have hy1 : y.1 ∈ xs'.map (·.1) := by
            rw [← fst_set HU.out ((q + zs.length : Nat) : Int)]
            exact List.mem_map_of_mem hy
          obtain ⟨z, hz, e⟩ := List.mem_map.1 hy1
          exact HO.out.ltu z hz g' (by rw [e]; exact hg'), Nat.le_trans HO.out.top (Nat.le_trans hg3.size hgs3.size)⟩
      have hglt := HO.out.lt g rfl
      have HP3 : Hid (Part lo hi w (w3.setCell ⟨g, k * 2 + 1, none⟩ (.int .i64 ((q + zs.length : Nat) : Int)))) := Lib.hid ⟨hgs3.os.trans (hg3.os.trans HP.out.os), hgs3.tape.trans (hg3.tape.trans HP.out.tape), hgs3.output.trans (hg3.output.trans HP.out.output), Nat.le_trans HP.out.size (Nat.le_trans hg3.size hgs3.size), fun i hi' hd => ((hgs3.block i (Nat.lt_of_lt_of_le hi' (Nat.le_trans HP.out.size hg3.size)) (fun e => by
        have e' : i = g := Option.some.inj e
        omega)).trans (hg3.block i (Nat.lt_of_lt_of_le hi' HP.out.size) (fun e => by
        have := HO.out.ltu _ (List.mem_of_getElem? HU.out) i e.symm
        omega))).trans (HP.out.block i hi' hd)⟩
      have HX3 : Hid ((xs'.set k (.slice A' zs.length c', ((q + zs.length : Nat) : Int))).map (·.1) = xs.map (·.1)) := Lib.hid ((fst_set HU.out _).trans HXS.out)
      have HQ3 := Lib.hid HQ2.out
      have hq2b : q + zs.length ≤ 8796093022208 := by omega
      generalize q + zs.length = q2 at *
      clear ho3 hg3 hown HO HP HU hgs3 hkept hst hrow3
      go_wp2
      go_roundw
      case rel => exact ⟨k + 1, q2 + 1, _, by omega, by go_num, by go_num, HQ3.out, HX3.out, HO3.out, HP3.out⟩
      case measure => simp [intOf]; omega
    · obtain rfl : k = n := by omega
      have HO := Lib.hid ho
      have HP := Lib.hid hp
      clear ho hp
      go_wp2
      go_ret
      exact ⟨by first | (rw [← HQ.out]; rfl) | (rw [show ((s : Int) + (totP ps k : Int)) = ((q : Nat) : Int) by rw [HQ.out]; simp]; rfl), ⟨_, HO.out⟩, HP.out⟩
set_option maxHeartbeats 1000000 in
set_option maxRecDepth 100000 in
theorem held_prt (A : Option Addr) (n c s : Nat) (ps : List Prt) (w : World) (h : PrtsAt w w.heap.size A n (mixP s ps n)) (hn : n = ps.length) (hz : SmallP ps) (hs : s ≤ 2199023255552) :
    Calls Try.prog 60 #[.slice A n c, .int .i64 s] w fun e w' => e = .returned (.int .i64 ((s + totP ps n : Nat) : Int)) ∧ Below w.heap.size w w' := by
  have hz1 := hz.1
  have hn' := hn.symm
  clear hn
  go_enter Try.func60, Try.ntmps60
  go_wp2
  go_loopw [1, 5] (fun x i wr => ∃ k q : Nat, k ≤ n ∧ i = .int .i64 k ∧ x = .int .i64 (q : Int) ∧ q = s + totP ps k ∧ Below w.heap.size w wr) (fun _ i _ => n - (intOf i).toNat)
  case atStart => exact ⟨0, s, Nat.zero_le _, rfl, rfl, by rw [totP_zero]; rfl, Below.refl _ _⟩
  case round =>
    obtain ⟨k, q, hk, rfl, rfl, hq, hbl⟩ := hrel
    have HQ := Lib.hid hq
    clear hq
    by_cases hlt : k < n
    · obtain ⟨ad, A', m, c', rfl, hab, hpa, hi, hmc, hnil⟩ := h.at hlt
      have hmk := mixP_at s ps n (j := k) (by omega)
      rw [if_pos hlt] at hmk
      obtain ⟨zs, hzs⟩ : ∃ zs, (prAt ps k).stage = zs := ⟨_, rfl⟩
      rw [hmk] at hi hpa
      unfold mkP at hi hpa
      simp only [hzs, ← HQ.out] at hi hpa
      have hml := hi.1
      rw [marks_length] at hml
      subst hml
      have hlen := hz.2 k (by omega)
      rw [hzs] at hlen
      have htt := totP_top hz (k := k) (by omega)
      have hts := totP_succ (ps := ps) (k := k) (by omega)
      rw [hzs] at hts
      have HZS := Lib.hid hzs
      have hqb : q ≤ 4398046511104 := by have := HQ.out; omega
      have HQ2 : Hid (q + zs.length + 1 = s + totP ps (k + 1)) := Lib.hid (by have := HQ.out; omega)
      clear hts htt hzs
      obtain ⟨q0, q1⟩ := hpa.below hbl (by omega)
      have hiw := hi.keep (w' := wr) (fun p hp => hbl.cell (by omega))
      have HB := Lib.hid hbl
      have habw := Nat.lt_of_lt_of_le hab hbl.size
      clear hi hbl hmk hpa
      go_wp2_with fail
      refine (held_i64 A' _ c' w.heap.size q wr hiw (by omega) (by omega)).mono ?_
      rintro e w3 ⟨rfl, hb3⟩
      have HB3 := Lib.hid (HB.out.trans (hb3.mono HB.out.size))
      have HQ3 := Lib.hid HQ2.out
      have r0 := (hb3.cell habw).trans q0
      have r1 := (hb3.cell (p := ⟨(ad.add (k * 2)).block, (ad.add (k * 2)).off + 1, none⟩) habw).trans q1
      have hq2b : q + zs.length ≤ 8796093022208 := by omega
      have e1 : ((((q + zs.length : Nat)) : Int) != ((q + zs.length : Nat) : Int)) = false := by simp
      have e3 : ((((q + zs.length : Nat)) : Int) == ((q + zs.length : Nat) : Int)) = true := by simp
      generalize q + zs.length = q2 at *
      clear hb3 hiw q0 q1
      go_wp2
      go_roundw
      case rel => exact ⟨k + 1, q2 + 1, by omega, by go_num, by go_num, HQ3.out, HB3.out⟩
      case measure => simp [intOf]; omega
    · obtain rfl : k = n := by omega
      go_wp2
      go_ret
      exact ⟨by first | (rw [← HQ.out]; rfl) | (rw [show ((s : Int) + (totP ps k : Int)) = ((q : Nat) : Int) by rw [HQ.out]; simp]; rfl), hbl⟩
end Go.Proofs.Ytmcoeafkbpeelaa

/- slices.Clone at []int. -/
namespace Go.Proofs.Ytmcoeafkbpeelaa
open Go.RowKit
set_option linter.unusedVariables false

theorem lib_Clone2 (A : Option Addr) (n c B : Nat) (zs : List Int) (w : World) (h : IntsAt .i64 w B A n zs) (hB : B ≤ w.heap.size) (hA : A = none → n = 0 ∧ c = 0) (hn : n ≤ 4294967296) :
    Calls Try.prog 68 #[.slice A n c] w fun e w' => ∃ v, e = .returned v ∧ Own .i64 3 w' w.heap.size v zs ∧ Below w.heap.size w w' := by
  have hl := h.1
  cases A with
  | none =>
    obtain ⟨rfl, rfl⟩ := hA rfl
    obtain rfl : zs = [] := List.eq_nil_of_length_eq_zero hl
    have hnil : ∀ W, (binOp .eql 23 (.slice none 0 0) (.slice none 0 0)).run Try.prog W = .ok (.bool true) W := fun W => eql_slice_nil Try.underlying23 _ _ _ W
    go_enter Try.func68, Try.ntmps68
    go_wp2
    go_ret
    exact ⟨_, rfl, own_nil _ _ _ _, Below.refl _ _⟩
  | some ad =>
    have hnil : ∀ W, (binOp .eql 23 (.slice (some ad) n c) (.slice none 0 0)).run Try.prog W = .ok (.bool false) W := fun W => eql_slice_nil Try.underlying23 _ _ _ W
    go_enter Try.func68, Try.ntmps68
    go_wp2_with (at_builtin; refine wpList_app rfl _ _ 23 23 rfl .i64 3 3 8 Try.underlying23 Try.underlying23 info_i64 w.heap.size _ [] rfl (own_bare _ _ w) (some ad) n c B zs rfl (h.keep fun p hp => World.cell?_of_block (Below.heap_alloc w _ _ (by omega))) hA (by decide) (by simp; omega) (by simp) ?_; intro v1 w1 hown1 hgrow1 hat1)
    go_ret
    exact ⟨v1, rfl, by simpa using hown1, (own_bare .i64 3 w).push (Nat.le_refl _) ((Below.refl _ _).alloc (Nat.le_refl _) _) (by simp) hgrow1⟩
end Go.Proofs.Ytmcoeafkbpeelaa

/- Copies of plans: l8Copy of the model, copyPlan of the program (written by gencpl.py). -/
set_option linter.unusedSimpArgs false
namespace Go.Proofs.Ytmcoeafkbpeelaa
open Go.RowKit
set_option linter.unusedVariables false

theorem below_drewC {a w : World} (h : Below a.heap.size a w) : Below a.heap.size a w.drew := ⟨h.os, h.tape, h.output, h.size, h.block⟩
theorem own_rowC (w : World) (E : TypeId) (s : Nat) : (w.alloc (.cells #[] E)).ownsRow w.heap.size E s (.slice (some ⟨w.heap.size, 0, none⟩) 0 0) 0 [] := ⟨by simp, .inr ⟨w.heap.size, 0, #[], rfl, Nat.le_refl _, heap_alloc_new w _, Nat.le_refl _, by decide, by simp, by simp⟩⟩
/-- the two cells of a block. -/
theorem cells2C {w : World} {g : Nat} {x0 x1 : Value} {E : TypeId} {fr : Nat × Nat} (h : w.heap[g]? = some (.cells #[x0, x1] E fr)) : w.cell? ⟨g, 0, none⟩ = some x0 ∧ w.cell? ⟨g, 1, none⟩ = some x1 :=
  ⟨(cell_of_row w g 0 _ _ _ h).trans rfl, (cell_of_row w g 1 _ _ _ h).trans rfl⟩
/-- what lies one step further in a row of parts. -/
theorem each_snoc {w w' : World} {lo : Nat} {xs : List (Value × Int)} {ps : List Prt} {k : Nat} {u : Value} (hul : xs.length = k) (hold : ∀ j, j < k → ∃ u, xs[j]? = some (u, (prAt ps j).green) ∧ Own .i64 3 w' lo u (prAt ps j).stage) (hnew : Own .i64 3 w' lo u (prAt ps k).stage) {g : Int} (hg : (prAt ps k).green = g) :
    ∀ j, j < k + 1 → ∃ u', (xs ++ [(u, g)])[j]? = some (u', (prAt ps j).green) ∧ Own .i64 3 w' lo u' (prAt ps j).stage := by
  intro j hj
  by_cases hjk : j < k
  · obtain ⟨u, h1, h2⟩ := hold j hjk
    exact ⟨u, by rw [List.getElem?_append_left (by omega)]; exact h1, h2⟩
  · obtain rfl : j = xs.length := by omega
    refine ⟨u, (List.getElem?_append_right (Nat.le_refl _)).trans (by rw [Nat.sub_self, show xs.length = k from hul, hg]; rfl), ?_⟩
    rw [show xs.length = k from hul]
    exact hnew
theorem apart_snoc {w : World} {lo b : Nat} {xs : List (Value × Int)} {ps : List Prt} {k : Nat} {u : Value} {g : Int} (hul : xs.length = k) (hap : ApartL (xs.map (·.1))) (hold : ∀ j, j < k → ∃ u, xs[j]? = some (u, (prAt ps j).green) ∧ Own .i64 3 w lo u (prAt ps j).stage) (hb : w.heap.size ≤ b) (hn : ∀ r, u.ownBlock = some r → b ≤ r) : ApartL ((xs ++ [(u, g)]).map (·.1)) := by
  rw [List.map_append]
  refine hap.snoc (b := b) (fun x hx r hr => ?_) hn
  obtain ⟨y, hy, rfl⟩ := List.mem_map.1 hx
  obtain ⟨j, hj, rfl⟩ := List.getElem_of_mem hy
  obtain ⟨u', h1, h2⟩ := hold j (by omega)
  rw [List.getElem?_eq_getElem hj] at h1
  injection h1 with h1
  rw [h1] at hr
  have := (h2.block r hr).2
  omega
set_option maxHeartbeats 4000000 in
set_option maxRecDepth 100000 in
theorem spec_l8Copy (A : Option Addr) (n c B : Nat) (ps : List Prt) (w : World) (h : PrtsAt w B A n ps) (hB : B ≤ w.heap.size) (hn : n ≤ 1048576) (hm : ∀ j, j < n → (prAt ps j).stage.length ≤ 1048576) :
    Calls Try.prog 110 #[.slice A n c] w fun e w' => ∃ v xs, e = .returned v ∧ OwnPr w' w.heap.size v xs ps ∧ Below w.heap.size w w' := by
  have hl := h.1
  have HL := Lib.hid hl
  have H := Lib.hid h
  have HM := Lib.hid hm
  have hmx : Try.prog.follows .mixedOrders = true := by kernel_rfl
  have hr0 := own_rowC w 141 2
  have hb0 : Below w.heap.size w (w.alloc (.cells #[] 141)) := (Below.refl _ _).alloc (Nat.le_refl _) _
  clear h hm hl
  go_enter Try.func110, Try.ntmps110
  go_wp2
  go_loopw [3, 4] (fun v i wr => ∃ (k : Nat) (xs : List (Value × Int)), k ≤ n ∧ xs.length = k ∧ i = .int .i64 k ∧ wr.ownsRow w.heap.size 141 2 v k (prow xs) ∧ (∀ j, j < k → ∃ u, xs[j]? = some (u, (prAt ps j).green) ∧ Own .i64 3 wr w.heap.size u (prAt ps j).stage) ∧ ApartL (xs.map (·.1)) ∧ Below w.heap.size w wr) (fun _ i _ => n - (intOf i).toNat)
  case atStart => exact ⟨0, [], Nat.zero_le _, rfl, rfl, by simpa [prow] using hr0, fun j hj => absurd hj (by omega), ApartL.nil, hb0⟩
  case round =>
    clear hr0 hb0
    obtain ⟨k, xs, hk, hul, rfl, hrow, heach, hap, hbl⟩ := hrel
    have hsz := hbl.size
    obtain ⟨Av, cv, rfl⟩ := ownr_sliced hrow
    have HRW := Lib.hid hrow
    have HE := Lib.hid heach
    have HAP := Lib.hid hap
    have HBL := Lib.hid hbl
    have HUL := Lib.hid hul
    clear hrow heach hap hbl hul
    by_cases hlt : k < n
    · obtain ⟨ad, A', m, c', rfl, hab, hq, hi, hmc, hnil⟩ := H.out.at hlt
      have hpq := hq.below HBL.out (by omega)
      have hml := hi.1
      have hmk := HM.out k hlt
      have HQ := Lib.hid (fun (W : World) (hW : Below wr.heap.size wr W) => (hpq.below hW (by have := HBL.out.size; omega)))
      have HI := Lib.hid (fun (W : World) (hW : Below w.heap.size w W) => hi.keep (w' := W) (fun p hp => hW.cell (by omega)))
      clear hq hi hpq
      have hqd := HQ.out wr.drew (below_drewC (Below.refl _ _))
      obtain ⟨zs, hzs⟩ : ∃ zs, (prAt ps k).stage = zs := ⟨_, rfl⟩
      obtain ⟨g, hgr⟩ : ∃ g, (prAt ps k).green = g := ⟨_, rfl⟩
      rw [hzs] at hml hmk HI
      rw [hgr] at HQ hqd
      have HZS := Lib.hid hzs
      have HG := Lib.hid hgr
      clear hzs hgr
      have hmm : m ≤ 1048576 := by omega
      clear hml
      have i1 : (0 : Int) ≤ (k : Int) := by omega
      have i2 : (k : Int) < (n : Int) := by omega
      go_wp2
      refine wp_region_held_drew (S := fun W' => PrtAt W' (ad.add (k * 2)) (.slice A' m c') g) hmx hqd (fun hH => ?_)
      refine wpAnyH_take (i := 0) (v := .slice Av k cv) rfl (by kernel_rfl) (by kernel_rfl) (by kernel_rfl) (fun _ _ _ h => h) (Or.inl ⟨by rfl, by intro W' hSw; go_simp⟩) hH ?_
      try simp only [Act.put, List.setIfInBounds_toArray, List.set_cons_zero, List.set_cons_succ]
      refine wpAnyH_take (i := 2) (v := .slice (some ad) n c) rfl (by kernel_rfl) (by kernel_rfl) (by kernel_rfl) (fun _ _ _ h => h) (Or.inl ⟨by rfl, by intro W' hSw; go_simp⟩) hH ?_
      try simp only [Act.put, List.setIfInBounds_toArray, List.set_cons_zero, List.set_cons_succ]
      refine wpAnyH_take (i := 3) (v := .int .i64 (k : Int)) rfl (by kernel_rfl) (by kernel_rfl) (by kernel_rfl) (fun _ _ _ h => h) (Or.inl ⟨by rfl, by intro W' hSw; go_simp⟩) hH ?_
      try simp only [Act.put, List.setIfInBounds_toArray, List.set_cons_zero, List.set_cons_succ]
      refine wpAnyH_take (i := 4) (v := .pointer (some (ad.add (k * 2)))) rfl (by kernel_rfl) (by kernel_rfl) (by kernel_rfl) (fun _ _ _ h => h) (Or.inl ⟨by rfl, by intro W' hSw; go_simp⟩) hH ?_
      try simp only [Act.put, List.setIfInBounds_toArray, List.set_cons_zero, List.set_cons_succ]
      refine wpAnyH_take (i := 5) (v := .pointer (some (ad.add (k * 2)))) rfl (by kernel_rfl) (by kernel_rfl) (by kernel_rfl) (fun _ _ _ h => h) (Or.inl ⟨by rfl, by intro W' hSw; go_simp⟩) hH ?_
      try simp only [Act.put, List.setIfInBounds_toArray, List.set_cons_zero, List.set_cons_succ]
      refine wpAnyH_take (i := 6) (v := .slice A' m c') rfl (by kernel_rfl) (by kernel_rfl) (by kernel_rfl) (fun _ _ _ h => h) (Or.inl ⟨by rfl, by intro W' hSw; obtain ⟨q0, q1⟩ := hSw; go_simp⟩) hH ?_
      try simp only [Act.put, List.setIfInBounds_toArray, List.set_cons_zero, List.set_cons_succ]
      refine wpAnyH_take (i := 8) (v := .slice (some ad) n c) rfl (by kernel_rfl) (by kernel_rfl) (by kernel_rfl) (fun _ _ _ h => h) (Or.inl ⟨by rfl, by intro W' hSw; go_simp⟩) hH ?_
      try simp only [Act.put, List.setIfInBounds_toArray, List.set_cons_zero, List.set_cons_succ]
      refine wpAnyH_take (i := 9) (v := .int .i64 (k : Int)) rfl (by kernel_rfl) (by kernel_rfl) (by kernel_rfl) (fun _ _ _ h => h) (Or.inl ⟨by rfl, by intro W' hSw; go_simp⟩) hH ?_
      try simp only [Act.put, List.setIfInBounds_toArray, List.set_cons_zero, List.set_cons_succ]
      refine wpAnyH_take (i := 10) (v := .pointer (some (ad.add (k * 2)))) rfl (by kernel_rfl) (by kernel_rfl) (by kernel_rfl) (fun _ _ _ h => h) (Or.inl ⟨by rfl, by intro W' hSw; go_simp⟩) hH ?_
      try simp only [Act.put, List.setIfInBounds_toArray, List.set_cons_zero, List.set_cons_succ]
      refine wpAnyH_take (i := 11) (v := .pointer (some ⟨(ad.add (k * 2)).block, (ad.add (k * 2)).off + 1, none⟩)) rfl (by kernel_rfl) (by kernel_rfl) (by kernel_rfl) (fun _ _ _ h => h) (Or.inl ⟨by rfl, by intro W' hSw; go_simp⟩) hH ?_
      try simp only [Act.put, List.setIfInBounds_toArray, List.set_cons_zero, List.set_cons_succ]
      refine wpAnyH_take (i := 12) (v := .int .i64 g) rfl (by kernel_rfl) (by kernel_rfl) (by kernel_rfl) (fun _ _ _ h => h) (Or.inl ⟨by rfl, by intro W' hSw; obtain ⟨q0, q1⟩ := hSw; go_simp⟩) hH ?_
      try simp only [Act.put, List.setIfInBounds_toArray, List.set_cons_zero, List.set_cons_succ]
      refine wpAnyH_ready (rs := [1]) (by decide +kernel) (by simp) (AllReadyH.cons rfl (fun K' hK => ?_) AllReadyH.nil)
      go_simp
      obtain ⟨w2, hw2⟩ : ∃ w2, w2 = (wr.alloc (.cells #[] 3)).drew := ⟨_, rfl⟩
      have hb2 : Below wr.heap.size wr w2 := by rw [hw2]; exact below_drewC ((Below.refl _ _).alloc (Nat.le_refl _) _)
      have ho2 : Own .i64 3 w2 wr.heap.size (.slice (some ⟨wr.heap.size, 0, none⟩) 0 0) [] := by rw [hw2]; exact own_hollow (heap_alloc_new wr _) (Nat.le_refl _)
      have hs2 : wr.heap.size ≤ w2.heap.size := hb2.size
      rw [← hw2]
      clear hw2
      have hI2 := HI.out w2 (HBL.out.trans (hb2.mono hsz))
      refine hK.out _ _ (HQ.out _ hb2) (fun _ => ?_)
      clear hK K'
      try simp only [Act.put, List.setIfInBounds_toArray, List.set_cons_zero, List.set_cons_succ]
      refine wpAnyH_ready (rs := [7]) (by decide +kernel) (by simp) (AllReadyH.cons rfl (fun K' hK => ?_) AllReadyH.nil)
      refine step_app rfl _ _ 23 rfl .i64 3 8 Try.underlying23 info_i64 wr.heap.size _ [] rfl ho2 A' m c' _ zs rfl hI2 hnil (by decide) (by simp only [List.length_nil]; omega) hs2 ?_
      intro v3 w3 hown3 hgrow3
      rw [List.nil_append] at hown3
      obtain ⟨A3, c3, rfl⟩ := hown3.sliced
      have hb3 : Below wr.heap.size wr w3 := ho2.push (Nat.le_refl _) hb2 hs2 hgrow3
      have hs3 := hb3.size
      have HOW3 := Lib.hid hown3
      have HB3 := Lib.hid hb3
      clear ho2 hI2 hgrow3 hb2 hown3
      refine hK.out _ _ (HQ.out _ HB3.out) (fun _ => ?_)
      clear hK K'
      try simp only [Act.put, List.setIfInBounds_toArray, List.set_cons_zero, List.set_cons_succ]
      refine wpAnyH_take (i := 13) (v := .agg #[.slice A3 zs.length c3, .int .i64 g]) rfl (by kernel_rfl) (by kernel_rfl) (by kernel_rfl) (fun _ _ _ h => h) (Or.inl ⟨by rfl, by intro W' hSw; go_simp⟩) (HQ.out _ HB3.out) ?_
      try simp only [Act.put, List.setIfInBounds_toArray, List.set_cons_zero, List.set_cons_succ]
      refine wpAnyH_ready (rs := [14]) (by decide +kernel) (by simp) (AllReadyH.cons rfl (fun K' hK => ?_) AllReadyH.nil)
      go_simp
      obtain ⟨w4, hw4⟩ : ∃ w4, w4 = w3.alloc (.cells #[.slice A3 zs.length c3, .int .i64 g] 141) := ⟨_, rfl⟩
      obtain ⟨hk4, hz4, hba⟩ := one_block hw4
      have hb4 := HB3.out.trans (hba.mono hs3)
      have HB4 := Lib.hid hb4
      have HO4 := Lib.hid (HOW3.out.below hba)
      have HC4 : Hid (∀ (j : Nat) x, [.slice A3 zs.length c3, .int .i64 g][j]? = some x → w4.cell? ⟨w3.heap.size, j, none⟩ = some x) := Lib.hid (fun j x hx => (cell_of_row _ _ j _ _ _ hk4).trans (by simpa using hx))
      have HR4 := Lib.hid (ownr_below HRW.out hb4)
      have hlo4 : w.heap.size ≤ w4.heap.size := by have := hb4.size; omega
      have h34 : w3.heap.size ≤ w4.heap.size := hba.size
      rw [← hw4]
      have hone : ∀ u ∈ [Value.slice A3 zs.length c3, Value.int .i64 g], u.oneCell' = true := by
        intro u hu
        rcases List.mem_cons.1 hu with rfl | hu
        · rfl
        · rcases List.mem_cons.1 hu with rfl | hu
          · rfl
          · cases hu
      clear hw4 hk4 hz4 hba hb4
      refine hK.out _ _ (HQ.out _ HB4.out) (fun _ => ?_)
      clear hK K'
      try simp only [Act.put, List.setIfInBounds_toArray, List.set_cons_zero, List.set_cons_succ]
      refine wpAnyH_ready (rs := [15]) (by decide +kernel) (by simp) (AllReadyH.cons rfl (fun K' hK => ?_) AllReadyH.nil)
      refine step_appR1 rfl _ _ 77 rfl 141 (.agg #[.slice none 0 0, .int .i64 0]) 2 32 Try.underlying77 info_prt rfl (by decide) (by decide) w.heap.size (.slice Av k cv) k _ rfl HR4.out (by omega) [.slice A3 zs.length c3, .int .i64 g] rfl hone w3.heap.size hlo4 rfl HC4.out ?_
      intro v5 w5 hown5 hgrow5
      have hkept : ∀ {x : Value} {ys : List Int} {l : Nat}, Own .i64 3 w4 l x ys → Own .i64 3 w5 l x ys := fun hx => hx.grown hgrow5 (fun q e h' => own_apartP hx HR4.out q e h'.symm.symm)
      have HBW := Lib.hid (ownr_push HR4.out (Nat.le_refl w.heap.size) (HBL.out.trans (HB4.out.mono hsz)) hlo4 hgrow5)
      have HR5 : Hid (w5.ownsRow w.heap.size 141 2 v5 (k + 1) (prow (xs ++ [(.slice A3 zs.length c3, g)]))) := Lib.hid (by rw [prow_append]; exact hown5)
      have HE5 : Hid (∀ j, j < k + 1 → ∃ u, (xs ++ [(.slice A3 zs.length c3, g)])[j]? = some (u, (prAt ps j).green) ∧ Own .i64 3 w5 w.heap.size u (prAt ps j).stage) := Lib.hid (each_snoc (w := w5) HUL.out (fun j hj => by
        obtain ⟨u, h1, h2⟩ := HE.out j hj
        exact ⟨u, h1, hkept (h2.below HB4.out)⟩) (by rw [HZS.out]; exact hkept (HO4.out.mono hsz)) HG.out)
      have HA5 : Hid (ApartL ((xs ++ [(Value.slice A3 zs.length c3, g)]).map (·.1))) := Lib.hid (apart_snoc HUL.out HAP.out HE.out (Nat.le_refl _) (fun r hr => (HOW3.out.block r hr).1))
      have HU5 : Hid ((xs ++ [(Value.slice A3 zs.length c3, g)]).length = k + 1) := Lib.hid (by rw [List.length_append, HUL.out]; rfl)
      have hQ5 : PrtAt w5 (ad.add (k * 2)) (.slice A' m c') g := (HQ.out w4 HB4.out).keep (hgrow5.block _ (by have := HBL.out.size; omega) (fun e => by have := (ownr_block HR4.out _ e.symm).1; omega))
      clear hown5 hgrow5 hkept
      refine hK.out _ _ hQ5 (fun _ => ?_)
      clear hK K'
      try simp only [Act.put, List.setIfInBounds_toArray, List.set_cons_zero, List.set_cons_succ]
      refine wpAnyH_ready (rs := [16]) (by decide +kernel) (by simp) (AllReadyH.cons rfl (fun K' hK => ?_) AllReadyH.nil)
      go_simp
      refine hK.out _ _ hQ5 (fun _ => ?_)
      clear hK K'
      try simp only [Act.put, List.setIfInBounds_toArray, List.set_cons_zero, List.set_cons_succ]
      refine wpAnyH_done (by decide +kernel) ?_ _
      go_wp2
      go_roundw
      case rel => exact ⟨k + 1, xs ++ [(.slice A3 zs.length c3, g)], by omega, HU5.out, by go_num, HR5.out, HE5.out, HA5.out, HBW.out⟩
      case measure => simp [intOf]; omega
    · obtain rfl : k = n := by omega
      have HO : Hid (OwnPr wr w.heap.size (.slice Av k cv) xs ps) := Lib.hid ⟨by rw [HL.out]; exact HRW.out, fun j hj => HE.out j (by rw [← HL.out]; exact hj), HAP.out⟩
      go_wp2
      go_ret
      exact ⟨_, xs, rfl, HO.out, HBL.out⟩
set_option maxHeartbeats 4000000 in
set_option maxRecDepth 100000 in
theorem impl_copyPlan (A : Option Addr) (n c B : Nat) (ps : List Prt) (w : World) (h : PrtsAt w B A n ps) (hB : B ≤ w.heap.size) (hn : n ≤ 1048576) (hm : ∀ j, j < n → (prAt ps j).stage.length ≤ 1048576) :
    Calls Try.prog 112 #[.slice A n c] w fun e w' => ∃ v xs, e = .returned v ∧ OwnPr w' w.heap.size v xs ps ∧ Below w.heap.size w w' := by
  have hl := h.1
  have HL := Lib.hid hl
  have H := Lib.hid h
  have HM := Lib.hid hm
  have hmx : Try.prog.follows .mixedOrders = true := by kernel_rfl
  clear h hm hl
  go_enter Try.func112, Try.ntmps112
  go_wp2_with ((with_reducible show wpList _ _ _ _ _ _); refine wpList_mkR rfl _ _ _ rfl 141 _ 2 _ Try.underlying77 info_prt (by decide) (n : Int) (n : Int) n rfl rfl rfl rfl (by omega) ?_; intro w1 hown hgrow)
  rw [made_prt] at hown
  go_loopw [11] (fun i wr => ∃ (k : Nat) (xs : List (Value × Int)), k ≤ n ∧ xs.length = k ∧ i = .int .i64 k ∧ wr.ownsRow w.heap.size 141 2 (.slice (some ⟨w.heap.size, 0, none⟩) n n) n (prow xs ++ prow (List.replicate (n - xs.length) (.slice none 0 0, 0))) ∧
      (∀ j, j < k → ∃ u, xs[j]? = some (u, (prAt ps j).green) ∧ Own .i64 3 wr w.heap.size u (prAt ps j).stage) ∧ ApartL (xs.map (·.1)) ∧ Below w.heap.size w wr) (fun i _ => n - (intOf i).toNat)
  case atStart => exact ⟨0, [], Nat.zero_le _, rfl, rfl, by simpa [prow] using hown, fun j hj => absurd hj (by omega), ApartL.nil, below_grown hgrow⟩
  case round =>
    clear hown hgrow
    obtain ⟨k, xs, hk, hul, rfl, hrow, heach, hap, hbl⟩ := hrel
    have hsz := hbl.size
    have HRW := Lib.hid hrow
    have HE := Lib.hid heach
    have HAP := Lib.hid hap
    have HBL := Lib.hid hbl
    have HUL := Lib.hid hul
    clear hrow heach hap hbl hul
    by_cases hlt : k < n
    · obtain ⟨ad, A', m, c', rfl, hab, hq, hi, hmc, hnil⟩ := H.out.at hlt
      obtain ⟨q0, q1⟩ := hq.below HBL.out (by omega)
      have hml := hi.1
      have hmk := HM.out k hlt
      have HI := Lib.hid (fun (W : World) (hW : Below w.heap.size w W) => hi.keep (w' := W) (fun p hp => hW.cell (by omega)))
      clear hq hi
      obtain ⟨zs, hzs⟩ : ∃ zs, (prAt ps k).stage = zs := ⟨_, rfl⟩
      obtain ⟨g, hgr⟩ : ∃ g, (prAt ps k).green = g := ⟨_, rfl⟩
      rw [hzs] at hml hmk HI
      rw [hgr] at q1
      have HZS := Lib.hid hzs
      have HG := Lib.hid hgr
      clear hzs hgr
      have hmm : m ≤ 1048576 := by omega
      clear hml
      have i1 : (0 : Int) ≤ (k : Int) := by omega
      have i2 : (k : Int) < (n : Int) := by omega
      obtain ⟨wb, hwb⟩ : ∃ wb, wb = wr.alloc (.cells #[.slice A' m c', .int .i64 g] 141) := ⟨_, rfl⟩
      obtain ⟨hkb, hzb, hbb⟩ := one_block hwb
      have HBB := Lib.hid (below_drewC hbb)
      have hbd : wb.drew.heap[wr.heap.size]? = some (.cells #[.slice A' m c', .int .i64 g] 141) := hkb
      have hszb : wr.heap.size ≤ wb.heap.size := hbb.size
      clear hkb hzb hbb
      go_wp2
      rw [← hwb]
      clear hwb q0 q1
      refine wp_region_held_drew (S := fun W' => W'.heap[wr.heap.size]? = some (.cells #[.slice A' m c', .int .i64 g] 141)) hmx hbd (fun hH => ?_)
      refine wpAnyH_take (i := 0) (v := .slice (some ⟨w.heap.size, 0, none⟩) n n) rfl (by kernel_rfl) (by kernel_rfl) (by kernel_rfl) (fun _ _ _ h => h) (Or.inl ⟨by rfl, by intro W' hSw; go_simp⟩) hH ?_
      try simp only [Act.put, List.setIfInBounds_toArray, List.set_cons_zero, List.set_cons_succ]
      refine wpAnyH_take (i := 1) (v := .int .i64 (k : Int)) rfl (by kernel_rfl) (by kernel_rfl) (by kernel_rfl) (fun _ _ _ h => h) (Or.inl ⟨by rfl, by intro W' hSw; go_simp⟩) hH ?_
      try simp only [Act.put, List.setIfInBounds_toArray, List.set_cons_zero, List.set_cons_succ]
      refine wpAnyH_take (i := 2) (v := .pointer (some ⟨wr.heap.size, 0, none⟩)) rfl (by kernel_rfl) (by kernel_rfl) (by kernel_rfl) (fun _ _ _ h => h) (Or.inl ⟨by rfl, by intro W' hSw; go_simp⟩) hH ?_
      try simp only [Act.put, List.setIfInBounds_toArray, List.set_cons_zero, List.set_cons_succ]
      refine wpAnyH_take (i := 3) (v := .slice A' m c') rfl (by kernel_rfl) (by kernel_rfl) (by kernel_rfl) (fun _ _ _ h => h) (Or.inl ⟨by rfl, by intro W' hSw; have hlt' := lt_of_block hSw; obtain ⟨b0, b1⟩ := cells2C hSw; go_simp⟩) hH ?_
      try simp only [Act.put, List.setIfInBounds_toArray, List.set_cons_zero, List.set_cons_succ]
      refine wpAnyH_take (i := 5) (v := .pointer (some ⟨wr.heap.size, 1, none⟩)) rfl (by kernel_rfl) (by kernel_rfl) (by kernel_rfl) (fun _ _ _ h => h) (Or.inl ⟨by rfl, by intro W' hSw; go_simp⟩) hH ?_
      try simp only [Act.put, List.setIfInBounds_toArray, List.set_cons_zero, List.set_cons_succ]
      refine wpAnyH_take (i := 6) (v := .int .i64 g) rfl (by kernel_rfl) (by kernel_rfl) (by kernel_rfl) (fun _ _ _ h => h) (Or.inl ⟨by rfl, by intro W' hSw; have hlt' := lt_of_block hSw; obtain ⟨b0, b1⟩ := cells2C hSw; go_simp⟩) hH ?_
      try simp only [Act.put, List.setIfInBounds_toArray, List.set_cons_zero, List.set_cons_succ]
      refine wpAnyH_ready (rs := [4]) (by decide +kernel) (by simp) (AllReadyH.cons rfl (fun K' hK => ?_) AllReadyH.nil)
      go_simp
      have hbd' := HBL.out.trans (HBB.out.mono hsz)
      refine (lib_Clone2 A' m c' wb.drew.heap.size zs wb.drew ((HI.out _ hbd').up (by have := hbd'.size; omega)) (Nat.le_refl _) hnil (by omega)).mono ?_
      rintro e w2 ⟨v3, rfl, ho2, hb2⟩
      obtain ⟨A3, c3, rfl⟩ := ho2.sliced
      have hB2 : Below wr.heap.size wr w2 := HBB.out.trans (hb2.mono HBB.out.size)
      have hk2 := (hb2.block _ (lt_of_block hbd)).trans hbd
      have hl2 : w.heap.size ≤ w2.heap.size := by have := hB2.size; omega
      have HB2 := Lib.hid hB2
      have HO2 := Lib.hid (ho2.mono (lo' := wr.heap.size) HBB.out.size)
      clear hb2 ho2 hB2 hbd'
      go_wp2_with fail
      refine hK.out _ _ hk2 (fun _ => ?_)
      clear hK K'
      try simp only [Act.put, List.setIfInBounds_toArray, List.set_cons_zero, List.set_cons_succ]
      refine wpAnyH_take (i := 7) (v := .agg #[.slice A3 zs.length c3, .int .i64 g]) rfl (by kernel_rfl) (by kernel_rfl) (by kernel_rfl) (fun _ _ _ h => h) (Or.inl ⟨by rfl, by intro W' hSw; go_simp⟩) hk2 ?_
      try simp only [Act.put, List.setIfInBounds_toArray, List.set_cons_zero, List.set_cons_succ]
      have hlr0 : w.heap.size < w2.heap.size := (ownr_block (ownr_below HRW.out HB2.out) _ rfl).2
      refine wpAnyH_take (i := 8) (v := .pointer (some ⟨w.heap.size, k * 2, none⟩)) rfl (by kernel_rfl) (by kernel_rfl) (by kernel_rfl) (fun _ _ _ h => h) (Or.inl ⟨by rfl, by intro W' hSw; go_simp⟩) hk2 ?_
      try simp only [Act.put, List.setIfInBounds_toArray, List.set_cons_zero, List.set_cons_succ]
      refine wpAnyH_ready (rs := [9]) (by decide +kernel) (by simp) (AllReadyH.cons rfl (fun K' hK => ?_) AllReadyH.nil)
      have hrow2 := ownr_below HRW.out HB2.out
      obtain ⟨x0, hx0⟩ := ownr_some hrow2 (j := k * 2) (by omega)
      obtain ⟨x1, hx1⟩ := ownr_some hrow2 (j := k * 2 + 1) (by omega)
      have f0 := World.ownsRow.frozenAt hrow2
      have hlr : w.heap.size < w2.heap.size := (ownr_block hrow2 _ rfl).2
      go_simp
      obtain ⟨w3, hw3⟩ : ∃ w3, w3 = (w2.setCell ⟨w.heap.size, k * 2, none⟩ (.slice A3 zs.length c3)).setCell ⟨w.heap.size, k * 2 + 1, none⟩ (.int .i64 g) := ⟨_, rfl⟩
      rw [← hw3]
      have hst := (World.ownsRow.stored (World.ownsRow.stored hrow2 (k * 2) (.slice A3 zs.length c3)).1 (k * 2 + 1) (.int .i64 g)).1
      rw [← hw3] at hst
      have hgs : w2.grownBy w3 (some w.heap.size) := by rw [hw3]; exact only_setCell (only_setCell (World.grownBy.refl _ _) _ _) _ _
      have hkept : ∀ {x : Value} {xs : List Int} {l : Nat}, Own .i64 3 w2 l x xs → Own .i64 3 w3 l x xs := fun hx => hx.grown hgs (fun g hg e => own_apartP hx hrow2 g hg e)
      have hsn : xs.length < n := by rw [HUL.out]; exact hlt
      have hsx := HUL.out
      rw [← hsx, prow_next xs n _ (.slice A3 zs.length c3, g) hsn] at hst
      have HR := Lib.hid hst
      have HE5 : Hid (∀ j, j < k + 1 → ∃ u, (xs ++ [(.slice A3 zs.length c3, g)])[j]? = some (u, (prAt ps j).green) ∧ Own .i64 3 w3 w.heap.size u (prAt ps j).stage) := Lib.hid (each_snoc (w := w3) HUL.out (fun j hj => by
        obtain ⟨u, h1, h2⟩ := HE.out j hj
        exact ⟨u, h1, hkept (h2.below HB2.out)⟩) (by rw [HZS.out]; exact hkept (HO2.out.mono hsz)) HG.out)
      have HA5 : Hid (ApartL ((xs ++ [(Value.slice A3 zs.length c3, g)]).map (·.1))) := Lib.hid (apart_snoc HUL.out HAP.out HE.out (Nat.le_refl _) (fun r hr => (HO2.out.block r hr).1))
      have HU5 : Hid ((xs ++ [(Value.slice A3 zs.length c3, g)]).length = k + 1) := Lib.hid (by rw [List.length_append, HUL.out]; rfl)
      have HB3 : Hid (Below w.heap.size w w3) := Lib.hid (by rw [hw3]; exact ((HBL.out.trans (HB2.out.mono hsz)).setCell (Nat.le_refl _) _).setCell (Nat.le_refl _) _)
      have hk3 : w3.heap[wr.heap.size]? = some (.cells #[.slice A' m c', .int .i64 g] 141) := (hgs.block _ (lt_of_block hk2) (fun e => by have := Option.some.inj e; have : w.heap.size < wr.heap.size := (ownr_block HRW.out _ rfl).2; omega)).trans hk2
      clear hst hgs hkept hw3 hx0 hx1 f0 hrow2 hsx
      refine hK.out _ _ hk3 (fun _ => ?_)
      clear hK K'
      try simp only [Act.put, List.setIfInBounds_toArray, List.set_cons_zero, List.set_cons_succ]
      refine wpAnyH_done (by decide +kernel) ?_ _
      go_wp2
      go_roundw
      case rel => exact ⟨k + 1, xs ++ [(.slice A3 zs.length c3, g)], by omega, HU5.out, by go_num, HR.out, HE5.out, HA5.out, HB3.out⟩
      case measure => simp [intOf]; omega
    · obtain rfl : k = n := by omega
      have hrow := HRW.out
      rw [HUL.out, Nat.sub_self, List.replicate_zero] at hrow
      have HO : Hid (OwnPr wr w.heap.size (.slice (some ⟨w.heap.size, 0, none⟩) k k) xs ps) := Lib.hid ⟨by rw [HL.out]; simpa [prow] using hrow, fun j hj => HE.out j (by rw [← HL.out]; exact hj), HAP.out⟩
      clear hrow
      go_wp2
      go_ret
      exact ⟨_, xs, rfl, HO.out, HBL.out⟩
end Go.Proofs.Ytmcoeafkbpeelaa

/- slices.Grow of nil and slices.Concat of two rows, at rows of structs. -/
namespace Go.Proofs.Ytmcoeafkbpeelaa
open Go.RowKit
set_option linter.unusedVariables false

abbrev zCatP : Array Value := #[.slice none 0 0, .int .i64 0]
abbrev zCatC : Array Value := #[.int .i64 0, .int .i64 0, .int .i64 0, .int .i64 0]
theorem info_catP : (Try.prog.info? 141).map (fun i => (i.zero, i.size, i.bytes)) = some (some (.agg zCatP), 2, 32) := by kernel_rfl
theorem zc_sizeP (m : Nat) : (Builtin.zeroCells (Value.agg zCatP).cells m).size = m * 2 := by
  simp [Builtin.zeroCells, Value.cells]
theorem lib_GrowNilP (m : Nat) (w : World) (hm : m ≤ 4294967296) (hp : 0 < m) :
    Calls Try.prog 141 #[.slice none 0 0, .int .i64 m] w fun e w' => ∃ v, e = .returned v ∧ w'.ownsRow w.heap.size 141 2 v 0 [] ∧ Below w.heap.size w w' := by
  have e1 : ¬ (m : Int) < 0 := by omega
  have e2 : (m : Int) > 0 := by omega
  have hwm : IntKind.i64.wrap (m : Int) = (m : Int) := by rw [IntKind.wrap_i64]; omega
  obtain ⟨i, hi1, hz, hsz, hby⟩ := info_parts (info_catP)
  have hr := fun ty => Lib.run_append_nil_zeros (P := Try.prog) w 77 3 ty 141 i (.agg zCatP) .i64 .i64 Try.underlying77 Try.underlying3 hi1 hz m hp (by omega) (by omega) (by rw [hby]; omega)
  have hc1 := grownCap_ge w m 0 141
  have hc2 := grownCap_le_maxLen w m 0 141 (by unfold maxLen; omega)
  obtain ⟨q, hq⟩ : ∃ q, q = grownCap w m 0 141 := ⟨_, rfl⟩
  rw [← hq] at hc1 hc2
  simp only [← hq] at hr
  have HW : Hid ((w.drew.alloc (.cells (Builtin.zeroCells (Value.agg zCatP).cells m ++ Builtin.zeroCells (Value.agg zCatP).cells (q - m)) 141)).ownsRow w.heap.size 141 2 (.slice (some ⟨w.heap.size, 0, none⟩) 0 q) 0 []) := Lib.hid ⟨by simp, .inr ⟨w.heap.size, q, _, rfl, Nat.le_refl _, heap_alloc_new w.drew _, Nat.zero_le _, hc2, by rw [Array.size_append, zc_sizeP, zc_sizeP]; omega, by simp⟩⟩
  have HB : Hid (Below w.heap.size w (w.drew.alloc (.cells (Builtin.zeroCells (Value.agg zCatP).cells m ++ Builtin.zeroCells (Value.agg zCatP).cells (q - m)) 141))) := Lib.hid ((show Below w.heap.size w w.drew from ⟨rfl, rfl, rfl, Nat.le_refl _, fun _ _ => rfl⟩).alloc (Nat.le_refl _) _)
  generalize w.drew.alloc (.cells (Builtin.zeroCells (Value.agg zCatP).cells m ++ Builtin.zeroCells (Value.agg zCatP).cells (q - m)) 141) = w1 at *
  clear hi1 hz hsz hby hq
  go_enter Try.func141, Try.ntmps141
  go_wp2_with (at_builtin; refine Lib.wpList_append_run w rfl _ _ _ _ rfl (.slice none 0 0) (.int .i64 m) rfl rfl _ _ (hr _) ?_)
  go_ret
  exact ⟨_, rfl, HW.out, HB.out⟩
set_option maxHeartbeats 2000000 in
/-- slices.Concat of two rows that are not both empty. -/
theorem lib_Concat2P (H : Nat) (A1 : Option Addr) (n1 c1 : Nat) (xs : List Value) (A2 : Option Addr) (n2 c2 : Nat) (ys : List Value) (B : Nat) (w : World)
    (hH : w.heap[H]? = some (.cells #[.slice A1 n1 c1, .slice A2 n2 c2] 77)) (h1 : CellsAt w B A1 (n1 * 2) xs) (h2 : CellsAt w B A2 (n2 * 2) ys) (o1 : ∀ u ∈ xs, u.oneCell' = true) (o2 : ∀ u ∈ ys, u.oneCell' = true) (hB : B ≤ w.heap.size) (hA1 : A1 = none → n1 = 0 ∧ c1 = 0) (hA2 : A2 = none → n2 = 0 ∧ c2 = 0) (hp : 0 < n1 + n2) (hs1 : n1 ≤ 1048576) (hs2 : n2 ≤ 1048576) :
    Calls Try.prog 113 #[.slice (some ⟨H, 0, none⟩) 2 2] w fun e w' => ∃ A c, e = .returned (.slice A (n1 + n2) c) ∧ w'.ownsRow w.heap.size 141 2 (.slice A (n1 + n2) c) (n1 + n2) (xs ++ ys) ∧ Below w.heap.size w w' := by
  have z0 : w.cell? ⟨H, 0, none⟩ = some (.slice A1 n1 c1) := by rw [cell_of_row w H 0 _ _ _ hH]; rfl
  have z1 : w.cell? ⟨H, 1, none⟩ = some (.slice A2 n2 c2) := by rw [cell_of_row w H 1 _ _ _ hH]; rfl
  have wa : IntKind.i64.wrap ((n1 : Int) + (n2 : Int)) = ((n1 + n2 : Nat) : Int) := by rw [IntKind.wrap_i64]; omega
  have wb : IntKind.i64.wrap ((n1 : Int)) = (n1 : Int) := by rw [IntKind.wrap_i64]; omega
  have hlt := lt_of_block hH
  have HZ := Lib.hid hH
  clear hH
  go_enter Try.func113, Try.ntmps113
  go_wp2_with fail
  go_loopw [3, 11] (fun z i wr => w = wr ∧ ((i = .int .i64 0 ∧ z = .int .i64 0) ∨ (i = .int .i64 1 ∧ z = .int .i64 n1) ∨ (i = .int .i64 2 ∧ z = .int .i64 ((n1 + n2 : Nat) : Int)))) (fun _ i _ => 2 - (intOf i).toNat)
  case atStart => exact ⟨rfl, .inl ⟨rfl, rfl⟩⟩
  case round =>
    obtain ⟨rfl, ⟨rfl, rfl⟩ | ⟨rfl, rfl⟩ | ⟨rfl, rfl⟩⟩ := hrel
    · have e2 : ¬ (n1 : Int) < 0 := by omega
      go_wp2_with fail
      go_roundw
      case rel => exact ⟨by first | trivial | rfl, .inr (.inl ⟨by go_num, by go_num⟩)⟩
      case measure => simp [intOf]
    · have e1 : ¬ ((n1 + n2 : Nat) : Int) < 0 := by omega
      have e3 : ¬ (n1 : Int) + (n2 : Int) < 0 := by omega
      go_wp2_with fail
      go_roundw
      case rel => exact ⟨by first | trivial | rfl, .inr (.inr ⟨by go_num, by go_num⟩)⟩
      case measure => simp [intOf]
    · clear z0 z1
      go_wp2_with fail
      refine (lib_GrowNilP (n1 + n2) w (by omega) (by omega)).mono ?_
      rintro e w1 ⟨v, rfl, ho, hb⟩
      have hH1 := Lib.hid ((hb.block H hlt).trans HZ.out)
      have HO := Lib.hid ho
      have HB := Lib.hid hb
      obtain ⟨Ag, cg, rfl⟩ := ownr_sliced ho
      have I1 := Lib.hid h1
      have I2 := Lib.hid h2
      clear ho hb h1 h2
      go_wp2_with fail
      go_loopw [6, 27] (fun v i wr => Below w.heap.size w wr ∧ ((i = .int .i64 0 ∧ wr.ownsRow w.heap.size 141 2 v 0 []) ∨ (i = .int .i64 1 ∧ wr.ownsRow w.heap.size 141 2 v n1 xs) ∨ (i = .int .i64 2 ∧ wr.ownsRow w.heap.size 141 2 v (n1 + n2) (xs ++ ys)))) (fun _ i _ => 2 - (intOf i).toNat)
      case atStart => exact ⟨HB.out, .inl ⟨rfl, HO.out⟩⟩
      case round =>
        obtain ⟨hbl, ⟨rfl, ho⟩ | ⟨rfl, ho⟩ | ⟨rfl, ho⟩⟩ := hrel
        · have hHr := (hbl.block H hlt).trans HZ.out
          have z0 : wr.cell? ⟨H, 0, none⟩ = some (.slice A1 n1 c1) := by rw [cell_of_row wr H 0 _ _ _ hHr]; rfl
          have hi := I1.out.below (hbl.mono hB)
          have hsz := hbl.size
          have HBL := Lib.hid hbl
          obtain ⟨Ae, ce, rfl⟩ := ownr_sliced ho
          clear hHr hbl
          go_wp2_with (at_builtin; refine wpList_appR rfl _ _ 77 77 rfl 141 141 (.agg zCatP) 2 32 Try.underlying77 Try.underlying77 info_catP rfl (by decide) (by decide) w.heap.size _ 0 [] rfl ho A1 n1 c1 B xs rfl hi o1 hA1 (by omega) hsz ?_; intro v1 wq hown1 hgrow1 hat1; have hb1 := ownr_push ho (Nat.le_refl _) HBL.out hsz hgrow1; have hown2 : wq.ownsRow w.heap.size 141 2 v1 n1 xs := by { simpa using hown1 }; clear hown1 hgrow1 hat1)
          go_roundw
          case rel => exact ⟨hb1, .inr (.inl ⟨by go_num, hown2⟩)⟩
          case measure => simp [intOf]
        · have hHr := (hbl.block H hlt).trans HZ.out
          have z1 : wr.cell? ⟨H, 1, none⟩ = some (.slice A2 n2 c2) := by rw [cell_of_row wr H 1 _ _ _ hHr]; rfl
          have hi := I2.out.below (hbl.mono hB)
          have hsz := hbl.size
          have HBL := Lib.hid hbl
          obtain ⟨Ae, ce, rfl⟩ := ownr_sliced ho
          clear hHr hbl
          go_wp2_with (at_builtin; refine wpList_appR rfl _ _ 77 77 rfl 141 141 (.agg zCatP) 2 32 Try.underlying77 Try.underlying77 info_catP rfl (by decide) (by decide) w.heap.size _ n1 xs rfl ho A2 n2 c2 B ys rfl hi o2 hA2 (by omega) hsz ?_; intro v1 wq hown1 hgrow1 hat1; have hb1 := ownr_push ho (Nat.le_refl _) HBL.out hsz hgrow1; clear hgrow1 hat1)
          go_roundw
          case rel => exact ⟨hb1, .inr (.inr ⟨by go_num, hown1⟩)⟩
          case measure => simp [intOf]
        · obtain ⟨Ae, ce, rfl⟩ := ownr_sliced ho
          have HOE := Lib.hid ho
          clear ho
          go_wp2_with fail
          go_ret
          exact ⟨Ae, ce, rfl, HOE.out, hbl⟩
theorem info_catC : (Try.prog.info? 128).map (fun i => (i.zero, i.size, i.bytes)) = some (some (.agg zCatC), 4, 32) := by kernel_rfl
theorem zc_sizeC (m : Nat) : (Builtin.zeroCells (Value.agg zCatC).cells m).size = m * 4 := by
  simp [Builtin.zeroCells, Value.cells]
theorem lib_GrowNilC (m : Nat) (w : World) (hm : m ≤ 4294967296) (hp : 0 < m) :
    Calls Try.prog 140 #[.slice none 0 0, .int .i64 m] w fun e w' => ∃ v, e = .returned v ∧ w'.ownsRow w.heap.size 128 4 v 0 [] ∧ Below w.heap.size w w' := by
  have e1 : ¬ (m : Int) < 0 := by omega
  have e2 : (m : Int) > 0 := by omega
  have hwm : IntKind.i64.wrap (m : Int) = (m : Int) := by rw [IntKind.wrap_i64]; omega
  obtain ⟨i, hi1, hz, hsz, hby⟩ := info_parts (info_catC)
  have hr := fun ty => Lib.run_append_nil_zeros (P := Try.prog) w 68 3 ty 128 i (.agg zCatC) .i64 .i64 Try.underlying68 Try.underlying3 hi1 hz m hp (by omega) (by omega) (by rw [hby]; omega)
  have hc1 := grownCap_ge w m 0 128
  have hc2 := grownCap_le_maxLen w m 0 128 (by unfold maxLen; omega)
  obtain ⟨q, hq⟩ : ∃ q, q = grownCap w m 0 128 := ⟨_, rfl⟩
  rw [← hq] at hc1 hc2
  simp only [← hq] at hr
  have HW : Hid ((w.drew.alloc (.cells (Builtin.zeroCells (Value.agg zCatC).cells m ++ Builtin.zeroCells (Value.agg zCatC).cells (q - m)) 128)).ownsRow w.heap.size 128 4 (.slice (some ⟨w.heap.size, 0, none⟩) 0 q) 0 []) := Lib.hid ⟨by simp, .inr ⟨w.heap.size, q, _, rfl, Nat.le_refl _, heap_alloc_new w.drew _, Nat.zero_le _, hc2, by rw [Array.size_append, zc_sizeC, zc_sizeC]; omega, by simp⟩⟩
  have HB : Hid (Below w.heap.size w (w.drew.alloc (.cells (Builtin.zeroCells (Value.agg zCatC).cells m ++ Builtin.zeroCells (Value.agg zCatC).cells (q - m)) 128))) := Lib.hid ((show Below w.heap.size w w.drew from ⟨rfl, rfl, rfl, Nat.le_refl _, fun _ _ => rfl⟩).alloc (Nat.le_refl _) _)
  generalize w.drew.alloc (.cells (Builtin.zeroCells (Value.agg zCatC).cells m ++ Builtin.zeroCells (Value.agg zCatC).cells (q - m)) 128) = w1 at *
  clear hi1 hz hsz hby hq
  go_enter Try.func140, Try.ntmps140
  go_wp2_with (at_builtin; refine Lib.wpList_append_run w rfl _ _ _ _ rfl (.slice none 0 0) (.int .i64 m) rfl rfl _ _ (hr _) ?_)
  go_ret
  exact ⟨_, rfl, HW.out, HB.out⟩
set_option maxHeartbeats 2000000 in
/-- slices.Concat of two rows that are not both empty. -/
theorem lib_Concat2C (H : Nat) (A1 : Option Addr) (n1 c1 : Nat) (xs : List Value) (A2 : Option Addr) (n2 c2 : Nat) (ys : List Value) (B : Nat) (w : World)
    (hH : w.heap[H]? = some (.cells #[.slice A1 n1 c1, .slice A2 n2 c2] 68)) (h1 : CellsAt w B A1 (n1 * 4) xs) (h2 : CellsAt w B A2 (n2 * 4) ys) (o1 : ∀ u ∈ xs, u.oneCell' = true) (o2 : ∀ u ∈ ys, u.oneCell' = true) (hB : B ≤ w.heap.size) (hA1 : A1 = none → n1 = 0 ∧ c1 = 0) (hA2 : A2 = none → n2 = 0 ∧ c2 = 0) (hp : 0 < n1 + n2) (hs1 : n1 ≤ 1048576) (hs2 : n2 ≤ 1048576) :
    Calls Try.prog 107 #[.slice (some ⟨H, 0, none⟩) 2 2] w fun e w' => ∃ A c, e = .returned (.slice A (n1 + n2) c) ∧ w'.ownsRow w.heap.size 128 4 (.slice A (n1 + n2) c) (n1 + n2) (xs ++ ys) ∧ Below w.heap.size w w' := by
  have z0 : w.cell? ⟨H, 0, none⟩ = some (.slice A1 n1 c1) := by rw [cell_of_row w H 0 _ _ _ hH]; rfl
  have z1 : w.cell? ⟨H, 1, none⟩ = some (.slice A2 n2 c2) := by rw [cell_of_row w H 1 _ _ _ hH]; rfl
  have wa : IntKind.i64.wrap ((n1 : Int) + (n2 : Int)) = ((n1 + n2 : Nat) : Int) := by rw [IntKind.wrap_i64]; omega
  have wb : IntKind.i64.wrap ((n1 : Int)) = (n1 : Int) := by rw [IntKind.wrap_i64]; omega
  have hlt := lt_of_block hH
  have HZ := Lib.hid hH
  clear hH
  go_enter Try.func107, Try.ntmps107
  go_wp2_with fail
  go_loopw [3, 11] (fun z i wr => w = wr ∧ ((i = .int .i64 0 ∧ z = .int .i64 0) ∨ (i = .int .i64 1 ∧ z = .int .i64 n1) ∨ (i = .int .i64 2 ∧ z = .int .i64 ((n1 + n2 : Nat) : Int)))) (fun _ i _ => 2 - (intOf i).toNat)
  case atStart => exact ⟨rfl, .inl ⟨rfl, rfl⟩⟩
  case round =>
    obtain ⟨rfl, ⟨rfl, rfl⟩ | ⟨rfl, rfl⟩ | ⟨rfl, rfl⟩⟩ := hrel
    · have e2 : ¬ (n1 : Int) < 0 := by omega
      go_wp2_with fail
      go_roundw
      case rel => exact ⟨by first | trivial | rfl, .inr (.inl ⟨by go_num, by go_num⟩)⟩
      case measure => simp [intOf]
    · have e1 : ¬ ((n1 + n2 : Nat) : Int) < 0 := by omega
      have e3 : ¬ (n1 : Int) + (n2 : Int) < 0 := by omega
      go_wp2_with fail
      go_roundw
      case rel => exact ⟨by first | trivial | rfl, .inr (.inr ⟨by go_num, by go_num⟩)⟩
      case measure => simp [intOf]
    · clear z0 z1
      go_wp2_with fail
      refine (lib_GrowNilC (n1 + n2) w (by omega) (by omega)).mono ?_
      rintro e w1 ⟨v, rfl, ho, hb⟩
      have hH1 := Lib.hid ((hb.block H hlt).trans HZ.out)
      have HO := Lib.hid ho
      have HB := Lib.hid hb
      obtain ⟨Ag, cg, rfl⟩ := ownr_sliced ho
      have I1 := Lib.hid h1
      have I2 := Lib.hid h2
      clear ho hb h1 h2
      go_wp2_with fail
      go_loopw [6, 27] (fun v i wr => Below w.heap.size w wr ∧ ((i = .int .i64 0 ∧ wr.ownsRow w.heap.size 128 4 v 0 []) ∨ (i = .int .i64 1 ∧ wr.ownsRow w.heap.size 128 4 v n1 xs) ∨ (i = .int .i64 2 ∧ wr.ownsRow w.heap.size 128 4 v (n1 + n2) (xs ++ ys)))) (fun _ i _ => 2 - (intOf i).toNat)
      case atStart => exact ⟨HB.out, .inl ⟨rfl, HO.out⟩⟩
      case round =>
        obtain ⟨hbl, ⟨rfl, ho⟩ | ⟨rfl, ho⟩ | ⟨rfl, ho⟩⟩ := hrel
        · have hHr := (hbl.block H hlt).trans HZ.out
          have z0 : wr.cell? ⟨H, 0, none⟩ = some (.slice A1 n1 c1) := by rw [cell_of_row wr H 0 _ _ _ hHr]; rfl
          have hi := I1.out.below (hbl.mono hB)
          have hsz := hbl.size
          have HBL := Lib.hid hbl
          obtain ⟨Ae, ce, rfl⟩ := ownr_sliced ho
          clear hHr hbl
          go_wp2_with (at_builtin; refine wpList_appR rfl _ _ 68 68 rfl 128 128 (.agg zCatC) 4 32 Try.underlying68 Try.underlying68 info_catC rfl (by decide) (by decide) w.heap.size _ 0 [] rfl ho A1 n1 c1 B xs rfl hi o1 hA1 (by omega) hsz ?_; intro v1 wq hown1 hgrow1 hat1; have hb1 := ownr_push ho (Nat.le_refl _) HBL.out hsz hgrow1; have hown2 : wq.ownsRow w.heap.size 128 4 v1 n1 xs := by { simpa using hown1 }; clear hown1 hgrow1 hat1)
          go_roundw
          case rel => exact ⟨hb1, .inr (.inl ⟨by go_num, hown2⟩)⟩
          case measure => simp [intOf]
        · have hHr := (hbl.block H hlt).trans HZ.out
          have z1 : wr.cell? ⟨H, 1, none⟩ = some (.slice A2 n2 c2) := by rw [cell_of_row wr H 1 _ _ _ hHr]; rfl
          have hi := I2.out.below (hbl.mono hB)
          have hsz := hbl.size
          have HBL := Lib.hid hbl
          obtain ⟨Ae, ce, rfl⟩ := ownr_sliced ho
          clear hHr hbl
          go_wp2_with (at_builtin; refine wpList_appR rfl _ _ 68 68 rfl 128 128 (.agg zCatC) 4 32 Try.underlying68 Try.underlying68 info_catC rfl (by decide) (by decide) w.heap.size _ n1 xs rfl ho A2 n2 c2 B ys rfl hi o2 hA2 (by omega) hsz ?_; intro v1 wq hown1 hgrow1 hat1; have hb1 := ownr_push ho (Nat.le_refl _) HBL.out hsz hgrow1; clear hgrow1 hat1)
          go_roundw
          case rel => exact ⟨hb1, .inr (.inr ⟨by go_num, hown1⟩)⟩
          case measure => simp [intOf]
        · obtain ⟨Ae, ce, rfl⟩ := ownr_sliced ho
          have HOE := Lib.hid ho
          clear ho
          go_wp2_with fail
          go_ret
          exact ⟨Ae, ce, rfl, HOE.out, hbl⟩
end Go.Proofs.Ytmcoeafkbpeelaa
