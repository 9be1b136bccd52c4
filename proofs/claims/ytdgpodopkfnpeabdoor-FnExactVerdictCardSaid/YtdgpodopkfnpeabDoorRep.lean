/- Report as Lean data; rows of them, and the laws' helpers for these (written by gentype.py). -/
import Derived.Test.YtdgpodopkfnpeabDoorFlat
import Derived.Test.YtdgpodopkfnpeabDoorMem
import Derived.Deep.RegionHeld3
import Derived.Deep.DrawnRows
namespace Go.Proofs.YtdgpodopkfnpeabDoor
open Go.RowKit
set_option linter.unusedVariables false

structure Rep where
  path : Int
  second : Int
  light : Int
  since : Int
  other : Int
deriving DecidableEq
def Rep.cells (p : Rep) : List Value := [.int .i64 p.path, .int .i64 p.second, .int .i64 p.light, .int .i64 p.since, .int .i64 p.other]
def Rep.val (p : Rep) : Value := .agg #[.int .i64 p.path, .int .i64 p.second, .int .i64 p.light, .int .i64 p.since, .int .i64 p.other]
def Rep.wf (p : Rep) : Prop := (Lit.int .i64 p.path).wf = true ∧ (Lit.int .i64 p.second).wf = true ∧ (Lit.int .i64 p.light).wf = true ∧ (Lit.int .i64 p.since).wf = true ∧ (Lit.int .i64 p.other).wf = true
def repcells (ps : List Rep) : List Value := ps.flatMap Rep.cells
theorem repcells_length (ps : List Rep) : (repcells ps).length = ps.length * 5 := flat_length (f := Rep.cells) (fun _ => rfl) ps
theorem repcells_take {ps : List Rep} {k : Nat} {p : Rep} (h : ps[k]? = some p) : repcells (ps.take (k + 1)) = repcells (ps.take k) ++ p.cells := by
  unfold repcells
  rw [List.take_add_one, h, List.flatMap_append]
  simp
theorem repcells_one (ps : List Rep) : ∀ u ∈ repcells ps, u.oneCell' = true := by
  intro u hu
  obtain ⟨p, _, hp⟩ := List.mem_flatMap.1 hu
  simp only [Rep.cells, List.mem_cons, List.not_mem_nil, or_false] at hp
  rcases hp with rfl | rfl | rfl | rfl | rfl <;> rfl
theorem repcells_put {ps : List Rep} {zs : List Value} {k : Nat} {p : Rep} (h : ps[k]? = some p) (hz : k * 5 + 5 ≤ zs.length) :
    (((((repcells (ps.take k) ++ zs.drop (k * 5)).set (k * 5) (.int .i64 p.path)).set (k * 5 + 1) (.int .i64 p.second)).set (k * 5 + 2) (.int .i64 p.light)).set (k * 5 + 3) (.int .i64 p.since)).set (k * 5 + 4) (.int .i64 p.other) = repcells (ps.take (k + 1)) ++ zs.drop ((k + 1) * 5) := by
  obtain ⟨z0, z1, z2, z3, z4, hd⟩ := drop5 hz
  have hk := (List.getElem?_eq_some_iff.1 h).1
  rw [hd, set5 (by rw [repcells_length, List.length_take]; omega), repcells_take h]
  simp [Rep.cells, Nat.add_mul]
def RepsAt (w : World) (B : Nat) (A : Option Addr) (n : Nat) (ps : List Rep) : Prop := ps.length = n ∧ CellsAt w B A (n * 5) (repcells ps)
theorem RepsAt.keep {w w' : World} {B : Nat} {A : Option Addr} {n : Nat} {ps : List Rep} (h : RepsAt w B A n ps) (hk : ∀ p : Addr, p.block < B → w'.cell? p = w.cell? p) : RepsAt w' B A n ps := ⟨h.1, h.2.keep hk⟩
theorem RepsAt.below {w w' : World} {B : Nat} {A : Option Addr} {n : Nat} {ps : List Rep} (h : RepsAt w B A n ps) (hb : Below B w w') : RepsAt w' B A n ps := ⟨h.1, h.2.below hb⟩
theorem RepsAt.up {w : World} {B B' : Nat} {A : Option Addr} {n : Nat} {ps : List Rep} (h : RepsAt w B A n ps) (hB : B ≤ B') : RepsAt w B' A n ps := ⟨h.1, h.2.up hB⟩
structure RepAt (w : World) (q : Addr) (p : Rep) : Prop where
  c0 : w.cell? q = some (.int .i64 p.path)
  c1 : w.cell? ⟨q.block, q.off + 1, none⟩ = some (.int .i64 p.second)
  c2 : w.cell? ⟨q.block, q.off + 2, none⟩ = some (.int .i64 p.light)
  c3 : w.cell? ⟨q.block, q.off + 3, none⟩ = some (.int .i64 p.since)
  c4 : w.cell? ⟨q.block, q.off + 4, none⟩ = some (.int .i64 p.other)
theorem RepAt.keep {w w' : World} {q : Addr} {p : Rep} (h : RepAt w q p) (e : w'.heap[q.block]? = w.heap[q.block]?) : RepAt w' q p :=
  ⟨(World.cell?_of_block e).trans h.c0, (World.cell?_of_block (a := ⟨q.block, q.off + 1, none⟩) e).trans h.c1, (World.cell?_of_block (a := ⟨q.block, q.off + 2, none⟩) e).trans h.c2, (World.cell?_of_block (a := ⟨q.block, q.off + 3, none⟩) e).trans h.c3, (World.cell?_of_block (a := ⟨q.block, q.off + 4, none⟩) e).trans h.c4⟩
theorem RepAt.below {w w' : World} {q : Addr} {p : Rep} {B : Nat} (h : RepAt w q p) (hb : Below B w w') (hB : q.block < B) : RepAt w' q p := h.keep (hb.block _ hB)
theorem rep_head {w : World} {g : Nat} {p : Rep} (h : RepAt w ⟨g, 0, none⟩ p) : w.cell? ⟨g, 0, none⟩ = some (.int .i64 p.path) ∧ w.cell? ⟨g, 1, none⟩ = some (.int .i64 p.second) ∧ w.cell? ⟨g, 2, none⟩ = some (.int .i64 p.light) ∧ w.cell? ⟨g, 3, none⟩ = some (.int .i64 p.since) ∧ w.cell? ⟨g, 4, none⟩ = some (.int .i64 p.other) := ⟨h.c0, h.c1, h.c2, h.c3, h.c4⟩
theorem rep_of_block {w : World} {g : Nat} {p : Rep} {E : TypeId} {fr : Nat × Nat} (h : w.heap[g]? = some (.cells #[.int .i64 p.path, .int .i64 p.second, .int .i64 p.light, .int .i64 p.since, .int .i64 p.other] E fr)) : RepAt w ⟨g, 0, none⟩ p :=
  ⟨by rw [cell_of_row w g 0 _ E fr h]; rfl, by rw [cell_of_row w g _ _ E fr h]; rfl, by rw [cell_of_row w g _ _ E fr h]; rfl, by rw [cell_of_row w g _ _ E fr h]; rfl, by rw [cell_of_row w g _ _ E fr h]; rfl⟩
theorem RepsAt.at {w : World} {B : Nat} {A : Option Addr} {n : Nat} {ps : List Rep} (h : RepsAt w B A n ps) {k : Nat} (hk : k < n) : ∃ ad p, A = some ad ∧ (ad.add (k * 5)).block < B ∧ ps[k]? = some p ∧ RepAt w (ad.add (k * 5)) p := by
  obtain ⟨hl, _, hc⟩ := h
  obtain ⟨ad, e, hb, hc⟩ := hc (by omega)
  have hp : ps[k]? = some ps[k] := List.getElem?_eq_getElem (by omega)
  have hg := fun i (hi : i < 5) => flat_get (f := Rep.cells) (fun _ => rfl) ps k i _ hp hi
  have ha := fun i (hi : 0 < i) => (add_add ad (k * 5) i).symm.trans (add_plusF _ i hi)
  refine ⟨ad, ps[k], e, by rw [add_block]; exact hb, hp, hc _ _ (hg 0 (by decide)), ?_, ?_, ?_, ?_⟩
  · rw [← ha 1 (by decide)]; exact hc _ _ (hg 1 (by decide))
  · rw [← ha 2 (by decide)]; exact hc _ _ (hg 2 (by decide))
  · rw [← ha 3 (by decide)]; exact hc _ _ (hg 3 (by decide))
  · rw [← ha 4 (by decide)]; exact hc _ _ (hg 4 (by decide))
theorem law_toReport (p : Rep) (w : World) : Calls Tryd.prog 6 #[p.val] w fun e w' => e = .returned p.val ∧ Below w.heap.size w w' := by
  obtain ⟨a, b, c, d, e⟩ := p
  simp only [Rep.val]
  go_enter Tryd.func6, Tryd.ntmps6
  go_wp2
  refine bodyPost_ret (by rw [results_cell rfl]; go_simp; try rfl) rfl ?_
  exact ⟨rfl, ((((Below.refl _ _).alloc (Nat.le_refl _) _).alloc (by simp) _).alloc (by simp; omega) _)⟩
structure SlRep (w : World) (A : Option Addr) (n c : Nat) (ps : List Rep) : Prop where
  pths : RepsAt w w.heap.size A n ps
  bare : A = none → n = 0 ∧ c = 0
  small : n ≤ 4294967296
  cap : n ≤ c ∧ c ≤ maxLen
  wf : ∀ p ∈ ps, p.wf
theorem SlRep.len {w : World} {A : Option Addr} {n c : Nat} {ps : List Rep} (h : SlRep w A n c ps) : ps.length = n := h.pths.1
theorem SlRep.below {w w' : World} {A : Option Addr} {n c : Nat} {ps : List Rep} (h : SlRep w A n c ps) (hb : Below w.heap.size w w') : SlRep w' A n c ps :=
  ⟨(h.pths.below hb).up hb.size, h.bare, h.small, h.cap, h.wf⟩
structure OwRep (E : TypeId) (w : World) (lo hi : Nat) (v : Value) (ps : List Rep) : Prop where
  own : w.ownsRow lo E 5 v ps.length (repcells ps)
  lt : ∀ g, v.ownBlock = some g → g < hi
  top : hi ≤ w.heap.size
theorem OwRep.new {E : TypeId} {w : World} {lo : Nat} {v : Value} {ps : List Rep} (h : w.ownsRow lo E 5 v ps.length (repcells ps)) : OwRep E w lo w.heap.size v ps := ⟨h, fun g e => (ownr_block h g e).2, Nat.le_refl _⟩
theorem OwRep.below {E : TypeId} {w w' : World} {lo hi : Nat} {v : Value} {ps : List Rep} (h : OwRep E w lo hi v ps) (hb : Below w.heap.size w w') : OwRep E w' lo hi v ps := ⟨ownr_below h.own hb, h.lt, Nat.le_trans h.top hb.size⟩
theorem OwRep.ints {E : TypeId} {w : World} {lo hi : Nat} {A : Option Addr} {n c : Nat} {ps : List Rep} (h : OwRep E w lo hi (.slice A n c) ps) : RepsAt w w.heap.size A n ps := by
  have hn := ownr_len h.own
  subst hn
  exact ⟨rfl, ownr_cells h.own⟩
theorem OwRep.sl {E : TypeId} {w : World} {lo hi : Nat} {A : Option Addr} {n c : Nat} {ps : List Rep} (h : OwRep E w lo hi (.slice A n c) ps) (hn : n ≤ 4294967296) (hw : ∀ p ∈ ps, p.wf) : SlRep w A n c ps :=
  ⟨h.ints, ownr_nilcap h.own, hn, ownr_cap h.own, hw⟩
theorem OwRep.part {E : TypeId} {w w' : World} {lo hi l h' : Nat} {v : Value} {ps : List Rep} (h : OwRep E w lo hi v ps) (hp : Part l h' w w') (hd : hi ≤ l ∨ h' ≤ lo) : OwRep E w' lo hi v ps := by
  refine ⟨⟨h.own.1, ?_⟩, h.lt, Nat.le_trans h.top hp.size⟩
  rcases h.own.2 with h2 | ⟨g, cap, cur, rfl, hl, hg, r⟩
  · exact .inl h2
  · have hlt := h.lt g rfl
    have htop := h.top
    exact .inr ⟨g, cap, cur, rfl, hl, (hp.block g (by omega) (by omega)).trans hg, r⟩
end Go.Proofs.YtdgpodopkfnpeabDoor
