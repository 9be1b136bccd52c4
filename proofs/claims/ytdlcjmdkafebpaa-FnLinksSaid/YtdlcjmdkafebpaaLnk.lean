/- Link as Lean data; rows of them, and the laws' helpers for these (written by gentype.py). -/
import Derived.Test.YtdlcjmdkafebpaaFlat
import Derived.Test.YtdlcjmdkafebpaaMem
import Derived.Deep.RegionHeld3
import Derived.Deep.DrawnRows
namespace Go.Proofs.Ytdlcjmdkafebpaa
open Go.RowKit
set_option linter.unusedVariables false

structure Lnk where
  peer : Int
  seq : Int
  heard : Int
  offset : Int
deriving DecidableEq
def Lnk.cells (p : Lnk) : List Value := [.int .i64 p.peer, .int .i64 p.seq, .int .i64 p.heard, .int .i64 p.offset]
def Lnk.val (p : Lnk) : Value := .agg #[.int .i64 p.peer, .int .i64 p.seq, .int .i64 p.heard, .int .i64 p.offset]
def Lnk.wf (p : Lnk) : Prop := (Lit.int .i64 p.peer).wf = true ∧ (Lit.int .i64 p.seq).wf = true ∧ (Lit.int .i64 p.heard).wf = true ∧ (Lit.int .i64 p.offset).wf = true
def lnkcells (ps : List Lnk) : List Value := ps.flatMap Lnk.cells
theorem lnkcells_length (ps : List Lnk) : (lnkcells ps).length = ps.length * 4 := flat_length (f := Lnk.cells) (fun _ => rfl) ps
theorem lnkcells_take {ps : List Lnk} {k : Nat} {p : Lnk} (h : ps[k]? = some p) : lnkcells (ps.take (k + 1)) = lnkcells (ps.take k) ++ p.cells := by
  unfold lnkcells
  rw [List.take_add_one, h, List.flatMap_append]
  simp
theorem lnkcells_one (ps : List Lnk) : ∀ u ∈ lnkcells ps, u.oneCell' = true := by
  intro u hu
  obtain ⟨p, _, hp⟩ := List.mem_flatMap.1 hu
  simp only [Lnk.cells, List.mem_cons, List.not_mem_nil, or_false] at hp
  rcases hp with rfl | rfl | rfl | rfl <;> rfl
theorem lnkcells_put {ps : List Lnk} {zs : List Value} {k : Nat} {p : Lnk} (h : ps[k]? = some p) (hz : k * 4 + 4 ≤ zs.length) :
    ((((lnkcells (ps.take k) ++ zs.drop (k * 4)).set (k * 4) (.int .i64 p.peer)).set (k * 4 + 1) (.int .i64 p.seq)).set (k * 4 + 2) (.int .i64 p.heard)).set (k * 4 + 3) (.int .i64 p.offset) = lnkcells (ps.take (k + 1)) ++ zs.drop ((k + 1) * 4) := by
  obtain ⟨z0, z1, z2, z3, hd⟩ := drop4 hz
  have hk := (List.getElem?_eq_some_iff.1 h).1
  rw [hd, set4 (by rw [lnkcells_length, List.length_take]; omega), lnkcells_take h]
  simp [Lnk.cells, Nat.add_mul]
def LnksAt (w : World) (B : Nat) (A : Option Addr) (n : Nat) (ps : List Lnk) : Prop := ps.length = n ∧ CellsAt w B A (n * 4) (lnkcells ps)
theorem LnksAt.keep {w w' : World} {B : Nat} {A : Option Addr} {n : Nat} {ps : List Lnk} (h : LnksAt w B A n ps) (hk : ∀ p : Addr, p.block < B → w'.cell? p = w.cell? p) : LnksAt w' B A n ps := ⟨h.1, h.2.keep hk⟩
theorem LnksAt.below {w w' : World} {B : Nat} {A : Option Addr} {n : Nat} {ps : List Lnk} (h : LnksAt w B A n ps) (hb : Below B w w') : LnksAt w' B A n ps := ⟨h.1, h.2.below hb⟩
theorem LnksAt.up {w : World} {B B' : Nat} {A : Option Addr} {n : Nat} {ps : List Lnk} (h : LnksAt w B A n ps) (hB : B ≤ B') : LnksAt w B' A n ps := ⟨h.1, h.2.up hB⟩
structure LnkAt (w : World) (q : Addr) (p : Lnk) : Prop where
  c0 : w.cell? q = some (.int .i64 p.peer)
  c1 : w.cell? ⟨q.block, q.off + 1, none⟩ = some (.int .i64 p.seq)
  c2 : w.cell? ⟨q.block, q.off + 2, none⟩ = some (.int .i64 p.heard)
  c3 : w.cell? ⟨q.block, q.off + 3, none⟩ = some (.int .i64 p.offset)
theorem LnkAt.keep {w w' : World} {q : Addr} {p : Lnk} (h : LnkAt w q p) (e : w'.heap[q.block]? = w.heap[q.block]?) : LnkAt w' q p :=
  ⟨(World.cell?_of_block e).trans h.c0, (World.cell?_of_block (a := ⟨q.block, q.off + 1, none⟩) e).trans h.c1, (World.cell?_of_block (a := ⟨q.block, q.off + 2, none⟩) e).trans h.c2, (World.cell?_of_block (a := ⟨q.block, q.off + 3, none⟩) e).trans h.c3⟩
theorem LnkAt.below {w w' : World} {q : Addr} {p : Lnk} {B : Nat} (h : LnkAt w q p) (hb : Below B w w') (hB : q.block < B) : LnkAt w' q p := h.keep (hb.block _ hB)
theorem lnk_head {w : World} {g : Nat} {p : Lnk} (h : LnkAt w ⟨g, 0, none⟩ p) : w.cell? ⟨g, 0, none⟩ = some (.int .i64 p.peer) ∧ w.cell? ⟨g, 1, none⟩ = some (.int .i64 p.seq) ∧ w.cell? ⟨g, 2, none⟩ = some (.int .i64 p.heard) ∧ w.cell? ⟨g, 3, none⟩ = some (.int .i64 p.offset) := ⟨h.c0, h.c1, h.c2, h.c3⟩
theorem lnk_of_block {w : World} {g : Nat} {p : Lnk} {E : TypeId} {fr : Nat × Nat} (h : w.heap[g]? = some (.cells #[.int .i64 p.peer, .int .i64 p.seq, .int .i64 p.heard, .int .i64 p.offset] E fr)) : LnkAt w ⟨g, 0, none⟩ p :=
  ⟨by rw [cell_of_row w g 0 _ E fr h]; rfl, by rw [cell_of_row w g _ _ E fr h]; rfl, by rw [cell_of_row w g _ _ E fr h]; rfl, by rw [cell_of_row w g _ _ E fr h]; rfl⟩
theorem LnksAt.at {w : World} {B : Nat} {A : Option Addr} {n : Nat} {ps : List Lnk} (h : LnksAt w B A n ps) {k : Nat} (hk : k < n) : ∃ ad p, A = some ad ∧ (ad.add (k * 4)).block < B ∧ ps[k]? = some p ∧ LnkAt w (ad.add (k * 4)) p := by
  obtain ⟨hl, _, hc⟩ := h
  obtain ⟨ad, e, hb, hc⟩ := hc (by omega)
  have hp : ps[k]? = some ps[k] := List.getElem?_eq_getElem (by omega)
  have hg := fun i (hi : i < 4) => flat_get (f := Lnk.cells) (fun _ => rfl) ps k i _ hp hi
  have ha := fun i (hi : 0 < i) => (add_add ad (k * 4) i).symm.trans (add_plusF _ i hi)
  refine ⟨ad, ps[k], e, by rw [add_block]; exact hb, hp, hc _ _ (hg 0 (by decide)), ?_, ?_, ?_⟩
  · rw [← ha 1 (by decide)]; exact hc _ _ (hg 1 (by decide))
  · rw [← ha 2 (by decide)]; exact hc _ _ (hg 2 (by decide))
  · rw [← ha 3 (by decide)]; exact hc _ _ (hg 3 (by decide))
structure SlLnk (w : World) (A : Option Addr) (n c : Nat) (ps : List Lnk) : Prop where
  pths : LnksAt w w.heap.size A n ps
  bare : A = none → n = 0 ∧ c = 0
  small : n ≤ 4294967296
  cap : n ≤ c ∧ c ≤ maxLen
  wf : ∀ p ∈ ps, p.wf
theorem SlLnk.len {w : World} {A : Option Addr} {n c : Nat} {ps : List Lnk} (h : SlLnk w A n c ps) : ps.length = n := h.pths.1
theorem SlLnk.below {w w' : World} {A : Option Addr} {n c : Nat} {ps : List Lnk} (h : SlLnk w A n c ps) (hb : Below w.heap.size w w') : SlLnk w' A n c ps :=
  ⟨(h.pths.below hb).up hb.size, h.bare, h.small, h.cap, h.wf⟩
structure OwLnk (E : TypeId) (w : World) (lo hi : Nat) (v : Value) (ps : List Lnk) : Prop where
  own : w.ownsRow lo E 4 v ps.length (lnkcells ps)
  lt : ∀ g, v.ownBlock = some g → g < hi
  top : hi ≤ w.heap.size
theorem OwLnk.new {E : TypeId} {w : World} {lo : Nat} {v : Value} {ps : List Lnk} (h : w.ownsRow lo E 4 v ps.length (lnkcells ps)) : OwLnk E w lo w.heap.size v ps := ⟨h, fun g e => (ownr_block h g e).2, Nat.le_refl _⟩
theorem OwLnk.below {E : TypeId} {w w' : World} {lo hi : Nat} {v : Value} {ps : List Lnk} (h : OwLnk E w lo hi v ps) (hb : Below w.heap.size w w') : OwLnk E w' lo hi v ps := ⟨ownr_below h.own hb, h.lt, Nat.le_trans h.top hb.size⟩
theorem OwLnk.ints {E : TypeId} {w : World} {lo hi : Nat} {A : Option Addr} {n c : Nat} {ps : List Lnk} (h : OwLnk E w lo hi (.slice A n c) ps) : LnksAt w w.heap.size A n ps := by
  have hn := ownr_len h.own
  subst hn
  exact ⟨rfl, ownr_cells h.own⟩
theorem OwLnk.sl {E : TypeId} {w : World} {lo hi : Nat} {A : Option Addr} {n c : Nat} {ps : List Lnk} (h : OwLnk E w lo hi (.slice A n c) ps) (hn : n ≤ 4294967296) (hw : ∀ p ∈ ps, p.wf) : SlLnk w A n c ps :=
  ⟨h.ints, ownr_nilcap h.own, hn, ownr_cap h.own, hw⟩
theorem OwLnk.part {E : TypeId} {w w' : World} {lo hi l h' : Nat} {v : Value} {ps : List Lnk} (h : OwLnk E w lo hi v ps) (hp : Part l h' w w') (hd : hi ≤ l ∨ h' ≤ lo) : OwLnk E w' lo hi v ps := by
  refine ⟨⟨h.own.1, ?_⟩, h.lt, Nat.le_trans h.top hp.size⟩
  rcases h.own.2 with h2 | ⟨g, cap, cur, rfl, hl, hg, r⟩
  · exact .inl h2
  · have hlt := h.lt g rfl
    have htop := h.top
    exact .inr ⟨g, cap, cur, rfl, hl, (hp.block g (by omega) (by omega)).trans hg, r⟩
end Go.Proofs.Ytdlcjmdkafebpaa
