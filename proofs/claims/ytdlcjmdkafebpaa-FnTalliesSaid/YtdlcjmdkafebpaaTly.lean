/- Tally as Lean data; rows of them, and the laws' helpers for these (written by gentype.py). -/
import Derived.Test.YtdlcjmdkafebpaaFlat
import Derived.Test.YtdlcjmdkafebpaaMem
import Derived.Deep.RegionHeld3
import Derived.Deep.DrawnRows
namespace Go.Proofs.Ytdlcjmdkafebpaa
open Go.RowKit
set_option linter.unusedVariables false

structure Tly where
  inn : Int
  out : Int
  room : Int
deriving DecidableEq
def Tly.cells (p : Tly) : List Value := [.int .i64 p.inn, .int .i64 p.out, .int .i64 p.room]
def Tly.val (p : Tly) : Value := .agg #[.int .i64 p.inn, .int .i64 p.out, .int .i64 p.room]
def Tly.wf (p : Tly) : Prop := (Lit.int .i64 p.inn).wf = true ∧ (Lit.int .i64 p.out).wf = true ∧ (Lit.int .i64 p.room).wf = true
def tlycells (ps : List Tly) : List Value := ps.flatMap Tly.cells
theorem tlycells_length (ps : List Tly) : (tlycells ps).length = ps.length * 3 := flat_length (f := Tly.cells) (fun _ => rfl) ps
theorem tlycells_take {ps : List Tly} {k : Nat} {p : Tly} (h : ps[k]? = some p) : tlycells (ps.take (k + 1)) = tlycells (ps.take k) ++ p.cells := by
  unfold tlycells
  rw [List.take_add_one, h, List.flatMap_append]
  simp
theorem tlycells_one (ps : List Tly) : ∀ u ∈ tlycells ps, u.oneCell' = true := by
  intro u hu
  obtain ⟨p, _, hp⟩ := List.mem_flatMap.1 hu
  simp only [Tly.cells, List.mem_cons, List.not_mem_nil, or_false] at hp
  rcases hp with rfl | rfl | rfl <;> rfl
theorem tlycells_put {ps : List Tly} {zs : List Value} {k : Nat} {p : Tly} (h : ps[k]? = some p) (hz : k * 3 + 3 ≤ zs.length) :
    (((tlycells (ps.take k) ++ zs.drop (k * 3)).set (k * 3) (.int .i64 p.inn)).set (k * 3 + 1) (.int .i64 p.out)).set (k * 3 + 2) (.int .i64 p.room) = tlycells (ps.take (k + 1)) ++ zs.drop ((k + 1) * 3) := by
  obtain ⟨z0, z1, z2, hd⟩ := drop3 hz
  have hk := (List.getElem?_eq_some_iff.1 h).1
  rw [hd, set3 (by rw [tlycells_length, List.length_take]; omega), tlycells_take h]
  simp [Tly.cells, Nat.add_mul]
def TlysAt (w : World) (B : Nat) (A : Option Addr) (n : Nat) (ps : List Tly) : Prop := ps.length = n ∧ CellsAt w B A (n * 3) (tlycells ps)
theorem TlysAt.keep {w w' : World} {B : Nat} {A : Option Addr} {n : Nat} {ps : List Tly} (h : TlysAt w B A n ps) (hk : ∀ p : Addr, p.block < B → w'.cell? p = w.cell? p) : TlysAt w' B A n ps := ⟨h.1, h.2.keep hk⟩
theorem TlysAt.below {w w' : World} {B : Nat} {A : Option Addr} {n : Nat} {ps : List Tly} (h : TlysAt w B A n ps) (hb : Below B w w') : TlysAt w' B A n ps := ⟨h.1, h.2.below hb⟩
theorem TlysAt.up {w : World} {B B' : Nat} {A : Option Addr} {n : Nat} {ps : List Tly} (h : TlysAt w B A n ps) (hB : B ≤ B') : TlysAt w B' A n ps := ⟨h.1, h.2.up hB⟩
structure TlyAt (w : World) (q : Addr) (p : Tly) : Prop where
  c0 : w.cell? q = some (.int .i64 p.inn)
  c1 : w.cell? ⟨q.block, q.off + 1, none⟩ = some (.int .i64 p.out)
  c2 : w.cell? ⟨q.block, q.off + 2, none⟩ = some (.int .i64 p.room)
theorem TlyAt.keep {w w' : World} {q : Addr} {p : Tly} (h : TlyAt w q p) (e : w'.heap[q.block]? = w.heap[q.block]?) : TlyAt w' q p :=
  ⟨(World.cell?_of_block e).trans h.c0, (World.cell?_of_block (a := ⟨q.block, q.off + 1, none⟩) e).trans h.c1, (World.cell?_of_block (a := ⟨q.block, q.off + 2, none⟩) e).trans h.c2⟩
theorem TlyAt.below {w w' : World} {q : Addr} {p : Tly} {B : Nat} (h : TlyAt w q p) (hb : Below B w w') (hB : q.block < B) : TlyAt w' q p := h.keep (hb.block _ hB)
theorem tly_head {w : World} {g : Nat} {p : Tly} (h : TlyAt w ⟨g, 0, none⟩ p) : w.cell? ⟨g, 0, none⟩ = some (.int .i64 p.inn) ∧ w.cell? ⟨g, 1, none⟩ = some (.int .i64 p.out) ∧ w.cell? ⟨g, 2, none⟩ = some (.int .i64 p.room) := ⟨h.c0, h.c1, h.c2⟩
theorem tly_of_block {w : World} {g : Nat} {p : Tly} {E : TypeId} {fr : Nat × Nat} (h : w.heap[g]? = some (.cells #[.int .i64 p.inn, .int .i64 p.out, .int .i64 p.room] E fr)) : TlyAt w ⟨g, 0, none⟩ p :=
  ⟨by rw [cell_of_row w g 0 _ E fr h]; rfl, by rw [cell_of_row w g _ _ E fr h]; rfl, by rw [cell_of_row w g _ _ E fr h]; rfl⟩
theorem TlysAt.at {w : World} {B : Nat} {A : Option Addr} {n : Nat} {ps : List Tly} (h : TlysAt w B A n ps) {k : Nat} (hk : k < n) : ∃ ad p, A = some ad ∧ (ad.add (k * 3)).block < B ∧ ps[k]? = some p ∧ TlyAt w (ad.add (k * 3)) p := by
  obtain ⟨hl, _, hc⟩ := h
  obtain ⟨ad, e, hb, hc⟩ := hc (by omega)
  have hp : ps[k]? = some ps[k] := List.getElem?_eq_getElem (by omega)
  have hg := fun i (hi : i < 3) => flat_get (f := Tly.cells) (fun _ => rfl) ps k i _ hp hi
  have ha := fun i (hi : 0 < i) => (add_add ad (k * 3) i).symm.trans (add_plusF _ i hi)
  refine ⟨ad, ps[k], e, by rw [add_block]; exact hb, hp, hc _ _ (hg 0 (by decide)), ?_, ?_⟩
  · rw [← ha 1 (by decide)]; exact hc _ _ (hg 1 (by decide))
  · rw [← ha 2 (by decide)]; exact hc _ _ (hg 2 (by decide))
structure SlTly (w : World) (A : Option Addr) (n c : Nat) (ps : List Tly) : Prop where
  pths : TlysAt w w.heap.size A n ps
  bare : A = none → n = 0 ∧ c = 0
  small : n ≤ 4294967296
  cap : n ≤ c ∧ c ≤ maxLen
  wf : ∀ p ∈ ps, p.wf
theorem SlTly.len {w : World} {A : Option Addr} {n c : Nat} {ps : List Tly} (h : SlTly w A n c ps) : ps.length = n := h.pths.1
theorem SlTly.below {w w' : World} {A : Option Addr} {n c : Nat} {ps : List Tly} (h : SlTly w A n c ps) (hb : Below w.heap.size w w') : SlTly w' A n c ps :=
  ⟨(h.pths.below hb).up hb.size, h.bare, h.small, h.cap, h.wf⟩
structure OwTly (E : TypeId) (w : World) (lo hi : Nat) (v : Value) (ps : List Tly) : Prop where
  own : w.ownsRow lo E 3 v ps.length (tlycells ps)
  lt : ∀ g, v.ownBlock = some g → g < hi
  top : hi ≤ w.heap.size
theorem OwTly.new {E : TypeId} {w : World} {lo : Nat} {v : Value} {ps : List Tly} (h : w.ownsRow lo E 3 v ps.length (tlycells ps)) : OwTly E w lo w.heap.size v ps := ⟨h, fun g e => (ownr_block h g e).2, Nat.le_refl _⟩
theorem OwTly.below {E : TypeId} {w w' : World} {lo hi : Nat} {v : Value} {ps : List Tly} (h : OwTly E w lo hi v ps) (hb : Below w.heap.size w w') : OwTly E w' lo hi v ps := ⟨ownr_below h.own hb, h.lt, Nat.le_trans h.top hb.size⟩
theorem OwTly.ints {E : TypeId} {w : World} {lo hi : Nat} {A : Option Addr} {n c : Nat} {ps : List Tly} (h : OwTly E w lo hi (.slice A n c) ps) : TlysAt w w.heap.size A n ps := by
  have hn := ownr_len h.own
  subst hn
  exact ⟨rfl, ownr_cells h.own⟩
theorem OwTly.sl {E : TypeId} {w : World} {lo hi : Nat} {A : Option Addr} {n c : Nat} {ps : List Tly} (h : OwTly E w lo hi (.slice A n c) ps) (hn : n ≤ 4294967296) (hw : ∀ p ∈ ps, p.wf) : SlTly w A n c ps :=
  ⟨h.ints, ownr_nilcap h.own, hn, ownr_cap h.own, hw⟩
theorem OwTly.part {E : TypeId} {w w' : World} {lo hi l h' : Nat} {v : Value} {ps : List Tly} (h : OwTly E w lo hi v ps) (hp : Part l h' w w') (hd : hi ≤ l ∨ h' ≤ lo) : OwTly E w' lo hi v ps := by
  refine ⟨⟨h.own.1, ?_⟩, h.lt, Nat.le_trans h.top hp.size⟩
  rcases h.own.2 with h2 | ⟨g, cap, cur, rfl, hl, hg, r⟩
  · exact .inl h2
  · have hlt := h.lt g rfl
    have htop := h.top
    exact .inr ⟨g, cap, cur, rfl, hl, (hp.block g (by omega) (by omega)).trans hg, r⟩
end Go.Proofs.Ytdlcjmdkafebpaa
