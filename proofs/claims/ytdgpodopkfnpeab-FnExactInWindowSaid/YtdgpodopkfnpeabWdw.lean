/- Window as Lean data; rows of them, and the laws' helpers for these (written by gentype.py). -/
import Derived.Test.YtdgpodopkfnpeabFlat
import Derived.Test.YtdgpodopkfnpeabMem
import Derived.Deep.RegionHeld3
import Derived.Deep.DrawnRows
namespace Go.Proofs.Ytdgpodopkfnpeab
open Go.RowKit
set_option linter.unusedVariables false

structure Wdw where
  frm : Int
  long : Int
deriving DecidableEq
def Wdw.cells (p : Wdw) : List Value := [.int .i64 p.frm, .int .i64 p.long]
def Wdw.val (p : Wdw) : Value := .agg #[.int .i64 p.frm, .int .i64 p.long]
def Wdw.wf (p : Wdw) : Prop := (Lit.int .i64 p.frm).wf = true ∧ (Lit.int .i64 p.long).wf = true
def wdwcells (ps : List Wdw) : List Value := ps.flatMap Wdw.cells
theorem wdwcells_length (ps : List Wdw) : (wdwcells ps).length = ps.length * 2 := flat_length (f := Wdw.cells) (fun _ => rfl) ps
theorem wdwcells_take {ps : List Wdw} {k : Nat} {p : Wdw} (h : ps[k]? = some p) : wdwcells (ps.take (k + 1)) = wdwcells (ps.take k) ++ p.cells := by
  unfold wdwcells
  rw [List.take_add_one, h, List.flatMap_append]
  simp
theorem wdwcells_one (ps : List Wdw) : ∀ u ∈ wdwcells ps, u.oneCell' = true := by
  intro u hu
  obtain ⟨p, _, hp⟩ := List.mem_flatMap.1 hu
  simp only [Wdw.cells, List.mem_cons, List.not_mem_nil, or_false] at hp
  rcases hp with rfl | rfl <;> rfl
theorem wdwcells_put {ps : List Wdw} {zs : List Value} {k : Nat} {p : Wdw} (h : ps[k]? = some p) (hz : k * 2 + 2 ≤ zs.length) :
    ((wdwcells (ps.take k) ++ zs.drop (k * 2)).set (k * 2) (.int .i64 p.frm)).set (k * 2 + 1) (.int .i64 p.long) = wdwcells (ps.take (k + 1)) ++ zs.drop ((k + 1) * 2) := by
  obtain ⟨z0, z1, hd⟩ := drop2 hz
  have hk := (List.getElem?_eq_some_iff.1 h).1
  rw [hd, set2 (by rw [wdwcells_length, List.length_take]; omega), wdwcells_take h]
  simp [Wdw.cells, Nat.add_mul]
def WdwsAt (w : World) (B : Nat) (A : Option Addr) (n : Nat) (ps : List Wdw) : Prop := ps.length = n ∧ CellsAt w B A (n * 2) (wdwcells ps)
theorem WdwsAt.keep {w w' : World} {B : Nat} {A : Option Addr} {n : Nat} {ps : List Wdw} (h : WdwsAt w B A n ps) (hk : ∀ p : Addr, p.block < B → w'.cell? p = w.cell? p) : WdwsAt w' B A n ps := ⟨h.1, h.2.keep hk⟩
theorem WdwsAt.below {w w' : World} {B : Nat} {A : Option Addr} {n : Nat} {ps : List Wdw} (h : WdwsAt w B A n ps) (hb : Below B w w') : WdwsAt w' B A n ps := ⟨h.1, h.2.below hb⟩
theorem WdwsAt.up {w : World} {B B' : Nat} {A : Option Addr} {n : Nat} {ps : List Wdw} (h : WdwsAt w B A n ps) (hB : B ≤ B') : WdwsAt w B' A n ps := ⟨h.1, h.2.up hB⟩
structure WdwAt (w : World) (q : Addr) (p : Wdw) : Prop where
  c0 : w.cell? q = some (.int .i64 p.frm)
  c1 : w.cell? ⟨q.block, q.off + 1, none⟩ = some (.int .i64 p.long)
theorem WdwAt.keep {w w' : World} {q : Addr} {p : Wdw} (h : WdwAt w q p) (e : w'.heap[q.block]? = w.heap[q.block]?) : WdwAt w' q p :=
  ⟨(World.cell?_of_block e).trans h.c0, (World.cell?_of_block (a := ⟨q.block, q.off + 1, none⟩) e).trans h.c1⟩
theorem WdwAt.below {w w' : World} {q : Addr} {p : Wdw} {B : Nat} (h : WdwAt w q p) (hb : Below B w w') (hB : q.block < B) : WdwAt w' q p := h.keep (hb.block _ hB)
theorem wdw_head {w : World} {g : Nat} {p : Wdw} (h : WdwAt w ⟨g, 0, none⟩ p) : w.cell? ⟨g, 0, none⟩ = some (.int .i64 p.frm) ∧ w.cell? ⟨g, 1, none⟩ = some (.int .i64 p.long) := ⟨h.c0, h.c1⟩
theorem wdw_of_block {w : World} {g : Nat} {p : Wdw} {E : TypeId} {fr : Nat × Nat} (h : w.heap[g]? = some (.cells #[.int .i64 p.frm, .int .i64 p.long] E fr)) : WdwAt w ⟨g, 0, none⟩ p :=
  ⟨by rw [cell_of_row w g 0 _ E fr h]; rfl, by rw [cell_of_row w g _ _ E fr h]; rfl⟩
theorem WdwsAt.at {w : World} {B : Nat} {A : Option Addr} {n : Nat} {ps : List Wdw} (h : WdwsAt w B A n ps) {k : Nat} (hk : k < n) : ∃ ad p, A = some ad ∧ (ad.add (k * 2)).block < B ∧ ps[k]? = some p ∧ WdwAt w (ad.add (k * 2)) p := by
  obtain ⟨hl, _, hc⟩ := h
  obtain ⟨ad, e, hb, hc⟩ := hc (by omega)
  have hp : ps[k]? = some ps[k] := List.getElem?_eq_getElem (by omega)
  have hg := fun i (hi : i < 2) => flat_get (f := Wdw.cells) (fun _ => rfl) ps k i _ hp hi
  have ha := fun i (hi : 0 < i) => (add_add ad (k * 2) i).symm.trans (add_plusF _ i hi)
  refine ⟨ad, ps[k], e, by rw [add_block]; exact hb, hp, hc _ _ (hg 0 (by decide)), ?_⟩
  · rw [← ha 1 (by decide)]; exact hc _ _ (hg 1 (by decide))
theorem law_toWindow (p : Wdw) (w : World) : Calls Try.prog 14 #[p.val] w fun e w' => e = .returned p.val ∧ Below w.heap.size w w' := by
  obtain ⟨a, b⟩ := p
  simp only [Wdw.val]
  go_enter Try.func14, Try.ntmps14
  go_wp2
  refine bodyPost_ret (by rw [results_cell rfl]; go_simp; try rfl) rfl ?_
  exact ⟨rfl, ((((Below.refl _ _).alloc (Nat.le_refl _) _).alloc (by simp) _).alloc (by simp; omega) _)⟩
structure SlWdw (w : World) (A : Option Addr) (n c : Nat) (ps : List Wdw) : Prop where
  pths : WdwsAt w w.heap.size A n ps
  bare : A = none → n = 0 ∧ c = 0
  small : n ≤ 4294967296
  cap : n ≤ c ∧ c ≤ maxLen
  wf : ∀ p ∈ ps, p.wf
theorem SlWdw.len {w : World} {A : Option Addr} {n c : Nat} {ps : List Wdw} (h : SlWdw w A n c ps) : ps.length = n := h.pths.1
theorem SlWdw.below {w w' : World} {A : Option Addr} {n c : Nat} {ps : List Wdw} (h : SlWdw w A n c ps) (hb : Below w.heap.size w w') : SlWdw w' A n c ps :=
  ⟨(h.pths.below hb).up hb.size, h.bare, h.small, h.cap, h.wf⟩
structure OwWdw (E : TypeId) (w : World) (lo hi : Nat) (v : Value) (ps : List Wdw) : Prop where
  own : w.ownsRow lo E 2 v ps.length (wdwcells ps)
  lt : ∀ g, v.ownBlock = some g → g < hi
  top : hi ≤ w.heap.size
theorem OwWdw.new {E : TypeId} {w : World} {lo : Nat} {v : Value} {ps : List Wdw} (h : w.ownsRow lo E 2 v ps.length (wdwcells ps)) : OwWdw E w lo w.heap.size v ps := ⟨h, fun g e => (ownr_block h g e).2, Nat.le_refl _⟩
theorem OwWdw.below {E : TypeId} {w w' : World} {lo hi : Nat} {v : Value} {ps : List Wdw} (h : OwWdw E w lo hi v ps) (hb : Below w.heap.size w w') : OwWdw E w' lo hi v ps := ⟨ownr_below h.own hb, h.lt, Nat.le_trans h.top hb.size⟩
theorem OwWdw.ints {E : TypeId} {w : World} {lo hi : Nat} {A : Option Addr} {n c : Nat} {ps : List Wdw} (h : OwWdw E w lo hi (.slice A n c) ps) : WdwsAt w w.heap.size A n ps := by
  have hn := ownr_len h.own
  subst hn
  exact ⟨rfl, ownr_cells h.own⟩
theorem OwWdw.sl {E : TypeId} {w : World} {lo hi : Nat} {A : Option Addr} {n c : Nat} {ps : List Wdw} (h : OwWdw E w lo hi (.slice A n c) ps) (hn : n ≤ 4294967296) (hw : ∀ p ∈ ps, p.wf) : SlWdw w A n c ps :=
  ⟨h.ints, ownr_nilcap h.own, hn, ownr_cap h.own, hw⟩
theorem OwWdw.part {E : TypeId} {w w' : World} {lo hi l h' : Nat} {v : Value} {ps : List Wdw} (h : OwWdw E w lo hi v ps) (hp : Part l h' w w') (hd : hi ≤ l ∨ h' ≤ lo) : OwWdw E w' lo hi v ps := by
  refine ⟨⟨h.own.1, ?_⟩, h.lt, Nat.le_trans h.top hp.size⟩
  rcases h.own.2 with h2 | ⟨g, cap, cur, rfl, hl, hg, r⟩
  · exact .inl h2
  · have hlt := h.lt g rfl
    have htop := h.top
    exact .inr ⟨g, cap, cur, rfl, hl, (hp.block g (by omega) (by omega)).trans hg, r⟩
end Go.Proofs.Ytdgpodopkfnpeab
