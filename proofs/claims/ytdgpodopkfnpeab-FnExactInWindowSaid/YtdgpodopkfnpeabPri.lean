/- Prio as Lean data; rows of them, and the laws' helpers for these (written by gentype.py). -/
import Derived.Test.YtdgpodopkfnpeabFlat
import Derived.Test.YtdgpodopkfnpeabMem
import Derived.Deep.RegionHeld3
import Derived.Deep.DrawnRows
namespace Go.Proofs.Ytdgpodopkfnpeab
open Go.RowKit
set_option linter.unusedVariables false

structure Pri where
  path : Int
  left : Int
deriving DecidableEq
def Pri.cells (p : Pri) : List Value := [.int .i64 p.path, .int .i64 p.left]
def Pri.val (p : Pri) : Value := .agg #[.int .i64 p.path, .int .i64 p.left]
def Pri.wf (p : Pri) : Prop := (Lit.int .i64 p.path).wf = true ∧ (Lit.int .i64 p.left).wf = true
def pricells (ps : List Pri) : List Value := ps.flatMap Pri.cells
theorem pricells_length (ps : List Pri) : (pricells ps).length = ps.length * 2 := flat_length (f := Pri.cells) (fun _ => rfl) ps
theorem pricells_take {ps : List Pri} {k : Nat} {p : Pri} (h : ps[k]? = some p) : pricells (ps.take (k + 1)) = pricells (ps.take k) ++ p.cells := by
  unfold pricells
  rw [List.take_add_one, h, List.flatMap_append]
  simp
theorem pricells_one (ps : List Pri) : ∀ u ∈ pricells ps, u.oneCell' = true := by
  intro u hu
  obtain ⟨p, _, hp⟩ := List.mem_flatMap.1 hu
  simp only [Pri.cells, List.mem_cons, List.not_mem_nil, or_false] at hp
  rcases hp with rfl | rfl <;> rfl
theorem pricells_put {ps : List Pri} {zs : List Value} {k : Nat} {p : Pri} (h : ps[k]? = some p) (hz : k * 2 + 2 ≤ zs.length) :
    ((pricells (ps.take k) ++ zs.drop (k * 2)).set (k * 2) (.int .i64 p.path)).set (k * 2 + 1) (.int .i64 p.left) = pricells (ps.take (k + 1)) ++ zs.drop ((k + 1) * 2) := by
  obtain ⟨z0, z1, hd⟩ := drop2 hz
  have hk := (List.getElem?_eq_some_iff.1 h).1
  rw [hd, set2 (by rw [pricells_length, List.length_take]; omega), pricells_take h]
  simp [Pri.cells, Nat.add_mul]
def PrisAt (w : World) (B : Nat) (A : Option Addr) (n : Nat) (ps : List Pri) : Prop := ps.length = n ∧ CellsAt w B A (n * 2) (pricells ps)
theorem PrisAt.keep {w w' : World} {B : Nat} {A : Option Addr} {n : Nat} {ps : List Pri} (h : PrisAt w B A n ps) (hk : ∀ p : Addr, p.block < B → w'.cell? p = w.cell? p) : PrisAt w' B A n ps := ⟨h.1, h.2.keep hk⟩
theorem PrisAt.below {w w' : World} {B : Nat} {A : Option Addr} {n : Nat} {ps : List Pri} (h : PrisAt w B A n ps) (hb : Below B w w') : PrisAt w' B A n ps := ⟨h.1, h.2.below hb⟩
theorem PrisAt.up {w : World} {B B' : Nat} {A : Option Addr} {n : Nat} {ps : List Pri} (h : PrisAt w B A n ps) (hB : B ≤ B') : PrisAt w B' A n ps := ⟨h.1, h.2.up hB⟩
structure PriAt (w : World) (q : Addr) (p : Pri) : Prop where
  c0 : w.cell? q = some (.int .i64 p.path)
  c1 : w.cell? ⟨q.block, q.off + 1, none⟩ = some (.int .i64 p.left)
theorem PriAt.keep {w w' : World} {q : Addr} {p : Pri} (h : PriAt w q p) (e : w'.heap[q.block]? = w.heap[q.block]?) : PriAt w' q p :=
  ⟨(World.cell?_of_block e).trans h.c0, (World.cell?_of_block (a := ⟨q.block, q.off + 1, none⟩) e).trans h.c1⟩
theorem PriAt.below {w w' : World} {q : Addr} {p : Pri} {B : Nat} (h : PriAt w q p) (hb : Below B w w') (hB : q.block < B) : PriAt w' q p := h.keep (hb.block _ hB)
theorem pri_head {w : World} {g : Nat} {p : Pri} (h : PriAt w ⟨g, 0, none⟩ p) : w.cell? ⟨g, 0, none⟩ = some (.int .i64 p.path) ∧ w.cell? ⟨g, 1, none⟩ = some (.int .i64 p.left) := ⟨h.c0, h.c1⟩
theorem pri_of_block {w : World} {g : Nat} {p : Pri} {E : TypeId} {fr : Nat × Nat} (h : w.heap[g]? = some (.cells #[.int .i64 p.path, .int .i64 p.left] E fr)) : PriAt w ⟨g, 0, none⟩ p :=
  ⟨by rw [cell_of_row w g 0 _ E fr h]; rfl, by rw [cell_of_row w g _ _ E fr h]; rfl⟩
theorem PrisAt.at {w : World} {B : Nat} {A : Option Addr} {n : Nat} {ps : List Pri} (h : PrisAt w B A n ps) {k : Nat} (hk : k < n) : ∃ ad p, A = some ad ∧ (ad.add (k * 2)).block < B ∧ ps[k]? = some p ∧ PriAt w (ad.add (k * 2)) p := by
  obtain ⟨hl, _, hc⟩ := h
  obtain ⟨ad, e, hb, hc⟩ := hc (by omega)
  have hp : ps[k]? = some ps[k] := List.getElem?_eq_getElem (by omega)
  have hg := fun i (hi : i < 2) => flat_get (f := Pri.cells) (fun _ => rfl) ps k i _ hp hi
  have ha := fun i (hi : 0 < i) => (add_add ad (k * 2) i).symm.trans (add_plusF _ i hi)
  refine ⟨ad, ps[k], e, by rw [add_block]; exact hb, hp, hc _ _ (hg 0 (by decide)), ?_⟩
  · rw [← ha 1 (by decide)]; exact hc _ _ (hg 1 (by decide))
theorem law_toPrio (p : Pri) (w : World) : Calls Try.prog 19 #[p.val] w fun e w' => e = .returned p.val ∧ Below w.heap.size w w' := by
  obtain ⟨a, b⟩ := p
  simp only [Pri.val]
  go_enter Try.func19, Try.ntmps19
  go_wp2
  refine bodyPost_ret (by rw [results_cell rfl]; go_simp; try rfl) rfl ?_
  exact ⟨rfl, ((((Below.refl _ _).alloc (Nat.le_refl _) _).alloc (by simp) _).alloc (by simp; omega) _)⟩
theorem law_eqPrio (p q : Pri) (w : World) : Calls Try.prog 21 #[p.val, q.val] w fun e w' => e = .returned (.bool (decide (p = q))) ∧ Below w.heap.size w w' := by
  obtain ⟨a, b⟩ := p
  obtain ⟨a', b'⟩ := q
  simp only [Pri.val, Pri.mk.injEq]
  have hb0 := ((Below.refl w.heap.size w).alloc (Nat.le_refl _) (.cells #[.int .i64 a, .int .i64 b] 32)).alloc (by simp) (.cells #[.int .i64 a', .int .i64 b'] 32)
  have HB := Lib.hid hb0
  clear hb0
  by_cases h0 : a = a'
  rotate_left
  · have e0 : (a != a') = true := by simpa using h0
    go_enter Try.func21, Try.ntmps21
    go_wp2
    go_ret
    exact ⟨by simp [h0], HB.out⟩
  subst h0
  by_cases h1 : b = b'
  rotate_left
  · have e0 : (b != b') = true := by simpa using h1
    go_enter Try.func21, Try.ntmps21
    go_wp2
    go_ret
    exact ⟨by simp [h1], HB.out⟩
  subst h1
  go_enter Try.func21, Try.ntmps21
  go_wp2
  go_ret
  exact ⟨by simp, HB.out⟩
theorem same_pri (p : Pri) (w : World) : Calls Try.prog 21 #[p.val, p.val] w fun e w' => e = .returned (.bool true) ∧ Below w.heap.size w w' := (law_eqPrio p p w).mono fun e w' ⟨he, hb⟩ => ⟨by rw [he, decide_eq_true rfl], hb⟩
structure SlPri (w : World) (A : Option Addr) (n c : Nat) (ps : List Pri) : Prop where
  pths : PrisAt w w.heap.size A n ps
  bare : A = none → n = 0 ∧ c = 0
  small : n ≤ 4294967296
  cap : n ≤ c ∧ c ≤ maxLen
  wf : ∀ p ∈ ps, p.wf
theorem SlPri.len {w : World} {A : Option Addr} {n c : Nat} {ps : List Pri} (h : SlPri w A n c ps) : ps.length = n := h.pths.1
theorem SlPri.below {w w' : World} {A : Option Addr} {n c : Nat} {ps : List Pri} (h : SlPri w A n c ps) (hb : Below w.heap.size w w') : SlPri w' A n c ps :=
  ⟨(h.pths.below hb).up hb.size, h.bare, h.small, h.cap, h.wf⟩
structure OwPri (E : TypeId) (w : World) (lo hi : Nat) (v : Value) (ps : List Pri) : Prop where
  own : w.ownsRow lo E 2 v ps.length (pricells ps)
  lt : ∀ g, v.ownBlock = some g → g < hi
  top : hi ≤ w.heap.size
theorem OwPri.new {E : TypeId} {w : World} {lo : Nat} {v : Value} {ps : List Pri} (h : w.ownsRow lo E 2 v ps.length (pricells ps)) : OwPri E w lo w.heap.size v ps := ⟨h, fun g e => (ownr_block h g e).2, Nat.le_refl _⟩
theorem OwPri.below {E : TypeId} {w w' : World} {lo hi : Nat} {v : Value} {ps : List Pri} (h : OwPri E w lo hi v ps) (hb : Below w.heap.size w w') : OwPri E w' lo hi v ps := ⟨ownr_below h.own hb, h.lt, Nat.le_trans h.top hb.size⟩
theorem OwPri.ints {E : TypeId} {w : World} {lo hi : Nat} {A : Option Addr} {n c : Nat} {ps : List Pri} (h : OwPri E w lo hi (.slice A n c) ps) : PrisAt w w.heap.size A n ps := by
  have hn := ownr_len h.own
  subst hn
  exact ⟨rfl, ownr_cells h.own⟩
theorem OwPri.sl {E : TypeId} {w : World} {lo hi : Nat} {A : Option Addr} {n c : Nat} {ps : List Pri} (h : OwPri E w lo hi (.slice A n c) ps) (hn : n ≤ 4294967296) (hw : ∀ p ∈ ps, p.wf) : SlPri w A n c ps :=
  ⟨h.ints, ownr_nilcap h.own, hn, ownr_cap h.own, hw⟩
theorem OwPri.part {E : TypeId} {w w' : World} {lo hi l h' : Nat} {v : Value} {ps : List Pri} (h : OwPri E w lo hi v ps) (hp : Part l h' w w') (hd : hi ≤ l ∨ h' ≤ lo) : OwPri E w' lo hi v ps := by
  refine ⟨⟨h.own.1, ?_⟩, h.lt, Nat.le_trans h.top hp.size⟩
  rcases h.own.2 with h2 | ⟨g, cap, cur, rfl, hl, hg, r⟩
  · exact .inl h2
  · have hlt := h.lt g rfl
    have htop := h.top
    exact .inr ⟨g, cap, cur, rfl, hl, (hp.block g (by omega) (by omega)).trans hg, r⟩
end Go.Proofs.Ytdgpodopkfnpeab
