/- Entry as Lean data; rows of them, and the laws' helpers for these (written by genrow.py). -/
import Derived.Test.YtdlcjmdkafebpaaSSM
import Derived.Test.YtdlcjmdkafebpaaRow
import Derived.Test.YtdlcjmdkafebpaaFlat
import Derived.Deep.RegionHeld3
namespace Go.Proofs.Ytdlcjmdkafebpaa
open Go.RowKit
set_option linter.unusedVariables false

structure Ent where
  second : Int
  lights : List Int
  mac : Int
deriving DecidableEq
def ent0 : Ent := ⟨0, [], 0⟩
def Ent.wf (p : Ent) : Prop := p.lights.length ≤ maxLen ∧ (∀ z ∈ p.lights, (Lit.int .i64 z).wf = true) ∧ (Lit.int .i64 p.second).wf = true ∧ (Lit.int .i64 p.mac).wf = true
/-- the j-th one. -/
def entA (ps : List Ent) (j : Nat) : Ent := ps.getD j ent0
theorem entA_some {ps : List Ent} {k : Nat} {p : Ent} (h : ps[k]? = some p) : entA ps k = p := by simp [entA, List.getD, h]
theorem entA_get {ps : List Ent} {k : Nat} (h : k < ps.length) : ps[k]? = some (entA ps k) := by
  rw [List.getElem?_eq_getElem h]
  simp [entA, List.getD, List.getElem?_eq_getElem h]
theorem entA_mem {ps : List Ent} {k : Nat} (h : k < ps.length) : entA ps k ∈ ps := List.mem_of_getElem? (entA_get h)
/-- one lies at q: the slice and the ints. -/
structure EntAt (w : World) (q : Addr) (u : Value) (p : Ent) : Prop where
  c0 : w.cell? q = some (.int .i64 p.second)
  c1 : w.cell? ⟨q.block, q.off + 1, none⟩ = some u
  c2 : w.cell? ⟨q.block, q.off + 2, none⟩ = some (.int .i64 p.mac)
theorem EntAt.keep {w w' : World} {q : Addr} {u : Value} {p : Ent} (h : EntAt w q u p) (e : w'.heap[q.block]? = w.heap[q.block]?) : EntAt w' q u p :=
  ⟨(World.cell?_of_block e).trans h.c0, (World.cell?_of_block (a := ⟨q.block, q.off + 1, none⟩) e).trans h.c1, (World.cell?_of_block (a := ⟨q.block, q.off + 2, none⟩) e).trans h.c2⟩
theorem EntAt.below {w w' : World} {q : Addr} {u : Value} {p : Ent} {B : Nat} (h : EntAt w q u p) (hb : Below B w w') (hB : q.block < B) : EntAt w' q u p := h.keep (hb.block _ hB)
/-- A slice value that holds these, all in blocks below B. -/
def EntsAt (w : World) (B : Nat) (A : Option Addr) (n : Nat) (ps : List Ent) : Prop :=
  ps.length = n ∧ (0 < n → ∃ ad, A = some ad ∧ ad.block < B ∧ ∀ j, j < n → ∃ A' m c, EntAt w (ad.add (j * 3)) (.slice A' m c) (entA ps j) ∧ IntsAt .i64 w B A' m (entA ps j).lights ∧ (m ≤ c ∧ c ≤ maxLen) ∧ (A' = none → m = 0 ∧ c = 0))
theorem EntsAt.at {w : World} {B : Nat} {A : Option Addr} {n : Nat} {ps : List Ent} (h : EntsAt w B A n ps) {j : Nat} (hj : j < n) :
    ∃ ad A' m c, A = some ad ∧ (ad.add (j * 3)).block < B ∧ EntAt w (ad.add (j * 3)) (.slice A' m c) (entA ps j) ∧ IntsAt .i64 w B A' m (entA ps j).lights ∧ (m ≤ c ∧ c ≤ maxLen) ∧ (A' = none → m = 0 ∧ c = 0) := by
  obtain ⟨ad, e, hb, hc⟩ := h.2 (by omega)
  obtain ⟨A', m, c, h1⟩ := hc j hj
  exact ⟨ad, A', m, c, e, by rw [add_block]; exact hb, h1⟩
theorem EntsAt.keep {w w' : World} {B : Nat} {A : Option Addr} {n : Nat} {ps : List Ent} (h : EntsAt w B A n ps) (hb : Below B w w') : EntsAt w' B A n ps := by
  refine ⟨h.1, fun h0 => ?_⟩
  obtain ⟨ad, e, hB, hc⟩ := h.2 h0
  refine ⟨ad, e, hB, fun j hj => ?_⟩
  obtain ⟨A', m, c, h1, h2, h3, h4⟩ := hc j hj
  exact ⟨A', m, c, h1.below hb (by rw [add_block]; exact hB), h2.keep (fun p hp => hb.cell hp), h3, h4⟩
theorem EntsAt.below {w w' : World} {B : Nat} {A : Option Addr} {n : Nat} {ps : List Ent} (h : EntsAt w B A n ps) (hB : B ≤ w.heap.size) (hb : Below w.heap.size w w') : EntsAt w' B A n ps := h.keep (hb.mono hB)
theorem EntsAt.up {w : World} {B B' : Nat} {A : Option Addr} {n : Nat} {ps : List Ent} (h : EntsAt w B A n ps) (hB : B ≤ B') : EntsAt w B' A n ps := by
  refine ⟨h.1, fun h0 => ?_⟩
  obtain ⟨ad, e, hb, hc⟩ := h.2 h0
  refine ⟨ad, e, by omega, fun j hj => ?_⟩
  obtain ⟨A', m, c, h1, h2, h3, h4⟩ := hc j hj
  exact ⟨A', m, c, h1, h2.up hB, h3, h4⟩
/-- the cells of a row. -/
def entrow (xs : List (Value × Ent)) : List Value := xs.flatMap fun x => [.int .i64 x.2.second, x.1, .int .i64 x.2.mac]
theorem entrow_length (xs : List (Value × Ent)) : (entrow xs).length = xs.length * 3 := flat_length (f := fun x : Value × Ent => [.int .i64 x.2.second, x.1, .int .i64 x.2.mac]) (fun _ => rfl) xs
theorem entrow_at0 {xs : List (Value × Ent)} {j : Nat} {x : Value × Ent} (h : xs[j]? = some x) : (entrow xs)[j * 3]? = some (.int .i64 x.2.second) := by
  exact flat_get (f := fun x : Value × Ent => [.int .i64 x.2.second, x.1, .int .i64 x.2.mac]) (s := 3) (fun _ => rfl) xs j 0 x h (by decide)
theorem entrow_at1 {xs : List (Value × Ent)} {j : Nat} {x : Value × Ent} (h : xs[j]? = some x) : (entrow xs)[j * 3 + 1]? = some x.1 := by
  exact flat_get (f := fun x : Value × Ent => [.int .i64 x.2.second, x.1, .int .i64 x.2.mac]) (s := 3) (fun _ => rfl) xs j 1 x h (by decide)
theorem entrow_at2 {xs : List (Value × Ent)} {j : Nat} {x : Value × Ent} (h : xs[j]? = some x) : (entrow xs)[j * 3 + 2]? = some (.int .i64 x.2.mac) := by
  exact flat_get (f := fun x : Value × Ent => [.int .i64 x.2.second, x.1, .int .i64 x.2.mac]) (s := 3) (fun _ => rfl) xs j 2 x h (by decide)
theorem entrow_append (xs ys : List (Value × Ent)) : entrow (xs ++ ys) = entrow xs ++ entrow ys := by simp [entrow]
theorem entrow_next (xs : List (Value × Ent)) (n : Nat) (z x : Value × Ent) (h : xs.length < n) :
    ((((entrow xs ++ entrow (List.replicate (n - xs.length) z)).set (xs.length * 3) (.int .i64 x.2.second)).set (xs.length * 3 + 1) x.1).set (xs.length * 3 + 2) (.int .i64 x.2.mac)) = entrow (xs ++ [x]) ++ entrow (List.replicate (n - (xs ++ [x]).length) z) := by
  obtain ⟨m, hm⟩ : ∃ m, n - xs.length = m + 1 := ⟨n - xs.length - 1, by omega⟩
  have e2 : n - (xs ++ [x]).length = m := by rw [List.length_append, List.length_singleton]; omega
  rw [e2, hm, List.replicate_succ]
  have e3 : entrow (z :: List.replicate m z) = .int .i64 z.2.second :: z.1 :: .int .i64 z.2.mac :: entrow (List.replicate m z) := rfl
  rw [e3, set3 (entrow_length xs), entrow_append]
  simp [entrow]
theorem made_ent (n : Nat) : (madeCells (Value.agg #[Value.int .i64 0, Value.slice none 0 0, Value.int .i64 0]).cells (n * 3)).toList = entrow (List.replicate n (Value.slice none 0 0, ent0)) := by
  have h : (Value.agg #[Value.int .i64 0, Value.slice none 0 0, Value.int .i64 0]).cells = #[Value.int .i64 0, Value.slice none 0 0, Value.int .i64 0] := rfl
  rw [h]
  apply List.ext_getElem?
  intro i
  simp only [madeCells, Array.toList_map, List.getElem?_map]
  by_cases hi : i < n * 3
  · have hx : (List.replicate n ((Value.slice none 0 0, ent0) : Value × Ent))[i / 3]? = some (Value.slice none 0 0, ent0) := by rw [List.getElem?_replicate, if_pos (by omega)]
    have h2 : i % 3 = 0 ∨ i % 3 = 1 ∨ i % 3 = 2 := by omega
    rcases h2 with h2 | h2 | h2
    · have := entrow_at0 hx
      rw [show i / 3 * 3 = i by omega] at this
      rw [this]
      simp [hi, h2, ent0]
    · have := entrow_at1 hx
      rw [show i / 3 * 3 + 1 = i by omega] at this
      rw [this]
      simp [hi, h2]
    · have := entrow_at2 hx
      rw [show i / 3 * 3 + 2 = i by omega] at this
      rw [this]
      simp [hi, h2, ent0]
  · rw [List.getElem?_eq_none (l := entrow _) (by rw [entrow_length, List.length_replicate]; omega)]
    simp [hi]
theorem info_ent : (Try.prog.info? 141).map (fun i => (i.zero, i.size, i.bytes)) = some (some (.agg #[.int .i64 0, .slice none 0 0, .int .i64 0]), 3, 40) := by kernel_rfl
/-- rows of other types lie in other blocks. -/
theorem own_apart_ent {w : World} {lo lo2 : Nat} {u v : Value} {zs : List Int} {n : Nat} {vs : List Value} (h : Own .i64 3 w lo u zs) (h2 : w.ownsRow lo2 141 3 v n vs) : ∀ g, u.ownBlock = some g → v.ownBlock ≠ some g := by
  intro g hg e
  rcases h.2 with ⟨rfl, _⟩ | ⟨g1, cap, cur, rfl, hb, hg1, r⟩
  · cases hg
  · rcases h2.2 with ⟨rfl, _⟩ | ⟨g2, cap2, cur2, rfl, hb2, hg2, r2⟩
    · cases e
    · have e1 : g1 = g := Option.some.inj hg
      have e2 : g2 = g := Option.some.inj e
      subst e1
      subst e2
      rw [hg1] at hg2
      injection hg2 with hg2
      injection hg2 with _ ht
      exact absurd ht (by decide)
/-- a row of the call's own. -/
structure OwnEnt (w : World) (lo : Nat) (v : Value) (xs : List (Value × Ent)) (ps : List Ent) : Prop where
  row : w.ownsRow lo 141 3 v ps.length (entrow xs)
  each : ∀ j, j < ps.length → ∃ u, xs[j]? = some (u, entA ps j) ∧ Own .i64 3 w lo u (entA ps j).lights
  apart : ApartL (xs.map (·.1))
theorem OwnEnt.len {w : World} {lo : Nat} {v : Value} {xs : List (Value × Ent)} {ps : List Ent} (h : OwnEnt w lo v xs ps) : xs.length = ps.length := by
  have := h.row.1
  rw [entrow_length] at this
  omega
theorem OwnEnt.below {w w' : World} {lo : Nat} {v : Value} {xs : List (Value × Ent)} {ps : List Ent} (h : OwnEnt w lo v xs ps) (hb : Below w.heap.size w w') : OwnEnt w' lo v xs ps :=
  ⟨ownr_below h.row hb, fun j hj => by obtain ⟨u, h1, h2⟩ := h.each j hj; exact ⟨u, h1, h2.below hb⟩, h.apart⟩
theorem OwnEnt.ss {w : World} {lo : Nat} {A : Option Addr} {n c : Nat} {xs : List (Value × Ent)} {ps : List Ent} (h : OwnEnt w lo (.slice A n c) xs ps) : EntsAt w w.heap.size A n ps := by
  have hn := ownr_len h.row
  subst hn
  refine ⟨rfl, fun h0 => ?_⟩
  obtain ⟨ad, e, hb, hc⟩ := (ownr_cells h.row).2 (by omega)
  refine ⟨ad, e, hb, fun j hj => ?_⟩
  obtain ⟨u, h1, h2⟩ := h.each j hj
  obtain ⟨A', c', rfl⟩ := h2.sliced
  refine ⟨A', _, c', ⟨hc _ _ (entrow_at0 h1), ?_, ?_⟩, h2.ints, h2.cap, h2.nilcap'⟩
  · rw [← add_plusF _ 1 (by decide), add_add]
    exact hc _ _ (entrow_at1 h1)
  · rw [← add_plusF _ 2 (by decide), add_add]
    exact hc _ _ (entrow_at2 h1)
/-- rows between two block numbers. -/
structure OwEnt (w : World) (lo hi : Nat) (v : Value) (xs : List (Value × Ent)) (ps : List Ent) : Prop where
  own : OwnEnt w lo v xs ps
  lt : ∀ g, v.ownBlock = some g → g < hi
  top : hi ≤ w.heap.size
theorem OwEnt.new {w : World} {lo : Nat} {v : Value} {xs : List (Value × Ent)} {ps : List Ent} (h : OwnEnt w lo v xs ps) : OwEnt w lo w.heap.size v xs ps :=
  ⟨h, fun g e => (ownr_block h.row g e).2, Nat.le_refl _⟩
theorem OwEnt.below {w w' : World} {lo hi : Nat} {v : Value} {xs : List (Value × Ent)} {ps : List Ent} (h : OwEnt w lo hi v xs ps) (hb : Below w.heap.size w w') : OwEnt w' lo hi v xs ps := ⟨h.own.below hb, h.lt, Nat.le_trans h.top hb.size⟩
theorem OwEnt.ints {w : World} {lo hi : Nat} {A : Option Addr} {n c : Nat} {xs : List (Value × Ent)} {ps : List Ent} (h : OwEnt w lo hi (.slice A n c) xs ps) : EntsAt w w.heap.size A n ps := h.own.ss
/-- a slice that a call is given. -/
structure SlEnt (w : World) (A : Option Addr) (n c : Nat) (ps : List Ent) : Prop where
  pths : EntsAt w w.heap.size A n ps
  bare : A = none → n = 0 ∧ c = 0
  cap : n ≤ c ∧ c ≤ maxLen
  wf : ∀ p ∈ ps, p.wf
theorem OwEnt.sl {w : World} {lo hi : Nat} {A : Option Addr} {n c : Nat} {xs : List (Value × Ent)} {ps : List Ent} (h : OwEnt w lo hi (.slice A n c) xs ps) (hw : ∀ p ∈ ps, p.wf) : SlEnt w A n c ps := ⟨h.ints, ownr_nilcap h.own.row, ownr_cap h.own.row, hw⟩
theorem SlEnt.below {w w' : World} {A : Option Addr} {n c : Nat} {ps : List Ent} (h : SlEnt w A n c ps) (hb : Below w.heap.size w w') : SlEnt w' A n c ps :=
  ⟨(h.pths.keep hb).up hb.size, h.bare, h.cap, h.wf⟩
/-- few and short. -/
def SmallEnt (ps : List Ent) : Prop := ps.length ≤ 1048576 ∧ ∀ j, j < ps.length → (entA ps j).lights.length ≤ 1048576
theorem SmallEnt.at {ps : List Ent} (h : SmallEnt ps) (n M : Nat) (hn : n = ps.length) (hM : 1048576 ≤ M) : ∀ j, j < n → (entA ps j).lights.length ≤ M := fun j hj => Nat.le_trans (h.2 j (by omega)) hM
theorem law_toEntry (A : Option Addr) (n c B : Nat) (zs : List Int) (x0 : Int) (x2 : Int) (w : World) (h : IntsAt .i64 w B A n zs) (hB : B ≤ w.heap.size) (hn : n ≤ 1048576) :
    Calls Try.prog 104 #[.agg #[.int .i64 x0, .slice A n c, .int .i64 x2]] w fun e w' => ∃ a, e = .returned (.agg #[.int .i64 x0, .slice (some a) n n, .int .i64 x2]) ∧ Own .i64 3 w' w.heap.size (.slice (some a) n n) zs ∧ Below w.heap.size w w' := by
  have hi := fun w' (hb : Below w.heap.size w w') => h.laid hB hb
  have hb0 := (((Below.refl w.heap.size w).alloc (Nat.le_refl _) (.cells #[.int .i64 x0, .slice A n c, .int .i64 x2] 140)).alloc (by simp) (.cells #[.int .i64 0, .slice none 0 0, .int .i64 0] 141)).alloc (by simp; omega) (.cells #[.int .i64 x0, .slice none 0 0, .int .i64 0] 141)
  have hs0 := hb0.size
  have HI := Lib.hid hi
  have HB0 := Lib.hid hb0
  clear hi
  go_enter Try.func104, Try.ntmps104
  go_wp2_with fail
  refine (to_i64 A n c B zs _ (HI.out _ HB0.out) (by have := HB0.out.size; omega) (by omega)).mono ?_
  rintro e w2 ⟨rfl, ho, hb2⟩
  have HB := Lib.hid (HB0.out.trans (hb2.mono hs0))
  have k0 : w2.cell? ⟨w.heap.size, 2, none⟩ = some (.int .i64 x2) := (hb2.cell (p := ⟨w.heap.size, 2, none⟩) (by simp; try omega)).trans (by go_simp)
  have k1 : w2.cell? ⟨w.heap.size + 1, 0, none⟩ = some (.int .i64 0) := (hb2.cell (p := ⟨w.heap.size + 1, 0, none⟩) (by simp; try omega)).trans (by go_simp)
  have k2 : w2.cell? ⟨w.heap.size + 1, 1, none⟩ = some (.slice none 0 0) := (hb2.cell (p := ⟨w.heap.size + 1, 1, none⟩) (by simp; try omega)).trans (by go_simp)
  have k3 : w2.cell? ⟨w.heap.size + 1, 2, none⟩ = some (.int .i64 0) := (hb2.cell (p := ⟨w.heap.size + 1, 2, none⟩) (by simp; try omega)).trans (by go_simp)
  have k4 : w2.cell? ⟨w.heap.size + 1 + 1, 0, none⟩ = some (.int .i64 x0) := (hb2.cell (p := ⟨w.heap.size + 1 + 1, 0, none⟩) (by simp; try omega)).trans (by go_simp)
  have k5 : w2.cell? ⟨w.heap.size + 1 + 1, 1, none⟩ = some (.slice none 0 0) := (hb2.cell (p := ⟨w.heap.size + 1 + 1, 1, none⟩) (by simp; try omega)).trans (by go_simp)
  have k6 : w2.cell? ⟨w.heap.size + 1 + 1, 2, none⟩ = some (.int .i64 0) := (hb2.cell (p := ⟨w.heap.size + 1 + 1, 2, none⟩) (by simp; try omega)).trans (by go_simp)
  have fa0 : w2.frozen? ⟨w.heap.size + 1, 0, none⟩ = false := (hb2.frozen (p := ⟨w.heap.size + 1, 0, none⟩) (by simp; try omega)).trans (by go_simp)
  have fa1 : w2.frozen? ⟨w.heap.size + 1, 1, none⟩ = false := (hb2.frozen (p := ⟨w.heap.size + 1, 1, none⟩) (by simp; try omega)).trans (by go_simp)
  have fa2 : w2.frozen? ⟨w.heap.size + 1, 2, none⟩ = false := (hb2.frozen (p := ⟨w.heap.size + 1, 2, none⟩) (by simp; try omega)).trans (by go_simp)
  have fb1 : w2.frozen? ⟨w.heap.size + 1 + 1, 1, none⟩ = false := (hb2.frozen (p := ⟨w.heap.size + 1 + 1, 1, none⟩) (by simp; try omega)).trans (by go_simp)
  have fb2 : w2.frozen? ⟨w.heap.size + 1 + 1, 2, none⟩ = false := (hb2.frozen (p := ⟨w.heap.size + 1 + 1, 2, none⟩) (by simp; try omega)).trans (by go_simp)
  have ho2 : Own .i64 3 w2 w.heap.size (.slice (some ⟨w.heap.size + 1 + 1 + 1, 0, none⟩) n n) zs := by
    have h2 := ho.mono hs0
    simp only [alloc_heap, Array.size_push] at h2
    exact h2
  have HO2 := Lib.hid ho2
  clear hb2 hb0 ho hs0 ho2
  go_wp2
  refine bodyPost_ret (v := .agg #[.int .i64 x0, .slice (some ⟨w.heap.size + 1 + 1 + 1, 0, none⟩) n n, .int .i64 x2]) (by rw [results_cell rfl]; go_simp; try rfl) rfl ?_
  refine ⟨_, rfl, (HO2.out.grown (only_setCell (only_setCell (World.grownBy.refl _ _) _ _) _ _) (fun g' e e2 => ?_)).grown (only_setCell (only_setCell (only_setCell (World.grownBy.refl _ _) _ _) _ _) _ _) (fun g' e e2 => ?_), (((((HB.out.setCell (by simp only; omega) _).setCell (by simp only; omega) _).setCell (by simp only; omega) _).setCell (by simp only; omega) _).setCell (by simp only; omega) _)⟩
  · have h1 : w.heap.size + 1 + 1 + 1 = g' := Option.some.inj e
    have h2 := Option.some.inj e2
    omega
  · have h1 : w.heap.size + 1 + 1 + 1 = g' := Option.some.inj e
    have h2 := Option.some.inj e2
    omega
set_option maxHeartbeats 1000000 in
theorem to_ent (A : Option Addr) (n c B : Nat) (ps : List Ent) (w : World) (h : EntsAt w B A n ps) (hB : B ≤ w.heap.size) (hn : n ≤ 1048576) (hm : ∀ j, j < n → (entA ps j).lights.length ≤ 1048576) :
    Calls Try.prog 52 #[.slice A n c] w fun e w' => e = .returned (.slice (some ⟨w.heap.size, 0, none⟩) n n) ∧ (∃ xs, OwnEnt w' w.heap.size (.slice (some ⟨w.heap.size, 0, none⟩) n n) xs ps) ∧ Below w.heap.size w w' := by
  have hl := h.1
  go_enter Try.func52, Try.ntmps52
  go_wp2_with ((with_reducible show wpList _ _ _ _ _ _); refine wpList_mkR rfl _ _ _ rfl 141 _ 3 _ Try.underlying67 info_ent (by decide) (n : Int) (n : Int) n rfl rfl rfl rfl (by omega) ?_; intro w1 hown hgrow)
  rw [made_ent] at hown
  go_loopw [4] (fun i wr => ∃ (k : Nat) (xs : List (Value × Ent)), k ≤ n ∧ xs.length = k ∧ i = .int .i64 k ∧ wr.ownsRow w.heap.size 141 3 (.slice (some ⟨w.heap.size, 0, none⟩) n n) n (entrow xs ++ entrow (List.replicate (n - xs.length) (.slice none 0 0, ent0))) ∧
      (∀ j, j < k → ∃ u, xs[j]? = some (u, entA ps j) ∧ Own .i64 3 wr w.heap.size u (entA ps j).lights) ∧ ApartL (xs.map (·.1)) ∧ Below w.heap.size w wr) (fun i _ => n - (intOf i).toNat)
  case atStart => exact ⟨0, [], Nat.zero_le _, rfl, rfl, by simpa [entrow] using hown, fun j hj => absurd hj (by omega), ApartL.nil, below_grown hgrow⟩
  case round =>
    clear hown hgrow
    obtain ⟨k, xs, hk, hul, rfl, hrow, heach, hap, hbl⟩ := hrel
    have hsz := hbl.size
    by_cases hlt : k < n
    · obtain ⟨ad, A', m, c', rfl, hab, hq, hi, hmc, hnil⟩ := h.at hlt
      obtain ⟨q0, q1, q2⟩ := hq.below hbl (by omega)
      have hml := hi.1
      have hmk := hm k hlt
      have hiw := hi.keep (w' := wr) (fun p hp => hbl.cell (by omega))
      clear hq hi
      go_wp2_with fail
      refine (law_toEntry A' m c' B (entA ps k).lights (entA ps k).second (entA ps k).mac wr hiw (by omega) (by omega)).mono ?_
      rintro e w2 ⟨a, rfl, ho, hb2⟩
      have hrow2 := ownr_below hrow hb2
      obtain ⟨y0, hy0⟩ := ownr_some hrow2 (j := k * 3) (by omega)
      obtain ⟨y1, hy1⟩ := ownr_some hrow2 (j := k * 3 + 1) (by omega)
      obtain ⟨y2, hy2⟩ := ownr_some hrow2 (j := k * 3 + 2) (by omega)
      have f0 := World.ownsRow.frozenAt hrow2
      have hst := (World.ownsRow.stored (World.ownsRow.stored (World.ownsRow.stored hrow2 (k * 3) (.int .i64 (entA ps k).second)).1 (k * 3 + 1) (.slice (some a) m m)).1 (k * 3 + 2) (.int .i64 (entA ps k).mac)).1
      have hb3 := hbl.trans (hb2.mono hsz)
      have hgs : w2.grownBy (((w2.setCell ⟨w.heap.size, k * 3, none⟩ (.int .i64 (entA ps k).second)).setCell ⟨w.heap.size, k * 3 + 1, none⟩ (.slice (some a) m m)).setCell ⟨w.heap.size, k * 3 + 2, none⟩ (.int .i64 (entA ps k).mac)) (some w.heap.size) := only_setCell (only_setCell (only_setCell (World.grownBy.refl _ _) _ _) _ _) _ _
      have hkept : ∀ {x : Value} {xs : List Int} {l : Nat}, Own .i64 3 w2 l x xs → Own .i64 3 (((w2.setCell ⟨w.heap.size, k * 3, none⟩ (.int .i64 (entA ps k).second)).setCell ⟨w.heap.size, k * 3 + 1, none⟩ (.slice (some a) m m)).setCell ⟨w.heap.size, k * 3 + 2, none⟩ (.int .i64 (entA ps k).mac)) l x xs := fun hx => hx.grown hgs (fun g hg e => own_apart_ent hx hrow2 g hg e)
      have hsn : xs.length < n := by omega
      have hnx := entrow_next xs n (.slice none 0 0, ent0) (.slice (some a) m m, entA ps k) hsn
      rw [hul] at hnx
      simp only at hnx
      rw [hul] at hst
      rw [hnx] at hst
      have HR := Lib.hid hst
      have HE : Hid (∀ j, j < k + 1 → ∃ u, (xs ++ [(.slice (some a) m m, entA ps k)])[j]? = some (u, entA ps j) ∧ Own .i64 3 (((w2.setCell ⟨w.heap.size, k * 3, none⟩ (.int .i64 (entA ps k).second)).setCell ⟨w.heap.size, k * 3 + 1, none⟩ (.slice (some a) m m)).setCell ⟨w.heap.size, k * 3 + 2, none⟩ (.int .i64 (entA ps k).mac)) w.heap.size u (entA ps j).lights) := Lib.hid (by
        intro j hj
        by_cases hjk : j < k
        · obtain ⟨u, h1, h2⟩ := heach j hjk
          exact ⟨u, by rw [List.getElem?_append_left (by omega)]; exact h1, hkept (h2.below hb2)⟩
        · obtain rfl : j = xs.length := by omega
          refine ⟨_, (List.getElem?_append_right (Nat.le_refl _)).trans (by rw [Nat.sub_self, show xs.length = k from hul]; rfl), ?_⟩
          rw [show xs.length = k from hul]
          exact hkept (ho.mono hsz))
      have HA : Hid (ApartL ((xs ++ [((Value.slice (some a) m m), entA ps k)]).map (·.1))) := Lib.hid (by
        rw [List.map_append]
        refine hap.snoc (b := wr.heap.size) (fun x hx g hg => ?_) (fun g hg => (ho.block g hg).1)
        obtain ⟨y, hy, rfl⟩ := List.mem_map.1 hx
        obtain ⟨j, hj, rfl⟩ := List.getElem_of_mem hy
        obtain ⟨u, h1, h2⟩ := heach j (by omega)
        rw [List.getElem?_eq_getElem hj] at h1
        injection h1 with h1
        rw [h1] at hg
        exact (h2.block g hg).2)
      have HB := Lib.hid hb3
      clear hrow heach hap hbl hb2 hb3 hgs hkept hst hrow2 ho hiw hnx
      go_wp2
      go_roundw
      case rel => exact ⟨k + 1, xs ++ [(.slice (some a) m m, entA ps k)], by omega, by rw [List.length_append, hul]; rfl, by go_num, HR.out, HE.out, HA.out, (((HB.out.setCell (Nat.le_refl _) _).setCell (Nat.le_refl _) _).setCell (Nat.le_refl _) _)⟩
      case measure => simp [intOf]; omega
    · obtain rfl : k = n := by omega
      rw [hul, Nat.sub_self, List.replicate_zero] at hrow
      have HO : Hid (OwnEnt wr w.heap.size (.slice (some ⟨w.heap.size, 0, none⟩) k k) xs ps) := Lib.hid ⟨by rw [hl]; simpa [entrow] using hrow, fun j hj => heach j (by omega), hap⟩
      clear hrow heach hap
      go_wp2
      go_ret
      exact ⟨rfl, ⟨xs, HO.out⟩, hbl⟩
set_option maxHeartbeats 1000000 in
theorem law_eqEntry (A : Option Addr) (n c B : Nat) (zs : List Int) (x0 : Int) (x2 : Int) (A2 : Option Addr) (n2 c2 : Nat) (w : World) (h : IntsAt .i64 w B A n zs) (h2 : IntsAt .i64 w B A2 n2 zs) (hB : B ≤ w.heap.size) (hn : n ≤ 4398046511104) :
    Calls Try.prog 105 #[.agg #[.int .i64 x0, .slice A n c, .int .i64 x2], .agg #[.int .i64 x0, .slice A2 n2 c2, .int .i64 x2]] w fun e w' => e = .returned (.bool true) ∧ Below w.heap.size w w' := by
  have hl := h.1
  have hl2 := h2.1
  have hq := fun w' (hb : Below w.heap.size w w') => eqs_i64 A n c zs A2 n2 c2 w' ((h.laid hB hb).up (by have := hb.size; omega)) ((h2.laid hB hb).up (by have := hb.size; omega)) (by omega) (by omega)
  have hb0 := ((Below.refl w.heap.size w).alloc (Nat.le_refl _) (.cells #[.int .i64 x0, .slice A n c, .int .i64 x2] 141)).alloc (by simp) (.cells #[.int .i64 x0, .slice A2 n2 c2, .int .i64 x2] 141)
  have HQ := Lib.hid hq
  have HB0 := Lib.hid hb0
  clear hq hb0 h h2
  have e0 : (x0 != x0) = false := by simp
  have g0 : (!(x0 == x0)) = false := by simp
  have e2 : (x2 != x2) = false := by simp
  have g2 : (!(x2 == x2)) = false := by simp
  go_enter Try.func105, Try.ntmps105
  go_wp2_with fail
  refine (HQ.out _ HB0.out).mono ?_
  rintro e w2 ⟨rfl, hb2⟩
  have HB := Lib.hid (HB0.out.trans (hb2.mono HB0.out.size))
  have k0 : w2.cell? ⟨w.heap.size, 2, none⟩ = some (.int .i64 x2) := (hb2.cell (p := ⟨w.heap.size, 2, none⟩) (by simp; try omega)).trans (by go_simp)
  have k1 : w2.cell? ⟨w.heap.size + 1, 2, none⟩ = some (.int .i64 x2) := (hb2.cell (p := ⟨w.heap.size + 1, 2, none⟩) (by simp; try omega)).trans (by go_simp)
  clear hb2
  go_wp2
  go_ret
  exact ⟨rfl, HB.out⟩
set_option maxHeartbeats 1000000 in
theorem eqs_ent (A : Option Addr) (n c : Nat) (ps : List Ent) (A2 : Option Addr) (n2 c2 : Nat) (w : World) (h : EntsAt w w.heap.size A n ps) (h2 : EntsAt w w.heap.size A2 n2 ps) (hn : n ≤ 4398046511104) (hn2 : n2 ≤ 4398046511104) (hm : ∀ j, j < n → (entA ps j).lights.length ≤ 4398046511104) :
    Calls Try.prog 54 #[.slice A n c, .slice A2 n2 c2] w fun e w' => e = .returned (.bool true) ∧ Below w.heap.size w w' := by
  have hl := h.1
  have hl2 := h2.1
  obtain rfl : n = n2 := by omega
  go_enter Try.func54, Try.ntmps54
  go_wp2
  go_loopw [5] (fun i wr => ∃ k : Nat, k ≤ n ∧ i = .int .i64 k ∧ Below w.heap.size w wr) (fun i _ => n - (intOf i).toNat)
  case atStart => exact ⟨0, Nat.zero_le _, rfl, Below.refl _ _⟩
  case round =>
    obtain ⟨k, hk, rfl, hbl⟩ := hrel
    have hsz := hbl.size
    by_cases hlt : k < n
    · obtain ⟨ad, A', m, c', rfl, hab, hq, hi, hmc, hnil⟩ := h.at hlt
      obtain ⟨ad2, A2', m2, c2', rfl, hab2, hq2, hi2, hmc2, hnil2⟩ := h2.at hlt
      have hqq := fun x (hx : Below wr.heap.size wr x) => (hq.below hbl (by omega)).below hx (by omega)
      have hqq2 := fun x (hx : Below wr.heap.size wr x) => (hq2.below hbl (by omega)).below hx (by omega)
      have hmk := hm k hlt
      have hml := hi.1
      have hml2 := hi2.1
      have hiw := hi.keep (w' := wr) (fun p hp => hbl.cell (by omega))
      have hiw2 := hi2.keep (w' := wr) (fun p hp => hbl.cell (by omega))
      clear hq hq2 hi hi2
      generalize entA ps k = pk at *
      obtain ⟨x0, zs, x2⟩ := pk
      simp only at *
      have hcc := fun x (hx : Below wr.heap.size wr x) => law_eqEntry A' m c' w.heap.size zs x0 x2 A2' m2 c2' x (hiw.keep (w' := x) fun p hp => hx.cell (by omega)) (hiw2.keep (w' := x) fun p hp => hx.cell (by omega)) (by have := hx.size; omega) (by omega)
      have i1 : (0 : Int) ≤ (k : Int) := by omega
      have i2 : (k : Int) < (n : Int) := by omega
      have hdr : Below wr.heap.size wr wr.drew := ⟨rfl, rfl, rfl, Nat.le_refl _, fun _ _ => rfl⟩
      obtain ⟨y0, y1, y2⟩ := hqq _ hdr
      obtain ⟨z0, z1, z2⟩ := hqq2 _ hdr
      have HQ := Lib.hid hcc
      have HC := Lib.hid hqq
      have HC2 := Lib.hid hqq2
      clear hqq hqq2 hcc hiw hiw2
      go_wp2
      go_region_held3 (fun W' => W'.cell? (ad.add (k * 3)) = some (.int .i64 x0) ∧ W'.cell? ⟨(ad.add (k * 3)).block, (ad.add (k * 3)).off + 1, none⟩ = some (.slice A' m c') ∧ W'.cell? ⟨(ad.add (k * 3)).block, (ad.add (k * 3)).off + 2, none⟩ = some (.int .i64 x2) ∧ W'.cell? (ad2.add (k * 3)) = some (.int .i64 x0) ∧ W'.cell? ⟨(ad2.add (k * 3)).block, (ad2.add (k * 3)).off + 1, none⟩ = some (.slice A2' m2 c2') ∧ W'.cell? ⟨(ad2.add (k * 3)).block, (ad2.add (k * 3)).off + 2, none⟩ = some (.int .i64 x2)) (first | exact ⟨y0, y1, y2, z0, z1, z2⟩ | exact ⟨hy.c0, hy.c1, hy.c2, hz.c0, hz.c1, hz.c2⟩ | fail "keep")
        (first
          | (go_at_call 105; refine (HQ.out _ hdr).mono ?_; rintro e w3 ⟨rfl, hb3⟩; have hb4 := hdr.trans hb3; have hy := HC.out _ hb4; have hz := HC2.out _ hb4))
      have HB := Lib.hid (hbl.trans (hb4.mono hsz))
      clear hb3 hb4 y0 y1 y2 z0 z1 z2 hy hz hbl HQ HC HC2 hdr
      go_wp2
      go_roundw
      case rel => exact ⟨k + 1, by omega, by go_num, HB.out⟩
      case measure => simp [intOf]; omega
    · obtain rfl : k = n := by omega
      go_wp2
      go_ret
      exact ⟨rfl, hbl⟩
theorem sz1_ent (A : Option Addr) (n c : Nat) (x0 : Int) (x2 : Int) (left : Int) (w : World) (hn : n ≤ 9223372036854775807) (hl : 0 ≤ left ∧ left ≤ 1048576) :
    Calls Try.prog 103 #[.agg #[.int .i64 x0, .slice A n c, .int .i64 x2], .int .i64 left] w fun e w' => e = .returned (.int .i64 (if (n : Int) ≤ left then left - (n : Int) else -1)) ∧ Below w.heap.size w w' := by
  have HB := Lib.hid ((Below.refl w.heap.size w).alloc (Nat.le_refl _) (.cells #[.int .i64 x0, .slice A n c, .int .i64 x2] 140))
  by_cases h : (n : Int) ≤ left
  · have hz := fun x => sz_ints A n c left x hn hl
    simp only [if_pos h] at hz ⊢
    have HZ := Lib.hid hz
    clear hz
    go_enter Try.func103, Try.ntmps103
    go_wp2_with fail
    refine (HZ.out _).mono ?_
    rintro e w' ⟨rfl, rfl⟩
    go_wp2
    go_ret
    exact ⟨rfl, HB.out⟩
  · have hz := fun x => sz_ints A n c left x hn hl
    simp only [if_neg h] at hz ⊢
    have HZ := Lib.hid hz
    clear hz
    go_enter Try.func103, Try.ntmps103
    go_wp2_with fail
    refine (HZ.out _).mono ?_
    rintro e w' ⟨rfl, rfl⟩
    go_wp2
    go_ret
    exact ⟨rfl, HB.out⟩
/-- what sz says of a row. -/
def szSaidEnt (left : Int) (n : Nat) (ps : List Ent) (r : Int) : Prop := r < 0 ∨ (0 ≤ r ∧ r ≤ left ∧ (n : Int) ≤ left ∧ ∀ j, j < n → ((entA ps j).lights.length : Int) ≤ left)
set_option maxHeartbeats 1000000 in
theorem sz_ent (A : Option Addr) (n c B : Nat) (ps : List Ent) (left : Int) (w : World) (h : EntsAt w B A n ps) (hB : B ≤ w.heap.size) (hn : n ≤ 9223372036854775807) (hm : ∀ j, j < n → (entA ps j).lights.length ≤ 9223372036854775807) (hl : 0 ≤ left ∧ left ≤ 1048576) :
    Calls Try.prog 50 #[.slice A n c, .int .i64 left] w fun e w' => (∃ r : Int, e = .returned (.int .i64 r) ∧ szSaidEnt left n ps r) ∧ Below w.heap.size w w' := by
  have hl0 := h.1
  obtain ⟨l1, l2⟩ := hl
  by_cases hlt0 : (n : Int) ≤ left
  · go_enter Try.func50, Try.ntmps50
    go_wp2
    go_loopw [1, 5] (fun r i wr => ∃ (k : Nat) (q : Int), k ≤ n ∧ i = .int .i64 k ∧ r = .int .i64 q ∧ 0 ≤ q ∧ q ≤ left ∧ (∀ j, j < k → ((entA ps j).lights.length : Int) ≤ left) ∧ Below w.heap.size w wr) (fun _ i _ => n - (intOf i).toNat)
    case atStart => exact ⟨0, left - n, Nat.zero_le _, rfl, rfl, by omega, by omega, fun j hj => absurd hj (by omega), Below.refl _ _⟩
    case round =>
      obtain ⟨k, q, hk, rfl, rfl, hq0, hq1, hall, hbl⟩ := hrel
      have HALL := Lib.hid hall
      clear hall
      by_cases hlt : k < n
      · obtain ⟨ad, A', m, c', rfl, hab, hq, hi, hmc, hnil⟩ := h.at hlt
        obtain ⟨y0, y1, y2⟩ := hq.below hbl (by omega)
        have hml := hi.1
        have hmk := hm k hlt
        go_wp2_with fail
        refine (sz1_ent A' m c' _ _ q _ (by omega) ⟨hq0, by omega⟩).mono ?_
        rintro e w' ⟨rfl, hb2⟩
        have HB := Lib.hid (hbl.trans (hb2.mono hbl.size))
        clear hb2
        by_cases hle : (m : Int) ≤ q
        · rw [if_pos hle]
          have HK : Hid (((entA ps k).lights.length : Int) ≤ left) := Lib.hid (by omega)
          clear hi hml hmk
          go_wp2
          go_roundw
          case rel => exact ⟨k + 1, q - m, by omega, by go_num, rfl, by omega, by omega, (fun j hj => by
            by_cases e : j < k
            · exact HALL.out j e
            · obtain rfl : j = k := by omega
              exact HK.out), HB.out⟩
          case measure => simp [intOf]; omega
        · rw [if_neg hle]
          go_wp2
          go_ret
          exact ⟨⟨-1, rfl, .inl (by decide)⟩, HB.out⟩
      · obtain rfl : k = n := by omega
        go_wp2
        go_ret
        exact ⟨⟨q, rfl, .inr ⟨hq0, hq1, hlt0, HALL.out⟩⟩, hbl⟩
  · go_enter Try.func50, Try.ntmps50
    go_wp2
    go_ret
    exact ⟨⟨-1, rfl, .inl (by decide)⟩, Below.refl _ _⟩
end Go.Proofs.Ytdlcjmdkafebpaa
