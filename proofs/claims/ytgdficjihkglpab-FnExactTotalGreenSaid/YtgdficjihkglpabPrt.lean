/- Parts of plans as Lean data; rows of them, and the laws' helpers for these. -/
import Derived.Test.YtgdficjihkglpabSSM
import Derived.Test.YtgdficjihkglpabRow
import Derived.Test.YtgdficjihkglpabPths
namespace Go.Proofs.Ytgdficjihkglpab
open Go.RowKit
set_option linter.unusedVariables false

/-- a part of a plan. -/
structure Prt where
  stage : List Int
  green : Int
deriving DecidableEq
def prt0 : Prt := ⟨[], 0⟩
def Prt.wf (p : Prt) : Prop := p.stage.length ≤ maxLen ∧ (∀ z ∈ p.stage, (Lit.int .i64 z).wf = true) ∧ (Lit.int .i64 p.green).wf = true
/-- the j-th part. -/
def prAt (ps : List Prt) (j : Nat) : Prt := ps.getD j prt0
theorem prAt_some {ps : List Prt} {k : Nat} {p : Prt} (h : ps[k]? = some p) : prAt ps k = p := by simp [prAt, List.getD, h]
theorem prAt_get {ps : List Prt} {k : Nat} (h : k < ps.length) : ps[k]? = some (prAt ps k) := by
  rw [List.getElem?_eq_getElem h]
  simp [prAt, List.getD, List.getElem?_eq_getElem h]
theorem prAt_mem {ps : List Prt} {k : Nat} (h : k < ps.length) : prAt ps k ∈ ps := List.mem_of_getElem? (prAt_get h)
theorem prAt_append {ps : List Prt} {q : Prt} {k : Nat} : prAt (ps ++ [q]) k = if k < ps.length then prAt ps k else if k = ps.length then q else prt0 := by
  unfold prAt
  rw [List.getD_eq_getElem?_getD, List.getElem?_append]
  by_cases h : k < ps.length
  · rw [if_pos h, if_pos h, List.getD_eq_getElem?_getD]
  · rw [if_neg h, if_neg h]
    by_cases e : k = ps.length
    · rw [if_pos e, e, Nat.sub_self]; rfl
    · rw [if_neg e, List.getElem?_eq_none (by simp; omega)]; rfl
/-- a part lies at q: its stage's slice and its green. -/
structure PrtAt (w : World) (q : Addr) (u : Value) (g : Int) : Prop where
  c0 : w.cell? q = some u
  c1 : w.cell? ⟨q.block, q.off + 1, none⟩ = some (.int .i64 g)
theorem PrtAt.keep {w w' : World} {q : Addr} {u : Value} {g : Int} (h : PrtAt w q u g) (e : w'.heap[q.block]? = w.heap[q.block]?) : PrtAt w' q u g :=
  ⟨(World.cell?_of_block e).trans h.c0, (World.cell?_of_block (a := ⟨q.block, q.off + 1, none⟩) e).trans h.c1⟩
theorem PrtAt.below {w w' : World} {q : Addr} {u : Value} {g : Int} {B : Nat} (h : PrtAt w q u g) (hb : Below B w w') (hB : q.block < B) : PrtAt w' q u g := h.keep (hb.block _ hB)
/-- A slice value that holds these parts, all in blocks below B. -/
def PrtsAt (w : World) (B : Nat) (A : Option Addr) (n : Nat) (ps : List Prt) : Prop :=
  ps.length = n ∧ (0 < n → ∃ ad, A = some ad ∧ ad.block < B ∧ ∀ j, j < n → ∃ A' m c, PrtAt w (ad.add (j * 2)) (.slice A' m c) (prAt ps j).green ∧ IntsAt .i64 w B A' m (prAt ps j).stage ∧ (m ≤ c ∧ c ≤ maxLen) ∧ (A' = none → m = 0 ∧ c = 0))
theorem PrtsAt.at {w : World} {B : Nat} {A : Option Addr} {n : Nat} {ps : List Prt} (h : PrtsAt w B A n ps) {j : Nat} (hj : j < n) :
    ∃ ad A' m c, A = some ad ∧ (ad.add (j * 2)).block < B ∧ PrtAt w (ad.add (j * 2)) (.slice A' m c) (prAt ps j).green ∧ IntsAt .i64 w B A' m (prAt ps j).stage ∧ (m ≤ c ∧ c ≤ maxLen) ∧ (A' = none → m = 0 ∧ c = 0) := by
  obtain ⟨ad, e, hb, hc⟩ := h.2 (by omega)
  obtain ⟨A', m, c, h1⟩ := hc j hj
  exact ⟨ad, A', m, c, e, by rw [add_block]; exact hb, h1⟩
theorem PrtsAt.keep {w w' : World} {B : Nat} {A : Option Addr} {n : Nat} {ps : List Prt} (h : PrtsAt w B A n ps) (hb : Below B w w') : PrtsAt w' B A n ps := by
  refine ⟨h.1, fun h0 => ?_⟩
  obtain ⟨ad, e, hB, hc⟩ := h.2 h0
  refine ⟨ad, e, hB, fun j hj => ?_⟩
  obtain ⟨A', m, c, h1, h2, h3, h4⟩ := hc j hj
  exact ⟨A', m, c, h1.below hb (by rw [add_block]; exact hB), h2.keep (fun p hp => hb.cell hp), h3, h4⟩
theorem PrtsAt.below {w w' : World} {B : Nat} {A : Option Addr} {n : Nat} {ps : List Prt} (h : PrtsAt w B A n ps) (hB : B ≤ w.heap.size) (hb : Below w.heap.size w w') : PrtsAt w' B A n ps := h.keep (hb.mono hB)
theorem PrtsAt.up {w : World} {B B' : Nat} {A : Option Addr} {n : Nat} {ps : List Prt} (h : PrtsAt w B A n ps) (hB : B ≤ B') : PrtsAt w B' A n ps := by
  refine ⟨h.1, fun h0 => ?_⟩
  obtain ⟨ad, e, hb, hc⟩ := h.2 h0
  refine ⟨ad, e, by omega, fun j hj => ?_⟩
  obtain ⟨A', m, c, h1, h2, h3, h4⟩ := hc j hj
  exact ⟨A', m, c, h1, h2.up hB, h3, h4⟩
/-- the cells of a row of parts. -/
def prow (xs : List (Value × Int)) : List Value := xs.flatMap fun x => [x.1, .int .i64 x.2]
theorem prow_length (xs : List (Value × Int)) : (prow xs).length = xs.length * 2 := flat_length (f := fun x : Value × Int => [x.1, .int .i64 x.2]) (fun _ => rfl) xs
theorem prow_at0 {xs : List (Value × Int)} {j : Nat} {x : Value × Int} (h : xs[j]? = some x) : (prow xs)[j * 2]? = some x.1 := by
  exact flat_get (f := fun x : Value × Int => [x.1, .int .i64 x.2]) (s := 2) (fun _ => rfl) xs j 0 x h (by decide)
theorem prow_at1 {xs : List (Value × Int)} {j : Nat} {x : Value × Int} (h : xs[j]? = some x) : (prow xs)[j * 2 + 1]? = some (.int .i64 x.2) := by
  exact flat_get (f := fun x : Value × Int => [x.1, .int .i64 x.2]) (s := 2) (fun _ => rfl) xs j 1 x h (by decide)
theorem prow_append (xs ys : List (Value × Int)) : prow (xs ++ ys) = prow xs ++ prow ys := by simp [prow]
theorem prow_next (xs : List (Value × Int)) (n : Nat) (z x : Value × Int) (h : xs.length < n) :
    ((prow xs ++ prow (List.replicate (n - xs.length) z)).set (xs.length * 2) x.1).set (xs.length * 2 + 1) (.int .i64 x.2) = prow (xs ++ [x]) ++ prow (List.replicate (n - (xs ++ [x]).length) z) := by
  obtain ⟨m, hm⟩ : ∃ m, n - xs.length = m + 1 := ⟨n - xs.length - 1, by omega⟩
  have e2 : n - (xs ++ [x]).length = m := by rw [List.length_append, List.length_singleton]; omega
  rw [e2, hm, List.replicate_succ]
  have e3 : prow (z :: List.replicate m z) = z.1 :: .int .i64 z.2 :: prow (List.replicate m z) := rfl
  rw [e3, set_at (prow_length xs)]
  have e4 : prow xs ++ x.1 :: .int .i64 z.2 :: prow (List.replicate m z) = (prow xs ++ [x.1]) ++ .int .i64 z.2 :: prow (List.replicate m z) := by simp
  rw [e4, set_at (by simp [prow_length]), prow_append]
  simp [prow]
theorem prow_one (xs : List (Value × Int)) (h : ∀ x ∈ xs, x.1.oneCell' = true) : ∀ u ∈ prow xs, u.oneCell' = true := by
  intro u hu
  obtain ⟨x, hx, hp⟩ := List.mem_flatMap.1 hu
  simp only [List.mem_cons, List.not_mem_nil, or_false] at hp
  rcases hp with rfl | rfl
  · exact h x hx
  · rfl
theorem made_prt (n : Nat) : (madeCells (Value.agg #[Value.slice none 0 0, Value.int .i64 0]).cells (n * 2)).toList = prow (List.replicate n (Value.slice none 0 0, 0)) := by
  have h : (Value.agg #[Value.slice none 0 0, Value.int .i64 0]).cells = #[Value.slice none 0 0, Value.int .i64 0] := rfl
  rw [h]
  apply List.ext_getElem?
  intro i
  simp only [madeCells, Array.toList_map, List.getElem?_map]
  by_cases hi : i < n * 2
  · have hx : (List.replicate n ((Value.slice none 0 0, 0) : Value × Int))[i / 2]? = some (Value.slice none 0 0, 0) := by rw [List.getElem?_replicate, if_pos (by omega)]
    have h2 : i % 2 = 0 ∨ i % 2 = 1 := by omega
    rcases h2 with h2 | h2
    · have := prow_at0 hx
      rw [show i / 2 * 2 = i by omega] at this
      rw [this]
      simp [hi, h2]
    · have := prow_at1 hx
      rw [show i / 2 * 2 + 1 = i by omega] at this
      rw [this]
      simp [hi, h2]
  · rw [List.getElem?_eq_none (l := prow _) (by rw [prow_length, List.length_replicate]; omega)]
    simp [hi]
theorem info_prt : (Try.prog.info? 47).map (fun i => (i.zero, i.size, i.bytes)) = some (some (.agg #[.slice none 0 0, .int .i64 0]), 2, 32) := by kernel_rfl
/-- rows of other types lie in other blocks. -/
theorem own_apartP {w : World} {lo lo2 : Nat} {u v : Value} {zs : List Int} {n : Nat} {vs : List Value} (h : Own .i64 3 w lo u zs) (h2 : w.ownsRow lo2 47 2 v n vs) : ∀ g, u.ownBlock = some g → v.ownBlock ≠ some g := by
  intro g hg e
  rcases h.2 with ⟨rfl, _⟩ | ⟨g1, cap, cur, rfl, hb, hg1, r⟩
  · cases hg
  · rcases h2.2 with ⟨rfl, _⟩ | ⟨g2, cap2, cur2, rfl, hb2, hg2, r2⟩
    · cases e
    · have e1 : g1 = g := Option.some.inj hg
      have e2 : g2 = g := Option.some.inj e
      subst e1
      subst e2
      rw [hg1] at hg2
      injection hg2 with hg2
      injection hg2 with _ ht
      exact absurd ht (by decide)
/-- a row of parts of the call's own; each stage in its own block. -/
structure OwnPr (w : World) (lo : Nat) (v : Value) (xs : List (Value × Int)) (ps : List Prt) : Prop where
  row : w.ownsRow lo 47 2 v ps.length (prow xs)
  each : ∀ j, j < ps.length → ∃ u, xs[j]? = some (u, (prAt ps j).green) ∧ Own .i64 3 w lo u (prAt ps j).stage
  apart : ApartL (xs.map (·.1))
/-- the same, where nothing is said of two stages' blocks. -/
structure OwnPe (w : World) (lo : Nat) (v : Value) (xs : List (Value × Int)) (ps : List Prt) : Prop where
  row : w.ownsRow lo 47 2 v ps.length (prow xs)
  each : ∀ j, j < ps.length → ∃ u, xs[j]? = some (u, (prAt ps j).green) ∧ Own .i64 3 w lo u (prAt ps j).stage
theorem OwnPr.pe {w : World} {lo : Nat} {v : Value} {xs : List (Value × Int)} {ps : List Prt} (h : OwnPr w lo v xs ps) : OwnPe w lo v xs ps := ⟨h.row, h.each⟩
theorem OwnPe.len {w : World} {lo : Nat} {v : Value} {xs : List (Value × Int)} {ps : List Prt} (h : OwnPe w lo v xs ps) : xs.length = ps.length := by
  have := h.row.1
  rw [prow_length] at this
  omega
theorem OwnPe.below {w w' : World} {lo : Nat} {v : Value} {xs : List (Value × Int)} {ps : List Prt} (h : OwnPe w lo v xs ps) (hb : Below w.heap.size w w') : OwnPe w' lo v xs ps :=
  ⟨ownr_below h.row hb, fun j hj => by obtain ⟨u, h1, h2⟩ := h.each j hj; exact ⟨u, h1, h2.below hb⟩⟩
theorem OwnPe.mono {w : World} {lo lo' : Nat} {v : Value} {xs : List (Value × Int)} {ps : List Prt} (h : OwnPe w lo v xs ps) (hl : lo' ≤ lo) : OwnPe w lo' v xs ps :=
  ⟨ownr_mono h.row hl, fun j hj => by obtain ⟨u, h1, h2⟩ := h.each j hj; exact ⟨u, h1, h2.mono hl⟩⟩
theorem OwnPe.prts {w : World} {lo : Nat} {A : Option Addr} {n c : Nat} {xs : List (Value × Int)} {ps : List Prt} (h : OwnPe w lo (.slice A n c) xs ps) : PrtsAt w w.heap.size A n ps := by
  have hn := ownr_len h.row
  subst hn
  refine ⟨rfl, fun h0 => ?_⟩
  obtain ⟨ad, e, hb, hc⟩ := (ownr_cells h.row).2 (by omega)
  refine ⟨ad, e, hb, fun j hj => ?_⟩
  obtain ⟨u, h1, h2⟩ := h.each j hj
  obtain ⟨A', c', rfl⟩ := h2.sliced
  refine ⟨A', _, c', ⟨hc _ _ (prow_at0 h1), ?_⟩, h2.ints, h2.cap, h2.nilcap'⟩
  rw [← add_plus _ 1 (by decide), add_add]
  exact hc _ _ (prow_at1 h1)
theorem OwnPe.sliced {w : World} {lo : Nat} {v : Value} {xs : List (Value × Int)} {ps : List Prt} (h : OwnPe w lo v xs ps) : ∃ A c, v = .slice A ps.length c := ownr_sliced h.row
theorem OwnPr.below {w w' : World} {lo : Nat} {v : Value} {xs : List (Value × Int)} {ps : List Prt} (h : OwnPr w lo v xs ps) (hb : Below w.heap.size w w') : OwnPr w' lo v xs ps := ⟨(h.pe.below hb).row, (h.pe.below hb).each, h.apart⟩
theorem OwnPr.mono {w : World} {lo lo' : Nat} {v : Value} {xs : List (Value × Int)} {ps : List Prt} (h : OwnPr w lo v xs ps) (hl : lo' ≤ lo) : OwnPr w lo' v xs ps := ⟨(h.pe.mono hl).row, (h.pe.mono hl).each, h.apart⟩
/-- rows of parts between two block numbers. -/
structure OwQ (w : World) (lo hi : Nat) (v : Value) (xs : List (Value × Int)) (ps : List Prt) : Prop where
  own : OwnPe w lo v xs ps
  lt : ∀ g, v.ownBlock = some g → g < hi
  ltu : ∀ x ∈ xs, ∀ g, x.1.ownBlock = some g → lo ≤ g ∧ g < hi
  top : hi ≤ w.heap.size
theorem OwQ.new {w : World} {lo : Nat} {v : Value} {xs : List (Value × Int)} {ps : List Prt} (h : OwnPe w lo v xs ps) : OwQ w lo w.heap.size v xs ps :=
  ⟨h, fun g e => (ownr_block h.row g e).2, fun x hx g e => by
    have hl := h.len
    obtain ⟨j, hj, rfl⟩ := List.getElem_of_mem hx
    obtain ⟨u, h1, h2⟩ := h.each j (by omega)
    rw [List.getElem?_eq_getElem hj] at h1
    injection h1 with h1
    rw [h1] at e
    exact h2.block g e, Nat.le_refl _⟩
theorem OwQ.below {w w' : World} {lo hi : Nat} {v : Value} {xs : List (Value × Int)} {ps : List Prt} (h : OwQ w lo hi v xs ps) (hb : Below w.heap.size w w') : OwQ w' lo hi v xs ps := ⟨h.own.below hb, h.lt, h.ltu, Nat.le_trans h.top hb.size⟩
theorem OwQ.ints {w : World} {lo hi : Nat} {A : Option Addr} {n c : Nat} {xs : List (Value × Int)} {ps : List Prt} (h : OwQ w lo hi (.slice A n c) xs ps) : PrtsAt w w.heap.size A n ps := h.own.prts
theorem OwQ.part {w w' : World} {lo hi l h' : Nat} {v : Value} {xs : List (Value × Int)} {ps : List Prt} (h : OwQ w lo hi v xs ps) (hp : Part l h' w w') (hd : hi ≤ l ∨ h' ≤ lo) : OwQ w' lo hi v xs ps := by
  refine ⟨⟨?_, fun j hj => ?_⟩, h.lt, h.ltu, Nat.le_trans h.top hp.size⟩
  · refine ⟨h.own.row.1, ?_⟩
    rcases h.own.row.2 with h2 | ⟨g, cap, cur, rfl, hl, hg, r⟩
    · exact .inl h2
    · have hlt := h.lt g rfl
      have htop := h.top
      exact .inr ⟨g, cap, cur, rfl, hl, (hp.block g (by omega) (by omega)).trans hg, r⟩
  · obtain ⟨u, h1, h2⟩ := h.own.each j hj
    refine ⟨u, h1, h2.1, ?_⟩
    have hu := List.mem_of_getElem? h1
    rcases h2.2 with h3 | ⟨g, cap, cur, rfl, hl, hg, r⟩
    · exact .inl h3
    · have hlt := h.ltu _ hu g rfl
      have htop := h.top
      exact .inr ⟨g, cap, cur, rfl, hl, (hp.block g (by omega) (by omega)).trans hg, r⟩
/-- a slice of parts that a call is given. -/
structure SlQ (w : World) (A : Option Addr) (n c : Nat) (ps : List Prt) : Prop where
  prts : PrtsAt w w.heap.size A n ps
  bare : A = none → n = 0 ∧ c = 0
  cap : n ≤ c ∧ c ≤ maxLen
  wf : ∀ p ∈ ps, p.wf
theorem OwQ.sl {w : World} {lo hi : Nat} {A : Option Addr} {n c : Nat} {xs : List (Value × Int)} {ps : List Prt} (h : OwQ w lo hi (.slice A n c) xs ps) (hw : ∀ p ∈ ps, p.wf) : SlQ w A n c ps := ⟨h.ints, ownr_nilcap h.own.row, ownr_cap h.own.row, hw⟩
theorem SlQ.below {w w' : World} {A : Option Addr} {n c : Nat} {ps : List Prt} (h : SlQ w A n c ps) (hb : Below w.heap.size w w') : SlQ w' A n c ps :=
  ⟨(h.prts.keep hb).up hb.size, h.bare, h.cap, h.wf⟩
/-- few and short. -/
def SmallP (ps : List Prt) : Prop := ps.length ≤ 1048576 ∧ ∀ j, j < ps.length → (prAt ps j).stage.length ≤ 1048576
theorem SmallP.at {ps : List Prt} (h : SmallP ps) (n M : Nat) (hn : n = ps.length) (hM : 1048576 ≤ M) : ∀ j, j < n → (prAt ps j).stage.length ≤ M := fun j hj => Nat.le_trans (h.2 j (by omega)) hM
theorem law_toPart (A : Option Addr) (n c B : Nat) (zs : List Int) (g : Int) (w : World) (h : IntsAt .i64 w B A n zs) (hB : B ≤ w.heap.size) (hn : n ≤ 1048576) :
    Calls Try.prog 33 #[.agg #[.slice A n c, .int .i64 g]] w fun e w' => ∃ a, e = .returned (.agg #[.slice (some a) n n, .int .i64 g]) ∧ Own .i64 3 w' w.heap.size (.slice (some a) n n) zs ∧ Below w.heap.size w w' := by
  have hi := fun w' (hb : Below w.heap.size w w') => h.laid hB hb
  have hb0 := (((Below.refl w.heap.size w).alloc (Nat.le_refl _) (.cells #[.slice A n c, .int .i64 g] 46)).alloc (by simp) (.cells #[.slice none 0 0, .int .i64 0] 47)).alloc (by simp; omega) (.cells #[.slice none 0 0, .int .i64 0] 47)
  have hs0 := hb0.size
  have HI := Lib.hid hi
  have HB0 := Lib.hid hb0
  clear hi
  go_enter Try.func33, Try.ntmps33
  go_wp2_with fail
  refine (to_i64 A n c B zs _ (HI.out _ HB0.out) (by omega) (by omega)).mono ?_
  rintro e w2 ⟨rfl, ho, hb2⟩
  have HB := Lib.hid (HB0.out.trans (hb2.mono hs0))
  have HO := Lib.hid (ho.mono hs0)
  have k1 : w2.cell? ⟨w.heap.size, 1, none⟩ = some (.int .i64 g) := (hb2.cell (p := ⟨w.heap.size, 1, none⟩) (by simp; omega)).trans (by go_simp)
  have k2 : w2.cell? ⟨w.heap.size + 1, 0, none⟩ = some (.slice none 0 0) := (hb2.cell (p := ⟨w.heap.size + 1, 0, none⟩) (by simp)).trans (by go_simp)
  have k3 : w2.cell? ⟨w.heap.size + 1, 1, none⟩ = some (.int .i64 0) := (hb2.cell (p := ⟨w.heap.size + 1, 1, none⟩) (by simp)).trans (by go_simp)
  have k4 : w2.cell? ⟨w.heap.size + 1 + 1, 0, none⟩ = some (.slice none 0 0) := (hb2.cell (p := ⟨w.heap.size + 1 + 1, 0, none⟩) (by simp)).trans (by go_simp)
  have k5 : w2.cell? ⟨w.heap.size + 1 + 1, 1, none⟩ = some (.int .i64 0) := (hb2.cell (p := ⟨w.heap.size + 1 + 1, 1, none⟩) (by simp)).trans (by go_simp)
  have f2 : w2.frozen? ⟨w.heap.size + 1, 0, none⟩ = false := (hb2.frozen (p := ⟨w.heap.size + 1, 0, none⟩) (by simp)).trans (by go_simp)
  have f3 : w2.frozen? ⟨w.heap.size + 1, 1, none⟩ = false := (hb2.frozen (p := ⟨w.heap.size + 1, 1, none⟩) (by simp)).trans (by go_simp)
  have f4 : w2.frozen? ⟨w.heap.size + 1 + 1, 0, none⟩ = false := (hb2.frozen (p := ⟨w.heap.size + 1 + 1, 0, none⟩) (by simp)).trans (by go_simp)
  have f5 : w2.frozen? ⟨w.heap.size + 1 + 1, 1, none⟩ = false := (hb2.frozen (p := ⟨w.heap.size + 1 + 1, 1, none⟩) (by simp)).trans (by go_simp)
  have ho2 : Own .i64 3 w2 w.heap.size (.slice (some ⟨w.heap.size + 1 + 1 + 1, 0, none⟩) n n) zs := by
    have h2 := ho.mono hs0
    simp only [alloc_heap, Array.size_push] at h2
    exact h2
  have HO2 := Lib.hid ho2
  clear hb2 hb0 ho hs0 ho2 HO
  go_wp2
  refine bodyPost_ret (v := .agg #[.slice (some ⟨w.heap.size + 1 + 1 + 1, 0, none⟩) n n, .int .i64 g]) (by rw [results_cell rfl]; go_simp; try rfl) rfl ?_
  refine ⟨_, rfl, (HO2.out.grown (only_setCell (only_setCell (World.grownBy.refl _ _) _ _) _ _) (fun g' e e2 => ?_)).grown (only_setCell (only_setCell (World.grownBy.refl _ _) _ _) _ _) (fun g' e e2 => ?_), (((HB.out.setCell (by simp only; omega) _).setCell (by simp only; omega) _).setCell (by simp only; omega) _).setCell (by simp only; omega) _⟩
  · have h1 : w.heap.size + 1 + 1 + 1 = g' := Option.some.inj e
    have h2 := Option.some.inj e2
    omega
  · have h1 : w.heap.size + 1 + 1 + 1 = g' := Option.some.inj e
    have h2 := Option.some.inj e2
    omega
end Go.Proofs.Ytgdficjihkglpab
