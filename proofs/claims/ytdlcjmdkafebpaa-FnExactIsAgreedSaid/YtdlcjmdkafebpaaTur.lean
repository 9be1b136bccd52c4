/- Turn as Lean data; rows of them, and the laws' helpers for these (written by genrow.py). -/
import Derived.Test.YtdlcjmdkafebpaaSSM
import Derived.Test.YtdlcjmdkafebpaaRow
import Derived.Test.YtdlcjmdkafebpaaFlat
import Derived.Deep.RegionHeld3
namespace Go.Proofs.Ytdlcjmdkafebpaa
open Go.RowKit
set_option linter.unusedVariables false

structure Tur where
  plan : Int
  sec : Int
  votes : List Int
deriving DecidableEq
def tur0 : Tur := ⟨0, 0, []⟩
def Tur.wf (p : Tur) : Prop := p.votes.length ≤ maxLen ∧ (∀ z ∈ p.votes, (Lit.int .i64 z).wf = true) ∧ (Lit.int .i64 p.plan).wf = true ∧ (Lit.int .i64 p.sec).wf = true
/-- the j-th one. -/
def turA (ps : List Tur) (j : Nat) : Tur := ps.getD j tur0
theorem turA_some {ps : List Tur} {k : Nat} {p : Tur} (h : ps[k]? = some p) : turA ps k = p := by simp [turA, List.getD, h]
theorem turA_get {ps : List Tur} {k : Nat} (h : k < ps.length) : ps[k]? = some (turA ps k) := by
  rw [List.getElem?_eq_getElem h]
  simp [turA, List.getD, List.getElem?_eq_getElem h]
theorem turA_mem {ps : List Tur} {k : Nat} (h : k < ps.length) : turA ps k ∈ ps := List.mem_of_getElem? (turA_get h)
/-- one lies at q: the slice and the ints. -/
structure TurAt (w : World) (q : Addr) (u : Value) (p : Tur) : Prop where
  c0 : w.cell? q = some (.int .i64 p.plan)
  c1 : w.cell? ⟨q.block, q.off + 1, none⟩ = some (.int .i64 p.sec)
  c2 : w.cell? ⟨q.block, q.off + 2, none⟩ = some u
theorem TurAt.keep {w w' : World} {q : Addr} {u : Value} {p : Tur} (h : TurAt w q u p) (e : w'.heap[q.block]? = w.heap[q.block]?) : TurAt w' q u p :=
  ⟨(World.cell?_of_block e).trans h.c0, (World.cell?_of_block (a := ⟨q.block, q.off + 1, none⟩) e).trans h.c1, (World.cell?_of_block (a := ⟨q.block, q.off + 2, none⟩) e).trans h.c2⟩
theorem TurAt.below {w w' : World} {q : Addr} {u : Value} {p : Tur} {B : Nat} (h : TurAt w q u p) (hb : Below B w w') (hB : q.block < B) : TurAt w' q u p := h.keep (hb.block _ hB)
/-- A slice value that holds these, all in blocks below B. -/
def TursAt (w : World) (B : Nat) (A : Option Addr) (n : Nat) (ps : List Tur) : Prop :=
  ps.length = n ∧ (0 < n → ∃ ad, A = some ad ∧ ad.block < B ∧ ∀ j, j < n → ∃ A' m c, TurAt w (ad.add (j * 3)) (.slice A' m c) (turA ps j) ∧ IntsAt .i64 w B A' m (turA ps j).votes ∧ (m ≤ c ∧ c ≤ maxLen) ∧ (A' = none → m = 0 ∧ c = 0))
theorem TursAt.at {w : World} {B : Nat} {A : Option Addr} {n : Nat} {ps : List Tur} (h : TursAt w B A n ps) {j : Nat} (hj : j < n) :
    ∃ ad A' m c, A = some ad ∧ (ad.add (j * 3)).block < B ∧ TurAt w (ad.add (j * 3)) (.slice A' m c) (turA ps j) ∧ IntsAt .i64 w B A' m (turA ps j).votes ∧ (m ≤ c ∧ c ≤ maxLen) ∧ (A' = none → m = 0 ∧ c = 0) := by
  obtain ⟨ad, e, hb, hc⟩ := h.2 (by omega)
  obtain ⟨A', m, c, h1⟩ := hc j hj
  exact ⟨ad, A', m, c, e, by rw [add_block]; exact hb, h1⟩
theorem TursAt.keep {w w' : World} {B : Nat} {A : Option Addr} {n : Nat} {ps : List Tur} (h : TursAt w B A n ps) (hb : Below B w w') : TursAt w' B A n ps := by
  refine ⟨h.1, fun h0 => ?_⟩
  obtain ⟨ad, e, hB, hc⟩ := h.2 h0
  refine ⟨ad, e, hB, fun j hj => ?_⟩
  obtain ⟨A', m, c, h1, h2, h3, h4⟩ := hc j hj
  exact ⟨A', m, c, h1.below hb (by rw [add_block]; exact hB), h2.keep (fun p hp => hb.cell hp), h3, h4⟩
theorem TursAt.below {w w' : World} {B : Nat} {A : Option Addr} {n : Nat} {ps : List Tur} (h : TursAt w B A n ps) (hB : B ≤ w.heap.size) (hb : Below w.heap.size w w') : TursAt w' B A n ps := h.keep (hb.mono hB)
theorem TursAt.up {w : World} {B B' : Nat} {A : Option Addr} {n : Nat} {ps : List Tur} (h : TursAt w B A n ps) (hB : B ≤ B') : TursAt w B' A n ps := by
  refine ⟨h.1, fun h0 => ?_⟩
  obtain ⟨ad, e, hb, hc⟩ := h.2 h0
  refine ⟨ad, e, by omega, fun j hj => ?_⟩
  obtain ⟨A', m, c, h1, h2, h3, h4⟩ := hc j hj
  exact ⟨A', m, c, h1, h2.up hB, h3, h4⟩
/-- the cells of a row. -/
def turrow (xs : List (Value × Tur)) : List Value := xs.flatMap fun x => [.int .i64 x.2.plan, .int .i64 x.2.sec, x.1]
theorem turrow_length (xs : List (Value × Tur)) : (turrow xs).length = xs.length * 3 := flat_length (f := fun x : Value × Tur => [.int .i64 x.2.plan, .int .i64 x.2.sec, x.1]) (fun _ => rfl) xs
theorem turrow_at0 {xs : List (Value × Tur)} {j : Nat} {x : Value × Tur} (h : xs[j]? = some x) : (turrow xs)[j * 3]? = some (.int .i64 x.2.plan) := by
  exact flat_get (f := fun x : Value × Tur => [.int .i64 x.2.plan, .int .i64 x.2.sec, x.1]) (s := 3) (fun _ => rfl) xs j 0 x h (by decide)
theorem turrow_at1 {xs : List (Value × Tur)} {j : Nat} {x : Value × Tur} (h : xs[j]? = some x) : (turrow xs)[j * 3 + 1]? = some (.int .i64 x.2.sec) := by
  exact flat_get (f := fun x : Value × Tur => [.int .i64 x.2.plan, .int .i64 x.2.sec, x.1]) (s := 3) (fun _ => rfl) xs j 1 x h (by decide)
theorem turrow_at2 {xs : List (Value × Tur)} {j : Nat} {x : Value × Tur} (h : xs[j]? = some x) : (turrow xs)[j * 3 + 2]? = some x.1 := by
  exact flat_get (f := fun x : Value × Tur => [.int .i64 x.2.plan, .int .i64 x.2.sec, x.1]) (s := 3) (fun _ => rfl) xs j 2 x h (by decide)
theorem turrow_append (xs ys : List (Value × Tur)) : turrow (xs ++ ys) = turrow xs ++ turrow ys := by simp [turrow]
theorem turrow_next (xs : List (Value × Tur)) (n : Nat) (z x : Value × Tur) (h : xs.length < n) :
    ((((turrow xs ++ turrow (List.replicate (n - xs.length) z)).set (xs.length * 3) (.int .i64 x.2.plan)).set (xs.length * 3 + 1) (.int .i64 x.2.sec)).set (xs.length * 3 + 2) x.1) = turrow (xs ++ [x]) ++ turrow (List.replicate (n - (xs ++ [x]).length) z) := by
  obtain ⟨m, hm⟩ : ∃ m, n - xs.length = m + 1 := ⟨n - xs.length - 1, by omega⟩
  have e2 : n - (xs ++ [x]).length = m := by rw [List.length_append, List.length_singleton]; omega
  rw [e2, hm, List.replicate_succ]
  have e3 : turrow (z :: List.replicate m z) = .int .i64 z.2.plan :: .int .i64 z.2.sec :: z.1 :: turrow (List.replicate m z) := rfl
  rw [e3, set3 (turrow_length xs), turrow_append]
  simp [turrow]
theorem made_tur (n : Nat) : (madeCells (Value.agg #[Value.int .i64 0, Value.int .i64 0, Value.slice none 0 0]).cells (n * 3)).toList = turrow (List.replicate n (Value.slice none 0 0, tur0)) := by
  have h : (Value.agg #[Value.int .i64 0, Value.int .i64 0, Value.slice none 0 0]).cells = #[Value.int .i64 0, Value.int .i64 0, Value.slice none 0 0] := rfl
  rw [h]
  apply List.ext_getElem?
  intro i
  simp only [madeCells, Array.toList_map, List.getElem?_map]
  by_cases hi : i < n * 3
  · have hx : (List.replicate n ((Value.slice none 0 0, tur0) : Value × Tur))[i / 3]? = some (Value.slice none 0 0, tur0) := by rw [List.getElem?_replicate, if_pos (by omega)]
    have h2 : i % 3 = 0 ∨ i % 3 = 1 ∨ i % 3 = 2 := by omega
    rcases h2 with h2 | h2 | h2
    · have := turrow_at0 hx
      rw [show i / 3 * 3 = i by omega] at this
      rw [this]
      simp [hi, h2, tur0]
    · have := turrow_at1 hx
      rw [show i / 3 * 3 + 1 = i by omega] at this
      rw [this]
      simp [hi, h2, tur0]
    · have := turrow_at2 hx
      rw [show i / 3 * 3 + 2 = i by omega] at this
      rw [this]
      simp [hi, h2]
  · rw [List.getElem?_eq_none (l := turrow _) (by rw [turrow_length, List.length_replicate]; omega)]
    simp [hi]
theorem law_toTurn (A : Option Addr) (n c B : Nat) (zs : List Int) (x0 : Int) (x1 : Int) (w : World) (h : IntsAt .i64 w B A n zs) (hB : B ≤ w.heap.size) (hn : n ≤ 1048576) :
    Calls Try.prog 17 #[.agg #[.int .i64 x0, .int .i64 x1, .slice A n c]] w fun e w' => ∃ a, e = .returned (.agg #[.int .i64 x0, .int .i64 x1, .slice (some a) n n]) ∧ Own .i64 3 w' w.heap.size (.slice (some a) n n) zs ∧ Below w.heap.size w w' := by
  have hi := fun w' (hb : Below w.heap.size w w') => h.laid hB hb
  have hb0 := (((Below.refl w.heap.size w).alloc (Nat.le_refl _) (.cells #[.int .i64 x0, .int .i64 x1, .slice A n c] 24)).alloc (by simp) (.cells #[.int .i64 0, .int .i64 0, .slice none 0 0] 27)).alloc (by simp; omega) (.cells #[.int .i64 x0, .int .i64 x1, .slice none 0 0] 27)
  have hs0 := hb0.size
  have HI := Lib.hid hi
  have HB0 := Lib.hid hb0
  clear hi
  go_enter Try.func17, Try.ntmps17
  go_wp2_with fail
  refine (to_i64 A n c B zs _ (HI.out _ HB0.out) (by have := HB0.out.size; omega) (by omega)).mono ?_
  rintro e w2 ⟨rfl, ho, hb2⟩
  have HB := Lib.hid (HB0.out.trans (hb2.mono hs0))
  have k0 : w2.cell? ⟨w.heap.size + 1, 0, none⟩ = some (.int .i64 0) := (hb2.cell (p := ⟨w.heap.size + 1, 0, none⟩) (by simp; try omega)).trans (by go_simp)
  have k1 : w2.cell? ⟨w.heap.size + 1, 1, none⟩ = some (.int .i64 0) := (hb2.cell (p := ⟨w.heap.size + 1, 1, none⟩) (by simp; try omega)).trans (by go_simp)
  have k2 : w2.cell? ⟨w.heap.size + 1, 2, none⟩ = some (.slice none 0 0) := (hb2.cell (p := ⟨w.heap.size + 1, 2, none⟩) (by simp; try omega)).trans (by go_simp)
  have k3 : w2.cell? ⟨w.heap.size + 1 + 1, 0, none⟩ = some (.int .i64 x0) := (hb2.cell (p := ⟨w.heap.size + 1 + 1, 0, none⟩) (by simp; try omega)).trans (by go_simp)
  have k4 : w2.cell? ⟨w.heap.size + 1 + 1, 1, none⟩ = some (.int .i64 x1) := (hb2.cell (p := ⟨w.heap.size + 1 + 1, 1, none⟩) (by simp; try omega)).trans (by go_simp)
  have k5 : w2.cell? ⟨w.heap.size + 1 + 1, 2, none⟩ = some (.slice none 0 0) := (hb2.cell (p := ⟨w.heap.size + 1 + 1, 2, none⟩) (by simp; try omega)).trans (by go_simp)
  have fa0 : w2.frozen? ⟨w.heap.size + 1, 0, none⟩ = false := (hb2.frozen (p := ⟨w.heap.size + 1, 0, none⟩) (by simp; try omega)).trans (by go_simp)
  have fa1 : w2.frozen? ⟨w.heap.size + 1, 1, none⟩ = false := (hb2.frozen (p := ⟨w.heap.size + 1, 1, none⟩) (by simp; try omega)).trans (by go_simp)
  have fa2 : w2.frozen? ⟨w.heap.size + 1, 2, none⟩ = false := (hb2.frozen (p := ⟨w.heap.size + 1, 2, none⟩) (by simp; try omega)).trans (by go_simp)
  have fb2 : w2.frozen? ⟨w.heap.size + 1 + 1, 2, none⟩ = false := (hb2.frozen (p := ⟨w.heap.size + 1 + 1, 2, none⟩) (by simp; try omega)).trans (by go_simp)
  have ho2 : Own .i64 3 w2 w.heap.size (.slice (some ⟨w.heap.size + 1 + 1 + 1, 0, none⟩) n n) zs := by
    have h2 := ho.mono hs0
    simp only [alloc_heap, Array.size_push] at h2
    exact h2
  have HO2 := Lib.hid ho2
  clear hb2 hb0 ho hs0 ho2
  go_wp2
  refine bodyPost_ret (v := .agg #[.int .i64 x0, .int .i64 x1, .slice (some ⟨w.heap.size + 1 + 1 + 1, 0, none⟩) n n]) (by rw [results_cell rfl]; go_simp; try rfl) rfl ?_
  refine ⟨_, rfl, (HO2.out.grown (only_setCell (World.grownBy.refl _ _) _ _) (fun g' e e2 => ?_)).grown (only_setCell (only_setCell (only_setCell (World.grownBy.refl _ _) _ _) _ _) _ _) (fun g' e e2 => ?_), ((((HB.out.setCell (by simp only; omega) _).setCell (by simp only; omega) _).setCell (by simp only; omega) _).setCell (by simp only; omega) _)⟩
  · have h1 : w.heap.size + 1 + 1 + 1 = g' := Option.some.inj e
    have h2 := Option.some.inj e2
    omega
  · have h1 : w.heap.size + 1 + 1 + 1 = g' := Option.some.inj e
    have h2 := Option.some.inj e2
    omega
set_option maxHeartbeats 1000000 in
theorem law_eqTurn (A : Option Addr) (n c B : Nat) (zs : List Int) (x0 : Int) (x1 : Int) (A2 : Option Addr) (n2 c2 : Nat) (w : World) (h : IntsAt .i64 w B A n zs) (h2 : IntsAt .i64 w B A2 n2 zs) (hB : B ≤ w.heap.size) (hn : n ≤ 4398046511104) :
    Calls Try.prog 19 #[.agg #[.int .i64 x0, .int .i64 x1, .slice A n c], .agg #[.int .i64 x0, .int .i64 x1, .slice A2 n2 c2]] w fun e w' => e = .returned (.bool true) ∧ Below w.heap.size w w' := by
  have hl := h.1
  have hl2 := h2.1
  have hq := fun w' (hb : Below w.heap.size w w') => eqs_i64 A n c zs A2 n2 c2 w' ((h.laid hB hb).up (by have := hb.size; omega)) ((h2.laid hB hb).up (by have := hb.size; omega)) (by omega) (by omega)
  have hb0 := ((Below.refl w.heap.size w).alloc (Nat.le_refl _) (.cells #[.int .i64 x0, .int .i64 x1, .slice A n c] 27)).alloc (by simp) (.cells #[.int .i64 x0, .int .i64 x1, .slice A2 n2 c2] 27)
  have HQ := Lib.hid hq
  have HB0 := Lib.hid hb0
  clear hq hb0 h h2
  have e0 : (x0 != x0) = false := by simp
  have g0 : (!(x0 == x0)) = false := by simp
  have e1 : (x1 != x1) = false := by simp
  have g1 : (!(x1 == x1)) = false := by simp
  go_enter Try.func19, Try.ntmps19
  go_wp2_with fail
  refine (HQ.out _ HB0.out).mono ?_
  rintro e w2 ⟨rfl, hb2⟩
  have HB := Lib.hid (HB0.out.trans (hb2.mono HB0.out.size))
  clear hb2
  go_wp2
  go_ret
  exact ⟨rfl, HB.out⟩
theorem sz1_tur (A : Option Addr) (n c : Nat) (x0 : Int) (x1 : Int) (left : Int) (w : World) (hn : n ≤ 9223372036854775807) (hl : 0 ≤ left ∧ left ≤ 1048576) :
    Calls Try.prog 15 #[.agg #[.int .i64 x0, .int .i64 x1, .slice A n c], .int .i64 left] w fun e w' => e = .returned (.int .i64 (if (n : Int) ≤ left then left - (n : Int) else -1)) ∧ Below w.heap.size w w' := by
  have HB := Lib.hid ((Below.refl w.heap.size w).alloc (Nat.le_refl _) (.cells #[.int .i64 x0, .int .i64 x1, .slice A n c] 24))
  by_cases h : (n : Int) ≤ left
  · have hz := fun x => sz_ints A n c left x hn hl
    simp only [if_pos h] at hz ⊢
    have HZ := Lib.hid hz
    clear hz
    go_enter Try.func15, Try.ntmps15
    go_wp2_with fail
    refine (HZ.out _).mono ?_
    rintro e w' ⟨rfl, rfl⟩
    go_wp2
    go_ret
    exact ⟨rfl, HB.out⟩
  · have hz := fun x => sz_ints A n c left x hn hl
    simp only [if_neg h] at hz ⊢
    have HZ := Lib.hid hz
    clear hz
    go_enter Try.func15, Try.ntmps15
    go_wp2_with fail
    refine (HZ.out _).mono ?_
    rintro e w' ⟨rfl, rfl⟩
    go_wp2
    go_ret
    exact ⟨rfl, HB.out⟩
end Go.Proofs.Ytdlcjmdkafebpaa
