/- What a law's walk knows of the slices that are alive; the laws' helpers in these words. -/
import Derived.Test.YtmcoeafkbpeelaaHelp
namespace Go.Proofs.Ytmcoeafkbpeelaa
open Go.RowKit
set_option linter.unusedVariables false

/-- a slice that may be read: these integers, in memory that is there. -/
structure Sl (k : IntKind) (w : World) (A : Option Addr) (n c : Nat) (zs : List Int) : Prop where
  ints : IntsAt k w w.heap.size A n zs
  bare : A = none → n = 0 ∧ c = 0
  small : n ≤ 1099511627776
  cap : n ≤ c ∧ c ≤ maxLen
  wf : ∀ z ∈ zs, (Lit.int k z).wf = true
theorem Sl.len {k : IntKind} {w : World} {A : Option Addr} {n c : Nat} {zs : List Int} (h : Sl k w A n c zs) : zs.length = n := h.ints.1
theorem IntsAt.up {k : IntKind} {w : World} {B B' : Nat} {A : Option Addr} {n : Nat} {zs : List Int} (h : IntsAt k w B A n zs) (hB : B ≤ B') : IntsAt k w B' A n zs :=
  ⟨h.1, fun hn => by obtain ⟨ad, e, hb, hc⟩ := h.2 hn; exact ⟨ad, e, by omega, hc⟩⟩
theorem Sl.below {k : IntKind} {w w' : World} {A : Option Addr} {n c : Nat} {zs : List Int} (h : Sl k w A n c zs) (hb : Below w.heap.size w w') : Sl k w' A n c zs :=
  ⟨(h.ints.keep fun _ hp => hb.cell hp).up hb.size, h.bare, h.small, h.cap, h.wf⟩
theorem Sl.u8 {w : World} {A : Option Addr} {n c : Nat} {zs : List Int} (h : Sl .u8 w A n c zs) : ∀ z ∈ zs, 0 ≤ z ∧ z ≤ 255 := fun z hz => by
  have h' : (decide (IntKind.u8.min ≤ z) && decide (z ≤ IntKind.u8.max)) = true := h.wf z hz
  simp only [Bool.and_eq_true, decide_eq_true_eq] at h'
  exact h'
theorem u8_wf {z : Int} (h : 0 ≤ z ∧ z ≤ 255) : (Lit.int .u8 z).wf = true := by
  show (decide (IntKind.u8.min ≤ z) && decide (z ≤ IntKind.u8.max)) = true
  simp only [Bool.and_eq_true, decide_eq_true_eq]
  exact h
theorem i64_wf {z : Int} (h : -9223372036854775808 ≤ z ∧ z ≤ 9223372036854775807) : (Lit.int .i64 z).wf = true := by
  show (decide (IntKind.i64.min ≤ z) && decide (z ≤ IntKind.i64.max)) = true
  simp only [Bool.and_eq_true, decide_eq_true_eq]
  exact h
/-- a slice of the call's own, in a row between two block numbers. -/
structure Ow (k : IntKind) (E : TypeId) (w : World) (lo hi : Nat) (v : Value) (zs : List Int) : Prop where
  own : Own k E w lo v zs
  lt : ∀ g, v.ownBlock = some g → g < hi
  top : hi ≤ w.heap.size
theorem Ow.new {k : IntKind} {E : TypeId} {w : World} {lo : Nat} {v : Value} {zs : List Int} (h : Own k E w lo v zs) : Ow k E w lo w.heap.size v zs := ⟨h, fun g e => (h.block g e).2, Nat.le_refl _⟩
theorem Ow.below {k : IntKind} {E : TypeId} {w w' : World} {lo hi : Nat} {v : Value} {zs : List Int} (h : Ow k E w lo hi v zs) (hb : Below w.heap.size w w') : Ow k E w' lo hi v zs := ⟨h.own.below hb, h.lt, Nat.le_trans h.top hb.size⟩
theorem Ow.ints {k : IntKind} {E : TypeId} {w : World} {lo hi : Nat} {A : Option Addr} {n c : Nat} {zs : List Int} (h : Ow k E w lo hi (.slice A n c) zs) : IntsAt k w w.heap.size A n zs := h.own.ints
theorem Own.nilcap' {k : IntKind} {E : TypeId} {w : World} {lo : Nat} {A : Option Addr} {n c : Nat} {zs : List Int} (h : Own k E w lo (.slice A n c) zs) : A = none → n = 0 ∧ c = 0 := by
  rintro rfl
  rcases h.shape with ⟨e, rfl⟩ | ⟨g, cap, e, _⟩
  · injection e with e1 e2 e3; exact ⟨e2, e3⟩
  · injection e with e1; cases e1
theorem Own.cap {k : IntKind} {E : TypeId} {w : World} {lo : Nat} {A : Option Addr} {n c : Nat} {zs : List Int} (h : Own k E w lo (.slice A n c) zs) : n ≤ c ∧ c ≤ maxLen := by
  have hn := h.len
  rcases h.shape with ⟨e, rfl⟩ | ⟨g, cap, e, _, _, h1, h2⟩
  · injection e with e1 e2 e3; subst e3; subst e2; exact ⟨Nat.le_refl _, by decide⟩
  · injection e with e1 e2 e3; subst e3; exact ⟨by omega, h2⟩
theorem Ow.sl {k : IntKind} {E : TypeId} {w : World} {lo hi : Nat} {A : Option Addr} {n c : Nat} {zs : List Int} (h : Ow k E w lo hi (.slice A n c) zs) (hn : n ≤ 1099511627776) (hw : ∀ z ∈ zs, (Lit.int k z).wf = true) : Sl k w A n c zs := ⟨h.ints, h.own.nilcap', hn, h.own.cap, hw⟩
/-- Rows between two block numbers alone have been written. -/
structure Part (lo hi : Nat) (w w' : World) : Prop where
  os : w'.os = w.os
  tape : w'.tape = w.tape
  output : w'.output = w.output
  size : w.heap.size ≤ w'.heap.size
  block : ∀ i, i < w.heap.size → (i < lo ∨ hi ≤ i) → w'.heap[i]? = w.heap[i]?
theorem Part.below {lo hi : Nat} {w w' : World} (h : Part lo hi w w') {B : Nat} (hB : B ≤ lo) (hs : B ≤ w.heap.size) : Below B w w' := ⟨h.os, h.tape, h.output, h.size, fun i hi => h.block i (by omega) (.inl (by omega))⟩
theorem Ow.part {k : IntKind} {E : TypeId} {w w' : World} {lo hi l h' : Nat} {v : Value} {zs : List Int} (h : Ow k E w lo hi v zs) (hp : Part l h' w w') (hd : hi ≤ l ∨ h' ≤ lo) : Ow k E w' lo hi v zs := by
  refine ⟨⟨h.own.1, ?_⟩, h.lt, Nat.le_trans h.top hp.size⟩
  rcases h.own.2 with h2 | ⟨g, cap, cur, rfl, hl, hg, r⟩
  · exact .inl h2
  · have hlt := h.lt g rfl
    have htop := h.top
    exact .inr ⟨g, cap, cur, rfl, hl, (hp.block g (by omega) (by omega)).trans hg, r⟩
theorem marked_i64 (A : Option Addr) (n c lo hi s : Nat) (zs : List Int) (w : World) (h : Ow .i64 3 w lo hi (.slice A n c) zs) (hn : n ≤ 4398046511104) (hs : s ≤ 70368744177664) :
    Calls Try.prog 19 #[.slice A n c, .int .i64 s] w fun e w' => e = .returned (.int .i64 ((s + n : Nat) : Int)) ∧ Ow .i64 3 w' lo hi (.slice A n c) (marks .i64 s n) ∧ Part lo hi w w' := by
  refine (mark_i64 A n c lo s zs w h.own hn hs).mono fun e w' ⟨he, ho, hg⟩ => ⟨he, ⟨ho, h.lt, Nat.le_trans h.top hg.size⟩, ⟨hg.os, hg.tape, hg.output, hg.size, fun i hi' hd => hg.block i hi' fun e => ?_⟩⟩
  have h1 := h.lt i e.symm
  have h2 := (h.own.block i e.symm).1
  omega
theorem eqs_i64 (A : Option Addr) (n c : Nat) (zs : List Int) (A2 : Option Addr) (n2 c2 : Nat) (w : World) (h : IntsAt .i64 w w.heap.size A n zs) (h2 : IntsAt .i64 w w.heap.size A2 n2 zs) (hn : n ≤ 4398046511104) (hn2 : n2 ≤ 4398046511104) :
    Calls Try.prog 17 #[.slice A n c, .slice A2 n2 c2] w fun e w' => e = .returned (.bool true) ∧ Below w.heap.size w w' :=
  (eq_i64 A n c _ zs A2 n2 c2 _ zs w h h2 hn hn2).mono fun e w' ⟨he, hb⟩ => ⟨by rw [he, decide_eq_true rfl], hb⟩
end Go.Proofs.Ytmcoeafkbpeelaa
