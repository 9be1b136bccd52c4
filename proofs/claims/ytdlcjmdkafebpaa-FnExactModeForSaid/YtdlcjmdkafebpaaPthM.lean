/- Rows of paths as a law's walk knows them. -/
import Derived.Test.YtdlcjmdkafebpaaPths
namespace Go.Proofs.Ytdlcjmdkafebpaa
open Go.RowKit
set_option linter.unusedVariables false

/-- a slice of paths that may be read. -/
structure SlP (w : World) (A : Option Addr) (n c : Nat) (ps : List Pth) : Prop where
  pths : PthsAt w w.heap.size A n ps
  bare : A = none → n = 0 ∧ c = 0
  small : n ≤ 4294967296
  cap : n ≤ c ∧ c ≤ maxLen
  wf : ∀ p ∈ ps, p.wf
theorem SlP.len {w : World} {A : Option Addr} {n c : Nat} {ps : List Pth} (h : SlP w A n c ps) : ps.length = n := h.pths.1
theorem SlP.below {w w' : World} {A : Option Addr} {n c : Nat} {ps : List Pth} (h : SlP w A n c ps) (hb : Below w.heap.size w w') : SlP w' A n c ps :=
  ⟨(h.pths.below hb).up hb.size, h.bare, h.small, h.cap, h.wf⟩
/-- a row of paths of the call's own, between two block numbers. -/
structure OwP (E : TypeId) (w : World) (lo hi : Nat) (v : Value) (ps : List Pth) : Prop where
  own : w.ownsRow lo E 4 v ps.length (pcells ps)
  lt : ∀ g, v.ownBlock = some g → g < hi
  top : hi ≤ w.heap.size
theorem OwP.new {E : TypeId} {w : World} {lo : Nat} {v : Value} {ps : List Pth} (h : w.ownsRow lo E 4 v ps.length (pcells ps)) : OwP E w lo w.heap.size v ps := ⟨h, fun g e => (ownr_block h g e).2, Nat.le_refl _⟩
theorem OwP.below {E : TypeId} {w w' : World} {lo hi : Nat} {v : Value} {ps : List Pth} (h : OwP E w lo hi v ps) (hb : Below w.heap.size w w') : OwP E w' lo hi v ps := ⟨ownr_below h.own hb, h.lt, Nat.le_trans h.top hb.size⟩
theorem OwP.ints {E : TypeId} {w : World} {lo hi : Nat} {A : Option Addr} {n c : Nat} {ps : List Pth} (h : OwP E w lo hi (.slice A n c) ps) : PthsAt w w.heap.size A n ps := by
  have hn := ownr_len h.own
  subst hn
  exact ⟨rfl, ownr_cells h.own⟩
theorem OwP.sl {E : TypeId} {w : World} {lo hi : Nat} {A : Option Addr} {n c : Nat} {ps : List Pth} (h : OwP E w lo hi (.slice A n c) ps) (hn : n ≤ 4294967296) (hw : ∀ p ∈ ps, p.wf) : SlP w A n c ps :=
  ⟨h.ints, ownr_nilcap h.own, hn, ownr_cap h.own, hw⟩
theorem OwP.part {E : TypeId} {w w' : World} {lo hi l h' : Nat} {v : Value} {ps : List Pth} (h : OwP E w lo hi v ps) (hp : Part l h' w w') (hd : hi ≤ l ∨ h' ≤ lo) : OwP E w' lo hi v ps := by
  refine ⟨⟨h.own.1, ?_⟩, h.lt, Nat.le_trans h.top hp.size⟩
  rcases h.own.2 with h2 | ⟨g, cap, cur, rfl, hl, hg, r⟩
  · exact .inl h2
  · have hlt := h.lt g rfl
    have htop := h.top
    exact .inr ⟨g, cap, cur, rfl, hl, (hp.block g (by omega) (by omega)).trans hg, r⟩
theorem to_pth (A : Option Addr) (n c B : Nat) (ps : List Pth) (w : World) (h : PthsAt w B A n ps) (hB : B ≤ w.heap.size) (hn : n ≤ 1048576) :
    Calls Try.prog 29 #[.slice A n c] w fun e w' => e = .returned (.slice (some ⟨w.heap.size, 0, none⟩) n n) ∧ w'.ownsRow w.heap.size 120 4 (.slice (some ⟨w.heap.size, 0, none⟩) n n) ps.length (pcells ps) ∧ Below w.heap.size w w' := by
  have hl := h.1
  refine (law_toPathS A n c B ps w h hB (by omega)).mono fun e w' ⟨h1, h2, h3⟩ => ⟨h1, ?_, h3⟩
  rw [hl]
  exact h2
theorem eqs_pth (A : Option Addr) (n c : Nat) (ps : List Pth) (A2 : Option Addr) (n2 c2 : Nat) (w : World) (h : PthsAt w w.heap.size A n ps) (h2 : PthsAt w w.heap.size A2 n2 ps) (hn : n ≤ 1048576) (hn2 : n2 ≤ 1048576) :
    Calls Try.prog 31 #[.slice A n c, .slice A2 n2 c2] w fun e w' => e = .returned (.bool true) ∧ Below w.heap.size w w' :=
  (law_eqPathS A n c _ ps A2 n2 c2 _ ps w h h2 (Nat.le_refl _) (Nat.le_refl _) (by omega) (by omega)).mono fun e w' ⟨he, hb⟩ => ⟨by rw [he, decide_eq_true rfl], hb⟩
theorem marked_pth (A : Option Addr) (n c lo hi s : Nat) (ps : List Pth) (w : World) (h : OwP 120 w lo hi (.slice A n c) ps) (hn : n ≤ 1048576) (hs : s ≤ 70368744177664) :
    Calls Try.prog 38 #[.slice A n c, .int .i64 s] w fun e w' => e = .returned (.int .i64 ((s + n * 4 : Nat) : Int)) ∧ Part lo hi w w' := by
  have hl := ownr_len h.own
  refine (law_markPathS A n c lo s (pcells ps) w (by have h2 := h.own; rw [← hl] at h2; exact h2) (by omega) hs).mono fun e w' ⟨he, hg⟩ => ⟨he, ⟨hg.os, hg.tape, hg.output, hg.size, fun i hi' hd => hg.block i hi' fun e => ?_⟩⟩
  have h1 := h.lt i e.symm
  have h2 := (ownr_block h.own i e.symm).1
  omega
theorem sz_pth (A : Option Addr) (n c : Nat) (left : Int) (w : World) (hn : n ≤ 9223372036854775807) (hl : 0 ≤ left ∧ left ≤ 1048576) :
    Calls Try.prog 27 #[.slice A n c, .int .i64 left] w fun e w' => e = .returned (.int .i64 (if (n : Int) ≤ left then left - (n : Int) else -1)) ∧ w = w' := by
  obtain ⟨l1, l2⟩ := hl
  by_cases h : (n : Int) ≤ left
  · rw [if_pos h]
    go_enter Try.func27, Try.ntmps27
    go_wp2
    go_ret
    exact ⟨rfl, rfl⟩
  · rw [if_neg h]
    go_enter Try.func27, Try.ntmps27
    go_wp2
    go_ret
    exact ⟨rfl, rfl⟩
end Go.Proofs.Ytdlcjmdkafebpaa
