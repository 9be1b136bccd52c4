/- The draws of chapter 2. -/
import Derived.Test.YtglgmikeancimaaDraw
import Derived.Test.YtglgmikeancimaaPut
namespace Go.Proofs.Ytglgmikeancimaa
open Go.RowKit
set_option linter.unusedVariables false

theorem only_push {k : IntKind} {E : TypeId} {a w0 w w' : World} {g lo : Nat} {v : Value} {zs : List Int} (h : Own k E w0 lo v zs) (ha : a.grownBy w (some g)) (hl : a.heap.size ≤ lo) (hg : w.grownBy w' v.ownBlock) : a.grownBy w' (some g) :=
  ⟨hg.os.trans ha.os, hg.tape.trans ha.tape, hg.output.trans ha.output, Nat.le_trans ha.size hg.size, fun i hi hne => (hg.block i (Nat.lt_of_lt_of_le hi ha.size) (fun e => by have := (h.block i e.symm).1; omega)).trans (ha.block i hi hne)⟩
theorem Own.nilcap'' {k : IntKind} {E : TypeId} {w : World} {lo : Nat} {A : Option Addr} {n c : Nat} {zs : List Int} (h : Own k E w lo (.slice A n c) zs) : A = none → n = 0 ∧ c = 0 := by
  rintro rfl
  rcases h.shape with ⟨e, rfl⟩ | ⟨g, cap, e, _⟩
  · injection e with e1 e2 e3; exact ⟨e2, e3⟩
  · injection e with e1; cases e1
theorem only_bare {a w : World} {g : Nat} (ha : a.grownBy w (some g)) (o : Obj) : a.grownBy (w.alloc o) (some g) := only_alloc ha o
theorem spec_l1Bytes (g n : Nat) (w : World) (h : Curs w g) (hn : n ≤ 1000000) :
    Calls Try.prog 32 #[.pointer (some ⟨g, 0, none⟩), .int .i64 (n : Int)] w fun e w' => ∃ v l, e = .returned v ∧ Own .u8 5 w' w.heap.size v l ∧ l.length = n ∧ (∀ z ∈ l, 0 ≤ z ∧ z ≤ 255) ∧ Curs w' g ∧ w.grownBy w' (some g) := by
  have hgl := h.lt
  go_enter Try.func32, Try.ntmps32
  go_wp2
  go_loopw [5, 6] (fun v i wr => ∃ l : List Int, i = .int .i64 (l.length : Int) ∧ l.length ≤ n ∧ (∀ z ∈ l, 0 ≤ z ∧ z ≤ 255) ∧ Own .u8 5 wr w.heap.size v l ∧ Curs wr g ∧ w.grownBy wr (some g)) (fun _ i _ => n - (intOf i).toNat)
  case atStart => exact ⟨[], rfl, Nat.zero_le _, by simp, own_bare _ _ w, h.alloc _, only_bare (World.grownBy.refl _ _) _⟩
  case round =>
    obtain ⟨l, rfl, hl, hby, hown, hcu, hbl⟩ := hrel
    have hsz := hbl.size
    by_cases hlt : l.length < n
    · go_wp2_with fail
      refine (spec_l1Byte' g _ hcu).mono ?_
      rintro e w1 ⟨x, hx, rfl, hc1, hg1⟩
      have hown1 := hown.grown hg1 (fun g' e' => by have := (hown.block g' e').1; intro e; injection e with e; omega)
      have hbl1 := only_trans hbl hg1
      have hs1 := hbl1.size
      have HBY := Lib.hid hby
      clear hown hcu hbl hg1 hby
      go_wp2_with (at_builtin; refine wpList_app1 rfl _ _ 22 rfl .u8 5 1 Try.underlying22 info_u8 w.heap.size _ l rfl hown1 (by decide) (by omega) _ _ _ w1.heap.size hs1 rfl (by simp) ?_; intro v2 w2 hown2 hgrow2 hat2)
      have hbl2 := only_push hown1 (only_bare hbl1 _) (Nat.le_refl _) hgrow2
      have hc2 := (hc1.alloc (.cells #[.int .u8 (x : Int)] 5)).below (Below.grown (Below.refl (g + 1) _) hgrow2 (by simp <;> omega) (fun k hk => by have := (hown1.block k hk).1; omega))
      clear hgrow2 hat2 hown1 hbl1
      go_roundw
      case rel => exact ⟨l ++ [(x : Int)], by simp, by rw [List.length_append]; exact hlt, by intro z hz; rcases List.mem_append.1 hz with hz | hz; exact HBY.out z hz; rw [List.mem_singleton] at hz; omega, hown2, hc2, hbl2⟩
      case measure => simp [intOf]; omega
    · go_wp2
      go_ret
      exact ⟨_, l, rfl, hown, by omega, hby, hcu, hbl⟩
end Go.Proofs.Ytglgmikeancimaa
