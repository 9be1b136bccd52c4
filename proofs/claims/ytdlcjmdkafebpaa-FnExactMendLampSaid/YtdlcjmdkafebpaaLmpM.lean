/- Rows of Lamp that were marked, found again (written by gentype.py). -/
import Derived.Test.YtdlcjmdkafebpaaLmp
namespace Go.Proofs.Ytdlcjmdkafebpaa
open Go.RowKit
set_option linter.unusedVariables false

def lmpmk (s k : Nat) : Lmp := ⟨((s : Int) + (k : Int) * 3), ((s : Int) + (k : Int) * 3 + 1), (((s : Int) + (k : Int) * 3 + 1 + 1).tmod 3 == 0)⟩
def lmpmks (s n : Nat) : List Lmp := (List.range n).map (lmpmk s)
theorem lmpmks_length (s n : Nat) : (lmpmks s n).length = n := by simp [lmpmks]
theorem lmpmks_get {s n k : Nat} (h : k < n) : (lmpmks s n)[k]? = some ⟨((s : Int) + (k : Int) * 3), ((s : Int) + (k : Int) * 3 + 1), (((s : Int) + (k : Int) * 3 + 1 + 1).tmod 3 == 0)⟩ := by
  unfold lmpmks
  rw [List.getElem?_map, List.getElem?_range h]
  rfl
set_option maxHeartbeats 1000000 in
theorem law_markdLampS (A : Option Addr) (n c lo s : Nat) (vs : List Value) (w : World) (h : w.ownsRow lo 108 3 (.slice A n c) n vs) (hvs : vs.length = n * 3) (hn : n ≤ 4294967296) (hs : s ≤ 70368744177664) :
    Calls Try.prog 39 #[.slice A n c, .int .i64 s] w fun e w' => e = .returned (.int .i64 ((s + n * 3 : Nat) : Int)) ∧ w'.ownsRow lo 108 3 (.slice A n c) n (lmpcells (lmpmks s n)) ∧ w.grownBy w' (Value.ownBlock (.slice A n c)) := by
  have HV := Lib.hid hvs
  clear hvs
  go_enter Try.func39, Try.ntmps39
  go_wp2
  go_loopw [1, 5] (fun x i wr => ∃ k : Nat, k ≤ n ∧ i = .int .i64 k ∧ x = .int .i64 ((s + k * 3 : Nat) : Int) ∧ wr.ownsRow lo 108 3 (.slice A n c) n (lmpcells ((lmpmks s n).take k) ++ vs.drop (k * 3)) ∧ w.grownBy wr (Value.ownBlock (.slice A n c))) (fun _ i _ => n - (intOf i).toNat)
  case atStart => exact ⟨0, Nat.zero_le _, rfl, by simp, by simpa [lmpcells] using h, World.grownBy.refl _ _⟩
  case round =>
    obtain ⟨k, hk, rfl, rfl, hown, hbl⟩ := hrel
    by_cases hlt : k < n
    · rcases ownr_shape hown with ⟨e, he⟩ | ⟨g, cap, e, hg, hgs, _⟩
      · omega
      injection e with e1 _ e3
      obtain rfl := e1
      obtain ⟨x0, hx0⟩ := ownr_some hown (j := k * 3) (by omega)
      obtain ⟨x1, hx1⟩ := ownr_some hown (j := k * 3 + 1) (by omega)
      obtain ⟨x2, hx2⟩ := ownr_some hown (j := k * 3 + 2) (by omega)
      have f0 := World.ownsRow.frozenAt hown
      have hst := (World.ownsRow.stored (World.ownsRow.stored (World.ownsRow.stored hown (k * 3) (.int .i64 ((s : Int) + (k : Int) * 3))).1 (k * 3 + 1) (.int .i64 ((s : Int) + (k : Int) * 3 + 1))).1 (k * 3 + 2) (.bool (((s : Int) + (k : Int) * 3 + 1 + 1).tmod 3 == 0))).1
      have hput := lmpcells_put (zs := vs) (lmpmks_get (s := s) hlt) (by rw [HV.out]; omega)
      simp only at hput
      rw [hput] at hst
      clear hput
      have HS := Lib.hid hst
      have HG := Lib.hid hbl
      clear hown hbl hst
      go_wp2
      go_roundw
      case rel => exact ⟨k + 1, by omega, by go_num, by go_num, HS.out, (only_setCell (only_setCell (only_setCell HG.out _ _) _ _) _ _)⟩
      case measure => simp [intOf]; omega
    · obtain rfl : k = n := by omega
      have HO : Hid (wr.ownsRow lo 108 3 (.slice A k c) k (lmpcells (lmpmks s k))) := Lib.hid (by rw [List.take_of_length_le (by rw [lmpmks_length]; exact Nat.le_refl _), List.drop_of_length_le (by rw [HV.out]; exact Nat.le_refl _), List.append_nil] at hown; exact hown)
      clear hown
      go_wp2
      go_ret
      exact ⟨rfl, HO.out, hbl⟩
theorem markd_lmp (A : Option Addr) (n c lo hi s : Nat) (ps : List Lmp) (w : World) (h : OwLmp 108 w lo hi (.slice A n c) ps) (hn : n ≤ 1048576) (hs : s ≤ 70368744177664) :
    Calls Try.prog 39 #[.slice A n c, .int .i64 s] w fun e w' => e = .returned (.int .i64 ((s + n * 3 : Nat) : Int)) ∧ OwLmp 108 w' lo hi (.slice A n c) (lmpmks s n) ∧ Part lo hi w w' := by
  have hl := ownr_len h.own
  refine (law_markdLampS A n c lo s (lmpcells ps) w (by have h2 := h.own; rw [← hl] at h2; exact h2) (by rw [lmpcells_length, hl]) (by omega) hs).mono fun e w' ⟨he, ho, hg⟩ => ⟨he, ⟨by rw [lmpmks_length]; exact ho, h.lt, Nat.le_trans h.top hg.size⟩, ⟨hg.os, hg.tape, hg.output, hg.size, fun i hi' hd => hg.block i hi' fun e => ?_⟩⟩
  have h1 := h.lt i e.symm
  have h2 := (ownr_block h.own i e.symm).1
  omega
set_option maxHeartbeats 1000000 in
theorem held_lmp (A : Option Addr) (n c B s : Nat) (w : World) (h : LmpsAt w B A n (lmpmks s n)) (hB : B ≤ w.heap.size) (hn : n ≤ 1048576) (hs : s ≤ 70368744177664) :
    Calls Try.prog 44 #[.slice A n c, .int .i64 s] w fun e w' => e = .returned (.int .i64 ((s + n * 3 : Nat) : Int)) ∧ Below w.heap.size w w' := by
  go_enter Try.func44, Try.ntmps44
  go_wp2
  go_loopw [1, 5] (fun x i wr => ∃ k : Nat, k ≤ n ∧ i = .int .i64 k ∧ x = .int .i64 ((s + k * 3 : Nat) : Int) ∧ Below w.heap.size w wr) (fun _ i _ => n - (intOf i).toNat)
  case atStart => exact ⟨0, Nat.zero_le _, rfl, by simp, Below.refl _ _⟩
  case round =>
    obtain ⟨k, hk, rfl, rfl, hbl⟩ := hrel
    by_cases hlt : k < n
    · obtain ⟨ad, p, rfl, hab, hp, hq⟩ := h.at hlt
      rw [lmpmks_get hlt] at hp
      injection hp with hp
      subst hp
      obtain ⟨c0, c1, c2⟩ := hq.below hbl (by omega)
      simp only at c0 c1 c2
      have i1 : (0 : Int) ≤ (k : Int) := by omega
      have i2 : (k : Int) < (n : Int) := by omega
      clear hq
      have HB := Lib.hid hbl
      clear hbl
      go_wp2
      go_roundw
      case rel => exact ⟨k + 1, by omega, by go_num, by go_num, HB.out⟩
      case measure => simp [intOf]; omega
    · obtain rfl : k = n := by omega
      go_wp2
      go_ret
      exact ⟨rfl, hbl⟩
end Go.Proofs.Ytdlcjmdkafebpaa
