/- Rows of Event that were marked, found again (written by gentype.py). -/
import Derived.Test.YtdgpodopkfnpeaaEvt
namespace Go.Proofs.Ytdgpodopkfnpeaa
open Go.RowKit
set_option linter.unusedVariables false

def evtmk (s k : Nat) : Evt := ⟨((s : Int) + (k : Int) * 4), ((s : Int) + (k : Int) * 4 + 1), ((s : Int) + (k : Int) * 4 + 1 + 1), (((s : Int) + (k : Int) * 4 + 1 + 1 + 1).tmod 3 == 0)⟩
def evtmks (s n : Nat) : List Evt := (List.range n).map (evtmk s)
theorem evtmks_length (s n : Nat) : (evtmks s n).length = n := by simp [evtmks]
theorem evtmks_get {s n k : Nat} (h : k < n) : (evtmks s n)[k]? = some ⟨((s : Int) + (k : Int) * 4), ((s : Int) + (k : Int) * 4 + 1), ((s : Int) + (k : Int) * 4 + 1 + 1), (((s : Int) + (k : Int) * 4 + 1 + 1 + 1).tmod 3 == 0)⟩ := by
  unfold evtmks
  rw [List.getElem?_map, List.getElem?_range h]
  rfl
set_option maxHeartbeats 1000000 in
theorem law_markdEventS (A : Option Addr) (n c lo s : Nat) (vs : List Value) (w : World) (h : w.ownsRow lo 100 4 (.slice A n c) n vs) (hvs : vs.length = n * 4) (hn : n ≤ 4294967296) (hs : s ≤ 70368744177664) :
    Calls Try.prog 59 #[.slice A n c, .int .i64 s] w fun e w' => e = .returned (.int .i64 ((s + n * 4 : Nat) : Int)) ∧ w'.ownsRow lo 100 4 (.slice A n c) n (evtcells (evtmks s n)) ∧ w.grownBy w' (Value.ownBlock (.slice A n c)) := by
  have HV := Lib.hid hvs
  clear hvs
  go_enter Try.func59, Try.ntmps59
  go_wp2
  go_loopw [1, 5] (fun x i wr => ∃ k : Nat, k ≤ n ∧ i = .int .i64 k ∧ x = .int .i64 ((s + k * 4 : Nat) : Int) ∧ wr.ownsRow lo 100 4 (.slice A n c) n (evtcells ((evtmks s n).take k) ++ vs.drop (k * 4)) ∧ w.grownBy wr (Value.ownBlock (.slice A n c))) (fun _ i _ => n - (intOf i).toNat)
  case atStart => exact ⟨0, Nat.zero_le _, rfl, by simp, by simpa [evtcells] using h, World.grownBy.refl _ _⟩
  case round =>
    obtain ⟨k, hk, rfl, rfl, hown, hbl⟩ := hrel
    by_cases hlt : k < n
    · rcases ownr_shape hown with ⟨e, he⟩ | ⟨g, cap, e, hg, hgs, _⟩
      · omega
      injection e with e1 _ e3
      obtain rfl := e1
      obtain ⟨x0, hx0⟩ := ownr_some hown (j := k * 4) (by omega)
      obtain ⟨x1, hx1⟩ := ownr_some hown (j := k * 4 + 1) (by omega)
      obtain ⟨x2, hx2⟩ := ownr_some hown (j := k * 4 + 2) (by omega)
      obtain ⟨x3, hx3⟩ := ownr_some hown (j := k * 4 + 3) (by omega)
      have f0 := World.ownsRow.frozenAt hown
      have hst := (World.ownsRow.stored (World.ownsRow.stored (World.ownsRow.stored (World.ownsRow.stored hown (k * 4) (.int .i64 ((s : Int) + (k : Int) * 4))).1 (k * 4 + 1) (.int .i64 ((s : Int) + (k : Int) * 4 + 1))).1 (k * 4 + 2) (.int .i64 ((s : Int) + (k : Int) * 4 + 1 + 1))).1 (k * 4 + 3) (.bool (((s : Int) + (k : Int) * 4 + 1 + 1 + 1).tmod 3 == 0))).1
      have hput := evtcells_put (zs := vs) (evtmks_get (s := s) hlt) (by rw [HV.out]; omega)
      simp only at hput
      rw [hput] at hst
      clear hput
      have HS := Lib.hid hst
      have HG := Lib.hid hbl
      clear hown hbl hst
      go_wp2
      go_roundw
      case rel => exact ⟨k + 1, by omega, by go_num, by go_num, HS.out, (only_setCell (only_setCell (only_setCell (only_setCell HG.out _ _) _ _) _ _) _ _)⟩
      case measure => simp [intOf]; omega
    · obtain rfl : k = n := by omega
      have HO : Hid (wr.ownsRow lo 100 4 (.slice A k c) k (evtcells (evtmks s k))) := Lib.hid (by rw [List.take_of_length_le (by rw [evtmks_length]; exact Nat.le_refl _), List.drop_of_length_le (by rw [HV.out]; exact Nat.le_refl _), List.append_nil] at hown; exact hown)
      clear hown
      go_wp2
      go_ret
      exact ⟨rfl, HO.out, hbl⟩
theorem markd_evt (A : Option Addr) (n c lo hi s : Nat) (ps : List Evt) (w : World) (h : OwEvt 100 w lo hi (.slice A n c) ps) (hn : n ≤ 1048576) (hs : s ≤ 70368744177664) :
    Calls Try.prog 59 #[.slice A n c, .int .i64 s] w fun e w' => e = .returned (.int .i64 ((s + n * 4 : Nat) : Int)) ∧ OwEvt 100 w' lo hi (.slice A n c) (evtmks s n) ∧ Part lo hi w w' := by
  have hl := ownr_len h.own
  refine (law_markdEventS A n c lo s (evtcells ps) w (by have h2 := h.own; rw [← hl] at h2; exact h2) (by rw [evtcells_length, hl]) (by omega) hs).mono fun e w' ⟨he, ho, hg⟩ => ⟨he, ⟨by rw [evtmks_length]; exact ho, h.lt, Nat.le_trans h.top hg.size⟩, ⟨hg.os, hg.tape, hg.output, hg.size, fun i hi' hd => hg.block i hi' fun e => ?_⟩⟩
  have h1 := h.lt i e.symm
  have h2 := (ownr_block h.own i e.symm).1
  omega
set_option maxHeartbeats 1000000 in
theorem held_evt (A : Option Addr) (n c B s : Nat) (w : World) (h : EvtsAt w B A n (evtmks s n)) (hB : B ≤ w.heap.size) (hn : n ≤ 1048576) (hs : s ≤ 70368744177664) :
    Calls Try.prog 60 #[.slice A n c, .int .i64 s] w fun e w' => e = .returned (.int .i64 ((s + n * 4 : Nat) : Int)) ∧ Below w.heap.size w w' := by
  go_enter Try.func60, Try.ntmps60
  go_wp2
  go_loopw [1, 5] (fun x i wr => ∃ k : Nat, k ≤ n ∧ i = .int .i64 k ∧ x = .int .i64 ((s + k * 4 : Nat) : Int) ∧ Below w.heap.size w wr) (fun _ i _ => n - (intOf i).toNat)
  case atStart => exact ⟨0, Nat.zero_le _, rfl, by simp, Below.refl _ _⟩
  case round =>
    obtain ⟨k, hk, rfl, rfl, hbl⟩ := hrel
    by_cases hlt : k < n
    · obtain ⟨ad, p, rfl, hab, hp, hq⟩ := h.at hlt
      rw [evtmks_get hlt] at hp
      injection hp with hp
      subst hp
      obtain ⟨c0, c1, c2, c3⟩ := hq.below hbl (by omega)
      simp only at c0 c1 c2 c3
      have i1 : (0 : Int) ≤ (k : Int) := by omega
      have i2 : (k : Int) < (n : Int) := by omega
      clear hq
      have HB := Lib.hid hbl
      clear hbl
      go_wp2
      go_roundw
      case rel => exact ⟨k + 1, by omega, by go_num, by go_num, HB.out⟩
      case measure => simp [intOf]; omega
    · obtain rfl : k = n := by omega
      go_wp2
      go_ret
      exact ⟨rfl, hbl⟩
end Go.Proofs.Ytdgpodopkfnpeaa
