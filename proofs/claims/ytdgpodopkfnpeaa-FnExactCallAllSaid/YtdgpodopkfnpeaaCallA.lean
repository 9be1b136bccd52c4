/- Chapter 35: CallAll: program and model. -/
import Derived.Test.YtdgpodopkfnpeaaInts
import Derived.Test.YtdgpodopkfnpeaaEvtM
import Derived.Test.YtdgpodopkfnpeaaPths
namespace Go.Proofs.Ytdgpodopkfnpeaa
open Go.RowKit
set_option linter.unusedVariables false

def callE (p : Pth) : Evt := ⟨1, p.id, 0, false⟩
/-- what CallAll answers. -/
def callL (zs : List Pth) : List Evt := zs.map callE
theorem callL_length (zs : List Pth) : (callL zs).length = zs.length := by simp [callL]
theorem callL_get {zs : List Pth} {k : Nat} {p : Pth} (h : zs[k]? = some p) : (callL zs)[k]? = some ⟨1, p.id, 0, false⟩ := by unfold callL; rw [List.getElem?_map, h]; rfl
theorem impl_CallAll1 (g : Nat) (A : Option Addr) (n c B k : Nat) (zs : List Pth) (p : Pth) (w : World) (hc : w.cell? ⟨g, 0, none⟩ = some (.slice A n c)) (hg : g < w.heap.size) (h : PthsAt w B A n zs) (hB : B ≤ w.heap.size) (hn : n ≤ 4294967296) (hk : k < n) (hp : zs[k]? = some p) :
    Calls Try.prog 104 #[.int .i64 k, .pointer (some ⟨g, 0, none⟩)] w fun e w' => e = .returned (.agg #[.int .i64 1, .int .i64 p.id, .int .i64 0, .bool false]) ∧ Below w.heap.size w w' := by
  obtain ⟨ad, p', rfl, hab, hp', hq⟩ := h.at hk
  rw [hp] at hp'
  injection hp' with hp'
  subst hp'
  obtain ⟨wA, hwA⟩ : ∃ wA, wA = w.alloc (.cells #[.int .i64 0, .int .i64 0, .int .i64 0, .bool false] 100) := ⟨_, rfl⟩
  obtain ⟨hk0, hsz, hBl⟩ := one_block hwA
  obtain ⟨c0, c1, c2, c3⟩ := hq.below hBl (by omega)
  have hcw := (hBl.cell (p := ⟨g, 0, none⟩) hg).trans hc
  obtain ⟨z0, z1, z2, z3⟩ := evt_head (evt_of_block (p := ⟨0, 0, 0, false⟩) hk0)
  simp only at z0 z1 z2 z3
  have fz : ∀ i, wA.frozen? ⟨w.heap.size, i, none⟩ = false := fun i => frozen_of_row _ _ i _ _ hk0
  have i1 : (0 : Int) ≤ (k : Int) := by omega
  have i2 : (k : Int) < (n : Int) := by omega
  have HB := Lib.hid hBl
  have lt0 : w.heap.size < wA.heap.size := by omega
  clear hk0 hBl hq h hp hc
  subst hwA
  go_enter Try.func104, Try.ntmps104
  go_wp2
  refine bodyPost_ret (by rw [results_cell rfl]; go_simp; try rfl) rfl ?_
  exact ⟨rfl, (Below.refl _ _).alloc (Nat.le_refl _) _⟩
set_option maxHeartbeats 1000000 in
theorem impl_listCall (g : Nat) (A : Option Addr) (n c B : Nat) (zs : List Pth) (w : World) (hc : w.cell? ⟨g, 0, none⟩ = some (.slice A n c)) (hg : g < w.heap.size) (h : PthsAt w B A n zs) (hB : B ≤ w.heap.size) (hn : n ≤ 1048576) :
    Calls Try.prog 103 #[.int .i64 n, .func (.func 104) #[] #[.pointer (some ⟨g, 0, none⟩)]] w fun e w' => ∃ v, e = .returned v ∧ w'.ownsRow w.heap.size 100 4 v n (evtcells (callL zs)) ∧ Below w.heap.size w w' := by
  have hl := h.1
  have HC := Lib.hid hc
  have HH := Lib.hid h
  clear hc h
  go_enter Try.func103, Try.ntmps103
  go_wp2_with ((with_reducible show wpList _ _ _ _ _ _); refine wpList_mkR rfl _ _ _ rfl 100 _ 4 _ Try.underlying41 info_evt (by decide) (n : Int) (n : Int) n rfl rfl rfl rfl (by omega) ?_; intro w1 hown hgrow)
  go_loopw [11] (fun i wr => ∃ k : Nat, k ≤ n ∧ i = .int .i64 k ∧ wr.ownsRow w.heap.size 100 4 (.slice (some ⟨w.heap.size, 0, none⟩) n n) n (evtcells ((callL zs).take k) ++ (evtcells (List.replicate n ⟨0, 0, 0, false⟩)).drop (k * 4)) ∧ Below w.heap.size w wr) (fun i _ => n - (intOf i).toNat)
  case atStart => exact ⟨0, Nat.zero_le _, rfl, by rw [made_evt] at hown; simpa [evtcells] using hown, below_grown hgrow⟩
  case round =>
    obtain ⟨k, hk, rfl, hown, hbl⟩ := hrel
    by_cases hlt : k < n
    · obtain ⟨p, hp⟩ : ∃ p, zs[k]? = some p := ⟨zs[k]'(by omega), List.getElem?_eq_getElem (by omega)⟩
      have hcc := impl_CallAll1 g A n c B k zs p wr ((hbl.cell (p := ⟨g, 0, none⟩) hg).trans HC.out) (by have := hbl.size; omega) (HH.out.below (hbl.mono hB)) (Nat.le_trans hB hbl.size) (by omega) hlt hp
      have i1 : (0 : Int) ≤ (k : Int) := by omega
      have i2 : (k : Int) < (n : Int) := by omega
      go_wp2_with fail
      refine hcc.mono ?_
      rintro e w2 ⟨rfl, hb2⟩
      have hown2 := ownr_below hown hb2
      obtain ⟨x0, hx0⟩ := ownr_some hown2 (j := k * 4) (by omega)
      obtain ⟨x1, hx1⟩ := ownr_some hown2 (j := k * 4 + 1) (by omega)
      obtain ⟨x2, hx2⟩ := ownr_some hown2 (j := k * 4 + 2) (by omega)
      obtain ⟨x3, hx3⟩ := ownr_some hown2 (j := k * 4 + 3) (by omega)
      have f0 := World.ownsRow.frozenAt hown2
      have hst := (World.ownsRow.stored (World.ownsRow.stored (World.ownsRow.stored (World.ownsRow.stored hown2 (k * 4) (.int .i64 1)).1 (k * 4 + 1) (.int .i64 p.id)).1 (k * 4 + 2) (.int .i64 0)).1 (k * 4 + 3) (.bool false)).1
      have hput := evtcells_put (zs := evtcells (List.replicate n ⟨0, 0, 0, false⟩)) (callL_get hp) (by rw [evtcells_length, List.length_replicate]; omega)
      simp only at hput
      rw [hput] at hst
      have HS := Lib.hid hst
      have HB := Lib.hid (hbl.trans (hb2.mono hbl.size))
      clear hown hown2 hbl hb2 hst hput hcc hp
      go_wp2
      go_roundw
      case rel => exact ⟨k + 1, by omega, by go_num, HS.out, (((HB.out.setCell (Nat.le_refl _) _).setCell (Nat.le_refl _) _).setCell (Nat.le_refl _) _).setCell (Nat.le_refl _) _⟩
      case measure => simp [intOf]; omega
    · obtain rfl : k = n := by omega
      have HO : Hid (wr.ownsRow w.heap.size 100 4 (.slice (some ⟨w.heap.size, 0, none⟩) k k) k (evtcells (callL zs))) := Lib.hid (by
        rw [List.take_of_length_le (by rw [callL_length]; omega), List.drop_of_length_le (by rw [evtcells_length, List.length_replicate]; exact Nat.le_refl _), List.append_nil] at hown
        exact hown)
      clear hown
      go_wp2
      go_ret
      exact ⟨_, rfl, HO.out, hbl⟩
theorem impl_CallAll (A : Option Addr) (n c B : Nat) (zs : List Pth) (w : World) (h : PthsAt w B A n zs) (hB : B ≤ w.heap.size) (hn : n ≤ 1048576) :
    Calls Try.prog 57 #[.slice A n c] w fun e w' => ∃ v, e = .returned v ∧ w'.ownsRow w.heap.size 100 4 v n (evtcells (callL zs)) ∧ Below w.heap.size w w' := by
  obtain ⟨wA, hwA⟩ : ∃ wA, wA = w.alloc (.cells #[.slice A n c] 27) := ⟨_, rfl⟩
  obtain ⟨hk, hsz, hBl⟩ := one_block hwA
  have hcell : wA.cell? ⟨w.heap.size, 0, none⟩ = some (.slice A n c) := by rw [cell_of_row wA _ 0 _ _ _ hk]; rfl
  have hcc := impl_listCall w.heap.size A n c B zs wA hcell (by omega) (h.below (hBl.mono hB)) (by omega) hn
  have HB := Lib.hid hBl
  clear hk hBl h
  go_enter Try.func57, Try.ntmps57
  go_wp2_with fail
  rw [← hwA]
  refine hcc.mono ?_
  rintro e w1 ⟨v, rfl, ho, hb1⟩
  have HO := Lib.hid (show w1.ownsRow w.heap.size 100 4 v n (evtcells (callL zs)) from ownr_mono ho (by omega))
  have HB1 := Lib.hid (HB.out.trans (hb1.mono (by omega)))
  clear hwA hcc ho hb1
  go_wp2
  go_ret
  exact ⟨_, rfl, HO.out, HB1.out⟩
set_option maxHeartbeats 1000000 in
theorem spec_CallAll (A : Option Addr) (n c B : Nat) (zs : List Pth) (w : World) (h : PthsAt w B A n zs) (hB : B ≤ w.heap.size) (hn : n ≤ 1048576) :
    Calls Try.prog 56 #[.slice A n c] w fun e w' => ∃ v, e = .returned v ∧ w'.ownsRow w.heap.size 100 4 v n (evtcells (callL zs)) ∧ Below w.heap.size w w' := by
  have hl := h.1
  have hrow0 : (w.alloc (.cells #[] 100)).ownsRow w.heap.size 100 4 (.slice (some ⟨w.heap.size, 0, none⟩) 0 0) 0 [] := ⟨rfl, .inr ⟨w.heap.size, 0, #[], rfl, Nat.le_refl _, heap_alloc_new w _, Nat.le_refl _, by decide, rfl, rfl⟩⟩
  have hb0 : Below w.heap.size w (w.alloc (.cells #[] 100)) := (Below.refl _ _).alloc (Nat.le_refl _) _
  go_enter Try.func56, Try.ntmps56
  go_wp2
  go_loopw [3, 4] (fun v i wr => ∃ k : Nat, k ≤ n ∧ i = .int .i64 k ∧ wr.ownsRow w.heap.size 100 4 v k (evtcells ((callL zs).take k)) ∧ Below w.heap.size w wr) (fun _ i _ => n - (intOf i).toNat)
  case atStart => exact ⟨0, Nat.zero_le _, rfl, hrow0, hb0⟩
  case round =>
    clear hrow0 hb0
    obtain ⟨k, hk, rfl, hrow, hbl⟩ := hrel
    by_cases hlt : k < n
    · obtain ⟨ad, p, rfl, hab, hp, hq⟩ := h.at hlt
      obtain ⟨c0, c1, c2, c3⟩ := hq.below hbl (by omega)
      have i1 : (0 : Int) ≤ (k : Int) := by omega
      have i2 : (k : Int) < (n : Int) := by omega
      have hsz := hbl.size
      have HT : Hid (evtcells ((callL zs).take (k + 1)) = evtcells ((callL zs).take k) ++ [.int .i64 1, .int .i64 p.id, .int .i64 0, .bool false]) := Lib.hid (evtcells_take (callL_get hp))
      have HB := Lib.hid hbl
      clear hq hp hbl
      go_wp2_with (at_builtin; refine wpList_appR1 rfl _ _ 41 rfl 100 _ 4 32 Try.underlying41 info_evt rfl (by decide) (by decide) w.heap.size _ _ _ rfl hrow (by omega) [.int .i64 1, .int .i64 p.id, .int .i64 0, .bool false] rfl (by simp [Value.oneCell']) _ _ wr.heap.size hsz rfl (by simp) ?_; intro v3 w3 hr3 hgrow3 hat3; clear hat3)
      have HP := Lib.hid (ownr_push hrow (Nat.le_refl _) (HB.out.alloc hsz _) (by simp; omega) hgrow3)
      clear hgrow3
      go_roundw
      case rel => exact ⟨k + 1, by omega, by go_num, by rw [HT.out]; exact hr3, HP.out⟩
      case measure => simp [intOf]; omega
    · obtain rfl : k = n := by omega
      have HO : Hid (wr.ownsRow w.heap.size 100 4 u3 k (evtcells (callL zs))) := Lib.hid (by
        rw [List.take_of_length_le (by rw [callL_length]; omega)] at hrow
        exact hrow)
      clear hrow
      go_wp2
      go_ret
      exact ⟨_, rfl, HO.out, hbl⟩
end Go.Proofs.Ytdgpodopkfnpeaa
