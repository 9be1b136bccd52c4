/- Chapters 35 to 38: CountKind: program and model (written by countf.py). -/
import Derived.Test.YtdgpodopkfnpeaaInts
import Derived.Test.YtdgpodopkfnpeaaFlat
import Derived.Test.YtdgpodopkfnpeaaPths
namespace Go.Proofs.Ytdgpodopkfnpeaa
open Go.RowKit
set_option linter.unusedVariables false

def cntCountKind (zs : List Pth) (t : Int) : Int := ((zs.countP (fun x : Pth => x.kind == t) : Nat) : Int)
theorem impl_CountKind1 (g : Nat) (t : Int) (p : Pth) (w : World) (hc : w.cell? ⟨g, 0, none⟩ = some (.int .i64 t)) (hg : g < w.heap.size) :
    Calls Try.prog 70 #[p.val, .pointer (some ⟨g, 0, none⟩)] w fun e w' => e = .returned (.bool (p.kind == t)) ∧ Below w.heap.size w w' := by
  obtain ⟨a, b, c, d⟩ := p
  simp only [Pth.val] at *
  have hb0 := (Below.refl w.heap.size w).alloc (Nat.le_refl _) (.cells #[.int .i64 a, .int .i64 b, .int .i64 c, .int .i64 d] 86)
  have hcell := (hb0.cell (p := ⟨g, 0, none⟩) hg).trans hc
  have HB0 := Lib.hid hb0
  clear hb0 hc
  go_enter Try.func70, Try.ntmps70
  go_wp2
  go_ret
  exact ⟨rfl, HB0.out⟩
set_option maxHeartbeats 1000000 in
set_option maxRecDepth 100000 in
theorem cntOf_CountKind (g : Nat) (t : Int) (A : Option Addr) (n c B : Nat) (zs : List Pth) (w : World) (hc : w.cell? ⟨g, 0, none⟩ = some (.int .i64 t)) (hg : g < w.heap.size) (h : PthsAt w B A n zs) (hB : B ≤ w.heap.size) (hn : n ≤ 4294967296) :
    Calls Try.prog 69 #[.slice A n c, .func (.func 70) #[] #[.pointer (some ⟨g, 0, none⟩)]] w fun e w' => e = .returned (.int .i64 (cntCountKind zs t)) ∧ Below w.heap.size w w' := by
  unfold cntCountKind
  have HL := Lib.hid h.1
  go_enter Try.func69, Try.ntmps69
  go_wp2
  go_loopw [5, 10] (fun x i wr => ∃ k : Nat, k ≤ n ∧ i = .int .i64 k ∧ x = .int .i64 (((zs.take k).countP (fun x : Pth => x.kind == t) : Nat) : Int) ∧ Below w.heap.size w wr) (fun _ i _ => n - (intOf i).toNat)
  case atStart => exact ⟨0, Nat.zero_le _, rfl, by simp, Below.refl _ _⟩
  case round =>
    obtain ⟨k, hk, rfl, rfl, hbl⟩ := hrel
    have hsz := hbl.size
    have hle := List.countP_le_length (p := fun x : Pth => x.kind == t) (l := zs.take k)
    rw [List.length_take] at hle
    by_cases hlt : k < n
    · obtain ⟨ad, p, rfl, hab, hp, hq⟩ := h.at hlt
      obtain ⟨c0, c1, c2, c3⟩ := hq.below hbl (by omega)
      have hcw := (hbl.cell (p := ⟨g, 0, none⟩) hg).trans hc
      have HS : Hid ((zs.take (k + 1)).countP (fun x : Pth => x.kind == t) = (zs.take k).countP (fun x : Pth => x.kind == t) + if (p.kind == t) then 1 else 0) := Lib.hid (by rw [List.take_add_one, hp, List.countP_append]; simp [List.countP_cons])
      have hv : p.val = .agg #[.int .i64 p.id, .int .i64 p.kind, .int .i64 p.frm, .int .i64 p.to] := rfl
      have hcc := fun x (hx : Below wr.heap.size wr x) => impl_CountKind1 g t p x ((hx.cell (p := ⟨g, 0, none⟩) (by simp only; omega)).trans hcw) (by have := hx.size; omega)
      simp only [hv] at hcc
      have HB := Lib.hid hbl
      clear hq hbl hv hp hcw
      generalize (zs.take k).countP (fun x : Pth => x.kind == t) = m at *
      go_wp2_with fail
      refine (hcc _ ((Below.refl _ _).alloc (Nat.le_refl _) _)).mono ?_
      rintro e w1 ⟨rfl, hb⟩
      have HB1 := Lib.hid (HB.out.trans ((((Below.refl wr.heap.size wr).alloc (Nat.le_refl _) _).trans (hb.mono (by simp))).mono HB.out.size))
      clear hb hcc c0 c1 c2 c3
      generalize (p.kind == t) = v at HS ⊢
      cases v
      · go_wp2
        go_roundw
        case rel => exact ⟨k + 1, by omega, by go_num, by rw [HS.out]; go_num, HB1.out⟩
        case measure => simp [intOf]; omega
      · go_wp2
        go_roundw
        case rel => exact ⟨k + 1, by omega, by go_num, by rw [HS.out]; go_num, HB1.out⟩
        case measure => simp [intOf]; omega
    · obtain rfl : k = n := by omega
      have HR : Hid ((zs.take k).countP (fun x : Pth => x.kind == t) = zs.countP (fun x : Pth => x.kind == t)) := Lib.hid (by rw [List.take_of_length_le (by have := HL.out; omega)])
      go_wp2
      go_ret
      exact ⟨by rw [HR.out]; rfl, hbl⟩
theorem impl_CountKind (A : Option Addr) (n c B : Nat) (zs : List Pth) (t : Int) (w : World) (h : PthsAt w B A n zs) (hB : B ≤ w.heap.size) (hn : n ≤ 4294967296) :
    Calls Try.prog 20 #[.slice A n c, .int .i64 t] w fun e w' => e = .returned (.int .i64 (cntCountKind zs t)) ∧ Below w.heap.size w w' := by
  obtain ⟨wA, hwA⟩ : ∃ wA, wA = w.alloc (.cells #[.int .i64 t] 3) := ⟨_, rfl⟩
  obtain ⟨hk, hsz, hBl⟩ := one_block hwA
  have hcell : wA.cell? ⟨w.heap.size, 0, none⟩ = some (.int .i64 t) := by rw [cell_of_row wA _ 0 _ _ _ hk]; rfl
  have hcc := cntOf_CountKind w.heap.size t A n c B zs wA hcell (by omega) (h.below (hBl.mono hB)) (by omega) hn
  have HBl := Lib.hid hBl
  clear hk hsz hBl hcell
  go_enter Try.func20, Try.ntmps20
  go_wp2_with fail
  rw [← hwA]
  refine hcc.mono ?_
  rintro e w1 ⟨rfl, hb1⟩
  clear hwA
  go_wp2
  go_ret
  exact ⟨rfl, HBl.out.trans (hb1.mono HBl.out.size)⟩
set_option maxHeartbeats 1000000 in
set_option maxRecDepth 100000 in
theorem spec_CountKind (A : Option Addr) (n c B : Nat) (zs : List Pth) (t : Int) (w : World) (h : PthsAt w B A n zs) (hB : B ≤ w.heap.size) (hn : n ≤ 4294967296) :
    Calls Try.prog 18 #[.slice A n c, .int .i64 t] w fun e w' => e = .returned (.int .i64 (cntCountKind zs t)) ∧ Below w.heap.size w w' := by
  unfold cntCountKind
  have HL := Lib.hid h.1
  go_enter Try.func18, Try.ntmps18
  go_wp2
  go_loopw [5, 6] (fun x i wr => ∃ k : Nat, k ≤ n ∧ i = .int .i64 k ∧ x = .int .i64 (((zs.take k).countP (fun x : Pth => x.kind == t) : Nat) : Int) ∧ Below w.heap.size w wr) (fun _ i _ => n - (intOf i).toNat)
  case atStart => exact ⟨0, Nat.zero_le _, rfl, by simp, Below.refl _ _⟩
  case round =>
    obtain ⟨k, hk, rfl, rfl, hbl⟩ := hrel
    have hsz := hbl.size
    have hle := List.countP_le_length (p := fun x : Pth => x.kind == t) (l := zs.take k)
    rw [List.length_take] at hle
    by_cases hlt : k < n
    · obtain ⟨ad, p, rfl, hab, hp, hq⟩ := h.at hlt
      obtain ⟨c0, c1, c2, c3⟩ := hq.below hbl (by omega)
      have HS : Hid ((zs.take (k + 1)).countP (fun x : Pth => x.kind == t) = (zs.take k).countP (fun x : Pth => x.kind == t) + if (p.kind == t) then 1 else 0) := Lib.hid (by rw [List.take_add_one, hp, List.countP_append]; simp [List.countP_cons])
      have HB := Lib.hid hbl
      have i1 : (0 : Int) ≤ (k : Int) := by omega
      have i2 : (k : Int) < (n : Int) := by omega
      clear hq hbl hp
      generalize (zs.take k).countP (fun x : Pth => x.kind == t) = m at *
      generalize p.kind = y at *
      by_cases he : y = t
      · subst he
        have HS2 := HS.out
        rw [if_pos (by simp)] at HS2
        have HS := Lib.hid HS2
        clear HS2
        go_wp2
        go_roundw
        case rel => exact ⟨k + 1, by omega, by go_num, by rw [HS.out]; go_num, HB.out⟩
        case measure => simp [intOf]; omega
      · have e0 : (y == t) = false := by simpa using he
        have HS2 := HS.out
        rw [if_neg (by simpa using he)] at HS2
        have HS := Lib.hid HS2
        clear HS2
        go_wp2
        go_roundw
        case rel => exact ⟨k + 1, by omega, by go_num, by rw [HS.out]; go_num, HB.out⟩
        case measure => simp [intOf]; omega
    · obtain rfl : k = n := by omega
      have HR : Hid ((zs.take k).countP (fun x : Pth => x.kind == t) = zs.countP (fun x : Pth => x.kind == t)) := Lib.hid (by rw [List.take_of_length_le (by have := HL.out; omega)])
      go_wp2
      go_ret
      exact ⟨by rw [HR.out]; rfl, hbl⟩
end Go.Proofs.Ytdgpodopkfnpeaa
