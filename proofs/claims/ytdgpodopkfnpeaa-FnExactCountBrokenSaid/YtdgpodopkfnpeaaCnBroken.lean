/- Chapters 35 to 38: CountBroken: program and model (written by countf.py). -/
import Derived.Test.YtdgpodopkfnpeaaInts
import Derived.Test.YtdgpodopkfnpeaaFlat
import Derived.Test.YtdgpodopkfnpeaaLmp
namespace Go.Proofs.Ytdgpodopkfnpeaa
open Go.RowKit
set_option linter.unusedVariables false

def cntCountBroken (zs : List Lmp) : Int := ((zs.countP (fun x : Lmp => x.broken) : Nat) : Int)
theorem impl_CountBroken1 (p : Lmp) (w : World) :
    Calls Try.prog 74 #[p.val] w fun e w' => e = .returned (.bool p.broken) ∧ Below w.heap.size w w' := by
  obtain ⟨a, b, c⟩ := p
  simp only [Lmp.val] at *
  have hb0 := (Below.refl w.heap.size w).alloc (Nat.le_refl _) (.cells #[.int .i64 a, .int .i64 b, .bool c] 93)
  have HB0 := Lib.hid hb0
  clear hb0
  go_enter Try.func74, Try.ntmps74
  go_wp2
  go_ret
  exact ⟨rfl, HB0.out⟩
set_option maxHeartbeats 1000000 in
set_option maxRecDepth 100000 in
theorem cntOf_CountBroken (A : Option Addr) (n c B : Nat) (zs : List Lmp) (w : World) (h : LmpsAt w B A n zs) (hB : B ≤ w.heap.size) (hn : n ≤ 4294967296) :
    Calls Try.prog 73 #[.slice A n c, .func (.func 74) #[] #[]] w fun e w' => e = .returned (.int .i64 (cntCountBroken zs)) ∧ Below w.heap.size w w' := by
  unfold cntCountBroken
  have HL := Lib.hid h.1
  go_enter Try.func73, Try.ntmps73
  go_wp2
  go_loopw [5, 10] (fun x i wr => ∃ k : Nat, k ≤ n ∧ i = .int .i64 k ∧ x = .int .i64 (((zs.take k).countP (fun x : Lmp => x.broken) : Nat) : Int) ∧ Below w.heap.size w wr) (fun _ i _ => n - (intOf i).toNat)
  case atStart => exact ⟨0, Nat.zero_le _, rfl, by simp, Below.refl _ _⟩
  case round =>
    obtain ⟨k, hk, rfl, rfl, hbl⟩ := hrel
    have hsz := hbl.size
    have hle := List.countP_le_length (p := fun x : Lmp => x.broken) (l := zs.take k)
    rw [List.length_take] at hle
    by_cases hlt : k < n
    · obtain ⟨ad, p, rfl, hab, hp, hq⟩ := h.at hlt
      obtain ⟨c0, c1, c2⟩ := hq.below hbl (by omega)
      have HS : Hid ((zs.take (k + 1)).countP (fun x : Lmp => x.broken) = (zs.take k).countP (fun x : Lmp => x.broken) + if p.broken then 1 else 0) := Lib.hid (by rw [List.take_add_one, hp, List.countP_append]; simp [List.countP_cons])
      have hv : p.val = .agg #[.int .i64 p.path, .int .i64 p.colour, .bool p.broken] := rfl
      have hcc := fun x (hx : Below wr.heap.size wr x) => impl_CountBroken1 p x
      simp only [hv] at hcc
      have HB := Lib.hid hbl
      clear hq hbl hv hp
      generalize (zs.take k).countP (fun x : Lmp => x.broken) = m at *
      go_wp2_with fail
      refine (hcc _ ((Below.refl _ _).alloc (Nat.le_refl _) _)).mono ?_
      rintro e w1 ⟨rfl, hb⟩
      have HB1 := Lib.hid (HB.out.trans ((((Below.refl wr.heap.size wr).alloc (Nat.le_refl _) _).trans (hb.mono (by simp))).mono HB.out.size))
      clear hb hcc c0 c1 c2
      generalize p.broken = v at HS ⊢
      cases v
      · go_wp2
        go_roundw
        case rel => exact ⟨k + 1, by omega, by go_num, by rw [HS.out]; go_num, HB1.out⟩
        case measure => simp [intOf]; omega
      · go_wp2
        go_roundw
        case rel => exact ⟨k + 1, by omega, by go_num, by rw [HS.out]; go_num, HB1.out⟩
        case measure => simp [intOf]; omega
    · obtain rfl : k = n := by omega
      have HR : Hid ((zs.take k).countP (fun x : Lmp => x.broken) = zs.countP (fun x : Lmp => x.broken)) := Lib.hid (by rw [List.take_of_length_le (by have := HL.out; omega)])
      go_wp2
      go_ret
      exact ⟨by rw [HR.out]; rfl, hbl⟩
theorem impl_CountBroken (A : Option Addr) (n c B : Nat) (zs : List Lmp) (w : World) (h : LmpsAt w B A n zs) (hB : B ≤ w.heap.size) (hn : n ≤ 4294967296) :
    Calls Try.prog 25 #[.slice A n c] w fun e w' => e = .returned (.int .i64 (cntCountBroken zs)) ∧ Below w.heap.size w w' := by
  have hcc := cntOf_CountBroken A n c B zs w h hB hn
  go_enter Try.func25, Try.ntmps25
  go_wp2_with fail
  refine hcc.mono ?_
  rintro e w1 ⟨rfl, hb1⟩
  go_wp2
  go_ret
  exact ⟨rfl, hb1⟩
set_option maxHeartbeats 1000000 in
set_option maxRecDepth 100000 in
theorem spec_CountBroken (A : Option Addr) (n c B : Nat) (zs : List Lmp) (w : World) (h : LmpsAt w B A n zs) (hB : B ≤ w.heap.size) (hn : n ≤ 4294967296) :
    Calls Try.prog 23 #[.slice A n c] w fun e w' => e = .returned (.int .i64 (cntCountBroken zs)) ∧ Below w.heap.size w w' := by
  unfold cntCountBroken
  have HL := Lib.hid h.1
  go_enter Try.func23, Try.ntmps23
  go_wp2
  go_loopw [3, 4] (fun x i wr => ∃ k : Nat, k ≤ n ∧ i = .int .i64 k ∧ x = .int .i64 (((zs.take k).countP (fun x : Lmp => x.broken) : Nat) : Int) ∧ Below w.heap.size w wr) (fun _ i _ => n - (intOf i).toNat)
  case atStart => exact ⟨0, Nat.zero_le _, rfl, by simp, Below.refl _ _⟩
  case round =>
    obtain ⟨k, hk, rfl, rfl, hbl⟩ := hrel
    have hsz := hbl.size
    have hle := List.countP_le_length (p := fun x : Lmp => x.broken) (l := zs.take k)
    rw [List.length_take] at hle
    by_cases hlt : k < n
    · obtain ⟨ad, p, rfl, hab, hp, hq⟩ := h.at hlt
      obtain ⟨c0, c1, c2⟩ := hq.below hbl (by omega)
      have HS : Hid ((zs.take (k + 1)).countP (fun x : Lmp => x.broken) = (zs.take k).countP (fun x : Lmp => x.broken) + if p.broken then 1 else 0) := Lib.hid (by rw [List.take_add_one, hp, List.countP_append]; simp [List.countP_cons])
      have HB := Lib.hid hbl
      have i1 : (0 : Int) ≤ (k : Int) := by omega
      have i2 : (k : Int) < (n : Int) := by omega
      clear hq hbl hp
      generalize (zs.take k).countP (fun x : Lmp => x.broken) = m at *
      generalize p.broken = y at *
      cases y
      · go_wp2
        go_roundw
        case rel => exact ⟨k + 1, by omega, by go_num, by rw [HS.out]; go_num, HB.out⟩
        case measure => simp [intOf]; omega
      · go_wp2
        go_roundw
        case rel => exact ⟨k + 1, by omega, by go_num, by rw [HS.out]; go_num, HB.out⟩
        case measure => simp [intOf]; omega
    · obtain rfl : k = n := by omega
      have HR : Hid ((zs.take k).countP (fun x : Lmp => x.broken) = zs.countP (fun x : Lmp => x.broken)) := Lib.hid (by rw [List.take_of_length_le (by have := HL.out; omega)])
      go_wp2
      go_ret
      exact ⟨by rw [HR.out]; rfl, hbl⟩
end Go.Proofs.Ytdgpodopkfnpeaa
