/- Chapter 3's cipher and BytesToInts: program and model. -/
import Derived.Test.YtglgmikeancimaaDoorHash
import Derived.Deep.RegionHeld3
import Derived.Deep.DrawnRows
import Derived.Deep.AppendLies
namespace Go.Proofs.YtglgmikeancimaaDoor
open Go.RowKit
set_option linter.unusedVariables false

theorem ints_new1 (k : IntKind) (z : Int) (T : TypeId) (fr : Nat × Nat) (w : World) : IntsAt k (w.alloc (.cells #[.int k z] T fr)) (w.heap.size + 1) (some ⟨w.heap.size, 0, none⟩) 1 [z] := by
  refine ⟨rfl, fun _ => ⟨_, rfl, by simp, fun j hj => ?_⟩⟩
  obtain rfl : j = 0 := by omega
  rw [add_head, cell_of_row _ _ 0 #[.int k z] T fr (heap_alloc_new w _)]
  rfl
theorem ints_new1d (k : IntKind) (z : Int) (T : TypeId) (fr : Nat × Nat) (w : World) : IntsAt k (w.alloc (.cells #[.int k z] T fr)).drew (w.heap.size + 1) (some ⟨w.heap.size, 0, none⟩) 1 [z] := ints_new1 k z T fr w
theorem below_laid1 {w w' : World} {o : Obj} (h : Below (w.alloc o).drew.heap.size (w.alloc o).drew w') : Below w.heap.size w w' :=
  (((Below.refl _ _).alloc (Nat.le_refl _) o).drew).trans (h.mono (by show w.heap.size ≤ (w.alloc o).heap.size; simp))
theorem modI_q (v : Int) : modI v 256 = v % 256 := rfl
/-- 'append(v, x)', one number, at a step of a region that draws its order. -/
theorem step_app1 {P : Program} {w : World} {ops : Array Oper} {o : Oper} {a : Act} {K : Act → World → Prop} {Q : Exit → Act → World → Prop} {F : Prop} (hgd : o.guard = none) (s x : Operand) (t : TypeId)
    (ho : o.op = .call { callee := .builtin .append, args := #[s, x], argTypes := #[t, t] })
    (k : IntKind) (E : TypeId) (bytes : Nat) (ht : P.underlying t = some (.slice E)) (hi : (P.info? E).map (fun i => (i.zero, i.size, i.bytes)) = some (some (.int k 0), 1, bytes))
    (lo : Nat) (v : Value) (xs : List Int) (hs : a.eval s = v) (hown : Own k E w lo v xs) (hb : bytes ≤ 8) (hbytes : xs.length < 4398046511104)
    (z : Int) (H : Nat) (hlo : lo ≤ w.heap.size) (hx : a.eval x = .slice (some ⟨H, 0, none⟩) 1 1) (hc : w.cell? ⟨H, 0, none⟩ = some (.int k z))
    (h : ∀ v' w', Own k E w' lo v' (xs ++ [z]) → w.grownBy w' v.ownBlock → K (a.put o.dst v') w') :
    if Region.wanted o (yielded ops a.tmps) = true then Oper.wp P o a w K Q else F := by
  obtain ⟨i, hi1, hz, hsz, hby⟩ := info_parts hi
  refine step_append_lies w hgd s x t ho lo E i (.int k 0) 1 bytes ht hi1 hz hsz hby rfl (by omega) v xs.length _ hs hown ⟨H, 0, none⟩ 1 1 [.int k z] hx rfl ?_ (by simp [Value.oneCell']) (by omega) (by unfold maxLen; omega)
    (by have : (xs.length + 1) * bytes ≤ (xs.length + 1) * 8 := Nat.mul_le_mul_left _ hb; omega) hlo _ rfl ?_
  · intro j u hu
    match j with
    | 0 => simp at hu; subst hu; rw [add_head]; exact hc
    | j + 1 => simp at hu
  · intro g cap w' h1 h2 _ _
    refine h _ w' ?_ h2
    unfold Own
    rw [List.length_append, List.map_append]
    exact h1
theorem byte_at {zs : List Int} (h : ∀ z ∈ zs, 0 ≤ z ∧ z ≤ 255) {k : Nat} (hk : k < zs.length) : 0 ≤ zs.getD k 0 ∧ zs.getD k 0 ≤ 255 := by
  rw [List.getD_eq_getElem?_getD, List.getElem?_eq_getElem hk]
  exact h _ (List.getElem_mem _)
theorem heap_size_alloc (w : World) (o : Obj) : (w.alloc o).heap.size = w.heap.size + 1 := by simp
theorem spec_BytesToInts (A : Option Addr) (n c B : Nat) (zs : List Int) (w : World) (hb : Bytes w B A n zs) (hB : B ≤ w.heap.size) (hn : n ≤ 1099511627776) :
    Calls Tryd.prog 29 #[.slice A n c] w fun e w' => ∃ v, e = .returned v ∧ Own .i64 3 w' w.heap.size v (toNums zs) ∧ Below w.heap.size w w' := by
  obtain ⟨h, hby⟩ := hb
  have hl := h.1
  have own0 : Own .i64 3 (w.alloc (.cells #[.int .i64 (n : Int)] 3)) w.heap.size (.slice (some ⟨w.heap.size, 0, none⟩) 1 1) [(n : Int)] := own_lit w [(n : Int)] 1 (Nat.le_refl _) (by decide) rfl
  go_enter Tryd.func29, Tryd.ntmps29
  go_wp2
  go_loopw [3, 4] (fun v i wr => ∃ k : Nat, k ≤ n ∧ i = .int .i64 k ∧ Own .i64 3 wr w.heap.size v ((n : Int) :: zs.take k) ∧ Below w.heap.size w wr) (fun _ i _ => n - (intOf i).toNat)
  case atStart => exact ⟨0, Nat.zero_le _, rfl, own0, (Below.refl _ _).alloc (Nat.le_refl _) _⟩
  case round =>
    obtain ⟨k, hk, rfl, hown, hbl⟩ := hrel
    have hsz := hbl.size
    by_cases hlt : k < n
    · obtain ⟨ad, rfl, hab, hcell⟩ := h.2 (by omega)
      have hc := (hbl.cell (by rw [add_block]; omega)).trans (hcell k hlt)
      have HS : Hid (zs.take (k + 1) = zs.take k ++ [zs.getD k 0]) := Lib.hid (by rw [List.take_add_one, List.getD_eq_getElem?_getD, List.getElem?_eq_getElem (by omega)]; rfl)
      obtain ⟨z1, z2⟩ := byte_at hby (show k < zs.length by omega)
      clear hcell
      generalize zs.getD k 0 = z at *
      go_wp2_with (at_builtin; refine wpList_app1 rfl _ _ 24 rfl .i64 3 8 Tryd.underlying24 info_i64 w.heap.size _ _ rfl hown (by decide) (by simp; omega) _ _ _ wr.heap.size hsz rfl (by simp) ?_; intro v1 w1 hown1 hgrow1 hat1)
      have hb1 := hown.push (Nat.le_refl _) (hbl.alloc hsz _) (by simp; omega) hgrow1
      clear hgrow1 hat1 hown hbl
      go_roundw
      case rel => exact ⟨k + 1, by omega, by go_num, by rw [HS.out]; exact hown1, hb1⟩
      case measure => simp [intOf]; omega
    · obtain rfl : k = n := by omega
      rw [List.take_of_length_le (by omega)] at hown
      have HL : Hid (toNums zs = (k : Int) :: zs) := Lib.hid (by unfold toNums; rw [hl])
      go_wp2
      go_ret
      exact ⟨_, rfl, by rw [HL.out]; exact hown, hbl⟩
theorem impl_BytesToInts (A : Option Addr) (n c B : Nat) (zs : List Int) (w : World) (hb : Bytes w B A n zs) (hB : B ≤ w.heap.size) (hn : n ≤ 1099511627776) :
    Calls Tryd.prog 25 #[.slice A n c] w fun e w' => ∃ v, e = .returned v ∧ Own .i64 3 w' w.heap.size v (toNums zs) ∧ Below w.heap.size w w' := by
  obtain ⟨h, hby⟩ := hb
  have hl := h.1
  go_enter Tryd.func25, Tryd.ntmps25
  go_wp2_with (first
    | ((with_reducible show wpList _ _ _ _ _ _); refine wpList_mk0 rfl _ _ _ rfl .i64 3 _ Tryd.underlying24 info_i64 (by decide) ((n : Int) + 1) (n + 1) rfl rfl (by omega) (by omega) ?_; intro w1 hown1 hgrow1; have hb1 := below_grown hgrow1; have hs1 := hb1.size)
    | (at_builtin; refine wpList_app1 rfl _ _ 24 rfl .i64 3 8 Tryd.underlying24 info_i64 w.heap.size _ [] rfl hown1 (by decide) (by decide) _ _ _ w1.heap.size hs1 rfl (by simp) ?_; intro v2 w2 hown2 hgrow2 hat2; have hb2 := hown1.push (Nat.le_refl _) (hb1.alloc hs1 _) (by simp; omega) hgrow2))
  clear hgrow2 hat2 hgrow1 hown1
  go_loopw [3, 17] (fun v i wr => ∃ k : Nat, k ≤ n ∧ i = .int .i64 k ∧ Own .i64 3 wr w.heap.size v ((n : Int) :: zs.take k) ∧ Below w.heap.size w wr) (fun _ i _ => n - (intOf i).toNat)
  case atStart => exact ⟨0, Nat.zero_le _, rfl, hown2, hb2⟩
  case round =>
    obtain ⟨k, hk, rfl, hown, hbl⟩ := hrel
    have hsz := hbl.size
    by_cases hlt : k < n
    · obtain ⟨ad, rfl, hab, hcell⟩ := h.2 (by omega)
      have hc := (hbl.cell (by rw [add_block]; omega)).trans (hcell k hlt)
      have HS : Hid (zs.take (k + 1) = zs.take k ++ [zs.getD k 0]) := Lib.hid (by rw [List.take_add_one, List.getD_eq_getElem?_getD, List.getElem?_eq_getElem (by omega)]; rfl)
      obtain ⟨z1, z2⟩ := byte_at hby (show k < zs.length by omega)
      clear hcell
      generalize zs.getD k 0 = z at *
      go_wp2_with (at_builtin; refine wpList_app1 rfl _ _ 24 rfl .i64 3 8 Tryd.underlying24 info_i64 w.heap.size _ _ rfl hown (by decide) (by simp; omega) _ _ _ wr.heap.size hsz rfl (by simp) ?_; intro v1 w1 hown1 hgrow1 hat1)
      have hb1 := hown.push (Nat.le_refl _) (hbl.alloc hsz _) (by simp; omega) hgrow1
      clear hgrow1 hat1 hown hbl
      go_roundw
      case rel => exact ⟨k + 1, by omega, by go_num, by rw [HS.out]; exact hown1, hb1⟩
      case measure => simp [intOf]; omega
    · obtain rfl : k = n := by omega
      rw [List.take_of_length_le (by omega)] at hown
      have HL : Hid (toNums zs = (k : Int) :: zs) := Lib.hid (by unfold toNums; rw [hl])
      go_wp2
      go_ret
      exact ⟨_, rfl, by rw [HL.out]; exact hown, hbl⟩
end Go.Proofs.YtglgmikeancimaaDoor
