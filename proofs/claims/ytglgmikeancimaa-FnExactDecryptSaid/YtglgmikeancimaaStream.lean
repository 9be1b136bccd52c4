/- Chapter 3's cipher and BytesToInts: program and model. -/
import Derived.Test.YtglgmikeancimaaHash
import Derived.Deep.RegionHeld3
import Derived.Deep.DrawnRows
import Derived.Deep.AppendLies
namespace Go.Proofs.Ytglgmikeancimaa
open Go.RowKit
set_option linter.unusedVariables false

theorem ints_new1 (k : IntKind) (z : Int) (T : TypeId) (fr : Nat × Nat) (w : World) : IntsAt k (w.alloc (.cells #[.int k z] T fr)) (w.heap.size + 1) (some ⟨w.heap.size, 0, none⟩) 1 [z] := by
  refine ⟨rfl, fun _ => ⟨_, rfl, by simp, fun j hj => ?_⟩⟩
  obtain rfl : j = 0 := by omega
  rw [add_head, cell_of_row _ _ 0 #[.int k z] T fr (heap_alloc_new w _)]
  rfl
theorem ints_new1d (k : IntKind) (z : Int) (T : TypeId) (fr : Nat × Nat) (w : World) : IntsAt k (w.alloc (.cells #[.int k z] T fr)).drew (w.heap.size + 1) (some ⟨w.heap.size, 0, none⟩) 1 [z] := ints_new1 k z T fr w
theorem below_laid1 {w w' : World} {o : Obj} (h : Below (w.alloc o).drew.heap.size (w.alloc o).drew w') : Below w.heap.size w w' :=
  (((Below.refl _ _).alloc (Nat.le_refl _) o).drew).trans (h.mono (by show w.heap.size ≤ (w.alloc o).heap.size; simp))
theorem modI_q (v : Int) : modI v 256 = v % 256 := rfl
/-- 'append(v, x)', one number, at a step of a region that draws its order. -/
theorem step_app1 {P : Program} {w : World} {ops : Array Oper} {o : Oper} {a : Act} {K : Act → World → Prop} {Q : Exit → Act → World → Prop} {F : Prop} (hgd : o.guard = none) (s x : Operand) (t : TypeId)
    (ho : o.op = .call { callee := .builtin .append, args := #[s, x], argTypes := #[t, t] })
    (k : IntKind) (E : TypeId) (bytes : Nat) (ht : P.underlying t = some (.slice E)) (hi : (P.info? E).map (fun i => (i.zero, i.size, i.bytes)) = some (some (.int k 0), 1, bytes))
    (lo : Nat) (v : Value) (xs : List Int) (hs : a.eval s = v) (hown : Own k E w lo v xs) (hb : bytes ≤ 8) (hbytes : xs.length < 4398046511104)
    (z : Int) (H : Nat) (hlo : lo ≤ w.heap.size) (hx : a.eval x = .slice (some ⟨H, 0, none⟩) 1 1) (hc : w.cell? ⟨H, 0, none⟩ = some (.int k z))
    (h : ∀ v' w', Own k E w' lo v' (xs ++ [z]) → w.grownBy w' v.ownBlock → K (a.put o.dst v') w') :
    if Region.wanted o (yielded ops a.tmps) = true then Oper.wp P o a w K Q else F := by
  obtain ⟨i, hi1, hz, hsz, hby⟩ := info_parts hi
  refine step_append_lies w hgd s x t ho lo E i (.int k 0) 1 bytes ht hi1 hz hsz hby rfl (by omega) v xs.length _ hs hown ⟨H, 0, none⟩ 1 1 [.int k z] hx rfl ?_ (by simp [Value.oneCell']) (by omega) (by unfold maxLen; omega)
    (by have : (xs.length + 1) * bytes ≤ (xs.length + 1) * 8 := Nat.mul_le_mul_left _ hb; omega) hlo _ rfl ?_
  · intro j u hu
    match j with
    | 0 => simp at hu; subst hu; rw [add_head]; exact hc
    | j + 1 => simp at hu
  · intro g cap w' h1 h2 _ _
    refine h _ w' ?_ h2
    unfold Own
    rw [List.length_append, List.map_append]
    exact h1
theorem byte_at {zs : List Int} (h : ∀ z ∈ zs, 0 ≤ z ∧ z ≤ 255) {k : Nat} (hk : k < zs.length) : 0 ≤ zs.getD k 0 ∧ zs.getD k 0 ≤ 255 := by
  rw [List.getD_eq_getElem?_getD, List.getElem?_eq_getElem hk]
  exact h _ (List.getElem_mem _)
theorem heap_size_alloc (w : World) (o : Obj) : (w.alloc o).heap.size = w.heap.size + 1 := by simp
/-- the two variables of a key stream: the key, the next index. -/
def Strm (w : World) (g : Nat) (a : Int) (k : Nat) : Prop := w.heap[g]? = some (.cells #[.int .i64 a] 3 (0, 0)) ∧ w.heap[g + 1]? = some (.cells #[.int .i64 (k : Int)] 3 (0, 0))
theorem Strm.lt {w : World} {g : Nat} {a : Int} {k : Nat} (h : Strm w g a k) : g + 1 < w.heap.size := by
  rcases Nat.lt_or_ge (g + 1) w.heap.size with hl | hl
  · exact hl
  · have := h.2; rw [Array.getElem?_eq_none hl] at this; cases this
theorem Strm.keep {w w' : World} {g : Nat} {a : Int} {k : Nat} (h : Strm w g a k) (e : ∀ i, i < g + 2 → w'.heap[i]? = w.heap[i]?) : Strm w' g a k := ⟨(e _ (by omega)).trans h.1, (e _ (by omega)).trans h.2⟩
theorem impl_keyStream (a : Int) (w : World) :
    Calls Try.prog 34 #[.int .i64 a] w fun e w' => e = .returned (.func (.func 41) #[] #[.pointer (some ⟨w.heap.size, 0, none⟩), .pointer (some ⟨w.heap.size + 1, 0, none⟩)]) ∧ Strm w' w.heap.size a 0 ∧ w'.heap.size = w.heap.size + 2 ∧ Below w.heap.size w w' := by
  have hmf : ∀ (fn : Fn) (first cap : Array Value) (w : World), (Instr.makeFunc fn first cap).run Try.prog w = .ok (.func fn first cap) w := fun _ _ _ _ => rfl
  go_enter Try.func34, Try.ntmps34
  go_wp2
  go_ret
  refine ⟨by simp, ?_, by simp, ((Below.refl _ _).alloc (Nat.le_refl _) _).alloc (by simp) _⟩
  have e1 := heap_alloc_new w (.cells #[.int .i64 a] 3)
  have e2 := heap_alloc_new (w.alloc (.cells #[.int .i64 a] 3)) (.cells #[.int .i64 0] 3)
  rw [heap_size_alloc] at e2
  exact ⟨(Below.heap_alloc _ _ _ (by rw [heap_size_alloc]; omega)).trans e1, e2⟩
theorem stream_next (g : Nat) (a : Int) (k : Nat) (w : World) (h : Strm w g a k) (hk : k < 1152921504606846976) :
    Calls Try.prog 41 #[.pointer (some ⟨g, 0, none⟩), .pointer (some ⟨g + 1, 0, none⟩)] w fun e w' => e = .returned (.int .u8 (kstream a k)) ∧ Strm w' g a (k + 1) ∧ w.grownBy w' (some (g + 1)) := by
  have hlt := h.lt
  obtain ⟨h0, h1⟩ := h
  have c0 : w.cell? ⟨g, 0, none⟩ = some (.int .i64 a) := by simp [World.cell?, h0]
  have c1 : w.cell? ⟨g + 1, 0, none⟩ = some (.int .i64 (k : Int)) := by simp [World.cell?, h1]
  have f1 : w.frozen? ⟨g + 1, 0, none⟩ = false := by simp [World.frozen?, h1]
  obtain ⟨g1, g2⟩ := khash_range a [(k : Int)]
  have HK : Hid (kstream a k = khash a [(k : Int)] % 256) := Lib.hid rfl
  have H0 := Lib.hid h0
  have H1 := Lib.hid h1
  clear h0 h1
  go_enter Try.func41, Try.ntmps41
  go_wp2_with fail
  refine (impl_KeyedHash a _ 1 1 _ [(k : Int)] _ (ints_new1 .i64 (k : Int) _ _ _) (by decide)).mono ?_
  rintro e w1 ⟨rfl, rfl⟩
  generalize khash a [(k : Int)] = x at *
  go_wp2
  go_ret
  refine ⟨by rw [HK.out]; rfl, ⟨?_, ?_⟩, only_alloc (only_setCell (World.grownBy.refl _ _) _ _) _⟩
  · rw [Below.heap_alloc _ _ _ (by simp [World.setCell]; omega), Below.heap_setCell _ _ _ _ (by simp)]
    exact H0.out
  · rw [Below.heap_alloc _ _ _ (by simp [World.setCell]; omega), heap_set H1.out]
    simp
theorem spec_BytesToInts (A : Option Addr) (n c B : Nat) (zs : List Int) (w : World) (hb : Bytes w B A n zs) (hB : B ≤ w.heap.size) (hn : n ≤ 1099511627776) :
    Calls Try.prog 20 #[.slice A n c] w fun e w' => ∃ v, e = .returned v ∧ Own .i64 3 w' w.heap.size v (toNums zs) ∧ Below w.heap.size w w' := by
  obtain ⟨h, hby⟩ := hb
  have hl := h.1
  have own0 : Own .i64 3 (w.alloc (.cells #[.int .i64 (n : Int)] 3)) w.heap.size (.slice (some ⟨w.heap.size, 0, none⟩) 1 1) [(n : Int)] := own_lit w [(n : Int)] 1 (Nat.le_refl _) (by decide) rfl
  go_enter Try.func20, Try.ntmps20
  go_wp2
  go_loopw [3, 4] (fun v i wr => ∃ k : Nat, k ≤ n ∧ i = .int .i64 k ∧ Own .i64 3 wr w.heap.size v ((n : Int) :: zs.take k) ∧ Below w.heap.size w wr) (fun _ i _ => n - (intOf i).toNat)
  case atStart => exact ⟨0, Nat.zero_le _, rfl, own0, (Below.refl _ _).alloc (Nat.le_refl _) _⟩
  case round =>
    obtain ⟨k, hk, rfl, hown, hbl⟩ := hrel
    have hsz := hbl.size
    by_cases hlt : k < n
    · obtain ⟨ad, rfl, hab, hcell⟩ := h.2 (by omega)
      have hc := (hbl.cell (by rw [add_block]; omega)).trans (hcell k hlt)
      have HS : Hid (zs.take (k + 1) = zs.take k ++ [zs.getD k 0]) := Lib.hid (by rw [List.take_add_one, List.getD_eq_getElem?_getD, List.getElem?_eq_getElem (by omega)]; rfl)
      obtain ⟨z1, z2⟩ := byte_at hby (show k < zs.length by omega)
      clear hcell
      generalize zs.getD k 0 = z at *
      go_wp2_with (at_builtin; refine wpList_app1 rfl _ _ 28 rfl .i64 3 8 Try.underlying28 info_i64 w.heap.size _ _ rfl hown (by decide) (by simp; omega) _ _ _ wr.heap.size hsz rfl (by simp) ?_; intro v1 w1 hown1 hgrow1 hat1)
      have hb1 := hown.push (Nat.le_refl _) (hbl.alloc hsz _) (by simp; omega) hgrow1
      clear hgrow1 hat1 hown hbl
      go_roundw
      case rel => exact ⟨k + 1, by omega, by go_num, by rw [HS.out]; exact hown1, hb1⟩
      case measure => simp [intOf]; omega
    · obtain rfl : k = n := by omega
      rw [List.take_of_length_le (by omega)] at hown
      have HL : Hid (toNums zs = (k : Int) :: zs) := Lib.hid (by unfold toNums; rw [hl])
      go_wp2
      go_ret
      exact ⟨_, rfl, by rw [HL.out]; exact hown, hbl⟩
theorem impl_BytesToInts (A : Option Addr) (n c B : Nat) (zs : List Int) (w : World) (hb : Bytes w B A n zs) (hB : B ≤ w.heap.size) (hn : n ≤ 1099511627776) :
    Calls Try.prog 22 #[.slice A n c] w fun e w' => ∃ v, e = .returned v ∧ Own .i64 3 w' w.heap.size v (toNums zs) ∧ Below w.heap.size w w' := by
  obtain ⟨h, hby⟩ := hb
  have hl := h.1
  go_enter Try.func22, Try.ntmps22
  go_wp2_with (first
    | ((with_reducible show wpList _ _ _ _ _ _); refine wpList_mk0 rfl _ _ _ rfl .i64 3 _ Try.underlying28 info_i64 (by decide) ((n : Int) + 1) (n + 1) rfl rfl (by omega) (by omega) ?_; intro w1 hown1 hgrow1; have hb1 := below_grown hgrow1; have hs1 := hb1.size)
    | (at_builtin; refine wpList_app1 rfl _ _ 28 rfl .i64 3 8 Try.underlying28 info_i64 w.heap.size _ [] rfl hown1 (by decide) (by decide) _ _ _ w1.heap.size hs1 rfl (by simp) ?_; intro v2 w2 hown2 hgrow2 hat2; have hb2 := hown1.push (Nat.le_refl _) (hb1.alloc hs1 _) (by simp; omega) hgrow2))
  clear hgrow2 hat2 hgrow1 hown1
  go_loopw [3, 17] (fun v i wr => ∃ k : Nat, k ≤ n ∧ i = .int .i64 k ∧ Own .i64 3 wr w.heap.size v ((n : Int) :: zs.take k) ∧ Below w.heap.size w wr) (fun _ i _ => n - (intOf i).toNat)
  case atStart => exact ⟨0, Nat.zero_le _, rfl, hown2, hb2⟩
  case round =>
    obtain ⟨k, hk, rfl, hown, hbl⟩ := hrel
    have hsz := hbl.size
    by_cases hlt : k < n
    · obtain ⟨ad, rfl, hab, hcell⟩ := h.2 (by omega)
      have hc := (hbl.cell (by rw [add_block]; omega)).trans (hcell k hlt)
      have HS : Hid (zs.take (k + 1) = zs.take k ++ [zs.getD k 0]) := Lib.hid (by rw [List.take_add_one, List.getD_eq_getElem?_getD, List.getElem?_eq_getElem (by omega)]; rfl)
      obtain ⟨z1, z2⟩ := byte_at hby (show k < zs.length by omega)
      clear hcell
      generalize zs.getD k 0 = z at *
      go_wp2_with (at_builtin; refine wpList_app1 rfl _ _ 28 rfl .i64 3 8 Try.underlying28 info_i64 w.heap.size _ _ rfl hown (by decide) (by simp; omega) _ _ _ wr.heap.size hsz rfl (by simp) ?_; intro v1 w1 hown1 hgrow1 hat1)
      have hb1 := hown.push (Nat.le_refl _) (hbl.alloc hsz _) (by simp; omega) hgrow1
      clear hgrow1 hat1 hown hbl
      go_roundw
      case rel => exact ⟨k + 1, by omega, by go_num, by rw [HS.out]; exact hown1, hb1⟩
      case measure => simp [intOf]; omega
    · obtain rfl : k = n := by omega
      rw [List.take_of_length_le (by omega)] at hown
      have HL : Hid (toNums zs = (k : Int) :: zs) := Lib.hid (by unfold toNums; rw [hl])
      go_wp2
      go_ret
      exact ⟨_, rfl, by rw [HL.out]; exact hown, hbl⟩
set_option maxHeartbeats 1000000 in
theorem spec_Encrypt (a : Int) (A : Option Addr) (n c B : Nat) (zs : List Int) (w : World) (hb : Bytes w B A n zs) (hB : B ≤ w.heap.size) (hn : n ≤ 1099511627776) :
    Calls Try.prog 27 #[.int .i64 a, .slice A n c] w fun e w' => ∃ v, e = .returned v ∧ Own .u8 5 w' w.heap.size v (encr a zs) ∧ Below w.heap.size w w' := by
  obtain ⟨h, hby⟩ := hb
  have hl := h.1
  go_enter Try.func27, Try.ntmps27
  go_wp2
  go_loopw [5, 6] (fun v i wr => ∃ k : Nat, k ≤ n ∧ i = .int .i64 k ∧ Own .u8 5 wr w.heap.size v (encr a (zs.take k)) ∧ Below w.heap.size w wr) (fun _ i _ => n - (intOf i).toNat)
  case atStart => exact ⟨0, Nat.zero_le _, rfl, own_bare _ _ w, (Below.refl _ _).alloc (Nat.le_refl _) _⟩
  case round =>
    obtain ⟨k, hk, rfl, hown, hbl⟩ := hrel
    have hsz := hbl.size
    by_cases hlt : k < n
    · obtain ⟨ad, rfl, hab, hcell⟩ := h.2 (by omega)
      have hc := (hbl.cell (by rw [add_block]; omega)).trans (hcell k hlt)
      have HS := Lib.hid (encr_take (k := a) (show k < zs.length by omega))
      have HL := Lib.hid (encr_length a (zs.take k))
      obtain ⟨z1, z2⟩ := byte_at hby (show k < zs.length by omega)
      obtain ⟨g1, g2⟩ := khash_range a [(k : Int)]
      have HK : Hid (kstream a k = khash a [(k : Int)] % 256) := Lib.hid rfl
      replace hcell := Lib.hid (hcell k hlt)
      generalize zs.getD k 0 = z at *
      generalize hkh : khash a [(k : Int)] = x at *
      have HX := Lib.hid hkh
      clear hkh
      have i1 : (0 : Int) ≤ (k : Int) := by omega
      have i2 : (k : Int) < (n : Int) := by omega
      obtain ⟨y, hy⟩ : ∃ y, x % 256 = y := ⟨_, rfl⟩
      have r1 := Int.emod_nonneg x (show (256 : Int) ≠ 0 by decide)
      have r2 := Int.emod_lt_of_pos x (show (0 : Int) < 256 by decide)
      rw [hy] at HK r1 r2
      have e1 : x.tmod 256 = y := by rw [Int.tmod_eq_emod_of_nonneg g1, hy]
      rw [HK.out] at HS
      obtain ⟨b, hb⟩ : ∃ b, (z + y) % 256 = b := ⟨_, rfl⟩
      have b1 := Int.emod_nonneg (z + y) (show (256 : Int) ≠ 0 by decide)
      have b2 := Int.emod_lt_of_pos (z + y) (show (0 : Int) < 256 by decide)
      rw [hb] at HS b1 b2
      have e2 : IntKind.i64.wrap z = z := by rw [IntKind.wrap_i64]; omega
      have e3 : IntKind.i64.wrap (z + y) = z + y := by rw [IntKind.wrap_i64]; omega
      have e4 : 0 ≤ z + y → (z + y).tmod 256 = b := fun h0 => by rw [Int.tmod_eq_emod_of_nonneg h0, hb]
      first | (have e4 := e4 (by omega)) | clear e4
      have e5 : IntKind.u8.wrap b = b := by rw [IntKind.wrap_u8']; omega
      have HB := Lib.hid hb
      clear hy hb
      go_wp2_with fail
      go_region_held3 (fun W' => W'.cell? (ad.add k) = some (.int .u8 z)) (first | exact hc | exact ((((Below.refl wr.heap.size wr).alloc (Nat.le_refl _) _).drew).cell (by rw [add_block]; omega)).trans hc | exact (hb1.cell (by rw [add_block]; omega)).trans hc | exact ((hb1.alloc hb1.size _).cell (by rw [add_block]; omega)).trans hc | exact (hb5.cell (by rw [add_block]; omega)).trans hcell.out | fail "keep") (first
        | (go_at_call 18; refine (spec_KeyedHash a _ 1 1 _ [(k : Int)] _ (ints_new1d .i64 (k : Int) _ _ _) (by simp) (by simp) (by decide)).mono ?_; rw [HX.out]; rintro e w1 ⟨rfl, hb1⟩; replace hb1 := below_laid1 hb1)
        | (go_at_call 35; refine (spec_Mod (z - y) 256 _).mono ?_; rw [modI_q, HB.out]; rintro e w1' ⟨rfl, rfl⟩)
        | (refine step_app1 rfl _ _ 22 rfl .u8 5 1 Try.underlying22 info_u8 w.heap.size _ _ rfl ((hown.below hb1).alloc _) (by decide) (by rw [HL.out, List.length_take]; omega) b w1.heap.size (by have := hb1.size; simp; omega) rfl (by rw [cell_of_row _ _ 0 _ _ _ (heap_alloc_new w1 _)]; rfl) ?_; intro v5 w5 hown5 hgrow5; have hb5 := (hown.below hb1).push (Nat.le_refl _) ((hbl.trans (hb1.mono hsz)).alloc (by have := hb1.size; omega) _) (by have := hb1.size; simp; omega) hgrow5))
      go_wp2
      go_roundw
      case rel => exact ⟨k + 1, by omega, by go_num, by rw [HS.out]; exact hown5, hb5⟩
      case measure => simp [intOf]; omega
    · obtain rfl : k = n := by omega
      rw [encr_all hl] at hown
      go_wp2
      go_ret
      exact ⟨_, rfl, hown, hbl⟩
theorem impl_Encrypt (a : Int) (A : Option Addr) (n c B : Nat) (zs : List Int) (w : World) (hb : Bytes w B A n zs) (hB : B ≤ w.heap.size) (hn : n ≤ 1099511627776) :
    Calls Try.prog 13 #[.int .i64 a, .slice A n c] w fun e w' => ∃ v, e = .returned v ∧ Own .u8 5 w' w.heap.size v (encr a zs) ∧ Below w.heap.size w w' := by
  obtain ⟨h, hby⟩ := hb
  have hl := h.1
  go_enter Try.func13, Try.ntmps13
  go_wp2_with fail
  refine (impl_keyStream a _).mono ?_
  rintro e w1 ⟨rfl, hst, hs1, hb1⟩
  go_wp2_with ((with_reducible show wpList _ _ _ _ _ _); refine wpList_mk rfl _ _ _ rfl .u8 5 _ Try.underlying22 info_u8 (by decide) (n : Int) (n : Int) n rfl rfl rfl rfl (by omega) ?_; intro w2 hown hgrow)
  have hb2 := hb1.trans ((below_grown hgrow).mono (by omega))
  have hst2 := hst.keep fun i hi => hgrow.block i (by omega) (by simp)
  rw [hs1] at hown
  clear hgrow hst hb1 hs1
  go_loopw [16] (fun i wr => ∃ k : Nat, k ≤ n ∧ i = .int .i64 k ∧ Own .u8 5 wr (w.heap.size + 2) (.slice (some ⟨w.heap.size + 2, 0, none⟩) n n) (encr a (zs.take k) ++ (List.replicate n 0).drop k) ∧ Strm wr w.heap.size a k ∧ Below w.heap.size w wr) (fun i _ => n - (intOf i).toNat)
  case atStart => exact ⟨0, Nat.zero_le _, rfl, by simpa [encr] using hown, hst2, hb2⟩
  case round =>
    obtain ⟨k, hk, rfl, hown, hst, hbl⟩ := hrel
    by_cases hlt : k < n
    · obtain ⟨ad, rfl, hab, hcell⟩ := h.2 (by omega)
      have hc := (hbl.cell (by rw [add_block]; omega)).trans (hcell k hlt)
      have HS := Lib.hid (encr_take (k := a) (show k < zs.length by omega))
      have HL := Lib.hid (encr_length a (zs.take k))
      obtain ⟨z1, z2⟩ := byte_at hby (show k < zs.length by omega)
      obtain ⟨s, hs⟩ : ∃ s, kstream a k = s := ⟨_, rfl⟩
      obtain ⟨b, hb⟩ : ∃ b, (zs.getD k 0 + s) % 256 = b := ⟨_, rfl⟩
      rw [hs, hb] at HS
      have hset : ∀ W', Own .u8 5 W' (w.heap.size + 2) (.slice (some ⟨w.heap.size + 2, 0, none⟩) n n) (encr a (zs.take k) ++ (List.replicate n 0).drop k) → Own .u8 5 (W'.setCell ⟨w.heap.size + 2, k, none⟩ (.int .u8 b)) (w.heap.size + 2) (.slice (some ⟨w.heap.size + 2, 0, none⟩) n n) (encr a (zs.take (k + 1)) ++ (List.replicate n 0).drop (k + 1)) := fun W' ho => by
        have h1 := ho.stored k b
        rw [HS.out]
        have e : (encr a (zs.take k) ++ (List.replicate n 0).drop k).set k b = (encr a (zs.take k) ++ [b]) ++ (List.replicate n 0).drop (k + 1) := by
          have hlen : (encr a (zs.take k)).length = k := by rw [HL.out, List.length_take]; omega
          rw [List.set_append_right _ _ (by omega), hlen, Nat.sub_self, List.drop_eq_getElem_cons (by simp; omega), List.set_cons_zero, List.append_assoc]
          rfl
        rw [e] at h1
        exact h1
      have HSET := Lib.hid hset
      have e5 : IntKind.u8.wrap (zs.getD k 0 + s) = b := by rw [IntKind.wrap_u8', hb]
      have HNL : Hid ((encr a (zs.take k) ++ (List.replicate n 0).drop k).length = n) := Lib.hid (by rw [List.length_append, HL.out]; simp; omega)
      clear hcell hset
      generalize zs.getD k 0 = z at *
      generalize encr a (zs.take k) ++ (List.replicate n 0).drop k = ys at *
      go_wp2_with fail
      refine (stream_next w.heap.size a k _ hst (by omega)).mono ?_
      rw [hs]
      rintro e w3 ⟨rfl, hst3, hg3⟩
      have hown3 := hown.grown hg3 (fun g e => by injection e with e; subst e; simp)
      have hc2 := hown3.cell k (by have := HNL.out; omega)
      have hf2 := hown3.free k
      have hown4 := Lib.hid (HSET.out w3 hown3)
      have hst4 := Lib.hid (hst3.keep (w' := w3.setCell ⟨w.heap.size + 2, k, none⟩ (.int .u8 b)) fun i hi => Below.heap_setCell _ _ _ _ (by simp; omega))
      have hb4 := Lib.hid (hbl.trans (below_of_only hg3 (by omega) hbl.size))
      generalize ys.getD k 0 = q at *
      clear hown3 hown hst3 hst hg3 hbl hs hb HSET
      go_wp2
      go_roundw
      case rel => exact ⟨k + 1, by omega, by go_num, hown4.out, hst4.out, hb4.out.setCell (by simp) _⟩
      case measure => simp [intOf]; omega
    · obtain rfl : k = n := by omega
      rw [encr_all hl] at hown
      rw [List.drop_of_length_le (by simp), List.append_nil] at hown
      go_wp2
      go_ret
      exact ⟨_, rfl, hown.mono (by omega), hbl⟩
set_option maxHeartbeats 1000000 in
theorem spec_Decrypt (a : Int) (A : Option Addr) (n c B : Nat) (zs : List Int) (w : World) (hb : Bytes w B A n zs) (hB : B ≤ w.heap.size) (hn : n ≤ 1099511627776) :
    Calls Try.prog 29 #[.int .i64 a, .slice A n c] w fun e w' => ∃ v, e = .returned v ∧ Own .u8 5 w' w.heap.size v (decr a zs) ∧ Below w.heap.size w w' := by
  obtain ⟨h, hby⟩ := hb
  have hl := h.1
  go_enter Try.func29, Try.ntmps29
  go_wp2
  go_loopw [5, 6] (fun v i wr => ∃ k : Nat, k ≤ n ∧ i = .int .i64 k ∧ Own .u8 5 wr w.heap.size v (decr a (zs.take k)) ∧ Below w.heap.size w wr) (fun _ i _ => n - (intOf i).toNat)
  case atStart => exact ⟨0, Nat.zero_le _, rfl, own_bare _ _ w, (Below.refl _ _).alloc (Nat.le_refl _) _⟩
  case round =>
    obtain ⟨k, hk, rfl, hown, hbl⟩ := hrel
    have hsz := hbl.size
    by_cases hlt : k < n
    · obtain ⟨ad, rfl, hab, hcell⟩ := h.2 (by omega)
      have hc := (hbl.cell (by rw [add_block]; omega)).trans (hcell k hlt)
      have HS := Lib.hid (decr_take (k := a) (show k < zs.length by omega))
      have HL := Lib.hid (decr_length a (zs.take k))
      obtain ⟨z1, z2⟩ := byte_at hby (show k < zs.length by omega)
      obtain ⟨g1, g2⟩ := khash_range a [(k : Int)]
      have HK : Hid (kstream a k = khash a [(k : Int)] % 256) := Lib.hid rfl
      replace hcell := Lib.hid (hcell k hlt)
      generalize zs.getD k 0 = z at *
      generalize hkh : khash a [(k : Int)] = x at *
      have HX := Lib.hid hkh
      clear hkh
      have i1 : (0 : Int) ≤ (k : Int) := by omega
      have i2 : (k : Int) < (n : Int) := by omega
      obtain ⟨y, hy⟩ : ∃ y, x % 256 = y := ⟨_, rfl⟩
      have r1 := Int.emod_nonneg x (show (256 : Int) ≠ 0 by decide)
      have r2 := Int.emod_lt_of_pos x (show (0 : Int) < 256 by decide)
      rw [hy] at HK r1 r2
      have e1 : x.tmod 256 = y := by rw [Int.tmod_eq_emod_of_nonneg g1, hy]
      rw [HK.out] at HS
      obtain ⟨b, hb⟩ : ∃ b, (z - y) % 256 = b := ⟨_, rfl⟩
      have b1 := Int.emod_nonneg (z - y) (show (256 : Int) ≠ 0 by decide)
      have b2 := Int.emod_lt_of_pos (z - y) (show (0 : Int) < 256 by decide)
      rw [hb] at HS b1 b2
      have e2 : IntKind.i64.wrap z = z := by rw [IntKind.wrap_i64]; omega
      have e3 : IntKind.i64.wrap (z - y) = z - y := by rw [IntKind.wrap_i64]; omega
      have e4 : 0 ≤ z - y → (z - y).tmod 256 = b := fun h0 => by rw [Int.tmod_eq_emod_of_nonneg h0, hb]
      first | (have e4 := e4 (by omega)) | clear e4
      have e5 : IntKind.u8.wrap b = b := by rw [IntKind.wrap_u8']; omega
      have HB := Lib.hid hb
      clear hy hb
      go_wp2_with fail
      go_region_held3 (fun W' => W'.cell? (ad.add k) = some (.int .u8 z)) (first | exact hc | exact ((((Below.refl wr.heap.size wr).alloc (Nat.le_refl _) _).drew).cell (by rw [add_block]; omega)).trans hc | exact (hb1.cell (by rw [add_block]; omega)).trans hc | exact ((hb1.alloc hb1.size _).cell (by rw [add_block]; omega)).trans hc | exact (hb5.cell (by rw [add_block]; omega)).trans hcell.out | fail "keep") (first
        | (go_at_call 18; refine (spec_KeyedHash a _ 1 1 _ [(k : Int)] _ (ints_new1d .i64 (k : Int) _ _ _) (by simp) (by simp) (by decide)).mono ?_; rw [HX.out]; rintro e w1 ⟨rfl, hb1⟩; replace hb1 := below_laid1 hb1)
        | (go_at_call 35; refine (spec_Mod (z - y) 256 _).mono ?_; rw [modI_q, HB.out]; rintro e w1' ⟨rfl, rfl⟩)
        | (refine step_app1 rfl _ _ 22 rfl .u8 5 1 Try.underlying22 info_u8 w.heap.size _ _ rfl ((hown.below hb1).alloc _) (by decide) (by rw [HL.out, List.length_take]; omega) b w1.heap.size (by have := hb1.size; simp; omega) rfl (by rw [cell_of_row _ _ 0 _ _ _ (heap_alloc_new w1 _)]; rfl) ?_; intro v5 w5 hown5 hgrow5; have hb5 := (hown.below hb1).push (Nat.le_refl _) ((hbl.trans (hb1.mono hsz)).alloc (by have := hb1.size; omega) _) (by have := hb1.size; simp; omega) hgrow5))
      go_wp2
      go_roundw
      case rel => exact ⟨k + 1, by omega, by go_num, by rw [HS.out]; exact hown5, hb5⟩
      case measure => simp [intOf]; omega
    · obtain rfl : k = n := by omega
      rw [decr_all hl] at hown
      go_wp2
      go_ret
      exact ⟨_, rfl, hown, hbl⟩
theorem impl_Decrypt (a : Int) (A : Option Addr) (n c B : Nat) (zs : List Int) (w : World) (hb : Bytes w B A n zs) (hB : B ≤ w.heap.size) (hn : n ≤ 1099511627776) :
    Calls Try.prog 12 #[.int .i64 a, .slice A n c] w fun e w' => ∃ v, e = .returned v ∧ Own .u8 5 w' w.heap.size v (decr a zs) ∧ Below w.heap.size w w' := by
  obtain ⟨h, hby⟩ := hb
  have hl := h.1
  go_enter Try.func12, Try.ntmps12
  go_wp2_with fail
  refine (impl_keyStream a _).mono ?_
  rintro e w1 ⟨rfl, hst, hs1, hb1⟩
  go_wp2_with ((with_reducible show wpList _ _ _ _ _ _); refine wpList_mk rfl _ _ _ rfl .u8 5 _ Try.underlying22 info_u8 (by decide) (n : Int) (n : Int) n rfl rfl rfl rfl (by omega) ?_; intro w2 hown hgrow)
  have hb2 := hb1.trans ((below_grown hgrow).mono (by omega))
  have hst2 := hst.keep fun i hi => hgrow.block i (by omega) (by simp)
  rw [hs1] at hown
  clear hgrow hst hb1 hs1
  go_loopw [16] (fun i wr => ∃ k : Nat, k ≤ n ∧ i = .int .i64 k ∧ Own .u8 5 wr (w.heap.size + 2) (.slice (some ⟨w.heap.size + 2, 0, none⟩) n n) (decr a (zs.take k) ++ (List.replicate n 0).drop k) ∧ Strm wr w.heap.size a k ∧ Below w.heap.size w wr) (fun i _ => n - (intOf i).toNat)
  case atStart => exact ⟨0, Nat.zero_le _, rfl, by simpa [decr] using hown, hst2, hb2⟩
  case round =>
    obtain ⟨k, hk, rfl, hown, hst, hbl⟩ := hrel
    by_cases hlt : k < n
    · obtain ⟨ad, rfl, hab, hcell⟩ := h.2 (by omega)
      have hc := (hbl.cell (by rw [add_block]; omega)).trans (hcell k hlt)
      have HS := Lib.hid (decr_take (k := a) (show k < zs.length by omega))
      have HL := Lib.hid (decr_length a (zs.take k))
      obtain ⟨z1, z2⟩ := byte_at hby (show k < zs.length by omega)
      obtain ⟨s, hs⟩ : ∃ s, kstream a k = s := ⟨_, rfl⟩
      obtain ⟨b, hb⟩ : ∃ b, (zs.getD k 0 - s) % 256 = b := ⟨_, rfl⟩
      rw [hs, hb] at HS
      have hset : ∀ W', Own .u8 5 W' (w.heap.size + 2) (.slice (some ⟨w.heap.size + 2, 0, none⟩) n n) (decr a (zs.take k) ++ (List.replicate n 0).drop k) → Own .u8 5 (W'.setCell ⟨w.heap.size + 2, k, none⟩ (.int .u8 b)) (w.heap.size + 2) (.slice (some ⟨w.heap.size + 2, 0, none⟩) n n) (decr a (zs.take (k + 1)) ++ (List.replicate n 0).drop (k + 1)) := fun W' ho => by
        have h1 := ho.stored k b
        rw [HS.out]
        have e : (decr a (zs.take k) ++ (List.replicate n 0).drop k).set k b = (decr a (zs.take k) ++ [b]) ++ (List.replicate n 0).drop (k + 1) := by
          have hlen : (decr a (zs.take k)).length = k := by rw [HL.out, List.length_take]; omega
          rw [List.set_append_right _ _ (by omega), hlen, Nat.sub_self, List.drop_eq_getElem_cons (by simp; omega), List.set_cons_zero, List.append_assoc]
          rfl
        rw [e] at h1
        exact h1
      have HSET := Lib.hid hset
      have e5 : IntKind.u8.wrap (zs.getD k 0 - s) = b := by rw [IntKind.wrap_u8', hb]
      have HNL : Hid ((decr a (zs.take k) ++ (List.replicate n 0).drop k).length = n) := Lib.hid (by rw [List.length_append, HL.out]; simp; omega)
      clear hcell hset
      generalize zs.getD k 0 = z at *
      generalize decr a (zs.take k) ++ (List.replicate n 0).drop k = ys at *
      go_wp2_with fail
      refine (stream_next w.heap.size a k _ hst (by omega)).mono ?_
      rw [hs]
      rintro e w3 ⟨rfl, hst3, hg3⟩
      have hown3 := hown.grown hg3 (fun g e => by injection e with e; subst e; simp)
      have hc2 := hown3.cell k (by have := HNL.out; omega)
      have hf2 := hown3.free k
      have hown4 := Lib.hid (HSET.out w3 hown3)
      have hst4 := Lib.hid (hst3.keep (w' := w3.setCell ⟨w.heap.size + 2, k, none⟩ (.int .u8 b)) fun i hi => Below.heap_setCell _ _ _ _ (by simp; omega))
      have hb4 := Lib.hid (hbl.trans (below_of_only hg3 (by omega) hbl.size))
      generalize ys.getD k 0 = q at *
      clear hown3 hown hst3 hst hg3 hbl hs hb HSET
      go_wp2
      go_roundw
      case rel => exact ⟨k + 1, by omega, by go_num, hown4.out, hst4.out, hb4.out.setCell (by simp) _⟩
      case measure => simp [intOf]; omega
    · obtain rfl : k = n := by omega
      rw [decr_all hl] at hown
      rw [List.drop_of_length_le (by simp), List.append_nil] at hown
      go_wp2
      go_ret
      exact ⟨_, rfl, hown.mono (by omega), hbl⟩
end Go.Proofs.Ytglgmikeancimaa
