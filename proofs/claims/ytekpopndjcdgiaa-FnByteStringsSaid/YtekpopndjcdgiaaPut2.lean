/- Contracts of chapter 2's writers of byte strings and lists: program and model. -/
import Derived.Test.YtekpopndjcdgiaaEnc
namespace Go.Proofs.Ytekpopndjcdgiaa
open Go.RowKit
set_option linter.unusedVariables false

theorem value_slice {A A2 : Option Addr} {n n2 c c2 : Nat} (h : Value.slice A n c = Value.slice A2 n2 c2) : A = A2 ∧ n = n2 ∧ c = c2 := by injection h; exact ⟨‹_›, ‹_›, ‹_›⟩
theorem Own.nilcap {k : IntKind} {E : TypeId} {w : World} {lo : Nat} {A : Option Addr} {n c : Nat} {zs : List Int} (h : Own k E w lo (.slice A n c) zs) : A = none → n = 0 ∧ c = 0 := by
  rintro rfl
  rcases h.shape with ⟨e, rfl⟩ | ⟨g, cap, e, _⟩
  · exact (value_slice e).2
  · exact absurd (value_slice e).1 (by simp)
theorem spec_AppendBytes (A : Option Addr) (n c B : Nat) (zs : List Int) (A2 : Option Addr) (n2 c2 B2 : Nat) (ds : List Int) (w : World) (h : IntsAt .u8 w B A n zs) (hA : A = none → n = 0 ∧ c = 0) (hB : B ≤ w.heap.size) (hn : n ≤ 1099511627776)
    (h2 : IntsAt .u8 w B2 A2 n2 ds) (hA2 : A2 = none → n2 = 0 ∧ c2 = 0) (hB2 : B2 ≤ w.heap.size) (hn2 : n2 ≤ 1099511627776) :
    Calls Try.prog 32 #[.slice A n c, .slice A2 n2 c2] w fun e w' => ∃ v, e = .returned v ∧ Own .u8 5 w' w.heap.size v (bput zs ds) ∧ Below w.heap.size w w' := by
  have hl := h.1
  have hl2 := h2.1
  go_enter Try.func32, Try.ntmps32
  go_wp2_with fail
  refine (spec_AppendUvarint A n c B zs _ _ h hA hB hn).mono ?_
  rintro e w1 ⟨v1, rfl, hown1, hb1⟩
  have hlen := (vput_length zs n2).1
  have hs1 := hb1.size
  go_wp2_with (at_builtin; refine wpList_app rfl _ _ 22 22 rfl .u8 5 5 1 Try.underlying22 Try.underlying22 info_u8 w.heap.size _ _ rfl hown1 A2 n2 c2 B2 ds rfl (h2.keep fun p hp => hb1.cell (by omega)) hA2 (by decide) (by omega) hs1 ?_; intro v2 w2 hown2 hgrow2 hat2)
  go_ret
  exact ⟨v2, rfl, by unfold bput; rw [hl2]; exact hown2, hown1.push (Nat.le_refl _) hb1 hs1 hgrow2⟩
theorem byteString_appendTo (lo : Nat) (A2 : Option Addr) (n2 c2 B2 : Nat) (ds : List Int) (v : Value) (zs : List Int) (w : World) (h : Own .u8 5 w lo v zs) (hlo : lo ≤ w.heap.size) (hn : zs.length ≤ 1099511627776)
    (h2 : IntsAt .u8 w B2 A2 n2 ds) (hA2 : A2 = none → n2 = 0 ∧ c2 = 0) (hB2 : B2 ≤ lo) (hn2 : n2 ≤ 1099511627776) :
    Calls Try.prog 81 #[.slice A2 n2 c2, v] w fun e w' => ∃ v', e = .returned v' ∧ Own .u8 5 w' lo v' (bput zs ds) ∧ Below lo w w' := by
  have hl2 := h2.1
  go_enter Try.func81, Try.ntmps81
  go_wp2_with fail
  refine (varint_appendTo lo n2 v zs _ h hlo hn).mono ?_
  rintro e w1 ⟨v1, rfl, hown1, hb1⟩
  have hlen := (vput_length zs n2).1
  have hs1 := hb1.size
  go_wp2_with (at_builtin; refine wpList_app rfl _ _ 22 62 rfl .u8 5 5 1 Try.underlying22 Try.underlying62 info_u8 lo _ _ rfl hown1 A2 n2 c2 B2 ds rfl (h2.keep fun p hp => hb1.cell (by omega)) hA2 (by decide) (by omega) (by omega) ?_; intro v2 w2 hown2 hgrow2 hat2)
  go_ret
  exact ⟨v2, rfl, by unfold bput; rw [hl2]; exact hown2, hown1.push (Nat.le_refl _) hb1 (by omega) hgrow2⟩
theorem ahead_byteString (A : Option Addr) (n c : Nat) (w : World) : (nilAhead 193 62 (.slice A n c) "loop.example/g03006/impl.appendTo").run Try.prog w = .ok (some false) w := by kernel_rfl
theorem method_byteString (A : Option Addr) (n c : Nat) (w : World) : (method 193 62 (.slice A n c) "loop.example/g03006/impl.appendTo").run Try.prog w = .ok (81, .slice A n c) w := by kernel_rfl
theorem impl_AppendBytes (A : Option Addr) (n c B : Nat) (zs : List Int) (A2 : Option Addr) (n2 c2 B2 : Nat) (ds : List Int) (w : World) (h : IntsAt .u8 w B A n zs) (hA : A = none → n = 0 ∧ c = 0) (hB : B ≤ w.heap.size) (hn : n ≤ 1099511627776)
    (h2 : IntsAt .u8 w B2 A2 n2 ds) (hA2 : A2 = none → n2 = 0 ∧ c2 = 0) (hB2 : B2 ≤ w.heap.size) (hn2 : n2 ≤ 1099511627776) :
    Calls Try.prog 21 #[.slice A n c, .slice A2 n2 c2] w fun e w' => ∃ v, e = .returned v ∧ Own .u8 5 w' w.heap.size v (bput zs ds) ∧ Below w.heap.size w w' := by
  have hl := h.1
  go_enter Try.func21, Try.ntmps21
  go_wp2_with fail
  refine (impl_encode_byteString A n c B zs _ (bput zs ds) w h hA hB hn (ahead_byteString A2 n2 c2) (method_byteString A2 n2 c2) ?_).mono ?_
  · intro v w1 h1 hb
    exact byteString_appendTo w.heap.size A2 n2 c2 B2 ds v zs w1 h1 hb.size (by omega) (h2.keep fun p hp => hb.cell (by omega)) hA2 hB2 hn2
  rintro e w' ⟨v, rfl, h1, h2⟩
  go_wp2
  go_ret
  exact ⟨v, rfl, h1, h2⟩
theorem spec_EncodeInts (A : Option Addr) (n c B : Nat) (vs : List Int) (w : World) (h : IntsAt .i64 w B A n vs) (hB : B ≤ w.heap.size) (hn : n ≤ 100000000000) :
    Calls Try.prog 34 #[.slice A n c] w fun e w' => ∃ v, e = .returned v ∧ Own .u8 5 w' w.heap.size v (vputs [] vs) ∧ Below w.heap.size w w' := by
  have hl := h.1
  go_enter Try.func34, Try.ntmps34
  go_wp2
  go_loopw [3, 4] (fun v i wr => ∃ k : Nat, k ≤ n ∧ i = .int .i64 k ∧ Own .u8 5 wr w.heap.size v (vputs [] (vs.take k)) ∧ Below w.heap.size w wr) (fun _ i _ => n - (intOf i).toNat)
  case atStart => exact ⟨0, Nat.zero_le _, rfl, own_bare _ _ w, (Below.refl _ _).alloc (Nat.le_refl _) _⟩
  case round =>
    obtain ⟨k, hk, rfl, hown, hbl⟩ := hrel
    have hsz := hbl.size
    obtain ⟨A1, c1, rfl⟩ := hown.sliced
    by_cases hlt : k < n
    · obtain ⟨ad, rfl, hab, hcell⟩ := h.2 (by omega)
      have hc := (hbl.cell (by rw [add_block]; omega)).trans (hcell k hlt)
      have HS := Lib.hid (vputs_take (zs := []) (vs := vs) (k := k) (by omega))
      have hlen := vputs_length (vs.take k) []
      rw [List.length_take, List.length_nil] at hlen
      clear hcell
      generalize vs.getD k 0 = z at *
      go_wp2_with fail
      refine (spec_AppendUvarint A1 _ c1 _ _ z _ hown.ints hown.nilcap (Nat.le_refl _) (by omega)).mono ?_
      rintro e w1 ⟨v1, rfl, hown1, hb1⟩
      clear hown
      go_wp2
      go_roundw
      case rel => exact ⟨k + 1, by omega, by go_num, by rw [HS.out]; exact hown1.mono hsz, hbl.trans (hb1.mono hsz)⟩
      case measure => simp [intOf]; omega
    · obtain rfl : k = n := by omega
      rw [vputs_all hl] at hown
      have HO := Lib.hid hown
      clear hown
      go_wp2
      go_ret
      refine ⟨_, rfl, ?_, hbl⟩
      have h1 := HO.out
      rw [List.take_of_length_le (by omega)] at *
      exact h1
theorem varints_appendTo (lo : Nat) (A : Option Addr) (n c B : Nat) (vs : List Int) (v : Value) (zs : List Int) (w : World) (h : Own .u8 5 w lo v zs) (hlo : lo ≤ w.heap.size) (hn : zs.length ≤ 100000000000)
    (h2 : IntsAt .i64 w B A n vs) (hB : B ≤ lo) (hn2 : n ≤ 100000000000) :
    Calls Try.prog 82 #[.slice A n c, v] w fun e w' => ∃ v', e = .returned v' ∧ Own .u8 5 w' lo v' (vputs zs vs) ∧ Below lo w w' := by
  have hl := h2.1
  go_enter Try.func82, Try.ntmps82
  go_wp2
  go_loopw [1, 9] (fun v i wr => ∃ k : Nat, k ≤ n ∧ i = .int .i64 k ∧ Own .u8 5 wr lo v (vputs zs (vs.take k)) ∧ Below lo w wr) (fun _ i _ => n - (intOf i).toNat)
  case atStart => exact ⟨0, Nat.zero_le _, rfl, h, Below.refl _ _⟩
  case round =>
    obtain ⟨k, hk, rfl, hown, hbl⟩ := hrel
    have hsz := hbl.size
    by_cases hlt : k < n
    · obtain ⟨ad, rfl, hab, hcell⟩ := h2.2 (by omega)
      have hc := (hbl.cell (by rw [add_block]; omega)).trans (hcell k hlt)
      have HS := Lib.hid (vputs_take (zs := zs) (vs := vs) (k := k) (by omega))
      have hlen := vputs_length (vs.take k) zs
      rw [List.length_take] at hlen
      clear hcell
      generalize vs.getD k 0 = z at *
      go_wp2_with fail
      refine (varint_appendTo lo z _ _ _ hown (by omega) (by omega)).mono ?_
      rintro e w1 ⟨v1, rfl, hown1, hb1⟩
      clear hown
      go_wp2
      go_roundw
      case rel => exact ⟨k + 1, by omega, by go_num, by rw [HS.out]; exact hown1, hbl.trans hb1⟩
      case measure => simp [intOf]; omega
    · obtain rfl : k = n := by omega
      rw [vputs_all hl] at hown
      have HO := Lib.hid hown
      clear hown
      go_wp2
      go_ret
      exact ⟨_, rfl, HO.out, hbl⟩
theorem ahead_varints (A : Option Addr) (n c : Nat) (w : World) : (nilAhead 193 65 (.slice A n c) "loop.example/g03006/impl.appendTo").run Try.prog w = .ok (some false) w := by kernel_rfl
theorem method_varints (A : Option Addr) (n c : Nat) (w : World) : (method 193 65 (.slice A n c) "loop.example/g03006/impl.appendTo").run Try.prog w = .ok (82, .slice A n c) w := by kernel_rfl
theorem impl_EncodeInts (A : Option Addr) (n c B : Nat) (vs : List Int) (w : World) (h : IntsAt .i64 w B A n vs) (hB : B ≤ w.heap.size) (hn : n ≤ 100000000000) :
    Calls Try.prog 24 #[.slice A n c] w fun e w' => ∃ v, e = .returned v ∧ Own .u8 5 w' w.heap.size v (vputs [] vs) ∧ Below w.heap.size w w' := by
  have hl := h.1
  go_enter Try.func24, Try.ntmps24
  go_wp2_with fail
  refine (impl_encode_varints none 0 0 0 [] _ (vputs [] vs) w ⟨rfl, fun h => absurd h (by omega)⟩ (fun _ => ⟨rfl, rfl⟩) (Nat.zero_le _) (by omega) (ahead_varints A n c) (method_varints A n c) ?_).mono ?_
  · intro v w1 h1 hb
    exact varints_appendTo w.heap.size A n c B vs v [] w1 h1 hb.size (by simp) (h.keep fun p hp => hb.cell (by omega)) hB hn
  rintro e w' ⟨v, rfl, h1, h2⟩
  go_wp2
  go_ret
  exact ⟨v, rfl, h1, h2⟩
end Go.Proofs.Ytekpopndjcdgiaa
