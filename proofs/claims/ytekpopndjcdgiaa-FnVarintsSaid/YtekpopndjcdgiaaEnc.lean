/- Contracts of chapter 2's writers that go through an interface (the program). -/
import Derived.Test.YtekpopndjcdgiaaPut
import Derived.Deep.RegionWith
namespace Go.Proofs.Ytekpopndjcdgiaa
open Go.RowKit
set_option linter.unusedVariables false

theorem impl_encode_varint (A : Option Addr) (n c B : Nat) (zs : List Int) (u : Value) (out : List Int) (w : World) (h : IntsAt .u8 w B A n zs) (hA : A = none → n = 0 ∧ c = 0) (hB : B ≤ w.heap.size) (hn : n ≤ 1099511627776)
    (hah : ∀ w, (nilAhead 193 53 u "loop.example/g03006/impl.appendTo").run Try.prog w = .ok (some false) w)
    (hme : ∀ w, (method 193 53 u "loop.example/g03006/impl.appendTo").run Try.prog w = .ok (80, u) w)
    (hk : ∀ v w1, Own .u8 5 w1 w.heap.size v zs → Below w.heap.size w w1 → Calls Try.prog 80 #[u, v] w1 fun e w2 => ∃ v2, e = .returned v2 ∧ Own .u8 5 w2 w.heap.size v2 out ∧ Below w.heap.size w1 w2) :
    Calls Try.prog 48 #[.slice A n c, .iface 53 u] w fun e w' => ∃ v, e = .returned v ∧ Own .u8 5 w' w.heap.size v out ∧ Below w.heap.size w w' := by
  go_enter Try.func48, Try.ntmps48
  go_wp2_with fail
  go_region_with (first
    | (go_at_call 62; refine (bytes_Clone A n c B zs _ (by assumption) hA (by assumption) hn).mono ?_; rintro e w1 ⟨v1, rfl, hown1, hb1⟩; have hb1 := below_undrew hb1)
    | (go_at_call 80; refine (hk _ _ (by exact hown1) (by exact hb1)).mono ?_; rintro e w2 ⟨v2, rfl, hown2, hb2⟩))
  all_goals (try go_wp2)
  all_goals
    go_ret
    exact ⟨v2, rfl, hown2, Below.trans hb1 hb2⟩
theorem impl_encode_byteString (A : Option Addr) (n c B : Nat) (zs : List Int) (u : Value) (out : List Int) (w : World) (h : IntsAt .u8 w B A n zs) (hA : A = none → n = 0 ∧ c = 0) (hB : B ≤ w.heap.size) (hn : n ≤ 1099511627776)
    (hah : ∀ w, (nilAhead 193 62 u "loop.example/g03006/impl.appendTo").run Try.prog w = .ok (some false) w)
    (hme : ∀ w, (method 193 62 u "loop.example/g03006/impl.appendTo").run Try.prog w = .ok (81, u) w)
    (hk : ∀ v w1, Own .u8 5 w1 w.heap.size v zs → Below w.heap.size w w1 → Calls Try.prog 81 #[u, v] w1 fun e w2 => ∃ v2, e = .returned v2 ∧ Own .u8 5 w2 w.heap.size v2 out ∧ Below w.heap.size w1 w2) :
    Calls Try.prog 48 #[.slice A n c, .iface 62 u] w fun e w' => ∃ v, e = .returned v ∧ Own .u8 5 w' w.heap.size v out ∧ Below w.heap.size w w' := by
  go_enter Try.func48, Try.ntmps48
  go_wp2_with fail
  go_region_with (first
    | (go_at_call 62; refine (bytes_Clone A n c B zs _ (by assumption) hA (by assumption) hn).mono ?_; rintro e w1 ⟨v1, rfl, hown1, hb1⟩; have hb1 := below_undrew hb1)
    | (go_at_call 81; refine (hk _ _ (by exact hown1) (by exact hb1)).mono ?_; rintro e w2 ⟨v2, rfl, hown2, hb2⟩))
  all_goals (try go_wp2)
  all_goals
    go_ret
    exact ⟨v2, rfl, hown2, Below.trans hb1 hb2⟩
theorem impl_encode_varints (A : Option Addr) (n c B : Nat) (zs : List Int) (u : Value) (out : List Int) (w : World) (h : IntsAt .u8 w B A n zs) (hA : A = none → n = 0 ∧ c = 0) (hB : B ≤ w.heap.size) (hn : n ≤ 1099511627776)
    (hah : ∀ w, (nilAhead 193 65 u "loop.example/g03006/impl.appendTo").run Try.prog w = .ok (some false) w)
    (hme : ∀ w, (method 193 65 u "loop.example/g03006/impl.appendTo").run Try.prog w = .ok (82, u) w)
    (hk : ∀ v w1, Own .u8 5 w1 w.heap.size v zs → Below w.heap.size w w1 → Calls Try.prog 82 #[u, v] w1 fun e w2 => ∃ v2, e = .returned v2 ∧ Own .u8 5 w2 w.heap.size v2 out ∧ Below w.heap.size w1 w2) :
    Calls Try.prog 48 #[.slice A n c, .iface 65 u] w fun e w' => ∃ v, e = .returned v ∧ Own .u8 5 w' w.heap.size v out ∧ Below w.heap.size w w' := by
  go_enter Try.func48, Try.ntmps48
  go_wp2_with fail
  go_region_with (first
    | (go_at_call 62; refine (bytes_Clone A n c B zs _ (by assumption) hA (by assumption) hn).mono ?_; rintro e w1 ⟨v1, rfl, hown1, hb1⟩; have hb1 := below_undrew hb1)
    | (go_at_call 82; refine (hk _ _ (by exact hown1) (by exact hb1)).mono ?_; rintro e w2 ⟨v2, rfl, hown2, hb2⟩))
  all_goals (try go_wp2)
  all_goals
    go_ret
    exact ⟨v2, rfl, hown2, Below.trans hb1 hb2⟩
theorem ahead_varint (N : Int) (w : World) : (nilAhead 193 53 (.int .i64 N) "loop.example/g03006/impl.appendTo").run Try.prog w = .ok (some false) w := by kernel_rfl
theorem method_varint (N : Int) (w : World) : (method 193 53 (.int .i64 N) "loop.example/g03006/impl.appendTo").run Try.prog w = .ok (80, .int .i64 N) w := by kernel_rfl
theorem impl_AppendUvarint (A : Option Addr) (n c B : Nat) (zs : List Int) (N : Int) (w : World) (h : IntsAt .u8 w B A n zs) (hA : A = none → n = 0 ∧ c = 0) (hB : B ≤ w.heap.size) (hn : n ≤ 1099511627776) :
    Calls Try.prog 15 #[.slice A n c, .int .i64 N] w fun e w' => ∃ v, e = .returned v ∧ Own .u8 5 w' w.heap.size v (vput zs N) ∧ Below w.heap.size w w' := by
  have hl := h.1
  go_enter Try.func15, Try.ntmps15
  go_wp2_with fail
  refine (impl_encode_varint A n c B zs _ (vput zs N) w h hA hB hn (ahead_varint N) (method_varint N) ?_).mono ?_
  · intro v w1 h1 h2
    exact varint_appendTo w.heap.size N v zs w1 h1 h2.size (by omega)
  rintro e w' ⟨v, rfl, h1, h2⟩
  go_wp2
  go_ret
  exact ⟨v, rfl, h1, h2⟩
end Go.Proofs.Ytekpopndjcdgiaa
