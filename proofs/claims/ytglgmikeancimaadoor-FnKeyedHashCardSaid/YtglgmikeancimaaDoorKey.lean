/- Valid keys and derived keys: program and model; the exact laws that meet the errors. -/
import Derived.Test.YtglgmikeancimaaDoorErr
import Derived.Test.YtglgmikeancimaaDoorStream
import Derived.Lib.ConvBytes
import Derived.BigQuiet
import Derived.Deep.QuietTactic
namespace Go.Proofs.YtglgmikeancimaaDoor
open Go.RowKit
set_option linter.unusedVariables false

/-- the bytes of a string. -/
def sbytes (s : ByteArray) : List Int := s.data.toList.map fun b => (b.toNat : Int)
theorem sbytes_length (s : ByteArray) : (sbytes s).length = s.size := by simp [sbytes]
theorem bytes_of_string (w : World) (E : TypeId) (s : ByteArray) : Bytes (Lib.bytesWorld w E s) (w.heap.size + 1) (some ⟨w.heap.size, 0, none⟩) s.size (sbytes s) := by
  refine ⟨⟨sbytes_length s, fun _ => ⟨_, rfl, by simp, fun j hj => ?_⟩⟩, fun z hz => ?_⟩
  · rw [add_head, Lib.bytesWorld_cell w E s j hj]
    have hj' : j < s.data.toList.length := by simpa using hj
    have hj2 : s.data[j]? = some s.data[j] := by simp
    simp [sbytes, List.getD_eq_getElem?_getD, hj2]
  · obtain ⟨b, _, rfl⟩ := List.mem_map.1 hz
    have := b.toNat_lt
    omega
theorem below_bytes (w : World) (E : TypeId) (s : ByteArray) : Below w.heap.size w (Lib.bytesWorld w E s) :=
  ⟨rfl, rfl, rfl, by rw [Lib.bytesWorld_size]; omega, fun i hi => Lib.bytesWorld_at_old w E s i hi⟩
theorem keyFault_small (k : Int) (a : Addr) (w : World) (hc : w.cell? ⟨0, 0, none⟩ = some (.iface 70 (.pointer (some a)))) (h : k < 1) :
    Calls Tryd.prog 24 #[.int .i64 k] w fun e w' => e = .returned (.iface 70 (.pointer (some a))) ∧ w' = w := by
  go_enter Tryd.func24, Tryd.ntmps24
  go_wp2
  go_ret
  exact ⟨rfl, rfl⟩
theorem keyFault_large (k : Int) (a : Addr) (w : World) (hc : w.cell? ⟨1, 0, none⟩ = some (.iface 70 (.pointer (some a)))) (h : ¬ k < 1) (h2 : k ≥ 2147483647) :
    Calls Tryd.prog 24 #[.int .i64 k] w fun e w' => e = .returned (.iface 70 (.pointer (some a))) ∧ w' = w := by
  go_enter Tryd.func24, Tryd.ntmps24
  go_wp2
  go_ret
  exact ⟨rfl, rfl⟩
theorem keyFault_none (k : Int) (w : World) (h : ¬ k < 1) (h2 : ¬ k ≥ 2147483647) :
    Calls Tryd.prog 24 #[.int .i64 k] w fun e w' => e = .returned .nilIface ∧ w' = w := by
  go_enter Tryd.func24, Tryd.ntmps24
  go_wp2
  go_ret
  exact ⟨rfl, rfl⟩
theorem impl_IsValidKey (k : Int) (w : World) (h1 : Sent w 0) (h2 : Sent w 1) :
    Calls Tryd.prog 13 #[.int .i64 k] w fun e w' => e = .returned (.bool (inB k 1 2147483646)) ∧ w' = w := by
  obtain ⟨a1, c1⟩ := h1
  obtain ⟨a2, c2⟩ := h2
  have en := fun (a : Addr) (w : World) => run_eql_iface_nil (P := Tryd.prog) (w := w) 44 (by kernel_rfl) 70 (.pointer (some a))
  have nn := fun (w : World) => run_eql_nil_nil_at (P := Tryd.prog) (w := w) 44 (by kernel_rfl)
  by_cases hs : k < 1
  · have HI : Hid (inB k 1 2147483646 = false) := Lib.hid (by simp [inB]; omega)
    go_enter Tryd.func13, Tryd.ntmps13
    go_wp2_with fail
    refine (keyFault_small k a1 _ c1 hs).mono ?_
    rintro e w1 ⟨rfl, rfl⟩
    go_wp2
    go_ret
    exact ⟨by rw [HI.out]; rfl, rfl⟩
  · by_cases hl : k ≥ 2147483647
    · have HI : Hid (inB k 1 2147483646 = false) := Lib.hid (by simp [inB]; omega)
      go_enter Tryd.func13, Tryd.ntmps13
      go_wp2_with fail
      refine (keyFault_large k a2 _ c2 (by omega) hl).mono ?_
      rintro e w1 ⟨rfl, rfl⟩
      go_wp2
      go_ret
      exact ⟨by rw [HI.out]; rfl, rfl⟩
    · have HI : Hid (inB k 1 2147483646 = true) := Lib.hid (by simp [inB]; omega)
      go_enter Tryd.func13, Tryd.ntmps13
      go_wp2_with fail
      refine (keyFault_none k _ (by omega) (by omega)).mono ?_
      rintro e w1 ⟨rfl, rfl⟩
      go_wp2
      go_ret
      exact ⟨by rw [HI.out]; rfl, rfl⟩
theorem spec_IsValidKey (k : Int) (w : World) :
    Calls Tryd.prog 15 #[.int .i64 k] w fun e w' => e = .returned (.bool (inB k 1 2147483646)) ∧ w = w' := by
  go_enter Tryd.func15, Tryd.ntmps15
  go_wp2_with fail
  refine (spec_l1In _ _ _ _).mono ?_
  rintro e w1 ⟨rfl, rfl⟩
  go_wp2
  go_ret
  exact ⟨rfl, rfl⟩
theorem walk_FnExactIsValidKey (W : World) (k : Int) (wk : (Lit.int .i64 k).wf = true) (h1 : Sent W 0) (h2 : Sent W 1) :
    Calls Tryd.prog 4 #[.int .i64 k] W fun e w' => e = .returned (.bool true) ∧ Below W.heap.size W w' := by
  have H1 := Lib.hid h1
  have H2 := Lib.hid h2
  clear h1 h2
  go_enter Tryd.func4, Tryd.ntmps4
  go_wp2_with fail
  refine (spec_IsValidKey k _).mono ?_
  rintro e w1 ⟨rfl, rfl⟩
  go_wp2_with fail
  refine (impl_IsValidKey k _ H1.out H2.out).mono ?_
  rintro e w1 ⟨rfl, rfl⟩
  cases inB k 1 2147483646
  all_goals
    go_wp2
    go_ret
    exact ⟨rfl, Below.refl _ _⟩
theorem derive_max (k : Int) (zs : List Int) : maxI 1 (khash k (toNums zs)) = derive k zs := by
  have h := khash_range k (toNums zs)
  unfold maxI derive
  split <;> split <;> omega
theorem spec_DeriveFromString (k : Int) (s : ByteArray) (w : World) (hs : s.size ≤ 1048576) :
    Calls Tryd.prog 16 #[.int .i64 k, .string s] w fun e w' => e = .returned (.int .i64 (derive k (sbytes s))) ∧ Below w.heap.size w w' := by
  have hcv := Lib.run_convert_string_bytes (P := Tryd.prog) w 9 22 5 s Tryd.underlying9 Tryd.underlying22 Tryd.underlying5
  have HB := Lib.hid (bytes_of_string w 5 s)
  have HW := Lib.hid (below_bytes w 5 s)
  have HZ := Lib.hid (Lib.bytesWorld_size w 5 s)
  have HL := Lib.hid (sbytes_length s)
  go_enter Tryd.func16, Tryd.ntmps16
  go_wp2_with fail
  refine (spec_BytesToInts _ _ _ _ (sbytes s) _ HB.out (by rw [HZ.out]; exact Nat.le_refl _) (by omega)).mono ?_
  rintro e w1 ⟨v1, rfl, hown, hb⟩
  obtain ⟨A1, c1, rfl⟩ := hown.sliced
  have hb1 := Lib.hid (HW.out.trans (hb.mono (by rw [HZ.out]; omega)))
  have o1 := Ow.new hown
  have hln : (toNums (sbytes s)).length ≤ 1048577 := by simp [toNums, HL.out]; omega
  clear hown hb
  go_wp2_with fail
  refine (spec_KeyedHash k A1 _ c1 _ _ _ o1.ints o1.own.nilcap' (Nat.le_refl _) (by omega)).mono ?_
  rintro e w2 ⟨rfl, hb⟩
  go_wp2_with fail
  refine (spec_Max _ _ _).mono ?_
  rw [derive_max]
  rintro e w3 ⟨rfl, rfl⟩
  go_wp2
  go_ret
  exact ⟨rfl, hb1.out.trans (hb.mono hb1.out.size)⟩
theorem impl_DeriveFromString (k : Int) (s : ByteArray) (w : World) (hs : s.size ≤ 1048576) (h1 : Sent w 0) :
    Calls Tryd.prog 14 #[.int .i64 k, .string s] w fun e w' => e = .returned (.int .i64 (derive k (sbytes s))) ∧ Below w.heap.size w w' := by
  have hcv := Lib.run_convert_string_bytes (P := Tryd.prog) w 9 22 5 s Tryd.underlying9 Tryd.underlying22 Tryd.underlying5
  have HB := Lib.hid (bytes_of_string w 5 s)
  have HW := Lib.hid (below_bytes w 5 s)
  have HZ := Lib.hid (Lib.bytesWorld_size w 5 s)
  have HL := Lib.hid (sbytes_length s)
  have HS := Lib.hid h1
  clear h1
  obtain ⟨g1, g2⟩ := khash_range k (toNums (sbytes s))
  have HD : Hid (derive k (sbytes s) = if khash k (toNums (sbytes s)) = 0 then 1 else khash k (toNums (sbytes s))) := Lib.hid rfl
  go_enter Tryd.func14, Tryd.ntmps14
  go_wp2_with fail
  refine (impl_BytesToInts _ _ _ _ (sbytes s) _ HB.out (by rw [HZ.out]; exact Nat.le_refl _) (by omega)).mono ?_
  rintro e w1 ⟨v1, rfl, hown, hb⟩
  obtain ⟨A1, c1, rfl⟩ := hown.sliced
  have hb1 := HW.out.trans (hb.mono (by rw [HZ.out]; omega))
  have o1 := Ow.new hown
  have hln : (toNums (sbytes s)).length ≤ 1048577 := by simp [toNums, HL.out]; omega
  clear hown hb hcv
  obtain ⟨a, hc⟩ := HS.out.below hb1 (Nat.le_refl _)
  have HB1 := Lib.hid hb1
  clear hb1
  go_wp2_with fail
  refine (impl_KeyedHash k A1 _ c1 _ _ _ o1.ints (by omega)).mono ?_
  rintro e w2 ⟨rfl, rfl⟩
  generalize khash k (toNums (sbytes s)) = x at *
  by_cases hx : x = 0
  · subst hx
    go_wp2_with fail
    go_quiet (first
      | (go_at_call 24; exact Calls.quiet_of_same (keyFault_small 0 a _ hc (by decide)))
      | (go_at_call 26; exact Calls.quiet_of_same (is_same a _)))
    go_wp2
    go_ret
    exact ⟨by rw [HD.out]; rfl, belowN HB1.out _⟩
  · go_wp2_with fail
    go_quiet (first
      | (go_at_call 24; exact Calls.quiet_of_same (keyFault_none x _ (by omega) (by omega)))
      | (go_at_call 26; exact Calls.quiet_of_same (is_nil a _)))
    go_wp2
    go_ret
    exact ⟨by rw [HD.out, if_neg hx]; rfl, belowN HB1.out _⟩
theorem walk_FnExactDeriveFromString (W : World) (k : Int) (wk : (Lit.int .i64 k).wf = true) (s : ByteArray) (hs : s.size ≤ maxLen) (h1 : Sent W 0) (h2 : Sent W 1) :
    Calls Tryd.prog 5 #[.int .i64 k, .string s] W fun e w' => e = .returned (.bool true) ∧ Below W.heap.size W w' := by
  unfold maxLen at hs
  have H1 := Lib.hid h1
  clear h1 h2
  by_cases hbig : s.size ≤ 1048576
  rotate_left
  · go_enter Tryd.func5, Tryd.ntmps5
    go_wp2
    go_ret
    exact ⟨rfl, Below.refl _ _⟩
  · go_enter Tryd.func5, Tryd.ntmps5
    go_wp2_with fail
    refine (spec_DeriveFromString k s _ hbig).mono ?_
    rintro e w1 ⟨rfl, hb1⟩
    go_wp2_with fail
    refine (impl_DeriveFromString k s _ hbig (H1.out.below hb1 (Nat.le_refl _))).mono ?_
    rintro e w2 ⟨rfl, hb2⟩
    generalize derive k (sbytes s) = x
    go_wp2
    go_ret
    exact ⟨rfl, hb1.trans (hb2.mono hb1.size)⟩
end Go.Proofs.YtglgmikeancimaaDoor
