/- Chapter 24: turns: the laws' helpers, IsTurn of the model, NewTurn. -/
import Derived.Test.YtdlcjmdkafebpaaFlat
import Derived.Test.YtdlcjmdkafebpaaInts
import Derived.Test.YtdlcjmdkafebpaaMem
import Derived.Handy
namespace Go.Proofs.Ytdlcjmdkafebpaa
open Go.RowKit
set_option linter.unusedVariables false

/-- a turn, as a value. -/
def trnV (p a : Int) (v : Value) : Value := .agg #[.int .i64 p, .int .i64 a, v]
theorem cells3 {w : World} {g : Nat} {x0 x1 x2 : Value} {E : TypeId} {fr : Nat × Nat} (h : w.heap[g]? = some (.cells #[x0, x1, x2] E fr)) : w.cell? ⟨g, 0, none⟩ = some x0 ∧ w.cell? ⟨g, 1, none⟩ = some x1 ∧ w.cell? ⟨g, 2, none⟩ = some x2 :=
  ⟨by rw [cell_of_row w g 0 _ E fr h]; rfl, by rw [cell_of_row w g _ _ E fr h]; rfl, by rw [cell_of_row w g _ _ E fr h]; rfl⟩
theorem same_trn (p a : Int) (A : Option Addr) (n c : Nat) (A2 : Option Addr) (n2 c2 : Nat) (zs : List Int) (w : World) (h : IntsAt .i64 w w.heap.size A n zs) (h2 : IntsAt .i64 w w.heap.size A2 n2 zs) (hn : n ≤ 1048576) (hn2 : n2 ≤ 1048576) :
    Calls Try.prog 19 #[trnV p a (.slice A n c), trnV p a (.slice A2 n2 c2)] w fun e w' => e = .returned (.bool true) ∧ Below w.heap.size w w' := by
  simp only [trnV]
  obtain ⟨wA, hwA⟩ : ∃ wA, wA = (w.alloc (.cells #[.int .i64 p, .int .i64 a, .slice A n c] 27)).alloc (.cells #[.int .i64 p, .int .i64 a, .slice A2 n2 c2] 27) := ⟨_, rfl⟩
  obtain ⟨hk, hx, hsz, hB⟩ := two_blocks hwA
  have hcc := eqs_i64 A n c zs A2 n2 c2 wA ((h.keep fun _ hp => hB.cell hp).up hB.size) ((h2.keep fun _ hp => hB.cell hp).up hB.size) (by omega) (by omega)
  have HB := Lib.hid hB
  clear hk hx hsz hB h h2
  go_enter Try.func19, Try.ntmps19
  go_wp2_with fail
  rw [← hwA]
  refine hcc.mono ?_
  rintro e w1 ⟨rfl, hb1⟩
  clear hwA
  go_wp2
  go_ret
  exact ⟨rfl, HB.out.trans (hb1.mono HB.out.size)⟩
/-- what IsTurn answers. -/
def isTrn (p a : Int) (zs : List Int) : Bool := zs.all (fun z => inB z 0 2) && (inB p 1 99 && inB a 0 1000000 && inB (zs.length : Int) 1 8)
set_option maxHeartbeats 1000000 in
theorem spec_IsTurn (p a : Int) (A : Option Addr) (n c B : Nat) (zs : List Int) (w : World) (h : IntsAt .i64 w B A n zs) (hB : B ≤ w.heap.size) (hn : n ≤ 4294967296) :
    Calls Try.prog 77 #[trnV p a (.slice A n c)] w fun e w' => e = .returned (.bool (isTrn p a zs)) ∧ Below w.heap.size w w' := by
  simp only [trnV]
  have HL := Lib.hid h.1
  obtain ⟨wA, hwA⟩ : ∃ wA, wA = w.alloc (.cells #[.int .i64 p, .int .i64 a, .slice A n c] 27) := ⟨_, rfl⟩
  obtain ⟨hk, hsz, hBA⟩ := one_block hwA
  obtain ⟨k0, k1, k2⟩ := cells3 hk
  have HB := Lib.hid hBA
  have HH := Lib.hid (h.keep (w' := wA) fun _ hp => hBA.cell (Nat.lt_of_lt_of_le hp hB))
  clear hk hsz hBA h
  go_enter Try.func77, Try.ntmps77
  go_wp2
  rw [← hwA]
  clear hwA
  go_loopw [3] (fun i wr => ∃ k : Nat, k ≤ n ∧ i = .int .i64 k ∧ (zs.take k).all (fun z => inB z 0 2) = true ∧ wr = wA) (fun i _ => n - (intOf i).toNat)
  case atStart => exact ⟨0, Nat.zero_le _, rfl, rfl, rfl⟩
  case round =>
    obtain ⟨k, hk, rfl, hall, rfl⟩ := hrel
    by_cases hlt : k < n
    · obtain ⟨ad, rfl, hab, hc⟩ := HH.out.2 (by omega)
      have cz := hc k hlt
      have hz : zs[k]? = some (zs.getD k 0) := by rw [List.getD_eq_getElem?_getD, List.getElem?_eq_getElem (by have := HL.out; omega)]; rfl
      generalize zs.getD k 0 = z at hz cz
      have i1 : (0 : Int) ≤ (k : Int) := by omega
      have i2 : (k : Int) < (n : Int) := by omega
      have HZ := Lib.hid hz
      have HA := Lib.hid hall
      clear hz hall hc
      cases h4 : inB z 0 2
      · have HF : Hid (isTrn p a zs = false) := Lib.hid (by unfold isTrn; rw [show zs.all (fun z => inB z 0 2) = false from List.all_eq_false.2 ⟨z, List.mem_of_getElem? HZ.out, by rw [h4]; decide⟩]; rfl)
        have H4 := Lib.hid h4
        clear h4
        go_wp2_with fail
        refine (spec_l1In _ _ _ _).mono ?_
        rintro e w2 ⟨rfl, rfl⟩
        rw [H4.out]
        go_wp2
        go_ret
        exact ⟨by rw [HF.out]; rfl, HB.out⟩
      · have HA2 := Lib.hid (show (zs.take (k + 1)).all (fun z => inB z 0 2) = true by rw [List.take_add_one, HZ.out, List.all_append, HA.out]; simp [h4])
        have H4 := Lib.hid h4
        clear h4
        go_wp2_with fail
        refine (spec_l1In _ _ _ _).mono ?_
        rintro e w2 ⟨rfl, rfl⟩
        rw [H4.out]
        go_wp2
        go_roundw
        case rel => exact ⟨k + 1, by omega, by go_num, HA2.out, by first | rfl | trivial⟩
        case measure => simp [intOf]; omega
    · obtain rfl : k = n := by omega
      have HV : Hid (isTrn p a zs = (inB p 1 99 && inB a 0 1000000 && inB (k : Int) 1 8)) := Lib.hid (by unfold isTrn; rw [List.take_of_length_le (by have := HL.out; omega)] at hall; rw [hall, HL.out]; rfl)
      clear hall
      cases h1 : inB p 1 99
      rotate_left
      cases h2 : inB a 0 1000000
      rotate_left
      cases h3 : inB (k : Int) 1 8
      all_goals
        rw [h1] at HV
        try rw [h2] at HV
        try rw [h3] at HV
        have H1 := Lib.hid h1
        try have H2 := Lib.hid h2
        try have H3 := Lib.hid h3
        clear h1
        try clear h2
        try clear h3
        go_wp2_with (go_at_call 85; refine (spec_l1In _ _ _ _).mono ?_; rintro e w' ⟨rfl, rfl⟩; first | rw [H1.out] | rw [H2.out] | rw [H3.out])
        go_ret
        exact ⟨by rw [HV.out]; rfl, HB.out⟩
end Go.Proofs.Ytdlcjmdkafebpaa
