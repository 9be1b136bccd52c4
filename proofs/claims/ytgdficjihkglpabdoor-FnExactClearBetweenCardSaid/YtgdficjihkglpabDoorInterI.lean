/- Interleave: the program. -/
import Derived.Test.YtgdficjihkglpabDoorPathI
import Derived.Test.YtgdficjihkglpabDoorInter
namespace Go.Proofs.YtgdficjihkglpabDoor
open Go.RowKit
set_option linter.unusedVariables false

/-- four different places. -/
def diff4 (a b c d : Int) : Bool := decide (a ≠ b ∧ a ≠ c ∧ a ≠ d ∧ b ≠ c ∧ b ≠ d ∧ c ≠ d) && inB a 0 7 && inB b 0 7 && inB c 0 7 && inB d 0 7
theorem inter_diff (a b c d : Int) : inter a b c d = (diff4 a b c d && (betw a c b != betw a d b)) := rfl
theorem diff4_four {a b c d : Int} (h : okNs [a, b, c, d] 4) : diff4 a b c d = true := by
  obtain ⟨⟨h0, h1, h2, h3⟩, h4⟩ := okNs_four h
  unfold diff4
  rw [h0, h1, h2, h3, decide_eq_true h4]
  rfl
theorem diff4_eq {a b c d : Int} {j k : Nat} (hk : k < j) (hj : j < 4) (h : [a, b, c, d].getD j 0 = [a, b, c, d].getD k 0) : diff4 a b c d = false := by
  have h4 : ¬ (a ≠ b ∧ a ≠ c ∧ a ≠ d ∧ b ≠ c ∧ b ≠ d ∧ c ≠ d) := by
    rintro ⟨e1, e2, e3, e4, e5, e6⟩
    match j, k, hk, hj with
    | 1, 0, _, _ => exact e1 (by simpa using h.symm)
    | 2, 0, _, _ => exact e2 (by simpa using h.symm)
    | 2, 1, _, _ => exact e4 (by simpa using h.symm)
    | 3, 0, _, _ => exact e3 (by simpa using h.symm)
    | 3, 1, _, _ => exact e5 (by simpa using h.symm)
    | 3, 2, _, _ => exact e6 (by simpa using h.symm)
  unfold diff4
  rw [decide_eq_false h4]
  simp
theorem diff4_out {a b c d : Int} {j : Nat} (hj : j < 4) (h : inB ([a, b, c, d].getD j 0) 0 7 = false) : diff4 a b c d = false := by
  unfold diff4
  match j, hj with
  | 0, _ => simp at h; simp [h]
  | 1, _ => simp at h; simp [h]
  | 2, _ => simp at h; simp [h]
  | 3, _ => simp at h; simp [h]
/-- which places the first k of these numbers have taken. -/
def takenL (l : List Int) (k : Nat) : List Value := (List.range 8).map fun (j : Nat) => Value.bool (decide ((j : Int) ∈ l.take k))
theorem takenL_length (l : List Int) (k : Nat) : (takenL l k).length = 8 := by simp [takenL]
theorem takenL_at (l : List Int) (k j : Nat) (h : j < 8) : (takenL l k)[j]? = some (Value.bool (decide ((j : Int) ∈ l.take k))) := by
  simp [takenL, h]
theorem takenL_set {l : List Int} {k : Nat} (h : k < l.length) {j : Nat} (hj : l.getD k 0 = j) : (takenL l k).set j (.bool true) = takenL l (k + 1) := by
  have e : l.take (k + 1) = l.take k ++ [(j : Int)] := by
    rw [List.take_add_one, List.getElem?_eq_getElem h]
    rw [List.getD_eq_getElem?_getD, List.getElem?_eq_getElem h] at hj
    simp at hj
    simp [hj]
  apply List.ext_getElem?
  intro i
  by_cases hi : i < 8
  · rw [takenL_at _ _ _ hi, e, List.getElem?_set]
    by_cases hij : j = i
    · subst hij
      rw [if_pos rfl, if_pos (by rw [takenL_length]; exact hi)]
      simp
    · rw [if_neg hij, takenL_at _ _ _ hi]
      have : ¬ ((i : Int) = (j : Int)) := by omega
      simp [this]
  · rw [List.getElem?_eq_none (by rw [List.length_set, takenL_length]; omega), List.getElem?_eq_none (by rw [takenL_length]; omega)]
theorem take_mem {l : List Int} {k : Nat} {x : Int} (h : x ∈ l.take k) : ∃ j, j < k ∧ l.getD j 0 = x := by
  obtain ⟨j, hj, e⟩ := List.getElem_of_mem h
  rw [List.length_take] at hj
  refine ⟨j, by omega, ?_⟩
  rw [List.getElem_take] at e
  rw [List.getD_eq_getElem?_getD, List.getElem?_eq_getElem (by omega)]
  simpa using e
theorem not_take {l : List Int} {k : Nat} (hk : k ≤ l.length) {x : Int} (h : ¬ x ∈ l.take k) : ∀ j, j < k → x ≠ l.getD j 0 := by
  intro j hj e
  apply h
  rw [List.getD_eq_getElem?_getD, List.getElem?_eq_getElem (by omega)] at e
  simp at e
  rw [e]
  exact List.mem_iff_getElem.2 ⟨j, by rw [List.length_take]; omega, by rw [List.getElem_take]⟩
theorem impl_areDifferentPlaces (b1 : Nat) (a b c d : Int) (w : World) (h : IntsAt .i64 w w.heap.size (some ⟨b1, 0, none⟩) 4 [a, b, c, d]) :
    Calls Tryd.prog 117 #[.slice (some ⟨b1, 0, none⟩) 4 4] w fun e w' => e = .returned (.bool (diff4 a b c d)) ∧ Below w.heap.size w w' := by
  have own0 : (w.alloc (.cells #[.bool false, .bool false, .bool false, .bool false, .bool false, .bool false, .bool false, .bool false] 145)).ownsRow w.heap.size 145 1 (.slice (some ⟨w.heap.size, 0, none⟩) 8 8) 8 (takenL [a, b, c, d] 0) :=
    World.ownsRow_lit (base := w.heap.size) (e := 145) (size := 1) w #[.bool false, .bool false, .bool false, .bool false, .bool false, .bool false, .bool false, .bool false] 8 (Nat.le_refl _) (by decide) rfl
  have hb0 : Below w.heap.size w (w.alloc (.cells #[.bool false, .bool false, .bool false, .bool false, .bool false, .bool false, .bool false, .bool false] 145)) := (Below.refl _ _).alloc (Nat.le_refl _) _
  obtain ⟨ad, e, hab, hcell⟩ := h.2 (by omega)
  injection e with e
  subst e
  simp only at hab
  clear h
  go_enter Tryd.func117, Tryd.ntmps117
  go_wp2
  go_loopw [8] (fun i wr => ∃ k : Nat, k ≤ 4 ∧ i = .int .i64 k ∧ okNs [a, b, c, d] k ∧ wr.ownsRow w.heap.size 145 1 (.slice (some ⟨w.heap.size, 0, none⟩) 8 8) 8 (takenL [a, b, c, d] k) ∧ Below w.heap.size w wr) (fun i _ => 4 - (intOf i).toNat)
  case atStart => exact ⟨0, by omega, rfl, fun j hj => absurd hj (by omega), own0, hb0⟩
  case round =>
    clear own0 hb0
    obtain ⟨k, hk, rfl, hok, hown, hbl⟩ := hrel
    by_cases hlt : k < 4
    · have hcell' := (hbl.cell (by rw [add_block]; exact hab)).trans (hcell k hlt)
      rw [add_head] at hcell'
      have HK := Lib.hid hok
      have HB := Lib.hid hbl
      cases hin : inB ([a, b, c, d].getD k 0) 0 7
      · have HR := Lib.hid (diff4_out hlt hin)
        have HI := Lib.hid hin
        clear hcell hok hown hin hbl
        generalize [a, b, c, d].getD k 0 = x at *
        go_wp2_with fail
        refine (impl_InRange _ _ _ _).mono ?_
        rintro e w1 ⟨rfl, rfl⟩
        rw [HI.out]
        go_wp2
        go_ret
        exact ⟨by rw [HR.out]; rfl, HB.out⟩
      · obtain ⟨x1, x2⟩ := inB_t hin
        obtain ⟨j, hj⟩ : ∃ j : Nat, [a, b, c, d].getD k 0 = (j : Int) := ⟨([a, b, c, d].getD k 0).toNat, by omega⟩
        have hj8 : j < 8 := by omega
        have hc := World.ownsRow.cellAt hown j (by omega)
        rw [takenL_at _ _ _ hj8] at hc
        have hf := World.ownsRow.frozenAt hown j
        have hst := (World.ownsRow.stored hown j (.bool true)).1
        rw [takenL_set (by simpa using hlt) hj] at hst
        have HI := Lib.hid hin
        by_cases hm : (j : Int) ∈ [a, b, c, d].take k
        · obtain ⟨i, hi, e⟩ := take_mem hm
          have HR := Lib.hid (diff4_eq hi hlt (hj.trans e.symm))
          rw [decide_eq_true hm] at hc
          clear hcell hok hown hin hbl hst hm e
          rw [hj] at hcell' HI
          clear hj x1 x2
          go_wp2_with fail
          refine (impl_InRange _ _ _ _).mono ?_
          rintro e w1 ⟨rfl, rfl⟩
          rw [HI.out]
          go_wp2
          go_ret
          exact ⟨by rw [HR.out]; rfl, HB.out⟩
        · have HN := Lib.hid (okNs_step hok hin (fun i hi e => not_take (l := [a, b, c, d]) (by simp; omega) hm i hi (hj.symm.trans e)))
          have HS := Lib.hid hst
          rw [decide_eq_false hm] at hc
          clear hcell hok hown hin hbl hst hm
          rw [hj] at hcell' HI
          clear hj x1 x2
          go_wp2_with fail
          refine (impl_InRange _ _ _ _).mono ?_
          rintro e w1 ⟨rfl, rfl⟩
          rw [HI.out]
          go_wp2
          go_roundw
          case rel => exact ⟨k + 1, by omega, by go_num, HN.out, HS.out, HB.out.setCell (Nat.le_refl _) _⟩
          case measure => simp [intOf]; omega
    · obtain rfl : k = 4 := by omega
      have HR := Lib.hid (diff4_four hok)
      clear hok hown hcell
      go_wp2
      go_ret
      exact ⟨by rw [HR.out]; rfl, hbl⟩
theorem impl_isMet (a b c : Int) (w : World) (ha : 0 ≤ a ∧ a ≤ 7) (hb : 0 ≤ b ∧ b ≤ 7) (hc : 0 ≤ c ∧ c ≤ 7) : Calls Tryd.prog 118 #[.int .i64 a, .int .i64 b, .int .i64 c] w fun e w' => e = .returned (.bool (betw a c b)) ∧ w = w' := by
  obtain ⟨a1, a2⟩ := ha
  obtain ⟨b1, b2⟩ := hb
  obtain ⟨c1, c2⟩ := hc
  have HB : Hid (betw a c b = decide ((c - a) % 8 < (b - a) % 8)) := Lib.hid rfl
  have e1 : Hid (modI (c - a) 8 = (c - a) % 8) := Lib.hid (by unfold modI; rfl)
  have e2 : Hid (modI (b - a) 8 = (b - a) % 8) := Lib.hid (by unfold modI; rfl)
  go_enter Tryd.func118, Tryd.ntmps118
  go_wp2_with fail
  refine (impl_Mod _ _ _).mono ?_
  rintro e w1 ⟨rfl, rfl⟩
  rw [e1.out]
  go_wp2_with fail
  refine (impl_Mod _ _ _).mono ?_
  rintro e w1 ⟨rfl, rfl⟩
  rw [e2.out]
  go_wp2
  go_ret
  exact ⟨by rw [HB.out]; rfl, rfl⟩
theorem impl_Interleave (a b c d : Int) (w : World) : Calls Tryd.prog 98 #[.int .i64 a, .int .i64 b, .int .i64 c, .int .i64 d] w fun e w' => e = .returned (.bool (inter a b c d)) ∧ Below w.heap.size w w' := by
  have own0 : Own .i64 3 (w.alloc (.cells #[.int .i64 a, .int .i64 b, .int .i64 c, .int .i64 d] 3)) w.heap.size (.slice (some ⟨w.heap.size, 0, none⟩) 4 4) [a, b, c, d] := own_lit w [a, b, c, d] 4 (Nat.le_refl _) (by decide) rfl
  have hb0 : Below w.heap.size w (w.alloc (.cells #[.int .i64 a, .int .i64 b, .int .i64 c, .int .i64 d] 3)) := (Below.refl _ _).alloc (Nat.le_refl _) _
  have HI := Lib.hid (inter_diff a b c d)
  have H0 := Lib.hid hb0
  have hd : diff4 a b c d = true → (0 ≤ a ∧ a ≤ 7) ∧ (0 ≤ b ∧ b ≤ 7) ∧ (0 ≤ c ∧ c ≤ 7) ∧ (0 ≤ d ∧ d ≤ 7) := by
    intro h
    simp only [diff4, inB, Bool.and_eq_true, decide_eq_true_eq] at h
    obtain ⟨⟨⟨⟨_, h1⟩, h2⟩, h3⟩, h4⟩ := h
    exact ⟨h1, h2, h3, h4⟩
  have HO := own0.ints
  clear own0 hb0
  go_enter Tryd.func98, Tryd.ntmps98
  go_wp2_with fail
  refine (impl_areDifferentPlaces _ a b c d _ HO).mono ?_
  rintro e w1 ⟨rfl, hb⟩
  have HB := Lib.hid (H0.out.trans (hb.mono H0.out.size))
  clear hb HO
  cases hdd : diff4 a b c d
  · rw [hdd] at HI
    clear hd
    go_wp2
    go_ret
    exact ⟨by rw [HI.out]; rfl, HB.out⟩
  · rw [hdd] at HI
    obtain ⟨ha, hb, hc, hd⟩ := hd hdd
    go_wp2_with fail
    refine (impl_isMet _ _ _ _ ha hb hc).mono ?_
    rintro e w1 ⟨rfl, rfl⟩
    go_wp2_with fail
    refine (impl_isMet _ _ _ _ ha hb hd).mono ?_
    rintro e w1 ⟨rfl, rfl⟩
    go_wp2
    go_ret
    exact ⟨by rw [HI.out]; rfl, HB.out⟩
end Go.Proofs.YtgdficjihkglpabDoor
