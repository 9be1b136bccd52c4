/- Chapter 5's model. -/
import Derived.Test.YtgdficjihkglpadDoorInter
import Derived.Test.YtgdficjihkglpadDoorPths
namespace Go.Proofs.YtgdficjihkglpadDoor
open Go.RowKit
set_option linter.unusedVariables false

/-- a path that lies at a block's head. -/
theorem pth_head {w : World} {g : Nat} {p : Pth} (h : PthAt w ⟨g, 0, none⟩ p) : w.cell? ⟨g, 0, none⟩ = some (.int .i64 p.id) ∧ w.cell? ⟨g, 1, none⟩ = some (.int .i64 p.kind) ∧ w.cell? ⟨g, 2, none⟩ = some (.int .i64 p.frm) ∧ w.cell? ⟨g, 3, none⟩ = some (.int .i64 p.to) := ⟨h.c0, h.c1, h.c2, h.c3⟩
theorem heap_size_alloc' (w : World) (o : Obj) : (w.alloc o).heap.size = w.heap.size + 1 := by simp
theorem pth_of_block {w : World} {g : Nat} {p : Pth} {T : TypeId} {fr : Nat × Nat} (h : w.heap[g]? = some (.cells #[.int .i64 p.id, .int .i64 p.kind, .int .i64 p.frm, .int .i64 p.to] T fr)) : PthAt w ⟨g, 0, none⟩ p :=
  ⟨by rw [cell_of_row w g 0 _ T fr h]; rfl, by rw [cell_of_row w g _ _ T fr h]; rfl, by rw [cell_of_row w g _ _ T fr h]; rfl, by rw [cell_of_row w g _ _ T fr h]; rfl⟩
theorem boxed_one {w w1 : World} {p : Pth} {T : TypeId} (hb : Below (w.alloc (.cells #[.int .i64 p.id, .int .i64 p.kind, .int .i64 p.frm, .int .i64 p.to] T)).heap.size (w.alloc (.cells #[.int .i64 p.id, .int .i64 p.kind, .int .i64 p.frm, .int .i64 p.to] T)) w1) :
    PthAt w1 ⟨w.heap.size, 0, none⟩ p ∧ w.heap.size + 1 ≤ w1.heap.size ∧ Below w.heap.size w w1 := by
  have hs := hb.size
  rw [heap_size_alloc'] at hs
  exact ⟨pth_of_block ((hb.block _ (by rw [heap_size_alloc']; omega)).trans (heap_alloc_new w _)), hs, ((Below.refl _ _).alloc (Nat.le_refl _) _).trans (hb.mono (by rw [heap_size_alloc']; omega))⟩
theorem boxed_two {w w1 : World} {p q : Pth} {T T2 : TypeId} (hb : Below ((w.alloc (.cells #[.int .i64 p.id, .int .i64 p.kind, .int .i64 p.frm, .int .i64 p.to] T)).alloc (.cells #[.int .i64 q.id, .int .i64 q.kind, .int .i64 q.frm, .int .i64 q.to] T2)).heap.size ((w.alloc (.cells #[.int .i64 p.id, .int .i64 p.kind, .int .i64 p.frm, .int .i64 p.to] T)).alloc (.cells #[.int .i64 q.id, .int .i64 q.kind, .int .i64 q.frm, .int .i64 q.to] T2)) w1) :
    PthAt w1 ⟨w.heap.size, 0, none⟩ p ∧ PthAt w1 ⟨w.heap.size + 1, 0, none⟩ q ∧ w.heap.size + 2 ≤ w1.heap.size ∧ Below w.heap.size w w1 := by
  have hs := hb.size
  rw [heap_size_alloc', heap_size_alloc'] at hs
  obtain ⟨p0, p1, p2, p3⟩ := p
  obtain ⟨q0, q1, q2, q3⟩ := q
  refine ⟨pth_of_block (T := T) (fr := (0, 0)) ((hb.block _ (by rw [heap_size_alloc', heap_size_alloc']; omega)).trans ((Below.heap_alloc _ _ _ (by rw [heap_size_alloc']; omega)).trans (heap_alloc_new w _))), pth_of_block (T := T2) (fr := (0, 0)) ((hb.block _ (by rw [heap_size_alloc', heap_size_alloc']; omega)).trans ?_), hs, (((Below.refl _ _).alloc (Nat.le_refl _) _).alloc (by rw [heap_size_alloc']; omega) _).trans (hb.mono (by rw [heap_size_alloc', heap_size_alloc']; omega))⟩
  have h := heap_alloc_new (w.alloc (.cells #[.int .i64 p0, .int .i64 p1, .int .i64 p2, .int .i64 p3] T)) (.cells #[.int .i64 q0, .int .i64 q1, .int .i64 q2, .int .i64 q3] T2)
  rwa [heap_size_alloc'] at h
theorem spec_Conflict (p q : Pth) (w : World) : Calls Tryd.prog 46 #[p.val, q.val] w fun e w' => e = .returned (.bool (conf p q)) ∧ Below w.heap.size w w' := by
  obtain ⟨a, b, c, d⟩ := p
  obtain ⟨a', b', c', d'⟩ := q
  have hv : (Pth.mk a b c d).val = .agg #[.int .i64 a, .int .i64 b, .int .i64 c, .int .i64 d] := rfl
  have hv' : (Pth.mk a' b' c' d').val = .agg #[.int .i64 a', .int .i64 b', .int .i64 c', .int .i64 d'] := rfl
  have HC : Hid (conf ⟨a, b, c, d⟩ ⟨a', b', c', d'⟩ = if isP ⟨a, b, c, d⟩ && isP ⟨a', b', c', d'⟩ && !(decide (b = 2) && decide (b' = 2)) then
    (if b = 2 then decide (c' = c) || decide (d' = c) else if b' = 2 then decide (c = c') || decide (d = c') else if c = c' then false else if d = d' then true else inter (inPl c) (outPl d) (inPl c') (outPl d')) else false) := Lib.hid rfl
  rw [hv, hv']
  go_enter Tryd.func46, Tryd.ntmps46
  go_wp2_with fail
  refine (spec_IsPath ⟨a, b, c, d⟩ _).mono ?_
  rintro e w1 ⟨rfl, hb⟩
  obtain ⟨hA, hB, hs1, hb1⟩ := boxed_two (p := ⟨a, b, c, d⟩) (q := ⟨a', b', c', d'⟩) hb
  obtain ⟨x0, x1, x2, x3⟩ := pth_head hA
  obtain ⟨y0, y1, y2, y3⟩ := pth_head hB
  simp only at x0 x1 x2 x3 y0 y1 y2 y3
  clear hb
  cases hp : isP ⟨a, b, c, d⟩
  · rw [hp] at HC
    go_wp2
    go_ret
    exact ⟨by rw [HC.out]; rfl, hb1⟩
  rw [hp] at HC
  go_wp2_with fail
  refine (spec_IsPath ⟨a', b', c', d'⟩ _).mono ?_
  rintro e w2 ⟨rfl, hb⟩
  replace hA := hA.below hb (by simp; omega)
  replace hB := hB.below hb (by simp; omega)
  have hs2 := Nat.le_trans hs1 hb.size
  have lt1 : w.heap.size < w2.heap.size := by omega
  have lt2 : w.heap.size + 1 < w2.heap.size := by omega
  replace hb1 := hb1.trans (hb.mono hb1.size)
  obtain ⟨x0, x1, x2, x3⟩ := pth_head hA
  obtain ⟨y0, y1, y2, y3⟩ := pth_head hB
  simp only at x0 x1 x2 x3 y0 y1 y2 y3
  clear hb
  cases hq : isP ⟨a', b', c', d'⟩
  · rw [hq] at HC
    go_wp2
    go_ret
    exact ⟨by rw [HC.out]; rfl, hb1⟩
  rw [hq] at HC
  by_cases hk : b = 2
  · have e1 : (b == 2) = true := by simpa using hk
    rw [decide_eq_true hk, if_pos hk] at HC
    by_cases hk2 : b' = 2
    · have e2 : (b' == 2) = true := by simpa using hk2
      rw [decide_eq_true hk2] at HC
      clear hk hk2
      go_wp2
      go_ret
      exact ⟨by rw [HC.out]; rfl, hb1⟩
    · have e2 : (b' == 2) = false := by simpa using hk2
      rw [decide_eq_false hk2] at HC
      clear hk hk2
      by_cases h1 : c' = c
      · have e3 : (c' == c) = true := by simpa using h1
        rw [decide_eq_true h1] at HC
        clear h1
        go_wp2
        go_ret
        exact ⟨by rw [HC.out]; rfl, hb1⟩
      · have e3 : (c' == c) = false := by simpa using h1
        have e4 : (d' == c) = decide (d' = c) := rfl
        rw [decide_eq_false h1] at HC
        clear h1
        go_wp2
        go_ret
        exact ⟨by rw [HC.out]; rfl, hb1⟩
  · have e1 : (b == 2) = false := by simpa using hk
    rw [decide_eq_false hk, if_neg hk] at HC
    clear hk
    by_cases hk2 : b' = 2
    · have e2 : (b' == 2) = true := by simpa using hk2
      rw [if_pos hk2] at HC
      clear hk2
      by_cases h1 : c = c'
      · have e3 : (c == c') = true := by simpa using h1
        rw [decide_eq_true h1] at HC
        clear h1
        go_wp2
        go_ret
        exact ⟨by rw [HC.out]; rfl, hb1⟩
      · have e3 : (c == c') = false := by simpa using h1
        rw [decide_eq_false h1] at HC
        clear h1
        go_wp2
        go_ret
        exact ⟨by rw [HC.out]; rfl, hb1⟩
    · have e2 : (b' == 2) = false := by simpa using hk2
      rw [if_neg hk2] at HC
      clear hk2
      by_cases h1 : c = c'
      · have e3 : (c == c') = true := by simpa using h1
        rw [if_pos h1] at HC
        clear h1
        go_wp2
        go_ret
        exact ⟨by rw [HC.out]; rfl, hb1⟩
      · have e3 : (c == c') = false := by simpa using h1
        rw [if_neg h1] at HC
        clear h1
        by_cases h2 : d = d'
        · have e4 : (d == d') = true := by simpa using h2
          rw [if_pos h2] at HC
          clear h2
          go_wp2
          go_ret
          exact ⟨by rw [HC.out]; rfl, hb1⟩
        · have e4 : (d == d') = false := by simpa using h2
          rw [if_neg h2] at HC
          clear h2
          have HS := Lib.hid hb1
          go_wp2
          clear hA hB x0 x1 y0 y1 hs1
          go_region_held3 (fun W' => W'.cell? ⟨w.heap.size, 2, none⟩ = some (.int .i64 c) ∧ W'.cell? ⟨w.heap.size, 3, none⟩ = some (.int .i64 d) ∧ W'.cell? ⟨w.heap.size + 1, 2, none⟩ = some (.int .i64 c') ∧ W'.cell? ⟨w.heap.size + 1, 3, none⟩ = some (.int .i64 d'))
            (first | exact ⟨x2, x3, y2, y3⟩ | exact ⟨(hb3.cell lt1).trans x2, (hb3.cell lt1).trans x3, (hb3.cell lt2).trans y2, (hb3.cell lt2).trans y3⟩ | fail "keep")
            (first
              | (go_at_call 85; refine (spec_InPlace _ _).mono ?_; rintro e w3 ⟨rfl, rfl⟩)
              | (go_at_call 86; refine (spec_OutPlace _ _).mono ?_; rintro e w3 ⟨rfl, rfl⟩)
              | (go_at_call 84; refine (spec_Interleave _ _ _ _ _).mono ?_; rintro e w3 ⟨rfl, hb3⟩; replace hb3 := below_undrew hb3))
          go_wp2
          go_ret
          exact ⟨by rw [HC.out]; rfl, HS.out.trans (hb3.mono HS.out.size)⟩
end Go.Proofs.YtgdficjihkglpadDoor
