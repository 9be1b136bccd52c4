/- Lamp as Lean data; rows of them, and the laws' helpers for these (written by gentype.py). -/
import Derived.Test.YtdlcjmdkafebpaaFlat
import Derived.Test.YtdlcjmdkafebpaaMem
import Derived.Deep.RegionHeld3
import Derived.Deep.DrawnRows
namespace Go.Proofs.Ytdlcjmdkafebpaa
open Go.RowKit
set_option linter.unusedVariables false

structure Lmp where
  path : Int
  colour : Int
  broken : Bool
deriving DecidableEq
def Lmp.cells (p : Lmp) : List Value := [.int .i64 p.path, .int .i64 p.colour, .bool p.broken]
def Lmp.val (p : Lmp) : Value := .agg #[.int .i64 p.path, .int .i64 p.colour, .bool p.broken]
def Lmp.wf (p : Lmp) : Prop := (Lit.int .i64 p.path).wf = true ∧ (Lit.int .i64 p.colour).wf = true
def lmpcells (ps : List Lmp) : List Value := ps.flatMap Lmp.cells
theorem lmpcells_length (ps : List Lmp) : (lmpcells ps).length = ps.length * 3 := flat_length (f := Lmp.cells) (fun _ => rfl) ps
theorem lmpcells_take {ps : List Lmp} {k : Nat} {p : Lmp} (h : ps[k]? = some p) : lmpcells (ps.take (k + 1)) = lmpcells (ps.take k) ++ p.cells := by
  unfold lmpcells
  rw [List.take_add_one, h, List.flatMap_append]
  simp
theorem lmpcells_one (ps : List Lmp) : ∀ u ∈ lmpcells ps, u.oneCell' = true := by
  intro u hu
  obtain ⟨p, _, hp⟩ := List.mem_flatMap.1 hu
  simp only [Lmp.cells, List.mem_cons, List.not_mem_nil, or_false] at hp
  rcases hp with rfl | rfl | rfl <;> rfl
theorem lmpcells_put {ps : List Lmp} {zs : List Value} {k : Nat} {p : Lmp} (h : ps[k]? = some p) (hz : k * 3 + 3 ≤ zs.length) :
    (((lmpcells (ps.take k) ++ zs.drop (k * 3)).set (k * 3) (.int .i64 p.path)).set (k * 3 + 1) (.int .i64 p.colour)).set (k * 3 + 2) (.bool p.broken) = lmpcells (ps.take (k + 1)) ++ zs.drop ((k + 1) * 3) := by
  obtain ⟨z0, z1, z2, hd⟩ := drop3 hz
  have hk := (List.getElem?_eq_some_iff.1 h).1
  rw [hd, set3 (by rw [lmpcells_length, List.length_take]; omega), lmpcells_take h]
  simp [Lmp.cells, Nat.add_mul]
def LmpsAt (w : World) (B : Nat) (A : Option Addr) (n : Nat) (ps : List Lmp) : Prop := ps.length = n ∧ CellsAt w B A (n * 3) (lmpcells ps)
theorem LmpsAt.keep {w w' : World} {B : Nat} {A : Option Addr} {n : Nat} {ps : List Lmp} (h : LmpsAt w B A n ps) (hk : ∀ p : Addr, p.block < B → w'.cell? p = w.cell? p) : LmpsAt w' B A n ps := ⟨h.1, h.2.keep hk⟩
theorem LmpsAt.below {w w' : World} {B : Nat} {A : Option Addr} {n : Nat} {ps : List Lmp} (h : LmpsAt w B A n ps) (hb : Below B w w') : LmpsAt w' B A n ps := ⟨h.1, h.2.below hb⟩
theorem LmpsAt.up {w : World} {B B' : Nat} {A : Option Addr} {n : Nat} {ps : List Lmp} (h : LmpsAt w B A n ps) (hB : B ≤ B') : LmpsAt w B' A n ps := ⟨h.1, h.2.up hB⟩
structure LmpAt (w : World) (q : Addr) (p : Lmp) : Prop where
  c0 : w.cell? q = some (.int .i64 p.path)
  c1 : w.cell? ⟨q.block, q.off + 1, none⟩ = some (.int .i64 p.colour)
  c2 : w.cell? ⟨q.block, q.off + 2, none⟩ = some (.bool p.broken)
theorem LmpAt.keep {w w' : World} {q : Addr} {p : Lmp} (h : LmpAt w q p) (e : w'.heap[q.block]? = w.heap[q.block]?) : LmpAt w' q p :=
  ⟨(World.cell?_of_block e).trans h.c0, (World.cell?_of_block (a := ⟨q.block, q.off + 1, none⟩) e).trans h.c1, (World.cell?_of_block (a := ⟨q.block, q.off + 2, none⟩) e).trans h.c2⟩
theorem LmpAt.below {w w' : World} {q : Addr} {p : Lmp} {B : Nat} (h : LmpAt w q p) (hb : Below B w w') (hB : q.block < B) : LmpAt w' q p := h.keep (hb.block _ hB)
theorem lmp_head {w : World} {g : Nat} {p : Lmp} (h : LmpAt w ⟨g, 0, none⟩ p) : w.cell? ⟨g, 0, none⟩ = some (.int .i64 p.path) ∧ w.cell? ⟨g, 1, none⟩ = some (.int .i64 p.colour) ∧ w.cell? ⟨g, 2, none⟩ = some (.bool p.broken) := ⟨h.c0, h.c1, h.c2⟩
theorem lmp_of_block {w : World} {g : Nat} {p : Lmp} {E : TypeId} {fr : Nat × Nat} (h : w.heap[g]? = some (.cells #[.int .i64 p.path, .int .i64 p.colour, .bool p.broken] E fr)) : LmpAt w ⟨g, 0, none⟩ p :=
  ⟨by rw [cell_of_row w g 0 _ E fr h]; rfl, by rw [cell_of_row w g _ _ E fr h]; rfl, by rw [cell_of_row w g _ _ E fr h]; rfl⟩
theorem LmpsAt.at {w : World} {B : Nat} {A : Option Addr} {n : Nat} {ps : List Lmp} (h : LmpsAt w B A n ps) {k : Nat} (hk : k < n) : ∃ ad p, A = some ad ∧ (ad.add (k * 3)).block < B ∧ ps[k]? = some p ∧ LmpAt w (ad.add (k * 3)) p := by
  obtain ⟨hl, _, hc⟩ := h
  obtain ⟨ad, e, hb, hc⟩ := hc (by omega)
  have hp : ps[k]? = some ps[k] := List.getElem?_eq_getElem (by omega)
  have hg := fun i (hi : i < 3) => flat_get (f := Lmp.cells) (fun _ => rfl) ps k i _ hp hi
  have ha := fun i (hi : 0 < i) => (add_add ad (k * 3) i).symm.trans (add_plusF _ i hi)
  refine ⟨ad, ps[k], e, by rw [add_block]; exact hb, hp, hc _ _ (hg 0 (by decide)), ?_, ?_⟩
  · rw [← ha 1 (by decide)]; exact hc _ _ (hg 1 (by decide))
  · rw [← ha 2 (by decide)]; exact hc _ _ (hg 2 (by decide))
theorem law_toLamp (p : Lmp) (w : World) : Calls Try.prog 81 #[p.val] w fun e w' => e = .returned p.val ∧ Below w.heap.size w w' := by
  obtain ⟨a, b, c⟩ := p
  simp only [Lmp.val]
  go_enter Try.func81, Try.ntmps81
  go_wp2
  refine bodyPost_ret (by rw [results_cell rfl]; go_simp; try rfl) rfl ?_
  exact ⟨rfl, ((((Below.refl _ _).alloc (Nat.le_refl _) _).alloc (by simp) _).alloc (by simp; omega) _)⟩
theorem info_lmp : (Try.prog.info? 108).map (fun i => (i.zero, i.size, i.bytes)) = some (some (.agg #[.int .i64 0, .int .i64 0, .bool false]), 3, 24) := by kernel_rfl
theorem made_lmp (n : Nat) : (madeCells (Value.agg #[Value.int .i64 0, Value.int .i64 0, Value.bool false]).cells (n * 3)).toList = lmpcells (List.replicate n ⟨0, 0, false⟩) := by
  have h : (Value.agg #[Value.int .i64 0, Value.int .i64 0, Value.bool false]).cells = #[Value.int .i64 0, Value.int .i64 0, Value.bool false] := rfl
  rw [h]
  apply List.ext_getElem?
  intro i
  simp only [madeCells, Array.toList_map, List.getElem?_map]
  by_cases hi : i < n * 3
  · have hg := flat_get (f := Lmp.cells) (fun _ => rfl) (List.replicate n ⟨0, 0, false⟩) (i / 3) (i % 3) ⟨0, 0, false⟩ (by rw [List.getElem?_replicate, if_pos (by omega)]) (Nat.mod_lt _ (by decide))
    rw [show i / 3 * 3 + i % 3 = i by omega] at hg
    unfold lmpcells
    rw [hg]
    have h4 : i % 3 = 0 ∨ i % 3 = 1 ∨ i % 3 = 2 := by omega
    rcases h4 with h4 | h4 | h4 <;> simp [hi, h4, Lmp.cells]
  · rw [List.getElem?_eq_none (l := lmpcells _) (by rw [lmpcells_length, List.length_replicate]; omega)]
    simp [hi]
theorem law_toLampS (A : Option Addr) (n c B : Nat) (ps : List Lmp) (w : World) (h : LmpsAt w B A n ps) (hB : B ≤ w.heap.size) (hn : n ≤ 4294967296) :
    Calls Try.prog 24 #[.slice A n c] w fun e w' => e = .returned (.slice (some ⟨w.heap.size, 0, none⟩) n n) ∧ w'.ownsRow w.heap.size 108 3 (.slice (some ⟨w.heap.size, 0, none⟩) n n) n (lmpcells ps) ∧ Below w.heap.size w w' := by
  have hl := h.1
  go_enter Try.func24, Try.ntmps24
  go_wp2_with ((with_reducible show wpList _ _ _ _ _ _); refine wpList_mkR rfl _ _ _ rfl 108 _ 3 _ Try.underlying36 info_lmp (by decide) (n : Int) (n : Int) n rfl rfl rfl rfl (by omega) ?_; intro w1 hown hgrow)
  go_loopw [4] (fun i wr => ∃ k : Nat, k ≤ n ∧ i = .int .i64 k ∧ wr.ownsRow w.heap.size 108 3 (.slice (some ⟨w.heap.size, 0, none⟩) n n) n (lmpcells (ps.take k) ++ (lmpcells (List.replicate n ⟨0, 0, false⟩)).drop (k * 3)) ∧ Below w.heap.size w wr) (fun i _ => n - (intOf i).toNat)
  case atStart => exact ⟨0, Nat.zero_le _, rfl, by rw [made_lmp] at hown; simpa [lmpcells] using hown, below_grown hgrow⟩
  case round =>
    obtain ⟨k, hk, rfl, hown, hbl⟩ := hrel
    by_cases hlt : k < n
    · obtain ⟨ad, p, rfl, hab, hp, hq⟩ := h.at hlt
      obtain ⟨c0, c1, c2⟩ := hq.below hbl (by omega)
      go_wp2_with fail
      refine (law_toLamp p _).mono ?_
      rintro e w2 ⟨rfl, hb2⟩
      have hown2 := ownr_below hown hb2
      obtain ⟨x0, hx0⟩ := ownr_some hown2 (j := k * 3) (by omega)
      obtain ⟨x1, hx1⟩ := ownr_some hown2 (j := k * 3 + 1) (by omega)
      obtain ⟨x2, hx2⟩ := ownr_some hown2 (j := k * 3 + 2) (by omega)
      have f0 := World.ownsRow.frozenAt hown2
      have hst := (World.ownsRow.stored (World.ownsRow.stored (World.ownsRow.stored hown2 (k * 3) (.int .i64 p.path)).1 (k * 3 + 1) (.int .i64 p.colour)).1 (k * 3 + 2) (.bool p.broken)).1
      rw [lmpcells_put hp (by rw [lmpcells_length, List.length_replicate]; omega)] at hst
      have HS := Lib.hid hst
      have HB := Lib.hid (hbl.trans (hb2.mono hbl.size))
      simp only [Lmp.val]
      clear hown hown2 hbl hb2 hst hq
      go_wp2
      go_roundw
      case rel => exact ⟨k + 1, by omega, by go_num, HS.out, (((HB.out.setCell (Nat.le_refl _) _).setCell (Nat.le_refl _) _).setCell (Nat.le_refl _) _)⟩
      case measure => simp [intOf]; omega
    · obtain rfl : k = n := by omega
      rw [List.take_of_length_le (by omega), List.drop_of_length_le (by rw [lmpcells_length, List.length_replicate]; exact Nat.le_refl _), List.append_nil] at hown
      go_wp2
      go_ret
      exact ⟨rfl, hown, hbl⟩
theorem law_eqLamp (p q : Lmp) (w : World) : Calls Try.prog 83 #[p.val, q.val] w fun e w' => e = .returned (.bool (decide (p = q))) ∧ Below w.heap.size w w' := by
  obtain ⟨a, b, c⟩ := p
  obtain ⟨a', b', c'⟩ := q
  simp only [Lmp.val, Lmp.mk.injEq]
  have hb0 := ((Below.refl w.heap.size w).alloc (Nat.le_refl _) (.cells #[.int .i64 a, .int .i64 b, .bool c] 108)).alloc (by simp) (.cells #[.int .i64 a', .int .i64 b', .bool c'] 108)
  have HB := Lib.hid hb0
  clear hb0
  by_cases h0 : a = a'
  rotate_left
  · have e0 : (a != a') = true := by simpa using h0
    go_enter Try.func83, Try.ntmps83
    go_wp2
    go_ret
    exact ⟨by simp [h0], HB.out⟩
  subst h0
  by_cases h1 : b = b'
  rotate_left
  · have e0 : (b != b') = true := by simpa using h1
    go_enter Try.func83, Try.ntmps83
    go_wp2
    go_ret
    exact ⟨by simp [h1], HB.out⟩
  subst h1
  cases c <;> cases c'
  all_goals
    go_enter Try.func83, Try.ntmps83
    go_wp2
    go_ret
    exact ⟨by simp, HB.out⟩
theorem same_lmp (p : Lmp) (w : World) : Calls Try.prog 83 #[p.val, p.val] w fun e w' => e = .returned (.bool true) ∧ Below w.heap.size w w' := (law_eqLamp p p w).mono fun e w' ⟨he, hb⟩ => ⟨by rw [he, decide_eq_true rfl], hb⟩
theorem law_eqLampS (A : Option Addr) (n c B : Nat) (ps : List Lmp) (A2 : Option Addr) (n2 c2 B2 : Nat) (qs : List Lmp) (w : World) (h : LmpsAt w B A n ps) (h2 : LmpsAt w B2 A2 n2 qs) (hB : B ≤ w.heap.size) (hB2 : B2 ≤ w.heap.size) (hn : n ≤ 4294967296) (hn2 : n2 ≤ 4294967296) :
    Calls Try.prog 26 #[.slice A n c, .slice A2 n2 c2] w fun e w' => e = .returned (.bool (decide (ps = qs))) ∧ Below w.heap.size w w' := by
  have hl := h.1
  have hl2 := h2.1
  by_cases hne : n = n2
  · subst hne
    go_enter Try.func26, Try.ntmps26
    go_wp2
    go_loopw [5] (fun i wr => ∃ k : Nat, k ≤ n ∧ i = .int .i64 k ∧ ps.take k = qs.take k ∧ Below w.heap.size w wr) (fun i _ => n - (intOf i).toNat)
    case atStart => exact ⟨0, Nat.zero_le _, rfl, by simp, Below.refl _ _⟩
    case round =>
      obtain ⟨k, hk, rfl, hsame, hbl⟩ := hrel
      by_cases hlt : k < n
      · obtain ⟨ad, p, rfl, hab, hp, hq⟩ := h.at hlt
        obtain ⟨ad2, q, rfl, hab2, hp2, hq2⟩ := h2.at hlt
        replace hq := hq.below hbl (by omega)
        replace hq2 := hq2.below hbl (by omega)
        have i1 : (0 : Int) ≤ (k : Int) := by omega
        have i2 : (k : Int) < (n : Int) := by omega
        have hsz := hbl.size
        go_wp2
        go_region_held3 (fun W' => W'.cell? (ad.add (k * 3)) = some (.int .i64 p.path) ∧ W'.cell? ⟨(ad.add (k * 3)).block, (ad.add (k * 3)).off + 1, none⟩ = some (.int .i64 p.colour) ∧ W'.cell? ⟨(ad.add (k * 3)).block, (ad.add (k * 3)).off + 2, none⟩ = some (.bool p.broken) ∧
            W'.cell? (ad2.add (k * 3)) = some (.int .i64 q.path) ∧ W'.cell? ⟨(ad2.add (k * 3)).block, (ad2.add (k * 3)).off + 1, none⟩ = some (.int .i64 q.colour) ∧ W'.cell? ⟨(ad2.add (k * 3)).block, (ad2.add (k * 3)).off + 2, none⟩ = some (.bool q.broken))
          (first | exact ⟨hq.c0, hq.c1, hq.c2, hq2.c0, hq2.c1, hq2.c2⟩ | exact ⟨hr.c0, hr.c1, hr.c2, hr2.c0, hr2.c1, hr2.c2⟩ | fail "keep")
          (first
            | (go_at_call 83; refine (law_eqLamp p q _).mono ?_; rintro e w3 ⟨rfl, hb3⟩; have hb3' : Below wr.heap.size wr w3 := below_undrew hb3; have hr := hq.below hb3' (by omega); have hr2 := hq2.below hb3' (by omega)))
        have HB := Lib.hid (hbl.trans (hb3'.mono hsz))
        clear hq hq2 hr hr2 hb3 hb3' hbl
        by_cases hpq : p = q
        · have HT : Hid (ps.take (k + 1) = qs.take (k + 1)) := Lib.hid (by rw [List.take_add_one, List.take_add_one, hsame, hp, hp2, hpq])
          rw [decide_eq_true hpq]
          clear hsame hp hp2
          go_wp2
          go_roundw
          case rel => exact ⟨k + 1, by omega, by go_num, HT.out, HB.out⟩
          case measure => simp [intOf]; omega
        · have HN : Hid (decide (ps = qs) = false) := Lib.hid (by rw [decide_eq_false_iff_not]; rintro rfl; rw [hp] at hp2; exact hpq (Option.some.inj hp2))
          rw [decide_eq_false hpq]
          clear hsame hp hp2
          go_wp2
          go_ret
          exact ⟨by rw [HN.out]; rfl, HB.out⟩
      · obtain rfl : k = n := by omega
        have HN : Hid (decide (ps = qs) = true) := Lib.hid (by rw [decide_eq_true_eq]; rwa [List.take_of_length_le (by omega), List.take_of_length_le (by omega)] at hsame)
        go_wp2
        go_ret
        exact ⟨by rw [HN.out]; rfl, hbl⟩
  · have HN : Hid (decide (ps = qs) = false) := Lib.hid (by rw [decide_eq_false_iff_not]; rintro rfl; omega)
    go_enter Try.func26, Try.ntmps26
    go_wp2
    go_ret
    exact ⟨by rw [HN.out]; rfl, Below.refl _ _⟩
theorem sz_lmp (A : Option Addr) (n c : Nat) (left : Int) (w : World) (hn : n ≤ 9223372036854775807) (hl : 0 ≤ left ∧ left ≤ 1048576) :
    Calls Try.prog 22 #[.slice A n c, .int .i64 left] w fun e w' => e = .returned (.int .i64 (if (n : Int) ≤ left then left - (n : Int) else -1)) ∧ w = w' := by
  obtain ⟨l1, l2⟩ := hl
  by_cases h : (n : Int) ≤ left
  · rw [if_pos h]
    go_enter Try.func22, Try.ntmps22
    go_wp2
    go_ret
    exact ⟨rfl, rfl⟩
  · rw [if_neg h]
    go_enter Try.func22, Try.ntmps22
    go_wp2
    go_ret
    exact ⟨rfl, rfl⟩
theorem law_markLampS (A : Option Addr) (n c lo s : Nat) (vs : List Value) (w : World) (h : w.ownsRow lo 108 3 (.slice A n c) n vs) (hn : n ≤ 4294967296) (hs : s ≤ 70368744177664) :
    Calls Try.prog 39 #[.slice A n c, .int .i64 s] w fun e w' => e = .returned (.int .i64 ((s + n * 3 : Nat) : Int)) ∧ w.grownBy w' (Value.ownBlock (.slice A n c)) := by
  go_enter Try.func39, Try.ntmps39
  go_wp2
  go_loopw [1, 5] (fun x i wr => ∃ k : Nat, k ≤ n ∧ i = .int .i64 k ∧ x = .int .i64 ((s + k * 3 : Nat) : Int) ∧ (∃ vs', wr.ownsRow lo 108 3 (.slice A n c) n vs') ∧ w.grownBy wr (Value.ownBlock (.slice A n c))) (fun _ i _ => n - (intOf i).toNat)
  case atStart => exact ⟨0, Nat.zero_le _, rfl, by simp, ⟨vs, h⟩, World.grownBy.refl _ _⟩
  case round =>
    obtain ⟨k, hk, rfl, rfl, ⟨vs', hown⟩, hbl⟩ := hrel
    by_cases hlt : k < n
    · rcases ownr_shape hown with ⟨e, he⟩ | ⟨g, cap, e, hg, hgs, _⟩
      · omega
      injection e with e1 _ e3
      obtain rfl := e1
      obtain ⟨x0, hx0⟩ := ownr_some hown (j := k * 3) (by omega)
      obtain ⟨x1, hx1⟩ := ownr_some hown (j := k * 3 + 1) (by omega)
      obtain ⟨x2, hx2⟩ := ownr_some hown (j := k * 3 + 2) (by omega)
      have f0 := World.ownsRow.frozenAt hown
      have hst := (World.ownsRow.stored (World.ownsRow.stored (World.ownsRow.stored hown (k * 3) (.int .i64 ((s : Int) + (k : Int) * 3))).1 (k * 3 + 1) (.int .i64 ((s : Int) + (k : Int) * 3 + 1))).1 (k * 3 + 2) (.bool (((s : Int) + (k : Int) * 3 + 1 + 1).tmod 3 == 0))).1
      have HS := Lib.hid hst
      have HG := Lib.hid hbl
      clear hown hbl hst
      go_wp2
      go_roundw
      case rel => exact ⟨k + 1, by omega, by go_num, by go_num, ⟨_, HS.out⟩, (only_setCell (only_setCell (only_setCell HG.out _ _) _ _) _ _)⟩
      case measure => simp [intOf]; omega
    · obtain rfl : k = n := by omega
      go_wp2
      go_ret
      exact ⟨rfl, hbl⟩
structure SlLmp (w : World) (A : Option Addr) (n c : Nat) (ps : List Lmp) : Prop where
  pths : LmpsAt w w.heap.size A n ps
  bare : A = none → n = 0 ∧ c = 0
  small : n ≤ 4294967296
  cap : n ≤ c ∧ c ≤ maxLen
  wf : ∀ p ∈ ps, p.wf
theorem SlLmp.len {w : World} {A : Option Addr} {n c : Nat} {ps : List Lmp} (h : SlLmp w A n c ps) : ps.length = n := h.pths.1
theorem SlLmp.below {w w' : World} {A : Option Addr} {n c : Nat} {ps : List Lmp} (h : SlLmp w A n c ps) (hb : Below w.heap.size w w') : SlLmp w' A n c ps :=
  ⟨(h.pths.below hb).up hb.size, h.bare, h.small, h.cap, h.wf⟩
structure OwLmp (E : TypeId) (w : World) (lo hi : Nat) (v : Value) (ps : List Lmp) : Prop where
  own : w.ownsRow lo E 3 v ps.length (lmpcells ps)
  lt : ∀ g, v.ownBlock = some g → g < hi
  top : hi ≤ w.heap.size
theorem OwLmp.new {E : TypeId} {w : World} {lo : Nat} {v : Value} {ps : List Lmp} (h : w.ownsRow lo E 3 v ps.length (lmpcells ps)) : OwLmp E w lo w.heap.size v ps := ⟨h, fun g e => (ownr_block h g e).2, Nat.le_refl _⟩
theorem OwLmp.below {E : TypeId} {w w' : World} {lo hi : Nat} {v : Value} {ps : List Lmp} (h : OwLmp E w lo hi v ps) (hb : Below w.heap.size w w') : OwLmp E w' lo hi v ps := ⟨ownr_below h.own hb, h.lt, Nat.le_trans h.top hb.size⟩
theorem OwLmp.ints {E : TypeId} {w : World} {lo hi : Nat} {A : Option Addr} {n c : Nat} {ps : List Lmp} (h : OwLmp E w lo hi (.slice A n c) ps) : LmpsAt w w.heap.size A n ps := by
  have hn := ownr_len h.own
  subst hn
  exact ⟨rfl, ownr_cells h.own⟩
theorem OwLmp.sl {E : TypeId} {w : World} {lo hi : Nat} {A : Option Addr} {n c : Nat} {ps : List Lmp} (h : OwLmp E w lo hi (.slice A n c) ps) (hn : n ≤ 4294967296) (hw : ∀ p ∈ ps, p.wf) : SlLmp w A n c ps :=
  ⟨h.ints, ownr_nilcap h.own, hn, ownr_cap h.own, hw⟩
theorem OwLmp.part {E : TypeId} {w w' : World} {lo hi l h' : Nat} {v : Value} {ps : List Lmp} (h : OwLmp E w lo hi v ps) (hp : Part l h' w w') (hd : hi ≤ l ∨ h' ≤ lo) : OwLmp E w' lo hi v ps := by
  refine ⟨⟨h.own.1, ?_⟩, h.lt, Nat.le_trans h.top hp.size⟩
  rcases h.own.2 with h2 | ⟨g, cap, cur, rfl, hl, hg, r⟩
  · exact .inl h2
  · have hlt := h.lt g rfl
    have htop := h.top
    exact .inr ⟨g, cap, cur, rfl, hl, (hp.block g (by omega) (by omega)).trans hg, r⟩
theorem to_lmp (A : Option Addr) (n c B : Nat) (ps : List Lmp) (w : World) (h : LmpsAt w B A n ps) (hB : B ≤ w.heap.size) (hn : n ≤ 1048576) :
    Calls Try.prog 24 #[.slice A n c] w fun e w' => e = .returned (.slice (some ⟨w.heap.size, 0, none⟩) n n) ∧ w'.ownsRow w.heap.size 108 3 (.slice (some ⟨w.heap.size, 0, none⟩) n n) ps.length (lmpcells ps) ∧ Below w.heap.size w w' := by
  have hl := h.1
  refine (law_toLampS A n c B ps w h hB (by omega)).mono fun e w' ⟨h1, h2, h3⟩ => ⟨h1, ?_, h3⟩
  rw [hl]
  exact h2
theorem eqs_lmp (A : Option Addr) (n c : Nat) (ps : List Lmp) (A2 : Option Addr) (n2 c2 : Nat) (w : World) (h : LmpsAt w w.heap.size A n ps) (h2 : LmpsAt w w.heap.size A2 n2 ps) (hn : n ≤ 1048576) (hn2 : n2 ≤ 1048576) :
    Calls Try.prog 26 #[.slice A n c, .slice A2 n2 c2] w fun e w' => e = .returned (.bool true) ∧ Below w.heap.size w w' :=
  (law_eqLampS A n c _ ps A2 n2 c2 _ ps w h h2 (Nat.le_refl _) (Nat.le_refl _) (by omega) (by omega)).mono fun e w' ⟨he, hb⟩ => ⟨by rw [he, decide_eq_true rfl], hb⟩
theorem marked_lmp (A : Option Addr) (n c lo hi s : Nat) (ps : List Lmp) (w : World) (h : OwLmp 108 w lo hi (.slice A n c) ps) (hn : n ≤ 1048576) (hs : s ≤ 70368744177664) :
    Calls Try.prog 39 #[.slice A n c, .int .i64 s] w fun e w' => e = .returned (.int .i64 ((s + n * 3 : Nat) : Int)) ∧ Part lo hi w w' := by
  have hl := ownr_len h.own
  refine (law_markLampS A n c lo s (lmpcells ps) w (by have h2 := h.own; rw [← hl] at h2; exact h2) (by omega) hs).mono fun e w' ⟨he, hg⟩ => ⟨he, ⟨hg.os, hg.tape, hg.output, hg.size, fun i hi' hd => hg.block i hi' fun e => ?_⟩⟩
  have h1 := h.lt i e.symm
  have h2 := (ownr_block h.own i e.symm).1
  omega
end Go.Proofs.Ytdlcjmdkafebpaa
