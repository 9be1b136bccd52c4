/- Texts of one chain, put together: Det DemP ShrB ShgM RowL DetB DemI ShgI ShgO PlnL Shg DemA DemM ShrM Shs LawShg LawDet. -/
import Derived.Deep.RegionHeld3
import Derived.Deep.DrawnRows
import Derived.RegionTactic
import Derived.ChangeAlike
import Derived.Test.YtlpkafhapmkkfaaGreatDoorBndlF
set_option linter.unusedSimpArgs false
/- Detectors as Lean data; rows of them, and the laws' helpers for these. -/
namespace Go.Proofs.YtlpkafhapmkkfaaGreatDoor
open Go.RowKit
set_option linter.unusedVariables false

/-- a detector. -/
structure Det where
  path : Int
  count : Int
  age : Int
  broken : Bool
deriving DecidableEq
def Det.cells (p : Det) : List Value := [.int .i64 p.path, .int .i64 p.count, .int .i64 p.age, .bool p.broken]
def Det.val (p : Det) : Value := .agg #[.int .i64 p.path, .int .i64 p.count, .int .i64 p.age, .bool p.broken]
def Det.wf (p : Det) : Prop := (Lit.int .i64 p.path).wf = true ∧ (Lit.int .i64 p.count).wf = true ∧ (Lit.int .i64 p.age).wf = true
/-- the cells of a list of detectors. -/
def dcells (ps : List Det) : List Value := ps.flatMap Det.cells
theorem dcells_length (ps : List Det) : (dcells ps).length = ps.length * 4 := flat_length (f := Det.cells) (fun _ => rfl) ps
theorem dcells_take {ps : List Det} {k : Nat} {p : Det} (h : ps[k]? = some p) : dcells (ps.take (k + 1)) = dcells (ps.take k) ++ p.cells := by
  unfold dcells
  rw [List.take_add_one, h, List.flatMap_append]
  simp
theorem dcells_one (ps : List Det) : ∀ u ∈ dcells ps, u.oneCell' = true := by
  intro u hu
  obtain ⟨p, _, hp⟩ := List.mem_flatMap.1 hu
  simp only [Det.cells, List.mem_cons, List.not_mem_nil, or_false] at hp
  rcases hp with rfl | rfl | rfl | rfl <;> rfl
/-- one detector stored behind those before it. -/
theorem dcells_put {ps : List Det} {zs : List Value} {k : Nat} {p : Det} (h : ps[k]? = some p) (hz : k * 4 + 4 ≤ zs.length) :
    ((((dcells (ps.take k) ++ zs.drop (k * 4)).set (k * 4) (.int .i64 p.path)).set (k * 4 + 1) (.int .i64 p.count)).set (k * 4 + 2) (.int .i64 p.age)).set (k * 4 + 3) (.bool p.broken) = dcells (ps.take (k + 1)) ++ zs.drop ((k + 1) * 4) := by
  obtain ⟨z0, z1, z2, z3, hd⟩ := drop4 hz
  have hk := (List.getElem?_eq_some_iff.1 h).1
  rw [hd, set4 (by rw [dcells_length, List.length_take]; omega), dcells_take h]
  simp [Det.cells, Nat.add_mul]
/-- A slice value that holds these detectors, in a block below B. -/
def DetsAt (w : World) (B : Nat) (A : Option Addr) (n : Nat) (ps : List Det) : Prop := ps.length = n ∧ CellsAt w B A (n * 4) (dcells ps)
theorem DetsAt.keep {w w' : World} {B : Nat} {A : Option Addr} {n : Nat} {ps : List Det} (h : DetsAt w B A n ps) (hk : ∀ p : Addr, p.block < B → w'.cell? p = w.cell? p) : DetsAt w' B A n ps := ⟨h.1, h.2.keep hk⟩
theorem DetsAt.below {w w' : World} {B : Nat} {A : Option Addr} {n : Nat} {ps : List Det} (h : DetsAt w B A n ps) (hb : Below B w w') : DetsAt w' B A n ps := ⟨h.1, h.2.below hb⟩
theorem DetsAt.up {w : World} {B B' : Nat} {A : Option Addr} {n : Nat} {ps : List Det} (h : DetsAt w B A n ps) (hB : B ≤ B') : DetsAt w B' A n ps := ⟨h.1, h.2.up hB⟩
/-- a detector lies at q. -/
structure DetAt (w : World) (q : Addr) (p : Det) : Prop where
  c0 : w.cell? q = some (.int .i64 p.path)
  c1 : w.cell? ⟨q.block, q.off + 1, none⟩ = some (.int .i64 p.count)
  c2 : w.cell? ⟨q.block, q.off + 2, none⟩ = some (.int .i64 p.age)
  c3 : w.cell? ⟨q.block, q.off + 3, none⟩ = some (.bool p.broken)
theorem DetAt.keep {w w' : World} {q : Addr} {p : Det} (h : DetAt w q p) (e : w'.heap[q.block]? = w.heap[q.block]?) : DetAt w' q p :=
  ⟨(World.cell?_of_block e).trans h.c0, (World.cell?_of_block (a := ⟨q.block, q.off + 1, none⟩) e).trans h.c1, (World.cell?_of_block (a := ⟨q.block, q.off + 2, none⟩) e).trans h.c2, (World.cell?_of_block (a := ⟨q.block, q.off + 3, none⟩) e).trans h.c3⟩
theorem DetAt.below {w w' : World} {q : Addr} {p : Det} {B : Nat} (h : DetAt w q p) (hb : Below B w w') (hB : q.block < B) : DetAt w' q p := h.keep (hb.block _ hB)
theorem add_plusD (q : Addr) (i : Nat) (h : 0 < i) : q.add i = ⟨q.block, q.off + i, none⟩ := by unfold Addr.add; rw [if_neg (by omega)]
theorem DetsAt.at {w : World} {B : Nat} {A : Option Addr} {n : Nat} {ps : List Det} (h : DetsAt w B A n ps) {k : Nat} (hk : k < n) : ∃ ad p, A = some ad ∧ (ad.add (k * 4)).block < B ∧ ps[k]? = some p ∧ DetAt w (ad.add (k * 4)) p := by
  obtain ⟨hl, _, hc⟩ := h
  obtain ⟨ad, e, hb, hc⟩ := hc (by omega)
  have hp : ps[k]? = some ps[k] := List.getElem?_eq_getElem (by omega)
  have hg := fun i (hi : i < 4) => flat_get (f := Det.cells) (fun _ => rfl) ps k i _ hp hi
  have ha := fun i (hi : 0 < i) => (add_add ad (k * 4) i).symm.trans (add_plusD _ i hi)
  refine ⟨ad, ps[k], e, by rw [add_block]; exact hb, hp, hc _ _ (hg 0 (by decide)), ?_, ?_, ?_⟩
  · rw [← ha 1 (by decide)]; exact hc _ _ (hg 1 (by decide))
  · rw [← ha 2 (by decide)]; exact hc _ _ (hg 2 (by decide))
  · rw [← ha 3 (by decide)]; exact hc _ _ (hg 3 (by decide))
theorem info_det : (Tryz.prog.info? 97).map (fun i => (i.zero, i.size, i.bytes)) = some (some (.agg #[.int .i64 0, .int .i64 0, .int .i64 0, .bool false]), 4, 32) := by kernel_rfl
theorem made_det (n : Nat) : (madeCells (Value.agg #[Value.int .i64 0, Value.int .i64 0, Value.int .i64 0, Value.bool false]).cells (n * 4)).toList = dcells (List.replicate n ⟨0, 0, 0, false⟩) := by
  have h : (Value.agg #[Value.int .i64 0, Value.int .i64 0, Value.int .i64 0, Value.bool false]).cells = #[Value.int .i64 0, Value.int .i64 0, Value.int .i64 0, Value.bool false] := rfl
  rw [h]
  apply List.ext_getElem?
  intro i
  simp only [madeCells, Array.toList_map, List.getElem?_map]
  by_cases hi : i < n * 4
  · have hg := flat_get (f := Det.cells) (fun _ => rfl) (List.replicate n ⟨0, 0, 0, false⟩) (i / 4) (i % 4) ⟨0, 0, 0, false⟩ (by rw [List.getElem?_replicate, if_pos (by omega)]) (Nat.mod_lt _ (by decide))
    rw [show i / 4 * 4 + i % 4 = i by omega] at hg
    unfold dcells
    rw [hg]
    have h4 : i % 4 = 0 ∨ i % 4 = 1 ∨ i % 4 = 2 ∨ i % 4 = 3 := by omega
    rcases h4 with h4 | h4 | h4 | h4 <;> simp [hi, h4, Det.cells]
  · rw [List.getElem?_eq_none (l := dcells _) (by rw [dcells_length, List.length_replicate]; omega)]
    simp [hi]
theorem law_toDetector (p : Det) (w : World) : Calls Tryz.prog 56 #[p.val] w fun e w' => e = .returned p.val ∧ Below w.heap.size w w' := by
  obtain ⟨a, b, c, d⟩ := p
  simp only [Det.val]
  go_enter Tryz.func56, Tryz.ntmps56
  go_wp2
  refine bodyPost_ret (by rw [results_cell rfl]; go_simp; try rfl) rfl ?_
  exact ⟨rfl, ((((Below.refl _ _).alloc (Nat.le_refl _) _).alloc (by simp) _).alloc (by simp; omega) _)⟩
theorem law_toDetectorS (A : Option Addr) (n c B : Nat) (ps : List Det) (w : World) (h : DetsAt w B A n ps) (hB : B ≤ w.heap.size) (hn : n ≤ 4294967296) :
    Calls Tryz.prog 25 #[.slice A n c] w fun e w' => e = .returned (.slice (some ⟨w.heap.size, 0, none⟩) n n) ∧ w'.ownsRow w.heap.size 97 4 (.slice (some ⟨w.heap.size, 0, none⟩) n n) n (dcells ps) ∧ Below w.heap.size w w' := by
  have hl := h.1
  go_enter Tryz.func25, Tryz.ntmps25
  go_wp2_with ((with_reducible show wpList _ _ _ _ _ _); refine wpList_mkR rfl _ _ _ rfl 97 _ 4 _ Tryz.underlying45 info_det (by decide) (n : Int) (n : Int) n rfl rfl rfl rfl (by omega) ?_; intro w1 hown hgrow)
  go_loopw [4] (fun i wr => ∃ k : Nat, k ≤ n ∧ i = .int .i64 k ∧ wr.ownsRow w.heap.size 97 4 (.slice (some ⟨w.heap.size, 0, none⟩) n n) n (dcells (ps.take k) ++ (dcells (List.replicate n ⟨0, 0, 0, false⟩)).drop (k * 4)) ∧ Below w.heap.size w wr) (fun i _ => n - (intOf i).toNat)
  case atStart => exact ⟨0, Nat.zero_le _, rfl, by rw [made_det] at hown; simpa [dcells] using hown, below_grown hgrow⟩
  case round =>
    obtain ⟨k, hk, rfl, hown, hbl⟩ := hrel
    by_cases hlt : k < n
    · obtain ⟨ad, p, rfl, hab, hp, hq⟩ := h.at hlt
      obtain ⟨c0, c1, c2, c3⟩ := hq.below hbl (by omega)
      go_wp2_with fail
      refine (law_toDetector p _).mono ?_
      rintro e w2 ⟨rfl, hb2⟩
      have hown2 := ownr_below hown hb2
      obtain ⟨x0, hx0⟩ := ownr_some hown2 (j := k * 4) (by omega)
      obtain ⟨x1, hx1⟩ := ownr_some hown2 (j := k * 4 + 1) (by omega)
      obtain ⟨x2, hx2⟩ := ownr_some hown2 (j := k * 4 + 2) (by omega)
      obtain ⟨x3, hx3⟩ := ownr_some hown2 (j := k * 4 + 3) (by omega)
      have f0 := World.ownsRow.frozenAt hown2
      have hst := (World.ownsRow.stored (World.ownsRow.stored (World.ownsRow.stored (World.ownsRow.stored hown2 (k * 4) (.int .i64 p.path)).1 (k * 4 + 1) (.int .i64 p.count)).1 (k * 4 + 2) (.int .i64 p.age)).1 (k * 4 + 3) (.bool p.broken)).1
      rw [dcells_put hp (by rw [dcells_length, List.length_replicate]; omega)] at hst
      have HS := Lib.hid hst
      have HB := Lib.hid (hbl.trans (hb2.mono hbl.size))
      simp only [Det.val]
      clear hown hown2 hbl hb2 hst hq
      go_wp2
      go_roundw
      case rel => exact ⟨k + 1, by omega, by go_num, HS.out, (((HB.out.setCell (Nat.le_refl _) _).setCell (Nat.le_refl _) _).setCell (Nat.le_refl _) _).setCell (Nat.le_refl _) _⟩
      case measure => simp [intOf]; omega
    · obtain rfl : k = n := by omega
      rw [List.take_of_length_le (by omega), List.drop_of_length_le (by rw [dcells_length, List.length_replicate]; exact Nat.le_refl _), List.append_nil] at hown
      go_wp2
      go_ret
      exact ⟨rfl, hown, hbl⟩
theorem law_eqDetector (p q : Det) (w : World) : Calls Tryz.prog 64 #[p.val, q.val] w fun e w' => e = .returned (.bool (decide (p = q))) ∧ Below w.heap.size w w' := by
  obtain ⟨a, b, c, d⟩ := p
  obtain ⟨a', b', c', d'⟩ := q
  simp only [Det.val, Det.mk.injEq]
  have hb0 := ((Below.refl w.heap.size w).alloc (Nat.le_refl _) (.cells #[.int .i64 a, .int .i64 b, .int .i64 c, .bool d] 97)).alloc (by simp) (.cells #[.int .i64 a', .int .i64 b', .int .i64 c', .bool d'] 97)
  have HB := Lib.hid hb0
  clear hb0
  by_cases h0 : a = a'
  rotate_left
  · have e0 : (a != a') = true := by simpa using h0
    go_enter Tryz.func64, Tryz.ntmps64
    go_wp2
    go_ret
    exact ⟨by simp [h0], HB.out⟩
  subst h0
  by_cases h1 : b = b'
  rotate_left
  · have e0 : (b != b') = true := by simpa using h1
    go_enter Tryz.func64, Tryz.ntmps64
    go_wp2
    go_ret
    exact ⟨by simp [h1], HB.out⟩
  subst h1
  by_cases h2 : c = c'
  rotate_left
  · have e0 : (c != c') = true := by simpa using h2
    go_enter Tryz.func64, Tryz.ntmps64
    go_wp2
    go_ret
    exact ⟨by simp [h2], HB.out⟩
  subst h2
  cases d <;> cases d'
  all_goals
    go_enter Tryz.func64, Tryz.ntmps64
    go_wp2
    go_ret
    exact ⟨by simp, HB.out⟩
theorem law_eqDetectorS (A : Option Addr) (n c B : Nat) (ps : List Det) (A2 : Option Addr) (n2 c2 B2 : Nat) (qs : List Det) (w : World) (h : DetsAt w B A n ps) (h2 : DetsAt w B2 A2 n2 qs) (hB : B ≤ w.heap.size) (hB2 : B2 ≤ w.heap.size) (hn : n ≤ 4294967296) (hn2 : n2 ≤ 4294967296) :
    Calls Tryz.prog 27 #[.slice A n c, .slice A2 n2 c2] w fun e w' => e = .returned (.bool (decide (ps = qs))) ∧ Below w.heap.size w w' := by
  have hl := h.1
  have hl2 := h2.1
  by_cases hne : n = n2
  · subst hne
    go_enter Tryz.func27, Tryz.ntmps27
    go_wp2
    go_loopw [5] (fun i wr => ∃ k : Nat, k ≤ n ∧ i = .int .i64 k ∧ ps.take k = qs.take k ∧ Below w.heap.size w wr) (fun i _ => n - (intOf i).toNat)
    case atStart => exact ⟨0, Nat.zero_le _, rfl, by simp, Below.refl _ _⟩
    case round =>
      obtain ⟨k, hk, rfl, hsame, hbl⟩ := hrel
      by_cases hlt : k < n
      · obtain ⟨ad, p, rfl, hab, hp, hq⟩ := h.at hlt
        obtain ⟨ad2, q, rfl, hab2, hp2, hq2⟩ := h2.at hlt
        replace hq := hq.below hbl (by omega)
        replace hq2 := hq2.below hbl (by omega)
        have i1 : (0 : Int) ≤ (k : Int) := by omega
        have i2 : (k : Int) < (n : Int) := by omega
        have hsz := hbl.size
        go_wp2
        go_region_held3 (fun W' => W'.cell? (ad.add (k * 4)) = some (.int .i64 p.path) ∧ W'.cell? ⟨(ad.add (k * 4)).block, (ad.add (k * 4)).off + 1, none⟩ = some (.int .i64 p.count) ∧ W'.cell? ⟨(ad.add (k * 4)).block, (ad.add (k * 4)).off + 2, none⟩ = some (.int .i64 p.age) ∧ W'.cell? ⟨(ad.add (k * 4)).block, (ad.add (k * 4)).off + 3, none⟩ = some (.bool p.broken) ∧
            W'.cell? (ad2.add (k * 4)) = some (.int .i64 q.path) ∧ W'.cell? ⟨(ad2.add (k * 4)).block, (ad2.add (k * 4)).off + 1, none⟩ = some (.int .i64 q.count) ∧ W'.cell? ⟨(ad2.add (k * 4)).block, (ad2.add (k * 4)).off + 2, none⟩ = some (.int .i64 q.age) ∧ W'.cell? ⟨(ad2.add (k * 4)).block, (ad2.add (k * 4)).off + 3, none⟩ = some (.bool q.broken))
          (first | exact ⟨hq.c0, hq.c1, hq.c2, hq.c3, hq2.c0, hq2.c1, hq2.c2, hq2.c3⟩ | exact ⟨hr.c0, hr.c1, hr.c2, hr.c3, hr2.c0, hr2.c1, hr2.c2, hr2.c3⟩ | fail "keep")
          (first
            | (go_at_call 64; refine (law_eqDetector p q _).mono ?_; rintro e w3 ⟨rfl, hb3⟩; have hb3' : Below wr.heap.size wr w3 := below_undrew hb3; have hr := hq.below hb3' (by omega); have hr2 := hq2.below hb3' (by omega)))
        have HB := Lib.hid (hbl.trans (hb3'.mono hsz))
        clear hq hq2 hr hr2 hb3 hb3' hbl
        by_cases hpq : p = q
        · have HT : Hid (ps.take (k + 1) = qs.take (k + 1)) := Lib.hid (by rw [List.take_add_one, List.take_add_one, hsame, hp, hp2, hpq])
          rw [decide_eq_true hpq]
          clear hsame hp hp2
          go_wp2
          go_roundw
          case rel => exact ⟨k + 1, by omega, by go_num, HT.out, HB.out⟩
          case measure => simp [intOf]; omega
        · have HN : Hid (decide (ps = qs) = false) := Lib.hid (by rw [decide_eq_false_iff_not]; rintro rfl; rw [hp] at hp2; exact hpq (Option.some.inj hp2))
          rw [decide_eq_false hpq]
          clear hsame hp hp2
          go_wp2
          go_ret
          exact ⟨by rw [HN.out]; rfl, HB.out⟩
      · obtain rfl : k = n := by omega
        have HN : Hid (decide (ps = qs) = true) := Lib.hid (by rw [decide_eq_true_eq]; rwa [List.take_of_length_le (by omega), List.take_of_length_le (by omega)] at hsame)
        go_wp2
        go_ret
        exact ⟨by rw [HN.out]; rfl, hbl⟩
  · have HN : Hid (decide (ps = qs) = false) := Lib.hid (by rw [decide_eq_false_iff_not]; rintro rfl; omega)
    go_enter Tryz.func27, Tryz.ntmps27
    go_wp2
    go_ret
    exact ⟨by rw [HN.out]; rfl, Below.refl _ _⟩
theorem law_szDetectorS (A : Option Addr) (n c : Nat) (w : World) (hn : n ≤ 9223372036854775807) :
    Calls Tryz.prog 23 #[.slice A n c, .int .i64 1048576] w fun e w' => e = .returned (.int .i64 (if n ≤ 1048576 then 1048576 - (n : Int) else -1)) ∧ w = w' := by
  by_cases h : n ≤ 1048576
  · rw [if_pos h]
    go_enter Tryz.func23, Tryz.ntmps23
    go_wp2
    go_ret
    exact ⟨rfl, rfl⟩
  · rw [if_neg h]
    go_enter Tryz.func23, Tryz.ntmps23
    go_wp2
    go_ret
    exact ⟨rfl, rfl⟩
theorem law_markDetectorS (A : Option Addr) (n c lo s : Nat) (vs : List Value) (w : World) (h : w.ownsRow lo 97 4 (.slice A n c) n vs) (hn : n ≤ 4294967296) (hs : s ≤ 70368744177664) :
    Calls Tryz.prog 28 #[.slice A n c, .int .i64 s] w fun e w' => e = .returned (.int .i64 ((s + n * 4 : Nat) : Int)) ∧ w.grownBy w' (Value.ownBlock (.slice A n c)) := by
  go_enter Tryz.func28, Tryz.ntmps28
  go_wp2
  go_loopw [1, 5] (fun x i wr => ∃ k : Nat, k ≤ n ∧ i = .int .i64 k ∧ x = .int .i64 ((s + k * 4 : Nat) : Int) ∧ (∃ vs', wr.ownsRow lo 97 4 (.slice A n c) n vs') ∧ w.grownBy wr (Value.ownBlock (.slice A n c))) (fun _ i _ => n - (intOf i).toNat)
  case atStart => exact ⟨0, Nat.zero_le _, rfl, by simp, ⟨vs, h⟩, World.grownBy.refl _ _⟩
  case round =>
    obtain ⟨k, hk, rfl, rfl, ⟨vs', hown⟩, hbl⟩ := hrel
    by_cases hlt : k < n
    · rcases ownr_shape hown with ⟨e, he⟩ | ⟨g, cap, e, hg, hgs, _⟩
      · omega
      injection e with e1 _ e3
      obtain rfl := e1
      obtain ⟨x0, hx0⟩ := ownr_some hown (j := k * 4) (by omega)
      obtain ⟨x1, hx1⟩ := ownr_some hown (j := k * 4 + 1) (by omega)
      obtain ⟨x2, hx2⟩ := ownr_some hown (j := k * 4 + 2) (by omega)
      obtain ⟨x3, hx3⟩ := ownr_some hown (j := k * 4 + 3) (by omega)
      have f0 := World.ownsRow.frozenAt hown
      have hst := (World.ownsRow.stored (World.ownsRow.stored (World.ownsRow.stored (World.ownsRow.stored hown (k * 4) (.int .i64 ((s : Int) + (k : Int) * 4))).1 (k * 4 + 1) (.int .i64 ((s : Int) + (k : Int) * 4 + 1))).1 (k * 4 + 2) (.int .i64 ((s : Int) + (k : Int) * 4 + 1 + 1))).1 (k * 4 + 3) (.bool (((s : Int) + (k : Int) * 4 + 1 + 1 + 1).tmod 3 == 0))).1
      have HS := Lib.hid hst
      have HG := Lib.hid hbl
      clear hown hbl hst
      go_wp2
      go_roundw
      case rel => exact ⟨k + 1, by omega, by go_num, by go_num, ⟨_, HS.out⟩, only_setCell (only_setCell (only_setCell (only_setCell HG.out _ _) _ _) _ _) _ _⟩
      case measure => simp [intOf]; omega
    · obtain rfl : k = n := by omega
      go_wp2
      go_ret
      exact ⟨rfl, hbl⟩
/-- a slice of detectors that may be read. -/
structure SlT (w : World) (A : Option Addr) (n c : Nat) (ps : List Det) : Prop where
  pths : DetsAt w w.heap.size A n ps
  bare : A = none → n = 0 ∧ c = 0
  small : n ≤ 4294967296
  cap : n ≤ c ∧ c ≤ maxLen
  wf : ∀ p ∈ ps, p.wf
theorem SlT.len {w : World} {A : Option Addr} {n c : Nat} {ps : List Det} (h : SlT w A n c ps) : ps.length = n := h.pths.1
theorem SlT.below {w w' : World} {A : Option Addr} {n c : Nat} {ps : List Det} (h : SlT w A n c ps) (hb : Below w.heap.size w w') : SlT w' A n c ps :=
  ⟨(h.pths.below hb).up hb.size, h.bare, h.small, h.cap, h.wf⟩
/-- a row of detectors of the call's own, between two block numbers. -/
structure OwT (E : TypeId) (w : World) (lo hi : Nat) (v : Value) (ps : List Det) : Prop where
  own : w.ownsRow lo E 4 v ps.length (dcells ps)
  lt : ∀ g, v.ownBlock = some g → g < hi
  top : hi ≤ w.heap.size
theorem OwT.new {E : TypeId} {w : World} {lo : Nat} {v : Value} {ps : List Det} (h : w.ownsRow lo E 4 v ps.length (dcells ps)) : OwT E w lo w.heap.size v ps := ⟨h, fun g e => (ownr_block h g e).2, Nat.le_refl _⟩
theorem OwT.below {E : TypeId} {w w' : World} {lo hi : Nat} {v : Value} {ps : List Det} (h : OwT E w lo hi v ps) (hb : Below w.heap.size w w') : OwT E w' lo hi v ps := ⟨ownr_below h.own hb, h.lt, Nat.le_trans h.top hb.size⟩
theorem OwT.ints {E : TypeId} {w : World} {lo hi : Nat} {A : Option Addr} {n c : Nat} {ps : List Det} (h : OwT E w lo hi (.slice A n c) ps) : DetsAt w w.heap.size A n ps := by
  have hn := ownr_len h.own
  subst hn
  exact ⟨rfl, ownr_cells h.own⟩
theorem OwT.sl {E : TypeId} {w : World} {lo hi : Nat} {A : Option Addr} {n c : Nat} {ps : List Det} (h : OwT E w lo hi (.slice A n c) ps) (hn : n ≤ 4294967296) (hw : ∀ p ∈ ps, p.wf) : SlT w A n c ps :=
  ⟨h.ints, ownr_nilcap h.own, hn, ownr_cap h.own, hw⟩
theorem OwT.part {E : TypeId} {w w' : World} {lo hi l h' : Nat} {v : Value} {ps : List Det} (h : OwT E w lo hi v ps) (hp : Part l h' w w') (hd : hi ≤ l ∨ h' ≤ lo) : OwT E w' lo hi v ps := by
  refine ⟨⟨h.own.1, ?_⟩, h.lt, Nat.le_trans h.top hp.size⟩
  rcases h.own.2 with h2 | ⟨g, cap, cur, rfl, hl, hg, r⟩
  · exact .inl h2
  · have hlt := h.lt g rfl
    have htop := h.top
    exact .inr ⟨g, cap, cur, rfl, hl, (hp.block g (by omega) (by omega)).trans hg, r⟩
theorem to_det (A : Option Addr) (n c B : Nat) (ps : List Det) (w : World) (h : DetsAt w B A n ps) (hB : B ≤ w.heap.size) (hn : n ≤ 1048576) :
    Calls Tryz.prog 25 #[.slice A n c] w fun e w' => e = .returned (.slice (some ⟨w.heap.size, 0, none⟩) n n) ∧ w'.ownsRow w.heap.size 97 4 (.slice (some ⟨w.heap.size, 0, none⟩) n n) ps.length (dcells ps) ∧ Below w.heap.size w w' := by
  have hl := h.1
  refine (law_toDetectorS A n c B ps w h hB (by omega)).mono fun e w' ⟨h1, h2, h3⟩ => ⟨h1, ?_, h3⟩
  rw [hl]
  exact h2
theorem eqs_det (A : Option Addr) (n c : Nat) (ps : List Det) (A2 : Option Addr) (n2 c2 : Nat) (w : World) (h : DetsAt w w.heap.size A n ps) (h2 : DetsAt w w.heap.size A2 n2 ps) (hn : n ≤ 1048576) (hn2 : n2 ≤ 1048576) :
    Calls Tryz.prog 27 #[.slice A n c, .slice A2 n2 c2] w fun e w' => e = .returned (.bool true) ∧ Below w.heap.size w w' :=
  (law_eqDetectorS A n c _ ps A2 n2 c2 _ ps w h h2 (Nat.le_refl _) (Nat.le_refl _) (by omega) (by omega)).mono fun e w' ⟨he, hb⟩ => ⟨by rw [he, decide_eq_true rfl], hb⟩
theorem marked_det (A : Option Addr) (n c lo hi s : Nat) (ps : List Det) (w : World) (h : OwT 97 w lo hi (.slice A n c) ps) (hn : n ≤ 1048576) (hs : s ≤ 70368744177664) :
    Calls Tryz.prog 28 #[.slice A n c, .int .i64 s] w fun e w' => e = .returned (.int .i64 ((s + n * 4 : Nat) : Int)) ∧ Part lo hi w w' := by
  have hl := ownr_len h.own
  refine (law_markDetectorS A n c lo s (dcells ps) w (by have h2 := h.own; rw [← hl] at h2; exact h2) (by omega) hs).mono fun e w' ⟨he, hg⟩ => ⟨he, ⟨hg.os, hg.tape, hg.output, hg.size, fun i hi' hd => hg.block i hi' fun e => ?_⟩⟩
  have h1 := h.lt i e.symm
  have h2 := (ownr_block h.own i e.symm).1
  omega
theorem sz_det (A : Option Addr) (n c : Nat) (left : Int) (w : World) (hn : n ≤ 9223372036854775807) (hl : 0 ≤ left ∧ left ≤ 1048576) :
    Calls Tryz.prog 23 #[.slice A n c, .int .i64 left] w fun e w' => e = .returned (.int .i64 (if (n : Int) ≤ left then left - (n : Int) else -1)) ∧ w = w' := by
  obtain ⟨l1, l2⟩ := hl
  by_cases h : (n : Int) ≤ left
  · rw [if_pos h]
    go_enter Tryz.func23, Tryz.ntmps23
    go_wp2
    go_ret
    exact ⟨rfl, rfl⟩
  · rw [if_neg h]
    go_enter Tryz.func23, Tryz.ntmps23
    go_wp2
    go_ret
    exact ⟨rfl, rfl⟩
end Go.Proofs.YtlpkafhapmkkfaaGreatDoor

/- Chapter 10's answers as Lean data; no program. -/
namespace Go.Proofs.YtlpkafhapmkkfaaGreatDoor
open Go.RowKit
set_option linter.unusedVariables false

def det0 : Det := ⟨0, 0, 0, false⟩
/-- the j-th detector. -/
def dAt (ds : List Det) (j : Nat) : Det := ds.getD j det0
theorem dAt_some {ds : List Det} {k : Nat} {p : Det} (h : ds[k]? = some p) : dAt ds k = p := by simp [dAt, List.getD, h]
theorem dAt_get {ds : List Det} {k : Nat} (h : k < ds.length) : ds[k]? = some (dAt ds k) := by
  rw [List.getElem?_eq_getElem h]
  simp [dAt, List.getD, List.getElem?_eq_getElem h]
/-- what IsTrusted answers. -/
def trust (d : Det) : Bool := !d.broken && decide (d.age ≤ 900)
/-- a trusted detector of this path. -/
def trFor (id : Int) (d : Det) : Bool := decide (d.path = id) && trust d
/-- the index of the first one. -/
def trK (id : Int) : List Det → Option Nat
  | [] => none
  | d :: ds => if trFor id d then some 0 else (trK id ds).map (· + 1)
theorem trK_some {id : Int} : ∀ {ds : List Det} {k : Nat}, (∀ j, j < k → trFor id (dAt ds j) = false) → k < ds.length → trFor id (dAt ds k) = true → trK id ds = some k
  | [], k, _, h, _ => by simp at h
  | x :: ds, 0, _, h, hp => by
    have : trFor id x = true := hp
    simp [trK, this]
  | x :: ds, k + 1, hn, h, hp => by
    have h0 : trFor id x = false := hn 0 (by omega)
    have ih := trK_some (ds := ds) (k := k) (fun j hj => hn (j + 1) (by omega)) (by simpa using h) hp
    simp [trK, h0, ih]
theorem trK_none {id : Int} : ∀ {ds : List Det}, (∀ j, j < ds.length → trFor id (dAt ds j) = false) → trK id ds = none
  | [], _ => rfl
  | x :: ds, hn => by
    have h0 : trFor id x = false := hn 0 (by simp)
    have ih := trK_none (ds := ds) (fun j hj => hn (j + 1) (by simpa using hj))
    simp [trK, h0, ih]
theorem trK_at {id : Int} : ∀ {ds : List Det} {k : Nat}, trK id ds = some k → k < ds.length
  | [], k, h => by simp [trK] at h
  | x :: ds, k, h => by
    unfold trK at h
    split at h
    · simp at h; subst h; simp
    · cases e : trK id ds with
      | none => rw [e] at h; simp at h
      | some m =>
        rw [e] at h
        simp at h
        subst h
        have := trK_at e
        simpa using this
/-- the count of the first trusted one, or else the other number. -/
def cntD (ds : List Det) (id other : Int) : Int := match trK id ds with | none => other | some k => (dAt ds k).count
def lowD (ds : List Det) (id : Int) : Int := cntD ds id 0
def highD (ds : List Det) (id : Int) : Int := cntD ds id 1000
/-- the greatest of the first k. -/
def stgTo (ds : List Det) (zs : List Int) : Nat → Int
  | 0 => 0
  | k + 1 => if k = 0 then lowD ds (zs.getD 0 0) else maxI (stgTo ds zs k) (lowD ds (zs.getD k 0))
/-- what StageDemand answers. -/
def stgD (ds : List Det) (zs : List Int) : Int := stgTo ds zs zs.length
/-- what BlindPaths answers. -/
def blindP (ps : List Pth) (ds : List Det) : List Int := (ps.filter fun p => (trK p.id ds).isNone).map Pth.id
theorem blind_zero (ps : List Pth) (ds : List Det) : blindP (ps.take 0) ds = [] := by simp [blindP]
theorem blind_yes {ps : List Pth} {ds : List Det} {k : Nat} {p : Pth} (hp : ps[k]? = some p) (h : (trK p.id ds).isNone = true) : blindP (ps.take (k + 1)) ds = blindP (ps.take k) ds ++ [p.id] := by
  unfold blindP
  rw [List.take_add_one, hp, List.filter_append]
  simp only [Option.toList, List.filter_cons, List.filter_nil, h, if_true, List.map_append, List.map_cons, List.map_nil]
theorem blind_no {ps : List Pth} {ds : List Det} {k : Nat} {p : Pth} (hp : ps[k]? = some p) (h : (trK p.id ds).isNone = false) : blindP (ps.take (k + 1)) ds = blindP (ps.take k) ds := by
  unfold blindP
  rw [List.take_add_one, hp, List.filter_append]
  simp [Option.toList, List.filter_cons, List.filter_nil, h]
theorem blind_len (ps : List Pth) (ds : List Det) (k : Nat) : (blindP (ps.take k) ds).length ≤ k := by
  unfold blindP
  rw [List.length_map]
  exact Nat.le_trans (List.length_filter_le _ _) (by rw [List.length_take]; omega)
/-- the i-th detector's own numbers are good. -/
def okD (ps : List Pth) (ds : List Det) (i : Nat) : Bool := decide (0 ≤ findI (dAt ds i).path ps) && inB (dAt ds i).count 0 1000 && inB (dAt ds i).age 0 100000
/-- no earlier one is for the same path. -/
def newD (ds : List Det) (i : Nat) : Bool := (List.range i).all fun k => !decide ((dAt ds k).path = (dAt ds i).path)
def goodD (ps : List Pth) (ds : List Det) (i : Nat) : Bool := okD ps ds i && newD ds i
/-- what AreDetectors answers. -/
def areD (ps : List Pth) (ds : List Det) : Bool := (List.range ds.length).all (goodD ps ds) && (arePs ps && decide (ds.length ≤ 12))
theorem areD_no {ps : List Pth} {ds : List Det} {i : Nat} (hi : i < ds.length) (h : goodD ps ds i = false) : areD ps ds = false := by
  unfold areD
  have : (List.range ds.length).all (goodD ps ds) = false := by
    rw [Bool.eq_false_iff]
    intro ha
    have := List.all_eq_true.1 ha i (List.mem_range.2 hi)
    rw [h] at this
    cases this
  rw [this]
  rfl
theorem areD_end {ps : List Pth} {ds : List Det} (h : ∀ i, i < ds.length → goodD ps ds i = true) : areD ps ds = (arePs ps && decide (ds.length ≤ 12)) := by
  unfold areD
  have : (List.range ds.length).all (goodD ps ds) = true := List.all_eq_true.2 fun k hk => h k (List.mem_range.1 hk)
  rw [this]
  simp
theorem newD_no {ds : List Det} {i k : Nat} (hk : k < i) (h : (dAt ds k).path = (dAt ds i).path) : newD ds i = false := by
  unfold newD
  rw [Bool.eq_false_iff]
  intro ha
  have := List.all_eq_true.1 ha k (List.mem_range.2 hk)
  simp [h] at this
theorem newD_yes {ds : List Det} {i : Nat} (h : ∀ k, k < i → (dAt ds k).path ≠ (dAt ds i).path) : newD ds i = true := by
  unfold newD
  refine List.all_eq_true.2 fun k hk => ?_
  have := h k (List.mem_range.1 hk)
  simp [this]
theorem cntD_bound {ds : List Det} (h : ∀ d ∈ ds, d.wf) (id other : Int) (ho : -9223372036854775808 ≤ other ∧ other ≤ 9223372036854775807) : -9223372036854775808 ≤ cntD ds id other ∧ cntD ds id other ≤ 9223372036854775807 := by
  unfold cntD
  split
  · exact ho
  · rename_i k hk
    have hl := trK_at hk
    have hw := h (dAt ds k) (List.mem_of_getElem? (dAt_get hl))
    exact i64_of_wf hw.2.1
end Go.Proofs.YtlpkafhapmkkfaaGreatDoor

/- Chapter 11's answers as Lean data. No walk. -/
namespace Go.Proofs.YtlpkafhapmkkfaaGreatDoor
open Go.RowKit
set_option linter.unusedVariables false

/-- the seconds that the first k parts need. -/
def needTo (ps : List Pth) (p : List Prt) : Nat → Int
  | 0 => 0
  | k + 1 => needTo ps p k + (leastG ps (prAt p k).stage + clrAt ps p k)
theorem needTo_bound (ps : List Pth) (p : List Prt) : ∀ k : Nat, 0 ≤ needTo ps p k ∧ needTo ps p k ≤ 12 * k
  | 0 => by simp [needTo]
  | k + 1 => by
    have ih := needTo_bound ps p k
    have := leastG_bound ps (prAt p k).stage
    have := clrAt_bound ps p k
    unfold needTo
    omega
/-- what SpareGreen answers. -/
def spareP (ps : List Pth) (p : List Prt) (c : Int) : Int := if isPlan ps p && inB c 1 1000 then maxI (-1) (c - needTo ps p p.length) else -1
theorem spareP_off {ps : List Pth} {p : List Prt} {c : Int} (h : (isPlan ps p && inB c 1 1000) = false) : spareP ps p c = -1 := by unfold spareP; rw [h]; rfl
theorem spareP_on {ps : List Pth} {p : List Prt} {c : Int} (h : isPlan ps p = true) (h2 : inB c 1 1000 = true) : spareP ps p c = maxI (-1) (c - needTo ps p p.length) := by unfold spareP; rw [h, h2]; rfl
theorem spareP_bound (ps : List Pth) (p : List Prt) (c : Int) : -1 ≤ spareP ps p c ∧ spareP ps p c ≤ 1000 := by
  unfold spareP
  split
  · rename_i h
    rw [Bool.and_eq_true] at h
    have := inB_t h.2
    have := needTo_bound ps p p.length
    unfold maxI
    split <;> omega
  · omega
/-- what GreenShare answers. -/
def shareG (ps : List Pth) (p : List Prt) (i : Int) : Int := if isPlan ps p && inB i 0 ((p.length : Int) - 1) then 100 * (prAt p i.toNat).green / sumTo ps p p.length else 0
/-- the weight of a part, and of the first k. -/
def wgt (ds : List Det) (p : List Prt) (j : Nat) : Int := stgD ds (prAt p j).stage + 1
def wgtTo (ds : List Det) (p : List Prt) : Nat → Int
  | 0 => 0
  | k + 1 => wgtTo ds p k + wgt ds p k
/-- the whole seconds of the first k parts. -/
def cutTo (ds : List Det) (p : List Prt) (s : Int) : Nat → Int
  | 0 => 0
  | k + 1 => cutTo ds p s k + s * wgt ds p k / wgtTo ds p p.length
/-- a part with its share. -/
def shrAt (ps : List Pth) (ds : List Det) (p : List Prt) (s : Int) (j : Nat) : Prt :=
  ⟨(prAt p j).stage, minI 60 (leastG ps (prAt p j).stage + s * wgt ds p j / wgtTo ds p p.length + (if (j : Int) < s - cutTo ds p s p.length then 1 else 0))⟩
/-- what ShareGreen answers. -/
def shareP (ps : List Pth) (p : List Prt) (ds : List Det) (c : Int) : List Prt × Bool :=
  if spareP ps p c < 0 || !areD ps ds then (p, false) else ((List.range p.length).map (shrAt ps ds p (spareP ps p c)), true)
/-- the remainders of the first k parts. -/
def remTo (ds : List Det) (p : List Prt) (s : Int) : Nat → Int
  | 0 => 0
  | k + 1 => remTo ds p s k + s * wgt ds p k % wgtTo ds p p.length
theorem rem_cut (ds : List Det) (p : List Prt) (s : Int) : ∀ k, s * wgtTo ds p k = wgtTo ds p p.length * cutTo ds p s k + remTo ds p s k
  | 0 => by simp [wgtTo, cutTo, remTo]
  | k + 1 => by
    have ih := rem_cut ds p s k
    have h := Int.emod_add_mul_ediv (s * wgt ds p k) (wgtTo ds p p.length)
    unfold cutTo remTo
    rw [show wgtTo ds p (k + 1) = wgtTo ds p k + wgt ds p k from rfl, Int.mul_add, Int.mul_add, ih]
    omega
/-- what is left by rounding down. -/
theorem left_rem {ds : List Det} {p : List Prt} (s : Int) (h : 0 < wgtTo ds p p.length) : remTo ds p s p.length / wgtTo ds p p.length = s - cutTo ds p s p.length := by
  have e := rem_cut ds p s p.length
  have : remTo ds p s p.length = wgtTo ds p p.length * (s - cutTo ds p s p.length) := by
    rw [Int.mul_sub, Int.mul_comm _ s]
    omega
  rw [this]
  exact Int.mul_ediv_cancel_left _ (by omega)
end Go.Proofs.YtlpkafhapmkkfaaGreatDoor

/- Chapter 11: ShareGreen: what it answers. -/
namespace Go.Proofs.YtlpkafhapmkkfaaGreatDoor
open Go.RowKit
set_option linter.unusedVariables false

/-- the sum of the first k. -/
def sumN (f : Nat → Int) : Nat → Int
  | 0 => 0
  | k + 1 => sumN f k + f k
theorem sumN_split (f q r : Nat → Int) (T : Int) (h : ∀ i, f i = T * q i + r i) : ∀ k, sumN f k = T * sumN q k + sumN r k
  | 0 => by simp [sumN]
  | k + 1 => by
    show sumN f k + f k = T * (sumN q k + q k) + (sumN r k + r k)
    rw [sumN_split f q r T h k, h k, Int.mul_add]
    omega
theorem sumN_mul (s : Int) (f : Nat → Int) : ∀ k, sumN (fun i => s * f i) k = s * sumN f k
  | 0 => by simp [sumN]
  | k + 1 => by
    show sumN (fun i => s * f i) k + s * f k = s * (sumN f k + f k)
    rw [sumN_mul s f k, Int.mul_add]
theorem sumN_bd {f : Nat → Int} {a b : Int} (h : ∀ i, a ≤ f i ∧ f i ≤ b) : ∀ k : Nat, a * k ≤ sumN f k ∧ sumN f k ≤ b * k
  | 0 => by simp [sumN]
  | k + 1 => by
    have ih := sumN_bd h k
    have hk := h k
    show a * ((k + 1 : Nat) : Int) ≤ sumN f k + f k ∧ sumN f k + f k ≤ b * ((k + 1 : Nat) : Int)
    rw [show ((k + 1 : Nat) : Int) = (k : Int) + 1 by omega, Int.mul_add, Int.mul_add]
    omega
theorem sumN_list (f : Nat → Int) (n : Nat) : ((List.range n).map f).sum = sumN f n := by
  induction n with
  | zero => rfl
  | succ n ih => rw [List.range_succ, List.map_append, List.sum_append, ih]; simp [sumN]
/-- the part's weight. -/
def wtG (ds : List Det) (p : List Prt) (k : Nat) : Int := stgD ds (prAt p k).stage + 1
def totWt (ds : List Det) (p : List Prt) : Int := sumN (wtG ds p) p.length
def quoG (ds : List Det) (p : List Prt) (s : Int) (k : Nat) : Int := (s * wtG ds p k).tdiv (totWt ds p)
def remG (ds : List Det) (p : List Prt) (s : Int) (k : Nat) : Int := (s * wtG ds p k) % (totWt ds p)
def leftG (ds : List Det) (p : List Prt) (s : Int) : Int := s - sumN (quoG ds p s) p.length
theorem cnt_good {ps : List Pth} {ds : List Det} (h : areD ps ds = true) (id : Int) : 0 ≤ lowD ds id ∧ lowD ds id ≤ 1000 := by
  unfold lowD cntD
  split
  · decide
  · rename_i k hk
    have hl := trK_at hk
    unfold areD at h
    rw [Bool.and_eq_true] at h
    have hg := List.all_eq_true.1 h.1 k (List.mem_range.2 hl)
    unfold goodD okD at hg
    simp only [Bool.and_eq_true] at hg
    have h2 := hg.1.1.2
    simp only [inB, Bool.and_eq_true, decide_eq_true_eq] at h2
    omega
theorem stg_good {ps : List Pth} {ds : List Det} (h : areD ps ds = true) (zs : List Int) : ∀ k, 0 ≤ stgTo ds zs k ∧ stgTo ds zs k ≤ 1000
  | 0 => ⟨Int.le_refl _, by show (0 : Int) ≤ 1000; decide⟩
  | k + 1 => by
    have ih := stg_good h zs k
    have h0 := cnt_good h (zs.getD 0 0)
    have hk := cnt_good h (zs.getD k 0)
    unfold stgTo
    split
    · exact h0
    · unfold maxI; split <;> omega
theorem wt_good {ps : List Pth} {ds : List Det} (h : areD ps ds = true) (p : List Prt) (k : Nat) : 1 ≤ wtG ds p k ∧ wtG ds p k ≤ 1001 := by
  have := stg_good h (prAt p k).stage (prAt p k).stage.length
  unfold wtG stgD
  omega
section
variable {ps : List Pth} {ds : List Det} {p : List Prt} {s : Int}
theorem tot_good (h : areD ps ds = true) (h0 : 0 < p.length) (h6 : p.length ≤ 6) : 1 ≤ totWt ds p ∧ totWt ds p ≤ 6006 := by
  have := sumN_bd (wt_good h p) p.length
  unfold totWt
  omega
theorem sw_good (h : areD ps ds = true) (hs : 0 ≤ s ∧ s ≤ 1000) (k : Nat) : 0 ≤ s * wtG ds p k ∧ s * wtG ds p k ≤ 1001000 := by
  have hw := wt_good h p k
  have h1 : 0 ≤ s * wtG ds p k := Int.mul_nonneg hs.1 (by omega)
  have h2 : s * wtG ds p k ≤ 1000 * 1001 := Int.mul_le_mul hs.2 hw.2 (by omega) (by omega)
  omega
theorem quo_good (h : areD ps ds = true) (hs : 0 ≤ s ∧ s ≤ 1000) (h0 : 0 < p.length) (h6 : p.length ≤ 6) (k : Nat) : 0 ≤ quoG ds p s k ∧ quoG ds p s k ≤ 1001000 := by
  have ht := tot_good h h0 h6
  have hw := sw_good (p := p) h hs k
  unfold quoG
  rw [Int.tdiv_eq_ediv_of_nonneg hw.1]
  exact ⟨Int.ediv_nonneg hw.1 (by omega), Int.le_trans (Int.ediv_le_self _ hw.1) hw.2⟩
theorem rem_good (h : areD ps ds = true) (hs : 0 ≤ s ∧ s ≤ 1000) (h0 : 0 < p.length) (h6 : p.length ≤ 6) (k : Nat) : 0 ≤ remG ds p s k ∧ remG ds p s k < totWt ds p := by
  have ht := tot_good h h0 h6
  have hw := sw_good (p := p) h hs k
  unfold remG
  exact ⟨Int.emod_nonneg _ (by omega), Int.emod_lt_of_pos _ (by omega)⟩
theorem rem_sum (h : areD ps ds = true) (hs : 0 ≤ s ∧ s ≤ 1000) : sumN (remG ds p s) p.length = totWt ds p * leftG ds p s := by
  have h1 := sumN_split (fun i => s * wtG ds p i) (quoG ds p s) (remG ds p s) (totWt ds p) (fun i => by unfold quoG remG; rw [Int.tdiv_eq_ediv_of_nonneg (sw_good h hs i).1]; exact (Int.mul_ediv_add_emod _ _).symm) p.length
  rw [sumN_mul] at h1
  unfold leftG
  rw [Int.mul_sub]
  have h2 : s * sumN (wtG ds p) p.length = totWt ds p * s := by rw [Int.mul_comm]; rfl
  omega
theorem left_good (h : areD ps ds = true) (hs : 0 ≤ s ∧ s ≤ 1000) (h0 : 0 < p.length) (h6 : p.length ≤ 6) : 0 ≤ leftG ds p s ∧ leftG ds p s < p.length := by
  have ht := tot_good h h0 h6
  have hr := rem_sum (p := p) h hs
  have hb := sumN_bd (f := remG ds p s) (a := 0) (b := totWt ds p - 1) (fun i => by have := rem_good h hs h0 h6 i; omega) p.length
  rw [hr, Int.zero_mul] at hb
  refine ⟨?_, ?_⟩
  · by_cases hc : 0 ≤ leftG ds p s
    · exact hc
    · have : totWt ds p * leftG ds p s < 0 := Int.mul_neg_of_pos_of_neg (by omega) (by omega)
      omega
  · by_cases hc : leftG ds p s < p.length
    · exact hc
    · have h1 : totWt ds p * (p.length : Int) ≤ totWt ds p * leftG ds p s := Int.mul_le_mul_of_nonneg_left (by omega) (by omega)
      rw [Int.sub_mul] at hb
      omega
theorem left_div (h : areD ps ds = true) (hs : 0 ≤ s ∧ s ≤ 1000) (h0 : 0 < p.length) (h6 : p.length ≤ 6) : (sumN (remG ds p s) p.length).tdiv (totWt ds p) = leftG ds p s := by
  have ht := tot_good h h0 h6
  rw [rem_sum h hs, Int.mul_comm, Int.mul_tdiv_cancel _ (by omega)]
end
/-- what the part is given beside what it needs. -/
def shrG (ds : List Det) (p : List Prt) (s : Int) (k : Nat) : Int := quoG ds p s k + (if (k : Int) < leftG ds p s then 1 else 0)
def newG (ps : List Pth) (ds : List Det) (p : List Prt) (s : Int) (k : Nat) : Int := minI (leastG ps (prAt p k).stage + shrG ds p s k) 60
/-- the parts with other greens. -/
def grnP (p : List Prt) (f : Nat → Int) : List Prt := (List.range p.length).map fun i => ⟨(prAt p i).stage, f i⟩
theorem grnP_len (p : List Prt) (f : Nat → Int) : (grnP p f).length = p.length := by simp [grnP]
theorem grnP_at {p : List Prt} {f : Nat → Int} {k : Nat} (h : k < p.length) : prAt (grnP p f) k = ⟨(prAt p k).stage, f k⟩ := prAt_some (by simp [grnP, h])
theorem grnP_self (p : List Prt) : grnP p (fun i => (prAt p i).green) = p := by
  apply List.ext_getElem?
  intro i
  by_cases h : i < p.length
  · rw [prAt_get h]; simp [grnP, h]
  · rw [List.getElem?_eq_none (by rw [grnP_len]; omega), List.getElem?_eq_none (by omega)]
theorem grnP_congr {p : List Prt} {f g : Nat → Int} (h : ∀ i, i < p.length → f i = g i) : grnP p f = grnP p g := by
  unfold grnP
  apply List.map_congr_left
  intro i hi
  rw [h i (List.mem_range.1 hi)]
/-- what ShareGreen answers. -/
def shrA (ps : List Pth) (p : List Prt) (ds : List Det) (c : Int) : List Prt × Bool :=
  if spareP ps p c = -1 ∨ areD ps ds = false then (p, false) else (grnP p (newG ps ds p (spareP ps p c)), true)
/-- one green turned. -/
def setF (f : Nat → Int) (k : Nat) (x : Int) (i : Nat) : Int := if i = k then x else f i
theorem prow_set (xs : List (Value × Int)) (k : Nat) (x : Int) (h : k < xs.length) : (prow xs).set (k * 2 + 1) (.int .i64 x) = prow (xs.set k (xs[k].1, x)) := by
  induction xs generalizing k with
  | nil => simp at h
  | cons y ys ih =>
    cases k with
    | zero => simp [prow]
    | succ k =>
      have := ih k (by simpa using h)
      simp only [prow, List.flatMap_cons, List.set_cons_succ, List.getElem_cons_succ] at this ⊢
      rw [← this, show (k + 1) * 2 + 1 = (k * 2 + 1) + 2 by omega]
      rfl
theorem OwnPr.green {w : World} {lo g n c : Nat} {xs : List (Value × Int)} {p : List Prt} {f : Nat → Int} {k : Nat} {x : Int} (h : OwnPr w lo (.slice (some ⟨g, 0, none⟩) n c) xs (grnP p f)) (hk : k < p.length) :
    ∃ ys, OwnPr (w.setCell ⟨g, k * 2 + 1, none⟩ (.int .i64 x)) lo (.slice (some ⟨g, 0, none⟩) n c) ys (grnP p (setF f k x)) := by
  have hl : (grnP p f).length = p.length := grnP_len p f
  have hn : n = (grnP p f).length := ownr_len h.row
  have hxl := h.pe.len
  have hkx : k < xs.length := by omega
  subst hn
  have hst := World.ownsRow.stored h.row (k * 2 + 1) (.int .i64 x)
  refine ⟨xs.set k (xs[k].1, x), ⟨?_, ?_, ?_⟩⟩
  · rw [show (grnP p (setF f k x)).length = (grnP p f).length by rw [grnP_len, grnP_len], ← prow_set xs k x hkx]
    exact hst.1
  · intro j hj
    rw [grnP_len] at hj
    obtain ⟨u, h1, h2⟩ := h.each j (by omega)
    rw [grnP_at hj] at h1 h2 ⊢
    refine ⟨u, ?_, h2.grown hst.2 (fun b hb e => own_apartP h2 h.row b hb (by rw [← e]; rfl))⟩
    by_cases e : j = k
    · subst e
      rw [List.getElem?_set_self hkx]
      have : xs[j] = (u, f j) := by rw [List.getElem?_eq_getElem hkx] at h1; exact Option.some.inj h1
      rw [this]
      simp [setF]
    · rw [List.getElem?_set_ne (fun e2 => e e2.symm), h1]
      simp [setF, e]
  · have : (xs.set k (xs[k].1, x)).map (·.1) = xs.map (·.1) := by
      rw [List.map_set]
      apply List.ext_getElem?
      intro i
      by_cases e : k = i
      · subst e
        rw [List.getElem?_set_self (by simpa using hkx)]
        simp [List.getElem?_eq_getElem hkx]
      · rw [List.getElem?_set_ne e]
    rw [this]
    exact h.apart
end Go.Proofs.YtlpkafhapmkkfaaGreatDoor

/- LightsAt of the program. -/
namespace Go.Proofs.YtlpkafhapmkkfaaGreatDoor
open Go.RowKit
set_option linter.unusedVariables false

/-- the first k of n answers, and zeros. -/
def litTo (f : Nat → Int) (n k : Nat) : List Int := (List.range n).map fun j => if j < k then f j else 0
theorem litTo_len (f : Nat → Int) (n k : Nat) : (litTo f n k).length = n := by simp [litTo]
theorem litTo_zero (f : Nat → Int) (n : Nat) : litTo f n 0 = List.replicate n 0 := by
  unfold litTo
  apply List.ext_getElem
  · simp
  · intro k h1 h2
    simp
theorem litTo_full (f : Nat → Int) (n : Nat) : litTo f n n = (List.range n).map f := by
  unfold litTo
  apply List.ext_getElem
  · simp
  · intro k h1 h2
    have hk : k < n := by simpa using h1
    simp [hk]
theorem litTo_set (f : Nat → Int) {n k : Nat} (hk : k < n) : (litTo f n k).set k (f k) = litTo f n (k + 1) := by
  unfold litTo
  apply List.ext_getElem
  · simp
  · intro j h1 h2
    rw [List.getElem_set]
    by_cases e : k = j
    · subst e
      simp
    · rw [if_neg e]
      simp only [List.getElem_map, List.getElem_range]
      by_cases h3 : j < k
      · rw [if_pos h3, if_pos (by omega)]
      · rw [if_neg h3, if_neg (by omega)]
theorem lightsP_range (ps : List Pth) (p : List Prt) (t : Int) : lightsP ps p t = (List.range ps.length).map fun j => lightP ps p t (idAt ps j) := by
  unfold lightsP
  apply List.ext_getElem
  · simp
  · intro k h1 h2
    have hk : k < ps.length := by simpa using h1
    simp only [List.getElem_map, List.getElem_range]
    congr 1
    unfold idAt pAt
    rw [List.getD_eq_getElem?_getD, List.getElem?_eq_getElem hk]
    rfl
theorem lightP_zero {ps : List Pth} {p : List Prt} {t : Int} (h : (isPlan ps p && inB t 0 1000000) = false) (id : Int) : lightP ps p t id = 0 := by
  unfold lightP
  rw [h]
  rfl
theorem lightsP_zero {ps : List Pth} {p : List Prt} {t : Int} (h : (isPlan ps p && inB t 0 1000000) = false) : lightsP ps p t = List.replicate ps.length 0 := by
  unfold lightsP
  apply List.ext_getElem
  · simp
  · intro k h1 h2
    simp only [List.getElem_map, List.getElem_replicate]
    exact lightP_zero h _
theorem row_lit {ps : List Pth} {p : List Prt} (h : isPlan ps p = true) {s i : Nat} (ht : inB (s : Int) 0 1000000 = true) (hi : i < ps.length) : (rowTo ps p (idAt ps i) p.length).getD (s % (rowTo ps p (idAt ps i) p.length).length) 0 = lightP ps p (s : Int) (idAt ps i) := by
  have ha := (isPlan_parts h).2.1
  have hf : (findK (idAt ps i) ps).isSome = true := by rw [findK_of ha hi]; rfl
  have hlr := lightP_row h ht hf
  have hrp : rowP ps p (idAt ps i) = rowTo ps p (idAt ps i) p.length := by unfold rowP; rw [h, hf]; rfl
  have hl := rowTo_len h (idAt ps i) p.length (Nat.le_refl _)
  rw [hlr, hrp, ← hl]
  congr 1
end Go.Proofs.YtlpkafhapmkkfaaGreatDoor

/- AreDetectors: the set of the paths that have been met. No walk. -/
namespace Go.Proofs.YtlpkafhapmkkfaaGreatDoor
open Go.RowKit
set_option linter.unusedVariables false

/-- the paths of the first k detectors. -/
def metD (ps : List Pth) (ds : List Det) (k : Nat) : Nat := maskF (fun j => (List.range k).any fun i => decide (findK (dAt ds i).path ps = some j)) 12
theorem metD_lt (ps : List Pth) (ds : List Det) (k : Nat) : metD ps ds k < 4096 := maskF_lt _ 12
theorem metD_zero (ps : List Pth) (ds : List Det) : metD ps ds 0 = 0 := mask_ext fun j => by unfold metD; rw [maskF_bit]; simp
theorem metD_bit (ps : List Pth) (ds : List Det) (k j : Nat) : (metD ps ds k).testBit j = true ↔ j < 12 ∧ ∃ i, i < k ∧ findK (dAt ds i).path ps = some j := by
  unfold metD
  rw [maskF_bit, Bool.and_eq_true, decide_eq_true_eq, List.any_eq_true]
  simp only [List.mem_range, decide_eq_true_eq]
theorem metD_step {ps : List Pth} {ds : List Det} {k i : Nat} (h : findK (dAt ds k).path ps = some i) (hi : i < 12) : metD ps ds (k + 1) = metD ps ds k ||| 2 ^ i := mask_ext fun j => by
  rw [Bool.eq_iff_iff, metD_bit, Nat.testBit_or, Bool.or_eq_true, metD_bit, Nat.testBit_two_pow, decide_eq_true_eq]
  constructor
  · rintro ⟨h1, x, hx, e⟩
    by_cases exk : x = k
    · subst exk; rw [h] at e; exact .inr (Option.some.inj e)
    · exact .inl ⟨h1, x, by omega, e⟩
  · rintro (⟨h1, x, hx, e⟩ | rfl)
    · exact ⟨h1, x, by omega, e⟩
    · exact ⟨hi, k, by omega, h⟩
theorem and_pow_zero (m i : Nat) : m &&& 2 ^ i = 0 ↔ m.testBit i = false := by
  constructor
  · intro h
    have e : (m &&& 2 ^ i).testBit i = false := by rw [h]; exact Nat.zero_testBit i
    rw [Nat.testBit_and, Nat.testBit_two_pow, decide_eq_true rfl, Bool.and_true] at e
    exact e
  · intro h
    refine mask_ext fun j => ?_
    rw [Nat.testBit_and, Nat.testBit_two_pow, Nat.zero_testBit]
    by_cases e : i = j
    · subst e; rw [h]; rfl
    · rw [decide_eq_false e, Bool.and_false]
theorem newD_met {ps : List Pth} {ds : List Det} {k i : Nat} (h : findK (dAt ds k).path ps = some i) (hi : i < 12) : newD ds k = decide (metD ps ds k &&& 2 ^ i = 0) := by
  rw [Bool.eq_iff_iff, decide_eq_true_eq, and_pow_zero, Bool.eq_false_iff]
  constructor
  · intro hn hb
    obtain ⟨_, x, hx, e⟩ := (metD_bit _ _ _ _).1 hb
    obtain ⟨p, hp, he, _⟩ := findK_at h
    obtain ⟨q, hq, he2, _⟩ := findK_at e
    rw [hp] at hq
    cases hq
    rw [newD_no hx (he2.symm.trans he)] at hn
    cases hn
  · intro hb
    refine newD_yes fun x hx e => hb ?_
    exact (metD_bit _ _ _ _).2 ⟨hi, x, hx, by rw [e]; exact h⟩
theorem goodD_none {ps : List Pth} {ds : List Det} {k : Nat} (h : findK (dAt ds k).path ps = none) : goodD ps ds k = false := by
  unfold goodD okD
  rw [fI_no h]
  rfl
theorem goodD_some {ps : List Pth} {ds : List Det} {k i : Nat} (h : findK (dAt ds k).path ps = some i) (hi : i < 12) : goodD ps ds k = (decide (metD ps ds k &&& 2 ^ i = 0) && (inB (dAt ds k).count 0 1000 && inB (dAt ds k).age 0 100000)) := by
  unfold goodD okD
  rw [fI_some h, newD_met h hi, decide_eq_true (by omega), Bool.true_and, Bool.and_comm]
end Go.Proofs.YtlpkafhapmkkfaaGreatDoor

/- Chapter 10's program. -/
namespace Go.Proofs.YtlpkafhapmkkfaaGreatDoor
open Go.RowKit
set_option linter.unusedVariables false

theorem impl_isTrusted (d : Det) (w : World) : Calls Tryz.prog 167 #[d.val] w fun e w' => e = .returned (.bool (trust d)) ∧ Below w.heap.size w w' := by
  obtain ⟨a, b, c, x⟩ := d
  simp only [Det.val, trust]
  have HB := Lib.hid ((Below.refl w.heap.size w).alloc (Nat.le_refl _) (.cells #[.int .i64 a, .int .i64 b, .int .i64 c, .bool x] 97))
  cases x
  · by_cases h : c ≤ 900
    all_goals
      go_enter Tryz.func167, Tryz.ntmps167
      go_wp2
      go_ret
      exact ⟨by simp [h], HB.out⟩
  · go_enter Tryz.func167, Tryz.ntmps167
    go_wp2
    go_ret
    exact ⟨rfl, HB.out⟩
set_option maxHeartbeats 1000000 in
theorem impl_trusted1 (g : Nat) (p : Det) (id : Int) (w : World) (h : w.cell? ⟨g, 0, none⟩ = some (.int .i64 id)) (hg : g < w.heap.size) :
    Calls Tryz.prog 166 #[p.val, .pointer (some ⟨g, 0, none⟩)] w fun e w' => e = .returned (.bool (trFor id p)) ∧ Below w.heap.size w w' := by
  have HR : Hid (trFor id p = (decide (p.path = id) && trust p)) := Lib.hid rfl
  have hcc := fun x => impl_isTrusted p x
  obtain ⟨a, b, c, d⟩ := p
  simp only [Det.val] at *
  have hb0 := (Below.refl w.heap.size w).alloc (Nat.le_refl _) (.cells #[.int .i64 a, .int .i64 b, .int .i64 c, .bool d] 97)
  have hcell := (hb0.cell (p := ⟨g, 0, none⟩) hg).trans h
  have HB0 := Lib.hid hb0
  clear hb0 h
  by_cases he : a = id
  · have e1 : (a == id) = true := by simpa using he
    rw [decide_eq_true he] at HR
    clear he
    go_enter Tryz.func166, Tryz.ntmps166
    go_wp2_with fail
    refine (hcc _).mono ?_
    rintro e w1 ⟨rfl, hb1⟩
    go_wp2
    go_ret
    exact ⟨by rw [HR.out]; rfl, HB0.out.trans (hb1.mono HB0.out.size)⟩
  · have e1 : (a == id) = false := by simpa using he
    rw [decide_eq_false he] at HR
    clear he
    go_enter Tryz.func166, Tryz.ntmps166
    go_wp2
    go_ret
    exact ⟨by rw [HR.out]; rfl, HB0.out⟩
/-- the index that is found. -/
def trI (id : Int) (ds : List Det) : Int := match trK id ds with | none => -1 | some k => k
set_option maxHeartbeats 1000000 in
theorem impl_IndexFuncD (g : Nat) (A : Option Addr) (n c B : Nat) (ds : List Det) (id : Int) (w : World) (h : DetsAt w B A n ds) (hB : B ≤ w.heap.size) (hn : n ≤ 4294967296) (hc : w.cell? ⟨g, 0, none⟩ = some (.int .i64 id)) (hg : g < w.heap.size) :
    Calls Tryz.prog 161 #[.slice A n c, .func (.func 166) #[] #[.pointer (some ⟨g, 0, none⟩)]] w fun e w' => e = .returned (.int .i64 (trI id ds)) ∧ Below w.heap.size w w' := by
  have hl := h.1
  go_enter Tryz.func161, Tryz.ntmps161
  go_wp2
  go_loopw [8] (fun i wr => ∃ k : Nat, k ≤ n ∧ i = .int .i64 k ∧ (∀ j, j < k → trFor id (dAt ds j) = false) ∧ Below w.heap.size w wr) (fun i _ => n - (intOf i).toNat)
  case atStart => exact ⟨0, Nat.zero_le _, rfl, fun j hj => absurd hj (by omega), Below.refl _ _⟩
  case round =>
    obtain ⟨k, hk, rfl, hno, hbl⟩ := hrel
    have hsz := hbl.size
    by_cases hlt : k < n
    · obtain ⟨ad, p, rfl, hab, hp, hq⟩ := h.at hlt
      have hdp := dAt_some hp
      obtain ⟨c0, c1, c2, c3⟩ := hq.below hbl (by omega)
      have hcw := (hbl.cell (p := ⟨g, 0, none⟩) hg).trans hc
      have HN := Lib.hid hno
      have hv : p.val = .agg #[.int .i64 p.path, .int .i64 p.count, .int .i64 p.age, .bool p.broken] := rfl
      have hcc := impl_trusted1 g p id wr hcw (by omega)
      rw [hv] at hcc
      have HB := Lib.hid hbl
      clear hno hq hcw hc hbl hv
      go_wp2_with fail
      refine hcc.mono ?_
      rintro e w1 ⟨rfl, hb⟩
      have HB1 := Lib.hid (HB.out.trans (hb.mono HB.out.size))
      clear hb hcc
      cases he : trFor id p
      · have HN2 : Hid (∀ j, j < k + 1 → trFor id (dAt ds j) = false) := Lib.hid (fun j hj => by
          by_cases e : j = k
          · subst e; rw [hdp]; exact he
          · exact HN.out j (by omega))
        clear he
        go_wp2
        go_roundw
        case rel => exact ⟨k + 1, by omega, by go_num, HN2.out, HB1.out⟩
        case measure => simp [intOf]; omega
      · have HR : Hid (trI id ds = (k : Int)) := Lib.hid (by unfold trI; rw [trK_some HN.out (by omega) (by rw [hdp]; exact he)])
        clear he
        go_wp2
        go_ret
        exact ⟨by rw [HR.out]; rfl, HB1.out⟩
    · obtain rfl : k = n := by omega
      have HR : Hid (trI id ds = -1) := Lib.hid (by unfold trI; rw [trK_none (fun j hj => hno j (by omega))])
      clear hno
      go_wp2
      go_ret
      exact ⟨by rw [HR.out]; rfl, hbl⟩
theorem impl_trustedFor (id : Int) (w : World) : Calls Tryz.prog 162 #[.int .i64 id] w fun e w' => e = .returned (.func (.func 166) #[] #[.pointer (some ⟨w.heap.size, 0, none⟩)]) ∧ w' = w.alloc (.cells #[.int .i64 id] 3) := by
  have hmf : ∀ (fn : Fn) (first cap : Array Value) (w : World), (Instr.makeFunc fn first cap).run Tryz.prog w = .ok (.func fn first cap) w := fun _ _ _ _ => rfl
  go_enter Tryz.func162, Tryz.ntmps162
  go_wp2
  go_ret
  exact ⟨rfl, rfl⟩
set_option maxHeartbeats 1000000 in
theorem impl_trustedCount (A : Option Addr) (n c B : Nat) (ds : List Det) (id o : Int) (w : World) (h : DetsAt w B A n ds) (hB : B ≤ w.heap.size) (hn : n ≤ 4294967296) :
    Calls Tryz.prog 152 #[.slice A n c, .int .i64 id, .int .i64 o] w fun e w' => e = .returned (.int .i64 (cntD ds id o)) ∧ Below w.heap.size w w' := by
  have hl := h.1
  have hb0 : Below w.heap.size w (w.alloc (.cells #[.int .i64 id] 3)) := (Below.refl _ _).alloc (Nat.le_refl _) _
  have HP := Lib.hid ((h.below (hb0.mono hB)).up (B' := (w.alloc (.cells #[.int .i64 id] 3)).heap.size) (by simp; omega))
  go_enter Tryz.func152, Tryz.ntmps152
  go_wp2_with fail
  refine (impl_trustedFor id _).mono ?_
  rintro e w1 ⟨rfl, rfl⟩
  go_wp2_with fail
  refine (impl_IndexFuncD w.heap.size A n c _ ds id _ HP.out (Nat.le_refl _) hn (by go_simp) (by simp)).mono ?_
  rintro e w2 ⟨rfl, hb2⟩
  have hbl2 := hb0.trans (hb2.mono (by simp))
  clear hb2
  cases hk : trK id ds with
  | none =>
    have HR : Hid (cntD ds id o = o) := Lib.hid (by unfold cntD; rw [hk])
    have hi : trI id ds = -1 := by unfold trI; rw [hk]
    rw [hi]
    clear hi hk
    go_wp2
    go_ret
    exact ⟨by rw [HR.out]; try rfl, hbl2⟩
  | some k =>
    have hkl := trK_at hk
    have HR : Hid (cntD ds id o = (dAt ds k).count) := Lib.hid (by unfold cntD; rw [hk])
    have hi : trI id ds = (k : Int) := by unfold trI; rw [hk]
    rw [hi]
    obtain ⟨ad, p, rfl, hab, hp, hq⟩ := h.at (k := k) (by omega)
    rw [dAt_some hp] at HR
    obtain ⟨c0, c1, c2, c3⟩ := hq.below hbl2 (by omega)
    clear hi hk hq hp
    go_wp2
    go_ret
    exact ⟨by rw [HR.out]; try rfl, hbl2⟩
theorem impl_LowDemand (A : Option Addr) (n c B : Nat) (ds : List Det) (id : Int) (w : World) (h : DetsAt w B A n ds) (hB : B ≤ w.heap.size) (hn : n ≤ 4294967296) :
    Calls Tryz.prog 132 #[.slice A n c, .int .i64 id] w fun e w' => e = .returned (.int .i64 (cntD ds id 0)) ∧ Below w.heap.size w w' := by
  go_enter Tryz.func132, Tryz.ntmps132
  go_wp2_with fail
  refine (impl_trustedCount A n c B ds id 0 _ h hB hn).mono ?_
  rintro e w2 ⟨rfl, hb2⟩
  go_wp2
  go_ret
  exact ⟨rfl, hb2⟩
set_option maxHeartbeats 1000000 in
theorem impl_StageDemand (A : Option Addr) (n c B : Nat) (ds : List Det) (A2 : Option Addr) (n2 c2 B2 : Nat) (zs : List Int) (w : World) (h : DetsAt w B A n ds) (h2 : IntsAt .i64 w B2 A2 n2 zs) (hB : B ≤ w.heap.size) (hB2 : B2 ≤ w.heap.size) (hn : n ≤ 4294967296) (hn2 : n2 ≤ 4294967296) (hc2 : n2 ≤ c2 ∧ c2 ≤ maxLen) :
    Calls Tryz.prog 109 #[.slice A n c, .slice A2 n2 c2] w fun e w' => e = .returned (.int .i64 (stgD ds zs)) ∧ Below w.heap.size w w' := by
  have hl2 := h2.1
  obtain ⟨hc3, hc4⟩ := hc2
  unfold maxLen at hc4
  by_cases h0 : n2 = 0
  · subst h0
    have HR : Hid (stgD ds zs = 0) := Lib.hid (by unfold stgD; rw [hl2]; rfl)
    clear hl2
    go_enter Tryz.func109, Tryz.ntmps109
    go_wp2
    go_ret
    exact ⟨by rw [HR.out]; try rfl, Below.refl _ _⟩
  obtain ⟨ad, rfl, hab, hcell⟩ := h2.2 (by omega)
  have HD := Lib.hid (fun x id (hx : Below w.heap.size w x) => impl_LowDemand A n c B ds id x (h.below (hx.mono hB)) (by have := hx.size; omega) hn)
  have HCE := Lib.hid hcell
  have HR : Hid (stgD ds zs = stgTo ds zs n2) := Lib.hid (by unfold stgD; rw [hl2])
  have hc0 := hcell 0 (by omega)
  have e0 : ad.add 0 = ad := rfl
  have i0 : (0 : Int) < (n2 : Int) := by omega
  have HS1 : Hid (stgTo ds zs 1 = lowD ds (zs.getD 0 0)) := Lib.hid (by simp [stgTo])
  have HST : Hid (∀ k, stgTo ds zs (k + 1 + 1) = maxI (stgTo ds zs (k + 1)) (lowD ds (zs.getD (k + 1) 0))) := Lib.hid (fun k => by show (if k + 1 = 0 then _ else _) = _; rw [if_neg (by omega)])
  clear hcell hl2
  rw [e0] at hc0
  clear e0
  generalize hz0 : zs.getD 0 0 = z0 at *
  clear hz0
  have HAD : Hid (∀ k, k + 1 < n2 → w.cell? ⟨ad.block, ad.off + 1 + k, none⟩ = some (.int .i64 (zs.getD (k + 1) 0))) := Lib.hid (fun k hk => by
    have h1 := HCE.out (k + 1) hk
    rw [add_plus _ _ (by omega), show ad.off + (k + 1) = ad.off + 1 + k by omega] at h1
    exact h1)
  by_cases hc1 : c2 = 1
  all_goals
    go_enter Tryz.func109, Tryz.ntmps109
    go_wp2_with fail
    refine (HD.out w z0 (Below.refl _ _)).mono ?_
    rintro e w1 ⟨rfl, hb1⟩
    rw [show cntD ds z0 0 = stgTo ds zs 1 from HS1.out.symm]
    go_wp2
    go_loopw [5, 19] (fun x i wr => ∃ k : Nat, k ≤ n2 - 1 ∧ i = .int .i64 k ∧ x = .int .i64 (stgTo ds zs (k + 1)) ∧ Below w.heap.size w wr) (fun _ i _ => n2 - 1 - (intOf i).toNat)
    case atStart => exact ⟨0, Nat.zero_le _, rfl, rfl, hb1⟩
    case round =>
      clear hb1
      obtain ⟨k, hk, rfl, rfl, hbl⟩ := hrel
      have hsz := hbl.size
      have HM1 := Lib.hid (HST.out k)
      by_cases hlt : k < n2 - 1
      · first
        | (exfalso; omega)
        | (have hc := (hbl.cell (p := ⟨ad.block, ad.off + 1 + k, none⟩) (Nat.lt_of_lt_of_le hab hB2)).trans (HAD.out k (by omega))
           have hdd := fun x (hx : Below w.heap.size w x) => HD.out x (zs.getD (k + 1) 0) hx
           have hlw : ∀ z, cntD ds z 0 = lowD ds z := fun _ => rfl
           generalize zs.getD (k + 1) 0 = z at *
           generalize stgTo ds zs (k + 1) = m1 at *
           go_wp2_with fail
           refine (hdd _ hbl).mono ?_
           rw [hlw]
           rintro e w2 ⟨rfl, hb2⟩
           have hbl2 := hbl.trans (hb2.mono hsz)
           generalize lowD ds z = y at *
           clear hb2 hdd hlw
           go_wp2_with fail
           refine (impl_Max _ _ _).mono ?_
           rintro e w3 ⟨rfl, hb3⟩
           have hbl3 := hbl2.trans (hb3.mono hbl2.size)
           go_wp2
           go_roundw
           case rel => exact ⟨k + 1, by omega, by go_num, by rw [HM1.out], hbl3⟩
           case measure => simp [intOf]; omega)
      · obtain rfl : k = n2 - 1 := by omega
        have HE : Hid (stgTo ds zs (n2 - 1 + 1) = stgD ds zs) := Lib.hid (by rw [HR.out]; congr 1; omega)
        go_wp2
        go_ret
        exact ⟨by rw [← HE.out]; try rfl, hbl⟩
theorem mask_bit (i : Nat) (w : World) (h : i < 12) : Calls Tryz.prog 108 #[.int .i64 (i : Nat)] w fun e w' => e = .returned (.int .u16 ((2 ^ i : Nat) : Int)) ∧ w = w' := by
  have HS := Lib.hid (shl_bit i h)
  go_enter Tryz.func108, Tryz.ntmps108
  go_wp2
  go_ret
  exact ⟨by have := HS.out; rw [Nat.min_eq_left (by omega), Int.one_mul] at this; rw [← this]; rfl, rfl⟩
theorem areD_off {ps : List Pth} {ds : List Det} (h : (arePs ps && decide (ds.length ≤ 12)) = false) : areD ps ds = false := by unfold areD; rw [h, Bool.and_false]
theorem arePs_le {ps : List Pth} (h : arePs ps = true) : ps.length ≤ 12 := by
  unfold arePs at h
  simp only [Bool.and_eq_true, decide_eq_true_eq] at h
  exact h.2
set_option maxHeartbeats 1000000 in
set_option maxRecDepth 100000 in
theorem impl_AreDetectors (A : Option Addr) (n c B : Nat) (ps : List Pth) (A2 : Option Addr) (n2 c2 B2 : Nat) (ds : List Det) (w : World) (h : PthsAt w B A n ps) (h2 : DetsAt w B2 A2 n2 ds) (hB : B ≤ w.heap.size) (hB2 : B2 ≤ w.heap.size) (hn : n ≤ 4294967296) (hn2 : n2 ≤ 4294967296) :
    Calls Tryz.prog 59 #[.slice A n c, .slice A2 n2 c2] w fun e w' => e = .returned (.bool (areD ps ds)) ∧ Below w.heap.size w w' := by
  have hl := h.1
  have hl2 := h2.1
  have HAP := Lib.hid (impl_ArePaths A n c B ps w h hB hn)
  cases ha : arePs ps
  · have HR : Hid (areD ps ds = false) := Lib.hid (areD_off (by rw [ha]; rfl))
    have HA := Lib.hid ha
    clear ha
    go_enter Tryz.func59, Tryz.ntmps59
    go_wp2_with fail
    refine HAP.out.mono ?_
    rw [HA.out]
    rintro e w1 ⟨rfl, hb1⟩
    go_wp2
    go_ret
    exact ⟨by rw [HR.out]; rfl, hb1⟩
  by_cases h12 : n2 ≤ 12
  rotate_left
  · have HR : Hid (areD ps ds = false) := Lib.hid (areD_off (by rw [ha, decide_eq_false (by omega)]; rfl))
    have HA := Lib.hid ha
    clear ha
    go_enter Tryz.func59, Tryz.ntmps59
    go_wp2_with fail
    refine HAP.out.mono ?_
    rw [HA.out]
    rintro e w1 ⟨rfl, hb1⟩
    go_wp2
    go_ret
    exact ⟨by rw [HR.out]; rfl, hb1⟩
  have hp12 := arePs_le ha
  have HEND : Hid ((∀ i, i < n2 → goodD ps ds i = true) → areD ps ds = true) := Lib.hid (fun hg => by rw [areD_end (fun i hi => hg i (by omega)), ha, decide_eq_true (by omega)]; rfl)
  have HNO : Hid (∀ i, i < n2 → goodD ps ds i = false → areD ps ds = false) := Lib.hid (fun i hi hg => areD_no (by omega) hg)
  have HA := Lib.hid ha
  have HZ := Lib.hid (metD_zero ps ds)
  clear ha
  go_enter Tryz.func59, Tryz.ntmps59
  go_wp2_with fail
  refine HAP.out.mono ?_
  rw [HA.out]
  rintro e w1 ⟨rfl, hb1⟩
  clear HAP
  go_wp2
  go_loopw [5, 19] (fun x i wr => ∃ k q : Nat, k ≤ n2 ∧ i = .int .i64 k ∧ x = .int .u16 (q : Nat) ∧ q = metD ps ds k ∧ (∀ j, j < k → goodD ps ds j = true) ∧ Below w.heap.size w wr) (fun _ i _ => n2 - (intOf i).toNat)
  case atStart => exact ⟨0, 0, Nat.zero_le _, rfl, rfl, HZ.out.symm, fun j hj => absurd hj (by omega), hb1⟩
  case round =>
    clear hb1
    obtain ⟨k, q, hk, rfl, rfl, hq, hgo, hbl⟩ := hrel
    have hsz := hbl.size
    have HQ := Lib.hid hq
    have HG := Lib.hid hgo
    have hq12 : q < 4096 := by rw [hq]; exact metD_lt _ _ _
    clear hq hgo
    by_cases hlt : k < n2
    · obtain ⟨ad2, d, rfl, hab2, hd, hqd⟩ := h2.at hlt
      have HD : Hid (dAt ds k = d) := Lib.hid (dAt_some hd)
      obtain ⟨c0, c1, c2', c3⟩ := hqd.below hbl (by omega)
      have hbA := (Below.refl wr.heap.size wr).alloc (Nat.le_refl _) (.cells #[.int .i64 d.path, .int .i64 d.count, .int .i64 d.age, .bool d.broken] 97)
      have hb1 := hbl.alloc hsz (.cells #[.int .i64 d.path, .int .i64 d.count, .int .i64 d.age, .bool d.broken] 97)
      have HP := Lib.hid ((h.below (hb1.mono hB)))
      have HB1 := Lib.hid hb1
      clear hd hqd hb1 hbA hbl
      go_wp2_with fail
      refine (impl_FindPath A n c B ps d.path _ HP.out (by simp; omega) hn).mono ?_
      cases hf : findK d.path ps
      · have HR := Lib.hid (HNO.out k hlt (goodD_none (by rw [HD.out]; exact hf)))
        rw [fI_no hf]
        rintro e w2 ⟨rfl, hb2⟩
        have HB2 := Lib.hid (HB1.out.trans (hb2.mono HB1.out.size))
        clear hf hb2
        go_wp2
        go_ret
        exact ⟨by rw [HR.out]; rfl, HB2.out⟩
      · rename_i i
        have hi := fK_lt hf
        have hi12 : i < 12 := by omega
        have hgs := goodD_some (ps := ps) (ds := ds) (k := k) (by rw [HD.out]; exact hf) hi12
        have hst := metD_step (ps := ps) (ds := ds) (k := k) (by rw [HD.out]; exact hf) hi12
        rw [← HQ.out] at hgs hst
        rw [HD.out] at hgs
        have HGS := Lib.hid hgs
        have HST := Lib.hid hst
        have hj2 : 2 ^ i < 4096 := Nat.lt_of_lt_of_le (Nat.pow_lt_pow_right (by decide) hi12) (by decide)
        have hand : bits .and .u16 (q : Int) ((2 ^ i : Nat) : Int) = ((q &&& 2 ^ i : Nat) : Int) := u16_and_nat _ _ (by omega) (by omega)
        have hor : bits .or .u16 (q : Int) ((2 ^ i : Nat) : Int) = ((q ||| 2 ^ i : Nat) : Int) := u16_or_nat _ _ (by omega) (by omega)
        have hmb := Lib.hid (fun x => mask_bit i x hi12)
        rw [fI_some hf]
        rintro e w2 ⟨rfl, hb2⟩
        have HB2 := Lib.hid (HB1.out.trans (hb2.mono HB1.out.size))
        have d1 : w2.cell? ⟨wr.heap.size, 1, none⟩ = some (.int .i64 d.count) := (hb2.cell (p := ⟨wr.heap.size, 1, none⟩) (by simp)).trans (by go_simp)
        have d2 : w2.cell? ⟨wr.heap.size, 2, none⟩ = some (.int .i64 d.age) := (hb2.cell (p := ⟨wr.heap.size, 2, none⟩) (by simp)).trans (by go_simp)
        clear hf hb2 hgs hst c0 c1 c2' c3 HB1 HP
        have hi0 : (0 : Int) ≤ (i : Int) := by omega
        generalize hx : q &&& 2 ^ i = x at *
        clear hx
        generalize q ||| 2 ^ i = y at *
        generalize (2 : Nat) ^ i = b at *
        by_cases hx0 : x = 0
        rotate_left
        · have HR := Lib.hid (HNO.out k hlt (by rw [HGS.out, decide_eq_false hx0]; rfl))
          have e1 : ((x : Int) != 0) = true := by simp; omega
          go_wp2_with fail
          refine (hmb.out _).mono ?_
          rintro e w3 ⟨rfl, rfl⟩
          go_wp2
          go_ret
          exact ⟨by rw [HR.out]; rfl, HB2.out⟩
        subst hx0
        have e1 : (((0 : Nat) : Int) != 0) = false := rfl
        cases hcn : inB d.count 0 1000
        · have HR := Lib.hid (HNO.out k hlt (by rw [HGS.out, hcn]; rfl))
          have HC := Lib.hid hcn
          clear hcn
          go_wp2_with fail
          refine (hmb.out _).mono ?_
          rintro e w3 ⟨rfl, rfl⟩
          go_wp2_with fail
          refine (impl_InRange _ _ _ _).mono ?_
          rw [HC.out]
          rintro e w3 ⟨rfl, rfl⟩
          go_wp2
          go_ret
          exact ⟨by rw [HR.out]; rfl, HB2.out⟩
        cases hag : inB d.age 0 100000
        · have HR := Lib.hid (HNO.out k hlt (by rw [HGS.out, hcn, hag]; rfl))
          have HC := Lib.hid hcn
          have HC2 := Lib.hid hag
          clear hcn hag
          go_wp2_with fail
          refine (hmb.out _).mono ?_
          rintro e w3 ⟨rfl, rfl⟩
          go_wp2_with fail
          refine (impl_InRange _ _ _ _).mono ?_
          rw [HC.out]
          rintro e w3 ⟨rfl, rfl⟩
          go_wp2_with fail
          refine (impl_InRange _ _ _ _).mono ?_
          rw [HC2.out]
          rintro e w3 ⟨rfl, rfl⟩
          go_wp2
          go_ret
          exact ⟨by rw [HR.out]; rfl, HB2.out⟩
        have HGK : Hid (goodD ps ds k = true) := Lib.hid (by rw [HGS.out, hcn, hag]; rfl)
        have HC := Lib.hid hcn
        have HC2 := Lib.hid hag
        clear hcn hag
        go_wp2_with fail
        refine (hmb.out _).mono ?_
        rintro e w3 ⟨rfl, rfl⟩
        go_wp2_with fail
        refine (impl_InRange _ _ _ _).mono ?_
        rw [HC.out]
        rintro e w3 ⟨rfl, rfl⟩
        go_wp2_with fail
        refine (impl_InRange _ _ _ _).mono ?_
        rw [HC2.out]
        rintro e w3 ⟨rfl, rfl⟩
        go_wp2_with fail
        refine (hmb.out _).mono ?_
        rintro e w3 ⟨rfl, rfl⟩
        go_wp2
        go_roundw
        case rel => exact ⟨k + 1, y, by omega, by go_num, rfl, HST.out.symm, (fun j hj => by
          by_cases e : j = k
          · subst e; exact HGK.out
          · exact HG.out j (by omega)), HB2.out⟩
        case measure => simp [intOf]; omega
    · obtain rfl : k = n2 := by omega
      have HR := Lib.hid (HEND.out HG.out)
      go_wp2
      go_ret
      exact ⟨by rw [HR.out]; rfl, hbl⟩
end Go.Proofs.YtlpkafhapmkkfaaGreatDoor

/- Chapter 11: ShareGreen: the program's weights and shares. -/
namespace Go.Proofs.YtlpkafhapmkkfaaGreatDoor
open Go.RowKit
set_option linter.unusedVariables false

theorem own_litG {w : World} {lo g n k : Nat} {f : Nat → Int} (h : Own .i64 3 w lo (.slice (some ⟨g, 0, none⟩) n n) (litTo f n k)) : w.ownsRow lo 3 1 (.slice (some ⟨g, 0, none⟩) n n) n ((litTo f n k).map (Value.int .i64)) := by
  unfold Own at h
  rwa [litTo_len] at h
theorem own_litsetG {w : World} {lo g n k : Nat} {f : Nat → Int} (h : Own .i64 3 w lo (.slice (some ⟨g, 0, none⟩) n n) (litTo f n k)) (hk : k < n) : Own .i64 3 (w.setCell ⟨g, k, none⟩ (.int .i64 (f k))) lo (.slice (some ⟨g, 0, none⟩) n n) (litTo f n (k + 1)) := by
  unfold Own
  rw [← litTo_set f hk, List.map_set, List.length_set, litTo_len]
  exact (World.ownsRow.stored (own_litG h) k (.int .i64 (f k))).1
set_option maxHeartbeats 4000000 in
set_option maxRecDepth 100000 in
theorem impl_weightsOf (A : Option Addr) (n c B : Nat) (ds : List Det) (A2 : Option Addr) (n2 c2 B2 : Nat) (p : List Prt) (w : World) (h : DetsAt w B A n ds) (hB : B ≤ w.heap.size) (hn : n ≤ 4294967296) (h2 : PrtsAt w B2 A2 n2 p) (hB2 : B2 ≤ w.heap.size) (hn2 : n2 ≤ 1048576) (hm : ∀ j, j < n2 → (prAt p j).stage.length ≤ 1048576) (hw : ∀ k, 1 ≤ wtG ds p k ∧ wtG ds p k ≤ 1001) :
    Calls Tryz.prog 61 #[.slice A2 n2 c2, .slice A n c] w fun e w' => e = .returned (.slice (some ⟨w.heap.size, 0, none⟩) n2 n2) ∧ Own .i64 3 w' w.heap.size (.slice (some ⟨w.heap.size, 0, none⟩) n2 n2) (litTo (wtG ds p) n2 n2) ∧ Below w.heap.size w w' := by
  have H2 := Lib.hid h2
  have H := Lib.hid h
  have HM := Lib.hid hm
  clear h h2 hm
  go_enter Tryz.func61, Tryz.ntmps61
  go_wp2_with ((with_reducible show wpList _ _ _ _ _ _); refine wpList_mk rfl _ _ _ rfl .i64 3 8 Tryz.underlying58 info_int1 (by decide) (n2 : Int) (n2 : Int) n2 rfl rfl rfl rfl (by omega) ?_; intro w1 hown hgrow)
  have HB1 := Lib.hid (below_grown hgrow)
  have HO1 : Hid (Own .i64 3 w1 w.heap.size (.slice (some ⟨w.heap.size, 0, none⟩) n2 n2) (litTo (wtG ds p) n2 0)) := Lib.hid (by rw [litTo_zero]; exact hown)
  clear hown hgrow
  go_loopw [13] (fun i wr => ∃ k : Nat, k ≤ n2 ∧ i = .int .i64 k ∧ Own .i64 3 wr w.heap.size (.slice (some ⟨w.heap.size, 0, none⟩) n2 n2) (litTo (wtG ds p) n2 k) ∧ Below w.heap.size w wr) (fun i _ => n2 - (intOf i).toNat)
  case atStart => exact ⟨0, Nat.zero_le _, rfl, HO1.out, HB1.out⟩
  case round =>
    clear HO1 HB1
    obtain ⟨k, hk, rfl, hown, hbl⟩ := hrel
    have HOW := Lib.hid hown
    have HBL := Lib.hid hbl
    have hsz := hbl.size
    clear hown hbl
    by_cases hlt : k < n2
    · obtain ⟨ad, A', m, c', rfl, hab, hq, hst, ⟨hc1, hc2⟩, hnil⟩ := H2.out.at hlt
      obtain ⟨c0, c1⟩ := hq.below HBL.out (by omega)
      have hml : m ≤ 1048576 := by have := hst.1; have := HM.out k hlt; omega
      have HSD := Lib.hid (fun x (hx : Below w.heap.size w x) => impl_StageDemand A n c B ds A' m c' B2 (prAt p k).stage x (H.out.keep fun _ hp => (hx.mono hB).cell hp) (hst.keep fun _ hp => (hx.mono hB2).cell hp) (Nat.le_trans hB hx.size) (Nat.le_trans hB2 hx.size) hn (by omega) ⟨hc1, hc2⟩)
      have hwk := hw k
      have HWD : Hid (wtG ds p k = stgD ds (prAt p k).stage + 1) := Lib.hid rfl
      have HGS : Hid (stgD ds (prAt p k).stage = wtG ds p k - 1) := Lib.hid (by rw [HWD.out]; omega)
      rw [HGS.out] at HSD
      have HST := Lib.hid (fun (x : World) (hx : Own .i64 3 x w.heap.size (.slice (some ⟨w.heap.size, 0, none⟩) n2 n2) (litTo (wtG ds p) n2 k)) => own_litsetG hx hlt)
      generalize wtG ds p k = t at *
      obtain ⟨wB, hwB⟩ : ∃ wB, wB = wr.alloc (.cells #[.slice A' m c', .int .i64 (prAt p k).green] 70) := ⟨_, rfl⟩
      obtain ⟨hkk, hszB, hBl⟩ := one_block hwB
      have HBB := Lib.hid (HBL.out.trans (hBl.mono HBL.out.size))
      have HC := Lib.hid (HSD.out wB HBB.out)
      have HOB := Lib.hid (HOW.out.grown (row := none) ⟨hBl.os, hBl.tape, hBl.output, hBl.size, fun i hi _ => hBl.block i hi⟩ (fun _ _ e => by cases e))
      have i1 : (0 : Int) ≤ (k : Int) := by omega
      have i2 : (k : Int) < (n2 : Int) := by omega
      clear hkk hBl hst hq HSD hnil HGS HWD
      go_wp2_with fail
      rw [← hwB]
      refine HC.out.mono ?_
      rintro e w4 ⟨rfl, hb4⟩
      clear hwB c0 c1
      have HO4 := Lib.hid (HOB.out.grown (row := none) ⟨hb4.os, hb4.tape, hb4.output, hb4.size, fun i hi _ => hb4.block i hi⟩ (fun _ _ e => by cases e))
      have HB4 := Lib.hid (HBB.out.trans (hb4.mono HBB.out.size))
      have hf := World.ownsRow.frozenAt (own_litG HO4.out) k
      obtain ⟨x0, hx0⟩ := ownr_some (own_litG HO4.out) (j := k) (by omega)
      clear hb4
      go_wp2
      go_roundw
      case rel => exact ⟨k + 1, by omega, by go_num, HST.out _ HO4.out, HB4.out.setCell (Nat.le_refl _) _⟩
      case measure => simp [intOf]; omega
    · obtain rfl : k = n2 := by omega
      go_wp2
      go_ret
      exact ⟨rfl, HOW.out, HBL.out⟩
end Go.Proofs.YtlpkafhapmkkfaaGreatDoor

/- Chapter 11: ShareGreen: the program's shares. -/
namespace Go.Proofs.YtlpkafhapmkkfaaGreatDoor
open Go.RowKit
set_option linter.unusedVariables false

theorem below_undrewG {a w : World} {B : Nat} (h : Below B a w) : Below B a w.drew := ⟨h.os, h.tape, h.output, h.size, h.block⟩
theorem litTo_get (f : Nat → Int) {n m k : Nat} (hk : k < m) (hm : m ≤ n) : (litTo f n m).getD k 0 = f k := by
  unfold litTo
  rw [List.getD_eq_getElem?_getD, List.getElem?_map, List.getElem?_range (by omega)]
  simp [hk]
/-- shares, of which the first m are one more. -/
def moreG (q : Nat → Int) (m k : Nat) : Int := q k + (if k < m then 1 else 0)
theorem moreG_set (q : Nat → Int) {n m : Nat} (h : m < n) : ((List.range n).map (moreG q m)).set m (q m + 1) = (List.range n).map (moreG q (m + 1)) := by
  apply List.ext_getElem
  · simp
  · intro j h1 h2
    rw [List.getElem_set]
    by_cases e : m = j
    · subst e
      simp [moreG]
    · rw [if_neg e]
      simp only [List.getElem_map, List.getElem_range, moreG]
      by_cases h3 : j < m
      · rw [if_pos h3, if_pos (by omega)]
      · rw [if_neg h3, if_neg (by omega)]
set_option maxHeartbeats 4000000 in
set_option maxRecDepth 100000 in
theorem impl_shareOut (A : Option Addr) (n c B : Nat) (ps : List Pth) (ds : List Det) (p : List Prt) (s : Int) (w : World) (h : IntsAt .i64 w B A n (litTo (wtG ds p) n n)) (hB : B ≤ w.heap.size) (hn : n = p.length) (ha : areD ps ds = true) (hs : 0 ≤ s ∧ s ≤ 1000) (h0 : 0 < p.length) (h6 : p.length ≤ 6) :
    Calls Tryz.prog 60 #[.int .i64 s, .slice A n c] w fun e w' => ∃ g, e = .returned (.slice (some ⟨g, 0, none⟩) n n) ∧ Own .i64 3 w' w.heap.size (.slice (some ⟨g, 0, none⟩) n n) ((List.range n).map (shrG ds p s)) ∧ Below w.heap.size w w' := by
  have hsum : (litTo (wtG ds p) n n).sum = totWt ds p := by rw [litTo_full, sumN_list, hn]; rfl
  have HS1 := Lib.hid (impl_sum A n c B _ w h (by omega) (by
    rw [litTo_full]
    intro z hz
    obtain ⟨i, _, rfl⟩ := List.mem_map.1 hz
    have := wt_good ha p i
    omega))
  rw [hsum] at HS1
  have HT := Lib.hid (tot_good ha h0 h6)
  have HH := Lib.hid h
  have HQ := Lib.hid (fun k => quo_good ha hs h0 h6 k)
  have HRM := Lib.hid (fun k => rem_good ha hs h0 h6 k)
  have HSW := Lib.hid (fun k => sw_good (p := p) ha hs k)
  have HQD : Hid (∀ k, quoG ds p s k = (s * wtG ds p k).tdiv (totWt ds p)) := Lib.hid (fun _ => rfl)
  have HRD : Hid (∀ k, remG ds p s k = (s * wtG ds p k) % (totWt ds p)) := Lib.hid (fun _ => rfl)
  have HLG := Lib.hid (left_good ha hs h0 h6)
  have HLD := Lib.hid (left_div ha hs h0 h6)
  have ht := HT.out
  have hn6 : n ≤ 6 := by omega
  have HN := Lib.hid hn
  have H0 := Lib.hid h0
  have H6 := Lib.hid h6
  clear h ha hsum hn h0 h6
  generalize totWt ds p = T at *
  obtain ⟨t1, t2⟩ := ht
  obtain ⟨s1, s2⟩ := hs
  go_enter Tryz.func60, Tryz.ntmps60
  go_wp2_with fail
  refine HS1.out.mono ?_
  rintro e w1 ⟨rfl, rfl⟩
  have flag : Hid True := Lib.hid trivial
  go_wp2_with (first | ((with_reducible show wpList _ _ _ _ _ _); refine wpList_mk rfl _ _ _ rfl .i64 3 8 Tryz.underlying58 info_int1 (by decide) (n : Int) (n : Int) n rfl rfl rfl rfl (by omega) ?_; clear flag; intro wS hoS hgS) | ((with_reducible show wpList _ _ _ _ _ _); refine wpList_mk rfl _ _ _ rfl .i64 3 8 Tryz.underlying58 info_int1 (by decide) (n : Int) (n : Int) n rfl rfl rfl rfl (by omega) ?_; intro w1 hown hgrow))
  have HBS := Lib.hid (below_grown hgS)
  have HBR := Lib.hid (below_grown hgrow)
  have hsS := (below_grown hgS).size
  have hltS : w.heap.size < wS.heap.size := (World.ownsRow.lt hoS _ rfl).2
  have HOS : Hid (Own .i64 3 w1 w.heap.size (.slice (some ⟨w.heap.size, 0, none⟩) n n) (litTo (quoG ds p s) n 0)) := Lib.hid (by rw [litTo_zero]; exact Own.grown hoS (row := none) ⟨hgrow.os, hgrow.tape, hgrow.output, hgrow.size, fun i hi _ => (below_grown hgrow).block i hi⟩ (fun _ _ e => by cases e))
  have HOR : Hid (Own .i64 3 w1 w.heap.size (.slice (some ⟨wS.heap.size, 0, none⟩) n n) (litTo (remG ds p s) n 0)) := Lib.hid (by rw [litTo_zero]; exact ownr_mono hown hsS)
  have HB1 : Hid (Below w.heap.size w w1) := Lib.hid (HBS.out.trans (HBR.out.mono hsS))
  clear hoS hgS hown hgrow HBS HBR
  go_loopw [23] (fun i wr => ∃ k : Nat, k ≤ n ∧ i = .int .i64 k ∧ Own .i64 3 wr w.heap.size (.slice (some ⟨w.heap.size, 0, none⟩) n n) (litTo (quoG ds p s) n k) ∧ Own .i64 3 wr w.heap.size (.slice (some ⟨wS.heap.size, 0, none⟩) n n) (litTo (remG ds p s) n k) ∧ Below w.heap.size w wr) (fun i _ => n - (intOf i).toNat)
  case atStart => exact ⟨0, Nat.zero_le _, rfl, HOS.out, HOR.out, HB1.out⟩
  case round =>
    clear HOS HOR HB1
    obtain ⟨k, hk, rfl, ho1, ho2, hbl⟩ := hrel
    have HO1 := Lib.hid ho1
    have HO2 := Lib.hid ho2
    have HBL := Lib.hid hbl
    clear ho1 ho2 hbl
    by_cases hlt : k < n
    · obtain ⟨ad, rfl, hab, hc⟩ := HH.out.2 (by omega)
      have cz := (HBL.out.cell (p := ad.add k) (by rw [add_block]; omega)).trans (hc k hlt)
      rw [litTo_get _ hlt (Nat.le_refl _)] at cz
      have HX1 := Lib.hid (fun (x : World) (hx : Own .i64 3 x w.heap.size (.slice (some ⟨w.heap.size, 0, none⟩) n n) (litTo (quoG ds p s) n k)) => own_litsetG hx hlt)
      have HX2 := Lib.hid (fun (x : World) (hx : Own .i64 3 x w.heap.size (.slice (some ⟨wS.heap.size, 0, none⟩) n n) (litTo (remG ds p s) n k)) => own_litsetG hx hlt)
      rw [HQD.out k] at HX1
      rw [HRD.out k] at HX2
      have hsw := HSW.out k
      have f1 := World.ownsRow.frozenAt (own_litG HO1.out) k
      have f2 := World.ownsRow.frozenAt (own_litG HO2.out) k
      obtain ⟨x0, hx0⟩ := ownr_some (own_litG HO1.out) (j := k) (by omega)
      obtain ⟨y0, hy0⟩ := ownr_some (own_litG HO2.out) (j := k) (by omega)
      have hne : ¬ w.heap.size = wS.heap.size := by omega
      generalize wtG ds p k = t at *
      have e1 : IntKind.i64.wrap (s * t) = s * t := by rw [IntKind.wrap_i64]; omega
      have e2 : IntKind.i64.wrap ((s * t).tdiv T) = (s * t).tdiv T := quo_wrapK ⟨by omega, by omega⟩ (by omega)
      have hT : ¬ T = 0 := by omega
      have i1 : (0 : Int) ≤ (k : Int) := by omega
      have i2 : (k : Int) < (n : Int) := by omega
      obtain ⟨hsw1, hsw2⟩ := hsw
      clear hc
      go_wp2
      go_region
      have HW1 := Lib.hid (HX1.out _ HO1.out)
      have HW2 := Lib.hid (HX2.out _ (HO2.out.grown (World.ownsRow.stored (own_litG HO1.out) k (.int .i64 ((s * t).tdiv T))).2 (fun b hb e => hne (by
        have h1 : wS.heap.size = b := Option.some.inj hb
        have h2 : w.heap.size = b := Option.some.inj e
        omega))))
      have HW3 := Lib.hid (HW1.out.grown (World.ownsRow.stored (own_litG (HO2.out.grown (World.ownsRow.stored (own_litG HO1.out) k (.int .i64 ((s * t).tdiv T))).2 (fun b hb e => hne (by
        have h1 : wS.heap.size = b := Option.some.inj hb
        have h2 : w.heap.size = b := Option.some.inj e
        omega)))) k (.int .i64 (s * t % T))).2 (fun b hb e => hne (by
        have h1 : w.heap.size = b := Option.some.inj hb
        have h2 : wS.heap.size = b := Option.some.inj e
        omega)))
      go_wp2
      go_roundw
      case rel => exact ⟨k + 1, by omega, by go_num, HW3.out, HW2.out, below_undrewG ((HBL.out.setCell (Nat.le_refl _) _).setCell hsS _)⟩
      case measure => simp [intOf]; omega
    · obtain rfl : k = n := by omega
      have HSM := Lib.hid (fun (x : World) (hx : Own .i64 3 x w.heap.size (.slice (some ⟨wS.heap.size, 0, none⟩) k k) (litTo (remG ds p s) k k)) => impl_sum (some ⟨wS.heap.size, 0, none⟩) k k x.heap.size (litTo (remG ds p s) k k) x hx.ints (by omega) (by
        rw [litTo_full]
        intro z hz
        obtain ⟨i, _, rfl⟩ := List.mem_map.1 hz
        have := HRM.out i
        omega))
      have hsum2 : (litTo (remG ds p s) k k).sum = sumN (remG ds p s) p.length := by rw [litTo_full, sumN_list, HN.out]
      rw [hsum2] at HSM
      have HC := Lib.hid (HSM.out wr HO2.out)
      clear HSM hsum2
      go_wp2_with fail
      refine HC.out.mono ?_
      rintro e w2 ⟨rfl, rfl⟩
      obtain ⟨m, hm⟩ : ∃ m : Nat, leftG ds p s = m := ⟨(leftG ds p s).toNat, by have := HLG.out; omega⟩
      have hmk : m < k := by have h1 := HLG.out; have h2 := HN.out; omega
      have e4 : IntKind.i64.wrap ((sumN (remG ds p s) p.length).tdiv T) = (m : Int) := by rw [HLD.out, hm, IntKind.wrap_i64]; omega
      have HSH : Hid (shrG ds p s = moreG (quoG ds p s) m) := Lib.hid (by
        funext i
        unfold shrG moreG
        rw [hm]
        by_cases e : i < m
        · rw [if_pos e, if_pos (by omega)]
        · rw [if_neg e, if_neg (by omega)])
      have HM0 : Hid (litTo (quoG ds p s) k k = (List.range k).map (moreG (quoG ds p s) 0)) := Lib.hid (by
        rw [litTo_full]
        apply List.map_congr_left
        intro i _
        simp [moreG])
      have hT : ¬ T = 0 := by omega
      have m1 : (0 : Int) ≤ (m : Int) := by omega
      have m2 : (m : Int) ≤ (k : Int) := by omega
      clear hm HSW HQD HRD HLD HLG HRM HC HS1 HH
      generalize sumN (remG ds p s) p.length = R at *
      go_wp2
      go_loopw [55] (fun i wr => ∃ j : Nat, j ≤ m ∧ i = .int .i64 j ∧ Own .i64 3 wr w.heap.size (.slice (some ⟨w.heap.size, 0, none⟩) k k) ((List.range k).map (moreG (quoG ds p s) j)) ∧ Below w.heap.size w wr) (fun i _ => m - (intOf i).toNat)
      case atStart => exact ⟨0, Nat.zero_le _, rfl, by rw [← HM0.out]; exact HO1.out, HBL.out⟩
      case round =>
        clear HO1 HO2 HBL HM0
        obtain ⟨j, hj, rfl, hown, hbl⟩ := hrel
        have HO := Lib.hid hown
        have HBL := Lib.hid hbl
        clear hown hbl
        by_cases hjm : j < m
        · have hrow : _ := (show World.ownsRow _ w.heap.size 3 1 (.slice (some ⟨w.heap.size, 0, none⟩) k k) k (((List.range k).map (moreG (quoG ds p s) j)).map (Value.int .i64)) by
            have := HO.out
            unfold Own at this
            rwa [List.length_map, List.length_range] at this)
          have hcell := World.ownsRow.cellAt hrow j (by omega)
          rw [List.getElem?_map, List.getElem?_map, List.getElem?_range (by omega)] at hcell
          simp only [Option.map_some] at hcell
          rw [show moreG (quoG ds p s) j j = quoG ds p s j by simp [moreG]] at hcell
          have hf := World.ownsRow.frozenAt hrow j
          have HX := Lib.hid (show Own .i64 3 (World.setCell _ ⟨w.heap.size, j, none⟩ (.int .i64 (quoG ds p s j + 1))) w.heap.size (.slice (some ⟨w.heap.size, 0, none⟩) k k) ((List.range k).map (moreG (quoG ds p s) (j + 1))) by
            have h1 := (World.ownsRow.stored hrow j (.int .i64 (quoG ds p s j + 1))).1
            rw [← List.map_set, moreG_set _ (by omega)] at h1
            unfold Own
            rw [List.length_map, List.length_range]
            exact h1)
          have hq := HQ.out j
          clear hrow
          generalize quoG ds p s j = q at *
          obtain ⟨q1, q2⟩ := hq
          have j1 : (0 : Int) ≤ (j : Int) := by omega
          have j2 : (j : Int) < (m : Int) := by omega
          have j3 : (j : Int) < (k : Int) := by omega
          go_wp2
          go_roundw
          case rel => exact ⟨j + 1, by omega, by go_num, HX.out, HBL.out.setCell (Nat.le_refl _) _⟩
          case measure => simp [intOf]; omega
        · obtain rfl : j = m := by omega
          go_wp2
          go_ret
          exact ⟨_, rfl, by rw [HSH.out]; exact HO.out, HBL.out⟩
end Go.Proofs.YtlpkafhapmkkfaaGreatDoor

/- What the program asks of a timed plan: GreenShare, SpareGreen, PartAt. -/
namespace Go.Proofs.YtlpkafhapmkkfaaGreatDoor
open Go.RowKit
set_option linter.unusedVariables false

theorem share_quoI {ps : List Pth} {p : List Prt} (h : isPlan ps p = true) {k : Nat} (hk : k < p.length) : (100 * (prAt p k).green).tdiv (sumTo ps p p.length) = 100 * (prAt p k).green / sumTo ps p p.length := by
  obtain ⟨_, _, _, h4⟩ := isPlan_parts h
  obtain ⟨_, _, h5, h6⟩ := okPrt_parts (h4 k hk)
  have := leastG_bound ps (prAt p k).stage
  exact Int.tdiv_eq_ediv_of_nonneg (by omega)
theorem maxI_comm (a b : Int) : maxI a b = maxI b a := by unfold maxI; split <;> split <;> omega
theorem plan_greenI {ps : List Pth} {p : List Prt} (h : isPlan ps p = true) {k : Nat} (hk : k < p.length) : 0 ≤ (prAt p k).green ∧ (prAt p k).green ≤ 60 := by
  obtain ⟨_, _, _, h4⟩ := isPlan_parts h
  obtain ⟨_, _, h5, h6⟩ := okPrt_parts (h4 k hk)
  have := leastG_bound ps (prAt p k).stage
  omega
set_option maxHeartbeats 4000000 in
set_option maxRecDepth 100000 in
theorem impl_SpareGreen {w : World} {A : Option Addr} {n c B : Nat} {ps : List Pth} {A2 : Option Addr} {n2 c2 B2 : Nat} {p : List Prt} (I : PlnIn w A n c B ps A2 n2 c2 B2 p) (a : Int) :
    Calls Tryz.prog 58 #[.slice A n c, .slice A2 n2 c2, .int .i64 a] w fun e w' => e = .returned (.int .i64 (spareP ps p a)) ∧ Below w.heap.size w w' := by
  cases hp : isPlan ps p
  · have H := impl_timePlan_off I hp
    unfold t16 at H
    have HC := Lib.hid H
    have HR := Lib.hid (spareP_off (ps := ps) (p := p) (c := a) (by rw [hp]; rfl))
    clear H hp I
    go_enter Tryz.func58, Tryz.ntmps58
    go_wp2_with fail
    refine HC.out.mono ?_
    rintro e w1 ⟨rfl, hb⟩
    have HB := Lib.hid hb
    clear hb
    go_wp2
    go_ret
    exact ⟨by rw [HR.out]; try rfl, HB.out.alloc HB.out.size _⟩
  · have H := impl_timePlan_on I hp
    unfold t16 at H
    have HC := Lib.hid H
    have HP := Lib.hid hp
    have HI := Lib.hid I
    clear H hp I
    go_enter Tryz.func58, Tryz.ntmps58
    go_wp2_with fail
    refine HC.out.mono ?_
    rintro e w1 ⟨a1, q1, a2, q2, rfl, hphs, hb⟩
    have HB := Lib.hid hb
    have HPH := Lib.hid hphs
    clear hb hphs
    go_wp2_with fail
    refine (impl_InRange _ _ _ _).mono ?_
    cases hi : inB a 1 1000
    · rintro e w2 ⟨rfl, rfl⟩
      have HR := Lib.hid (spareP_off (ps := ps) (p := p) (c := a) (by rw [hi, Bool.and_false]))
      clear hi
      go_wp2
      go_ret
      exact ⟨by rw [HR.out]; try rfl, HB.out.alloc HB.out.size _⟩
    · rintro e w2 ⟨rfl, rfl⟩
      have hab := inB_t hi
      have hl2 := HI.out.len
      have HR : Hid (spareP ps p a = maxI (-1) (a - needTo ps p n2)) := Lib.hid (by rw [spareP_on HP.out hi, hl2])
      obtain ⟨⟨hp1, hp6⟩, _⟩ := isPlan_parts HP.out
      have HL2 := Lib.hid hl2
      rw [hl2] at hp1 hp6
      obtain ⟨g1, rfl, hg1⟩ := HPH.out.some (by omega)
      obtain ⟨w3, hw3⟩ : ∃ w3, w3 = w1.alloc (.cells #[.slice A n c, .int .u16 (rowSt ps n 0 0 : Nat), .int .u16 (rowSt ps n 0 1 : Nat), .int .u16 (rowSt ps n 0 2 : Nat), .int .u16 (rowSt ps n 0 3 : Nat), .int .u16 (rowSt ps n 0 4 : Nat), .int .u16 (rowSt ps n 0 5 : Nat), .int .u16 (rowSt ps n 0 6 : Nat), .int .u16 (rowSt ps n 0 7 : Nat), .int .u16 (rowSt ps n 0 8 : Nat), .int .u16 (rowSt ps n 0 9 : Nat), .int .u16 (rowSt ps n 0 10 : Nat), .int .u16 (rowSt ps n 0 11 : Nat), .slice (some ⟨g1, 0, none⟩) n2 q1, .slice a2 n2 q2, .int .i64 (sumTo ps p n2)] 81) := ⟨_, rfl⟩
      obtain ⟨hk0, hsz, hbw⟩ := one_block hw3
      have HB3 := Lib.hid (HB.out.trans (hbw.mono HB.out.size))
      have HPH3 := Lib.hid (HPH.out.below hbw)
      clear hi hl2 hk0 hsz hbw
      go_wp2
      rw [← hw3]
      clear hw3
      go_loopw [2, 28] (fun x i wr => ∃ k : Nat, k ≤ n2 ∧ i = .int .i64 k ∧ (∃ q : Int, x = .int .i64 q ∧ q = a - needTo ps p k) ∧ Below w3.heap.size w3 wr) (fun _ i _ => n2 - (intOf i).toNat)
      case atStart => exact ⟨0, Nat.zero_le _, rfl, ⟨a, rfl, by simp [needTo]⟩, Below.refl _ _⟩
      case round =>
        obtain ⟨k, hk, rfl, ⟨q, rfl, hq⟩, hbl⟩ := hrel
        have HQ := Lib.hid hq
        have HBL := Lib.hid hbl
        have hnb := needTo_bound ps p k
        have hqb : -100 ≤ q ∧ q ≤ 1000 := by omega
        clear hq hnb
        by_cases hlt : k < n2
        · have hce := fun d hd => (HPH3.out.below hbl).cells hlt d hd
          have hlb := leastG_bound ps (prAt p k).stage
          have hcb := clrAt_bound ps p k
          have e0 : wr.cell? ⟨g1, k * 5, none⟩ = some (.int .u16 (maskL ps (prAt p k).stage : Nat)) := hce 0 (by decide)
          have e1 : wr.cell? ⟨g1, k * 5 + 1, none⟩ = some (.int .u16 (maskL ps (prAt p (nextJ p k)).stage : Nat)) := hce 1 (by decide)
          have e2 : wr.cell? ⟨g1, k * 5 + 2, none⟩ = some (.int .i64 (prAt p k).green) := hce 2 (by decide)
          have e3 : wr.cell? ⟨g1, k * 5 + 3, none⟩ = some (.int .i64 (clrAt ps p k)) := hce 3 (by decide)
          have e4 : wr.cell? ⟨g1, k * 5 + 4, none⟩ = some (.int .i64 (leastG ps (prAt p k).stage)) := hce 4 (by decide)
          have HS : Hid (q - (clrAt ps p k + leastG ps (prAt p k).stage) = a - needTo ps p (k + 1)) := Lib.hid (by
            have := HQ.out
            show _ = a - (needTo ps p k + (leastG ps (prAt p k).stage + clrAt ps p k))
            omega)
          have hb2 := Lib.hid (HBL.out.alloc HBL.out.size (.cells #[.int .u16 (maskL ps (prAt p k).stage : Nat), .int .u16 (maskL ps (prAt p (nextJ p k)).stage : Nat), .int .i64 (prAt p k).green, .int .i64 (clrAt ps p k), .int .i64 (leastG ps (prAt p k).stage)] 129))
          clear hce hbl
          generalize leastG ps (prAt p k).stage = le at *
          generalize clrAt ps p k = cl at *
          generalize maskL ps (prAt p (nextJ p k)).stage = mx at *
          generalize maskL ps (prAt p k).stage = mo at *
          generalize (prAt p k).green = gr at *
          go_wp2
          go_roundw
          case rel => exact ⟨k + 1, by omega, by go_num, ⟨_, rfl, HS.out⟩, hb2.out⟩
          case measure => simp [intOf]; omega
        · obtain rfl : k = n2 := by omega
          rw [HQ.out] at hqb ⊢
          clear hbl
          go_wp2_with fail
          refine (impl_Max _ _ _).mono ?_
          rintro e w5 ⟨rfl, hb5⟩
          have HB5 := Lib.hid ((HB3.out.trans (HBL.out.mono HB3.out.size)).trans (hb5.mono (HB3.out.trans (HBL.out.mono HB3.out.size)).size))
          clear hb5
          go_wp2
          go_ret
          exact ⟨by rw [HR.out, maxI_comm]; try rfl, HB5.out⟩
end Go.Proofs.YtlpkafhapmkkfaaGreatDoor

/- Chapter 11: ShareGreen: the program. -/
namespace Go.Proofs.YtlpkafhapmkkfaaGreatDoor
open Go.RowKit
set_option linter.unusedVariables false

/-- the first k greens turned. -/
def upTo (g f : Nat → Int) (k i : Nat) : Int := if i < k then g i else f i
theorem grn_step (p : List Prt) (g f : Nat → Int) (k : Nat) : grnP p (setF (upTo g f k) k (g k)) = grnP p (upTo g f (k + 1)) := grnP_congr fun i _ => by
  unfold setF upTo
  by_cases e : i = k
  · subst e; rw [if_pos rfl, if_pos (by omega)]
  · rw [if_neg e]
    by_cases h : i < k
    · rw [if_pos h, if_pos (by omega)]
    · rw [if_neg h, if_neg (by omega)]
theorem grn_zero (p : List Prt) (g : Nat → Int) : grnP p (upTo g (fun i => (prAt p i).green) 0) = p := by
  conv => rhs; rw [← grnP_self p]
  exact grnP_congr fun i _ => by simp [upTo]
theorem grn_full (p : List Prt) (g f : Nat → Int) : grnP p (upTo g f p.length) = grnP p g := grnP_congr fun i h => by simp [upTo, h]
theorem spare_plan {ps : List Pth} {p : List Prt} {c : Int} (h : spareP ps p c ≠ -1) : isPlan ps p = true := by
  cases hp : isPlan ps p
  · exact absurd (spareP_off (by rw [hp]; rfl)) h
  · rfl
set_option maxHeartbeats 8000000 in
set_option maxRecDepth 100000 in
theorem impl_ShareGreen {w : World} {A : Option Addr} {n c B : Nat} {ps : List Pth} {A2 : Option Addr} {n2 c2 B2 : Nat} {p : List Prt} (I : PlnIn w A n c B ps A2 n2 c2 B2 p) (A3 : Option Addr) (n3 c3 B3 : Nat) (ds : List Det) (h3 : DetsAt w B3 A3 n3 ds) (hB3 : B3 ≤ w.heap.size) (hn3 : n3 ≤ 4294967296) (a : Int) :
    Calls Tryz.prog 26 #[.slice A n c, .slice A2 n2 c2, .slice A3 n3 c3, .int .i64 a] w fun e w' => ∃ v xs, e = .returned (.tuple #[v, .bool (shrA ps p ds a).2]) ∧ OwnPr w' w.heap.size v xs (shrA ps p ds a).1 ∧ Below w.heap.size w w' := by
  have HCP := Lib.hid (impl_copyPlan A2 n2 c2 B2 p w I.h2 I.hB2 I.hn2 I.hm)
  have II := Lib.hid I
  have H3 := Lib.hid h3
  have HB0 := Lib.hid (show spareP ps p a = -1 ∨ areD ps ds = false → shrA ps p ds a = (p, false) by intro h; unfold shrA; rw [if_pos h])
  have HYES := Lib.hid (show ¬ (spareP ps p a = -1 ∨ areD ps ds = false) → shrA ps p ds a = (grnP p (newG ps ds p (spareP ps p a)), true) by intro h; unfold shrA; rw [if_neg h])
  have hsb := spareP_bound ps p a
  have HPLN := Lib.hid (fun h => isPlan_parts (spare_plan (ps := ps) (p := p) (c := a) h))
  clear I h3
  go_enter Tryz.func26, Tryz.ntmps26
  go_wp2_with fail
  refine HCP.out.mono ?_
  rintro e w1 ⟨v, xs, rfl, hown, hb1⟩
  have HO1 := Lib.hid hown
  have HB1 := Lib.hid hb1
  have HSP := Lib.hid (impl_SpareGreen (II.out.below hb1) a)
  clear hown hb1
  generalize hs : spareP ps p a = s at *
  go_wp2_with fail
  refine HSP.out.mono ?_
  rintro e w2 ⟨rfl, hb2⟩
  have HO2 := Lib.hid (HO1.out.below hb2)
  have HB2 := Lib.hid (HB1.out.trans (hb2.mono HB1.out.size))
  clear hb2
  by_cases hs1 : s = -1
  · have HR := Lib.hid (HB0.out (.inl hs1))
    subst hs1
    clear hs
    go_wp2
    go_ret2
    rw [HR.out]
    exact ⟨_, _, rfl, HO2.out, HB2.out⟩
  · have hs2 : (s == -1) = false := by rw [beq_eq_false_iff_ne]; exact hs1
    have HAD := Lib.hid (impl_AreDetectors A n c B ps A3 n3 c3 B3 ds w2 (II.out.h.below (HB2.out.mono II.out.hB)) (H3.out.keep fun _ hp => (HB2.out.mono hB3).cell hp) (Nat.le_trans II.out.hB HB2.out.size) (Nat.le_trans hB3 HB2.out.size) II.out.hn4 hn3)
    cases ha : areD ps ds
    · have HR := Lib.hid (HB0.out (.inr ha))
      rw [ha] at HAD
      clear hs ha
      go_wp2_with fail
      refine HAD.out.mono ?_
      rintro e w3 ⟨rfl, hb3⟩
      have HO3 := Lib.hid (HO2.out.below hb3)
      have HB3 := Lib.hid (HB2.out.trans (hb3.mono HB2.out.size))
      clear hb3
      go_wp2
      go_ret2
      rw [HR.out]
      exact ⟨_, _, rfl, HO3.out, HB3.out⟩
    · have HR := Lib.hid (HYES.out (by rw [ha]; exact fun h => h.elim hs1 (fun h => by cases h)))
      obtain ⟨⟨p0, p6⟩, -, -, -⟩ := HPLN.out hs1
      rw [ha] at HAD
      have HA := Lib.hid ha
      have hlen : p.length = n2 := II.out.len
      clear hs ha HYES HB0 HPLN
      go_wp2_with fail
      refine HAD.out.mono ?_
      rintro e w3 ⟨rfl, hb3⟩
      have HO3 := Lib.hid (HO2.out.below hb3)
      have HB3 := Lib.hid (HB2.out.trans (hb3.mono HB2.out.size))
      have HWO := Lib.hid (impl_weightsOf A3 n3 c3 B3 ds A2 n2 c2 B2 p w3 (H3.out.keep fun _ hp => (HB3.out.mono hB3).cell hp) (Nat.le_trans hB3 HB3.out.size) hn3 (II.out.h2.below II.out.hB2 HB3.out) (Nat.le_trans II.out.hB2 HB3.out.size) II.out.hn2 II.out.hm (wt_good HA.out p))
      clear hb3
      go_wp2_with fail
      refine HWO.out.mono ?_
      rintro e w4 ⟨rfl, hwo, hb4⟩
      have HO4 := Lib.hid (HO3.out.below hb4)
      have HB4 := Lib.hid (HB3.out.trans (hb4.mono HB3.out.size))
      have HSO := Lib.hid (impl_shareOut (some ⟨w3.heap.size, 0, none⟩) n2 n2 w4.heap.size ps ds p s w4 hwo.ints (Nat.le_refl _) hlen.symm HA.out ⟨by omega, hsb.2⟩ (by omega) p6)
      clear hwo hb4
      go_wp2_with fail
      refine HSO.out.mono ?_
      rintro e w5 ⟨g2, rfl, hso, hb5⟩
      have HO5 := Lib.hid (HO4.out.below hb5)
      have HB5 := Lib.hid (HB4.out.trans (hb5.mono HB4.out.size))
      have HSH5 := Lib.hid hso
      clear hb5 hso HSP HAD HWO HSO HO1 HO2 HO3 HO4 HB1 HB2 HB3 HB4
      obtain ⟨Av, cv, rfl⟩ := HO5.out.pe.sliced
      obtain ⟨g, hgb, hgs, ⟨cg, ec⟩⟩ : ∃ g, w.heap.size ≤ g ∧ g < w5.heap.size ∧ ∃ cg, (Value.slice Av p.length cv) = .slice (some ⟨g, 0, none⟩) n2 cg := by
        rcases ownr_shape HO5.out.row with ⟨_, e⟩ | ⟨g, cap, e, h1, h2, _⟩
        · omega
        · exact ⟨g, h1, h2, cap, by rw [e, hlen]⟩
      rw [ec]
      rw [ec] at HO5
      have HLN := Lib.hid hlen
      have HRS : Hid (∀ k, newG ps ds p s k = minI (leastG ps (prAt p k).stage + shrG ds p s k) 60) := Lib.hid (fun _ => rfl)
      have HSHB : Hid (∀ k, 0 ≤ shrG ds p s k ∧ shrG ds p s k ≤ 2000000) := Lib.hid (fun k => by
        have h1 := quo_good HA.out (s := s) ⟨by omega, hsb.2⟩ (by omega : 0 < p.length) (by omega) k
        unfold shrG
        split <;> omega)
      have hn2 : n2 ≤ 6 := by omega
      clear ec hlen p0 p6
      go_wp2
      go_loopw [35] (fun i wr => ∃ (k : Nat) (ys : List (Value × Int)), k ≤ n2 ∧ i = .int .i64 k ∧ OwnPr wr w.heap.size (.slice (some ⟨g, 0, none⟩) n2 cg) ys (grnP p (upTo (newG ps ds p s) (fun i => (prAt p i).green) k)) ∧ Own .i64 3 wr w4.heap.size (.slice (some ⟨g2, 0, none⟩) n2 n2) ((List.range n2).map (shrG ds p s)) ∧ Below w.heap.size w wr) (fun i _ => n2 - (intOf i).toNat)
      case atStart => exact ⟨0, xs, Nat.zero_le _, rfl, by rw [grn_zero]; exact HO5.out, HSH5.out, HB5.out⟩
      case round =>
        clear HO5 HSH5 HB5
        obtain ⟨k, ys, hk, rfl, hown, hsh, hbl⟩ := hrel
        have HO := Lib.hid hown
        have HSH := Lib.hid hsh
        have HBL := Lib.hid hbl
        clear hown hsh hbl
        by_cases hlt : k < n2
        · have hcs := (HSH.out.ints).2 (by omega)
          obtain ⟨ad2, ea2, hab2, hc2⟩ := hcs
          injection ea2 with ea2
          subst ea2
          have cs := hc2 k hlt
          rw [add_head, List.getD_eq_getElem?_getD, List.getElem?_map, List.getElem?_range hlt] at cs
          simp only [Option.map_some, Option.getD_some] at cs
          obtain ⟨ad, A', m, c', rfl, hab, hq, hst, ⟨hc1, hc2'⟩, hnil⟩ := II.out.h2.at hlt
          obtain ⟨c0, c1⟩ := hq.below HBL.out (by have := II.out.hB2; omega)
          have hml : m ≤ 1048576 := by have := hst.1; have := II.out.hm k hlt; omega
          have HLS := Lib.hid (impl_LeastGreen A n c B ps A' m c' B2 (prAt p k).stage wr (II.out.h.below (HBL.out.mono II.out.hB)) (hst.keep fun _ hp => (HBL.out.mono II.out.hB2).cell hp) (Nat.le_trans II.out.hB HBL.out.size) (Nat.le_trans II.out.hB2 HBL.out.size) II.out.hn4 (by omega))
          have hlb := leastG_bound ps (prAt p k).stage
          have HNW := Lib.hid (HRS.out k)
          obtain ⟨sb1, sb2⟩ := HSHB.out k
          obtain ⟨lb1, lb2⟩ := hlb
          have hkp : k < p.length := by have := HLN.out; omega
          have HST := Lib.hid (fun (x : World) (us : List (Value × Int)) (hx : OwnPr x w.heap.size (.slice (some ⟨g, 0, none⟩) n2 cg) us (grnP p (upTo (newG ps ds p s) (fun i => (prAt p i).green) k))) (z : Int) => hx.green (k := k) (x := z) hkp)
          have HGN := Lib.hid (grn_step p (newG ps ds p s) (fun i => (prAt p i).green) k)
          have HSO := Lib.hid (fun (x : World) (us : List (Value × Int)) (hx : OwnPr x w.heap.size (.slice (some ⟨g, 0, none⟩) n2 cg) us (grnP p (upTo (newG ps ds p s) (fun i => (prAt p i).green) k))) (hy : Own .i64 3 x w4.heap.size (.slice (some ⟨g2, 0, none⟩) n2 n2) ((List.range n2).map (shrG ds p s))) (z : Int) =>
            hy.grown (World.ownsRow.stored (by have h1 := hx.row; rw [grnP_len, HLN.out] at h1; exact h1 : x.ownsRow w.heap.size 70 2 (.slice (some ⟨g, 0, none⟩) n2 cg) n2 (prow us)) (k * 2 + 1) (.int .i64 z)).2 (fun b hb e => own_apartP hy hx.row b hb (by rw [← e]; rfl)))
          generalize shrG ds p s k = sk at *
          generalize leastG ps (prAt p k).stage = lk at *
          have i1 : (0 : Int) ≤ (k : Int) := by omega
          have i2 : (k : Int) < (n2 : Int) := by omega
          clear hq hst hnil hc2 hab2 c1
          go_wp2_with fail
          refine HLS.out.mono ?_
          rintro e w6 ⟨rfl, hb6⟩
          have HO6 := Lib.hid (HO.out.below hb6)
          have HSH6 := Lib.hid (HSH.out.grown (row := none) ⟨hb6.os, hb6.tape, hb6.output, hb6.size, fun i hi _ => hb6.block i hi⟩ (fun _ _ e => by cases e))
          have HB6 := Lib.hid (HBL.out.trans (hb6.mono HBL.out.size))
          have HMN := Lib.hid (impl_Min (lk + sk) 60 w6)
          clear hb6 cs c0
          go_wp2_with fail
          refine HMN.out.mono ?_
          rw [← HNW.out]
          rintro e w7 ⟨rfl, hb7⟩
          have HO7 := Lib.hid (HO6.out.below hb7)
          have HSH7 := Lib.hid (HSH6.out.grown (row := none) ⟨hb7.os, hb7.tape, hb7.output, hb7.size, fun i hi _ => hb7.block i hi⟩ (fun _ _ e => by cases e))
          have HB7 := Lib.hid (HB6.out.trans (hb7.mono HB6.out.size))
          have hrow : w7.ownsRow w.heap.size 70 2 (.slice (some ⟨g, 0, none⟩) n2 cg) n2 (prow ys) := by have h1 := HO7.out.row; rw [grnP_len, HLN.out] at h1; exact h1
          have hf := World.ownsRow.frozenAt hrow (k * 2 + 1)
          obtain ⟨x0, hx0⟩ := ownr_some hrow (j := k * 2 + 1) (by omega)
          clear hb7 hrow
          generalize newG ps ds p s k = z at *
          go_wp2
          go_roundw
          case rel =>
            obtain ⟨zs, hz⟩ := HST.out _ _ HO7.out z
            exact ⟨k + 1, zs, by omega, by go_num, by rw [← HGN.out]; exact hz, HSO.out _ _ HO7.out HSH7.out z, HB7.out.setCell hgb _⟩
          case measure => simp [intOf]; omega
        · obtain rfl : k = n2 := by omega
          go_wp2
          go_ret2
          rw [HR.out]
          refine ⟨_, ys, rfl, ?_, HBL.out⟩
          have h1 := HO.out
          rw [← HLN.out, grn_full] at h1
          rw [← HLN.out]
          exact h1
end Go.Proofs.YtlpkafhapmkkfaaGreatDoor

/- AreDetectors: the model. -/
namespace Go.Proofs.YtlpkafhapmkkfaaGreatDoor
open Go.RowKit
set_option linter.unusedVariables false

theorem goodD_cnt {ps : List Pth} {ds : List Det} {k : Nat} (h : inB (dAt ds k).count 0 1000 = false) : goodD ps ds k = false := by unfold goodD okD; rw [h]; simp
theorem goodD_age {ps : List Pth} {ds : List Det} {k : Nat} (h : inB (dAt ds k).age 0 100000 = false) : goodD ps ds k = false := by unfold goodD okD; rw [h]; simp
theorem goodD_new {ps : List Pth} {ds : List Det} {k i : Nat} (h : findK (dAt ds k).path ps = some i) (h1 : inB (dAt ds k).count 0 1000 = true) (h2 : inB (dAt ds k).age 0 100000 = true) : goodD ps ds k = newD ds k := by
  unfold goodD okD
  rw [fI_some h, h1, h2, decide_eq_true (by omega)]
  rfl
set_option maxHeartbeats 1000000 in
set_option maxRecDepth 100000 in
theorem spec_AreDetectors (A : Option Addr) (n c B : Nat) (ps : List Pth) (A2 : Option Addr) (n2 c2 B2 : Nat) (ds : List Det) (w : World) (h : PthsAt w B A n ps) (h2 : DetsAt w B2 A2 n2 ds) (hB : B ≤ w.heap.size) (hB2 : B2 ≤ w.heap.size) (hn : n ≤ 4294967296) (hn2 : n2 ≤ 4294967296) :
    Calls Tryz.prog 52 #[.slice A n c, .slice A2 n2 c2] w fun e w' => e = .returned (.bool (areD ps ds)) ∧ Below w.heap.size w w' := by
  have hl := h.1
  have hl2 := h2.1
  have HEND : Hid ((∀ i, i < n2 → goodD ps ds i = true) → areD ps ds = (arePs ps && decide (n2 ≤ 12))) := Lib.hid (fun hg => by rw [areD_end (fun i hi => hg i (by omega)), hl2])
  have HNO : Hid (∀ i, i < n2 → goodD ps ds i = false → areD ps ds = false) := Lib.hid (fun i hi hg => areD_no (by omega) hg)
  go_enter Tryz.func52, Tryz.ntmps52
  go_wp2
  go_loopw [5] (fun i wr => ∃ k : Nat, k ≤ n2 ∧ i = .int .i64 k ∧ (∀ j, j < k → goodD ps ds j = true) ∧ Below w.heap.size w wr) (fun i _ => n2 - (intOf i).toNat)
  case atStart => exact ⟨0, Nat.zero_le _, rfl, fun j hj => absurd hj (by omega), Below.refl _ _⟩
  case round =>
    obtain ⟨k, hk, rfl, hgo, hbl⟩ := hrel
    have hsz := hbl.size
    have HG := Lib.hid hgo
    clear hgo
    by_cases hlt : k < n2
    · obtain ⟨ad2, d, rfl, hab2, hd, hqd⟩ := h2.at hlt
      have HD : Hid (dAt ds k = d) := Lib.hid (dAt_some hd)
      obtain ⟨c0, c1, c2', c3⟩ := hqd.below hbl (by omega)
      have HQD := Lib.hid hqd
      clear hd hqd
      go_wp2_with fail
      refine (spec_FindPath A n c B ps d.path wr (h.below (hbl.mono hB)) hn).mono ?_
      cases hf : findK d.path ps
      · have HR := Lib.hid (HNO.out k hlt (goodD_none (by rw [HD.out]; exact hf)))
        rw [fI_no hf]
        rintro e w2 ⟨rfl, rfl⟩
        clear hf
        go_wp2
        go_ret
        exact ⟨by rw [HR.out]; rfl, hbl⟩
      · rename_i i
        rw [fI_some hf]
        rintro e w2 ⟨rfl, rfl⟩
        have hi0 : (0 : Int) ≤ (i : Int) := by omega
        have HF := Lib.hid hf
        clear hf
        cases hcn : inB d.count 0 1000
        · have HR := Lib.hid (HNO.out k hlt (goodD_cnt (by rw [HD.out]; exact hcn)))
          have HC := Lib.hid hcn
          clear hcn
          go_wp2_with fail
          refine (spec_l1In _ _ _ _).mono ?_
          rw [HC.out]
          rintro e w3 ⟨rfl, rfl⟩
          go_wp2
          go_ret
          exact ⟨by rw [HR.out]; rfl, hbl⟩
        have HC := Lib.hid hcn
        clear hcn
        cases hag : inB d.age 0 100000
        · have HR := Lib.hid (HNO.out k hlt (goodD_age (by rw [HD.out]; exact hag)))
          have HC2 := Lib.hid hag
          clear hag
          go_wp2_with fail
          refine (spec_l1In _ _ _ _).mono ?_
          rw [HC.out]
          rintro e w3 ⟨rfl, rfl⟩
          go_wp2_with fail
          refine (spec_l1In _ _ _ _).mono ?_
          rw [HC2.out]
          rintro e w3 ⟨rfl, rfl⟩
          go_wp2
          go_ret
          exact ⟨by rw [HR.out]; rfl, hbl⟩
        have HC2 := Lib.hid hag
        clear hag
        go_wp2_with fail
        refine (spec_l1In _ _ _ _).mono ?_
        rw [HC.out]
        rintro e w3 ⟨rfl, rfl⟩
        go_wp2_with fail
        refine (spec_l1In _ _ _ _).mono ?_
        rw [HC2.out]
        rintro e w3 ⟨rfl, rfl⟩
        have HN := Lib.hid (goodD_new (ps := ps) (ds := ds) (k := k) (by rw [HD.out]; exact HF.out) (by rw [HD.out]; exact HC.out) (by rw [HD.out]; exact HC2.out))
        clear c0 c1 c2' c3
        go_wp2
        go_loopw [6] (fun i wr => ∃ m : Nat, m ≤ k ∧ i = .int .i64 m ∧ (∀ j, j < m → (dAt ds j).path ≠ d.path) ∧ Below w.heap.size w wr) (fun i _ => k - (intOf i).toNat)
        case atStart => exact ⟨0, Nat.zero_le _, rfl, fun j hj => absurd hj (by omega), hbl⟩
        case round =>
          clear hbl hsz
          obtain ⟨m, hm, rfl, hne, hbl⟩ := hrel
          have hsz := hbl.size
          have HE := Lib.hid hne
          clear hne
          by_cases hlt3 : m < k
          · obtain ⟨ad3, d2, e, hab3, hd2, hqd2⟩ := h2.at (k := m) (by omega)
            injection e with e
            subst e
            obtain ⟨c0, -, -, -⟩ := HQD.out.below hbl (by omega)
            obtain ⟨b0, -, -, -⟩ := hqd2.below hbl (by omega)
            have HD2 : Hid (dAt ds m = d2) := Lib.hid (dAt_some hd2)
            have i1 : (0 : Int) ≤ (k : Int) := by omega
            have i2 : (k : Int) < (n2 : Int) := by omega
            have j1 : (0 : Int) ≤ (m : Int) := by omega
            have j2 : (m : Int) < (n2 : Int) := by omega
            clear hd2 hqd2
            by_cases he : d2.path = d.path
            · have HR := Lib.hid (HNO.out k hlt (by rw [HN.out]; exact newD_no hlt3 (by rw [HD2.out, HD.out]; exact he)))
              have e1 : (d2.path == d.path) = true := by simpa using he
              clear he
              go_wp2
              go_quiet (fail)
              go_wp2
              go_ret
              exact ⟨by rw [HR.out]; rfl, belowN hbl _⟩
            · have e1 : (d2.path == d.path) = false := by simpa using he
              have HE2 : Hid (∀ j, j < m + 1 → (dAt ds j).path ≠ d.path) := Lib.hid (fun j hj => by
                by_cases e : j = m
                · subst e; rw [HD2.out]; exact he
                · exact HE.out j (by omega))
              clear he
              go_wp2
              go_quiet (fail)
              go_wp2
              go_roundw
              case rel => exact ⟨m + 1, by omega, by go_num, HE2.out, belowN hbl _⟩
              case measure => simp [intOf]; omega
          · obtain rfl : m = k := by omega
            have HGK : Hid (goodD ps ds m = true) := Lib.hid (by rw [HN.out]; exact newD_yes fun x hx => by rw [HD.out]; exact HE.out x hx)
            go_wp2
            go_roundw
            case rel => exact ⟨m + 1, by omega, by go_num, (fun j hj => by
              by_cases e : j = m
              · subst e; exact HGK.out
              · exact HG.out j (by omega)), hbl⟩
            case measure => simp [intOf]; omega
    · obtain rfl : k = n2 := by omega
      have HR := Lib.hid (HEND.out HG.out)
      go_wp2_with fail
      refine (spec_ArePaths A n c B ps wr (h.below (hbl.mono hB)) (by omega) hn).mono ?_
      rintro e w1 ⟨rfl, hb1⟩
      cases ha : arePs ps
      · rw [ha] at HR
        clear ha
        go_wp2
        go_ret
        exact ⟨by rw [HR.out]; rfl, hbl.trans (hb1.mono hsz)⟩
      · rw [ha] at HR
        clear ha
        by_cases h12 : k ≤ 12
        all_goals
          go_wp2
          go_ret
          exact ⟨by rw [HR.out]; simp [h12]; try omega, hbl.trans (hb1.mono hsz)⟩
end Go.Proofs.YtlpkafhapmkkfaaGreatDoor

/- Chapter 10's model. -/
namespace Go.Proofs.YtlpkafhapmkkfaaGreatDoor
open Go.RowKit
set_option linter.unusedVariables false

theorem spec_IsTrusted (d : Det) (w : World) : Calls Tryz.prog 150 #[d.val] w fun e w' => e = .returned (.bool (trust d)) ∧ Below w.heap.size w w' := by
  obtain ⟨a, b, c, x⟩ := d
  simp only [Det.val, trust]
  have HB := Lib.hid ((Below.refl w.heap.size w).alloc (Nat.le_refl _) (.cells #[.int .i64 a, .int .i64 b, .int .i64 c, .bool x] 97))
  cases x
  · by_cases h : c ≤ 900
    all_goals
      go_enter Tryz.func150, Tryz.ntmps150
      go_wp2
      go_ret
      exact ⟨by simp [h], HB.out⟩
  · go_enter Tryz.func150, Tryz.ntmps150
    go_wp2
    go_ret
    exact ⟨rfl, HB.out⟩
def cntV (ds : List Det) (id : Int) : Value := match trK id ds with | none => .tuple #[.int .i64 0, .bool false] | some k => .tuple #[.int .i64 (dAt ds k).count, .bool true]
set_option maxHeartbeats 1000000 in
theorem spec_l10Count (A : Option Addr) (n c B : Nat) (ds : List Det) (id : Int) (w : World) (h : DetsAt w B A n ds) (hB : B ≤ w.heap.size) (hn : n ≤ 4294967296) :
    Calls Tryz.prog 128 #[.slice A n c, .int .i64 id] w fun e w' => e = .returned (cntV ds id) ∧ Below w.heap.size w w' := by
  have hl := h.1
  go_enter Tryz.func128, Tryz.ntmps128
  go_wp2
  go_loopw [6] (fun i wr => ∃ k : Nat, k ≤ n ∧ i = .int .i64 k ∧ (∀ j, j < k → trFor id (dAt ds j) = false) ∧ Below w.heap.size w wr) (fun i _ => n - (intOf i).toNat)
  case atStart => exact ⟨0, Nat.zero_le _, rfl, fun j hj => absurd hj (by omega), Below.refl _ _⟩
  case round =>
    obtain ⟨k, hk, rfl, hno, hbl⟩ := hrel
    have hsz := hbl.size
    by_cases hlt : k < n
    · obtain ⟨ad, p, rfl, hab, hp, hq⟩ := h.at hlt
      have hdp := dAt_some hp
      have HN := Lib.hid hno
      have hyes := fun (h1 : p.path = id) (h2 : trust p = true) => Lib.hid (trK_some (id := id) (ds := ds) (k := k) HN.out (by omega) (by rw [hdp]; unfold trFor; rw [decide_eq_true h1, h2]; rfl))
      have hstep := fun (h1 : trFor id p = false) => Lib.hid (show ∀ j, j < k + 1 → trFor id (dAt ds j) = false from fun j hj => by
        by_cases e : j = k
        · subst e; rw [hdp]; exact h1
        · exact HN.out j (by omega))
      have hcv : trK id ds = some k → cntV ds id = .tuple #[.int .i64 p.count, .bool true] := fun h => by unfold cntV; rw [h]; simp only [hdp]
      replace hq := hq.below hbl (by omega)
      obtain ⟨c0, c1, c2, c3⟩ := hq
      clear hno hp
      by_cases he : p.path = id
      · have e1 : (p.path == id) = true := by simpa using he
        have hcc := spec_IsTrusted p wr
        have hv : p.val = .agg #[.int .i64 p.path, .int .i64 p.count, .int .i64 p.age, .bool p.broken] := rfl
        rw [hv] at hcc
        clear hv
        cases ht : trust p
        · have HS := hstep (by unfold trFor; rw [ht]; simp)
          rw [ht] at hcc
          clear hyes hstep ht he hcv
          go_wp2_with fail
          refine hcc.mono ?_
          rintro e w1 ⟨rfl, hb1⟩
          go_wp2
          go_roundw
          case rel => exact ⟨k + 1, by omega, by go_num, HS.out, hbl.trans (hb1.mono hsz)⟩
          case measure => simp [intOf]; omega
        · have HR : Hid (cntV ds id = .tuple #[.int .i64 p.count, .bool true]) := Lib.hid (hcv (hyes he ht).out)
          rw [ht] at hcc
          clear hyes hstep ht he hcv
          go_wp2_with fail
          refine hcc.mono ?_
          rintro e w1 ⟨rfl, hb1⟩
          have d1 := (hb1.cell (p := ⟨(ad.add (k * 4)).block, (ad.add (k * 4)).off + 1, none⟩) (Nat.lt_of_lt_of_le hab (Nat.le_trans hB hsz))).trans c1
          clear c0 c1 c2 c3 hcc
          go_wp2
          go_ret2
          exact ⟨by rw [HR.out]; rfl, hbl.trans (hb1.mono hsz)⟩
      · have HS := hstep (by unfold trFor; rw [decide_eq_false he]; rfl)
        have e1 : (p.path == id) = false := by simpa using he
        clear hyes hstep he hcv
        go_wp2
        go_roundw
        case rel => exact ⟨k + 1, by omega, by go_num, HS.out, hbl⟩
        case measure => simp [intOf]; omega
    · obtain rfl : k = n := by omega
      have HR : Hid (cntV ds id = .tuple #[.int .i64 0, .bool false]) := Lib.hid (by unfold cntV; rw [trK_none (fun j hj => hno j (by omega))])
      clear hno
      go_wp2
      go_ret2
      exact ⟨by rw [HR.out]; rfl, hbl⟩
theorem spec_LowDemand (A : Option Addr) (n c B : Nat) (ds : List Det) (id : Int) (w : World) (h : DetsAt w B A n ds) (hB : B ≤ w.heap.size) (hn : n ≤ 4294967296) :
    Calls Tryz.prog 103 #[.slice A n c, .int .i64 id] w fun e w' => e = .returned (.int .i64 (lowD ds id)) ∧ Below w.heap.size w w' := by
  have hcc := spec_l10Count A n c B ds id w h hB hn
  have HR : Hid (lowD ds id = cntD ds id 0) := Lib.hid rfl
  unfold cntV at hcc
  unfold cntD at HR
  cases hk : trK id ds
  all_goals
    rw [hk] at hcc HR
    clear hk
    go_enter Tryz.func103, Tryz.ntmps103
    go_wp2_with fail
    refine hcc.mono ?_
    rintro e w1 ⟨rfl, hb⟩
    go_wp2
    go_ret
    exact ⟨by rw [HR.out]; try rfl, hb⟩
set_option maxHeartbeats 1000000 in
theorem spec_StageDemand (A : Option Addr) (n c B : Nat) (ds : List Det) (A2 : Option Addr) (n2 c2 B2 : Nat) (zs : List Int) (w : World) (h : DetsAt w B A n ds) (h2 : IntsAt .i64 w B2 A2 n2 zs) (hB : B ≤ w.heap.size) (hB2 : B2 ≤ w.heap.size) (hn : n ≤ 4294967296) (hn2 : n2 ≤ 4294967296) :
    Calls Tryz.prog 53 #[.slice A n c, .slice A2 n2 c2] w fun e w' => e = .returned (.int .i64 (stgD ds zs)) ∧ Below w.heap.size w w' := by
  have hl2 := h2.1
  go_enter Tryz.func53, Tryz.ntmps53
  go_wp2
  go_loopw [5, 6] (fun x i wr => ∃ k : Nat, k ≤ n2 ∧ i = .int .i64 k ∧ x = .int .i64 (stgTo ds zs k) ∧ Below w.heap.size w wr) (fun _ i _ => n2 - (intOf i).toNat)
  case atStart => exact ⟨0, Nat.zero_le _, rfl, rfl, Below.refl _ _⟩
  case round =>
    obtain ⟨k, hk, rfl, rfl, hbl⟩ := hrel
    have hsz := hbl.size
    by_cases hlt : k < n2
    · obtain ⟨ad, rfl, hab, hcell⟩ := h2.2 (by omega)
      have hc := (hbl.cell (by rw [add_block]; omega)).trans (hcell k hlt)
      have hcw := fun x (hx : Below w.heap.size w x) => (hx.cell (p := ad.add k) (by rw [add_block]; omega)).trans (hcell k hlt)
      have hd := fun x (hx : Below w.heap.size w x) => spec_LowDemand A n c B ds (zs.getD k 0) x (h.below (hx.mono hB)) (by have := hx.size; omega) hn
      have HM : Hid (stgTo ds zs (k + 1) = if k = 0 then lowD ds (zs.getD k 0) else maxI (stgTo ds zs k) (lowD ds (zs.getD k 0))) := Lib.hid (by
        show (if k = 0 then lowD ds (zs.getD 0 0) else _) = _
        by_cases e : k = 0
        · subst e; rfl
        · rw [if_neg e, if_neg e])
      have HW := Lib.hid hcw
      clear hcell hcw
      generalize zs.getD k 0 = z at *
      generalize stgTo ds zs k = m at *
      by_cases e0 : k = 0
      · have e1 : ((k : Int) == 0) = true := by simp [e0]
        rw [if_pos e0] at HM
        clear e0
        go_wp2_with (first | (go_at_call 103; refine (hd _ (by assumption)).mono ?_; rintro e w2 ⟨rfl, hb2⟩; have hbl2 := hbl.trans (hb2.mono hsz); have hc2 := HW.out _ hbl2))
        go_roundw
        case rel => exact ⟨k + 1, by omega, by go_num, by rw [HM.out], by assumption⟩
        case measure => simp [intOf]; omega
      · have e1 : ((k : Int) == 0) = false := by simpa using e0
        rw [if_neg e0] at HM
        clear e0
        go_wp2_with fail
        refine (hd _ hbl).mono ?_
        rintro e w2 ⟨rfl, hb2⟩
        have hbl2 := hbl.trans (hb2.mono hsz)
        have hc2 := HW.out _ hbl2
        have hs2 := hbl2.size
        clear hb2 hc
        generalize hq : lowD ds z = q at *
        by_cases hm : m < q
        · have HM2 : Hid (maxI m q = q) := Lib.hid (by unfold maxI; rw [if_pos hm])
          go_wp2_with fail
          refine (hd _ hbl2).mono ?_
          rintro e w3 ⟨rfl, hb3⟩
          have hbl3 := hbl2.trans (hb3.mono hs2)
          clear hb3
          go_wp2
          go_roundw
          case rel => exact ⟨k + 1, by omega, by go_num, by rw [HM.out, HM2.out], hbl3⟩
          case measure => simp [intOf]; omega
        · have HM2 : Hid (maxI m q = m) := Lib.hid (by unfold maxI; rw [if_neg hm])
          go_wp2
          go_roundw
          case rel => exact ⟨k + 1, by omega, by go_num, by rw [HM.out, HM2.out], hbl2⟩
          case measure => simp [intOf]; omega
    · obtain rfl : k = n2 := by omega
      have HR : Hid (stgD ds zs = stgTo ds zs k) := Lib.hid (by unfold stgD; rw [hl2])
      go_wp2
      go_ret
      exact ⟨by rw [HR.out]; try rfl, hbl⟩
end Go.Proofs.YtlpkafhapmkkfaaGreatDoor

/- Chapter 11's model: GreenShare, SpareGreen. -/
namespace Go.Proofs.YtlpkafhapmkkfaaGreatDoor
open Go.RowKit
set_option linter.unusedVariables false

theorem share_quo {ps : List Pth} {p : List Prt} (h : isPlan ps p = true) {k : Nat} (hk : k < p.length) : (100 * (prAt p k).green).tdiv (sumTo ps p p.length) = 100 * (prAt p k).green / sumTo ps p p.length := by
  obtain ⟨_, _, _, h4⟩ := isPlan_parts h
  obtain ⟨_, _, h5, h6⟩ := okPrt_parts (h4 k hk)
  have := leastG_bound ps (prAt p k).stage
  exact Int.tdiv_eq_ediv_of_nonneg (by omega)
set_option maxHeartbeats 4000000 in
set_option maxRecDepth 100000 in
theorem spec_SpareGreen (A : Option Addr) (n c B : Nat) (ps : List Pth) (A2 : Option Addr) (n2 c2 B2 : Nat) (p : List Prt) (a : Int) (w : World) (h : PthsAt w B A n ps) (hB : B ≤ w.heap.size) (hn : n ≤ 4294967296) (h2 : PrtsAt w B2 A2 n2 p) (hB2 : B2 ≤ w.heap.size) (hn2 : n2 ≤ 1048576) (hm : ∀ j, j < n2 → (prAt p j).stage.length ≤ 1048576) :
    Calls Tryz.prog 51 #[.slice A n c, .slice A2 n2 c2, .int .i64 a] w fun e w' => e = .returned (.int .i64 (spareP ps p a)) ∧ Below w.heap.size w w' := by
  have hl2 := h2.1
  have HIP := Lib.hid (fun x (hx : Below w.heap.size w x) => spec_IsPlan A n c B ps A2 n2 c2 B2 p x (h.below (hx.mono hB)) (Nat.le_trans hB hx.size) hn (h2.below hB2 hx) (Nat.le_trans hB2 hx.size) hn2 hm)
  have HH := Lib.hid (fun x (hx : Below w.heap.size w x) => (⟨h.below (hx.mono hB), Nat.le_trans hB hx.size⟩ : PthsAt x B A n ps ∧ B ≤ x.heap.size))
  have HOFF := Lib.hid (fun hh => spareP_off (ps := ps) (p := p) (c := a) hh)
  have HON := Lib.hid (fun q1 q2 => spareP_on (ps := ps) (p := p) (c := a) q1 q2)
  have HND := Lib.hid (fun k => needTo_bound ps p k)
  have HNS : Hid (∀ k, needTo ps p (k + 1) = needTo ps p k + (leastG ps (prAt p k).stage + clrAt ps p k)) := Lib.hid (fun _ => rfl)
  have H2 := Lib.hid h2
  have HL2 := Lib.hid hl2
  have HM := Lib.hid hm
  clear h h2 hm
  go_enter Tryz.func51, Tryz.ntmps51
  go_wp2_with fail
  refine (HIP.out w (Below.refl _ _)).mono ?_
  cases hp : isPlan ps p
  · have HR := Lib.hid (HOFF.out (by rw [hp]; rfl))
    rintro e w3 ⟨rfl, hb3⟩
    clear hp
    go_wp2
    go_ret
    exact ⟨by rw [HR.out]; try rfl, hb3⟩
  rintro e w3 ⟨rfl, hb3⟩
  have HB3 := Lib.hid hb3
  have HP := Lib.hid hp
  clear hb3 hp
  have HIN := Lib.hid (spec_l1In a 1 1000 w3)
  go_wp2_with fail
  refine HIN.out.mono ?_
  cases hi : inB a 1 1000
  · have HR := Lib.hid (HOFF.out (by rw [hi, Bool.and_false]))
    rintro e w4 ⟨rfl, rfl⟩
    clear hi
    go_wp2
    go_ret
    exact ⟨by rw [HR.out]; try rfl, HB3.out⟩
  rintro e w4 ⟨rfl, rfl⟩
  have hab := inB_t hi
  have HR := Lib.hid (HON.out HP.out hi)
  clear hi HOFF HON HIN HIP
  go_wp2
  go_loopw [7, 8] (fun x i wr => ∃ (k : Nat) (q : Int), k ≤ n2 ∧ i = .int .i64 k ∧ x = .int .i64 q ∧ q = a - needTo ps p k ∧ Below w.heap.size w wr) (fun _ i _ => n2 - (intOf i).toNat)
  case atStart => exact ⟨0, a, Nat.zero_le _, rfl, rfl, by simp [needTo], HB3.out⟩
  case round =>
    obtain ⟨k, q, hk, rfl, rfl, hq, hbl⟩ := hrel
    have HQ := Lib.hid hq
    have HBW := Lib.hid hbl
    have hsz := hbl.size
    have hnb := HND.out k
    clear hq hbl
    by_cases hlt : k < n2
    · have hnx : nextJ p k < n2 := by have := nextJ_lt (p := p) (j := k) (by omega); omega
      have e1 : IntKind.i64.wrap ((k : Int) + 1) = (k : Int) + 1 := by rw [IntKind.wrap_i64]; omega
      have e2 : ((k : Int) + 1).tmod (n2 : Int) = ((nextJ p k : Nat) : Int) := by
        unfold nextJ
        rw [HL2.out, Int.tmod_eq_emod_of_nonneg (by omega), Int.natCast_emod, Int.natCast_add]
        rfl
      have hcb := clrAt_bound ps p k
      have hlg := leastG_bound ps (prAt p k).stage
      have hns := HNS.out k
      have hqv := HQ.out
      have hp6 := (isPlan_parts HP.out).1
      have e3 : IntKind.i64.wrap (q - leastG ps (prAt p k).stage) = q - leastG ps (prAt p k).stage := by rw [IntKind.wrap_i64]; omega
      have e4 : IntKind.i64.wrap (q - leastG ps (prAt p k).stage - clrAt ps p k) = a - needTo ps p (k + 1) := by rw [IntKind.wrap_i64]; omega
      have HL : Hid (clrAt ps p k = clrB ps (prAt p k).stage (prAt p (nextJ p k)).stage) := Lib.hid rfl
      have hm1 := HM.out k hlt
      have hm2 := HM.out _ hnx
      obtain ⟨ad, A', m, c', rfl, hab2, hq2, hi, hmc, hnil⟩ := H2.out.at hlt
      obtain ⟨ad', A3, m3, c3, ea, hab3, hq3, hi3, hmc3, hnil3⟩ := H2.out.at hnx
      obtain rfl : ad = ad' := by injection ea
      clear ea
      have hlz := hi.1
      have hlz3 := hi3.1
      have HX := Lib.hid (fun x : GW wr => HBW.out.trans (x.ok.mono hsz))
      have HIX := Lib.hid (fun x : GW wr => hi.laid hB2 (HX.out x))
      have HIX3 := Lib.hid (fun x : GW wr => hi3.laid hB2 (HX.out x))
      have c0 := fun x : GW wr => (hq2.below (HX.out x) (by omega)).c0
      have d0 := fun x : GW wr => (hq3.below (HX.out x) (by omega)).c0
      have i1 : (0 : Int) ≤ (k : Int) := by omega
      have i2 : (k : Int) < (n2 : Int) := by omega
      have z1 : ¬ n2 = 0 := by omega
      have z2 : ¬ (n2 : Int) = 0 := by omega
      generalize nextJ p k = nx at *
      have i3 : (0 : Int) ≤ (nx : Int) := by omega
      have i4 : (nx : Int) < (n2 : Int) := by omega
      generalize (prAt p nx).stage = zb at *
      generalize (prAt p k).stage = za at *
      have hCB := fun x : GW wr => spec_ClearBetween A n c B ps A' m c' B2 za A3 m3 c3 B2 zb x.val (HH.out _ (HX.out x)).1 (HH.out _ (HX.out x)).2 hn (HIX.out x) (Nat.le_trans hB2 (HX.out x).size) (by omega) (HIX3.out x) (Nat.le_trans hB2 (HX.out x).size) (by omega)
      have hLG := fun x : GW wr => spec_LeastGreen A n c B ps A' m c' B2 za x.val (HH.out _ (HX.out x)).1 (HIX.out x) (HH.out _ (HX.out x)).2 (Nat.le_trans hB2 (HX.out x).size) hn (by omega)
      rw [← HL.out] at hCB
      generalize clrAt ps p k = cl at *
      generalize leastG ps za = lg at *
      have HE4 := Lib.hid e4
      generalize hr : a - needTo ps p (k + 1) = r at *
      have HRR := Lib.hid hr.symm
      clear hr
      clear HL hlz hlz3 hm1 hm2 HIX HIX3 hq2 hi hq3 hi3 hcb hmc hmc3 hnil hnil3 hnx hlg hns hqv hp6 HX hnb
      go_wp2
      refine wp_region_grow (by kernel_rfl) (by kernel_rfl) ?_
      repeat (go_big_quiet_step (first | (go_at_call 100; exact calls_gw _ (hCB _)) | (go_at_call 54; exact calls_gw _ (hLG _))))
      refine wpQuiet_nil ?_
      intro x3
      have hb3 := x3.ok
      clear c0 d0 hCB hLG
      generalize x3.val = w5 at *
      go_wp2
      go_roundw
      case rel => exact ⟨k + 1, r, by omega, by go_num, rfl, HRR.out, HBW.out.trans (hb3.mono hsz)⟩
      case measure => simp [intOf]; omega
    · obtain rfl : k = n2 := by omega
      have HR2 : Hid (spareP ps p a = maxI (-1) q) := Lib.hid (by rw [HR.out, HQ.out, HL2.out])
      go_wp2_with fail
      refine (spec_Max _ _ _).mono ?_
      rintro e w5 ⟨rfl, rfl⟩
      go_wp2
      go_ret
      exact ⟨by rw [HR2.out]; try rfl, HBW.out⟩
end Go.Proofs.YtlpkafhapmkkfaaGreatDoor

/- Chapter 11: ShareGreen: the model. -/
namespace Go.Proofs.YtlpkafhapmkkfaaGreatDoor
open Go.RowKit
set_option linter.unusedVariables false

theorem OwnPr.greenAt {w : World} {lo g n c : Nat} {xs : List (Value × Int)} {p : List Prt} {f : Nat → Int} {k : Nat} (h : OwnPr w lo (.slice (some ⟨g, 0, none⟩) n c) xs (grnP p f)) (hk : k < p.length) : w.cell? ⟨g, k * 2 + 1, none⟩ = some (.int .i64 (f k)) := by
  have hl : (grnP p f).length = p.length := grnP_len p f
  have hn : n = (grnP p f).length := ownr_len h.row
  subst hn
  obtain ⟨u, h1, _⟩ := h.each k (by omega)
  rw [grnP_at hk] at h1
  rw [World.ownsRow.cellAt h.row (k * 2 + 1) (by omega), prow_at1 h1]
theorem setF_twice (f : Nat → Int) (k : Nat) (x y : Int) : setF (setF f k x) k y = setF f k y := by
  funext i
  unfold setF
  by_cases e : i = k
  · rw [if_pos e, if_pos e]
  · rw [if_neg e, if_neg e, if_neg e]
/-- what the model's second loop leaves. -/
def firstG (ps : List Pth) (ds : List Det) (p : List Prt) (s : Int) (k : Nat) : Int := leastG ps (prAt p k).stage + quoG ds p s k
theorem newG_more {ps : List Pth} {ds : List Det} {p : List Prt} {s : Int} {k : Nat} (h : (k : Int) < leftG ds p s) : minI 60 (firstG ps ds p s k + 1) = newG ps ds p s k := by
  unfold newG shrG firstG
  rw [if_pos h]
  unfold minI
  split <;> split <;> omega
theorem newG_same {ps : List Pth} {ds : List Det} {p : List Prt} {s : Int} {k : Nat} (h : ¬ (k : Int) < leftG ds p s) : minI 60 (firstG ps ds p s k) = newG ps ds p s k := by
  unfold newG shrG firstG
  rw [if_neg h]
  unfold minI
  split <;> split <;> omega
set_option maxHeartbeats 8000000 in
set_option maxRecDepth 100000 in
theorem spec_ShareGreen (A : Option Addr) (n c B : Nat) (ps : List Pth) (A2 : Option Addr) (n2 c2 B2 : Nat) (p : List Prt) (A3 : Option Addr) (n3 c3 B3 : Nat) (ds : List Det) (a : Int) (w : World) (h : PthsAt w B A n ps) (hB : B ≤ w.heap.size) (hn : n ≤ 4294967296) (h2 : PrtsAt w B2 A2 n2 p) (hB2 : B2 ≤ w.heap.size) (hn2 : n2 ≤ 1048576) (hm : ∀ j, j < n2 → (prAt p j).stage.length ≤ 1048576) (h3 : DetsAt w B3 A3 n3 ds) (hB3 : B3 ≤ w.heap.size) (hn3 : n3 ≤ 4294967296) :
    Calls Tryz.prog 24 #[.slice A n c, .slice A2 n2 c2, .slice A3 n3 c3, .int .i64 a] w fun e w' => ∃ v xs, e = .returned (.tuple #[v, .bool (shrA ps p ds a).2]) ∧ OwnPr w' w.heap.size v xs (shrA ps p ds a).1 ∧ Below w.heap.size w w' := by
  have HCP := Lib.hid (spec_l8Copy A2 n2 c2 B2 p w h2 hB2 hn2 hm)
  have HP := Lib.hid (fun x (hx : Below w.heap.size w x) => h.below (hx.mono hB))
  have HQ2 := Lib.hid (fun x (hx : Below w.heap.size w x) => h2.below hB2 hx)
  have HDT : Hid (∀ x, Below w.heap.size w x → DetsAt x B3 A3 n3 ds) := Lib.hid (fun x hx => h3.keep fun _ hp => (hx.mono hB3).cell hp)
  have HLE := Lib.hid (fun x (hx : Below w.heap.size w x) => (⟨Nat.le_trans hB hx.size, Nat.le_trans hB2 hx.size, Nat.le_trans hB3 hx.size⟩ : B ≤ x.heap.size ∧ B2 ≤ x.heap.size ∧ B3 ≤ x.heap.size))
  have HM := Lib.hid hm
  have H2 := Lib.hid h2
  have HB0 := Lib.hid (show spareP ps p a = -1 ∨ areD ps ds = false → shrA ps p ds a = (p, false) by intro h; unfold shrA; rw [if_pos h])
  have HYES := Lib.hid (show ¬ (spareP ps p a = -1 ∨ areD ps ds = false) → shrA ps p ds a = (grnP p (newG ps ds p (spareP ps p a)), true) by intro h; unfold shrA; rw [if_neg h])
  have hsb := spareP_bound ps p a
  have HPLN := Lib.hid (fun h => isPlan_parts (spare_plan (ps := ps) (p := p) (c := a) h))
  have HLN : Hid (p.length = n2) := Lib.hid h2.1
  clear h h2 h3 hm
  go_enter Tryz.func24, Tryz.ntmps24
  go_wp2_with fail
  refine HCP.out.mono ?_
  rintro e w1 ⟨v, xs, rfl, hown, hb1⟩
  have HO1 := Lib.hid hown
  have HB1 := Lib.hid hb1
  have HSP := Lib.hid (spec_SpareGreen A n c B ps A2 n2 c2 B2 p a w1 (HP.out w1 hb1) (HLE.out w1 hb1).1 hn (HQ2.out w1 hb1) (HLE.out w1 hb1).2.1 hn2 HM.out)
  clear hown hb1
  generalize hs : spareP ps p a = s at *
  go_wp2_with fail
  refine HSP.out.mono ?_
  rintro e w2 ⟨rfl, hb2⟩
  have HO2 := Lib.hid (HO1.out.below hb2)
  have HB2 := Lib.hid (HB1.out.trans (hb2.mono HB1.out.size))
  clear hb2
  by_cases hs1 : s = -1
  · have HR := Lib.hid (HB0.out (.inl hs1))
    subst hs1
    clear hs
    go_wp2
    go_ret2
    rw [HR.out]
    exact ⟨_, _, rfl, HO2.out, HB2.out⟩
  · have hs2 : decide (s < 0) = false := decide_eq_false (by omega)
    have HAD := Lib.hid (spec_AreDetectors A n c B ps A3 n3 c3 B3 ds w2 (HP.out w2 HB2.out) (HDT.out w2 HB2.out) (HLE.out w2 HB2.out).1 (HLE.out w2 HB2.out).2.2 hn hn3)
    cases ha : areD ps ds
    · have HR := Lib.hid (HB0.out (.inr ha))
      rw [ha] at HAD
      clear hs ha
      go_wp2_with fail
      refine HAD.out.mono ?_
      rintro e w3 ⟨rfl, hb3⟩
      have HO3 := Lib.hid (HO2.out.below hb3)
      have HB3 := Lib.hid (HB2.out.trans (hb3.mono HB2.out.size))
      clear hb3
      go_wp2
      go_ret2
      rw [HR.out]
      exact ⟨_, _, rfl, HO3.out, HB3.out⟩
    · have HR := Lib.hid (HYES.out (by rw [ha]; exact fun h => h.elim hs1 (fun h => by cases h)))
      obtain ⟨⟨p0, p6⟩, -, -, -⟩ := HPLN.out hs1
      have hss : 0 ≤ s ∧ s ≤ 1000 := ⟨by omega, hsb.2⟩
      have HWT := Lib.hid (wt_good ha p)
      have HQU := Lib.hid (fun k => quo_good ha hss (by omega : 0 < p.length) (by omega) k)
      have HSW := Lib.hid (fun k => sw_good (p := p) ha hss k)
      have HTG := Lib.hid (tot_good ha (by omega : 0 < p.length) (by omega))
      have HLF := Lib.hid (left_good ha hss (by omega : 0 < p.length) (by omega))
      have HQB := Lib.hid (fun k => sumN_bd HQU.out k)
      have HWB := Lib.hid (fun k => sumN_bd HWT.out k)
      have hn26 : n2 ≤ 6 := by have := HLN.out; omega
      rw [ha] at HAD
      clear hs ha HYES HB0 HPLN p0 p6
      go_wp2_with fail
      refine HAD.out.mono ?_
      rintro e w3 ⟨rfl, hb3⟩
      have HO3 := Lib.hid (HO2.out.below hb3)
      have HB3 := Lib.hid (HB2.out.trans (hb3.mono HB2.out.size))
      clear hb3 HO1 HO2 HB1 HB2 HAD HSP HCP
      obtain ⟨s1, s2⟩ := hss
      go_wp2
      go_loopw [12, 13] (fun t i wr => ∃ k : Nat, k ≤ n2 ∧ i = .int .i64 k ∧ t = .int .i64 (sumN (wtG ds p) k) ∧ Below w3.heap.size w3 wr) (fun _ i _ => n2 - (intOf i).toNat)
      case atStart => exact ⟨0, Nat.zero_le _, rfl, rfl, Below.refl _ _⟩
      case round =>
        obtain ⟨k, hk, rfl, rfl, hbl⟩ := hrel
        have HBL := Lib.hid hbl
        have HBW := Lib.hid (HB3.out.trans (hbl.mono HB3.out.size))
        have hsb2 := HWB.out k
        clear hbl
        by_cases hlt : k < n2
        · obtain ⟨ad, A', m, c', rfl, hab, hq, hst, ⟨hc1, hc2'⟩, hnil⟩ := H2.out.at hlt
          obtain ⟨c0, c1⟩ := hq.below HBW.out (by omega)
          have hml : m ≤ 1048576 := by have := hst.1; have := HM.out k hlt; omega
          have HSD := Lib.hid (spec_StageDemand A3 n3 c3 B3 ds A' m c' B2 (prAt p k).stage wr (HDT.out wr HBW.out) (hst.keep fun _ hp => (HBW.out.mono hB2).cell hp) (HLE.out wr HBW.out).2.2 (HLE.out wr HBW.out).2.1 hn3 (by omega))
          have hwk := HWT.out k
          have HGS : Hid (stgD ds (prAt p k).stage = wtG ds p k - 1) := Lib.hid (by unfold wtG; omega)
          rw [HGS.out] at HSD
          have HSN : Hid (sumN (wtG ds p) (k + 1) = sumN (wtG ds p) k + wtG ds p k) := Lib.hid rfl
          generalize wtG ds p k = t at *
          generalize sumN (wtG ds p) k = S at *
          obtain ⟨wk1, wk2⟩ := hwk
          have S1 : 0 ≤ S := by omega
          have S2 : S ≤ 7000 := by omega
          have i1 : (0 : Int) ≤ (k : Int) := by omega
          have i2 : (k : Int) < (n2 : Int) := by omega
          clear hq hst hnil hsb2 c1
          go_wp2_with fail
          refine HSD.out.mono ?_
          rintro e w4 ⟨rfl, hb4⟩
          have HB4 := Lib.hid (HBL.out.trans (hb4.mono HBL.out.size))
          clear hb4 c0
          go_wp2
          go_roundw
          case rel => exact ⟨k + 1, by omega, by go_num, by rw [HSN.out]; go_num, HB4.out⟩
          case measure => simp [intOf]; omega
        · obtain rfl : k = n2 := by omega
          have HO4 := Lib.hid (HO3.out.below HBL.out)
          obtain ⟨wo, rfl⟩ : ∃ wo : World, wo = wr := ⟨_, rfl⟩
          have HT : Hid (sumN (wtG ds p) k = totWt ds p) := Lib.hid (by unfold totWt; rw [HLN.out])
          rw [HT.out]
          obtain ⟨g, cg, hgb, hgs, ec⟩ : ∃ g cg, w.heap.size ≤ g ∧ g < wo.heap.size ∧ v = .slice (some ⟨g, 0, none⟩) k cg := by
            have h1 := HO4.out.row
            rw [HLN.out] at h1
            rcases ownr_shape h1 with ⟨_, e⟩ | ⟨g, cap, e, h1, h2, _⟩
            · have := HTG.out; have := HLF.out; have := HLN.out; omega
            · exact ⟨g, cap, h1, h2, e⟩
          subst ec
          obtain ⟨T1, T2⟩ := HTG.out
          have HQD : Hid (∀ j, quoG ds p s j = (s * wtG ds p j).tdiv (totWt ds p)) := Lib.hid (fun _ => rfl)
          have HLD : Hid (leftG ds p s = s - sumN (quoG ds p s) k) := Lib.hid (by unfold leftG; rw [HLN.out])
          clear HO3 hsb2 HWB HT HTG HBL
          generalize totWt ds p = T at *
          go_wp2
          go_loopw [14, 15] (fun l i wr => ∃ (j : Nat) (ys : List (Value × Int)), j ≤ k ∧ i = .int .i64 j ∧ l = .int .i64 (s - sumN (quoG ds p s) j) ∧ OwnPr wr w.heap.size (.slice (some ⟨g, 0, none⟩) k cg) ys (grnP p (upTo (firstG ps ds p s) (fun i => (prAt p i).green) j)) ∧ Below w.heap.size w wr) (fun _ i _ => k - (intOf i).toNat)
          case atStart => exact ⟨0, xs, Nat.zero_le _, rfl, by simp [sumN], by rw [grn_zero]; exact HO4.out, HBW.out⟩
          case round =>
            clear HO4 HBW
            obtain ⟨j, ys, hj, rfl, rfl, hown, hbl⟩ := hrel
            have HO := Lib.hid hown
            have HBL := Lib.hid hbl
            have hqb := HQB.out j
            clear hown hbl
            by_cases hlt2 : j < k
            · obtain ⟨ad, A', m, c', rfl, hab, hq, hst, ⟨hc1, hc2'⟩, hnil⟩ := H2.out.at hlt2
              obtain ⟨c0, c1⟩ := hq.below HBL.out (by omega)
              have hml : m ≤ 1048576 := by have := hst.1; have := HM.out j hlt2; omega
              have HSD := Lib.hid (spec_StageDemand A3 n3 c3 B3 ds A' m c' B2 (prAt p j).stage wr (HDT.out wr HBL.out) (hst.keep fun _ hp => (HBL.out.mono hB2).cell hp) (HLE.out wr HBL.out).2.2 (HLE.out wr HBL.out).2.1 hn3 (by omega))
              have HST0 := Lib.hid (fun x (hx : Below w.heap.size w x) => (hst.keep fun _ hp => (hx.mono hB2).cell hp : IntsAt .i64 x B2 A' m (prAt p j).stage))
              have HPC := Lib.hid (fun x (hx : Below w.heap.size w x) => (hq.below (hx.mono hB2) hab).c0)
              have hwk := HWT.out j
              have hqk := HQU.out j
              have hsw := HSW.out j
              have HGS : Hid (stgD ds (prAt p j).stage = wtG ds p j - 1) := Lib.hid (by unfold wtG; omega)
              rw [HGS.out] at HSD
              have HSN : Hid (sumN (quoG ds p s) (j + 1) = sumN (quoG ds p s) j + quoG ds p s j) := Lib.hid rfl
              have hqd := HQD.out j
              have e2 : IntKind.i64.wrap ((s * wtG ds p j).tdiv T) = quoG ds p s j := by rw [← hqd, IntKind.wrap_i64]; omega
              have HFI : Hid (firstG ps ds p s j = leastG ps (prAt p j).stage + quoG ds p s j) := Lib.hid rfl
              have hlb := leastG_bound ps (prAt p j).stage
              have hkp : j < p.length := by have := HLN.out; omega
              have HSX := Lib.hid (fun (x : World) (us : List (Value × Int)) (hx : OwnPr x w.heap.size (.slice (some ⟨g, 0, none⟩) k cg) us (grnP p (upTo (firstG ps ds p s) (fun i => (prAt p i).green) j))) (z : Int) => hx.green (k := j) (x := z) hkp)
              have HGN := Lib.hid (grn_step p (firstG ps ds p s) (fun i => (prAt p i).green) j)
              rw [HFI.out] at HGN
              have HLS := Lib.hid (fun x (hx : Below w.heap.size w x) => spec_LeastGreen A n c B ps A' m c' B2 (prAt p j).stage x (HP.out x hx) (HST0.out x hx) (HLE.out x hx).1 (HLE.out x hx).2.1 hn (by omega))
              generalize leastG ps (prAt p j).stage = lk at *
              generalize quoG ds p s j = q at *
              generalize wtG ds p j = t at *
              generalize sumN (quoG ds p s) j = S at *
              obtain ⟨wk1, wk2⟩ := hwk
              obtain ⟨q1, q2⟩ := hqk
              obtain ⟨sw1, sw2⟩ := hsw
              obtain ⟨lb1, lb2⟩ := hlb
              have e1 : IntKind.i64.wrap (s * t) = s * t := by rw [IntKind.wrap_i64]; omega
              have S1 : 0 ≤ S := by omega
              have S2 : S ≤ 7007000 := by omega
              have i1 : (0 : Int) ≤ (j : Int) := by omega
              have i2 : (j : Int) < (k : Int) := by omega
              have hT : ¬ T = 0 := by omega
              clear hq hst hnil hqb c1 hqd
              go_wp2_with fail
              refine HSD.out.mono ?_
              rintro e w4 ⟨rfl, hb4⟩
              have HB4 := Lib.hid (HBL.out.trans (hb4.mono HBL.out.size))
              have HO5 := Lib.hid (HO.out.below hb4)
              have c4 := HPC.out w4 HB4.out
              clear hb4 c0
              go_wp2_with fail
              refine (HLS.out w4 HB4.out).mono ?_
              rintro e w5 ⟨rfl, hb5⟩
              have HB5 := Lib.hid (HB4.out.trans (hb5.mono HB4.out.size))
              have HO6 := Lib.hid (HO5.out.below hb5)
              have hrow : w5.ownsRow w.heap.size 70 2 (.slice (some ⟨g, 0, none⟩) k cg) k (prow ys) := by have h1 := HO6.out.row; rw [grnP_len, HLN.out] at h1; exact h1
              have hf := World.ownsRow.frozenAt hrow (j * 2 + 1)
              obtain ⟨x0, hx0⟩ := ownr_some hrow (j := j * 2 + 1) (by omega)
              clear hb5 hrow c4
              go_wp2
              go_roundw
              case rel =>
                obtain ⟨us, hz⟩ := HSX.out _ _ HO6.out (lk + q)
                exact ⟨j + 1, us, by omega, by go_num, by rw [HSN.out]; go_num, by rw [← HGN.out]; exact hz, HB5.out.setCell hgb _⟩
              case measure => simp [intOf]; omega
            · obtain rfl : j = k := by omega
              have HOF : Hid (OwnPr wr w.heap.size (.slice (some ⟨g, 0, none⟩) j cg) ys (grnP p (upTo (newG ps ds p s) (firstG ps ds p s) 0))) := Lib.hid (by
                have h1 := HO.out
                rw [← HLN.out, grn_full] at h1
                rw [← HLN.out, show grnP p (upTo (newG ps ds p s) (firstG ps ds p s) 0) = grnP p (firstG ps ds p s) from grnP_congr fun i _ => by simp [upTo]]
                exact h1)
              rw [← HLD.out]
              obtain ⟨l1, l2⟩ := HLF.out
              have HMORE : Hid (∀ i : Nat, (i : Int) < leftG ds p s → minI 60 (firstG ps ds p s i + 1) = newG ps ds p s i) := Lib.hid (fun i hi => newG_more hi)
              have HSAME : Hid (∀ i : Nat, ¬ (i : Int) < leftG ds p s → minI 60 (firstG ps ds p s i) = newG ps ds p s i) := Lib.hid (fun i hi => newG_same hi)
              obtain ⟨wo2, rfl⟩ : ∃ wo2 : World, wo2 = wr := ⟨_, rfl⟩
              have HFB := Lib.hid (fun i => (by have h1 := leastG_bound ps (prAt p i).stage; have h2 := HQU.out i; unfold firstG; omega : 5 ≤ firstG ps ds p s i ∧ firstG ps ds p s i ≤ 2000000))
              clear HO hqb HLD HLF
              generalize leftG ds p s = L at *
              go_wp2
              go_loopw [17] (fun i wr => ∃ (k : Nat) (ys : List (Value × Int)), k ≤ j ∧ i = .int .i64 k ∧ OwnPr wr w.heap.size (.slice (some ⟨g, 0, none⟩) j cg) ys (grnP p (upTo (newG ps ds p s) (firstG ps ds p s) k)) ∧ Below w.heap.size w wr) (fun i _ => j - (intOf i).toNat)
              case atStart => exact ⟨0, ys, Nat.zero_le _, rfl, HOF.out, HBL.out⟩
              case round =>
                clear HOF HBL
                obtain ⟨k, ys, hk, rfl, hown, hbl⟩ := hrel
                have HO := Lib.hid hown
                have HBL := Lib.hid hbl
                clear hown hbl
                by_cases hlt3 : k < j
                · have hkp : k < p.length := by have := HLN.out; omega
                  have hg0 := HO.out.greenAt hkp
                  rw [show upTo (newG ps ds p s) (firstG ps ds p s) k k = firstG ps ds p s k by simp [upTo]] at hg0
                  have hrow : wr.ownsRow w.heap.size 70 2 (.slice (some ⟨g, 0, none⟩) j cg) j (prow ys) := by have h1 := HO.out.row; rw [grnP_len, HLN.out] at h1; exact h1
                  have hf := World.ownsRow.frozenAt hrow (k * 2 + 1)
                  have HGN := Lib.hid (grn_step p (newG ps ds p s) (firstG ps ds p s) k)
                  obtain ⟨fb1, fb2⟩ := HFB.out k
                  have i1 : (0 : Int) ≤ (k : Int) := by omega
                  have i2 : (k : Int) < (j : Int) := by omega
                  by_cases hL : (k : Int) < L
                  · have HNW := Lib.hid (HMORE.out k hL)
                    obtain ⟨us, hus⟩ := HO.out.green (k := k) (x := firstG ps ds p s k + 1) hkp
                    have HUS := Lib.hid hus
                    have hrow2 : (wr.setCell ⟨g, k * 2 + 1, none⟩ (.int .i64 (firstG ps ds p s k + 1))).ownsRow w.heap.size 70 2 (.slice (some ⟨g, 0, none⟩) j cg) j (prow us) := by have h1 := hus.row; rw [grnP_len, HLN.out] at h1; exact h1
                    have hgs : g < wr.heap.size := (World.ownsRow.lt hrow _ rfl).2
                    have HMN := Lib.hid (fun x => spec_Min 60 (firstG ps ds p s k + 1) x)
                    rw [HNW.out] at HMN
                    obtain ⟨us2, hus2⟩ := HUS.out.green (k := k) (x := newG ps ds p s k) hkp
                    rw [setF_twice, HGN.out] at hus2
                    have HUS2 := Lib.hid hus2
                    clear hrow hrow2 hus hus2 HUS
                    generalize firstG ps ds p s k = fk at *
                    generalize newG ps ds p s k = z at *
                    go_wp2_with fail
                    refine (HMN.out _).mono ?_
                    rintro e w6 ⟨rfl, rfl⟩
                    go_wp2
                    go_roundw
                    case rel => exact ⟨k + 1, us2, by omega, by go_num, HUS2.out, (HBL.out.setCell hgb _).setCell hgb _⟩
                    case measure => simp [intOf]; omega
                  · have HNW := Lib.hid (HSAME.out k (by omega))
                    have HMN := Lib.hid (fun x => spec_Min 60 (firstG ps ds p s k) x)
                    rw [HNW.out] at HMN
                    obtain ⟨us, hus⟩ := HO.out.green (k := k) (x := newG ps ds p s k) hkp
                    rw [HGN.out] at hus
                    have HUS := Lib.hid hus
                    clear hrow hus
                    generalize firstG ps ds p s k = fk at *
                    generalize newG ps ds p s k = z at *
                    go_wp2_with fail
                    refine (HMN.out _).mono ?_
                    rintro e w6 ⟨rfl, rfl⟩
                    go_wp2
                    go_roundw
                    case rel => exact ⟨k + 1, us, by omega, by go_num, HUS.out, HBL.out.setCell hgb _⟩
                    case measure => simp [intOf]; omega
                · obtain rfl : k = j := by omega
                  go_wp2
                  go_ret2
                  rw [HR.out]
                  refine ⟨_, ys, rfl, ?_, HBL.out⟩
                  have h1 := HO.out
                  rw [← HLN.out, grn_full] at h1
                  rw [← HLN.out]
                  exact h1
end Go.Proofs.YtlpkafhapmkkfaaGreatDoor

/- ShareGreen as its exact law meets it. -/
namespace Go.Proofs.YtlpkafhapmkkfaaGreatDoor
open Go.RowKit
set_option linter.unusedVariables false

theorem shrA_small {ps : List Pth} {p : List Prt} (h : SmallP p) (ds : List Det) (c : Int) : SmallP (shrA ps p ds c).1 := by
  unfold shrA
  split
  · exact h
  · refine ⟨by rw [grnP_len]; exact h.1, fun j hj => ?_⟩
    rw [grnP_len] at hj
    rw [grnP_at hj]
    exact h.2 j hj
theorem sp_ShareGreen (A0 : Option Addr) (n0 c0 : Nat) (zs0 : List Pth) (A1 : Option Addr) (n1 c1 : Nat) (zs1 : List Prt) (A2 : Option Addr) (n2 c2 : Nat) (zs2 : List Det) (a3 : Int) (w : World) (h0 : SlP w A0 n0 c0 zs0) (hs0 : n0 ≤ 1048576) (h1 : SlQ w A1 n1 c1 zs1) (hs1 : SmallP zs1) (h2 : SlT w A2 n2 c2 zs2) (hs2 : n2 ≤ 1048576) (wa3 : (Lit.int .i64 a3).wf = true) (r0 : List Prt) (r1 : Bool) (hr : shrA zs0 zs1 zs2 a3 = (r0, r1)) :
    Calls Tryz.prog 24 #[.slice A0 n0 c0, .slice A1 n1 c1, .slice A2 n2 c2, .int .i64 a3] w fun e w' => ∃ v, e = .returned (.tuple #[v, .bool r1]) ∧ (∃ us, OwnPe w' w.heap.size v us r0) ∧ Below w.heap.size w w' ∧ SmallP r0 := by
  obtain rfl : (shrA zs0 zs1 zs2 a3).1 = r0 := by rw [hr]
  obtain rfl : (shrA zs0 zs1 zs2 a3).2 = r1 := by rw [hr]
  clear hr
  have hq1 := h1.prts.1
  have hz1 := hs1.1
  exact (spec_ShareGreen A0 n0 c0 _ zs0 A1 n1 c1 _ zs1 A2 n2 c2 _ zs2 a3 w h0.pths (Nat.le_refl _) (by omega) h1.prts (Nat.le_refl _) (by omega) (hs1.at _ _ hq1.symm (Nat.le_refl _)) h2.pths (Nat.le_refl _) (by omega)).mono fun e w' ⟨v, xs, h1, h2, h3⟩ => ⟨v, h1, ⟨xs, h2.pe⟩, h3, shrA_small hs1 _ _⟩
theorem im_ShareGreen (A0 : Option Addr) (n0 c0 : Nat) (zs0 : List Pth) (A1 : Option Addr) (n1 c1 : Nat) (zs1 : List Prt) (A2 : Option Addr) (n2 c2 : Nat) (zs2 : List Det) (a3 : Int) (w : World) (h0 : SlP w A0 n0 c0 zs0) (hs0 : n0 ≤ 1048576) (h1 : SlQ w A1 n1 c1 zs1) (hs1 : SmallP zs1) (h2 : SlT w A2 n2 c2 zs2) (hs2 : n2 ≤ 1048576) (wa3 : (Lit.int .i64 a3).wf = true) (hv0 : Brus w) (hv1 : Clrs w) (r0 : List Prt) (r1 : Bool) (hr : shrA zs0 zs1 zs2 a3 = (r0, r1)) :
    Calls Tryz.prog 26 #[.slice A0 n0 c0, .slice A1 n1 c1, .slice A2 n2 c2, .int .i64 a3] w fun e w' => ∃ v, e = .returned (.tuple #[v, .bool r1]) ∧ (∃ us, OwnPr w' w.heap.size v us r0) ∧ Below w.heap.size w w' ∧ SmallP r0 := by
  obtain rfl : (shrA zs0 zs1 zs2 a3).1 = r0 := by rw [hr]
  obtain rfl : (shrA zs0 zs1 zs2 a3).2 = r1 := by rw [hr]
  clear hr
  have hq1 := h1.prts.1
  have hz1 := hs1.1
  exact (impl_ShareGreen ⟨h0.pths, Nat.le_refl _, h0.cap, by omega, h1.prts, Nat.le_refl _, by omega, hs1.at _ _ hq1.symm (Nat.le_refl _), hv0, hv1⟩ A2 n2 c2 _ zs2 h2.pths (Nat.le_refl _) (by omega) a3).mono fun e w' ⟨v, xs, h1, h2, h3⟩ => ⟨v, h1, ⟨xs, h2⟩, h3, shrA_small hs1 _ _⟩
end Go.Proofs.YtlpkafhapmkkfaaGreatDoor

/- A law's arguments that are detectors or rows of them. -/
namespace Go.Proofs.YtlpkafhapmkkfaaGreatDoor
open Go.ChangeShapes Go.WideShapes Go.ChangeAt Go.RowKit Go.Joins
open Go.Deep (oneCellFields open_slice hone_of)

section
variable {H : Type} {enc : TypeId × Value → H} {P : Program}
theorem cell_bool {W : World} {b0 : Nat} {sp : Nat → Bool} {hd : Bool} {n : Nat} {t : TypeId} {v : Value} {y : DataW H × List MemPlace} (ht : P.underlying t = some .bool) (h : DataW.trod enc P W b0 sp hd n t [v] = some y) : ∃ a : Bool, v = .bool a ∧ y.2 = [] := by
  obtain ⟨a, h1, h2⟩ := DataW.trod_bool ht h
  simp at h1
  exact ⟨a, h1, by rw [h2]⟩
theorem arg_det {t : TypeId} {f0 f1 f2 f3 : Field} {W : World} {base : Nat} {v : Value} {d : DataW H} {ps : List MemPlace} (hs : P.underlying t = some (.struct #[f0, f1, f2, f3])) (hone : oneCellFields P #[f0, f1, f2, f3] = true) (hC : P.cellsOf t = 4)
    (h0 : P.underlying f0.type = some (.int .i64)) (h1 : P.underlying f1.type = some (.int .i64)) (h2 : P.underlying f2.type = some (.int .i64)) (h3 : P.underlying f3.type = some .bool)
    (hval : Value.okWide P W .any base t v) (hd : DataW.Trod enc P W 0 (fun _ => true) true t v d ps) : ∃ p : Det, v = p.val ∧ p.wf := by
  obtain ⟨v0, v1, v2, v3, y0, y1, y2, y3, n, rfl, -, -, t0, t1, t2, t3⟩ := open_agg4 hs hone hC hval hd
  obtain ⟨a, rfl, wa, -⟩ := cell_int h0 t0
  obtain ⟨b, rfl, wb, -⟩ := cell_int h1 t1
  obtain ⟨c, rfl, wc, -⟩ := cell_int h2 t2
  obtain ⟨e, rfl, -⟩ := cell_bool h3 t3
  exact ⟨⟨a, b, c, e⟩, rfl, wa, wb, wc⟩
/-- A slice of detectors that came in. -/
theorem arg_dets {t e : TypeId} {f0 f1 f2 f3 : Field} {W : World} {base : Nat} {v : Value} {d : DataW H} {ps : List MemPlace} (ht : P.underlying t = some (.slice e)) (he : P.underlying e = some (.struct #[f0, f1, f2, f3])) (hone : oneCellFields P #[f0, f1, f2, f3] = true) (hC : P.cellsOf e = 4)
    (h0 : P.underlying f0.type = some (.int .i64)) (h1 : P.underlying f1.type = some (.int .i64)) (h2 : P.underlying f2.type = some (.int .i64)) (h3 : P.underlying f3.type = some .bool)
    (hval : Value.okWide P W .any base t v) (hd : DataW.Trod enc P W 0 (fun _ => true) true t v d ps) (hlt : ∀ x ∈ ps, x.block < W.heap.size) :
    ∃ (A : Option Addr) (n c : Nat) (zs : List Det), v = .slice A n c ∧ (DetsAt W W.heap.size A n zs ∧ (∀ z ∈ zs, z.wf) ∧ n ≤ c ∧ c ≤ maxLen) := by
  obtain ⟨a, len, cap, rfl⟩ := okWide_slice ht hval
  obtain ⟨fuel, hf⟩ := hd
  rcases open_slice_fields ht he hone (by rw [hC]; rfl) hf with ⟨h1, _⟩ | ⟨a', len', cap', m, D, Pl, hcs, _, hl, hm, hmm, hx, hi⟩
  · have h1' : [Value.slice a len cap] = [Value.slice none 0 0] := h1
    simp only [List.cons.injEq, and_true] at h1'
    exact ⟨none, 0, 0, [], h1', ⟨rfl, rfl, fun h => absurd h (by omega)⟩, by simp, Nat.le_refl _, Nat.zero_le _⟩
  · have h1' : [Value.slice a len cap] = [Value.slice (some a') len' cap'] := hcs
    simp only [List.cons.injEq, and_true] at h1'
    rw [if_pos rfl] at hmm
    subst hmm
    obtain ⟨zs, hzl, hz⟩ := choose_upto (n := len') (R := fun i (p : Det) => p.wf ∧ ∀ (j : Nat) u, p.cells[j]? = some u → W.cell? (a'.add (i * 4 + j)) = some u) (fun i hil => by
      obtain ⟨ys, n, _, _, _, hj⟩ := hi i (by omega)
      obtain ⟨v0, y0, c0, _, t0⟩ := hj 0 f0 rfl
      obtain ⟨v1, y1, c1, _, t1⟩ := hj 1 f1 rfl
      obtain ⟨v2, y2, c2, _, t2⟩ := hj 2 f2 rfl
      obtain ⟨v3, y3, c3, _, t3⟩ := hj 3 f3 rfl
      obtain ⟨x0, rfl, w0, -⟩ := cell_int h0 t0
      obtain ⟨x1, rfl, w1, -⟩ := cell_int h1 t1
      obtain ⟨x2, rfl, w2, -⟩ := cell_int h2 t2
      obtain ⟨x3, rfl, -⟩ := cell_bool h3 t3
      refine ⟨⟨x0, x1, x2, x3⟩, ⟨w0, w1, w2⟩, fun j u hu => ?_⟩
      match j, hu with
      | 0, hu => simp [Det.cells] at hu; subst hu; exact c0
      | 1, hu => simp [Det.cells] at hu; subst hu; exact c1
      | 2, hu => simp [Det.cells] at hu; subst hu; exact c2
      | 3, hu => simp [Det.cells] at hu; subst hu; exact c3
      | j + 4, hu => simp [Det.cells] at hu)
    refine ⟨some a', len', m, zs, h1', ⟨hzl, by rw [dcells_length, hzl], fun hn => ⟨a', rfl, ?_, fun j u hu => ?_⟩⟩, fun z hzm => ?_, hl, hm⟩
    · have hmem : MemPlace.cell a'.block (a'.off + 0) ∈ ps := by
        have e := congrArg Prod.snd hx
        simp only at e
        rw [e]
        exact List.mem_append_left _ (List.mem_map.2 ⟨0, List.mem_range.2 (by simp; omega), rfl⟩)
      exact hlt _ hmem
    · have hlen : j < zs.length * 4 := by
        have := (List.getElem?_eq_some_iff.1 hu).1
        rwa [dcells_length] at this
      have hd4 : j / 4 < zs.length := by omega
      have hp : zs[j / 4]? = some zs[j / 4] := List.getElem?_eq_getElem hd4
      have hg := flat_get (s := 4) (f := Det.cells) (fun _ => rfl) zs (j / 4) (j % 4) _ hp (by omega)
      have ej : j / 4 * 4 + j % 4 = j := by clear hi hz hx; omega
      rw [ej] at hg
      have := (hz _ _ hp).2 (j % 4) u (hg.symm.trans hu)
      rwa [ej] at this
    · obtain ⟨i, hil, rfl⟩ := List.getElem_of_mem hzm
      exact (hz i _ (List.getElem?_eq_getElem hil)).1
end
end Go.Proofs.YtlpkafhapmkkfaaGreatDoor
